/-
  Contracts: the reached cells, said over what a maze holds; what a mark leaves alone.
-/
import Derived.Test.YtepamhdopmfkfaaReachedI
import Derived.Test.YtepamhdopmfkfaaMarkZ
import Derived.Test.YtepamhdopmfkfaaMarkQ
namespace Go.Proofs.Ytepamhdopmfkfaa
set_option linter.unusedSimpArgs false
set_option linter.unusedVariables false
open Go.ChangeShapes Go.WideShapes Go.ChangeAt Go.RowKit

/-- A list of points and a truth value, the list in a block of its own. -/
def PtsRes (L : List Pt) (ok : Bool) (w : World) (e : Ending) (w' : World) : Prop :=
  (∃ A c, e = .returned (.tuple #[.slice A L.length c, .bool ok]) ∧ Own4Q w' w.heap.size A L) ∧ Below w.heap.size w w'
/-- The reached cells, or none where the point is not open. -/
noncomputable def outL (M : Mz) (p : Pt) : List Pt := bif atB M p.1 p.2 then reachL M p else []
theorem outL_len (M : Mz) (p : Pt) : (outL M p).length ≤ 1048576 := by
  unfold outL
  cases h : atB M p.1 p.2
  · simp
  · have hM := mzOk_of (atB_two h).1
    have := colsS_len (reachB M p) M.length (wid M)
    have h2 : wid M * M.length ≤ 12 * 12 := Nat.mul_le_mul hM.w12 hM.h12
    simp only [cond_true]
    unfold reachL
    omega
theorem ReachedRes.pts {M : Mz} {p : Pt} {w w' : World} {e : Ending} (h : ReachedRes M p w e w') : PtsRes (outL M p) (atB M p.1 p.2) w e w' := by
  obtain ⟨⟨ha, rfl⟩ | ⟨ha, v, rfl, ho⟩, hb⟩ := h
  · unfold outL
    rw [ha]
    exact ⟨⟨none, 0, rfl, Own4Q.none_ _ _ _⟩, hb⟩
  · unfold outL
    rw [ha]
    obtain ⟨A, c, rfl, h4⟩ := own4q_of ho
    exact ⟨⟨A, c, rfl, h4⟩, hb⟩
theorem Mid.ptq {g C B : Nat} {w w' : World} {A : Option Addr} {L : List Pt} (h : Mid g C w w') (hp : PtsAt w B A L) (hB : B ≤ g + 1) (hBw : B ≤ w.heap.size) : PtsAt w' B A L := fun h0 => by
  obtain ⟨b, off, e, hlt, hc⟩ := hp h0
  exact ⟨b, off, e, hlt, fun i hi => ⟨(h.cell (p := ⟨b, _, none⟩) (Nat.lt_of_lt_of_le hlt hBw) (.inl (Nat.le_of_lt_succ (Nat.lt_of_lt_of_le hlt hB)))).trans (hc i hi).1, (h.cell (p := ⟨b, _, none⟩) (Nat.lt_of_lt_of_le hlt hBw) (.inl (Nat.le_of_lt_succ (Nat.lt_of_lt_of_le hlt hB)))).trans (hc i hi).2⟩⟩
theorem Mid.own {g C B : Nat} {w w' : World} {A : Option Addr} {L : List Pt} (h : Mid g C w w') (ho : Own4Q w B A L) (hC : C ≤ B) : Own4Q w' B A L := fun h0 => by
  obtain ⟨b, e, hg, hP⟩ := ho h0
  exact ⟨b, e, hg, hP.keep (h.block b hP.lt (.inr (Nat.le_trans hC hg)))⟩
theorem below_le {B B' : Nat} {a b : World} (h : Below B a b) (hB : B' ≤ B) : Below B' a b := ⟨h.os, h.tape, h.output, h.size, fun k hk => h.block k (Nat.lt_of_lt_of_le hk hB)⟩
theorem MarkQ.below {L : List Pt} {A : Option Addr} {B : Nat} {w w' : World} {e : Ending} (h : Own4Q w B A L) (hm : MarkQ L A B w e w') : Below B w w' := by
  rcases hm.2.2.2 with h0 | h0
  · exact hm.2.2.1.below (Below.refl B w) (fun g e => by
      obtain ⟨g', e', hg, _⟩ := h h0
      cases e.symm.trans e'
      exact hg)
  · rw [h0]; exact Below.refl B w
end Go.Proofs.Ytepamhdopmfkfaa
