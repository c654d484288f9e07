/-
  Proved: for every text, the program's ReadList answers as the model's, and its answer owns its memory (strconv's table and errors and package errors' type laid). No condition beyond the row's laid variables.
-/
import Derived.Test.YtiadoekhhmcokaaDoorNumbers
import Derived.Test.YtiadoekhhmcokaaDoorMarkI
import Derived.Test.YtiadoekhhmcokaaDoorAsW
namespace Go.Proofs.YtiadoekhhmcokaaDoor.fnExactReadList
set_option linter.unusedSimpArgs false
set_option linter.unusedVariables false
open Go.ChangeShapes Go.WideShapes Go.ChangeAt Go.RowKit

set_option maxHeartbeats 800000 in
theorem isForm_wrap (e : Addr) (pb : Nat) (w : World) (hg : TypeLaid w) (hw : w.cell? ⟨pb, 1, none⟩ = some (.iface 125 (.pointer (some e)))) :
    Calls Tryd.prog 55 #[.iface 124 (.pointer (some ⟨pb, 0, none⟩))] w fun e w' => e = .returned (.bool true) ∧ Below w.heap.size w w' := by
  unfold TypeLaid at hg
  have h0 : 0 < w.heap.size := cell_lt hg
  have h1 : pb < w.heap.size := cell_lt hw
  have hc := as_wrap e ⟨w.heap.size, 0, none⟩ pb (.pointer none) (w.alloc (.cells #[.pointer none] 125)) (by rw [World.cell?_alloc_lt _ _ ⟨pb, 1, none⟩ h1]; exact hw) (by rw [World.cell?_alloc_lt _ _ ⟨0, 0, none⟩ h0]; exact hg) (by simp) (by simp)
  go_enter Tryd.func55, Tryd.ntmps55
  go_wp2_with (go_at_call 94; refine hc.mono ?_; rintro e w' ⟨rfl, rfl⟩)
  go_ret
  exact ⟨rfl, by (repeat (first | assumption | exact Below.refl _ _ | (refine bl_alloc ?_ _) | (refine Below.drew ?_) | (refine bl_drewN ?_ _) | (refine bl_set ?_ (by first | (simp; done) | omega | (simp; omega)) _) | (refine bl_trans ?_ (by assumption)) | (refine bl_step ?_ (by assumption) (by first | omega | exact Below.size (by assumption) | (simp; omega) | (simp; exact Below.size (by assumption))))))⟩

theorem itoa_inj {a b : Int} (h1 : -1000000000 ≤ a ∧ a ≤ 1000000000) (h2 : -1000000000 ≤ b ∧ b ≤ 1000000000) (h : Lib.itoa a = Lib.itoa b) : a = b := by
  have e1 := itoa_parse a h1.1 h1.2
  have e2 := itoa_parse b h2.1 h2.2
  rw [h, e2] at e1
  injection e1 with e1
  exact e1.symm
theorem map_inj : ∀ {l m : List Int}, (∀ n ∈ l, -1000000000 ≤ n ∧ n ≤ 1000000000) → (∀ n ∈ m, -1000000000 ≤ n ∧ n ≤ 1000000000) → l.map Lib.itoa = m.map Lib.itoa → l = m
  | [], [], _, _, _ => rfl
  | [], _ :: _, _, _, h => by simp at h
  | _ :: _, [], _, _, h => by simp at h
  | a :: l, b :: m, h1, h2, h => by
    simp only [List.map_cons, List.cons.injEq] at h
    rw [itoa_inj (h1 a (by simp)) (h2 b (by simp)) h.1, map_inj (fun n hn => h1 n (by simp [hn])) (fun n hn => h2 n (by simp [hn])) h.2]
theorem list_uniq {s : ByteArray} {l m : List Int} (h1 : IsList s l) (h2 : IsList s m) : l = m := by
  rcases h1 with ⟨e, h1⟩ | ⟨e, _, p1, b1⟩
  · rcases h2 with ⟨_, h2⟩ | ⟨e2, _⟩
    · rw [h1, h2]
    · exact absurd e e2
  · rcases h2 with ⟨e2, _⟩ | ⟨_, _, p2, b2⟩
    · exact absurd e2 e
    · exact map_inj b1 b2 (p1.symm.trans p2)
theorem list_len {s : ByteArray} {l : List Int} (h : IsList s l) : l.length ≤ 60 := by
  rcases h with ⟨_, rfl⟩ | ⟨_, h, _⟩
  · simp
  · exact h

/-- The answer: numbers in memory of its own, and whether it succeeds. -/
def LRes4 (L : List Int) (ok : Bool) (w : World) (e : Ending) (w' : World) : Prop :=
  ∃ A c, e = .returned (.tuple #[.slice A L.length c, .bool ok]) ∧ Own4 w' w.heap.size A L ∧ Below w.heap.size w w'
theorem lres4 {L : List Int} {ok : Bool} {w : World} {e : Ending} {w' : World} (h : LRes L ok w e w') : LRes4 L ok w e w' := by
  obtain ⟨v, rfl, ho, hb⟩ := h
  obtain ⟨A, c, rfl, h4⟩ := own4_of ho
  exact ⟨A, c, rfl, h4, hb⟩

set_option maxHeartbeats 800000 in
theorem readLI_any (s : ByteArray) (w : World) (hs : s.size ≤ 1048576) (hl : ParseLaid w) :
    Calls Tryd.prog 88 #[.string s] w (ReadRes s w) := by
  go_enter Tryd.func88, Tryd.ntmps88
  go_wp2_with fail
  refine (split_any s _ hs hl).mono ?_
  rintro e w1 ⟨hb, ⟨v, ns, rfl, ho, hL⟩ | ⟨pb, a, rfl, hw, hL⟩⟩
  · have HL := Lib.hid hL
    clear hL
    go_wp2_with fail
    refine (isForm_nil _).mono ?_
    rintro e w2 ⟨rfl, hb2⟩
    have ho2 := ho.to hb2
    have b2 : Below w.heap.size w w2 := bl_step hb hb2 hb.size
    clear ho hb hb2
    go_wp2
    go_ret2
    exact .inl ⟨ns, HL.out, v, rfl, ho2, b2⟩
  · have HL := Lib.hid hL
    clear hL
    go_wp2_with fail
    refine (isForm_wrap a pb _ (hl.stays hb (Nat.le_refl _)).ty hw).mono ?_
    rintro e w2 ⟨rfl, hb2⟩
    have b2 : Below w.heap.size w w2 := bl_step hb hb2 hb.size
    clear hw hb hb2
    go_wp2
    go_ret2
    exact .inr ⟨HL.out, _, rfl, OwnI.nil_ _ _, b2⟩

theorem ints_only {w w' : World} {B : Nat} {A A' : Option Addr} {L : List Int} (h : IntsAt w B A L) (ho : OnlyN A' w w') (hA : ∀ g, A' = some ⟨g, 0, none⟩ → B ≤ g) : IntsAt w' B A L := fun h0 => by
  obtain ⟨b, off, e, hlt, hc⟩ := h h0
  have hk : w'.heap[b]? = w.heap[b]? := ho.2.2.2.2 b (fun e => by have := hA b e; omega)
  exact ⟨b, off, e, hlt, fun i hi => (World.cell?_of_block (a := ⟨b, _, none⟩) hk).trans (hc i hi)⟩

end Go.Proofs.YtiadoekhhmcokaaDoor.fnExactReadList
