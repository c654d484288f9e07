/-
  A slice of points that a call made (light): marked, and found marked.
-/
import Derived.Test.YtepamhdopmfkfaaMarkL
import Derived.Test.YtepamhdopmfkfaaMarkI
import Derived.Test.YtepamhdopmfkfaaOwnP
namespace Go.Proofs.Ytepamhdopmfkfaa
set_option linter.unusedSimpArgs false
set_option linter.unusedVariables false
open Go.ChangeShapes Go.WideShapes Go.ChangeAt Go.RowKit

/-- The slice with the address A holds L in a block of its own, from block B on. -/
def Own4Q (w : World) (B : Nat) (A : Option Addr) (L : List (Int × Int)) : Prop := 0 < L.length → ∃ g, A = some ⟨g, 0, none⟩ ∧ B ≤ g ∧ PBlk2 w g L L.length
theorem Own4Q.none_ (w : World) (B : Nat) (A : Option Addr) : Own4Q w B A [] := fun h => by simp at h
theorem Own4Q.pts {w : World} {B : Nat} {A : Option Addr} {L : List (Int × Int)} (h : Own4Q w B A L) : PtsAt w w.heap.size A L := fun h0 => by
  obtain ⟨g, rfl, _, hP⟩ := h h0
  exact hP.pts h0
theorem Own4Q.to {w w1 : World} {B : Nat} {A : Option Addr} {L : List (Int × Int)} (h : Own4Q w B A L) (hb : Below w.heap.size w w1) : Own4Q w1 B A L := fun h0 => by
  obtain ⟨g, e, hg, hP⟩ := h h0
  exact ⟨g, e, hg, hP.to hb⟩
theorem cellsQ_len2 : ∀ L : List (Int × Int), (cellsQ L).length = L.length * 2
  | [] => rfl
  | p :: t => by
    have ih := cellsQ_len2 t
    simp only [cellsQ, List.flatMap_cons, List.length_append, List.length_cons, List.length_nil] at ih ⊢
    omega
theorem cellsQ_at2 : ∀ (L : List (Int × Int)) (i : Nat), i < L.length → (cellsQ L)[i * 2]? = some (.int .i64 (L.getD i (0, 0)).1) ∧ (cellsQ L)[i * 2 + 1]? = some (.int .i64 (L.getD i (0, 0)).2)
  | [], i, h => by simp at h
  | p :: t, 0, _ => by simp [cellsQ]
  | p :: t, i + 1, h => by
    have ih := cellsQ_at2 t i (by simpa using h)
    have e : cellsQ (p :: t) = Value.int .i64 p.1 :: Value.int .i64 p.2 :: cellsQ t := by simp [cellsQ]
    rw [e]
    rw [show (i + 1) * 2 = i * 2 + 1 + 1 by omega, show i * 2 + 1 + 1 + 1 = (i * 2 + 1) + 1 + 1 by omega]
    simpa using ih
theorem own4q_of {w : World} {B : Nat} {v : Value} {L : List (Int × Int)} (h : OwnQ w B v L) : ∃ A c, v = .slice A L.length c ∧ Own4Q w B A L := by
  rcases h.2 with ⟨rfl, h0⟩ | ⟨g, cap, cur, rfl, hB, hh, hn, _, hs, ht⟩
  · exact ⟨none, 0, by rw [h0], fun h1 => by omega⟩
  · refine ⟨_, _, rfl, fun _ => ⟨g, rfl, hB, cur, hh, by rw [hs]; omega, fun i _ hi => ?_⟩⟩
    have key : ∀ j, j < L.length * 2 → cur[j]? = (cellsQ L)[j]? := fun j hj => by
      rw [← ht, List.getElem?_take, if_pos (by omega), Array.getElem?_toList]
    rw [key _ (by omega), key _ (by omega)]
    exact cellsQ_at2 L i hi
theorem only_n {g : Nat} {w w' : World} (h : Only g w w') : OnlyN (some ⟨g, 0, none⟩) w w' :=
  ⟨h.1, h.2.1, h.2.2.1, h.2.2.2.1, fun i hi => h.2.2.2.2 i (fun e => hi (by rw [e]))⟩
theorem ptq_keep {w w1 : World} {B : Nat} {A : Option Addr} {L : List (Int × Int)} (h : PtsAt w B A L) (hb : Below B w w1) : PtsAt w1 B A L := fun h0 => by
  obtain ⟨b, off, e, hlt, hc⟩ := h h0
  exact ⟨b, off, e, hlt, fun i hi => ⟨(hb.cell (p := ⟨b, _, none⟩) hlt).trans (hc i hi).1, (hb.cell (p := ⟨b, _, none⟩) hlt).trans (hc i hi).2⟩⟩
theorem ptq_mono {w : World} {B B' : Nat} {A : Option Addr} {L : List (Int × Int)} (h : PtsAt w B A L) (hB : B ≤ B') : PtsAt w B' A L := fun h0 => by
  obtain ⟨b, off, e, hlt, hc⟩ := h h0
  exact ⟨b, off, e, by omega, hc⟩
theorem ptq_only {w w' : World} {B : Nat} {A A' : Option Addr} {L : List (Int × Int)} (h : PtsAt w B A L) (ho : OnlyN A' w w') (hA : ∀ g, A' = some ⟨g, 0, none⟩ → B ≤ g) : PtsAt w' B A L := fun h0 => by
  obtain ⟨b, off, e, hlt, hc⟩ := h h0
  have hk : w'.heap[b]? = w.heap[b]? := ho.2.2.2.2 b (fun e => by have := hA b e; omega)
  exact ⟨b, off, e, hlt, fun i hi => ⟨(World.cell?_of_block (a := ⟨b, _, none⟩) hk).trans (hc i hi).1, (World.cell?_of_block (a := ⟨b, _, none⟩) hk).trans (hc i hi).2⟩⟩

def MarkQ (L : List (Int × Int)) (A : Option Addr) (B : Nat) (w : World) (e : Ending) (w' : World) : Prop :=
  e = .returned (.int .i64 (1 + 2 * (L.length : Int))) ∧ Own4Q w' B A (mkL 1 L.length) ∧ OnlyN A w w' ∧ (0 < L.length ∨ w' = w)
set_option maxRecDepth 100000 in
set_option maxHeartbeats 800000 in
theorem markQ_opt (A : Option Addr) (L : List (Int × Int)) (c B : Nat) (w : World) (h : Own4Q w B A L) (hn : L.length ≤ 1048576) :
    Calls Try.prog 23 #[.slice A L.length c, .int .i64 1] w (MarkQ L A B w) := by
  by_cases h0 : 0 < L.length
  · obtain ⟨g, rfl, hg, hP⟩ := h h0
    refine (mark_any g L.length c 1 w (hP.zero (mkL_len 1 L.length)) hn (by omega) (by omega)).mono ?_
    rintro e w' ⟨rfl, hB, hO⟩
    exact ⟨rfl, fun _ => ⟨g, rfl, hg, by rw [mkL_len]; exact hB⟩, only_n hO, .inl h0⟩
  · have hz : L.length = 0 := by omega
    have e0 : Hid (Ending.returned (.int .i64 1) = Ending.returned (.int .i64 (1 + 2 * (L.length : Int)))) := by show _ = _; rw [hz]; rfl
    have hm : Hid (mkL 1 L.length = []) := by show _ = _; rw [hz]; rfl
    rw [hz]
    clear hz h0 hn h
    go_enter Try.func23, Try.ntmps23
    go_wp2
    go_loop [1, 5] (fun q i => q = .int .i64 1 ∧ i = .int .i64 0) (fun _ _ => 0)
    case atStart => exact ⟨rfl, rfl⟩
    case round =>
      obtain ⟨rfl, rfl⟩ := hrel
      go_wp2
      go_ret
      exact ⟨e0.out, by rw [hm.out]; exact Own4Q.none_ _ _ _, OnlyN.refl _ _, .inr rfl⟩
set_option maxRecDepth 100000 in
set_option maxHeartbeats 800000 in
theorem heldQ_opt (A : Option Addr) (n c B : Nat) (w : World) (h : Own4Q w B A (mkL 1 n)) (hn : n ≤ 1048576) :
    Calls Try.prog 24 #[.slice A n c, .int .i64 1] w fun e w' => e = .returned (.int .i64 (1 + 2 * (n : Int))) ∧ w' = w := by
  by_cases h0 : 0 < n
  · obtain ⟨g, rfl, hg, hP⟩ := h (by rw [mkL_len]; exact h0)
    rw [mkL_len] at hP
    exact (held_any g n c 1 w hP hn (by omega) (by omega)).mono fun _ _ ⟨he, hw⟩ => ⟨he, hw.symm⟩
  · obtain rfl : n = 0 := by omega
    clear h h0 hn
    go_enter Try.func24, Try.ntmps24
    go_wp2
    go_loop [1, 5] (fun q i => q = .int .i64 1 ∧ i = .int .i64 0) (fun _ _ => 0)
    case atStart => exact ⟨rfl, rfl⟩
    case round =>
      obtain ⟨rfl, rfl⟩ := hrel
      go_wp2
      go_ret
      exact ⟨by simp, rfl⟩
end Go.Proofs.Ytepamhdopmfkfaa
