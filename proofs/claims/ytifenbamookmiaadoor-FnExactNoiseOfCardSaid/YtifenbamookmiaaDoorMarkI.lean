/-
  A slice of numbers that a call made: marked, and found marked.
-/
import Derived.Test.YtifenbamookmiaaDoorOwnI
namespace Go.Proofs.YtifenbamookmiaaDoor
set_option linter.unusedSimpArgs false
set_option linter.unusedVariables false
open Go.ChangeShapes Go.WideShapes Go.ChangeAt Go.RowKit

/-- Block g holds the first k of the numbers L, and has places for all of them and perhaps more. -/
def IBlk (w : World) (g : Nat) (L : List Int) (k : Nat) : Prop :=
  ∃ cs, w.heap[g]? = some (.cells cs 2 (0, 0)) ∧ L.length ≤ cs.size ∧ ∀ i, i < k → i < L.length → cs[i]? = some (.int .i64 (L.getD i 0))
theorem IBlk.lt {w : World} {g k : Nat} {L : List Int} (h : IBlk w g L k) : g < w.heap.size := by
  obtain ⟨cs, h, _⟩ := h
  rcases Nat.lt_or_ge g w.heap.size with hlt | hge
  · exact hlt
  · rw [Array.getElem?_eq_none hge] at h; cases h
theorem IBlk.keep {w w' : World} {g k : Nat} {L : List Int} (h : IBlk w g L k) (hk : w'.heap[g]? = w.heap[g]?) : IBlk w' g L k := by
  obtain ⟨cs, h0, h1⟩ := h
  exact ⟨cs, hk.trans h0, h1⟩
theorem IBlk.to {w w1 : World} {g k : Nat} {L : List Int} (h : IBlk w g L k) (hb : Below w.heap.size w w1) : IBlk w1 g L k := h.keep (hb.block g h.lt)
theorem IBlk.at_ {w : World} {g k : Nat} {L : List Int} (h : IBlk w g L k) {i : Nat} (hi : i < k) (hl : i < L.length) : w.cell? ⟨g, i, none⟩ = some (.int .i64 (L.getD i 0)) := by
  obtain ⟨cs, h0, _, h2⟩ := h
  rw [cell_of_row w g _ cs _ _ h0]
  exact h2 i hi hl
theorem IBlk.ints {w : World} {g : Nat} {L : List Int} (h : IBlk w g L L.length) : IntsAt w w.heap.size (some ⟨g, 0, none⟩) L := fun _ =>
  ⟨g, 0, rfl, h.lt, fun i hi => by simpa using h.at_ hi hi⟩
theorem IBlk.frozen {w : World} {g k : Nat} {L : List Int} (h : IBlk w g L k) (i : Nat) : w.frozen? ⟨g, i, none⟩ = false := by
  obtain ⟨cs, h0, _⟩ := h
  simp [World.frozen?, h0]
theorem IBlk.there {w : World} {g k : Nat} {L : List Int} (h : IBlk w g L k) {i : Nat} (hi : i < L.length) : ∃ v, w.cell? ⟨g, i, none⟩ = some v := by
  obtain ⟨cs, h0, h1, _⟩ := h
  rw [cell_of_row w g _ cs _ _ h0]
  exact ⟨cs[i]'(by omega), by simp [show i < cs.size by omega]⟩
theorem IBlk.set_ {w : World} {g k : Nat} {L : List Int} (h : IBlk w g L k) (hk : k < L.length) : IBlk (w.setCell ⟨g, k, none⟩ (.int .i64 (L.getD k 0))) g L (k + 1) := by
  obtain ⟨cs, h0, h1, h2⟩ := h
  refine ⟨cs.setIfInBounds k (.int .i64 (L.getD k 0)), ?_, by simpa using h1, ?_⟩
  · simp [World.setCell, Array.getElem?_modify, h0]
  · intro i hi hl
    rcases Nat.lt_or_ge i k with hlt | hge
    · rw [Array.getElem?_setIfInBounds_ne (by omega)]
      exact h2 i hlt hl
    · obtain rfl : i = k := by omega
      simp only [Array.getElem?_setIfInBounds_self]
      rw [if_pos (by omega)]
theorem IBlk.zero {w : World} {g k : Nat} {L M : List Int} (h : IBlk w g L k) (hl : M.length = L.length) : IBlk w g M 0 := by
  obtain ⟨cs, h0, h1, _⟩ := h
  exact ⟨cs, h0, by omega, fun i hi => by omega⟩

/-- All but the block of A is as it was. -/
def OnlyN (A : Option Addr) (w w' : World) : Prop := w'.os = w.os ∧ w'.tape = w.tape ∧ w'.output = w.output ∧ w'.heap.size = w.heap.size ∧ ∀ i, A ≠ some ⟨i, 0, none⟩ → w'.heap[i]? = w.heap[i]?
theorem OnlyN.refl (A : Option Addr) (w : World) : OnlyN A w w := ⟨rfl, rfl, rfl, rfl, fun _ _ => rfl⟩
theorem OnlyN.set_ {g : Nat} {w w' : World} (h : OnlyN (some ⟨g, 0, none⟩) w w') (o : Nat) (u : Value) : OnlyN (some ⟨g, 0, none⟩) w (w'.setCell ⟨g, o, none⟩ u) := by
  obtain ⟨a, b, c, d, e⟩ := h
  refine ⟨a, b, c, ?_, fun i hi => (Below.heap_setCell w' ⟨g, o, none⟩ u i (fun e => hi (by rw [e]))).trans (e i hi)⟩
  simp [World.setCell, d]
theorem OnlyN.below {A : Option Addr} {B : Nat} {w w' a : World} (h : OnlyN A w w') (hb : Below B a w) (hB : ∀ g, A = some ⟨g, 0, none⟩ → B ≤ g) : Below B a w' := by
  obtain ⟨ha, hb', hc, hd, he⟩ := h
  exact ⟨ha.trans hb.os, hb'.trans hb.tape, hc.trans hb.output, by rw [hd]; exact hb.size, fun k hk => (he k (fun e => by have := hB k e; omega)).trans (hb.block k hk)⟩

/-- The slice with the address A holds L in a block of its own, from block B on. -/
def Own4 (w : World) (B : Nat) (A : Option Addr) (L : List Int) : Prop := 0 < L.length → ∃ g, A = some ⟨g, 0, none⟩ ∧ B ≤ g ∧ IBlk w g L L.length
theorem Own4.none_ (w : World) (B : Nat) (A : Option Addr) : Own4 w B A [] := fun h => by simp at h
theorem Own4.ints {w : World} {B : Nat} {A : Option Addr} {L : List Int} (h : Own4 w B A L) : IntsAt w w.heap.size A L := fun h0 => by
  obtain ⟨g, rfl, _, hP⟩ := h h0
  exact hP.ints h0
theorem Own4.to {w w1 : World} {B : Nat} {A : Option Addr} {L : List Int} (h : Own4 w B A L) (hb : Below w.heap.size w w1) : Own4 w1 B A L := fun h0 => by
  obtain ⟨g, e, hg, hP⟩ := h h0
  exact ⟨g, e, hg, hP.to hb⟩
theorem own4_of {w : World} {B : Nat} {v : Value} {L : List Int} (h : OwnI w B v L) : ∃ A c, v = .slice A L.length c ∧ Own4 w B A L := by
  rcases h.2 with ⟨rfl, h0⟩ | ⟨g, cap, cur, rfl, hB, hh, hn, _, hs, ht⟩
  · exact ⟨none, 0, by rw [h0], fun h1 => by omega⟩
  · refine ⟨_, _, rfl, fun _ => ⟨g, rfl, hB, cur, hh, by rw [hs]; omega, fun i _ hi => ?_⟩⟩
    have key : cur[i]? = (cellsI L)[i]? := by
      rw [← ht, List.getElem?_take, if_pos (by omega), Array.getElem?_toList]
    rw [key]; exact cellsI_at hi
theorem IntsAt.keepB {w w1 : World} {B : Nat} {A : Option Addr} {L : List Int} (h : IntsAt w B A L) (hb : Below B w w1) : IntsAt w1 B A L := fun h0 => by
  obtain ⟨b, off, e, hlt, hc⟩ := h h0
  exact ⟨b, off, e, hlt, fun i hi => (hb.cell (p := ⟨b, _, none⟩) hlt).trans (hc i hi)⟩
theorem IntsAt.mono {w : World} {B B' : Nat} {A : Option Addr} {L : List Int} (h : IntsAt w B A L) (hB : B ≤ B') : IntsAt w B' A L := fun h0 => by
  obtain ⟨b, off, e, hlt, hc⟩ := h h0
  exact ⟨b, off, e, by omega, hc⟩

/-- The marks from 1 on. -/
def mkI (n : Nat) : List Int := (List.range n).map fun i : Nat => 1 + (i : Int)
theorem mkI_len (n : Nat) : (mkI n).length = n := by simp [mkI]
theorem mkI_at {n i : Nat} (h : i < n) : (mkI n).getD i 0 = 1 + (i : Int) := by
  simp [mkI, List.getD_eq_getElem?_getD, h]

def MarkI (L : List Int) (A : Option Addr) (B : Nat) (w : World) (e : Ending) (w' : World) : Prop :=
  e = .returned (.int .i64 (1 + (L.length : Int))) ∧ Own4 w' B A (mkI L.length) ∧ OnlyN A w w' ∧ (0 < L.length ∨ w' = w)
set_option maxRecDepth 100000 in
set_option maxHeartbeats 800000 in
theorem markI_opt (A : Option Addr) (L : List Int) (c B : Nat) (w : World) (h : Own4 w B A L) (hn : L.length ≤ 1048576) :
    Calls Tryd.prog 18 #[.slice A L.length c, .int .i64 1] w (MarkI L A B w) := by
  by_cases h0 : 0 < L.length
  · obtain ⟨g, rfl, hg, hP⟩ := h h0
    have hB := hP.zero (mkI_len L.length)
    have hnI : (L.length : Int) ≤ 1048576 := by omega
    obtain ⟨n, hLn⟩ : ∃ n, L.length = n := ⟨_, rfl⟩
    have HN := Lib.hid hLn
    have H0 := Lib.hid h0
    rw [hLn] at hB hnI hn ⊢
    clear hP h hLn h0
    go_enter Tryd.func18, Tryd.ntmps18
    go_wp2
    go_loopw [1, 5] (fun q i wr => ∃ j : Nat, j ≤ n ∧ i = .int .i64 j ∧ q = .int .i64 (1 + (j : Int)) ∧ IBlk wr g (mkI n) j ∧ OnlyN (some ⟨g, 0, none⟩) w wr) (fun _ i _ => n - (intOf i).toNat)
    case atStart => exact ⟨0, Nat.zero_le _, rfl, by simp, hB, OnlyN.refl _ _⟩
    case round =>
      obtain ⟨j, hj, rfl, rfl, hP, hO⟩ := hrel
      by_cases hlt : j < n
      · have hjI : (j : Int) < (n : Int) := by omega
        have hj0 : (0 : Int) ≤ (j : Int) := by omega
        have f0 := hP.frozen j
        obtain ⟨v0, t0⟩ := hP.there (i := j) (by rw [mkI_len]; omega)
        have HS := hP.set_ (k := j) (by rw [mkI_len]; exact hlt)
        rw [mkI_at hlt] at HS
        have HO := hO.set_ j (.int .i64 (1 + (j : Int)))
        go_wp2
        go_roundw
        case rel => exact ⟨j + 1, by omega, by go_num, by go_num, HS, HO⟩
        case measure => simp [intOf]; omega
      · obtain rfl : j = n := by omega
        go_wp2
        go_ret
        exact ⟨by rw [HN.out]; rfl, fun _ => ⟨g, rfl, hg, by rw [HN.out, mkI_len]; exact hP⟩, hO, .inl H0.out⟩
  · have hz : L.length = 0 := by omega
    have e0 : Hid (Ending.returned (.int .i64 1) = Ending.returned (.int .i64 (1 + (L.length : Int)))) := by show _ = _; rw [hz]; rfl
    have hm : Hid (mkI L.length = []) := by show _ = _; rw [hz]; rfl
    rw [hz]
    clear hz h0 hn h
    go_enter Tryd.func18, Tryd.ntmps18
    go_wp2
    go_loop [1, 5] (fun q i => q = .int .i64 1 ∧ i = .int .i64 0) (fun _ _ => 0)
    case atStart => exact ⟨rfl, rfl⟩
    case round =>
      obtain ⟨rfl, rfl⟩ := hrel
      go_wp2
      go_ret
      exact ⟨e0.out, by rw [hm.out]; exact Own4.none_ _ _ _, OnlyN.refl _ _, .inr rfl⟩
set_option maxRecDepth 100000 in
set_option maxHeartbeats 800000 in
theorem heldI_opt (A : Option Addr) (n c B : Nat) (w : World) (h : Own4 w B A (mkI n)) (hn : n ≤ 1048576) :
    Calls Tryd.prog 19 #[.slice A n c, .int .i64 1] w fun e w' => e = .returned (.int .i64 (1 + (n : Int))) ∧ w' = w := by
  have hnI : (n : Int) ≤ 1048576 := by omega
  go_enter Tryd.func19, Tryd.ntmps19
  go_wp2
  go_loop [1, 5] (fun q i => ∃ j : Nat, j ≤ n ∧ i = .int .i64 j ∧ q = .int .i64 (1 + (j : Int))) (fun _ i => n - (intOf i).toNat)
  case atStart => exact ⟨0, Nat.zero_le _, rfl, by simp⟩
  case round =>
    obtain ⟨j, hj, rfl, rfl⟩ := hrel
    by_cases hlt : j < n
    · have hjI : (j : Int) < (n : Int) := by omega
      have hj0 : (0 : Int) ≤ (j : Int) := by omega
      obtain ⟨g, rfl, hg, hB⟩ := h (by rw [mkI_len]; omega)
      rw [mkI_len] at hB
      have t0 := hB.at_ (i := j) hlt (by rw [mkI_len]; exact hlt)
      rw [mkI_at hlt] at t0
      go_wp2
      go_round
      case rel => exact ⟨j + 1, by omega, by go_num, by go_num⟩
      case measure => simp [intOf]; omega
    · obtain rfl : j = n := by omega
      go_wp2
      go_ret
      exact ⟨rfl, rfl⟩
end Go.Proofs.YtifenbamookmiaaDoor
