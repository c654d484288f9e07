/-
  What a law over a slice result needs: slices that a call made, kept apart; marked, found marked.
-/
import Derived.Test.YtdpamieheefhdaaMark
namespace Go.Proofs.Ytdpamieheefhdaa
set_option linter.unusedSimpArgs false
set_option linter.unusedVariables false
open Go.ChangeShapes Go.WideShapes Go.ChangeAt Go.RowKit

/-- The slice with the address A holds L in a block of its own, from block B on. -/
def Own3 (w : World) (B : Nat) (A : Option Addr) (L : List (Int × Int)) : Prop := 0 < L.length → ∃ g, A = some ⟨g, 0, none⟩ ∧ B ≤ g ∧ PBlk2 w g L L.length
theorem Own3.none_ (w : World) (B : Nat) (A : Option Addr) : Own3 w B A [] := fun h => by simp at h
theorem Own3.pts {w : World} {B : Nat} {A : Option Addr} {L : List (Int × Int)} (h : Own3 w B A L) : PtsAt w w.heap.size A L := fun h0 => by
  obtain ⟨g, rfl, _, hP⟩ := h h0
  exact hP.pts h0
theorem Own3.to {w w1 : World} {B : Nat} {A : Option Addr} {L : List (Int × Int)} (h : Own3 w B A L) (hb : Below w.heap.size w w1) : Own3 w1 B A L := fun h0 => by
  obtain ⟨g, e, hg, hP⟩ := h h0
  exact ⟨g, e, hg, hP.to hb⟩
theorem PtsAt.mono {w : World} {B B' : Nat} {A : Option Addr} {L : List (Int × Int)} (h : PtsAt w B A L) (hB : B ≤ B') : PtsAt w B' A L := fun h0 => by
  obtain ⟨b, off, e, hlt, hc⟩ := h h0
  exact ⟨b, off, e, by omega, hc⟩
theorem PtsAt.keepB {w w1 : World} {B : Nat} {A : Option Addr} {L : List (Int × Int)} (h : PtsAt w B A L) (hb : Below B w w1) : PtsAt w1 B A L := fun h0 => by
  obtain ⟨b, off, e, hlt, hc⟩ := h h0
  exact ⟨b, off, e, hlt, fun i hi => ⟨(hb.cell (p := ⟨b, _, none⟩) hlt).trans (hc i hi).1, (hb.cell (p := ⟨b, _, none⟩) hlt).trans (hc i hi).2⟩⟩

/-- All but the block of A is as it was. -/
def OnlyA (A : Option Addr) (w w' : World) : Prop := w'.os = w.os ∧ w'.tape = w.tape ∧ w'.output = w.output ∧ w'.heap.size = w.heap.size ∧ ∀ i, A ≠ some ⟨i, 0, none⟩ → w'.heap[i]? = w.heap[i]?
theorem OnlyA.below {A : Option Addr} {B : Nat} {w w' a : World} (h : OnlyA A w w') (hb : Below B a w) (hB : ∀ g, A = some ⟨g, 0, none⟩ → B ≤ g) : Below B a w' := by
  obtain ⟨ha, hb', hc, hd, he⟩ := h
  exact ⟨ha.trans hb.os, hb'.trans hb.tape, hc.trans hb.output, by rw [hd]; exact hb.size, fun k hk => (he k (fun e => by have := hB k e; omega)).trans (hb.block k hk)⟩
theorem PtsAt.onlyA {w w' : World} {B : Nat} {A A' : Option Addr} {L : List (Int × Int)} (h : PtsAt w B A L) (ho : OnlyA A' w w') (hA : ∀ g, A' = some ⟨g, 0, none⟩ → B ≤ g) : PtsAt w' B A L := fun h0 => by
  obtain ⟨b, off, e, hlt, hc⟩ := h h0
  have hk : w'.heap[b]? = w.heap[b]? := ho.2.2.2.2 b (fun e => by have := hA b e; omega)
  exact ⟨b, off, e, hlt, fun i hi => ⟨(World.cell?_of_block (a := ⟨b, _, none⟩) hk).trans (hc i hi).1, (World.cell?_of_block (a := ⟨b, _, none⟩) hk).trans (hc i hi).2⟩⟩
theorem Own3.onlyA {w w' : World} {B : Nat} {A A' : Option Addr} {L : List (Int × Int)} (h : Own3 w B A L) (ho : OnlyA A' w w') (hA : ∀ g, A' = some ⟨g, 0, none⟩ → g < B) : Own3 w' B A L := fun h0 => by
  obtain ⟨g, e, hg, hP⟩ := h h0
  exact ⟨g, e, hg, hP.keep (ho.2.2.2.2 g (fun e => by have := hA g e; omega))⟩
theorem Own3.lt {w : World} {B : Nat} {A : Option Addr} {L : List (Int × Int)} (h : Own3 w B A L) (h0 : 0 < L.length) : ∃ g, A = some ⟨g, 0, none⟩ ∧ B ≤ g ∧ g < w.heap.size := by
  obtain ⟨g, e, hg, hP⟩ := h h0
  exact ⟨g, e, hg, hP.lt⟩

def MarkPost (L : List (Int × Int)) (A : Option Addr) (B : Nat) (w : World) (e : Ending) (w' : World) : Prop :=
  e = .returned (.int .i64 (1 + 2 * (L.length : Int))) ∧ Own3 w' B A (mkL 1 L.length) ∧ OnlyA A w w' ∧ (0 < L.length ∨ w' = w)
theorem mark_opt (A : Option Addr) (L : List (Int × Int)) (c B : Nat) (w : World) (h : Own3 w B A L) (hn : L.length ≤ 1048576) :
    Calls Try.prog 24 #[.slice A L.length c, .int .i64 1] w (MarkPost L A B w) := by
  by_cases h0 : 0 < L.length
  · obtain ⟨g, rfl, hg, hP⟩ := h h0
    refine (mark_any g L.length c 1 w (hP.zero (mkL_len 1 _)) hn (by omega) (by omega)).mono ?_
    rintro e w' ⟨rfl, hP', hO⟩
    refine ⟨rfl, fun _ => ⟨g, rfl, hg, by rw [mkL_len]; exact hP'⟩, ⟨hO.1, hO.2.1, hO.2.2.1, hO.2.2.2.1, fun i hi => hO.2.2.2.2 i (fun e => hi (by rw [e]))⟩, .inl h0⟩
  · have hz : L.length = 0 := by omega
    have HZ := Lib.hid hz
    have e0 : Hid (Ending.returned (.int .i64 1) = Ending.returned (.int .i64 (1 + 2 * (L.length : Int)))) := by show _ = _; rw [hz]; rfl
    have hm : Hid (mkL 1 L.length = []) := by show _ = _; rw [hz]; rfl
    rw [hz]
    clear hz h0 hn h
    go_enter Try.func24, Try.ntmps24
    go_wp2
    go_loop [1, 5] (fun q i => q = .int .i64 1 ∧ i = .int .i64 0) (fun _ _ => 0)
    case atStart => exact ⟨rfl, rfl⟩
    case round =>
      obtain ⟨rfl, rfl⟩ := hrel
      go_wp2
      go_ret
      exact ⟨e0.out, by rw [hm.out]; exact Own3.none_ _ _ _, ⟨rfl, rfl, rfl, rfl, fun _ _ => rfl⟩, .inr rfl⟩
theorem held_opt (A : Option Addr) (L : List (Int × Int)) (c B : Nat) (w : World) (h : Own3 w B A (mkL 1 L.length)) (hn : L.length ≤ 1048576) :
    Calls Try.prog 25 #[.slice A L.length c, .int .i64 1] w fun e w' => e = .returned (.int .i64 (1 + 2 * (L.length : Int))) ∧ w = w' := by
  by_cases h0 : 0 < L.length
  · obtain ⟨g, rfl, hg, hP⟩ := h (by rw [mkL_len]; exact h0)
    rw [mkL_len] at hP
    exact held_any g L.length c 1 w hP hn (by omega) (by omega)
  · have hz : L.length = 0 := by omega
    have e0 : Hid (Ending.returned (.int .i64 1) = Ending.returned (.int .i64 (1 + 2 * (L.length : Int)))) := by show _ = _; rw [hz]; rfl
    rw [hz]
    rw [hz] at e0
    clear hz h0 hn h
    go_enter Try.func25, Try.ntmps25
    go_wp2
    go_loop [1, 5] (fun q i => q = .int .i64 1 ∧ i = .int .i64 0) (fun _ _ => 0)
    case atStart => exact ⟨rfl, rfl⟩
    case round =>
      obtain ⟨rfl, rfl⟩ := hrel
      go_wp2
      go_ret
      exact ⟨e0.out, rfl⟩

theorem cellsP_at : ∀ (L : List (Int × Int)) (i : Nat), i < L.length → (cellsP L)[i * 2]? = some (.int .i64 (L.getD i (0, 0)).1) ∧ (cellsP L)[i * 2 + 1]? = some (.int .i64 (L.getD i (0, 0)).2)
  | [], _, h => by simp at h
  | p :: L, 0, _ => by simp [cellsP]
  | p :: L, i + 1, h => by
    have ih := cellsP_at L i (by simpa using h)
    have e : cellsP (p :: L) = .int .i64 p.1 :: .int .i64 p.2 :: cellsP L := by simp [cellsP]
    rw [e, show (i + 1) * 2 = i * 2 + 1 + 1 by omega]
    simpa [List.getD_eq_getElem?_getD] using ih

/-- A function's answer: points in memory of its own, and whether it succeeds. -/
def SRes (L : List (Int × Int)) (ok : Bool) (w : World) (e : Ending) (w' : World) : Prop :=
  ∃ A c, e = .returned (.tuple #[.slice A L.length c, .bool ok]) ∧ Own3 w' w.heap.size A L ∧ Below w.heap.size w w'
theorem own3_of {w : World} {B : Nat} {v : Value} {L : List (Int × Int)} (h : OwnL w B v L) : ∃ A c, v = .slice A L.length c ∧ Own3 w B A L := by
  rcases h.2 with ⟨rfl, h0⟩ | ⟨g, cap, cur, rfl, hB, hh, hn, _, hs, ht⟩
  · exact ⟨none, 0, by rw [h0], fun h1 => by omega⟩
  · refine ⟨_, _, rfl, fun _ => ⟨g, rfl, hB, cur, hh, by rw [hs]; exact Nat.mul_le_mul_right 2 hn, fun i _ hi => ?_⟩⟩
    have key : ∀ j, j < L.length * 2 → cur[j]? = (cellsP L)[j]? := fun j hj => by
      rw [← ht, List.getElem?_take, if_pos hj, Array.getElem?_toList]
    rw [key _ (by omega), key _ (by omega)]
    exact cellsP_at L i hi
end Go.Proofs.Ytdpamieheefhdaa
