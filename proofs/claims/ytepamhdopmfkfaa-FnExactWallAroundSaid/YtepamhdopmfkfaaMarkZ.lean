/-
  Contracts: the cells of a maze of the call's own, marked (what lies elsewhere is as it was).
-/
import Derived.Test.YtepamhdopmfkfaaMazeW
namespace Go.Proofs.Ytepamhdopmfkfaa
set_option linter.unusedSimpArgs false
set_option linter.unusedVariables false
open Go.ChangeShapes Go.WideShapes Go.ChangeAt Go.RowKit

/-- Block g has places for n numbers. -/
def IPl (w : World) (g n : Nat) : Prop := ∃ cs, w.heap[g]? = some (.cells cs 2 (0, 0)) ∧ n ≤ cs.size
theorem IPl.frozen {w : World} {g n : Nat} (h : IPl w g n) (i : Nat) : w.frozen? ⟨g, i, none⟩ = false := by
  obtain ⟨cs, h0, _⟩ := h
  simp [World.frozen?, h0]
theorem IPl.there {w : World} {g n : Nat} (h : IPl w g n) {i : Nat} (hi : i < n) : ∃ v, w.cell? ⟨g, i, none⟩ = some v := by
  obtain ⟨cs, h0, h1⟩ := h
  rw [cell_of_row w g _ cs _ _ h0]
  exact ⟨cs[i]'(by omega), by simp [show i < cs.size by omega]⟩
theorem IPl.set_ {w : World} {g n : Nat} (h : IPl w g n) (b o : Nat) (v : Value) : IPl (w.setCell ⟨b, o, none⟩ v) g n := by
  obtain ⟨cs, h0, h1⟩ := h
  by_cases e : g = b
  · subst e
    exact ⟨cs.setIfInBounds o v, by simp [World.setCell, Array.getElem?_modify, h0], by simpa using h1⟩
  · exact ⟨cs, (Below.heap_setCell w ⟨b, o, none⟩ v g e).trans h0, h1⟩
/-- What lies at g or before, or from C on, is as it was. -/
structure Mid (g C : Nat) (w w' : World) : Prop where
  os : w'.os = w.os
  tape : w'.tape = w.tape
  output : w'.output = w.output
  size : w.heap.size ≤ w'.heap.size
  block : ∀ i, i < w.heap.size → i ≤ g ∨ C ≤ i → w'.heap[i]? = w.heap[i]?
theorem Mid.refl (g C : Nat) (w : World) : Mid g C w w := ⟨rfl, rfl, rfl, Nat.le_refl _, fun _ _ _ => rfl⟩
theorem Mid.trans {g C : Nat} {a b c : World} (h : Mid g C a b) (k : Mid g C b c) : Mid g C a c :=
  ⟨k.os.trans h.os, k.tape.trans h.tape, k.output.trans h.output, Nat.le_trans h.size k.size, fun i hi hne => (k.block i (Nat.lt_of_lt_of_le hi h.size) hne).trans (h.block i hi hne)⟩
theorem Mid.of {g C : Nat} {w w' : World} (h : Below w.heap.size w w') : Mid g C w w' := ⟨h.os, h.tape, h.output, h.size, fun i hi _ => h.block i hi⟩
theorem Mid.set_ {g C : Nat} {a b : World} (h : Mid g C a b) {p : Addr} (h1 : g < p.block) (h2 : p.block < C) (v : Value) : Mid g C a (b.setCell p v) :=
  ⟨h.os, h.tape, h.output, by simpa [World.setCell] using h.size, fun i hi hne => (Below.heap_setCell b p v i (by omega)).trans (h.block i hi hne)⟩
theorem Mid.cell {g C : Nat} {w w' : World} (h : Mid g C w w') {p : Addr} (hlt : p.block < w.heap.size) (hne : p.block ≤ g ∨ C ≤ p.block) : w'.cell? p = w.cell? p := by
  unfold World.cell?
  rw [h.block _ hlt hne]
theorem Mid.below {g C B : Nat} {a w w' : World} (h : Mid g C w w') (hb : Below B a w) (hB : B ≤ g + 1) (hB0 : B ≤ a.heap.size) : Below B a w' :=
  ⟨h.os.trans hb.os, h.tape.trans hb.tape, h.output.trans hb.output, Nat.le_trans hb.size h.size, fun k hk => (h.block k (by have := hb.size; omega) (.inl (by omega))).trans (hb.block k hk)⟩

set_option maxRecDepth 100000 in
set_option maxHeartbeats 800000 in
theorem markRow_any (gi n c q g C : Nat) (w : World) (h : IPl w gi n) (hg : g < gi) (hC : gi < C) (hn : n ≤ 1048576) (hq : q ≤ 1000000000000000) :
    Calls Try.prog 104 #[.slice (some ⟨gi, 0, none⟩) n c, .int .i64 (q : Int)] w fun e w' => e = .returned (.int .i64 ((q + n : Nat) : Int)) ∧ Mid g C w w' ∧ ∀ g2 m, IPl w g2 m → IPl w' g2 m := by
  have hqI : (q : Int) ≤ 1000000000000000 := by omega
  have hnI : (n : Int) ≤ 1048576 := by omega
  go_enter Try.func104, Try.ntmps104
  go_wp2
  go_loopw [1, 5] (fun p i wr => ∃ j : Nat, j ≤ n ∧ i = .int .i64 j ∧ p = .int .i64 ((q : Int) + (j : Int)) ∧ IPl wr gi n ∧ Mid g C w wr ∧ ∀ g2 m, IPl w g2 m → IPl wr g2 m) (fun _ i _ => n - (intOf i).toNat)
  case atStart => exact ⟨0, Nat.zero_le _, rfl, by simp, h, Mid.refl _ _ _, fun _ _ h => h⟩
  case round =>
    clear h
    obtain ⟨j, hj, rfl, rfl, h, hO, hA⟩ := hrel
    by_cases hlt : j < n
    · have hjI : (j : Int) < (n : Int) := by omega
      have hj0 : (0 : Int) ≤ (j : Int) := by omega
      have f0 := h.frozen j
      obtain ⟨v0, t0⟩ := h.there hlt
      have h' := h.set_ gi j (.int .i64 ((q : Int) + (j : Int)))
      have hO' := hO.set_ (p := ⟨gi, j, none⟩) hg hC (.int .i64 ((q : Int) + (j : Int)))
      have hA' : ∀ g2 m, IPl w g2 m → IPl (wr.setCell ⟨gi, j, none⟩ (.int .i64 ((q : Int) + (j : Int)))) g2 m := fun g2 m h => (hA g2 m h).set_ _ _ _
      have HA := Lib.hid hA'
      clear hA hA'
      go_wp2
      go_roundw
      case rel => exact ⟨j + 1, by omega, by go_num, by go_num, h', hO', HA.out⟩
      case measure => simp [intOf]; omega
    · obtain rfl : j = n := by omega
      have HA := Lib.hid hA
      clear hA
      go_wp2
      go_ret
      exact ⟨retI (by simp), hO, HA.out⟩

/-- Each row lies between g and C, and there is room for it. -/
def RowsPl (w : World) (g C : Nat) (Ms : List SlI) : Prop := ∀ i, i < Ms.length → ∃ gi, (Ms.getD i si0).1 = some ⟨gi, 0, none⟩ ∧ g < gi ∧ gi < C ∧ IPl w gi (Ms.getD i si0).2.1.length ∧ (Ms.getD i si0).2.1.length ≤ 1048576
theorem NewIAll.pl {w w1 : World} {g : Nat} {Ms : List SlI} (h : NewIAll w g Ms) (hb : Below w.heap.size w w1) : RowsPl w1 g w.heap.size Ms := fun i hi => by
  obtain ⟨gi, h1, h2, h3, _, h5⟩ := h i hi
  have hl := h3.lt
  obtain ⟨cs, k0, k1, _⟩ := h3
  exact ⟨gi, h1, h2, hl, ⟨cs, (hb.block gi hl).trans k0, by omega⟩, h5⟩
set_option maxRecDepth 100000 in
set_option maxHeartbeats 800000 in
theorem markSS_any (g n c C : Nat) (Ms : List SlI) (w : World) (hZ : ZI w g n Ms) (hn : Ms.length = n) (hR : RowsPl w g C Ms) (hn1 : n ≤ 1048576) :
    Calls Try.prog 76 #[.slice (some ⟨g, 0, none⟩) n c, .int .i64 1] w fun e w' => (∃ r : Nat, e = .returned (.int .i64 (r : Int))) ∧ Mid g C w w' := by
  have hzl := hZ.lt
  go_enter Try.func76, Try.ntmps76
  go_wp2
  go_loopw [1, 5] (fun p i wr => ∃ j q : Nat, j ≤ n ∧ i = .int .i64 j ∧ p = .int .i64 (q : Int) ∧ q ≤ 1 + j * 1048576 ∧ RowsPl wr g C Ms ∧ Mid g C w wr) (fun _ i _ => n - (intOf i).toNat)
  case atStart => exact ⟨0, 1, Nat.zero_le _, rfl, by simp, by omega, hR, Mid.refl _ _ _⟩
  case round =>
    clear hR
    obtain ⟨j, q, hj, rfl, rfl, hq, hR, hO⟩ := hrel
    by_cases hlt : j < n
    · have hjI : (j : Int) < (n : Int) := by omega
      have hj0 : (0 : Int) ≤ (j : Int) := by omega
      obtain ⟨gi, h1, h2, h3, h4, h5⟩ := hR j (by omega)
      obtain ⟨cs, k0, k1, k2⟩ := hZ
      have kj := k2 j (by omega)
      rw [h1] at kj
      have hcell : wr.cell? ⟨g, j, none⟩ = some (.slice (some ⟨gi, 0, none⟩) (Ms.getD j si0).2.1.length (Ms.getD j si0).2.2) := (hO.cell (p := ⟨g, j, none⟩) hzl (.inl (Nat.le_refl _))).trans ((cell_of_row w g j cs _ _ k0).trans kj)
      have cm := markRow_any gi _ (Ms.getD j si0).2.2 q g C wr h4 h2 h3 h5 (by have : j * 1048576 ≤ 1048576 * 1048576 := Nat.mul_le_mul_right _ (by omega); omega)
      have HR := Lib.hid hR
      have HJ : Hid ((j + 1) * 1048576 = j * 1048576 + 1048576) := by show _ = _; omega
      clear hR k2 kj h1 k0 k1 h4
      generalize (Ms.getD j si0).2.1.length = m at *
      generalize (Ms.getD j si0).2.2 = k at *
      go_wp2_with fail
      refine cm.mono ?_
      rintro e w2 ⟨rfl, hM, hA⟩
      have HA := Lib.hid hA
      have hO2 := hO.trans hM
      clear hA cm hM hO hcell
      go_wp2
      go_roundw
      case rel => exact ⟨j + 1, q + m, by omega, by go_num, by go_num, by have := HJ.out; omega, fun i hi => by
        obtain ⟨g2, a1, a2, a3, a4, a5⟩ := HR.out i hi
        exact ⟨g2, a1, a2, a3, HA.out _ _ a4, a5⟩, hO2⟩
      case measure => simp [intOf]; omega
    · obtain rfl : j = n := by omega
      go_wp2
      go_ret
      exact ⟨⟨q, rfl⟩, hO⟩
set_option maxRecDepth 100000 in
set_option maxHeartbeats 800000 in
/-- A maze of the call's own, marked later. -/
theorem markMaze_in (g n c : Nat) (M : Mz) (w0 w : World) (h : MzOwn w0 g n M) (hb : Below w0.heap.size w0 w) :
    Calls Try.prog 34 #[.agg #[.slice (some ⟨g, 0, none⟩) n c], .int .i64 1] w fun e w' => (∃ r : Nat, e = .returned (.int .i64 (r : Int))) ∧ Mid g w0.heap.size w w' := by
  obtain ⟨Ms, hn, _, hZ, hN, hn1⟩ := h
  have hx : Below w.heap.size w (w.alloc (.cells #[.slice (some ⟨g, 0, none⟩) n c] 51)) := by (repeat (first | assumption | exact Below.refl _ _ | (refine bl_alloc ?_ _) | (refine Below.drew ?_) | (refine bl_drewN ?_ _) | (refine bl_set ?_ (by first | (simp; done) | omega | (simp; omega)) _) | (refine bl_trans ?_ (by assumption)) | (refine bl_step ?_ (by assumption) (by first | omega | exact Below.size (by assumption) | (simp; omega) | (simp; exact Below.size (by assumption))))))
  have b1 := bl_step hb hx hb.size
  have cm := markSS_any g n c w0.heap.size Ms _ (hZ.to b1) hn (hN.pl b1) hn1
  clear hN hZ hb b1
  go_enter Try.func34, Try.ntmps34
  go_wp2_with fail
  refine cm.mono ?_
  rintro e w2 ⟨⟨r, rfl⟩, hM⟩
  have hM2 := (Mid.of hx).trans hM
  clear cm hM hx
  go_wp2
  go_ret
  exact ⟨⟨r, rfl⟩, hM2⟩
end Go.Proofs.Ytepamhdopmfkfaa
