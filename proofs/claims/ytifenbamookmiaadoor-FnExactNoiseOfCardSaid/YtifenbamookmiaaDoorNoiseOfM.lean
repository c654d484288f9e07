/-
  Proved: FnExactNoiseOf over every input at which its listed variables lie as the program's text lays them, and its tied card.
-/
import Derived.Test.YtifenbamookmiaaDoorMarkI
import Derived.Test.YtifenbamookmiaaDoorPan
import Derived.Test.YtifenbamookmiaaDoorBunW
import Derived.Test.YtifenbamookmiaaDoorOwnJ
import Derived.Test.YtifenbamookmiaaDoorSwpP
import Derived.Test.YtifenbamookmiaaDoorCplO
import Derived.Test.YtifenbamookmiaaDoorCplI
import Derived.Test.YtifenbamookmiaaDoorCloneIh
import Derived.Test.YtifenbamookmiaaDoorLayoK
import Derived.Sort.CutIn
import Derived.Test.YtifenbamookmiaaDoorLaidBru
import Derived.ChangeMaps5
namespace Go.Proofs.YtifenbamookmiaaDoor
set_option linter.unusedSimpArgs false
set_option linter.unusedVariables false
open Go.ChangeShapes Go.WideShapes Go.ChangeAt Go.RowKit

/-- All that stood but block g is as it was. -/
structure ButG (g : Nat) (w w' : World) : Prop where
  os : w'.os = w.os
  tape : w'.tape = w.tape
  output : w'.output = w.output
  size : w.heap.size ≤ w'.heap.size
  block : ∀ i, i < w.heap.size → i ≠ g → w'.heap[i]? = w.heap[i]?
theorem ButG.refl (g : Nat) (w : World) : ButG g w w := ⟨rfl, rfl, rfl, Nat.le_refl _, fun _ _ _ => rfl⟩
theorem ButG.trans {g : Nat} {a b c : World} (h : ButG g a b) (k : ButG g b c) : ButG g a c :=
  ⟨k.os.trans h.os, k.tape.trans h.tape, k.output.trans h.output, Nat.le_trans h.size k.size, fun i hi hne => (k.block i (Nat.lt_of_lt_of_le hi h.size) hne).trans (h.block i hi hne)⟩
theorem ButG.of {g : Nat} {w w' : World} (h : Below w.heap.size w w') : ButG g w w' := ⟨h.os, h.tape, h.output, h.size, fun i hi _ => h.block i hi⟩
theorem ButG.set_ {g : Nat} {a b : World} (h : ButG g a b) (o : Nat) (v : Value) : ButG g a (b.setCell ⟨g, o, none⟩ v) :=
  ⟨h.os, h.tape, h.output, by simpa [World.setCell] using h.size, fun i hi hne => (Below.heap_setCell b ⟨g, o, none⟩ v i (by simp; omega)).trans (h.block i hi hne)⟩
theorem ButG.below {g B : Nat} {a w w' : World} (h : ButG g w w') (hb : Below B a w) (hB : B ≤ g) (hB0 : B ≤ w.heap.size) : Below B a w' :=
  ⟨h.os.trans hb.os, h.tape.trans hb.tape, h.output.trans hb.output, Nat.le_trans hb.size h.size, fun k hk => (h.block k (by omega) (by omega)).trans (hb.block k hk)⟩
theorem ButG.ints {g B : Nat} {w w' : World} {A : Option Addr} {L : List Int} (h : ButG g w w') (hp : IntsAt w B A L) (hB : B ≤ g) (hz : B ≤ w.heap.size) : IntsAt w' B A L := fun h0 => by
  obtain ⟨b, off, e, hlt, hc⟩ := hp h0
  have hk : w'.heap[b]? = w.heap[b]? := h.block b (by omega) (by omega)
  exact ⟨b, off, e, hlt, fun i hi => (World.cell?_of_block (a := ⟨b, _, none⟩) hk).trans (hc i hi)⟩
theorem ButG.own4 {g B : Nat} {w w' : World} {A : Option Addr} {L : List Int} (h : ButG g w w') (hp : Own4 w B A L) (hB : g < B) : Own4 w' B A L := fun h0 => by
  obtain ⟨g', e, hg, hI⟩ := hp h0
  exact ⟨g', e, hg, hI.keep (h.block g' hI.lt (by omega))⟩
theorem ButG.blk {g b : Nat} {w w' : World} {cs : Array Value} {t : TypeId} (h : ButG g w w') (hp : Blk w b cs t) (hne : b ≠ g) : Blk w' b cs t := hp.keep (h.block b hp.lt hne)
theorem ButG.nblk {g b k : Nat} {w w' : World} {L : List Int} (h : ButG g w w') (hp : NBlk w b L k) (hne : b ≠ g) : NBlk w' b L k := hp.keep (h.block b hp.lt hne)

/-- Block g has n places at least. -/
def PlG (w : World) (g n : Nat) (t : TypeId) : Prop := ∃ cs, w.heap[g]? = some (.cells cs t (0, 0)) ∧ n ≤ cs.size
theorem PlG.frozen {w : World} {g n : Nat} {t : TypeId} (h : PlG w g n t) (i : Nat) : w.frozen? ⟨g, i, none⟩ = false := by
  obtain ⟨cs, h0, _⟩ := h
  simp [World.frozen?, h0]
theorem PlG.there {w : World} {g n : Nat} {t : TypeId} (h : PlG w g n t) {i : Nat} (hi : i < n) : ∃ v, w.cell? ⟨g, i, none⟩ = some v := by
  obtain ⟨cs, h0, h1⟩ := h
  rw [cell_of_row w g _ cs _ _ h0]
  exact ⟨cs[i]'(by omega), by simp [show i < cs.size by omega]⟩
theorem PlG.set_ {w : World} {g n : Nat} {t : TypeId} (h : PlG w g n t) (o : Nat) (v : Value) : PlG (w.setCell ⟨g, o, none⟩ v) g n t := by
  obtain ⟨cs, h0, h1⟩ := h
  exact ⟨cs.setIfInBounds o v, by simp [World.setCell, Array.getElem?_modify, h0], by simpa using h1⟩
theorem PlG.keep {w w' : World} {g n : Nat} {t : TypeId} (h : PlG w g n t) (hk : w'.heap[g]? = w.heap[g]?) : PlG w' g n t := by
  obtain ⟨cs, h0, h1⟩ := h
  exact ⟨cs, hk.trans h0, h1⟩
theorem PlG.lt {w : World} {g n : Nat} {t : TypeId} (h : PlG w g n t) : g < w.heap.size := by
  obtain ⟨cs, h0, _⟩ := h
  rcases Nat.lt_or_ge g w.heap.size with hlt | hge
  · exact hlt
  · rw [Array.getElem?_eq_none hge] at h0; cases h0
theorem NBlk.pl {w : World} {g k : Nat} {ns : List Int} (h : NBlk w g ns k) : PlG w g ns.length 2 := by
  obtain ⟨cs, h0, h1, _⟩ := h
  exact ⟨cs, h0, Nat.le_of_eq h1.symm⟩
set_option maxRecDepth 100000 in
set_option maxHeartbeats 800000 in
theorem markInts_any (g n c : Nat) (q : Int) (w : World) (h : PlG w g n 2) (hn : n ≤ 1048576) (hq0 : 0 ≤ q) (hq : q ≤ 1000000000000000) :
    Calls Tryd.prog 18 #[.slice (some ⟨g, 0, none⟩) n c, .int .i64 q] w fun e w' => e = .returned (.int .i64 (q + (n : Int))) ∧ ButG g w w' := by
  have hnI : (n : Int) ≤ 1048576 := by omega
  go_enter Tryd.func18, Tryd.ntmps18
  go_wp2
  go_loopw [1, 5] (fun p i wr => ∃ j : Nat, j ≤ n ∧ i = .int .i64 j ∧ p = .int .i64 (q + (j : Int)) ∧ PlG wr g n 2 ∧ ButG g w wr) (fun _ i _ => n - (intOf i).toNat)
  case atStart => exact ⟨0, Nat.zero_le _, rfl, by simp, h, ButG.refl _ _⟩
  case round =>
    clear h
    obtain ⟨j, hj, rfl, rfl, h, hO⟩ := hrel
    by_cases hlt : j < n
    · have hjI : (j : Int) < (n : Int) := by omega
      have hj0 : (0 : Int) ≤ (j : Int) := by omega
      have f0 := h.frozen j
      obtain ⟨v0, t0⟩ := h.there (i := j) hlt
      have h' := h.set_ j (.int .i64 (q + (j : Int)))
      have hO' := hO.set_ j (.int .i64 (q + (j : Int)))
      clear h hO
      go_wp2
      go_roundw
      case rel => exact ⟨j + 1, by omega, by go_num, by congr 1; omega, h', hO'⟩
      case measure => simp [intOf]; omega
    · obtain rfl : j = n := by omega
      go_wp2
      go_ret
      exact ⟨rfl, hO⟩
end Go.Proofs.YtifenbamookmiaaDoor
namespace Go.Proofs.YtifenbamookmiaaDoor
set_option linter.unusedSimpArgs false
set_option linter.unusedVariables false
open Go.ChangeShapes Go.WideShapes Go.ChangeAt Go.RowKit

/-- Block g has places for n numbers. -/
def IPl (w : World) (g n : Nat) : Prop := ∃ cs, w.heap[g]? = some (.cells cs 2 (0, 0)) ∧ n ≤ cs.size
theorem IPl.frozen {w : World} {g n : Nat} (h : IPl w g n) (i : Nat) : w.frozen? ⟨g, i, none⟩ = false := by
  obtain ⟨cs, h0, _⟩ := h
  simp [World.frozen?, h0]
theorem IPl.there {w : World} {g n : Nat} (h : IPl w g n) {i : Nat} (hi : i < n) : ∃ v, w.cell? ⟨g, i, none⟩ = some v := by
  obtain ⟨cs, h0, h1⟩ := h
  rw [cell_of_row w g _ cs _ _ h0]
  exact ⟨cs[i]'(by omega), by simp [show i < cs.size by omega]⟩
theorem IPl.set_ {w : World} {g n : Nat} (h : IPl w g n) (b o : Nat) (v : Value) : IPl (w.setCell ⟨b, o, none⟩ v) g n := by
  obtain ⟨cs, h0, h1⟩ := h
  by_cases e : g = b
  · subst e
    exact ⟨cs.setIfInBounds o v, by simp [World.setCell, Array.getElem?_modify, h0], by simpa using h1⟩
  · exact ⟨cs, (Below.heap_setCell w ⟨b, o, none⟩ v g e).trans h0, h1⟩
/-- What lies at g or before, or from C on, is as it was. -/
structure Mid (g C : Nat) (w w' : World) : Prop where
  os : w'.os = w.os
  tape : w'.tape = w.tape
  output : w'.output = w.output
  size : w.heap.size ≤ w'.heap.size
  block : ∀ i, i < w.heap.size → i ≤ g ∨ C ≤ i → w'.heap[i]? = w.heap[i]?
theorem Mid.refl (g C : Nat) (w : World) : Mid g C w w := ⟨rfl, rfl, rfl, Nat.le_refl _, fun _ _ _ => rfl⟩
theorem Mid.trans {g C : Nat} {a b c : World} (h : Mid g C a b) (k : Mid g C b c) : Mid g C a c :=
  ⟨k.os.trans h.os, k.tape.trans h.tape, k.output.trans h.output, Nat.le_trans h.size k.size, fun i hi hne => (k.block i (Nat.lt_of_lt_of_le hi h.size) hne).trans (h.block i hi hne)⟩
theorem Mid.of {g C : Nat} {w w' : World} (h : Below w.heap.size w w') : Mid g C w w' := ⟨h.os, h.tape, h.output, h.size, fun i hi _ => h.block i hi⟩
theorem Mid.set_ {g C : Nat} {a b : World} (h : Mid g C a b) {p : Addr} (h1 : g < p.block) (h2 : p.block < C) (v : Value) : Mid g C a (b.setCell p v) :=
  ⟨h.os, h.tape, h.output, by simpa [World.setCell] using h.size, fun i hi hne => (Below.heap_setCell b p v i (by omega)).trans (h.block i hi hne)⟩
theorem Mid.cell {g C : Nat} {w w' : World} (h : Mid g C w w') {p : Addr} (hlt : p.block < w.heap.size) (hne : p.block ≤ g ∨ C ≤ p.block) : w'.cell? p = w.cell? p := by
  unfold World.cell?
  rw [h.block _ hlt hne]
theorem Mid.below {g C B : Nat} {a w w' : World} (h : Mid g C w w') (hb : Below B a w) (hB : B ≤ g + 1) (hB0 : B ≤ a.heap.size) : Below B a w' :=
  ⟨h.os.trans hb.os, h.tape.trans hb.tape, h.output.trans hb.output, Nat.le_trans hb.size h.size, fun k hk => (h.block k (by have := hb.size; omega) (.inl (by omega))).trans (hb.block k hk)⟩

theorem Mid.blk {g C b : Nat} {w w' : World} {cs : Array Value} {t : TypeId} (h : Mid g C w w') (hp : Blk w b cs t) (hne : b ≤ g ∨ C ≤ b) : Blk w' b cs t := hp.keep (h.block b hp.lt hne)
theorem Mid.nblk {g C b k : Nat} {w w' : World} {L : List Int} (h : Mid g C w w') (hp : NBlk w b L k) (hne : b ≤ g ∨ C ≤ b) : NBlk w' b L k := hp.keep (h.block b hp.lt hne)
theorem Mid.ints {g C B : Nat} {w w' : World} {A : Option Addr} {L : List Int} (h : Mid g C w w') (hp : IntsAt w B A L) (hB : B ≤ g + 1) (hz : B ≤ w.heap.size) : IntsAt w' B A L := fun h0 => by
  obtain ⟨b, off, e, hlt, hc⟩ := hp h0
  have hk : w'.heap[b]? = w.heap[b]? := h.block b (by omega) (.inl (by omega))
  exact ⟨b, off, e, hlt, fun i hi => (World.cell?_of_block (a := ⟨b, _, none⟩) hk).trans (hc i hi)⟩
theorem Mid.own4 {g C B : Nat} {w w' : World} {A : Option Addr} {L : List Int} (h : Mid g C w w') (hp : Own4 w B A L) (hB : C ≤ B) : Own4 w' B A L := fun h0 => by
  obtain ⟨g', e, hg, hI⟩ := hp h0
  exact ⟨g', e, hg, hI.keep (h.block g' hI.lt (.inr (by omega)))⟩
set_option maxRecDepth 100000 in
set_option maxHeartbeats 800000 in
theorem markRow_any (gi n c q g C : Nat) (w : World) (h : IPl w gi n) (hg : g < gi) (hC : gi < C) (hn : n ≤ 1048576) (hq : q ≤ 1000000000000000) :
    Calls Tryd.prog 18 #[.slice (some ⟨gi, 0, none⟩) n c, .int .i64 (q : Int)] w fun e w' => e = .returned (.int .i64 ((q + n : Nat) : Int)) ∧ Mid g C w w' ∧ ∀ g2 m, IPl w g2 m → IPl w' g2 m := by
  have hqI : (q : Int) ≤ 1000000000000000 := by omega
  have hnI : (n : Int) ≤ 1048576 := by omega
  go_enter Tryd.func18, Tryd.ntmps18
  go_wp2
  go_loopw [1, 5] (fun p i wr => ∃ j : Nat, j ≤ n ∧ i = .int .i64 j ∧ p = .int .i64 ((q : Int) + (j : Int)) ∧ IPl wr gi n ∧ Mid g C w wr ∧ ∀ g2 m, IPl w g2 m → IPl wr g2 m) (fun _ i _ => n - (intOf i).toNat)
  case atStart => exact ⟨0, Nat.zero_le _, rfl, by simp, h, Mid.refl _ _ _, fun _ _ h => h⟩
  case round =>
    clear h
    obtain ⟨j, hj, rfl, rfl, h, hO, hA⟩ := hrel
    by_cases hlt : j < n
    · have hjI : (j : Int) < (n : Int) := by omega
      have hj0 : (0 : Int) ≤ (j : Int) := by omega
      have f0 := h.frozen j
      obtain ⟨v0, t0⟩ := h.there hlt
      have h' := h.set_ gi j (.int .i64 ((q : Int) + (j : Int)))
      have hO' := hO.set_ (p := ⟨gi, j, none⟩) hg hC (.int .i64 ((q : Int) + (j : Int)))
      have hA' : ∀ g2 m, IPl w g2 m → IPl (wr.setCell ⟨gi, j, none⟩ (.int .i64 ((q : Int) + (j : Int)))) g2 m := fun g2 m h => (hA g2 m h).set_ _ _ _
      have HA := Lib.hid hA'
      clear hA hA'
      go_wp2
      go_roundw
      case rel => exact ⟨j + 1, by omega, by go_num, by go_num, h', hO', HA.out⟩
      case measure => simp [intOf]; omega
    · obtain rfl : j = n := by omega
      have HA := Lib.hid hA
      clear hA
      go_wp2
      go_ret
      exact ⟨retI (by simp), hO, HA.out⟩

/-- Each row lies between g and C, and there is room for it. -/
def RowsPl (w : World) (g C : Nat) (Ms : List SlI) : Prop := ∀ i, i < Ms.length → ∃ gi, (Ms.getD i si0).1 = some ⟨gi, 0, none⟩ ∧ g < gi ∧ gi < C ∧ IPl w gi (Ms.getD i si0).2.1.length ∧ (Ms.getD i si0).2.1.length ≤ 1048576
theorem NewIAll.pl {w w1 : World} {g : Nat} {Ms : List SlI} (h : NewIAll w g Ms) (hb : Below w.heap.size w w1) : RowsPl w1 g w.heap.size Ms := fun i hi => by
  obtain ⟨gi, h1, h2, h3, _, h5⟩ := h i hi
  have hl := h3.lt
  obtain ⟨cs, k0, k1, _⟩ := h3
  exact ⟨gi, h1, h2, hl, ⟨cs, (hb.block gi hl).trans k0, by omega⟩, h5⟩
set_option maxRecDepth 100000 in
set_option maxHeartbeats 800000 in
theorem markSS_any (g n c C : Nat) (Ms : List SlI) (w : World) (hZ : ZI w g n Ms) (hn : Ms.length = n) (hR : RowsPl w g C Ms) (hn1 : n ≤ 1048576) :
    Calls Tryd.prog 41 #[.slice (some ⟨g, 0, none⟩) n c, .int .i64 1] w fun e w' => (∃ r : Nat, e = .returned (.int .i64 (r : Int)) ∧ r ≤ 2000000000000) ∧ Mid g C w w' := by
  have hzl := hZ.lt
  go_enter Tryd.func41, Tryd.ntmps41
  go_wp2
  go_loopw [1, 5] (fun p i wr => ∃ j q : Nat, j ≤ n ∧ i = .int .i64 j ∧ p = .int .i64 (q : Int) ∧ q ≤ 1 + j * 1048576 ∧ RowsPl wr g C Ms ∧ Mid g C w wr) (fun _ i _ => n - (intOf i).toNat)
  case atStart => exact ⟨0, 1, Nat.zero_le _, rfl, by simp, by omega, hR, Mid.refl _ _ _⟩
  case round =>
    clear hR
    obtain ⟨j, q, hj, rfl, rfl, hq, hR, hO⟩ := hrel
    by_cases hlt : j < n
    · have hjI : (j : Int) < (n : Int) := by omega
      have hj0 : (0 : Int) ≤ (j : Int) := by omega
      obtain ⟨gi, h1, h2, h3, h4, h5⟩ := hR j (by omega)
      obtain ⟨cs, k0, k1, k2⟩ := hZ
      have kj := k2 j (by omega)
      rw [h1] at kj
      have hcell : wr.cell? ⟨g, j, none⟩ = some (.slice (some ⟨gi, 0, none⟩) (Ms.getD j si0).2.1.length (Ms.getD j si0).2.2) := (hO.cell (p := ⟨g, j, none⟩) hzl (.inl (Nat.le_refl _))).trans ((cell_of_row w g j cs _ _ k0).trans kj)
      have cm := markRow_any gi _ (Ms.getD j si0).2.2 q g C wr h4 h2 h3 h5 (by have : j * 1048576 ≤ 1048576 * 1048576 := Nat.mul_le_mul_right _ (by omega); omega)
      have HR := Lib.hid hR
      have HJ : Hid ((j + 1) * 1048576 = j * 1048576 + 1048576) := by show _ = _; omega
      clear hR k2 kj h1 k0 k1 h4
      generalize (Ms.getD j si0).2.1.length = m at *
      generalize (Ms.getD j si0).2.2 = k at *
      go_wp2_with fail
      refine cm.mono ?_
      rintro e w2 ⟨rfl, hM, hA⟩
      have HA := Lib.hid hA
      have hO2 := hO.trans hM
      clear hA cm hM hO hcell
      go_wp2
      go_roundw
      case rel => exact ⟨j + 1, q + m, by omega, by go_num, by go_num, by have := HJ.out; omega, fun i hi => by
        obtain ⟨g2, a1, a2, a3, a4, a5⟩ := HR.out i hi
        exact ⟨g2, a1, a2, a3, HA.out _ _ a4, a5⟩, hO2⟩
      case measure => simp [intOf]; omega
    · obtain rfl : j = n := by omega
      go_wp2
      go_ret
      exact ⟨⟨q, rfl, by have : j * 1048576 ≤ 1048576 * 1048576 := Nat.mul_le_mul_right _ (by omega); omega⟩, hO⟩
set_option maxRecDepth 100000 in
set_option maxHeartbeats 800000 in
/-- A bundle of the call's own, marked later. -/
theorem markBundle_in (g n c : Nat) (M : Mz) (w0 w : World) (h : BnOwn w0 g n M) (hb : Below w0.heap.size w0 w) :
    Calls Tryd.prog 17 #[.agg #[.slice (some ⟨g, 0, none⟩) n c], .int .i64 1] w fun e w' => (∃ r : Nat, e = .returned (.int .i64 (r : Int)) ∧ r ≤ 2000000000000) ∧ Mid g w0.heap.size w w' := by
  obtain ⟨Ms, hn, _, hZ, hN, hn1⟩ := h
  have hx : Below w.heap.size w (w.alloc (.cells #[.slice (some ⟨g, 0, none⟩) n c] 29)) := by (repeat (first | assumption | exact Below.refl _ _ | (refine bl_alloc ?_ _) | (refine Below.drew ?_) | (refine bl_drewN ?_ _) | (refine bl_set ?_ (by first | (simp; done) | omega | (simp; omega)) _) | (refine bl_trans ?_ (by assumption)) | (refine bl_step ?_ (by assumption) (by first | omega | exact Below.size (by assumption) | (simp; omega) | (simp; exact Below.size (by assumption))))))
  have b1 := bl_step hb hx hb.size
  have cm := markSS_any g n c w0.heap.size Ms _ (hZ.to b1) hn (hN.pl b1) hn1
  clear hN hZ hb b1
  go_enter Tryd.func17, Tryd.ntmps17
  go_wp2_with fail
  refine cm.mono ?_
  rintro e w2 ⟨⟨r, rfl, hr⟩, hM⟩
  have hM2 := (Mid.of hx).trans hM
  clear cm hM hx
  go_wp2
  go_ret
  exact ⟨⟨r, rfl, hr⟩, hM2⟩
end Go.Proofs.YtifenbamookmiaaDoor
namespace Go.Proofs.YtifenbamookmiaaDoor
set_option linter.unusedSimpArgs false
set_option linter.unusedVariables false
open Go.ChangeShapes Go.WideShapes Go.ChangeAt Go.RowKit

theorem catchNs_panicking (p : Addr) (x : Bool) (u : TypeId) (pv : Value) (older : List PanicEntry) (w : World) (hc : w.cell? p = some (.bool x)) (hz : w.frozen? p = false) :
    CallsD Tryd.prog 68 #[.pointer (some p)] (.panicking ({ v := .iface u pv, recovered := false } :: older)) w fun e u' w' =>
      e = .returned (.tuple #[]) ∧ u' = .panicking ({ v := .iface u pv, recovered := true } :: older) ∧ w' = w.setCell p (.bool false) := by
  refine callsD_of_wpS Tryd.func68 rfl fun c₀ cs hu => ?_
  apply wpS_region
  simp [wpOpsS, go_sem, recoverD, hu, Tryd.ntmps68, Exit.thenS, hc, hz, bodyPostS, results, Tryd.results68]
theorem catchNs_idle (p : Addr) (x : Bool) (w : World) (hc : w.cell? p = some (.bool x)) (hz : w.frozen? p = false) :
    CallsD Tryd.prog 68 #[.pointer (some p)] .returning w fun e u' w' => e = .returned (.tuple #[]) ∧ u' = .returning ∧ w' = w.setCell p (.bool true) := by
  refine callsD_of_wpS Tryd.func68 rfl fun c₀ cs hu => ?_
  apply wpS_region
  simp [wpOpsS, go_sem, recoverD, hu, Tryd.ntmps68, Exit.thenS, hc, hz, bodyPostS, results, Tryd.results68]
  cases c₀
  simp_all
def AttNsRes (OK : Value → World → Prop) (NO : Prop) (B : Nat) (w : World) (e : Ending) (w' : World) : Prop :=
  ((∃ v w1, e = .returned (.tuple #[v, .bool true]) ∧ OK v w1 ∧ w' = (w1.setCell ⟨B, 0, none⟩ (.bool true)).setCell ⟨B, 0, none⟩ (.bool true)) ∨ (e = .returned (.tuple #[.slice none 0 0, .bool false]) ∧ NO)) ∧ Below w.heap.size w w'
theorem attemptNs_any (G : Nat) (caps : Array Value) (w : World) (OK : Value → World → Prop) (NO : Prop) (eg : ∀ args w, (callFunc G args).run Tryd.prog w = .ok (.enter G args) w)
    (hc : Calls Tryd.prog G caps (w.alloc (.cells #[.bool false] 4)) fun e w' => ((∃ v, e = .returned v ∧ OK v w') ∨ (Pan e ∧ NO)) ∧ Below (w.alloc (.cells #[.bool false] 4)).heap.size (w.alloc (.cells #[.bool false] 4)) w') :
    Calls Tryd.prog 36 #[.func (.func G) #[] caps] w (AttNsRes OK NO w.heap.size w) := by
  have hmf : ∀ (fn : Fn) (first cap : Array Value) (w : World), (Instr.makeFunc fn first cap).run Tryd.prog w = .ok (.func fn first cap) w := fun _ _ _ _ => rfl
  go_enter_defers Tryd.func36, Tryd.ntmps36
  go_wp2_with fail
  refine hc.mono ?_
  rintro e w1 ⟨h, hb1⟩
  have c0 : w1.cell? ⟨w.heap.size, 0, none⟩ = some (.bool false) := (hb1.cell (p := ⟨w.heap.size, 0, none⟩) (by simp)).trans (by go_simp)
  have f0 : w1.frozen? ⟨w.heap.size, 0, none⟩ = false := (hb1.frozen (p := ⟨w.heap.size, 0, none⟩) (by simp)).trans (by go_simp)
  have b1 : Below w.heap.size w w1 := bl_trans (by (repeat (first | assumption | exact Below.refl _ _ | (refine bl_alloc ?_ _) | (refine Below.drew ?_) | (refine bl_drewN ?_ _) | (refine bl_set ?_ (by first | (simp; done) | omega | (simp; omega)) _) | (refine bl_trans ?_ (by assumption)) | (refine bl_step ?_ (by assumption) (by first | omega | exact Below.size (by assumption) | (simp; omega) | (simp; exact Below.size (by assumption))))))) hb1
  rcases h with ⟨v, rfl, hv⟩ | ⟨⟨u, pv, rfl⟩, hno⟩
  · go_wp2
    refine leaves_cons (f := 68) (args := #[.pointer (some ⟨w.heap.size, 0, none⟩)]) (by simp) (by simp [go_sem]) ?_
    refine (catchNs_idle ⟨w.heap.size, 0, none⟩ true _ ?_ ?_).mono ?_
    · exact World.cell?_setCell_same _ _ _ c0
    · simp [f0]
    rintro e u' w'' ⟨rfl, rfl, rfl⟩
    have c1 : (w1.setCell ⟨w.heap.size, 0, none⟩ (.bool true)).cell? ⟨w.heap.size, 0, none⟩ = some (.bool true) := World.cell?_setCell_same _ _ _ c0
    have c2 : ((w1.setCell ⟨w.heap.size, 0, none⟩ (.bool true)).setCell ⟨w.heap.size, 0, none⟩ (.bool true)).cell? ⟨w.heap.size, 0, none⟩ = some (.bool true) := World.cell?_setCell_same _ _ _ c1
    simp [Leaves, settle, results, Tryd.results36, go_sem, c2]
    exact ⟨.inl ⟨_, _, rfl, hv, rfl⟩, (b1.setCell (p := ⟨w.heap.size, 0, none⟩) (Nat.le_refl _) _).setCell (p := ⟨w.heap.size, 0, none⟩) (Nat.le_refl _) _⟩
  · go_wp2
    refine leaves_cons (f := 68) (args := #[.pointer (some ⟨w.heap.size, 0, none⟩)]) (by simp) (by simp [go_sem]) ?_
    refine (catchNs_panicking ⟨w.heap.size, 0, none⟩ false _ _ _ _ c0 f0).mono ?_
    rintro e u' w'' ⟨rfl, rfl, rfl⟩
    have c1 : (w1.setCell ⟨w.heap.size, 0, none⟩ (.bool false)).cell? ⟨w.heap.size, 0, none⟩ = some (.bool false) := World.cell?_setCell_same _ _ _ c0
    simp [Leaves, settle, results, Tryd.results36, go_sem, c1]
    exact ⟨.inr ⟨rfl, hno⟩, b1.setCell (p := ⟨w.heap.size, 0, none⟩) (Nat.le_refl _) _⟩


/-- A function's answer: numbers in memory of its own. -/
def NOwn (L : List Int) (w : World) (e : Ending) (w' : World) : Prop := (∃ v, e = .returned v ∧ OwnI w' w.heap.size v L) ∧ Below w.heap.size w w'
/-- .. and whether it succeeds. -/
def NRes (L : List Int) (ok : Bool) (w : World) (e : Ending) (w' : World) : Prop :=
  ∃ A c, e = .returned (.tuple #[.slice A L.length c, .bool ok]) ∧ Own4 w' w.heap.size A L ∧ Below w.heap.size w w'
theorem NRes.no (w : World) : NRes [] false w (.returned (.tuple #[.slice none 0 0, .bool false])) w := ⟨none, 0, rfl, Own4.none_ _ _ _, Below.refl _ _⟩
theorem OwnI.mono {w : World} {B C : Nat} {v : Value} {L : List Int} (h : OwnI w B v L) (hC : C ≤ B) : OwnI w C v L := by
  refine ⟨h.1, ?_⟩
  rcases h.2 with h0 | ⟨g, cap, cur, rfl, hB, r⟩
  · exact .inl h0
  · exact .inr ⟨g, cap, cur, rfl, Nat.le_trans hC hB, r⟩
theorem nres_att {L : List Int} {NO : Prop} {ok : Bool} {w : World} {e : Ending} {w' : World} (h : AttNsRes (fun v w1 => OwnI w1 (w.heap.size + 1) v L ∧ ok = true) NO w.heap.size w e w') (hno : NO → L = [] ∧ ok = false) : NRes L ok w e w' := by
  obtain ⟨⟨v, w1, rfl, ⟨ho, rfl⟩, rfl⟩ | ⟨rfl, hn⟩, hb⟩ := h
  · have ho2 : OwnI ((w1.setCell ⟨w.heap.size, 0, none⟩ (.bool true)).setCell ⟨w.heap.size, 0, none⟩ (.bool true)) (w.heap.size + 1) v L := ho.keep fun i hi => by
      have hB : w.heap.size + 1 ≤ i := by
        rcases ho.2 with ⟨rfl, _⟩ | ⟨g, cap, cur, rfl, hB, _⟩
        · simp [Value.ownBlock] at hi
        · simp [Value.ownBlock] at hi; omega
      rw [Below.heap_setCell _ _ _ i (by simp; omega), Below.heap_setCell _ _ _ i (by simp; omega)]
    obtain ⟨A, c, rfl, h4⟩ := own4_of (ho2.mono (C := w.heap.size) (by omega))
    exact ⟨A, c, rfl, h4, hb⟩
  · obtain ⟨rfl, rfl⟩ := hno hn
    exact ⟨none, 0, rfl, Own4.none_ _ _ _, hb⟩
end Go.Proofs.YtifenbamookmiaaDoor
namespace Go.Proofs.YtifenbamookmiaaDoor
set_option linter.unusedSimpArgs false
set_option linter.unusedVariables false
open Go.ChangeShapes Go.WideShapes Go.ChangeAt Go.RowKit

/-- A number added at a place. -/
def addN (L : List Int) (i : Nat) (v : Int) : List Int := L.set i (L.getD i 0 + v)
theorem addN_len (L : List Int) (i : Nat) (v : Int) : (addN L i v).length = L.length := by unfold addN; simp
theorem addN_at {L : List Int} {i : Nat} (h : i < L.length) (v : Int) (j : Nat) : (addN L i v).getD j 0 = if j = i then L.getD i 0 + v else L.getD j 0 := set_getD _ _ _ _ h
theorem addN_zero {L : List Int} {i : Nat} (h : i < L.length) : addN L i 0 = L := by
  unfold addN
  rw [Int.add_zero]
  refine List.ext_getElem (by simp) fun j h1 h2 => ?_
  rw [List.getElem_set]
  split
  · rename_i e
    subst e
    rw [List.getD_eq_getElem?_getD, List.getElem?_eq_getElem h]; rfl
  · rfl
/-- The noise of n wires by the gaps below k. -/
def noiTo (B : Mz) (L S : List Int) (n : Nat) : Nat → List Int
  | 0 => List.replicate n 0
  | 1 => List.replicate n 0
  | k + 2 => addN (addN (noiTo B L S n (k + 1)) (wireN L k) (cplAt B L S (k + 1))) (wireN L (k + 1)) (cplAt B L S (k + 1))
theorem noi_len (B : Mz) (L S : List Int) (n : Nat) : ∀ k, (noiTo B L S n k).length = n
  | 0 => by simp [noiTo]
  | 1 => by simp [noiTo]
  | k + 2 => by unfold noiTo; rw [addN_len, addN_len, noi_len B L S n (k + 1)]
theorem noi_next (B : Mz) (L S : List Int) (n k : Nat) : noiTo B L S n (k + 1 + 1) = addN (addN (noiTo B L S n (k + 1)) (wireN L k) (cplAt B L S (k + 1))) (wireN L (k + 1)) (cplAt B L S (k + 1)) := rfl
theorem noi_ge {n : Nat} {B : Mz} {L S : List Int} (b : BnOk B) (e : B.length = n) (o : OrOk n L) : ∀ k, k ≤ n → ∀ j, 0 ≤ (noiTo B L S n k).getD j 0 ∧ (noiTo B L S n k).getD j 0 ≤ 2000 * (k : Int)
  | 0, _, j => by
    have : (noiTo B L S n 0).getD j 0 = 0 := by simp only [noiTo, List.getD_eq_getElem?_getD, List.getElem?_replicate]; split <;> rfl
    rw [this]; omega
  | 1, _, j => by
    have : (noiTo B L S n 1).getD j 0 = 0 := by simp only [noiTo, List.getD_eq_getElem?_getD, List.getElem?_replicate]; split <;> rfl
    rw [this]; omega
  | k + 2, hk, j => by
    have ih := noi_ge (S := S) b e o (k + 1) (by omega)
    have hv := cplAt_ge (S := S) b e o (k := k + 1) (by omega)
    have h0 := (o.wire (i := k) (by omega)).1
    have h1 := (o.wire (i := k + 1) (by omega)).1
    rw [noi_next, addN_at (by rw [addN_len, noi_len]; exact h1), addN_at (by rw [noi_len]; exact h0), addN_at (by rw [noi_len]; exact h0)]
    have i1 := ih j
    have i2 := ih (wireN L k)
    have i3 := ih (wireN L (k + 1))
    split <;> split <;> omega
/-- What NoiseOf answers. -/
def noL (B : Mz) (L S : List Int) : List Int := if loB B L S then noiTo B L S B.length B.length else []
theorem noL_len {B : Mz} {L S : List Int} : (noL B L S).length ≤ 1048576 := by
  unfold noL
  split
  · rename_i h
    rw [noi_len]
    unfold loB at h
    rw [Bool.and_eq_true, bnB_iff] at h
    have := h.1.h9; omega
  · simp
theorem wire_ne {n : Nat} {L : List Int} (o : OrOk n L) {m : Nat} (h : m + 1 < n) : wireN L m ≠ wireN L (m + 1) := fun e => by
  have := o.dis m (m + 1) (by omega) h
  rw [(o.wire (i := m) (by omega)).2, (o.wire h).2, e] at this
  exact this rfl
end Go.Proofs.YtifenbamookmiaaDoor
namespace Go.Proofs.YtifenbamookmiaaDoor
set_option linter.unusedSimpArgs false
set_option linter.unusedVariables false
open Go.ChangeShapes Go.WideShapes Go.ChangeAt Go.RowKit Go.BigFrame

theorem nblk_zero (w : World) (n : Nat) : IBlk (w.alloc (.cells (blankN n) 2)) w.heap.size (List.replicate n 0) n := by
  refine ⟨blankN n, by unfold World.alloc; simp, by simp [blankN, madeCells], fun i hi hl => ?_⟩
  have h1 : (List.replicate n (0 : Int)).getD i 0 = 0 := by rw [List.getD_eq_getElem?_getD, List.getElem?_replicate]; split <;> rfl
  rw [h1]
  simp [blankN, madeCells, hi, Nat.mod_one]
set_option maxRecDepth 100000 in
set_option maxHeartbeats 3200000 in
theorem l10Noise_any (g : Nat) (A : Option Addr) (n c : Nat) (B : Mz) (AO : Option Addr) (L : List Int) (cO : Nat) (AS : Option Addr) (S : List Int) (cS : Nat) (w : World) (hg : w.cell? ⟨g, 0, none⟩ = some (.slice A n c)) (hgl : g < w.heap.size) (h : LoAt w A AO n B L) (hS : IntsAt w w.heap.size AS S) (lS : S.length ≤ 1048576) :
    Calls Tryd.prog 35 #[.pointer (some ⟨g, 0, none⟩), .slice AO n cO, .slice AS S.length cS] w fun e w' => ∃ G, e = .returned (.slice (some ⟨G, 0, none⟩) n n) ∧ w.heap.size ≤ G ∧ IBlk w' G (noiTo B L S n n) n ∧ Below w.heap.size w w' := by
  obtain ⟨h1, h9⟩ := h.n9
  have h9I : (n : Int) ≤ 9 := by omega
  have h1I : (1 : Int) ≤ (n : Int) := by omega
  obtain ⟨bo, oo, rfl, hbo, ho⟩ := h.wires
  obtain ⟨b, off, rfl, hbB, hc⟩ := h.sq
  have HW : Hid (∀ i, i < n → wireN L i < n) := fun i hi => (h.ok.wire hi).1
  have HNE : Hid (∀ m, m + 1 < n → wireN L m ≠ wireN L (m + 1)) := fun m hm => wire_ne h.ok hm
  have HO := Lib.hid ho
  have HC := Lib.hid hc
  have HG : Hid (∀ k, k ≤ n → ∀ j, 0 ≤ (noiTo B L S n k).getD j 0 ∧ (noiTo B L S n k).getD j 0 ≤ 2000 * (k : Int)) := fun k hk => noi_ge h.bn h.len h.ok k hk
  have HV : Hid (∀ k, k < n → 0 ≤ cplAt B L S k ∧ cplAt B L S k ≤ 1000) := fun k hk => cplAt_ge h.bn h.len h.ok hk
  have CH := Lib.hid (fun (v : Int) (bv : Bool) (HI : Hid (S.contains v = bv)) (wx : World) (hx : Below w.heap.size w wx) => l00Has_at AS S cS v bv HI wx (hS.to hx) lS)
  have hmk := run_mknums n (by omega)
  clear h hS lS ho hc
  generalize hls : S.length = ls at *
  clear hls
  go_enter Tryd.func35, Tryd.ntmps35
  go_wp2
  have hI0 := nblk_zero w n
  have hb0 : Below w.heap.size w (w.alloc (.cells (blankN n) 2)) := (Below.refl _ _).alloc (Nat.le_refl _) _
  clear hmk
  generalize (w.alloc (.cells (blankN n) 2)) = w0 at *
  go_loopw [8, 9] (fun i _ wr => ∃ k : Nat, 1 ≤ k ∧ k ≤ n ∧ i = .int .i64 k ∧ IBlk wr w.heap.size (noiTo B L S n k) n ∧ Below w.heap.size w wr) (fun i _ _ => n - (intOf i).toNat)
  case atStart => exact ⟨1, Nat.le_refl _, h1, rfl, hI0, hb0⟩
  case round =>
    clear hI0 hb0
    obtain ⟨k, hk1, hk, rfl, hI, hb⟩ := hrel
    by_cases hlt : k < n
    case neg =>
      obtain rfl : k = n := by omega
      have hI2 := hI
      go_wp2
      go_ret
      exact ⟨w.heap.size, rfl, Nat.le_refl _, hI, hb⟩
    obtain ⟨m, rfl⟩ : ∃ m, k = m + 1 := ⟨k - 1, by omega⟩
    have hmN : m < n := by omega
    have hkI : (m : Int) + 1 < (n : Int) := by omega
    have hk0 : (0 : Int) ≤ (m : Int) + 1 := by omega
    have hm0 : (0 : Int) ≤ (m : Int) := by omega
    have hmI : (m : Int) < (n : Int) := by omega
    have ek : ((m + 1 : Nat) : Int) = (m : Int) + 1 := by omega
    have et : ((m : Int) + 1).toNat = m + 1 := by omega
    have HNX := Lib.hid (noi_next B L S n m)
    obtain ⟨hv0, hv1⟩ := HV.out (m + 1) hlt
    have n0 := HW.out m hmN
    have n1 := HW.out (m + 1) hlt
    have hLn := noi_len B L S n (m + 1)
    cases hin : S.contains ((m : Int) + 1)
    · have HI := Lib.hid hin
      have hat : cplAt B L S (m + 1) = wtI B (wireN L m) (wireN L (m + 1)) := by
        unfold cplAt
        rw [ek, hin]; rfl
      have q0 := HO.out m hmN
      have q1 := HO.out (m + 1) hlt
      obtain ⟨bi, oi, ci, hbi, r0, r1⟩ := HC.out _ n0
      have r2 := r1 _ n1
      rw [← hat] at r2
      have q0' := (hb.cell (p := ⟨bo, oo + m, none⟩) hbo).trans q0
      have q1' := (hb.cell (p := ⟨bo, oo + (m + 1), none⟩) hbo).trans q1
      have r0' := (hb.cell (p := ⟨b, off + wireN L m, none⟩) hbB).trans r0
      have r2' := (hb.cell (p := ⟨bi, oi + wireN L (m + 1), none⟩) hbi).trans r2
      have g0 := (hb.cell (p := ⟨g, 0, none⟩) hgl).trans hg
      have zg : g < wr.heap.size := Nat.lt_of_lt_of_le hgl hb.size
      have zo : bo < wr.heap.size := Nat.lt_of_lt_of_le hbo hb.size
      have zb : b < wr.heap.size := Nat.lt_of_lt_of_le hbB hb.size
      have zi : bi < wr.heap.size := Nat.lt_of_lt_of_le hbi hb.size
      have n0I : (wireN L m : Int) < (n : Int) := by omega
      have n1I : (wireN L (m + 1) : Int) < (n : Int) := by omega
      have hne := HNE.out m hlt
      have hG0 := HG.out (m + 1) hk
      obtain ⟨F, hF⟩ : ∃ F, noiTo B L S n (m + 1) = F := ⟨_, rfl⟩
      rw [hF] at HNX hI hLn hG0
      have ⟨a0, a1⟩ := hG0 (wireN L m)
      have ⟨b0, b1⟩ := hG0 (wireN L (m + 1))
      clear hin hat q0 q1 r0 r1 r2 hF hG0
      generalize wireN L m = x at *
      generalize wireN L (m + 1) = y at *
      generalize cplAt B L S (m + 1) = v at *
      have HF1 := Lib.hid (addN_at (L := F) (i := x) (by rw [hLn]; exact n0) v y)
      rw [if_neg (Ne.symm hne)] at HF1
      have a1' : F.getD x 0 ≤ 18000 := by omega
      have b1' : F.getD y 0 ≤ 18000 := by omega
      clear a1 b1
      go_wp2_with fail
      refine (CH.out _ false HI _ hb).mono ?_
      rintro e w2 ⟨rfl, rfl⟩
      go_wp2
      refine wp_region_over (by kernel_rfl) (by kernel_rfl) ?_
      have hov := over_cells w2
      repeat (go_big_quiet_step ((fail)))
      refine over_nil (fun w2 hb2 => ?_)
      clear hov
      have hI2 := hI.to hb2
      have hbw := bl_trans hb hb2
      have p0 := (hb2.cell (p := ⟨bo, oo + m, none⟩) zo).trans q0'
      have p1 := (hb2.cell (p := ⟨bo, oo + (m + 1), none⟩) zo).trans q1'
      have z0 := hI2.at_ (i := x) n0 (by rw [hLn]; exact n0)
      have zf := hI2.frozen x
      have hbo2 : bo ≠ w.heap.size := by omega
      clear q0' q1' r0' r2' g0 hb2 hI hb
      have hI3 : IBlk (w2.setCell ⟨w.heap.size, x, none⟩ (.int .i64 (F.getD x 0 + v))) w.heap.size (addN F x v) n := by
        have := (hLn ▸ hI2 : IBlk w2 w.heap.size F F.length)
        have := this.put (k := x) (by rw [hLn]; exact n0) (F.getD x 0 + v)
        have e : (addN F x v).length = n := by rw [addN_len, hLn]
        rw [← e]; exact this
      have hb3 := hbw.setCell (p := ⟨w.heap.size, x, none⟩) (Nat.le_refl _) (.int .i64 (F.getD x 0 + v))
      have p1' : (w2.setCell ⟨w.heap.size, x, none⟩ (.int .i64 (F.getD x 0 + v))).cell? ⟨bo, oo + (m + 1), none⟩ = some (.int .i64 (y : Int)) := (World.cell?_of_block (a := ⟨bo, oo + (m + 1), none⟩) (Below.heap_setCell _ _ _ _ (by simpa using hbo2))).trans p1
      have z1 := hI3.at_ (i := y) n1 (by rw [addN_len, hLn]; exact n1)
      rw [HF1.out] at z1
      have zf1 := hI3.frozen y
      have hI4 : IBlk ((w2.setCell ⟨w.heap.size, x, none⟩ (.int .i64 (F.getD x 0 + v))).setCell ⟨w.heap.size, y, none⟩ (.int .i64 (F.getD y 0 + v))) w.heap.size (addN (addN F x v) y v) n := by
        have hl2 : (addN F x v).length = n := by rw [addN_len, hLn]
        have := (hl2 ▸ hI3 : IBlk (w2.setCell ⟨w.heap.size, x, none⟩ (.int .i64 (F.getD x 0 + v))) w.heap.size (addN F x v) (addN F x v).length)
        have := this.put (k := y) (by rw [hl2]; exact n1) (F.getD y 0 + v)
        have e : (addN (addN F x v) y v).length = n := by rw [addN_len, hl2]
        rw [← e]
        unfold addN at this ⊢
        have h3 := HF1.out
        unfold addN at h3
        rw [h3]; exact this
      have HI4 : Hid (IBlk ((w2.setCell ⟨w.heap.size, x, none⟩ (.int .i64 (F.getD x 0 + v))).setCell ⟨w.heap.size, y, none⟩ (.int .i64 (F.getD y 0 + v))) w.heap.size (noiTo B L S n (m + 1 + 1)) n) := by rw [HNX.out]; exact hI4
      have hb4 := hb3.setCell (p := ⟨w.heap.size, y, none⟩) (Nat.le_refl _) (.int .i64 (F.getD y 0 + v))
      have ew1 : IntKind.i64.wrap (F.getD x 0 + v) = F.getD x 0 + v := IntWalk.i64_in _ (by omega)
      have ew2 : IntKind.i64.wrap (F.getD y 0 + v) = F.getD y 0 + v := IntWalk.i64_in _ (by omega)
      clear hI2 hI3 hI4 HF1
      generalize F.getD x 0 = fx at *
      generalize F.getD y 0 = fy at *
      go_wp2
      go_roundw
      case rel => exact ⟨m + 1 + 1, by omega, by omega, by go_num, HI4.out, hb4⟩
      case measure => simp [intOf]; omega
    · have HI := Lib.hid hin
      have hat : cplAt B L S (m + 1) = 0 := by
        unfold cplAt
        rw [ek, hin]; rfl
      have HI4 : Hid (IBlk wr w.heap.size (noiTo B L S n (m + 1 + 1)) n) := by
        show IBlk _ _ _ _
        rw [HNX.out, hat, show addN (noiTo B L S n (m + 1)) (wireN L m) 0 = noiTo B L S n (m + 1) from addN_zero (by rw [hLn]; exact n0), addN_zero (by rw [hLn]; exact n1)]; exact hI
      clear hin hat hv0 hv1 hLn hI
      go_wp2_with fail
      refine (CH.out _ true HI _ hb).mono ?_
      rintro e w2 ⟨rfl, rfl⟩
      go_wp2
      go_roundw
      case rel => exact ⟨m + 1 + 1, by omega, by omega, by go_num, HI4.out, hb⟩
      case measure => simp [intOf]; omega
set_option maxRecDepth 100000 in
set_option maxHeartbeats 1600000 in
theorem NoiseOfS_any (A : Option Addr) (Ls : List SlI) (c : Nat) (AO : Option Addr) (L : List Int) (cO : Nat) (AS : Option Addr) (S : List Int) (cS : Nat) (w : World) (hp : ISAt w w.heap.size A Ls) (hs : ShI Ls) (hL : IntsAt w w.heap.size AO L) (lL : L.length ≤ 1048576) (hS : IntsAt w w.heap.size AS S) (lS : S.length ≤ 1048576) :
    Calls Tryd.prog 15 #[.agg #[.slice A Ls.length c], .slice AO L.length cO, .slice AS S.length cS] w (NRes (noL (heldI Ls) L S) (loB (heldI Ls) L S) w) := by
  have hx : Below w.heap.size w (w.alloc (.cells #[.slice A Ls.length c] 29)) := by (repeat (first | assumption | exact Below.refl _ _ | (refine bl_alloc ?_ _) | (refine Below.drew ?_) | (refine bl_drewN ?_ _) | (refine bl_set ?_ (by first | (simp; done) | omega | (simp; omega)) _) | (refine bl_trans ?_ (by assumption)) | (refine bl_step ?_ (by assumption) (by first | omega | exact Below.size (by assumption) | (simp; omega) | (simp; exact Below.size (by assumption))))))
  have kB := Blk.new w #[.slice A Ls.length c] 29
  have CL := Lib.hid (l10Layout_any w.heap.size A Ls c AO L cO AS S cS (w.alloc (.cells #[.slice A Ls.length c] 29)) (kB.cell 0 rfl) kB.lt (hp.to hx) hs (hL.to hx) lL (hS.to hx) lS)
  have CC := Lib.hid (fun (h : loB (heldI Ls) L S = true) (wx : World) (hb : Below (w.alloc (.cells #[.slice A Ls.length c] 29)).heap.size (w.alloc (.cells #[.slice A Ls.length c] 29)) wx) => l10Noise_any w.heap.size A Ls.length c (heldI Ls) AO L cO AS S cS wx ((kB.to hb).cell 0 rfl) (kB.to hb).lt ((loB_lo hp hL h).1.to (bl_step hx hb hx.size)) (hS.to (bl_step hx hb hx.size)) lS)
  have HLN : Hid (loB (heldI Ls) L S = true → L.length = Ls.length) := fun h => (loB_lo hp hL h).2
  have HX : Hid (noL (heldI Ls) L S = if loB (heldI Ls) L S then noiTo (heldI Ls) L S Ls.length Ls.length else []) := by show _ = _; unfold noL; rw [heldI_len]
  clear hp hs hL hS kB
  cases hv : loB (heldI Ls) L S
  · have R : Hid (noL (heldI Ls) L S = []) := by show _ = _; rw [HX.out, hv]; rfl
    rw [hv] at CL
    rw [R.out]
    clear hv CC HLN HX
    generalize Ls.length = n at *
    generalize L.length = m at *
    generalize S.length = ls at *
    go_enter Tryd.func15, Tryd.ntmps15
    go_wp2_with fail
    refine CL.out.mono ?_
    rintro e w1 ⟨rfl, hb1⟩
    go_wp2
    go_ret2
    exact ⟨none, 0, rfl, Own4.none_ _ _ _, bl_step hx hb1 hx.size⟩
  · have R : Hid (noL (heldI Ls) L S = noiTo (heldI Ls) L S Ls.length Ls.length) := by show _ = _; rw [HX.out, hv]; rfl
    have hln := HLN.out hv
    have CC2 := Lib.hid (CC.out hv)
    have HLL := Lib.hid (noi_len (heldI Ls) L S Ls.length Ls.length)
    rw [hv] at CL
    rw [R.out]
    rw [hln] at CL ⊢
    clear hv CC HLN HX hln lL
    generalize Ls.length = n at *
    generalize S.length = ls at *
    generalize noiTo (heldI Ls) L S n n = v at *
    go_enter Tryd.func15, Tryd.ntmps15
    go_wp2_with fail
    generalize (w.alloc (.cells #[.slice A n c] 29)) = w0 at *
    refine CL.out.mono ?_
    rintro e w1 ⟨rfl, hb1⟩
    go_wp2_with fail
    refine (CC2.out _ hb1).mono ?_
    rintro e w2 ⟨G, rfl, hG, hI, hb2⟩
    have hGw : w.heap.size ≤ G := by have := hx.size; have := hb1.size; omega
    go_wp2
    go_ret2
    exact ⟨some ⟨G, 0, none⟩, n, by rw [HLL.out]; rfl, fun _ => ⟨G, rfl, hGw, by rw [HLL.out]; exact hI⟩, bl_step hx (bl_trans hb1 hb2) hx.size⟩
end Go.Proofs.YtifenbamookmiaaDoor
namespace Go.Proofs.YtifenbamookmiaaDoor
set_option linter.unusedSimpArgs false
set_option linter.unusedVariables false
open Go.ChangeShapes Go.WideShapes Go.ChangeAt Go.RowKit Go.BigFrame

theorem cloneI_any (A : Option Addr) (L : List Int) (c : Nat) (w : World) (hp : IntsAt w w.heap.size A L) (h0 : 0 < L.length) (hl : L.length ≤ 1048576) :
    Calls Tryd.prog 39 #[.slice A L.length c] w (OwnB L w) := by
  obtain ⟨b, off, rfl, hb, hc⟩ := hp h0
  obtain ⟨i0, hi0, hiz, his, hib⟩ := info_parts infoIO
  have cC := AnyE.slices_Clone Tryd.cloneI i0 _ 1 8 hi0 hiz his hib rfl (by decide) Tryd.sizeOf2 b off L.length c (cellsI L) w (cellsI_len L) (by unfold maxLen; omega) (by omega) (news_int hc) (cellsI_one L)
  change Calls Tryd.prog 39 _ _ _ at cC
  refine cC.mono ?_
  rintro e w1 ⟨v, rfl, ho, _, hb1⟩
  have hO : OwnI w1 w.heap.size v L := ho
  obtain ⟨g, d, rfl, hg, hI, _⟩ := hO.iblk h0
  exact ⟨g, d, rfl, hg, hI, hO, hb1⟩
theorem shM_nil (n : Nat) : shM n [] = 0 := by
  unfold shM
  induction n with
  | zero => rfl
  | succ n ih => rw [maskTo_f (by rfl)]; exact ih
/-- A layout without shields, its order in a block of its own. -/
def SwpRes (A : Option Addr) (n c : Nat) (Q : List Int) (w : World) (e : Ending) (w' : World) : Prop :=
  ∃ g d, e = .returned (.agg #[.slice A n c, .slice (some ⟨g, 0, none⟩) n d, .int .u64 0]) ∧ w.heap.size ≤ g ∧ IBlk w' g Q n ∧ Below w.heap.size w w'
set_option maxRecDepth 100000 in
set_option maxHeartbeats 3200000 in
theorem swapped_any (A : Option Addr) (n c : Nat) (B : Mz) (AO : Option Addr) (L : List Int) (cO p : Nat) (w : World) (h : LoAt w A AO n B L) (hp : p + 1 < n) :
    Calls Tryd.prog 74 #[.agg #[.slice A n c, .slice AO n cO, .int .u64 0], .int .i64 (p : Int)] w (SwpRes A n c (swpL L p) w) := by
  have h9 := h.n9
  have hlen := h.ok.len
  have hx : Below w.heap.size w ((w.alloc (.cells #[.slice A n c, .slice AO n cO, .int .u64 0] 57)).alloc (.cells #[.slice none 0 0, .slice none 0 0, .int .u64 0] 57)) := by (repeat (first | assumption | exact Below.refl _ _ | (refine bl_alloc ?_ _) | (refine Below.drew ?_) | (refine bl_drewN ?_ _) | (refine bl_set ?_ (by first | (simp; done) | omega | (simp; omega)) _) | (refine bl_trans ?_ (by assumption)) | (refine bl_step ?_ (by assumption) (by first | omega | exact Below.size (by assumption) | (simp; omega) | (simp; exact Below.size (by assumption))))))
  have kB : Blk ((w.alloc (.cells #[.slice A n c, .slice AO n cO, .int .u64 0] 57)).alloc (.cells #[.slice none 0 0, .slice none 0 0, .int .u64 0] 57)) w.heap.size #[.slice A n c, .slice AO n cO, .int .u64 0] 57 := (Blk.new _ _ _).alloc _
  have kR : Blk ((w.alloc (.cells #[.slice A n c, .slice AO n cO, .int .u64 0] 57)).alloc (.cells #[.slice none 0 0, .slice none 0 0, .int .u64 0] 57)) (w.heap.size + 1) #[.slice none 0 0, .slice none 0 0, .int .u64 0] 57 := by
    have := Blk.new (w.alloc (.cells #[.slice A n c, .slice AO n cO, .int .u64 0] 57)) #[.slice none 0 0, .slice none 0 0, .int .u64 0] 57
    rwa [World.size_alloc] at this
  have CC := Lib.hid (by
    have := cloneI_any AO L cO ((w.alloc (.cells #[.slice A n c, .slice AO n cO, .int .u64 0] 57)).alloc (.cells #[.slice none 0 0, .slice none 0 0, .int .u64 0] 57)) (h.ord.to hx) (by omega) (by omega)
    rw [hlen] at this
    exact this)
  have s1 := kB.cell 1 (v := .slice AO n cO) rfl
  have hpI : (p : Int) + 1 < (n : Int) := by omega
  have hp0 : (0 : Int) ≤ (p : Int) := by omega
  have hp1 : (0 : Int) ≤ (p : Int) + 1 := by omega
  have hpL : (p : Int) < (n : Int) := by omega
  have h9I : (n : Int) ≤ 9 := by omega
  have et : ((p : Int) + 1).toNat = p + 1 := by omega
  have ew1 : IntKind.i64.wrap ((p : Int) + 1) = (p : Int) + 1 := IntWalk.i64_in _ (by omega)
  have HS : Hid ((L.set p (L.getD (p + 1) 0)).set (p + 1) (L.getD p 0) = swpL L p) := rfl
  obtain ⟨x, hxx⟩ : ∃ x, L.getD p 0 = x := ⟨_, rfl⟩
  obtain ⟨y, hyy⟩ : ∃ y, L.getD (p + 1) 0 = y := ⟨_, rfl⟩
  rw [hxx, hyy] at HS
  have HX := Lib.hid hxx
  have HY := Lib.hid hyy
  have HLn := Lib.hid hlen
  clear h hlen hxx hyy
  go_enter Tryd.func74, Tryd.ntmps74
  go_wp2_with fail
  generalize ((w.alloc (.cells #[.slice A n c, .slice AO n cO, .int .u64 0] 57)).alloc (.cells #[.slice none 0 0, .slice none 0 0, .int .u64 0] 57)) = w0 at *
  refine CC.out.mono ?_
  rintro e w1 ⟨g, d, he, hg, hI, _, hb1⟩
  rw [HLn.out] at he
  subst he
  have lB := kB.lt
  have lR := kR.lt
  replace kB := kB.to hb1
  replace kR := kR.to hb1
  have b1 := bl_step hx hb1 hx.size
  have s0 := hI.at_ (i := p) (by rw [HLn.out]; omega) (by rw [HLn.out]; omega)
  have s2 := hI.at_ (i := p + 1) (by rw [HLn.out]; omega) (by rw [HLn.out]; omega)
  rw [HX.out] at s0
  rw [HY.out] at s2
  have lg := hI.lt
  have hgw : w.heap.size ≤ g := by have := hx.size; omega
  have hgB : w.heap.size ≠ g := by omega
  have hgR : w.heap.size + 1 ≠ g := by omega
  clear s1 hb1 hx CC
  go_wp2
  have hI2 := hI.to ((Below.refl w1.heap.size w1).drew)
  replace kB := kB.to ((Below.refl w1.heap.size w1).drew)
  replace kR := kR.to ((Below.refl w1.heap.size w1).drew)
  have b2 : Below w.heap.size w w1.drew := b1.drew
  refine wp_region_tree (fun _ => True) (Pl.takes [0, 1, 2, 3, 4, 5, 6, 7, 8, 10, 11, 12] (.fork 9 (.alone 13 (Pl.takes [14] (.alone 15 (Pl.takes [16] (.alone 17 .done))))) 13 (.alone 9 (Pl.takes [14] (.alone 15 (Pl.takes [16] (.alone 17 .done))))))) (by kernel_rfl) (by kernel_rfl) (by kernel_rfl) (fun _ d _ _ _ h => by cases d <;> exact h) trivial (fun _ => ?_)
  refine tplan_w (v := ?_) rfl (by rfl) ?_ ?_
  rotate_left
  · intro wx hSx
    try dsimp only at hSx
    go_simp
    try (with_reducible rfl)
  try simp only [Act.put, List.setIfInBounds_toArray, List.set_cons_zero, List.set_cons_succ]
  refine tplan_w (v := ?_) rfl (by rfl) ?_ ?_
  rotate_left
  · intro wx hSx
    try dsimp only at hSx
    go_simp
    try (with_reducible rfl)
  try simp only [Act.put, List.setIfInBounds_toArray, List.set_cons_zero, List.set_cons_succ]
  refine tplan_w (v := ?_) rfl (by rfl) ?_ ?_
  rotate_left
  · intro wx hSx
    try dsimp only at hSx
    go_simp
    try (with_reducible rfl)
  try simp only [Act.put, List.setIfInBounds_toArray, List.set_cons_zero, List.set_cons_succ]
  refine tplan_w (v := ?_) rfl (by rfl) ?_ ?_
  rotate_left
  · intro wx hSx
    try dsimp only at hSx
    go_simp
    try (with_reducible rfl)
  try simp only [Act.put, List.setIfInBounds_toArray, List.set_cons_zero, List.set_cons_succ]
  refine tplan_w (v := ?_) rfl (by rfl) ?_ ?_
  rotate_left
  · intro wx hSx
    try dsimp only at hSx
    go_simp
    try (with_reducible rfl)
  try simp only [Act.put, List.setIfInBounds_toArray, List.set_cons_zero, List.set_cons_succ]
  refine tplan_w (v := ?_) rfl (by rfl) ?_ ?_
  rotate_left
  · intro wx hSx
    try dsimp only at hSx
    go_simp
    try (with_reducible rfl)
  try simp only [Act.put, List.setIfInBounds_toArray, List.set_cons_zero, List.set_cons_succ]
  refine tplan_w (v := ?_) rfl (by rfl) ?_ ?_
  rotate_left
  · intro wx hSx
    try dsimp only at hSx
    go_simp
    try (with_reducible rfl)
  try simp only [Act.put, List.setIfInBounds_toArray, List.set_cons_zero, List.set_cons_succ]
  refine tplan_w (v := ?_) rfl (by rfl) ?_ ?_
  rotate_left
  · intro wx hSx
    try dsimp only at hSx
    go_simp
    try (with_reducible rfl)
  try simp only [Act.put, List.setIfInBounds_toArray, List.set_cons_zero, List.set_cons_succ]
  refine tplan_w (v := ?_) rfl (by rfl) ?_ ?_
  rotate_left
  · intro wx hSx
    try dsimp only at hSx
    go_simp
    try (with_reducible rfl)
  try simp only [Act.put, List.setIfInBounds_toArray, List.set_cons_zero, List.set_cons_succ]
  refine tplan_w (v := ?_) rfl (by rfl) ?_ ?_
  rotate_left
  · intro wx hSx
    try dsimp only at hSx
    go_simp
    try (with_reducible rfl)
  try simp only [Act.put, List.setIfInBounds_toArray, List.set_cons_zero, List.set_cons_succ]
  refine tplan_w (v := ?_) rfl (by rfl) ?_ ?_
  rotate_left
  · intro wx hSx
    try dsimp only at hSx
    go_simp
    try (with_reducible rfl)
  try simp only [Act.put, List.setIfInBounds_toArray, List.set_cons_zero, List.set_cons_succ]
  refine tplan_w (v := ?_) rfl (by rfl) ?_ ?_
  rotate_left
  · intro wx hSx
    try dsimp only at hSx
    go_simp
    try (with_reducible rfl)
  try simp only [Act.put, List.setIfInBounds_toArray, List.set_cons_zero, List.set_cons_succ]
  replace s0 : w1.drew.cell? ⟨g, p, none⟩ = some (.int .i64 x) := s0
  replace s2 : w1.drew.cell? ⟨g, p + 1, none⟩ = some (.int .i64 y) := s2
  clear hI b1
  generalize w1.drew = w2 at *
  refine tplan_fork ?_ ?_
  · refine tplan_b rfl (fun K hK => ?_)
    go_simp
    refine hK _ _ ⟨trivial, ?_⟩
    clear hK K
    try simp only [Act.put, List.setIfInBounds_toArray, List.set_cons_zero, List.set_cons_succ]
    refine tplan_b rfl (fun K hK => ?_)
    go_simp
    refine hK _ _ ⟨trivial, ?_⟩
    clear hK K
    try simp only [Act.put, List.setIfInBounds_toArray, List.set_cons_zero, List.set_cons_succ]
    refine tplan_w (v := ?_) rfl (by rfl) ?_ ?_
    rotate_left
    · intro wx hSx
      try dsimp only at hSx
      go_simp
      try (with_reducible rfl)
    try simp only [Act.put, List.setIfInBounds_toArray, List.set_cons_zero, List.set_cons_succ]
    clear s0 s2
    have t0 := hI2.at_ (i := p) (by rw [HLn.out]; omega) (by rw [HLn.out]; omega)
    have f0 := hI2.frozen p
    refine tplan_b rfl (fun K hK => ?_)
    go_simp
    refine hK _ _ ⟨trivial, ?_⟩
    clear hK K
    try simp only [Act.put, List.setIfInBounds_toArray, List.set_cons_zero, List.set_cons_succ]
    have hI3 := hI2.put (k := p) (by rw [HLn.out]; omega) y
    have kB3 := kB.far (p := ⟨g, p, none⟩) (by simpa using hgB) (.int .i64 y)
    have kR3 := kR.far (p := ⟨g, p, none⟩) (by simpa using hgR) (.int .i64 y)
    have b3 := b2.setCell (p := ⟨g, p, none⟩) hgw (.int .i64 y)
    generalize w2.setCell ⟨g, p, none⟩ (.int .i64 y) = w3 at *
    have t1 := hI3.at_ (i := p + 1) (by simp [HLn.out]; omega) (by simp [HLn.out]; omega)
    have f1 := hI3.frozen (p + 1)
    clear t0 f0 hI2 lg
    refine tplan_w (v := ?_) rfl (by rfl) ?_ ?_
    rotate_left
    · intro wx hSx
      try dsimp only at hSx
      go_simp
      try (with_reducible rfl)
    try simp only [Act.put, List.setIfInBounds_toArray, List.set_cons_zero, List.set_cons_succ]
    refine tplan_b rfl (fun K hK => ?_)
    go_simp
    refine hK _ _ ⟨trivial, ?_⟩
    clear hK K
    try simp only [Act.put, List.setIfInBounds_toArray, List.set_cons_zero, List.set_cons_succ]
    refine tplan_endQ ?_
    have hI4 := hI3.put (k := p + 1) (by simp [HLn.out]; omega) x
    have hI5 : Hid (IBlk (w3.setCell ⟨g, p + 1, none⟩ (.int .i64 x)) g (swpL L p) n) := by
      have := hI4
      rw [HS.out] at this
      rw [swp_len, HLn.out] at this
      exact this
    have kB4 := kB3.far (p := ⟨g, p + 1, none⟩) (by simpa using hgB) (.int .i64 x)
    have kR4 := kR3.far (p := ⟨g, p + 1, none⟩) (by simpa using hgR) (.int .i64 x)
    have b4 := b3.setCell (p := ⟨g, p + 1, none⟩) hgw (.int .i64 x)
    clear hI3 hI4 t1 f1 kB kR kB3 kR3 b2 b3
    generalize w3.setCell ⟨g, p + 1, none⟩ (.int .i64 x) = w4 at *
    have c0 := kB4.cell 0 (v := .slice A n c) rfl
    go_wp2_with fail
    refine (inOrder_any _ _ _ _ _ _ _).mono ?_
    rintro e w5 ⟨rfl, hb5⟩
    have hI6 := hI5.out.to hb5
    replace kR := kR4.to hb5
    have b5 := bl_trans b4 hb5
    have r0 := kR.cell 0 (v := .slice none 0 0) rfl
    have r1 := kR.cell 1 (v := .slice none 0 0) rfl
    have r2 := kR.cell 2 (v := .int .u64 0) rfl
    have f0 := kR.frozen 0
    have f1 := kR.frozen 1
    have f2 := kR.frozen 2
    clear hb5 hI5 kB4 c0 kR4 b4
    go_wp2
    have kE := ((kR.set 0 (.slice A n c)).set 1 (.slice (some ⟨g, 0, none⟩) n d)).set 2 (.int .u64 0)
    have bE := ((b5.setCell (p := ⟨w.heap.size + 1, 0, none⟩) (by simp) (.slice A n c)).setCell (p := ⟨w.heap.size + 1, 1, none⟩) (by simp) (.slice (some ⟨g, 0, none⟩) n d)).setCell (p := ⟨w.heap.size + 1, 2, none⟩) (by simp) (.int .u64 0)
    have hIE : IBlk (((w5.setCell ⟨w.heap.size + 1, 0, none⟩ (.slice A n c)).setCell ⟨w.heap.size + 1, 1, none⟩ (.slice (some ⟨g, 0, none⟩) n d)).setCell ⟨w.heap.size + 1, 2, none⟩ (.int .u64 0)) g (swpL L p) n := hI6.keep (by
      rw [Below.heap_setCell _ _ _ g (by simp; omega), Below.heap_setCell _ _ _ g (by simp; omega), Below.heap_setCell _ _ _ g (by simp; omega)])
    generalize (((w5.setCell ⟨w.heap.size + 1, 0, none⟩ (.slice A n c)).setCell ⟨w.heap.size + 1, 1, none⟩ (.slice (some ⟨g, 0, none⟩) n d)).setCell ⟨w.heap.size + 1, 2, none⟩ (.int .u64 0)) = wE at *
    have e0 := kE.cell 0 (v := .slice A n c) (by simp)
    have e1 := kE.cell 1 (v := .slice (some ⟨g, 0, none⟩) n d) (by simp)
    have e2 := kE.cell 2 (v := .int .u64 0) (by simp)
    refine bodyPost_ret_by (v := .agg #[.slice A n c, .slice (some ⟨g, 0, none⟩) n d, .int .u64 0]) ?_ rfl ⟨g, d, rfl, hgw, hIE, bE⟩
    simp [results, Tryd.results74, go_sem, e0, e1, e2]
  · refine tplan_b rfl (fun K hK => ?_)
    go_simp
    refine hK _ _ ⟨trivial, ?_⟩
    clear hK K
    try simp only [Act.put, List.setIfInBounds_toArray, List.set_cons_zero, List.set_cons_succ]
    refine tplan_b rfl (fun K hK => ?_)
    go_simp
    refine hK _ _ ⟨trivial, ?_⟩
    clear hK K
    try simp only [Act.put, List.setIfInBounds_toArray, List.set_cons_zero, List.set_cons_succ]
    refine tplan_w (v := ?_) rfl (by rfl) ?_ ?_
    rotate_left
    · intro wx hSx
      try dsimp only at hSx
      go_simp
      try (with_reducible rfl)
    try simp only [Act.put, List.setIfInBounds_toArray, List.set_cons_zero, List.set_cons_succ]
    clear s0 s2
    have t0 := hI2.at_ (i := p) (by rw [HLn.out]; omega) (by rw [HLn.out]; omega)
    have f0 := hI2.frozen p
    refine tplan_b rfl (fun K hK => ?_)
    go_simp
    refine hK _ _ ⟨trivial, ?_⟩
    clear hK K
    try simp only [Act.put, List.setIfInBounds_toArray, List.set_cons_zero, List.set_cons_succ]
    have hI3 := hI2.put (k := p) (by rw [HLn.out]; omega) y
    have kB3 := kB.far (p := ⟨g, p, none⟩) (by simpa using hgB) (.int .i64 y)
    have kR3 := kR.far (p := ⟨g, p, none⟩) (by simpa using hgR) (.int .i64 y)
    have b3 := b2.setCell (p := ⟨g, p, none⟩) hgw (.int .i64 y)
    generalize w2.setCell ⟨g, p, none⟩ (.int .i64 y) = w3 at *
    have t1 := hI3.at_ (i := p + 1) (by simp [HLn.out]; omega) (by simp [HLn.out]; omega)
    have f1 := hI3.frozen (p + 1)
    clear t0 f0 hI2 lg
    refine tplan_w (v := ?_) rfl (by rfl) ?_ ?_
    rotate_left
    · intro wx hSx
      try dsimp only at hSx
      go_simp
      try (with_reducible rfl)
    try simp only [Act.put, List.setIfInBounds_toArray, List.set_cons_zero, List.set_cons_succ]
    refine tplan_b rfl (fun K hK => ?_)
    go_simp
    refine hK _ _ ⟨trivial, ?_⟩
    clear hK K
    try simp only [Act.put, List.setIfInBounds_toArray, List.set_cons_zero, List.set_cons_succ]
    refine tplan_endQ ?_
    have hI4 := hI3.put (k := p + 1) (by simp [HLn.out]; omega) x
    have hI5 : Hid (IBlk (w3.setCell ⟨g, p + 1, none⟩ (.int .i64 x)) g (swpL L p) n) := by
      have := hI4
      rw [HS.out] at this
      rw [swp_len, HLn.out] at this
      exact this
    have kB4 := kB3.far (p := ⟨g, p + 1, none⟩) (by simpa using hgB) (.int .i64 x)
    have kR4 := kR3.far (p := ⟨g, p + 1, none⟩) (by simpa using hgR) (.int .i64 x)
    have b4 := b3.setCell (p := ⟨g, p + 1, none⟩) hgw (.int .i64 x)
    clear hI3 hI4 t1 f1 kB kR kB3 kR3 b2 b3
    generalize w3.setCell ⟨g, p + 1, none⟩ (.int .i64 x) = w4 at *
    have c0 := kB4.cell 0 (v := .slice A n c) rfl
    go_wp2_with fail
    refine (inOrder_any _ _ _ _ _ _ _).mono ?_
    rintro e w5 ⟨rfl, hb5⟩
    have hI6 := hI5.out.to hb5
    replace kR := kR4.to hb5
    have b5 := bl_trans b4 hb5
    have r0 := kR.cell 0 (v := .slice none 0 0) rfl
    have r1 := kR.cell 1 (v := .slice none 0 0) rfl
    have r2 := kR.cell 2 (v := .int .u64 0) rfl
    have f0 := kR.frozen 0
    have f1 := kR.frozen 1
    have f2 := kR.frozen 2
    clear hb5 hI5 kB4 c0 kR4 b4
    go_wp2
    have kE := ((kR.set 0 (.slice A n c)).set 1 (.slice (some ⟨g, 0, none⟩) n d)).set 2 (.int .u64 0)
    have bE := ((b5.setCell (p := ⟨w.heap.size + 1, 0, none⟩) (by simp) (.slice A n c)).setCell (p := ⟨w.heap.size + 1, 1, none⟩) (by simp) (.slice (some ⟨g, 0, none⟩) n d)).setCell (p := ⟨w.heap.size + 1, 2, none⟩) (by simp) (.int .u64 0)
    have hIE : IBlk (((w5.setCell ⟨w.heap.size + 1, 0, none⟩ (.slice A n c)).setCell ⟨w.heap.size + 1, 1, none⟩ (.slice (some ⟨g, 0, none⟩) n d)).setCell ⟨w.heap.size + 1, 2, none⟩ (.int .u64 0)) g (swpL L p) n := hI6.keep (by
      rw [Below.heap_setCell _ _ _ g (by simp; omega), Below.heap_setCell _ _ _ g (by simp; omega), Below.heap_setCell _ _ _ g (by simp; omega)])
    generalize (((w5.setCell ⟨w.heap.size + 1, 0, none⟩ (.slice A n c)).setCell ⟨w.heap.size + 1, 1, none⟩ (.slice (some ⟨g, 0, none⟩) n d)).setCell ⟨w.heap.size + 1, 2, none⟩ (.int .u64 0)) = wE at *
    have e0 := kE.cell 0 (v := .slice A n c) (by simp)
    have e1 := kE.cell 1 (v := .slice (some ⟨g, 0, none⟩) n d) (by simp)
    have e2 := kE.cell 2 (v := .int .u64 0) (by simp)
    refine bodyPost_ret_by (v := .agg #[.slice A n c, .slice (some ⟨g, 0, none⟩) n d, .int .u64 0]) ?_ rfl ⟨g, d, rfl, hgw, hIE, bE⟩
    simp [results, Tryd.results74, go_sem, e0, e1, e2]
set_option maxRecDepth 100000 in
set_option maxHeartbeats 1600000 in
theorem swapGain_any (A : Option Addr) (n c : Nat) (B : Mz) (AO : Option Addr) (L : List Int) (cO p : Nat) (w : World) (h : LoAt w A AO n B L) (hp : p + 1 < n) (hT : BruAt w) :
    Calls Tryd.prog 49 #[.agg #[.slice A n c, .slice AO n cO, .int .u64 0], .int .i64 (p : Int)] w fun e w' => e = .returned (.int .i64 (gainI B L p)) ∧ Below w.heap.size w w' := by
  have h9 := h.n9
  have hlen := h.ok.len
  have CC := Lib.hid (fun (AQ : Option Addr) (Q : List Int) (cQ : Nat) (wx : World) (hb : Below w.heap.size w wx) (hq : LoAt wx A AQ n B Q) => by
    have := coupling_any A n c B AQ Q cQ [] wx hq (hT.to hb)
    rw [shM_nil] at this
    exact this)
  have CW := Lib.hid (fun (wx : World) (hb : Below w.heap.size w wx) => swapped_any A n c B AO L cO p wx (h.to hb) hp)
  have hGI : gainI B L p = cplTo B L [] n - cplTo B (swpL L p) [] n := by unfold gainI; rw [hlen]
  obtain ⟨a0, a1⟩ := cplTo_ge (S := []) h.bn h.len h.ok n (Nat.le_refl _)
  obtain ⟨b0, b1⟩ := cplTo_ge (S := []) h.bn h.len (h.ok.swp hp) n (Nat.le_refl _)
  have h9I : (n : Int) ≤ 9 := by omega
  have HLo := Lib.hid h
  rw [hGI]
  have hx : Below w.heap.size w (w.alloc (.cells #[.slice A n c, .slice AO n cO, .int .u64 0] 57)) := by (repeat (first | assumption | exact Below.refl _ _ | (refine bl_alloc ?_ _) | (refine Below.drew ?_) | (refine bl_drewN ?_ _) | (refine bl_set ?_ (by first | (simp; done) | omega | (simp; omega)) _) | (refine bl_trans ?_ (by assumption)) | (refine bl_step ?_ (by assumption) (by first | omega | exact Below.size (by assumption) | (simp; omega) | (simp; exact Below.size (by assumption))))))
  have kB := Blk.new w #[.slice A n c, .slice AO n cO, .int .u64 0] 57
  have a2 : cplTo B L [] n ≤ 9000 := by omega
  have b2 : cplTo B (swpL L p) [] n ≤ 9000 := by omega
  clear h hGI a1 b1 hlen
  obtain ⟨sx, hsx⟩ : ∃ s, cplTo B L [] n = s := ⟨_, rfl⟩
  obtain ⟨sy, hsy⟩ : ∃ s, cplTo B (swpL L p) [] n = s := ⟨_, rfl⟩
  rw [hsx] at a0 a2 ⊢
  rw [hsy] at b0 b2 ⊢
  have HSX := Lib.hid hsx
  have HSY := Lib.hid hsy
  have c0 := kB.cell 0 (v := .slice A n c) rfl
  have c1 := kB.cell 1 (v := .slice AO n cO) rfl
  have c2 := kB.cell 2 (v := .int .u64 0) rfl
  have lB := kB.lt
  clear hsx hsy kB
  go_enter Tryd.func49, Tryd.ntmps49
  go_wp2
  generalize (w.alloc (.cells #[.slice A n c, .slice AO n cO, .int .u64 0] 57)) = w0 at *
  refine wp_region_treeB (Pl.takes [0, 2, 3] (.alone 1 (.alone 4 (.alone 5 (Pl.takes [6, 7] .done))))) (by kernel_rfl) (by kernel_rfl) (by kernel_rfl) (fun _ d _ _ _ h => by cases d <;> exact h) (fun hS0 => ?_)
  refine tplan_w (v := ?_) rfl (by rfl) ?_ ?_
  rotate_left
  · intro wx hSx
    obtain ⟨hcx, hfx, hzx⟩ := bcell hSx
    go_simp
    try (with_reducible rfl)
  try simp only [Act.put, List.setIfInBounds_toArray, List.set_cons_zero, List.set_cons_succ]
  refine tplan_w (v := ?_) rfl (by rfl) ?_ ?_
  rotate_left
  · intro wx hSx
    obtain ⟨hcx, hfx, hzx⟩ := bcell hSx
    go_simp
    try (with_reducible rfl)
  try simp only [Act.put, List.setIfInBounds_toArray, List.set_cons_zero, List.set_cons_succ]
  refine tplan_w (v := ?_) rfl (by rfl) ?_ ?_
  rotate_left
  · intro wx hSx
    obtain ⟨hcx, hfx, hzx⟩ := bcell hSx
    go_simp
    try (with_reducible rfl)
  try simp only [Act.put, List.setIfInBounds_toArray, List.set_cons_zero, List.set_cons_succ]
  refine tplan_b rfl (fun K hK => ?_)
  go_simp
  refine (CC.out AO L cO _ (bl_step hx hS0 hx.size) (HLo.out.to (bl_step hx hS0 hx.size))).mono ?_
  rintro e w1 ⟨rfl, hb1⟩
  rw [HSX.out]
  have hS1 := belowS hS0 hb1
  refine hK _ _ ⟨hS1, ?_⟩
  clear hK K
  try simp only [Act.put, List.setIfInBounds_toArray, List.set_cons_zero, List.set_cons_succ]
  refine tplan_b rfl (fun K hK => ?_)
  go_simp
  refine (CW.out _ (bl_step hx hS1 hx.size)).mono ?_
  rintro e w2 ⟨g, d, rfl, hg, hI, hb2⟩
  have hS2 := belowS hS1 hb2
  refine hK _ _ ⟨hS2, ?_⟩
  clear hK K
  try simp only [Act.put, List.setIfInBounds_toArray, List.set_cons_zero, List.set_cons_succ]
  have x2 := bl_step hx hS2 hx.size
  have hLo2 : LoAt w2 A (some ⟨g, 0, none⟩) n B (swpL L p) := by
    have o := HLo.out.ok.swp hp
    exact ⟨(HLo.out.sq.to x2), by have := hI; rw [show n = (swpL L p).length from o.len.symm] at this; exact this.ints, o, HLo.out.bn, HLo.out.len⟩
  refine tplan_b rfl (fun K hK => ?_)
  go_simp
  refine (CC.out _ _ d _ x2 hLo2).mono ?_
  rintro e w3 ⟨rfl, hb3⟩
  rw [HSY.out]
  have hS3 := belowS hS2 hb3
  refine hK _ _ ⟨hS3, ?_⟩
  clear hK K
  try simp only [Act.put, List.setIfInBounds_toArray, List.set_cons_zero, List.set_cons_succ]
  refine tplan_w (v := ?_) rfl (by rfl) ?_ ?_
  rotate_left
  · intro wx hSx
    obtain ⟨hcx, hfx, hzx⟩ := bcell hSx
    go_simp
    try (with_reducible rfl)
  try simp only [Act.put, List.setIfInBounds_toArray, List.set_cons_zero, List.set_cons_succ]
  refine tplan_w (v := ?_) rfl (by rfl) ?_ ?_
  rotate_left
  · intro wx hSx
    obtain ⟨hcx, hfx, hzx⟩ := bcell hSx
    go_simp
    try (with_reducible rfl)
  try simp only [Act.put, List.setIfInBounds_toArray, List.set_cons_zero, List.set_cons_succ]
  refine tplan_endQ ?_
  go_wp2
  go_ret
  exact ⟨retI (IntWalk.i64_in _ (by omega)), bl_step hx hS3 hx.size⟩
end Go.Proofs.YtifenbamookmiaaDoor
namespace Go.Proofs.YtifenbamookmiaaDoor
set_option linter.unusedSimpArgs false
set_option linter.unusedVariables false
open Go.ChangeShapes Go.WideShapes Go.ChangeAt Go.RowKit Go.BigFrame Go.Shelf

/-- Nine numbers as one value. -/
def agg9 (F : List Int) : Value := .agg #[.int .i64 (F.getD 0 0), .int .i64 (F.getD 1 0), .int .i64 (F.getD 2 0), .int .i64 (F.getD 3 0), .int .i64 (F.getD 4 0), .int .i64 (F.getD 5 0), .int .i64 (F.getD 6 0), .int .i64 (F.getD 7 0), .int .i64 (F.getD 8 0)]
/-- What the loop over the gaps holds. -/
structure NCells (Z : Nat) (V0 V1 V2 : Value) (f : Nat → List Int) (k : Nat) (W : World) : Prop where
  c0 : W.cell? ⟨Z, 0, none⟩ = some V0
  c1 : W.cell? ⟨Z, 1, none⟩ = some V1
  c2 : W.cell? ⟨Z, 2, none⟩ = some V2
  cr : ∀ i, i < 9 → W.cell? ⟨Z + 1, i, none⟩ = some (.int .i64 0)
  fr : ∀ i, i < 9 → W.frozen? ⟨Z + 1, i, none⟩ = false
  cn : ∀ i, i < 9 → W.cell? ⟨Z + 1 + 1, i, none⟩ = some (.int .i64 ((f k).getD i 0))
  fn : ∀ i, i < 9 → W.frozen? ⟨Z + 1 + 1, i, none⟩ = false
theorem NCells.own (Z : Nat) (V0 V1 V2 : Value) (f : Nat → List Int) : Own (NCells Z V0 V1 V2 f) := fun _ _ _ _ hs hg hr =>
  ⟨cell_kept hs.c0 hg hr, cell_kept hs.c1 hg hr, cell_kept hs.c2 hg hr, fun i hi => cell_kept (hs.cr i hi) hg hr, fun i hi => (frozen_kept (hs.cr i hi) hg hr).trans (hs.fr i hi), fun i hi => cell_kept (hs.cn i hi) hg hr, fun i hi => (frozen_kept (hs.cn i hi) hg hr).trans (hs.fn i hi)⟩
theorem NCells.to {Z : Nat} {V0 V1 V2 : Value} {f : Nat → List Int} {k : Nat} {W W1 : World} (h : NCells Z V0 V1 V2 f k W) (hb : Below W.heap.size W W1) : NCells Z V0 V1 V2 f k W1 := by
  have lX : Z + 1 + 1 < W.heap.size := World.block_lt_of_cell? _ _ (h.cn 0 (by omega))
  exact ⟨(hb.cell (p := ⟨Z, 0, none⟩) (by simp; omega)).trans h.c0, (hb.cell (p := ⟨Z, 1, none⟩) (by simp; omega)).trans h.c1, (hb.cell (p := ⟨Z, 2, none⟩) (by simp; omega)).trans h.c2, fun i hi => (hb.cell (p := ⟨Z + 1, i, none⟩) (by simp; omega)).trans (h.cr i hi), fun i hi => (hb.frozen (p := ⟨Z + 1, i, none⟩) (by simp; omega)).trans (h.fr i hi), fun i hi => (hb.cell (p := ⟨Z + 1 + 1, i, none⟩) lX).trans (h.cn i hi), fun i hi => (hb.frozen (p := ⟨Z + 1 + 1, i, none⟩) lX).trans (h.fn i hi)⟩
theorem NCells.add {Z : Nat} {V0 V1 V2 : Value} {f g : Nat → List Int} {k m : Nat} {W : World} (h : NCells Z V0 V1 V2 f k W) {i : Nat} (hi : i < 9) (v : Int) (hl : i < (f k).length) (e : g m = addN (f k) i v) : NCells Z V0 V1 V2 g m (W.setCell ⟨Z + 1 + 1, i, none⟩ (.int .i64 ((f k).getD i 0 + v))) := by
  have oth : ∀ (b o : Nat) (u : Value), b ≠ Z + 1 + 1 → (W.setCell ⟨Z + 1 + 1, i, none⟩ u).cell? ⟨b, o, none⟩ = W.cell? ⟨b, o, none⟩ := fun b o u h => World.cell?_of_block (a := ⟨b, o, none⟩) (Below.heap_setCell W _ _ _ (by simpa using h))
  refine ⟨(oth _ _ _ (by omega)).trans h.c0, (oth _ _ _ (by omega)).trans h.c1, (oth _ _ _ (by omega)).trans h.c2, fun j hj => (oth _ _ _ (by omega)).trans (h.cr j hj), fun j hj => by rw [World.frozen?_setCell]; exact h.fr j hj, fun j hj => ?_, fun j hj => by rw [World.frozen?_setCell]; exact h.fn j hj⟩
  rw [e, addN_at hl]
  by_cases hj2 : j = i
  · subst hj2
    rw [if_pos rfl]
    exact World.cell?_setCell_same _ _ _ (h.cn j hj)
  · rw [if_neg hj2, World.cell?_setCell_other _ _ _ _ (fun e => hj2 (by injection e; omega))]
    exact h.cn j hj
/-- Cells of a block, stored one after another. -/
def setN (w : World) (b : Nat) (v : Nat → Value) : Nat → World
  | 0 => w
  | k + 1 => (setN w b v k).setCell ⟨b, k, none⟩ (v k)
theorem setN_at {w : World} {b n : Nat} {v : Nat → Value} (h : ∀ i, i < n → ∃ u, w.cell? ⟨b, i, none⟩ = some u) : ∀ k, k ≤ n → (∀ i, i < n → ∃ u, (setN w b v k).cell? ⟨b, i, none⟩ = some u) ∧ ∀ i, i < k → (setN w b v k).cell? ⟨b, i, none⟩ = some (v i)
  | 0, _ => ⟨h, fun i hi => by omega⟩
  | k + 1, hk => by
    obtain ⟨h1, h2⟩ := setN_at (v := v) h k (by omega)
    have key : ∀ i, i ≠ k → (setN w b v (k + 1)).cell? ⟨b, i, none⟩ = (setN w b v k).cell? ⟨b, i, none⟩ := fun i hi => World.cell?_setCell_other _ _ _ _ (fun e => hi (by injection e; omega))
    have same : (setN w b v (k + 1)).cell? ⟨b, k, none⟩ = some (v k) := by
      obtain ⟨u, hu⟩ := h1 k (by omega)
      exact World.cell?_setCell_same _ _ _ hu
    refine ⟨fun i hi => ?_, fun i hi => ?_⟩
    · by_cases e : i = k
      · subst e; exact ⟨_, same⟩
      · rw [key i e]; exact h1 i hi
    · by_cases e : i = k
      · subst e; exact same
      · rw [key i e]; exact h2 i (by omega)
theorem setN_heap {w : World} {b g : Nat} {v : Nat → Value} (h : g ≠ b) : ∀ k, (setN w b v k).heap[g]? = w.heap[g]?
  | 0 => rfl
  | k + 1 => (Below.heap_setCell _ ⟨b, k, none⟩ _ g h).trans (setN_heap h k)
theorem setN_below {w a : World} {b B : Nat} {v : Nat → Value} (h : Below B a w) (hB : B ≤ b) : ∀ k, Below B a (setN w b v k)
  | 0 => h
  | k + 1 => (setN_below h hB k).setCell (p := ⟨b, k, none⟩) hB _
def v9 (f0 f1 f2 f3 f4 f5 f6 f7 f8 : Int) : Nat → Value
  | 0 => .int .i64 f0
  | 1 => .int .i64 f1
  | 2 => .int .i64 f2
  | 3 => .int .i64 f3
  | 4 => .int .i64 f4
  | 5 => .int .i64 f5
  | 6 => .int .i64 f6
  | 7 => .int .i64 f7
  | 8 => .int .i64 f8
  | _ => .int .i64 0
attribute [local go_sem] Oper.semAt_some
set_option maxRecDepth 100000 in
set_option maxHeartbeats 4000000 in
theorem noise_any (A : Option Addr) (n c : Nat) (B : Mz) (AO : Option Addr) (L : List Int) (cO : Nat) (S : List Int) (w : World) (h : LoAt w A AO n B L) (hL : BruAt w) :
    Calls Tryd.prog 38 #[.agg #[.slice A n c, .slice AO n cO, .int .u64 (shM n S : Int)]] w fun e w' => e = .returned (agg9 (noiTo B L S n n)) ∧ Below w.heap.size w w' := by
  obtain ⟨h1, h9⟩ := h.n9
  have CA := Lib.hid (fun (x : Int) (m : Nat) (ex : x = (m : Int) + 1) (hm : m + 1 < n) (wx : World) (hb : Below w.heap.size w wx) => couplingAt_any A n c B AO L cO S x m ex hm wx (h.to hb))
  obtain ⟨bo, oo, rfl, hbo, ho⟩ := h.wires
  have HW : Hid (∀ i, i < n → wireN L i < n) := fun i hi => (h.ok.wire hi).1
  have HNE : Hid (∀ m, m + 1 < n → wireN L m ≠ wireN L (m + 1)) := fun m hm => wire_ne h.ok hm
  have HO := Lib.hid ho
  have HG : Hid (∀ k, k ≤ n → ∀ j, 0 ≤ (noiTo B L S n k).getD j 0 ∧ (noiTo B L S n k).getD j 0 ≤ 2000 * (k : Int)) := fun k hk => noi_ge h.bn h.len h.ok k hk
  have HV : Hid (∀ k, k < n → 0 ≤ cplAt B L S k ∧ cplAt B L S k ≤ 1000) := fun k hk => cplAt_ge h.bn h.len h.ok hk
  obtain ⟨M, hM⟩ : ∃ M, shM n S = M := ⟨_, rfl⟩
  rw [hM] at CA ⊢
  clear h hM ho
  refine (callsIn_wide (n := 3)).1 ?_
  refine callsIn_of_wp_marks Tryd.func38 rfl trivial ?_ rfl
  simp only [Tryd.ntmps38, List.size_toArray, List.length_cons, List.length_nil, Nat.reduceAdd, Nat.reduceSub, Array.replicate_succ, Array.replicate_zero, List.push_toArray, List.append_toArray, List.nil_append, List.cons_append]
  have hb0 : Below w.heap.size w (((w.alloc (.cells #[.slice A n c, .slice (some ⟨bo, oo, none⟩) n cO, .int .u64 (M : Int)] 57)).alloc (.cells #[.int .i64 0, .int .i64 0, .int .i64 0, .int .i64 0, .int .i64 0, .int .i64 0, .int .i64 0, .int .i64 0, .int .i64 0] 63)).alloc (.cells #[.int .i64 0, .int .i64 0, .int .i64 0, .int .i64 0, .int .i64 0, .int .i64 0, .int .i64 0, .int .i64 0, .int .i64 0] 63)) := by (repeat (first | assumption | exact Below.refl _ _ | (refine bl_alloc ?_ _) | (refine Below.drew ?_) | (refine bl_drewN ?_ _) | (refine bl_set ?_ (by first | (simp; done) | omega | (simp; omega)) _) | (refine bl_trans ?_ (by assumption)) | (refine bl_step ?_ (by assumption) (by first | omega | exact Below.size (by assumption) | (simp; omega) | (simp; exact Below.size (by assumption))))))
  have hc0 : NCells w.heap.size (.slice A n c) (.slice (some ⟨bo, oo, none⟩) n cO) (.int .u64 (M : Int)) (fun k => noiTo B L S n (k + 1)) 0 (((w.alloc (.cells #[.slice A n c, .slice (some ⟨bo, oo, none⟩) n cO, .int .u64 (M : Int)] 57)).alloc (.cells #[.int .i64 0, .int .i64 0, .int .i64 0, .int .i64 0, .int .i64 0, .int .i64 0, .int .i64 0, .int .i64 0, .int .i64 0] 63)).alloc (.cells #[.int .i64 0, .int .i64 0, .int .i64 0, .int .i64 0, .int .i64 0, .int .i64 0, .int .i64 0, .int .i64 0, .int .i64 0] 63)) := by
    have k0 := ((Blk.new w #[.slice A n c, .slice (some ⟨bo, oo, none⟩) n cO, .int .u64 (M : Int)] 57).alloc (.cells #[.int .i64 0, .int .i64 0, .int .i64 0, .int .i64 0, .int .i64 0, .int .i64 0, .int .i64 0, .int .i64 0, .int .i64 0] 63)).alloc (.cells #[.int .i64 0, .int .i64 0, .int .i64 0, .int .i64 0, .int .i64 0, .int .i64 0, .int .i64 0, .int .i64 0, .int .i64 0] 63)
    have k1 := (Blk.new (w.alloc (.cells #[.slice A n c, .slice (some ⟨bo, oo, none⟩) n cO, .int .u64 (M : Int)] 57)) #[.int .i64 0, .int .i64 0, .int .i64 0, .int .i64 0, .int .i64 0, .int .i64 0, .int .i64 0, .int .i64 0, .int .i64 0] 63).alloc (.cells #[.int .i64 0, .int .i64 0, .int .i64 0, .int .i64 0, .int .i64 0, .int .i64 0, .int .i64 0, .int .i64 0, .int .i64 0] 63)
    have k2 := Blk.new ((w.alloc (.cells #[.slice A n c, .slice (some ⟨bo, oo, none⟩) n cO, .int .u64 (M : Int)] 57)).alloc (.cells #[.int .i64 0, .int .i64 0, .int .i64 0, .int .i64 0, .int .i64 0, .int .i64 0, .int .i64 0, .int .i64 0, .int .i64 0] 63)) #[.int .i64 0, .int .i64 0, .int .i64 0, .int .i64 0, .int .i64 0, .int .i64 0, .int .i64 0, .int .i64 0, .int .i64 0] 63
    rw [World.size_alloc] at k1
    rw [World.size_alloc, World.size_alloc] at k2
    have hz : ∀ i, i < 9 → ((#[Value.int .i64 0, Value.int .i64 0, Value.int .i64 0, Value.int .i64 0, Value.int .i64 0, Value.int .i64 0, Value.int .i64 0, Value.int .i64 0, Value.int .i64 0] : Array Value)[i]? : Option Value) = some (.int .i64 0) := fun i hi => by
      rcases (show i = 0 ∨ i = 1 ∨ i = 2 ∨ i = 3 ∨ i = 4 ∨ i = 5 ∨ i = 6 ∨ i = 7 ∨ i = 8 by omega) with rfl | rfl | rfl | rfl | rfl | rfl | rfl | rfl | rfl <;> rfl
    have hr : ∀ i : Nat, (noiTo B L S n (0 + 1)).getD i 0 = 0 := fun i => by simp only [noiTo, List.getD_eq_getElem?_getD, List.getElem?_replicate]; split <;> rfl
    exact ⟨k0.cell 0 rfl, k0.cell 1 rfl, k0.cell 2 rfl, fun i hi => k1.cell i (hz i hi), fun i _ => k1.frozen i, fun i hi => by show _ = some (Value.int .i64 ((noiTo B L S n (0 + 1)).getD i 0)); rw [hr]; exact k2.cell i (hz i hi), fun i _ => k2.frozen i⟩
  have s0 := hc0.c0
  have hga := fun wx => gaps_any A n c wx h1 (by omega)
  gi_wp2
  refine ⟨trivial, (callsIn_wide.2 (hga _)).mono ?_⟩
  rintro e w1 ⟨rfl, hb1⟩
  have b1 := bl_step hb0 hb1 hb0.size
  have hc1 := hc0.to hb1
  clear hb0 hb1 hc0 s0 hga
  gi_wp2
  refine range_gives (gf := 66) (b := .int .u64 (maskTo gapP n : Nat)) (xs := memL gapP 0 n) (Kq := BruAt) (by omega) rfl (enters_of Tryd.func66 (by kernel_rfl) rfl) (each_gives _ gapP n (by omega)) rfl
    (fun k W => NCells w.heap.size (.slice A n c) (.slice (some ⟨bo, oo, none⟩) n cO) (.int .u64 (M : Int)) (fun k => noiTo B L S n (k + 1)) k W ∧ Below w.heap.size w W)
    (OwnFrom.and (Own.from (NCells.own _ _ _ _ _) _) (ownFrom_below (Nat.le_refl _) b1.size)) (fun k W h => hL.to h.2) ⟨hc1, b1⟩
    (fun x => { tmps := #[.agg #[.slice A n c, .slice (some ⟨bo, oo, none⟩) n cO, .int .u64 (M : Int)], .pointer (some ⟨w.heap.size, 0, none⟩), .pointer (some ⟨w.heap.size + 1, 0, none⟩), .pointer (some ⟨w.heap.size + 1 + 1, 0, none⟩), .int .i64 x, undef, .pointer (some ⟨w.heap.size, 0, none⟩), .agg #[.slice A n c], .int .u64 (maskTo gapP n : Nat), .func (.func 66) #[.int .u64 (maskTo gapP n : Nat)] #[], .int .i64 x, undef, undef, undef, undef, undef, undef, undef, undef, undef, undef, undef, undef, undef, undef, undef, undef, undef, undef, undef, undef, undef, undef, undef, undef, undef], defers := [] }) ?assign ?body ?done
  case assign =>
    intro l x W K hK
    gi_wp2
    exact hK
  case body =>
    rintro l k x W ⟨hN, hb⟩ hx
    obtain ⟨rfl, hxn⟩ := gap_at hx
    have hkn : k < n := by omega
    have hCA := CA.out ((k + 1 : Nat) : Int) k (by omega) hxn W hb
    have q0 := (hb.cell (p := ⟨bo, oo + k, none⟩) hbo).trans (HO.out k hkn)
    have q1 := (hb.cell (p := ⟨bo, oo + (k + 1), none⟩) hbo).trans (HO.out (k + 1) hxn)
    have zo := Nat.lt_of_lt_of_le hbo hb.size
    have n0 := HW.out k hkn
    have n1 := HW.out (k + 1) hxn
    have hne := HNE.out k hxn
    obtain ⟨hv0, hv1⟩ := HV.out (k + 1) hxn
    have hG0 := HG.out (k + 1) (by omega)
    have hLn := noi_len B L S n (k + 1)
    have HNX := Lib.hid (noi_next B L S n k)
    obtain ⟨fx, hfx⟩ : ∃ fx, (noiTo B L S n (k + 1)).getD (wireN L k) 0 = fx := ⟨_, rfl⟩
    obtain ⟨fy, hfy⟩ : ∃ fy, (noiTo B L S n (k + 1)).getD (wireN L (k + 1)) 0 = fy := ⟨_, rfl⟩
    have ⟨a0, a1⟩ := hG0 (wireN L k)
    have ⟨b0, b1'⟩ := hG0 (wireN L (k + 1))
    rw [hfx] at a0 a1
    rw [hfy] at b0 b1'
    have HFX := Lib.hid hfx
    have HFY := Lib.hid hfy
    clear hfx hfy
    have c0 := hN.c0
    have c1 := hN.c1
    have c2 := hN.c2
    have ek : ((k + 1 : Nat) : Int) = (k : Int) + 1 := by omega
    have et : ((k : Int) + 1).toNat = k + 1 := by omega
    have hk0 : (0 : Int) ≤ (k : Int) := by omega
    have hk1 : (0 : Int) ≤ (k : Int) + 1 := by omega
    have hkI : (k : Int) < (n : Int) := by omega
    have hxI : (k : Int) + 1 < (n : Int) := by omega
    have h9I : (n : Int) ≤ 9 := by omega
    have n0I : (wireN L k : Int) < 9 := by omega
    have n1I : (wireN L (k + 1) : Int) < 9 := by omega
    have zW : w.heap.size + 1 + 1 < W.heap.size := World.block_lt_of_cell? W _ (hN.cn 0 (by omega))
    have zW0 : w.heap.size < W.heap.size := by omega
    have a2 : fx ≤ 18000 := by omega
    have b2 : fy ≤ 18000 := by omega
    obtain ⟨v, hv⟩ : ∃ v, cplAt B L S (k + 1) = v := ⟨_, rfl⟩
    rw [hv] at hv0 hv1 hCA HNX
    clear a1 b1' hG0 hv
    have HNM := Lib.hid hN
    have HL0 : Hid (wireN L k < (noiTo B L S n (k + 1)).length) := by show _ < _; rw [hLn]; exact n0
    have HL1 : Hid (wireN L (k + 1) < (addN (noiTo B L S n (k + 1)) (wireN L k) v).length) := by show _ < _; rw [addN_len, hLn]; exact n1
    clear hN hLn
    generalize wireN L k = x0 at *
    generalize wireN L (k + 1) = x1 at *
    have ew : IntKind.i64.wrap (fx + v) = fx + v := IntWalk.i64_in _ (by omega)
    have ey : IntKind.i64.wrap (fy + v) = fy + v := IntWalk.i64_in _ (by omega)
    rw [ek] at hCA
    gi_upto_region 6 with (refine ⟨trivial, ?_⟩; gi_at_call 67; refine (CallsIn.inRound l (callsIn_wide.2 hCA)).mono ?_; rintro e w3 ⟨rfl, hb3⟩; have d1 := (hb3.cell (p := ⟨w.heap.size, 1, none⟩) zW0).trans c1; have dz : w3.cell? ⟨w.heap.size + 1 + 1, x0, none⟩ = some (.int .i64 fx) := (by rw [← HFX.out]; exact (HNM.out.to hb3).cn x0 (by omega)); have df := (HNM.out.to hb3).fn x0 (by omega); have dq := (hb3.cell (p := ⟨bo, oo + k, none⟩) zo).trans q0)
    have hN4 : NCells w.heap.size (.slice A n c) (.slice (some ⟨bo, oo, none⟩) n cO) (.int .u64 (M : Int)) (fun _ => addN (noiTo B L S n (k + 1)) x0 v) 0 (w3.setCell ⟨w.heap.size + 1 + 1, x0, none⟩ (.int .i64 (fx + v))) := by
      have := (HNM.out.to hb3).add (g := fun _ => addN (noiTo B L S n (k + 1)) x0 v) (m := 0) (i := x0) (by omega) v HL0.out rfl
      rw [HFX.out] at this
      exact this
    have bo2 : bo < w.heap.size + 1 + 1 := by omega
    have hkf := (kfB (B := w1.heap.size) hb3).trans ((KeepsOthers.setCell w3 ⟨w.heap.size + 1 + 1, x0, none⟩ (.int .i64 (fx + v))).from _)
    have hb4 := (bl_step hb hb3 hb.size).setCell (p := ⟨w.heap.size + 1 + 1, x0, none⟩) (by simp; omega) (.int .i64 (fx + v))
    have dq4 : (w3.setCell ⟨w.heap.size + 1 + 1, x0, none⟩ (.int .i64 (fx + v))).cell? ⟨bo, oo + (k + 1), none⟩ = some (.int .i64 (x1 : Int)) := (World.cell?_of_block (a := ⟨bo, oo + (k + 1), none⟩) (Below.heap_setCell _ _ _ _ (by simp; omega))).trans ((hb3.cell (p := ⟨bo, oo + (k + 1), none⟩) zo).trans q1)
    clear c0 c1 c2 d1 dz df dq q0 q1 hCA
    generalize (w3.setCell ⟨w.heap.size + 1 + 1, x0, none⟩ (.int .i64 (fx + v))) = w4 at *
    have d4 := hN4.c1
    have dz4 : w4.cell? ⟨w.heap.size + 1 + 1, x1, none⟩ = some (.int .i64 fy) := by
      have := hN4.cn x1 (by omega)
      rw [addN_at HL0.out, if_neg (Ne.symm hne), HFY.out] at this
      exact this
    have df4 := hN4.fn x1 (by omega)
    have HN4 := Lib.hid hN4
    clear hN4
    gi_wp2
    have hN5 : NCells w.heap.size (.slice A n c) (.slice (some ⟨bo, oo, none⟩) n cO) (.int .u64 (M : Int)) (fun k => noiTo B L S n (k + 1)) (k + 1) (w4.setCell ⟨w.heap.size + 1 + 1, x1, none⟩ (.int .i64 (fy + v))) := by
      have := HN4.out.add (g := fun k => noiTo B L S n (k + 1)) (m := k + 1) (i := x1) (by omega) v HL1.out HNX.out
      rw [addN_at HL0.out, if_neg (Ne.symm hne), HFY.out] at this
      exact this
    exact ⟨hkf.trans ((KeepsOthers.setCell _ _ _).from _), hN5, hb4.setCell (p := ⟨w.heap.size + 1 + 1, x1, none⟩) (by simp; omega) _⟩
  case done =>
    rintro D W hD ⟨hN, hb⟩ hK
    rw [gap_len h1] at hN
    obtain ⟨F, hF⟩ : ∃ F, noiTo B L S n n = F := ⟨_, rfl⟩
    have cn : ∀ i, i < 9 → W.cell? ⟨w.heap.size + 1 + 1, i, none⟩ = some (.int .i64 (F.getD i 0)) := fun i hi => by
      have := hN.cn i hi
      rw [show n - 1 + 1 = n by omega, hF] at this
      exact this
    obtain ⟨f0, h10⟩ : ∃ f, F.getD 0 0 = f := ⟨_, rfl⟩
    have e0 := cn 0 (by omega)
    rw [h10] at e0
    have r0 := hN.cr 0 (by omega)
    have q0 := hN.fr 0 (by omega)
    obtain ⟨f1, h11⟩ : ∃ f, F.getD 1 0 = f := ⟨_, rfl⟩
    have e1 := cn 1 (by omega)
    rw [h11] at e1
    have r1 := hN.cr 1 (by omega)
    have q1 := hN.fr 1 (by omega)
    obtain ⟨f2, h12⟩ : ∃ f, F.getD 2 0 = f := ⟨_, rfl⟩
    have e2 := cn 2 (by omega)
    rw [h12] at e2
    have r2 := hN.cr 2 (by omega)
    have q2 := hN.fr 2 (by omega)
    obtain ⟨f3, h13⟩ : ∃ f, F.getD 3 0 = f := ⟨_, rfl⟩
    have e3 := cn 3 (by omega)
    rw [h13] at e3
    have r3 := hN.cr 3 (by omega)
    have q3 := hN.fr 3 (by omega)
    obtain ⟨f4, h14⟩ : ∃ f, F.getD 4 0 = f := ⟨_, rfl⟩
    have e4 := cn 4 (by omega)
    rw [h14] at e4
    have r4 := hN.cr 4 (by omega)
    have q4 := hN.fr 4 (by omega)
    obtain ⟨f5, h15⟩ : ∃ f, F.getD 5 0 = f := ⟨_, rfl⟩
    have e5 := cn 5 (by omega)
    rw [h15] at e5
    have r5 := hN.cr 5 (by omega)
    have q5 := hN.fr 5 (by omega)
    obtain ⟨f6, h16⟩ : ∃ f, F.getD 6 0 = f := ⟨_, rfl⟩
    have e6 := cn 6 (by omega)
    rw [h16] at e6
    have r6 := hN.cr 6 (by omega)
    have q6 := hN.fr 6 (by omega)
    obtain ⟨f7, h17⟩ : ∃ f, F.getD 7 0 = f := ⟨_, rfl⟩
    have e7 := cn 7 (by omega)
    rw [h17] at e7
    have r7 := hN.cr 7 (by omega)
    have q7 := hN.fr 7 (by omega)
    obtain ⟨f8, h18⟩ : ∃ f, F.getD 8 0 = f := ⟨_, rfl⟩
    have e8 := cn 8 (by omega)
    rw [h18] at e8
    have r8 := hN.cr 8 (by omega)
    have q8 := hN.fr 8 (by omega)
    have HA : Hid (agg9 (noiTo B L S n n) = .agg #[.int .i64 f0, .int .i64 f1, .int .i64 f2, .int .i64 f3, .int .i64 f4, .int .i64 f5, .int .i64 f6, .int .i64 f7, .int .i64 f8]) := by show _ = _; rw [hF]; unfold agg9; rw [h10, h11, h12, h13, h14, h15, h16, h17, h18]
    have lX : w.heap.size + 1 + 1 < w1.heap.size := World.block_lt_of_cell? _ _ (hc1.cn 0 (by omega))
    have hst := (setN_at (w := W) (b := w.heap.size + 1) (n := 9) (v := v9 f0 f1 f2 f3 f4 f5 f6 f7 f8) (fun i hi => ⟨_, hN.cr i hi⟩) 9 (Nat.le_refl _)).2
    have hKE : (setN W (w.heap.size + 1) (v9 f0 f1 f2 f3 f4 f5 f6 f7 f8) 9).heap[D]? = some (.deferred (some [])) := (setN_heap (by omega) 9).trans hK
    have hbE := setN_below (v := v9 f0 f1 f2 f3 f4 f5 f6 f7 f8) hb (show w.heap.size ≤ w.heap.size + 1 by omega) 9
    have hH := Lib.hid hst
    have hKEH := Lib.hid hKE
    have hbEH := Lib.hid hbE
    clear cn h10 h11 h12 h13 h14 h15 h16 h17 h18 hF hst hKE hbE
    gi_wp2
    have hE : (((((((((W.setCell ⟨w.heap.size + 1, 0, none⟩ (.int .i64 f0)).setCell ⟨w.heap.size + 1, 1, none⟩ (.int .i64 f1)).setCell ⟨w.heap.size + 1, 2, none⟩ (.int .i64 f2)).setCell ⟨w.heap.size + 1, 3, none⟩ (.int .i64 f3)).setCell ⟨w.heap.size + 1, 4, none⟩ (.int .i64 f4)).setCell ⟨w.heap.size + 1, 5, none⟩ (.int .i64 f5)).setCell ⟨w.heap.size + 1, 6, none⟩ (.int .i64 f6)).setCell ⟨w.heap.size + 1, 7, none⟩ (.int .i64 f7)).setCell ⟨w.heap.size + 1, 8, none⟩ (.int .i64 f8)) = setN W (w.heap.size + 1) (v9 f0 f1 f2 f3 f4 f5 f6 f7 f8) 9 := rfl
    rw [hE]
    have hKE := hKEH.out
    have hbE := hbEH.out
    have hst := hH.out
    clear hKEH hbEH hH hE
    generalize setN W (w.heap.size + 1) (v9 f0 f1 f2 f3 f4 f5 f6 f7 f8) 9 = wE at *
    have z0 : (wE.putObj D (.deferred none)).cell? ⟨w.heap.size + 1, 0, none⟩ = some (.int .i64 f0) := (World.cell?_of_block (a := ⟨w.heap.size + 1, 0, none⟩) (World.putObj_heap_other (by dsimp only; omega))).trans (hst 0 (by omega))
    have z1 : (wE.putObj D (.deferred none)).cell? ⟨w.heap.size + 1, 1, none⟩ = some (.int .i64 f1) := (World.cell?_of_block (a := ⟨w.heap.size + 1, 1, none⟩) (World.putObj_heap_other (by dsimp only; omega))).trans (hst 1 (by omega))
    have z2 : (wE.putObj D (.deferred none)).cell? ⟨w.heap.size + 1, 2, none⟩ = some (.int .i64 f2) := (World.cell?_of_block (a := ⟨w.heap.size + 1, 2, none⟩) (World.putObj_heap_other (by dsimp only; omega))).trans (hst 2 (by omega))
    have z3 : (wE.putObj D (.deferred none)).cell? ⟨w.heap.size + 1, 3, none⟩ = some (.int .i64 f3) := (World.cell?_of_block (a := ⟨w.heap.size + 1, 3, none⟩) (World.putObj_heap_other (by dsimp only; omega))).trans (hst 3 (by omega))
    have z4 : (wE.putObj D (.deferred none)).cell? ⟨w.heap.size + 1, 4, none⟩ = some (.int .i64 f4) := (World.cell?_of_block (a := ⟨w.heap.size + 1, 4, none⟩) (World.putObj_heap_other (by dsimp only; omega))).trans (hst 4 (by omega))
    have z5 : (wE.putObj D (.deferred none)).cell? ⟨w.heap.size + 1, 5, none⟩ = some (.int .i64 f5) := (World.cell?_of_block (a := ⟨w.heap.size + 1, 5, none⟩) (World.putObj_heap_other (by dsimp only; omega))).trans (hst 5 (by omega))
    have z6 : (wE.putObj D (.deferred none)).cell? ⟨w.heap.size + 1, 6, none⟩ = some (.int .i64 f6) := (World.cell?_of_block (a := ⟨w.heap.size + 1, 6, none⟩) (World.putObj_heap_other (by dsimp only; omega))).trans (hst 6 (by omega))
    have z7 : (wE.putObj D (.deferred none)).cell? ⟨w.heap.size + 1, 7, none⟩ = some (.int .i64 f7) := (World.cell?_of_block (a := ⟨w.heap.size + 1, 7, none⟩) (World.putObj_heap_other (by dsimp only; omega))).trans (hst 7 (by omega))
    have z8 : (wE.putObj D (.deferred none)).cell? ⟨w.heap.size + 1, 8, none⟩ = some (.int .i64 f8) := (World.cell?_of_block (a := ⟨w.heap.size + 1, 8, none⟩) (World.putObj_heap_other (by dsimp only; omega))).trans (hst 8 (by omega))
    refine ⟨by simp, .inl ⟨_, _, rfl, run_takeDeferred hKE, ?_⟩⟩
    refine ⟨.agg #[.int .i64 f0, .int .i64 f1, .int .i64 f2, .int .i64 f3, .int .i64 f4, .int .i64 f5, .int .i64 f6, .int .i64 f7, .int .i64 f8], ?_, by rw [HA.out], hbE.trans (belowK_b (w := w) (Nat.le_refl _) wE D _ _ (by omega) hKE rfl rfl)⟩
    simp [results, Tryd.results38, go_sem, z0, z1, z2, z3, z4, z5, z6, z7, z8]

end Go.Proofs.YtifenbamookmiaaDoor
namespace Go.Proofs.YtifenbamookmiaaDoor
set_option linter.unusedSimpArgs false
set_option linter.unusedVariables false
open Go.ChangeShapes Go.WideShapes Go.ChangeAt Go.RowKit Go.BigFrame

set_option maxRecDepth 100000 in
set_option maxHeartbeats 3200000 in
theorem noiClo_any (A : Option Addr) (Ls : List SlI) (c : Nat) (AO : Option Addr) (L : List Int) (cO : Nat) (AS : Option Addr) (S : List Int) (cS b : Nat) (w : World) (hB : Box3 w b A Ls.length c AO L.length cO AS S.length cS) (hp : ISAt w w.heap.size A Ls) (hs : ShI Ls) (hL : IntsAt w w.heap.size AO L) (lL : L.length ≤ 1048576) (hS : IntsAt w w.heap.size AS S) (lS : S.length ≤ 1048576) (hT : BruAt w) :
    Calls Tryd.prog 37 #[.pointer (some ⟨b, 0, none⟩), .pointer (some ⟨b + 1, 0, none⟩), .pointer (some ⟨b + 1 + 1, 0, none⟩)] w fun e w' => ((∃ v, e = .returned v ∧ OwnI w' w.heap.size v (noL (heldI Ls) L S) ∧ loB (heldI Ls) L S = true) ∨ (Pan e ∧ loB (heldI Ls) L S = false)) ∧ Below w.heap.size w w' := by
  have CL := Lib.hid (requireLayout_any A Ls c AO L cO AS S cS w hp hs.1 hs.2 hL lL hS lS)
  have HX : Hid (noL (heldI Ls) L S = if loB (heldI Ls) L S then noiTo (heldI Ls) L S Ls.length Ls.length else []) := by show _ = _; unfold noL; rw [heldI_len]
  obtain ⟨q0, q1, q2, q3⟩ := hB
  unfold LayRes at CL
  cases hv : loB (heldI Ls) L S
  · rw [hv] at CL
    clear hp hs hL lL hS lS hT HX
    generalize noL (heldI Ls) L S = R at *
    generalize shM Ls.length S = M at *
    generalize Ls.length = n at *
    generalize L.length = m at *
    generalize S.length = ls at *
    go_enter Tryd.func37, Tryd.ntmps37
    go_wp2_with fail
    refine CL.out.mono ?_
    rintro e w3 ⟨⟨h, _⟩ | ⟨_, u, pv, rfl⟩, hb3⟩
    · cases h
    · go_wp2
      exact ⟨by first | trivial | rfl, .inr ⟨⟨_, _, rfl⟩, by first | trivial | rfl⟩, hb3⟩
  · obtain ⟨hlo, hln⟩ := loB_lo hp hL hv
    have h9 := hlo.n9
    have R2 : Hid (noL (heldI Ls) L S = noiTo (heldI Ls) L S Ls.length Ls.length) := by show _ = _; rw [HX.out, hv]; rfl
    obtain ⟨F, hF⟩ : ∃ F, noiTo (heldI Ls) L S Ls.length Ls.length = F := ⟨_, rfl⟩
    have HFl : Hid (F.length = Ls.length) := by show _ = _; rw [← hF, noi_len]
    have CN0 := fun (wx : World) (hb : Below w.heap.size w wx) => noise_any A Ls.length c (heldI Ls) AO L cO S wx (hlo.to hb) (hT.to hb)
    rw [hF] at CN0 R2
    unfold agg9 at CN0
    obtain ⟨f0, h10⟩ : ∃ f, F.getD 0 0 = f := ⟨_, rfl⟩
    obtain ⟨f1, h11⟩ : ∃ f, F.getD 1 0 = f := ⟨_, rfl⟩
    obtain ⟨f2, h12⟩ : ∃ f, F.getD 2 0 = f := ⟨_, rfl⟩
    obtain ⟨f3, h13⟩ : ∃ f, F.getD 3 0 = f := ⟨_, rfl⟩
    obtain ⟨f4, h14⟩ : ∃ f, F.getD 4 0 = f := ⟨_, rfl⟩
    obtain ⟨f5, h15⟩ : ∃ f, F.getD 5 0 = f := ⟨_, rfl⟩
    obtain ⟨f6, h16⟩ : ∃ f, F.getD 6 0 = f := ⟨_, rfl⟩
    obtain ⟨f7, h17⟩ : ∃ f, F.getD 7 0 = f := ⟨_, rfl⟩
    obtain ⟨f8, h18⟩ : ∃ f, F.getD 8 0 = f := ⟨_, rfl⟩
    rw [h10, h11, h12, h13, h14, h15, h16, h17, h18] at CN0
    have HE : Hid (∀ i, i < 9 → (#[Value.int .i64 f0, Value.int .i64 f1, Value.int .i64 f2, Value.int .i64 f3, Value.int .i64 f4, Value.int .i64 f5, Value.int .i64 f6, Value.int .i64 f7, Value.int .i64 f8] : Array Value)[i]? = some (.int .i64 (F.getD i 0))) := fun i hi => by
      rcases (show i = 0 ∨ i = 1 ∨ i = 2 ∨ i = 3 ∨ i = 4 ∨ i = 5 ∨ i = 6 ∨ i = 7 ∨ i = 8 by omega) with rfl | rfl | rfl | rfl | rfl | rfl | rfl | rfl | rfl
      · rw [h10]; rfl
      · rw [h11]; rfl
      · rw [h12]; rfl
      · rw [h13]; rfl
      · rw [h14]; rfl
      · rw [h15]; rfl
      · rw [h16]; rfl
      · rw [h17]; rfl
      · rw [h18]; rfl
    have CN := Lib.hid CN0
    rw [R2.out]
    rw [hv, hln] at CL
    rw [hln] at q1
    clear hv hp hs hL lL hS lS hT HX hlo hln hF CN0 R2 h10 h11 h12 h13 h14 h15 h16 h17 h18
    generalize shM Ls.length S = M at *
    generalize Ls.length = n at *
    generalize S.length = ls at *
    have h9I : (n : Int) ≤ 9 := by omega
    have h9N := h9.2
    have h1N := h9.1
    go_enter Tryd.func37, Tryd.ntmps37
    go_wp2_with fail
    refine CL.out.mono ?_
    rintro e w3 ⟨⟨_, rfl⟩ | ⟨h, _⟩, hb3⟩
    case inr => cases h
    have kB := Blk.new w3 #[.slice A n c, .slice AO n cO, .int .u64 (M : Int)] 57
    have x4 : Below w.heap.size w (w3.alloc (.cells #[.slice A n c, .slice AO n cO, .int .u64 (M : Int)] 57)) := hb3.alloc hb3.size _
    have CN2 := Lib.hid (CN.out _ x4)
    clear q0 q1 q2 CL CN hb3
    go_wp2_with fail
    generalize (w3.alloc (.cells #[.slice A n c, .slice AO n cO, .int .u64 (M : Int)] 57)) = w4 at *
    generalize w3.heap.size = Z at *
    refine CN2.out.mono ?_
    rintro e w5 ⟨rfl, hb5⟩
    have x5 := bl_trans x4 hb5
    have kB5 := (kB.to hb5).alloc (.cells #[.int .i64 f0, .int .i64 f1, .int .i64 f2, .int .i64 f3, .int .i64 f4, .int .i64 f5, .int .i64 f6, .int .i64 f7, .int .i64 f8] 63)
    have kX := Blk.new w5 #[.int .i64 f0, .int .i64 f1, .int .i64 f2, .int .i64 f3, .int .i64 f4, .int .i64 f5, .int .i64 f6, .int .i64 f7, .int .i64 f8] 63
    have hb6 : Below w5.heap.size w5 (w5.alloc (.cells #[.int .i64 f0, .int .i64 f1, .int .i64 f2, .int .i64 f3, .int .i64 f4, .int .i64 f5, .int .i64 f6, .int .i64 f7, .int .i64 f8] 63)) := (Below.refl _ _).alloc (Nat.le_refl _) _
    have x6 := bl_trans x5 hb6
    have c0 := kB5.cell 0 (v := .slice A n c) rfl
    have hIX : IntsAt (w5.alloc (.cells #[.int .i64 f0, .int .i64 f1, .int .i64 f2, .int .i64 f3, .int .i64 f4, .int .i64 f5, .int .i64 f6, .int .i64 f7, .int .i64 f8] 63)) (w5.alloc (.cells #[.int .i64 f0, .int .i64 f1, .int .i64 f2, .int .i64 f3, .int .i64 f4, .int .i64 f5, .int .i64 f6, .int .i64 f7, .int .i64 f8] 63)).heap.size (some ⟨w5.heap.size, 0, none⟩) F := fun _ => ⟨w5.heap.size, 0, rfl, kX.lt, fun i hi => by rw [Nat.zero_add]; exact kX.cell i (HE.out i (by rw [HFl.out] at hi; omega))⟩
    clear CN2 kB hb5 kB5 kX x4 hb6
    go_wp2_with fail
    generalize (w5.alloc (.cells #[.int .i64 f0, .int .i64 f1, .int .i64 f2, .int .i64 f3, .int .i64 f4, .int .i64 f5, .int .i64 f6, .int .i64 f7, .int .i64 f8] 63)) = w6 at *
    generalize w5.heap.size = Y at *
    refine (wires_any _ _ _ _).mono ?_
    rintro e w7 ⟨rfl, hb7⟩
    have x7 := bl_trans x6 hb7
    have CC := Lib.hid (by
      have := cloneI_any (some ⟨Y, 0, none⟩) F 9 w7 (hIX.to hb7) (by rw [HFl.out]; omega) (by rw [HFl.out]; omega)
      rw [HFl.out] at this
      exact this)
    clear hIX hb7 c0 x6
    go_wp2_with fail
    refine CC.out.mono ?_
    rintro e w8 ⟨g, d, he, hg, hI, hO, hb8⟩
    rw [HFl.out] at he
    subst he
    have hO2 : OwnI w8 w.heap.size (.slice (some ⟨g, 0, none⟩) n d) F := by
      rw [HFl.out] at hO
      exact hO.mono x7.size
    go_wp2
    go_ret
    exact ⟨.inl ⟨_, rfl, hO2, by first | trivial | rfl⟩, bl_trans x7 hb8⟩
set_option maxRecDepth 100000 in
set_option maxHeartbeats 3200000 in
theorem NoiseOfI_any (A : Option Addr) (Ls : List SlI) (c : Nat) (AO : Option Addr) (L : List Int) (cO : Nat) (AS : Option Addr) (S : List Int) (cS : Nat) (w : World) (hp : ISAt w w.heap.size A Ls) (hs : ShI Ls) (hL : IntsAt w w.heap.size AO L) (lL : L.length ≤ 1048576) (hS : IntsAt w w.heap.size AS S) (lS : S.length ≤ 1048576) (hT : BruAt w) :
    Calls Tryd.prog 16 #[.agg #[.slice A Ls.length c], .slice AO L.length cO, .slice AS S.length cS] w (NRes (noL (heldI Ls) L S) (loB (heldI Ls) L S) w) := by
  have hx : Below w.heap.size w (((w.alloc (.cells #[.slice A Ls.length c] 29)).alloc (.cells #[.slice AO L.length cO] 25)).alloc (.cells #[.slice AS S.length cS] 25)) := by (repeat (first | assumption | exact Below.refl _ _ | (refine bl_alloc ?_ _) | (refine Below.drew ?_) | (refine bl_drewN ?_ _) | (refine bl_set ?_ (by first | (simp; done) | omega | (simp; omega)) _) | (refine bl_trans ?_ (by assumption)) | (refine bl_step ?_ (by assumption) (by first | omega | exact Below.size (by assumption) | (simp; omega) | (simp; exact Below.size (by assumption))))))
  have kb := Box3.new w A Ls.length c AO L.length cO AS S.length cS 29 25 25
  have cc := Lib.hid (fun (wx : World) (hb : Below (((w.alloc (.cells #[.slice A Ls.length c] 29)).alloc (.cells #[.slice AO L.length cO] 25)).alloc (.cells #[.slice AS S.length cS] 25)).heap.size (((w.alloc (.cells #[.slice A Ls.length c] 29)).alloc (.cells #[.slice AO L.length cO] 25)).alloc (.cells #[.slice AS S.length cS] 25)) wx) => noiClo_any A Ls c AO L cO AS S cS w.heap.size wx (kb.to hb) ((hp.to hx).to hb) hs ((hL.to hx).to hb) lL ((hS.to hx).to hb) lS ((hT.to hx).to hb))
  have HNO : Hid (loB (heldI Ls) L S = false → noL (heldI Ls) L S = [] ∧ loB (heldI Ls) L S = false) := fun h => ⟨by unfold noL; rw [h]; rfl, h⟩
  clear hp hs hL lL hS lS kb hT
  generalize loB (heldI Ls) L S = v at *
  generalize noL (heldI Ls) L S = R at *
  generalize Ls.length = n at *
  generalize L.length = m at *
  generalize S.length = ls at *
  go_enter Tryd.func16, Tryd.ntmps16
  go_wp2_with fail
  generalize (((w.alloc (.cells #[.slice A n c] 29)).alloc (.cells #[.slice AO m cO] 25)).alloc (.cells #[.slice AS ls cS] 25)) = w1 at *
  have hx1 : Below w1.heap.size w1 (w1.alloc (.cells #[.bool false] 4)) := by (repeat (first | assumption | exact Below.refl _ _ | (refine bl_alloc ?_ _) | (refine Below.drew ?_) | (refine bl_drewN ?_ _) | (refine bl_set ?_ (by first | (simp; done) | omega | (simp; omega)) _) | (refine bl_trans ?_ (by assumption)) | (refine bl_step ?_ (by assumption) (by first | omega | exact Below.size (by assumption) | (simp; omega) | (simp; exact Below.size (by assumption))))))
  refine (attemptNs_any 37 _ w1 (fun u w2 => OwnI w2 (w1.heap.size + 1) u R ∧ v = true) (v = false) (fun _ _ => by first | rfl | (simp [go_sem]; done)) ((cc.out _ hx1).mono ?_)).mono ?_
  · rintro e w2 ⟨h, hb⟩
    refine ⟨?_, hb⟩
    rcases h with ⟨u, rfl, h1, h2⟩ | ⟨h1, h2⟩
    · rw [World.size_alloc] at h1
      exact .inl ⟨u, rfl, h1, h2⟩
    · exact .inr ⟨h1, h2⟩
  rintro e w2 h
  obtain ⟨A4, c4, rfl, h4, hb4⟩ := nres_att h HNO.out
  obtain ⟨m2, hm2⟩ : ∃ m2, R.length = m2 := ⟨_, rfl⟩
  have HM := Lib.hid hm2
  rw [hm2]
  clear hm2
  go_wp2
  go_ret2
  exact ⟨A4, c4, by rw [HM.out]; rfl, fun h0 => by obtain ⟨g, e1, hg, hI⟩ := h4 h0; exact ⟨g, e1, Nat.le_trans hx.size hg, hI⟩, bl_step hx hb4 hx.size⟩
theorem NoiseOfS_in (A : Option Addr) (n c : Nat) (M : Mz) (AO : Option Addr) (L : List Int) (cO : Nat) (AS : Option Addr) (S : List Int) (cS : Nat) (w : World) (h : BnIn w A n M) (hL : IntsAt w w.heap.size AO L) (lL : L.length ≤ 1048576) (hS : IntsAt w w.heap.size AS S) (lS : S.length ≤ 1048576) :
    Calls Tryd.prog 15 #[.agg #[.slice A n c], .slice AO L.length cO, .slice AS S.length cS] w (NRes (noL M L S) (loB M L S) w) := by
  obtain ⟨Ms, rfl, rfl, h3, h4⟩ := h
  exact NoiseOfS_any A Ms c AO L cO AS S cS w h3 h4 hL lL hS lS
theorem NoiseOfI_in (A : Option Addr) (n c : Nat) (M : Mz) (AO : Option Addr) (L : List Int) (cO : Nat) (AS : Option Addr) (S : List Int) (cS : Nat) (w : World) (h : BnIn w A n M) (hL : IntsAt w w.heap.size AO L) (lL : L.length ≤ 1048576) (hS : IntsAt w w.heap.size AS S) (lS : S.length ≤ 1048576) (hT : BruAt w) :
    Calls Tryd.prog 16 #[.agg #[.slice A n c], .slice AO L.length cO, .slice AS S.length cS] w (NRes (noL M L S) (loB M L S) w) := by
  obtain ⟨Ms, rfl, rfl, h3, h4⟩ := h
  exact NoiseOfI_any A Ms c AO L cO AS S cS w h3 h4 hL lL hS lS hT
end Go.Proofs.YtifenbamookmiaaDoor
namespace Go.Proofs.YtifenbamookmiaaDoor.fnExactNoiseOf
set_option linter.unusedSimpArgs false
set_option linter.unusedVariables false
open Go.ChangeShapes Go.WideShapes Go.ChangeAt Go.RowKit

set_option maxRecDepth 100000 in
set_option maxHeartbeats 6400000 in
theorem walk (A : Option Addr) (Ls : List SlI) (c : Nat) (B0 : Option Addr) (p0 : List Int) (d0 : Nat) (B1 : Option Addr) (p1 : List Int) (d1 : Nat) (w : World) (h : RowsIn w A Ls c) (h0 : IntsAt w w.heap.size B0 p0 ∧ (∀ n ∈ p0, Fits n) ∧ p0.length ≤ d0 ∧ d0 ≤ maxLen) (h1 : IntsAt w w.heap.size B1 p1 ∧ (∀ n ∈ p1, Fits n) ∧ p1.length ≤ d1 ∧ d1 ≤ maxLen) (hL : BruAt w) :
    Calls Tryd.prog 4 #[.agg #[.slice A Ls.length c], .slice B0 p0.length d0, .slice B1 p1.length d1] w fun e w' => e = .returned (.bool true) ∧ Below w.heap.size w w' := by
  have hx0 : Below w.heap.size w (w.alloc (.cells #[.slice A Ls.length c] 24)) := by (repeat (first | assumption | exact Below.refl _ _ | (refine bl_alloc ?_ _) | (refine Below.drew ?_) | (refine bl_drewN ?_ _) | (refine bl_set ?_ (by first | (simp; done) | omega | (simp; omega)) _) | (refine bl_trans ?_ (by assumption)) | (refine bl_step ?_ (by assumption) (by first | omega | exact Below.size (by assumption) | (simp; omega) | (simp; exact Below.size (by assumption))))))
  obtain ⟨q0, _, _, _⟩ := h0
  by_cases m0 : p0.length ≤ 1048576
  case neg =>
    have mI : 1048576 < (p0.length : Int) := by omega
    go_enter Tryd.func4, Tryd.ntmps4
    go_wp2
    go_ret
    exact ⟨rfl, hx0⟩
  have mI0 : (p0.length : Int) ≤ 1048576 := by omega
  obtain ⟨q1, _, _, _⟩ := h1
  by_cases m1 : p1.length ≤ 1048576
  case neg =>
    have mI : 1048576 < (p1.length : Int) := by omega
    go_enter Tryd.func4, Tryd.ntmps4
    go_wp2
    go_ret
    exact ⟨rfl, hx0⟩
  have mI1 : (p1.length : Int) ≤ 1048576 := by omega
  have ka := Blk.new w #[.slice A Ls.length c] 24
  have csz := szBundle_in A Ls c (w.alloc (.cells #[.slice A Ls.length c] 24)) w h hx0
  clear h
  have HL := Lib.hid hL
  clear hL
  generalize Ls.length = n at *
  generalize heldI Ls = M at *
  obtain ⟨L, hL⟩ : ∃ L, noL M p0 p1 = L := ⟨_, rfl⟩
  obtain ⟨ok, hok⟩ : ∃ ok, loB M p0 p1 = ok := ⟨_, rfl⟩
  have hLl : L.length ≤ 1048576 := by rw [← hL]; exact noL_len
  have CS := Lib.hid (fun (wx : World) (A : Option Addr) (B0 : Option Addr) (B1 : Option Addr) (h : BnIn wx A n M) (q0 : IntsAt wx wx.heap.size B0 p0) (q1 : IntsAt wx wx.heap.size B1 p1) => by have := NoiseOfS_in A n n M B0 p0 p0.length B1 p1 p1.length wx h q0 m0 q1 m1; rw [hL, hok] at this; exact this)
  have CI := Lib.hid (fun (wx : World) (A : Option Addr) (B0 : Option Addr) (B1 : Option Addr) (h : BnIn wx A n M) (q0 : IntsAt wx wx.heap.size B0 p0) (q1 : IntsAt wx wx.heap.size B1 p1) (hT : BruAt wx) => by have := NoiseOfI_in A n n M B0 p0 p0.length B1 p1 p1.length wx h q0 m0 q1 m1 hT; rw [hL, hok] at this; exact this)
  have CE := Lib.hid (fun (wx : World) (A B : Option Addr) (c d : Nat) (h : IntsAt wx wx.heap.size A L) (k : IntsAt wx wx.heap.size B L) => eqInt64S_same A B L c d wx h k hLl)
  have CN0 := Lib.hid (fun (wx : World) (hx : Below w.heap.size w wx) => toInt64S_new B0 p0 d0 wx (q0.to hx) m0)
  have CP0 := Lib.hid (fun (wx : World) (A B : Option Addr) (h : IntsAt wx wx.heap.size A p0) (k : IntsAt wx wx.heap.size B p0) => eqInt64S_same A B p0 p0.length p0.length wx h k m0)
  have CN1 := Lib.hid (fun (wx : World) (hx : Below w.heap.size w wx) => toInt64S_new B1 p1 d1 wx (q1.to hx) m1)
  have CP1 := Lib.hid (fun (wx : World) (A B : Option Addr) (h : IntsAt wx wx.heap.size A p1) (k : IntsAt wx wx.heap.size B p1) => eqInt64S_same A B p1 p1.length p1.length wx h k m1)
  have hokn : (ok != ok) = false := bne_self_eq_false _
  have hmL : ¬ (1 + (L.length : Int)) < 0 := by omega
  clear hL hok q0 q1
  go_enter Tryd.func4, Tryd.ntmps4
  go_wp2_with fail
  refine csz.mono ?_
  rintro e w1 ⟨⟨r, rfl, hr1, hr2, hr3⟩, hb⟩
  have HR := Lib.hid hr3
  clear hr3 csz
  replace ka := ka.to hb
  have x1 := bl_step hx0 hb hx0.size
  clear hb hx0
  by_cases hr : r < 0
  · go_wp2
    go_ret
    exact ⟨rfl, x1⟩
  have HP := Lib.hid (HR.out (by omega))
  have CT := Lib.hid (fun (wx : World) (hx : Below w.heap.size w wx) => toBundle_in A n c M wx (HP.out.to hx))
  clear HR hr1 hr2
  have s0 := ka.cell 0 (v := .slice A n c) rfl
  go_wp2_with fail
  refine (CT.out _ x1).mono ?_
  rintro e w2 ⟨g1, rfl, hB, _, hb⟩
  have x2 := bl_trans x1 hb
  replace ka := ka.to hb
  clear hb x1
  clear s0
  go_wp2_with fail
  refine (CN0.out _ x2).mono ?_
  rintro e w3 ⟨y0, rfl, hN0, hb, _⟩
  have x3 := bl_trans x2 hb
  replace ka := ka.to hb
  replace hB := hB.to hb
  clear hb x2
  go_wp2_with fail
  refine (CN1.out _ x3).mono ?_
  rintro e w4 ⟨y1, rfl, hN1, hb, _⟩
  have x4 := bl_trans x3 hb
  replace ka := ka.to hb
  replace hB := hB.to hb
  replace hN0 := hN0.to hb
  clear hb x3
  go_wp2_with fail
  refine (CS.out _ _ _ _ hB.in_ hN0.nums hN1.nums).mono ?_
  rintro e w0 ⟨A0, c0, rfl, o0, hb⟩
  have x5 := bl_trans x4 hb
  replace ka := ka.to hb
  have p : IntsAt w0 w0.heap.size A0 L := o0.ints
  have hz2 : w0.heap.size ≤ w0.heap.size := Nat.le_refl _
  have hw0 : w.heap.size < w0.heap.size := ka.lt
  clear hb hB o0 x4 hN0 hN1
  have s0 := ka.cell 0 (v := .slice A n c) rfl
  go_wp2_with fail
  refine (CT.out _ x5).mono ?_
  rintro e w6 ⟨gx, rfl, hX, hgx, hb⟩
  have hgx0 : w0.heap.size ≤ gx := Nat.le_trans hz2 hgx
  clear hgx
  have x6 := bl_trans x5 hb
  replace ka := ka.to hb
  replace p := p.keepB (hb.mono hz2)
  replace hz2 : w0.heap.size ≤ w6.heap.size := Nat.le_trans hz2 hb.size
  clear hb x5
  clear s0
  have HXc := Lib.hid hX
  have hgX : gx < w6.heap.size := by
    obtain ⟨Ms, _, _, hZ, _⟩ := hX
    exact hZ.lt
  have kb := Blk.new w6 #[.slice (some ⟨gx, 0, none⟩) n n] 29
  have hb : Below w6.heap.size w6 (w6.alloc (.cells #[.slice (some ⟨gx, 0, none⟩) n n] 29)) := (Below.refl _ _).alloc (Nat.le_refl _) _
  have bC := hb
  replace ka := ka.to hb
  replace hX := hX.to hb
  replace p := p.keepB (hb.mono hz2)
  replace hz2 : w0.heap.size ≤ (w6.alloc (.cells #[.slice (some ⟨gx, 0, none⟩) n n] 29)).heap.size := Nat.le_trans hz2 hb.size
  replace x6 := bl_trans x6 hb
  clear hb
  go_wp2_with fail
  generalize (w6.alloc (.cells #[.slice (some ⟨gx, 0, none⟩) n n] 29)) = v6 at *
  generalize hXX : w6.heap.size = X at *
  have HX0 := Lib.hid hXX
  clear hXX
  refine (CN0.out _ x6).mono ?_
  rintro e w7 ⟨z0, rfl, hY0, hb, hgz⟩
  have hzX0 : X ≤ z0 := by have := bC.size; rw [HX0.out] at this; omega
  have hzw0 : w0.heap.size ≤ z0 := by omega
  have x7 := bl_trans x6 hb
  replace ka := ka.to hb
  replace kb := kb.to hb
  replace hX := hX.to hb
  replace p := p.keepB (hb.mono hz2)
  replace hz2 : w0.heap.size ≤ w7.heap.size := Nat.le_trans hz2 hb.size
  replace bC := bC.trans (hb.mono (by have := bC.size; rw [HX0.out] at this; exact this))
  clear hb hgz x6
  go_wp2_with fail
  refine (CN1.out _ x7).mono ?_
  rintro e w8 ⟨z1, rfl, hY1, hb, hgz⟩
  have hzX1 : X ≤ z1 := by have := bC.size; rw [HX0.out] at this; omega
  have hzw1 : w0.heap.size ≤ z1 := by omega
  have hzz01 : z0 < z1 := by have := hY0.lt; omega
  have x8 := bl_trans x7 hb
  replace ka := ka.to hb
  replace kb := kb.to hb
  replace hX := hX.to hb
  replace p := p.keepB (hb.mono hz2)
  replace hz2 : w0.heap.size ≤ w8.heap.size := Nat.le_trans hz2 hb.size
  replace bC := bC.trans (hb.mono (by have := bC.size; rw [HX0.out] at this; exact this))
  replace hY0 := hY0.to hb
  clear hb hgz x7
  have u0 := kb.cell 0 (v := .slice (some ⟨gx, 0, none⟩) n n) rfl
  go_wp2_with fail
  have hzO0 : z0 < w8.heap.size := hY0.lt
  have hzO1 : z1 < w8.heap.size := hY1.lt
  have hXO : X ≤ w8.heap.size := by have := bC.size; rw [HX0.out] at this; exact this
  refine (CI.out _ _ _ _ hX.in_ hY0.nums hY1.nums (HL.out.to x8)).mono ?_
  rintro e w9 ⟨A1, c1, rfl, o, hb⟩
  have x9 := bl_trans x8 hb
  have hwO : w0.heap.size ≤ w8.heap.size := hz2
  replace ka := ka.to hb
  replace kb := kb.to hb
  replace hX := hX.to hb
  replace p := p.keepB (hb.mono hz2)
  replace hz2 : w0.heap.size ≤ w9.heap.size := Nat.le_trans hz2 hb.size
  replace bC := bC.trans (hb.mono (by have := bC.size; rw [HX0.out] at this; exact this))
  replace hY0 := hY0.to hb
  replace hY1 := hY1.to hb
  clear hb x8 u0
  generalize w8.heap.size = O at *
  go_wp2_with fail
  refine (CE.out _ _ _ _ _ o.ints (p.mono hz2)).mono ?_
  rintro e w10 ⟨rfl, hb⟩
  have x10 := bl_trans x9 hb
  replace ka := ka.to hb
  replace kb := kb.to hb
  replace hX := hX.to hb
  replace p := p.keepB (hb.mono hz2)
  replace hz2 : w0.heap.size ≤ w10.heap.size := Nat.le_trans hz2 hb.size
  replace bC := bC.trans (hb.mono (by have := bC.size; rw [HX0.out] at this; exact this))
  replace hY0 := hY0.to hb
  replace hY1 := hY1.to hb
  replace o := o.to hb
  clear hb x9
  have s0 := ka.cell 0 (v := .slice A n c) rfl
  have u0 := kb.cell 0 (v := .slice (some ⟨gx, 0, none⟩) n n) rfl
  have la := ka.lt
  have lb := kb.lt
  go_wp2_with fail
  refine wp_region_treeB (.takes [0, 1] (.alone 2 (.alone 3 (.takes [4] .done)))) (by kernel_rfl) (by kernel_rfl) (by kernel_rfl) (fun _ d _ _ _ h => by cases d <;> exact h) (fun hS0 => ?_)
  refine tplan_w (v := ?_) rfl (by rfl) ?_ ?_
  rotate_left
  · intro wx hSx
    obtain ⟨hcx, hfx, hzx⟩ := bcell hSx
    go_simp
    try (with_reducible rfl)
  try simp only [Act.put, List.setIfInBounds_toArray, List.set_cons_zero, List.set_cons_succ]
  refine tplan_w (v := ?_) rfl (by rfl) ?_ ?_
  rotate_left
  · intro wx hSx
    obtain ⟨hcx, hfx, hzx⟩ := bcell hSx
    go_simp
    try (with_reducible rfl)
  try simp only [Act.put, List.setIfInBounds_toArray, List.set_cons_zero, List.set_cons_succ]
  refine tplan_b rfl (fun K hK => ?_)
  go_simp
  refine (CT.out _ (bl_step x10 hS0 x10.size)).mono ?_
  rintro e wa ⟨gm, rfl, hP, _, hb9⟩
  have hS1 := belowS hS0 hb9
  refine hK _ _ ⟨hS1, ?_⟩
  clear hK K
  try simp only [Act.put, List.setIfInBounds_toArray, List.set_cons_zero, List.set_cons_succ]
  refine tplan_b rfl (fun K hK => ?_)
  go_simp
  refine ((eqBundle_in _ _ _ _ _ M _ ((hX.to hS0).to hb9).in_ hP.in_)).mono ?_
  rintro e w2 ⟨rfl, hb2⟩
  have hS2 := belowS hS1 hb2
  refine hK _ _ ⟨hS2, ?_⟩
  clear hK K
  try simp only [Act.put, List.setIfInBounds_toArray, List.set_cons_zero, List.set_cons_succ]
  refine tplan_w (v := ?_) rfl (by rfl) ?_ ?_
  rotate_left
  · intro wx hSx
    obtain ⟨hcx, hfx, hzx⟩ := bcell hSx
    go_simp
    try (with_reducible rfl)
  try simp only [Act.put, List.setIfInBounds_toArray, List.set_cons_zero, List.set_cons_succ]
  refine tplan_endQ ?_
  have x11 := bl_step x10 hS2 x10.size
  have hb := hS2
  clear hP hb9 hS0 hS1 hS2 s0 u0 la lb
  replace ka := ka.to hb
  replace kb := kb.to hb
  replace hX := hX.to hb
  replace p := p.keepB (hb.mono hz2)
  replace hz2 : w0.heap.size ≤ w2.heap.size := Nat.le_trans hz2 hb.size
  replace bC := bC.trans (hb.mono (by have := bC.size; rw [HX0.out] at this; exact this))
  replace hY0 := hY0.to hb
  replace hY1 := hY1.to hb
  replace o := o.to hb
  clear hb x10
  go_wp2_with fail
  refine (CN0.out _ x11).mono ?_
  rintro e w12 ⟨gq, rfl, hQ, hb, _⟩
  have x12 := bl_trans x11 hb
  replace ka := ka.to hb
  replace kb := kb.to hb
  replace hX := hX.to hb
  replace p := p.keepB (hb.mono hz2)
  replace hz2 : w0.heap.size ≤ w12.heap.size := Nat.le_trans hz2 hb.size
  replace bC := bC.trans (hb.mono (by have := bC.size; rw [HX0.out] at this; exact this))
  replace hY0 := hY0.to hb
  replace hY1 := hY1.to hb
  replace o := o.to hb
  clear hb x11
  go_wp2_with fail
  refine (CP0.out _ _ _ hY0.nums hQ.nums).mono ?_
  rintro e w13 ⟨rfl, hb⟩
  have x13 := bl_trans x12 hb
  replace ka := ka.to hb
  replace kb := kb.to hb
  replace hX := hX.to hb
  replace p := p.keepB (hb.mono hz2)
  replace hz2 : w0.heap.size ≤ w13.heap.size := Nat.le_trans hz2 hb.size
  replace bC := bC.trans (hb.mono (by have := bC.size; rw [HX0.out] at this; exact this))
  replace hY0 := hY0.to hb
  replace hY1 := hY1.to hb
  replace o := o.to hb
  clear hb x12
  clear hQ
  go_wp2_with fail
  refine (CN1.out _ x13).mono ?_
  rintro e w14 ⟨gq, rfl, hQ, hb, _⟩
  have x14 := bl_trans x13 hb
  replace ka := ka.to hb
  replace kb := kb.to hb
  replace hX := hX.to hb
  replace p := p.keepB (hb.mono hz2)
  replace hz2 : w0.heap.size ≤ w14.heap.size := Nat.le_trans hz2 hb.size
  replace bC := bC.trans (hb.mono (by have := bC.size; rw [HX0.out] at this; exact this))
  replace hY0 := hY0.to hb
  replace hY1 := hY1.to hb
  replace o := o.to hb
  clear hb x13
  go_wp2_with fail
  refine (CP1.out _ _ _ hY1.nums hQ.nums).mono ?_
  rintro e w15 ⟨rfl, hb⟩
  have x15 := bl_trans x14 hb
  replace ka := ka.to hb
  replace kb := kb.to hb
  replace hX := hX.to hb
  replace p := p.keepB (hb.mono hz2)
  replace hz2 : w0.heap.size ≤ w15.heap.size := Nat.le_trans hz2 hb.size
  replace bC := bC.trans (hb.mono (by have := bC.size; rw [HX0.out] at this; exact this))
  replace hY0 := hY0.to hb
  replace hY1 := hY1.to hb
  replace o := o.to hb
  clear hb x14
  clear hQ
  have u0 := kb.cell 0 (v := .slice (some ⟨gx, 0, none⟩) n n) rfl
  go_wp2_with fail
  refine (markBundle_in gx n n M w6 _ HXc.out (by rw [HX0.out]; exact bC)).mono ?_
  rintro e w16 ⟨⟨rr, rfl, hrr⟩, hM⟩
  rw [HX0.out] at hM
  have hrr0 : (0 : Int) ≤ (rr : Int) := by omega
  have hrrI : (rr : Int) ≤ 2000000000000 := by omega
  have x16 := hM.below x15 (by omega) (Nat.le_refl _)
  replace ka := hM.blk ka (.inl (by omega))
  replace p := hM.ints p (by omega) hz2
  replace o := hM.own4 o hXO
  replace hz2 : w0.heap.size ≤ w16.heap.size := Nat.le_trans hz2 hM.size
  replace hY0 := hM.nblk hY0 (.inr hzX0)
  replace hY1 := hM.nblk hY1 (.inr hzX1)
  clear hM hX kb u0 bC x15 hrr
  go_wp2_with fail
  refine (markInts_any z0 p0.length p0.length ((rr : Int)) _ hY0.pl m0 (by omega) (by omega)).mono ?_
  rintro e w17 ⟨rfl, hO⟩
  have x17 := hO.below x16 (by omega) x16.size
  replace ka := hO.blk ka (by omega)
  replace p := hO.ints p hzw0 hz2
  replace o := hO.own4 o hzO0
  replace hz2 : w0.heap.size ≤ w17.heap.size := Nat.le_trans hz2 hO.size
  replace hY1 := hO.nblk hY1 (by omega)
  clear hO hY0 x16
  go_wp2_with fail
  refine (markInts_any z1 p1.length p1.length ((rr : Int) + (p0.length : Int)) _ hY1.pl m1 (by omega) (by omega)).mono ?_
  rintro e w18 ⟨rfl, hO⟩
  have x18 := hO.below x17 (by omega) x17.size
  replace ka := hO.blk ka (by omega)
  replace p := hO.ints p hzw1 hz2
  replace o := hO.own4 o hzO1
  replace hz2 : w0.heap.size ≤ w18.heap.size := Nat.le_trans hz2 hO.size
  clear hO hY1 x17
  have hqn : decide ((rr : Int) + (p0.length : Int) + (p1.length : Int) < 0) = false := decide_eq_false (by omega)
  have hqn2 : ¬ ((rr : Int) + (p0.length : Int) + (p1.length : Int) < 0) := by omega
  go_wp2_with fail
  refine (CE.out _ _ _ _ _ o.ints (p.mono hz2)).mono ?_
  rintro e w19 ⟨rfl, hb⟩
  have x19 := bl_trans x18 hb
  replace ka := ka.to hb
  replace p := p.keepB (hb.mono hz2)
  replace hz2 : w0.heap.size ≤ w19.heap.size := Nat.le_trans hz2 hb.size
  replace o := o.to hb
  clear hb x18
  go_wp2_with fail
  refine (markI_opt A1 L _ O _ o hLl).mono ?_
  rintro e w20 ⟨rfl, m, hO, hnw⟩
  have hAO : ∀ g, A1 = some ⟨g, 0, none⟩ → 0 < L.length → O ≤ g := fun g e h0 => by obtain ⟨g', e', hg', _⟩ := o h0; rw [e'] at e; injection e with e; injection e with e; omega
  have hpk : IntsAt w20 w0.heap.size A0 L := by
    rcases hnw with h0 | rfl
    · intro h1
      obtain ⟨b, off, e, hlt, hc⟩ := p h1
      have hk : w20.heap[b]? = w19.heap[b]? := hO.2.2.2.2 b (fun e => by have := hAO b e h0; omega)
      exact ⟨b, off, e, hlt, fun i hi => (World.cell?_of_block (a := ⟨b, _, none⟩) hk).trans (hc i hi)⟩
    · exact p
  have x20 : Below w.heap.size w w20 := by
    rcases hnw with h0 | rfl
    · exact hO.below x19 (fun g e => by have := hAO g e h0; omega)
    · exact x19
  have hka : Blk w20 w.heap.size #[.slice A n c] 24 := by
    rcases hnw with h0 | rfl
    · exact ka.keep (hO.2.2.2.2 _ (fun e => by have := hAO _ e h0; omega))
    · exact ka
  replace hz2 : w0.heap.size ≤ w20.heap.size := by rw [hO.2.2.2.1]; exact hz2
  clear p o ka hO hnw hAO x19
  go_wp2_with fail
  refine (heldI_opt A1 L.length _ O _ m hLl).mono ?_
  rintro e w21 ⟨rfl, rfl⟩
  have ka := hka
  have p := hpk
  clear hka hpk
  have s0 := ka.cell 0 (v := .slice A n c) rfl
  go_wp2_with fail
  refine (CT.out _ x20).mono ?_
  rintro e w21 ⟨g3, rfl, hB, _, hb⟩
  have x21 := bl_trans x20 hb
  replace ka := ka.to hb
  replace p := p.keepB (hb.mono hz2)
  replace hz2 : w0.heap.size ≤ w21.heap.size := Nat.le_trans hz2 hb.size
  replace m := m.to hb
  clear hb x20
  clear s0
  go_wp2_with fail
  refine (CN0.out _ x21).mono ?_
  rintro e w22 ⟨g40, rfl, hN0, hb, _⟩
  have x22 := bl_trans x21 hb
  replace ka := ka.to hb
  replace p := p.keepB (hb.mono hz2)
  replace hz2 : w0.heap.size ≤ w22.heap.size := Nat.le_trans hz2 hb.size
  replace m := m.to hb
  replace hB := hB.to hb
  clear hb x21
  go_wp2_with fail
  refine (CN1.out _ x22).mono ?_
  rintro e w23 ⟨g41, rfl, hN1, hb, _⟩
  have x23 := bl_trans x22 hb
  replace ka := ka.to hb
  replace p := p.keepB (hb.mono hz2)
  replace hz2 : w0.heap.size ≤ w23.heap.size := Nat.le_trans hz2 hb.size
  replace m := m.to hb
  replace hB := hB.to hb
  replace hN0 := hN0.to hb
  clear hb x22
  go_wp2_with fail
  refine (CI.out _ _ _ _ hB.in_ hN0.nums hN1.nums (HL.out.to x23)).mono ?_
  rintro e w24 ⟨A2, c2, rfl, o2, hb⟩
  have x24 := bl_trans x23 hb
  replace p := p.keepB (hb.mono hz2)
  replace hz2 : w0.heap.size ≤ w24.heap.size := Nat.le_trans hz2 hb.size
  replace m := m.to hb
  clear hb hB x23 hN0 hN1
  go_wp2_with fail
  refine (CE.out _ _ _ _ _ o2.ints (p.mono hz2)).mono ?_
  rintro e w25 ⟨rfl, hb⟩
  have x25 := bl_trans x24 hb
  replace m := m.to hb
  clear hb x24
  go_wp2_with fail
  refine (heldI_opt A1 L.length _ O _ m hLl).mono ?_
  rintro e w26 ⟨rfl, rfl⟩
  go_wp2
  go_ret
  exact ⟨rfl, x25⟩
end Go.Proofs.YtifenbamookmiaaDoor.fnExactNoiseOf
namespace Go.Proofs.YtifenbamookmiaaDoor.fnExactNoiseOf
set_option linter.unusedSimpArgs false
set_option linter.unusedVariables false
open Go.ChangeShapes Go.WideShapes Go.ChangeAt Go.RowKit
open Go.ChangeMaps (open_string)

set_option maxRecDepth 100000 in
theorem lifted (os : Os) (started : os.Started) (H : Type) (enc : TypeId × Value → H) :
    ReturnsInHanded {} Tryd.checked os 4 .any (fun w args => (Rows.fnExactNoiseOfSpec.pre enc Tryd.prog Tryd.f4 [] false w args ∧ laidMetH Tryd.prog laid1 w) ∧ sizedMet enc Tryd.prog Tryd.f4 (OpenSpec.ofChange Rows.fnExactNoiseOfSpec) false w args)
      (Rows.fnExactNoiseOfSpec.post enc Tryd.prog Tryd.f4 false true false false) := by
  refine returnsInHanded_of_change_and (C := Tryd.checked) (X := fun w _ => laidMetH Tryd.prog laid1 w) (fun _ _ _ hh h => h.of_heap hh) own started (by kernel_rfl) Tryd.func4
    (ChangeSpec.witness_shaped (enc := enc) (C := Tryd.checked) (os := os) (X := fun w _ => laidMetH Tryd.prog laid1 w) false (World.doorLaid Tryd.prog 4000 os) #[.agg #[.slice none 0 0], .slice none 0 0, .slice none 0 0] 8 rfl (World.shaped_of_RefB (by kernel_rfl) (by kernel_rfl)) (by kernel_rfl) (by kernel_rfl) (by kernel_rfl) (door_met1 os _)) ?_
  intro W base args ds gs before hval0 hW _ _ hL _
  have hval : ∀ (j : Nat) t v, Tryd.f4.params[j]? = some t → args[j]? = some v → Value.okWide Tryd.prog W .any base t v := hval0
  have hW' := hW
  obtain ⟨p, q, hA0, hV, rfl, hfz, hnd⟩ := hW
  have hA : DataW.TrodAll enc Tryd.prog W 0 (fun _ => true) true Tryd.f4.params.toList args.toList ds p := hA0
  rw [Tryd.params4] at hA hval
  obtain ⟨v0, vs0, d0, ds0, p0, q0, hargs, rfl, rfl, h0, r0⟩ := trodAll_cons hA
  obtain ⟨v1, vs1, d1, ds1, p1, q1, rfl, rfl, rfl, h1, r1⟩ := trodAll_cons r0
  obtain ⟨v2, vs2, d2, ds2, p2, q2, rfl, rfl, rfl, h2, r2⟩ := trodAll_cons r1
  obtain ⟨rfl, rfl, rfl⟩ := trodAll_nil r2
  obtain rfl : args = #[v0, v1, v2] := by cases args; simp_all
  obtain ⟨rfl, rfl⟩ := trodVars_none hV
  have k0 := h0
  have lt0 : ∀ x ∈ p0, x.block < W.heap.size := by obtain ⟨m, hm⟩ := k0; exact DataW.trod_lt m _ _ _ hm
  have k1 := h1
  have lt1 : ∀ x ∈ p1, x.block < W.heap.size := by obtain ⟨m, hm⟩ := k1; exact DataW.trod_lt m _ _ _ hm
  have k2 := h2
  have lt2 : ∀ x ∈ p2, x.block < W.heap.size := by obtain ⟨m, hm⟩ := k2; exact DataW.trod_lt m _ _ _ hm
  obtain ⟨A0, l0, c0, rfl, w0⟩ := open_bundle (hval 0 24 v0 rfl rfl) h0
  obtain ⟨A1, l1, c1, rfl, w1⟩ := open_nums (hval 1 25 v1 rfl rfl) h1
  obtain ⟨A2, l2, c2, rfl, w2⟩ := open_nums (hval 2 25 v2 rfl rfl) h2
  clear hA0 hval0
  refine (walk A0 l0 c0 A1 l1 c1 A2 l2 c2 W w0 w1 w2 (of_laid1 hL)).mono fun e W' ⟨he, bel⟩ => ?_
  subst he
  exact ⟨_, rfl, _, _, _, [], _, [], hW', trodAll_mk1 (shut_bool Tryd.underlying4 _), (trodAll_cons_mk (Below.trod laidOut (by kernel_rfl) (of_decide_eq_true (by kernel_rfl)) k0 bel lt0) (trodAll_cons_mk (Below.trod laidOut (by kernel_rfl) (of_decide_eq_true (by kernel_rfl)) k1 bel lt1) (trodAll_cons_mk (Below.trod laidOut (by kernel_rfl) (of_decide_eq_true (by kernel_rfl)) k2 bel lt2) trodAll_mk0))), rfl, bel.frame _, fun h => by cases h⟩

theorem row_holds : Rows.FnExactNoiseOfSaid :=
  OpenClaim.holds_of_wide 4 Tryd.f4 rfl rfl rfl rfl rfl rfl rfl ⟨rfl, rfl, rfl, rfl, rfl⟩ rfl rfl rfl rfl rfl (by kernel_rfl) Tryd.func4 (by kernel_rfl)
    (of_decide_eq_true (by kernel_rfl)) (by unfold Func.isWrapper; first | (rw [if_pos (by decide +kernel)]; kernel_rfl) | (rw [if_neg (by decide +kernel)]; exact ⟨rfl, rfl⟩))
    (fun os started H enc _ => lifted os started H enc)

/-- The tied card. -/
theorem proved : Rows.FnExactNoiseOfCardSaid :=
  Claim7.holds_tied_plain_at .later [] [.data] true Rows.fnExactNoiseOfCard.stood.harness Rows.fnExactNoiseOfCard.stood.looks
    row_holds (fun _ h => by cases h) (by kernel_rfl) (fun _ h => by cases h) fnExactNoiseOf_row_tie rfl ⟨rfl, rfl⟩ (by kernel_rfl) rfl
    (fun f fn hf hfn => by
      obtain rfl : f = 4 := Option.some.inj ((show Tryd.prog.funcNamed "loop.example/g01149/laws.FnExactNoiseOf" = some 4 by kernel_rfl).symm.trans hf) |>.symm
      obtain rfl : fn = Tryd.f4 := (Option.some.inj (Tryd.func4.symm.trans hfn)).symm
      exact ⟨by kernel_rfl, fun j t ht => by
        rw [Tryd.params4] at ht
        have hm : t ∈ [24, 25, 25] := by simpa using Array.mem_of_getElem? ht
        have hall : ([24, 25, 25].all fun u => !Tryd.prog.wantsStandIn u) = true := by kernel_rfl
        exact (show Tryd.prog.wantsStandIn t = false by simpa using List.all_eq_true.1 hall t hm)⟩)
    (by kernel_rfl)
#print axioms proved
end Go.Proofs.YtifenbamookmiaaDoor.fnExactNoiseOf
