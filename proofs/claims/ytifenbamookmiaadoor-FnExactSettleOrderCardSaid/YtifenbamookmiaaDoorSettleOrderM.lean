/-
  Proved: FnExactSettleOrder over every input at which its listed variables lie as the program's text lays them, and its tied card.
-/
import Derived.Test.YtifenbamookmiaaDoorMarkI
import Derived.Test.YtifenbamookmiaaDoorPan
import Derived.Test.YtifenbamookmiaaDoorBunW
import Derived.Test.YtifenbamookmiaaDoorSwpP
import Derived.Test.YtifenbamookmiaaDoorSwpS
import Derived.Test.YtifenbamookmiaaDoorSwpI
import Derived.Test.YtifenbamookmiaaDoorOver
import Derived.Test.YtifenbamookmiaaDoorCplO
import Derived.Test.YtifenbamookmiaaDoorQuietA
import Derived.Test.YtifenbamookmiaaDoorLaidBru
import Derived.ChangeMaps5
namespace Go.Proofs.YtifenbamookmiaaDoor
set_option linter.unusedSimpArgs false
set_option linter.unusedVariables false
open Go.ChangeShapes Go.WideShapes Go.ChangeAt Go.RowKit

/-- All that stood but block g is as it was. -/
structure ButG (g : Nat) (w w' : World) : Prop where
  os : w'.os = w.os
  tape : w'.tape = w.tape
  output : w'.output = w.output
  size : w.heap.size ≤ w'.heap.size
  block : ∀ i, i < w.heap.size → i ≠ g → w'.heap[i]? = w.heap[i]?
theorem ButG.refl (g : Nat) (w : World) : ButG g w w := ⟨rfl, rfl, rfl, Nat.le_refl _, fun _ _ _ => rfl⟩
theorem ButG.trans {g : Nat} {a b c : World} (h : ButG g a b) (k : ButG g b c) : ButG g a c :=
  ⟨k.os.trans h.os, k.tape.trans h.tape, k.output.trans h.output, Nat.le_trans h.size k.size, fun i hi hne => (k.block i (Nat.lt_of_lt_of_le hi h.size) hne).trans (h.block i hi hne)⟩
theorem ButG.of {g : Nat} {w w' : World} (h : Below w.heap.size w w') : ButG g w w' := ⟨h.os, h.tape, h.output, h.size, fun i hi _ => h.block i hi⟩
theorem ButG.set_ {g : Nat} {a b : World} (h : ButG g a b) (o : Nat) (v : Value) : ButG g a (b.setCell ⟨g, o, none⟩ v) :=
  ⟨h.os, h.tape, h.output, by simpa [World.setCell] using h.size, fun i hi hne => (Below.heap_setCell b ⟨g, o, none⟩ v i (by simp; omega)).trans (h.block i hi hne)⟩
theorem ButG.below {g B : Nat} {a w w' : World} (h : ButG g w w') (hb : Below B a w) (hB : B ≤ g) (hB0 : B ≤ w.heap.size) : Below B a w' :=
  ⟨h.os.trans hb.os, h.tape.trans hb.tape, h.output.trans hb.output, Nat.le_trans hb.size h.size, fun k hk => (h.block k (by omega) (by omega)).trans (hb.block k hk)⟩
theorem ButG.ints {g B : Nat} {w w' : World} {A : Option Addr} {L : List Int} (h : ButG g w w') (hp : IntsAt w B A L) (hB : B ≤ g) (hz : B ≤ w.heap.size) : IntsAt w' B A L := fun h0 => by
  obtain ⟨b, off, e, hlt, hc⟩ := hp h0
  have hk : w'.heap[b]? = w.heap[b]? := h.block b (by omega) (by omega)
  exact ⟨b, off, e, hlt, fun i hi => (World.cell?_of_block (a := ⟨b, _, none⟩) hk).trans (hc i hi)⟩
theorem ButG.own4 {g B : Nat} {w w' : World} {A : Option Addr} {L : List Int} (h : ButG g w w') (hp : Own4 w B A L) (hB : g < B) : Own4 w' B A L := fun h0 => by
  obtain ⟨g', e, hg, hI⟩ := hp h0
  exact ⟨g', e, hg, hI.keep (h.block g' hI.lt (by omega))⟩
theorem ButG.blk {g b : Nat} {w w' : World} {cs : Array Value} {t : TypeId} (h : ButG g w w') (hp : Blk w b cs t) (hne : b ≠ g) : Blk w' b cs t := hp.keep (h.block b hp.lt hne)
theorem ButG.nblk {g b k : Nat} {w w' : World} {L : List Int} (h : ButG g w w') (hp : NBlk w b L k) (hne : b ≠ g) : NBlk w' b L k := hp.keep (h.block b hp.lt hne)

/-- Block g has n places at least. -/
def PlG (w : World) (g n : Nat) (t : TypeId) : Prop := ∃ cs, w.heap[g]? = some (.cells cs t (0, 0)) ∧ n ≤ cs.size
theorem PlG.frozen {w : World} {g n : Nat} {t : TypeId} (h : PlG w g n t) (i : Nat) : w.frozen? ⟨g, i, none⟩ = false := by
  obtain ⟨cs, h0, _⟩ := h
  simp [World.frozen?, h0]
theorem PlG.there {w : World} {g n : Nat} {t : TypeId} (h : PlG w g n t) {i : Nat} (hi : i < n) : ∃ v, w.cell? ⟨g, i, none⟩ = some v := by
  obtain ⟨cs, h0, h1⟩ := h
  rw [cell_of_row w g _ cs _ _ h0]
  exact ⟨cs[i]'(by omega), by simp [show i < cs.size by omega]⟩
theorem PlG.set_ {w : World} {g n : Nat} {t : TypeId} (h : PlG w g n t) (o : Nat) (v : Value) : PlG (w.setCell ⟨g, o, none⟩ v) g n t := by
  obtain ⟨cs, h0, h1⟩ := h
  exact ⟨cs.setIfInBounds o v, by simp [World.setCell, Array.getElem?_modify, h0], by simpa using h1⟩
theorem PlG.keep {w w' : World} {g n : Nat} {t : TypeId} (h : PlG w g n t) (hk : w'.heap[g]? = w.heap[g]?) : PlG w' g n t := by
  obtain ⟨cs, h0, h1⟩ := h
  exact ⟨cs, hk.trans h0, h1⟩
theorem PlG.lt {w : World} {g n : Nat} {t : TypeId} (h : PlG w g n t) : g < w.heap.size := by
  obtain ⟨cs, h0, _⟩ := h
  rcases Nat.lt_or_ge g w.heap.size with hlt | hge
  · exact hlt
  · rw [Array.getElem?_eq_none hge] at h0; cases h0
theorem NBlk.pl {w : World} {g k : Nat} {ns : List Int} (h : NBlk w g ns k) : PlG w g ns.length 2 := by
  obtain ⟨cs, h0, h1, _⟩ := h
  exact ⟨cs, h0, Nat.le_of_eq h1.symm⟩
set_option maxRecDepth 100000 in
set_option maxHeartbeats 800000 in
theorem markInts_any (g n c : Nat) (q : Int) (w : World) (h : PlG w g n 2) (hn : n ≤ 1048576) (hq0 : 0 ≤ q) (hq : q ≤ 1000000000000000) :
    Calls Tryd.prog 18 #[.slice (some ⟨g, 0, none⟩) n c, .int .i64 q] w fun e w' => e = .returned (.int .i64 (q + (n : Int))) ∧ ButG g w w' := by
  have hnI : (n : Int) ≤ 1048576 := by omega
  go_enter Tryd.func18, Tryd.ntmps18
  go_wp2
  go_loopw [1, 5] (fun p i wr => ∃ j : Nat, j ≤ n ∧ i = .int .i64 j ∧ p = .int .i64 (q + (j : Int)) ∧ PlG wr g n 2 ∧ ButG g w wr) (fun _ i _ => n - (intOf i).toNat)
  case atStart => exact ⟨0, Nat.zero_le _, rfl, by simp, h, ButG.refl _ _⟩
  case round =>
    clear h
    obtain ⟨j, hj, rfl, rfl, h, hO⟩ := hrel
    by_cases hlt : j < n
    · have hjI : (j : Int) < (n : Int) := by omega
      have hj0 : (0 : Int) ≤ (j : Int) := by omega
      have f0 := h.frozen j
      obtain ⟨v0, t0⟩ := h.there (i := j) hlt
      have h' := h.set_ j (.int .i64 (q + (j : Int)))
      have hO' := hO.set_ j (.int .i64 (q + (j : Int)))
      clear h hO
      go_wp2
      go_roundw
      case rel => exact ⟨j + 1, by omega, by go_num, by congr 1; omega, h', hO'⟩
      case measure => simp [intOf]; omega
    · obtain rfl : j = n := by omega
      go_wp2
      go_ret
      exact ⟨rfl, hO⟩
end Go.Proofs.YtifenbamookmiaaDoor
namespace Go.Proofs.YtifenbamookmiaaDoor
set_option linter.unusedSimpArgs false
set_option linter.unusedVariables false
open Go.ChangeShapes Go.WideShapes Go.ChangeAt Go.RowKit

/-- Block g has places for n numbers. -/
def IPl (w : World) (g n : Nat) : Prop := ∃ cs, w.heap[g]? = some (.cells cs 2 (0, 0)) ∧ n ≤ cs.size
theorem IPl.frozen {w : World} {g n : Nat} (h : IPl w g n) (i : Nat) : w.frozen? ⟨g, i, none⟩ = false := by
  obtain ⟨cs, h0, _⟩ := h
  simp [World.frozen?, h0]
theorem IPl.there {w : World} {g n : Nat} (h : IPl w g n) {i : Nat} (hi : i < n) : ∃ v, w.cell? ⟨g, i, none⟩ = some v := by
  obtain ⟨cs, h0, h1⟩ := h
  rw [cell_of_row w g _ cs _ _ h0]
  exact ⟨cs[i]'(by omega), by simp [show i < cs.size by omega]⟩
theorem IPl.set_ {w : World} {g n : Nat} (h : IPl w g n) (b o : Nat) (v : Value) : IPl (w.setCell ⟨b, o, none⟩ v) g n := by
  obtain ⟨cs, h0, h1⟩ := h
  by_cases e : g = b
  · subst e
    exact ⟨cs.setIfInBounds o v, by simp [World.setCell, Array.getElem?_modify, h0], by simpa using h1⟩
  · exact ⟨cs, (Below.heap_setCell w ⟨b, o, none⟩ v g e).trans h0, h1⟩
/-- What lies at g or before, or from C on, is as it was. -/
structure Mid (g C : Nat) (w w' : World) : Prop where
  os : w'.os = w.os
  tape : w'.tape = w.tape
  output : w'.output = w.output
  size : w.heap.size ≤ w'.heap.size
  block : ∀ i, i < w.heap.size → i ≤ g ∨ C ≤ i → w'.heap[i]? = w.heap[i]?
theorem Mid.refl (g C : Nat) (w : World) : Mid g C w w := ⟨rfl, rfl, rfl, Nat.le_refl _, fun _ _ _ => rfl⟩
theorem Mid.trans {g C : Nat} {a b c : World} (h : Mid g C a b) (k : Mid g C b c) : Mid g C a c :=
  ⟨k.os.trans h.os, k.tape.trans h.tape, k.output.trans h.output, Nat.le_trans h.size k.size, fun i hi hne => (k.block i (Nat.lt_of_lt_of_le hi h.size) hne).trans (h.block i hi hne)⟩
theorem Mid.of {g C : Nat} {w w' : World} (h : Below w.heap.size w w') : Mid g C w w' := ⟨h.os, h.tape, h.output, h.size, fun i hi _ => h.block i hi⟩
theorem Mid.set_ {g C : Nat} {a b : World} (h : Mid g C a b) {p : Addr} (h1 : g < p.block) (h2 : p.block < C) (v : Value) : Mid g C a (b.setCell p v) :=
  ⟨h.os, h.tape, h.output, by simpa [World.setCell] using h.size, fun i hi hne => (Below.heap_setCell b p v i (by omega)).trans (h.block i hi hne)⟩
theorem Mid.cell {g C : Nat} {w w' : World} (h : Mid g C w w') {p : Addr} (hlt : p.block < w.heap.size) (hne : p.block ≤ g ∨ C ≤ p.block) : w'.cell? p = w.cell? p := by
  unfold World.cell?
  rw [h.block _ hlt hne]
theorem Mid.below {g C B : Nat} {a w w' : World} (h : Mid g C w w') (hb : Below B a w) (hB : B ≤ g + 1) (hB0 : B ≤ a.heap.size) : Below B a w' :=
  ⟨h.os.trans hb.os, h.tape.trans hb.tape, h.output.trans hb.output, Nat.le_trans hb.size h.size, fun k hk => (h.block k (by have := hb.size; omega) (.inl (by omega))).trans (hb.block k hk)⟩

theorem Mid.blk {g C b : Nat} {w w' : World} {cs : Array Value} {t : TypeId} (h : Mid g C w w') (hp : Blk w b cs t) (hne : b ≤ g ∨ C ≤ b) : Blk w' b cs t := hp.keep (h.block b hp.lt hne)
theorem Mid.nblk {g C b k : Nat} {w w' : World} {L : List Int} (h : Mid g C w w') (hp : NBlk w b L k) (hne : b ≤ g ∨ C ≤ b) : NBlk w' b L k := hp.keep (h.block b hp.lt hne)
theorem Mid.ints {g C B : Nat} {w w' : World} {A : Option Addr} {L : List Int} (h : Mid g C w w') (hp : IntsAt w B A L) (hB : B ≤ g + 1) (hz : B ≤ w.heap.size) : IntsAt w' B A L := fun h0 => by
  obtain ⟨b, off, e, hlt, hc⟩ := hp h0
  have hk : w'.heap[b]? = w.heap[b]? := h.block b (by omega) (.inl (by omega))
  exact ⟨b, off, e, hlt, fun i hi => (World.cell?_of_block (a := ⟨b, _, none⟩) hk).trans (hc i hi)⟩
theorem Mid.own4 {g C B : Nat} {w w' : World} {A : Option Addr} {L : List Int} (h : Mid g C w w') (hp : Own4 w B A L) (hB : C ≤ B) : Own4 w' B A L := fun h0 => by
  obtain ⟨g', e, hg, hI⟩ := hp h0
  exact ⟨g', e, hg, hI.keep (h.block g' hI.lt (.inr (by omega)))⟩
set_option maxRecDepth 100000 in
set_option maxHeartbeats 800000 in
theorem markRow_any (gi n c q g C : Nat) (w : World) (h : IPl w gi n) (hg : g < gi) (hC : gi < C) (hn : n ≤ 1048576) (hq : q ≤ 1000000000000000) :
    Calls Tryd.prog 18 #[.slice (some ⟨gi, 0, none⟩) n c, .int .i64 (q : Int)] w fun e w' => e = .returned (.int .i64 ((q + n : Nat) : Int)) ∧ Mid g C w w' ∧ ∀ g2 m, IPl w g2 m → IPl w' g2 m := by
  have hqI : (q : Int) ≤ 1000000000000000 := by omega
  have hnI : (n : Int) ≤ 1048576 := by omega
  go_enter Tryd.func18, Tryd.ntmps18
  go_wp2
  go_loopw [1, 5] (fun p i wr => ∃ j : Nat, j ≤ n ∧ i = .int .i64 j ∧ p = .int .i64 ((q : Int) + (j : Int)) ∧ IPl wr gi n ∧ Mid g C w wr ∧ ∀ g2 m, IPl w g2 m → IPl wr g2 m) (fun _ i _ => n - (intOf i).toNat)
  case atStart => exact ⟨0, Nat.zero_le _, rfl, by simp, h, Mid.refl _ _ _, fun _ _ h => h⟩
  case round =>
    clear h
    obtain ⟨j, hj, rfl, rfl, h, hO, hA⟩ := hrel
    by_cases hlt : j < n
    · have hjI : (j : Int) < (n : Int) := by omega
      have hj0 : (0 : Int) ≤ (j : Int) := by omega
      have f0 := h.frozen j
      obtain ⟨v0, t0⟩ := h.there hlt
      have h' := h.set_ gi j (.int .i64 ((q : Int) + (j : Int)))
      have hO' := hO.set_ (p := ⟨gi, j, none⟩) hg hC (.int .i64 ((q : Int) + (j : Int)))
      have hA' : ∀ g2 m, IPl w g2 m → IPl (wr.setCell ⟨gi, j, none⟩ (.int .i64 ((q : Int) + (j : Int)))) g2 m := fun g2 m h => (hA g2 m h).set_ _ _ _
      have HA := Lib.hid hA'
      clear hA hA'
      go_wp2
      go_roundw
      case rel => exact ⟨j + 1, by omega, by go_num, by go_num, h', hO', HA.out⟩
      case measure => simp [intOf]; omega
    · obtain rfl : j = n := by omega
      have HA := Lib.hid hA
      clear hA
      go_wp2
      go_ret
      exact ⟨retI (by simp), hO, HA.out⟩

/-- Each row lies between g and C, and there is room for it. -/
def RowsPl (w : World) (g C : Nat) (Ms : List SlI) : Prop := ∀ i, i < Ms.length → ∃ gi, (Ms.getD i si0).1 = some ⟨gi, 0, none⟩ ∧ g < gi ∧ gi < C ∧ IPl w gi (Ms.getD i si0).2.1.length ∧ (Ms.getD i si0).2.1.length ≤ 1048576
theorem NewIAll.pl {w w1 : World} {g : Nat} {Ms : List SlI} (h : NewIAll w g Ms) (hb : Below w.heap.size w w1) : RowsPl w1 g w.heap.size Ms := fun i hi => by
  obtain ⟨gi, h1, h2, h3, _, h5⟩ := h i hi
  have hl := h3.lt
  obtain ⟨cs, k0, k1, _⟩ := h3
  exact ⟨gi, h1, h2, hl, ⟨cs, (hb.block gi hl).trans k0, by omega⟩, h5⟩
set_option maxRecDepth 100000 in
set_option maxHeartbeats 800000 in
theorem markSS_any (g n c C : Nat) (Ms : List SlI) (w : World) (hZ : ZI w g n Ms) (hn : Ms.length = n) (hR : RowsPl w g C Ms) (hn1 : n ≤ 1048576) :
    Calls Tryd.prog 41 #[.slice (some ⟨g, 0, none⟩) n c, .int .i64 1] w fun e w' => (∃ r : Nat, e = .returned (.int .i64 (r : Int)) ∧ r ≤ 2000000000000) ∧ Mid g C w w' := by
  have hzl := hZ.lt
  go_enter Tryd.func41, Tryd.ntmps41
  go_wp2
  go_loopw [1, 5] (fun p i wr => ∃ j q : Nat, j ≤ n ∧ i = .int .i64 j ∧ p = .int .i64 (q : Int) ∧ q ≤ 1 + j * 1048576 ∧ RowsPl wr g C Ms ∧ Mid g C w wr) (fun _ i _ => n - (intOf i).toNat)
  case atStart => exact ⟨0, 1, Nat.zero_le _, rfl, by simp, by omega, hR, Mid.refl _ _ _⟩
  case round =>
    clear hR
    obtain ⟨j, q, hj, rfl, rfl, hq, hR, hO⟩ := hrel
    by_cases hlt : j < n
    · have hjI : (j : Int) < (n : Int) := by omega
      have hj0 : (0 : Int) ≤ (j : Int) := by omega
      obtain ⟨gi, h1, h2, h3, h4, h5⟩ := hR j (by omega)
      obtain ⟨cs, k0, k1, k2⟩ := hZ
      have kj := k2 j (by omega)
      rw [h1] at kj
      have hcell : wr.cell? ⟨g, j, none⟩ = some (.slice (some ⟨gi, 0, none⟩) (Ms.getD j si0).2.1.length (Ms.getD j si0).2.2) := (hO.cell (p := ⟨g, j, none⟩) hzl (.inl (Nat.le_refl _))).trans ((cell_of_row w g j cs _ _ k0).trans kj)
      have cm := markRow_any gi _ (Ms.getD j si0).2.2 q g C wr h4 h2 h3 h5 (by have : j * 1048576 ≤ 1048576 * 1048576 := Nat.mul_le_mul_right _ (by omega); omega)
      have HR := Lib.hid hR
      have HJ : Hid ((j + 1) * 1048576 = j * 1048576 + 1048576) := by show _ = _; omega
      clear hR k2 kj h1 k0 k1 h4
      generalize (Ms.getD j si0).2.1.length = m at *
      generalize (Ms.getD j si0).2.2 = k at *
      go_wp2_with fail
      refine cm.mono ?_
      rintro e w2 ⟨rfl, hM, hA⟩
      have HA := Lib.hid hA
      have hO2 := hO.trans hM
      clear hA cm hM hO hcell
      go_wp2
      go_roundw
      case rel => exact ⟨j + 1, q + m, by omega, by go_num, by go_num, by have := HJ.out; omega, fun i hi => by
        obtain ⟨g2, a1, a2, a3, a4, a5⟩ := HR.out i hi
        exact ⟨g2, a1, a2, a3, HA.out _ _ a4, a5⟩, hO2⟩
      case measure => simp [intOf]; omega
    · obtain rfl : j = n := by omega
      go_wp2
      go_ret
      exact ⟨⟨q, rfl, by have : j * 1048576 ≤ 1048576 * 1048576 := Nat.mul_le_mul_right _ (by omega); omega⟩, hO⟩
set_option maxRecDepth 100000 in
set_option maxHeartbeats 800000 in
/-- A bundle of the call's own, marked later. -/
theorem markBundle_in (g n c : Nat) (M : Mz) (w0 w : World) (h : BnOwn w0 g n M) (hb : Below w0.heap.size w0 w) :
    Calls Tryd.prog 17 #[.agg #[.slice (some ⟨g, 0, none⟩) n c], .int .i64 1] w fun e w' => (∃ r : Nat, e = .returned (.int .i64 (r : Int)) ∧ r ≤ 2000000000000) ∧ Mid g w0.heap.size w w' := by
  obtain ⟨Ms, hn, _, hZ, hN, hn1⟩ := h
  have hx : Below w.heap.size w (w.alloc (.cells #[.slice (some ⟨g, 0, none⟩) n c] 29)) := by (repeat (first | assumption | exact Below.refl _ _ | (refine bl_alloc ?_ _) | (refine Below.drew ?_) | (refine bl_drewN ?_ _) | (refine bl_set ?_ (by first | (simp; done) | omega | (simp; omega)) _) | (refine bl_trans ?_ (by assumption)) | (refine bl_step ?_ (by assumption) (by first | omega | exact Below.size (by assumption) | (simp; omega) | (simp; exact Below.size (by assumption))))))
  have b1 := bl_step hb hx hb.size
  have cm := markSS_any g n c w0.heap.size Ms _ (hZ.to b1) hn (hN.pl b1) hn1
  clear hN hZ hb b1
  go_enter Tryd.func17, Tryd.ntmps17
  go_wp2_with fail
  refine cm.mono ?_
  rintro e w2 ⟨⟨r, rfl, hr⟩, hM⟩
  have hM2 := (Mid.of hx).trans hM
  clear cm hM hx
  go_wp2
  go_ret
  exact ⟨⟨r, rfl, hr⟩, hM2⟩
end Go.Proofs.YtifenbamookmiaaDoor
namespace Go.Proofs.YtifenbamookmiaaDoor
set_option linter.unusedSimpArgs false
set_option linter.unusedVariables false
open Go.ChangeShapes Go.WideShapes Go.ChangeAt Go.RowKit

theorem catchRa_panicking (p : Addr) (x : Bool) (u : TypeId) (pv : Value) (older : List PanicEntry) (w : World) (hc : w.cell? p = some (.bool x)) (hz : w.frozen? p = false) :
    CallsD Tryd.prog 82 #[.pointer (some p)] (.panicking ({ v := .iface u pv, recovered := false } :: older)) w fun e u' w' =>
      e = .returned (.tuple #[]) ∧ u' = .panicking ({ v := .iface u pv, recovered := true } :: older) ∧ w' = w.setCell p (.bool false) := by
  refine callsD_of_wpS Tryd.func82 rfl fun c₀ cs hu => ?_
  apply wpS_region
  simp [wpOpsS, go_sem, recoverD, hu, Tryd.ntmps82, Exit.thenS, hc, hz, bodyPostS, results, Tryd.results82]
theorem catchRa_idle (p : Addr) (x : Bool) (w : World) (hc : w.cell? p = some (.bool x)) (hz : w.frozen? p = false) :
    CallsD Tryd.prog 82 #[.pointer (some p)] .returning w fun e u' w' => e = .returned (.tuple #[]) ∧ u' = .returning ∧ w' = w.setCell p (.bool true) := by
  refine callsD_of_wpS Tryd.func82 rfl fun c₀ cs hu => ?_
  apply wpS_region
  simp [wpOpsS, go_sem, recoverD, hu, Tryd.ntmps82, Exit.thenS, hc, hz, bodyPostS, results, Tryd.results82]
  cases c₀
  simp_all
def AttRaRes (OK : Value → World → Prop) (NO : Prop) (w : World) (e : Ending) (w' : World) : Prop :=
  ((∃ A0 n0 k0 x1 w1, e = .returned (.tuple #[.agg #[.slice A0 n0 k0, .int .i64 x1], .bool true]) ∧ OK (.agg #[.slice A0 n0 k0, .int .i64 x1]) w1 ∧ Twin w.heap.size w1 w') ∨ (e = .returned (.tuple #[.agg #[.slice none 0 0, .int .i64 0], .bool false]) ∧ NO)) ∧ Below w.heap.size w w'
set_option maxRecDepth 100000 in
set_option maxHeartbeats 3200000 in
theorem attemptRa_any (G : Nat) (caps : Array Value) (w : World) (OK : Value → World → Prop) (NO : Prop) (eg : ∀ args w, (callFunc G args).run Tryd.prog w = .ok (.enter G args) w)
    (hc : Calls Tryd.prog G caps ((w.alloc (.cells #[.slice none 0 0, .int .i64 0] 76)).alloc (.cells #[.bool false] 4)) fun e w' => ((∃ A0 n0 k0 x1, e = .returned (.agg #[.slice A0 n0 k0, .int .i64 x1]) ∧ OK (.agg #[.slice A0 n0 k0, .int .i64 x1]) w') ∨ (Pan e ∧ NO)) ∧ Below ((w.alloc (.cells #[.slice none 0 0, .int .i64 0] 76)).alloc (.cells #[.bool false] 4)).heap.size ((w.alloc (.cells #[.slice none 0 0, .int .i64 0] 76)).alloc (.cells #[.bool false] 4)) w') :
    Calls Tryd.prog 75 #[.func (.func G) #[] caps] w (AttRaRes OK NO w) := by
  have hmf : ∀ (fn : Fn) (first cap : Array Value) (w : World), (Instr.makeFunc fn first cap).run Tryd.prog w = .ok (.func fn first cap) w := fun _ _ _ _ => rfl
  go_enter_defers Tryd.func75, Tryd.ntmps75
  go_wp2_with fail
  refine hc.mono ?_
  rintro e w1 ⟨h, hb1⟩
  have c0 : w1.cell? ⟨w.heap.size + 1, 0, none⟩ = some (.bool false) := (hb1.cell (p := ⟨w.heap.size + 1, 0, none⟩) (by simp)).trans (by go_simp)
  have f0 : w1.frozen? ⟨w.heap.size + 1, 0, none⟩ = false := (hb1.frozen (p := ⟨w.heap.size + 1, 0, none⟩) (by simp)).trans (by go_simp)
  have hR0 : Blk (w.alloc (.cells #[.slice none 0 0, .int .i64 0] 76)) w.heap.size #[.slice none 0 0, .int .i64 0] 76 := Blk.new _ _ _
  have hR : Blk w1 w.heap.size #[.slice none 0 0, .int .i64 0] 76 := (hR0.alloc _).to hb1
  have b1 : Below w.heap.size w w1 := bl_trans (by (repeat (first | assumption | exact Below.refl _ _ | (refine bl_alloc ?_ _) | (refine Below.drew ?_) | (refine bl_drewN ?_ _) | (refine bl_set ?_ (by first | (simp; done) | omega | (simp; omega)) _) | (refine bl_trans ?_ (by assumption)) | (refine bl_step ?_ (by assumption) (by first | omega | exact Below.size (by assumption) | (simp; omega) | (simp; exact Below.size (by assumption))))))) hb1
  have hne : w.heap.size ≠ (⟨w.heap.size + 1, 0, none⟩ : Addr).block := by simp
  have hna : ∀ o, (⟨w.heap.size, o, none⟩ : Addr) ≠ ⟨w.heap.size + 1, 0, none⟩ := fun o e => by injection e with e; omega
  have a0 : w1.cell? ⟨w.heap.size, 0, none⟩ = some (.slice none 0 0) := hR.cell 0 (by rfl)
  have q0 : w1.frozen? ⟨w.heap.size, 0, none⟩ = false := hR.frozen 0
  have a1 : w1.cell? ⟨w.heap.size, 1, none⟩ = some (.int .i64 0) := hR.cell 1 (by rfl)
  have q1 : w1.frozen? ⟨w.heap.size, 1, none⟩ = false := hR.frozen 1
  rcases h with ⟨A0, n0, k0, x1, rfl, hv⟩ | ⟨⟨u, pv, rfl⟩, hno⟩
  · go_wp2
    have c1 : ((w1.setCell ⟨w.heap.size, 0, none⟩ (.slice A0 n0 k0)).setCell ⟨w.heap.size, 1, none⟩ (.int .i64 x1)).cell? ⟨w.heap.size + 1, 0, none⟩ = some (.bool false) := by
      simp only [World.cell?_setCell_other _ _ _ _ (hna _)]; exact c0
    have hZ0 : Blk ((w1.setCell ⟨w.heap.size, 0, none⟩ (.slice A0 n0 k0)).setCell ⟨w.heap.size, 1, none⟩ (.int .i64 x1)) w.heap.size #[.slice A0 n0 k0, .int .i64 x1] 76 := ((hR.set 0 (.slice A0 n0 k0)).set 1 (.int .i64 x1))
    have bZ : Below w.heap.size w ((w1.setCell ⟨w.heap.size, 0, none⟩ (.slice A0 n0 k0)).setCell ⟨w.heap.size, 1, none⟩ (.int .i64 x1)) := ((b1.setCell (p := ⟨w.heap.size, 0, none⟩) (Nat.le_refl _) (.slice A0 n0 k0)).setCell (p := ⟨w.heap.size, 1, none⟩) (Nat.le_refl _) (.int .i64 x1))
    have bK : Twin w.heap.size w1 ((w1.setCell ⟨w.heap.size, 0, none⟩ (.slice A0 n0 k0)).setCell ⟨w.heap.size, 1, none⟩ (.int .i64 x1)) := (((Twin.refl _ _).set (p := ⟨w.heap.size, 0, none⟩) (.inl rfl) (.slice A0 n0 k0)).set (p := ⟨w.heap.size, 1, none⟩) (.inl rfl) (.int .i64 x1))
    have fZ : ((w1.setCell ⟨w.heap.size, 0, none⟩ (.slice A0 n0 k0)).setCell ⟨w.heap.size, 1, none⟩ (.int .i64 x1)).frozen? ⟨w.heap.size + 1, 0, none⟩ = false := by simp [f0]
    generalize ((w1.setCell ⟨w.heap.size, 0, none⟩ (.slice A0 n0 k0)).setCell ⟨w.heap.size, 1, none⟩ (.int .i64 x1)) = wZ at *
    have c2 : (wZ.setCell ⟨w.heap.size + 1, 0, none⟩ (.bool true)).cell? ⟨w.heap.size + 1, 0, none⟩ = some (.bool true) := World.cell?_setCell_same _ _ _ c1
    refine leaves_cons (f := 82) (args := #[.pointer (some ⟨w.heap.size + 1, 0, none⟩)]) (by simp) (by simp [go_sem]) ?_
    refine (catchRa_idle ⟨w.heap.size + 1, 0, none⟩ true _ c2 (by simp [fZ])).mono ?_
    rintro e u' w'' ⟨rfl, rfl, rfl⟩
    have c3 : ((wZ.setCell ⟨w.heap.size + 1, 0, none⟩ (.bool true)).setCell ⟨w.heap.size + 1, 0, none⟩ (.bool true)).cell? ⟨w.heap.size + 1, 0, none⟩ = some (.bool true) := World.cell?_setCell_same _ _ _ c2
    have hZ := (hZ0.far (p := ⟨w.heap.size + 1, 0, none⟩) hne (.bool true)).far (p := ⟨w.heap.size + 1, 0, none⟩) hne (.bool true)
    have bE := (bZ.setCell (p := ⟨w.heap.size + 1, 0, none⟩) (by simp) (.bool true)).setCell (p := ⟨w.heap.size + 1, 0, none⟩) (by simp) (.bool true)
    have bL : Twin w.heap.size w1 ((wZ.setCell ⟨w.heap.size + 1, 0, none⟩ (.bool true)).setCell ⟨w.heap.size + 1, 0, none⟩ (.bool true)) := (bK.set (.inr rfl) _).set (.inr rfl) _
    generalize (wZ.setCell ⟨w.heap.size + 1, 0, none⟩ (.bool true)).setCell ⟨w.heap.size + 1, 0, none⟩ (.bool true) = wE at *
    have z0 : wE.cell? ⟨w.heap.size, 0, none⟩ = some (.slice A0 n0 k0) := hZ.cell 0 (by rfl)
    have z1 : wE.cell? ⟨w.heap.size, 1, none⟩ = some (.int .i64 x1) := hZ.cell 1 (by rfl)
    simp [Leaves, settle, results, Tryd.results75, go_sem, c3, z0, z1]
    exact ⟨.inl ⟨_, _, _, _, w1, rfl, hv, bL⟩, bE⟩
  · go_wp2
    refine leaves_cons (f := 82) (args := #[.pointer (some ⟨w.heap.size + 1, 0, none⟩)]) (by simp) (by simp [go_sem]) ?_
    refine (catchRa_panicking ⟨w.heap.size + 1, 0, none⟩ false _ _ _ _ c0 f0).mono ?_
    rintro e u' w'' ⟨rfl, rfl, rfl⟩
    have c3 : (w1.setCell ⟨w.heap.size + 1, 0, none⟩ (.bool false)).cell? ⟨w.heap.size + 1, 0, none⟩ = some (.bool false) := World.cell?_setCell_same _ _ _ c0
    have hZ := hR.far (p := ⟨w.heap.size + 1, 0, none⟩) hne (.bool false)
    have bE := b1.setCell (p := ⟨w.heap.size + 1, 0, none⟩) (by simp) (.bool false)
    generalize w1.setCell ⟨w.heap.size + 1, 0, none⟩ (.bool false) = wE at *
    have z0 : wE.cell? ⟨w.heap.size, 0, none⟩ = some (.slice none 0 0) := hZ.cell 0 (by rfl)
    have z1 : wE.cell? ⟨w.heap.size, 1, none⟩ = some (.int .i64 0) := hZ.cell 1 (by rfl)
    simp [Leaves, settle, results, Tryd.results75, go_sem, c3, z0, z1]
    exact ⟨.inr ⟨rfl, hno⟩, bE⟩
end Go.Proofs.YtifenbamookmiaaDoor
namespace Go.Proofs.YtifenbamookmiaaDoor
set_option linter.unusedSimpArgs false
set_option linter.unusedVariables false
open Go.ChangeShapes Go.WideShapes Go.ChangeAt Go.RowKit

/-- The first place with the greatest gain above 0 among the first k, and this gain; -1 and 0 where there is none. -/
def bsTo (B : Mz) (L : List Int) : Nat → Int × Int
  | 0 => (-1, 0)
  | k + 1 => if (bsTo B L k).2 < gainI B L k then ((k : Int), gainI B L k) else bsTo B L k
theorem bsTo_t {B : Mz} {L : List Int} {k : Nat} (h : (bsTo B L k).2 < gainI B L k) : bsTo B L (k + 1) = ((k : Int), gainI B L k) := by unfold bsTo; rw [if_pos h]
theorem bsTo_f {B : Mz} {L : List Int} {k : Nat} (h : ¬ (bsTo B L k).2 < gainI B L k) : bsTo B L (k + 1) = bsTo B L k := by rw [bsTo, if_neg h]
theorem bsTo_is (B : Mz) (L : List Int) : ∀ k, (bsTo B L k = (-1, 0)) ∨ ∃ p : Nat, p < k ∧ bsTo B L k = ((p : Int), gainI B L p) ∧ 0 < gainI B L p
  | 0 => .inl rfl
  | k + 1 => by
    by_cases h : (bsTo B L k).2 < gainI B L k
    · rw [bsTo_t h]
      refine .inr ⟨k, by omega, rfl, ?_⟩
      rcases bsTo_is B L k with e | ⟨p, _, e, h0⟩
      · rw [e] at h; exact h
      · rw [e] at h; exact Int.lt_trans h0 h
    · rw [bsTo_f h]
      rcases bsTo_is B L k with e | ⟨p, hp, e, h0⟩
      · exact .inl e
      · exact .inr ⟨p, by omega, e, h0⟩
/-- What comes of exchanges. -/
inductive Setl (B : Mz) (n : Nat) : List Int → List Int → Prop
  | stop {L : List Int} : bsTo B L (n - 1) = (-1, 0) → Setl B n L L
  | step {L R : List Int} {p : Nat} : p + 1 < n → bsTo B L (n - 1) = ((p : Int), gainI B L p) → 0 < gainI B L p → Setl B n (swpL L p) R → Setl B n L R
theorem Setl.stopped {B : Mz} {n : Nat} {L R : List Int} (h : Setl B n L R) (e : bsTo B L (n - 1) = (-1, 0)) : R = L := by
  cases h with
  | stop _ => rfl
  | step _ e2 _ _ => rw [e] at e2; injection e2 with a _; omega
theorem Setl.next {B : Mz} {n p : Nat} {L R : List Int} (h : Setl B n L R) (e : bsTo B L (n - 1) = ((p : Int), gainI B L p)) : Setl B n (swpL L p) R := by
  cases h with
  | stop e2 => rw [e] at e2; injection e2 with a _; omega
  | step _ e2 _ h2 =>
    rw [e] at e2
    injection e2 with a _
    have : p = _ := Int.ofNat.inj a
    subst this
    exact h2
theorem setl_ex {B : Mz} {n : Nat} (b : BnOk B) (eb : B.length = n) : ∀ (m : Nat) (L : List Int), OrOk n L → (cplTo B L [] n).toNat ≤ m → ∃ R, Setl B n L R ∧ OrOk n R := by
  intro m
  induction m with
  | zero =>
    intro L o hm
    rcases bsTo_is B L (n - 1) with e | ⟨p, hp, e, h0⟩
    · exact ⟨L, .stop e, o⟩
    · have h1 := cplTo_ge (S := []) b eb o n (Nat.le_refl _)
      have h2 := cplTo_ge (S := []) b eb (o.swp (show p + 1 < n by omega)) n (Nat.le_refl _)
      unfold gainI at h0
      rw [o.len] at h0
      omega
  | succ m ih =>
    intro L o hm
    rcases bsTo_is B L (n - 1) with e | ⟨p, hp, e, h0⟩
    · exact ⟨L, .stop e, o⟩
    · have h1 := cplTo_ge (S := []) b eb o n (Nat.le_refl _)
      have h2 := cplTo_ge (S := []) b eb (o.swp (show p + 1 < n by omega)) n (Nat.le_refl _)
      have h3 := h0
      unfold gainI at h3
      rw [o.len] at h3
      obtain ⟨R, hR, oR⟩ := ih (swpL L p) (o.swp (by omega)) (by omega)
      exact ⟨R, .step (by omega) e h0 hR, oR⟩
/-- The order that it settles to. -/
noncomputable def stR (B : Mz) (L : List Int) : List Int := by
  classical
  exact if h : ∃ R, Setl B B.length L R ∧ OrOk B.length R then Classical.choose h else []
theorem stR_is {B : Mz} {L : List Int} (b : BnOk B) (o : OrOk B.length L) : Setl B B.length L (stR B L) ∧ OrOk B.length (stR B L) := by
  have h := setl_ex b rfl _ L o (Nat.le_refl _)
  unfold stR
  rw [dif_pos h]
  exact Classical.choose_spec h
/-- The numbers that a slice has in memory. -/
def readI (w : World) (v : Value) (n : Nat) : List Int := match v with
  | .slice (some a) _ _ => (List.range n).map fun i => match w.cell? ⟨a.block, a.off + i, none⟩ with
    | some (.int _ x) => x
    | _ => 0
  | _ => []
theorem readI_is {w : World} {A : Option Addr} {n c : Nat} {L : List Int} (h : IntsAt w w.heap.size A L) (hl : L.length = n) (h0 : 0 < n) : readI w (.slice A n c) n = L := by
  obtain ⟨b, off, rfl, _, hc⟩ := h (by omega)
  refine List.ext_getElem (by simp [readI, hl]) fun i h1 h2 => ?_
  have := hc i h2
  simp only [readI, List.getElem_map, List.getElem_range, this]
  rw [List.getD_eq_getElem?_getD, List.getElem?_eq_getElem h2]; rfl
/-- The coupling of an order in memory: what becomes less with each exchange. -/
def stM (B : Mz) (w : World) (v : Value) (n : Nat) : Nat := (cplTo B (readI w v n) [] n).toNat
theorem stM_is {B : Mz} {w : World} {A : Option Addr} {n c : Nat} {L : List Int} (h : IntsAt w w.heap.size A L) (hl : L.length = n) (h0 : 0 < n) : stM B w (.slice A n c) n = (cplTo B L [] n).toNat := by unfold stM; rw [readI_is h hl h0]
theorem stM_less {B : Mz} {n p : Nat} {L : List Int} (b : BnOk B) (eb : B.length = n) (o : OrOk n L) (hp : p + 1 < n) (h0 : 0 < gainI B L p) : (cplTo B (swpL L p) [] n).toNat < (cplTo B L [] n).toNat := by
  have h2 := cplTo_ge (S := []) b eb (o.swp hp) n (Nat.le_refl _)
  unfold gainI at h0
  rw [o.len] at h0
  omega
/-- An order, a number and whether it succeeds. -/
def RatRes (R : List Int) (x : Int) (ok : Bool) (w : World) (e : Ending) (w' : World) : Prop :=
  ∃ A c, e = .returned (.tuple #[.slice A R.length c, .int .i64 x, .bool ok]) ∧ Own4 w' w.heap.size A R ∧ Below w.heap.size w w'
def soB (B : Mz) (L : List Int) : Bool := bnB B && orB B.length L
noncomputable def soL (B : Mz) (L : List Int) : List Int := if soB B L then stR B L else []
noncomputable def soX (B : Mz) (L : List Int) : Int := if soB B L then cplTo B (stR B L) [] B.length else 0
end Go.Proofs.YtifenbamookmiaaDoor
namespace Go.Proofs.YtifenbamookmiaaDoor
set_option linter.unusedSimpArgs false
set_option linter.unusedVariables false
open Go.ChangeShapes Go.WideShapes Go.ChangeAt Go.RowKit Go.BigFrame

set_option maxRecDepth 100000 in
set_option maxHeartbeats 3200000 in
theorem SettleOrderS_any (A : Option Addr) (Ls : List SlI) (c : Nat) (AO : Option Addr) (L : List Int) (cO : Nat) (w : World) (hp : ISAt w w.heap.size A Ls) (hs : ShI Ls) (hL : IntsAt w w.heap.size AO L) (lL : L.length ≤ 1048576) :
    Calls Tryd.prog 22 #[.agg #[.slice A Ls.length c], .slice AO L.length cO] w (RatRes (soL (heldI Ls) L) (soX (heldI Ls) L) (soB (heldI Ls) L) w) := by
  have hx : Below w.heap.size w (w.alloc (.cells #[.slice A Ls.length c] 29)) := by (repeat (first | assumption | exact Below.refl _ _ | (refine bl_alloc ?_ _) | (refine Below.drew ?_) | (refine bl_drewN ?_ _) | (refine bl_set ?_ (by first | (simp; done) | omega | (simp; omega)) _) | (refine bl_trans ?_ (by assumption)) | (refine bl_step ?_ (by assumption) (by first | omega | exact Below.size (by assumption) | (simp; omega) | (simp; exact Below.size (by assumption))))))
  have kB := Blk.new w #[.slice A Ls.length c] 29
  have CO := Lib.hid (l10Order_any w.heap.size A Ls c AO L cO (w.alloc (.cells #[.slice A Ls.length c] 29)) (kB.cell 0 rfl) kB.lt (hp.to hx) hs (hL.to hx) lL)
  have hsb : soB (heldI Ls) L = (bnB (heldI Ls) && orB Ls.length L) := by unfold soB; rw [heldI_len]
  cases hv : bnB (heldI Ls) && orB Ls.length L
  · have R1 : Hid (soB (heldI Ls) L = false) := hsb.trans hv
    have R2 : Hid (soL (heldI Ls) L = []) := by show _ = _; unfold soL; rw [R1.out]; rfl
    have R3 : Hid (soX (heldI Ls) L = 0) := by show _ = _; unfold soX; rw [R1.out]; rfl
    rw [hv] at CO
    rw [R1.out, R2.out, R3.out]
    clear hv hp hs hL kB hsb
    generalize Ls.length = n at *
    generalize L.length = m at *
    go_enter Tryd.func22, Tryd.ntmps22
    go_wp2_with fail
    refine CO.out.mono ?_
    rintro e w1 ⟨rfl, hb1⟩
    go_wp2
    go_ret3
    exact ⟨none, 0, rfl, Own4.none_ _ _ _, bl_step hx hb1 hx.size⟩
  have hbo := hv
  rw [Bool.and_eq_true] at hbo
  have hlo := LoAt.of hp hL hbo.1 hbo.2
  have hln : L.length = Ls.length := hlo.ok.len
  have h9 := hlo.n9
  have hst := stR_is hlo.bn (by rw [heldI_len]; exact hlo.ok)
  rw [heldI_len] at hst
  have R1 : Hid (soB (heldI Ls) L = true) := hsb.trans hv
  have R2 : Hid (soL (heldI Ls) L = stR (heldI Ls) L) := by show _ = _; unfold soL; rw [R1.out]; rfl
  have R3 : Hid (soX (heldI Ls) L = cplTo (heldI Ls) (stR (heldI Ls) L) [] Ls.length) := by show _ = _; unfold soX; rw [R1.out, heldI_len]; rfl
  rw [hv] at CO
  rw [R1.out, R2.out, R3.out]
  obtain ⟨B, hB⟩ : ∃ B, heldI Ls = B := ⟨_, rfl⟩
  obtain ⟨R, hR⟩ : ∃ R, stR (heldI Ls) L = R := ⟨_, rfl⟩
  rw [hR]
  rw [hR] at hst
  rw [hB] at hlo hst ⊢
  rw [hln] at CO ⊢
  have h1 := h9.1
  have CW0 := Lib.hid (by
    have := fun (wx : World) (hb : Below w.heap.size w wx) => l00Own_any AO L cO wx (hL.to hb) (by omega) lL
    rw [hln] at this
    exact this)
  have CG := Lib.hid (fun (AQ : Option Addr) (Q : List Int) (cQ p : Nat) (wx : World) (hb : Below (w.alloc (.cells #[.slice A Ls.length c] 29)).heap.size (w.alloc (.cells #[.slice A Ls.length c] 29)) wx) (hq : LoAt wx A AQ Ls.length B Q) (hp : p + 1 < Ls.length) => l10Gain_any w.heap.size A Ls.length c B AQ Q cQ p wx ((kB.to hb).cell 0 rfl) (kB.to hb).lt hq hp)
  have CC := Lib.hid (fun (AQ AS : Option Addr) (Q : List Int) (cQ : Nat) (wx : World) (hb : Below (w.alloc (.cells #[.slice A Ls.length c] 29)).heap.size (w.alloc (.cells #[.slice A Ls.length c] 29)) wx) (hq : LoAt wx A AQ Ls.length B Q) => by
    have := l10Coupling_any w.heap.size A Ls.length c B AQ Q cQ AS [] 0 wx ((kB.to hb).cell 0 rfl) (kB.to hb).lt hq (ints_nil _ _ _) (by simp)
    simp only [List.length_nil] at this
    exact this)
  have hsq := hlo.sq
  have HBn := Lib.hid hlo.bn
  have HBl := Lib.hid hlo.len
  have HOk := Lib.hid hlo.ok
  have HSt := Lib.hid hst.1
  have HOR := Lib.hid hst.2
  have HLn := Lib.hid hln
  clear hv hp hs hL kB hbo hlo lL hB hR hst R1 R2 R3 hsb hln
  generalize Ls.length = n at *
  have h9I : (n : Int) ≤ 9 := by omega
  have h1I : (1 : Int) ≤ (n : Int) := by omega
  -- the order's own block at each turn
  have HLo : Hid (∀ (g : Nat) (Q : List Int) (wx : World), Below w.heap.size w wx → IBlk wx g Q n → OrOk n Q → LoAt wx A (some ⟨g, 0, none⟩) n B Q) := fun g Q wx hb hI o =>
    ⟨hsq.to hb, by have := hI; rw [show n = Q.length from o.len.symm] at this; exact this.ints, o, HBn.out, HBl.out⟩
  clear hsq
  go_enter Tryd.func22, Tryd.ntmps22
  go_wp2_with fail
  generalize (w.alloc (.cells #[.slice A n c] 29)) = w0 at *
  refine CO.out.mono ?_
  rintro e w1 ⟨rfl, hb1⟩
  go_wp2_with fail
  refine (CW0.out _ (bl_step hx hb1 hx.size)).mono ?_
  rintro e w2 ⟨g, d, he, hg, hI, _, hb2⟩
  rw [HLn.out] at he hI
  subst he
  have b2 := bl_trans hb1 hb2
  have hgw : w.heap.size ≤ g := by have := hx.size; have := hb1.size; omega
  clear hb1 hb2 hg CO CW0
  go_wp2
  go_loopw [4, 5, 6, 7, 8, 9, 10, 11] (fun r4 r5 r6 now _ _ _ _ wr => ∃ (g d : Nat) (Q : List Int), r4 = .slice none 0 0 ∧ r5 = .int .i64 0 ∧ r6 = .bool false ∧ now = .slice (some ⟨g, 0, none⟩) n d ∧ w.heap.size ≤ g ∧ IBlk wr g Q n ∧ Hid (OrOk n Q) ∧ Hid (Setl B n Q R) ∧ Below w0.heap.size w0 wr) (fun _ _ _ now _ _ _ _ wr => stM B wr now n)
  case atStart => exact ⟨g, d, L, rfl, rfl, rfl, rfl, hgw, hI, HOk.out, HSt.out, b2⟩
  case round =>
    clear hI HOk HSt b2 hgw
    obtain ⟨g, d, Q, rfl, rfl, rfl, rfl, hgw, hI, HOk, HSt, hbo⟩ := hrel
    obtain ⟨wo, h⟩ : ∃ wo, wo = wr := ⟨_, rfl⟩
    subst h
    have hlQ : n = Q.length := HOk.out.len.symm
    have HM : Hid (stM B wo (.slice (some ⟨g, 0, none⟩) n d) n = (cplTo B Q [] n).toNat) := stM_is (by have := hI; rw [hlQ] at this; exact this.ints) HOk.out.len (by omega)
    have HQ := Lib.hid hlQ
    clear hlQ
    go_wp2
    go_loopw [8, 9, 10, 11] (fun b m i _ wr => ∃ k : Nat, k ≤ n - 1 ∧ i = .int .i64 k ∧ b = .int .i64 (bsTo B Q k).1 ∧ m = .int .i64 (bsTo B Q k).2 ∧ Below wo.heap.size wo wr) (fun _ _ i _ _ => n - (intOf i).toNat)
    case atStart => exact ⟨0, Nat.zero_le _, rfl, rfl, rfl, Below.refl _ _⟩
    case round =>
      obtain ⟨k, hk, rfl, rfl, rfl, hb⟩ := hrel
      have hk0 : (0 : Int) ≤ (k : Int) := by omega
      have hk9 : (k : Int) ≤ 9 := by omega
      have hw1 : IntKind.i64.wrap ((k : Int) + 1) = (k : Int) + 1 := IntWalk.i64_in _ (by omega)
      have bb := bl_trans hbo hb
      have hIr := hI.to hb
      by_cases hlt : k < n - 1
      · have hkI : (k : Int) + 1 < (n : Int) := by omega
        have CGk := Lib.hid (CG.out (some ⟨g, 0, none⟩) Q d k wr bb (HLo.out g Q wr (bl_step hx bb hx.size) hIr HOk.out) (by omega))
        obtain ⟨gl, gh⟩ := gain_ge HBn.out HBl.out HOk.out (show k + 1 < n by omega)
        have ht := bsTo_t (B := B) (L := Q) (k := k)
        have hf := bsTo_f (B := B) (L := Q) (k := k)
        obtain ⟨y, hy⟩ : ∃ y, gainI B Q k = y := ⟨_, rfl⟩
        rw [hy] at CGk ht hf gl gh
        have HT := Lib.hid ht
        have HF := Lib.hid hf
        clear ht hf hy
        by_cases hc : (bsTo B Q k).2 < y
        · have HN := Lib.hid (HT.out hc)
          generalize (bsTo B Q k).2 = z at *
          generalize (bsTo B Q k).1 = z1 at *
          clear HT HF
          go_wp2_with fail
          refine CGk.out.mono ?_
          rintro e w3 ⟨rfl, hb3⟩
          go_wp2
          go_roundw
          case rel => exact ⟨k + 1, by omega, by go_num, by rw [HN.out], by rw [HN.out], bl_trans hb hb3⟩
          case measure => simp [intOf]; omega
        · have HN := Lib.hid (HF.out hc)
          generalize hz : (bsTo B Q k).2 = z at *
          generalize hz1 : (bsTo B Q k).1 = z1 at *
          have HZ : Hid (z1 = (bsTo B Q (k + 1)).1 ∧ z = (bsTo B Q (k + 1)).2) := ⟨by rw [HN.out, hz1], by rw [HN.out, hz]⟩
          clear HT HF hz hz1
          go_wp2_with fail
          refine CGk.out.mono ?_
          rintro e w3 ⟨rfl, hb3⟩
          go_wp2
          go_roundw
          case rel => exact ⟨k + 1, by omega, by go_num, by rw [← HZ.out.1], by rw [← HZ.out.2], bl_trans hb hb3⟩
          case measure => simp [intOf]; omega
      · obtain rfl : k = n - 1 := by omega
        have hkn : ¬ ((n - 1 : Nat) : Int) + 1 < (n : Int) := by omega
        rcases bsTo_is B Q (n - 1) with e | ⟨p, hp, e, h0⟩
        · have HR := Lib.hid (HSt.out.stopped e)
          have HLr := HLo.out g Q
          have e1 : (bsTo B Q (n - 1)).1 = -1 := by rw [e]
          rw [e1]
          generalize (bsTo B Q (n - 1)).2 = z at *
          have hb9 : Below wr.heap.size wr (wr.alloc (.cells #[] 2)) := (Below.refl _ _).alloc (Nat.le_refl _) _
          have hb8 := bl_trans bb hb9
          have CCk := Lib.hid (CC.out (some ⟨g, 0, none⟩) (some ⟨wr.heap.size, 0, none⟩) Q d _ hb8 (HLo.out g Q _ (bl_step hx hb8 hx.size) (hIr.to hb9) HOk.out))
          have hIx := hIr.to hb9
          clear e e1 CG CC HLr
          go_wp2_with fail
          refine CCk.out.mono ?_
          rintro e w4 ⟨rfl, hb4⟩
          have hI4 := hIx.to hb4
          go_wp2
          go_ret3
          refine ⟨some ⟨g, 0, none⟩, d, ?_, fun _ => ⟨g, rfl, hgw, ?_⟩, bl_step hx (bl_trans hb8 hb4) hx.size⟩
          · rw [HR.out, ← HQ.out]; rfl
          · rw [HR.out, ← HQ.out]; exact hI4
        · have e1 : (bsTo B Q (n - 1)).1 = (p : Int) := by rw [e]
          have HNx := Lib.hid (HSt.out.next e)
          have HLs := Lib.hid (stM_less HBn.out HBl.out HOk.out (show p + 1 < n by omega) h0)
          have hIq := hIr
          rw [HQ.out] at hIq
          have CW := Lib.hid (by
            have := l10Swapped_any (some ⟨g, 0, none⟩) Q d p wr hIq.ints (by rw [← HQ.out]; omega) (by rw [← HQ.out]; omega)
            rw [← HQ.out] at this
            exact this)
          have hp0 : ¬ ((p : Int) < 0) := by omega
          rw [e1]
          generalize (bsTo B Q (n - 1)).2 = z at *
          clear e e1 CG CC hIq
          go_wp2_with fail
          refine CW.out.mono ?_
          rintro e w4 ⟨g2, d2, rfl, hg2, hI2, hb4⟩
          have hgw2 : w.heap.size ≤ g2 := by have := bb.size; have := hx.size; omega
          have HM2 : Hid (stM B w4 (.slice (some ⟨g2, 0, none⟩) n d2) n = (cplTo B (swpL Q p) [] n).toNat) := stM_is (by have := hI2; rw [show n = (swpL Q p).length from (HOk.out.swp (show p + 1 < n by omega)).len.symm] at this; exact this.ints) (HOk.out.swp (by omega)).len (by omega)
          go_wp2
          go_roundw
          case rel => exact ⟨g2, d2, swpL Q p, rfl, rfl, rfl, rfl, hgw2, hI2, HOk.out.swp (by omega), HNx.out, bl_trans bb hb4⟩
          case measure => rw [HM.out, HM2.out]; exact HLs.out
end Go.Proofs.YtifenbamookmiaaDoor
namespace Go.Proofs.YtifenbamookmiaaDoor
set_option linter.unusedSimpArgs false
set_option linter.unusedVariables false
open Go.ChangeShapes Go.WideShapes Go.ChangeAt Go.RowKit Go.BigFrame

def pgP (x : Int × Int) : Int := if x.1 < 0 then 0 else x.1
/-- The best exchange. -/
def BsRes (B : Mz) (L : List Int) (n : Nat) (w : World) (e : Ending) (w' : World) : Prop :=
  ((bsTo B L (n - 1) = (-1, 0) ∧ e = .returned (.tuple #[.int .i64 0, .int .i64 0])) ∨ ∃ p : Nat, p < n - 1 ∧ bsTo B L (n - 1) = ((p : Int), gainI B L p) ∧ 0 < gainI B L p ∧ e = .returned (.tuple #[.int .i64 (p : Int), .int .i64 (gainI B L p)])) ∧ Below w.heap.size w w'
set_option maxRecDepth 100000 in
set_option maxHeartbeats 3200000 in
theorem bestSwap_any (A : Option Addr) (n c : Nat) (B : Mz) (AO : Option Addr) (L : List Int) (cO : Nat) (w : World) (h : LoAt w A AO n B L) (hT : BruAt w) :
    Calls Tryd.prog 76 #[.agg #[.slice A n c, .slice AO n cO, .int .u64 0]] w (BsRes B L n w) := by
  have h9 := h.n9
  have h1 := h9.1
  have CG := Lib.hid (fun (p : Nat) (hp : p + 1 < n) (wx : World) (hb : Below w.heap.size w wx) => swapGain_any A n c B AO L cO p wx (h.to hb) hp (hT.to hb))
  have HGe : Hid (∀ p, p + 1 < n → -9000 ≤ gainI B L p ∧ gainI B L p ≤ 9000) := fun p hp => gain_ge h.bn h.len h.ok hp
  have hx : Below w.heap.size w (w.alloc (.cells #[.slice A n c, .slice AO n cO, .int .u64 0] 57)) := by (repeat (first | assumption | exact Below.refl _ _ | (refine bl_alloc ?_ _) | (refine Below.drew ?_) | (refine bl_drewN ?_ _) | (refine bl_set ?_ (by first | (simp; done) | omega | (simp; omega)) _) | (refine bl_trans ?_ (by assumption)) | (refine bl_step ?_ (by assumption) (by first | omega | exact Below.size (by assumption) | (simp; omega) | (simp; exact Below.size (by assumption))))))
  have kB := Blk.new w #[.slice A n c, .slice AO n cO, .int .u64 0] 57
  have h9I : (n : Int) ≤ 9 := by omega
  have h1I : (1 : Int) ≤ (n : Int) := by omega
  have hw1 : IntKind.i64.wrap ((n : Int) - 1) = (n : Int) - 1 := IntWalk.i64_in _ (by omega)
  have s0 := kB.cell 0 (v := .slice A n c) rfl
  clear h
  go_enter Tryd.func76, Tryd.ntmps76
  go_wp2_with fail
  generalize (w.alloc (.cells #[.slice A n c, .slice AO n cO, .int .u64 0] 57)) = w0 at *
  refine (wires_any _ _ _ _).mono ?_
  rintro e w1 ⟨rfl, hb1⟩
  have x1 := bl_step hx hb1 hx.size
  replace kB := kB.to hb1
  clear hb1 hx s0
  go_wp2
  go_loopw [2, 3, 4, 5, 10] (fun p m _ _ i wr => ∃ k : Nat, k ≤ n - 1 ∧ i = .int .i64 k ∧ p = .int .i64 (pgP (bsTo B L k)) ∧ m = .int .i64 (bsTo B L k).2 ∧ Below w1.heap.size w1 wr) (fun _ _ _ _ i _ => n - (intOf i).toNat)
  case atStart => exact ⟨0, Nat.zero_le _, rfl, rfl, rfl, Below.refl _ _⟩
  case round =>
    obtain ⟨k, hk, rfl, rfl, rfl, hb⟩ := hrel
    have hk0 : (0 : Int) ≤ (k : Int) := by omega
    have hk9 : (k : Int) ≤ 9 := by omega
    have bb := bl_trans x1 hb
    by_cases hlt : k < n - 1
    · have hkI : (k : Int) < (n : Int) - 1 := by omega
      have CGk := Lib.hid (CG.out k (by omega) wr bb)
      obtain ⟨gl, gh⟩ := HGe.out k (by omega)
      have ht := bsTo_t (B := B) (L := L) (k := k)
      have hf := bsTo_f (B := B) (L := L) (k := k)
      have kw := kB.to hb
      have c0 := kw.cell 0 (v := .slice A n c) rfl
      have c1 := kw.cell 1 (v := .slice AO n cO) rfl
      have c2 := kw.cell 2 (v := .int .u64 0) rfl
      obtain ⟨y, hy⟩ : ∃ y, gainI B L k = y := ⟨_, rfl⟩
      rw [hy] at CGk ht hf gl gh
      have HT := Lib.hid ht
      have HF := Lib.hid hf
      clear ht hf hy kw
      by_cases hc : (bsTo B L k).2 < y
      · have HN := Lib.hid (HT.out hc)
        have HP : Hid (pgP ((k : Int), y) = (k : Int)) := by show _ = _; unfold pgP; rw [if_neg (by omega)]
        generalize (bsTo B L k).2 = z at *
        generalize pgP (bsTo B L k) = z1 at *
        clear HT HF
        go_wp2_with fail
        refine CGk.out.mono ?_
        rintro e w3 ⟨rfl, hb3⟩
        go_wp2
        go_roundw
        case rel => exact ⟨k + 1, by omega, by go_num, by rw [HN.out, HP.out], by rw [HN.out], bl_trans hb hb3⟩
        case measure => simp [intOf]; omega
      · have HN := Lib.hid (HF.out hc)
        generalize hz : (bsTo B L k).2 = z at *
        generalize hz1 : pgP (bsTo B L k) = z1 at *
        have HZ : Hid (z1 = pgP (bsTo B L (k + 1)) ∧ z = (bsTo B L (k + 1)).2) := ⟨by rw [HN.out, hz1], by rw [HN.out, hz]⟩
        clear HT HF hz hz1
        go_wp2_with fail
        refine CGk.out.mono ?_
        rintro e w3 ⟨rfl, hb3⟩
        go_wp2
        go_roundw
        case rel => exact ⟨k + 1, by omega, by go_num, by rw [← HZ.out.1], by rw [← HZ.out.2], bl_trans hb hb3⟩
        case measure => simp [intOf]; omega
    · obtain rfl : k = n - 1 := by omega
      have hkn : ¬ ((n - 1 : Nat) : Int) < (n : Int) - 1 := by omega
      rcases bsTo_is B L (n - 1) with e | ⟨p, hp, e, h0⟩
      · have e1 : pgP (bsTo B L (n - 1)) = 0 := by rw [e]; rfl
        have e2 : (bsTo B L (n - 1)).2 = 0 := by rw [e]
        have HE := Lib.hid e
        rw [e1, e2]
        clear e e1 e2
        go_wp2
        go_ret2
        exact ⟨.inl ⟨HE.out, rfl⟩, bb⟩
      · have e1 : pgP (bsTo B L (n - 1)) = (p : Int) := by rw [e]; unfold pgP; rw [if_neg (by omega)]
        have e2 : (bsTo B L (n - 1)).2 = gainI B L p := by rw [e]
        have HE := Lib.hid e
        have H0 := Lib.hid h0
        rw [e1, e2]
        clear e e1 e2 h0
        obtain ⟨y, hy⟩ : ∃ y, gainI B L p = y := ⟨_, rfl⟩
        have HY := Lib.hid hy
        rw [hy]
        clear hy
        go_wp2
        go_ret2
        exact ⟨.inr ⟨p, hp, HE.out, H0.out, by rw [HY.out]; rfl⟩, bb⟩

/-- An order in memory, neither in block Z nor in the one behind it. -/
def OrdN (w : World) (Z : Nat) (AQ : Option Addr) (Q : List Int) (n : Nat) : Prop := ∃ g o, AQ = some ⟨g, o, none⟩ ∧ g ≠ Z ∧ g ≠ Z + 1 ∧ g < w.heap.size ∧ ∀ i, i < n → w.cell? ⟨g, o + i, none⟩ = some (.int .i64 (Q.getD i 0))
theorem OrdN.to {w w1 : World} {Z n : Nat} {AQ : Option Addr} {Q : List Int} (h : OrdN w Z AQ Q n) (hb : Below w.heap.size w w1) : OrdN w1 Z AQ Q n := by
  obtain ⟨g, o, e, h1, h2, h3, h4⟩ := h
  exact ⟨g, o, e, h1, h2, Nat.lt_of_lt_of_le h3 hb.size, fun i hi => (hb.cell (p := ⟨g, o + i, none⟩) h3).trans (h4 i hi)⟩
theorem OrdN.set_ {w : World} {Z n : Nat} {AQ : Option Addr} {Q : List Int} (h : OrdN w Z AQ Q n) (k : Nat) (v : Value) : OrdN (w.setCell ⟨Z, k, none⟩ v) Z AQ Q n := by
  obtain ⟨g, o, e, h1, h2, h3, h4⟩ := h
  exact ⟨g, o, e, h1, h2, by simpa [World.setCell] using h3, fun i hi => (World.cell?_of_block (a := ⟨g, o + i, none⟩) (Below.heap_setCell _ _ _ _ (by simpa using h1))).trans (h4 i hi)⟩
theorem OrdN.ints {w : World} {Z n : Nat} {AQ : Option Addr} {Q : List Int} (h : OrdN w Z AQ Q n) (hl : Q.length = n) : IntsAt w w.heap.size AQ Q := fun _ => by
  obtain ⟨g, o, e, h1, h2, h3, h4⟩ := h
  exact ⟨g, o, e, h3, fun i hi => h4 i (by omega)⟩
/-- What becomes less, read off the box. -/
def stB (B : Mz) (w : World) (Z n : Nat) : Nat := match w.cell? ⟨Z, 1, none⟩ with
  | some v => stM B w v n
  | none => 0
theorem stB_is {B : Mz} {w : World} {Z n c : Nat} {AQ : Option Addr} {Q : List Int} (hc : w.cell? ⟨Z, 1, none⟩ = some (.slice AQ n c)) (h : OrdN w Z AQ Q n) (hl : Q.length = n) (h0 : 0 < n) : stB B w Z n = (cplTo B Q [] n).toNat := by
  unfold stB
  rw [hc]
  exact stM_is (h.ints hl) hl h0
/-- A settled order in a block of its own, and its coupling. -/
def StlRes (R : List Int) (n : Nat) (x : Int) (w : World) (e : Ending) (w' : World) : Prop :=
  ∃ g d, e = .returned (.agg #[.slice (some ⟨g, 0, none⟩) n d, .int .i64 x]) ∧ w.heap.size ≤ g ∧ IBlk w' g R n ∧ Below w.heap.size w w'
set_option maxRecDepth 100000 in
set_option maxHeartbeats 3200000 in
theorem settled_any (A : Option Addr) (n c : Nat) (B : Mz) (AO : Option Addr) (L : List Int) (cO : Nat) (R : List Int) (w : World) (h : LoAt w A AO n B L) (hR : Setl B n L R) (hT : BruAt w) :
    Calls Tryd.prog 54 #[.agg #[.slice A n c, .slice AO n cO, .int .u64 0]] w (StlRes R n (cplTo B R [] n) w) := by
  have h9 := h.n9
  have h1 := h9.1
  have hx : Below w.heap.size w ((w.alloc (.cells #[.slice A n c, .slice AO n cO, .int .u64 0] 57)).alloc (.cells #[.slice none 0 0, .int .i64 0] 76)) := by (repeat (first | assumption | exact Below.refl _ _ | (refine bl_alloc ?_ _) | (refine Below.drew ?_) | (refine bl_drewN ?_ _) | (refine bl_set ?_ (by first | (simp; done) | omega | (simp; omega)) _) | (refine bl_trans ?_ (by assumption)) | (refine bl_step ?_ (by assumption) (by first | omega | exact Below.size (by assumption) | (simp; omega) | (simp; exact Below.size (by assumption))))))
  have kB : Blk ((w.alloc (.cells #[.slice A n c, .slice AO n cO, .int .u64 0] 57)).alloc (.cells #[.slice none 0 0, .int .i64 0] 76)) w.heap.size #[.slice A n c, .slice AO n cO, .int .u64 0] 57 := (Blk.new _ _ _).alloc _
  have kR : Blk ((w.alloc (.cells #[.slice A n c, .slice AO n cO, .int .u64 0] 57)).alloc (.cells #[.slice none 0 0, .int .i64 0] 76)) (w.heap.size + 1) #[.slice none 0 0, .int .i64 0] 76 := by
    have := Blk.new (w.alloc (.cells #[.slice A n c, .slice AO n cO, .int .u64 0] 57)) #[.slice none 0 0, .int .i64 0] 76
    rwa [World.size_alloc] at this
  have hO : OrdN ((w.alloc (.cells #[.slice A n c, .slice AO n cO, .int .u64 0] 57)).alloc (.cells #[.slice none 0 0, .int .i64 0] 76)) w.heap.size AO L n := by
    obtain ⟨b, off, e, hb, hc⟩ := h.ord (by rw [h.ok.len]; omega)
    exact ⟨b, off, e, by omega, by omega, by simp; omega, fun i hi => (hx.cell (p := ⟨b, off + i, none⟩) hb).trans (hc i (by rw [h.ok.len]; exact hi))⟩
  have HBn := Lib.hid h.bn
  have HBl := Lib.hid h.len
  have hsq := h.sq
  have HLo : Hid (∀ (AQ : Option Addr) (Q : List Int) (wx : World), Below w.heap.size w wx → OrdN wx w.heap.size AQ Q n → OrOk n Q → LoAt wx A AQ n B Q) := fun AQ Q wx hb hI o => ⟨hsq.to hb, hI.ints o.len, o, HBn.out, HBl.out⟩
  have HT := Lib.hid hT
  have HOk := Lib.hid h.ok
  have HSt := Lib.hid hR
  clear h hsq hT hR
  go_enter Tryd.func54, Tryd.ntmps54
  go_wp2
  generalize ((w.alloc (.cells #[.slice A n c, .slice AO n cO, .int .u64 0] 57)).alloc (.cells #[.slice none 0 0, .int .i64 0] 76)) = w0 at *
  go_loopw [3, 4] (fun _ _ wr => ∃ (AQ : Option Addr) (d : Nat) (Q : List Int), Hid (Blk wr w.heap.size #[.slice A n c, .slice AQ n d, .int .u64 0] 57) ∧ Hid (Blk wr (w.heap.size + 1) #[.slice none 0 0, .int .i64 0] 76) ∧ OrdN wr w.heap.size AQ Q n ∧ Hid (OrOk n Q) ∧ Hid (Setl B n Q R) ∧ Below w.heap.size w wr) (fun _ _ wr => stB B wr w.heap.size n)
  case atStart => exact ⟨AO, cO, L, kB, kR, hO, HOk.out, HSt.out, hx⟩
  case round =>
    clear kB kR hO HOk HSt hx
    obtain ⟨AQ, d, Q, HB, HR, hO, HOk, HSt, hb⟩ := hrel
    have kB := HB.out
    have kR := HR.out
    clear HB HR
    have lB := kB.lt
    have c0 := kB.cell 0 (v := .slice A n c) rfl
    have c1 := kB.cell 1 (v := .slice AQ n d) rfl
    have c2 := kB.cell 2 (v := .int .u64 0) rfl
    have HM : Hid (stB B wr w.heap.size n = (cplTo B Q [] n).toNat) := stB_is c1 hO HOk.out.len (by omega)
    have CB := Lib.hid (bestSwap_any A n c B AQ Q d wr (HLo.out AQ Q wr hb hO HOk.out) (HT.out.to hb))
    go_wp2_with fail
    refine CB.out.mono ?_
    rintro e w2 ⟨h, hb2⟩
    have b2 := bl_trans hb hb2
    have hO2 := hO.to hb2
    have kB2 := kB.to hb2
    have kR2 := kR.to hb2
    have d0 := kB2.cell 0 (v := .slice A n c) rfl
    have d1 := kB2.cell 1 (v := .slice AQ n d) rfl
    have d2 := kB2.cell 2 (v := .int .u64 0) rfl
    have r0 := kR2.cell 0 (v := .slice none 0 0) rfl
    have r1 := kR2.cell 1 (v := .int .i64 0) rfl
    have f0 := kR2.frozen 0
    have f1 := kR2.frozen 1
    have lB2 := kB2.lt
    have lR2 := kR2.lt
    clear c0 c1 c2 CB hO kB kR hb hb2
    rcases h with ⟨e, rfl⟩ | ⟨p, hp, e, h0, rfl⟩
    · have HE := Lib.hid (HSt.out.stopped e)
      have hlo := HLo.out AQ Q w2.drew b2.drew (hO2.to (Below.refl _ _).drew) HOk.out
      have CCl := Lib.hid (by
        have := cloneI_any AQ Q d w2.drew hlo.ord (by rw [HOk.out.len]; omega) (by rw [HOk.out.len]; omega)
        rw [HOk.out.len] at this
        exact this)
      have CCp := Lib.hid (fun (wx : World) (hw : Below w2.drew.heap.size w2.drew wx) => by
        have := coupling_any A n c B AQ Q d [] wx (hlo.to hw) (HT.out.to (bl_trans b2.drew hw))
        rw [shM_nil] at this
        exact this)
      have HCX : Hid (cplTo B R [] n = cplTo B Q [] n) := by show _ = _; rw [HE.out]
      generalize cplTo B Q [] n = z at *
      clear e hlo
      go_wp2
      refine wp_region_tree (fun wx => wx.cell? ⟨w.heap.size, 0, none⟩ = some (.slice A n c) ∧ wx.cell? ⟨w.heap.size, 1, none⟩ = some (.slice AQ n d) ∧ wx.cell? ⟨w.heap.size, 2, none⟩ = some (.int .u64 0)) (Pl.takes [0, 1, 3] (.alone 2 (.alone 4 (Pl.takes [5] (.alone 6 .done))))) (by kernel_rfl) (by kernel_rfl) (by kernel_rfl) (fun _ d _ _ _ h => by cases d <;> exact h) ⟨d0, d1, d2⟩ (fun hS0 => ?_)
      refine tplan_w (v := ?_) rfl (by rfl) ?_ ?_
      rotate_left
      · intro wx hSx
        try dsimp only at hSx
        go_simp
        try (with_reducible rfl)
      try simp only [Act.put, List.setIfInBounds_toArray, List.set_cons_zero, List.set_cons_succ]
      refine tplan_w (v := ?_) rfl (by rfl) ?_ ?_
      rotate_left
      · intro wx hSx
        try dsimp only at hSx
        go_simp
        try (with_reducible rfl)
      try simp only [Act.put, List.setIfInBounds_toArray, List.set_cons_zero, List.set_cons_succ]
      refine tplan_w (v := ?_) rfl (by rfl) ?_ ?_
      rotate_left
      · intro wx hSx
        try dsimp only at hSx
        go_simp
        try (with_reducible rfl)
      try simp only [Act.put, List.setIfInBounds_toArray, List.set_cons_zero, List.set_cons_succ]
      refine tplan_b rfl (fun K hK => ?_)
      go_simp
      refine CCl.out.mono ?_
      rintro e w3 ⟨g3, d3, he3, hg3, hI3, _, hb3⟩
      rw [HOk.out.len] at he3 hI3
      subst he3
      have x3 : Below w2.heap.size w2 w3 := bl_step (Below.refl _ w2).drew hb3 (Nat.le_refl _)
      refine hK _ _ ⟨⟨(x3.cell (p := ⟨w.heap.size, 0, none⟩) lB2).trans d0, (x3.cell (p := ⟨w.heap.size, 1, none⟩) lB2).trans d1, (x3.cell (p := ⟨w.heap.size, 2, none⟩) lB2).trans d2⟩, ?_⟩
      clear hK K
      try simp only [Act.put, List.setIfInBounds_toArray, List.set_cons_zero, List.set_cons_succ]
      refine tplan_b rfl (fun K hK => ?_)
      go_simp
      refine (CCp.out _ hb3).mono ?_
      rintro e w4 ⟨rfl, hb4⟩
      have x4 := bl_trans x3 hb4
      have hI4 := hI3.to hb4
      have q0 := (x4.cell (p := ⟨w.heap.size, 0, none⟩) lB2).trans d0
      have q1 := (x4.cell (p := ⟨w.heap.size, 1, none⟩) lB2).trans d1
      have q2 := (x4.cell (p := ⟨w.heap.size, 2, none⟩) lB2).trans d2
      have kR4 := kR2.to x4
      refine hK _ _ ⟨⟨q0, q1, q2⟩, ?_⟩
      clear hK K
      try simp only [Act.put, List.setIfInBounds_toArray, List.set_cons_zero, List.set_cons_succ]
      refine tplan_w (v := ?_) rfl (by rfl) ?_ ?_
      rotate_left
      · intro wx hSx
        try dsimp only at hSx
        go_simp
        try (with_reducible rfl)
      try simp only [Act.put, List.setIfInBounds_toArray, List.set_cons_zero, List.set_cons_succ]
      have t0 := kR4.cell 0 (v := .slice none 0 0) rfl
      have t1 := kR4.cell 1 (v := .int .i64 0) rfl
      have u0 := kR4.frozen 0
      have u1 := kR4.frozen 1
      have hgZ : w.heap.size + 1 < g3 := by simp at hg3; omega
      have hwg : w.heap.size ≤ g3 := by omega
      have oth : ∀ (a o : Nat) (u v : Value), a ≠ w.heap.size + 1 → ((w4.setCell ⟨w.heap.size + 1, 0, none⟩ u).setCell ⟨w.heap.size + 1, 1, none⟩ v).cell? ⟨a, o, none⟩ = w4.cell? ⟨a, o, none⟩ := fun a o u v h => (World.cell?_of_block (a := ⟨a, o, none⟩) (Below.heap_setCell _ _ _ _ (by simpa using h))).trans (World.cell?_of_block (a := ⟨a, o, none⟩) (Below.heap_setCell _ _ _ _ (by simpa using h)))
      have kE := (kR4.set 0 (.slice (some ⟨g3, 0, none⟩) n d3)).set 1 (.int .i64 z)
      have hIE : IBlk ((w4.setCell ⟨w.heap.size + 1, 0, none⟩ (.slice (some ⟨g3, 0, none⟩) n d3)).setCell ⟨w.heap.size + 1, 1, none⟩ (.int .i64 z)) g3 Q n := hI4.keep (by rw [Below.heap_setCell _ _ _ g3 (by simp; omega), Below.heap_setCell _ _ _ g3 (by simp; omega)])
      have bE := ((bl_trans b2 x4).setCell (p := ⟨w.heap.size + 1, 0, none⟩) (by simp) (.slice (some ⟨g3, 0, none⟩) n d3)).setCell (p := ⟨w.heap.size + 1, 1, none⟩) (by simp) (.int .i64 z)
      have sE : ((w4.setCell ⟨w.heap.size + 1, 0, none⟩ (.slice (some ⟨g3, 0, none⟩) n d3)).setCell ⟨w.heap.size + 1, 1, none⟩ (.int .i64 z)).cell? ⟨w.heap.size, 0, none⟩ = some (.slice A n c) ∧ ((w4.setCell ⟨w.heap.size + 1, 0, none⟩ (.slice (some ⟨g3, 0, none⟩) n d3)).setCell ⟨w.heap.size + 1, 1, none⟩ (.int .i64 z)).cell? ⟨w.heap.size, 1, none⟩ = some (.slice AQ n d) ∧ ((w4.setCell ⟨w.heap.size + 1, 0, none⟩ (.slice (some ⟨g3, 0, none⟩) n d3)).setCell ⟨w.heap.size + 1, 1, none⟩ (.int .i64 z)).cell? ⟨w.heap.size, 2, none⟩ = some (.int .u64 0) := ⟨(oth _ _ _ _ (by omega)).trans q0, (oth _ _ _ _ (by omega)).trans q1, (oth _ _ _ _ (by omega)).trans q2⟩
      refine tplan_b rfl (fun K hK => ?_)
      go_simp
      refine hK _ _ ⟨sE, ?_⟩
      clear hK K
      try simp only [Act.put, List.setIfInBounds_toArray, List.set_cons_zero, List.set_cons_succ]
      refine tplan_endQ ?_
      clear sE oth hI4 x4 x3 q0 q1 q2 t0 t1 u0 u1 kR4 hS0
      generalize ((w4.setCell ⟨w.heap.size + 1, 0, none⟩ (.slice (some ⟨g3, 0, none⟩) n d3)).setCell ⟨w.heap.size + 1, 1, none⟩ (.int .i64 z)) = wE at *
      go_wp2
      have e0 := kE.cell 0 (v := .slice (some ⟨g3, 0, none⟩) n d3) (by simp)
      have e1 := kE.cell 1 (v := .int .i64 z) (by simp)
      refine bodyPost_ret_by (v := .agg #[.slice (some ⟨g3, 0, none⟩) n d3, .int .i64 z]) ?_ rfl ⟨g3, d3, by rw [HCX.out], hwg, by rw [HE.out]; exact hIE, bE⟩
      simp [results, Tryd.results54, go_sem, e0, e1]
    · have HNx := Lib.hid (HSt.out.next e)
      have HLs := Lib.hid (stM_less HBn.out HBl.out HOk.out (show p + 1 < n by omega) h0)
      have CW := Lib.hid (swapped_any A n c B AQ Q d p w2 (HLo.out AQ Q w2 b2 hO2 HOk.out) (by omega))
      obtain ⟨y, hy⟩ : ∃ y, gainI B Q p = y := ⟨_, rfl⟩
      rw [hy] at h0 ⊢
      have hne : (y == 0) = false := by simp; omega
      have g0 := kB2.frozen 0
      have g1 := kB2.frozen 1
      have g2 := kB2.frozen 2
      clear e hy r0 r1 f0 f1
      go_wp2_with fail
      refine CW.out.mono ?_
      rintro e w4 ⟨g4, d4, rfl, hg4, hI4, hb4⟩
      have b4 := bl_trans b2 hb4
      have kB4 := kB2.to hb4
      have kR4 := kR2.to hb4
      have d0' := kB4.cell 0 (v := .slice A n c) rfl
      have d1' := kB4.cell 1 (v := .slice AQ n d) rfl
      have d2' := kB4.cell 2 (v := .int .u64 0) rfl
      have g0' := kB4.frozen 0
      have g1' := kB4.frozen 1
      have g2' := kB4.frozen 2
      have hO4 : OrdN w4 w.heap.size (some ⟨g4, 0, none⟩) (swpL Q p) n := ⟨g4, 0, rfl, by omega, by omega, hI4.lt, fun i hi => by have := hI4.at_ hi (by rw [(HOk.out.swp (show p + 1 < n by omega)).len]; exact hi); simpa using this⟩
      have kE := ((kB4.set 0 (.slice A n c)).set 1 (.slice (some ⟨g4, 0, none⟩) n d4)).set 2 (.int .u64 0)
      have kRE := ((kR4.far (p := ⟨w.heap.size, 0, none⟩) (by simp) (.slice A n c)).far (p := ⟨w.heap.size, 1, none⟩) (by simp) (.slice (some ⟨g4, 0, none⟩) n d4)).far (p := ⟨w.heap.size, 2, none⟩) (by simp) (.int .u64 0)
      have hOE := ((hO4.set_ 0 (.slice A n c)).set_ 1 (.slice (some ⟨g4, 0, none⟩) n d4)).set_ 2 (.int .u64 0)
      have bE := ((b4.setCell (p := ⟨w.heap.size, 0, none⟩) (Nat.le_refl _) (.slice A n c)).setCell (p := ⟨w.heap.size, 1, none⟩) (Nat.le_refl _) (.slice (some ⟨g4, 0, none⟩) n d4)).setCell (p := ⟨w.heap.size, 2, none⟩) (Nat.le_refl _) (.int .u64 0)
      clear CW kB2 kR2 b2 hO2 d0 d1 d2 g0 g1 g2 hb4 b4 hO4 hI4
      go_wp2
      generalize (((w4.setCell ⟨w.heap.size, 0, none⟩ (.slice A n c)).setCell ⟨w.heap.size, 1, none⟩ (.slice (some ⟨g4, 0, none⟩) n d4)).setCell ⟨w.heap.size, 2, none⟩ (.int .u64 0)) = wE at *
      have HM2 : Hid (stB B wE w.heap.size n = (cplTo B (swpL Q p) [] n).toNat) := stB_is (kE.cell 1 (v := .slice (some ⟨g4, 0, none⟩) n d4) (by simp)) hOE (HOk.out.swp (by omega)).len (by omega)
      go_roundw
      case rel => exact ⟨some ⟨g4, 0, none⟩, d4, swpL Q p, kE, kRE, hOE, HOk.out.swp (by omega), HNx.out, bE⟩
      case measure => rw [HM.out, HM2.out]; exact HLs.out
end Go.Proofs.YtifenbamookmiaaDoor
namespace Go.Proofs.YtifenbamookmiaaDoor
set_option linter.unusedSimpArgs false
set_option linter.unusedVariables false
open Go.ChangeShapes Go.WideShapes Go.ChangeAt Go.RowKit Go.BigFrame

/-- Numbers in a block of their own, rated. -/
def RatOk (R : List Int) (x : Int) (B : Nat) (v : Value) (w : World) : Prop := ∃ A d, v = .agg #[.slice A R.length d, .int .i64 x] ∧ Own4 w B A R
theorem Own4.keep {w w' : World} {B : Nat} {A : Option Addr} {L : List Int} (h : Own4 w B A L) (hk : ∀ g, B ≤ g → g < w.heap.size → w'.heap[g]? = w.heap[g]?) : Own4 w' B A L := fun h0 => by
  obtain ⟨g, e, hg, hI⟩ := h h0
  exact ⟨g, e, hg, hI.keep (hk g hg hI.lt)⟩
theorem Own4.mono {w : World} {B C : Nat} {A : Option Addr} {L : List Int} (h : Own4 w B A L) (hC : C ≤ B) : Own4 w C A L := fun h0 => by
  obtain ⟨g, e, hg, hI⟩ := h h0
  exact ⟨g, e, by omega, hI⟩
set_option maxRecDepth 100000 in
set_option maxHeartbeats 3200000 in
theorem attemptRated_any (G : Nat) (caps : Array Value) (w : World) (R : List Int) (x : Int) (ok : Bool) (eg : ∀ args w, (callFunc G args).run Tryd.prog w = .ok (.enter G args) w) (hn : ok = false → R = [] ∧ x = 0)
    (hc : ∀ wx : World, Below w.heap.size w wx → wx.heap.size = w.heap.size + 2 → Calls Tryd.prog G caps wx fun e w' => ((∃ v, e = .returned v ∧ RatOk R x wx.heap.size v w' ∧ ok = true) ∨ (Pan e ∧ ok = false)) ∧ Below wx.heap.size wx w') :
    Calls Tryd.prog 52 #[.func (.func G) #[] caps] w (RatRes R x ok w) := by
  have hx1 : Below w.heap.size w ((w.alloc (.cells #[.slice none 0 0, .int .i64 0] 76)).alloc (.cells #[.bool false] 4)) := by (repeat (first | assumption | exact Below.refl _ _ | (refine bl_alloc ?_ _) | (refine Below.drew ?_) | (refine bl_drewN ?_ _) | (refine bl_set ?_ (by first | (simp; done) | omega | (simp; omega)) _) | (refine bl_trans ?_ (by assumption)) | (refine bl_step ?_ (by assumption) (by first | omega | exact Below.size (by assumption) | (simp; omega) | (simp; exact Below.size (by assumption))))))
  have CA := Lib.hid (attemptRa_any G caps w (fun v w1 => RatOk R x (w.heap.size + 2) v w1 ∧ ok = true) (ok = false) eg ((hc _ hx1 (by simp)).mono (by
    rintro e w' ⟨⟨v, rfl, ho, hk⟩ | ⟨hP, hk⟩, hb⟩
    · refine ⟨.inl ?_, hb⟩
      have ho2 : RatOk R x (w.heap.size + 2) v w' := by simpa using ho
      obtain ⟨A, d, rfl, h4⟩ := ho2
      exact ⟨_, _, _, _, rfl, ⟨A, d, rfl, h4⟩, hk⟩
    · exact ⟨.inr ⟨hP, hk⟩, hb⟩)))
  clear hc
  go_enter Tryd.func52, Tryd.ntmps52
  go_wp2_with fail
  refine CA.out.mono ?_
  rintro e w2 ⟨h, hb2⟩
  rcases h with ⟨A0, n0, k0, x1, w1, rfl, ⟨⟨A, d, he, h4⟩, rfl⟩, hTw⟩ | ⟨rfl, hk⟩
  · have hl0 : A0 = A ∧ n0 = R.length ∧ k0 = d ∧ x1 = x := by
      injection he with he
      injection he with he
      injection he with a b
      injection b with b _
      injection a with a1 a2 a3
      injection b with _ b1
      exact ⟨a1, a2, a3, b1⟩
    obtain ⟨rfl, rfl, rfl, rfl⟩ := hl0
    have h42 : Own4 w2 (w.heap.size + 2) A0 R := h4.keep fun g hg hl => hTw.2 g (by omega) (by omega)
    have b3 : Below w.heap.size w (w2.alloc (.cells #[.slice A0 R.length k0, .int .i64 x1] 76)) := hb2.alloc hb2.size _
    have kE := Blk.new w2 #[.slice A0 R.length k0, .int .i64 x1] 76
    have h43 : Own4 (w2.alloc (.cells #[.slice A0 R.length k0, .int .i64 x1] 76)) (w.heap.size + 2) A0 R := h42.to ((Below.refl _ _).alloc (Nat.le_refl _) _)
    clear he h4 h42 hTw CA hn
    obtain ⟨m, hm⟩ : ∃ m, R.length = m := ⟨_, rfl⟩
    rw [hm] at kE b3 h43 ⊢
    have HM := Lib.hid hm
    clear hm
    go_wp2
    generalize (w2.alloc (.cells #[.slice A0 m k0, .int .i64 x1] 76)) = w3 at *
    generalize w2.heap.size = Z at *
    have c0 := kE.cell 0 (v := .slice A0 m k0) rfl
    have c1 := kE.cell 1 (v := .int .i64 x1) rfl
    have lE := kE.lt
    refine wp_region_over (by kernel_rfl) (by kernel_rfl) ?_
    have hov := over_cells w3
    repeat (go_big_quiet_step ((fail)))
    refine over_nil (fun w2 hb2 => ?_)
    clear hov
    go_wp2
    go_ret3
    exact ⟨A0, k0, by rw [HM.out]; rfl, (h43.to (by assumption)).mono (by omega), bl_trans b3 (by assumption)⟩
  · obtain ⟨rfl, rfl⟩ := hn hk
    have b3 : Below w.heap.size w (w2.alloc (.cells #[.slice none 0 0, .int .i64 0] 76)) := hb2.alloc hb2.size _
    have kE := Blk.new w2 #[.slice none 0 0, .int .i64 0] 76
    have HK := Lib.hid hk
    clear CA hn hk
    go_wp2
    generalize (w2.alloc (.cells #[.slice none 0 0, .int .i64 0] 76)) = w3 at *
    generalize w2.heap.size = Z at *
    have c0 := kE.cell 0 (v := .slice none 0 0) rfl
    have c1 := kE.cell 1 (v := .int .i64 0) rfl
    have lE := kE.lt
    refine wp_region_over (by kernel_rfl) (by kernel_rfl) ?_
    have hov := over_cells w3
    repeat (go_big_quiet_step ((fail)))
    refine over_nil (fun w2 hb2 => ?_)
    clear hov
    go_wp2
    go_ret3
    exact ⟨none, 0, by rw [HK.out]; rfl, Own4.none_ _ _ _, bl_trans b3 (by assumption)⟩
end Go.Proofs.YtifenbamookmiaaDoor
namespace Go.Proofs.YtifenbamookmiaaDoor
set_option linter.unusedSimpArgs false
set_option linter.unusedVariables false
open Go.ChangeShapes Go.WideShapes Go.ChangeAt Go.RowKit Go.BigFrame

theorem requireBundle_yes (A : Option Addr) (Ls : List SlI) (c : Nat) (w : World) (hp : ISAt w w.heap.size A Ls) (hs : ShI Ls) (hv : bnB (heldI Ls) = true) :
    Calls Tryd.prog 46 #[.agg #[.slice A Ls.length c]] w fun e w' => e = .returned (buV A Ls.length c) ∧ Below w.heap.size w w' :=
  (requireBundle_any A Ls c w hp hs.1 hs.2).mono fun _ _ ⟨h, hb⟩ => by
    rcases h with ⟨_, h⟩ | ⟨h, _⟩
    · exact ⟨h, hb⟩
    · rw [hv] at h; cases h
theorem requireBundle_no (A : Option Addr) (Ls : List SlI) (c : Nat) (w : World) (hp : ISAt w w.heap.size A Ls) (hs : ShI Ls) (hv : bnB (heldI Ls) = false) :
    Calls Tryd.prog 46 #[.agg #[.slice A Ls.length c]] w fun e w' => Pan e ∧ Below w.heap.size w w' :=
  (requireBundle_any A Ls c w hp hs.1 hs.2).mono fun _ _ ⟨h, hb⟩ => by
    rcases h with ⟨h, _⟩ | ⟨_, h⟩
    · rw [hv] at h; cases h
    · exact ⟨h, hb⟩
theorem requireOrder_yes (A : Option Addr) (n c : Nat) (AO : Option Addr) (L : List Int) (cO : Nat) (w : World) (hn : n ≤ 9) (hL : IntsAt w w.heap.size AO L) (lL : L.length ≤ 1048576) (ho : orB n L = true) :
    Calls Tryd.prog 47 #[.agg #[.slice A n c], .slice AO L.length cO] w fun e w' => e = .returned (.agg #[.slice A n c, .slice AO L.length cO, .int .u64 0]) ∧ Below w.heap.size w w' :=
  (requireOrder_any A n c AO L cO w hn hL lL).mono fun _ _ ⟨h, hb⟩ => by
    rcases h with ⟨_, h⟩ | ⟨h, _⟩
    · exact ⟨h, hb⟩
    · rw [ho] at h; cases h
theorem requireOrder_no (A : Option Addr) (n c : Nat) (AO : Option Addr) (L : List Int) (cO : Nat) (w : World) (hn : n ≤ 9) (hL : IntsAt w w.heap.size AO L) (lL : L.length ≤ 1048576) (ho : orB n L = false) :
    Calls Tryd.prog 47 #[.agg #[.slice A n c], .slice AO L.length cO] w fun e w' => Pan e ∧ Below w.heap.size w w' :=
  (requireOrder_any A n c AO L cO w hn hL lL).mono fun _ _ ⟨h, hb⟩ => by
    rcases h with ⟨h, _⟩ | ⟨_, h⟩
    · rw [ho] at h; cases h
    · exact ⟨h, hb⟩
theorem require_yesB (w : World) : Calls Tryd.prog 48 #[.bool true] w fun e w' => e = .returned (.tuple #[]) ∧ Below w.heap.size w w' :=
  (require_yes w).mono fun _ _ ⟨h1, h2⟩ => ⟨h1, by rw [h2]; exact Below.refl _ _⟩
theorem require_noB (w : World) : Calls Tryd.prog 48 #[.bool false] w fun e w' => Pan e ∧ Below w.heap.size w w' :=
  (require_no w).mono fun _ _ ⟨h1, h2⟩ => ⟨h1, by rw [h2]; exact Below.refl _ _⟩
/-- Three values in boxes. -/
def BoxV (w : World) (b : Nat) (V0 V1 V2 : Value) : Prop :=
  w.cell? ⟨b, 0, none⟩ = some V0 ∧ w.cell? ⟨b + 1, 0, none⟩ = some V1 ∧ w.cell? ⟨b + 1 + 1, 0, none⟩ = some V2 ∧ b + 1 + 1 < w.heap.size
theorem BoxV.to {w w1 : World} {b : Nat} {V0 V1 V2 : Value} (h : BoxV w b V0 V1 V2) (hb : Below w.heap.size w w1) : BoxV w1 b V0 V1 V2 := by
  obtain ⟨h0, h1, h2, h3⟩ := h
  exact ⟨(hb.cell (p := ⟨b, 0, none⟩) (by simp; omega)).trans h0, (hb.cell (p := ⟨b + 1, 0, none⟩) (by simp; omega)).trans h1, (hb.cell (p := ⟨b + 1 + 1, 0, none⟩) (by simp; omega)).trans h2, Nat.lt_of_lt_of_le h3 hb.size⟩
theorem BoxV.new (w : World) (V0 V1 V2 : Value) (t u v : TypeId) :
    BoxV (((w.alloc (.cells #[V0] t)).alloc (.cells #[V1] u)).alloc (.cells #[V2] v)) w.heap.size V0 V1 V2 := by
  have k0 := ((Blk.new w #[V0] t).alloc (.cells #[V1] u)).alloc (.cells #[V2] v)
  have k1 := (Blk.new (w.alloc (.cells #[V0] t)) #[V1] u).alloc (.cells #[V2] v)
  have k2 := Blk.new ((w.alloc (.cells #[V0] t)).alloc (.cells #[V1] u)) #[V2] v
  rw [World.size_alloc] at k1
  rw [World.size_alloc, World.size_alloc] at k2
  exact ⟨k0.cell 0 rfl, k1.cell 0 rfl, k2.cell 0 rfl, k2.lt⟩

/-- Does SwapGain succeed? -/
def sgB (B : Mz) (L : List Int) (x : Int) : Bool := (bnB B && orB B.length L) && inB x 0 ((B.length : Int) - 2)
def sgX (B : Mz) (L : List Int) (x : Int) : Int := if sgB B L x then gainI B L x.toNat else 0
theorem sgB_held {Ls : List SlI} {L : List Int} {x : Int} : sgB (heldI Ls) L x = ((bnB (heldI Ls) && orB Ls.length L) && inB x 0 ((Ls.length : Int) - 2)) := by unfold sgB; rw [heldI_len]
set_option maxRecDepth 100000 in
set_option maxHeartbeats 1600000 in
theorem SwapGainS_any (A : Option Addr) (Ls : List SlI) (c : Nat) (AO : Option Addr) (L : List Int) (cO : Nat) (x : Int) (w : World) (hp : ISAt w w.heap.size A Ls) (hs : ShI Ls) (hL : IntsAt w w.heap.size AO L) (lL : L.length ≤ 1048576) :
    Calls Tryd.prog 20 #[.agg #[.slice A Ls.length c], .slice AO L.length cO, .int .i64 x] w fun e w' => e = .returned (.tuple #[.int .i64 (sgX (heldI Ls) L x), .bool (sgB (heldI Ls) L x)]) ∧ Below w.heap.size w w' := by
  have hx : Below w.heap.size w (w.alloc (.cells #[.slice A Ls.length c] 29)) := by (repeat (first | assumption | exact Below.refl _ _ | (refine bl_alloc ?_ _) | (refine Below.drew ?_) | (refine bl_drewN ?_ _) | (refine bl_set ?_ (by first | (simp; done) | omega | (simp; omega)) _) | (refine bl_trans ?_ (by assumption)) | (refine bl_step ?_ (by assumption) (by first | omega | exact Below.size (by assumption) | (simp; omega) | (simp; exact Below.size (by assumption))))))
  have kB := Blk.new w #[.slice A Ls.length c] 29
  have CO := Lib.hid (l10Order_any w.heap.size A Ls c AO L cO (w.alloc (.cells #[.slice A Ls.length c] 29)) (kB.cell 0 rfl) kB.lt (hp.to hx) hs (hL.to hx) lL)
  cases hv : bnB (heldI Ls) && orB Ls.length L
  · have R : Hid (sgB (heldI Ls) L x = false) := by show _ = _; rw [sgB_held, hv]; rfl
    have R2 : Hid (sgX (heldI Ls) L x = 0) := by show _ = _; unfold sgX; rw [R.out]; rfl
    rw [hv] at CO
    rw [R.out, R2.out]
    clear hv hp hs hL kB
    generalize Ls.length = n at *
    generalize L.length = m at *
    go_enter Tryd.func20, Tryd.ntmps20
    go_wp2_with fail
    refine CO.out.mono ?_
    rintro e w1 ⟨rfl, hb1⟩
    go_wp2
    go_ret2
    exact ⟨rfl, bl_step hx hb1 hx.size⟩
  have hbo := hv
  rw [Bool.and_eq_true] at hbo
  have hlo := LoAt.of hp hL hbo.1 hbo.2
  have hln : L.length = Ls.length := hlo.ok.len
  have h9 := hlo.n9
  have HB : Hid (sgB (heldI Ls) L x = inB x 0 ((Ls.length : Int) - 2)) := by show _ = _; rw [sgB_held, hv]; rfl
  have HX : Hid (sgX (heldI Ls) L x = if inB x 0 ((Ls.length : Int) - 2) then gainI (heldI Ls) L x.toNat else 0) := by show _ = _; unfold sgX; rw [HB.out]
  have CG := Lib.hid (fun (p : Nat) (hp : p + 1 < Ls.length) (wx : World) (hb : Below (w.alloc (.cells #[.slice A Ls.length c] 29)).heap.size (w.alloc (.cells #[.slice A Ls.length c] 29)) wx) => l10Gain_any w.heap.size A Ls.length c (heldI Ls) AO L cO p wx ((kB.to hb).cell 0 rfl) (kB.to hb).lt (hlo.to (bl_step hx hb hx.size)) hp)
  rw [hv] at CO
  rw [hln] at CO ⊢
  rw [HB.out, HX.out]
  clear hv hp hs hL kB hbo hlo hln lL HB HX
  generalize Ls.length = n at *
  have h9I : (n : Int) ≤ 9 := by omega
  cases hin : inB x 0 ((n : Int) - 2)
  · have HI := Lib.hid hin
    clear hin CG
    simp only [Bool.false_eq_true, if_false]
    go_enter Tryd.func20, Tryd.ntmps20
    go_wp2_with fail
    refine CO.out.mono ?_
    rintro e w1 ⟨rfl, hb1⟩
    go_wp2_with fail
    refine (l00In_at HI _).mono ?_
    rintro e w' ⟨rfl, rfl⟩
    go_wp2
    go_ret2
    exact ⟨rfl, bl_step hx hb1 hx.size⟩
  · have HI := Lib.hid hin
    have hr : 0 ≤ x ∧ x ≤ (n : Int) - 2 := of_decide_eq_true hin
    obtain ⟨p, rfl⟩ : ∃ p : Nat, x = p := ⟨x.toNat, by omega⟩
    have CG2 := Lib.hid (CG.out p (by omega))
    simp only [if_true, Int.toNat_natCast]
    clear hin CG hr
    generalize gainI (heldI Ls) L p = v at *
    go_enter Tryd.func20, Tryd.ntmps20
    go_wp2_with fail
    generalize (w.alloc (.cells #[.slice A n c] 29)) = w0 at *
    refine CO.out.mono ?_
    rintro e w1 ⟨rfl, hb1⟩
    go_wp2_with fail
    refine (l00In_at HI _).mono ?_
    rintro e w' ⟨rfl, rfl⟩
    go_wp2_with fail
    refine (CG2.out _ hb1).mono ?_
    rintro e w2 ⟨rfl, hb2⟩
    go_wp2
    go_ret2
    exact ⟨rfl, bl_step hx (bl_trans hb1 hb2) hx.size⟩
set_option maxRecDepth 100000 in
set_option maxHeartbeats 3200000 in
theorem swapClo_any (A : Option Addr) (Ls : List SlI) (c : Nat) (AO : Option Addr) (L : List Int) (cO : Nat) (x : Int) (b : Nat) (w : World) (hB : BoxV w b (.slice A Ls.length c) (.slice AO L.length cO) (.int .i64 x)) (hp : ISAt w w.heap.size A Ls) (hs : ShI Ls) (hL : IntsAt w w.heap.size AO L) (lL : L.length ≤ 1048576) (hxw : (Lit.int .i64 x).wf = true) (hT : BruAt w) :
    Calls Tryd.prog 45 #[.pointer (some ⟨b, 0, none⟩), .pointer (some ⟨b + 1, 0, none⟩), .pointer (some ⟨b + 1 + 1, 0, none⟩)] w (CplRes (sgB (heldI Ls) L x) (gainI (heldI Ls) L x.toNat) w) := by
  have hxb := bounds_i64 hxw
  clear hxw
  have hB0 := hB
  obtain ⟨q0, q1, q2, q3⟩ := hB
  have qb : b < w.heap.size := by omega
  have qb1 : b + 1 < w.heap.size := by omega
  cases hv : bnB (heldI Ls)
  · have R : Hid (sgB (heldI Ls) L x = false) := by show _ = _; rw [sgB_held, hv]; rfl
    have CB := Lib.hid (fun (wx : World) (hb : Below w.heap.size w wx) => requireBundle_no A Ls c wx (hp.to hb) hs hv)
    unfold CplRes
    rw [R.out]
    clear hv hp hs hL hT
    generalize Ls.length = n at *
    generalize L.length = m at *
    go_enter Tryd.func45, Tryd.ntmps45
    go_wp2
    refine wp_region_treeB (Pl.takes [0, 2] (.fork 1 (.fork 3 (.alone 4 (.alone 5 .done)) 4 (.alone 3 (.alone 5 .done))) 4 (.alone 1 (.alone 3 (.alone 5 .done))))) (by kernel_rfl) (by kernel_rfl) (by kernel_rfl) (fun _ d _ _ _ h => by cases d <;> exact h) (fun hS0 => ?_)
    refine tplan_w (v := ?_) rfl (by rfl) ?_ ?_
    rotate_left
    · intro wx hSx
      obtain ⟨hcx, hfx, hzx⟩ := bcell hSx
      go_simp
      try (with_reducible rfl)
    try simp only [Act.put, List.setIfInBounds_toArray, List.set_cons_zero, List.set_cons_succ]
    refine tplan_w (v := ?_) rfl (by rfl) ?_ ?_
    rotate_left
    · intro wx hSx
      obtain ⟨hcx, hfx, hzx⟩ := bcell hSx
      go_simp
      try (with_reducible rfl)
    try simp only [Act.put, List.setIfInBounds_toArray, List.set_cons_zero, List.set_cons_succ]
    refine tplan_fork ?_ ?_
    · skip
      refine tplan_b rfl (fun K hK => ?_)
      go_simp
      refine (CB.out _ hS0).mono ?_
      rintro e w1 ⟨⟨u, pv, rfl⟩, hb1⟩
      have hS1 := belowS hS0 hb1
      exact ⟨by first | rfl | trivial, .inr ⟨by first | trivial | rfl, _, _, rfl⟩, hS1⟩
    · refine tplan_b rfl (fun K hK => ?_)
      go_simp
      have hS0' : Below w.heap.size w (w.drew.alloc (.cells #[.slice none 0 0, .slice none 0 0, .int .u64 0] 57)) := (hS0.alloc (Nat.le_refl _) _)
      refine hK _ _ ⟨hS0', ?_⟩
      clear hK K hS0
      try simp only [Act.put, List.setIfInBounds_toArray, List.set_cons_zero, List.set_cons_succ]
      have hS0 := hS0'
      refine tplan_b rfl (fun K hK => ?_)
      go_simp
      refine (CB.out _ hS0).mono ?_
      rintro e w1 ⟨⟨u, pv, rfl⟩, hb1⟩
      have hS1 := belowS hS0 hb1
      exact ⟨by first | rfl | trivial, .inr ⟨by first | trivial | rfl, _, _, rfl⟩, hS1⟩
  have hn := bnB_iff.1 hv
  have h1 := hn.h1; have h9 := hn.h9
  rw [heldI_len] at h1 h9
  have CB := Lib.hid (fun (wx : World) (hb : Below w.heap.size w wx) => requireBundle_yes A Ls c wx (hp.to hb) hs hv)
  cases ho : orB Ls.length L
  · have R : Hid (sgB (heldI Ls) L x = false) := by show _ = _; rw [sgB_held, hv, ho]; rfl
    have CO := Lib.hid (fun (wx : World) (hb : Below w.heap.size w wx) => requireOrder_no A Ls.length c AO L cO wx h9 (hL.to hb) lL ho)
    unfold CplRes
    rw [R.out]
    clear hv hp hs hL hT hn ho h1 h9
    generalize Ls.length = n at *
    generalize L.length = m at *
    go_enter Tryd.func45, Tryd.ntmps45
    go_wp2
    refine wp_region_treeB (Pl.takes [0, 2] (.fork 1 (.fork 3 (.alone 4 (.alone 5 .done)) 4 (.alone 3 (.alone 5 .done))) 4 (.alone 1 (.alone 3 (.alone 5 .done))))) (by kernel_rfl) (by kernel_rfl) (by kernel_rfl) (fun _ d _ _ _ h => by cases d <;> exact h) (fun hS0 => ?_)
    refine tplan_w (v := ?_) rfl (by rfl) ?_ ?_
    rotate_left
    · intro wx hSx
      obtain ⟨hcx, hfx, hzx⟩ := bcell hSx
      go_simp
      try (with_reducible rfl)
    try simp only [Act.put, List.setIfInBounds_toArray, List.set_cons_zero, List.set_cons_succ]
    refine tplan_w (v := ?_) rfl (by rfl) ?_ ?_
    rotate_left
    · intro wx hSx
      obtain ⟨hcx, hfx, hzx⟩ := bcell hSx
      go_simp
      try (with_reducible rfl)
    try simp only [Act.put, List.setIfInBounds_toArray, List.set_cons_zero, List.set_cons_succ]
    refine tplan_fork ?_ ?_
    · skip
      refine tplan_b rfl (fun K hK => ?_)
      go_simp
      refine ((CB.out _ hS0)).mono ?_
      rintro e w1 ⟨rfl, hb1⟩
      have hS1 := belowS hS0 hb1
      refine hK _ _ ⟨hS1, ?_⟩
      clear hK K
      try simp only [Act.put, List.setIfInBounds_toArray, List.set_cons_zero, List.set_cons_succ]
      refine tplan_fork ?_ ?_
      · skip
        refine tplan_b rfl (fun K hK => ?_)
        go_simp
        refine (CO.out _ hS1).mono ?_
        rintro e w2 ⟨⟨u, pv, rfl⟩, hb2⟩
        have hS2 := belowS hS1 hb2
        exact ⟨by first | rfl | trivial, .inr ⟨by first | trivial | rfl, _, _, rfl⟩, hS2⟩
      · refine tplan_b rfl (fun K hK => ?_)
        go_simp
        have hS1' : Below w.heap.size w (w1.alloc (.cells #[.slice none 0 0, .slice none 0 0, .int .u64 0] 57)) := (hS1.alloc hS1.size _)
        refine hK _ _ ⟨hS1', ?_⟩
        clear hK K hS1
        try simp only [Act.put, List.setIfInBounds_toArray, List.set_cons_zero, List.set_cons_succ]
        have hS1 := hS1'
        refine tplan_b rfl (fun K hK => ?_)
        go_simp
        refine (CO.out _ hS1).mono ?_
        rintro e w2 ⟨⟨u, pv, rfl⟩, hb2⟩
        have hS2 := belowS hS1 hb2
        exact ⟨by first | rfl | trivial, .inr ⟨by first | trivial | rfl, _, _, rfl⟩, hS2⟩
    · refine tplan_b rfl (fun K hK => ?_)
      go_simp
      have hS0' : Below w.heap.size w (w.drew.alloc (.cells #[.slice none 0 0, .slice none 0 0, .int .u64 0] 57)) := (hS0.alloc (Nat.le_refl _) _)
      refine hK _ _ ⟨hS0', ?_⟩
      clear hK K hS0
      try simp only [Act.put, List.setIfInBounds_toArray, List.set_cons_zero, List.set_cons_succ]
      have hS0 := hS0'
      refine tplan_b rfl (fun K hK => ?_)
      go_simp
      refine ((CB.out _ hS0)).mono ?_
      rintro e w1 ⟨rfl, hb1⟩
      have hS1 := belowS hS0 hb1
      refine hK _ _ ⟨hS1, ?_⟩
      clear hK K
      try simp only [Act.put, List.setIfInBounds_toArray, List.set_cons_zero, List.set_cons_succ]
      refine tplan_b rfl (fun K hK => ?_)
      go_simp
      refine (CO.out _ hS1).mono ?_
      rintro e w2 ⟨⟨u, pv, rfl⟩, hb2⟩
      have hS2 := belowS hS1 hb2
      exact ⟨by first | rfl | trivial, .inr ⟨by first | trivial | rfl, _, _, rfl⟩, hS2⟩
  have CO := Lib.hid (fun (wx : World) (hb : Below w.heap.size w wx) => requireOrder_yes A Ls.length c AO L cO wx h9 (hL.to hb) lL ho)
  have hlo := LoAt.of hp hL hv ho
  have hln : L.length = Ls.length := hlo.ok.len
  have HB : Hid (sgB (heldI Ls) L x = inB x 0 ((Ls.length : Int) - 2)) := by show _ = _; rw [sgB_held, hv, ho]; rfl
  have CG := Lib.hid (fun (p : Nat) (hp : p + 1 < Ls.length) (wx : World) (hb : Below w.heap.size w wx) => swapGain_any A Ls.length c (heldI Ls) AO L cO p wx (hlo.to hb) hp (hT.to hb))
  unfold CplRes
  rw [HB.out]
  rw [hln] at CO q1
  clear hv hp hs hL hT hn ho hlo hln lL HB hB0
  generalize Ls.length = n at *
  have h9I : (n : Int) ≤ 9 := by omega
  have h1I : (1 : Int) ≤ (n : Int) := by omega
  go_enter Tryd.func45, Tryd.ntmps45
  go_wp2
  refine wp_region_alloc (i0 := 4) (m := 5) (ks := [(0, false), (1, false), (2, false), (3, false)]) (.alone 5 .done) (by kernel_rfl) (by kernel_rfl) (by kernel_rfl) (fun _ d _ _ _ h => by cases d <;> exact h) rfl rfl (fun a w => by go_simp <;> rfl) ?_
  refine g_w (v := ?_) (by rfl) ?_ ?_
  rotate_left
  · intro wx hSx
    obtain ⟨hcx, hfx, hzx⟩ := bcell hSx
    go_simp
    try (with_reducible rfl)
  try simp only [Act.put, List.setIfInBounds_toArray, List.set_cons_zero, List.set_cons_succ]
  refine g_c (by rfl) (fun wx hSx => CB.out _ hSx) (fun wx hSx => by go_simp <;> (repeat' (first | rfl | apply And.intro))) ?_
  try simp only [Act.put, List.setIfInBounds_toArray, List.set_cons_zero, List.set_cons_succ]
  refine g_w (v := ?_) (by rfl) ?_ ?_
  rotate_left
  · intro wx hSx
    obtain ⟨hcx, hfx, hzx⟩ := bcell hSx
    go_simp
    try (with_reducible rfl)
  try simp only [Act.put, List.setIfInBounds_toArray, List.set_cons_zero, List.set_cons_succ]
  refine g_c (by rfl) (fun wx hSx => CO.out _ hSx) (fun wx hSx => by go_simp <;> (repeat' (first | rfl | apply And.intro))) ?_
  try simp only [Act.put, List.setIfInBounds_toArray, List.set_cons_zero, List.set_cons_succ]
  refine g_nil (fun G w2 hb2 hG2 hNG => ?_)
  try simp only [Act.put, List.setIfInBounds_toArray, List.set_cons_zero, List.set_cons_succ]
  have g0 := hG2.cell 0 rfl
  have g1 := hG2.cell 1 rfl
  have g2 := hG2.cell 2 rfl
  have gf := hG2.frozen
  refine tplan_b rfl (fun K hK => ?_)
  go_simp
  refine hK _ _ ⟨trivial, ?_⟩
  clear hK K
  try simp only [Act.put, List.setIfInBounds_toArray, List.set_cons_zero, List.set_cons_succ]
  refine tplan_endQ ?_
  have kG := ((hG2.set 0 (.slice A n c)).set 1 (.slice AO n cO)).set 2 (.int .u64 0)
  have x2 := ((hb2.setCell (p := ⟨G, 0, none⟩) hNG (.slice A n c)).setCell (p := ⟨G, 1, none⟩) hNG (.slice AO n cO)).setCell (p := ⟨G, 2, none⟩) hNG (.int .u64 0)
  generalize (((w2.setCell ⟨G, 0, none⟩ (.slice A n c)).setCell ⟨G, 1, none⟩ (.slice AO n cO)).setCell ⟨G, 2, none⟩ (.int .u64 0)) = w3 at *
  clear hG2 g0 g1 g2 gf hb2 CB CO
  have c0 := kG.cell 0 (v := .slice A n c) (by simp)
  have c1 := kG.cell 1 (v := .slice AO n cO) (by simp)
  have c2 := kG.cell 2 (v := .int .u64 0) (by simp)
  have lG := kG.lt
  have p2 := (x2.cell (p := ⟨b + 1 + 1, 0, none⟩) q3).trans q2
  have lb := Nat.lt_of_lt_of_le q3 x2.size
  by_cases hx0 : 0 ≤ x
  case neg =>
    have hin : inB x 0 ((n : Int) - 2) = false := inB_f (by omega)
    have HI := Lib.hid hin
    have hd : decide (0 ≤ x) = false := decide_eq_false hx0
    have hx1 : ¬ (0 ≤ x) := hx0
    clear hin CG
    go_wp2
    refine wp_region_treeB (Pl.takes [0, 1, 2, 3, 4, 5] (.alone 6 (Pl.takes [7, 8, 9] (.alone 10 .done)))) (by kernel_rfl) (by kernel_rfl) (by kernel_rfl) (fun _ d _ _ _ h => by cases d <;> exact h) (fun hS0 => ?_)
    refine tplan_w (v := ?_) rfl (by rfl) ?_ ?_
    rotate_left
    · intro wx hSx
      obtain ⟨hcx, hfx, hzx⟩ := bcell hSx
      go_simp
      try (with_reducible rfl)
    try simp only [Act.put, List.setIfInBounds_toArray, List.set_cons_zero, List.set_cons_succ]
    refine tplan_w (v := ?_) rfl (by rfl) ?_ ?_
    rotate_left
    · intro wx hSx
      obtain ⟨hcx, hfx, hzx⟩ := bcell hSx
      go_simp
      try (with_reducible rfl)
    try simp only [Act.put, List.setIfInBounds_toArray, List.set_cons_zero, List.set_cons_succ]
    refine tplan_w (v := ?_) rfl (by rfl) ?_ ?_
    rotate_left
    · intro wx hSx
      obtain ⟨hcx, hfx, hzx⟩ := bcell hSx
      go_simp
      try (with_reducible rfl)
    try simp only [Act.put, List.setIfInBounds_toArray, List.set_cons_zero, List.set_cons_succ]
    refine tplan_u rfl (by rfl) ?_
    try simp only [Act.put, List.setIfInBounds_toArray, List.set_cons_zero, List.set_cons_succ]
    refine tplan_u rfl (by rfl) ?_
    try simp only [Act.put, List.setIfInBounds_toArray, List.set_cons_zero, List.set_cons_succ]
    refine tplan_u rfl (by rfl) ?_
    try simp only [Act.put, List.setIfInBounds_toArray, List.set_cons_zero, List.set_cons_succ]
    refine tplan_b rfl (fun K hK => ?_)
    go_simp
    refine hK _ _ ⟨hS0, ?_⟩
    clear hK K
    try simp only [Act.put, List.setIfInBounds_toArray, List.set_cons_zero, List.set_cons_succ]
    refine tplan_u rfl (by rfl) ?_
    try simp only [Act.put, List.setIfInBounds_toArray, List.set_cons_zero, List.set_cons_succ]
    refine tplan_u rfl (by rfl) ?_
    try simp only [Act.put, List.setIfInBounds_toArray, List.set_cons_zero, List.set_cons_succ]
    refine tplan_w (v := ?_) rfl (by rfl) ?_ ?_
    rotate_left
    · intro wx hSx
      obtain ⟨hcx, hfx, hzx⟩ := bcell hSx
      go_simp
      try (with_reducible rfl)
    try simp only [Act.put, List.setIfInBounds_toArray, List.set_cons_zero, List.set_cons_succ]
    refine tplan_b rfl (fun K hK => ?_)
    go_simp
    refine (require_noB _).mono ?_
    rintro e w1 ⟨⟨u, pv, rfl⟩, hb1⟩
    have hS1 := belowS hS0 hb1
    exact ⟨by first | rfl | trivial, .inr ⟨HI.out, _, _, rfl⟩, bl_trans x2 hS1⟩
  have hd : decide (0 ≤ x) = true := decide_eq_true hx0
  have hw1 : IntKind.i64.wrap ((n : Int) - 1) = (n : Int) - 1 := IntWalk.i64_in _ (by omega)
  by_cases hx1 : x < (n : Int) - 1
  case neg =>
    have hin : inB x 0 ((n : Int) - 2) = false := inB_f (by omega)
    have HI := Lib.hid hin
    have hd1 : decide (x < (n : Int) - 1) = false := decide_eq_false hx1
    clear hin CG
    go_wp2
    refine wp_region_treeB (Pl.takes [0, 1, 2, 3, 4, 5] (.alone 6 (Pl.takes [7, 8, 9] (.alone 10 .done)))) (by kernel_rfl) (by kernel_rfl) (by kernel_rfl) (fun _ d _ _ _ h => by cases d <;> exact h) (fun hS0 => ?_)
    refine tplan_w (v := ?_) rfl (by rfl) ?_ ?_
    rotate_left
    · intro wx hSx
      obtain ⟨hcx, hfx, hzx⟩ := bcell hSx
      go_simp
      try (with_reducible rfl)
    try simp only [Act.put, List.setIfInBounds_toArray, List.set_cons_zero, List.set_cons_succ]
    refine tplan_w (v := ?_) rfl (by rfl) ?_ ?_
    rotate_left
    · intro wx hSx
      obtain ⟨hcx, hfx, hzx⟩ := bcell hSx
      go_simp
      try (with_reducible rfl)
    try simp only [Act.put, List.setIfInBounds_toArray, List.set_cons_zero, List.set_cons_succ]
    refine tplan_w (v := ?_) rfl (by rfl) ?_ ?_
    rotate_left
    · intro wx hSx
      obtain ⟨hcx, hfx, hzx⟩ := bcell hSx
      go_simp
      try (with_reducible rfl)
    try simp only [Act.put, List.setIfInBounds_toArray, List.set_cons_zero, List.set_cons_succ]
    refine tplan_w (v := ?_) rfl (by rfl) ?_ ?_
    rotate_left
    · intro wx hSx
      obtain ⟨hcx, hfx, hzx⟩ := bcell hSx
      go_simp
      try (with_reducible rfl)
    try simp only [Act.put, List.setIfInBounds_toArray, List.set_cons_zero, List.set_cons_succ]
    refine tplan_w (v := ?_) rfl (by rfl) ?_ ?_
    rotate_left
    · intro wx hSx
      obtain ⟨hcx, hfx, hzx⟩ := bcell hSx
      go_simp
      try (with_reducible rfl)
    try simp only [Act.put, List.setIfInBounds_toArray, List.set_cons_zero, List.set_cons_succ]
    refine tplan_w (v := ?_) rfl (by rfl) ?_ ?_
    rotate_left
    · intro wx hSx
      obtain ⟨hcx, hfx, hzx⟩ := bcell hSx
      go_simp
      try (with_reducible rfl)
    try simp only [Act.put, List.setIfInBounds_toArray, List.set_cons_zero, List.set_cons_succ]
    refine tplan_b rfl (fun K hK => ?_)
    go_simp
    refine ((wires_any _ _ _ _)).mono ?_
    rintro e w1 ⟨rfl, hb1⟩
    have hS1 := belowS hS0 hb1
    refine hK _ _ ⟨hS1, ?_⟩
    clear hK K
    try simp only [Act.put, List.setIfInBounds_toArray, List.set_cons_zero, List.set_cons_succ]
    refine tplan_w (v := ?_) rfl (by rfl) ?_ ?_
    rotate_left
    · intro wx hSx
      obtain ⟨hcx, hfx, hzx⟩ := bcell hSx
      go_simp
      try (with_reducible rfl)
    try simp only [Act.put, List.setIfInBounds_toArray, List.set_cons_zero, List.set_cons_succ]
    refine tplan_w (v := ?_) rfl (by rfl) ?_ ?_
    rotate_left
    · intro wx hSx
      obtain ⟨hcx, hfx, hzx⟩ := bcell hSx
      go_simp
      try (with_reducible rfl)
    try simp only [Act.put, List.setIfInBounds_toArray, List.set_cons_zero, List.set_cons_succ]
    refine tplan_w (v := ?_) rfl (by rfl) ?_ ?_
    rotate_left
    · intro wx hSx
      obtain ⟨hcx, hfx, hzx⟩ := bcell hSx
      go_simp
      try (with_reducible rfl)
    try simp only [Act.put, List.setIfInBounds_toArray, List.set_cons_zero, List.set_cons_succ]
    refine tplan_b rfl (fun K hK => ?_)
    go_simp
    refine (require_noB _).mono ?_
    rintro e w2 ⟨⟨u, pv, rfl⟩, hb2⟩
    have hS2 := belowS hS1 hb2
    exact ⟨by first | rfl | trivial, .inr ⟨HI.out, _, _, rfl⟩, bl_trans x2 hS2⟩
  have hin : inB x 0 ((n : Int) - 2) = true := inB_t hx0 (by omega)
  have HI := Lib.hid hin
  have hd1 : decide (x < (n : Int) - 1) = true := decide_eq_true hx1
  obtain ⟨p, rfl⟩ : ∃ p : Nat, x = p := ⟨x.toNat, by omega⟩
  have CG2 := Lib.hid (CG.out p (by omega))
  have HV : Hid (gainI (heldI Ls) L (p : Int).toNat = gainI (heldI Ls) L p) := by show _ = _; rw [Int.toNat_natCast]
  clear hin CG
  generalize gainI (heldI Ls) L p = v at *
  go_wp2
  refine wp_region_treeB (Pl.takes [0, 1, 2, 3, 4, 5] (.alone 6 (Pl.takes [7, 8, 9] (.alone 10 .done)))) (by kernel_rfl) (by kernel_rfl) (by kernel_rfl) (fun _ d _ _ _ h => by cases d <;> exact h) (fun hS0 => ?_)
  refine tplan_w (v := ?_) rfl (by rfl) ?_ ?_
  rotate_left
  · intro wx hSx
    obtain ⟨hcx, hfx, hzx⟩ := bcell hSx
    go_simp
    try (with_reducible rfl)
  try simp only [Act.put, List.setIfInBounds_toArray, List.set_cons_zero, List.set_cons_succ]
  refine tplan_w (v := ?_) rfl (by rfl) ?_ ?_
  rotate_left
  · intro wx hSx
    obtain ⟨hcx, hfx, hzx⟩ := bcell hSx
    go_simp
    try (with_reducible rfl)
  try simp only [Act.put, List.setIfInBounds_toArray, List.set_cons_zero, List.set_cons_succ]
  refine tplan_w (v := ?_) rfl (by rfl) ?_ ?_
  rotate_left
  · intro wx hSx
    obtain ⟨hcx, hfx, hzx⟩ := bcell hSx
    go_simp
    try (with_reducible rfl)
  try simp only [Act.put, List.setIfInBounds_toArray, List.set_cons_zero, List.set_cons_succ]
  refine tplan_w (v := ?_) rfl (by rfl) ?_ ?_
  rotate_left
  · intro wx hSx
    obtain ⟨hcx, hfx, hzx⟩ := bcell hSx
    go_simp
    try (with_reducible rfl)
  try simp only [Act.put, List.setIfInBounds_toArray, List.set_cons_zero, List.set_cons_succ]
  refine tplan_w (v := ?_) rfl (by rfl) ?_ ?_
  rotate_left
  · intro wx hSx
    obtain ⟨hcx, hfx, hzx⟩ := bcell hSx
    go_simp
    try (with_reducible rfl)
  try simp only [Act.put, List.setIfInBounds_toArray, List.set_cons_zero, List.set_cons_succ]
  refine tplan_w (v := ?_) rfl (by rfl) ?_ ?_
  rotate_left
  · intro wx hSx
    obtain ⟨hcx, hfx, hzx⟩ := bcell hSx
    go_simp
    try (with_reducible rfl)
  try simp only [Act.put, List.setIfInBounds_toArray, List.set_cons_zero, List.set_cons_succ]
  refine tplan_b rfl (fun K hK => ?_)
  go_simp
  refine ((wires_any _ _ _ _)).mono ?_
  rintro e w1 ⟨rfl, hb1⟩
  have hS1 := belowS hS0 hb1
  refine hK _ _ ⟨hS1, ?_⟩
  clear hK K
  try simp only [Act.put, List.setIfInBounds_toArray, List.set_cons_zero, List.set_cons_succ]
  refine tplan_w (v := ?_) rfl (by rfl) ?_ ?_
  rotate_left
  · intro wx hSx
    obtain ⟨hcx, hfx, hzx⟩ := bcell hSx
    go_simp
    try (with_reducible rfl)
  try simp only [Act.put, List.setIfInBounds_toArray, List.set_cons_zero, List.set_cons_succ]
  refine tplan_w (v := ?_) rfl (by rfl) ?_ ?_
  rotate_left
  · intro wx hSx
    obtain ⟨hcx, hfx, hzx⟩ := bcell hSx
    go_simp
    try (with_reducible rfl)
  try simp only [Act.put, List.setIfInBounds_toArray, List.set_cons_zero, List.set_cons_succ]
  refine tplan_w (v := ?_) rfl (by rfl) ?_ ?_
  rotate_left
  · intro wx hSx
    obtain ⟨hcx, hfx, hzx⟩ := bcell hSx
    go_simp
    try (with_reducible rfl)
  try simp only [Act.put, List.setIfInBounds_toArray, List.set_cons_zero, List.set_cons_succ]
  refine tplan_b rfl (fun K hK => ?_)
  go_simp
  refine ((require_yesB _)).mono ?_
  rintro e w2 ⟨rfl, hb2⟩
  have hS2 := belowS hS1 hb2
  refine hK _ _ ⟨hS2, ?_⟩
  clear hK K
  try simp only [Act.put, List.setIfInBounds_toArray, List.set_cons_zero, List.set_cons_succ]
  refine tplan_endQ ?_
  have x3 := bl_trans x2 hS2
  have d0 := (hS2.cell (p := ⟨G, 0, none⟩) lG).trans c0
  have d1 := (hS2.cell (p := ⟨G, 1, none⟩) lG).trans c1
  have d2 := (hS2.cell (p := ⟨G, 2, none⟩) lG).trans c2
  have d3 := (hS2.cell (p := ⟨b + 1 + 1, 0, none⟩) lb).trans p2
  clear c0 c1 c2 p2 hS0 hS1 hS2 hb1 hb2 q0 q1 q2 x2 kG
  go_wp2_with fail
  refine (CG2.out _ x3).mono ?_
  rintro e w9 ⟨rfl, hb9⟩
  go_wp2
  go_ret
  exact ⟨.inl ⟨HI.out, by rw [HV.out]; rfl⟩, bl_trans x3 hb9⟩
set_option maxRecDepth 100000 in
set_option maxHeartbeats 3200000 in
theorem SwapGainI_any (A : Option Addr) (Ls : List SlI) (c : Nat) (AO : Option Addr) (L : List Int) (cO : Nat) (x : Int) (w : World) (hp : ISAt w w.heap.size A Ls) (hs : ShI Ls) (hL : IntsAt w w.heap.size AO L) (lL : L.length ≤ 1048576) (hxw : (Lit.int .i64 x).wf = true) (hT : BruAt w) :
    Calls Tryd.prog 21 #[.agg #[.slice A Ls.length c], .slice AO L.length cO, .int .i64 x] w fun e w' => e = .returned (.tuple #[.int .i64 (sgX (heldI Ls) L x), .bool (sgB (heldI Ls) L x)]) ∧ Below w.heap.size w w' := by
  have hx : Below w.heap.size w (((w.alloc (.cells #[.slice A Ls.length c] 29)).alloc (.cells #[.slice AO L.length cO] 25)).alloc (.cells #[.int .i64 x] 2)) := by (repeat (first | assumption | exact Below.refl _ _ | (refine bl_alloc ?_ _) | (refine Below.drew ?_) | (refine bl_drewN ?_ _) | (refine bl_set ?_ (by first | (simp; done) | omega | (simp; omega)) _) | (refine bl_trans ?_ (by assumption)) | (refine bl_step ?_ (by assumption) (by first | omega | exact Below.size (by assumption) | (simp; omega) | (simp; exact Below.size (by assumption))))))
  have kb := BoxV.new w (.slice A Ls.length c) (.slice AO L.length cO) (.int .i64 x) 29 25 2
  have cc := Lib.hid (fun (wx : World) (hb : Below (((w.alloc (.cells #[.slice A Ls.length c] 29)).alloc (.cells #[.slice AO L.length cO] 25)).alloc (.cells #[.int .i64 x] 2)).heap.size (((w.alloc (.cells #[.slice A Ls.length c] 29)).alloc (.cells #[.slice AO L.length cO] 25)).alloc (.cells #[.int .i64 x] 2)) wx) => swapClo_any A Ls c AO L cO x w.heap.size wx (kb.to hb) ((hp.to hx).to hb) hs ((hL.to hx).to hb) lL hxw ((hT.to hx).to hb))
  clear hp hs hL lL kb hT hxw
  unfold sgX
  unfold CplRes at cc
  generalize sgB (heldI Ls) L x = v at *
  generalize gainI (heldI Ls) L x.toNat = z at *
  generalize Ls.length = n at *
  generalize L.length = m at *
  go_enter Tryd.func21, Tryd.ntmps21
  go_wp2_with fail
  generalize (((w.alloc (.cells #[.slice A n c] 29)).alloc (.cells #[.slice AO m cO] 25)).alloc (.cells #[.int .i64 x] 2)) = w1 at *
  have hx1 : Below w1.heap.size w1 (w1.alloc (.cells #[.bool false] 4)) := by (repeat (first | assumption | exact Below.refl _ _ | (refine bl_alloc ?_ _) | (refine Below.drew ?_) | (refine bl_drewN ?_ _) | (refine bl_set ?_ (by first | (simp; done) | omega | (simp; omega)) _) | (refine bl_trans ?_ (by assumption)) | (refine bl_step ?_ (by assumption) (by first | omega | exact Below.size (by assumption) | (simp; omega) | (simp; exact Below.size (by assumption))))))
  refine (attemptInt_any 45 _ w1 (fun u _ => u = .int .i64 z ∧ v = true) (v = false) (fun _ _ => by first | rfl | (simp [go_sem]; done)) ((cc.out _ hx1).mono ?_)).mono ?_
  · rintro e w2 ⟨⟨hv, rfl⟩ | ⟨hv, hP⟩, hb⟩
    · exact ⟨.inl ⟨_, rfl, rfl, hv⟩, hb⟩
    · exact ⟨.inr ⟨hP, hv⟩, hb⟩
  rintro e w2 ⟨⟨v0, w3, rfl, ⟨rfl, rfl⟩, rfl⟩ | ⟨rfl, rfl⟩, hb2⟩
  · have b2 := bl_step hx hb2 hx.size
    go_wp2
    go_ret2
    exact ⟨rfl, b2⟩
  · have b2 := bl_step hx hb2 hx.size
    go_wp2
    go_ret2
    exact ⟨rfl, b2⟩
theorem SwapGainS_in (A : Option Addr) (n c : Nat) (M : Mz) (AO : Option Addr) (L : List Int) (cO : Nat) (x : Int) (w : World) (h : BnIn w A n M) (hL : IntsAt w w.heap.size AO L) (lL : L.length ≤ 1048576) (hxw : (Lit.int .i64 x).wf = true) :
    Calls Tryd.prog 20 #[.agg #[.slice A n c], .slice AO L.length cO, .int .i64 x] w fun e w' => e = .returned (.tuple #[.int .i64 (sgX M L x), .bool (sgB M L x)]) ∧ Below w.heap.size w w' := by
  obtain ⟨Ms, rfl, rfl, h3, h4⟩ := h
  exact SwapGainS_any A Ms c AO L cO x w h3 h4 hL lL
theorem SwapGainI_in (A : Option Addr) (n c : Nat) (M : Mz) (AO : Option Addr) (L : List Int) (cO : Nat) (x : Int) (w : World) (h : BnIn w A n M) (hL : IntsAt w w.heap.size AO L) (lL : L.length ≤ 1048576) (hxw : (Lit.int .i64 x).wf = true) (hT : BruAt w) :
    Calls Tryd.prog 21 #[.agg #[.slice A n c], .slice AO L.length cO, .int .i64 x] w fun e w' => e = .returned (.tuple #[.int .i64 (sgX M L x), .bool (sgB M L x)]) ∧ Below w.heap.size w w' := by
  obtain ⟨Ms, rfl, rfl, h3, h4⟩ := h
  exact SwapGainI_any A Ms c AO L cO x w h3 h4 hL lL hxw hT
end Go.Proofs.YtifenbamookmiaaDoor
namespace Go.Proofs.YtifenbamookmiaaDoor
set_option linter.unusedSimpArgs false
set_option linter.unusedVariables false
open Go.ChangeShapes Go.WideShapes Go.ChangeAt Go.RowKit Go.BigFrame

/-- Two values in boxes. -/
def BoxW (w : World) (b : Nat) (V0 V1 : Value) : Prop := w.cell? ⟨b, 0, none⟩ = some V0 ∧ w.cell? ⟨b + 1, 0, none⟩ = some V1 ∧ b + 1 < w.heap.size
theorem BoxW.to {w w1 : World} {b : Nat} {V0 V1 : Value} (h : BoxW w b V0 V1) (hb : Below w.heap.size w w1) : BoxW w1 b V0 V1 := by
  obtain ⟨h0, h1, h3⟩ := h
  exact ⟨(hb.cell (p := ⟨b, 0, none⟩) (by simp; omega)).trans h0, (hb.cell (p := ⟨b + 1, 0, none⟩) (by simp; omega)).trans h1, Nat.lt_of_lt_of_le h3 hb.size⟩
theorem BoxW.new (w : World) (V0 V1 : Value) (t u : TypeId) : BoxW ((w.alloc (.cells #[V0] t)).alloc (.cells #[V1] u)) w.heap.size V0 V1 := by
  have k0 := (Blk.new w #[V0] t).alloc (.cells #[V1] u)
  have k1 := Blk.new (w.alloc (.cells #[V0] t)) #[V1] u
  rw [World.size_alloc] at k1
  exact ⟨k0.cell 0 rfl, k1.cell 0 rfl, k1.lt⟩
set_option maxRecDepth 100000 in
set_option maxHeartbeats 3200000 in
theorem settleClo_any (A : Option Addr) (Ls : List SlI) (c : Nat) (AO : Option Addr) (L : List Int) (cO : Nat) (b : Nat) (w : World) (hB : BoxW w b (.slice A Ls.length c) (.slice AO L.length cO)) (hp : ISAt w w.heap.size A Ls) (hs : ShI Ls) (hL : IntsAt w w.heap.size AO L) (lL : L.length ≤ 1048576) (hT : BruAt w) :
    Calls Tryd.prog 53 #[.pointer (some ⟨b, 0, none⟩), .pointer (some ⟨b + 1, 0, none⟩)] w fun e w' => ((∃ v, e = .returned v ∧ RatOk (soL (heldI Ls) L) (soX (heldI Ls) L) w.heap.size v w' ∧ soB (heldI Ls) L = true) ∨ (Pan e ∧ soB (heldI Ls) L = false)) ∧ Below w.heap.size w w' := by
  have hsb : soB (heldI Ls) L = (bnB (heldI Ls) && orB Ls.length L) := by unfold soB; rw [heldI_len]
  obtain ⟨q0, q1, q3⟩ := hB
  have qb : b < w.heap.size := by omega
  have hx : Below w.heap.size w (w.alloc (.cells #[.slice none 0 0, .int .i64 0] 76)) := by (repeat (first | assumption | exact Below.refl _ _ | (refine bl_alloc ?_ _) | (refine Below.drew ?_) | (refine bl_drewN ?_ _) | (refine bl_set ?_ (by first | (simp; done) | omega | (simp; omega)) _) | (refine bl_trans ?_ (by assumption)) | (refine bl_step ?_ (by assumption) (by first | omega | exact Below.size (by assumption) | (simp; omega) | (simp; exact Below.size (by assumption))))))
  have kR := Blk.new w #[.slice none 0 0, .int .i64 0] 76
  cases hv : bnB (heldI Ls)
  · have R : Hid (soB (heldI Ls) L = false) := by show _ = _; rw [hsb, hv]; rfl
    have CB := Lib.hid (fun (wx : World) (hb : Below w.heap.size w wx) => requireBundle_no A Ls c wx (hp.to hb) hs hv)
    clear hv hp hs hL hT kR hsb
    generalize Ls.length = n at *
    generalize L.length = m at *
    go_enter Tryd.func53, Tryd.ntmps53
    go_wp2
    generalize (w.alloc (.cells #[.slice none 0 0, .int .i64 0] 76)) = w0 at *
    have p0 := (hx.cell (p := ⟨b, 0, none⟩) qb).trans q0
    have p1 := (hx.cell (p := ⟨b + 1, 0, none⟩) q3).trans q1
    have lb := Nat.lt_of_lt_of_le q3 hx.size
    have lb0 := Nat.lt_of_lt_of_le qb hx.size
    refine wp_region_treeB (Pl.takes [0, 2] (.alone 1 (.alone 3 (.alone 4 (.alone 5 .done))))) (by kernel_rfl) (by kernel_rfl) (by kernel_rfl) (fun _ d _ _ _ h => by cases d <;> exact h) (fun hS0 => ?_)
    refine tplan_w (v := ?_) rfl (by rfl) ?_ ?_
    rotate_left
    · intro wx hSx
      obtain ⟨hcx, hfx, hzx⟩ := bcell hSx
      go_simp
      try (with_reducible rfl)
    try simp only [Act.put, List.setIfInBounds_toArray, List.set_cons_zero, List.set_cons_succ]
    refine tplan_w (v := ?_) rfl (by rfl) ?_ ?_
    rotate_left
    · intro wx hSx
      obtain ⟨hcx, hfx, hzx⟩ := bcell hSx
      go_simp
      try (with_reducible rfl)
    try simp only [Act.put, List.setIfInBounds_toArray, List.set_cons_zero, List.set_cons_succ]
    refine tplan_b rfl (fun K hK => ?_)
    go_simp
    refine (CB.out _ (bl_step hx hS0 hx.size)).mono ?_
    rintro e w1 ⟨⟨u, pv, rfl⟩, hb1⟩
    have hS1 := belowS hS0 hb1
    exact ⟨by first | trivial | rfl, .inr ⟨⟨_, _, rfl⟩, R.out⟩, bl_step hx hS1 hx.size⟩
  have hn := bnB_iff.1 hv
  have h1 := hn.h1; have h9 := hn.h9
  rw [heldI_len] at h1 h9
  have CB := Lib.hid (fun (wx : World) (hb : Below w.heap.size w wx) => requireBundle_yes A Ls c wx (hp.to hb) hs hv)
  cases ho : orB Ls.length L
  · have R : Hid (soB (heldI Ls) L = false) := by show _ = _; rw [hsb, hv, ho]; rfl
    have CO := Lib.hid (fun (wx : World) (hb : Below w.heap.size w wx) => requireOrder_no A Ls.length c AO L cO wx h9 (hL.to hb) lL ho)
    clear hv hp hs hL hT hn ho h1 h9 kR hsb
    generalize Ls.length = n at *
    generalize L.length = m at *
    go_enter Tryd.func53, Tryd.ntmps53
    go_wp2
    generalize (w.alloc (.cells #[.slice none 0 0, .int .i64 0] 76)) = w0 at *
    have p0 := (hx.cell (p := ⟨b, 0, none⟩) qb).trans q0
    have p1 := (hx.cell (p := ⟨b + 1, 0, none⟩) q3).trans q1
    have lb := Nat.lt_of_lt_of_le q3 hx.size
    have lb0 := Nat.lt_of_lt_of_le qb hx.size
    refine wp_region_treeB (Pl.takes [0, 2] (.alone 1 (.alone 3 (.alone 4 (.alone 5 .done))))) (by kernel_rfl) (by kernel_rfl) (by kernel_rfl) (fun _ d _ _ _ h => by cases d <;> exact h) (fun hS0 => ?_)
    refine tplan_w (v := ?_) rfl (by rfl) ?_ ?_
    rotate_left
    · intro wx hSx
      obtain ⟨hcx, hfx, hzx⟩ := bcell hSx
      go_simp
      try (with_reducible rfl)
    try simp only [Act.put, List.setIfInBounds_toArray, List.set_cons_zero, List.set_cons_succ]
    refine tplan_w (v := ?_) rfl (by rfl) ?_ ?_
    rotate_left
    · intro wx hSx
      obtain ⟨hcx, hfx, hzx⟩ := bcell hSx
      go_simp
      try (with_reducible rfl)
    try simp only [Act.put, List.setIfInBounds_toArray, List.set_cons_zero, List.set_cons_succ]
    refine tplan_b rfl (fun K hK => ?_)
    go_simp
    refine ((CB.out _ (bl_step hx hS0 hx.size))).mono ?_
    rintro e w1 ⟨rfl, hb1⟩
    have hS1 := belowS hS0 hb1
    refine hK _ _ ⟨hS1, ?_⟩
    clear hK K
    try simp only [Act.put, List.setIfInBounds_toArray, List.set_cons_zero, List.set_cons_succ]
    refine tplan_b rfl (fun K hK => ?_)
    go_simp
    refine (CO.out _ (bl_step hx hS1 hx.size)).mono ?_
    rintro e w2 ⟨⟨u, pv, rfl⟩, hb2⟩
    have hS2 := belowS hS1 hb2
    exact ⟨by first | trivial | rfl, .inr ⟨⟨_, _, rfl⟩, R.out⟩, bl_step hx hS2 hx.size⟩
  have CO := Lib.hid (fun (wx : World) (hb : Below w.heap.size w wx) => requireOrder_yes A Ls.length c AO L cO wx h9 (hL.to hb) lL ho)
  have hlo := LoAt.of hp hL hv ho
  have hln : L.length = Ls.length := hlo.ok.len
  have hst := stR_is hlo.bn (by rw [heldI_len]; exact hlo.ok)
  rw [heldI_len] at hst
  have R1 : Hid (soB (heldI Ls) L = true) := by show _ = _; rw [hsb, hv, ho]; rfl
  have R2 : Hid (soL (heldI Ls) L = stR (heldI Ls) L) := by show _ = _; unfold soL; rw [R1.out]; rfl
  have R3 : Hid (soX (heldI Ls) L = cplTo (heldI Ls) (stR (heldI Ls) L) [] Ls.length) := by show _ = _; unfold soX; rw [R1.out, heldI_len]; rfl
  have HRl : Hid ((stR (heldI Ls) L).length = Ls.length) := hst.2.len
  have CS := Lib.hid (fun (wx : World) (hb : Below w.heap.size w wx) => settled_any A Ls.length c (heldI Ls) AO L cO (stR (heldI Ls) L) wx (hlo.to hb) hst.1 (hT.to hb))
  rw [R1.out, R2.out, R3.out]
  rw [hln] at CO q1
  clear hv hp hs hL hT hn ho hlo hln lL hst hsb R1 R2 R3
  generalize stR (heldI Ls) L = R at *
  generalize cplTo (heldI Ls) R [] Ls.length = z at *
  generalize Ls.length = n at *
  go_enter Tryd.func53, Tryd.ntmps53
  go_wp2
  generalize (w.alloc (.cells #[.slice none 0 0, .int .i64 0] 76)) = w0 at *
  have p0 := (hx.cell (p := ⟨b, 0, none⟩) qb).trans q0
  have p1 := (hx.cell (p := ⟨b + 1, 0, none⟩) q3).trans q1
  have lb := Nat.lt_of_lt_of_le q3 hx.size
  have lb0 := Nat.lt_of_lt_of_le qb hx.size
  refine wp_region_tree (fun wx => wx.cell? ⟨b, 0, none⟩ = some (.slice A n c) ∧ wx.cell? ⟨b + 1, 0, none⟩ = some (.slice AO n cO)) (Pl.takes [0, 2] (.alone 1 (.alone 3 (.alone 4 (.alone 5 .done))))) (by kernel_rfl) (by kernel_rfl) (by kernel_rfl) (fun _ d _ _ _ h => by cases d <;> exact h) ⟨p0, p1⟩ (fun hS0 => ?_)
  have x0 : Below w.heap.size w w0.drew := hx.drew
  have y0 : Below w0.heap.size w0 w0.drew := (Below.refl _ _).drew
  refine tplan_w (v := ?_) rfl (by rfl) ?_ ?_
  rotate_left
  · intro wx hSx
    try dsimp only at hSx
    go_simp
    try (with_reducible rfl)
  try simp only [Act.put, List.setIfInBounds_toArray, List.set_cons_zero, List.set_cons_succ]
  refine tplan_w (v := ?_) rfl (by rfl) ?_ ?_
  rotate_left
  · intro wx hSx
    try dsimp only at hSx
    go_simp
    try (with_reducible rfl)
  try simp only [Act.put, List.setIfInBounds_toArray, List.set_cons_zero, List.set_cons_succ]
  refine tplan_b rfl (fun K hK => ?_)
  go_simp
  refine (CB.out _ x0).mono ?_
  rintro e w1 ⟨rfl, hb1⟩
  have x1 := bl_trans x0 hb1
  have y1 := bl_step y0 hb1 y0.size
  refine hK _ _ ⟨⟨(y1.cell (p := ⟨b, 0, none⟩) lb0).trans p0, (y1.cell (p := ⟨b + 1, 0, none⟩) lb).trans p1⟩, ?_⟩
  clear hK K
  try simp only [Act.put, List.setIfInBounds_toArray, List.set_cons_zero, List.set_cons_succ]
  refine tplan_b rfl (fun K hK => ?_)
  go_simp
  refine (CO.out _ x1).mono ?_
  rintro e w2 ⟨rfl, hb2⟩
  have x2 := bl_trans x1 hb2
  have y2 := bl_step y1 hb2 y1.size
  refine hK _ _ ⟨⟨(y2.cell (p := ⟨b, 0, none⟩) lb0).trans p0, (y2.cell (p := ⟨b + 1, 0, none⟩) lb).trans p1⟩, ?_⟩
  clear hK K
  try simp only [Act.put, List.setIfInBounds_toArray, List.set_cons_zero, List.set_cons_succ]
  refine tplan_b rfl (fun K hK => ?_)
  go_simp
  refine (CS.out _ x2).mono ?_
  rintro e w3 ⟨g, d, rfl, hg, hI, hb3⟩
  have x3 := bl_trans x2 hb3
  have y3 := bl_step y2 hb3 y2.size
  have s0 := (y3.cell (p := ⟨b, 0, none⟩) lb0).trans p0
  have s1 := (y3.cell (p := ⟨b + 1, 0, none⟩) lb).trans p1
  refine hK _ _ ⟨⟨s0, s1⟩, ?_⟩
  clear hK K
  try simp only [Act.put, List.setIfInBounds_toArray, List.set_cons_zero, List.set_cons_succ]
  have k3 := kR.to y3
  have t0 := k3.cell 0 (v := .slice none 0 0) rfl
  have t1 := k3.cell 1 (v := .int .i64 0) rfl
  have u0 := k3.frozen 0
  have u1 := k3.frozen 1
  have lR := kR.lt
  have hgw : w.heap.size < g := by have := y2.size; omega
  have oth : ∀ (a o : Nat) (u v : Value), a ≠ w.heap.size → ((w3.setCell ⟨w.heap.size, 0, none⟩ u).setCell ⟨w.heap.size, 1, none⟩ v).cell? ⟨a, o, none⟩ = w3.cell? ⟨a, o, none⟩ := fun a o u v h => (World.cell?_of_block (a := ⟨a, o, none⟩) (Below.heap_setCell _ _ _ _ (by simpa using h))).trans (World.cell?_of_block (a := ⟨a, o, none⟩) (Below.heap_setCell _ _ _ _ (by simpa using h)))
  have kE := (k3.set 0 (.slice (some ⟨g, 0, none⟩) n d)).set 1 (.int .i64 z)
  have hIE : IBlk ((w3.setCell ⟨w.heap.size, 0, none⟩ (.slice (some ⟨g, 0, none⟩) n d)).setCell ⟨w.heap.size, 1, none⟩ (.int .i64 z)) g R n := hI.keep (by rw [Below.heap_setCell _ _ _ g (by simp; omega), Below.heap_setCell _ _ _ g (by simp; omega)])
  have bE := (x3.setCell (p := ⟨w.heap.size, 0, none⟩) (Nat.le_refl _) (.slice (some ⟨g, 0, none⟩) n d)).setCell (p := ⟨w.heap.size, 1, none⟩) (Nat.le_refl _) (.int .i64 z)
  refine tplan_b rfl (fun K hK => ?_)
  go_simp
  refine hK _ _ ⟨⟨(oth _ _ _ _ (by omega)).trans s0, (oth _ _ _ _ (by omega)).trans s1⟩, ?_⟩
  clear hK K
  try simp only [Act.put, List.setIfInBounds_toArray, List.set_cons_zero, List.set_cons_succ]
  refine tplan_endQ ?_
  clear oth s0 s1 t0 t1 u0 u1 k3 x3 y3 hI hS0
  generalize ((w3.setCell ⟨w.heap.size, 0, none⟩ (.slice (some ⟨g, 0, none⟩) n d)).setCell ⟨w.heap.size, 1, none⟩ (.int .i64 z)) = wE at *
  have HRes : Hid (RatOk R z w.heap.size (.agg #[.slice (some ⟨g, 0, none⟩) n d, .int .i64 z]) wE) := ⟨some ⟨g, 0, none⟩, d, by rw [HRl.out], fun _ => ⟨g, rfl, by omega, by rw [HRl.out]; exact hIE⟩⟩
  go_wp2
  have e0 := kE.cell 0 (v := .slice (some ⟨g, 0, none⟩) n d) (by simp)
  have e1 := kE.cell 1 (v := .int .i64 z) (by simp)
  refine bodyPost_ret_by (v := .agg #[.slice (some ⟨g, 0, none⟩) n d, .int .i64 z]) ?_ rfl ⟨.inl ⟨_, rfl, HRes.out, by first | trivial | rfl⟩, bE⟩
  simp [results, Tryd.results53, go_sem, e0, e1]
set_option maxRecDepth 100000 in
set_option maxHeartbeats 3200000 in
theorem SettleOrderI_any (A : Option Addr) (Ls : List SlI) (c : Nat) (AO : Option Addr) (L : List Int) (cO : Nat) (w : World) (hp : ISAt w w.heap.size A Ls) (hs : ShI Ls) (hL : IntsAt w w.heap.size AO L) (lL : L.length ≤ 1048576) (hT : BruAt w) :
    Calls Tryd.prog 23 #[.agg #[.slice A Ls.length c], .slice AO L.length cO] w (RatRes (soL (heldI Ls) L) (soX (heldI Ls) L) (soB (heldI Ls) L) w) := by
  have hx : Below w.heap.size w ((w.alloc (.cells #[.slice A Ls.length c] 29)).alloc (.cells #[.slice AO L.length cO] 25)) := by (repeat (first | assumption | exact Below.refl _ _ | (refine bl_alloc ?_ _) | (refine Below.drew ?_) | (refine bl_drewN ?_ _) | (refine bl_set ?_ (by first | (simp; done) | omega | (simp; omega)) _) | (refine bl_trans ?_ (by assumption)) | (refine bl_step ?_ (by assumption) (by first | omega | exact Below.size (by assumption) | (simp; omega) | (simp; exact Below.size (by assumption))))))
  have kb := BoxW.new w (.slice A Ls.length c) (.slice AO L.length cO) 29 25
  have cc := Lib.hid (fun (wx : World) (hb : Below ((w.alloc (.cells #[.slice A Ls.length c] 29)).alloc (.cells #[.slice AO L.length cO] 25)).heap.size ((w.alloc (.cells #[.slice A Ls.length c] 29)).alloc (.cells #[.slice AO L.length cO] 25)) wx) => settleClo_any A Ls c AO L cO w.heap.size wx (kb.to hb) ((hp.to hx).to hb) hs ((hL.to hx).to hb) lL ((hT.to hx).to hb))
  have HNO : Hid (soB (heldI Ls) L = false → soL (heldI Ls) L = [] ∧ soX (heldI Ls) L = 0) := fun h => by unfold soL soX; rw [h]; exact ⟨rfl, rfl⟩
  clear hp hs hL lL kb hT
  generalize soB (heldI Ls) L = v at *
  generalize soL (heldI Ls) L = R at *
  generalize soX (heldI Ls) L = z at *
  generalize Ls.length = n at *
  generalize L.length = m at *
  go_enter Tryd.func23, Tryd.ntmps23
  go_wp2_with fail
  generalize ((w.alloc (.cells #[.slice A n c] 29)).alloc (.cells #[.slice AO m cO] 25)) = w1 at *
  refine (attemptRated_any 53 _ w1 R z v (fun _ _ => by first | rfl | (simp [go_sem]; done)) HNO.out (fun wx hb hz => cc.out wx hb)).mono ?_
  rintro e w2 ⟨A2, c2, rfl, h4, hb2⟩
  obtain ⟨m2, hm2⟩ : ∃ m2, R.length = m2 := ⟨_, rfl⟩
  have HM := Lib.hid hm2
  rw [hm2]
  clear hm2
  go_wp2
  go_ret3
  exact ⟨A2, c2, by rw [HM.out]; rfl, h4.mono hx.size, bl_step hx hb2 hx.size⟩
theorem soL_len {B : Mz} {L : List Int} : (soL B L).length ≤ 1048576 := by
  unfold soL
  split
  · rename_i h
    unfold soB at h
    rw [Bool.and_eq_true, bnB_iff, orB_iff] at h
    rw [(stR_is h.1 h.2).2.len]
    have := h.1.h9; omega
  · simp
theorem SettleOrderS_in (A : Option Addr) (n c : Nat) (M : Mz) (AO : Option Addr) (L : List Int) (cO : Nat) (w : World) (h : BnIn w A n M) (hL : IntsAt w w.heap.size AO L) (lL : L.length ≤ 1048576) :
    Calls Tryd.prog 22 #[.agg #[.slice A n c], .slice AO L.length cO] w (RatRes (soL M L) (soX M L) (soB M L) w) := by
  obtain ⟨Ms, rfl, rfl, h3, h4⟩ := h
  exact SettleOrderS_any A Ms c AO L cO w h3 h4 hL lL
theorem SettleOrderI_in (A : Option Addr) (n c : Nat) (M : Mz) (AO : Option Addr) (L : List Int) (cO : Nat) (w : World) (h : BnIn w A n M) (hL : IntsAt w w.heap.size AO L) (lL : L.length ≤ 1048576) (hT : BruAt w) :
    Calls Tryd.prog 23 #[.agg #[.slice A n c], .slice AO L.length cO] w (RatRes (soL M L) (soX M L) (soB M L) w) := by
  obtain ⟨Ms, rfl, rfl, h3, h4⟩ := h
  exact SettleOrderI_any A Ms c AO L cO w h3 h4 hL lL hT
end Go.Proofs.YtifenbamookmiaaDoor
namespace Go.Proofs.YtifenbamookmiaaDoor.fnExactSettleOrder
set_option linter.unusedSimpArgs false
set_option linter.unusedVariables false
open Go.ChangeShapes Go.WideShapes Go.ChangeAt Go.RowKit

set_option maxRecDepth 100000 in
set_option maxHeartbeats 6400000 in
theorem walk (A : Option Addr) (Ls : List SlI) (c : Nat) (B0 : Option Addr) (p0 : List Int) (d0 : Nat) (w : World) (h : RowsIn w A Ls c) (h0 : IntsAt w w.heap.size B0 p0 ∧ (∀ n ∈ p0, Fits n) ∧ p0.length ≤ d0 ∧ d0 ≤ maxLen) (hL : BruAt w) :
    Calls Tryd.prog 6 #[.agg #[.slice A Ls.length c], .slice B0 p0.length d0] w fun e w' => e = .returned (.bool true) ∧ Below w.heap.size w w' := by
  have hx0 : Below w.heap.size w (w.alloc (.cells #[.slice A Ls.length c] 24)) := by (repeat (first | assumption | exact Below.refl _ _ | (refine bl_alloc ?_ _) | (refine Below.drew ?_) | (refine bl_drewN ?_ _) | (refine bl_set ?_ (by first | (simp; done) | omega | (simp; omega)) _) | (refine bl_trans ?_ (by assumption)) | (refine bl_step ?_ (by assumption) (by first | omega | exact Below.size (by assumption) | (simp; omega) | (simp; exact Below.size (by assumption))))))
  obtain ⟨q0, _, _, _⟩ := h0
  by_cases m0 : p0.length ≤ 1048576
  case neg =>
    have mI : 1048576 < (p0.length : Int) := by omega
    go_enter Tryd.func6, Tryd.ntmps6
    go_wp2
    go_ret
    exact ⟨rfl, hx0⟩
  have mI0 : (p0.length : Int) ≤ 1048576 := by omega
  have ka := Blk.new w #[.slice A Ls.length c] 24
  have csz := szBundle_in A Ls c (w.alloc (.cells #[.slice A Ls.length c] 24)) w h hx0
  clear h
  have HL := Lib.hid hL
  clear hL
  generalize Ls.length = n at *
  generalize heldI Ls = M at *
  obtain ⟨L, hL⟩ : ∃ L, soL M p0 = L := ⟨_, rfl⟩
  obtain ⟨v, hv⟩ : ∃ v, soX M p0 = v := ⟨_, rfl⟩
  obtain ⟨ok, hok⟩ : ∃ ok, soB M p0 = ok := ⟨_, rfl⟩
  have hLl : L.length ≤ 1048576 := by rw [← hL]; exact soL_len
  have CS := Lib.hid (fun (wx : World) (A : Option Addr) (B0 : Option Addr) (h : BnIn wx A n M) (q0 : IntsAt wx wx.heap.size B0 p0) => by have := SettleOrderS_in A n n M B0 p0 p0.length wx h q0 m0; rw [hL, hv, hok] at this; exact this)
  have CI := Lib.hid (fun (wx : World) (A : Option Addr) (B0 : Option Addr) (h : BnIn wx A n M) (q0 : IntsAt wx wx.heap.size B0 p0) (hT : BruAt wx) => by have := SettleOrderI_in A n n M B0 p0 p0.length wx h q0 m0 hT; rw [hL, hv, hok] at this; exact this)
  have CE := Lib.hid (fun (wx : World) (A B : Option Addr) (c d : Nat) (h : IntsAt wx wx.heap.size A L) (k : IntsAt wx wx.heap.size B L) => eqInt64S_same A B L c d wx h k hLl)
  have CN0 := Lib.hid (fun (wx : World) (hx : Below w.heap.size w wx) => toInt64S_new B0 p0 d0 wx (q0.to hx) m0)
  have CP0 := Lib.hid (fun (wx : World) (A B : Option Addr) (h : IntsAt wx wx.heap.size A p0) (k : IntsAt wx wx.heap.size B p0) => eqInt64S_same A B p0 p0.length p0.length wx h k m0)
  have hokn : (ok != ok) = false := bne_self_eq_false _
  have hvn : (v != v) = false := bne_self_eq_false _
  have hmL : ¬ (1 + (L.length : Int)) < 0 := by omega
  clear hL hv hok q0
  go_enter Tryd.func6, Tryd.ntmps6
  go_wp2_with fail
  refine csz.mono ?_
  rintro e w1 ⟨⟨r, rfl, hr1, hr2, hr3⟩, hb⟩
  have HR := Lib.hid hr3
  clear hr3 csz
  replace ka := ka.to hb
  have x1 := bl_step hx0 hb hx0.size
  clear hb hx0
  by_cases hr : r < 0
  · go_wp2
    go_ret
    exact ⟨rfl, x1⟩
  have HP := Lib.hid (HR.out (by omega))
  have CT := Lib.hid (fun (wx : World) (hx : Below w.heap.size w wx) => toBundle_in A n c M wx (HP.out.to hx))
  clear HR hr1 hr2
  have s0 := ka.cell 0 (v := .slice A n c) rfl
  go_wp2_with fail
  refine (CT.out _ x1).mono ?_
  rintro e w2 ⟨g1, rfl, hB, _, hb⟩
  have x2 := bl_trans x1 hb
  replace ka := ka.to hb
  clear hb x1
  clear s0
  go_wp2_with fail
  refine (CN0.out _ x2).mono ?_
  rintro e w3 ⟨y0, rfl, hN0, hb, _⟩
  have x3 := bl_trans x2 hb
  replace ka := ka.to hb
  replace hB := hB.to hb
  clear hb x2
  go_wp2_with fail
  refine (CS.out _ _ _ hB.in_ hN0.nums).mono ?_
  rintro e w0 ⟨A0, c0, rfl, o0, hb⟩
  have x4 := bl_trans x3 hb
  replace ka := ka.to hb
  have p : IntsAt w0 w0.heap.size A0 L := o0.ints
  have hz2 : w0.heap.size ≤ w0.heap.size := Nat.le_refl _
  have hw0 : w.heap.size < w0.heap.size := ka.lt
  clear hb hB o0 x3 hN0
  have s0 := ka.cell 0 (v := .slice A n c) rfl
  go_wp2_with fail
  refine (CT.out _ x4).mono ?_
  rintro e w5 ⟨gx, rfl, hX, hgx, hb⟩
  have hgx0 : w0.heap.size ≤ gx := Nat.le_trans hz2 hgx
  clear hgx
  have x5 := bl_trans x4 hb
  replace ka := ka.to hb
  replace p := p.keepB (hb.mono hz2)
  replace hz2 : w0.heap.size ≤ w5.heap.size := Nat.le_trans hz2 hb.size
  clear hb x4
  clear s0
  have HXc := Lib.hid hX
  have hgX : gx < w5.heap.size := by
    obtain ⟨Ms, _, _, hZ, _⟩ := hX
    exact hZ.lt
  have kb := Blk.new w5 #[.slice (some ⟨gx, 0, none⟩) n n] 29
  have hb : Below w5.heap.size w5 (w5.alloc (.cells #[.slice (some ⟨gx, 0, none⟩) n n] 29)) := (Below.refl _ _).alloc (Nat.le_refl _) _
  have bC := hb
  replace ka := ka.to hb
  replace hX := hX.to hb
  replace p := p.keepB (hb.mono hz2)
  replace hz2 : w0.heap.size ≤ (w5.alloc (.cells #[.slice (some ⟨gx, 0, none⟩) n n] 29)).heap.size := Nat.le_trans hz2 hb.size
  replace x5 := bl_trans x5 hb
  clear hb
  go_wp2_with fail
  generalize (w5.alloc (.cells #[.slice (some ⟨gx, 0, none⟩) n n] 29)) = v5 at *
  generalize hXX : w5.heap.size = X at *
  have HX0 := Lib.hid hXX
  clear hXX
  refine (CN0.out _ x5).mono ?_
  rintro e w6 ⟨z0, rfl, hY0, hb, hgz⟩
  have hzX0 : X ≤ z0 := by have := bC.size; rw [HX0.out] at this; omega
  have hzw0 : w0.heap.size ≤ z0 := by omega
  have x6 := bl_trans x5 hb
  replace ka := ka.to hb
  replace kb := kb.to hb
  replace hX := hX.to hb
  replace p := p.keepB (hb.mono hz2)
  replace hz2 : w0.heap.size ≤ w6.heap.size := Nat.le_trans hz2 hb.size
  replace bC := bC.trans (hb.mono (by have := bC.size; rw [HX0.out] at this; exact this))
  clear hb hgz x5
  have u0 := kb.cell 0 (v := .slice (some ⟨gx, 0, none⟩) n n) rfl
  go_wp2_with fail
  have hzO0 : z0 < w6.heap.size := hY0.lt
  have hXO : X ≤ w6.heap.size := by have := bC.size; rw [HX0.out] at this; exact this
  refine (CI.out _ _ _ hX.in_ hY0.nums (HL.out.to x6)).mono ?_
  rintro e w7 ⟨A1, c1, rfl, o, hb⟩
  have x7 := bl_trans x6 hb
  have hwO : w0.heap.size ≤ w6.heap.size := hz2
  replace ka := ka.to hb
  replace kb := kb.to hb
  replace hX := hX.to hb
  replace p := p.keepB (hb.mono hz2)
  replace hz2 : w0.heap.size ≤ w7.heap.size := Nat.le_trans hz2 hb.size
  replace bC := bC.trans (hb.mono (by have := bC.size; rw [HX0.out] at this; exact this))
  replace hY0 := hY0.to hb
  clear hb x6 u0
  generalize w6.heap.size = O at *
  go_wp2_with fail
  refine (CE.out _ _ _ _ _ o.ints (p.mono hz2)).mono ?_
  rintro e w8 ⟨rfl, hb⟩
  have x8 := bl_trans x7 hb
  replace ka := ka.to hb
  replace kb := kb.to hb
  replace hX := hX.to hb
  replace p := p.keepB (hb.mono hz2)
  replace hz2 : w0.heap.size ≤ w8.heap.size := Nat.le_trans hz2 hb.size
  replace bC := bC.trans (hb.mono (by have := bC.size; rw [HX0.out] at this; exact this))
  replace hY0 := hY0.to hb
  replace o := o.to hb
  clear hb x7
  have s0 := ka.cell 0 (v := .slice A n c) rfl
  have u0 := kb.cell 0 (v := .slice (some ⟨gx, 0, none⟩) n n) rfl
  have la := ka.lt
  have lb := kb.lt
  go_wp2_with fail
  refine wp_region_treeB (.takes [0, 1] (.alone 2 (.alone 3 (.takes [4] .done)))) (by kernel_rfl) (by kernel_rfl) (by kernel_rfl) (fun _ d _ _ _ h => by cases d <;> exact h) (fun hS0 => ?_)
  refine tplan_w (v := ?_) rfl (by rfl) ?_ ?_
  rotate_left
  · intro wx hSx
    obtain ⟨hcx, hfx, hzx⟩ := bcell hSx
    go_simp
    try (with_reducible rfl)
  try simp only [Act.put, List.setIfInBounds_toArray, List.set_cons_zero, List.set_cons_succ]
  refine tplan_w (v := ?_) rfl (by rfl) ?_ ?_
  rotate_left
  · intro wx hSx
    obtain ⟨hcx, hfx, hzx⟩ := bcell hSx
    go_simp
    try (with_reducible rfl)
  try simp only [Act.put, List.setIfInBounds_toArray, List.set_cons_zero, List.set_cons_succ]
  refine tplan_b rfl (fun K hK => ?_)
  go_simp
  refine (CT.out _ (bl_step x8 hS0 x8.size)).mono ?_
  rintro e wa ⟨m1, rfl, hP, _, hb9⟩
  have hS1 := belowS hS0 hb9
  refine hK _ _ ⟨hS1, ?_⟩
  clear hK K
  try simp only [Act.put, List.setIfInBounds_toArray, List.set_cons_zero, List.set_cons_succ]
  refine tplan_b rfl (fun K hK => ?_)
  go_simp
  refine ((eqBundle_in _ _ _ _ _ M _ ((hX.to hS0).to hb9).in_ hP.in_)).mono ?_
  rintro e w2 ⟨rfl, hb2⟩
  have hS2 := belowS hS1 hb2
  refine hK _ _ ⟨hS2, ?_⟩
  clear hK K
  try simp only [Act.put, List.setIfInBounds_toArray, List.set_cons_zero, List.set_cons_succ]
  refine tplan_w (v := ?_) rfl (by rfl) ?_ ?_
  rotate_left
  · intro wx hSx
    obtain ⟨hcx, hfx, hzx⟩ := bcell hSx
    go_simp
    try (with_reducible rfl)
  try simp only [Act.put, List.setIfInBounds_toArray, List.set_cons_zero, List.set_cons_succ]
  refine tplan_endQ ?_
  have x9 := bl_step x8 hS2 x8.size
  have hb := hS2
  clear hP hb9 hS0 hS1 hS2 s0 u0 la lb
  replace ka := ka.to hb
  replace kb := kb.to hb
  replace hX := hX.to hb
  replace p := p.keepB (hb.mono hz2)
  replace hz2 : w0.heap.size ≤ w2.heap.size := Nat.le_trans hz2 hb.size
  replace bC := bC.trans (hb.mono (by have := bC.size; rw [HX0.out] at this; exact this))
  replace hY0 := hY0.to hb
  replace o := o.to hb
  clear hb x8
  go_wp2_with fail
  refine (CN0.out _ x9).mono ?_
  rintro e w10 ⟨gq, rfl, hQ, hb, _⟩
  have x10 := bl_trans x9 hb
  replace ka := ka.to hb
  replace kb := kb.to hb
  replace hX := hX.to hb
  replace p := p.keepB (hb.mono hz2)
  replace hz2 : w0.heap.size ≤ w10.heap.size := Nat.le_trans hz2 hb.size
  replace bC := bC.trans (hb.mono (by have := bC.size; rw [HX0.out] at this; exact this))
  replace hY0 := hY0.to hb
  replace o := o.to hb
  clear hb x9
  go_wp2_with fail
  refine (CP0.out _ _ _ hY0.nums hQ.nums).mono ?_
  rintro e w11 ⟨rfl, hb⟩
  have x11 := bl_trans x10 hb
  replace ka := ka.to hb
  replace kb := kb.to hb
  replace hX := hX.to hb
  replace p := p.keepB (hb.mono hz2)
  replace hz2 : w0.heap.size ≤ w11.heap.size := Nat.le_trans hz2 hb.size
  replace bC := bC.trans (hb.mono (by have := bC.size; rw [HX0.out] at this; exact this))
  replace hY0 := hY0.to hb
  replace o := o.to hb
  clear hb x10
  clear hQ
  have u0 := kb.cell 0 (v := .slice (some ⟨gx, 0, none⟩) n n) rfl
  go_wp2_with fail
  refine (markBundle_in gx n n M w5 _ HXc.out (by rw [HX0.out]; exact bC)).mono ?_
  rintro e w12 ⟨⟨rr, rfl, hrr⟩, hM⟩
  rw [HX0.out] at hM
  have hrr0 : (0 : Int) ≤ (rr : Int) := by omega
  have hrrI : (rr : Int) ≤ 2000000000000 := by omega
  have x12 := hM.below x11 (by omega) (Nat.le_refl _)
  replace ka := hM.blk ka (.inl (by omega))
  replace p := hM.ints p (by omega) hz2
  replace o := hM.own4 o hXO
  replace hz2 : w0.heap.size ≤ w12.heap.size := Nat.le_trans hz2 hM.size
  replace hY0 := hM.nblk hY0 (.inr hzX0)
  clear hM hX kb u0 bC x11 hrr
  go_wp2_with fail
  refine (markInts_any z0 p0.length p0.length ((rr : Int)) _ hY0.pl m0 (by omega) (by omega)).mono ?_
  rintro e w13 ⟨rfl, hO⟩
  have x13 := hO.below x12 (by omega) x12.size
  replace ka := hO.blk ka (by omega)
  replace p := hO.ints p hzw0 hz2
  replace o := hO.own4 o hzO0
  replace hz2 : w0.heap.size ≤ w13.heap.size := Nat.le_trans hz2 hO.size
  clear hO hY0 x12
  have hqn : decide ((rr : Int) + (p0.length : Int) < 0) = false := decide_eq_false (by omega)
  have hqn2 : ¬ ((rr : Int) + (p0.length : Int) < 0) := by omega
  go_wp2_with fail
  refine (CE.out _ _ _ _ _ o.ints (p.mono hz2)).mono ?_
  rintro e w14 ⟨rfl, hb⟩
  have x14 := bl_trans x13 hb
  replace ka := ka.to hb
  replace p := p.keepB (hb.mono hz2)
  replace hz2 : w0.heap.size ≤ w14.heap.size := Nat.le_trans hz2 hb.size
  replace o := o.to hb
  clear hb x13
  go_wp2_with fail
  refine (markI_opt A1 L _ O _ o hLl).mono ?_
  rintro e w15 ⟨rfl, m, hO, hnw⟩
  have hAO : ∀ g, A1 = some ⟨g, 0, none⟩ → 0 < L.length → O ≤ g := fun g e h0 => by obtain ⟨g', e', hg', _⟩ := o h0; rw [e'] at e; injection e with e; injection e with e; omega
  have hpk : IntsAt w15 w0.heap.size A0 L := by
    rcases hnw with h0 | rfl
    · intro h1
      obtain ⟨b, off, e, hlt, hc⟩ := p h1
      have hk : w15.heap[b]? = w14.heap[b]? := hO.2.2.2.2 b (fun e => by have := hAO b e h0; omega)
      exact ⟨b, off, e, hlt, fun i hi => (World.cell?_of_block (a := ⟨b, _, none⟩) hk).trans (hc i hi)⟩
    · exact p
  have x15 : Below w.heap.size w w15 := by
    rcases hnw with h0 | rfl
    · exact hO.below x14 (fun g e => by have := hAO g e h0; omega)
    · exact x14
  have hka : Blk w15 w.heap.size #[.slice A n c] 24 := by
    rcases hnw with h0 | rfl
    · exact ka.keep (hO.2.2.2.2 _ (fun e => by have := hAO _ e h0; omega))
    · exact ka
  replace hz2 : w0.heap.size ≤ w15.heap.size := by rw [hO.2.2.2.1]; exact hz2
  clear p o ka hO hnw hAO x14
  go_wp2_with fail
  refine (heldI_opt A1 L.length _ O _ m hLl).mono ?_
  rintro e w16 ⟨rfl, rfl⟩
  have ka := hka
  have p := hpk
  clear hka hpk
  have s0 := ka.cell 0 (v := .slice A n c) rfl
  go_wp2_with fail
  refine (CT.out _ x15).mono ?_
  rintro e w16 ⟨g3, rfl, hB, _, hb⟩
  have x16 := bl_trans x15 hb
  replace ka := ka.to hb
  replace p := p.keepB (hb.mono hz2)
  replace hz2 : w0.heap.size ≤ w16.heap.size := Nat.le_trans hz2 hb.size
  replace m := m.to hb
  clear hb x15
  clear s0
  go_wp2_with fail
  refine (CN0.out _ x16).mono ?_
  rintro e w17 ⟨g40, rfl, hN0, hb, _⟩
  have x17 := bl_trans x16 hb
  replace ka := ka.to hb
  replace p := p.keepB (hb.mono hz2)
  replace hz2 : w0.heap.size ≤ w17.heap.size := Nat.le_trans hz2 hb.size
  replace m := m.to hb
  replace hB := hB.to hb
  clear hb x16
  go_wp2_with fail
  refine (CI.out _ _ _ hB.in_ hN0.nums (HL.out.to x17)).mono ?_
  rintro e w18 ⟨A2, c2, rfl, o2, hb⟩
  have x18 := bl_trans x17 hb
  replace p := p.keepB (hb.mono hz2)
  replace hz2 : w0.heap.size ≤ w18.heap.size := Nat.le_trans hz2 hb.size
  replace m := m.to hb
  clear hb hB x17 hN0
  go_wp2_with fail
  refine (CE.out _ _ _ _ _ o2.ints (p.mono hz2)).mono ?_
  rintro e w19 ⟨rfl, hb⟩
  have x19 := bl_trans x18 hb
  replace m := m.to hb
  clear hb x18
  go_wp2_with fail
  refine (heldI_opt A1 L.length _ O _ m hLl).mono ?_
  rintro e w20 ⟨rfl, rfl⟩
  go_wp2
  go_ret
  exact ⟨rfl, x19⟩
end Go.Proofs.YtifenbamookmiaaDoor.fnExactSettleOrder
namespace Go.Proofs.YtifenbamookmiaaDoor.fnExactSettleOrder
set_option linter.unusedSimpArgs false
set_option linter.unusedVariables false
open Go.ChangeShapes Go.WideShapes Go.ChangeAt Go.RowKit
open Go.ChangeMaps (open_string)

set_option maxRecDepth 100000 in
theorem lifted (os : Os) (started : os.Started) (H : Type) (enc : TypeId × Value → H) :
    ReturnsInHanded {} Tryd.checked os 6 .any (fun w args => (Rows.fnExactSettleOrderSpec.pre enc Tryd.prog Tryd.f6 [] false w args ∧ laidMetH Tryd.prog laid1 w) ∧ sizedMet enc Tryd.prog Tryd.f6 (OpenSpec.ofChange Rows.fnExactSettleOrderSpec) false w args)
      (Rows.fnExactSettleOrderSpec.post enc Tryd.prog Tryd.f6 false true false false) := by
  refine returnsInHanded_of_change_and (C := Tryd.checked) (X := fun w _ => laidMetH Tryd.prog laid1 w) (fun _ _ _ hh h => h.of_heap hh) own started (by kernel_rfl) Tryd.func6
    (ChangeSpec.witness_shaped (enc := enc) (C := Tryd.checked) (os := os) (X := fun w _ => laidMetH Tryd.prog laid1 w) false (World.doorLaid Tryd.prog 4000 os) #[.agg #[.slice none 0 0], .slice none 0 0] 8 rfl (World.shaped_of_RefB (by kernel_rfl) (by kernel_rfl)) (by kernel_rfl) (by kernel_rfl) (by kernel_rfl) (door_met1 os _)) ?_
  intro W base args ds gs before hval0 hW _ _ hL _
  have hval : ∀ (j : Nat) t v, Tryd.f6.params[j]? = some t → args[j]? = some v → Value.okWide Tryd.prog W .any base t v := hval0
  have hW' := hW
  obtain ⟨p, q, hA0, hV, rfl, hfz, hnd⟩ := hW
  have hA : DataW.TrodAll enc Tryd.prog W 0 (fun _ => true) true Tryd.f6.params.toList args.toList ds p := hA0
  rw [Tryd.params6] at hA hval
  obtain ⟨v0, vs0, d0, ds0, p0, q0, hargs, rfl, rfl, h0, r0⟩ := trodAll_cons hA
  obtain ⟨v1, vs1, d1, ds1, p1, q1, rfl, rfl, rfl, h1, r1⟩ := trodAll_cons r0
  obtain ⟨rfl, rfl, rfl⟩ := trodAll_nil r1
  obtain rfl : args = #[v0, v1] := by cases args; simp_all
  obtain ⟨rfl, rfl⟩ := trodVars_none hV
  have k0 := h0
  have lt0 : ∀ x ∈ p0, x.block < W.heap.size := by obtain ⟨m, hm⟩ := k0; exact DataW.trod_lt m _ _ _ hm
  have k1 := h1
  have lt1 : ∀ x ∈ p1, x.block < W.heap.size := by obtain ⟨m, hm⟩ := k1; exact DataW.trod_lt m _ _ _ hm
  obtain ⟨A0, l0, c0, rfl, w0⟩ := open_bundle (hval 0 24 v0 rfl rfl) h0
  obtain ⟨A1, l1, c1, rfl, w1⟩ := open_nums (hval 1 25 v1 rfl rfl) h1
  clear hA0 hval0
  refine (walk A0 l0 c0 A1 l1 c1 W w0 w1 (of_laid1 hL)).mono fun e W' ⟨he, bel⟩ => ?_
  subst he
  exact ⟨_, rfl, _, _, _, [], _, [], hW', trodAll_mk1 (shut_bool Tryd.underlying4 _), (trodAll_cons_mk (Below.trod laidOut (by kernel_rfl) (of_decide_eq_true (by kernel_rfl)) k0 bel lt0) (trodAll_cons_mk (Below.trod laidOut (by kernel_rfl) (of_decide_eq_true (by kernel_rfl)) k1 bel lt1) trodAll_mk0)), rfl, bel.frame _, fun h => by cases h⟩

theorem row_holds : Rows.FnExactSettleOrderSaid :=
  OpenClaim.holds_of_wide 6 Tryd.f6 rfl rfl rfl rfl rfl rfl rfl ⟨rfl, rfl, rfl, rfl, rfl⟩ rfl rfl rfl rfl rfl (by kernel_rfl) Tryd.func6 (by kernel_rfl)
    (of_decide_eq_true (by kernel_rfl)) (by unfold Func.isWrapper; first | (rw [if_pos (by decide +kernel)]; kernel_rfl) | (rw [if_neg (by decide +kernel)]; exact ⟨rfl, rfl⟩))
    (fun os started H enc _ => lifted os started H enc)

/-- The tied card. -/
theorem proved : Rows.FnExactSettleOrderCardSaid :=
  Claim7.holds_tied_plain_at .later [] [.data] true Rows.fnExactSettleOrderCard.stood.harness Rows.fnExactSettleOrderCard.stood.looks
    row_holds (fun _ h => by cases h) (by kernel_rfl) (fun _ h => by cases h) fnExactSettleOrder_row_tie rfl ⟨rfl, rfl⟩ (by kernel_rfl) rfl
    (fun f fn hf hfn => by
      obtain rfl : f = 6 := Option.some.inj ((show Tryd.prog.funcNamed "loop.example/g01149/laws.FnExactSettleOrder" = some 6 by kernel_rfl).symm.trans hf) |>.symm
      obtain rfl : fn = Tryd.f6 := (Option.some.inj (Tryd.func6.symm.trans hfn)).symm
      exact ⟨by kernel_rfl, fun j t ht => by
        rw [Tryd.params6] at ht
        have hm : t ∈ [24, 25] := by simpa using Array.mem_of_getElem? ht
        have hall : ([24, 25].all fun u => !Tryd.prog.wantsStandIn u) = true := by kernel_rfl
        exact (show Tryd.prog.wantsStandIn t = false by simpa using List.all_eq_true.1 hall t hm)⟩)
    (by kernel_rfl)
#print axioms proved
end Go.Proofs.YtifenbamookmiaaDoor.fnExactSettleOrder
