/-
  Contracts: the rules of a press of the law's own, and numbers of its own, marked (what lies elsewhere is as it was).
-/
import Derived.Test.YtgpcfkegbcpkpaaPresL
import Derived.Test.YtgpcfkegbcpkpaaMarkI
namespace Go.Proofs.Ytgpcfkegbcpkpaa
set_option linter.unusedSimpArgs false
set_option linter.unusedVariables false
open Go.ChangeShapes Go.WideShapes Go.ChangeAt Go.RowKit

/-- All that stood but block g is as it was. -/
structure ButG (g : Nat) (w w' : World) : Prop where
  os : w'.os = w.os
  tape : w'.tape = w.tape
  output : w'.output = w.output
  size : w.heap.size ≤ w'.heap.size
  block : ∀ i, i < w.heap.size → i ≠ g → w'.heap[i]? = w.heap[i]?
theorem ButG.refl (g : Nat) (w : World) : ButG g w w := ⟨rfl, rfl, rfl, Nat.le_refl _, fun _ _ _ => rfl⟩
theorem ButG.trans {g : Nat} {a b c : World} (h : ButG g a b) (k : ButG g b c) : ButG g a c :=
  ⟨k.os.trans h.os, k.tape.trans h.tape, k.output.trans h.output, Nat.le_trans h.size k.size, fun i hi hne => (k.block i (Nat.lt_of_lt_of_le hi h.size) hne).trans (h.block i hi hne)⟩
theorem ButG.of {g : Nat} {w w' : World} (h : Below w.heap.size w w') : ButG g w w' := ⟨h.os, h.tape, h.output, h.size, fun i hi _ => h.block i hi⟩
theorem ButG.set_ {g : Nat} {a b : World} (h : ButG g a b) (o : Nat) (v : Value) : ButG g a (b.setCell ⟨g, o, none⟩ v) :=
  ⟨h.os, h.tape, h.output, by simpa [World.setCell] using h.size, fun i hi hne => (Below.heap_setCell b ⟨g, o, none⟩ v i (by simp; omega)).trans (h.block i hi hne)⟩
theorem ButG.below {g B : Nat} {a w w' : World} (h : ButG g w w') (hb : Below B a w) (hB : B ≤ g) (hB0 : B ≤ w.heap.size) : Below B a w' :=
  ⟨h.os.trans hb.os, h.tape.trans hb.tape, h.output.trans hb.output, Nat.le_trans hb.size h.size, fun k hk => (h.block k (by omega) (by omega)).trans (hb.block k hk)⟩
theorem ButG.ints {g B : Nat} {w w' : World} {A : Option Addr} {L : List Int} (h : ButG g w w') (hp : IntsAt w B A L) (hB : B ≤ g) (hz : B ≤ w.heap.size) : IntsAt w' B A L := fun h0 => by
  obtain ⟨b, off, e, hlt, hc⟩ := hp h0
  have hk : w'.heap[b]? = w.heap[b]? := h.block b (by omega) (by omega)
  exact ⟨b, off, e, hlt, fun i hi => (World.cell?_of_block (a := ⟨b, _, none⟩) hk).trans (hc i hi)⟩
theorem ButG.own4 {g B : Nat} {w w' : World} {A : Option Addr} {L : List Int} (h : ButG g w w') (hp : Own4 w B A L) (hB : g < B) : Own4 w' B A L := fun h0 => by
  obtain ⟨g', e, hg, hI⟩ := hp h0
  exact ⟨g', e, hg, hI.keep (h.block g' hI.lt (by omega))⟩
theorem ButG.blk {g b : Nat} {w w' : World} {cs : Array Value} {t : TypeId} (h : ButG g w w') (hp : Blk w b cs t) (hne : b ≠ g) : Blk w' b cs t := hp.keep (h.block b hp.lt hne)
theorem ButG.nblk {g b k : Nat} {w w' : World} {L : List Int} (h : ButG g w w') (hp : NBlk w b L k) (hne : b ≠ g) : NBlk w' b L k := hp.keep (h.block b hp.lt hne)

/-- Block g has n places at least. -/
def PlG (w : World) (g n : Nat) (t : TypeId) : Prop := ∃ cs, w.heap[g]? = some (.cells cs t (0, 0)) ∧ n ≤ cs.size
theorem PlG.frozen {w : World} {g n : Nat} {t : TypeId} (h : PlG w g n t) (i : Nat) : w.frozen? ⟨g, i, none⟩ = false := by
  obtain ⟨cs, h0, _⟩ := h
  simp [World.frozen?, h0]
theorem PlG.there {w : World} {g n : Nat} {t : TypeId} (h : PlG w g n t) {i : Nat} (hi : i < n) : ∃ v, w.cell? ⟨g, i, none⟩ = some v := by
  obtain ⟨cs, h0, h1⟩ := h
  rw [cell_of_row w g _ cs _ _ h0]
  exact ⟨cs[i]'(by omega), by simp [show i < cs.size by omega]⟩
theorem PlG.set_ {w : World} {g n : Nat} {t : TypeId} (h : PlG w g n t) (o : Nat) (v : Value) : PlG (w.setCell ⟨g, o, none⟩ v) g n t := by
  obtain ⟨cs, h0, h1⟩ := h
  exact ⟨cs.setIfInBounds o v, by simp [World.setCell, Array.getElem?_modify, h0], by simpa using h1⟩
theorem PlG.keep {w w' : World} {g n : Nat} {t : TypeId} (h : PlG w g n t) (hk : w'.heap[g]? = w.heap[g]?) : PlG w' g n t := by
  obtain ⟨cs, h0, h1⟩ := h
  exact ⟨cs, hk.trans h0, h1⟩
theorem PlG.lt {w : World} {g n : Nat} {t : TypeId} (h : PlG w g n t) : g < w.heap.size := by
  obtain ⟨cs, h0, _⟩ := h
  rcases Nat.lt_or_ge g w.heap.size with hlt | hge
  · exact hlt
  · rw [Array.getElem?_eq_none hge] at h0; cases h0
theorem RulBlk.pl {w : World} {g k : Nat} {rs : List R3} (h : RulBlk w g rs k) : PlG w g (rs.length * 3) 60 := by
  obtain ⟨cs, h0, h1, _⟩ := h
  exact ⟨cs, h0, h1⟩
theorem NBlk.pl {w : World} {g k : Nat} {ns : List Int} (h : NBlk w g ns k) : PlG w g ns.length 2 := by
  obtain ⟨cs, h0, h1, _⟩ := h
  exact ⟨cs, h0, Nat.le_of_eq h1.symm⟩
set_option maxRecDepth 100000 in
set_option maxHeartbeats 1600000 in
theorem markRules_any (g n c : Nat) (q : Int) (w : World) (h : PlG w g (n * 3) 60) (hn : n ≤ 1048576) (hq0 : 0 ≤ q) (hq : q ≤ 1000000000000000) :
    Calls Try.prog 71 #[.slice (some ⟨g, 0, none⟩) n c, .int .i64 q] w fun e w' => e = .returned (.int .i64 (q + 3 * (n : Int))) ∧ ButG g w w' := by
  have hnI : (n : Int) ≤ 1048576 := by omega
  go_enter Try.func71, Try.ntmps71
  go_wp2
  go_loopw [1, 5] (fun p i wr => ∃ j : Nat, j ≤ n ∧ i = .int .i64 j ∧ p = .int .i64 (q + 3 * (j : Int)) ∧ PlG wr g (n * 3) 60 ∧ ButG g w wr) (fun _ i _ => n - (intOf i).toNat)
  case atStart => exact ⟨0, Nat.zero_le _, rfl, by simp, h, ButG.refl _ _⟩
  case round =>
    clear h
    obtain ⟨j, hj, rfl, rfl, h, hO⟩ := hrel
    by_cases hlt : j < n
    · have hjI : (j : Int) < (n : Int) := by omega
      have hj0 : (0 : Int) ≤ (j : Int) := by omega
      have f0 := h.frozen (j * 3)
      have f1 := h.frozen (j * 3 + 1)
      have f2 := h.frozen (j * 3 + 2)
      obtain ⟨v0, t0⟩ := h.there (i := j * 3) (by omega)
      obtain ⟨v1, t1⟩ := h.there (i := j * 3 + 1) (by omega)
      obtain ⟨v2, t2⟩ := h.there (i := j * 3 + 2) (by omega)
      have h' := ((h.set_ (j * 3) (.int .i64 (q + 3 * (j : Int)))).set_ (j * 3 + 1) (.int .i64 (q + 3 * (j : Int) + 1))).set_ (j * 3 + 2) (.int .i64 (q + 3 * (j : Int) + 1 + 1))
      have hO' := ((hO.set_ (j * 3) (.int .i64 (q + 3 * (j : Int)))).set_ (j * 3 + 1) (.int .i64 (q + 3 * (j : Int) + 1))).set_ (j * 3 + 2) (.int .i64 (q + 3 * (j : Int) + 1 + 1))
      clear h hO
      go_wp2
      go_roundw
      case rel => exact ⟨j + 1, by omega, by go_num, by congr 1; omega, h', hO'⟩
      case measure => simp [intOf]; omega
    · obtain rfl : j = n := by omega
      go_wp2
      go_ret
      exact ⟨rfl, hO⟩
theorem markPress_any (m : Int) (g n c : Nat) (q : Int) (w : World) (h : PlG w g (n * 3) 60) (hn : n ≤ 1048576) (hq0 : 0 ≤ q) (hq : q ≤ 1000000000000000) :
    Calls Try.prog 30 #[.agg #[.int .i64 m, .slice (some ⟨g, 0, none⟩) n c], .int .i64 q] w fun e w' => e = .returned (.int .i64 (q + 3 * (n : Int))) ∧ ButG g w w' := by
  have hx : Below w.heap.size w (w.alloc (.cells #[.int .i64 m, .slice (some ⟨g, 0, none⟩) n c] 29)) := by (repeat (first | assumption | exact Below.refl _ _ | (refine bl_alloc ?_ _) | (refine Below.drew ?_) | (refine bl_drewN ?_ _) | (refine bl_set ?_ (by first | (simp; done) | omega | (simp; omega)) _) | (refine bl_trans ?_ (by assumption)) | (refine bl_step ?_ (by assumption) (by first | omega | exact Below.size (by assumption) | (simp; omega) | (simp; exact Below.size (by assumption))))))
  have cm := Lib.hid (markRules_any g n c q _ (h.keep (hx.block g h.lt)) hn hq0 hq)
  go_enter Try.func30, Try.ntmps30
  go_wp2_with fail
  refine cm.out.mono ?_
  rintro e w1 ⟨rfl, hO⟩
  go_wp2
  go_ret
  exact ⟨rfl, (ButG.of hx).trans hO⟩
set_option maxRecDepth 100000 in
set_option maxHeartbeats 800000 in
theorem markInts_any (g n c : Nat) (q : Int) (w : World) (h : PlG w g n 2) (hn : n ≤ 1048576) (hq0 : 0 ≤ q) (hq : q ≤ 1000000000000000) :
    Calls Try.prog 31 #[.slice (some ⟨g, 0, none⟩) n c, .int .i64 q] w fun e w' => e = .returned (.int .i64 (q + (n : Int))) ∧ ButG g w w' := by
  have hnI : (n : Int) ≤ 1048576 := by omega
  go_enter Try.func31, Try.ntmps31
  go_wp2
  go_loopw [1, 5] (fun p i wr => ∃ j : Nat, j ≤ n ∧ i = .int .i64 j ∧ p = .int .i64 (q + (j : Int)) ∧ PlG wr g n 2 ∧ ButG g w wr) (fun _ i _ => n - (intOf i).toNat)
  case atStart => exact ⟨0, Nat.zero_le _, rfl, by simp, h, ButG.refl _ _⟩
  case round =>
    clear h
    obtain ⟨j, hj, rfl, rfl, h, hO⟩ := hrel
    by_cases hlt : j < n
    · have hjI : (j : Int) < (n : Int) := by omega
      have hj0 : (0 : Int) ≤ (j : Int) := by omega
      have f0 := h.frozen j
      obtain ⟨v0, t0⟩ := h.there (i := j) hlt
      have h' := h.set_ j (.int .i64 (q + (j : Int)))
      have hO' := hO.set_ j (.int .i64 (q + (j : Int)))
      clear h hO
      go_wp2
      go_roundw
      case rel => exact ⟨j + 1, by omega, by go_num, by congr 1; omega, h', hO'⟩
      case measure => simp [intOf]; omega
    · obtain rfl : j = n := by omega
      go_wp2
      go_ret
      exact ⟨rfl, hO⟩
end Go.Proofs.Ytgpcfkegbcpkpaa
