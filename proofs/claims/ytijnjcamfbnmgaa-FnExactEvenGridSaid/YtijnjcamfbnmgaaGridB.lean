/-
  Contracts: a grid in which all numbers are 0, as the program makes it.
-/
import Derived.Test.YtijnjcamfbnmgaaNumG
import Derived.Test.YtijnjcamfbnmgaaZBlk
import Derived.Test.YtijnjcamfbnmgaaIS
namespace Go.Proofs.Ytijnjcamfbnmgaa
set_option linter.unusedSimpArgs false
set_option linter.unusedVariables false
open Go.ChangeShapes Go.WideShapes Go.ChangeAt Go.RowKit

/-- Rows of n equal numbers, in blocks one after another behind g. -/
def rowsL (g n : Nat) (v : Int) (k : Nat) : List SlI := (List.range k).map fun y => (some ⟨g + 1 + y, 0, none⟩, List.replicate n v, n)
theorem rowsL_len (g n : Nat) (v : Int) (k : Nat) : (rowsL g n v k).length = k := by simp [rowsL]
theorem rowsL_at {g n : Nat} {v : Int} {k y : Nat} (h : y < k) : (rowsL g n v k).getD y si0 = (some ⟨g + 1 + y, 0, none⟩, List.replicate n v, n) := by
  simp [rowsL, List.getD_eq_getElem?_getD, h]
theorem rowsL_succ (g n : Nat) (v : Int) (k : Nat) : rowsL g n v (k + 1) = rowsL g n v k ++ [(some ⟨g + 1 + k, 0, none⟩, List.replicate n v, n)] := by
  simp [rowsL, List.range_succ]
theorem ZBlk.congr {w : World} {g n : Nat} {f f' : Nat → Int} (h : ZBlk w g n f) (e : ∀ i, i < n → f i = f' i) : ZBlk w g n f' := by
  obtain ⟨cs, h0, h1, h2⟩ := h
  exact ⟨cs, h0, h1, fun i hi => by rw [h2 i hi, e i hi]⟩
/-- Rows of n numbers each, in blocks one after another behind g. -/
structure GrB (W : World) (g cnt n : Nat) (f : Nat → Nat → Int) : Prop where
  outc : ∀ y, y < cnt → W.cell? ⟨g, y, none⟩ = some (.slice (some ⟨g + 1 + y, 0, none⟩) n n)
  lt : g < W.heap.size
  rows : ∀ y, y < cnt → ZBlk W (g + 1 + y) n (f y)
theorem GrB.to {W W1 : World} {g cnt n : Nat} {f : Nat → Nat → Int} (h : GrB W g cnt n f) (hb : Below W.heap.size W W1) : GrB W1 g cnt n f :=
  ⟨fun y hy => (hb.cell (p := ⟨g, y, none⟩) h.lt).trans (h.outc y hy), Nat.lt_of_lt_of_le h.lt hb.size, fun y hy => (h.rows y hy).to hb⟩
theorem GrB.far {W : World} {g cnt n : Nat} {f : Nat → Nat → Int} (h : GrB W g cnt n f) {p : Addr} (hp : p.block < g) (v : Value) : GrB (W.setCell p v) g cnt n f :=
  ⟨fun y hy => (World.cell?_of_block (a := ⟨g, y, none⟩) (Below.heap_setCell _ _ _ _ (by dsimp only; omega))).trans (h.outc y hy), by simpa [World.setCell] using h.lt, fun y hy => (h.rows y hy).keep (Below.heap_setCell _ _ _ _ (by omega))⟩
set_option maxHeartbeats 1600000 in
theorem blankLists_any (cnt n : Nat) (cI nI : Int) (w : World) (hc : cnt ≤ 8) (hn : n ≤ 8) (ec : cI = (cnt : Int)) (en : nI = (n : Int)) :
    Calls Try.prog 115 #[.int .i64 cI, .int .i64 nI] w fun e w' => e = .returned (.slice (some ⟨w.heap.size, 0, none⟩) cnt cnt) ∧ GrB w' w.heap.size cnt n (fun _ _ => 0) ∧ w'.heap.size = w.heap.size + 1 + cnt ∧ Below w.heap.size w w' := by
  subst ec en
  have hcI : (cnt : Int) ≤ 8 := by omega
  have hnI : (n : Int) ≤ 8 := by omega
  have hmk := run_mkzs n (by omega)
  have hmo := run_mkis cnt (by omega)
  have hb0 : Below w.heap.size w (w.alloc (.cells (blankZI cnt) 38)) := (Below.refl _ _).alloc (Nat.le_refl _) _
  have hz0 : ZI (w.alloc (.cells (blankZI cnt) 38)) w.heap.size cnt (rowsL w.heap.size n 0 0) := ⟨blankZI cnt, heap_alloc_new w _, by simp [blankZI, size_madeCells], fun i hi => by simp [rowsL] at hi⟩
  have hs0 : Hid ((w.alloc (.cells (blankZI cnt) 38)).heap.size = w.heap.size + 1 + 0) := by show _ = _; simp
  go_enter Try.func115, Try.ntmps115
  go_wp2
  generalize (w.alloc (.cells (blankZI cnt) 38)) = w0 at *
  obtain ⟨g, hg⟩ : ∃ g, w.heap.size = g := ⟨_, rfl⟩
  rw [hg] at hz0 hs0 hb0 ⊢
  have HG := Lib.hid hg
  clear hg
  go_loopw [6, 11] (fun _ i wr => ∃ k : Nat, k ≤ cnt ∧ i = .int .i64 k ∧ Hid (wr.heap.size = g + 1 + k) ∧ ZI wr g cnt (rowsL g n 0 k) ∧ Below g w wr ∧ Hid (∀ y, y < k → ZBlk wr (g + 1 + y) n (fun _ => 0))) (fun _ i _ => cnt - (intOf i).toNat)
  case atStart => exact ⟨0, Nat.zero_le _, rfl, hs0, hz0, hb0, fun y hy => by omega⟩
  case round =>
    clear hz0 hs0 hb0
    obtain ⟨k, hk, rfl, HS, hZ, hb, HR⟩ := hrel
    by_cases hlt : k < cnt
    · have hkI : (k : Int) < (cnt : Int) := by omega
      have hk0 : (0 : Int) ≤ (k : Int) := by omega
      have lz := hZ.lt
      have hZA := hZ.put (some ⟨g + 1 + k, 0, none⟩, List.replicate n 0, n) (by rw [rowsL_len]; exact hlt)
      rw [rowsL_len, ← rowsL_succ] at hZA
      simp only [List.length_replicate] at hZA
      have hbx : Below (wr.setCell ⟨g, k, none⟩ (.slice (some ⟨g + 1 + k, 0, none⟩) n n)).heap.size (wr.setCell ⟨g, k, none⟩ (.slice (some ⟨g + 1 + k, 0, none⟩) n n)) ((wr.setCell ⟨g, k, none⟩ (.slice (some ⟨g + 1 + k, 0, none⟩) n n)).alloc (.cells (blankZ n) 2)) := (Below.refl _ _).alloc (Nat.le_refl _) _
      have hZn := hZA.to hbx
      have hsz : (wr.setCell ⟨g, k, none⟩ (.slice (some ⟨g + 1 + k, 0, none⟩) n n)).heap.size = wr.heap.size := by simp [World.setCell]
      have hbn : Below g w ((wr.setCell ⟨g, k, none⟩ (.slice (some ⟨g + 1 + k, 0, none⟩) n n)).alloc (.cells (blankZ n) 2)) := (hb.setCell (p := ⟨g, k, none⟩) (Nat.le_refl _) _).alloc (by rw [hsz]; omega) _
      have HSn : Hid (((wr.setCell ⟨g, k, none⟩ (.slice (some ⟨g + 1 + k, 0, none⟩) n n)).alloc (.cells (blankZ n) 2)).heap.size = g + 1 + (k + 1)) := by
        show _ = _
        have := HS.out
        rw [World.size_alloc, hsz]
        omega
      have HRn : Hid (∀ y, y < k + 1 → ZBlk ((wr.setCell ⟨g, k, none⟩ (.slice (some ⟨g + 1 + k, 0, none⟩) n n)).alloc (.cells (blankZ n) 2)) (g + 1 + y) n (fun _ => 0)) := fun y hy => by
        by_cases e : y = k
        · subst e
          have := ZBlk.new (wr.setCell ⟨g, y, none⟩ (.slice (some ⟨g + 1 + y, 0, none⟩) n n)) n
          rw [hsz, HS.out] at this
          exact this
        · exact ((HR.out y (by omega)).keep (Below.heap_setCell _ _ _ _ (by dsimp only; omega))).to hbx
      have fz := hZ.frozen k
      obtain ⟨v0, tz⟩ := hZ.there hlt
      have HSZ : Hid ((wr.setCell ⟨g, k, none⟩ (.slice (some ⟨wr.heap.size, 0, none⟩) n n)) = (wr.setCell ⟨g, k, none⟩ (.slice (some ⟨g + 1 + k, 0, none⟩) n n))) := by show _ = _; rw [HS.out]
      clear hZ hZA hb HS HR hsz hbx
      go_wp2
      rw [HSZ.out]
      clear HSZ
      generalize ((wr.setCell ⟨g, k, none⟩ (.slice (some ⟨g + 1 + k, 0, none⟩) n n)).alloc (.cells (blankZ n) 2)) = w5 at *
      try go_wp2
      go_roundw
      case rel => exact ⟨k + 1, by omega, by go_num, HSn, hZn, hbn, HRn⟩
      case measure => simp [intOf]; omega
    · obtain rfl : k = cnt := by omega
      have hGB : GrB wr g k n (fun _ _ => 0) := ⟨fun y hy => by
        have hl := hZ.lt
        obtain ⟨cs, h0, h1, h2⟩ := hZ
        have := h2 y (by rw [rowsL_len]; exact hy)
        rw [rowsL_at hy] at this
        simp only [List.length_replicate] at this
        rw [cell_of_row wr g y cs _ _ h0]
        exact this, hZ.lt, HR.out⟩
      have HSS := HS.out
      have HGB := Lib.hid hGB
      have HSZ := Lib.hid HSS
      clear hZ HR hGB HS HSS
      go_wp2
      go_ret
      exact ⟨by rw [HG.out]; rfl, by rw [HG.out]; exact HGB.out, by rw [HG.out]; exact HSZ.out, by rw [HG.out]; exact hb⟩
set_option maxHeartbeats 1600000 in
theorem blankGrid_any (m h : Nat) (w : World) (hm : m ≤ 7) (h1 : 1 ≤ h) (hh : h ≤ 8) :
    Calls Try.prog 81 #[.int .i64 ((m : Int) + 1), .int .i64 (h : Int)] w fun e w' => ∃ g, e = .returned (.agg #[.slice (some ⟨g, 0, none⟩) h h, .slice (some ⟨g + 1 + h, 0, none⟩) (h - 1) (h - 1)]) ∧ w.heap.size ≤ g ∧ GrB w' g h m (fun _ _ => 0) ∧ GrB w' (g + 1 + h) (h - 1) (m + 1) (fun _ _ => 0) ∧ Below w.heap.size w w' := by
  have hmI : (m : Int) ≤ 7 := by omega
  have h1I : (1 : Int) ≤ (h : Int) := by omega
  have hhI : (h : Int) ≤ 8 := by omega
  have hx : Below w.heap.size w (w.alloc (.cells #[.slice none 0 0, .slice none 0 0] 53)) := by (repeat (first | assumption | exact Below.refl _ _ | (refine bl_alloc ?_ _) | (refine Below.drew ?_) | (refine bl_drewN ?_ _) | (refine bl_set ?_ (by first | (simp; done) | omega | (simp; omega)) _) | (refine bl_trans ?_ (by assumption)) | (refine bl_step ?_ (by assumption) (by first | omega | exact Below.size (by assumption) | (simp; omega) | (simp; exact Below.size (by assumption))))))
  have kr := Blk.new w #[.slice none 0 0, .slice none 0 0] 53
  have hr := kr.lt
  have C1 := Lib.hid (fun wx => blankLists_any h m (h : Int) (m : Int) wx (by omega) (by omega) rfl rfl)
  have C2 := Lib.hid (fun wx => blankLists_any (h - 1) (m + 1) ((h : Int) - 1) ((m : Int) + 1) wx (by omega) (by omega) (by omega) (by omega))
  go_enter Try.func81, Try.ntmps81
  go_wp2_with fail
  generalize (w.alloc (.cells #[.slice none 0 0, .slice none 0 0] 53)) = w0 at *
  refine (C1.out _).mono ?_
  rintro e w1 ⟨rfl, hG1, hs1, hb1⟩
  have hx1 := bl_step hx hb1 hx.size
  replace kr := kr.to hb1
  have hg0 := hx.size
  have hr0 : w.heap.size < w0.heap.size := hr
  have hlt1 := hG1.lt
  generalize w0.heap.size = g at *
  have HS1 := Lib.hid hs1
  clear hs1 hb1
  go_wp2_with fail
  refine (C2.out _).mono ?_
  rintro e w2 ⟨rfl, hG2, _, hb2⟩
  have hx2 := bl_step hx1 hb2 hx1.size
  replace kr := kr.to hb2
  have hG1' := hG1.to hb2
  rw [HS1.out] at hG2 ⊢
  have t0 := kr.cell 0 rfl
  have t1 := kr.cell 1 rfl
  have q0 := kr.frozen 0
  have q1 := kr.frozen 1
  have ke := (kr.set 0 (.slice (some ⟨g, 0, none⟩) h h)).set 1 (.slice (some ⟨g + 1 + h, 0, none⟩) (h - 1) (h - 1))
  have hbE : Below w.heap.size w ((w2.setCell ⟨w.heap.size, 0, none⟩ (.slice (some ⟨g, 0, none⟩) h h)).setCell ⟨w.heap.size, 1, none⟩ (.slice (some ⟨g + 1 + h, 0, none⟩) (h - 1) (h - 1))) := (hx2.setCell (p := ⟨w.heap.size, 0, none⟩) (Nat.le_refl _) _).setCell (p := ⟨w.heap.size, 1, none⟩) (Nat.le_refl _) _
  go_wp2
  have hA := (hG1'.far (p := ⟨w.heap.size, 0, none⟩) hr0 (.slice (some ⟨g, 0, none⟩) h h)).far (p := ⟨w.heap.size, 1, none⟩) hr0 (.slice (some ⟨g + 1 + h, 0, none⟩) (h - 1) (h - 1))
  have hB := (hG2.far (p := ⟨w.heap.size, 0, none⟩) (by dsimp only; omega) (.slice (some ⟨g, 0, none⟩) h h)).far (p := ⟨w.heap.size, 1, none⟩) (by dsimp only; omega) (.slice (some ⟨g + 1 + h, 0, none⟩) (h - 1) (h - 1))
  generalize ((w2.setCell ⟨w.heap.size, 0, none⟩ (.slice (some ⟨g, 0, none⟩) h h)).setCell ⟨w.heap.size, 1, none⟩ (.slice (some ⟨g + 1 + h, 0, none⟩) (h - 1) (h - 1))) = wE at *
  have e0 := ke.cell 0 (v := .slice (some ⟨g, 0, none⟩) h h) (by simp)
  have e1 := ke.cell 1 (v := .slice (some ⟨g + 1 + h, 0, none⟩) (h - 1) (h - 1)) (by simp)
  refine bodyPost_ret_by (v := .agg #[.slice (some ⟨g, 0, none⟩) h h, .slice (some ⟨g + 1 + h, 0, none⟩) (h - 1) (h - 1)]) ?_ rfl ⟨g, rfl, by omega, hA, hB, hbE⟩
  simp [results, Try.results81, go_sem, e0, e1]
end Go.Proofs.Ytijnjcamfbnmgaa
