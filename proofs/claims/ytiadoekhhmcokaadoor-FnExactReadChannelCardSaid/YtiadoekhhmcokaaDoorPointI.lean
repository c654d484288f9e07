/-
  Contract: impl's parsePoint.
-/
import Derived.Test.YtiadoekhhmcokaaDoorSplitI
import Derived.Laws.ResultCell
namespace Go.Proofs.YtiadoekhhmcokaaDoor
set_option linter.unusedSimpArgs false
set_option linter.unusedVariables false
open Go.ChangeShapes Go.WideShapes Go.ChangeAt Go.RowKit

/-- s is the text of the point (x, y). -/
def IsPtTx (s : ByteArray) (x y : Int) : Prop := parts 46 s.data.toList = [Lib.itoa x, Lib.itoa y] ∧ isPt x y = true
theorem parts_no (m : UInt8) : ∀ l : List UInt8, (∀ b ∈ l, b ≠ m) → parts m l = [l]
  | [], _ => rfl
  | c :: r, h => by
    rw [parts, if_neg (h c (by simp)), parts_no m r (fun b hb => h b (by simp [hb]))]
    simp [addH]
theorem itoa_no (n : Int) : ∀ b ∈ Lib.itoa n, b ≠ 46 := by
  intro b hb e
  subst e
  unfold Lib.itoa at hb
  split at hb
  · rcases List.mem_cons.1 hb with h | h
    · exact absurd h (by decide)
    · exact absurd (decDigits_mem _ _ h).1 (by decide)
  · exact absurd (decDigits_mem _ _ hb).1 (by decide)
theorem parts_itoa (n : Int) : parts 46 (Lib.itoa n) = [Lib.itoa n] := parts_no 46 _ (itoa_no n)

theorem cut_step46 (r : ByteArray) (hs : r.size ≤ 1048576) : ∃ (wd rs : ByteArray) (b : Bool),
    (∀ w, Calls Tryd.prog 87 #[.string r, .string ⟨#[46]⟩] w fun e w' => e = .returned (.tuple #[.string wd, .string rs, .bool b]) ∧ Below w.heap.size w w') ∧
    ((b = true ∧ parts 46 r.data.toList = wd.data.toList :: parts 46 rs.data.toList) ∨ (b = false ∧ parts 46 r.data.toList = [wd.data.toList])) ∧ wd.size ≤ 1048576 ∧ rs.size ≤ 1048576 := by
  have hsz : r.data.toList.length = r.size := by rw [Array.length_toList]; rfl
  rcases indexByte_or r.data.toList 46 with h | ⟨i, h⟩
  · exact ⟨r, ⟨#[]⟩, false, fun w => (cut_miss r 46 w h).mono fun _ _ ⟨he, hw⟩ => ⟨he, by rw [hw]; exact Below.refl _ _⟩, .inr ⟨rfl, parts_miss 46 _ h⟩, hs, by decide⟩
  · obtain ⟨hp, hi⟩ := parts_hit 46 _ i h
    have e1 : (r.extract 0 i).data.toList = r.data.toList.take i := by rw [Lib.extract_data]; simp
    have e2 : (r.extract (i + 1) r.size).data.toList = r.data.toList.drop (i + 1) := by
      rw [Lib.extract_data]; exact List.take_of_length_le (by rw [List.length_drop]; omega)
    have z1 : (r.extract 0 i).size ≤ 1048576 := by
      have : (r.extract 0 i).size = (r.extract 0 i).data.toList.length := by rw [Array.length_toList]; rfl
      rw [this, e1, List.length_take]; omega
    have z2 : (r.extract (i + 1) r.size).size ≤ 1048576 := by
      have : (r.extract (i + 1) r.size).size = (r.extract (i + 1) r.size).data.toList.length := by rw [Array.length_toList]; rfl
      rw [this, e2, List.length_drop]; omega
    exact ⟨r.extract 0 i, r.extract (i + 1) r.size, true, fun w => cut_hit r 46 i w hs h (by omega), .inl ⟨rfl, by rw [hp, e1, e2]⟩, z1, z2⟩

/-- The cells of the result. -/
structure ResAt (w : World) (r : Nat) : Prop where
  lt : r < w.heap.size
  c0 : w.cell? ⟨r, 0, none⟩ = some (.int .i64 0)
  c1 : w.cell? ⟨r, 0 + 1, none⟩ = some (.int .i64 0)
  f0 : w.frozen? ⟨r, 0, none⟩ = false
  f1 : w.frozen? ⟨r, 0 + 1, none⟩ = false
theorem ResAt.to {w w1 : World} {r : Nat} (h : ResAt w r) (hb : Below w.heap.size w w1) : ResAt w1 r :=
  ⟨Nat.lt_of_lt_of_le h.lt hb.size, (hb.cell (p := ⟨r, 0, none⟩) h.lt).trans h.c0, (hb.cell (p := ⟨r, 0 + 1, none⟩) h.lt).trans h.c1, (hb.frozen (p := ⟨r, 0, none⟩) h.lt).trans h.f0, (hb.frozen (p := ⟨r, 0 + 1, none⟩) h.lt).trans h.f1⟩
theorem ResAt.new (w : World) : ResAt (w.alloc (.cells #[.int .i64 0, .int .i64 0] 66)) w.heap.size :=
  ⟨by simp, by simp, by simp, by simp, by simp⟩
/-- What parsePoint answers to a text of no point. -/
def NoPoint (e : Ending) : Prop := ∃ a : Addr, e = .returned (.tuple #[.agg #[.int .i64 0, .int .i64 0], .iface 125 (.pointer (some a))])
theorem noPoint {a : Addr} : NoPoint (.returned (.tuple #[.agg #[.int .i64 0, .int .i64 0], .iface 125 (.pointer (some a))])) := ⟨a, rfl⟩

set_option maxHeartbeats 800000 in
/-- .. where it has no mark. -/
theorem point_cut (s : ByteArray) (wd rs : ByteArray) (w : World) (hc : ∀ w, Calls Tryd.prog 87 #[.string s, .string ⟨#[46]⟩] w fun e w' => e = .returned (.tuple #[.string wd, .string rs, .bool false]) ∧ Below w.heap.size w w') :
    Calls Tryd.prog 54 #[.string s] w fun e w' => NoPoint e ∧ Below w.heap.size w w' := by
  have hr := ResAt.new w
  have hb0 : Below w.heap.size w (w.alloc (.cells #[.int .i64 0, .int .i64 0] 66)) := by (repeat (first | assumption | exact Below.refl _ _ | (refine bl_alloc ?_ _) | (refine Below.drew ?_) | (refine bl_drewN ?_ _) | (refine bl_set ?_ (by first | (simp; done) | omega | (simp; omega)) _) | (refine bl_trans ?_ (by assumption)) | (refine bl_step ?_ (by assumption) (by first | omega | exact Below.size (by assumption) | (simp; omega) | (simp; exact Below.size (by assumption))))))
  go_enter Tryd.func54, Tryd.ntmps54
  go_wp2_with fail
  refine (hc _).mono ?_
  rintro e w1 ⟨rfl, hb1⟩
  obtain ⟨z1, c0, c1, f0, f1⟩ := hr.to hb1
  have b1 : Below w.heap.size w w1 := bl_step hb0 hb1 hb0.size
  clear hr hb0 hb1
  go_wp2
  refine bodyPost_ret_by (v := .tuple #[.agg #[.int .i64 0, .int .i64 0], .iface 125 (.pointer (some ⟨w1.heap.size, 0, none⟩))]) ?_ rfl ⟨noPoint, by (repeat (first | assumption | exact Below.refl _ _ | (refine bl_alloc ?_ _) | (refine Below.drew ?_) | (refine bl_drewN ?_ _) | (refine bl_set ?_ (by first | (simp; done) | omega | (simp; omega)) _) | (refine bl_trans ?_ (by assumption)) | (refine bl_step ?_ (by assumption) (by first | omega | exact Below.size (by assumption) | (simp; omega) | (simp; exact Below.size (by assumption))))))⟩
  rw [results_cell_tmp rfl]
  go_simp

set_option maxHeartbeats 800000 in
/-- .. where what stands ahead of the mark is no number. -/
theorem point_first (s wd rs : ByteArray) (w : World) (hc : ∀ w, Calls Tryd.prog 87 #[.string s, .string ⟨#[46]⟩] w fun e w' => e = .returned (.tuple #[.string wd, .string rs, .bool true]) ∧ Below w.heap.size w w') (hw : wd.size ≤ 1048576) (hn : ∀ m, ¬ IsNum wd m) (hl : ParseLaid w) :
    Calls Tryd.prog 54 #[.string s] w fun e w' => NoPoint e ∧ Below w.heap.size w w' := by
  have hr := ResAt.new w
  have hb0 : Below w.heap.size w (w.alloc (.cells #[.int .i64 0, .int .i64 0] 66)) := by (repeat (first | assumption | exact Below.refl _ _ | (refine bl_alloc ?_ _) | (refine Below.drew ?_) | (refine bl_drewN ?_ _) | (refine bl_set ?_ (by first | (simp; done) | omega | (simp; omega)) _) | (refine bl_trans ?_ (by assumption)) | (refine bl_step ?_ (by assumption) (by first | omega | exact Below.size (by assumption) | (simp; omega) | (simp; exact Below.size (by assumption))))))
  go_enter Tryd.func54, Tryd.ntmps54
  go_wp2_with fail
  refine (hc _).mono ?_
  rintro e w1 ⟨rfl, hb1⟩
  have r1 := hr.to hb1
  have b1 : Below w.heap.size w w1 := bl_step hb0 hb1 hb0.size
  clear hr hb0 hb1
  go_wp2_with fail
  refine (parse_bad _ _ hw hn (hl.stays b1 (Nat.le_refl _))).mono ?_
  rintro e w2 ⟨⟨a, rfl⟩, hb2⟩
  have r2 := r1.to hb2
  have b2 : Below w.heap.size w w2 := bl_step b1 hb2 b1.size
  clear r1 b1 hb2
  obtain ⟨z1, c0, c1, f0, f1⟩ := r2
  go_wp2
  refine bodyPost_ret_by (v := .tuple #[.agg #[.int .i64 0, .int .i64 0], .iface 125 (.pointer (some a))]) ?_ rfl ⟨noPoint, by (repeat (first | assumption | exact Below.refl _ _ | (refine bl_alloc ?_ _) | (refine Below.drew ?_) | (refine bl_drewN ?_ _) | (refine bl_set ?_ (by first | (simp; done) | omega | (simp; omega)) _) | (refine bl_trans ?_ (by assumption)) | (refine bl_step ?_ (by assumption) (by first | omega | exact Below.size (by assumption) | (simp; omega) | (simp; exact Below.size (by assumption))))))⟩
  rw [results_cell_tmp rfl]
  go_simp

set_option maxHeartbeats 800000 in
/-- .. where what stands behind it is no number. -/
theorem point_second (s wd rs : ByteArray) (x : Int) (w : World) (hc : ∀ w, Calls Tryd.prog 87 #[.string s, .string ⟨#[46]⟩] w fun e w' => e = .returned (.tuple #[.string wd, .string rs, .bool true]) ∧ Below w.heap.size w w') (hw : wd.size ≤ 1048576) (hw2 : rs.size ≤ 1048576) (hx : IsNum wd x) (hn : ∀ m, ¬ IsNum rs m) (hl : ParseLaid w) :
    Calls Tryd.prog 54 #[.string s] w fun e w' => NoPoint e ∧ Below w.heap.size w w' := by
  have hr := ResAt.new w
  have hb0 : Below w.heap.size w (w.alloc (.cells #[.int .i64 0, .int .i64 0] 66)) := by (repeat (first | assumption | exact Below.refl _ _ | (refine bl_alloc ?_ _) | (refine Below.drew ?_) | (refine bl_drewN ?_ _) | (refine bl_set ?_ (by first | (simp; done) | omega | (simp; omega)) _) | (refine bl_trans ?_ (by assumption)) | (refine bl_step ?_ (by assumption) (by first | omega | exact Below.size (by assumption) | (simp; omega) | (simp; exact Below.size (by assumption))))))
  go_enter Tryd.func54, Tryd.ntmps54
  go_wp2_with fail
  refine (hc _).mono ?_
  rintro e w1 ⟨rfl, hb1⟩
  have r1 := hr.to hb1
  have b1 : Below w.heap.size w w1 := bl_step hb0 hb1 hb0.size
  clear hr hb0 hb1
  go_wp2_with fail
  refine (parse_num _ x _ hw hx (hl.stays b1 (Nat.le_refl _))).mono ?_
  rintro e w2 ⟨rfl, hb2⟩
  have r2 := r1.to hb2
  have b2 : Below w.heap.size w w2 := bl_step b1 hb2 b1.size
  clear r1 b1 hb2
  go_wp2_with fail
  refine (parse_bad _ _ hw2 hn (hl.stays b2 (Nat.le_refl _))).mono ?_
  rintro e w3 ⟨⟨a, rfl⟩, hb3⟩
  have r3 := r2.to hb3
  have b3 : Below w.heap.size w w3 := bl_step b2 hb3 b2.size
  clear r2 b2 hb3
  obtain ⟨z1, c0, c1, f0, f1⟩ := r3
  go_wp2
  refine bodyPost_ret_by (v := .tuple #[.agg #[.int .i64 0, .int .i64 0], .iface 125 (.pointer (some a))]) ?_ rfl ⟨noPoint, by (repeat (first | assumption | exact Below.refl _ _ | (refine bl_alloc ?_ _) | (refine Below.drew ?_) | (refine bl_drewN ?_ _) | (refine bl_set ?_ (by first | (simp; done) | omega | (simp; omega)) _) | (refine bl_trans ?_ (by assumption)) | (refine bl_step ?_ (by assumption) (by first | omega | exact Below.size (by assumption) | (simp; omega) | (simp; exact Below.size (by assumption))))))⟩
  rw [results_cell_tmp rfl]
  go_simp

set_option maxHeartbeats 800000 in
/-- .. where the numbers are no point's. -/
theorem point_out (s wd rs : ByteArray) (x y : Int) (w : World) (hc : ∀ w, Calls Tryd.prog 87 #[.string s, .string ⟨#[46]⟩] w fun e w' => e = .returned (.tuple #[.string wd, .string rs, .bool true]) ∧ Below w.heap.size w w') (hw : wd.size ≤ 1048576) (hw2 : rs.size ≤ 1048576) (hx : IsNum wd x) (hy : IsNum rs y) (hp : isPt x y = false) (hl : ParseLaid w) :
    Calls Tryd.prog 54 #[.string s] w fun e w' => NoPoint e ∧ Below w.heap.size w w' := by
  have hr := ResAt.new w
  have hb0 : Below w.heap.size w (w.alloc (.cells #[.int .i64 0, .int .i64 0] 66)) := by (repeat (first | assumption | exact Below.refl _ _ | (refine bl_alloc ?_ _) | (refine Below.drew ?_) | (refine bl_drewN ?_ _) | (refine bl_set ?_ (by first | (simp; done) | omega | (simp; omega)) _) | (refine bl_trans ?_ (by assumption)) | (refine bl_step ?_ (by assumption) (by first | omega | exact Below.size (by assumption) | (simp; omega) | (simp; exact Below.size (by assumption))))))
  go_enter Tryd.func54, Tryd.ntmps54
  go_wp2_with fail
  refine (hc _).mono ?_
  rintro e w1 ⟨rfl, hb1⟩
  have r1 := hr.to hb1
  have b1 : Below w.heap.size w w1 := bl_step hb0 hb1 hb0.size
  clear hr hb0 hb1
  go_wp2_with fail
  refine (parse_num _ x _ hw hx (hl.stays b1 (Nat.le_refl _))).mono ?_
  rintro e w2 ⟨rfl, hb2⟩
  have r2 := r1.to hb2
  have b2 : Below w.heap.size w w2 := bl_step b1 hb2 b1.size
  clear r1 b1 hb2
  go_wp2_with fail
  refine (parse_num _ y _ hw2 hy (hl.stays b2 (Nat.le_refl _))).mono ?_
  rintro e w3 ⟨rfl, hb3⟩
  have r3 := r2.to hb3
  have b3 : Below w.heap.size w w3 := bl_step b2 hb3 b2.size
  clear r2 b2 hb3
  have H := Lib.hid hp
  clear hp
  go_wp2_with fail
  refine (IsPointI_any _ _ _).mono ?_
  rintro e w4 ⟨rfl, hb4⟩
  rw [H.out]
  have r4 := r3.to (w1 := w4) (bl_step ((Below.refl _ _).alloc (Nat.le_refl _) _) hb4 (by simp))
  have b4 : Below w.heap.size w w4 := bl_step (b3.alloc b3.size _) hb4 (by have := b3.size; simp; omega)
  clear r3 b3 hb4
  obtain ⟨z1, c0, c1, f0, f1⟩ := r4
  go_wp2
  refine bodyPost_ret_by (v := .tuple #[.agg #[.int .i64 0, .int .i64 0], .iface 125 (.pointer (some ⟨w4.heap.size, 0, none⟩))]) ?_ rfl ⟨noPoint, by (repeat (first | assumption | exact Below.refl _ _ | (refine bl_alloc ?_ _) | (refine Below.drew ?_) | (refine bl_drewN ?_ _) | (refine bl_set ?_ (by first | (simp; done) | omega | (simp; omega)) _) | (refine bl_trans ?_ (by assumption)) | (refine bl_step ?_ (by assumption) (by first | omega | exact Below.size (by assumption) | (simp; omega) | (simp; exact Below.size (by assumption))))))⟩
  rw [results_cell_tmp rfl]
  go_simp

set_option maxHeartbeats 800000 in
/-- .. and where they are. -/
theorem point_good (s wd rs : ByteArray) (x y : Int) (w : World) (hc : ∀ w, Calls Tryd.prog 87 #[.string s, .string ⟨#[46]⟩] w fun e w' => e = .returned (.tuple #[.string wd, .string rs, .bool true]) ∧ Below w.heap.size w w') (hw : wd.size ≤ 1048576) (hw2 : rs.size ≤ 1048576) (hx : IsNum wd x) (hy : IsNum rs y) (hp : isPt x y = true) (hl : ParseLaid w) :
    Calls Tryd.prog 54 #[.string s] w fun e w' => e = .returned (.tuple #[.agg #[.int .i64 x, .int .i64 y], .nilIface]) ∧ Below w.heap.size w w' := by
  have hr := ResAt.new w
  have hb0 : Below w.heap.size w (w.alloc (.cells #[.int .i64 0, .int .i64 0] 66)) := by (repeat (first | assumption | exact Below.refl _ _ | (refine bl_alloc ?_ _) | (refine Below.drew ?_) | (refine bl_drewN ?_ _) | (refine bl_set ?_ (by first | (simp; done) | omega | (simp; omega)) _) | (refine bl_trans ?_ (by assumption)) | (refine bl_step ?_ (by assumption) (by first | omega | exact Below.size (by assumption) | (simp; omega) | (simp; exact Below.size (by assumption))))))
  go_enter Tryd.func54, Tryd.ntmps54
  go_wp2_with fail
  refine (hc _).mono ?_
  rintro e w1 ⟨rfl, hb1⟩
  have r1 := hr.to hb1
  have b1 : Below w.heap.size w w1 := bl_step hb0 hb1 hb0.size
  clear hr hb0 hb1
  go_wp2_with fail
  refine (parse_num _ x _ hw hx (hl.stays b1 (Nat.le_refl _))).mono ?_
  rintro e w2 ⟨rfl, hb2⟩
  have r2 := r1.to hb2
  have b2 : Below w.heap.size w w2 := bl_step b1 hb2 b1.size
  clear r1 b1 hb2
  go_wp2_with fail
  refine (parse_num _ y _ hw2 hy (hl.stays b2 (Nat.le_refl _))).mono ?_
  rintro e w3 ⟨rfl, hb3⟩
  have r3 := r2.to hb3
  have b3 : Below w.heap.size w w3 := bl_step b2 hb3 b2.size
  clear r2 b2 hb3
  have H := Lib.hid hp
  clear hp
  go_wp2_with fail
  refine (IsPointI_any _ _ _).mono ?_
  rintro e w4 ⟨rfl, hb4⟩
  rw [H.out]
  have p0 : w4.cell? ⟨w3.heap.size, 0, none⟩ = some (.int .i64 x) := (hb4.cell (p := ⟨w3.heap.size, 0, none⟩) (by simp)).trans (by simp)
  have p1 : w4.cell? ⟨w3.heap.size, 0 + 1, none⟩ = some (.int .i64 y) := (hb4.cell (p := ⟨w3.heap.size, 0 + 1, none⟩) (by simp)).trans (by simp)
  have hne : w3.heap.size ≠ w.heap.size := by have := r3.lt; omega
  have r4 := r3.to (w1 := w4) (bl_step ((Below.refl _ _).alloc (Nat.le_refl _) _) hb4 (by simp))
  have b4 : Below w.heap.size w w4 := bl_step (b3.alloc b3.size _) hb4 (by have := b3.size; simp; omega)
  clear r3 b3 hb4
  obtain ⟨z1, c0, c1, f0, f1⟩ := r4
  go_wp2
  refine bodyPost_ret_by (v := .tuple #[.agg #[.int .i64 x, .int .i64 y], .nilIface]) ?_ rfl ⟨rfl, by (repeat (first | assumption | exact Below.refl _ _ | (refine bl_alloc ?_ _) | (refine Below.drew ?_) | (refine bl_drewN ?_ _) | (refine bl_set ?_ (by first | (simp; done) | omega | (simp; omega)) _) | (refine bl_trans ?_ (by assumption)) | (refine bl_step ?_ (by assumption) (by first | omega | exact Below.size (by assumption) | (simp; omega) | (simp; exact Below.size (by assumption))))))⟩
  rw [results_cell_tmp rfl]
  go_simp
end Go.Proofs.YtiadoekhhmcokaaDoor
