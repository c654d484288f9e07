/-
  Contracts: regions required; the exported functions over regions, of the model and of the program.
-/
import Derived.Test.YtkkeodceihjbgaaRegS
import Derived.Test.YtkkeodceihjbgaaAttemptR
import Derived.Test.YtkkeodceihjbgaaQuietA
import Derived.Shelf.Abstract
namespace Go.Proofs.Ytkkeodceihjbgaa
set_option linter.unusedSimpArgs false
set_option linter.unusedVariables false
open Go.ChangeShapes Go.WideShapes Go.ChangeAt Go.RowKit Go.Shelf

theorem mid_rg {a b c d : Int} (h : isRg a b c d = true) : Mid a ∧ Mid b ∧ Mid c ∧ Mid d := by
  have := isRg_iff.1 h
  unfold Mid
  omega
/-- A region and true, or none and false. -/
def rgRes (ok : Bool) (a b c d : Int) : Value := bif ok then .tuple #[.agg #[.int .i64 a, .int .i64 b, .int .i64 c, .int .i64 d], .bool true] else .tuple #[.agg #[.int .i64 0, .int .i64 0, .int .i64 0, .int .i64 0], .bool false]
theorem rgRes_t {ok : Bool} {a b c d : Int} (h : ok = true) : rgRes ok a b c d = .tuple #[.agg #[.int .i64 a, .int .i64 b, .int .i64 c, .int .i64 d], .bool true] := by rw [h]; rfl
theorem rgRes_f {ok : Bool} {a b c d : Int} (h : ok = false) : rgRes ok a b c d = .tuple #[.agg #[.int .i64 0, .int .i64 0, .int .i64 0, .int .i64 0], .bool false] := by rw [h]; rfl
def inRes (ok : Bool) (n : Int) : Value := bif ok then .tuple #[.int .i64 n, .bool true] else .tuple #[.int .i64 0, .bool false]
theorem inRes_t {ok : Bool} {n : Int} (h : ok = true) : inRes ok n = .tuple #[.int .i64 n, .bool true] := by rw [h]; rfl
theorem inRes_f {ok : Bool} {n : Int} (h : ok = false) : inRes ok n = .tuple #[.int .i64 0, .bool false] := by rw [h]; rfl

set_option maxHeartbeats 800000 in
theorem requireRegion_yes (a b c d : Int) (w : World) (h : isRg a b c d = true) :
    Calls Try.prog 45 #[.agg #[.int .i64 a, .int .i64 b, .int .i64 c, .int .i64 d]] w fun e w' => e = .returned (.agg #[.int .i64 a, .int .i64 b, .int .i64 c, .int .i64 d]) ∧ Below w.heap.size w w' := by
  have H1 := Lib.hid h
  clear h
  go_enter Try.func45, Try.ntmps45
  go_wp2_with (first
    | (go_at_call 33; refine (rgValid_any _ _ _ _ _).mono ?_; rintro e w' ⟨rfl, hb⟩; rw [H1.out]; obtain ⟨hc, hf, hz⟩ := bcell hb; have hz1 : w.heap.size + 1 < w'.heap.size := (by (first | (simp at hz; omega) | omega)); have hz : w.heap.size < w'.heap.size := by omega)
    | (go_at_call 38; refine (require_yes _).mono ?_; rintro e w' ⟨rfl, rfl⟩))
  exact bodyPost_ret (v := .agg #[.int .i64 a, .int .i64 b, .int .i64 c, .int .i64 d]) (by simp [results, Try.results45, hc, hz, hz1, go_sem]) rfl ⟨rfl, by (repeat (first | assumption | exact Below.refl _ _ | (refine bl_alloc ?_ _) | (refine Below.drew ?_) | (refine bl_drewN ?_ _) | (refine bl_set ?_ (by first | (simp; done) | omega | (simp; omega)) _) | (refine bl_trans ?_ (by assumption)) | (refine bl_step ?_ (by assumption) (by first | omega | exact Below.size (by assumption) | (simp; omega) | (simp; exact Below.size (by assumption))))))⟩
theorem requireRegion_no (a b c d : Int) (w : World) (h : isRg a b c d = false) :
    Calls Try.prog 45 #[.agg #[.int .i64 a, .int .i64 b, .int .i64 c, .int .i64 d]] w fun e w' => Pan e ∧ Below w.heap.size w w' := by
  have H1 := Lib.hid h
  clear h
  go_enter Try.func45, Try.ntmps45
  go_wp2_with (first
    | (go_at_call 33; refine (rgValid_any _ _ _ _ _).mono ?_; rintro e w' ⟨rfl, hb⟩; rw [H1.out]; obtain ⟨hc, hf, hz⟩ := bcell hb; have hz1 : w.heap.size + 1 < w'.heap.size := (by (first | (simp at hz; omega) | omega)); have hz : w.heap.size < w'.heap.size := by omega)
    | (go_at_call 38; refine (require_no _).mono ?_; rintro e w' ⟨⟨u, pv, rfl⟩, rfl⟩))
  exact ⟨rfl, ⟨_, _, rfl⟩, by (repeat (first | assumption | exact Below.refl _ _ | (refine bl_alloc ?_ _) | (refine Below.drew ?_) | (refine bl_drewN ?_ _) | (refine bl_set ?_ (by first | (simp; done) | omega | (simp; omega)) _) | (refine bl_trans ?_ (by assumption)) | (refine bl_step ?_ (by assumption) (by first | omega | exact Below.size (by assumption) | (simp; omega) | (simp; exact Below.size (by assumption))))))⟩

/-! ### ValidRegion -/
theorem ValidRegionS_any (a b c d : Int) (w : World) :
    Calls Try.prog 10 #[.agg #[.int .i64 a, .int .i64 b, .int .i64 c, .int .i64 d]] w fun e w' => e = .returned (.bool (isRg a b c d)) ∧ Below w.heap.size w w' := by
  go_enter Try.func10, Try.ntmps10
  go_wp2_with fail
  refine (l06Is_any _ _ _ _ _).mono ?_
  rintro e w1 ⟨rfl, hb1⟩
  go_wp2
  go_ret
  exact ⟨rfl, by (repeat (first | assumption | exact Below.refl _ _ | (refine bl_alloc ?_ _) | (refine Below.drew ?_) | (refine bl_drewN ?_ _) | (refine bl_set ?_ (by first | (simp; done) | omega | (simp; omega)) _) | (refine bl_trans ?_ (by assumption)) | (refine bl_step ?_ (by assumption) (by first | omega | exact Below.size (by assumption) | (simp; omega) | (simp; exact Below.size (by assumption))))))⟩
theorem ValidRegionI_any (a b c d : Int) (w : World) :
    Calls Try.prog 12 #[.agg #[.int .i64 a, .int .i64 b, .int .i64 c, .int .i64 d]] w fun e w' => e = .returned (.bool (isRg a b c d)) ∧ Below w.heap.size w w' := by
  go_enter Try.func12, Try.ntmps12
  go_wp2_with fail
  refine (rgValid_any _ _ _ _ _).mono ?_
  rintro e w1 ⟨rfl, hb1⟩
  go_wp2
  go_ret
  exact ⟨rfl, by (repeat (first | assumption | exact Below.refl _ _ | (refine bl_alloc ?_ _) | (refine Below.drew ?_) | (refine bl_drewN ?_ _) | (refine bl_set ?_ (by first | (simp; done) | omega | (simp; omega)) _) | (refine bl_trans ?_ (by assumption)) | (refine bl_step ?_ (by assumption) (by first | omega | exact Below.size (by assumption) | (simp; omega) | (simp; exact Below.size (by assumption))))))⟩

/-! ### LeafRegion -/
def lfV (x y : Int) : Value := rgRes (isPt x y) ((x + y) * 4096) ((x + y) * 4096) ((x - y) * 4096) ((x - y) * 4096)
set_option maxHeartbeats 800000 in
theorem LeafRegionS_any (x y : Int) (w : World) :
    Calls Try.prog 13 #[.agg #[.int .i64 x, .int .i64 y]] w fun e w' => e = .returned (lfV x y) ∧ Below w.heap.size w w' := by
  cases hi : isPt x y
  · have H := Lib.hid hi
    have R := Lib.hid (show lfV x y = _ from rgRes_f hi)
    clear hi
    go_enter Try.func13, Try.ntmps13
    go_wp2_with fail
    refine (l01Point_any _ _ _).mono ?_
    rintro e w' ⟨rfl, hb⟩
    rw [H.out]
    obtain ⟨hc, hf, hz⟩ := bcell hb; have hz1 : w.heap.size + 1 < w'.heap.size := (by (first | (simp at hz; omega) | omega)); have hz : w.heap.size < w'.heap.size := by omega
    go_wp2
    exact bodyPost_ret (v := .tuple #[.agg #[.int .i64 0, .int .i64 0, .int .i64 0, .int .i64 0], .bool false]) (by simp [results, Try.results13, hc, hz, hz1, go_sem]) rfl ⟨by rw [R.out], by (repeat (first | assumption | exact Below.refl _ _ | (refine bl_alloc ?_ _) | (refine Below.drew ?_) | (refine bl_drewN ?_ _) | (refine bl_set ?_ (by first | (simp; done) | omega | (simp; omega)) _) | (refine bl_trans ?_ (by assumption)) | (refine bl_step ?_ (by assumption) (by first | omega | exact Below.size (by assumption) | (simp; omega) | (simp; exact Below.size (by assumption))))))⟩
  · obtain ⟨hx, hy⟩ := isPt_lo hi
    have H := Lib.hid hi
    have R := Lib.hid (show lfV x y = _ from rgRes_t hi)
    clear hi
    go_enter Try.func13, Try.ntmps13
    go_wp2_with fail
    refine (l01Point_any _ _ _).mono ?_
    rintro e w' ⟨rfl, hb⟩
    rw [H.out]
    obtain ⟨hc, hf, hz⟩ := bcell hb; have hz1 : w.heap.size + 1 < w'.heap.size := (by (first | (simp at hz; omega) | omega)); have hz : w.heap.size < w'.heap.size := by omega
    go_wp2_with fail
    refine (l06Leaf_any _ _ _ hx hy).mono ?_
    rintro e w2 ⟨rfl, hb2⟩
    obtain ⟨hc2, hf2, hz2⟩ := bcell hb2
    have hz3 : w.heap.size + 1 < w2.heap.size := by (first | (simp at hz2; omega) | omega)
    go_wp2
    exact bodyPost_ret (v := .tuple #[.agg #[.int .i64 ((x + y) * 4096), .int .i64 ((x + y) * 4096), .int .i64 ((x - y) * 4096), .int .i64 ((x - y) * 4096)], .bool true]) (by simp [results, Try.results13, hc, hz, hz1, hc2, hz2, hz3, go_sem]) rfl ⟨by rw [R.out], by (repeat (first | assumption | exact Below.refl _ _ | (refine bl_alloc ?_ _) | (refine Below.drew ?_) | (refine bl_drewN ?_ _) | (refine bl_set ?_ (by first | (simp; done) | omega | (simp; omega)) _) | (refine bl_trans ?_ (by assumption)) | (refine bl_step ?_ (by assumption) (by first | omega | exact Below.size (by assumption) | (simp; omega) | (simp; exact Below.size (by assumption))))))⟩
set_option maxHeartbeats 800000 in
theorem leafFn_any (g : Nat) (x y : Int) (w : World) (h0 : w.cell? ⟨g, 0, none⟩ = some (.int .i64 x)) (h1 : w.cell? ⟨g, 1, none⟩ = some (.int .i64 y)) (hg : g < w.heap.size) :
    Calls Try.prog 37 #[.pointer (some ⟨g, 0, none⟩)] w fun e w' => ((∃ x0 x1 x2 x3, e = .returned (.agg #[.int .i64 x0, .int .i64 x1, .int .i64 x2, .int .i64 x3]) ∧ (isPt x y = true ∧ Value.agg #[.int .i64 x0, .int .i64 x1, .int .i64 x2, .int .i64 x3] = .agg #[.int .i64 ((x + y) * 4096), .int .i64 ((x + y) * 4096), .int .i64 ((x - y) * 4096), .int .i64 ((x - y) * 4096)])) ∨ (Pan e ∧ isPt x y = false)) ∧ Below w.heap.size w w' := by
  cases hi : isPt x y
  · have H := Lib.hid hi
    clear hi
    go_enter Try.func37, Try.ntmps37
    go_wp2_with fail
    refine (IsPointI_any _ _ _).mono ?_
    rintro e w1 ⟨rfl, hb1⟩
    rw [H.out]
    go_wp2_with fail
    refine (require_no _).mono ?_
    rintro e w2 ⟨⟨u, pv, rfl⟩, rfl⟩
    go_wp2
    exact ⟨rfl, .inr ⟨⟨_, _, rfl⟩, trivial⟩, by (repeat (first | assumption | exact Below.refl _ _ | (refine bl_alloc ?_ _) | (refine Below.drew ?_) | (refine bl_drewN ?_ _) | (refine bl_set ?_ (by first | (simp; done) | omega | (simp; omega)) _) | (refine bl_trans ?_ (by assumption)) | (refine bl_step ?_ (by assumption) (by first | omega | exact Below.size (by assumption) | (simp; omega) | (simp; exact Below.size (by assumption))))))⟩
  · obtain ⟨hx, hy⟩ := isPt_lo hi
    have H := Lib.hid hi
    clear hi
    go_enter Try.func37, Try.ntmps37
    go_wp2_with fail
    refine (IsPointI_any _ _ _).mono ?_
    rintro e w1 ⟨rfl, hb1⟩
    rw [H.out]
    obtain ⟨hc1, hf1, hz1⟩ := bcell hb1
    have hg1 : g < w.heap.size + 1 := by omega
    have hz1' : w.heap.size < w1.heap.size := by (first | (simp at hz1; omega) | omega)
    go_wp2_with fail
    refine (require_yes _).mono ?_
    rintro e w2 ⟨rfl, rfl⟩
    go_wp2_with fail
    refine (leafRegion_any _ _ _ hx hy).mono ?_
    rintro e w3 ⟨rfl, hb3⟩
    obtain ⟨hc3, hf3, hz3⟩ := bcell hb3
    have hz3' : w.heap.size < w3.heap.size := by (first | (simp at hz3; omega) | omega)
    go_wp2
    exact bodyPost_ret (v := .agg #[.int .i64 ((x + y) * 4096), .int .i64 ((x + y) * 4096), .int .i64 ((x - y) * 4096), .int .i64 ((x - y) * 4096)]) (by simp [results, Try.results37, hc1, hz1, hz1', hc3, hz3, hz3', go_sem]) rfl ⟨.inl ⟨_, _, _, _, rfl, trivial, rfl⟩, by (repeat (first | assumption | exact Below.refl _ _ | (refine bl_alloc ?_ _) | (refine Below.drew ?_) | (refine bl_drewN ?_ _) | (refine bl_set ?_ (by first | (simp; done) | omega | (simp; omega)) _) | (refine bl_trans ?_ (by assumption)) | (refine bl_step ?_ (by assumption) (by first | omega | exact Below.size (by assumption) | (simp; omega) | (simp; exact Below.size (by assumption))))))⟩
set_option maxHeartbeats 800000 in
theorem LeafRegionI_any (x y : Int) (w : World) :
    Calls Try.prog 15 #[.agg #[.int .i64 x, .int .i64 y]] w fun e w' => e = .returned (lfV x y) ∧ Below w.heap.size w w' := by
  have hmf : ∀ (fn : Fn) (first cap : Array Value) (w : World), (Instr.makeFunc fn first cap).run Try.prog w = .ok (.func fn first cap) w := fun _ _ _ _ => rfl
  have eg : ∀ args w, (callFunc 37 args).run Try.prog w = .ok (.enter 37 args) w := enters_of Try.func37 (by kernel_rfl) rfl
  have hB := Blk.new w #[.int .i64 x, .int .i64 y] 32
  have hB2 := ((hB.alloc (.cells #[.int .i64 0, .int .i64 0, .int .i64 0, .int .i64 0] 25)).alloc (.cells #[.int .i64 0, .int .i64 0, .int .i64 0, .int .i64 0] 25)).alloc (.cells #[.bool false] 4)
  have hx := attemptR_any 37 #[.pointer (some ⟨w.heap.size, 0, none⟩)] ((w.alloc (.cells #[.int .i64 x, .int .i64 y] 32)).alloc (.cells #[.int .i64 0, .int .i64 0, .int .i64 0, .int .i64 0] 25)) (fun v _ => isPt x y = true ∧ v = .agg #[.int .i64 ((x + y) * 4096), .int .i64 ((x + y) * 4096), .int .i64 ((x - y) * 4096), .int .i64 ((x - y) * 4096)]) (isPt x y = false) eg
    (leafFn_any w.heap.size x y _ (hB2.cell 0 rfl) (hB2.cell 1 rfl) hB2.lt)
  have h0 : Below w.heap.size w ((w.alloc (.cells #[.int .i64 x, .int .i64 y] 32)).alloc (.cells #[.int .i64 0, .int .i64 0, .int .i64 0, .int .i64 0] 25)) := by (repeat (first | assumption | exact Below.refl _ _ | (refine bl_alloc ?_ _) | (refine Below.drew ?_) | (refine bl_drewN ?_ _) | (refine bl_set ?_ (by first | (simp; done) | omega | (simp; omega)) _) | (refine bl_trans ?_ (by assumption)) | (refine bl_step ?_ (by assumption) (by first | omega | exact Below.size (by assumption) | (simp; omega) | (simp; exact Below.size (by assumption))))))
  clear hB hB2
  go_enter Try.func15, Try.ntmps15
  go_wp2_with fail
  refine hx.mono ?_
  rintro e w1 ⟨⟨x0, x1, x2, x3, w2, rfl, ⟨hi, hv⟩, -⟩ | ⟨rfl, hi⟩, hb1⟩
  · injection hv with hv
    injection hv with hv
    simp only [List.cons.injEq, Value.int.injEq, true_and, and_true] at hv
    obtain ⟨rfl, rfl, rfl, rfl⟩ := hv
    obtain ⟨hc1, hf1, hz1⟩ := bcell hb1
    have hz1' : w.heap.size + 1 < w1.heap.size := by (first | (simp at hz1; omega) | omega)
    go_wp2
    exact bodyPost_ret (v := .tuple #[.agg #[.int .i64 ((x + y) * 4096), .int .i64 ((x + y) * 4096), .int .i64 ((x - y) * 4096), .int .i64 ((x - y) * 4096)], .bool true]) (by simp [results, Try.results15, hc1, hz1, hz1', go_sem]) rfl ⟨by rw [lfV, rgRes_t hi], by (repeat (first | assumption | exact Below.refl _ _ | (refine bl_alloc ?_ _) | (refine Below.drew ?_) | (refine bl_drewN ?_ _) | (refine bl_set ?_ (by first | (simp; done) | omega | (simp; omega)) _) | (refine bl_trans ?_ (by assumption)) | (refine bl_step ?_ (by assumption) (by first | omega | exact Below.size (by assumption) | (simp; omega) | (simp; exact Below.size (by assumption))))))⟩
  · obtain ⟨hc1, hf1, hz1⟩ := bcell hb1
    have hz1' : w.heap.size + 1 < w1.heap.size := by (first | (simp at hz1; omega) | omega)
    go_wp2
    exact bodyPost_ret (v := .tuple #[.agg #[.int .i64 0, .int .i64 0, .int .i64 0, .int .i64 0], .bool false]) (by simp [results, Try.results15, hc1, hz1, hz1', go_sem]) rfl ⟨by rw [lfV, rgRes_f hi], by (repeat (first | assumption | exact Below.refl _ _ | (refine bl_alloc ?_ _) | (refine Below.drew ?_) | (refine bl_drewN ?_ _) | (refine bl_set ?_ (by first | (simp; done) | omega | (simp; omega)) _) | (refine bl_trans ?_ (by assumption)) | (refine bl_step ?_ (by assumption) (by first | omega | exact Below.size (by assumption) | (simp; omega) | (simp; exact Below.size (by assumption))))))⟩

/-! ### GrowRegion -/
def okGrow (a b c d n : Int) : Bool := isRg a b c d && (inB n 0 1000000000 && isRg (a - n) (b + n) (c - n) (d + n))
def grV (a b c d n : Int) : Value := rgRes (okGrow a b c d n) (a - n) (b + n) (c - n) (d + n)
theorem mid_am {n : Int} (h : inB n 0 1000000000 = true) : Mid n := by
  have : 0 ≤ n ∧ n ≤ 1000000000 := of_decide_eq_true h
  unfold Mid; omega
set_option maxRecDepth 100000 in
set_option maxHeartbeats 1600000 in
theorem GrowRegionS_any (a b c d n : Int) (w : World) :
    Calls Try.prog 17 #[.agg #[.int .i64 a, .int .i64 b, .int .i64 c, .int .i64 d], .int .i64 n] w fun e w' => e = .returned (grV a b c d n) ∧ Below w.heap.size w w' := by
  cases h1 : isRg a b c d
  · have H := Lib.hid h1
    have R := Lib.hid (show grV a b c d n = _ from rgRes_f (by simp [okGrow, h1]))
    clear h1
    go_enter Try.func17, Try.ntmps17
    go_wp2_with fail
    refine (l06Is_any _ _ _ _ _).mono ?_
    rintro e w1 ⟨rfl, hb1⟩
    rw [H.out]
    obtain ⟨hc1, hf1, hz1⟩ := bcell hb1
    have hz1' : w.heap.size + 1 < w1.heap.size := by (first | (simp at hz1; omega) | omega)
    go_wp2
    exact bodyPost_ret (v := .tuple #[.agg #[.int .i64 0, .int .i64 0, .int .i64 0, .int .i64 0], .bool false]) (by simp [results, Try.results17, hc1, hz1, hz1', go_sem]) rfl ⟨by rw [R.out], by (repeat (first | assumption | exact Below.refl _ _ | (refine bl_alloc ?_ _) | (refine Below.drew ?_) | (refine bl_drewN ?_ _) | (refine bl_set ?_ (by first | (simp; done) | omega | (simp; omega)) _) | (refine bl_trans ?_ (by assumption)) | (refine bl_step ?_ (by assumption) (by first | omega | exact Below.size (by assumption) | (simp; omega) | (simp; exact Below.size (by assumption))))))⟩
  · cases h2 : inB n 0 1000000000
    · have H := Lib.hid h1
      have H2 := Lib.hid h2
      have R := Lib.hid (show grV a b c d n = _ from rgRes_f (by simp [okGrow, h2]))
      clear h1 h2
      go_enter Try.func17, Try.ntmps17
      go_wp2_with fail
      refine (l06Is_any _ _ _ _ _).mono ?_
      rintro e w1 ⟨rfl, hb1⟩
      rw [H.out]
      obtain ⟨hc1, hf1, hz1⟩ := bcell hb1
      have hz1' : w.heap.size + 1 < w1.heap.size := by (first | (simp at hz1; omega) | omega)
      go_wp2_with fail
      refine (l00In_any _ _ _ _).mono ?_
      rintro e w2 ⟨rfl, rfl⟩
      rw [H2.out]
      go_wp2
      exact bodyPost_ret (v := .tuple #[.agg #[.int .i64 0, .int .i64 0, .int .i64 0, .int .i64 0], .bool false]) (by simp [results, Try.results17, hc1, hz1, hz1', go_sem]) rfl ⟨by rw [R.out], by (repeat (first | assumption | exact Below.refl _ _ | (refine bl_alloc ?_ _) | (refine Below.drew ?_) | (refine bl_drewN ?_ _) | (refine bl_set ?_ (by first | (simp; done) | omega | (simp; omega)) _) | (refine bl_trans ?_ (by assumption)) | (refine bl_step ?_ (by assumption) (by first | omega | exact Below.size (by assumption) | (simp; omega) | (simp; exact Below.size (by assumption))))))⟩
    · obtain ⟨ma, mb, mc, md⟩ := mid_rg h1
      have mn := mid_am h2
      cases h3 : isRg (a - n) (b + n) (c - n) (d + n)
      · have H := Lib.hid h1
        have H2 := Lib.hid h2
        have H3 := Lib.hid h3
        have R : Hid (grV a b c d n = _) := Lib.hid (show grV a b c d n = _ from rgRes_f (by simp [okGrow, h3]))
        clear h1 h2 h3
        go_enter Try.func17, Try.ntmps17
        go_wp2_with fail
        refine (l06Is_any _ _ _ _ _).mono ?_
        rintro e w1 ⟨rfl, hb1⟩
        rw [H.out]
        obtain ⟨hc1, hf1, hz1⟩ := bcell hb1
        have hz1' : w.heap.size + 1 < w1.heap.size := by (first | (simp at hz1; omega) | omega)
        have hz1'' : w.heap.size < w1.heap.size := by omega
        go_wp2_with fail
        refine (l00In_any _ _ _ _).mono ?_
        rintro e w2 ⟨rfl, rfl⟩
        rw [H2.out]
        go_wp2_with fail
        refine (l06Grow_any _ _ _ _ _ _ ma mb mc md mn).mono ?_
        rintro e w3 ⟨rfl, hb3⟩
        obtain ⟨hc3, hf3, hz3⟩ := bcell hb3
        have hz3' : w.heap.size + 1 < w3.heap.size := by (first | (simp at hz3; omega) | omega)
        have hz3'' : w.heap.size < w3.heap.size := by omega
        go_wp2_with fail
        refine (l06Is_any _ _ _ _ _).mono ?_
        rintro e w4 ⟨rfl, hb4⟩
        rw [H3.out]
        obtain ⟨hc4, hf4, hz4⟩ := bcell hb4
        have hz4' : w.heap.size + 1 < w4.heap.size := by (first | (simp at hz4; omega) | omega)
        have hz4'' : w.heap.size < w4.heap.size := by omega
        go_wp2
        exact bodyPost_ret (v := .tuple #[.agg #[.int .i64 0, .int .i64 0, .int .i64 0, .int .i64 0], .bool false]) (by simp [results, Try.results17, hc1, hz1, hz1', hc3, hz3, hz3', hz3'', hc4, hz4, hz4', hz4'', go_sem]) rfl ⟨by rw [R.out], by (repeat (first | assumption | exact Below.refl _ _ | (refine bl_alloc ?_ _) | (refine Below.drew ?_) | (refine bl_drewN ?_ _) | (refine bl_set ?_ (by first | (simp; done) | omega | (simp; omega)) _) | (refine bl_trans ?_ (by assumption)) | (refine bl_step ?_ (by assumption) (by first | omega | exact Below.size (by assumption) | (simp; omega) | (simp; exact Below.size (by assumption))))))⟩
      · have H := Lib.hid h1
        have H2 := Lib.hid h2
        have H3 := Lib.hid h3
        have R : Hid (grV a b c d n = _) := Lib.hid (show grV a b c d n = _ from rgRes_t (by simp [okGrow, h1, h2, h3]))
        clear h1 h2 h3
        go_enter Try.func17, Try.ntmps17
        go_wp2_with fail
        refine (l06Is_any _ _ _ _ _).mono ?_
        rintro e w1 ⟨rfl, hb1⟩
        rw [H.out]
        obtain ⟨hc1, hf1, hz1⟩ := bcell hb1
        have hz1' : w.heap.size + 1 < w1.heap.size := by (first | (simp at hz1; omega) | omega)
        have hz1'' : w.heap.size < w1.heap.size := by omega
        go_wp2_with fail
        refine (l00In_any _ _ _ _).mono ?_
        rintro e w2 ⟨rfl, rfl⟩
        rw [H2.out]
        go_wp2_with fail
        refine (l06Grow_any _ _ _ _ _ _ ma mb mc md mn).mono ?_
        rintro e w3 ⟨rfl, hb3⟩
        obtain ⟨hc3, hf3, hz3⟩ := bcell hb3
        have hz3' : w.heap.size + 1 < w3.heap.size := by (first | (simp at hz3; omega) | omega)
        have hz3'' : w.heap.size < w3.heap.size := by omega
        go_wp2_with fail
        refine (l06Is_any _ _ _ _ _).mono ?_
        rintro e w4 ⟨rfl, hb4⟩
        rw [H3.out]
        obtain ⟨hc4, hf4, hz4⟩ := bcell hb4
        have hz4' : w.heap.size + 1 < w4.heap.size := by (first | (simp at hz4; omega) | omega)
        have hz4'' : w.heap.size < w4.heap.size := by omega
        go_wp2
        exact bodyPost_ret (v := .tuple #[.agg #[.int .i64 (a - n), .int .i64 (b + n), .int .i64 (c - n), .int .i64 (d + n)], .bool true]) (by simp [results, Try.results17, hc1, hz1, hz1', hc3, hz3, hz3', hz3'', hc4, hz4, hz4', hz4'', go_sem]) rfl ⟨by rw [R.out], by (repeat (first | assumption | exact Below.refl _ _ | (refine bl_alloc ?_ _) | (refine Below.drew ?_) | (refine bl_drewN ?_ _) | (refine bl_set ?_ (by first | (simp; done) | omega | (simp; omega)) _) | (refine bl_trans ?_ (by assumption)) | (refine bl_step ?_ (by assumption) (by first | omega | exact Below.size (by assumption) | (simp; omega) | (simp; exact Below.size (by assumption))))))⟩

def CellsR (w : World) (g : Nat) (a b c d : Int) : Prop := w.cell? ⟨g, 0, none⟩ = some (.int .i64 a) ∧ w.cell? ⟨g, 1, none⟩ = some (.int .i64 b) ∧ w.cell? ⟨g, 2, none⟩ = some (.int .i64 c) ∧ w.cell? ⟨g, 3, none⟩ = some (.int .i64 d) ∧ g < w.heap.size
theorem CellsR.of {w : World} {g : Nat} {a b c d : Int} {t : TypeId} (h : Blk w g #[.int .i64 a, .int .i64 b, .int .i64 c, .int .i64 d] t) : CellsR w g a b c d := ⟨h.cell 0 rfl, h.cell 1 rfl, h.cell 2 rfl, h.cell 3 rfl, h.lt⟩
def FnR (ok : Bool) (v : Value) (w : World) (e : Ending) (w' : World) : Prop :=
  ((∃ x0 x1 x2 x3, e = .returned (.agg #[.int .i64 x0, .int .i64 x1, .int .i64 x2, .int .i64 x3]) ∧ (ok = true ∧ Value.agg #[.int .i64 x0, .int .i64 x1, .int .i64 x2, .int .i64 x3] = v)) ∨ (Pan e ∧ ok = false)) ∧ Below w.heap.size w w'
theorem FnR.no {ok : Bool} {v : Value} {w w' : World} {e : Ending} (h : ok = false) (he : Pan e) (hb : Below w.heap.size w w') : FnR ok v w e w' := ⟨.inr ⟨he, h⟩, hb⟩
theorem FnR.yes {ok : Bool} {w w' : World} {a b c d : Int} (h : ok = true) (hb : Below w.heap.size w w') : FnR ok (.agg #[.int .i64 a, .int .i64 b, .int .i64 c, .int .i64 d]) w (.returned (.agg #[.int .i64 a, .int .i64 b, .int .i64 c, .int .i64 d])) w' := ⟨.inl ⟨_, _, _, _, rfl, h, rfl⟩, hb⟩
set_option maxRecDepth 100000 in
set_option maxHeartbeats 1600000 in
theorem growFn_any (g gn : Nat) (a b c d n : Int) (w : World) (h : CellsR w g a b c d) (hn : w.cell? ⟨gn, 0, none⟩ = some (.int .i64 n)) (hgn : gn < w.heap.size) :
    Calls Try.prog 43 #[.pointer (some ⟨gn, 0, none⟩), .pointer (some ⟨g, 0, none⟩)] w (FnR (okGrow a b c d n) (.agg #[.int .i64 (a - n), .int .i64 (b + n), .int .i64 (c - n), .int .i64 (d + n)]) w) := by
  obtain ⟨g0, g1, g2, g3, hg⟩ := h
  have hg1 : g < w.heap.size + 1 := by omega
  have hgn1 : gn < w.heap.size + 1 := by omega
  cases h2 : inB n 0 1000000000
  · have H2 := Lib.hid h2
    have R : Hid (okGrow a b c d n = false) := Lib.hid (show okGrow a b c d n = false by simp [okGrow, h2])
    clear h2
    go_enter Try.func43, Try.ntmps43
    go_wp2_with fail
    refine (isAmount_any _ _).mono ?_
    rintro e w1 ⟨rfl, rfl⟩
    rw [H2.out]
    go_wp2_with fail
    refine (require_no _).mono ?_
    rintro e w2 ⟨⟨u, pv, rfl⟩, rfl⟩
    go_wp2
    exact ⟨rfl, FnR.no R.out ⟨_, _, rfl⟩ (by (repeat (first | assumption | exact Below.refl _ _ | (refine bl_alloc ?_ _) | (refine Below.drew ?_) | (refine bl_drewN ?_ _) | (refine bl_set ?_ (by first | (simp; done) | omega | (simp; omega)) _) | (refine bl_trans ?_ (by assumption)) | (refine bl_step ?_ (by assumption) (by first | omega | exact Below.size (by assumption) | (simp; omega) | (simp; exact Below.size (by assumption)))))))⟩
  · have mn := mid_am h2
    cases h1 : isRg a b c d
    · have H1 := Lib.hid h1
      have H2 := Lib.hid h2
      have R : Hid (okGrow a b c d n = false) := Lib.hid (show okGrow a b c d n = false by simp [okGrow, h1])
      clear h1 h2
      go_enter Try.func43, Try.ntmps43
      go_wp2_with fail
      refine (isAmount_any _ _).mono ?_
      rintro e w1 ⟨rfl, rfl⟩
      rw [H2.out]
      go_wp2_with fail
      refine (require_yes _).mono ?_
      rintro e w2 ⟨rfl, rfl⟩
      go_wp2
      refine wp_region_treeB (Pl.takes [0, 2] (.alone 1 (.alone 3 (.alone 4 (.alone 5 .done))))) (by kernel_rfl) (by kernel_rfl) (by kernel_rfl) (fun _ d _ _ _ h => by cases d <;> exact h) (fun hS0 => ?_)
      refine tplan_w (v := ?_) rfl (by rfl) ?_ ?_
      rotate_left
      · intro wx hSx
        obtain ⟨hcx, hfx, hzx⟩ := bcell hSx
        go_simp
        try (with_reducible rfl)
      try simp only [Act.put, List.setIfInBounds_toArray, List.set_cons_zero, List.set_cons_succ]
      refine tplan_w (v := ?_) rfl (by rfl) ?_ ?_
      rotate_left
      · intro wx hSx
        obtain ⟨hcx, hfx, hzx⟩ := bcell hSx
        go_simp
        try (with_reducible rfl)
      try simp only [Act.put, List.setIfInBounds_toArray, List.set_cons_zero, List.set_cons_succ]
      refine tplan_b rfl (fun K hK => ?_)
      go_simp
      refine (requireRegion_no _ _ _ _ _ H1.out).mono ?_
      rintro e w1 ⟨⟨u, pv, rfl⟩, hb1⟩
      have hS1 := belowS hS0 hb1
      exact ⟨rfl, FnR.no R.out ⟨_, _, rfl⟩ (by (repeat (first | assumption | exact Below.refl _ _ | (refine bl_alloc ?_ _) | (refine Below.drew ?_) | (refine bl_drewN ?_ _) | (refine bl_set ?_ (by first | (simp; done) | omega | (simp; omega)) _) | (refine bl_trans ?_ (by assumption)) | (refine bl_step ?_ (by assumption) (by first | omega | exact Below.size (by assumption) | (simp; omega) | (simp; exact Below.size (by assumption)))))))⟩
    · obtain ⟨ma, mb, mc, md⟩ := mid_rg h1
      cases h3 : isRg (a - n) (b + n) (c - n) (d + n)
      · have H1 := Lib.hid h1
        have H2 := Lib.hid h2
        have H3 := Lib.hid h3
        have R : Hid (okGrow a b c d n = false) := Lib.hid (show okGrow a b c d n = false by simp [okGrow, h3])
        clear h1 h2 h3
        go_enter Try.func43, Try.ntmps43
        go_wp2_with fail
        refine (isAmount_any _ _).mono ?_
        rintro e w1 ⟨rfl, rfl⟩
        rw [H2.out]
        go_wp2_with fail
        refine (require_yes _).mono ?_
        rintro e w2 ⟨rfl, rfl⟩
        go_wp2
        refine wp_region_treeB (Pl.takes [0, 2] (.alone 1 (.alone 3 (.alone 4 (.alone 5 .done))))) (by kernel_rfl) (by kernel_rfl) (by kernel_rfl) (fun _ d _ _ _ h => by cases d <;> exact h) (fun hS0 => ?_)
        refine tplan_w (v := ?_) rfl (by rfl) ?_ ?_
        rotate_left
        · intro wx hSx
          obtain ⟨hcx, hfx, hzx⟩ := bcell hSx
          go_simp
          try (with_reducible rfl)
        try simp only [Act.put, List.setIfInBounds_toArray, List.set_cons_zero, List.set_cons_succ]
        refine tplan_w (v := ?_) rfl (by rfl) ?_ ?_
        rotate_left
        · intro wx hSx
          obtain ⟨hcx, hfx, hzx⟩ := bcell hSx
          go_simp
          try (with_reducible rfl)
        try simp only [Act.put, List.setIfInBounds_toArray, List.set_cons_zero, List.set_cons_succ]
        refine tplan_b rfl (fun K hK => ?_)
        go_simp
        refine (requireRegion_yes _ _ _ _ _ H1.out).mono ?_
        rintro e w1 ⟨rfl, hb1⟩
        have hS1 := belowS hS0 hb1
        refine hK _ _ ⟨hS1, ?_⟩
        clear hK K
        try simp only [Act.put, List.setIfInBounds_toArray, List.set_cons_zero, List.set_cons_succ]
        refine tplan_b rfl (fun K hK => ?_)
        go_simp
        refine (rgGrown_any _ _ _ _ _ _ ma mb mc md mn).mono ?_
        rintro e w2 ⟨rfl, hb2⟩
        have hS2 := belowS hS1 hb2
        refine hK _ _ ⟨hS2, ?_⟩
        clear hK K
        try simp only [Act.put, List.setIfInBounds_toArray, List.set_cons_zero, List.set_cons_succ]
        refine tplan_b rfl (fun K hK => ?_)
        go_simp
        refine (requireRegion_no _ _ _ _ _ H3.out).mono ?_
        rintro e w3 ⟨⟨u, pv, rfl⟩, hb3⟩
        have hS3 := belowS hS2 hb3
        exact ⟨rfl, FnR.no R.out ⟨_, _, rfl⟩ (by (repeat (first | assumption | exact Below.refl _ _ | (refine bl_alloc ?_ _) | (refine Below.drew ?_) | (refine bl_drewN ?_ _) | (refine bl_set ?_ (by first | (simp; done) | omega | (simp; omega)) _) | (refine bl_trans ?_ (by assumption)) | (refine bl_step ?_ (by assumption) (by first | omega | exact Below.size (by assumption) | (simp; omega) | (simp; exact Below.size (by assumption)))))))⟩
      · have H1 := Lib.hid h1
        have H2 := Lib.hid h2
        have H3 := Lib.hid h3
        have R : Hid (okGrow a b c d n = true) := Lib.hid (show okGrow a b c d n = true by simp [okGrow, h1, h2, h3])
        clear h1 h2 h3
        go_enter Try.func43, Try.ntmps43
        go_wp2_with fail
        refine (isAmount_any _ _).mono ?_
        rintro e w1 ⟨rfl, rfl⟩
        rw [H2.out]
        go_wp2_with fail
        refine (require_yes _).mono ?_
        rintro e w2 ⟨rfl, rfl⟩
        go_wp2
        refine wp_region_quietB (m := 5) (.alone 5 .done) (by kernel_rfl) (by kernel_rfl) (by kernel_rfl) ?_
        refine q_w (v := ?_) (by rfl) ?_ ?_
        rotate_left
        · intro wx hSx
          obtain ⟨hcx, hfx, hzx⟩ := bcell hSx
          go_simp
          try (with_reducible rfl)
        try simp only [Act.put, List.setIfInBounds_toArray, List.set_cons_zero, List.set_cons_succ]
        refine q_c (by rfl) (fun wx hSx => keepB hSx (Nat.le_refl _) (requireRegion_yes _ _ _ _ _ H1.out)) (fun wx hSx => by go_simp <;> (repeat' (first | rfl | apply And.intro))) ?_
        try simp only [Act.put, List.setIfInBounds_toArray, List.set_cons_zero, List.set_cons_succ]
        refine q_w (v := ?_) (by rfl) ?_ ?_
        rotate_left
        · intro wx hSx
          obtain ⟨hcx, hfx, hzx⟩ := bcell hSx
          go_simp
          try (with_reducible rfl)
        try simp only [Act.put, List.setIfInBounds_toArray, List.set_cons_zero, List.set_cons_succ]
        refine q_c (by rfl) (fun wx hSx => keepB hSx (Nat.le_refl _) (rgGrown_any _ _ _ _ _ _ ma mb mc md mn)) (fun wx hSx => by go_simp <;> (repeat' (first | rfl | apply And.intro))) ?_
        try simp only [Act.put, List.setIfInBounds_toArray, List.set_cons_zero, List.set_cons_succ]
        refine q_c (by rfl) (fun wx hSx => keepB hSx (Nat.le_refl _) (requireRegion_yes _ _ _ _ _ H3.out)) (fun wx hSx => by go_simp <;> (repeat' (first | rfl | apply And.intro))) ?_
        try simp only [Act.put, List.setIfInBounds_toArray, List.set_cons_zero, List.set_cons_succ]
        refine q_nil (fun w1 hb1 => ?_)
        obtain ⟨hc1, hf1, hz1⟩ := bcell hb1
        refine tplan_b rfl (fun K hK => ?_)
        go_simp
        refine hK _ _ ⟨trivial, ?_⟩
        clear hK K
        try simp only [Act.put, List.setIfInBounds_toArray, List.set_cons_zero, List.set_cons_succ]
        refine tplan_end ?_
        go_wp2
        exact bodyPost_ret (v := .agg #[.int .i64 (a - n), .int .i64 (b + n), .int .i64 (c - n), .int .i64 (d + n)]) (by simp [results, Try.results43, hc1, hz1, go_sem]) rfl (FnR.yes R.out (by (repeat (first | assumption | exact Below.refl _ _ | (refine bl_alloc ?_ _) | (refine Below.drew ?_) | (refine bl_drewN ?_ _) | (refine bl_set ?_ (by first | (simp; done) | omega | (simp; omega)) _) | (refine bl_trans ?_ (by assumption)) | (refine bl_step ?_ (by assumption) (by first | omega | exact Below.size (by assumption) | (simp; omega) | (simp; exact Below.size (by assumption))))))))
set_option maxHeartbeats 1600000 in
theorem GrowRegionI_any (a b c d n : Int) (w : World) :
    Calls Try.prog 18 #[.agg #[.int .i64 a, .int .i64 b, .int .i64 c, .int .i64 d], .int .i64 n] w fun e w' => e = .returned (grV a b c d n) ∧ Below w.heap.size w w' := by
  have hmf : ∀ (fn : Fn) (first cap : Array Value) (w : World), (Instr.makeFunc fn first cap).run Try.prog w = .ok (.func fn first cap) w := fun _ _ _ _ => rfl
  have eg : ∀ args w, (callFunc 43 args).run Try.prog w = .ok (.enter 43 args) w := enters_of Try.func43 (by kernel_rfl) rfl
  have hB := ((((Blk.new w #[.int .i64 a, .int .i64 b, .int .i64 c, .int .i64 d] 25).alloc (.cells #[.int .i64 n] 2)).alloc (.cells #[.int .i64 0, .int .i64 0, .int .i64 0, .int .i64 0] 25)).alloc (.cells #[.int .i64 0, .int .i64 0, .int .i64 0, .int .i64 0] 25)).alloc (.cells #[.bool false] 4)
  have hN := (((Blk.new (w.alloc (.cells #[.int .i64 a, .int .i64 b, .int .i64 c, .int .i64 d] 25)) #[.int .i64 n] 2).alloc (.cells #[.int .i64 0, .int .i64 0, .int .i64 0, .int .i64 0] 25)).alloc (.cells #[.int .i64 0, .int .i64 0, .int .i64 0, .int .i64 0] 25)).alloc (.cells #[.bool false] 4)
  rw [World.size_alloc] at hN
  have hx := attemptR_any 43 #[.pointer (some ⟨w.heap.size + 1, 0, none⟩), .pointer (some ⟨w.heap.size, 0, none⟩)] (((w.alloc (.cells #[.int .i64 a, .int .i64 b, .int .i64 c, .int .i64 d] 25)).alloc (.cells #[.int .i64 n] 2)).alloc (.cells #[.int .i64 0, .int .i64 0, .int .i64 0, .int .i64 0] 25)) (fun v _ => okGrow a b c d n = true ∧ v = .agg #[.int .i64 (a - n), .int .i64 (b + n), .int .i64 (c - n), .int .i64 (d + n)]) (okGrow a b c d n = false) eg
    (growFn_any w.heap.size (w.heap.size + 1) a b c d n _ (CellsR.of hB) (hN.cell 0 rfl) hN.lt)
  have h0 : Below w.heap.size w (((w.alloc (.cells #[.int .i64 a, .int .i64 b, .int .i64 c, .int .i64 d] 25)).alloc (.cells #[.int .i64 n] 2)).alloc (.cells #[.int .i64 0, .int .i64 0, .int .i64 0, .int .i64 0] 25)) := by (repeat (first | assumption | exact Below.refl _ _ | (refine bl_alloc ?_ _) | (refine Below.drew ?_) | (refine bl_drewN ?_ _) | (refine bl_set ?_ (by first | (simp; done) | omega | (simp; omega)) _) | (refine bl_trans ?_ (by assumption)) | (refine bl_step ?_ (by assumption) (by first | omega | exact Below.size (by assumption) | (simp; omega) | (simp; exact Below.size (by assumption))))))
  clear hB hN
  go_enter Try.func18, Try.ntmps18
  go_wp2_with fail
  refine hx.mono ?_
  rintro e w1 ⟨⟨x0, x1, x2, x3, w2, rfl, ⟨hi, hv⟩, -⟩ | ⟨rfl, hi⟩, hb1⟩
  · injection hv with hv
    injection hv with hv
    simp only [List.cons.injEq, Value.int.injEq, true_and, and_true] at hv
    obtain ⟨rfl, rfl, rfl, rfl⟩ := hv
    obtain ⟨hc1, hf1, hz1⟩ := bcell hb1
    have hz1' : w.heap.size + 2 < w1.heap.size := by (first | (simp at hz1; omega) | omega)
    have hz1'' : w.heap.size + 1 < w1.heap.size := by omega
    go_wp2
    exact bodyPost_ret (v := .tuple #[.agg #[.int .i64 (a - n), .int .i64 (b + n), .int .i64 (c - n), .int .i64 (d + n)], .bool true]) (by simp [results, Try.results18, hc1, hz1, hz1', hz1'', go_sem]) rfl ⟨by rw [grV, rgRes_t hi], by (repeat (first | assumption | exact Below.refl _ _ | (refine bl_alloc ?_ _) | (refine Below.drew ?_) | (refine bl_drewN ?_ _) | (refine bl_set ?_ (by first | (simp; done) | omega | (simp; omega)) _) | (refine bl_trans ?_ (by assumption)) | (refine bl_step ?_ (by assumption) (by first | omega | exact Below.size (by assumption) | (simp; omega) | (simp; exact Below.size (by assumption))))))⟩
  · obtain ⟨hc1, hf1, hz1⟩ := bcell hb1
    have hz1' : w.heap.size + 2 < w1.heap.size := by (first | (simp at hz1; omega) | omega)
    have hz1'' : w.heap.size + 1 < w1.heap.size := by omega
    go_wp2
    exact bodyPost_ret (v := .tuple #[.agg #[.int .i64 0, .int .i64 0, .int .i64 0, .int .i64 0], .bool false]) (by simp [results, Try.results18, hc1, hz1, hz1', hz1'', go_sem]) rfl ⟨by rw [grV, rgRes_f hi], by (repeat (first | assumption | exact Below.refl _ _ | (refine bl_alloc ?_ _) | (refine Below.drew ?_) | (refine bl_drewN ?_ _) | (refine bl_set ?_ (by first | (simp; done) | omega | (simp; omega)) _) | (refine bl_trans ?_ (by assumption)) | (refine bl_step ?_ (by assumption) (by first | omega | exact Below.size (by assumption) | (simp; omega) | (simp; exact Below.size (by assumption))))))⟩
end Go.Proofs.Ytkkeodceihjbgaa
