/-
  Presses in a law: the argument opened, its size, copy and comparison.
-/
import Derived.Test.YtgpcfkegbcpkpaaPresV
import Derived.Test.YtgpcfkegbcpkpaaOpen
import Derived.Laws.ResultCell
namespace Go.Proofs.Ytgpcfkegbcpkpaa
set_option linter.unusedSimpArgs false
set_option linter.unusedVariables false
open Go.ChangeShapes Go.WideShapes Go.ChangeAt Go.RowKit

variable {H : Type} {enc : TypeId × Value → H}
/-- A press as an argument brings it. -/
def PrIn (w : World) (n : Int) (A : Option Addr) (rs : List R3) (c : Nat) : Prop := Fits n ∧ RulAt w w.heap.size A rs ∧ (∀ q ∈ rs, fitsRul q) ∧ rs.length ≤ c ∧ c ≤ maxLen
set_option maxRecDepth 100000 in
theorem open_press {w : World} {v : Value} {d : DataW H} {p : List MemPlace} {r : Reach} {b0 : Nat} (hv : Value.okWide Try.prog w r b0 24 v) (h : DataW.Trod enc Try.prog w 0 (fun _ => true) true 24 v d p) :
    ∃ (n : Int) (A : Option Addr) (rs : List R3) (c : Nat), v = .agg #[.int .i64 n, .slice A rs.length c] ∧ PrIn w n A rs c := by
  obtain ⟨c0, c1, y0, y1, m, rfl, _, _, hy0, hy1⟩ := Go.Joins.open_agg2 Try.underlying24 (by kernel_rfl) (by kernel_rfl) hv h
  obtain ⟨n, e0, _, wn⟩ := DataW.trod_int Try.underlying2 hy0
  simp at e0
  subst e0
  obtain ⟨A, rs, c, rfl, h1⟩ := open_Rul hy1
  exact ⟨n, A, rs, c, rfl, fits_of wn, h1⟩
theorem szPress_fits (n : Int) (A : Option Addr) (l c : Nat) (w : World) (hl : l ≤ 1048576) :
    Calls Try.prog 14 #[.agg #[.int .i64 n, .slice A l c], .int .i64 1048576] w fun e w' => e = .returned (.int .i64 (1048576 - l)) ∧ Below w.heap.size w w' := by
  have hz : ¬ (1048576 - (l : Int)) < 0 := by omega
  go_enter Try.func14, Try.ntmps14
  go_wp2_with fail
  refine (szRuleS_any _ _ _ _ hl).mono ?_
  rintro e w1 ⟨rfl, rfl⟩
  go_wp2
  go_ret
  exact ⟨rfl, by (repeat (first | assumption | exact Below.refl _ _ | (refine bl_alloc ?_ _) | (refine Below.drew ?_) | (refine bl_drewN ?_ _) | (refine bl_set ?_ (by first | (simp; done) | omega | (simp; omega)) _) | (refine bl_trans ?_ (by assumption)) | (refine bl_step ?_ (by assumption) (by first | omega | exact Below.size (by assumption) | (simp; omega) | (simp; exact Below.size (by assumption))))))⟩
theorem szPress_big (n : Int) (A : Option Addr) (l c : Nat) (w : World) (hl : 1048576 < l) (hm : l ≤ maxLen) :
    Calls Try.prog 14 #[.agg #[.int .i64 n, .slice A l c], .int .i64 1048576] w fun e w' => e = .returned (.int .i64 (-1)) ∧ Below w.heap.size w w' := by
  go_enter Try.func14, Try.ntmps14
  go_wp2_with fail
  refine (szRuleS_big _ _ _ _ hl hm).mono ?_
  rintro e w1 ⟨rfl, rfl⟩
  go_wp2
  go_ret
  exact ⟨rfl, by (repeat (first | assumption | exact Below.refl _ _ | (refine bl_alloc ?_ _) | (refine Below.drew ?_) | (refine bl_drewN ?_ _) | (refine bl_set ?_ (by first | (simp; done) | omega | (simp; omega)) _) | (refine bl_trans ?_ (by assumption)) | (refine bl_step ?_ (by assumption) (by first | omega | exact Below.size (by assumption) | (simp; omega) | (simp; exact Below.size (by assumption))))))⟩
/-- A new press that holds the same, its rules in a block of their own. -/
def NewPress (n : Int) (rs : List R3) (w : World) (e : Ending) (w' : World) : Prop :=
  ∃ g, e = .returned (.agg #[.int .i64 n, .slice (some ⟨g, 0, none⟩) rs.length rs.length]) ∧ RulBlk w' g rs rs.length ∧ Below w.heap.size w w' ∧ w.heap.size ≤ g
set_option maxHeartbeats 1600000 in
theorem toPress_new (n : Int) (A : Option Addr) (rs : List R3) (c : Nat) (w : World) (hp : RulAt w w.heap.size A rs) (hl : rs.length ≤ 1048576) :
    Calls Try.prog 16 #[.agg #[.int .i64 n, .slice A rs.length c]] w (NewPress n rs w) := by
  have hb0 : Below w.heap.size w (((w.alloc (.cells #[.int .i64 n, .slice A rs.length c] 24)).alloc (.cells #[.int .i64 0, .slice none 0 0] 29)).alloc (.cells #[.int .i64 n, .slice none 0 0] 29)) := by (repeat (first | assumption | exact Below.refl _ _ | (refine bl_alloc ?_ _) | (refine Below.drew ?_) | (refine bl_drewN ?_ _) | (refine bl_set ?_ (by first | (simp; done) | omega | (simp; omega)) _) | (refine bl_trans ?_ (by assumption)) | (refine bl_step ?_ (by assumption) (by first | omega | exact Below.size (by assumption) | (simp; omega) | (simp; exact Below.size (by assumption))))))
  have CC := Lib.hid (toRuleS_new A rs c _ (hp.to hb0) hl)
  have kr : Blk (((w.alloc (.cells #[.int .i64 n, .slice A rs.length c] 24)).alloc (.cells #[.int .i64 0, .slice none 0 0] 29)).alloc (.cells #[.int .i64 n, .slice none 0 0] 29)) (w.heap.size + 1) #[.int .i64 0, .slice none 0 0] 29 := by
    have := (Blk.new (w.alloc (.cells #[.int .i64 n, .slice A rs.length c] 24)) #[.int .i64 0, .slice none 0 0] 29).alloc (.cells #[.int .i64 n, .slice none 0 0] 29)
    rwa [World.size_alloc] at this
  have ko : Blk (((w.alloc (.cells #[.int .i64 n, .slice A rs.length c] 24)).alloc (.cells #[.int .i64 0, .slice none 0 0] 29)).alloc (.cells #[.int .i64 n, .slice none 0 0] 29)) (w.heap.size + 1 + 1) #[.int .i64 n, .slice none 0 0] 29 := by
    have := Blk.new ((w.alloc (.cells #[.int .i64 n, .slice A rs.length c] 24)).alloc (.cells #[.int .i64 0, .slice none 0 0] 29)) #[.int .i64 n, .slice none 0 0] 29
    rwa [World.size_alloc, World.size_alloc] at this
  clear hp
  go_enter Try.func16, Try.ntmps16
  go_wp2_with fail
  generalize (((w.alloc (.cells #[.int .i64 n, .slice A rs.length c] 24)).alloc (.cells #[.int .i64 0, .slice none 0 0] 29)).alloc (.cells #[.int .i64 n, .slice none 0 0] 29)) = w0 at *
  refine CC.out.mono ?_
  rintro e w1 ⟨g, rfl, hB, hb1, hg⟩
  have hg' : w.heap.size + 1 + 1 < g := by have := ko.lt; omega
  replace kr := kr.to hb1
  replace ko := ko.to hb1
  replace hb1 := bl_trans hb0 hb1
  have o1 := ko.cell 1 rfl
  have f1 := ko.frozen 1
  have t0 := kr.cell 0 rfl
  have t1 := kr.cell 1 rfl
  have q0 := kr.frozen 0
  have q1 := kr.frozen 1
  have c0 := ko.cell 0 (v := .int .i64 n) rfl
  have ke := ((kr.far (p := ⟨w.heap.size + 1 + 1, 1, none⟩) (by simp) (.slice (some ⟨g, 0, none⟩) rs.length rs.length)).set 0 (.int .i64 n)).set 1 (.slice (some ⟨g, 0, none⟩) rs.length rs.length)
  have hk : (((w1.setCell ⟨w.heap.size + 1 + 1, 1, none⟩ (.slice (some ⟨g, 0, none⟩) rs.length rs.length)).setCell ⟨w.heap.size + 1, 0, none⟩ (.int .i64 n)).setCell ⟨w.heap.size + 1, 1, none⟩ (.slice (some ⟨g, 0, none⟩) rs.length rs.length)).heap[g]? = w1.heap[g]? := by
    rw [Below.heap_setCell _ _ _ g (by simp; omega), Below.heap_setCell _ _ _ g (by simp; omega), Below.heap_setCell _ _ _ g (by simp; omega)]
  have hbE : Below w.heap.size w (((w1.setCell ⟨w.heap.size + 1 + 1, 1, none⟩ (.slice (some ⟨g, 0, none⟩) rs.length rs.length)).setCell ⟨w.heap.size + 1, 0, none⟩ (.int .i64 n)).setCell ⟨w.heap.size + 1, 1, none⟩ (.slice (some ⟨g, 0, none⟩) rs.length rs.length)) :=
    ((hb1.setCell (p := ⟨w.heap.size + 1 + 1, 1, none⟩) (by simp; omega) _).setCell (p := ⟨w.heap.size + 1, 0, none⟩) (by simp) _).setCell (p := ⟨w.heap.size + 1, 1, none⟩) (by simp) _
  have hBE := hB.keep hk
  clear kr ko hB hk hb1
  go_wp2
  generalize (((w1.setCell ⟨w.heap.size + 1 + 1, 1, none⟩ (.slice (some ⟨g, 0, none⟩) rs.length rs.length)).setCell ⟨w.heap.size + 1, 0, none⟩ (.int .i64 n)).setCell ⟨w.heap.size + 1, 1, none⟩ (.slice (some ⟨g, 0, none⟩) rs.length rs.length)) = wE at *
  have e0 := ke.cell 0 (v := .int .i64 n) (by simp)
  have e1 := ke.cell 1 (v := .slice (some ⟨g, 0, none⟩) rs.length rs.length) (by simp)
  refine bodyPost_ret_by (v := .agg #[.int .i64 n, .slice (some ⟨g, 0, none⟩) rs.length rs.length]) ?_ rfl ⟨g, rfl, hBE, hbE, by omega⟩
  simp [results, Try.results16, go_sem, e0, e1]
set_option maxHeartbeats 800000 in
theorem eqPress_same (n : Int) (A B : Option Addr) (rs : List R3) (c d : Nat) (w : World) (hp : RulAt w w.heap.size A rs) (hq : RulAt w w.heap.size B rs) (hl : rs.length ≤ 1048576) :
    Calls Try.prog 18 #[.agg #[.int .i64 n, .slice A rs.length c], .agg #[.int .i64 n, .slice B rs.length d]] w fun e w' => e = .returned (.bool true) ∧ Below w.heap.size w w' := by
  have hb0 : Below w.heap.size w ((w.alloc (.cells #[.int .i64 n, .slice A rs.length c] 29)).alloc (.cells #[.int .i64 n, .slice B rs.length d] 29)) := by (repeat (first | assumption | exact Below.refl _ _ | (refine bl_alloc ?_ _) | (refine Below.drew ?_) | (refine bl_drewN ?_ _) | (refine bl_set ?_ (by first | (simp; done) | omega | (simp; omega)) _) | (refine bl_trans ?_ (by assumption)) | (refine bl_step ?_ (by assumption) (by first | omega | exact Below.size (by assumption) | (simp; omega) | (simp; exact Below.size (by assumption))))))
  have CC := Lib.hid (eqRuleS_same A B rs c d _ (hp.to hb0) (hq.to hb0) hl)
  clear hp hq
  go_enter Try.func18, Try.ntmps18
  go_wp2_with fail
  refine CC.out.mono ?_
  rintro e w1 ⟨rfl, hb1⟩
  go_wp2
  go_ret
  exact ⟨rfl, bl_step hb0 hb1 hb0.size⟩
end Go.Proofs.Ytgpcfkegbcpkpaa
