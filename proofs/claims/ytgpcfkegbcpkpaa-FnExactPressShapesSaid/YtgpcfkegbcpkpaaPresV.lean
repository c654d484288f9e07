/-
  Contracts: ValidPress, as the program has it and as the model has it; a search in rules by a function.
-/
import Derived.Test.YtgpcfkegbcpkpaaPres
namespace Go.Proofs.Ytgpcfkegbcpkpaa
set_option linter.unusedSimpArgs false
set_option linter.unusedVariables false
open Go.ChangeShapes Go.WideShapes Go.ChangeAt Go.RowKit Go.BigFrame

def rulV (r : R3) : Value := .agg #[.int .i64 r.1, .int .i64 r.2.1, .int .i64 r.2.2]
/-- -1 where all hold, and an index where one does not. -/
def IdxU (b : Bool) (w : World) (e : Ending) (w' : World) : Prop :=
  ∃ r : Int, e = .returned (.int .i64 r) ∧ Below w.heap.size w w' ∧ decide (0 ≤ r) = !b ∧ -1 ≤ r ∧ r ≤ 1048576
set_option maxHeartbeats 1600000 in
theorem indexRule_any (G Z : Nat) (p : Nat → Bool) (A : Option Addr) (rs : List R3) (c : Nat) (w : World) (eg : ∀ args w, (callFunc G args).run Try.prog w = .ok (.enter G args) w) (hp : RulAt w w.heap.size A rs) (hn : rs.length ≤ 1048576)
    (hG : ∀ k, k < rs.length → ∀ wx, Below w.heap.size w wx → Calls Try.prog G #[.agg #[.int .i64 (rs.getD k r30).1, .int .i64 (rs.getD k r30).2.1, .int .i64 (rs.getD k r30).2.2], .pointer (some ⟨Z, 0, none⟩)] wx fun e w' => e = .returned (.bool (!p k)) ∧ Below wx.heap.size wx w') :
    Calls Try.prog 97 #[.slice A rs.length c, .func (.func G) #[] #[.pointer (some ⟨Z, 0, none⟩)]] w (IdxU (okTo p rs.length) w) := by
  have hnI : (rs.length : Int) ≤ 1048576 := by omega
  have HG := Lib.hid hG
  clear hG
  go_enter Try.func97, Try.ntmps97
  go_wp2
  go_loopw [5, 8] (fun _ i wr => ∃ k : Nat, k ≤ rs.length ∧ i = .int .i64 k ∧ Hid (okTo p k = true) ∧ Below w.heap.size w wr) (fun _ i _ => rs.length - (intOf i).toNat)
  case atStart => exact ⟨0, Nat.zero_le _, rfl, rfl, Below.refl _ _⟩
  case round =>
    obtain ⟨k, hk, rfl, HX, hb⟩ := hrel
    have hk0 : (0 : Int) ≤ (k : Int) := by omega
    by_cases hlt : k < rs.length
    · obtain ⟨b, off, rfl, hbB, hc⟩ := hp (by omega)
      obtain ⟨e0, e1, e2⟩ := hc k hlt
      have f0 := (hb.cell (p := ⟨b, off + k * 3, none⟩) hbB).trans e0
      have f1 := (hb.cell (p := ⟨b, off + k * 3 + 1, none⟩) hbB).trans e1
      have f2 := (hb.cell (p := ⟨b, off + k * 3 + 2, none⟩) hbB).trans e2
      have hltI : (k : Int) < (rs.length : Int) := by omega
      have CG := Lib.hid (HG.out k hlt wr hb)
      clear hc e0 e1 e2 hp HG
      generalize rs.getD k r30 = r at *
      obtain ⟨x, y, z⟩ := r
      simp only at f0 f1 f2
      cases hin : p k
      · have HF : Hid (okTo p rs.length = false) := okTo_bad hlt hin
        rw [hin] at CG
        clear hin
        go_wp2_with fail
        refine CG.out.mono ?_
        rintro e w1 ⟨rfl, hb1⟩
        go_wp2
        go_ret
        exact ⟨k, rfl, hb.trans (hb1.mono hb.size), by rw [HF.out]; exact decide_eq_true (by omega), by omega, by omega⟩
      · have HX2 : Hid (okTo p (k + 1) = true) := okTo_next HX.out hin
        rw [hin] at CG
        clear hin
        go_wp2_with fail
        refine CG.out.mono ?_
        rintro e w1 ⟨rfl, hb1⟩
        go_wp2
        go_roundw
        case rel => exact ⟨k + 1, by omega, by go_num, HX2, hb.trans (hb1.mono hb.size)⟩
        case measure => simp [intOf]; omega
    · have HF : Hid (okTo p rs.length = true) := by
        have := HX.out
        rw [show k = rs.length by omega] at this
        exact this
      go_wp2
      go_ret
      exact ⟨-1, rfl, hb, by rw [HF.out]; rfl, by omega, by omega⟩
theorem containsRule_any (G Z : Nat) (p : Nat → Bool) (A : Option Addr) (rs : List R3) (c : Nat) (w : World) (eg : ∀ args w, (callFunc G args).run Try.prog w = .ok (.enter G args) w) (hp : RulAt w w.heap.size A rs) (hn : rs.length ≤ 1048576)
    (hG : ∀ k, k < rs.length → ∀ wx, Below w.heap.size w wx → Calls Try.prog G #[.agg #[.int .i64 (rs.getD k r30).1, .int .i64 (rs.getD k r30).2.1, .int .i64 (rs.getD k r30).2.2], .pointer (some ⟨Z, 0, none⟩)] wx fun e w' => e = .returned (.bool (!p k)) ∧ Below wx.heap.size wx w') :
    Calls Try.prog 54 #[.slice A rs.length c, .func (.func G) #[] #[.pointer (some ⟨Z, 0, none⟩)]] w fun e w' => e = .returned (.bool (!okTo p rs.length)) ∧ Below w.heap.size w w' := by
  have ci := Lib.hid (indexRule_any G Z p A rs c w eg hp hn hG)
  clear hG hp
  go_enter Try.func54, Try.ntmps54
  go_wp2_with fail
  refine ci.out.mono ?_
  rintro e w' ⟨r, rfl, hb, hd, h1, h2⟩
  have HD := Lib.hid hd
  clear hd
  go_wp2
  go_ret
  exact ⟨retB HD.out, hb⟩
theorem validClo_any (x y z n : Int) (Z : Nat) (w : World) (c0 : w.cell? ⟨Z, 0, none⟩ = some (.int .i64 n)) :
    Calls Try.prog 55 #[.agg #[.int .i64 x, .int .i64 y, .int .i64 z], .pointer (some ⟨Z, 0, none⟩)] w fun e w' => e = .returned (.bool (!ruB n (x, y, z))) ∧ Below w.heap.size w w' := by
  have hZ := World.block_lt_of_cell? w _ c0
  have hx : Below w.heap.size w (w.alloc (.cells #[.int .i64 x, .int .i64 y, .int .i64 z] 60)) := by (repeat (first | assumption | exact Below.refl _ _ | (refine bl_alloc ?_ _) | (refine Below.drew ?_) | (refine bl_drewN ?_ _) | (refine bl_set ?_ (by first | (simp; done) | omega | (simp; omega)) _) | (refine bl_trans ?_ (by assumption)) | (refine bl_step ?_ (by assumption) (by first | omega | exact Below.size (by assumption) | (simp; omega) | (simp; exact Below.size (by assumption))))))
  have cc := Lib.hid (isFor_any x y z n (w.alloc (.cells #[.int .i64 x, .int .i64 y, .int .i64 z] 60)))
  generalize ruB n (x, y, z) = b at *
  go_enter Try.func55, Try.ntmps55
  go_wp2_with fail
  refine cc.out.mono ?_
  rintro e w1 ⟨rfl, hb1⟩
  go_wp2
  go_ret
  exact ⟨rfl, bl_step hx hb1 hx.size⟩
set_option maxRecDepth 100000 in
set_option maxHeartbeats 1600000 in
theorem ValidPressI_any (n : Int) (A : Option Addr) (rs : List R3) (c : Nat) (w : World) (hp : RulAt w w.heap.size A rs) (hl : rs.length ≤ 1048576) :
    Calls Try.prog 17 #[.agg #[.int .i64 n, .slice A rs.length c]] w fun e w' => e = .returned (.bool (prB n rs)) ∧ Below w.heap.size w w' := by
  have hx : Below w.heap.size w (w.alloc (.cells #[.int .i64 n, .slice A rs.length c] 29)) := by (repeat (first | assumption | exact Below.refl _ _ | (refine bl_alloc ?_ _) | (refine Below.drew ?_) | (refine bl_drewN ?_ _) | (refine bl_set ?_ (by first | (simp; done) | omega | (simp; omega)) _) | (refine bl_trans ?_ (by assumption)) | (refine bl_step ?_ (by assumption) (by first | omega | exact Below.size (by assumption) | (simp; omega) | (simp; exact Below.size (by assumption))))))
  have hlI : (rs.length : Int) ≤ 1048576 := by omega
  by_cases h1 : inB n 1 16 = true
  case neg =>
    have R := Lib.hid (prB_n (rs := rs) (by simpa using h1))
    rw [R.out]
    have h1' : ¬ (1 ≤ n ∧ n ≤ 16) := fun h => h1 (decide_eq_true h)
    clear h1
    by_cases h2 : 1 ≤ n
    · have h3 : ¬ n ≤ 16 := fun h => h1' ⟨h2, h⟩
      go_enter Try.func17, Try.ntmps17
      go_wp2
      go_ret
      exact ⟨rfl, hx⟩
    · go_enter Try.func17, Try.ntmps17
      go_wp2
      go_ret
      exact ⟨rfl, hx⟩
  obtain ⟨n1, n16⟩ : 1 ≤ n ∧ n ≤ 16 := of_decide_eq_true h1
  by_cases h2 : rs.length ≤ 40
  case neg =>
    have R := Lib.hid (prB_l (n := n) h2)
    rw [R.out]
    have h2I : ¬ (rs.length : Int) ≤ 40 := by omega
    clear h1 h2
    go_enter Try.func17, Try.ntmps17
    go_wp2
    go_ret
    exact ⟨rfl, hx⟩
  have h2I : (rs.length : Int) ≤ 40 := by omega
  have R := Lib.hid (prB_t h1 h2)
  rw [R.out]
  have kp := Blk.new w #[.int .i64 n, .slice A rs.length c] 29
  have cc := Lib.hid (containsRule_any 55 w.heap.size (ruAt n rs) A rs c _ (fun _ _ => by first | rfl | (simp [go_sem]; done)) (hp.to hx) (by omega)
    (fun k hk wx hb => validClo_any _ _ _ n _ wx ((kp.to hb).cell 0 rfl)))
  clear h1 h2 hp kp
  generalize okTo (ruAt n rs) rs.length = b at *
  go_enter Try.func17, Try.ntmps17
  go_wp2_with fail
  refine cc.out.mono ?_
  rintro e w1 ⟨rfl, hb1⟩
  go_wp2
  go_ret
  exact ⟨by simp, bl_step hx hb1 hx.size⟩
theorem ValidPressS_any (n : Int) (A : Option Addr) (rs : List R3) (c : Nat) (w : World) (hp : RulAt w w.heap.size A rs) (hl : rs.length ≤ 1048576) :
    Calls Try.prog 15 #[.agg #[.int .i64 n, .slice A rs.length c]] w fun e w' => e = .returned (.bool (prB n rs)) ∧ Below w.heap.size w w' := by
  have hx : Below w.heap.size w (w.alloc (.cells #[.int .i64 n, .slice A rs.length c] 29)) := by (repeat (first | assumption | exact Below.refl _ _ | (refine bl_alloc ?_ _) | (refine Below.drew ?_) | (refine bl_drewN ?_ _) | (refine bl_set ?_ (by first | (simp; done) | omega | (simp; omega)) _) | (refine bl_trans ?_ (by assumption)) | (refine bl_step ?_ (by assumption) (by first | omega | exact Below.size (by assumption) | (simp; omega) | (simp; exact Below.size (by assumption))))))
  have cc := l09Is_any w.heap.size n A rs c (w.alloc (.cells #[.int .i64 n, .slice A rs.length c] 29)) (by go_simp) (by go_simp) (hp.to hx) hl
  go_enter Try.func15, Try.ntmps15
  go_wp2_with fail
  refine cc.mono ?_
  rintro e w1 ⟨rfl, hb1⟩
  go_wp2
  go_ret
  exact ⟨rfl, bl_step hx hb1 hx.size⟩
end Go.Proofs.Ytgpcfkegbcpkpaa
