/-
  Contract: is a bundle valid, as the program has it.
-/
import Derived.Test.YtifenbamookmiaaDoorBunS
namespace Go.Proofs.YtifenbamookmiaaDoor
set_option linter.unusedSimpArgs false
set_option linter.unusedVariables false
open Go.ChangeShapes Go.WideShapes Go.ChangeAt Go.RowKit

theorem isNoWeight_at {n : Int} {b : Bool} (h : Hid (inB n 0 1000 = b)) (w : World) :
    Calls Tryd.prog 81 #[.int .i64 n] w fun e w' => e = .returned (.bool (!b)) ∧ w = w' := by
  cases b
  · by_cases h1 : n < 0
    · clear h
      go_enter Tryd.func81, Tryd.ntmps81
      go_wp2
      go_ret
      exact ⟨rfl, rfl⟩
    · have h2 : 1000 < n := by have := h.out; simp [inB] at this; omega
      have hd : decide (n < 0) = false := decide_eq_false h1
      clear h h1
      go_enter Tryd.func81, Tryd.ntmps81
      go_wp2
      go_ret
      exact ⟨rfl, rfl⟩
  · have h0 : 0 ≤ n ∧ n ≤ 1000 := by have := h.out; simpa [inB] using this
    have h1 : decide (n < 0) = false := decide_eq_false (by omega)
    have h2 : decide (1000 < n) = false := decide_eq_false (by omega)
    clear h h0
    go_enter Tryd.func81, Tryd.ntmps81
    go_wp2
    go_ret
    exact ⟨rfl, rfl⟩

/-- -1 where all hold, and an index where one does not. -/
def IdxW (b : Bool) (w : World) (e : Ending) (w' : World) : Prop :=
  ∃ r : Int, e = .returned (.int .i64 r) ∧ w = w' ∧ decide (0 ≤ r) = !b ∧ -1 ≤ r ∧ r ≤ 1048576
set_option maxHeartbeats 800000 in
theorem indexNoW_any (A : Option Addr) (R : List Int) (c : Nat) (w : World) (hp : IntsAt w w.heap.size A R) (hn : R.length ≤ 1048576) :
    Calls Tryd.prog 84 #[.slice A R.length c, .func (.func 81) #[] #[]] w (IdxW (wtsB R) w) := by
  have hnI : (R.length : Int) ≤ 1048576 := by omega
  go_enter Tryd.func84, Tryd.ntmps84
  go_wp2
  go_loop [5, 8] (fun _ i => ∃ k : Nat, k ≤ R.length ∧ i = .int .i64 k ∧ Hid (okTo (wtB R) k = true)) (fun _ i => R.length - (intOf i).toNat)
  case atStart => exact ⟨0, Nat.zero_le _, rfl, rfl⟩
  case round =>
    obtain ⟨k, hk, rfl, HX⟩ := hrel
    have hk0 : (0 : Int) ≤ (k : Int) := by omega
    by_cases hlt : k < R.length
    · obtain ⟨b, off, rfl, hbB, hc⟩ := hp (by omega)
      have d0 := hc k hlt
      have hltI : (k : Int) < (R.length : Int) := by omega
      cases hin : inB (R.getD k 0) 0 1000
      · have HF : Hid (wtsB R = false) := okTo_bad (f := wtB R) hlt hin
        have HI := Lib.hid hin
        clear hc hin hp
        generalize R.getD k 0 = v at *
        go_wp2_with (go_at_call 81; refine (isNoWeight_at HI _).mono ?_; rintro e w' ⟨rfl, rfl⟩)
        go_ret
        exact ⟨k, rfl, rfl, by rw [HF.out]; exact decide_eq_true (by omega), by omega, by omega⟩
      · have HX2 : Hid (okTo (wtB R) (k + 1) = true) := okTo_next HX.out hin
        have HI := Lib.hid hin
        clear hc hin hp
        generalize R.getD k 0 = v at *
        go_wp2_with (go_at_call 81; refine (isNoWeight_at HI _).mono ?_; rintro e w' ⟨rfl, rfl⟩)
        go_round
        case rel => exact ⟨k + 1, by omega, by go_num, HX2⟩
        case measure => simp [intOf]; omega
    · have HF : Hid (wtsB R = true) := by
        have := HX.out
        rw [show k = R.length by omega] at this
        exact this
      go_wp2
      go_ret
      exact ⟨-1, rfl, rfl, by rw [HF.out]; rfl, by omega, by omega⟩
theorem containsNoW_any (A : Option Addr) (R : List Int) (c : Nat) (w : World) (hp : IntsAt w w.heap.size A R) (hn : R.length ≤ 1048576) :
    Calls Tryd.prog 80 #[.slice A R.length c, .func (.func 81) #[] #[]] w fun e w' => e = .returned (.bool (!wtsB R)) ∧ w = w' := by
  go_enter Tryd.func80, Tryd.ntmps80
  go_wp2_with fail
  refine (indexNoW_any _ _ _ _ hp hn).mono ?_
  rintro e w' ⟨r, rfl, rfl, hd, h1, h2⟩
  have HD := Lib.hid hd
  clear hd
  go_wp2
  go_ret
  exact ⟨retB HD.out, rfl⟩

/-- What the program asks of a row. -/
def RowG (B : Mz) (n i : Nat) : Prop := (B.getD i []).length = n ∧ wtI B i i = 0 ∧ wtsB (B.getD i []) = true ∧ ∀ k, k < i → wtI B i k = wtI B k i
theorem bn_of_rows {B : Mz} {n : Nat} (e : B.length = n) (h1 : 1 ≤ n) (h9 : n ≤ 9) (h : ∀ i, i < n → RowG B n i) : bnB B = true := bnB_iff.2 <| by
  subst e
  refine ⟨h1, h9, fun i hi => (h i hi).1, fun i k hi hk => ?_, fun i k hi hk => ?_, fun i hi => (h i hi).2.1⟩
  · obtain ⟨a, _, b, _⟩ := h i hi
    have := okTo_iff.1 b k (by omega)
    simpa [wtB, inB, wtI] using this
  · rcases Nat.lt_trichotomy i k with hl | hl | hl
    · exact ((h k hk).2.2.2 i hl).symm
    · rw [hl]
    · exact (h i hi).2.2.2 k hl
theorem bn_wts {B : Mz} {i : Nat} (o : BnOk B) (hi : i < B.length) : wtsB (B.getD i []) = true := okTo_iff.2 fun k hk => by
  have := o.w0 i k hi (by have := o.row i hi; omega)
  simpa [wtB, inB, wtI] using this
set_option maxRecDepth 100000 in
set_option maxHeartbeats 3200000 in
theorem ValidBundleI_any (A : Option Addr) (Ls : List SlI) (c : Nat) (w : World) (hp : ISAt w w.heap.size A Ls) (hn : Ls.length ≤ 1048576) (hl : ∀ i, i < Ls.length → (Ls.getD i si0).2.1.length ≤ 1048576) :
    Calls Tryd.prog 69 #[.agg #[.slice A Ls.length c]] w fun e w' => e = .returned (.bool (bnB (heldI Ls))) ∧ Below w.heap.size w w' := by
  have HLe := Lib.hid (heldI_len Ls)
  have hnI : (Ls.length : Int) ≤ 1048576 := by omega
  by_cases h1 : Ls.length < 1
  · have HF : Hid (bnB (heldI Ls) = false) := bnB_f fun o => by have := o.h1; rw [HLe.out] at this; omega
    have hd : ((Ls.length : Int) < 1) := by omega
    have H := Lib.hid h1
    clear h1 hp hl
    generalize Ls.length = n at *
    go_enter Tryd.func69, Tryd.ntmps69
    go_wp2
    go_ret
    exact ⟨retB (by rw [HF.out]), by (repeat (first | assumption | exact Below.refl _ _ | (refine bl_alloc ?_ _) | (refine Below.drew ?_) | (refine bl_drewN ?_ _) | (refine bl_set ?_ (by first | (simp; done) | omega | (simp; omega)) _) | (refine bl_trans ?_ (by assumption)) | (refine bl_step ?_ (by assumption) (by first | omega | exact Below.size (by assumption) | (simp; omega) | (simp; exact Below.size (by assumption))))))⟩
  by_cases h9 : 9 < Ls.length
  · have HF : Hid (bnB (heldI Ls) = false) := bnB_f fun o => by have := o.h9; rw [HLe.out] at this; omega
    have hd : decide ((Ls.length : Int) < 1) = false := decide_eq_false (by omega)
    have hd2 : (9 : Int) < (Ls.length : Int) := by omega
    have H := Lib.hid h1
    have H9 := Lib.hid h9
    clear h1 hp hl h9
    generalize Ls.length = n at *
    go_enter Tryd.func69, Tryd.ntmps69
    go_wp2
    go_ret
    exact ⟨retB (by rw [HF.out]), by (repeat (first | assumption | exact Below.refl _ _ | (refine bl_alloc ?_ _) | (refine Below.drew ?_) | (refine bl_drewN ?_ _) | (refine bl_set ?_ (by first | (simp; done) | omega | (simp; omega)) _) | (refine bl_trans ?_ (by assumption)) | (refine bl_step ?_ (by assumption) (by first | omega | exact Below.size (by assumption) | (simp; omega) | (simp; exact Below.size (by assumption))))))⟩
  obtain ⟨b, off, rfl, hbB, hc⟩ := hp (by omega)
  obtain ⟨n, hLn⟩ : ∃ n, Ls.length = n := ⟨_, rfl⟩
  have HC : Hid (∀ i, i < n → w.cell? ⟨b, off + i, none⟩ = some (.slice (Ls.getD i si0).1 (Ls.getD i si0).2.1.length (Ls.getD i si0).2.2) ∧ IntsAt w w.heap.size (Ls.getD i si0).1 (Ls.getD i si0).2.1 ∧ (Ls.getD i si0).2.1.length ≤ 1048576) := fun i hi => ⟨(hc i (by omega)).1, (hc i (by omega)).2.1, hl i (by omega)⟩
  rw [hLn] at HLe h1 h9 hnI ⊢
  have hd : decide ((n : Int) < 1) = false := decide_eq_false (by omega)
  have hd2 : decide ((9 : Int) < (n : Int)) = false := decide_eq_false (by omega)
  have H1 : Hid (1 ≤ n ∧ n ≤ 9) := ⟨by omega, by omega⟩
  have hx : Below w.heap.size w (w.alloc (.cells #[.slice (some ⟨b, off, none⟩) n c] 29)) := by (repeat (first | assumption | exact Below.refl _ _ | (refine bl_alloc ?_ _) | (refine Below.drew ?_) | (refine bl_drewN ?_ _) | (refine bl_set ?_ (by first | (simp; done) | omega | (simp; omega)) _) | (refine bl_trans ?_ (by assumption)) | (refine bl_step ?_ (by assumption) (by first | omega | exact Below.size (by assumption) | (simp; omega) | (simp; exact Below.size (by assumption))))))
  have g0 : (w.alloc (.cells #[.slice (some ⟨b, off, none⟩) n c] 29)).cell? ⟨w.heap.size, 0, none⟩ = some (.slice (some ⟨b, off, none⟩) n c) := by go_simp
  have zx : w.heap.size < (w.alloc (.cells #[.slice (some ⟨b, off, none⟩) n c] 29)).heap.size := by simp
  clear hc hp hl hLn hn h1 h9
  go_enter Tryd.func69, Tryd.ntmps69
  go_wp2
  generalize (w.alloc (.cells #[.slice (some ⟨b, off, none⟩) n c] 29)) = w1 at *
  go_loopw [4, 5, 6, 19, 40] (fun _ _ _ p _ wr => ∃ k : Nat, k ≤ n ∧ p = .int .i64 k ∧ Hid (∀ i, i < k → RowG (heldI Ls) n i) ∧ Below w1.heap.size w1 wr) (fun _ _ _ p _ _ => n - (intOf p).toNat)
  case atStart => exact ⟨0, Nat.zero_le _, rfl, fun i hi => by omega, Below.refl _ _⟩
  case round =>
    obtain ⟨p, hp, rfl, HX, hbo⟩ := hrel
    have hp0 : (0 : Int) ≤ (p : Int) := by omega
    obtain ⟨wo, h⟩ : ∃ wo, wo = wr := ⟨_, rfl⟩
    subst h
    have bo := bl_step hx hbo hx.size
    by_cases hpt : p < n
    · have hpI : (p : Int) < (n : Int) := by omega
      obtain ⟨c0, c1, c2⟩ := HC.out p hpt
      have d0 := (bo.cell (p := ⟨b, off + p, none⟩) hbB).trans c0
      have hrow := heldI_row Ls p
      have hlI : ((Ls.getD p si0).2.1.length : Int) ≤ 1048576 := by omega
      by_cases he : (Ls.getD p si0).2.1.length = n
      case neg =>
        have HF : Hid (bnB (heldI Ls) = false) := bnB_f fun o => he (by have := o.row p (by rw [HLe.out]; exact hpt); rw [heldI_row, HLe.out] at this; exact this)
        have hne : (((Ls.getD p si0).2.1.length : Int) != (n : Int)) = true := int_ne he
        have hne2 : ((Ls.getD p si0).2.1.length != n) = true := nat_ne he
        clear he c0 c1 c2 hrow
        generalize (Ls.getD p si0).2.1.length = m at *
        generalize (Ls.getD p si0).1 = Ay at *
        generalize (Ls.getD p si0).2.2 = ky at *
        go_wp2
        go_ret
        exact ⟨retB (by rw [HF.out]), bo⟩
      have hne : (((Ls.getD p si0).2.1.length : Int) != (n : Int)) = false := int_eq he
      have hne2 : ((Ls.getD p si0).2.1.length != n) = false := nat_eq he
      obtain ⟨bp, op, e1, hbp, vp⟩ := c1 (by omega)
      have HVP : Hid (∀ k, k < n → w.cell? ⟨bp, op + k, none⟩ = some (.int .i64 (wtI (heldI Ls) p k))) := fun k hk => by rw [wtI_held]; exact vp k (by omega)
      have vd := (bo.cell (p := ⟨bp, op + p, none⟩) hbp).trans (HVP.out p hpt)
      have CN := Lib.hid (fun wx (hb : Below w.heap.size w wx) => containsNoW_any (some ⟨bp, op, none⟩) (Ls.getD p si0).2.1 (Ls.getD p si0).2.2 wx (by rw [← e1]; exact c1.to hb) c2)
      rw [e1, he] at d0
      rw [he] at CN hne hne2
      have HRL : Hid ((heldI Ls).getD p [] = (Ls.getD p si0).2.1) := hrow
      have HE := Lib.hid he
      clear he c0 c1 c2 hrow vp e1 hlI
      generalize (Ls.getD p si0).2.1 = R at *
      generalize (Ls.getD p si0).2.2 = ky at *
      by_cases hz : wtI (heldI Ls) p p = 0
      case neg =>
        have HF : Hid (bnB (heldI Ls) = false) := bnB_f fun o => hz (o.diag p (by rw [HLe.out]; exact hpt))
        have hz2 : (wtI (heldI Ls) p p != 0) = true := by simpa using hz
        clear hz
        generalize wtI (heldI Ls) p p = z at *
        go_wp2
        go_ret
        exact ⟨retB (by rw [HF.out]), bo⟩
      have HZ := Lib.hid hz
      rw [hz] at vd
      clear hz
      cases hw : wtsB R
      · have HF : Hid (bnB (heldI Ls) = false) := bnB_f fun o => by
          have := bn_wts o (i := p) (by rw [HLe.out]; exact hpt)
          rw [HRL.out, hw] at this; cases this
        rw [hw] at CN
        clear hw
        go_wp2_with fail
        refine (CN.out _ bo).mono ?_
        rintro e w' ⟨rfl, rfl⟩
        go_wp2
        go_ret
        exact ⟨retB (by rw [HF.out]), bo⟩
      rw [hw] at CN
      have HW := Lib.hid hw
      clear hw
      go_wp2_with fail
      refine (CN.out _ bo).mono ?_
      rintro e w' ⟨rfl, rfl⟩
      clear CN
      go_wp2
      go_loopw [6, 40] (fun _ q wr => ∃ k : Nat, k ≤ p ∧ q = .int .i64 k ∧ Hid (∀ i, i < k → wtI (heldI Ls) p i = wtI (heldI Ls) i p) ∧ Below w1.heap.size w1 wr) (fun _ q _ => p - (intOf q).toNat)
      case atStart => exact ⟨0, Nat.zero_le _, rfl, fun i hi => by omega, hbo⟩
      case round =>
        obtain ⟨q, hq, rfl, HQ, hb⟩ := hrel
        have hq0 : (0 : Int) ≤ (q : Int) := by omega
        have bq := bl_step hx hb hx.size
        by_cases hqt : q < p
        · have hqI : (q : Int) < (p : Int) := by omega
          have hqN : (q : Int) < (n : Int) := by omega
          have hqn : q < n := by omega
          obtain ⟨f0, f1, _⟩ := HC.out q hqn
          have hlq := (HX.out q hqt).1
          rw [heldI_row] at hlq
          obtain ⟨bq', oq, e2, hbq, vq⟩ := f1 (by omega)
          rw [hlq, e2] at f0
          have hvq : w.cell? ⟨bq', oq + p, none⟩ = some (.int .i64 (wtI (heldI Ls) q p)) := by rw [wtI_held]; exact vq p (by omega)
          have dg := (hb.cell (p := ⟨w.heap.size, 0, none⟩) zx).trans g0
          have dq := (bq.cell (p := ⟨b, off + q, none⟩) hbB).trans f0
          have v1 := (bq.cell (p := ⟨bp, op + q, none⟩) hbp).trans (HVP.out q hqn)
          have v2 := (bq.cell (p := ⟨bq', oq + p, none⟩) hbq).trans hvq
          have zg : w.heap.size < wr.heap.size := Nat.lt_of_lt_of_le zx hb.size
          have zb : b < wr.heap.size := Nat.lt_of_lt_of_le hbB bq.size
          have zp : bp < wr.heap.size := Nat.lt_of_lt_of_le hbp bq.size
          have zq : bq' < wr.heap.size := Nat.lt_of_lt_of_le hbq bq.size
          clear f0 f1 hlq e2 vq hvq
          by_cases hs : wtI (heldI Ls) p q = wtI (heldI Ls) q p
          · have HN : Hid (∀ i, i < q + 1 → wtI (heldI Ls) p i = wtI (heldI Ls) i p) := fun i hi => by
              by_cases e : i = q
              · rw [e]; exact hs
              · exact HQ.out i (by omega)
            have hne3 : (wtI (heldI Ls) p q != wtI (heldI Ls) q p) = false := by simpa using hs
            clear hs
            generalize wtI (heldI Ls) p q = x at *
            generalize wtI (heldI Ls) q p = u at *
            go_wp2
            refine wp_region_over (by kernel_rfl) (by kernel_rfl) ?_
            have hov := over_cells wr
            repeat (go_big_quiet_step ((fail)))
            refine over_nil (fun w2 hb2 => ?_)
            clear hov
            go_wp2
            go_roundw
            case rel => exact ⟨q + 1, by omega, by go_num, HN, bl_trans hb hb2⟩
            case measure => simp [intOf]; omega
          · have HF : Hid (bnB (heldI Ls) = false) := bnB_f fun o => hs (o.sym p q (by rw [HLe.out]; exact hpt) (by rw [HLe.out]; exact hqn))
            have hne3 : (wtI (heldI Ls) p q != wtI (heldI Ls) q p) = true := by simpa using hs
            clear hs
            generalize wtI (heldI Ls) p q = x at *
            generalize wtI (heldI Ls) q p = u at *
            go_wp2
            refine wp_region_over (by kernel_rfl) (by kernel_rfl) ?_
            have hov := over_cells wr
            repeat (go_big_quiet_step ((fail)))
            refine over_nil (fun w2 hb2 => ?_)
            clear hov
            go_wp2
            go_ret
            exact ⟨retB (by rw [HF.out]), bl_trans bq hb2⟩
        · obtain rfl : q = p := by omega
          have HN : Hid (∀ i, i < q + 1 → RowG (heldI Ls) n i) := fun i hi => by
            by_cases e : i = q
            · rw [e]; exact ⟨by rw [HRL.out]; exact HE.out, HZ.out, by rw [HRL.out]; exact HW.out, HQ.out⟩
            · exact HX.out i (by omega)
          go_wp2
          go_roundw
          case rel => exact ⟨q + 1, by omega, by go_num, HN, hb⟩
          case measure => simp [intOf]; omega
    · obtain rfl : p = n := by omega
      have HF : Hid (bnB (heldI Ls) = true) := bn_of_rows HLe.out H1.out.1 H1.out.2 HX.out
      go_wp2
      go_ret
      exact ⟨retB (by rw [HF.out]), bo⟩
end Go.Proofs.YtifenbamookmiaaDoor
