/-
  Contract: IsJoins, as the model has it.
-/
import Derived.Test.YtijnjcamfbnmgaaJoinP
import Derived.Test.YtijnjcamfbnmgaaReg
namespace Go.Proofs.Ytijnjcamfbnmgaa
set_option linter.unusedSimpArgs false
set_option linter.unusedVariables false
open Go.ChangeShapes Go.WideShapes Go.ChangeAt Go.RowKit

theorem l00In_e {n lo hi hi' : Int} {b : Bool} (e : hi' = hi) (h : Hid (inB n lo hi = b)) (w : World) :
    Calls Try.prog 65 #[.int .i64 n, .int .i64 lo, .int .i64 hi'] w fun e w' => e = .returned (.bool b) ∧ w' = w := by
  subst e
  exact (l00In_any n lo hi' w).mono fun _ _ ⟨he, hw⟩ => ⟨by rw [he, h.out], hw.symm⟩
theorem l00In_b {n lo hi : Int} {b : Bool} (h : Hid (inB n lo hi = b)) (w : World) :
    Calls Try.prog 65 #[.int .i64 n, .int .i64 lo, .int .i64 hi] w fun e w' => e = .returned (.bool b) ∧ w = w' :=
  (l00In_any n lo hi w).mono fun _ _ ⟨he, hw⟩ => ⟨by rw [he, h.out], hw⟩
set_option maxRecDepth 100000 in
set_option maxHeartbeats 6400000 in
theorem l06Joins_any (A : Option Addr) (Ls : List SlI) (c : Nat) (cnt : Int) (w : World) (hp : ISAt w w.heap.size A Ls) (hl : Ls.length ≤ 1048576) :
    Calls Try.prog 64 #[.int .i64 cnt, .slice A Ls.length c] w fun e w' => e = .returned (.bool (isJ cnt (heldI Ls))) ∧ Below w.heap.size w w' := by
  have hlI : (Ls.length : Int) ≤ 1048576 := by omega
  have hJl := heldI_len Ls
  cases hin : inB cnt 2 12
  · have R : Hid (isJ cnt (heldI Ls) = false) := by show isJ cnt (heldI Ls) = false; unfold isJ; rw [hin]; rfl
    have H := Lib.hid hin
    rw [R.out]
    clear hJl hp hin
    go_enter Try.func64, Try.ntmps64
    go_wp2_with fail
    refine (l00In_b H _).mono ?_
    rintro e w1 ⟨rfl, rfl⟩
    go_wp2
    go_ret
    exact ⟨rfl, Below.refl _ _⟩
  have hcn : 2 ≤ cnt ∧ cnt ≤ 12 := of_decide_eq_true hin
  obtain ⟨hc2, hc12⟩ := hcn
  by_cases hL : (Ls.length : Int) = cnt - 1
  case neg =>
    have R : Hid (isJ cnt (heldI Ls) = false) := isJ_len (by rw [hJl]; exact hL)
    have H := Lib.hid hin
    rw [R.out]
    have hne : ((Ls.length : Int) == cnt - 1) = false := by simpa using hL
    clear hJl hp hin
    go_enter Try.func64, Try.ntmps64
    go_wp2_with fail
    refine (l00In_b H _).mono ?_
    rintro e w1 ⟨rfl, rfl⟩
    go_wp2
    go_ret
    exact ⟨rfl, Below.refl _ _⟩
  obtain ⟨L, hLL⟩ : ∃ L, Ls.length = L := ⟨_, rfl⟩
  rw [hLL] at hL hlI hl hJl
  obtain rfl : cnt = (L : Int) + 1 := by omega
  have h1 : 1 ≤ L := by omega
  have h11 : L ≤ 11 := by omega
  have h11I : (L : Int) ≤ 11 := by omega
  have h1I : (1 : Int) ≤ (L : Int) := by omega
  rw [hLL]
  rw [isJ_at h1 h11 hJl]
  obtain ⟨b, off, rfl, hbB, hc⟩ := hp (by omega)
  rw [hLL] at hc
  obtain ⟨J, hJ⟩ : ∃ J, heldI Ls = J := ⟨_, rfl⟩
  have hrow : ∀ k, J.getD k [] = (Ls.getD k si0).2.1 := fun k => by rw [← hJ]; exact heldI_at
  rw [hJ]
  have HR := Lib.hid hrow
  have HC := Lib.hid hc
  have H := Lib.hid hin
  obtain ⟨n2, hn2⟩ : ∃ n2, 2 * L + 1 = n2 := ⟨_, rfl⟩
  have hmk := run_mkbools n2 (by omega)
  have hE : 2 * ((L : Int) + 1) - 1 = (n2 : Int) := by omega
  have hn2L : n2 = 2 * L + 1 := hn2.symm
  have HN2 := Lib.hid hn2L
  have hn2I : (n2 : Int) ≤ 23 := by omega
  clear hL hJl hLL hJ hrow hc hl hp hin hc2 hc12 hn2 hn2L
  go_enter Try.func64, Try.ntmps64
  go_wp2_with fail
  refine (l00In_b H _).mono ?_
  rintro e w1 ⟨rfl, rfl⟩
  go_wp2
  have hF0 := FBlk.new w n2
  have hb0 : Below w.heap.size w (w.alloc (.cells (blankF n2) 4)) := (Below.refl _ _).alloc (Nat.le_refl _) _
  clear hmk hE
  generalize (w.alloc (.cells (blankF n2) 4)) = w3 at *
  go_loopw [6] (fun i wr => ∃ k : Nat, k ≤ L ∧ i = .int .i64 k ∧ Hid (FBlk wr w.heap.size n2 (usd J k) ∧ jTo (L + 1) J k = true) ∧ Below w.heap.size w wr) (fun i _ => L - (intOf i).toNat)
  case atStart => exact ⟨0, Nat.zero_le _, rfl, ⟨hF0, rfl⟩, hb0⟩
  case round =>
    clear hF0 hb0
    obtain ⟨k, hk, rfl, HFJ, hb⟩ := hrel
    have hbw := hb
    by_cases hlt : k < L
    case neg =>
      obtain rfl : k = L := by omega
      have R := HFJ.out.2
      go_wp2
      go_ret
      exact ⟨retB R.symm, hbw⟩
    have hkI : (k : Int) < (L : Int) := by omega
    have hk0 : (0 : Int) ≤ (k : Int) := by omega
    obtain ⟨ck, ik, lk, _⟩ := HC.out k hlt
    have hRk := HR.out k
    obtain ⟨⟨Ak, Lk, cc⟩, hz⟩ : ∃ z, Ls.getD k si0 = z := ⟨_, rfl⟩
    rw [hz] at ck ik lk hRk
    dsimp only at ck ik lk hRk
    have d := (hb.cell (p := ⟨b, off + k, none⟩) hbB).trans ck
    have hzw := hb.size
    have hbb' : b < wr.heap.size := by have := HFJ.out.1.lt; omega
    clear ck hz
    obtain ⟨m, hm⟩ : ∃ m, Lk.length = m := ⟨_, rfl⟩
    by_cases hm2 : m = 2
    case neg =>
      have R : Hid (jTo (L + 1) J L = false) := jTo_bad (show jAt (L + 1) J k = false by unfold jAt; rw [hRk, hm, decide_eq_false hm2]; rfl) L hlt
      rw [hm] at d
      have hne : ((m : Int) == 2) = false := by simp; omega
      have hne2 : ((m : Int) != 2) = true := by simp; omega
      have hlkI : (m : Int) ≤ (cc : Int) := by omega
      clear ik hRk hm2 lk hm hb hzw
      go_wp2
      go_quiet (fail)
      go_wp2
      go_ret
      exact ⟨retB R.out.symm, bl_drewN hbw _⟩
    subst hm2
    rw [hm] at d
    obtain ⟨bk, ok, rfl, hbk, hik⟩ := ik (by omega)
    rw [hm] at hik
    have e0 := (hb.cell (p := ⟨bk, ok + 0, none⟩) hbk).trans (hik 0 (by omega))
    have e1 := (hb.cell (p := ⟨bk, ok + 1, none⟩) hbk).trans (hik 1 (by omega))
    rw [Nat.add_zero] at e0
    have hx' : jx J k = Lk.getD 0 0 := by unfold jx; rw [hRk]
    have hy' : jy J k = Lk.getD 1 0 := by unfold jy; rw [hRk]
    have hl2 : (J.getD k []).length = 2 := by rw [hRk]; exact hm
    obtain ⟨x, hx⟩ : ∃ x, Lk.getD 0 0 = x := ⟨_, rfl⟩
    obtain ⟨y, hy⟩ : ∃ y, Lk.getD 1 0 = y := ⟨_, rfl⟩
    rw [hx] at e0 hx'
    rw [hy] at e1 hy'
    have hbk' : bk < wr.heap.size := by have := HFJ.out.1.lt; omega
    have HX' := Lib.hid hx'
    have HY' := Lib.hid hy'
    have HL2 := Lib.hid hl2
    have hnk : (((L + 1 : Nat) : Int) + (k : Int) - 1) = (L : Int) + (k : Int) := by omega
    have HNK := Lib.hid hnk
    clear hik hx hy hRk hm lk hx' hy' hl2 hnk
    cases ha : inB x 0 ((L : Int) + (k : Int))
    case false =>
      have R : Hid (jTo (L + 1) J L = false) := jTo_bad (show jAt (L + 1) J k = false by
        unfold jAt
        rw [HX'.out, HNK.out, ha]
        simp) L hlt
      have HA := Lib.hid ha
      clear ha hb hzw
      go_wp2
      go_quiet ((first
        | (go_at_call_of 65 (Value.int IntKind.i64 x); exact Calls.quiet_of_same (l00In_e (by omega) HA _))))
      go_wp2
      go_ret
      exact ⟨retB R.out.symm, bl_drewN hbw _⟩
    have HA := Lib.hid ha
    obtain ⟨x0, x1⟩ : 0 ≤ x ∧ x ≤ (L : Int) + (k : Int) := of_decide_eq_true ha
    cases hcy : inB y (x + 1) ((L : Int) + (k : Int))
    case false =>
      have R : Hid (jTo (L + 1) J L = false) := jTo_bad (show jAt (L + 1) J k = false by
        unfold jAt
        rw [HX'.out, HY'.out, HNK.out, hcy]
        simp) L hlt
      have HC2 := Lib.hid hcy
      clear ha hcy hb hzw
      go_wp2
      go_quiet ((first
        | (go_at_call_of 65 (Value.int IntKind.i64 x); exact Calls.quiet_of_same (l00In_e (by omega) HA _))
        | (go_at_call_of 65 (Value.int IntKind.i64 y); exact Calls.quiet_of_same (l00In_e (by omega) HC2 _))))
      go_wp2
      go_ret
      exact ⟨retB R.out.symm, bl_drewN hbw _⟩
    have HC2 := Lib.hid hcy
    obtain ⟨y0, y1⟩ : x + 1 ≤ y ∧ y ≤ (L : Int) + (k : Int) := of_decide_eq_true hcy
    obtain ⟨X, rfl⟩ := Int.eq_ofNat_of_zero_le x0
    obtain ⟨Y, rfl⟩ := Int.eq_ofNat_of_zero_le (show 0 ≤ y by omega)
    have hXn : X < n2 := by have := HN2.out; omega
    have hYn : Y < n2 := by have := HN2.out; omega
    have hXI : (X : Int) < (n2 : Int) := by omega
    have hYI : (Y : Int) < (n2 : Int) := by omega
    have hX0 : (0 : Int) ≤ (X : Int) := by omega
    have hY0 : (0 : Int) ≤ (Y : Int) := by omega
    have fx := HFJ.out.1.at_ hXn
    have fy := HFJ.out.1.at_ hYn
    have hgw := HFJ.out.1.lt
    have HXYL := Lib.hid (show X < Y by omega)
    clear ha hcy y0
    cases hux : usd J k X
    case true =>
      have R : Hid (jTo (L + 1) J L = false) := jTo_bad (show jAt (L + 1) J k = false by
        unfold jAt
        rw [HX'.out, Int.toNat_natCast, hux]
        simp) L hlt
      rw [hux] at fx
      clear hux hb hzw fy
      go_wp2
      go_quiet ((first
        | (go_at_call_of 65 (Value.int IntKind.i64 (X : Int)); exact Calls.quiet_of_same (l00In_e (by omega) HA _))
        | (go_at_call_of 65 (Value.int IntKind.i64 (Y : Int)); exact Calls.quiet_of_same (l00In_e (by omega) HC2 _))))
      go_wp2
      go_ret
      exact ⟨retB R.out.symm, bl_drewN hbw _⟩
    rw [hux] at fx
    cases huy : usd J k Y
    case true =>
      have R : Hid (jTo (L + 1) J L = false) := jTo_bad (show jAt (L + 1) J k = false by
        unfold jAt
        rw [HY'.out, Int.toNat_natCast, huy]
        simp) L hlt
      rw [huy] at fy
      clear hux huy hb hzw
      go_wp2
      go_quiet ((first
        | (go_at_call_of 65 (Value.int IntKind.i64 (X : Int)); exact Calls.quiet_of_same (l00In_e (by omega) HA _))
        | (go_at_call_of 65 (Value.int IntKind.i64 (Y : Int)); exact Calls.quiet_of_same (l00In_e (by omega) HC2 _))))
      go_wp2
      go_ret
      exact ⟨retB R.out.symm, bl_drewN hbw _⟩
    rw [huy] at fy
    have hj : jAt (L + 1) J k = true := jAt_iff.2 ⟨HL2.out, by rw [HX'.out, HNK.out]; omega, by rw [HX'.out, HY'.out, HNK.out]; exact of_decide_eq_true HC2.out, by rw [HX'.out, Int.toNat_natCast]; exact hux, by rw [HY'.out, Int.toNat_natCast]; exact huy⟩
    have HNX : Hid ((∀ W, FBlk W w.heap.size n2 (upd (upd (usd J k) X) Y) → FBlk W w.heap.size n2 (usd J (k + 1))) ∧ jTo (L + 1) J (k + 1) = true) :=
      ⟨fun w h => by rw [usd_succ, HX'.out, HY'.out, Int.toNat_natCast, Int.toNat_natCast]; exact h, by unfold jTo; rw [HFJ.out.2, hj]; rfl⟩
    have hbg : ¬ b = w.heap.size := by omega
    have hbkg : ¬ bk = w.heap.size := by omega
    clear hux huy hj
    go_wp2
    go_quiet ((first
        | (go_at_call_of 65 (Value.int IntKind.i64 (X : Int)); exact Calls.quiet_of_same (l00In_e (by omega) HA _))
        | (go_at_call_of 65 (Value.int IntKind.i64 (Y : Int)); exact Calls.quiet_of_same (l00In_e (by omega) HC2 _))))
    have hF2 : FBlk (wr.drewN nq) w.heap.size n2 (usd J k) := HFJ.out.1.keep rfl
    have hF4 := (hF2.set_ hXn).set_ hYn
    have hXY1 : ¬ Y = X := by have := HXYL.out; omega
    have hXY2 : ¬ X = Y := by have := HXYL.out; omega
    have ffx := HFJ.out.1.frozen X
    have ffy := HFJ.out.1.frozen Y
    have bb4 := ((bl_drewN hb nq).setCell (p := ⟨w.heap.size, X, none⟩) (Nat.le_refl _) (.bool true)).setCell (p := ⟨w.heap.size, Y, none⟩) (Nat.le_refl _) (.bool true)
    clear hb hbw hzw hF2
    go_wp2
    go_roundw
    case rel => exact ⟨k + 1, by omega, by go_num, ⟨HNX.out.1 _ hF4, HNX.out.2⟩, bb4⟩
    case measure => simp [intOf]; omega
end Go.Proofs.Ytijnjcamfbnmgaa
