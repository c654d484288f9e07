/-
  Contracts: is a wiring valid, as the model has it.
-/
import Derived.Test.YtdoheipnfdbioaaDoorWirC
import Derived.Test.YtdoheipnfdbioaaDoorQuietT
namespace Go.Proofs.YtdoheipnfdbioaaDoor
set_option linter.unusedSimpArgs false
set_option linter.unusedVariables false
open Go.ChangeShapes Go.WideShapes Go.ChangeAt Go.RowKit

theorem l00In_q {n lo hi : Int} {b : Bool} (h : Hid (inB n lo hi = b)) (w : World) :
    Calls Tryd.prog 53 #[.int .i64 n, .int .i64 lo, .int .i64 hi] w fun e w' => e = .returned (.bool b) ∧ w' = w :=
  (l00In_any n lo hi w).mono fun _ _ ⟨he, hw⟩ => ⟨by rw [he, h.out], hw.symm⟩

set_option maxRecDepth 100000 in
set_option maxHeartbeats 3200000 in
theorem l07Lists_any (A : Option Addr) (Ls : List SlI) (c : Nat) (n : Int) (size : Nat) (w : World) (hp : ISAt w w.heap.size A Ls) (hl : Ls.length ≤ 1048576) (hls : ∀ i, i < Ls.length → (Ls.getD i si0).2.1.length ≤ 1048576) (hn0 : 0 ≤ n) (hn1 : n ≤ 14) (hs : size = 2 ∨ size = 3) :
    Calls Tryd.prog 64 #[.slice A Ls.length c, .int .i64 n, .int .i64 (size : Int)] w fun e w' => e = .returned (.bool (listsB (heldI Ls) n size)) ∧ Below w.heap.size w w' := by
  have hlI : (Ls.length : Int) ≤ 1048576 := by omega
  have hJl := heldI_len Ls
  obtain ⟨L, hLL⟩ : ∃ L, Ls.length = L := ⟨_, rfl⟩
  obtain ⟨J, hJ⟩ : ∃ J, heldI Ls = J := ⟨_, rfl⟩
  have hrow : ∀ k, J.getD k [] = (Ls.getD k si0).2.1 := fun k => by rw [← hJ]; exact heldI_at
  rw [hLL] at hlI hl hJl hls
  rw [hJ] at hJl
  rw [hLL, hJ]
  have hc : 0 < L → ∃ b off, A = some ⟨b, off, none⟩ ∧ b < w.heap.size ∧ ∀ i, i < L →
    w.cell? ⟨b, off + i, none⟩ = some (.slice (Ls.getD i si0).1 (Ls.getD i si0).2.1.length (Ls.getD i si0).2.2) ∧ IntsAt w w.heap.size (Ls.getD i si0).1 (Ls.getD i si0).2.1 ∧ (Ls.getD i si0).2.1.length ≤ (Ls.getD i si0).2.2 ∧ (Ls.getD i si0).2.2 ≤ maxLen := by
    have := hp
    unfold ISAt at this
    rw [hLL] at this
    exact this
  have HC := Lib.hid hc
  have HR := Lib.hid hrow
  have HS := Lib.hid hls
  have HJL := Lib.hid hJl
  clear hp hc hrow hls hJl hLL hJ
  obtain ⟨sI, hsI⟩ : ∃ s : Int, s = (size : Int) := ⟨_, rfl⟩
  rw [← hsI]
  have HSI := Lib.hid hsI
  clear hsI
  go_enter Tryd.func64, Tryd.ntmps64
  go_wp2
  go_loopw [7] (fun i wr => ∃ k : Nat, k ≤ L ∧ i = .int .i64 k ∧ Hid (okTo (rowW J n size) k = true) ∧ Below w.heap.size w wr) (fun i _ => L - (intOf i).toNat)
  case atStart => exact ⟨0, Nat.zero_le _, rfl, rfl, Below.refl _ _⟩
  case round =>
    obtain ⟨k, hk, rfl, HX, hb⟩ := hrel
    by_cases hlt : k < L
    case neg =>
      obtain rfl : k = L := by omega
      have R : Hid (listsB J n size = decide (k ≤ 30)) := by show _ = _; unfold listsB; rw [HJL.out, HX.out]; rfl
      by_cases h30 : k ≤ 30
      all_goals
        have h30I : (decide ((k : Int) ≤ 30)) = decide (k ≤ 30) := by simp; omega
        go_wp2
        go_ret
        exact ⟨retB (by rw [R.out]; simp; omega), hb⟩
    have hkI : (k : Int) < (L : Int) := by omega
    have hk0 : (0 : Int) ≤ (k : Int) := by omega
    obtain ⟨b, off, rfl, hbB, hc⟩ := HC.out (by omega)
    obtain ⟨ck, ik, lk, _⟩ := hc k hlt
    have hRk := HR.out k
    have hsk := HS.out k hlt
    obtain ⟨⟨Ak, Lk, cc⟩, hz⟩ : ∃ z, Ls.getD k si0 = z := ⟨_, rfl⟩
    rw [hz] at ck ik lk hRk hsk
    dsimp only at ck ik lk hRk hsk
    have d := (hb.cell (p := ⟨b, off + k, none⟩) hbB).trans ck
    have hzw := hb.size
    have hbb' : b < wr.heap.size := by omega
    have hbw := hb
    clear ck hz
    obtain ⟨m, hm⟩ : ∃ m, Lk.length = m := ⟨_, rfl⟩
    have BAD : Hid (rowW J n size k = false → listsB J n size = false) := fun h => by unfold listsB; rw [okTo_bad (by rw [HJL.out]; exact hlt) h]; rfl
    by_cases hm2 : m = size
    case neg =>
      have R := Lib.hid (BAD.out (by unfold rowW pairB; rw [hRk, hm, decide_eq_false hm2]; rfl))
      rw [hm] at d
      have hne : ((m : Int) == sI) = false := by rw [HSI.out]; simp; omega
      have hne2 : ((m : Int) != sI) = true := by rw [HSI.out]; simp; omega
      clear ik hRk hm2 lk hm hb hzw
      go_wp2
      go_quiet (fail)
      go_wp2
      go_ret
      exact ⟨retB R.out.symm, bl_drewN hbw _⟩
    subst hm2
    have hne : ((m : Int) == sI) = true := by rw [HSI.out]; simp
    have hne2 : ((m : Int) != sI) = false := by rw [HSI.out]; simp
    rw [hm] at d
    have hsz2 : 2 ≤ m := by omega
    have hsz2I : (2 : Int) ≤ (m : Int) := by omega
    have hsz0I : (0 : Int) < (m : Int) := by omega
    have hsz1I : (1 : Int) < (m : Int) := by omega
    obtain ⟨bk, ok, rfl, hbk, hik⟩ := ik (by omega)
    rw [hm] at hik
    have e0 := (hb.cell (p := ⟨bk, ok + 0, none⟩) hbk).trans (hik 0 (by omega))
    have e1 := (hb.cell (p := ⟨bk, ok + 1, none⟩) hbk).trans (hik 1 (by omega))
    rw [Nat.add_zero] at e0
    have HE2 : Hid (2 < m → wr.cell? ⟨bk, ok + 2, none⟩ = some (.int .i64 (Lk.getD 2 0))) := fun h => (hb.cell (p := ⟨bk, ok + 2, none⟩) hbk).trans (hik 2 h)
    obtain ⟨x, hx⟩ : ∃ x, Lk.getD 0 0 = x := ⟨_, rfl⟩
    obtain ⟨y, hy⟩ : ∃ y, Lk.getD 1 0 = y := ⟨_, rfl⟩
    obtain ⟨z, hz⟩ : ∃ z, Lk.getD 2 0 = z := ⟨_, rfl⟩
    rw [hz] at HE2
    rw [hx] at e0
    rw [hy] at e1
    have hsub : IntKind.i64.wrap (n - 1) = n - 1 := IntWalk.i64_in _ (by omega)
    have HRW : Hid (rowW J n m k = ((inB x 0 (n - 1) && (inB y (x + 1) (n - 1) && (decide (k = 0) || decide (cmpL (J.getD (k - 1) []) (J.getD k []) < 0)))) && (!decide (m = 3) || inB z 0 1000))) := by
      show _ = _
      unfold rowW pairB costB
      rw [hRk, hm, hx, hy, hz, decide_eq_true rfl]; rfl
    clear hik hx hy hz lk
    cases ha : inB x 0 (n - 1)
    case false =>
      have R := Lib.hid (BAD.out (by rw [HRW.out, ha]; rfl))
      have HA := Lib.hid ha
      clear ha hRk hm hb hzw e1 hs
      go_wp2
      go_quiet ((go_at_call 53; exact Calls.quiet_of_same (l00In_q HA _)))
      go_wp2
      go_ret
      exact ⟨retB R.out.symm, bl_drewN hbw _⟩
    have hx0 : 0 ≤ x ∧ x ≤ n - 1 := of_decide_eq_true ha
    have hadd : IntKind.i64.wrap (x + 1) = x + 1 := IntWalk.i64_in _ (by omega)
    have HA := Lib.hid ha
    rw [ha] at HRW
    clear ha
    cases hy2 : inB y (x + 1) (n - 1)
    case false =>
      have R := Lib.hid (BAD.out (by rw [HRW.out, hy2]; rfl))
      have HB := Lib.hid hy2
      clear hy2 hRk hm hb hzw hs hx0
      go_wp2
      go_quiet ((first
        | (go_at_call_of 53 (Value.int IntKind.i64 x); exact Calls.quiet_of_same (l00In_q HA _))
        | (go_at_call_of 53 (Value.int IntKind.i64 y); exact Calls.quiet_of_same (l00In_q HB _))))
      go_wp2
      go_ret
      exact ⟨retB R.out.symm, bl_drewN hbw _⟩
    have HB := Lib.hid hy2
    rw [hy2] at HRW
    clear hy2 hx0
    rcases hs with hm2 | hm3
    · have h3 : (sI == 3) = false := by rw [HSI.out, hm2]; rfl
      rw [show decide (m = 3) = false from decide_eq_false (by omega)] at HRW
      clear HE2 hm2
      by_cases hk1 : k = 0
      · have HX2 : Hid (okTo (rowW J n m) (k + 1) = true) := okTo_next HX.out (by rw [HRW.out, decide_eq_true hk1]; rfl)
        have hd0 : decide (0 < k) = false := decide_eq_false (by omega)
        clear hRk hk1 ik
        go_wp2
        go_quiet ((first
          | (go_at_call_of 53 (Value.int IntKind.i64 x); exact Calls.quiet_of_same (l00In_q HA _))
          | (go_at_call_of 53 (Value.int IntKind.i64 y); exact Calls.quiet_of_same (l00In_q HB _))))
        go_wp2
        go_roundw
        case rel => exact ⟨k + 1, by omega, by go_num, HX2, bl_drewN hbw _⟩
        case measure => simp [intOf]; omega
      · obtain ⟨j, rfl⟩ : ∃ j, k = j + 1 := ⟨k - 1, by omega⟩
        have hj0 : (0 : Int) < ((j + 1 : Nat) : Int) := by omega
        obtain ⟨cj, ij, lj, _⟩ := hc j (by omega)
        have hRj := HR.out j
        have hsj := HS.out j (by omega)
        obtain ⟨⟨Aj, Lj, cj'⟩, hz⟩ : ∃ z, Ls.getD j si0 = z := ⟨_, rfl⟩
        rw [hz] at cj ij lj hRj hsj
        dsimp only at cj ij lj hRj hsj
        have dj := (hb.cell (p := ⟨b, off + j, none⟩) hbB).trans cj
        have hjm : ((j + 1 : Nat) : Int) - 1 = (j : Int) := by omega
        have hjw : IntKind.i64.wrap (((j + 1 : Nat) : Int) - 1) = (j : Int) := by rw [hjm]; exact IntWalk.i64_in _ (by omega)
        have hjw2 : IntKind.i64.wrap ((j : Int) + 1 - 1) = (j : Int) := by rw [show (j : Int) + 1 - 1 = (j : Int) by omega]; exact IntWalk.i64_in _ (by omega)
        have CL0 : ∀ wx, Below w.heap.size w wx → Calls Tryd.prog 86 #[.slice Aj Lj.length cj', .slice (some ⟨bk, ok, none⟩) m cc] wx fun e w' => e = .returned (.bool (decide (cmpL (J.getD j []) (J.getD (j + 1) []) < 0))) ∧ Below wx.heap.size wx w' := by
          intro wx hx
          rw [hRj, hRk]
          have := l03Less_any Aj (some ⟨bk, ok, none⟩) Lj Lk cj' cc wx ((ij.keepB hx).mono hx.size) ((ik.keepB hx).mono hx.size) hsj hsk
          rw [hm] at this
          exact this
        have CL := Lib.hid CL0
        clear CL0
        have hbk' : bk < wr.heap.size := by omega
        rw [show j + 1 - 1 = j by omega] at HRW
        have hjI : (j : Int) < (L : Int) := by omega
        clear cj ij hz ik hRj hRk
        cases hlx : decide (cmpL (J.getD j []) (J.getD (j + 1) []) < 0)
        · have R := Lib.hid (BAD.out (by rw [HRW.out, hlx, decide_eq_false (by omega)]; rfl))
          rw [hlx] at CL
          clear hlx
          go_wp2
          go_quiet ((first
          | (go_at_call_of 53 (Value.int IntKind.i64 x); exact Calls.quiet_of_same (l00In_q HA _))
          | (go_at_call_of 53 (Value.int IntKind.i64 y); exact Calls.quiet_of_same (l00In_q HB _))))
          go_wp2_with (go_at_call 86; refine (CL.out _ (bl_drewN hbw _)).mono ?_; rintro e w' ⟨rfl, hb'⟩)
          go_ret
          exact ⟨retB R.out.symm, bl_trans (bl_drewN hbw _) hb'⟩
        · have HX2 : Hid (okTo (rowW J n m) (j + 1 + 1) = true) := okTo_next HX.out (by rw [HRW.out, hlx]; cases decide (j + 1 = 0) <;> rfl)
          rw [hlx] at CL
          clear hlx
          go_wp2
          go_quiet ((first
          | (go_at_call_of 53 (Value.int IntKind.i64 x); exact Calls.quiet_of_same (l00In_q HA _))
          | (go_at_call_of 53 (Value.int IntKind.i64 y); exact Calls.quiet_of_same (l00In_q HB _))))
          go_wp2_with (go_at_call 86; refine (CL.out _ (bl_drewN hbw _)).mono ?_; rintro e w' ⟨rfl, hb'⟩)
          go_roundw
          case rel => exact ⟨j + 1 + 1, by omega, by go_num, HX2, bl_trans (bl_drewN hbw _) hb'⟩
          case measure => simp [intOf]; omega
    · have e2 := HE2.out (by omega)
      have h3 : (sI == 3) = true := by rw [HSI.out, hm3]; rfl
      rw [show decide (m = 3) = true from decide_eq_true hm3] at HRW
      have hm3I : (2 : Int) < (m : Int) := by omega
      clear hm3
      clear HE2
      cases hcz : inB z 0 1000
      · have R := Lib.hid (BAD.out (by rw [HRW.out, hcz]; simp))
        have HZ := Lib.hid hcz
        clear hcz hRk hm hb hzw ik
        go_wp2
        go_quiet ((first
          | (go_at_call_of 53 (Value.int IntKind.i64 x); exact Calls.quiet_of_same (l00In_q HA _))
          | (go_at_call_of 53 (Value.int IntKind.i64 y); exact Calls.quiet_of_same (l00In_q HB _))
          | (go_at_call_of 53 (Value.int IntKind.i64 z); exact Calls.quiet_of_same (l00In_q HZ _))))
        go_wp2
        go_ret
        exact ⟨retB R.out.symm, bl_drewN hbw _⟩
      have HZ := Lib.hid hcz
      rw [hcz] at HRW
      clear hcz
      by_cases hk1 : k = 0
      · have HX2 : Hid (okTo (rowW J n m) (k + 1) = true) := okTo_next HX.out (by rw [HRW.out, decide_eq_true hk1]; rfl)
        have hd0 : decide (0 < k) = false := decide_eq_false (by omega)
        clear hRk hk1 ik
        go_wp2
        go_quiet ((first
          | (go_at_call_of 53 (Value.int IntKind.i64 x); exact Calls.quiet_of_same (l00In_q HA _))
          | (go_at_call_of 53 (Value.int IntKind.i64 y); exact Calls.quiet_of_same (l00In_q HB _))
          | (go_at_call_of 53 (Value.int IntKind.i64 z); exact Calls.quiet_of_same (l00In_q HZ _))))
        go_wp2
        go_roundw
        case rel => exact ⟨k + 1, by omega, by go_num, HX2, bl_drewN hbw _⟩
        case measure => simp [intOf]; omega
      · obtain ⟨j, rfl⟩ : ∃ j, k = j + 1 := ⟨k - 1, by omega⟩
        have hj0 : (0 : Int) < ((j + 1 : Nat) : Int) := by omega
        obtain ⟨cj, ij, lj, _⟩ := hc j (by omega)
        have hRj := HR.out j
        have hsj := HS.out j (by omega)
        obtain ⟨⟨Aj, Lj, cj'⟩, hz⟩ : ∃ z, Ls.getD j si0 = z := ⟨_, rfl⟩
        rw [hz] at cj ij lj hRj hsj
        dsimp only at cj ij lj hRj hsj
        have dj := (hb.cell (p := ⟨b, off + j, none⟩) hbB).trans cj
        have hjm : ((j + 1 : Nat) : Int) - 1 = (j : Int) := by omega
        have hjw : IntKind.i64.wrap (((j + 1 : Nat) : Int) - 1) = (j : Int) := by rw [hjm]; exact IntWalk.i64_in _ (by omega)
        have hjw2 : IntKind.i64.wrap ((j : Int) + 1 - 1) = (j : Int) := by rw [show (j : Int) + 1 - 1 = (j : Int) by omega]; exact IntWalk.i64_in _ (by omega)
        have CL0 : ∀ wx, Below w.heap.size w wx → Calls Tryd.prog 86 #[.slice Aj Lj.length cj', .slice (some ⟨bk, ok, none⟩) m cc] wx fun e w' => e = .returned (.bool (decide (cmpL (J.getD j []) (J.getD (j + 1) []) < 0))) ∧ Below wx.heap.size wx w' := by
          intro wx hx
          rw [hRj, hRk]
          have := l03Less_any Aj (some ⟨bk, ok, none⟩) Lj Lk cj' cc wx ((ij.keepB hx).mono hx.size) ((ik.keepB hx).mono hx.size) hsj hsk
          rw [hm] at this
          exact this
        have CL := Lib.hid CL0
        clear CL0
        have hbk' : bk < wr.heap.size := by omega
        rw [show j + 1 - 1 = j by omega] at HRW
        have hjI : (j : Int) < (L : Int) := by omega
        clear cj ij hz ik hRj hRk
        cases hlx : decide (cmpL (J.getD j []) (J.getD (j + 1) []) < 0)
        · have R := Lib.hid (BAD.out (by rw [HRW.out, hlx, decide_eq_false (by omega)]; rfl))
          rw [hlx] at CL
          clear hlx
          go_wp2
          go_quiet ((first
          | (go_at_call_of 53 (Value.int IntKind.i64 x); exact Calls.quiet_of_same (l00In_q HA _))
          | (go_at_call_of 53 (Value.int IntKind.i64 y); exact Calls.quiet_of_same (l00In_q HB _))
          | (go_at_call_of 53 (Value.int IntKind.i64 z); exact Calls.quiet_of_same (l00In_q HZ _))))
          go_wp2_with (go_at_call 86; refine (CL.out _ (bl_drewN hbw _)).mono ?_; rintro e w' ⟨rfl, hb'⟩)
          go_ret
          exact ⟨retB R.out.symm, bl_trans (bl_drewN hbw _) hb'⟩
        · have HX2 : Hid (okTo (rowW J n m) (j + 1 + 1) = true) := okTo_next HX.out (by rw [HRW.out, hlx]; cases decide (j + 1 = 0) <;> rfl)
          rw [hlx] at CL
          clear hlx
          go_wp2
          go_quiet ((first
          | (go_at_call_of 53 (Value.int IntKind.i64 x); exact Calls.quiet_of_same (l00In_q HA _))
          | (go_at_call_of 53 (Value.int IntKind.i64 y); exact Calls.quiet_of_same (l00In_q HB _))
          | (go_at_call_of 53 (Value.int IntKind.i64 z); exact Calls.quiet_of_same (l00In_q HZ _))))
          go_wp2_with (go_at_call 86; refine (CL.out _ (bl_drewN hbw _)).mono ?_; rintro e w' ⟨rfl, hb'⟩)
          go_roundw
          case rel => exact ⟨j + 1 + 1, by omega, by go_num, HX2, bl_trans (bl_drewN hbw _) hb'⟩
          case measure => simp [intOf]; omega
end Go.Proofs.YtdoheipnfdbioaaDoor
