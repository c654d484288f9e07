/-
  Contracts: is a wiring valid, as the program has it.
-/
import Derived.Test.YtdoheipnfdbioaaDoorWirC
import Derived.Test.YtdoheipnfdbioaaDoorOver
namespace Go.Proofs.YtdoheipnfdbioaaDoor
set_option linter.unusedSimpArgs false
set_option linter.unusedVariables false
open Go.ChangeShapes Go.WideShapes Go.ChangeAt Go.RowKit

theorem isLayer_any (n : Int) (w : World) : Calls Tryd.prog 68 #[.int .i64 n] w fun e w' => e = .returned (.bool (inB n 0 1)) ∧ w = w' := by
  by_cases h : n = 0
  · have H : Hid (inB n 0 1 = true) := inB_t (by omega) (by omega)
    have hd : (n == 0) = true := by simpa using h
    clear h
    go_enter Tryd.func68, Tryd.ntmps68
    go_wp2
    go_ret
    exact ⟨retB H.out.symm, rfl⟩
  · have H : Hid (inB n 0 1 = (n == 1)) := by
      show _ = _
      by_cases h1 : n = 1
      · rw [inB_t (by omega) (by omega)]; simp [h1]
      · rw [inB_f (by omega)]; simp [h1]
    have hd : (n == 0) = false := by simpa using h
    clear h
    go_enter Tryd.func68, Tryd.ntmps68
    go_wp2
    go_ret
    exact ⟨retB H.out.symm, rfl⟩
theorem badLayer_any (n : Int) (b : Bool) (h : Hid (inB n (-1) 1 = b)) (w : World) : Calls Tryd.prog 88 #[.int .i64 n] w fun e w' => e = .returned (.bool (!b)) ∧ w = w' := by
  by_cases hn : n = -1
  · have hb : b = true := by rw [← h.out]; exact inB_t (by omega) (by omega)
    subst hb
    have hd : (n == -1) = true := by simpa using hn
    have hd2 : (n != -1) = false := by simpa using hn
    clear h hn
    go_enter Tryd.func88, Tryd.ntmps88
    go_wp2
    go_ret
    exact ⟨rfl, rfl⟩
  · have hd : (n == -1) = false := by simpa using hn
    have hd2 : (n != -1) = true := by simpa using hn
    have H : Hid (inB n 0 1 = b) := by
      show _ = _
      rw [← h.out]; unfold inB; exact decide_eq_decide.2 (by omega)
    clear h hn
    go_enter Tryd.func88, Tryd.ntmps88
    go_wp2_with (go_at_call 68; refine (isLayer_any _ _).mono ?_; rintro e w' ⟨rfl, rfl⟩)
    go_ret
    exact ⟨retB (by rw [H.out]), rfl⟩

/-- -1 where all hold, and an index where one does not. -/
def IdxW (b : Bool) (w : World) (e : Ending) (w' : World) : Prop :=
  ∃ r : Int, e = .returned (.int .i64 r) ∧ w = w' ∧ decide (0 ≤ r) = !b ∧ -1 ≤ r ∧ r ≤ 1048576
set_option maxHeartbeats 800000 in
theorem indexLayer_any (A : Option Addr) (R : List Int) (c : Nat) (w : World) (hp : IntsAt w w.heap.size A R) (hn : R.length ≤ 1048576) :
    Calls Tryd.prog 101 #[.slice A R.length c, .func (.func 88) #[] #[]] w (IdxW (okTo (fixB R) R.length) w) := by
  have hnI : (R.length : Int) ≤ 1048576 := by omega
  go_enter Tryd.func101, Tryd.ntmps101
  go_wp2
  go_loop [5, 8] (fun _ i => ∃ k : Nat, k ≤ R.length ∧ i = .int .i64 k ∧ Hid (okTo (fixB R) k = true)) (fun _ i => R.length - (intOf i).toNat)
  case atStart => exact ⟨0, Nat.zero_le _, rfl, rfl⟩
  case round =>
    obtain ⟨k, hk, rfl, HX⟩ := hrel
    have hk0 : (0 : Int) ≤ (k : Int) := by omega
    by_cases hlt : k < R.length
    · obtain ⟨b, off, rfl, hbB, hc⟩ := hp (by omega)
      have d0 := hc k hlt
      have hltI : (k : Int) < (R.length : Int) := by omega
      cases hin : inB (R.getD k 0) (-1) 1
      · have HF : Hid (okTo (fixB R) R.length = false) := okTo_bad hlt hin
        have HI := Lib.hid hin
        clear hc hin hp
        generalize R.getD k 0 = v at *
        go_wp2_with (go_at_call 88; refine (badLayer_any _ _ HI _).mono ?_; rintro e w' ⟨rfl, rfl⟩)
        go_ret
        exact ⟨k, rfl, rfl, by rw [HF.out]; exact decide_eq_true (by omega), by omega, by omega⟩
      · have HX2 : Hid (okTo (fixB R) (k + 1) = true) := okTo_next HX.out hin
        have HI := Lib.hid hin
        clear hc hin hp
        generalize R.getD k 0 = v at *
        go_wp2_with (go_at_call 88; refine (badLayer_any _ _ HI _).mono ?_; rintro e w' ⟨rfl, rfl⟩)
        go_round
        case rel => exact ⟨k + 1, by omega, by go_num, HX2⟩
        case measure => simp [intOf]; omega
    · have HF : Hid (okTo (fixB R) R.length = true) := by
        have := HX.out
        rw [show k = R.length by omega] at this
        exact this
      go_wp2
      go_ret
      exact ⟨-1, rfl, rfl, by rw [HF.out]; rfl, by omega, by omega⟩
theorem containsLayer_any (A : Option Addr) (R : List Int) (c : Nat) (w : World) (hp : IntsAt w w.heap.size A R) (hn : R.length ≤ 1048576) :
    Calls Tryd.prog 87 #[.slice A R.length c, .func (.func 88) #[] #[]] w fun e w' => e = .returned (.bool (!okTo (fixB R) R.length)) ∧ w = w' := by
  go_enter Tryd.func87, Tryd.ntmps87
  go_wp2_with fail
  refine (indexLayer_any _ _ _ _ hp hn).mono ?_
  rintro e w' ⟨r, rfl, rfl, hd, h1, h2⟩
  have HD := Lib.hid hd
  clear hd
  go_wp2
  go_ret
  exact ⟨retB HD.out, rfl⟩
theorem badCost_any (A : Option Addr) (R : List Int) (c : Nat) (b : Bool) (w : World) (hp : IntsAt w w.heap.size A R) (hn : 2 < R.length) (h : Hid (inB (R.getD 2 0) 0 1000 = b)) :
    Calls Tryd.prog 91 #[.slice A R.length c] w fun e w' => e = .returned (.bool (!b)) ∧ w = w' := by
  obtain ⟨g, off, rfl, _, hc⟩ := hp (by omega)
  have d := hc 2 hn
  have hnI : (2 : Int) < (R.length : Int) := by omega
  obtain ⟨x, hx⟩ : ∃ x, R.getD 2 0 = x := ⟨_, rfl⟩
  rw [hx] at d h
  clear hc hp hx
  by_cases h0 : x < 0
  · have hb : b = false := by rw [← h.out]; exact inB_f (by omega)
    subst hb
    clear h
    go_enter Tryd.func91, Tryd.ntmps91
    go_wp2
    go_ret
    exact ⟨rfl, rfl⟩
  · have H : Hid ((!b) = decide (1000 < x)) := by
      show _ = _
      rw [← h.out]; unfold inB
      by_cases h1 : 1000 < x
      · rw [decide_eq_true h1, decide_eq_false (by omega)]; rfl
      · rw [decide_eq_false h1, decide_eq_true (by omega)]; rfl
    have hd : decide (x < 0) = false := decide_eq_false h0
    clear h h0
    go_enter Tryd.func91, Tryd.ntmps91
    go_wp2
    go_ret
    exact ⟨retB H.out.symm, rfl⟩
set_option maxHeartbeats 800000 in
theorem indexCost_any (A : Option Addr) (Ls : List SlI) (c : Nat) (w : World) (hp : ISAt w w.heap.size A Ls) (hn : Ls.length ≤ 1048576) (h3 : ∀ i, i < Ls.length → (Ls.getD i si0).2.1.length = 3) :
    Calls Tryd.prog 103 #[.slice A Ls.length c, .func (.func 91) #[] #[]] w (IdxW (okTo (costB (heldI Ls)) Ls.length) w) := by
  have hnI : (Ls.length : Int) ≤ 1048576 := by omega
  go_enter Tryd.func103, Tryd.ntmps103
  go_wp2
  go_loop [5, 8] (fun _ i => ∃ k : Nat, k ≤ Ls.length ∧ i = .int .i64 k ∧ Hid (okTo (costB (heldI Ls)) k = true)) (fun _ i => Ls.length - (intOf i).toNat)
  case atStart => exact ⟨0, Nat.zero_le _, rfl, rfl⟩
  case round =>
    obtain ⟨k, hk, rfl, HX⟩ := hrel
    have hk0 : (0 : Int) ≤ (k : Int) := by omega
    by_cases hlt : k < Ls.length
    · obtain ⟨b, off, rfl, hbB, hc⟩ := hp (by omega)
      obtain ⟨d0, pk, _, _⟩ := hc k hlt
      have h3k := h3 k hlt
      have hltI : (k : Int) < (Ls.length : Int) := by omega
      have hE : costB (heldI Ls) k = inB ((Ls.getD k si0).2.1.getD 2 0) 0 1000 := by unfold costB; rw [heldI_at]
      have cb := fun (b : Bool) (h : Hid (inB ((Ls.getD k si0).2.1.getD 2 0) 0 1000 = b)) (w1 : World) hp => badCost_any (Ls.getD k si0).1 (Ls.getD k si0).2.1 (Ls.getD k si0).2.2 b w1 hp (by omega) h
      cases hin : costB (heldI Ls) k
      · have HF : Hid (okTo (costB (heldI Ls)) Ls.length = false) := okTo_bad hlt hin
        have HI : Hid (inB ((Ls.getD k si0).2.1.getD 2 0) 0 1000 = false) := hE.symm.trans hin
        clear hc hin hp hE h3k
        generalize (Ls.getD k si0).2.1 = R at *
        generalize (Ls.getD k si0).1 = Ay at *
        generalize (Ls.getD k si0).2.2 = ky at *
        go_wp2_with (go_at_call 91; refine (cb _ HI _ pk).mono ?_; rintro e w' ⟨rfl, rfl⟩)
        go_ret
        exact ⟨k, rfl, rfl, by rw [HF.out]; exact decide_eq_true (by omega), by omega, by omega⟩
      · have HX2 : Hid (okTo (costB (heldI Ls)) (k + 1) = true) := okTo_next HX.out hin
        have HI : Hid (inB ((Ls.getD k si0).2.1.getD 2 0) 0 1000 = true) := hE.symm.trans hin
        clear hc hin hp hE h3k
        generalize (Ls.getD k si0).2.1 = R at *
        generalize (Ls.getD k si0).1 = Ay at *
        generalize (Ls.getD k si0).2.2 = ky at *
        go_wp2_with (go_at_call 91; refine (cb _ HI _ pk).mono ?_; rintro e w' ⟨rfl, rfl⟩)
        go_round
        case rel => exact ⟨k + 1, by omega, by go_num, HX2⟩
        case measure => simp [intOf]; omega
    · have HF : Hid (okTo (costB (heldI Ls)) Ls.length = true) := by
        have := HX.out
        rw [show k = Ls.length by omega] at this
        exact this
      go_wp2
      go_ret
      exact ⟨-1, rfl, rfl, by rw [HF.out]; rfl, by omega, by omega⟩
theorem containsCost_any (A : Option Addr) (Ls : List SlI) (c : Nat) (w : World) (hp : ISAt w w.heap.size A Ls) (hn : Ls.length ≤ 1048576) (h3 : ∀ i, i < Ls.length → (Ls.getD i si0).2.1.length = 3) :
    Calls Tryd.prog 90 #[.slice A Ls.length c, .func (.func 91) #[] #[]] w fun e w' => e = .returned (.bool (!okTo (costB (heldI Ls)) Ls.length)) ∧ w = w' := by
  go_enter Tryd.func90, Tryd.ntmps90
  go_wp2_with fail
  refine (indexCost_any _ _ _ _ hp hn h3).mono ?_
  rintro e w' ⟨r, rfl, rfl, hd, h1, h2⟩
  have HD := Lib.hid hd
  clear hd
  go_wp2
  go_ret
  exact ⟨retB HD.out, rfl⟩
def prsB (L : List (List Int)) (n : Int) (size : Nat) : Bool := okTo (pairB L n size) L.length && decide (L.length ≤ 30)
set_option maxRecDepth 100000 in
set_option maxHeartbeats 3200000 in
theorem arePairs_any (A : Option Addr) (Ls : List SlI) (c : Nat) (n : Int) (size : Nat) (w : World) (hp : ISAt w w.heap.size A Ls) (hl : Ls.length ≤ 1048576) (hls : ∀ i, i < Ls.length → (Ls.getD i si0).2.1.length ≤ 1048576) (hs : size = 2 ∨ size = 3) :
    Calls Tryd.prog 89 #[.slice A Ls.length c, .int .i64 n, .int .i64 (size : Int)] w fun e w' => e = .returned (.bool (prsB (heldI Ls) n size)) ∧ Below w.heap.size w w' := by
  have hlI : (Ls.length : Int) ≤ 1048576 := by omega
  have hJl := heldI_len Ls
  obtain ⟨L, hLL⟩ : ∃ L, Ls.length = L := ⟨_, rfl⟩
  obtain ⟨J, hJ⟩ : ∃ J, heldI Ls = J := ⟨_, rfl⟩
  have hrow : ∀ k, J.getD k [] = (Ls.getD k si0).2.1 := fun k => by rw [← hJ]; exact heldI_at
  rw [hLL] at hlI hl hJl hls
  rw [hJ] at hJl
  rw [hLL, hJ]
  have hc : 0 < L → ∃ b off, A = some ⟨b, off, none⟩ ∧ b < w.heap.size ∧ ∀ i, i < L →
    w.cell? ⟨b, off + i, none⟩ = some (.slice (Ls.getD i si0).1 (Ls.getD i si0).2.1.length (Ls.getD i si0).2.2) ∧ IntsAt w w.heap.size (Ls.getD i si0).1 (Ls.getD i si0).2.1 ∧ (Ls.getD i si0).2.1.length ≤ (Ls.getD i si0).2.2 ∧ (Ls.getD i si0).2.2 ≤ maxLen := by
    have := hp
    unfold ISAt at this
    rw [hLL] at this
    exact this
  have HC := Lib.hid hc
  have HR := Lib.hid hrow
  have HS := Lib.hid hls
  have HJL := Lib.hid hJl
  clear hp hc hrow hls hJl hLL hJ
  obtain ⟨sI, hsI⟩ : ∃ s : Int, s = (size : Int) := ⟨_, rfl⟩
  rw [← hsI]
  have HSI := Lib.hid hsI
  clear hsI
  by_cases h30 : 30 < L
  · have R : Hid (prsB J n size = false) := by show _ = _; unfold prsB; rw [HJL.out, decide_eq_false (by omega)]; simp
    have hI : (30 : Int) < (L : Int) := by omega
    clear hs
    go_enter Tryd.func89, Tryd.ntmps89
    go_wp2
    go_ret
    exact ⟨retB R.out.symm, Below.refl _ _⟩
  have h30I : (L : Int) ≤ 30 := by omega
  have H30 := Lib.hid h30
  clear h30
  go_enter Tryd.func89, Tryd.ntmps89
  go_wp2
  go_loopw [7, 8, 14] (fun _ _ i wr => ∃ k : Nat, k ≤ L ∧ i = .int .i64 k ∧ Hid (okTo (pairB J n size) k = true) ∧ Below w.heap.size w wr) (fun _ _ i _ => L - (intOf i).toNat)
  case atStart => exact ⟨0, Nat.zero_le _, rfl, rfl, Below.refl _ _⟩
  case round =>
    obtain ⟨k, hk, rfl, HX, hb⟩ := hrel
    by_cases hlt : k < L
    case neg =>
      obtain rfl : k = L := by omega
      have R : Hid (prsB J n size = true) := by show _ = _; unfold prsB; rw [HJL.out, HX.out, decide_eq_true (by have := H30.out; omega)]; rfl
      clear hs
      go_wp2
      go_ret
      exact ⟨retB (by rw [R.out]), hb⟩
    have hkI : (k : Int) < (L : Int) := by omega
    have hk0 : (0 : Int) ≤ (k : Int) := by omega
    obtain ⟨b, off, rfl, hbB, hc⟩ := HC.out (by omega)
    obtain ⟨ck, ik, lk, _⟩ := hc k hlt
    have hRk := HR.out k
    have hsk := HS.out k hlt
    obtain ⟨⟨Ak, Lk, cc⟩, hz⟩ : ∃ z, Ls.getD k si0 = z := ⟨_, rfl⟩
    rw [hz] at ck ik lk hRk hsk
    dsimp only at ck ik lk hRk hsk
    have d := (hb.cell (p := ⟨b, off + k, none⟩) hbB).trans ck
    have hzw := hb.size
    have hbb' : b < wr.heap.size := by omega
    have hbw := hb
    clear ck hz
    obtain ⟨m, hm⟩ : ∃ m, Lk.length = m := ⟨_, rfl⟩
    have BAD : Hid (pairB J n size k = false → prsB J n size = false) := fun h => by unfold prsB; rw [okTo_bad (by rw [HJL.out]; exact hlt) h]; rfl
    by_cases hm2 : m = size
    case neg =>
      have R := Lib.hid (BAD.out (by unfold pairB; rw [hRk, hm, decide_eq_false hm2]; rfl))
      rw [hm] at d
      have hne : ((m : Int) == sI) = false := by rw [HSI.out]; simp; omega
      have hne2 : ((m : Int) != sI) = true := by rw [HSI.out]; simp; omega
      clear ik hRk hm2 lk hm hb hzw hs
      go_wp2
      go_quiet (fail)
      go_wp2
      go_ret
      exact ⟨retB R.out.symm, bl_drewN hbw _⟩
    subst hm2
    have hne : ((m : Int) == sI) = true := by rw [HSI.out]; simp
    have hne2 : ((m : Int) != sI) = false := by rw [HSI.out]; simp
    rw [hm] at d
    have hsz2 : 2 ≤ m := by omega
    have hsz2I : (2 : Int) ≤ (m : Int) := by omega
    have hsz0I : (0 : Int) < (m : Int) := by omega
    have hsz1I : (1 : Int) < (m : Int) := by omega
    obtain ⟨bk, ok, rfl, hbk, hik⟩ := ik (by omega)
    rw [hm] at hik
    have e0 := (hb.cell (p := ⟨bk, ok + 0, none⟩) hbk).trans (hik 0 (by omega))
    have e1 := (hb.cell (p := ⟨bk, ok + 1, none⟩) hbk).trans (hik 1 (by omega))
    rw [Nat.add_zero] at e0
    obtain ⟨x, hx⟩ : ∃ x, Lk.getD 0 0 = x := ⟨_, rfl⟩
    obtain ⟨y, hy⟩ : ∃ y, Lk.getD 1 0 = y := ⟨_, rfl⟩
    rw [hx] at e0
    rw [hy] at e1
    have HRW : Hid (pairB J n m k = (inB x 0 (n - 1) && (inB y (x + 1) (n - 1) && (decide (k = 0) || decide (cmpL (J.getD (k - 1) []) (J.getD k []) < 0))))) := by
      show _ = _
      unfold pairB
      rw [hRk, hm, hx, hy, decide_eq_true rfl]; rfl
    clear hik hx hy lk hs
    by_cases hx0 : x < 0
    · have R := Lib.hid (BAD.out (by rw [HRW.out, inB_f (by omega)]; rfl))
      have hdx : decide (x < 0) = true := decide_eq_true hx0
      clear hRk hm hb hzw e1 ik
      go_wp2
      go_quiet (fail)
      go_wp2
      go_ret
      exact ⟨retB R.out.symm, bl_drewN hbw _⟩
    have hdx : decide (x < 0) = false := decide_eq_false hx0
    by_cases hxy : y ≤ x
    · have R := Lib.hid (BAD.out (by rw [HRW.out, inB_f (n := y) (by omega)]; simp))
      have hdy : decide (y ≤ x) = true := decide_eq_true hxy
      clear hRk hm hb hzw ik hx0
      go_wp2
      go_quiet (fail)
      go_wp2
      go_ret
      exact ⟨retB R.out.symm, bl_drewN hbw _⟩
    have hdy : decide (y ≤ x) = false := decide_eq_false hxy
    by_cases hyn : n ≤ y
    · have R := Lib.hid (BAD.out (by rw [HRW.out, inB_f (n := y) (by omega)]; simp))
      have hdn : decide (n ≤ y) = true := decide_eq_true hyn
      clear hRk hm hb hzw ik hx0 hxy
      go_wp2
      go_quiet (fail)
      go_wp2
      go_ret
      exact ⟨retB R.out.symm, bl_drewN hbw _⟩
    have hdn : decide (n ≤ y) = false := decide_eq_false hyn
    rw [inB_t (by omega) (by omega), inB_t (by omega) (by omega)] at HRW
    clear hx0 hxy hyn
    by_cases hk1 : k = 0
    · have HX2 : Hid (okTo (pairB J n m) (k + 1) = true) := okTo_next HX.out (by rw [HRW.out, decide_eq_true hk1]; rfl)
      have hd0 : decide (0 < k) = false := decide_eq_false (by omega)
      clear hRk hk1 ik
      go_wp2
      go_quiet (fail)
      go_wp2
      go_roundw
      case rel => exact ⟨k + 1, by omega, by go_num, HX2, bl_drewN hbw _⟩
      case measure => simp [intOf]; omega
    · obtain ⟨j, rfl⟩ : ∃ j, k = j + 1 := ⟨k - 1, by omega⟩
      have hj0 : (0 : Int) < ((j + 1 : Nat) : Int) := by omega
      obtain ⟨cj, ij, lj, _⟩ := hc j (by omega)
      have hRj := HR.out j
      have hsj := HS.out j (by omega)
      obtain ⟨⟨Aj, Lj, cj'⟩, hz⟩ : ∃ z, Ls.getD j si0 = z := ⟨_, rfl⟩
      rw [hz] at cj ij lj hRj hsj
      dsimp only at cj ij lj hRj hsj
      have dj := (hb.cell (p := ⟨b, off + j, none⟩) hbB).trans cj
      have hjm : ((j + 1 : Nat) : Int) - 1 = (j : Int) := by omega
      have hjw : IntKind.i64.wrap (((j + 1 : Nat) : Int) - 1) = (j : Int) := by rw [hjm]; exact IntWalk.i64_in _ (by omega)
      have hjw2 : IntKind.i64.wrap ((j : Int) + 1 - 1) = (j : Int) := by rw [show (j : Int) + 1 - 1 = (j : Int) by omega]; exact IntWalk.i64_in _ (by omega)
      obtain ⟨v, hv⟩ : ∃ v, cmpL (J.getD j []) (J.getD (j + 1) []) = v := ⟨_, rfl⟩
      have CL0 : ∀ wx, Below w.heap.size w wx → Calls Tryd.prog 102 #[.slice Aj Lj.length cj', .slice (some ⟨bk, ok, none⟩) m cc] wx fun e w' => e = .returned (.int .i64 v) ∧ wx = w' := by
        intro wx hx
        rw [← hv, hRj, hRk]
        have := sCompare_any Aj (some ⟨bk, ok, none⟩) Lj Lk cj' cc wx ((ij.keepB hx).mono hx.size) ((ik.keepB hx).mono hx.size) hsj hsk
        rw [hm] at this
        exact this
      have CL := Lib.hid CL0
      clear CL0
      have hbk' : bk < wr.heap.size := by omega
      rw [show j + 1 - 1 = j by omega, hv] at HRW
      have hjI : (j : Int) < (L : Int) := by omega
      clear cj ij hz ik hRj hRk hv
      by_cases hlx : v < 0
      · have HX2 : Hid (okTo (pairB J n m) (j + 1 + 1) = true) := okTo_next HX.out (by rw [HRW.out, decide_eq_true hlx]; cases decide (j + 1 = 0) <;> rfl)
        have hdv : decide (0 ≤ v) = false := decide_eq_false (by omega)
        clear hlx
        go_wp2
        go_quiet (fail)
        go_wp2_with (go_at_call 102; refine (CL.out _ (bl_drewN hbw _)).mono ?_; rintro e w' ⟨rfl, rfl⟩)
        go_roundw
        case rel => exact ⟨j + 1 + 1, by omega, by go_num, HX2, bl_drewN hbw _⟩
        case measure => simp [intOf]; omega
      · have R := Lib.hid (BAD.out (by rw [HRW.out, decide_eq_false hlx, decide_eq_false (by omega)]; rfl))
        have hdv : decide (0 ≤ v) = true := decide_eq_true (by omega)
        have hdv2 : 0 ≤ v := by omega
        clear hlx
        go_wp2
        go_quiet (fail)
        go_wp2_with (go_at_call 102; refine (CL.out _ (bl_drewN hbw _)).mono ?_; rintro e w' ⟨rfl, rfl⟩)
        go_ret
        exact ⟨retB R.out.symm, bl_drewN hbw _⟩
end Go.Proofs.YtdoheipnfdbioaaDoor
