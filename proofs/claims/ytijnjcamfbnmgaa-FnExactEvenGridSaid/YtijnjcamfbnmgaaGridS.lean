/-
  Contracts: is a grid valid, as the model has it.
-/
import Derived.Test.YtijnjcamfbnmgaaGridP
import Derived.Test.YtijnjcamfbnmgaaIS
import Derived.Test.YtijnjcamfbnmgaaReg
import Derived.Test.YtijnjcamfbnmgaaQuietT
namespace Go.Proofs.Ytijnjcamfbnmgaa
set_option linter.unusedSimpArgs false
set_option linter.unusedVariables false
open Go.ChangeShapes Go.WideShapes Go.ChangeAt Go.RowKit

theorem l00In_g {n lo hi : Int} {b : Bool} (h : Hid (inB n lo hi = b)) (w : World) :
    Calls Try.prog 65 #[.int .i64 n, .int .i64 lo, .int .i64 hi] w fun e w' => e = .returned (.bool b) ∧ w = w' :=
  (l00In_any n lo hi w).mono fun _ _ ⟨he, hw⟩ => ⟨by rw [he, h.out], hw⟩
set_option maxRecDepth 100000 in
set_option maxHeartbeats 3200000 in
theorem l08Rows_any (A : Option Addr) (Ls : List SlI) (c h n : Nat) (hI nI : Int) (w : World) (hp : ISAt w w.heap.size A Ls) (hl : Ls.length ≤ 1048576) (hls : ∀ i, i < Ls.length → (Ls.getD i si0).2.1.length ≤ 1048576) (hh : h ≤ 8) (hn : n ≤ 8) (eh : hI = (h : Int)) (en : nI = (n : Int)) :
    Calls Try.prog 110 #[.slice A Ls.length c, .int .i64 hI, .int .i64 nI] w fun e w' => e = .returned (.bool (gRowsB (heldI Ls) h n)) ∧ w = w' := by
  subst eh en
  have hlI : (Ls.length : Int) ≤ 1048576 := by omega
  have hhI : (h : Int) ≤ 8 := by omega
  have hnI : (n : Int) ≤ 8 := by omega
  have hJl := heldI_len Ls
  by_cases hL : Ls.length = h
  case neg =>
    have R : Hid (gRowsB (heldI Ls) h n = false) := gRowsB_len (by rw [hJl]; exact hL)
    have hne : ((Ls.length : Int) != (h : Int)) = true := by simp; omega
    rw [R.out]
    clear hJl hp hL
    go_enter Try.func110, Try.ntmps110
    go_wp2
    go_ret
    exact ⟨rfl, rfl⟩
  have HC : Hid (0 < h → ∃ b off, A = some ⟨b, off, none⟩ ∧ ∀ i, i < h →
    w.cell? ⟨b, off + i, none⟩ = some (.slice (Ls.getD i si0).1 (Ls.getD i si0).2.1.length (Ls.getD i si0).2.2) ∧ IntsAt w w.heap.size (Ls.getD i si0).1 (Ls.getD i si0).2.1) := by
    intro h0
    rw [← hL] at h0 ⊢
    obtain ⟨b, off, e, _, hc⟩ := hp h0
    exact ⟨b, off, e, fun i hi => ⟨(hc i hi).1, (hc i hi).2.1⟩⟩
  have HS : Hid (∀ i, i < h → (Ls.getD i si0).2.1.length ≤ 1048576) := by
    rw [← hL]; exact hls
  have HJ : Hid ((heldI Ls).length = h) := by rw [← hL]; exact hJl
  have HR : Hid (∀ k, (heldI Ls).getD k [] = (Ls.getD k si0).2.1) := fun k => heldI_at
  have hne : ((h : Int) != (h : Int)) = false := by simp
  rw [hL]
  rw [hL] at hlI
  clear hp hl hls hJl hL
  generalize heldI Ls = J at *
  go_enter Try.func110, Try.ntmps110
  go_wp2
  go_loop [7, 8] (fun y _ => ∃ k : Nat, k ≤ h ∧ y = .int .i64 k ∧ Hid (okTo (gRowB J n) k = true)) (fun y _ => h - (intOf y).toNat)
  case atStart => exact ⟨0, Nat.zero_le _, rfl, rfl⟩
  case round =>
    obtain ⟨k, hk, rfl, HX⟩ := hrel
    have hk0 : (0 : Int) ≤ (k : Int) := by omega
    by_cases hlt : k < h
    case neg =>
      obtain rfl : k = h := by omega
      have R := Lib.hid (gRowsB_ok (n := n) HJ.out HX.out)
      go_wp2
      go_ret
      exact ⟨retB R.out.symm, rfl⟩
    have hkI : (k : Int) < (h : Int) := by omega
    obtain ⟨b, off, rfl, hc⟩ := HC.out (by omega)
    obtain ⟨ck, ik⟩ := hc k hlt
    have hRk := HR.out k
    have hsk := HS.out k hlt
    obtain ⟨⟨Ak, Lk, cc⟩, hz⟩ : ∃ z, Ls.getD k si0 = z := ⟨_, rfl⟩
    rw [hz] at ck ik hRk hsk
    dsimp only at ck ik hRk hsk
    have BAD : Hid (gRowB J n k = false → gRowsB J h n = false) := gRowsB_bad hlt
    clear hc hz
    obtain ⟨m, hm⟩ : ∃ m, Lk.length = m := ⟨_, rfl⟩
    rw [hm] at ck hsk
    have hmI : (m : Int) ≤ 1048576 := by omega
    by_cases hmn : m = n
    case neg =>
      have R := Lib.hid (BAD.out (by unfold gRowB; rw [hRk, hm, decide_eq_false hmn]; rfl))
      have hne2 : ((m : Int) != (n : Int)) = true := by simp; omega
      clear ik hRk hmn hm
      go_wp2
      go_ret
      exact ⟨retB R.out.symm, rfl⟩
    subst hmn
    have hne2 : ((m : Int) != (m : Int)) = false := by simp
    have HRW : Hid (gRowB J m k = okTo (roomB Lk) m) := by
      show _ = _
      unfold gRowB
      rw [hRk, hm, decide_eq_true rfl]; rfl
    have HI : Hid (0 < m → ∃ bk ok, Ak = some ⟨bk, ok, none⟩ ∧ ∀ i, i < m → w.cell? ⟨bk, ok + i, none⟩ = some (.int .i64 (Lk.getD i 0))) := by
      intro h0
      rw [← hm] at h0 ⊢
      obtain ⟨bk, ok, e, _, hc⟩ := ik h0
      exact ⟨bk, ok, e, hc⟩
    clear ik hRk hm
    go_wp2
    go_loop [8] (fun x => ∃ j : Nat, j ≤ m ∧ x = .int .i64 j ∧ Hid (okTo (roomB Lk) j = true)) (fun x => m - (intOf x).toNat)
    case atStart => exact ⟨0, Nat.zero_le _, rfl, rfl⟩
    case round =>
      obtain ⟨j, hj, rfl, HY⟩ := hrel
      have hj0 : (0 : Int) ≤ (j : Int) := by omega
      by_cases hlj : j < m
      case neg =>
        obtain rfl : j = m := by omega
        have HX2 : Hid (okTo (gRowB J j) (k + 1) = true) := okTo_next HX.out (by rw [HRW.out]; exact HY.out)
        go_wp2
        go_round
        case rel => exact ⟨k + 1, by omega, by go_num, HX2⟩
        case measure => simp [intOf]; omega
      have hjI : (j : Int) < (m : Int) := by omega
      obtain ⟨bk, ok, rfl, hc⟩ := HI.out (by omega)
      have e := hc j hlj
      clear hc
      cases hin : roomB Lk j
      · have R := Lib.hid (BAD.out (by rw [HRW.out]; exact okTo_bad hlj hin))
        have HIN : Hid (inB (Lk.getD j 0) 0 20 = false) := hin
        clear hin
        generalize Lk.getD j 0 = v at *
        go_wp2_with (go_at_call 65; refine (l00In_g HIN _).mono ?_; rintro e w' ⟨rfl, rfl⟩)
        go_ret
        exact ⟨retB R.out.symm, rfl⟩
      · have HY2 : Hid (okTo (roomB Lk) (j + 1) = true) := okTo_next HY.out hin
        have HIN : Hid (inB (Lk.getD j 0) 0 20 = true) := hin
        clear hin
        generalize Lk.getD j 0 = v at *
        go_wp2_with (go_at_call 65; refine (l00In_g HIN _).mono ?_; rintro e w' ⟨rfl, rfl⟩)
        go_round
        case rel => exact ⟨j + 1, by omega, by go_num, HY2⟩
        case measure => simp [intOf]; omega
set_option maxHeartbeats 800000 in
theorem l08Size_0 (g cA : Nat) (A : Option Addr) (w : World) (c0 : w.cell? ⟨g, 0, none⟩ = some (.slice A 0 cA)) :
    Calls Try.prog 109 #[.pointer (some ⟨g, 0, none⟩)] w fun e w' => e = .returned (.tuple #[.int .i64 0, .int .i64 0]) ∧ Below w.heap.size w w' := by
  go_enter Try.func109, Try.ntmps109
  go_wp2
  go_ret2
  exact ⟨rfl, Below.refl _ _⟩
set_option maxHeartbeats 800000 in
theorem l08Size_1 (g b off cA c0' : Nat) (A0 : Option Addr) (L n : Nat) (w : World) (c0 : w.cell? ⟨g, 0, none⟩ = some (.slice (some ⟨b, off, none⟩) L cA)) (d0 : w.cell? ⟨b, off, none⟩ = some (.slice A0 n c0')) (h0 : 0 < L) (hL : L ≤ 1048576) (hn : n ≤ 1048576) :
    Calls Try.prog 109 #[.pointer (some ⟨g, 0, none⟩)] w fun e w' => e = .returned (.tuple #[.int .i64 ((n : Int) + 1), .int .i64 (L : Int)]) ∧ Below w.heap.size w w' := by
  have hLI : (L : Int) ≤ 1048576 := by omega
  have hnI : (n : Int) ≤ 1048576 := by omega
  have h0I : (0 : Int) < (L : Int) := by omega
  have hne : ((L : Int) == 0) = false := by simp; omega
  go_enter Try.func109, Try.ntmps109
  go_wp2
  go_quiet (fail)
  go_wp2
  go_ret2
  exact ⟨rfl, bl_drewN (Below.refl _ _) _⟩
/-- A grid's two lists of rows lie in w. -/
def GrAt (w : World) (N : Nat) (AA : Option Addr) (A : List SlI) (AU : Option Addr) (U : List SlI) : Prop := ISAt w N AA A ∧ ISAt w N AU U
def GrSz (A U : List SlI) : Prop := (A.length ≤ 1048576 ∧ ∀ i, i < A.length → (A.getD i si0).2.1.length ≤ 1048576) ∧ (U.length ≤ 1048576 ∧ ∀ i, i < U.length → (U.getD i si0).2.1.length ≤ 1048576)
theorem GrAt.to {w w1 : World} {AA : Option Addr} {A : List SlI} {AU : Option Addr} {U : List SlI} (h : GrAt w w.heap.size AA A AU U) (hb : Below w.heap.size w w1) : GrAt w1 w1.heap.size AA A AU U := ⟨h.1.to hb, h.2.to hb⟩
set_option maxRecDepth 100000 in
set_option maxHeartbeats 3200000 in
theorem l08Is_any (g : Nat) (AA : Option Addr) (A : List SlI) (cA : Nat) (AU : Option Addr) (U : List SlI) (cU : Nat) (w : World)
    (c0 : w.cell? ⟨g, 0, none⟩ = some (.slice AA A.length cA)) (c1 : w.cell? ⟨g, 1, none⟩ = some (.slice AU U.length cU)) (hp : GrAt w w.heap.size AA A AU U) (hs : GrSz A U) :
    Calls Try.prog 72 #[.pointer (some ⟨g, 0, none⟩)] w fun e w' => e = .returned (.bool (gvB (heldI A) (heldI U))) ∧ Below w.heap.size w w' := by
  have hg : g < w.heap.size := World.block_lt_of_cell? w _ c0
  obtain ⟨hA, hU⟩ := hp
  obtain ⟨⟨lA, mA⟩, lU, mU⟩ := hs
  have hAl := heldI_len A
  by_cases h0 : 0 < A.length
  case neg =>
    have R : Hid (gvB (heldI A) (heldI U) = false) := gvB_0 (by rw [hAl]; exact h0)
    rw [show A.length = 0 by omega] at c0
    have HI : Hid (inB 0 1 8 = false) := inB_f (by omega)
    rw [R.out]
    clear hA hU mA mU h0 hAl
    go_enter Try.func72, Try.ntmps72
    go_wp2_with fail
    refine (l08Size_0 g cA AA w c0).mono ?_
    rintro e w1 ⟨rfl, hb1⟩
    go_wp2_with (go_at_call 65; refine (l00In_g HI _).mono ?_; rintro e w' ⟨rfl, rfl⟩)
    go_ret
    exact ⟨rfl, hb1⟩
  obtain ⟨L, hL⟩ : ∃ L, A.length = L := ⟨_, rfl⟩
  obtain ⟨n, hn⟩ : ∃ n, (A.getD 0 si0).2.1.length = n := ⟨_, rfl⟩
  have hn0 : ((heldI A).getD 0 []).length = n := by rw [heldI_at]; exact hn
  have hm0 := mA 0 h0
  obtain ⟨b, off, rfl, hbB, hc⟩ := hA h0
  have d0 := (hc 0 h0).1
  rw [hn] at d0 hm0
  rw [Nat.add_zero] at d0
  rw [hL] at c0 h0 lA
  have CR := Lib.hid (fun (wx : World) (hb : Below w.heap.size w wx) (hI nI : Int) (h m : Nat) (hh : h ≤ 8) (hm : m ≤ 8) (eh : hI = (h : Int)) (en : nI = (m : Int)) => l08Rows_any (some ⟨b, off, none⟩) A cA h m hI nI wx (hA.to hb) (by omega) mA hh hm eh en)
  have CU := Lib.hid (fun (wx : World) (hb : Below w.heap.size w wx) (hI nI : Int) (h m : Nat) (hh : h ≤ 8) (hm : m ≤ 8) (eh : hI = (h : Int)) (en : nI = (m : Int)) => l08Rows_any AU U cU h m hI nI wx (hU.to hb) lU mU hh hm eh en)
  rw [hL] at CR hAl
  have LI : (L : Int) ≤ 1048576 := by omega
  have nI : (n : Int) ≤ 1048576 := by omega
  have h0I : (0 : Int) < (L : Int) := by omega
  have HL := Lib.hid hAl
  have HN := Lib.hid hn0
  clear hc hn mA mU hA hU hn0 hAl hL
  generalize heldI A = J at *
  generalize heldI U = K at *
  by_cases h7 : n ≤ 7
  case neg =>
    have R : Hid (gvB J K = false) := gvB_w (by rw [HN.out]; exact h7)
    have HI : Hid (inB ((n : Int) + 1) 1 8 = false) := inB_f (by omega)
    rw [R.out]
    clear CR CU h7
    go_enter Try.func72, Try.ntmps72
    go_wp2_with fail
    refine (l08Size_1 g b off cA _ _ L n w c0 d0 h0 lA hm0).mono ?_
    rintro e w1 ⟨rfl, hb1⟩
    go_wp2_with (go_at_call 65; refine (l00In_g HI _).mono ?_; rintro e w' ⟨rfl, rfl⟩)
    go_ret
    exact ⟨rfl, hb1⟩
  have HI : Hid (inB ((n : Int) + 1) 1 8 = true) := inB_t (by omega) (by omega)
  by_cases h8 : L ≤ 8
  case neg =>
    have R : Hid (gvB J K = false) := gvB_h (by rw [HL.out]; exact h8)
    have HI2 : Hid (inB (L : Int) 1 8 = false) := inB_f (by omega)
    rw [R.out]
    clear CR CU h7 h8
    go_enter Try.func72, Try.ntmps72
    go_wp2_with fail
    refine (l08Size_1 g b off cA _ _ L n w c0 d0 h0 lA hm0).mono ?_
    rintro e w1 ⟨rfl, hb1⟩
    go_wp2_with fail
    refine (l00In_g HI _).mono ?_
    rintro e w' ⟨rfl, rfl⟩
    go_wp2_with fail
    refine (l00In_g HI2 _).mono ?_
    rintro e w' ⟨rfl, rfl⟩
    go_wp2
    go_ret
    exact ⟨rfl, hb1⟩
  have HI2 : Hid (inB (L : Int) 1 8 = true) := inB_t (by omega) (by omega)
  have R : Hid (gvB J K = (gRowsB J L n && gRowsB K (L - 1) (n + 1))) := by
    have := gvB_r (A := J) (U := K) (by rw [HL.out]; exact h0) (by rw [HN.out]; exact h7) (by rw [HL.out]; exact h8)
    rw [HL.out, HN.out] at this
    exact this
  have C1 := Lib.hid (fun (wx : World) (hb : Below w.heap.size w wx) => CR.out wx hb (L : Int) (n : Int) L n h8 (by omega) rfl rfl)
  have C2 := Lib.hid (fun (wx : World) (hb : Below w.heap.size w wx) => CU.out wx hb ((L : Int) - 1) ((n : Int) + 1) (L - 1) (n + 1) (by omega) (by omega) (by omega) (by omega))
  have h7I : (n : Int) ≤ 7 := by omega
  have h8I : (L : Int) ≤ 8 := by omega
  rw [R.out]
  clear CR CU h7 h8 R
  cases hr : gRowsB J L n
  · rw [hr] at C1
    clear hr C2
    go_enter Try.func72, Try.ntmps72
    go_wp2_with fail
    refine (l08Size_1 g b off cA _ _ L n w c0 d0 h0 lA hm0).mono ?_
    rintro e w1 ⟨rfl, hb1⟩
    have e0 := (hb1.cell (p := ⟨g, 0, none⟩) hg).trans c0
    have e1 := (hb1.cell (p := ⟨g, 1, none⟩) hg).trans c1
    clear c0 c1 d0
    go_wp2_with fail
    refine (l00In_g HI _).mono ?_
    rintro e w' ⟨rfl, rfl⟩
    go_wp2_with fail
    refine (l00In_g HI2 _).mono ?_
    rintro e w' ⟨rfl, rfl⟩
    go_wp2_with fail
    refine (C1.out _ hb1).mono ?_
    rintro e w' ⟨rfl, rfl⟩
    go_wp2
    go_ret
    exact ⟨rfl, hb1⟩
  · rw [hr] at C1
    clear hr
    generalize gRowsB K (L - 1) (n + 1) = z at *
    go_enter Try.func72, Try.ntmps72
    go_wp2_with fail
    refine (l08Size_1 g b off cA _ _ L n w c0 d0 h0 lA hm0).mono ?_
    rintro e w1 ⟨rfl, hb1⟩
    have e0 := (hb1.cell (p := ⟨g, 0, none⟩) hg).trans c0
    have e1 := (hb1.cell (p := ⟨g, 1, none⟩) hg).trans c1
    clear c0 c1 d0
    go_wp2_with fail
    refine (l00In_g HI _).mono ?_
    rintro e w' ⟨rfl, rfl⟩
    go_wp2_with fail
    refine (l00In_g HI2 _).mono ?_
    rintro e w' ⟨rfl, rfl⟩
    go_wp2_with fail
    refine (C1.out _ hb1).mono ?_
    rintro e w' ⟨rfl, rfl⟩
    go_wp2_with fail
    refine (C2.out _ hb1).mono ?_
    rintro e w' ⟨rfl, rfl⟩
    go_wp2
    go_ret
    exact ⟨by simp, hb1⟩
end Go.Proofs.Ytijnjcamfbnmgaa
