/-
  Contract: SkewOf, as the model has it.
-/
import Derived.Test.YtijnjcamfbnmgaaSkewP
import Derived.Test.YtijnjcamfbnmgaaJoinS
import Derived.Test.YtijnjcamfbnmgaaDist
import Derived.Test.YtijnjcamfbnmgaaOver
import Derived.Test.YtijnjcamfbnmgaaQuietT
namespace Go.Proofs.Ytijnjcamfbnmgaa
set_option linter.unusedSimpArgs false
set_option linter.unusedVariables false
open Go.ChangeShapes Go.WideShapes Go.ChangeAt Go.RowKit Go.BigFrame

set_option maxRecDepth 100000 in
set_option maxHeartbeats 6400000 in
theorem SkewOfS_any (A : Option Addr) (Ls : List SlI) (c : Nat) (AW : Option Addr) (W : List Int) (cW : Nat) (cnt : Int) (w : World) (hp : ISAt w w.heap.size A Ls) (hl : Ls.length ≤ 1048576) (hW : IntsAt w w.heap.size AW W) (lW : W.length ≤ 1048576) :
    Calls Try.prog 31 #[.int .i64 cnt, .slice A Ls.length c, .slice AW W.length cW] w fun e w' => e = .returned (skV cnt (heldI Ls) W) ∧ Below w.heap.size w w' := by
  have cj := l06Joins_any A Ls c cnt w hp hl
  have lWI : (W.length : Int) ≤ 1048576 := by omega
  cases hj : isJ cnt (heldI Ls)
  · have R := Lib.hid (skV_f (okSk_j (W := W) hj))
    rw [hj] at cj
    clear hj hp hW
    go_enter Try.func31, Try.ntmps31
    go_wp2_with fail
    refine cj.mono ?_
    rintro e w1 ⟨rfl, hb1⟩
    go_wp2
    go_ret2
    exact ⟨by rw [R.out]; rfl, hb1⟩
  obtain ⟨L, h1, h11, hJL, rfl, hJk⟩ := isJ_facts hj
  rw [hj] at cj
  rw [heldI_len] at hJL
  rw [hJL] at cj ⊢
  have h11I : (L : Int) ≤ 11 := by omega
  have h1I : (1 : Int) ≤ (L : Int) := by omega
  by_cases hwl : W.length = 2 * L + 1
  case neg =>
    have R := Lib.hid (skV_f (okSk_l (c := (L : Int) + 1) (J := heldI Ls) (W := W) (by omega)))
    have hne : ((W.length : Int) != 2 * ((L : Int) + 1) - 1) = true := by simp; omega
    have hne2 : ((W.length : Int) == 2 * ((L : Int) + 1) - 1) = false := by simp; omega
    clear hj hp hW hJk hwl hJL hl
    go_enter Try.func31, Try.ntmps31
    go_wp2_with fail
    refine cj.mono ?_
    rintro e w1 ⟨rfl, hb1⟩
    go_wp2
    go_ret2
    exact ⟨by rw [R.out]; rfl, hb1⟩
  have RW : Hid (∀ i, i < W.length → wireB W i = false → skV ((L : Int) + 1) (heldI Ls) W = .tuple #[.int .i64 0, .bool false]) := fun i hi h => skV_f (okSk_w hi h)
  have RT : Hid (okTo (wireB W) W.length = true → (∀ i, 0 ≤ W.getD i 0 ∧ W.getD i 0 ≤ 1000000000) ∧ skV ((L : Int) + 1) (heldI Ls) W = .tuple #[.int .i64 (mxTo (skD (heldI Ls) W L L) (L + 1) - mnTo (skD (heldI Ls) W L L) (L + 1)), .bool true]) := fun h => by
    refine ⟨wire_all h, ?_⟩
    rw [skV_t (okSk_t hj (by omega) h)]
    unfold skN
    rw [heldI_len, hJL, show ((L : Int) + 1).toNat = L + 1 by omega]
  have HJ : Hid (∃ b off, A = some ⟨b, off, none⟩ ∧ b < w.heap.size ∧ ∀ k, k < L → ∃ bj oj cj, w.cell? ⟨b, off + k, none⟩ = some (.slice (some ⟨bj, oj, none⟩) 2 cj) ∧ bj < w.heap.size ∧ w.cell? ⟨bj, oj, none⟩ = some (.int .i64 ((jx (heldI Ls) k).toNat : Int)) ∧ w.cell? ⟨bj, oj + 1, none⟩ = some (.int .i64 ((jy (heldI Ls) k).toNat : Int)) ∧ (jx (heldI Ls) k).toNat < (jy (heldI Ls) k).toNat ∧ (jy (heldI Ls) k).toNat ≤ L + k) := by
    obtain ⟨b, off, e, hb, hc⟩ := hp (by omega)
    refine ⟨b, off, e, hb, fun k hk => ?_⟩
    obtain ⟨q1, q2, q3, q4, q5⟩ := hJk k hk
    obtain ⟨k1, k2, _, _⟩ := hc k (by omega)
    rw [heldI_at] at q1
    obtain ⟨bj, oj, e2, hbj, hcj⟩ := k2 (by omega)
    rw [e2, q1] at k1
    have a0 := hcj 0 (by omega)
    have a1 := hcj 1 (by omega)
    rw [Nat.add_zero] at a0
    have b0 : jx (heldI Ls) k = (Ls.getD k si0).2.1.getD 0 0 := by unfold jx; rw [heldI_at]
    have b1 : jy (heldI Ls) k = (Ls.getD k si0).2.1.getD 1 0 := by unfold jy; rw [heldI_at]
    rw [← b0, q2] at a0
    rw [← b1, q3] at a1
    exact ⟨bj, oj, _, k1, hbj, a0, a1, q4, q5⟩
  have HW : Hid (∃ b off, AW = some ⟨b, off, none⟩ ∧ b < w.heap.size ∧ ∀ i, i < 2 * L + 1 → w.cell? ⟨b, off + i, none⟩ = some (.int .i64 (W.getD i 0))) := by
    obtain ⟨b, off, e, hb, hc⟩ := hW (by omega)
    exact ⟨b, off, e, hb, fun i hi => hc i (by omega)⟩
  obtain ⟨n2, hn2⟩ : ∃ n2, 2 * L + 1 = n2 := ⟨_, rfl⟩
  rw [hn2] at hwl HW
  rw [hwl] at RW RT lWI ⊢
  have hne : ((n2 : Int) != 2 * ((L : Int) + 1) - 1) = false := by simp; omega
  have hne2 : ((n2 : Int) == 2 * ((L : Int) + 1) - 1) = true := by simp; omega
  have HN2 := Lib.hid hn2
  have hmk := run_mkzs n2 (by omega)
  clear hj hp hW hJk hwl lW hl hJL hn2
  obtain ⟨bW, oW, rfl, hbW, hcW⟩ := HW.out
  have HCW := Lib.hid hcW
  obtain ⟨b, off, rfl, hbB, hc⟩ := HJ.out
  have HC := Lib.hid hc
  clear hcW hc HW HJ
  generalize heldI Ls = J at *
  go_enter Try.func31, Try.ntmps31
  go_wp2_with fail
  refine cj.mono ?_
  rintro e w1 ⟨rfl, hb1⟩
  clear cj
  go_wp2
  go_loopw [6, 7, 8] (fun _ _ i wr => ∃ k : Nat, k ≤ n2 ∧ i = .int .i64 k ∧ Hid (okTo (wireB W) k = true) ∧ wr = w1) (fun _ _ i _ => n2 - (intOf i).toNat)
  case atStart => exact ⟨0, Nat.zero_le _, rfl, rfl, rfl⟩
  case round =>
    obtain ⟨k, hk, rfl, HA, rfl⟩ := hrel
    have hk0 : (0 : Int) ≤ (k : Int) := by omega
    by_cases hlt : k < n2
    · have hkI : (k : Int) < (n2 : Int) := by omega
      have d := (hb1.cell (p := ⟨bW, oW + k, none⟩) hbW).trans (HCW.out k hlt)
      have RW2 := Lib.hid (RW.out k hlt)
      have HE : Hid (wireB W k = inB (W.getD k 0) 0 1000000000) := rfl
      generalize W.getD k 0 = x at *
      cases hin : inB x 0 1000000000
      · have R2 := Lib.hid (RW2.out (by rw [HE.out, hin]))
        have HI := Lib.hid hin
        clear hin
        go_wp2_with fail
        refine (l00In_b HI _).mono ?_
        rintro e w2 ⟨rfl, rfl⟩
        go_wp2
        go_ret2
        exact ⟨by rw [R2.out]; rfl, hb1⟩
      · have HX2 : Hid (okTo (wireB W) (k + 1) = true) := okTo_next HA.out (by rw [HE.out, hin])
        have HI := Lib.hid hin
        clear hin
        go_wp2_with fail
        refine (l00In_b HI _).mono ?_
        rintro e w2 ⟨rfl, rfl⟩
        go_wp2
        go_roundw
        case rel => exact ⟨k + 1, by omega, by go_num, HX2, trivial⟩
        case measure => simp [intOf]; omega
    · obtain rfl : k = n2 := by omega
      obtain ⟨hWb, hR⟩ := RT.out HA.out
      have HWB := Lib.hid hWb
      have R := Lib.hid hR
      have SB := Lib.hid (fun d j => skD_le (J := J) (L := L) hWb d j)
      clear hWb hR RT RW HA
      go_wp2
      have hF0 := ZBlk.new wr k
      have hb2 : Below w.heap.size w (wr.alloc (.cells (blankZ k) 2)) := hb1.alloc hb1.size _
      have hg : w.heap.size ≤ wr.heap.size := hb1.size
      generalize (wr.alloc (.cells (blankZ k) 2)) = w3 at *
      generalize wr.heap.size = G at *
      go_loopw [10] (fun i wr => ∃ d : Nat, d ≤ L ∧ i = .int .i64 ((L : Int) - 1 - d) ∧ ZBlk wr G k (skD J W L d) ∧ Below w.heap.size w wr) (fun i _ => (intOf i + 1).toNat)
      case atStart => exact ⟨0, Nat.zero_le _, by go_num, hF0, hb2⟩
      case round =>
        clear hF0 hb2 hb1
        obtain ⟨d, hd, rfl, hZ, hb⟩ := hrel
        by_cases hlt : d < L
        · obtain ⟨q, hq⟩ : ∃ q, L - 1 - d = q := ⟨_, rfl⟩
          have hqI : (L : Int) - 1 - (d : Int) = (q : Int) := by omega
          have hS := skD_succ J W L d
          obtain ⟨bj, oj, cj, k1, hbj, a0, a1, q4, q5⟩ := HC.out q (by omega)
          rw [hq] at hS
          rw [hqI]
          obtain ⟨r, hr⟩ : ∃ r, L + 1 + q = r := ⟨_, rfl⟩
          rw [hr] at hS
          have hq0 : (0 : Int) ≤ (q : Int) := by omega
          have hqL : (q : Int) < (L : Int) := by omega
          have e0 := (hb.cell (p := ⟨b, off + q, none⟩) hbB).trans k1
          have e1 := (hb.cell (p := ⟨bj, oj, none⟩) hbj).trans a0
          have e2 := (hb.cell (p := ⟨bj, oj + 1, none⟩) hbj).trans a1
          generalize (jx J q).toNat = x at *
          generalize (jy J q).toNat = y at *
          have hxn : x < k := by have := HN2.out; omega
          have hyn : y < k := by have := HN2.out; omega
          have hqn : r < k := by have := HN2.out; omega
          have e3 := (hb.cell (p := ⟨bW, oW + x, none⟩) hbW).trans (HCW.out x hxn)
          have e4 := (hb.cell (p := ⟨bW, oW + y, none⟩) hbW).trans (HCW.out y hyn)
          have e5 := hZ.at_ hqn
          have bx := HWB.out x
          have by' := HWB.out y
          have bs := SB.out d r
          have g4 := HCW.out y hyn
          generalize W.getD x 0 = vx at *
          generalize W.getD y 0 = vy at *
          generalize hs : skD J W L d r = s at *
          have hZ2 := (hZ.set_ hxn (s + vx)).set_ hyn (s + vy)
          rw [← hS] at hZ2
          have e6 := (hZ.set_ hxn (s + vx)).at_ hqn
          have hupd : updI (skD J W L d) x (s + vx) r = s := by unfold updI; rw [if_neg (by omega)]; exact hs
          rw [hupd] at e6
          have ffx := hZ.frozen x
          have ffy := hZ.frozen y
          have hxI : (x : Int) < (k : Int) := by omega
          have hyI : (y : Int) < (k : Int) := by omega
          have hx0 : (0 : Int) ≤ (x : Int) := by omega
          have hy0 : (0 : Int) ≤ (y : Int) := by omega
          have hidx : (L : Int) + 1 + (q : Int) = (r : Int) := by omega
          have hqnI : (r : Int) < (k : Int) := by omega
          have hr0 : (0 : Int) ≤ (r : Int) := by omega
          have nW : ¬ bW = G := by omega
          have nB : ¬ b = G := by omega
          have nJ : ¬ bj = G := by omega
          have nx : ¬ r = x := by omega
          have bb := (hb.setCell (p := ⟨G, x, none⟩) hg (.int .i64 (s + vx))).setCell (p := ⟨G, y, none⟩) hg (.int .i64 (s + vy))
          have HS := Lib.hid hS
          have lB : b < wr.heap.size := Nat.lt_of_lt_of_le hbB hb.size
          have lJ : bj < wr.heap.size := Nat.lt_of_lt_of_le hbj hb.size
          have lW : bW < wr.heap.size := Nat.lt_of_lt_of_le hbW hb.size
          have lG := hZ.lt
          have zx := hZ.at_ hxn
          clear hS hs hr hq hd
          go_wp2
          refine wp_region_overB (m := 24) (.alone 24 .done) (by kernel_rfl) (by kernel_rfl) (by kernel_rfl) ?_
          simp only [List.take_succ_cons, List.take_zero]
          have hov := over_cells wr
          repeat (go_big_quiet_step ((fail)))
          refine over_nilB (fun w2 hb2 => ?_)
          clear hov
          have st1 := (hb2.cell (p := ⟨G, x, none⟩) lG).trans zx
          have sf1 := (hb2.frozen (p := ⟨G, x, none⟩) lG).trans ffx
          refine tplan_b rfl (fun K hK => ?_)
          go_simp
          refine hK _ _ ⟨trivial, ?_⟩
          clear hK K
          try simp only [Act.put, List.setIfInBounds_toArray, List.set_cons_zero, List.set_cons_succ]
          refine tplan_end ?_
          have hZ5 := (hZ.to hb2).set_ hxn (s + vx)
          have hb5 := (bl_step hb hb2 hb.size).setCell (p := ⟨G, x, none⟩) hg (.int .i64 (s + vx))
          generalize (w2.setCell ⟨G, x, none⟩ (.int .i64 (s + vx))) = w5 at *
          have f0 := (hb5.cell (p := ⟨b, off + q, none⟩) hbB).trans k1
          have f1 := (hb5.cell (p := ⟨bj, oj, none⟩) hbj).trans a0
          have f2 := (hb5.cell (p := ⟨bj, oj + 1, none⟩) hbj).trans a1
          have f4 := (hb5.cell (p := ⟨bW, oW + y, none⟩) hbW).trans g4
          have f5 := hZ5.at_ hqn
          rw [hupd] at f5
          have fy5 := hZ5.frozen y
          have zy := hZ5.at_ hyn
          have lB5 : b < w5.heap.size := Nat.lt_of_lt_of_le hbB hb5.size
          have lJ5 : bj < w5.heap.size := Nat.lt_of_lt_of_le hbj hb5.size
          have lW5 : bW < w5.heap.size := Nat.lt_of_lt_of_le hbW hb5.size
          have lG5 := hZ5.lt
          clear e0 e1 e2 e3 e4 e5 e6 ffx ffy lB lJ lW lG zx st1 sf1 hb2 bb hZ2 k1 a0 a1 hupd hb hZ
          go_wp2
          refine wp_region_overB (m := 24) (.alone 24 .done) (by kernel_rfl) (by kernel_rfl) (by kernel_rfl) ?_
          simp only [List.take_succ_cons, List.take_zero]
          have hov := over_cells w5
          repeat (go_big_quiet_step ((fail)))
          refine over_nilB (fun w2 hb2 => ?_)
          clear hov
          have st2 := (hb2.cell (p := ⟨G, y, none⟩) lG5).trans zy
          have sf2 := (hb2.frozen (p := ⟨G, y, none⟩) lG5).trans fy5
          refine tplan_b rfl (fun K hK => ?_)
          go_simp
          refine hK _ _ ⟨trivial, ?_⟩
          clear hK K
          try simp only [Act.put, List.setIfInBounds_toArray, List.set_cons_zero, List.set_cons_succ]
          refine tplan_end ?_
          have hZ6 := (hZ5.to hb2).set_ hyn (s + vy)
          rw [← HS.out] at hZ6
          have hb6 := (bl_step hb5 hb2 hb5.size).setCell (p := ⟨G, y, none⟩) hg (.int .i64 (s + vy))
          generalize (Go.World.setCell _ ⟨G, y, none⟩ (.int .i64 (s + vy))) = w6 at *
          clear f0 f1 f2 f4 f5 fy5 zy st2 sf2 hb2 hZ5 hb5
          go_wp2
          go_roundw
          case rel => exact ⟨d + 1, by omega, by rw [← hqI]; go_num, hZ6, hb6⟩
          case measure => simp [intOf] <;> omega
        · obtain rfl : d = L := by omega
          have hm1 : (d : Int) - 1 - (d : Int) = -1 := by omega
          rw [hm1]
          have z0 := hZ.at_ (show 0 < k by have := HN2.out; omega)
          have lG := hZ.lt
          have hk1 : (0 : Int) < (k : Int) := by have := HN2.out; omega
          clear hm1
          go_wp2
          go_loopw [11, 12, 13] (fun a c i wx => ∃ j : Nat, 1 ≤ j ∧ j ≤ d + 1 ∧ i = .int .i64 j ∧ a = .int .i64 (mnTo (skD J W d d) j) ∧ c = .int .i64 (mxTo (skD J W d d) j) ∧ wx = wr) (fun _ _ i _ => d + 1 - (intOf i).toNat)
          case atStart => exact ⟨1, Nat.le_refl _, by omega, rfl, by rw [mn_one], by rw [mx_one], rfl⟩
          case round =>
            obtain ⟨j, hj1, hj, rfl, rfl, rfl, rfl⟩ := hrel
            have hj0 : (0 : Int) ≤ (j : Int) := by omega
            have bmn := mn_bd (SB.out d) j
            have bmx := mx_bd (SB.out d) j
            by_cases hlt : j < d + 1
            · have z := hZ.at_ (show j < k by have := HN2.out; omega)
              have hjk : (j : Int) < (k : Int) := by have := HN2.out; omega
              have hjd : (j : Int) < (d : Int) + 1 := by omega
              have MN : Hid (mnTo (skD J W d d) (j + 1) = min (mnTo (skD J W d d) j) (skD J W d d j)) := rfl
              have MX : Hid (mxTo (skD J W d d) (j + 1) = max (mxTo (skD J W d d) j) (skD J W d d j)) := rfl
              go_wp2_with fail
              refine (l00Min_any _ _ _).mono ?_
              rintro e w7 ⟨rfl, rfl⟩
              go_wp2_with fail
              refine (l00Max_any _ _ _).mono ?_
              rintro e w8 ⟨rfl, rfl⟩
              go_wp2
              go_roundw
              case rel => exact ⟨j + 1, by omega, by omega, by go_num, by rw [MN.out], by rw [MX.out], trivial⟩
              case measure => simp [intOf]; omega
            · obtain rfl : j = d + 1 := by omega
              go_wp2
              go_ret2
              exact ⟨by rw [R.out]; rfl, hb⟩
end Go.Proofs.Ytijnjcamfbnmgaa
