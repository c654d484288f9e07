/-
  Contract: SkewOf, as the program has it.
-/
import Derived.Test.YtijnjcamfbnmgaaSkewJ
import Derived.Test.YtijnjcamfbnmgaaJoinI
import Derived.Test.YtijnjcamfbnmgaaAttemptI
namespace Go.Proofs.Ytijnjcamfbnmgaa
set_option linter.unusedSimpArgs false
set_option linter.unusedVariables false
open Go.ChangeShapes Go.WideShapes Go.ChangeAt Go.RowKit

set_option maxRecDepth 100000 in
set_option maxHeartbeats 3200000 in
theorem skewClo_any (cnt : Int) (A : Option Addr) (Ls : List SlI) (c : Nat) (AW : Option Addr) (W : List Int) (cW : Nat) (Z0 Z1 Z2 : Nat) (w : World) (hp : ISAt w w.heap.size A Ls) (hl : Ls.length ≤ 1048576) (hW : IntsAt w w.heap.size AW W) (lW : W.length ≤ 1048576)
    (k0 : w.cell? ⟨Z0, 0, none⟩ = some (.int .i64 cnt)) (k1 : w.cell? ⟨Z1, 0, none⟩ = some (.slice A Ls.length c)) (k2 : w.cell? ⟨Z2, 0, none⟩ = some (.slice AW W.length cW)) :
    Calls Try.prog 67 #[.pointer (some ⟨Z0, 0, none⟩), .pointer (some ⟨Z1, 0, none⟩), .pointer (some ⟨Z2, 0, none⟩)] w fun e w' =>
      ((∃ v, e = .returned v ∧ (okSk cnt (heldI Ls) W = true ∧ v = .int .i64 (skN cnt (heldI Ls) W))) ∨ (Pan e ∧ okSk cnt (heldI Ls) W = false)) ∧ Below w.heap.size w w' := by
  have cj := IsJoinsI_any A Ls c cnt w hp hl
  have l0 : Z0 < w.heap.size := World.block_lt_of_cell? w _ k0
  have l1 : Z1 < w.heap.size := World.block_lt_of_cell? w _ k1
  have l2 : Z2 < w.heap.size := World.block_lt_of_cell? w _ k2
  cases hj : isJ cnt (heldI Ls)
  · have R := Lib.hid (okSk_j (W := W) hj)
    rw [hj] at cj
    clear hj hp hW
    go_enter Try.func67, Try.ntmps67
    go_wp2_with fail
    refine cj.mono ?_
    rintro e w1 ⟨rfl, hb1⟩
    clear cj
    go_wp2_with fail
    refine (require_no _).mono ?_
    rintro e w2 ⟨⟨u, pv, rfl⟩, rfl⟩
    go_wp2
    exact ⟨rfl, .inr ⟨⟨_, _, rfl⟩, R.out⟩, hb1⟩
  obtain ⟨L, h1, h11, hJL, rfl, hJk⟩ := isJ_facts hj
  rw [hj] at cj
  rw [heldI_len] at hJL
  have AWC := Lib.hid (fun (wx : World) (hb : Below w.heap.size w wx) => areWires_any L AW W cW wx h11 (hW.to hb) lW)
  have OK : Hid (okSk ((L : Int) + 1) (heldI Ls) W = (decide ((W.length : Int) = 2 * ((L : Int) + 1) - 1) && okTo (wireB W) W.length)) := by
    show _ = _
    unfold okSk; rw [hj]; rfl
  have CK : Hid ((decide ((W.length : Int) = 2 * ((L : Int) + 1) - 1) && okTo (wireB W) W.length) = true → ∀ wx, Below w.heap.size w wx → Calls Try.prog 71 #[.int .i64 ((L : Int) + 1), .slice A Ls.length c, .slice AW W.length cW] wx fun e w' => e = .returned (.int .i64 (skN ((L : Int) + 1) (heldI Ls) W)) ∧ Below wx.heap.size wx w') := fun h wx hb => by
    rw [Bool.and_eq_true] at h
    have hn : (W.length : Int) = 2 * ((L : Int) + 1) - 1 := of_decide_eq_true h.1
    obtain ⟨b, off, rfl, hbB, hc⟩ := hp (by omega)
    obtain ⟨bW, oW, rfl, hbW, hcW⟩ := hW (by omega)
    have := skewOf_any L W.length b off c bW oW cW (fun k => (Ls.getD k si0).1) (fun k => (Ls.getD k si0).2.2) (heldI Ls) W wx h1 h11 (by omega) (Nat.lt_of_lt_of_le hbB hb.size) (Nat.lt_of_lt_of_le hbW hb.size) (fun k hk => by
      obtain ⟨q1, q2, q3, q4, q5⟩ := hJk k hk
      obtain ⟨k1, k2, _, _⟩ := hc k (by omega)
      rw [heldI_at] at q1
      obtain ⟨bj, oj, e2, hbj, hcj⟩ := k2 (by omega)
      rw [q1] at k1
      have a0 := hcj 0 (by omega)
      have a1 := hcj 1 (by omega)
      rw [Nat.add_zero] at a0
      have b0 : jx (heldI Ls) k = (Ls.getD k si0).2.1.getD 0 0 := by unfold jx; rw [heldI_at]
      have b1 : jy (heldI Ls) k = (Ls.getD k si0).2.1.getD 1 0 := by unfold jy; rw [heldI_at]
      rw [← b0, q2] at a0
      rw [← b1, q3] at a1
      exact ⟨(hb.cell (p := ⟨b, off + k, none⟩) hbB).trans k1, bj, oj, e2, Nat.lt_of_lt_of_le hbj hb.size, (hb.cell (p := ⟨bj, oj, none⟩) hbj).trans a0, (hb.cell (p := ⟨bj, oj + 1, none⟩) hbj).trans a1, q4, q5⟩)
      (fun i hi => (hb.cell (p := ⟨bW, oW + i, none⟩) hbW).trans (hcW i hi)) (wire_all h.2)
    rw [hJL]
    unfold skN
    rw [heldI_len, hJL, show ((L : Int) + 1).toNat = L + 1 by omega]
    exact this
  clear hp hW hJk hj hJL
  cases hok : (decide ((W.length : Int) = 2 * ((L : Int) + 1) - 1) && okTo (wireB W) W.length)
  · rw [hok] at AWC OK
    clear hok CK
    go_enter Try.func67, Try.ntmps67
    go_wp2_with fail
    refine cj.mono ?_
    rintro e w1 ⟨rfl, hb1⟩
    clear cj
    have d0 := (hb1.cell (p := ⟨Z0, 0, none⟩) l0).trans k0
    have d2 := (hb1.cell (p := ⟨Z2, 0, none⟩) l2).trans k2
    clear k0 k1 k2
    go_wp2_with fail
    refine (AWC.out _ hb1).mono ?_
    rintro e w2 ⟨rfl, rfl⟩
    go_wp2_with fail
    refine (require_no _).mono ?_
    rintro e w2 ⟨⟨u, pv, rfl⟩, rfl⟩
    go_wp2
    exact ⟨rfl, .inr ⟨⟨_, _, rfl⟩, OK.out⟩, hb1⟩
  · have CK2 := Lib.hid (CK.out hok)
    rw [hok] at AWC OK
    clear hok CK
    go_enter Try.func67, Try.ntmps67
    go_wp2_with fail
    refine cj.mono ?_
    rintro e w1 ⟨rfl, hb1⟩
    clear cj
    have d0 := (hb1.cell (p := ⟨Z0, 0, none⟩) l0).trans k0
    have d1 := (hb1.cell (p := ⟨Z1, 0, none⟩) l1).trans k1
    have d2 := (hb1.cell (p := ⟨Z2, 0, none⟩) l2).trans k2
    clear k0 k1 k2
    go_wp2_with fail
    refine (AWC.out _ hb1).mono ?_
    rintro e w2 ⟨rfl, rfl⟩
    go_wp2_with fail
    refine (require_yes _).mono ?_
    rintro e w2 ⟨rfl, rfl⟩
    go_wp2_with fail
    refine (CK2.out _ hb1).mono ?_
    rintro e w3 ⟨rfl, hb3⟩
    go_wp2
    go_ret
    exact ⟨.inl ⟨_, rfl, OK.out, rfl⟩, bl_trans hb1 hb3⟩
theorem enter_ofK {f : FuncId} {fn : Func} {c : Code} (hf : Try.prog.funcs[f]? = some fn) (hname : (fn.name == "runtime.NumGoroutine") = false) (hb : fn.body = some c) : ∀ (args : Array Value) (w : World), (callFunc f args).run Try.prog w = .ok (.enter f args) w := Go.Proofs.enters_of hf hname hb
set_option maxRecDepth 100000 in
set_option maxHeartbeats 1600000 in
theorem SkewOfI_any (cnt : Int) (A : Option Addr) (Ls : List SlI) (c : Nat) (AW : Option Addr) (W : List Int) (cW : Nat) (w : World) (hp : ISAt w w.heap.size A Ls) (hl : Ls.length ≤ 1048576) (hW : IntsAt w w.heap.size AW W) (lW : W.length ≤ 1048576) :
    Calls Try.prog 33 #[.int .i64 cnt, .slice A Ls.length c, .slice AW W.length cW] w fun e w' => e = .returned (skV cnt (heldI Ls) W) ∧ Below w.heap.size w w' := by
  have hx : Below w.heap.size w (((w.alloc (.cells #[.int .i64 cnt] 2)).alloc (.cells #[.slice A Ls.length c] 23)).alloc (.cells #[.slice AW W.length cW] 38)) := by (repeat (first | assumption | exact Below.refl _ _ | (refine bl_alloc ?_ _) | (refine Below.drew ?_) | (refine bl_drewN ?_ _) | (refine bl_set ?_ (by first | (simp; done) | omega | (simp; omega)) _) | (refine bl_trans ?_ (by assumption)) | (refine bl_step ?_ (by assumption) (by first | omega | exact Below.size (by assumption) | (simp; omega) | (simp; exact Below.size (by assumption))))))
  have k0 : (((w.alloc (.cells #[.int .i64 cnt] 2)).alloc (.cells #[.slice A Ls.length c] 23)).alloc (.cells #[.slice AW W.length cW] 38)).cell? ⟨w.heap.size, 0, none⟩ = some (.int .i64 cnt) := by go_simp
  have k1 : (((w.alloc (.cells #[.int .i64 cnt] 2)).alloc (.cells #[.slice A Ls.length c] 23)).alloc (.cells #[.slice AW W.length cW] 38)).cell? ⟨w.heap.size + 1, 0, none⟩ = some (.slice A Ls.length c) := by go_simp
  have k2 : (((w.alloc (.cells #[.int .i64 cnt] 2)).alloc (.cells #[.slice A Ls.length c] 23)).alloc (.cells #[.slice AW W.length cW] 38)).cell? ⟨w.heap.size + 1 + 1, 0, none⟩ = some (.slice AW W.length cW) := by go_simp
  have hp1 := hp.to hx
  have hW1 := hW.to hx
  obtain ⟨W1, hE⟩ : ∃ W1, (((w.alloc (.cells #[.int .i64 cnt] 2)).alloc (.cells #[.slice A Ls.length c] 23)).alloc (.cells #[.slice AW W.length cW] 38)) = W1 := ⟨_, rfl⟩
  rw [hE] at hx k0 k1 k2 hp1 hW1
  have hy := (Below.refl W1.heap.size W1).alloc (Nat.le_refl _) (.cells #[.bool false] 4)
  have l0 := World.block_lt_of_cell? W1 _ k0
  have l1 := World.block_lt_of_cell? W1 _ k1
  have l2 := World.block_lt_of_cell? W1 _ k2
  have CA := attemptInt_any 67 #[.pointer (some ⟨w.heap.size, 0, none⟩), .pointer (some ⟨w.heap.size + 1, 0, none⟩), .pointer (some ⟨w.heap.size + 1 + 1, 0, none⟩)] W1 (fun v _ => okSk cnt (heldI Ls) W = true ∧ v = .int .i64 (skN cnt (heldI Ls) W)) (okSk cnt (heldI Ls) W = false) (enter_ofK Try.func67 (by kernel_rfl) rfl)
    (skewClo_any cnt A Ls c AW W cW w.heap.size (w.heap.size + 1) (w.heap.size + 1 + 1) _ (hp1.to hy) hl (hW1.to hy) lW ((hy.cell (p := ⟨w.heap.size, 0, none⟩) l0).trans k0) ((hy.cell (p := ⟨w.heap.size + 1, 0, none⟩) l1).trans k1) ((hy.cell (p := ⟨w.heap.size + 1 + 1, 0, none⟩) l2).trans k2))
  have HE := Lib.hid hE
  clear hE hp hW k0 k1 k2 hp1 hW1 hy l0 l1 l2
  go_enter Try.func33, Try.ntmps33
  go_wp2_with fail
  rw [HE.out]
  refine CA.mono ?_
  rintro e w2 ⟨⟨v, w1, rfl, ⟨hk, rfl⟩, rfl⟩ | ⟨rfl, hk⟩, hb2⟩
  · have R := Lib.hid (skV_t hk)
    have bb := hx.trans (hb2.mono hx.size)
    clear hk hb2
    generalize (w1.setCell _ _).setCell _ _ = w3 at *
    go_wp2
    go_ret2
    exact ⟨by rw [R.out]; rfl, bb⟩
  · have R := Lib.hid (skV_f hk)
    have bb := hx.trans (hb2.mono hx.size)
    clear hk hb2
    go_wp2
    go_ret2
    exact ⟨by rw [R.out]; rfl, bb⟩
end Go.Proofs.Ytijnjcamfbnmgaa
