/-
  Contracts: the stack of the nets of a channel; impl's MustBeAbove.
-/
import Derived.Test.YtefcfpagbjflbaaDoorStackF
import Derived.Test.YtefcfpagbjflbaaDoorBHas
namespace Go.Proofs.YtefcfpagbjflbaaDoor
set_option linter.unusedSimpArgs false
set_option linter.unusedVariables false
open Go.ChangeShapes Go.WideShapes Go.ChangeAt Go.RowKit

set_option maxRecDepth 100000 in
set_option maxHeartbeats 1600000 in
theorem stackOfNets_any (g : Nat) (T B : List Int) (n : Nat) (w : World) (hG : ColBlk w g T B n n) (hn : n ≤ 24) (hL : BruAt w) :
    Calls Tryd.prog 64 #[.slice (some ⟨g, 0, none⟩) n n] w (StackRes T B netN (netL T B n) (netH T B n) 13 (netsM T B n) (netsL T B n) w) := by
  have hb0 : Below w.heap.size w (w.alloc (.cells #[.int .u64 0, .slice none 0 0, .slice none 0 0] 105)) := alloc_below _ _
  have r0 : (w.alloc (.cells #[.int .u64 0, .slice none 0 0, .slice none 0 0] 105)).cell? ⟨w.heap.size, 0, none⟩ = some (.int .u64 0) := by simp
  have r1 : (w.alloc (.cells #[.int .u64 0, .slice none 0 0, .slice none 0 0] 105)).cell? ⟨w.heap.size, 1, none⟩ = some (.slice none 0 0) := by simp
  have r2 : (w.alloc (.cells #[.int .u64 0, .slice none 0 0, .slice none 0 0] 105)).cell? ⟨w.heap.size, 2, none⟩ = some (.slice none 0 0) := by simp
  have f0 : (w.alloc (.cells #[.int .u64 0, .slice none 0 0, .slice none 0 0] 105)).frozen? ⟨w.heap.size, 0, none⟩ = false := by simp
  have f1 : (w.alloc (.cells #[.int .u64 0, .slice none 0 0, .slice none 0 0] 105)).frozen? ⟨w.heap.size, 1, none⟩ = false := by simp
  have f2 : (w.alloc (.cells #[.int .u64 0, .slice none 0 0, .slice none 0 0] 105)).frozen? ⟨w.heap.size, 2, none⟩ = false := by simp
  have hxs : ∀ x ∈ memL (isNetB T B n) 0 13, x < 13 ∧ decide (x ∈ netsL T B n) = true ∧ netL T B n x ≤ netH T B n x ∧ netH T B n x < n := fun x hx => by
    obtain ⟨h13, hp⟩ := memL_lt hx
    obtain ⟨a, b, c, _, _⟩ := net_span hp
    exact ⟨h13, decide_eq_true hx, by omega, c⟩
  go_enter Tryd.func64, Tryd.ntmps64
  go_wp2_with fail
  refine (wholeNets_any g T B n _ (hG.to hb0) hn (hL.to hb0)).mono ?_
  rintro e w1 ⟨⟨gp, rfl, hP⟩, hb1⟩
  have b1 := bl_step hb0 hb1 hb0.size
  go_wp2_with fail
  refine (nets_any g T B n _ (hG.to b1) hn).mono ?_
  rintro e w2 ⟨rfl, hb2⟩
  have b2 := bl_step b1 hb2 b1.size
  go_wp2_with fail
  refine (stackOf_any g gp T B n 13 13 13 (isNetB T B n) (fun j => decide (j ∈ netsL T B n)) netN (netL T B n) (netH T B n) _ (hG.to b2) hn (hP.to hb2) (by omega) (by omega) (by omega) hxs (hL.to b2)).mono ?_
  rintro e w3 ⟨⟨ga, gb, rfl, hA, hB, za, zb⟩, hb3⟩
  have b3 := bl_step b2 hb3 b2.size
  have zw : w.heap.size < w2.heap.size := by
    have h1 := World.block_lt_of_cell? _ _ (cellB (cellB r0 hb1) hb2)
    exact h1
  have k0 := cellB (cellB (cellB r0 hb1) hb2) hb3
  have k1 := cellB (cellB (cellB r1 hb1) hb2) hb3
  have k2 := cellB (cellB (cellB r2 hb1) hb2) hb3
  have g0 := frozenB (cellB (cellB r0 hb1) hb2) (frozenB (cellB r0 hb1) (frozenB r0 f0 hb1) hb2) hb3
  have g1 := frozenB (cellB (cellB r1 hb1) hb2) (frozenB (cellB r1 hb1) (frozenB r1 f1 hb1) hb2) hb3
  have g2 := frozenB (cellB (cellB r2 hb1) hb2) (frozenB (cellB r2 hb1) (frozenB r2 f2 hb1) hb2) hb3
  clear r0 r1 r2 f0 f1 f2 hb0 hb1 hb2 hb3 b1 b2 hP hxs
  go_wp2
  obtain ⟨v0, v1, v2⟩ := set3 (x := .int .u64 (maskTo (isNetB T B n) 13 : Nat)) (y := .slice (some ⟨ga, 0, none⟩) 13 13) (z := .slice (some ⟨gb, 0, none⟩) 13 13) k0 k1 k2
  have hA3 := ((hA.other ⟨w.heap.size, 0, none⟩ (.int .u64 (maskTo (isNetB T B n) 13 : Nat)) (by dsimp only; omega)).other ⟨w.heap.size, 1, none⟩ (.slice (some ⟨ga, 0, none⟩) 13 13) (by dsimp only; omega)).other ⟨w.heap.size, 2, none⟩ (.slice (some ⟨gb, 0, none⟩) 13 13) (by dsimp only; omega)
  have hB3 := ((hB.other ⟨w.heap.size, 0, none⟩ (.int .u64 (maskTo (isNetB T B n) 13 : Nat)) (by dsimp only; omega)).other ⟨w.heap.size, 1, none⟩ (.slice (some ⟨ga, 0, none⟩) 13 13) (by dsimp only; omega)).other ⟨w.heap.size, 2, none⟩ (.slice (some ⟨gb, 0, none⟩) 13 13) (by dsimp only; omega)
  have hb3 : Below w.heap.size w (((w3.setCell ⟨w.heap.size, 0, none⟩ (.int .u64 (maskTo (isNetB T B n) 13 : Nat))).setCell ⟨w.heap.size, 1, none⟩ (.slice (some ⟨ga, 0, none⟩) 13 13)).setCell ⟨w.heap.size, 2, none⟩ (.slice (some ⟨gb, 0, none⟩) 13 13)) := ((b3.setCell (p := ⟨w.heap.size, 0, none⟩) (by simp) _).setCell (p := ⟨w.heap.size, 1, none⟩) (by simp) _).setCell (p := ⟨w.heap.size, 2, none⟩) (by simp) _
  generalize ((w3.setCell ⟨w.heap.size, 0, none⟩ (.int .u64 (maskTo (isNetB T B n) 13 : Nat))).setCell ⟨w.heap.size, 1, none⟩ (.slice (some ⟨ga, 0, none⟩) 13 13)).setCell ⟨w.heap.size, 2, none⟩ (.slice (some ⟨gb, 0, none⟩) 13 13) = W3 at *
  exact bodyPost_ret (v := .agg #[.int .u64 (netsM T B n : Nat), .slice (some ⟨ga, 0, none⟩) 13 13, .slice (some ⟨gb, 0, none⟩) 13 13]) (by simp [results, Tryd.results64, go_sem, v0, v1, v2, netsM]) rfl ⟨⟨ga, gb, rfl, hA3, hB3, by omega, by omega⟩, hb3⟩

set_option maxRecDepth 100000 in
set_option maxHeartbeats 1600000 in
theorem MustBeAboveI_any (A A' : Option Addr) (T B : List Int) (c c' : Nat) (x y : Int) (w : World) (hp : IntsAt w w.heap.size A T) (hq : IntsAt w w.heap.size A' B) (hL : BruAt w) :
    Calls Tryd.prog 30 #[.agg #[.slice A T.length c, .slice A' B.length c'], .int .i64 x, .int .i64 y] w fun e w' => e = .returned (.bool (mbaV T B x y)) ∧ Below w.heap.size w w' := by
  have hb0 : Below w.heap.size w (w.alloc (.cells #[.slice A T.length c, .slice A' B.length c'] 49)) := by (repeat (first | assumption | exact Below.refl _ _ | (refine bl_alloc ?_ _) | (refine Below.drew ?_) | (refine bl_drewN ?_ _) | (refine bl_set ?_ (by first | (simp; done) | omega | (simp; omega)) _) | (refine bl_trans ?_ (by assumption)) | (refine bl_step ?_ (by assumption) (by first | omega | exact Below.size (by assumption) | (simp; omega) | (simp; exact Below.size (by assumption))))))
  have hc := columnsOf_any A A' T B c c' (w.alloc (.cells #[.slice A T.length c, .slice A' B.length c'] 49)) (hp.to hb0) (hq.to hb0)
  go_enter Tryd.func30, Tryd.ntmps30
  go_wp2_with fail
  refine hc.mono ?_
  rintro e w1 ⟨hb1, ⟨hv, g, rfl, hG, hg⟩ | ⟨hv, v, rfl⟩⟩
  · have R := Lib.hid (mbaV_t (x := x) (y := y) hv)
    obtain ⟨h1, h24, hBT⟩ := chanB_form hv
    have b1 := bl_step hb0 hb1 hb0.size
    clear hv hBT hc
    go_wp2_with fail
    refine (stackOfNets_any g T B T.length _ hG h24 (hL.to b1)).mono ?_
    rintro e w2 ⟨⟨ga, gb, rfl, hA, hB, za, zb⟩, hb2⟩
    have b2 := bl_step b1 hb2 b1.size
    have hall : netsM T B T.length < 18446744073709551616 := Nat.lt_of_lt_of_le (maskTo_lt _ _) (Nat.pow_le_pow_right (n := 2) (i := 13) (j := 64) (by omega) (by omega))
    have hn := has_net (T := T) (B := B) (n := T.length) y
    cases hy : isNetI T B T.length y
    · have R2 := Lib.hid (above_fy (x := x) hy)
      rw [hy] at hn
      have HN := Lib.hid hn
      have hh := bhas_any (netsM T B T.length) hall y false HN
      generalize netsM T B T.length = M at *
      clear hn hy hA hB hG
      go_wp2_with (go_at_call 66; refine (hh _).mono ?_; rintro e w3 ⟨rfl, rfl⟩)
      go_ret
      exact ⟨retB (by rw [R.out, R2.out]), by (repeat (first | assumption | exact Below.refl _ _ | (refine bl_alloc ?_ _) | (refine Below.drew ?_) | (refine bl_drewN ?_ _) | (refine bl_set ?_ (by first | (simp; done) | omega | (simp; omega)) _) | (refine bl_trans ?_ (by assumption)) | (refine bl_step ?_ (by assumption) (by first | omega | exact Below.size (by assumption) | (simp; omega) | (simp; exact Below.size (by assumption))))))⟩
    · obtain ⟨k, rfl, hk, k13, hkB⟩ := isNetI_in hy
      rw [hy] at hn
      have HN := Lib.hid hn
      have hh := bhas_any (netsM T B T.length) hall (k : Int) true HN
      obtain ⟨v, hv, dv, hvb⟩ := hB.at_ k13
      have HA := Lib.hid (above_has (T := T) (B := B) (n := T.length) x k hy)
      have HV : Hid ((decide (0 ≤ x) && v.testBit x.toNat) = aboveV T B T.length x (k : Int)) := by
        show _ = _
        rw [hvb, HA.out]
      generalize netsM T B T.length = M at *
      generalize aboveV T B T.length x (k : Int) = r at *
      have hh2 := bhas_any v hv x r HV
      have k0 : (0 : Int) ≤ k := by omega
      have k13I : (k : Int) < 13 := by omega
      have dv' := fun o => cellB dv (alloc_below w2 o)
      clear hn hy hA hB hG hvb HA hkB hk
      go_wp2_with fail
      refine (hh _).mono ?_
      rintro e w3 ⟨rfl, rfl⟩
      go_wp2_with fail
      refine (hh2 _).mono ?_
      rintro e w3 ⟨rfl, rfl⟩
      go_wp2
      go_ret
      exact ⟨retB (by rw [R.out]), by (repeat (first | assumption | exact Below.refl _ _ | (refine bl_alloc ?_ _) | (refine Below.drew ?_) | (refine bl_drewN ?_ _) | (refine bl_set ?_ (by first | (simp; done) | omega | (simp; omega)) _) | (refine bl_trans ?_ (by assumption)) | (refine bl_step ?_ (by assumption) (by first | omega | exact Below.size (by assumption) | (simp; omega) | (simp; exact Below.size (by assumption))))))⟩
  · have R := Lib.hid (mbaV_f (x := x) (y := y) hv)
    clear hv
    go_wp2
    go_ret
    exact ⟨retB (by rw [R.out]), by (repeat (first | assumption | exact Below.refl _ _ | (refine bl_alloc ?_ _) | (refine Below.drew ?_) | (refine bl_drewN ?_ _) | (refine bl_set ?_ (by first | (simp; done) | omega | (simp; omega)) _) | (refine bl_trans ?_ (by assumption)) | (refine bl_step ?_ (by assumption) (by first | omega | exact Below.size (by assumption) | (simp; omega) | (simp; exact Below.size (by assumption))))))⟩
end Go.Proofs.YtefcfpagbjflbaaDoor
