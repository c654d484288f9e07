/-
  Contracts: the columns of a net: spec's l03Span, impl's pinsOf and span; math/bits at them.
-/
import Derived.Test.YtpcilpcinbamcaaDoorChanI
import Derived.Test.YtpcilpcinbamcaaDoorMask
import Derived.Test.YtpcilpcinbamcaaDoorShB
import Derived.Shelf.Spec.TrailingZeros
import Derived.Lib.LaidTab
import Derived.Lib.SmallJoins
import Derived.Test.YtpcilpcinbamcaaDoorBits
namespace Go.Proofs.YtpcilpcinbamcaaDoor
set_option linter.unusedSimpArgs false
set_option linter.unusedVariables false
open Go.ChangeShapes Go.WideShapes Go.ChangeAt Go.RowKit

theorem run_span0 (x y : Value) (w : World) : (Instr.field 48 (.agg #[x, y]) 0).run Tryd.prog w = .ok x w := by kernel_rfl
theorem run_span1 (x y : Value) (w : World) : (Instr.field 48 (.agg #[x, y]) 1).run Tryd.prog w = .ok y w := by kernel_rfl
/-- Has the net a pin in the column i? -/
def hasP (T B : List Int) (net : Int) (i : Nat) : Bool := decide (T.getD i 0 = net) || decide (B.getD i 0 = net)

theorem gBru : Tryd.prog.globalNamed "math/bits.deBruijn64tab" = some 0 := by kernel_rfl
def bruTab : List Int := List.map Int.ofNat Lib.deBruijn64tab
/-- The table lies as it is laid. -/
def BruAt (w : World) : Prop := Lib.TabIs Tryd.prog w "math/bits.deBruijn64tab" .u8 bruTab
theorem BruAt.to {w w1 : World} (h : BruAt w) (hb : Below w.heap.size w w1) : BruAt w1 := Go.Joins.tab_stays gBru h hb (Nat.le_refl _)

set_option maxHeartbeats 1000000 in
theorem tz_core (x k idx : Nat) (w : World) (hx0 : ((x : Int) == 0) = false)
    (key : IntKind.u64.wrap (bits BinOp.and IntKind.u64 (x : Int) (IntKind.u64.wrap (-(x : Int))) * 285870213051353865) / 288230376151711744 = (idx : Int))
    (hi : idx < 64) (hk : k < 64) (hcell : w.cell? ⟨0, idx, none⟩ = some (.int .u8 k)) :
    Calls Tryd.prog 33 #[.int .u64 x] w fun e w' => e = .returned (.int .i64 k) ∧ w' = w := by
  go_enter Tryd.func33, Tryd.ntmps33
  go_wp2_with (simp only [key])
  go_ret
  exact ⟨rfl, rfl⟩
theorem tz_any (x : Nat) (hx : x < 18446744073709551616) (h0 : x ≠ 0) (w : World) (hT : BruAt w) :
    Calls Tryd.prog 33 #[.int .u64 x] w fun e w' => e = .returned (.int .i64 (Lib.ctz 64 x)) ∧ w' = w := by
  obtain ⟨hlow, hk⟩ := Lib.lowest_bit 64 x h0 hx
  obtain ⟨hi, htab⟩ := Lib.deBruijn64_at _ hk
  have hcell := Lib.TabIs.cell hT gBru (2 ^ Lib.ctz 64 x * 285870213051353865 % 18446744073709551616 / 288230376151711744) (by simpa [bruTab, Lib.deBruijn64tab] using hi)
  have e : bruTab.getD (2 ^ Lib.ctz 64 x * 285870213051353865 % 18446744073709551616 / 288230376151711744) 0 = (Lib.ctz 64 x : Int) := by
    have h2 := congrArg (fun n : Nat => (n : Int)) htab
    rw [← h2]
    simp only [bruTab, List.getD_eq_getElem?_getD, List.getElem?_map]
    cases Lib.deBruijn64tab[2 ^ Lib.ctz 64 x * 285870213051353865 % 18446744073709551616 / 288230376151711744]? <;> rfl
  rw [e] at hcell
  exact tz_core x _ _ w (by simp; omega) (tz64_key x _ hx h0 hlow) hi hk hcell
set_option maxHeartbeats 800000 in
theorem l03Span_any (b : Nat) (A A' : Option Addr) (T B : List Int) (n n' c c' : Nat) (net : Int) (w : World) (hb : ChAt w b A A' n n' c c') (hp : IntsAt w w.heap.size A T) (hq : IntsAt w w.heap.size A' B) (HT : Hid (T.length = n)) (HB : Hid (B.length = n')) (hn : n ≤ 24) (hnn : n' = n) :
    Calls Tryd.prog 29 #[.pointer (some ⟨b, 0, none⟩), .int .i64 net] w fun e w' => e = .returned (.tuple #[.int .i64 (loTo (hasP T B net) n), .int .i64 (hiTo (hasP T B net) n), .bool (decide (0 ≤ loTo (hasP T B net) n))]) ∧ w' = w := by
  subst hnn
  obtain ⟨hlt, e0, e1⟩ := hb
  have hnI : (n' : Int) ≤ 24 := by omega
  go_enter Tryd.func29, Tryd.ntmps29
  go_wp2
  go_loop [7, 8, 9] (fun a z i => ∃ k : Nat, k ≤ n' ∧ i = .int .i64 k ∧ a = .int .i64 (loTo (hasP T B net) k) ∧ z = .int .i64 (hiTo (hasP T B net) k)) (fun _ _ i => n' - (intOf i).toNat)
  case atStart => exact ⟨0, Nat.zero_le _, rfl, rfl, rfl⟩
  case round =>
    obtain ⟨k, hk, rfl, rfl, rfl⟩ := hrel
    by_cases hkn : k < n'
    · obtain ⟨b1, o1, rfl, z1, k1⟩ := hp (by rw [HT.out]; omega)
      obtain ⟨b2, o2, rfl, z2, k2⟩ := hq (by rw [HB.out]; omega)
      have d1 := k1 k (by rw [HT.out]; exact hkn)
      have d2 := k2 k (by rw [HB.out]; exact hkn)
      have hknI : (k : Int) < n' := by omega
      have hk0 : (0 : Int) ≤ k := by omega
      obtain ⟨hl1, hl2⟩ := loTo_ge (hasP T B net) k
      have HP : Hid (hasP T B net k = (decide (T.getD k 0 = net) || decide (B.getD k 0 = net))) := rfl
      generalize T.getD k 0 = x at *
      generalize B.getD k 0 = y at *
      clear k1 k2 hp hq
      cases hpk : hasP T B net k
      · have HL := Lib.hid (loTo_f hpk hl1)
        have HH := Lib.hid (hiTo_f hpk)
        have hxy := HP.out
        rw [hpk] at hxy
        have hx : ¬ x = net := by intro e; simp [e] at hxy
        have hy : ¬ y = net := by intro e; simp [e] at hxy
        have hxb : (x == net) = false := by simpa using hx
        have hyb : (y == net) = false := by simpa using hy
        clear hxy hpk
        go_wp2
        go_round
        case rel => exact ⟨k + 1, by omega, by go_num, by rw [HL.out], by rw [HH.out]⟩
        case measure => simp [intOf]; omega
      · have HH := Lib.hid (hiTo_t hpk)
        by_cases hneg : loTo (hasP T B net) k < 0
        · have HL := Lib.hid (loTo_t hpk hneg)
          have hxy := HP.out
          rw [hpk] at hxy
          clear hpk
          by_cases hx : x = net
          · clear hxy
            subst hx
            go_wp2
            go_round
            case rel => exact ⟨k + 1, by omega, by go_num, by rw [HL.out], by rw [HH.out]⟩
            case measure => simp [intOf]; omega
          · have hxb : (x == net) = false := by simpa using hx
            have hy : y = net := by simpa [hx] using hxy.symm
            clear hxy
            subst hy
            go_wp2
            go_round
            case rel => exact ⟨k + 1, by omega, by go_num, by rw [HL.out], by rw [HH.out]⟩
            case measure => simp [intOf]; omega
        · have HL := Lib.hid (loTo_s hneg)
          have hxy := HP.out
          rw [hpk] at hxy
          clear hpk
          by_cases hx : x = net
          · clear hxy
            subst hx
            go_wp2
            go_round
            case rel => exact ⟨k + 1, by omega, by go_num, by rw [HL.out], by rw [HH.out]⟩
            case measure => simp [intOf]; omega
          · have hxb : (x == net) = false := by simpa using hx
            have hy : y = net := by simpa [hx] using hxy.symm
            clear hxy
            subst hy
            go_wp2
            go_round
            case rel => exact ⟨k + 1, by omega, by go_num, by rw [HL.out], by rw [HH.out]⟩
            case measure => simp [intOf]; omega
    · obtain rfl : k = n' := by omega
      go_wp2
      go_ret3
      exact ⟨rfl, rfl⟩

theorem or_bit (p : Nat → Bool) (k : Nat) (hk : k < 64) : bits .or .u64 (maskTo p k : Int) ((2 : Int) ^ k) = ((maskTo p k + 2 ^ k : Nat) : Int) := by
  have e : (2 : Int) ^ k = ((2 ^ k : Nat) : Int) := by simp
  have hlt := maskTo_lt p k
  have h64 : 2 ^ (k + 1) ≤ 18446744073709551616 := Nat.pow_le_pow_right (n := 2) (i := k + 1) (j := 64) (by omega) (by omega)
  rw [Nat.pow_succ] at h64
  rw [e, bits_or_u64_nat _ _ (by omega) (by omega), or_two_pow hlt]
set_option maxHeartbeats 800000 in
theorem pinsOf_any (g : Nat) (T B : List Int) (n : Nat) (net : Int) (w : World) (hG : ColBlk w g T B n n) (hn : n ≤ 24) :
    Calls Tryd.prog 27 #[.slice (some ⟨g, 0, none⟩) n n, .int .i64 net] w fun e w' => e = .returned (.int .u64 (maskTo (hasP T B net) n)) ∧ Below w.heap.size w w' := by
  have hnI : (n : Int) ≤ 24 := by omega
  go_enter Tryd.func27, Tryd.ntmps27
  go_wp2
  go_loopw [5, 6, 7, 10] (fun m _ _ i wr => ∃ k : Nat, k ≤ n ∧ i = .int .i64 k ∧ m = .int .u64 (maskTo (hasP T B net) k) ∧ Below w.heap.size w wr) (fun _ _ _ i _ => n - (intOf i).toNat)
  case atStart => exact ⟨0, Nat.zero_le _, rfl, rfl, Below.refl _ _⟩
  case round =>
    obtain ⟨k, hk, rfl, rfl, hb⟩ := hrel
    by_cases hkn : k < n
    · obtain ⟨d1, d2⟩ := (hG.to hb).at_ hkn
      have hknI : (k : Int) < n := by omega
      have hk0 : (0 : Int) ≤ k := by omega
      have HP : Hid (hasP T B net k = (decide (T.getD k 0 = net) || decide (B.getD k 0 = net))) := rfl
      generalize T.getD k 0 = x at *
      generalize B.getD k 0 = y at *
      have HOB := Lib.hid (or_bit (hasP T B net) k (by omega))
      clear hG
      cases hpk : hasP T B net k
      · have HM := Lib.hid (maskTo_f hpk)
        have hxy := HP.out
        rw [hpk] at hxy
        have hx : ¬ x = net := by intro e; simp [e] at hxy
        have hy : ¬ y = net := by intro e; simp [e] at hxy
        have hxb : (x == net) = false := by simpa using hx
        have hyb : (y == net) = false := by simpa using hy
        clear hxy hpk
        go_wp2
        go_roundw
        case rel => exact ⟨k + 1, by omega, by go_num, by rw [HM.out], by (repeat (first | assumption | exact Below.refl _ _ | (refine bl_alloc ?_ _) | (refine Below.drew ?_) | (refine bl_drewN ?_ _) | (refine bl_set ?_ (by first | (simp; done) | omega | (simp; omega)) _) | (refine bl_trans ?_ (by assumption)) | (refine bl_step ?_ (by assumption) (by first | omega | exact Below.size (by assumption) | (simp; omega) | (simp; exact Below.size (by assumption))))))⟩
        case measure => simp [intOf]; omega
      · have HM := Lib.hid (maskTo_t hpk)
        have hxy := HP.out
        rw [hpk] at hxy
        clear hpk
        by_cases hx : x = net
        · clear hxy
          subst hx
          go_wp2_with (go_at_call 32; refine (bitsetOf_any k (by omega) _).mono ?_; rintro e w' ⟨rfl, rfl⟩)
          go_roundw
          case rel => exact ⟨k + 1, by omega, by go_num, by rw [HM.out, HOB.out], by (repeat (first | assumption | exact Below.refl _ _ | (refine bl_alloc ?_ _) | (refine Below.drew ?_) | (refine bl_drewN ?_ _) | (refine bl_set ?_ (by first | (simp; done) | omega | (simp; omega)) _) | (refine bl_trans ?_ (by assumption)) | (refine bl_step ?_ (by assumption) (by first | omega | exact Below.size (by assumption) | (simp; omega) | (simp; exact Below.size (by assumption))))))⟩
          case measure => simp [intOf]; omega
        · have hxb : (x == net) = false := by simpa using hx
          have hy : y = net := by simpa [hx] using hxy.symm
          clear hxy
          subst hy
          go_wp2_with (go_at_call 32; refine (bitsetOf_any k (by omega) _).mono ?_; rintro e w' ⟨rfl, rfl⟩)
          go_roundw
          case rel => exact ⟨k + 1, by omega, by go_num, by rw [HM.out, HOB.out], by (repeat (first | assumption | exact Below.refl _ _ | (refine bl_alloc ?_ _) | (refine Below.drew ?_) | (refine bl_drewN ?_ _) | (refine bl_set ?_ (by first | (simp; done) | omega | (simp; omega)) _) | (refine bl_trans ?_ (by assumption)) | (refine bl_step ?_ (by assumption) (by first | omega | exact Below.size (by assumption) | (simp; omega) | (simp; exact Below.size (by assumption))))))⟩
          case measure => simp [intOf]; omega
    · obtain rfl : k = n := by omega
      go_wp2
      go_ret
      exact ⟨rfl, hb⟩
end Go.Proofs.YtpcilpcinbamcaaDoor
