/-
  Proved: FnExactCostOf over every input at which its listed variables lie as the program's text lays them, and its tied card.
-/
import Derived.Test.YtdoheipnfdbioaaDoorReqP
import Derived.Test.YtdoheipnfdbioaaDoorPop
import Derived.Test.YtdoheipnfdbioaaDoorMem
import Derived.Test.YtdoheipnfdbioaaDoorSpan
import Derived.Test.YtdoheipnfdbioaaDoorReqW
import Derived.Test.YtdoheipnfdbioaaDoorPan
import Derived.Test.YtdoheipnfdbioaaDoorWirL
import Derived.Test.YtdoheipnfdbioaaDoorReqL
import Derived.ProofKit
import Derived.LaidMore
import Derived.OpenShut
import Derived.Stop.Joined
import Derived.Test.YtdoheipnfdbioaaDoorCards
import Derived.Test.YtdoheipnfdbioaaDoorTie
import Derived.SevenTiedAt
import Derived.Stop.LaidErr
import Derived.ChangeMaps5
namespace Go.Proofs.YtdoheipnfdbioaaDoor
set_option linter.unusedSimpArgs false
set_option linter.unusedVariables false
open Go.ChangeShapes Go.WideShapes Go.ChangeAt Go.RowKit

def costP (J : List (List Int)) (X : List Int) (k : Nat) : Int := if X.getD (cx J k) 0 = X.getD (cy J k) 0 then 0 else (J.getD k []).getD 2 0
def costTo (J : List (List Int)) (X : List Int) : Nat → Int
  | 0 => 0
  | m + 1 => costTo J X m + costP J X m
theorem costTo_eq {J : List (List Int)} {X : List Int} {k : Nat} (h : X.getD (cx J k) 0 = X.getD (cy J k) 0) : costTo J X (k + 1) = costTo J X k := by
  rw [costTo, costP, if_pos h, Int.add_zero]
theorem costTo_ne {J : List (List Int)} {X : List Int} {k : Nat} (h : X.getD (cx J k) 0 ≠ X.getD (cy J k) 0) : costTo J X (k + 1) = costTo J X k + (J.getD k []).getD 2 0 := by
  rw [costTo, costP, if_neg h]
theorem costTo_le {n : Nat} {C J : List (List Int)} {F X : List Int} (ok : WvOk n C J F) : ∀ m, m ≤ J.length → 0 ≤ costTo J X m ∧ costTo J X m ≤ 1000 * m
  | 0, _ => by simp [costTo]
  | m + 1, h => by
    have ih := costTo_le ok (X := X) m (by omega)
    obtain ⟨_, _, _, _, _, q5, q6⟩ := ok.j3 m (by omega)
    by_cases e : X.getD (cx J m) 0 = X.getD (cy J m) 0
    · rw [costTo_eq e]; omega
    · rw [costTo_ne e]; omega
theorem cnt_two (q : Nat → Bool) {x y : Nat} (hxy : x < y) : ∀ n, cntTo (fun j => (decide (j = x) || decide (j = y)) && q j) n = (if x < n ∧ q x = true then 1 else 0) + (if y < n ∧ q y = true then 1 else 0)
  | 0 => by simp [cntTo]
  | n + 1 => by
    rw [cntTo, cnt_two q hxy n]
    by_cases h1 : n = x
    · subst h1
      have e : decide (n = y) = false := decide_eq_false (by omega)
      have a1 : ¬ (y < n + 1) := by omega
      have a2 : ¬ (y < n) := by omega
      cases h : q n <;> simp [h, a1, a2]
    · by_cases h2 : n = y
      · subst h2
        have a1 : x < n + 1 := by omega
        cases h : q n <;> simp [h, h1, a1, hxy]
      · have e1 : (x < n + 1) = (x < n) := by apply propext; omega
        have e2 : (y < n + 1) = (y < n) := by apply propext; omega
        simp [h1, h2, e1, e2]
theorem or_pow_mask {x y n : Nat} (hx : x < n) (hy : y < n) : (2 ^ x ||| 2 ^ y) = maskTo (fun j => decide (j = x) || decide (j = y)) n := by
  apply mask_of_bits
  intro j
  rw [Nat.testBit_or, Nat.testBit_two_pow, Nat.testBit_two_pow]
  by_cases h1 : j = x
  · subst h1; simp [hx]
  · by_cases h2 : j = y
    · subst h2; simp [hy]
    · simp [h1, h2, Ne.symm h1, Ne.symm h2]
/-- A joint's ends among the ones: exactly one if the layers differ. -/
theorem ends_cut {J : List (List Int)} {X : List Int} {n k : Nat} (hn : n ≤ 14) (hxy : cx J k < cy J k) (hy : cy J k < n) (h01 : ∀ i, i < n → X.getD i 0 = 0 ∨ X.getD i 0 = 1) :
    ∃ v : Nat, bits .and .u64 ((2 ^ cx J k ||| 2 ^ cy J k : Nat) : Int) (maskTo (oneP X) n : Int) = (v : Int) ∧ v < 16777216 ∧ (((Lib.popAux 64 v : Nat) : Int) == 1) = !decide (X.getD (cx J k) 0 = X.getD (cy J k) 0) := by
  refine ⟨maskTo (fun j => (decide (j = cx J k) || decide (j = cy J k)) && oneP X j) n, ?_, ?_, ?_⟩
  · rw [or_pow_mask (by omega) hy, mask_and _ _ (by omega)]
  · exact Nat.lt_of_lt_of_le (maskTo_lt _ _) (Nat.pow_le_pow_right (n := 2) (i := n) (j := 24) (by omega) (by omega))
  · rw [pop_mask _ _ (by omega), cnt_two _ hxy]
    have hx : cx J k < n := by omega
    have ax := h01 _ hx
    have ay := h01 _ hy
    unfold oneP
    generalize X.getD (cx J k) 0 = a at *
    generalize X.getD (cy J k) 0 = b at *
    rcases ax with rfl | rfl <;> rcases ay with rfl | rfl <;> simp [hx, hy]
theorem lay_01 {n : Nat} {C : List (List Int)} {F X : List Int} (h : layB n C F X = true) : X.length = n ∧ ∀ i, i < n → X.getD i 0 = 0 ∨ X.getD i 0 = 1 := by
  simp only [layB, Bool.and_eq_true] at h
  have hl : (X.length : Int) = n := of_decide_eq_true h.1
  have hl' : X.length = n := by omega
  refine ⟨hl', fun i hi => ?_⟩
  have := okTo_iff.1 h.2.1 i (by omega)
  simp only [lyFix, Bool.and_eq_true] at this
  have h2 : 0 ≤ X.getD i 0 ∧ X.getD i 0 ≤ 1 := of_decide_eq_true this.1
  omega
end Go.Proofs.YtdoheipnfdbioaaDoor
namespace Go.Proofs.YtdoheipnfdbioaaDoor
open Go.ChangeShapes Go.WideShapes Go.ChangeAt Go.RowKit

theorem wr64 (n : Int) (h0 : 0 ≤ n) (h1 : n < 2 ^ 31) : IntKind.i64.wrap n = n := IntWalk.i64_in _ (by omega)
set_option maxRecDepth 100000 in
set_option maxHeartbeats 1000000 in
theorem ones_any (x : Nat) (hx : x < 16777216) (w : World) :
    Calls Tryd.prog 95 #[.int .u64 x] w fun e w' => e = .returned (.int .i64 (Lib.popAux 64 x)) ∧ w' = w := by
  obtain ⟨v, hv⟩ : ∃ v, v = q3 (q2 (q1 x)) := ⟨_, rfl⟩
  obtain ⟨v24, q24, r24, hres⟩ := pop_eq x hx v hv
  have a1 : bits .and .u64 ((x : Int) / 2) 6148914691236517205 = ((x / 2 &&& 6148914691236517205 : Nat) : Int) := bits_and_u64_nat (x / 2) 6148914691236517205 (by omega) (by omega)
  have a2 : bits .and .u64 (x : Int) 6148914691236517205 = ((x &&& 6148914691236517205 : Nat) : Int) := bits_and_u64_nat x 6148914691236517205 (by omega) (by omega)
  have l1 : x / 2 &&& 6148914691236517205 ≤ x / 2 := Nat.and_le_left
  have l2 : x &&& 6148914691236517205 ≤ x := Nat.and_le_left
  have e1 : ((x / 2 &&& 6148914691236517205 : Nat) : Int) + ((x &&& 6148914691236517205 : Nat) : Int) = ((q1 x : Nat) : Int) := by unfold q1; omega
  generalize x / 2 &&& 6148914691236517205 = y1 at *
  generalize x &&& 6148914691236517205 = y2 at *
  generalize q1 x = Q1 at *
  have b1 : bits .and .u64 ((Q1 : Int) / 4) 3689348814741910323 = ((Q1 / 4 &&& 3689348814741910323 : Nat) : Int) := bits_and_u64_nat (Q1 / 4) 3689348814741910323 (by omega) (by omega)
  have b2 : bits .and .u64 (Q1 : Int) 3689348814741910323 = ((Q1 &&& 3689348814741910323 : Nat) : Int) := bits_and_u64_nat Q1 3689348814741910323 (by omega) (by omega)
  have m1 : Q1 / 4 &&& 3689348814741910323 ≤ Q1 / 4 := Nat.and_le_left
  have m2 : Q1 &&& 3689348814741910323 ≤ Q1 := Nat.and_le_left
  have e2 : ((Q1 / 4 &&& 3689348814741910323 : Nat) : Int) + ((Q1 &&& 3689348814741910323 : Nat) : Int) = ((q2 Q1 : Nat) : Int) := by unfold q2; omega
  generalize Q1 / 4 &&& 3689348814741910323 = z1 at *
  generalize Q1 &&& 3689348814741910323 = z2 at *
  generalize q2 Q1 = Q2 at *
  have c1 : bits .and .u64 ((Q2 : Int) / 16 + (Q2 : Int)) 1085102592571150095 = (v : Int) := by
    rw [hv]
    exact bits_and_u64_nat (Q2 / 16 + Q2) 1085102592571150095 (by omega) (by omega)
  clear hv
  obtain ⟨s1, h1⟩ : ∃ s1, s1 = v + v / 256 := ⟨_, rfl⟩
  rw [← h1] at hres
  obtain ⟨s2, h2⟩ : ∃ s2, s2 = s1 + s1 / 65536 := ⟨_, rfl⟩
  rw [← h2] at hres
  obtain ⟨s3, h3⟩ : ∃ s3, s3 = s2 + s2 / 4294967296 := ⟨_, rfl⟩
  rw [← h3] at hres
  have E1 : (v : Int) + (v : Int) / 256 = (s1 : Int) := by omega
  have E2 : (s1 : Int) + (s1 : Int) / 65536 = (s2 : Int) := by omega
  have E3 : (s2 : Int) + (s2 : Int) / 4294967296 = (s3 : Int) := by omega
  have hs3 : s3 < 2147483648 := by omega
  have hmk : bits .and .i64 (s3 : Int) 127 = (Lib.popAux 64 x : Int) := by
    have h := bits_mask .i64 31 (by decide) wr64 7 (by omega) (s3 : Int) (by omega) (by omega)
    rw [← hres]
    have e : ((2 : Int) ^ 7 - 1) = 127 := by decide
    rw [e] at h
    rw [h]
    omega
  have HR := Lib.hid hmk
  have d1 : s1 < 33554432 := by omega
  have d2 : s2 < 67108864 := by omega
  clear hres hmk h1 h2 h3
  go_enter Tryd.func95, Tryd.ntmps95
  go_wp2
  go_ret
  exact ⟨by rw [HR.out]; rfl, rfl⟩

theorem size_any (x : Nat) (hx : x < 16777216) (w : World) :
    Calls Tryd.prog 72 #[.int .u64 x] w fun e w' => e = .returned (.int .i64 (Lib.popAux 64 x)) ∧ w' = w := by
  have hc := ones_any x hx w
  generalize Lib.popAux 64 x = r at *
  go_enter Tryd.func72, Tryd.ntmps72
  go_wp2_with (go_at_call 95; refine hc.mono ?_; rintro e w' ⟨rfl, rfl⟩)
  go_ret
  exact ⟨rfl, rfl⟩
end Go.Proofs.YtdoheipnfdbioaaDoor
namespace Go.Proofs.YtdoheipnfdbioaaDoor
open Go.ChangeShapes Go.WideShapes Go.ChangeAt Go.RowKit

set_option maxRecDepth 100000 in
set_option maxHeartbeats 3200000 in
theorem l07Cost_any (g : Nat) (n : Nat) (Ch : List (List Int)) (AJ : Option Addr) (J : List SlI) (cJ : Nat) (F : List Int) (AX : Option Addr) (X : List Int) (cX : Nat) (w : World)
    (c2 : w.cell? ⟨g, 2, none⟩ = some (.slice AJ J.length cJ))
    (hJ : ISAt w w.heap.size AJ J) (hX : IntsAt w w.heap.size AX X) (ok : WvOk n Ch (heldI J) F) (hln : X.length = n) :
    Calls Tryd.prog 41 #[.pointer (some ⟨g, 0, none⟩), .slice AX X.length cX] w fun e w' => e = .returned (.int .i64 (costTo (heldI J) X J.length)) ∧ Below w.heap.size w w' := by
  have hg : g < w.heap.size := World.block_lt_of_cell? w _ c2
  have n14 := ok.n14
  have lJI : (J.length : Int) ≤ 30 := by have := ok.j30; rw [heldI_len] at this; omega
  have HB : Hid (∀ m, m ≤ J.length → 0 ≤ costTo (heldI J) X m ∧ costTo (heldI J) X m ≤ 1000 * m) := fun m hm => costTo_le ok m (by rw [heldI_len]; exact hm)
  have HK : Hid (∀ j, j < J.length → 0 ≤ ((heldI J).getD j []).getD 2 0 ∧ ((heldI J).getD j []).getD 2 0 ≤ 1000) := fun j hj => (ok.j3 j (by rw [heldI_len]; exact hj)).2.2.2.2.2
  have HJ : Hid (0 < J.length → ∃ b off, AJ = some ⟨b, off, none⟩ ∧ b < w.heap.size ∧ ∀ j, j < J.length → ∃ bj oj cj, w.cell? ⟨b, off + j, none⟩ = some (.slice (some ⟨bj, oj, none⟩) 3 cj) ∧ bj < w.heap.size ∧ w.cell? ⟨bj, oj, none⟩ = some (.int .i64 (cx (heldI J) j)) ∧ w.cell? ⟨bj, oj + 1, none⟩ = some (.int .i64 (cy (heldI J) j)) ∧ w.cell? ⟨bj, oj + 2, none⟩ = some (.int .i64 (((heldI J).getD j []).getD 2 0)) ∧ cx (heldI J) j < n ∧ cy (heldI J) j < n) := by
    intro h0
    obtain ⟨b, off, e, hb, hc⟩ := hJ h0
    refine ⟨b, off, e, hb, fun j hj => ?_⟩
    obtain ⟨k1, k2, _, _⟩ := hc j hj
    obtain ⟨q1, q2, q3, q4, q5, _, _⟩ := ok.j3 j (by rw [heldI_len]; exact hj)
    rw [heldI_at] at q1 q2 q3
    obtain ⟨bj, oj, e2, hbj, hcj⟩ := k2 (by omega)
    rw [e2, q1] at k1
    have a0 := hcj 0 (by omega)
    have a1 := hcj 1 (by omega)
    have a2 := hcj 2 (by omega)
    rw [q2, Nat.add_zero] at a0
    rw [q3] at a1
    rw [← heldI_at] at a2
    exact ⟨bj, oj, _, k1, hbj, a0, a1, a2, by omega, q5⟩
  have HX : Hid (0 < n → ∃ b off, AX = some ⟨b, off, none⟩ ∧ b < w.heap.size ∧ ∀ i, i < n → w.cell? ⟨b, off + i, none⟩ = some (.int .i64 (X.getD i 0))) := by
    intro h; rw [← hln] at h ⊢; exact hX h
  rw [hln]
  obtain ⟨m, hm⟩ : ∃ m, J.length = m := ⟨_, rfl⟩
  rw [hm] at HJ HB HK c2 lJI ⊢
  have n14I : (n : Int) ≤ 14 := by omega
  clear hJ hX hln ok hm
  go_enter Tryd.func41, Tryd.ntmps41
  go_wp2
  go_loopw [5, 6] (fun s i wr => ∃ j : Nat, j ≤ m ∧ i = .int .i64 j ∧ s = .int .i64 (costTo (heldI J) X j) ∧ Below w.heap.size w wr) (fun _ i _ => m - (intOf i).toNat)
  case atStart => exact ⟨0, Nat.zero_le _, rfl, rfl, Below.refl _ _⟩
  case round =>
    obtain ⟨j, hj, rfl, rfl, hb⟩ := hrel
    have hj0 : (0 : Int) ≤ (j : Int) := by omega
    have d2 := (hb.cell (p := ⟨g, 2, none⟩) hg).trans c2
    have hgw : g < wr.heap.size := Nat.lt_of_lt_of_le hg hb.size
    by_cases hlt : j < m
    · have hjI : (j : Int) < (m : Int) := by omega
      obtain ⟨b, off, rfl, hbB, hc⟩ := HJ.out (by omega)
      obtain ⟨bj, oj, cj, q0, hbj, q1, q2, q2c, q3, q4⟩ := hc j hlt
      obtain ⟨bX, oX, rfl, hbX, hcX⟩ := HX.out (by omega)
      have e0 := (hb.cell (p := ⟨b, off + j, none⟩) hbB).trans q0
      have e1 := (hb.cell (p := ⟨bj, oj, none⟩) hbj).trans q1
      have e2 := (hb.cell (p := ⟨bj, oj + 1, none⟩) hbj).trans q2
      have e2c := (hb.cell (p := ⟨bj, oj + 2, none⟩) hbj).trans q2c
      have e3 := (hb.cell (p := ⟨bX, oX + cx (heldI J) j, none⟩) hbX).trans (hcX _ q3)
      have e4 := (hb.cell (p := ⟨bX, oX + cy (heldI J) j, none⟩) hbX).trans (hcX _ q4)
      have HE := Lib.hid (fun h => costTo_eq (J := heldI J) (X := X) (k := j) h)
      have HN := Lib.hid (fun h => costTo_ne (J := heldI J) (X := X) (k := j) h)
      have B1 := HB.out j hj
      have B2 := HK.out j hlt
      generalize X.getD (cx (heldI J) j) 0 = x at *
      generalize X.getD (cy (heldI J) j) 0 = y at *
      generalize cx (heldI J) j = p at *
      generalize cy (heldI J) j = q at *
      generalize ((heldI J).getD j []).getD 2 0 = c at *
      obtain ⟨s, hs⟩ : ∃ s, costTo (heldI J) X j = s := ⟨_, rfl⟩
      rw [hs] at HE HN B1 ⊢
      obtain ⟨s2, hs2⟩ : ∃ s2, costTo (heldI J) X (j + 1) = s2 := ⟨_, rfl⟩
      rw [hs2] at HE HN
      have HS2 := Lib.hid hs2
      have pI : (p : Int) < (n : Int) := by omega
      have qI : (q : Int) < (n : Int) := by omega
      have p0 : (0 : Int) ≤ (p : Int) := by omega
      have q00 : (0 : Int) ≤ (q : Int) := by omega
      clear hc hcX q0 q1 q2 q2c hs hs2
      by_cases hxy : x = y
      · have R2 := Lib.hid (HE.out hxy)
        have hd3 : (x != y) = false := by simpa using hxy
        have hd4 : (x == y) = true := by simpa using hxy
        clear hxy
        go_wp2
        go_quiet (fail)
        go_wp2
        go_roundw
        case rel => exact ⟨j + 1, by omega, by go_num, by rw [HS2.out, R2.out], bl_drewN hb _⟩
        case measure => simp [intOf]; omega
      · have R2 := Lib.hid (HN.out hxy)
        have hd3 : (x != y) = true := by simpa using hxy
        have hd4 : (x == y) = false := by simpa using hxy
        clear hxy
        go_wp2
        go_quiet (fail)
        go_wp2
        go_roundw
        case rel => exact ⟨j + 1, by omega, by go_num, by rw [HS2.out, R2.out], bl_drewN hb _⟩
        case measure => simp [intOf]; omega
    · obtain rfl : j = m := by omega
      go_wp2
      go_ret
      exact ⟨rfl, hb⟩

theorem jts_at (J : List (List Int)) {m k : Nat} (h : k < m) : (jtsTo J m).getD k (0, 0) = jtOf J k := by
  unfold jtsTo
  simp [List.getD_eq_getElem?_getD, h]
theorem jts_len (J : List (List Int)) (m : Nat) : (jtsTo J m).length = m := by simp [jtsTo]
set_option maxRecDepth 100000 in
set_option maxHeartbeats 3200000 in
theorem costOf_any (n gX : Nat) (C J : List (List Int)) (F X : List Int) (AJ : Option Addr) (cJ : Nat) (m0 m1 : Int) (w : World) (ok : WvOk n C J F) (hX : ∀ i, i < n → X.getD i 0 = 0 ∨ X.getD i 0 = 1)
    (hJ : JtsAt w w.heap.size AJ (jtsTo J J.length)) :
    Calls Tryd.prog 44 #[.agg #[.int .i64 (n : Int), .slice (some ⟨gX, 0, none⟩) n n, .slice AJ J.length cJ, .int .u64 m0, .int .u64 m1], .int .u64 (maskTo (oneP X) n : Int)] w fun e w' => e = .returned (.int .i64 (costTo J X J.length)) ∧ Below w.heap.size w w' := by
  have hx0 : Below w.heap.size w (w.alloc (.cells #[.int .i64 (n : Int), .slice (some ⟨gX, 0, none⟩) n n, .slice AJ J.length cJ, .int .u64 m0, .int .u64 m1] 62)) := by (repeat (first | assumption | exact Below.refl _ _ | (refine bl_alloc ?_ _) | (refine Below.drew ?_) | (refine bl_drewN ?_ _) | (refine bl_set ?_ (by first | (simp; done) | omega | (simp; omega)) _) | (refine bl_trans ?_ (by assumption)) | (refine bl_step ?_ (by assumption) (by first | omega | exact Below.size (by assumption) | (simp; omega) | (simp; exact Below.size (by assumption))))))
  have k0 := Blk.new w #[.int .i64 (n : Int), .slice (some ⟨gX, 0, none⟩) n n, .slice AJ J.length cJ, .int .u64 m0, .int .u64 m1] 62
  have lJI : (J.length : Int) ≤ 30 := by have := ok.j30; omega
  have HB : Hid (∀ m, m ≤ J.length → 0 ≤ costTo J X m ∧ costTo J X m ≤ 1000 * m) := fun m hm => costTo_le ok m hm
  have HK : Hid (∀ j, j < J.length → (0 ≤ (J.getD j []).getD 2 0 ∧ (J.getD j []).getD 2 0 ≤ 1000) ∧ ∃ v : Nat, bits .and .u64 ((2 ^ cx J j ||| 2 ^ cy J j : Nat) : Int) (maskTo (oneP X) n : Int) = (v : Int) ∧ v < 16777216 ∧ (((Lib.popAux 64 v : Nat) : Int) == 1) = !decide (X.getD (cx J j) 0 = X.getD (cy J j) 0)) := fun j hj => by
    obtain ⟨_, _, _, a, b, c, d⟩ := ok.j3 j hj
    exact ⟨⟨c, d⟩, ends_cut ok.n14 a b hX⟩
  have HJ : Hid (0 < J.length → ∃ b off, AJ = some ⟨b, off, none⟩ ∧ b < w.heap.size ∧ ∀ i, i < J.length → w.cell? ⟨b, off + i * 2, none⟩ = some (.int .u64 ((2 ^ cx J i ||| 2 ^ cy J i : Nat) : Int)) ∧ w.cell? ⟨b, off + i * 2 + 1, none⟩ = some (.int .i64 ((J.getD i []).getD 2 0))) := by
    intro h0
    obtain ⟨b, off, e, hb, hc⟩ := hJ (by rw [jts_len]; exact h0)
    refine ⟨b, off, e, hb, fun i hi => ?_⟩
    have := hc i (by rw [jts_len]; exact hi)
    rwa [jts_at J hi] at this
  obtain ⟨M, hM⟩ : ∃ M : Nat, maskTo (oneP X) n = M := ⟨_, rfl⟩
  rw [hM] at HK ⊢
  obtain ⟨m, hm⟩ : ∃ m, J.length = m := ⟨_, rfl⟩
  rw [hm] at HJ HB HK lJI hx0 k0 ⊢
  have d2 := k0.cell 2 (v := .slice AJ m cJ) rfl
  clear hJ ok hm hM hX
  go_enter Tryd.func44, Tryd.ntmps44
  go_wp2
  generalize (w.alloc (.cells #[.int .i64 (n : Int), .slice (some ⟨gX, 0, none⟩) n n, .slice AJ m cJ, .int .u64 m0, .int .u64 m1] 62)) = w1 at *
  go_loopw [5, 11] (fun s i wr => ∃ j : Nat, j ≤ m ∧ i = .int .i64 j ∧ s = .int .i64 (costTo J X j) ∧ Below w.heap.size w wr) (fun _ i _ => m - (intOf i).toNat)
  case atStart => exact ⟨0, Nat.zero_le _, rfl, rfl, hx0⟩
  case round =>
    obtain ⟨j, hj, rfl, rfl, hb⟩ := hrel
    have hj0 : (0 : Int) ≤ (j : Int) := by omega
    by_cases hlt : j < m
    · have hjI : (j : Int) < (m : Int) := by omega
      obtain ⟨b, off, rfl, hbB, hc⟩ := HJ.out (by omega)
      obtain ⟨q0, q1⟩ := hc j hlt
      obtain ⟨B2, v, hv1, hv2, hv3⟩ := HK.out j hlt
      have e0 := (hb.cell (p := ⟨b, off + j * 2, none⟩) hbB).trans q0
      have e1 := (hb.cell (p := ⟨b, off + j * 2 + 1, none⟩) hbB).trans q1
      have HE := Lib.hid (fun h => costTo_eq (J := J) (X := X) (k := j) h)
      have HN := Lib.hid (fun h => costTo_ne (J := J) (X := X) (k := j) h)
      have B1 := HB.out j hj
      have CZ := Lib.hid (fun wx => size_any v hv2 wx)
      generalize X.getD (cx J j) 0 = x at *
      generalize X.getD (cy J j) 0 = y at *
      generalize (2 ^ cx J j ||| 2 ^ cy J j) = E at *
      generalize (J.getD j []).getD 2 0 = c at *
      generalize Lib.popAux 64 v = pv at *
      obtain ⟨s, hs⟩ : ∃ s, costTo J X j = s := ⟨_, rfl⟩
      rw [hs] at HE HN B1 ⊢
      obtain ⟨s2, hs2⟩ : ∃ s2, costTo J X (j + 1) = s2 := ⟨_, rfl⟩
      rw [hs2] at HE HN
      have HS2 := Lib.hid hs2
      clear hc q0 q1 hs hs2 hv2
      by_cases hxy : x = y
      · have R2 := Lib.hid (HE.out hxy)
        rw [decide_eq_true hxy] at hv3
        simp only [Bool.not_true] at hv3
        clear hxy
        go_wp2_with fail
        refine (CZ.out _).mono ?_
        rintro e w2 ⟨rfl, rfl⟩
        go_wp2
        go_roundw
        case rel => exact ⟨j + 1, by omega, by go_num, by rw [HS2.out, R2.out], hb.alloc hb.size _⟩
        case measure => simp [intOf]; omega
      · have R2 := Lib.hid (HN.out hxy)
        rw [decide_eq_false hxy] at hv3
        simp only [Bool.not_false] at hv3
        clear hxy
        go_wp2_with fail
        refine (CZ.out _).mono ?_
        rintro e w2 ⟨rfl, rfl⟩
        go_wp2
        go_roundw
        case rel => exact ⟨j + 1, by omega, by go_num, by rw [HS2.out, R2.out], hb.alloc hb.size _⟩
        case measure => simp [intOf]; omega
    · obtain rfl : j = m := by omega
      go_wp2
      go_ret
      exact ⟨rfl, hb⟩
end Go.Proofs.YtdoheipnfdbioaaDoor
namespace Go.Proofs.YtdoheipnfdbioaaDoor
open Go.ChangeShapes Go.WideShapes Go.ChangeAt Go.RowKit

theorem catchInt_panicking (p : Addr) (x : Bool) (u : TypeId) (pv : Value) (older : List PanicEntry) (w : World) (hc : w.cell? p = some (.bool x)) (hz : w.frozen? p = false) :
    CallsD Tryd.prog 71 #[.pointer (some p)] (.panicking ({ v := .iface u pv, recovered := false } :: older)) w fun e u' w' =>
      e = .returned (.tuple #[]) ∧ u' = .panicking ({ v := .iface u pv, recovered := true } :: older) ∧ w' = w.setCell p (.bool false) := by
  refine callsD_of_wpS Tryd.func71 rfl fun c₀ cs hu => ?_
  apply wpS_region
  simp [wpOpsS, go_sem, recoverD, hu, Tryd.ntmps71, Exit.thenS, hc, hz, bodyPostS, results, Tryd.results71]
theorem catchInt_idle (p : Addr) (x : Bool) (w : World) (hc : w.cell? p = some (.bool x)) (hz : w.frozen? p = false) :
    CallsD Tryd.prog 71 #[.pointer (some p)] .returning w fun e u' w' => e = .returned (.tuple #[]) ∧ u' = .returning ∧ w' = w.setCell p (.bool true) := by
  refine callsD_of_wpS Tryd.func71 rfl fun c₀ cs hu => ?_
  apply wpS_region
  simp [wpOpsS, go_sem, recoverD, hu, Tryd.ntmps71, Exit.thenS, hc, hz, bodyPostS, results, Tryd.results71]
  cases c₀
  simp_all
def AttIntRes (OK : Value → World → Prop) (NO : Prop) (B : Nat) (w : World) (e : Ending) (w' : World) : Prop :=
  ((∃ v w1, e = .returned (.tuple #[v, .bool true]) ∧ OK v w1 ∧ w' = (w1.setCell ⟨B, 0, none⟩ (.bool true)).setCell ⟨B, 0, none⟩ (.bool true)) ∨ (e = .returned (.tuple #[.int .i64 0, .bool false]) ∧ NO)) ∧ Below w.heap.size w w'
theorem attemptInt_any (G : Nat) (caps : Array Value) (w : World) (OK : Value → World → Prop) (NO : Prop) (eg : ∀ args w, (callFunc G args).run Tryd.prog w = .ok (.enter G args) w)
    (hc : Calls Tryd.prog G caps (w.alloc (.cells #[.bool false] 4)) fun e w' => ((∃ v, e = .returned v ∧ OK v w') ∨ (Pan e ∧ NO)) ∧ Below (w.alloc (.cells #[.bool false] 4)).heap.size (w.alloc (.cells #[.bool false] 4)) w') :
    Calls Tryd.prog 42 #[.func (.func G) #[] caps] w (AttIntRes OK NO w.heap.size w) := by
  have hmf : ∀ (fn : Fn) (first cap : Array Value) (w : World), (Instr.makeFunc fn first cap).run Tryd.prog w = .ok (.func fn first cap) w := fun _ _ _ _ => rfl
  go_enter_defers Tryd.func42, Tryd.ntmps42
  go_wp2_with fail
  refine hc.mono ?_
  rintro e w1 ⟨h, hb1⟩
  have c0 : w1.cell? ⟨w.heap.size, 0, none⟩ = some (.bool false) := (hb1.cell (p := ⟨w.heap.size, 0, none⟩) (by simp)).trans (by go_simp)
  have f0 : w1.frozen? ⟨w.heap.size, 0, none⟩ = false := (hb1.frozen (p := ⟨w.heap.size, 0, none⟩) (by simp)).trans (by go_simp)
  have b1 : Below w.heap.size w w1 := bl_trans (by (repeat (first | assumption | exact Below.refl _ _ | (refine bl_alloc ?_ _) | (refine Below.drew ?_) | (refine bl_drewN ?_ _) | (refine bl_set ?_ (by first | (simp; done) | omega | (simp; omega)) _) | (refine bl_trans ?_ (by assumption)) | (refine bl_step ?_ (by assumption) (by first | omega | exact Below.size (by assumption) | (simp; omega) | (simp; exact Below.size (by assumption))))))) hb1
  rcases h with ⟨v, rfl, hv⟩ | ⟨⟨u, pv, rfl⟩, hno⟩
  · go_wp2
    refine leaves_cons (f := 71) (args := #[.pointer (some ⟨w.heap.size, 0, none⟩)]) (by simp) (by simp [go_sem]) ?_
    refine (catchInt_idle ⟨w.heap.size, 0, none⟩ true _ ?_ ?_).mono ?_
    · exact World.cell?_setCell_same _ _ _ c0
    · simp [f0]
    rintro e u' w'' ⟨rfl, rfl, rfl⟩
    have c1 : (w1.setCell ⟨w.heap.size, 0, none⟩ (.bool true)).cell? ⟨w.heap.size, 0, none⟩ = some (.bool true) := World.cell?_setCell_same _ _ _ c0
    have c2 : ((w1.setCell ⟨w.heap.size, 0, none⟩ (.bool true)).setCell ⟨w.heap.size, 0, none⟩ (.bool true)).cell? ⟨w.heap.size, 0, none⟩ = some (.bool true) := World.cell?_setCell_same _ _ _ c1
    simp [Leaves, settle, results, Tryd.results42, go_sem, c2]
    exact ⟨.inl ⟨_, _, rfl, hv, rfl⟩, (b1.setCell (p := ⟨w.heap.size, 0, none⟩) (Nat.le_refl _) _).setCell (p := ⟨w.heap.size, 0, none⟩) (Nat.le_refl _) _⟩
  · go_wp2
    refine leaves_cons (f := 71) (args := #[.pointer (some ⟨w.heap.size, 0, none⟩)]) (by simp) (by simp [go_sem]) ?_
    refine (catchInt_panicking ⟨w.heap.size, 0, none⟩ false _ _ _ _ c0 f0).mono ?_
    rintro e u' w'' ⟨rfl, rfl, rfl⟩
    have c1 : (w1.setCell ⟨w.heap.size, 0, none⟩ (.bool false)).cell? ⟨w.heap.size, 0, none⟩ = some (.bool false) := World.cell?_setCell_same _ _ _ c0
    simp [Leaves, settle, results, Tryd.results42, go_sem, c1]
    exact ⟨.inr ⟨rfl, hno⟩, b1.setCell (p := ⟨w.heap.size, 0, none⟩) (Nat.le_refl _) _⟩
end Go.Proofs.YtdoheipnfdbioaaDoor
namespace Go.Proofs.YtdoheipnfdbioaaDoor
open Go.ChangeShapes Go.WideShapes Go.ChangeAt Go.RowKit

/-- Is it a valid wiring, with layers that are a layering? -/
def isLayC (nI : Int) (C J : List (List Int)) (F X : List Int) : Bool := wvB nI C J F && layB nI C F X
theorem isLayC_w {nI : Int} {C J : List (List Int)} {F X : List Int} (h : wvB nI C J F = false) : isLayC nI C J F X = false := by unfold isLayC; rw [h]; rfl
theorem isLayC_l {nI : Int} {C J : List (List Int)} {F X : List Int} (h : wvB nI C J F = true) : isLayC nI C J F X = layB nI C F X := by unfold isLayC; rw [h]; rfl
/-- The cost and true, or 0 and false. -/
def coV (nI : Int) (C J : List (List Int)) (F X : List Int) : Value := .tuple #[.int .i64 (if isLayC nI C J F X then costTo J X J.length else 0), .bool (isLayC nI C J F X)]
theorem coV_f {nI : Int} {C J : List (List Int)} {F X : List Int} (h : isLayC nI C J F X = false) : coV nI C J F X = .tuple #[.int .i64 0, .bool false] := by simp [coV, h]
theorem coV_t {nI : Int} {C J : List (List Int)} {F X : List Int} (h : isLayC nI C J F X = true) : coV nI C J F X = .tuple #[.int .i64 (costTo J X J.length), .bool true] := by simp [coV, h]

set_option maxRecDepth 100000 in
set_option maxHeartbeats 1600000 in
theorem CostOfS_any (nI : Int) (AC : Option Addr) (C : List SlI) (cC : Nat) (AJ : Option Addr) (J : List SlI) (cJ : Nat) (AF : Option Addr) (F : List Int) (cF : Nat) (AX : Option Addr) (X : List Int) (cX : Nat) (w : World)
    (hp : WirAt w w.heap.size AC C AJ J AF F) (hs : WirSz C J F) (hX : IntsAt w w.heap.size AX X) (lX : X.length ≤ 1048576) :
    Calls Tryd.prog 16 #[.agg #[.int .i64 nI, .slice AC C.length cC, .slice AJ J.length cJ, .slice AF F.length cF], .slice AX X.length cX] w fun e w' => e = .returned (coV nI (heldI C) (heldI J) F X) ∧ Below w.heap.size w w' := by
  have hx : Below w.heap.size w (w.alloc (.cells #[.int .i64 nI, .slice AC C.length cC, .slice AJ J.length cJ, .slice AF F.length cF] 28)) := by (repeat (first | assumption | exact Below.refl _ _ | (refine bl_alloc ?_ _) | (refine Below.drew ?_) | (refine bl_drewN ?_ _) | (refine bl_set ?_ (by first | (simp; done) | omega | (simp; omega)) _) | (refine bl_trans ?_ (by assumption)) | (refine bl_step ?_ (by assumption) (by first | omega | exact Below.size (by assumption) | (simp; omega) | (simp; exact Below.size (by assumption))))))
  have k0 := Blk.new w #[.int .i64 nI, .slice AC C.length cC, .slice AJ J.length cJ, .slice AF F.length cF] 28
  have h1 := hp.to hx
  have hX1 := hX.to hx
  have cc := l07Is_any w.heap.size nI AC C cC AJ J cJ AF F cF _ (k0.cell 0 rfl) (k0.cell 1 rfl) (k0.cell 2 rfl) (k0.cell 3 rfl) h1.1 h1.2.1 h1.2.2 hs.1.1 hs.2.1.1 hs.2.2 hs.1.2 hs.2.1.2
  cases hv : wvB nI (heldI C) (heldI J) F
  · have R := Lib.hid (coV_f (isLayC_w (X := X) hv))
    rw [hv] at cc
    clear hv hp hX hs
    go_enter Tryd.func16, Tryd.ntmps16
    go_wp2_with fail
    refine cc.mono ?_
    rintro e w1 ⟨rfl, hb1⟩
    go_wp2
    go_ret2
    exact ⟨by rw [R.out]; rfl, bl_step hx hb1 hx.size⟩
  · obtain ⟨n, hn, ok⟩ := wvOk_of hv
    subst hn
    rw [hv] at cc
    have CL := Lib.hid (fun (wx : World) (hb : Below (w.alloc (.cells #[.int .i64 (n : Int), .slice AC C.length cC, .slice AJ J.length cJ, .slice AF F.length cF] 28)).heap.size (w.alloc (.cells #[.int .i64 (n : Int), .slice AC C.length cC, .slice AJ J.length cJ, .slice AF F.length cF] 28)) wx) => l07Layering_any w.heap.size n AC C cC (heldI J) AF F cF AX X cX wx ((k0.to hb).cell 0 rfl) ((k0.to hb).cell 1 rfl) ((k0.to hb).cell 3 rfl) (h1.1.to hb) (h1.2.2.to hb) (hX1.to hb) ok lX)
    cases hl : layB n (heldI C) F X
    · have R := Lib.hid (coV_f ((isLayC_l (X := X) hv).trans hl))
      rw [hl] at CL
      clear hv hp hX hs h1 hX1 ok k0 hl
      go_enter Tryd.func16, Tryd.ntmps16
      go_wp2_with fail
      refine cc.mono ?_
      rintro e w1 ⟨rfl, hb1⟩
      go_wp2_with fail
      refine (CL.out _ hb1).mono ?_
      rintro e w2 ⟨rfl, hb2⟩
      go_wp2
      go_ret2
      exact ⟨by rw [R.out]; rfl, bl_step (bl_step hx hb1 hx.size) hb2 (bl_step hx hb1 hx.size).size⟩
    · have R := Lib.hid (coV_t ((isLayC_l (X := X) hv).trans hl))
      rw [heldI_len] at R
      have CO := Lib.hid (fun (wx : World) (hb : Below (w.alloc (.cells #[.int .i64 (n : Int), .slice AC C.length cC, .slice AJ J.length cJ, .slice AF F.length cF] 28)).heap.size (w.alloc (.cells #[.int .i64 (n : Int), .slice AC C.length cC, .slice AJ J.length cJ, .slice AF F.length cF] 28)) wx) => l07Cost_any w.heap.size n (heldI C) AJ J cJ F AX X cX wx ((k0.to hb).cell 2 rfl) (h1.2.1.to hb) (hX1.to hb) ok (lay_01 hl).1)
      rw [hl] at CL
      clear hv hp hX hs h1 hX1 ok k0 hl
      go_enter Tryd.func16, Tryd.ntmps16
      go_wp2_with fail
      refine cc.mono ?_
      rintro e w1 ⟨rfl, hb1⟩
      go_wp2_with fail
      refine (CL.out _ hb1).mono ?_
      rintro e w2 ⟨rfl, hb2⟩
      have hb12 := bl_trans hb1 hb2
      go_wp2_with fail
      refine (CO.out _ hb12).mono ?_
      rintro e w3 ⟨rfl, hb3⟩
      go_wp2
      go_ret2
      exact ⟨by rw [R.out]; rfl, bl_step (bl_step hx hb12 hx.size) hb3 (bl_step hx hb12 hx.size).size⟩

set_option maxRecDepth 100000 in
set_option maxHeartbeats 1600000 in
theorem costClo_any (nI : Int) (AC : Option Addr) (C : List SlI) (cC : Nat) (AJ : Option Addr) (J : List SlI) (cJ : Nat) (AF : Option Addr) (F : List Int) (cF : Nat) (AX : Option Addr) (X : List Int) (cX : Nat) (Z1 Z2 : Nat) (w : World)
    (hp : WirAt w w.heap.size AC C AJ J AF F) (hs : WirSz C J F) (hX : IntsAt w w.heap.size AX X) (lX : X.length ≤ 1048576) (hL : BruAt w)
    (k1 : Blk w Z1 #[.int .i64 nI, .slice AC C.length cC, .slice AJ J.length cJ, .slice AF F.length cF] 28) (c2 : w.cell? ⟨Z2, 0, none⟩ = some (.slice AX X.length cX)) :
    Calls Tryd.prog 43 #[.pointer (some ⟨Z1, 0, none⟩), .pointer (some ⟨Z2, 0, none⟩)] w fun e w' =>
      ((∃ v, e = .returned v ∧ (isLayC nI (heldI C) (heldI J) F X = true ∧ v = .int .i64 (costTo (heldI J) X (heldI J).length))) ∨ (Pan e ∧ isLayC nI (heldI C) (heldI J) F X = false)) ∧ Below w.heap.size w w' := by
  have CW := Lib.hid (requireWiring_any nI AC C cC AJ J cJ AF F cF w hp.1 hp.2.1 hp.2.2 hs.1.1 hs.2.1.1 hs.2.2 hs.1.2 hs.2.1.2)
  have s0 := k1.cell 0 (v := .int .i64 nI) rfl
  have s1 := k1.cell 1 (v := .slice AC C.length cC) rfl
  have s2 := k1.cell 2 (v := .slice AJ J.length cJ) rfl
  have s3 := k1.cell 3 (v := .slice AF F.length cF) rfl
  have l2 : Z2 < w.heap.size := World.block_lt_of_cell? w _ c2
  have HX := Lib.hid hX
  have HL := Lib.hid hL
  clear hp hs hX hL k1
  go_enter Tryd.func43, Tryd.ntmps43
  go_wp2_with fail
  refine CW.out.mono ?_
  clear CW s0 s1 s2 s3
  rintro e w3 ⟨⟨n, gX, AJ2, cJ2, rfl, ⟨hv, ok⟩, rfl, hBX, hJts⟩ | ⟨hv, u, pv, rfl⟩, hb3⟩
  · have HV := Lib.hid (isLayC_l (X := X) hv)
    have kI := Blk.new w3 #[.int .i64 (n : Int), .slice (some ⟨gX, 0, none⟩) n n, .slice AJ2 (heldI J).length cJ2, .int .u64 (maskTo (fixP F 0) n : Int), .int .u64 (maskTo (fixP F 1) n : Int)] 62
    have hx3 : Below w3.heap.size w3 (w3.alloc (.cells #[.int .i64 (n : Int), .slice (some ⟨gX, 0, none⟩) n n, .slice AJ2 (heldI J).length cJ2, .int .u64 (maskTo (fixP F 0) n : Int), .int .u64 (maskTo (fixP F 1) n : Int)] 62)) := (Below.refl _ _).alloc (Nat.le_refl _) _
    have hBX4 := hBX.to hx3
    have hJ4 := hJts.to hx3
    have hb4 := bl_trans hb3 hx3
    clear hb3 hx3 hBX hJts hv
    go_wp2_with fail
    generalize (w3.alloc (.cells #[.int .i64 (n : Int), .slice (some ⟨gX, 0, none⟩) n n, .slice AJ2 (heldI J).length cJ2, .int .u64 (maskTo (fixP F 0) n : Int), .int .u64 (maskTo (fixP F 1) n : Int)] 62)) = w4 at *
    generalize w3.heap.size = Z at *
    have i0 := kI.cell 0 (v := .int .i64 (n : Int)) rfl
    have i1 := kI.cell 1 (v := .slice (some ⟨gX, 0, none⟩) n n) rfl
    have i2 := kI.cell 2 (v := .slice AJ2 (heldI J).length cJ2) rfl
    have i3 := kI.cell 3 (v := .int .u64 (maskTo (fixP F 0) n : Int)) rfl
    have i4 := kI.cell 4 (v := .int .u64 (maskTo (fixP F 1) n : Int)) rfl
    have lI := kI.lt
    have d2 := (hb4.cell (p := ⟨Z2, 0, none⟩) l2).trans c2
    have l24 : Z2 < w4.heap.size := Nat.lt_of_lt_of_le l2 hb4.size
    have CX := Lib.hid (HX.out.to hb4)
    have CL := Lib.hid (HL.out.to hb4)
    clear kI c2 l2
    refine wp_region_treeB (.takes [0, 1, 2] (.alone 3 (.alone 4 (.takes [5] .done)))) (by kernel_rfl) (by kernel_rfl) (by kernel_rfl) (fun _ d _ _ _ h => by cases d <;> exact h) (fun hS0 => ?_)
    refine tplan_w (v := ?_) rfl (by rfl) ?_ ?_
    rotate_left
    · intro wx hSx
      obtain ⟨hcx, hfx, hzx⟩ := bcell hSx
      go_simp
      try (with_reducible rfl)
    try simp only [Act.put, List.setIfInBounds_toArray, List.set_cons_zero, List.set_cons_succ]
    refine tplan_w (v := ?_) rfl (by rfl) ?_ ?_
    rotate_left
    · intro wx hSx
      obtain ⟨hcx, hfx, hzx⟩ := bcell hSx
      go_simp
      try (with_reducible rfl)
    try simp only [Act.put, List.setIfInBounds_toArray, List.set_cons_zero, List.set_cons_succ]
    refine tplan_w (v := ?_) rfl (by rfl) ?_ ?_
    rotate_left
    · intro wx hSx
      obtain ⟨hcx, hfx, hzx⟩ := bcell hSx
      go_simp
      try (with_reducible rfl)
    try simp only [Act.put, List.setIfInBounds_toArray, List.set_cons_zero, List.set_cons_succ]
    refine tplan_b rfl (fun K hK => ?_)
    go_simp
    refine (requireLayering_any n gX (heldI C) (heldI J) F AJ2 (heldI J).length cJ2 AX X cX _ (hBX4.to hS0) ok (CX.out.to hS0) lX (CL.out.to hS0)).mono ?_
    rintro e w5 ⟨⟨hl, rfl⟩ | ⟨hl, u, pv, rfl⟩, hb5⟩
    · have hS1 := belowS hS0 hb5
      have HC := Lib.hid (HV.out.trans hl)
      have H01 := Lib.hid (lay_01 hl).2
      refine hK _ _ ⟨hS1, ?_⟩
      clear hK K hl
      try simp only [Act.put, List.setIfInBounds_toArray, List.set_cons_zero, List.set_cons_succ]
      refine tplan_b rfl (fun K hK => ?_)
      go_simp
      refine (costOf_any n gX (heldI C) (heldI J) F X AJ2 cJ2 _ _ _ ok H01.out ((hJ4.to hS0).to hb5)).mono ?_
      rintro e w6 ⟨rfl, hb6⟩
      have hS2 := belowS hS1 hb6
      refine hK _ _ ⟨hS2, ?_⟩
      clear hK K
      try simp only [Act.put, List.setIfInBounds_toArray, List.set_cons_zero, List.set_cons_succ]
      refine tplan_w (v := ?_) rfl (by rfl) ?_ ?_
      rotate_left
      · intro wx hSx
        obtain ⟨hcx, hfx, hzx⟩ := bcell hSx
        go_simp
        try (with_reducible rfl)
      try simp only [Act.put, List.setIfInBounds_toArray, List.set_cons_zero, List.set_cons_succ]
      refine tplan_endQ ?_
      go_wp2
      go_ret
      exact ⟨.inl ⟨_, rfl, HC.out, rfl⟩, bl_trans hb4 hS2⟩
    · have HC := Lib.hid (HV.out.trans hl)
      have hS1 := belowS hS0 hb5
      clear hl
      go_wp2
      exact ⟨rfl, .inr ⟨⟨_, _, rfl⟩, HC.out⟩, bl_trans hb4 hS1⟩
  · have HV := Lib.hid (isLayC_w (X := X) hv)
    clear hv
    go_wp2
    exact ⟨rfl, .inr ⟨⟨_, _, rfl⟩, HV.out⟩, hb3⟩
theorem enter_ofC {f : FuncId} {fn : Func} {c : Code} (hf : Tryd.prog.funcs[f]? = some fn) (hname : (fn.name == "runtime.NumGoroutine") = false) (hb : fn.body = some c) : ∀ (args : Array Value) (w : World), (callFunc f args).run Tryd.prog w = .ok (.enter f args) w := Go.Proofs.enters_of hf hname hb
set_option maxRecDepth 100000 in
set_option maxHeartbeats 1600000 in
theorem CostOfI_any (nI : Int) (AC : Option Addr) (C : List SlI) (cC : Nat) (AJ : Option Addr) (J : List SlI) (cJ : Nat) (AF : Option Addr) (F : List Int) (cF : Nat) (AX : Option Addr) (X : List Int) (cX : Nat) (w : World)
    (hp : WirAt w w.heap.size AC C AJ J AF F) (hs : WirSz C J F) (hX : IntsAt w w.heap.size AX X) (lX : X.length ≤ 1048576) (hL : BruAt w) :
    Calls Tryd.prog 17 #[.agg #[.int .i64 nI, .slice AC C.length cC, .slice AJ J.length cJ, .slice AF F.length cF], .slice AX X.length cX] w fun e w' => e = .returned (coV nI (heldI C) (heldI J) F X) ∧ Below w.heap.size w w' := by
  have hx : Below w.heap.size w ((w.alloc (.cells #[.int .i64 nI, .slice AC C.length cC, .slice AJ J.length cJ, .slice AF F.length cF] 28)).alloc (.cells #[.slice AX X.length cX] 23)) := by (repeat (first | assumption | exact Below.refl _ _ | (refine bl_alloc ?_ _) | (refine Below.drew ?_) | (refine bl_drewN ?_ _) | (refine bl_set ?_ (by first | (simp; done) | omega | (simp; omega)) _) | (refine bl_trans ?_ (by assumption)) | (refine bl_step ?_ (by assumption) (by first | omega | exact Below.size (by assumption) | (simp; omega) | (simp; exact Below.size (by assumption))))))
  have k1 : Blk ((w.alloc (.cells #[.int .i64 nI, .slice AC C.length cC, .slice AJ J.length cJ, .slice AF F.length cF] 28)).alloc (.cells #[.slice AX X.length cX] 23)) w.heap.size #[.int .i64 nI, .slice AC C.length cC, .slice AJ J.length cJ, .slice AF F.length cF] 28 := (Blk.new _ _ _).alloc _
  have k2 : Blk ((w.alloc (.cells #[.int .i64 nI, .slice AC C.length cC, .slice AJ J.length cJ, .slice AF F.length cF] 28)).alloc (.cells #[.slice AX X.length cX] 23)) (w.heap.size + 1) #[.slice AX X.length cX] 23 := by
    have := Blk.new (w.alloc (.cells #[.int .i64 nI, .slice AC C.length cC, .slice AJ J.length cJ, .slice AF F.length cF] 28)) #[.slice AX X.length cX] 23
    rwa [World.size_alloc] at this
  have hp1 := hp.to hx
  have hX1 := hX.to hx
  have hL1 := hL.to hx
  have hgen : ∃ W1, ((w.alloc (.cells #[.int .i64 nI, .slice AC C.length cC, .slice AJ J.length cJ, .slice AF F.length cF] 28)).alloc (.cells #[.slice AX X.length cX] 23)) = W1 := ⟨_, rfl⟩
  obtain ⟨W1, hW1⟩ := hgen
  rw [hW1] at hx k1 k2 hp1 hX1 hL1
  have hy := (Below.refl W1.heap.size W1).alloc (Nat.le_refl _) (.cells #[.bool false] 4)
  have CA := attemptInt_any 43 #[.pointer (some ⟨w.heap.size, 0, none⟩), .pointer (some ⟨w.heap.size + 1, 0, none⟩)] W1 (fun v _ => isLayC nI (heldI C) (heldI J) F X = true ∧ v = .int .i64 (costTo (heldI J) X (heldI J).length)) (isLayC nI (heldI C) (heldI J) F X = false) (enter_ofC Tryd.func43 (by kernel_rfl) rfl)
    (costClo_any nI AC C cC AJ J cJ AF F cF AX X cX w.heap.size (w.heap.size + 1) _ (hp1.to hy) hs (hX1.to hy) lX (hL1.to hy) (k1.to hy) ((k2.to hy).cell 0 rfl))
  have HW1 := Lib.hid hW1
  clear hW1 hp hs hX lX hL k1 k2 hp1 hX1 hL1 hy
  go_enter Tryd.func17, Tryd.ntmps17
  go_wp2_with fail
  rw [HW1.out]
  refine CA.mono ?_
  rintro e w2 ⟨⟨v, w1, rfl, ⟨hl, rfl⟩, rfl⟩ | ⟨rfl, hl⟩, hb2⟩
  · have HL := Lib.hid (coV_t hl)
    have bb := hx.trans (hb2.mono hx.size)
    clear hl hb2
    generalize (w1.setCell _ _).setCell _ _ = w3 at *
    go_wp2
    go_ret2
    exact ⟨by rw [HL.out]; rfl, bb⟩
  · have HL := Lib.hid (coV_f hl)
    have bb := hx.trans (hb2.mono hx.size)
    clear hl hb2
    go_wp2
    go_ret2
    exact ⟨by rw [HL.out]; rfl, bb⟩
end Go.Proofs.YtdoheipnfdbioaaDoor
namespace Go.Proofs.YtdoheipnfdbioaaDoor.fnExactCostOf
open Go.ChangeShapes Go.WideShapes Go.ChangeAt Go.RowKit

set_option maxRecDepth 100000 in
set_option maxHeartbeats 3200000 in
theorem walk (n : Int) (AC : Option Addr) (C : List SlI) (cC : Nat) (AJ : Option Addr) (J : List SlI) (cJ : Nat) (AF : Option Addr) (F : List Int) (cF : Nat) (AX : Option Addr) (X : List Int) (cX : Nat) (w : World) (h : WirIn w AC C cC AJ J cJ AF F cF n)
    (hx : IntsAt w w.heap.size AX X ∧ (∀ n ∈ X, Fits n) ∧ X.length ≤ cX ∧ cX ≤ maxLen) (hL : BruAt w) :
    Calls Tryd.prog 4 #[.agg #[.int .i64 n, .slice AC C.length cC, .slice AJ J.length cJ, .slice AF F.length cF], .slice AX X.length cX] w fun e w' => e = .returned (.bool true) ∧ Below w.heap.size w w' := by
  obtain ⟨_, ⟨hC, _, lC1, lC2⟩, ⟨hJ, _, lJ1, lJ2⟩, hF, _, lF1, lF2⟩ := h
  obtain ⟨hX, _, lX1, lX2⟩ := hx
  have hXm : X.length ≤ maxLen := by omega
  have hp : WirAt w w.heap.size AC C AJ J AF F := ⟨hC, hJ, hF⟩
  have hx0 : Below w.heap.size w (w.alloc (.cells #[.int .i64 n, .slice AC C.length cC, .slice AJ J.length cJ, .slice AF F.length cF] 25)) := by (repeat (first | assumption | exact Below.refl _ _ | (refine bl_alloc ?_ _) | (refine Below.drew ?_) | (refine bl_drewN ?_ _) | (refine bl_set ?_ (by first | (simp; done) | omega | (simp; omega)) _) | (refine bl_trans ?_ (by assumption)) | (refine bl_step ?_ (by assumption) (by first | omega | exact Below.size (by assumption) | (simp; omega) | (simp; exact Below.size (by assumption))))))
  have ka0 := Blk.new w #[.int .i64 n, .slice AC C.length cC, .slice AJ J.length cJ, .slice AF F.length cF] 25
  have csz := szWiring_any n AC C cC AJ J cJ AF F cF (w.alloc (.cells #[.int .i64 n, .slice AC C.length cC, .slice AJ J.length cJ, .slice AF F.length cF] 25)) (hp.to hx0) (by omega) (by omega) (by omega)
  have HP := Lib.hid hp
  have HX := Lib.hid hX
  have HL := Lib.hid hL
  clear hp hC hJ hF hX lC1 lC2 lJ1 lJ2 lF1 lF2 lX1 lX2 hL
  unfold maxLen at hXm
  by_cases hbig : 1048576 < X.length
  · have hbI : (1048576 : Int) < (X.length : Int) := by omega
    clear csz hbig
    go_enter Tryd.func4, Tryd.ntmps4
    go_wp2
    go_ret
    exact ⟨rfl, hx0⟩
  have hbI : (X.length : Int) ≤ 1048576 := by omega
  have lX : X.length ≤ 1048576 := by omega
  clear hbig hXm
  obtain ⟨v, u, hv⟩ : ∃ v u, coV n (heldI C) (heldI J) F X = .tuple #[.int .i64 v, .bool u] := ⟨_, _, rfl⟩
  have CS0 : ∀ (wx : World) (g1 : Nat) (M1 : List SlI) (g2 : Nat) (M2 : List SlI) (g3 gx : Nat) (h : HeldW C J F g1 M1 g2 M2 g3 wx) (hs : WirSz C J F) (hX : IntsAt wx wx.heap.size (some ⟨gx, 0, none⟩) X), Calls Tryd.prog 16 #[.agg #[.int .i64 n, .slice (some ⟨g1, 0, none⟩) M1.length M1.length, .slice (some ⟨g2, 0, none⟩) M2.length M2.length, .slice (some ⟨g3, 0, none⟩) F.length F.length], .slice (some ⟨gx, 0, none⟩) X.length X.length] wx fun e w' => e = .returned (.tuple #[.int .i64 v, .bool u]) ∧ Below wx.heap.size wx w' := by
    intro wx g1 M1 g2 M2 g3 gx h hs hX
    have := CostOfS_any n (some ⟨g1, 0, none⟩) M1 M1.length (some ⟨g2, 0, none⟩) M2 M2.length (some ⟨g3, 0, none⟩) F F.length (some ⟨gx, 0, none⟩) X X.length wx h.2 (h.sz hs) hX lX
    rw [h.1.2.2.1, h.1.2.2.2, hv] at this
    exact this
  have CI0 : ∀ (wx : World) (g1 : Nat) (M1 : List SlI) (g2 : Nat) (M2 : List SlI) (g3 gx : Nat) (h : HeldW C J F g1 M1 g2 M2 g3 wx) (hs : WirSz C J F) (hX : IntsAt wx wx.heap.size (some ⟨gx, 0, none⟩) X) (hL : BruAt wx), Calls Tryd.prog 17 #[.agg #[.int .i64 n, .slice (some ⟨g1, 0, none⟩) M1.length M1.length, .slice (some ⟨g2, 0, none⟩) M2.length M2.length, .slice (some ⟨g3, 0, none⟩) F.length F.length], .slice (some ⟨gx, 0, none⟩) X.length X.length] wx fun e w' => e = .returned (.tuple #[.int .i64 v, .bool u]) ∧ Below wx.heap.size wx w' := by
    intro wx g1 M1 g2 M2 g3 gx h hs hX hL
    have := CostOfI_any n (some ⟨g1, 0, none⟩) M1 M1.length (some ⟨g2, 0, none⟩) M2 M2.length (some ⟨g3, 0, none⟩) F F.length (some ⟨gx, 0, none⟩) X X.length wx h.2 (h.sz hs) hX lX hL
    rw [h.1.2.2.1, h.1.2.2.2, hv] at this
    exact this
  have CS := Lib.hid CS0
  have CI := Lib.hid CI0
  clear CS0 CI0
  have HV := Lib.hid hv
  clear hv
  have CXN := Lib.hid (fun (wx : World) (hx : Below w.heap.size w wx) => toInt64S_new AX X cX wx (HX.out.to hx) lX)
  go_enter Tryd.func4, Tryd.ntmps4
  go_wp2_with fail
  refine csz.mono ?_
  rintro e w1 ⟨⟨r, rfl, hr1, hr2, hr3⟩, hb1⟩
  have HR := Lib.hid hr3
  clear hr3
  replace ka0 := ka0.to hb1
  have x1 := bl_step hx0 hb1 hx0.size
  clear hb1 hx0
  by_cases hr : r < 0
  · go_wp2
    go_ret
    exact ⟨rfl, x1⟩
  have HS := Lib.hid (HR.out (by omega))
  have CT := Lib.hid (fun (wx : World) (hx : Below w.heap.size w wx) => toWiring_copy n AC C cC AJ J cJ AF F cF wx (HP.out.to hx) HS.out)
  have s0 := ka0.cell 0 (v := .int .i64 n) rfl
  have s1 := ka0.cell 1 (v := .slice AC C.length cC) rfl
  have s2 := ka0.cell 2 (v := .slice AJ J.length cJ) rfl
  have s3 := ka0.cell 3 (v := .slice AF F.length cF) rfl
  go_wp2_with fail
  refine (CT.out _ x1).mono ?_
  rintro e w2 ⟨g1, M1, g2, M2, g3, rfl, hH, hb2⟩
  have x2 := bl_trans x1 hb2
  replace ka0 := ka0.to hb2
  clear hb2 s0 s1 s2 s3 x1
  go_wp2_with fail
  refine (CXN.out _ x2).mono ?_
  rintro e w21 ⟨gx, rfl, hBx, hb21, _⟩
  have x21 := bl_trans x2 hb21
  replace ka0 := ka0.to hb21
  have hH21 := hH.to hb21
  clear hb21 x2 hH
  go_wp2_with fail
  refine (CS.out _ g1 M1 g2 M2 g3 gx hH21 HS.out hBx.nums).mono ?_
  rintro e w3 ⟨rfl, hb3⟩
  have x3 := bl_trans x21 hb3
  replace ka0 := ka0.to hb3
  clear hb3 hH21 x21 hBx
  have s0 := ka0.cell 0 (v := .int .i64 n) rfl
  have s1 := ka0.cell 1 (v := .slice AC C.length cC) rfl
  have s2 := ka0.cell 2 (v := .slice AJ J.length cJ) rfl
  have s3 := ka0.cell 3 (v := .slice AF F.length cF) rfl
  go_wp2_with fail
  refine (CT.out _ x3).mono ?_
  rintro e w4 ⟨k1, N1, k2, N2, k3, rfl, hN, hb4⟩
  have x4 := bl_trans x3 hb4
  replace ka0 := ka0.to hb4
  clear hb4 s0 s1 s2 s3 x3
  have kb0 := Blk.new w4 #[.int .i64 n, .slice (some ⟨k1, 0, none⟩) N1.length N1.length, .slice (some ⟨k2, 0, none⟩) N2.length N2.length, .slice (some ⟨k3, 0, none⟩) F.length F.length] 28
  have hx4 : Below w4.heap.size w4 (w4.alloc (.cells #[.int .i64 n, .slice (some ⟨k1, 0, none⟩) N1.length N1.length, .slice (some ⟨k2, 0, none⟩) N2.length N2.length, .slice (some ⟨k3, 0, none⟩) F.length F.length] 28)) := (Below.refl _ _).alloc (Nat.le_refl _) _
  replace ka0 := ka0.to hx4
  have hN4 := hN.to hx4
  replace x4 := bl_trans x4 hx4
  clear hx4 hN
  go_wp2_with fail
  generalize (w4.alloc (.cells #[.int .i64 n, .slice (some ⟨k1, 0, none⟩) N1.length N1.length, .slice (some ⟨k2, 0, none⟩) N2.length N2.length, .slice (some ⟨k3, 0, none⟩) F.length F.length] 28)) = w5 at *
  generalize w4.heap.size = Z at *
  refine (CXN.out _ x4).mono ?_
  rintro e w51 ⟨gy, rfl, hBy, hb51, _⟩
  have x51 := bl_trans x4 hb51
  replace ka0 := ka0.to hb51
  replace kb0 := kb0.to hb51
  have hN51 := hN4.to hb51
  clear hb51 x4 hN4
  have t0 := kb0.cell 0 (v := .int .i64 n) rfl
  have t1 := kb0.cell 1 (v := .slice (some ⟨k1, 0, none⟩) N1.length N1.length) rfl
  have t2 := kb0.cell 2 (v := .slice (some ⟨k2, 0, none⟩) N2.length N2.length) rfl
  have t3 := kb0.cell 3 (v := .slice (some ⟨k3, 0, none⟩) F.length F.length) rfl
  go_wp2_with fail
  refine (CI.out _ k1 N1 k2 N2 k3 gy hN51 HS.out hBy.nums (HL.out.to x51)).mono ?_
  rintro e w6 ⟨rfl, hb6⟩
  have x6 := bl_trans x51 hb6
  replace ka0 := ka0.to hb6
  replace kb0 := kb0.to hb6
  have hN6 := hN51.to hb6
  have hBy6 := hBy.to hb6
  clear hb6 x51 hN51 t0 t1 t2 t3 hBy
  have s0 := ka0.cell 0 (v := .int .i64 n) rfl
  have s1 := ka0.cell 1 (v := .slice AC C.length cC) rfl
  have s2 := ka0.cell 2 (v := .slice AJ J.length cJ) rfl
  have s3 := ka0.cell 3 (v := .slice AF F.length cF) rfl
  have t0 := kb0.cell 0 (v := .int .i64 n) rfl
  have t1 := kb0.cell 1 (v := .slice (some ⟨k1, 0, none⟩) N1.length N1.length) rfl
  have t2 := kb0.cell 2 (v := .slice (some ⟨k2, 0, none⟩) N2.length N2.length) rfl
  have t3 := kb0.cell 3 (v := .slice (some ⟨k3, 0, none⟩) F.length F.length) rfl
  have la := ka0.lt
  have lb := kb0.lt
  clear CI CS
  go_wp2_with fail
  refine wp_region_treeB (.takes [0, 1] (.alone 2 (.alone 3 (.takes [4] .done)))) (by kernel_rfl) (by kernel_rfl) (by kernel_rfl) (fun _ d _ _ _ h => by cases d <;> exact h) (fun hS0 => ?_)
  refine tplan_w (v := ?_) rfl (by rfl) ?_ ?_
  rotate_left
  · intro wx hSx
    obtain ⟨hcx, hfx, hzx⟩ := bcell hSx
    go_simp
    try (with_reducible rfl)
  try simp only [Act.put, List.setIfInBounds_toArray, List.set_cons_zero, List.set_cons_succ]
  refine tplan_w (v := ?_) rfl (by rfl) ?_ ?_
  rotate_left
  · intro wx hSx
    obtain ⟨hcx, hfx, hzx⟩ := bcell hSx
    go_simp
    try (with_reducible rfl)
  try simp only [Act.put, List.setIfInBounds_toArray, List.set_cons_zero, List.set_cons_succ]
  refine tplan_b rfl (fun K hK => ?_)
  go_simp
  refine (CT.out _ (bl_step x6 hS0 x6.size)).mono ?_
  rintro e w7 ⟨m1, P1, m2, P2, m3, rfl, hP, hb7⟩
  have hS1 := belowS hS0 hb7
  refine hK _ _ ⟨hS1, ?_⟩
  clear hK K
  try simp only [Act.put, List.setIfInBounds_toArray, List.set_cons_zero, List.set_cons_succ]
  refine tplan_b rfl (fun K hK => ?_)
  go_simp
  refine ((eqWiring_same n C J F k1 N1 k2 N2 k3 m1 P1 m2 P2 m3 _ ((hN6.to hS0).to hb7) hP HS.out)).mono ?_
  rintro e w2 ⟨rfl, hb2⟩
  have hS2 := belowS hS1 hb2
  refine hK _ _ ⟨hS2, ?_⟩
  clear hK K
  try simp only [Act.put, List.setIfInBounds_toArray, List.set_cons_zero, List.set_cons_succ]
  refine tplan_w (v := ?_) rfl (by rfl) ?_ ?_
  rotate_left
  · intro wx hSx
    obtain ⟨hcx, hfx, hzx⟩ := bcell hSx
    go_simp
    try (with_reducible rfl)
  try simp only [Act.put, List.setIfInBounds_toArray, List.set_cons_zero, List.set_cons_succ]
  refine tplan_endQ ?_
  have x8 := bl_step x6 hS2 x6.size
  have hBy8 := hBy6.to hS2
  clear s0 s1 s2 s3 t0 t1 t2 t3 la lb ka0 kb0 hN6 hBy6 x6 hP
  go_wp2_with fail
  refine (CXN.out _ x8).mono ?_
  rintro e w9 ⟨gz, rfl, hBz, hb9, _⟩
  have x9 := bl_trans x8 hb9
  have hBy9 := hBy8.to hb9
  clear hb9 x8 hBy8
  go_wp2_with fail
  refine (eqInt64S_same _ _ X X.length X.length _ hBy9.nums hBz.nums lX).mono ?_
  rintro e w10 ⟨rfl, hb10⟩
  go_wp2
  go_ret
  exact ⟨rfl, bl_trans x9 hb10⟩
end Go.Proofs.YtdoheipnfdbioaaDoor.fnExactCostOf
namespace Go.Proofs.YtdoheipnfdbioaaDoor
open Go.ChangeShapes Go.WideShapes Go.ChangeAt Go.RowKit

theorem tBru : (Tryd.prog.globals[0]?).map (·.type) = some 125 := by kernel_rfl
theorem uArrB : Tryd.prog.underlying 125 = some (.array 64 5) := by kernel_rfl
theorem uU8 : Tryd.prog.underlying 5 = some (.int .u8) := by kernel_rfl
def laid1 : List (String × DataW Unit) := [("math/bits.deBruijn64tab", Rows.laid_math_bits_deBruijn64tab)]
/-- The door's own heap meets the condition. -/
theorem door_met1 (os : Os) (args : Array Value) : laidMetH Tryd.prog laid1 ((World.doorLaid Tryd.prog 4000 os).forCall (fun _ _ => 0) ⟨#[], args, []⟩).memory :=
  laidMetH_of_parts3 (fuel := 8) (laidMet_of_run' 8 (by kernel_rfl) (by kernel_rfl)) (by kernel_rfl) (by kernel_rfl)
theorem of_laid1 {W : World} (h : laidMetH Tryd.prog laid1 W) : BruAt W := by
  rw [MakeChecks.laidMetH_plain _ _ _ (by kernel_rfl)] at h
  have e : (Rows.laid_math_bits_deBruijn64tab : DataW Unit) = Lib.tabData .u8 bruTab := by kernel_rfl
  have h2 : laidMet Tryd.prog [("math/bits.deBruijn64tab", Rows.laid_math_bits_deBruijn64tab)] W := h
  rw [e] at h2
  exact Lib.tabIs_of_head gBru tBru uArrB uU8 (by kernel_rfl) (by kernel_rfl) h2
end Go.Proofs.YtdoheipnfdbioaaDoor
namespace Go.Proofs.YtdoheipnfdbioaaDoor.fnExactCostOf
open Go.ChangeShapes Go.WideShapes Go.ChangeAt Go.RowKit
open Go.ChangeMaps (open_string)

set_option maxRecDepth 100000 in
theorem lifted (os : Os) (started : os.Started) (H : Type) (enc : TypeId × Value → H) :
    ReturnsInHanded {} Tryd.checked os 4 .any (fun w args => (Rows.fnExactCostOfSpec.pre enc Tryd.prog Tryd.f4 [] false w args ∧ laidMetH Tryd.prog laid1 w) ∧ sizedMet enc Tryd.prog Tryd.f4 (OpenSpec.ofChange Rows.fnExactCostOfSpec) false w args)
      (Rows.fnExactCostOfSpec.post enc Tryd.prog Tryd.f4 false true false false) := by
  refine returnsInHanded_of_change_and (C := Tryd.checked) (X := fun w _ => laidMetH Tryd.prog laid1 w) (fun _ _ _ hh h => h.of_heap hh) own started (by kernel_rfl) Tryd.func4
    (ChangeSpec.witness_shaped (enc := enc) (C := Tryd.checked) (os := os) (X := fun w _ => laidMetH Tryd.prog laid1 w) false (World.doorLaid Tryd.prog 4000 os) #[.agg #[.int .i64 0, .slice none 0 0, .slice none 0 0, .slice none 0 0], .slice none 0 0] 8 rfl (World.shaped_of_RefB (by kernel_rfl) (by kernel_rfl)) (by kernel_rfl) (by kernel_rfl) (by kernel_rfl) (door_met1 os _)) ?_
  intro W base args ds gs before hval0 hW _ _ hL _
  have hval : ∀ (j : Nat) t v, Tryd.f4.params[j]? = some t → args[j]? = some v → Value.okWide Tryd.prog W .any base t v := hval0
  have hW' := hW
  obtain ⟨p, q, hA0, hV, rfl, hfz, hnd⟩ := hW
  have hA : DataW.TrodAll enc Tryd.prog W 0 (fun _ => true) true Tryd.f4.params.toList args.toList ds p := hA0
  rw [Tryd.params4] at hA hval
  obtain ⟨v0, vs0, d0, ds0, p0, q0, hargs, rfl, rfl, h0, r0⟩ := trodAll_cons hA
  obtain ⟨v1, vs1, d1, ds1, p1, q1, rfl, rfl, rfl, h1, r1⟩ := trodAll_cons r0
  obtain ⟨rfl, rfl, rfl⟩ := trodAll_nil r1
  obtain rfl : args = #[v0, v1] := by cases args; simp_all
  obtain ⟨rfl, rfl⟩ := trodVars_none hV
  have k0 := h0
  have lt0 : ∀ x ∈ p0, x.block < W.heap.size := by obtain ⟨m, hm⟩ := k0; exact DataW.trod_lt m _ _ _ hm
  have k1 := h1
  have lt1 : ∀ x ∈ p1, x.block < W.heap.size := by obtain ⟨m, hm⟩ := k1; exact DataW.trod_lt m _ _ _ hm
  obtain ⟨n_0, AC_0, C_0, cC_0, AJ_0, J_0, cJ_0, AF_0, F_0, cF_0, rfl, w0⟩ := open_wiring (hval 0 25 v0 rfl rfl) h0
  obtain ⟨A1, l1, c1, rfl, w1⟩ := open_nums (hval 1 23 v1 rfl rfl) h1
  clear hA0 hval0
  refine (walk n_0 AC_0 C_0 cC_0 AJ_0 J_0 cJ_0 AF_0 F_0 cF_0 A1 l1 c1 W w0 w1 (of_laid1 hL)).mono fun e W' ⟨he, bel⟩ => ?_
  subst he
  exact ⟨_, rfl, _, _, _, [], _, [], hW', trodAll_mk1 (shut_bool Tryd.underlying4 _), (trodAll_cons_mk (Below.trod laidOut (by kernel_rfl) (of_decide_eq_true (by kernel_rfl)) k0 bel lt0) (trodAll_cons_mk (Below.trod laidOut (by kernel_rfl) (of_decide_eq_true (by kernel_rfl)) k1 bel lt1) trodAll_mk0)), rfl, bel.frame _, fun h => by cases h⟩

theorem row_holds : Rows.FnExactCostOfSaid :=
  OpenClaim.holds_of_wide 4 Tryd.f4 rfl rfl rfl rfl rfl rfl rfl ⟨rfl, rfl, rfl, rfl, rfl⟩ rfl rfl rfl rfl rfl (by kernel_rfl) Tryd.func4 (by kernel_rfl)
    (of_decide_eq_true (by kernel_rfl)) (by unfold Func.isWrapper; first | (rw [if_pos (by decide +kernel)]; kernel_rfl) | (rw [if_neg (by decide +kernel)]; exact ⟨rfl, rfl⟩))
    (fun os started H enc _ => lifted os started H enc)

/-- The tied card. -/
theorem proved : Rows.FnExactCostOfCardSaid :=
  Claim7.holds_tied_plain_at .later [] [.data] true Rows.fnExactCostOfCard.stood.harness Rows.fnExactCostOfCard.stood.looks
    row_holds (fun _ h => by cases h) (by kernel_rfl) (fun _ h => by cases h) fnExactCostOf_row_tie rfl ⟨rfl, rfl⟩ (by kernel_rfl) rfl
    (fun f fn hf hfn => by
      obtain rfl : f = 4 := Option.some.inj ((show Tryd.prog.funcNamed "loop.example/g01149/laws.FnExactCostOf" = some 4 by kernel_rfl).symm.trans hf) |>.symm
      obtain rfl : fn = Tryd.f4 := (Option.some.inj (Tryd.func4.symm.trans hfn)).symm
      exact ⟨by kernel_rfl, fun j t ht => by
        rw [Tryd.params4] at ht
        have hm : t ∈ [25, 23] := by simpa using Array.mem_of_getElem? ht
        have hall : ([25, 23].all fun u => !Tryd.prog.wantsStandIn u) = true := by kernel_rfl
        exact (show Tryd.prog.wantsStandIn t = false by simpa using List.all_eq_true.1 hall t hm)⟩)
    (by kernel_rfl)
#print axioms proved
end Go.Proofs.YtdoheipnfdbioaaDoor.fnExactCostOf
