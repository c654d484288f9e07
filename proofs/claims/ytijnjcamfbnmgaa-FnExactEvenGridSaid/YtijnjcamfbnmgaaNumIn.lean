/-
  'for e, number := range g.numbers': all edges of a grid, each with the place of its number.
-/
import Derived.Test.YtijnjcamfbnmgaaRangeB
import Derived.Test.YtijnjcamfbnmgaaPan
import Derived.Stop.RegionWithIn
namespace Go.Proofs.Ytijnjcamfbnmgaa
set_option linter.unusedSimpArgs false
set_option linter.unusedVariables false
open Go.ChangeShapes Go.WideShapes Go.ChangeAt Go.RowKit Go.Shelf

/-- Where a letter of an edge leads. -/
def edX (c x : Int) : Int := if c = 114 then x + 1 else x
def edY (c y : Int) : Int := if c = 114 then y else y + 1
theorem stepE_any (x y c : Int) (w : World) (hx : 0 ≤ x ∧ x ≤ 100) (hy : 0 ≤ y ∧ y ≤ 100) (hc : c = 114 ∨ c = 117) :
    Calls Try.prog 132 #[.agg #[.int .i64 x, .int .i64 y], .int .u8 c] w fun e w' => e = .returned (.agg #[.int .i64 (edX c x), .int .i64 (edY c y)]) ∧ Below w.heap.size w w' := by
  obtain ⟨hx0, hx1⟩ := hx
  obtain ⟨hy0, hy1⟩ := hy
  rcases hc with rfl | rfl
  · go_enter Try.func132, Try.ntmps132
    go_wp2
    refine bodyPost_ret_by (v := .agg #[.int .i64 (x + 1), .int .i64 y]) ?_ rfl ⟨rfl, by (repeat (first | assumption | exact Below.refl _ _ | (refine bl_alloc ?_ _) | (refine Below.drew ?_) | (refine bl_drewN ?_ _) | (refine bl_set ?_ (by first | (simp; done) | omega | (simp; omega)) _) | (refine bl_trans ?_ (by assumption)) | (refine bl_step ?_ (by assumption) (by first | omega | exact Below.size (by assumption) | (simp; omega) | (simp; exact Below.size (by assumption))))))⟩
    simp [results, Try.results132, go_sem]
  · go_enter Try.func132, Try.ntmps132
    go_wp2
    refine bodyPost_ret_by (v := .agg #[.int .i64 x, .int .i64 (y + 1)]) ?_ rfl ⟨rfl, by (repeat (first | assumption | exact Below.refl _ _ | (refine bl_alloc ?_ _) | (refine Below.drew ?_) | (refine bl_drewN ?_ _) | (refine bl_set ?_ (by first | (simp; done) | omega | (simp; omega)) _) | (refine bl_trans ?_ (by assumption)) | (refine bl_step ?_ (by assumption) (by first | omega | exact Below.size (by assumption) | (simp; omega) | (simp; exact Below.size (by assumption))))))⟩
    simp [results, Try.results132, go_sem]
/-- Rows of m numbers each. -/
structure RowsAt (A : Option Addr) (cnt m : Nat) (P : Nat → Option Addr) (cp : Nat → Nat) (W : World) : Prop where
  out : 0 < cnt → ∃ b off, A = some ⟨b, off, none⟩ ∧ ∀ y, y < cnt → W.cell? ⟨b, off + y, none⟩ = some (.slice (P y) m (cp y))
  row : ∀ y, y < cnt → 0 < m → ∃ r o, P y = some ⟨r, o, none⟩
/-- What is handed on at row y, column x. -/
def edgeV (c : Int) (P : Nat → Option Addr) (y x : Nat) : Array Value :=
  #[.agg #[.int .i64 x, .int .i64 y, .int .i64 (edX c x), .int .i64 (edY c y)], match P y with | some a => .pointer (some ⟨a.block, a.off + x, none⟩) | none => undef]
theorem edgeV_at {c : Int} {P : Nat → Option Addr} {y x r o : Nat} (h : P y = some ⟨r, o, none⟩) : edgeV c P y x = #[.agg #[.int .i64 x, .int .i64 y, .int .i64 (edX c x), .int .i64 (edY c y)], .pointer (some ⟨r, o + x, none⟩)] := by
  unfold edgeV; rw [h]
attribute [local go_sem] Oper.semAt_some
set_option maxRecDepth 100000 in
set_option maxHeartbeats 3200000 in
theorem numbersIn_in (n l K0 cnt m c0 : Nat) (A : Option Addr) (P : Nat → Option Addr) (cp : Nat → Nat) (c : Int) (J : Nat → World → Prop) (W : World) (hc : c = 114 ∨ c = 117) (hcnt : cnt ≤ 8) (hm : m ≤ 8)
    (hK : ∀ k W1, J k W1 → RowsAt A cnt m P cp W1) (hB : ∀ k W1 W2, J k W1 → Below W1.heap.size W1 W2 → J k W2)
    (hY : ∀ y x W1, y < cnt → x < m → J (K0 + y * m + x) W1 → YieldAt Fence.wide (n - 1) Try.prog l (edgeV c P y x) W1 fun e W' => e = .returned (.bool true) ∧ J (K0 + y * m + x + 1) W')
    (h0 : J K0 W) :
    CallsIn Fence.wide n Try.prog 116 #[.slice A cnt c0, .int .u8 c, .func (.yield l) #[] #[]] W fun e W' => e = .returned (.bool true) ∧ J (K0 + cnt * m) W' := by
  have hcI : (cnt : Int) ≤ 8 := by omega
  have hmI : (m : Int) ≤ 8 := by omega
  have HK := Lib.hid hK
  have HB := Lib.hid hB
  have HY := Lib.hid hY
  clear hK hB hY
  refine callsIn_of_wp Try.func116 rfl trivial ?_ rfl
  simp only [Try.ntmps116, List.size_toArray, List.length_cons, List.length_nil, Nat.reduceAdd, Nat.reduceSub, Array.replicate_succ, Array.replicate_zero, List.push_toArray, List.append_toArray, List.nil_append, List.cons_append]
  gi_wp2
  gi_loopw [7, 8, 9, 10, 13] (fun _ _ _ _ i wr => ∃ y : Nat, y ≤ cnt ∧ i = .int .i64 y ∧ Hid (J (K0 + y * m) wr)) (fun _ _ _ _ i _ => cnt - (intOf i).toNat)
  case atStart => exact ⟨0, Nat.zero_le _, rfl, by show J _ _; rw [Nat.zero_mul]; exact h0⟩
  case round =>
    obtain ⟨y, hy, rfl, HJ⟩ := hrel
    by_cases hlt : y < cnt
    · have hyI : (y : Int) < (cnt : Int) := by omega
      have hy0 : (0 : Int) ≤ (y : Int) := by omega
      obtain ⟨b, off, rfl, hcell⟩ := (HK.out _ _ HJ.out).out (by omega)
      have d := hcell y hlt
      clear hcell
      obtain ⟨s, hs⟩ : ∃ s, K0 + y * m = s := ⟨_, rfl⟩
      have HS : Hid (K0 + (y + 1) * m = s + m) := by show _ = _; rw [Nat.succ_mul]; omega
      have HYY : Hid (∀ x W1, x < m → J (s + x) W1 → YieldAt Fence.wide (n - 1) Try.prog l (edgeV c P y x) W1 fun e W' => e = .returned (.bool true) ∧ J (s + x + 1) W') := fun x W1 hx hj => by rw [← hs] at hj ⊢; exact HY.out y x W1 hlt hx hj
      have HJ2 : Hid (J s wr) := by rw [← hs]; exact HJ.out
      clear hs HJ
      gi_wp2
      gi_loopw [9, 10, 20] (fun _ _ i wq => ∃ x : Nat, x ≤ m ∧ i = .int .i64 x ∧ Hid (J (s + x) wq)) (fun _ _ i _ => m - (intOf i).toNat)
      case atStart => exact ⟨0, Nat.zero_le _, rfl, HJ2.out⟩
      case round =>
        obtain ⟨x, hx, rfl, HX⟩ := hrel
        by_cases hlx : x < m
        · have hxI : (x : Int) < (m : Int) := by omega
          have hx0 : (0 : Int) ≤ (x : Int) := by omega
          have hRA := HK.out _ _ HX.out
          obtain ⟨r, o, hr⟩ := hRA.row y hlt (by omega)
          have hE := edgeV_at (c := c) (x := x) hr
          have HST : Hid (∀ wz, Calls Try.prog 132 #[.agg #[.int .i64 (x : Int), .int .i64 (y : Int)], .int .u8 c] wz fun e w' => e = .returned (.agg #[.int .i64 (edX c x), .int .i64 (edY c y)]) ∧ Below wz.heap.size wz w') := fun wz => stepE_any _ _ c wz (by omega) (by omega) hc
          have HYX : Hid (∀ wz, Below (wr.heap.size) wr wz → YieldAt Fence.wide (n - 1) Try.prog l #[.agg #[.int .i64 x, .int .i64 y, .int .i64 (edX c x), .int .i64 (edY c y)], .pointer (some ⟨r, o + x, none⟩)] wz fun e W' => e = .returned (.bool true) ∧ J (s + x + 1) W') := fun wz hb => by
            have := HYY.out x wz hlx (HB.out _ _ _ HX.out hb)
            rw [hE] at this
            exact this
          rw [hr]
          clear hRA hr hE HX d
          gi_wp2
          have kp := Blk.new wr #[.int .i64 (x : Int), .int .i64 (y : Int)] 66
          have hbA : Below wr.heap.size wr (wr.alloc (.cells #[.int .i64 (x : Int), .int .i64 (y : Int)] 66)) := (Below.refl _ _).alloc (Nat.le_refl _) _
          have p0 := kp.cell 0 (v := .int .i64 (x : Int)) rfl
          have p1 := kp.cell 1 (v := .int .i64 (y : Int)) rfl
          have lp := kp.lt
          generalize (wr.alloc (.cells #[.int .i64 (x : Int), .int .i64 (y : Int)] 66)) = wA at *
          generalize wr.heap.size = X at *
          gi_region_with (first
            | (first | refine ⟨trivial, fun h => (by cases h), ?_⟩ | refine ⟨trivial, ?_⟩); gi_at_call 132; refine (callsIn_wide.2 (HST.out _)).mono ?_; rintro e w2 ⟨rfl, hb2⟩; obtain ⟨fn, tmps, assign, body, hyy, hR⟩ := HYX.out w2 (hbA.drew.trans (hb2.mono (Nat.le_of_lt lp))); have p0' := (hb2.cell (p := ⟨X, 0, none⟩) lp).trans p0; have p1' := (hb2.cell (p := ⟨X, 1, none⟩) lp).trans p1
            | (refine ⟨fun h => (by cases h), hR.mono ?_⟩; rintro e W' ⟨rfl, hJ'⟩)
            | (refine hR.mono ?_; rintro e W' ⟨rfl, hJ'⟩))
          all_goals
            gi_wp2
            exact ⟨⟨x + 1, by omega, by first | rfl | go_num, hJ'⟩, by simp [intOf]; omega⟩
        · obtain rfl : x = m := by omega
          gi_wp2
          exact ⟨⟨y + 1, by omega, by first | rfl | go_num, by show J _ _; rw [HS.out]; exact HX.out⟩, by simp [intOf]; omega⟩
    · obtain rfl : y = cnt := by omega
      gi_wp2
      go_ret
      exact ⟨rfl, HJ.out⟩
end Go.Proofs.Ytijnjcamfbnmgaa
