/-
  Contracts: the wires of a clock tree, the least and the greatest of some numbers, and lists from the last one on, as the program has them.
-/
import Derived.Test.YtijnjcamfbnmgaaSkewP
import Derived.Test.YtijnjcamfbnmgaaRangeV
import Derived.Test.YtijnjcamfbnmgaaAmt
namespace Go.Proofs.Ytijnjcamfbnmgaa
set_option linter.unusedSimpArgs false
set_option linter.unusedVariables false
open Go.ChangeShapes Go.WideShapes Go.ChangeAt Go.RowKit Go.Shelf

theorem isAmount_b {n : Int} {b : Bool} (h : Hid (inB n 0 1000000000 = b)) (w : World) :
    Calls Try.prog 105 #[.int .i64 n] w fun e w' => e = .returned (.bool b) ∧ w = w' :=
  (isAmount_any n w).mono fun _ _ ⟨he, hw⟩ => ⟨by rw [he, h.out], hw⟩
set_option maxHeartbeats 1600000 in
theorem areWires_any (L : Nat) (AW : Option Addr) (W : List Int) (cW : Nat) (w : World) (h11 : L ≤ 11) (hW : IntsAt w w.heap.size AW W) (lW : W.length ≤ 1048576) :
    Calls Try.prog 70 #[.int .i64 ((L : Int) + 1), .slice AW W.length cW] w fun e w' => e = .returned (.bool (decide ((W.length : Int) = 2 * ((L : Int) + 1) - 1) && okTo (wireB W) W.length)) ∧ w = w' := by
  have lWI : (W.length : Int) ≤ 1048576 := by omega
  have h11I : (L : Int) ≤ 11 := by omega
  by_cases hwl : (W.length : Int) = 2 * ((L : Int) + 1) - 1
  case neg =>
    have hne : ((W.length : Int) != 2 * ((L : Int) + 1) - 1) = true := by simp; omega
    rw [decide_eq_false hwl]
    clear hwl hW
    go_enter Try.func70, Try.ntmps70
    go_wp2
    go_ret
    exact ⟨rfl, rfl⟩
  have hne : ((W.length : Int) != 2 * ((L : Int) + 1) - 1) = false := by simp; omega
  rw [decide_eq_true hwl, Bool.true_and]
  obtain ⟨n, hn⟩ : ∃ n, W.length = n := ⟨_, rfl⟩
  rw [hn] at hne lWI ⊢
  have HW : Hid (0 < n → ∃ b off, AW = some ⟨b, off, none⟩ ∧ b < w.heap.size ∧ ∀ i, i < n → w.cell? ⟨b, off + i, none⟩ = some (.int .i64 (W.getD i 0))) := by
    intro h
    rw [← hn] at h ⊢
    exact hW h
  clear hwl hW lW hn
  go_enter Try.func70, Try.ntmps70
  go_wp2
  go_loop [6, 15] (fun _ i => ∃ k : Nat, k ≤ n ∧ i = .int .i64 k ∧ Hid (okTo (wireB W) k = true)) (fun _ i => n - (intOf i).toNat)
  case atStart => exact ⟨0, Nat.zero_le _, rfl, rfl⟩
  case round =>
    obtain ⟨k, hk, rfl, HX⟩ := hrel
    have hk0 : (0 : Int) ≤ (k : Int) := by omega
    by_cases hlt : k < n
    · obtain ⟨b, off, rfl, hbB, hc⟩ := HW.out (by omega)
      have d0 := hc k hlt
      have hltI : (k : Int) < (n : Int) := by omega
      cases hin : wireB W k
      · have HF : Hid (okTo (wireB W) n = false) := okTo_bad hlt hin
        have HI : Hid (inB (W.getD k 0) 0 1000000000 = false) := hin
        clear hc hin
        generalize W.getD k 0 = v at *
        go_wp2_with (go_at_call 105; refine (isAmount_b HI _).mono ?_; rintro e w' ⟨rfl, rfl⟩)
        go_ret
        exact ⟨retB HF.out.symm, rfl⟩
      · have HX2 : Hid (okTo (wireB W) (k + 1) = true) := okTo_next HX.out hin
        have HI : Hid (inB (W.getD k 0) 0 1000000000 = true) := hin
        clear hc hin
        generalize W.getD k 0 = v at *
        go_wp2_with (go_at_call 105; refine (isAmount_b HI _).mono ?_; rintro e w' ⟨rfl, rfl⟩)
        go_round
        case rel => exact ⟨k + 1, by omega, by go_num, HX2⟩
        case measure => simp [intOf]; omega
    · obtain rfl : k = n := by omega
      go_wp2
      go_ret
      exact ⟨retB HX.out.symm, rfl⟩
theorem mxTo_step (s : Nat → Int) (k : Nat) : mxTo s (k + 1) = max (mxTo s k) (s k) := rfl
theorem mnTo_step (s : Nat → Int) (k : Nat) : mnTo s (k + 1) = min (mnTo s k) (s k) := rfl
set_option maxHeartbeats 1600000 in
theorem maxI_any (g n k c : Nat) (f : Nat → Int) (w : World) (hZ : ZBlk w g n f) (h1 : 1 ≤ k) (hk : k ≤ n) (hn : n ≤ 1048576) :
    Calls Try.prog 107 #[.slice (some ⟨g, 0, none⟩) k c] w fun e w' => e = .returned (.int .i64 (mxTo f k)) ∧ w = w' := by
  have z0 := hZ.at_ (show 0 < n by omega)
  have hkI : (1 : Int) ≤ (k : Int) := by omega
  have hk0I : (0 : Int) < (k : Int) := by omega
  have hkm : (k : Int) ≤ 1048576 := by omega
  have hmax : ∀ x y : Int, (if x < y then y else x) = max x y := fun x y => by omega
  go_enter Try.func107, Try.ntmps107
  go_wp2
  go_loop [3, 4] (fun a i => ∃ j : Nat, 1 ≤ j ∧ j ≤ k ∧ i = .int .i64 j ∧ a = .int .i64 (mxTo f j)) (fun _ i => k - (intOf i).toNat)
  case atStart => exact ⟨1, Nat.le_refl _, by omega, rfl, by rw [mx_one]⟩
  case round =>
    obtain ⟨j, h1j, hj, rfl, rfl⟩ := hrel
    have hj0 : (0 : Int) ≤ (j : Int) := by omega
    by_cases hlt : j < k
    · have z := hZ.at_ (show j < n by omega)
      have hjI : (j : Int) < (k : Int) := by omega
      have MX : Hid (mxTo f (j + 1) = max (mxTo f j) (f j)) := rfl
      generalize mxTo f j = m at *
      generalize f j = y at *
      go_wp2
      go_round
      case rel => exact ⟨j + 1, by omega, by omega, by go_num, by rw [MX.out, ← hmax]⟩
      case measure => simp [intOf]; omega
    · obtain rfl : j = k := by omega
      go_wp2
      go_ret
      exact ⟨rfl, rfl⟩
set_option maxHeartbeats 1600000 in
theorem minI_any (g n k c : Nat) (f : Nat → Int) (w : World) (hZ : ZBlk w g n f) (h1 : 1 ≤ k) (hk : k ≤ n) (hn : n ≤ 1048576) :
    Calls Try.prog 108 #[.slice (some ⟨g, 0, none⟩) k c] w fun e w' => e = .returned (.int .i64 (mnTo f k)) ∧ w = w' := by
  have z0 := hZ.at_ (show 0 < n by omega)
  have hkI : (1 : Int) ≤ (k : Int) := by omega
  have hk0I : (0 : Int) < (k : Int) := by omega
  have hkm : (k : Int) ≤ 1048576 := by omega
  have hmin : ∀ x y : Int, (if y < x then y else x) = min x y := fun x y => by omega
  go_enter Try.func108, Try.ntmps108
  go_wp2
  go_loop [3, 4] (fun a i => ∃ j : Nat, 1 ≤ j ∧ j ≤ k ∧ i = .int .i64 j ∧ a = .int .i64 (mnTo f j)) (fun _ i => k - (intOf i).toNat)
  case atStart => exact ⟨1, Nat.le_refl _, by omega, rfl, by rw [mn_one]⟩
  case round =>
    obtain ⟨j, h1j, hj, rfl, rfl⟩ := hrel
    have hj0 : (0 : Int) ≤ (j : Int) := by omega
    by_cases hlt : j < k
    · have z := hZ.at_ (show j < n by omega)
      have hjI : (j : Int) < (k : Int) := by omega
      have MX : Hid (mnTo f (j + 1) = min (mnTo f j) (f j)) := rfl
      generalize mnTo f j = m at *
      generalize f j = y at *
      go_wp2
      go_round
      case rel => exact ⟨j + 1, by omega, by omega, by go_num, by rw [MX.out, ← hmin]⟩
      case measure => simp [intOf]; omega
    · obtain rfl : j = k := by omega
      go_wp2
      go_ret
      exact ⟨rfl, rfl⟩
theorem backward_any (A : Option Addr) (n c : Nat) (w : World) :
    Calls Try.prog 106 #[.slice A n c] w fun e w' => e = .returned (.func (.func 129) #[] #[.pointer (some ⟨w.heap.size, 0, none⟩)]) ∧ w' = w.alloc (.cells #[.slice A n c] 23) := by
  have hmf : ∀ (fn : Fn) (first cap : Array Value) (w : World), (Instr.makeFunc fn first cap).run Try.prog w = .ok (.func fn first cap) w := fun _ _ _ _ => rfl
  go_enter Try.func106, Try.ntmps106
  go_wp2
  go_ret
  exact ⟨rfl, rfl⟩
/-- What is read from the last one on. -/
def BackAt (Z b off L c : Nat) (vs : Nat → Value) (W : World) : Prop :=
  W.cell? ⟨Z, 0, none⟩ = some (.slice (some ⟨b, off, none⟩) L c) ∧ ∀ k, k < L → W.cell? ⟨b, off + k, none⟩ = some (vs k)
attribute [local go_sem] Oper.semAt_some
set_option maxRecDepth 100000 in
set_option maxHeartbeats 1000000 in
theorem backward_gives (n Z b off L c : Nat) (vs : Nat → Value) (hL : L ≤ 1048576) :
    GivesV n 129 #[] #[.pointer (some ⟨Z, 0, none⟩)] L (fun d => #[.int .i64 ((L : Int) - 1 - d), vs (L - 1 - d)]) (BackAt Z b off L c vs) := fun l J W hK hY h0 => by
  show CallsIn _ _ _ _ #[.func (.yield l) #[] #[], .pointer (some ⟨Z, 0, none⟩)] W _
  have hLI : (L : Int) ≤ 1048576 := by omega
  refine callsIn_of_wp Try.func129 rfl trivial ?_ rfl
  simp only [Try.ntmps129, List.size_toArray, List.length_cons, List.length_nil, Nat.reduceAdd, Nat.reduceSub, Array.replicate_succ, Array.replicate_zero, List.push_toArray, List.append_toArray, List.nil_append, List.cons_append]
  have hz0 := (hK 0 W h0).1
  gi_wp2
  gi_loopw [3] (fun r wr => ∃ d : Nat, d ≤ L ∧ r = .int .i64 ((L : Int) - 1 - d) ∧ J d wr) (fun r _ => (intOf r + 1).toNat)
  case atStart => exact ⟨0, Nat.zero_le _, by go_num, h0⟩
  case round =>
    obtain ⟨d, hd, rfl, hJ⟩ := hrel
    by_cases hlt : d < L
    · obtain ⟨q, hq⟩ : ∃ q, L - 1 - d = q := ⟨_, rfl⟩
      have hqI : (L : Int) - 1 - (d : Int) = (q : Int) := by omega
      have hY2 := hY d wr hlt hJ
      obtain ⟨k1, k2⟩ := hK d wr hJ
      have e := k2 q (by omega)
      rw [hq, hqI] at hY2
      obtain ⟨fn, tmps, assign, body, hy, hR⟩ := hY2
      rw [hqI]
      have hq0 : (0 : Int) ≤ (q : Int) := by omega
      have hqL : (q : Int) < (L : Int) := by omega
      have hqm : IntKind.i64.wrap ((q : Int) - 1) = (q : Int) - 1 := IntWalk.i64_in _ (by omega)
      have hm : (q : Int) - 1 = (L : Int) - 1 - ((d + 1 : Nat) : Int) := by omega
      clear hY k2 hq hz0
      gi_wp2
      refine ⟨fun h => (by cases h), hR.mono ?_⟩
      rintro e W' ⟨rfl, hJ'⟩
      gi_wp2
      exact ⟨⟨d + 1, by omega, by simp <;> omega, hJ'⟩, by simp [intOf]; omega⟩
    · obtain rfl : d = L := by omega
      have hm1 : (d : Int) - 1 - (d : Int) = -1 := by omega
      rw [hm1]
      clear hY hz0
      gi_wp2
      go_end0
      exact ⟨⟨_, rfl⟩, hJ⟩
end Go.Proofs.Ytijnjcamfbnmgaa
