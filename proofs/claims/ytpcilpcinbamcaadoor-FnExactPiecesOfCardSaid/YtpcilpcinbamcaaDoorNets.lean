/-
  Contract: the nets of a channel.
-/
import Derived.Test.YtpcilpcinbamcaaDoorMem
import Derived.Test.YtpcilpcinbamcaaDoorSpan
import Derived.Test.YtpcilpcinbamcaaDoorOnes
import Derived.Test.YtpcilpcinbamcaaDoorNumbers
namespace Go.Proofs.YtpcilpcinbamcaaDoor
set_option linter.unusedSimpArgs false
set_option linter.unusedVariables false
open Go.ChangeShapes Go.WideShapes Go.ChangeAt Go.RowKit

/-- Does the net need a track? -/
def isNetB (T B : List Int) (n k : Nat) : Bool := decide (1 ≤ k) && decide (1 < cntTo (hasP T B (k : Int)) n)
theorem isNetB_span {T B : List Int} {n k : Nat} (h1 : 1 ≤ k) : isNetB T B n k = (decide (0 ≤ loTo (hasP T B (k : Int)) n) && decide (loTo (hasP T B (k : Int)) n < hiTo (hasP T B (k : Int)) n)) := by
  unfold isNetB
  rw [decide_eq_true h1, Bool.true_and]
  rcases cnt_span (hasP T B (k : Int)) n with ⟨a, b, c⟩ | ⟨a, b, c⟩ | ⟨a, b, c⟩
  · rw [decide_eq_false (by omega), decide_eq_false (by omega)]; rfl
  · rw [decide_eq_false (by omega), decide_eq_true b, decide_eq_false (by omega)]; rfl
  · rw [decide_eq_true (by omega), decide_eq_true b, decide_eq_true c]; rfl
/-- The nets of a channel. -/
def netsM (T B : List Int) (n : Nat) : Nat := maskTo (isNetB T B n) 13
def netsL (T B : List Int) (n : Nat) : List Nat := memL (isNetB T B n) 0 13
theorem memL_snoc_t {p : Nat → Bool} {k : Nat} (h : p k = true) : memL p 0 (k + 1) = memL p 0 k ++ [k] := by
  rw [memL_zero, memL_zero, List.range_succ, List.filter_append]
  simp [h]
theorem memL_snoc_f {p : Nat → Bool} {k : Nat} (h : p k = false) : memL p 0 (k + 1) = memL p 0 k := by
  rw [memL_zero, memL_zero, List.range_succ, List.filter_append]
  simp [h]
theorem memL_one {p : Nat → Bool} (h : p 0 = false) : memL p 0 1 = [] := by
  rw [memL_snoc_f h]; rfl
theorem isNetB_zero (T B : List Int) (n : Nat) : isNetB T B n 0 = false := by
  unfold isNetB; simp

set_option maxRecDepth 100000 in
set_option maxHeartbeats 800000 in
theorem nets_any (g : Nat) (T B : List Int) (n : Nat) (w : World) (hG : ColBlk w g T B n n) (hn : n ≤ 24) :
    Calls Tryd.prog 25 #[.slice (some ⟨g, 0, none⟩) n n] w fun e w' => e = .returned (.int .u64 (netsM T B n)) ∧ Below w.heap.size w w' := by
  go_enter Tryd.func25, Tryd.ntmps25
  go_wp2
  go_loopw [3, 4] (fun m i wr => ∃ k : Nat, 1 ≤ k ∧ k ≤ 13 ∧ i = .int .i64 k ∧ m = .int .u64 (maskTo (isNetB T B n) k) ∧ Below w.heap.size w wr) (fun _ i _ => 13 - (intOf i).toNat)
  case atStart => exact ⟨1, Nat.le_refl _, by omega, rfl, by rw [maskTo_f (isNetB_zero T B n)]; rfl, Below.refl _ _⟩
  case round =>
    obtain ⟨k, hk1, hk13, rfl, rfl, hb⟩ := hrel
    by_cases hlt : k < 13
    · have hltI : (k : Int) ≤ 12 := by omega
      have hk0 : (1 : Int) ≤ k := by omega
      have hp := fun w1 (h : Below w.heap.size w w1) => pinsOf_any g T B n (k : Int) w1 (hG.to h) hn
      have hlt24 : maskTo (hasP T B (k : Int)) n < 16777216 := Nat.lt_of_lt_of_le (maskTo_lt _ _) (Nat.pow_le_pow_right (n := 2) (i := n) (j := 24) (by omega) hn)
      have hs := fun w1 => size_any (maskTo (hasP T B (k : Int)) n) hlt24 w1
      have hpm := pop_mask (hasP T B (k : Int)) n (by omega)
      rw [hpm] at hs
      have HN : Hid (isNetB T B n k = decide (1 < cntTo (hasP T B (k : Int)) n)) := by show _ = _; unfold isNetB; rw [decide_eq_true hk1]; rfl
      have HOB := Lib.hid (or_bit (isNetB T B n) k (by omega))
      have hcle := cntTo_le (hasP T B (k : Int)) n
      generalize maskTo (hasP T B (k : Int)) n = M at *
      generalize cntTo (hasP T B (k : Int)) n = cn at *
      clear hpm
      by_cases hc : 1 < cn
      · have hpk : isNetB T B n k = true := by rw [HN.out]; exact decide_eq_true hc
        have HM := Lib.hid (maskTo_t hpk)
        have hcI : (1 : Int) < cn := by omega
        clear hpk
        go_wp2_with (first
          | (go_at_call 27; refine (hp _ hb).mono ?_; rintro e w1 ⟨rfl, hb1⟩)
          | (go_at_call 31; refine (hs _).mono ?_; rintro e w2 ⟨rfl, rfl⟩)
          | (go_at_call 32; refine (bitsetOf_any k (by omega) _).mono ?_; rintro e w3 ⟨rfl, rfl⟩))
        go_roundw
        case rel => exact ⟨k + 1, by omega, by omega, by go_num, by rw [HM.out, HOB.out], bl_step hb hb1 hb.size⟩
        case measure => simp [intOf]; omega
      · have hpk : isNetB T B n k = false := by rw [HN.out]; exact decide_eq_false hc
        have HM := Lib.hid (maskTo_f hpk)
        have hcI : ¬ (1 : Int) < cn := by omega
        clear hpk
        go_wp2_with (first
          | (go_at_call 27; refine (hp _ hb).mono ?_; rintro e w1 ⟨rfl, hb1⟩)
          | (go_at_call 31; refine (hs _).mono ?_; rintro e w2 ⟨rfl, rfl⟩))
        go_roundw
        case rel => exact ⟨k + 1, by omega, by omega, by go_num, by rw [HM.out], bl_step hb hb1 hb.size⟩
        case measure => simp [intOf]; omega
    · obtain rfl : k = 13 := by omega
      go_wp2
      go_ret
      exact ⟨rfl, hb⟩

/-- The nets as numbers. -/
def natI (l : List Nat) : List Int := l.map fun k : Nat => (k : Int)
theorem natI_snoc (l : List Nat) (k : Nat) : natI (l ++ [k]) = natI l ++ [(k : Int)] := by simp [natI]
theorem natI_len (l : List Nat) : (natI l).length = l.length := by simp [natI]
theorem natI_at {l : List Nat} {i k : Nat} (h : l[i]? = some k) : (natI l).getD i 0 = (k : Int) := by
  simp [natI, List.getD_eq_getElem?_getD, h]
set_option maxRecDepth 100000 in
set_option maxHeartbeats 800000 in
theorem l03Nets_any (b : Nat) (A A' : Option Addr) (T B : List Int) (n n' c c' : Nat) (w : World) (hb : ChAt w b A A' n n' c c') (hp : IntsAt w w.heap.size A T) (hq : IntsAt w w.heap.size A' B) (HT : Hid (T.length = n)) (HB : Hid (B.length = n')) (hn : n ≤ 24) (HN : Hid (n' = n)) :
    Calls Tryd.prog 23 #[.pointer (some ⟨b, 0, none⟩)] w fun e w' => (∃ v, e = .returned v ∧ OwnI w' w.heap.size v (natI (netsL T B n))) ∧ Below w.heap.size w w' := by
  have ho := OwnI.empty w w.heap.size (Nat.le_refl _)
  have hb0 : Below w.heap.size w (w.alloc (.cells #[] 2)) := by (repeat (first | assumption | exact Below.refl _ _ | (refine bl_alloc ?_ _) | (refine Below.drew ?_) | (refine bl_drewN ?_ _) | (refine bl_set ?_ (by first | (simp; done) | omega | (simp; omega)) _) | (refine bl_trans ?_ (by assumption)) | (refine bl_step ?_ (by assumption) (by first | omega | exact Below.size (by assumption) | (simp; omega) | (simp; exact Below.size (by assumption))))))
  go_enter Tryd.func23, Tryd.ntmps23
  go_wp2
  go_loopw [3, 4, 5, 6, 7] (fun v i _ _ _ wr => ∃ k : Nat, 1 ≤ k ∧ k ≤ 13 ∧ i = .int .i64 k ∧ OwnI wr w.heap.size v (natI (memL (isNetB T B n) 0 k)) ∧ Below w.heap.size w wr) (fun _ i _ _ _ _ => 13 - (intOf i).toNat)
  case atStart => exact ⟨1, Nat.le_refl _, by omega, rfl, by rw [memL_one (isNetB_zero T B n)]; exact ho, hb0⟩
  case round =>
    clear ho hb0
    obtain ⟨k, hk1, hk13, rfl, hown, hbb⟩ := hrel
    by_cases hlt : k < 13
    · have hltI : (k : Int) ≤ 12 := by omega
      have hk0 : (1 : Int) ≤ k := by omega
      have hsp := l03Span_any b A A' T B n n' c c' (k : Int) wr (hb.to hbb) (hp.to hbb) (hq.to hbb) HT HB hn HN.out
      have HNet := Lib.hid (isNetB_span (T := T) (B := B) (n := n) hk1)
      have hL : (natI (memL (isNetB T B n) 0 k)).length ≤ 1000000 := by
        have := memL_len (isNetB T B n) 0 k
        rw [natI_len]; omega
      generalize loTo (hasP T B (k : Int)) n = lo at *
      generalize hiTo (hasP T B (k : Int)) n = hi at *
      by_cases h0 : 0 ≤ lo
      · have hd : decide (0 ≤ lo) = true := decide_eq_true h0
        by_cases hlh : lo < hi
        · have hpk : isNetB T B n k = true := by rw [HNet.out, hd, decide_eq_true hlh]; rfl
          have HM := Lib.hid (memL_snoc_t hpk)
          clear hpk
          go_wp2_with (first
            | (go_at_call 29; refine hsp.mono ?_; rintro e w1 ⟨rfl, rfl⟩)
            | (at_builtin; refine append_int_at rfl (.tmp 26) (.tmp 28) rfl _ w.heap.size _ _ k rfl hown _ rfl rfl hL hbb.size ?_; intro v6 w6 hown6 hbel6 _ _ hz6; refine Hid.out ?_))
          have b6 := hbel6 _ hbb
          clear hown hbel6 hbb
          refine Lib.hid ?_
          go_wp2
          go_roundw
          case rel => exact ⟨k + 1, by omega, by omega, by go_num, by rw [HM.out, natI_snoc]; exact hown6, b6⟩
          case measure => simp [intOf]; omega
        · have hpk : isNetB T B n k = false := by rw [HNet.out, hd, decide_eq_false hlh]; rfl
          have HM := Lib.hid (memL_snoc_f hpk)
          have hld : decide (lo < hi) = false := decide_eq_false hlh
          clear hpk
          go_wp2_with (go_at_call 29; refine hsp.mono ?_; rintro e w1 ⟨rfl, rfl⟩)
          go_roundw
          case rel => exact ⟨k + 1, by omega, by omega, by go_num, by rw [HM.out]; exact hown, hbb⟩
          case measure => simp [intOf]; omega
      · have hd : decide (0 ≤ lo) = false := decide_eq_false h0
        have hpk : isNetB T B n k = false := by rw [HNet.out, hd]; rfl
        have HM := Lib.hid (memL_snoc_f hpk)
        clear hpk
        go_wp2_with (go_at_call 29; refine hsp.mono ?_; rintro e w1 ⟨rfl, rfl⟩)
        go_roundw
        case rel => exact ⟨k + 1, by omega, by omega, by go_num, by rw [HM.out]; exact hown, hbb⟩
        case measure => simp [intOf]; omega
    · obtain rfl : k = 13 := by omega
      go_wp2
      go_ret
      exact ⟨⟨_, rfl, hown⟩, hbb⟩
end Go.Proofs.YtpcilpcinbamcaaDoor
