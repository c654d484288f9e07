/-
  Contracts: a number in a set of bits; do spans meet; a column in a list of columns; must one piece be above another one?
-/
import Derived.Test.YtefcfpagbjflbaaDoorBoxes
namespace Go.Proofs.YtefcfpagbjflbaaDoor
set_option linter.unusedSimpArgs false
set_option linter.unusedVariables false
open Go.ChangeShapes Go.WideShapes Go.ChangeAt Go.RowKit

theorem mask_bit (p : Nat → Bool) (k n : Nat) : maskTo p k / 2 ^ n % 2 = if (decide (n < k) && p n) = true then 1 else 0 := by
  induction k with
  | zero => simp [maskTo]
  | succ k ih =>
    have hlt := maskTo_lt p k
    cases hp : p k
    · rw [maskTo_f hp, ih]
      by_cases e : n = k
      · subst e; simp [hp]
      · have : decide (n < k + 1) = decide (n < k) := by simp; omega
        rw [this]
    · rw [maskTo_t hp]
      rcases Nat.lt_trichotomy n k with h | h | h
      · have e : 2 ^ k = 2 ^ n * (2 * 2 ^ (k - n - 1)) := by
          rw [← Nat.pow_succ', ← Nat.pow_add]; congr 1; omega
        rw [e, Nat.add_mul_div_left _ _ (Nat.two_pow_pos n), Nat.add_mul_mod_self_left, ih]
        rw [decide_eq_true (show n < k by omega), decide_eq_true (show n < k + 1 by omega)]
      · subst h
        rw [show (maskTo p n + 2 ^ n) / 2 ^ n = 1 from Nat.div_eq_of_lt_le (by omega) (by omega)]
        simp [hp]
      · have : maskTo p k + 2 ^ k < 2 ^ n := Nat.lt_of_lt_of_le (show maskTo p k + 2 ^ k < 2 ^ (k + 1) by rw [Nat.pow_succ]; omega) (Nat.pow_le_pow_right (by omega) h)
        rw [Nat.div_eq_of_lt this, decide_eq_false (show ¬ n < k + 1 by omega)]
        simp
/-- Is the number in the set? -/
def inMask (p : Nat → Bool) (k : Nat) (n : Int) : Bool := decide (0 ≤ n) && (decide (n.toNat < k) && p n.toNat)

theorem retB' {b c : Bool} (h : b = c) : Ending.returned (.bool b) = Ending.returned (.bool c) := by rw [h]
theorem meets_any (l1 h1 l2 h2 : Int) (b : Bool) (HI : Hid ((decide (l1 ≤ h2) && decide (l2 ≤ h1)) = b)) (w : World) :
    Calls Tryd.prog 117 #[.agg #[.int .i64 l1, .int .i64 h1], .agg #[.int .i64 l2, .int .i64 h2]] w fun e w' => e = .returned (.bool b) ∧ Below w.heap.size w w' := by
  by_cases c1 : l1 ≤ h2
  · by_cases c2 : l2 ≤ h1
    · have hb : b = true := by rw [← HI.out, decide_eq_true c1, decide_eq_true c2]; rfl
      subst hb
      have hd : decide (l1 ≤ h2) = true := decide_eq_true c1
      have hd2 : decide (l2 ≤ h1) = true := decide_eq_true c2
      go_enter Tryd.func117, Tryd.ntmps117
      go_wp2
      go_ret
      exact ⟨rfl, by (repeat (first | assumption | exact Below.refl _ _ | (refine bl_alloc ?_ _) | (refine Below.drew ?_) | (refine bl_drewN ?_ _) | (refine bl_set ?_ (by first | (simp; done) | omega | (simp; omega)) _) | (refine bl_trans ?_ (by assumption)) | (refine bl_step ?_ (by assumption) (by first | omega | exact Below.size (by assumption) | (simp; omega) | (simp; exact Below.size (by assumption))))))⟩
    · have hb : b = false := by rw [← HI.out, decide_eq_true c1, decide_eq_false c2]; rfl
      subst hb
      have hd : decide (l1 ≤ h2) = true := decide_eq_true c1
      have hd2 : decide (l2 ≤ h1) = false := decide_eq_false c2
      go_enter Tryd.func117, Tryd.ntmps117
      go_wp2
      go_ret
      exact ⟨rfl, by (repeat (first | assumption | exact Below.refl _ _ | (refine bl_alloc ?_ _) | (refine Below.drew ?_) | (refine bl_drewN ?_ _) | (refine bl_set ?_ (by first | (simp; done) | omega | (simp; omega)) _) | (refine bl_trans ?_ (by assumption)) | (refine bl_step ?_ (by assumption) (by first | omega | exact Below.size (by assumption) | (simp; omega) | (simp; exact Below.size (by assumption))))))⟩
  · have hb : b = false := by rw [← HI.out, decide_eq_false c1]; rfl
    subst hb
    have hd : decide (l1 ≤ h2) = false := decide_eq_false c1
    go_enter Tryd.func117, Tryd.ntmps117
    go_wp2
    go_ret
    exact ⟨rfl, by (repeat (first | assumption | exact Below.refl _ _ | (refine bl_alloc ?_ _) | (refine Below.drew ?_) | (refine bl_drewN ?_ _) | (refine bl_set ?_ (by first | (simp; done) | omega | (simp; omega)) _) | (refine bl_trans ?_ (by assumption)) | (refine bl_step ?_ (by assumption) (by first | omega | exact Below.size (by assumption) | (simp; omega) | (simp; exact Below.size (by assumption))))))⟩

/-- Is there such a column from the first one on, in m columns? -/
def colIn (T B : List Int) (x y : Int) (f : Nat) : Nat → Bool
  | 0 => false
  | m + 1 => colIn T B x y f m || (decide (T.getD (f + m) 0 = x) && decide (B.getD (f + m) 0 = y))
theorem colIn_iff {T B : List Int} {x y : Int} {f m : Nat} : colIn T B x y f m = true ↔ ∃ k, k < m ∧ T.getD (f + k) 0 = x ∧ B.getD (f + k) 0 = y := by
  induction m with
  | zero => constructor
            · intro h; cases h
            · rintro ⟨k, hk, _⟩; omega
  | succ m ih =>
    unfold colIn
    rw [Bool.or_eq_true, ih, Bool.and_eq_true, decide_eq_true_eq, decide_eq_true_eq]
    constructor
    · rintro (⟨k, hk, h⟩ | h)
      · exact ⟨k, by omega, h⟩
      · exact ⟨m, by omega, h⟩
    · rintro ⟨k, hk, h⟩
      by_cases e : k = m
      · subst e; exact .inr h
      · exact .inl ⟨k, by omega, h⟩
theorem colIn_more {T B : List Int} {x y : Int} {f k : Nat} (h : colIn T B x y f k = false) (hn : ¬ (T.getD (f + k) 0 = x ∧ B.getD (f + k) 0 = y)) : colIn T B x y f (k + 1) = false := by
  unfold colIn
  rw [h, Bool.false_or, Bool.and_eq_false_iff]
  by_cases e : T.getD (f + k) 0 = x
  · exact .inr (decide_eq_false fun e2 => hn ⟨e, e2⟩)
  · exact .inl (decide_eq_false e)
set_option maxRecDepth 100000 in
set_option maxHeartbeats 800000 in
theorem colIndex_any (g : Nat) (T B : List Int) (n f m c : Nat) (x y : Int) (w : World) (hG : ColBlk w g T B n n) (hm : f + m ≤ n) (hn : n ≤ 24) :
    Calls Tryd.prog 133 #[.slice (some ⟨g, f * 2, none⟩) m c, .agg #[.int .i64 x, .int .i64 y]] w fun e w' => (∃ i : Int, e = .returned (.int .i64 i) ∧ Hid (decide (0 ≤ i) = colIn T B x y f m)) ∧ Below w.heap.size w w' := by
  have hmI : (m : Int) ≤ 24 := by omega
  have hT0 := TwoAt.new w x y 144
  have hb0 : Below w.heap.size w (w.alloc (.cells #[.int .i64 x, .int .i64 y] 144)) := by (repeat (first | assumption | exact Below.refl _ _ | (refine bl_alloc ?_ _) | (refine Below.drew ?_) | (refine bl_drewN ?_ _) | (refine bl_set ?_ (by first | (simp; done) | omega | (simp; omega)) _) | (refine bl_trans ?_ (by assumption)) | (refine bl_step ?_ (by assumption) (by first | omega | exact Below.size (by assumption) | (simp; omega) | (simp; exact Below.size (by assumption))))))
  go_enter Tryd.func133, Tryd.ntmps133
  go_wp2
  go_loopw [5, 8] (fun _ i wr => ∃ k : Nat, k ≤ m ∧ i = .int .i64 k ∧ Hid (colIn T B x y f k = false) ∧ TwoAt wr w.heap.size x y ∧ Below w.heap.size w wr) (fun _ i _ => m - (intOf i).toNat)
  case atStart => exact ⟨0, Nat.zero_le _, rfl, rfl, hT0, hb0⟩
  case round =>
    clear hT0 hb0
    obtain ⟨k, hk, rfl, HA, hT, hb⟩ := hrel
    by_cases hlt : k < m
    · have hltI : (k : Int) < m := by omega
      have hk0 : (0 : Int) ≤ k := by omega
      obtain ⟨d0, d1⟩ := (hG.to hb).at_ (i := f + k) (by omega)
      rw [show (f + k) * 2 = f * 2 + k * 2 by omega] at d0 d1
      have hT' := hT
      obtain ⟨_, e0, e1⟩ := hT'
      by_cases hx : T.getD (f + k) 0 = x
      · by_cases hy : B.getD (f + k) 0 = y
        · have HR : Hid (colIn T B x y f m = true) := by show _ = _; exact colIn_iff.2 ⟨k, hlt, hx, hy⟩
          rw [hx] at d0
          rw [hy] at d1
          clear hx hy hG
          go_wp2
          go_region
          go_wp2
          go_ret
          exact ⟨⟨_, rfl, by show _ = _; rw [HR.out]; exact decide_eq_true hk0⟩, hb.drew⟩
        · have HN := Lib.hid (colIn_more HA.out fun h => hy h.2)
          rw [hx] at d0
          have hne : (y == B.getD (f + k) 0) = false := by simpa using fun e : y = B.getD (f + k) 0 => hy e.symm
          have hne2 : ¬ y = B.getD (f + k) 0 := fun e => hy e.symm
          generalize B.getD (f + k) 0 = z at *
          clear hx hy hG HA
          go_wp2
          go_region
          go_wp2
          go_roundw
          case rel => exact ⟨k + 1, by omega, by go_num, HN, hT.keep rfl (Nat.le_refl _), hb.drew⟩
          case measure => simp [intOf]; omega
      · have HN := Lib.hid (colIn_more HA.out fun h => hx h.1)
        have hne : (x == T.getD (f + k) 0) = false := by simpa using fun e : x = T.getD (f + k) 0 => hx e.symm
        have hne2 : ¬ x = T.getD (f + k) 0 := fun e => hx e.symm
        generalize T.getD (f + k) 0 = z at *
        generalize B.getD (f + k) 0 = z' at *
        clear hx hG HA
        go_wp2
        go_region
        go_wp2
        go_roundw
        case rel => exact ⟨k + 1, by omega, by go_num, HN, hT.keep rfl (Nat.le_refl _), hb.drew⟩
        case measure => simp [intOf]; omega
    · obtain rfl : k = m := by omega
      go_wp2
      go_ret
      exact ⟨⟨_, rfl, by show _ = _; rw [HA.out]; rfl⟩, hb⟩
theorem colContains_any (g : Nat) (T B : List Int) (n f m c : Nat) (x y : Int) (w : World) (hG : ColBlk w g T B n n) (hm : f + m ≤ n) (hn : n ≤ 24) :
    Calls Tryd.prog 127 #[.slice (some ⟨g, f * 2, none⟩) m c, .agg #[.int .i64 x, .int .i64 y]] w fun e w' => e = .returned (.bool (colIn T B x y f m)) ∧ Below w.heap.size w w' := by
  have hb0 : Below w.heap.size w (w.alloc (.cells #[.int .i64 x, .int .i64 y] 144)) := by (repeat (first | assumption | exact Below.refl _ _ | (refine bl_alloc ?_ _) | (refine Below.drew ?_) | (refine bl_drewN ?_ _) | (refine bl_set ?_ (by first | (simp; done) | omega | (simp; omega)) _) | (refine bl_trans ?_ (by assumption)) | (refine bl_step ?_ (by assumption) (by first | omega | exact Below.size (by assumption) | (simp; omega) | (simp; exact Below.size (by assumption))))))
  have hc := colIndex_any g T B n f m c x y _ (hG.to hb0) hm hn
  go_enter Tryd.func127, Tryd.ntmps127
  go_wp2_with fail
  refine hc.mono ?_
  rintro e w1 ⟨⟨i, rfl, HI⟩, hb1⟩
  have b1 := bl_step hb0 hb1 hb0.size
  by_cases h : 0 ≤ i
  · have HR : Hid (colIn T B x y f m = true) := by show _ = _; rw [← HI.out]; exact decide_eq_true h
    go_wp2
    go_ret
    exact ⟨retB (by rw [HR.out]), b1⟩
  · have hd : decide (0 ≤ i) = false := decide_eq_false h
    have HR : Hid (colIn T B x y f m = false) := by show _ = _; rw [← HI.out]; exact hd
    go_wp2
    go_ret
    exact ⟨retB (by rw [HR.out]), b1⟩

/-- The columns that two pieces have in common: their first one, and their number. -/
def comF (la lb : Nat) : Nat := max la lb
def comM (la ha lb hb : Nat) : Nat := min ha hb + 1 - max la lb
end Go.Proofs.YtefcfpagbjflbaaDoor
