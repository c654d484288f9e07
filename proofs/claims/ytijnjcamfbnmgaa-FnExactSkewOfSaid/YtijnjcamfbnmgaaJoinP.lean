/-
  Joins, said over lists.
-/
import Derived.Test.YtijnjcamfbnmgaaFBlk
import Derived.Test.YtijnjcamfbnmgaaBits
namespace Go.Proofs.Ytijnjcamfbnmgaa
set_option linter.unusedSimpArgs false
set_option linter.unusedVariables false
open Go.ChangeShapes Go.WideShapes Go.ChangeAt Go.RowKit

/-- The two nodes of join k. -/
def jx (J : List (List Int)) (k : Nat) : Int := (J.getD k []).getD 0 0
def jy (J : List (List Int)) (k : Nat) : Int := (J.getD k []).getD 1 0
/-- The nodes that the first k joins take. -/
def usd (J : List (List Int)) : Nat → Nat → Bool
  | 0 => fun _ => false
  | k + 1 => upd (upd (usd J k) (jx J k).toNat) (jy J k).toNat
theorem usd_succ (J : List (List Int)) (k : Nat) : usd J (k + 1) = upd (upd (usd J k) (jx J k).toNat) (jy J k).toNat := rfl
def jAt (n : Nat) (J : List (List Int)) (k : Nat) : Bool :=
  decide ((J.getD k []).length = 2) && (inB (jx J k) 0 ((n : Int) + k - 1) && (inB (jy J k) (jx J k + 1) ((n : Int) + k - 1) && (!usd J k (jx J k).toNat && !usd J k (jy J k).toNat)))
def jTo (n : Nat) (J : List (List Int)) : Nat → Bool
  | 0 => true
  | k + 1 => jTo n J k && jAt n J k
theorem jTo_bad {n : Nat} {J : List (List Int)} {k : Nat} (h : jAt n J k = false) : ∀ m, k < m → jTo n J m = false
  | 0, hm => by omega
  | m + 1, hm => by
    unfold jTo
    by_cases e : k = m
    · subst e; rw [h]; simp
    · rw [jTo_bad h m (by omega)]; rfl
def isJ (c : Int) (J : List (List Int)) : Bool := inB c 2 12 && (decide ((J.length : Int) = c - 1) && jTo c.toNat J J.length)
theorem jAt_iff {n : Nat} {J : List (List Int)} {k : Nat} : jAt n J k = true ↔ (J.getD k []).length = 2 ∧ (0 ≤ jx J k ∧ jx J k ≤ (n : Int) + k - 1) ∧ (jx J k + 1 ≤ jy J k ∧ jy J k ≤ (n : Int) + k - 1) ∧ usd J k (jx J k).toNat = false ∧ usd J k (jy J k).toNat = false := by
  simp [jAt, inB]
/-- The bits are those of the nodes that are made and in no join yet. -/
def FreeB (n : Nat) (J : List (List Int)) (k v : Nat) : Prop := v < 18446744073709551616 ∧ ∀ m, v.testBit m = (decide (m < n + k) && !usd J k m)
theorem FreeB.start {n : Nat} (J : List (List Int)) (h : n ≤ 12) : FreeB n J 0 (2 ^ n - 1) := by
  refine ⟨Nat.lt_of_le_of_lt (Nat.sub_le _ _) (pow_lt64 (by omega)), fun m => ?_⟩
  rw [Nat.testBit_two_pow_sub_one]
  simp [usd]
/-- Has the set a node? -/
theorem FreeB.has {n k v : Nat} {J : List (List Int)} (h : FreeB n J k v) (x : Int) : (decide (0 ≤ x) && v.testBit x.toNat) = (inB x 0 ((n : Int) + k - 1) && !usd J k x.toNat) := by
  rw [h.2]
  by_cases h0 : 0 ≤ x
  · by_cases h1 : x ≤ (n : Int) + k - 1
    · rw [decide_eq_true h0, decide_eq_true (show x.toNat < n + k by omega), inB_t h0 h1]; rfl
    · rw [decide_eq_true h0, decide_eq_false (show ¬ x.toNat < n + k by omega), inB_f (by omega)]; rfl
  · rw [decide_eq_false h0, inB_f (by omega)]; rfl
theorem FreeB.step {n k v b v' v2 : Nat} {J : List (List Int)} (h : FreeB n J k v) (hj : jAt n J k = true) (hb : ∀ m, b.testBit m = ((2 ^ (jx J k).toNat).testBit m || (2 ^ (jy J k).toNat).testBit m)) (hv : ∀ m, v'.testBit m = (v.testBit m && !b.testBit m)) (h2 : v2 < 18446744073709551616) (hv2 : ∀ m, v2.testBit m = (v'.testBit m || (2 ^ (n + k)).testBit m)) (hn : ∀ m, n + k ≤ m → usd J k m = false) :
    FreeB n J (k + 1) v2 := by
  obtain ⟨_, ⟨x0, x1⟩, ⟨y0, y1⟩, _, _⟩ := jAt_iff.1 hj
  refine ⟨h2, fun m => ?_⟩
  rw [hv2, hv, hb, h.2, pow_bit, pow_bit, pow_bit, usd_succ]
  unfold upd
  by_cases e : m = n + k
  · subst e
    rw [if_neg (by omega), if_neg (by omega), hn _ (Nat.le_refl _)]
    simp
  · by_cases hy : m = (jy J k).toNat
    · rw [if_pos hy]; simp [hy, show ¬ (jy J k).toNat = n + k by omega]
    · rw [if_neg hy]
      by_cases hx : m = (jx J k).toNat
      · rw [if_pos hx]; simp [hx, show ¬ (jx J k).toNat = n + k by omega]
      · rw [if_neg hx, decide_eq_false hx, decide_eq_false hy, decide_eq_false e]
        have : decide (m < n + k) = decide (m < n + (k + 1)) := decide_eq_decide.2 (by omega)
        rw [this]; simp
theorem usd_out {n : Nat} {J : List (List Int)} : ∀ k, jTo n J k = true → ∀ m, n + k ≤ m + 1 → usd J k m = false
  | 0, _, _, _ => rfl
  | k + 1, h, m, hm => by
    unfold jTo at h
    rw [Bool.and_eq_true] at h
    obtain ⟨_, ⟨x0, x1⟩, ⟨y0, y1⟩, _, _⟩ := jAt_iff.1 h.2
    rw [usd_succ]
    unfold upd
    rw [if_neg (by omega), if_neg (by omega)]
    exact usd_out k h.1 m (by omega)
theorem isJ_lo {c : Int} {J : List (List Int)} (h : ¬ (2 ≤ c ∧ c ≤ 12)) : isJ c J = false := by unfold isJ; rw [inB_f h]; rfl
theorem isJ_len {c : Int} {J : List (List Int)} (h : ¬ (J.length : Int) = c - 1) : isJ c J = false := by unfold isJ; rw [decide_eq_false h]; simp
theorem isJ_at {L : Nat} {J : List (List Int)} (h1 : 1 ≤ L) (h2 : L ≤ 11) (h : J.length = L) : isJ ((L : Int) + 1) J = jTo (L + 1) J L := by
  unfold isJ
  rw [inB_t (by omega) (by omega), decide_eq_true (by omega), h, show ((L : Int) + 1).toNat = L + 1 by omega]
  rfl
end Go.Proofs.Ytijnjcamfbnmgaa
