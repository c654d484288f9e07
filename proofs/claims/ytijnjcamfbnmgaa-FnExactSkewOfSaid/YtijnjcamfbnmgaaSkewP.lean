/-
  The skew of joins with wires, said over lists.
-/
import Derived.Test.YtijnjcamfbnmgaaJoinP
import Derived.Test.YtijnjcamfbnmgaaZBlk
import Derived.Test.YtijnjcamfbnmgaaMazeP
namespace Go.Proofs.Ytijnjcamfbnmgaa
set_option linter.unusedSimpArgs false
set_option linter.unusedVariables false
open Go.ChangeShapes Go.WideShapes Go.ChangeAt Go.RowKit

/-- The sums after d joins, the last one first. -/
def skD (J : List (List Int)) (W : List Int) (L : Nat) : Nat → Nat → Int
  | 0 => fun _ => 0
  | d + 1 => updI (updI (skD J W L d) (jx J (L - 1 - d)).toNat (skD J W L d (L + 1 + (L - 1 - d)) + W.getD (jx J (L - 1 - d)).toNat 0)) (jy J (L - 1 - d)).toNat (skD J W L d (L + 1 + (L - 1 - d)) + W.getD (jy J (L - 1 - d)).toNat 0)
theorem skD_succ (J : List (List Int)) (W : List Int) (L d : Nat) : skD J W L (d + 1) = updI (updI (skD J W L d) (jx J (L - 1 - d)).toNat (skD J W L d (L + 1 + (L - 1 - d)) + W.getD (jx J (L - 1 - d)).toNat 0)) (jy J (L - 1 - d)).toNat (skD J W L d (L + 1 + (L - 1 - d)) + W.getD (jy J (L - 1 - d)).toNat 0) := rfl
theorem skD_le {J : List (List Int)} {W : List Int} {L : Nat} (hW : ∀ i, 0 ≤ W.getD i 0 ∧ W.getD i 0 ≤ 1000000000) : ∀ d j, 0 ≤ skD J W L d j ∧ skD J W L d j ≤ 1000000000 * d
  | 0, j => by simp [skD]
  | d + 1, j => by
    rw [skD_succ]
    unfold updI
    have a := skD_le hW (J := J) (L := L) d (L + 1 + (L - 1 - d))
    have b := skD_le hW (J := J) (L := L) d j
    have c := hW (jx J (L - 1 - d)).toNat
    have e := hW (jy J (L - 1 - d)).toNat
    split
    · omega
    · split <;> omega
def mnTo (s : Nat → Int) : Nat → Int
  | 0 => s 0
  | k + 1 => min (mnTo s k) (s k)
def mxTo (s : Nat → Int) : Nat → Int
  | 0 => s 0
  | k + 1 => max (mxTo s k) (s k)
theorem mn_one (s : Nat → Int) : mnTo s 1 = s 0 := by simp [mnTo]
theorem mx_one (s : Nat → Int) : mxTo s 1 = s 0 := by simp [mxTo]
theorem mn_bd {s : Nat → Int} {B : Int} (h : ∀ j, 0 ≤ s j ∧ s j ≤ B) : ∀ k, 0 ≤ mnTo s k ∧ mnTo s k ≤ B
  | 0 => h 0
  | k + 1 => by have a := mn_bd h k; have b := h k; rw [mnTo]; omega
theorem mx_bd {s : Nat → Int} {B : Int} (h : ∀ j, 0 ≤ s j ∧ s j ≤ B) : ∀ k, 0 ≤ mxTo s k ∧ mxTo s k ≤ B
  | 0 => h 0
  | k + 1 => by have a := mx_bd h k; have b := h k; rw [mxTo]; omega
def wireB (W : List Int) (i : Nat) : Bool := inB (W.getD i 0) 0 1000000000
/-- Are they joins, with wires? -/
def okSk (c : Int) (J : List (List Int)) (W : List Int) : Bool := isJ c J && (decide ((W.length : Int) = 2 * c - 1) && okTo (wireB W) W.length)
def skN (c : Int) (J : List (List Int)) (W : List Int) : Int := mxTo (skD J W J.length J.length) c.toNat - mnTo (skD J W J.length J.length) c.toNat
def skV (c : Int) (J : List (List Int)) (W : List Int) : Value := .tuple #[.int .i64 (if okSk c J W then skN c J W else 0), .bool (okSk c J W)]
theorem skV_f {c : Int} {J : List (List Int)} {W : List Int} (h : okSk c J W = false) : skV c J W = .tuple #[.int .i64 0, .bool false] := by simp [skV, h]
theorem skV_t {c : Int} {J : List (List Int)} {W : List Int} (h : okSk c J W = true) : skV c J W = .tuple #[.int .i64 (skN c J W), .bool true] := by simp [skV, h]
theorem okSk_j {c : Int} {J : List (List Int)} {W : List Int} (h : isJ c J = false) : okSk c J W = false := by unfold okSk; rw [h]; rfl
theorem okSk_l {c : Int} {J : List (List Int)} {W : List Int} (h : ¬ (W.length : Int) = 2 * c - 1) : okSk c J W = false := by unfold okSk; rw [decide_eq_false h]; simp
theorem okSk_w {c : Int} {J : List (List Int)} {W : List Int} {i : Nat} (hi : i < W.length) (h : wireB W i = false) : okSk c J W = false := by unfold okSk; rw [okTo_bad hi h]; simp
theorem okSk_t {c : Int} {J : List (List Int)} {W : List Int} (h1 : isJ c J = true) (h2 : (W.length : Int) = 2 * c - 1) (h3 : okTo (wireB W) W.length = true) : okSk c J W = true := by unfold okSk; rw [h1, decide_eq_true h2, h3]; rfl
theorem wire_all {W : List Int} (h : okTo (wireB W) W.length = true) (i : Nat) : 0 ≤ W.getD i 0 ∧ W.getD i 0 ≤ 1000000000 := by
  by_cases hi : i < W.length
  · exact of_decide_eq_true (okTo_iff.1 h i hi)
  · simp [List.getD_eq_getElem?_getD, show W.length ≤ i by omega]
theorem jTo_at {n : Nat} {J : List (List Int)} : ∀ {m : Nat}, jTo n J m = true → ∀ k, k < m → jAt n J k = true
  | 0, _, k, hk => by omega
  | m + 1, h, k, hk => by
    unfold jTo at h
    rw [Bool.and_eq_true] at h
    by_cases e : k = m
    · subst e; exact h.2
    · exact jTo_at h.1 k (by omega)
/-- What joins are. -/
theorem isJ_facts {c : Int} {J : List (List Int)} (h : isJ c J = true) : ∃ L : Nat, 1 ≤ L ∧ L ≤ 11 ∧ J.length = L ∧ c = (L : Int) + 1 ∧ ∀ k, k < L → (J.getD k []).length = 2 ∧ jx J k = ((jx J k).toNat : Int) ∧ jy J k = ((jy J k).toNat : Int) ∧ (jx J k).toNat < (jy J k).toNat ∧ (jy J k).toNat ≤ L + k := by
  simp only [isJ, Bool.and_eq_true] at h
  obtain ⟨h1, h2, h3⟩ := h
  have h1 : 2 ≤ c ∧ c ≤ 12 := of_decide_eq_true h1
  have h2 : (J.length : Int) = c - 1 := of_decide_eq_true h2
  refine ⟨J.length, by omega, by omega, rfl, by omega, fun k hk => ?_⟩
  obtain ⟨a, b, d, _⟩ := jAt_iff.1 (jTo_at h3 k hk)
  have e : (c.toNat : Int) = c := by omega
  exact ⟨a, by omega, by omega, by omega, by omega⟩
end Go.Proofs.Ytijnjcamfbnmgaa
