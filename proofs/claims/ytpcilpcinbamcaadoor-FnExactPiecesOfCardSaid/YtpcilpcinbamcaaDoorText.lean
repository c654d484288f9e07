/-
  Contracts: the text of a list of numbers, both.
-/
import Derived.Test.YtpcilpcinbamcaaDoorDec
import Derived.Laws.Concat
import Derived.Lib.ItoaLen
import Derived.Lib.Join
namespace Go.Proofs.YtpcilpcinbamcaaDoor
set_option linter.unusedSimpArgs false
set_option linter.unusedVariables false
open Go.ChangeShapes Go.WideShapes Go.ChangeAt Go.RowKit

/-- A number of a list. -/
def itmB (n : Int) : Bool := inB n (-1000000000) 1000000000
def itmTo (ns : List Int) : Nat → Bool
  | 0 => true
  | k + 1 => itmTo ns k && itmB (ns.getD k 0)
theorem itmTo_bad {ns : List Int} {k n : Nat} (h : k ≤ n) (hk : itmTo ns k = false) : itmTo ns n = false := by
  induction n with
  | zero => obtain rfl : k = 0 := by omega
            exact hk
  | succ n ih =>
    by_cases e : k = n + 1
    · subst e; exact hk
    · unfold itmTo; rw [ih (by omega)]; rfl
theorem itmTo_at {ns : List Int} {n k : Nat} (h : itmTo ns n = true) (hk : k < n) : itmB (ns.getD k 0) = true := by
  cases hs : itmB (ns.getD k 0)
  · have : itmTo ns (k + 1) = false := by unfold itmTo; rw [hs]; simp
    rw [itmTo_bad (by omega : k + 1 ≤ n) this] at h; cases h
  · rfl
def itmsB (ns : List Int) : Bool := decide (ns.length ≤ 60) && itmTo ns ns.length
theorem itmB_bd {n : Int} (h : itmB n = true) : -1000000000 ≤ n ∧ n ≤ 1000000000 := of_decide_eq_true h

theorem l00In_itm {n : Int} {b : Bool} (h : Hid (itmB n = b)) (w : World) :
    Calls Tryd.prog 22 #[.int .i64 n, .int .i64 (-1000000000), .int .i64 1000000000] w fun e w' => e = .returned (.bool b) ∧ w = w' := by
  rw [← h.out]; exact l00In_any n (-1000000000) 1000000000 w
/-- The text of the words, with commas between them, up to k of them. -/
def cmm (fs : List (List UInt8)) : Nat → List UInt8
  | 0 => []
  | k + 1 => if k = 0 then fs.getD 0 [] else cmm fs k ++ (44 :: fs.getD k [])
theorem cmm_one (fs : List (List UInt8)) : cmm fs 1 = fs.getD 0 [] := rfl
theorem cmm_next {fs : List (List UInt8)} {k : Nat} (h : 1 ≤ k) : cmm fs (k + 1) = cmm fs k ++ (44 :: fs.getD k []) := by
  show (if k = 0 then fs.getD 0 [] else cmm fs k ++ (44 :: fs.getD k [])) = _
  rw [if_neg (by omega)]
theorem cmm_join : ∀ (fs : List (List UInt8)), fs ≠ [] → cmm fs fs.length = Lib.join fs [44]
  | [], h => absurd rfl h
  | x :: r, _ => by
    rw [Lib.join_cons]
    have : ∀ k, k ≤ r.length → cmm (x :: r) (k + 1) = x ++ Lib.joinTail [44] (r.take k) := by
      intro k
      induction k with
      | zero => intro _; simp [cmm, Lib.joinTail]
      | succ k ih =>
        intro hk
        rw [cmm_next (by omega), ih (by omega)]
        have hy : r[k]? = some (r[k]'(by omega)) := by simp [show k < r.length by omega]
        rw [Lib.joinTail_take_succ [44] r k _ hy]
        simp [List.getD_eq_getElem?_getD, show k < r.length by omega]
    have := this r.length (Nat.le_refl _)
    rw [List.take_length] at this
    exact this
theorem cmm_len {fs : List (List UInt8)} {m : Nat} (h : ∀ i, i < fs.length → (fs.getD i []).length ≤ m) : ∀ k, k ≤ fs.length → (cmm fs k).length ≤ k * (m + 1)
  | 0, _ => by simp [cmm]
  | k + 1, hk => by
    have ih := cmm_len h k (by omega)
    have h1 := h k (by omega)
    rw [Nat.succ_mul]
    unfold cmm
    split
    · rename_i e; subst e; omega
    · rw [List.length_append, List.length_cons]; omega
def wrds (ns : List Int) : List (List UInt8) := ns.map Lib.itoa
/-- The text of a list. -/
def lstT (ns : List Int) : ByteArray := if ns.length = 0 then ⟨#[110, 111, 110, 101]⟩ else ⟨(cmm (wrds ns) ns.length).toArray⟩
theorem wrds_at {ns : List Int} {i : Nat} (h : i < ns.length) : (wrds ns).getD i [] = Lib.itoa (ns.getD i 0) := by
  simp [wrds, List.getD_eq_getElem?_getD, h]
theorem wrds_len {ns : List Int} (h : itmTo ns ns.length = true) : ∀ i, i < (wrds ns).length → ((wrds ns).getD i []).length ≤ 21 := by
  intro i hi
  have hi' : i < ns.length := by simpa [wrds] using hi
  rw [wrds_at hi']
  obtain ⟨h1, h2⟩ := itmB_bd (itmTo_at h hi')
  exact Lib.itoa_length_le _ (by omega) (by omega)

end Go.Proofs.YtpcilpcinbamcaaDoor
