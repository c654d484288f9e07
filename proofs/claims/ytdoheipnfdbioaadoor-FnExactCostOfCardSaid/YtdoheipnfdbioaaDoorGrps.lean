/-
  Contract: the groups of a wiring, in the order of their least segments.
-/
import Derived.Test.YtdoheipnfdbioaaDoorGrpF
import Derived.Test.YtdoheipnfdbioaaDoorOwnG
namespace Go.Proofs.YtdoheipnfdbioaaDoor
set_option linter.unusedSimpArgs false
set_option linter.unusedVariables false
open Go.ChangeShapes Go.WideShapes Go.ChangeAt Go.RowKit

/-- In none of the groups with a least segment below b. -/
noncomputable def rsB (A : Nat → Nat → Bool) (b k : Nat) : Bool := (List.range b).all fun s => !(leadB A s && cmpB A s k)
theorem rsB_iff {A : Nat → Nat → Bool} {b k : Nat} : rsB A b k = true ↔ ∀ s, s < b → leadB A s = true → cmpB A s k = false := by
  unfold rsB
  rw [List.all_eq_true]
  constructor
  · intro h s hs hl
    have := h s (by simpa using hs)
    rw [hl] at this
    simpa using this
  · intro h s hs
    cases hl : leadB A s
    · rfl
    · rw [h s (by simpa using hs) hl]; rfl
theorem rsB_no {A : Nat → Nat → Bool} {b k : Nat} (h : rsB A b k = false) : ∃ s, s < b ∧ leadB A s = true ∧ cmpB A s k = true := by
  apply Classical.byContradiction
  intro hn
  have : rsB A b k = true := rsB_iff.2 fun s hs hl => by
    cases e : cmpB A s k
    · rfl
    · exact (hn ⟨s, hs, hl, e⟩).elim
  rw [h] at this; cases this
noncomputable def leads (A : Nat → Nat → Bool) (b : Nat) : List Nat := (List.range b).filter (leadB A)
noncomputable def grpOf (A : Nat → Nat → Bool) (n s : Nat) : Int × Int := ((maskTo (evB A s) n : Int), (maskTo (odB A s) n : Int))
/-- The groups with a least segment below b. -/
noncomputable def grpsTo (A : Nat → Nat → Bool) (n b : Nat) : List (Int × Int) := (leads A b).map (grpOf A n)
/-- The step to the next one. -/
theorem rest_step {A : Nat → Nat → Bool} {n b l : Nat} (hl : l < n) (h : rsB A b l = true) (hm : ∀ i, i < l → rsB A b i = false) :
    leadB A l = true ∧ leads A (l + 1) = leads A b ++ [l] ∧ ∀ k, rsB A (l + 1) k = (rsB A b k && !cmpB A l k) := by
  have hlead : leadB A l = true := leadB_iff.2 fun j hj => by
    cases e : cmpB A j l
    · rfl
    · obtain ⟨s, h1, h2, h3⟩ := rsB_no (hm j hj)
      have := rsB_iff.1 h s h1 h2
      rw [cmp_trans h3 e] at this; cases this
  have hbl : b ≤ l := by
    rcases Nat.lt_or_ge l b with hlt | hge
    · have := rsB_iff.1 h l hlt hlead
      rw [cmp_refl] at this; cases this
    · exact hge
  have hno : ∀ s, b ≤ s → s < l → leadB A s = false := fun s h1 h2 => by
    obtain ⟨t, k1, k2, k3⟩ := rsB_no (hm s h2)
    cases e : leadB A s
    · rfl
    · have := leadB_iff.1 e t (by omega)
      rw [k3] at this; cases this
  refine ⟨hlead, ?_, fun k => ?_⟩
  · unfold leads
    have : ∀ d, b + d ≤ l → (List.range (b + d)).filter (leadB A) = (List.range b).filter (leadB A) := by
      intro d
      induction d with
      | zero => intro _; rfl
      | succ d ih =>
        intro hd
        rw [show b + (d + 1) = (b + d) + 1 by omega, List.range_succ, List.filter_append, ih (by omega)]
        simp [hno (b + d) (by omega) (by omega)]
    rw [List.range_succ, List.filter_append]
    have e := this (l - b) (by omega)
    rw [show b + (l - b) = l by omega] at e
    rw [e]
    simp [hlead]
  · rw [Bool.eq_iff_iff, rsB_iff, Bool.and_eq_true, rsB_iff]
    constructor
    · intro hh
      exact ⟨fun s hs hl => hh s (by omega) hl, by rw [hh l (by omega) hlead]; rfl⟩
    · rintro ⟨h1, h2⟩ s hs hsl
      by_cases e : s = l
      · subst e; simpa using h2
      · by_cases e2 : s < b
        · exact h1 s e2 hsl
        · rw [hno s (by omega) (by omega)] at hsl; cases hsl
theorem leads_len (A : Nat → Nat → Bool) (b : Nat) : (leads A b).length ≤ b := by
  unfold leads
  exact Nat.le_trans (List.length_filter_le _ _) (by simp)
/-- The lowest bit of a mask, as math/bits tells it. -/
theorem mask_low {p : Nat → Bool} {n : Nat} (hn : n ≤ 63) (h : maskTo p n ≠ 0) : ∃ l hi, l < n ∧ p l = true ∧ (∀ i, i < l → p i = false) ∧ Lib.ctz 64 (maskTo p n) = l ∧ Lib.bitLen (maskTo p n) = hi + 1 ∧ hi < 64 := by
  obtain ⟨l, h1, _, h3, _, h5⟩ := mask_step p 0 n (by omega) (by rw [pFrom_zero]; exact h)
  rw [pFrom_zero] at h3
  rcases mask_span p n (by omega) with ⟨h0, _, _⟩ | ⟨lo, hi, _, hhi, _, _, _, _, hlen⟩
  · exact absurd h0 h
  · have hmem : l ∈ memL p 0 n := by rw [h5]; simp
    refine ⟨l, hi, h1, (memL_lt hmem).2, fun i hi => ?_, h3, hlen, by omega⟩
    cases e : p i
    · rfl
    · have : i ∈ memL p 0 n := by rw [memL_zero, List.mem_filter]; exact ⟨by simp; omega, e⟩
      rw [h5, List.mem_cons] at this
      rcases this with h | h
      · omega
      · unfold memL at h
        rw [List.mem_filter] at h
        have := h.2
        unfold pFrom at this
        simp at this; omega
theorem all_any (n gX : Nat) (AJ : Option Addr) (j cJ : Nat) (f0 f1 : Int) (w : World) (hn : n ≤ 14) :
    Calls Tryd.prog 77 #[.agg #[.int .i64 (n : Int), .slice (some ⟨gX, 0, none⟩) n n, .slice AJ j cJ, .int .u64 f0, .int .u64 f1]] w fun e w' => e = .returned (.int .u64 (maskTo (fun _ => true) n)) ∧ Below w.heap.size w w' := by
  have CB := Lib.hid (fun w => bitsetOf_any n (by omega) w)
  have hle : 2 ^ n ≤ 2 ^ 14 := Nat.pow_le_pow_right (by omega) hn
  have h1 : 1 ≤ 2 ^ n := Nat.one_le_two_pow
  have hR : Hid (IntKind.u64.wrap (((2 ^ n : Nat) : Int) - 1) = (maskTo (fun _ => true) n : Int)) := by
    show _ = _
    rw [mask_full, IntKind.wrap_u64]; omega
  have hR2 : Hid (((2 ^ n : Nat) : Int) - 1 = (maskTo (fun _ => true) n : Int)) := by
    show _ = _
    rw [mask_full]; omega
  generalize 2 ^ n = m at *
  generalize maskTo (fun _ => true) n = M at *
  have hr := hR.out
  have hm1 : (1 : Int) ≤ (m : Int) := by omega
  go_enter Tryd.func77, Tryd.ntmps77
  go_wp2_with fail
  refine (CB.out _).mono ?_
  rintro e w1 ⟨rfl, rfl⟩
  go_wp2
  go_ret
  exact ⟨by first | rfl | (exact retI (by first | exact hR2.out | exact hr)), by (repeat (first | assumption | exact Below.refl _ _ | (refine bl_alloc ?_ _) | (refine Below.drew ?_) | (refine bl_drewN ?_ _) | (refine bl_set ?_ (by first | (simp; done) | omega | (simp; omega)) _) | (refine bl_trans ?_ (by assumption)) | (refine bl_step ?_ (by assumption) (by first | omega | exact Below.size (by assumption) | (simp; omega) | (simp; exact Below.size (by assumption))))))⟩
theorem gall_any (a b : Nat → Bool) (n : Nat) (hn : n ≤ 14) (w : World) :
    Calls Tryd.prog 51 #[.agg #[.int .u64 (maskTo a n : Int), .int .u64 (maskTo b n : Int)]] w fun e w' => e = .returned (.int .u64 (maskTo (fun k => a k || b k) n)) ∧ Below w.heap.size w w' := by
  have hr := mask_or a b (k := n) (by omega)
  generalize maskTo a n = x at *
  generalize maskTo b n = y at *
  generalize maskTo (fun k => a k || b k) n = z at *
  have HR := Lib.hid hr
  go_enter Tryd.func51, Tryd.ntmps51
  go_wp2
  go_ret
  exact ⟨by first | rfl | exact retI (by rw [HR.out]), by (repeat (first | assumption | exact Below.refl _ _ | (refine bl_alloc ?_ _) | (refine Below.drew ?_) | (refine bl_drewN ?_ _) | (refine bl_set ?_ (by first | (simp; done) | omega | (simp; omega)) _) | (refine bl_trans ?_ (by assumption)) | (refine bl_step ?_ (by assumption) (by first | omega | exact Below.size (by assumption) | (simp; omega) | (simp; exact Below.size (by assumption))))))⟩
end Go.Proofs.YtdoheipnfdbioaaDoor
