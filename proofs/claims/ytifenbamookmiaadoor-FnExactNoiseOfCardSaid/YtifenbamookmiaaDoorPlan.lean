/-
  A region that draws its order, walked in one order that is written out (a plan): what yields its value in every world that meets S, and what no guard wants, is taken first; what is left comes up alone.
-/
import Derived.OrdersHeld
import Derived.Deep.RegionHeld3
namespace Go.Proofs.YtifenbamookmiaaDoor
set_option linter.unusedSimpArgs false
set_option linter.unusedVariables false
open Go

/-- The plan is one that the region's edges allow. -/
def planOk (md : Region.Mode) (ops : Array Oper) : Nat → Array Bool → List (Nat × Bool) → Bool
  | _, listed, [] => (Region.ready md ops listed).isEmpty
  | 0, _, _ :: _ => false
  | f + 1, listed, (i, true) :: r => Region.free md ops listed i && (Region.ready md ops listed).contains i && planOk md ops f (listed.setIfInBounds i true) r
  | f + 1, listed, (i, false) :: r => (Region.ready md ops listed == [i]) && planOk md ops f (listed.setIfInBounds i true) r

section
variable {P : Program} {ops : Array Oper} {Q : Exit → Act → World → Prop} {md : Region.Mode} {S : World → Prop}

def PlanWp (P : Program) (ops : Array Oper) (Q : Exit → Act → World → Prop) (S : World → Prop) : List (Nat × Bool) → Act → World → Prop
  | [], a, w => Q .normal a w
  | (i, true) :: r, a, w => ∃ oi v, ops[i]? = some oi ∧ YieldsIf P ops S oi v a ∧ PlanWp P ops Q S r (a.put oi.dst v) w
  | (i, false) :: r, a, w => wpOp P ops Q i (fun a' w' => S w' ∧ PlanWp P ops Q S r a' w') a w

theorem plan_sound (hs : Region.noSelect ops = true) (hQ : ∀ c d v a w, Q (.panic c) (a.put d v) w → Q (.panic c) a w) :
    ∀ (plan : List (Nat × Bool)) (f : Nat) (listed : Array Bool) (a : Act) (w : World), planOk md ops f listed plan = true → S w → PlanWp P ops Q S plan a w → wpAnyH P md ops Q S f listed a w := by
  intro plan
  induction plan with
  | nil =>
    intro f listed a w hok _ h
    exact wpAnyH_done (by unfold planOk at hok; exact List.isEmpty_iff.1 hok) h f
  | cons x r ih =>
    intro f listed a w hok hS h
    obtain ⟨i, b⟩ := x
    cases f with
    | zero => unfold planOk at hok; cases hok
    | succ f =>
      cases b with
      | true =>
        unfold planOk at hok
        simp only [Bool.and_eq_true] at hok
        obtain ⟨oi, v, hi, hy, hr⟩ := h
        exact wpAnyH_take hi hs hok.1.1 hok.1.2 (fun c a w => hQ c oi.dst v a w) hy hS (ih f _ _ _ hok.2 hS hr)
      | false =>
        unfold planOk at hok
        simp only [Bool.and_eq_true, beq_iff_eq] at hok
        refine wpAnyH_all (rs := [i]) hok.1 (by simp) ?_
        intro j hj
        obtain rfl : j = i := by simpa using hj
        have h' : wpOp P ops Q j (fun a' w' => S w' ∧ PlanWp P ops Q S r a' w') a w := h
        exact wpOp_mono (fun a' w' hh => ⟨hh.1, ih f _ _ _ hok.2 hh.1 hh.2⟩) h'

/-- The region, by a plan. -/
theorem wp_region_plan {id : Nat} {a : Act} {w : World} (S : World → Prop) (plan : List (Nat × Bool)) (hm : P.follows .mixedOrders = true) (hs : Region.noSelect ops = true)
    (hok : planOk .any ops ops.size (Array.replicate ops.size false) plan = true) (hQ : ∀ c d v a w, Q (.panic c) (a.put d v) w → Q (.panic c) a w) (hS : S w.drew)
    (h : S w.drew → PlanWp P ops Q S plan a w.drew) : (Code.region id ops true).wp P Q a w :=
  wp_region_held (S := S) hm (plan_sound hs hQ plan _ _ _ _ hok hS (h hS))

/-- An operation by its number, so that it comes written out. -/
def nthO : List Oper → Nat → Option Oper
  | [], _ => none
  | o :: _, 0 => some o
  | _ :: r, n + 1 => nthO r n
theorem nthO_eq : ∀ (l : List Oper) (i : Nat), l.toArray[i]? = nthO l i
  | [], i => by simp [nthO]
  | o :: r, 0 => by simp [nthO]
  | o :: r, n + 1 => by
    have := nthO_eq r n
    simp only [List.getElem?_toArray] at this ⊢
    simpa [nthO] using this

variable {l : List Oper}
theorem plan_u {i : Nat} {oi : Oper} {r : List (Nat × Bool)} {a : Act} {w : World} (hi : nthO l i = some oi) (hw : Region.wanted oi (yielded l.toArray a.tmps) = false) (h : PlanWp P l.toArray Q S r (a.put oi.dst undef) w) : PlanWp P l.toArray Q S ((i, true) :: r) a w :=
  ⟨oi, undef, (nthO_eq l i).trans hi, .inr ⟨hw, rfl⟩, h⟩
theorem plan_w {i : Nat} {oi : Oper} {v : Value} {r : List (Nat × Bool)} {a : Act} {w : World} (hi : nthO l i = some oi) (hw : Region.wanted oi (yielded l.toArray a.tmps) = true)
    (hv : ∀ w, S w → (execOp a.eval oi).run P w = .ok (.value v) w) (h : PlanWp P l.toArray Q S r (a.put oi.dst v) w) : PlanWp P l.toArray Q S ((i, true) :: r) a w :=
  ⟨oi, v, (nthO_eq l i).trans hi, .inl ⟨hw, hv⟩, h⟩
theorem plan_b {i : Nat} {oi : Oper} {r : List (Nat × Bool)} {a : Act} {w : World} (hi : nthO l i = some oi)
    (h : ∀ K : Act → World → Prop, (∀ a w, S w ∧ PlanWp P l.toArray Q S r a w → K a w) → if Region.wanted oi (yielded l.toArray a.tmps) = true then Oper.wp P oi a w K Q else K (a.put oi.dst undef) w) : PlanWp P l.toArray Q S ((i, false) :: r) a w :=
  wpOp_step ((nthO_eq l i).trans hi) h
/-- An operation that must come alone, and that no guard wants. -/
theorem plan_bu {i : Nat} {oi : Oper} {r : List (Nat × Bool)} {a : Act} {w : World} (hi : nthO l i = some oi) (hw : Region.wanted oi (yielded l.toArray a.tmps) = false) (hS : S w) (h : PlanWp P l.toArray Q S r (a.put oi.dst undef) w) : PlanWp P l.toArray Q S ((i, false) :: r) a w :=
  wpOp_step ((nthO_eq l i).trans hi) fun _ hK => by rw [hw]; exact hK _ _ ⟨hS, h⟩
theorem plan_end {a : Act} {w : World} (h : Q .normal a w) : PlanWp P ops Q S [] a w := h
end
attribute [irreducible] PlanWp
end Go.Proofs.YtifenbamookmiaaDoor
