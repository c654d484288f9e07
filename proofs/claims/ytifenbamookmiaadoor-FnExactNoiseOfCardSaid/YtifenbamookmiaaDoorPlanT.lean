/-
  Plans that part where several operations that turn the world may come up: a tree of plans; out of a round and in one.
-/
import Derived.Test.YtifenbamookmiaaDoorPlanIn
import Derived.ControlIn
namespace Go.Proofs.YtifenbamookmiaaDoor
set_option linter.unusedSimpArgs false
set_option linter.unusedVariables false
open Go

inductive Pl where
  | done
  | take (i : Nat) (r : Pl)
  | alone (i : Nat) (r : Pl)
  | fork (i : Nat) (r : Pl) (j : Nat) (s : Pl)
  | fork3 (i : Nat) (r : Pl) (j : Nat) (s : Pl) (k : Nat) (t : Pl)
/-- A list of steps ahead of a plan. -/
def Pl.takes : List Nat → Pl → Pl
  | [], r => r
  | i :: l, r => .take i (Pl.takes l r)

def treeOk (md : Region.Mode) (ops : Array Oper) : Nat → Array Bool → Pl → Bool
  | _, listed, .done => (Region.ready md ops listed).isEmpty
  | 0, _, _ => false
  | f + 1, listed, .take i r => Region.free md ops listed i && (Region.ready md ops listed).contains i && treeOk md ops f (listed.setIfInBounds i true) r
  | f + 1, listed, .alone i r => (Region.ready md ops listed == [i]) && treeOk md ops f (listed.setIfInBounds i true) r
  | f + 1, listed, .fork i r j s => (Region.ready md ops listed == [i, j]) && (treeOk md ops f (listed.setIfInBounds i true) r && treeOk md ops f (listed.setIfInBounds j true) s)
  | f + 1, listed, .fork3 i r j s k t => (Region.ready md ops listed == [i, j, k]) && (treeOk md ops f (listed.setIfInBounds i true) r && (treeOk md ops f (listed.setIfInBounds j true) s && treeOk md ops f (listed.setIfInBounds k true) t))

section
variable {P : Program} {ops : Array Oper} {Q : Exit → Act → World → Prop} {md : Region.Mode} {S : World → Prop}

def TreeWp (P : Program) (ops : Array Oper) (Q : Exit → Act → World → Prop) (S : World → Prop) : Pl → Act → World → Prop
  | .done, a, w => Q .normal a w
  | .take i r, a, w => ∃ oi v, ops[i]? = some oi ∧ YieldsIf P ops S oi v a ∧ TreeWp P ops Q S r (a.put oi.dst v) w
  | .alone i r, a, w => wpOp P ops Q i (fun a' w' => S w' ∧ TreeWp P ops Q S r a' w') a w
  | .fork i r j s, a, w => wpOp P ops Q i (fun a' w' => S w' ∧ TreeWp P ops Q S r a' w') a w ∧ wpOp P ops Q j (fun a' w' => S w' ∧ TreeWp P ops Q S s a' w') a w
  | .fork3 i r j s k t, a, w => wpOp P ops Q i (fun a' w' => S w' ∧ TreeWp P ops Q S r a' w') a w ∧ wpOp P ops Q j (fun a' w' => S w' ∧ TreeWp P ops Q S s a' w') a w ∧ wpOp P ops Q k (fun a' w' => S w' ∧ TreeWp P ops Q S t a' w') a w

theorem tree_sound (hs : Region.noSelect ops = true) (hQ : ∀ c d v a w, Q (.panic c) (a.put d v) w → Q (.panic c) a w) :
    ∀ (plan : Pl) (f : Nat) (listed : Array Bool) (a : Act) (w : World), treeOk md ops f listed plan = true → S w → TreeWp P ops Q S plan a w → wpAnyH P md ops Q S f listed a w := by
  intro plan
  induction plan with
  | done =>
    intro f listed a w hok _ h
    exact wpAnyH_done (by unfold treeOk at hok; exact List.isEmpty_iff.1 hok) h f
  | take i r ih =>
    intro f listed a w hok hS h
    cases f with
    | zero => unfold treeOk at hok; cases hok
    | succ f =>
      unfold treeOk at hok
      simp only [Bool.and_eq_true] at hok
      obtain ⟨oi, v, hi, hy, hr⟩ := h
      exact wpAnyH_take hi hs hok.1.1 hok.1.2 (fun c a w => hQ c oi.dst v a w) hy hS (ih f _ _ _ hok.2 hS hr)
  | alone i r ih =>
    intro f listed a w hok hS h
    cases f with
    | zero => unfold treeOk at hok; cases hok
    | succ f =>
      unfold treeOk at hok
      simp only [Bool.and_eq_true, beq_iff_eq] at hok
      refine wpAnyH_all (rs := [i]) hok.1 (by simp) ?_
      intro x hx
      obtain rfl : x = i := by simpa using hx
      have h' : wpOp P ops Q x (fun a' w' => S w' ∧ TreeWp P ops Q S r a' w') a w := h
      exact wpOp_mono (fun a' w' hh => ⟨hh.1, ih f _ _ _ hok.2 hh.1 hh.2⟩) h'
  | fork i r j s ihr ihs =>
    intro f listed a w hok hS h
    cases f with
    | zero => unfold treeOk at hok; cases hok
    | succ f =>
      unfold treeOk at hok
      simp only [Bool.and_eq_true, beq_iff_eq] at hok
      obtain ⟨h1, h2⟩ := h
      refine wpAnyH_all (rs := [i, j]) hok.1 (by simp) ?_
      intro x hx
      rcases (by simpa using hx : x = i ∨ x = j) with rfl | rfl
      · exact wpOp_mono (fun a' w' hh => ⟨hh.1, ihr f _ _ _ hok.2.1 hh.1 hh.2⟩) h1
      · exact wpOp_mono (fun a' w' hh => ⟨hh.1, ihs f _ _ _ hok.2.2 hh.1 hh.2⟩) h2
  | fork3 i r j s k t ihr ihs iht =>
    intro f listed a w hok hS h
    cases f with
    | zero => unfold treeOk at hok; cases hok
    | succ f =>
      unfold treeOk at hok
      simp only [Bool.and_eq_true, beq_iff_eq] at hok
      obtain ⟨h1, h2, h3⟩ := h
      refine wpAnyH_all (rs := [i, j, k]) hok.1 (by simp) ?_
      intro x hx
      rcases (by simpa using hx : x = i ∨ x = j ∨ x = k) with rfl | rfl | rfl
      · exact wpOp_mono (fun a' w' hh => ⟨hh.1, ihr f _ _ _ hok.2.1 hh.1 hh.2⟩) h1
      · exact wpOp_mono (fun a' w' hh => ⟨hh.1, ihs f _ _ _ hok.2.2.1 hh.1 hh.2⟩) h2
      · exact wpOp_mono (fun a' w' hh => ⟨hh.1, iht f _ _ _ hok.2.2.2 hh.1 hh.2⟩) h3

/-- It ends as it should, and in no other way. -/
def onlyN (Q : Exit → Act → World → Prop) : Exit → Act → World → Prop
  | .normal, a, w => Q .normal a w
  | _, _, _ => False
theorem onlyN_mono {e : Exit} {a : Act} {w : World} (h : onlyN Q e a w) : Q e a w := by
  cases e with
  | normal => exact h
  | ret => exact h.elim
  | exit id => exact h.elim
  | goto t => exact h.elim
  | panic ch => exact h.elim
  | outgrown => exact h.elim
/-- The region, by a tree of plans: out of a round .. -/
theorem wpIn_region_tree {n id : Nat} {a : Act} {w : World} (S : World → Prop) (plan : Pl) (hm : P.follows .mixedOrders = true) (hs : Region.noSelect ops = true)
    (hok : treeOk .any ops ops.size (Array.replicate ops.size false) plan = true) (hS : S w.drew)
    (h : S w.drew → TreeWp P ops (onlyN Q) S plan a w.drew) : (Code.region id ops true).wpIn Fence.wide n P Q a w :=
  wpIn_mono (wpIn_wide.2 (wp_region_held (S := S) hm (tree_sound hs (fun _ _ _ _ _ h => h) plan _ _ _ _ hok hS (h hS)))) fun _ _ _ h => onlyN_mono h
/-- .. and in one. -/
theorem wpIn_region_treeR {n l id : Nat} {a : Act} {w : World} (S : World → Prop) (plan : Pl) (hm : P.follows .mixedOrders = true) (hs : Region.noSelect ops = true) (hd : noDefer ops = true)
    (hok : treeOk .any ops ops.size (Array.replicate ops.size false) plan = true) (hS : S w.drew)
    (h : S w.drew → TreeWp P ops (onlyN Q) S plan a w.drew) : (Code.region id ops true).wpIn (Fence.wide.inRound l) n P Q a w :=
  wpIn_mono (wpIn_region_any hm (wpAny_round hd (fun ⟨_, _, h⟩ => h) _ _ _ _ (wpAny_of_held _ _ _ _ (tree_sound hs (fun _ _ _ _ _ h => h) plan _ _ _ _ hok hS (h hS))))) fun _ _ _ h => onlyN_mono h

variable {l : List Oper}
theorem tplan_u {i : Nat} {oi : Oper} {r : Pl} {a : Act} {w : World} (hi : nthO l i = some oi) (hw : Region.wanted oi (yielded l.toArray a.tmps) = false) (h : TreeWp P l.toArray Q S r (a.put oi.dst undef) w) : TreeWp P l.toArray Q S (.take i r) a w :=
  ⟨oi, undef, (nthO_eq l i).trans hi, .inr ⟨hw, rfl⟩, h⟩
theorem tplan_w {i : Nat} {oi : Oper} {v : Value} {r : Pl} {a : Act} {w : World} (hi : nthO l i = some oi) (hw : Region.wanted oi (yielded l.toArray a.tmps) = true)
    (hv : ∀ w, S w → (execOp a.eval oi).run P w = .ok (.value v) w) (h : TreeWp P l.toArray Q S r (a.put oi.dst v) w) : TreeWp P l.toArray Q S (.take i r) a w :=
  ⟨oi, v, (nthO_eq l i).trans hi, .inl ⟨hw, hv⟩, h⟩
theorem tplan_b {i : Nat} {oi : Oper} {r : Pl} {a : Act} {w : World} (hi : nthO l i = some oi)
    (h : ∀ K : Act → World → Prop, (∀ a w, S w ∧ TreeWp P l.toArray Q S r a w → K a w) → if Region.wanted oi (yielded l.toArray a.tmps) = true then Oper.wp P oi a w K Q else K (a.put oi.dst undef) w) : TreeWp P l.toArray Q S (.alone i r) a w :=
  wpOp_step ((nthO_eq l i).trans hi) h
theorem tplan_fork {i j : Nat} {r s : Pl} {a : Act} {w : World} (h1 : TreeWp P l.toArray Q S (.alone i r) a w) (h2 : TreeWp P l.toArray Q S (.alone j s) a w) : TreeWp P l.toArray Q S (.fork i r j s) a w := ⟨h1, h2⟩
theorem tplan_fork3 {i j k : Nat} {r s t : Pl} {a : Act} {w : World} (h1 : TreeWp P l.toArray Q S (.alone i r) a w) (h2 : TreeWp P l.toArray Q S (.alone j s) a w) (h3 : TreeWp P l.toArray Q S (.alone k t) a w) : TreeWp P l.toArray Q S (.fork3 i r j s k t) a w := ⟨h1, h2, h3⟩
theorem tplan_end {a : Act} {w : World} (h : Q .normal a w) : TreeWp P ops (onlyN Q) S .done a w := h
end
attribute [irreducible] TreeWp
end Go.Proofs.YtifenbamookmiaaDoor
