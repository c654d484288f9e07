/-
  A region that draws its order, all of whose operations read, reckon or call what only makes new memory: walked once, by the library's cheap step, in the worlds in which all that stood stands.
-/
import Derived.Test.YtifenbamookmiaaDoorQuietT
import Derived.BigQuiet
namespace Go.Proofs.YtifenbamookmiaaDoor
set_option linter.unusedSimpArgs false
set_option linter.unusedVariables false
open Go Go.ChangeShapes Go.WideShapes Go.ChangeAt Go.RowKit Go.BigFrame

open Classical in
/-- The world x, if all that stood in w stands in it. -/
noncomputable def over (w x : World) : World := if Below w.heap.size w x then x else w
theorem over_below (w x : World) : Below w.heap.size w (over w x) := by
  unfold over
  split
  · assumption
  · exact Below.refl _ _
theorem over_of {w x : World} (h : Below w.heap.size w x) : over w x = x := by unfold over; rw [if_pos h]
theorem over_cell {w : World} {b : Nat} (h : b < w.heap.size) (x : World) (o : Nat) : (over w x).cell? ⟨b, o, none⟩ = w.cell? ⟨b, o, none⟩ := (over_below w x).cell (p := ⟨b, o, none⟩) h
theorem over_cells (w : World) : ∀ x b o, b < w.heap.size → (over w x).cell? ⟨b, o, none⟩ = w.cell? ⟨b, o, none⟩ := fun x _ o h => over_cell h x o
/-- At a call. -/
theorem overC {P : Program} {f : FuncId} {args : Array Value} {w x : World} {v : Value} (h : Calls P f args (over w x) fun e w' => e = .returned v ∧ Below (over w x).heap.size (over w x) w') :
    Calls P f args (over w x) fun e w'' => e = .returned v ∧ ∃ y, w'' = over w y := h.mono fun _ w' ⟨he, hb⟩ => ⟨he, w', (over_of ((over_below w x).trans (hb.mono (over_below w x).size))).symm⟩
theorem overL {P : Program} {f : FuncId} {args : Array Value} {w x : World} {v : Value} (h : Calls P f args (over w x) fun e w' => e = .returned v ∧ over w x = w') :
    Calls P f args (over w x) fun e w'' => e = .returned v ∧ ∃ y, w'' = over w y := h.mono fun _ w' ⟨he, hb⟩ => ⟨he, x, hb.symm⟩
theorem overE {P : Program} {f : FuncId} {args : Array Value} {w x : World} {v : Value} (h : Calls P f args (over w x) fun e w' => e = .returned v ∧ w' = over w x) :
    Calls P f args (over w x) fun e w'' => e = .returned v ∧ ∃ y, w'' = over w y := h.mono fun _ w' ⟨he, hb⟩ => ⟨he, x, hb⟩
theorem wp_region_over {P : Program} {l : List Oper} {id : Nat} {Q : Exit → Act → World → Prop} {a : Act} {w : World} (hm : P.follows .mixedOrders = true) (hB : Region.lexB .any l.toArray = true)
    (h : wpQuiet P l.toArray (fun w' => ∃ x, w' = over w x) (fun a' => ∀ w', (∃ x, w' = over w x) → Q .normal a' w') l a) : (Code.region id l.toArray true).wp P Q a w :=
  wp_region_quiet (C := fun w' => ∃ x, w' = over w x) hm hB ⟨w.drew, (over_of (Below.refl _ _).drew).symm⟩ (by simpa using h)
theorem over_nil {P : Program} {ops : Array Oper} {w : World} {Q : Act → World → Prop} {a : Act} (h : ∀ w', Below w.heap.size w w' → Q a w') : wpQuiet P ops (fun w' => ∃ x, w' = over w x) (fun a' => ∀ w', (∃ x, w' = over w x) → Q a' w') [] a :=
  wpQuiet_nil (fun _ ⟨x, hx⟩ => h _ (hx ▸ over_below w x))
/-- .. where the last operations (from m on) follow a plan. -/
theorem wp_region_overB {P : Program} {l : List Oper} {id m : Nat} {Q : Exit → Act → World → Prop} {a : Act} {w : World} (plan : Pl) (hm : P.follows .mixedOrders = true) (hB : quietB l.toArray m = true)
    (hok : treeOk .any l.toArray (l.toArray.size - m) (listT m 0 (Array.replicate l.toArray.size false)) plan = true)
    (h : wpQuiet P l.toArray (fun w' => ∃ x, w' = over w x) (fun a' => ∀ w', (∃ x, w' = over w x) → TreeWp P l.toArray (onlyN Q) (fun _ => True) plan a' w') (l.take m) a) : (Code.region id l.toArray true).wp P Q a w :=
  wp_region_quietT (fun w' => ∃ x, w' = over w x) plan hm hB hok ⟨w.drew, (over_of (Below.refl _ _).drew).symm⟩ h
theorem over_nilB {P : Program} {ops : Array Oper} {w : World} {Q : Act → World → Prop} {a : Act} (h : ∀ w', Below w.heap.size w w' → Q a w') : wpQuiet P ops (fun w' => ∃ x, w' = over w x) (fun a' => ∀ w', (∃ x, w' = over w x) → Q a' w') [] a :=
  wpQuiet_nil (fun _ ⟨x, hx⟩ => h _ (hx ▸ over_below w x))
end Go.Proofs.YtifenbamookmiaaDoor
