/-
  Which points are taken: a grid of marks; and what AreApart says.
-/
import Derived.Test.YtfmkedmhbmcbiaaSS2
import Derived.Test.YtfmkedmhbmcbiaaCorMath
import Derived.Laws.MakeOwn
namespace Go.Proofs.Ytfmkedmhbmcbiaa
set_option linter.unusedSimpArgs false
set_option linter.unusedVariables false
open Go.ChangeShapes Go.WideShapes Go.ChangeAt Go.RowKit

/-- The points are taken one after another; none may be taken already. -/
def addP : List Pt → List Pt → Option (List Pt)
  | S, [] => some S
  | S, p :: r => if p ∈ S then none else addP (S ++ [p]) r
def aptL : List Pt → List (List Pt) → Option (List Pt)
  | S, [] => some S
  | S, l :: r => if okT l = true then (addP S (thrL l)).bind (fun S' => aptL S' r) else none
/-- Wires are apart. -/
def apartB (Ls : List (List Pt)) : Bool := decide (Ls.length ≤ 20) && (aptL [] Ls).isSome
/-- What is left to take, and whether it can be. -/
def goes (S L : List Pt) (Ls : List (List Pt)) : Bool := ((addP S L).bind (fun S' => aptL S' Ls)).isSome
theorem goes_nil (S : List Pt) (Ls : List (List Pt)) : goes S [] Ls = (aptL S Ls).isSome := rfl
theorem goes_in {S L : List Pt} {Ls : List (List Pt)} {p : Pt} (h : p ∈ S) : goes S (p :: L) Ls = false := by unfold goes addP; rw [if_pos h]; rfl
theorem goes_out {S L : List Pt} {Ls : List (List Pt)} {p : Pt} (h : p ∉ S) : goes S (p :: L) Ls = goes (S ++ [p]) L Ls := by unfold goes; rw [show addP S (p :: L) = addP (S ++ [p]) L from by rw [addP, if_neg h]]
theorem apt_bad {S l : List Pt} {r : List (List Pt)} (h : okT l = false) : (aptL S (l :: r)).isSome = false := by unfold aptL; rw [h]; rfl
theorem apt_ok {S l : List Pt} {r : List (List Pt)} (h : okT l = true) : (aptL S (l :: r)).isSome = goes S (thrL l) r := by unfold goes; rw [aptL, if_pos h]
theorem drop_at {l : List (List Pt)} {k : Nat} (h : k < l.length) : l.drop k = l.getD k [] :: l.drop (k + 1) := by
  rw [List.drop_eq_getElem_cons h]; simp [List.getD_eq_getElem?_getD, h]
theorem drop_atP {l : List Pt} {k : Nat} (h : k < l.length) : l.drop k = l.getD k (0, 0) :: l.drop (k + 1) := by
  rw [List.drop_eq_getElem_cons h]; simp [List.getD_eq_getElem?_getD, h]

/-- Block g marks the points S, each at its own place. -/
def Tak (f : Nat → Nat → Nat) (ty : TypeId) (w : World) (g : Nat) (S : List Pt) : Prop :=
  ∃ cs, w.heap[g]? = some (.cells cs ty (0, 0)) ∧ cs.size = 10000 ∧ ∀ x y : Nat, x < 100 → y < 100 → cs[f x y]? = some (.bool (decide (((x : Int), (y : Int)) ∈ S)))
theorem Tak.lt {f : Nat → Nat → Nat} {ty : TypeId} {w : World} {g : Nat} {S : List Pt} (h : Tak f ty w g S) : g < w.heap.size := by
  obtain ⟨cs, h, _⟩ := h
  rcases Nat.lt_or_ge g w.heap.size with hlt | hge
  · exact hlt
  · rw [Array.getElem?_eq_none hge] at h; cases h
theorem Tak.to {f : Nat → Nat → Nat} {ty : TypeId} {w w1 : World} {g : Nat} {S : List Pt} (h : Tak f ty w g S) (hb : Below w.heap.size w w1) : Tak f ty w1 g S := by
  have hl := h.lt
  obtain ⟨cs, h0, h1⟩ := h
  exact ⟨cs, (hb.block g hl).trans h0, h1⟩
theorem Tak.at_ {f : Nat → Nat → Nat} {ty : TypeId} {w : World} {g : Nat} {S : List Pt} (h : Tak f ty w g S) {x y : Nat} (hx : x < 100) (hy : y < 100) :
    w.cell? ⟨g, f x y, none⟩ = some (.bool (decide (((x : Int), (y : Int)) ∈ S))) ∧ w.frozen? ⟨g, f x y, none⟩ = false := by
  obtain ⟨cs, h0, _, h2⟩ := h
  refine ⟨?_, by simp [World.frozen?, h0]⟩
  rw [cell_of_row w g _ cs _ _ h0]
  exact h2 x y hx hy
/-- Places differ where points do. -/
def InjF (f : Nat → Nat → Nat) : Prop := ∀ x y x' y' : Nat, x < 100 → y < 100 → x' < 100 → y' < 100 → f x y = f x' y' → x = x' ∧ y = y'
theorem Tak.put {f : Nat → Nat → Nat} (hf : InjF f) (hf2 : ∀ x y, x < 100 → y < 100 → f x y < 10000) {ty : TypeId} {w : World} {g : Nat} {S : List Pt} (h : Tak f ty w g S) {x y : Nat} (hx : x < 100) (hy : y < 100) :
    Tak f ty (w.setCell ⟨g, f x y, none⟩ (.bool true)) g (S ++ [((x : Int), (y : Int))]) := by
  obtain ⟨cs, h0, h1, h2⟩ := h
  refine ⟨cs.setIfInBounds (f x y) (.bool true), by simp [World.setCell, Array.getElem?_modify, h0], by simpa using h1, fun x' y' hx' hy' => ?_⟩
  by_cases e : x' = x ∧ y' = y
  · obtain ⟨rfl, rfl⟩ := e
    simp only [Array.getElem?_setIfInBounds_self, h1]
    rw [if_pos (hf2 _ _ hx hy)]
    simp
  · rw [Array.getElem?_setIfInBounds_ne (fun e2 => e (by obtain ⟨a, b⟩ := hf _ _ _ _ hx hy hx' hy' e2; exact ⟨a.symm, b.symm⟩))]
    rw [h2 x' y' hx' hy']
    congr 2
    have hne : ((x' : Int), (y' : Int)) ≠ ((x : Int), (y : Int)) := fun e2 => e (by injection e2 with a b; exact ⟨by omega, by omega⟩)
    simp only [List.mem_append, List.mem_singleton]
    rw [decide_eq_decide]
    constructor
    · exact .inl
    · rintro (h | h)
      · exact h
      · exact absurd h hne
def fI (x y : Nat) : Nat := y * 100 + x
def fS (x y : Nat) : Nat := x * 100 + y
theorem injI : InjF fI := by intro x y x' y' h1 h2 h3 h4 h; unfold fI at h; omega
theorem injS : InjF fS := by intro x y x' y' h1 h2 h3 h4 h; unfold fS at h; omega
theorem ltI (x y : Nat) (h1 : x < 100) (h2 : y < 100) : fI x y < 10000 := by unfold fI; omega
theorem ltS (x y : Nat) (h1 : x < 100) (h2 : y < 100) : fS x y < 10000 := by unfold fS; omega
theorem pt_nat {p : Pt} (h : isPt p.1 p.2 = true) : ∃ x y : Nat, x < 100 ∧ y < 100 ∧ p = ((x : Int), (y : Int)) := by
  obtain ⟨⟨a, b⟩, c, d⟩ := isPt_iff.1 h
  exact ⟨p.1.toNat, p.2.toNat, by omega, by omega, Prod.ext (by simp; omega) (by simp; omega)⟩
theorem through_pts {l : List Pt} (h : okT l = true) : ∀ x ∈ thrL l, isPt x.1 x.2 = true := by
  have hk := h
  unfold okT at h
  simp only [Bool.and_eq_true] at h
  rw [thrL_t hk]
  exact path_pts h.2.2.1
def isF : Value → Bool | .bool false => true | _ => false
def allF : List Value → Bool
  | [] => true
  | v :: r => isF v && allF r
theorem allF_at : ∀ (l : List Value) (i : Nat), allF l = true → i < l.length → l[i]? = some (.bool false)
  | [], i, _, hi => by simp at hi
  | v :: r, i, h, hi => by
    unfold allF at h
    rw [Bool.and_eq_true] at h
    cases i with
    | zero =>
      have : v = .bool false := by
        have h1 := h.1
        unfold isF at h1
        split at h1
        · rfl
        · cases h1
      simp [this]
    | succ i => simpa using allF_at r i h.2 (by simpa using hi)
set_option maxRecDepth 1000000 in
theorem zero80_all : allF Try.zeroCells80.toList = true := by kernel_rfl
set_option maxRecDepth 1000000 in
theorem zero80_len : Try.zeroCells80.toList.length = 10000 := by kernel_rfl
theorem Tak.newI (w : World) : Tak fI 80 (w.alloc (.cells Try.zeroCells80 80)) w.heap.size [] :=
  ⟨Try.zeroCells80, heap_alloc_new w _, by rw [← Array.length_toList]; exact zero80_len, fun x y hx hy => by
    rw [← Array.getElem?_toList, allF_at _ _ zero80_all (by rw [zero80_len]; exact ltI x y hx hy)]; simp⟩
theorem Tak.newS (w : World) : Tak fS 4 (w.alloc (.cells (madeCells #[.bool false] 10000) 4)) w.heap.size [] :=
  ⟨madeCells #[.bool false] 10000, heap_alloc_new w _, size_madeCells _ _, fun x y hx hy => by
    have h := ltS x y hx hy
    simp [madeCells, h, Nat.mod_one]⟩
theorem infoBl : (Try.prog.info? 4).map (fun i => (i.zero, i.size, i.bytes)) = some (some (.bool false), 1, 1) := by kernel_rfl
theorem run_mkbools (w : World) :
    (Instr.makeSlice 100 (.int .i64 10000) (.int .i64 10000)).run Try.prog w = .ok (.slice (some ⟨w.heap.size, 0, none⟩) 10000 10000) (w.alloc (.cells (madeCells #[.bool false] 10000) 4)) := by
  obtain ⟨i, hi, hzz⟩ := Option.map_eq_some_iff.1 infoBl
  simp only [Prod.mk.injEq] at hzz
  obtain ⟨hz, hs, hb⟩ := hzz
  have := run_make (P := Try.prog) w 100 4 i _ Try.underlying100 hi hz .i64 .i64 10000 10000 (by omega) (by omega) (by rw [hb]; omega) (by omega)
  rw [hs, Nat.mul_one] at this
  exact this
end Go.Proofs.Ytfmkedmhbmcbiaa
