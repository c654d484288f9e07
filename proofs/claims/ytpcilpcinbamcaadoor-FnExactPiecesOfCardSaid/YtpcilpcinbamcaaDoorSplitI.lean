/-
  Contract: impl's splitItems at numbers.
-/
import Derived.Test.YtpcilpcinbamcaaDoorSplit
import Derived.Test.YtpcilpcinbamcaaDoorCut
import Derived.Test.YtpcilpcinbamcaaDoorOwnI
import Derived.Test.YtpcilpcinbamcaaDoorReadI
namespace Go.Proofs.YtpcilpcinbamcaaDoor
set_option linter.unusedSimpArgs false
set_option linter.unusedVariables false
open Go.ChangeShapes Go.WideShapes Go.ChangeAt Go.RowKit

/-- s is the text of the numbers ns. -/
def IsList (s : ByteArray) (ns : List Int) : Prop :=
  (s = ⟨#[110, 111, 110, 101]⟩ ∧ ns = []) ∨ (s ≠ ⟨#[110, 111, 110, 101]⟩ ∧ ns.length ≤ 60 ∧ parts 44 s.data.toList = ns.map Lib.itoa ∧ ∀ n ∈ ns, -1000000000 ≤ n ∧ n ≤ 1000000000)

theorem none_long {s : ByteArray} {ns : List Int} {X : List (List UInt8)} (hs : s ≠ ⟨#[110, 111, 110, 101]⟩) (h : parts 44 s.data.toList = ns.map Lib.itoa ++ X) (hX : X ≠ []) (hl : ns.length = 60) : ∀ ms, ¬ IsList s ms := by
  rintro ms (⟨e, _⟩ | ⟨_, h60, hp, _⟩)
  · exact hs e
  · have := congrArg List.length (h.symm.trans hp)
    have := List.length_pos_iff.2 hX
    simp at *
    omega
theorem none_bad {s wd : ByteArray} {ns : List Int} {X : List (List UInt8)} (hs : s ≠ ⟨#[110, 111, 110, 101]⟩) (h : parts 44 s.data.toList = ns.map Lib.itoa ++ wd.data.toList :: X) (hw : ∀ m, ¬ IsNum wd m) : ∀ ms, ¬ IsList s ms := by
  rintro ms (⟨e, _⟩ | ⟨_, _, hp, hb⟩)
  · exact hs e
  · have e := h.symm.trans hp
    have g : (ms.map Lib.itoa)[ns.length]? = some wd.data.toList := by
      rw [← e, List.getElem?_append_right (by simp)]
      simp
    rw [List.getElem?_map] at g
    cases hm : ms[ns.length]? with
    | none => rw [hm] at g; cases g
    | some m =>
      rw [hm] at g
      obtain ⟨b1, b2⟩ := hb m (List.mem_of_getElem? hm)
      exact hw m ⟨b1, b2, (Option.some.inj g).symm⟩

def lenV : Value → Nat
  | .slice _ n _ => n
  | _ => 0
theorem OwnI.nil_ (w : World) (base : Nat) : OwnI w base (.slice none 0 0) [] := ⟨rfl, .inl ⟨rfl, rfl⟩⟩
theorem OwnI.len {w : World} {B : Nat} {v : Value} {L : List Int} (h : OwnI w B v L) : ∃ A c, v = .slice A L.length c := by
  obtain ⟨A, c, e, _⟩ := h.ints
  exact ⟨A, c, e⟩

theorem or_f {P Q : Prop} (h : (false = true ∧ P) ∨ (false = false ∧ Q)) : Q := h.elim (fun h => nomatch h.1) (fun h => h.2)
theorem or_t {P Q : Prop} (h : (true = true ∧ P) ∨ (true = false ∧ Q)) : P := h.elim (fun h => h.2) (fun h => nomatch h.1)

end Go.Proofs.YtpcilpcinbamcaaDoor
