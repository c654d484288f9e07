/-
  Contract: the reached cells, as the program has them.
-/
import Derived.Test.YtepamhdopmfkfaaReachedS
import Derived.Test.YtepamhdopmfkfaaReachV
import Derived.Test.YtepamhdopmfkfaaEachC
namespace Go.Proofs.Ytepamhdopmfkfaa
set_option linter.unusedSimpArgs false
set_option linter.unusedVariables false
open Go.ChangeShapes Go.WideShapes Go.ChangeAt Go.RowKit Go.Shelf
attribute [local go_sem] Oper.semAt_some

theorem own_box (B : Nat) (t : TypeId) (v : Value) : Own (fun (_ : Nat) W => Boxed W B t v) := fun s X Y row hv hg hrow => hv.kept hg (fun e' => by
  obtain ⟨o, ho, hc⟩ := hrow B e'.symm
  rw [show X.heap[B]? = _ from hv] at ho; cases ho; cases hc)
theorem ownFrom_set {B mb : Nat} {l : List Pt} (h : mb < B) : OwnFrom B (fun (_ : Nat) W => SetMap W mb l) := fun _ W W' row hs hg hr =>
  hs.keep (hg.block mb hs.lt (fun e => by have := (hr mb e.symm).1; omega))
theorem new_pair (W : World) (t : TypeId) (a b : Int) : ∀ j u, ([Value.int .i64 a, Value.int .i64 b])[j]? = some u → (W.alloc (.cells #[.int .i64 a, .int .i64 b] t)).cell? ((⟨W.heap.size, 0, none⟩ : Addr).add j) = some u := by
  intro j u hu
  rcases j with _ | _ | j
  · simp at hu; subst hu; simp [Addr.add]
  · simp at hu; subst hu; simp [Addr.add]
  · simp at hu
theorem reachB_out {M : Mz} {p : Pt} (hpo : openB M p.1 p.2 = true) {x y : Nat} (h : wid M ≤ x ∨ M.length ≤ y) : reachB M p ((x : Int), (y : Int)) = false := by
  cases hc : reachB M p ((x : Int), (y : Int))
  · rfl
  · obtain ⟨i, j, hi, hj, hi', hj', _⟩ := openB_pt ((reachB_iff.1 hc).open_ hpo)
    simp only at hi hj
    omega
theorem accS_all {M : Mz} {p : Pt} (hM : MzOk M) (hpo : openB M p.1 p.2 = true) : accS (reachB M p) 144 = reachL M p := by
  rw [show 144 = 12 * 12 from rfl, accS_cols]
  unfold reachL
  exact colsS_more (fun x y h => reachB_out hpo (.inl h)) (fun x y h => reachB_out hpo (.inr h)) 12 12 hM.w12 hM.h12
theorem PtBox.alloc_ {w : World} {G : Nat} {p : Pt} (h : PtBox w G p) (o : Obj) : PtBox (w.alloc o) G p := h.to (by (repeat (first | assumption | exact Below.refl _ _ | (refine bl_alloc ?_ _) | (refine Below.drew ?_) | (refine bl_drewN ?_ _) | (refine bl_set ?_ (by first | (simp; done) | omega | (simp; omega)) _) | (refine bl_trans ?_ (by assumption)) | (refine bl_step ?_ (by assumption) (by first | omega | exact Below.size (by assumption) | (simp; omega) | (simp; exact Below.size (by assumption)))))))
end Go.Proofs.Ytepamhdopmfkfaa
