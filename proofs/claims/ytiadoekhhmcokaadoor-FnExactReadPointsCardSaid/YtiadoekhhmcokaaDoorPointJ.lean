/-
  Contract: impl's parsePoint, at every text.
-/
import Derived.Test.YtiadoekhhmcokaaDoorOwnQ
namespace Go.Proofs.YtiadoekhhmcokaaDoor
set_option linter.unusedSimpArgs false
set_option linter.unusedVariables false
open Go.ChangeShapes Go.WideShapes Go.ChangeAt Go.RowKit

theorem isPt_bd {x y : Int} (h : isPt x y = true) : (-1000000000 ≤ x ∧ x ≤ 1000000000) ∧ (-1000000000 ≤ y ∧ y ≤ 1000000000) := by
  have := isPt_iff.1 h
  omega
theorem point_yes (s : ByteArray) (x y : Int) (w : World) (hs : s.size ≤ 1048576) (h : IsPtTx s x y) (hl : ParseLaid w) :
    Calls Tryd.prog 54 #[.string s] w fun e w' => e = .returned (.tuple #[.agg #[.int .i64 x, .int .i64 y], .nilIface]) ∧ Below w.heap.size w w' := by
  obtain ⟨hp, hpt⟩ := h
  obtain ⟨bx, bY⟩ := isPt_bd hpt
  obtain ⟨wd, rs, b, hc, hor, hw, hr⟩ := cut_step46 s hs
  rcases hor with ⟨rfl, e⟩ | ⟨rfl, e⟩
  · rw [hp] at e
    injection e with e1 e2
    have e3 : rs.data.toList = Lib.itoa y := by rw [← joinM_parts 46 rs.data.toList, ← e2]; rfl
    exact point_good s wd rs x y w hc hw hr ⟨bx.1, bx.2, e1.symm⟩ ⟨bY.1, bY.2, e3⟩ hpt hl
  · rw [hp] at e
    simp at e
theorem point_no (s : ByteArray) (w : World) (hs : s.size ≤ 1048576) (h : ∀ x y, ¬ IsPtTx s x y) (hl : ParseLaid w) :
    Calls Tryd.prog 54 #[.string s] w fun e w' => NoPoint e ∧ Below w.heap.size w w' := by
  obtain ⟨wd, rs, b, hc, hor, hw, hr⟩ := cut_step46 s hs
  rcases hor with ⟨rfl, e⟩ | ⟨rfl, e⟩
  · by_cases hx : ∃ x, IsNum wd x
    · obtain ⟨x, hx⟩ := hx
      by_cases hy : ∃ y, IsNum rs y
      · obtain ⟨y, hy⟩ := hy
        cases hpt : isPt x y
        · exact point_out s wd rs x y w hc hw hr hx hy hpt hl
        · exact absurd ⟨by rw [e, hx.2.2, hy.2.2, parts_itoa], hpt⟩ (h x y)
      · exact point_second s wd rs x w hc hw hr hx (fun m hm => hy ⟨m, hm⟩) hl
    · exact point_first s wd rs w hc hw (fun m hm => hx ⟨m, hm⟩) hl
  · exact point_cut s wd rs w hc
end Go.Proofs.YtiadoekhhmcokaaDoor
