/-
  A slice of shapes of the call's own; a copy of shapes; the first places laid.
-/
import Derived.Test.YtgpcfkegbcpkpaaShpT
import Derived.Test.YtgpcfkegbcpkpaaCloneSh
namespace Go.Proofs.Ytgpcfkegbcpkpaa
set_option linter.unusedSimpArgs false
set_option linter.unusedVariables false
open Go.ChangeShapes Go.WideShapes Go.ChangeAt Go.RowKit

def cellsH (l : List R4) : List Value := l.flatMap fun r => [.int .i64 r.1, .int .i64 r.2.1, .int .i64 r.2.2.1, .int .i64 r.2.2.2]
theorem cellsH_len (l : List R4) : (cellsH l).length = l.length * 4 := by
  unfold cellsH
  induction l with
  | nil => rfl
  | cons a l ih => simp only [List.flatMap_cons, List.length_append, ih, List.length_cons, List.length_nil]; omega
theorem cellsH_one (L : List R4) : ∀ u ∈ cellsH L, u.oneCell' = true := by
  intro u hu
  unfold cellsH at hu
  obtain ⟨p, _, hp⟩ := List.mem_flatMap.1 hu
  simp at hp
  rcases hp with rfl | rfl | rfl | rfl <;> rfl
theorem cellsH_at : ∀ {l : List R4} {i : Nat}, i < l.length → (cellsH l)[i * 4]? = some (.int .i64 (l.getD i r40).1) ∧ (cellsH l)[i * 4 + 1]? = some (.int .i64 (l.getD i r40).2.1) ∧ (cellsH l)[i * 4 + 2]? = some (.int .i64 (l.getD i r40).2.2.1) ∧ (cellsH l)[i * 4 + 3]? = some (.int .i64 (l.getD i r40).2.2.2)
  | [], i, h => by simp at h
  | r :: l, 0, _ => ⟨rfl, rfl, rfl, rfl⟩
  | r :: l, i + 1, h => by
    have ih := cellsH_at (l := l) (i := i) (by simpa using h)
    have e : ∀ j, (cellsH (r :: l))[j + 4]? = (cellsH l)[j]? := fun j => by
      rw [show cellsH (r :: l) = [.int .i64 r.1, .int .i64 r.2.1, .int .i64 r.2.2.1, .int .i64 r.2.2.2] ++ cellsH l from rfl, List.getElem?_append_right (by simp)]
      simp
    rw [show (i + 1) * 4 = i * 4 + 4 by omega, show i * 4 + 4 + 1 = i * 4 + 1 + 4 by omega, show i * 4 + 4 + 2 = i * 4 + 2 + 4 by omega, show i * 4 + 4 + 3 = i * 4 + 3 + 4 by omega, e, e, e, e]
    simpa using ih
theorem cellsH_get {L : List R4} {j : Nat} {u : Value} (h : (cellsH L)[j]? = some u) : ∃ i, i < L.length ∧ ((j = i * 4 ∧ u = .int .i64 (L.getD i r40).1) ∨ (j = i * 4 + 1 ∧ u = .int .i64 (L.getD i r40).2.1) ∨ (j = i * 4 + 2 ∧ u = .int .i64 (L.getD i r40).2.2.1) ∨ (j = i * 4 + 3 ∧ u = .int .i64 (L.getD i r40).2.2.2)) := by
  have hj : j < L.length * 4 := by
    rcases Nat.lt_or_ge j (cellsH L).length with hh | hh
    · rwa [cellsH_len] at hh
    · rw [List.getElem?_eq_none hh] at h; cases h
  obtain ⟨a, b, c, d⟩ := cellsH_at (l := L) (i := j / 4) (by omega)
  refine ⟨j / 4, by omega, ?_⟩
  have hm : j % 4 = 0 ∨ j % 4 = 1 ∨ j % 4 = 2 ∨ j % 4 = 3 := by omega
  rcases hm with hm | hm | hm | hm
  · have e : j = j / 4 * 4 := by omega
    rw [← e, h] at a
    exact .inl ⟨e, Option.some.inj a⟩
  · have e : j = j / 4 * 4 + 1 := by omega
    rw [← e, h] at b
    exact .inr (.inl ⟨e, Option.some.inj b⟩)
  · have e : j = j / 4 * 4 + 2 := by omega
    rw [← e, h] at c
    exact .inr (.inr (.inl ⟨e, Option.some.inj c⟩))
  · have e : j = j / 4 * 4 + 3 := by omega
    rw [← e, h] at d
    exact .inr (.inr (.inr ⟨e, Option.some.inj d⟩))
theorem shp_of_own {w : World} {B : Nat} {v : Value} {L : List R4} (h : w.ownsRow B 78 4 v L.length (cellsH L)) (h0 : 0 < L.length) : ∃ g c, v = .slice (some ⟨g, 0, none⟩) L.length c ∧ B ≤ g ∧ ShpBlk w g L L.length := by
  rcases h.2 with ⟨rfl, hz⟩ | ⟨g, cap, cur, rfl, hB, hh, hn, _, hs, ht⟩
  · omega
  · refine ⟨g, cap, rfl, hB, cur, hh, by rw [hs]; exact Nat.mul_le_mul_right 4 hn, fun i _ hi => ?_⟩
    have key : ∀ j, j < L.length * 4 → cur[j]? = (cellsH L)[j]? := fun j hj => by
      rw [← ht, List.getElem?_take, if_pos hj, Array.getElem?_toList]
    obtain ⟨a, b, c, d⟩ := cellsH_at hi
    exact ⟨by rw [key _ (by omega)]; exact a, by rw [key _ (by omega)]; exact b, by rw [key _ (by omega)]; exact c, by rw [key _ (by omega)]; exact d⟩
theorem news_shp {w : World} {b off : Nat} {L : List R4} (hc : ∀ i, i < L.length → w.cell? ⟨b, off + i * 4, none⟩ = some (.int .i64 (L.getD i r40).1) ∧ w.cell? ⟨b, off + i * 4 + 1, none⟩ = some (.int .i64 (L.getD i r40).2.1) ∧ w.cell? ⟨b, off + i * 4 + 2, none⟩ = some (.int .i64 (L.getD i r40).2.2.1) ∧ w.cell? ⟨b, off + i * 4 + 3, none⟩ = some (.int .i64 (L.getD i r40).2.2.2)) :
    ∀ j u, (cellsH L)[j]? = some u → w.cell? ⟨b, off + j, none⟩ = some u := by
  intro j u hu
  obtain ⟨i, hi, hor⟩ := cellsH_get hu
  obtain ⟨d0, d1, d2, d3⟩ := hc i hi
  rcases hor with ⟨rfl, rfl⟩ | ⟨rfl, rfl⟩ | ⟨rfl, rfl⟩ | ⟨rfl, rfl⟩
  · exact d0
  · exact d1
  · exact d2
  · exact d3
theorem cloneShp_any (A : Option Addr) (ss : List R4) (c : Nat) (w : World) (hp : ShpAt w w.heap.size A ss) (h0 : 0 < ss.length) (hl : ss.length ≤ 1048576) :
    Calls Try.prog 96 #[.slice A ss.length c] w fun e w' => ∃ g c, e = .returned (.slice (some ⟨g, 0, none⟩) ss.length c) ∧ w.heap.size ≤ g ∧ ShpBlk w' g ss ss.length ∧ Below w.heap.size w w' := by
  obtain ⟨b, off, rfl, hb, hc⟩ := hp h0
  obtain ⟨i0, hi0, hiz, his, hib⟩ := info_parts infoShp
  have cC := AnyE.slices_Clone Try.cloneS i0 _ 4 32 hi0 hiz his hib rfl (by decide) Try.sizeOf78 b off ss.length c (cellsH ss) w (cellsH_len ss) (by unfold maxLen; omega) (by omega) (news_shp hc) (cellsH_one ss)
  change Calls Try.prog 96 _ _ _ at cC
  refine cC.mono ?_
  rintro e w1 ⟨v, rfl, ho, _, hb1⟩
  obtain ⟨g, d, rfl, hg, hP⟩ := shp_of_own ho h0
  exact ⟨g, d, rfl, hg, hP, hb1⟩
/-- The first j places laid. -/
def mixX (ss : List R4) (P : List Int) : Nat → List R4
  | 0 => ss
  | j + 1 => (mixX ss P j).set j (P.getD j 0, ((mixX ss P j).getD j r40).2)
theorem mixX_len (ss : List R4) (P : List Int) : ∀ j, (mixX ss P j).length = ss.length
  | 0 => rfl
  | j + 1 => by rw [mixX, List.length_set, mixX_len ss P j]
theorem ShpBlk.setX {w : World} {g j : Nat} {L : List R4} (h : ShpBlk w g L L.length) (hj : j < L.length) (x : Int) :
    ShpBlk (w.setCell ⟨g, j * 4, none⟩ (.int .i64 x)) g (L.set j (x, (L.getD j r40).2)) L.length := by
  obtain ⟨cs, h0, h1, h2⟩ := h
  refine ⟨cs.setIfInBounds (j * 4) (.int .i64 x), by simp [World.setCell, Array.getElem?_modify, h0], by rw [List.length_set, Array.size_setIfInBounds]; exact h1, fun i hi hl => ?_⟩
  obtain ⟨a, b, c, d⟩ := h2 i hi (by rw [List.length_set] at hl; exact hl)
  rcases Nat.lt_trichotomy i j with hlt | rfl | hgt
  · have e : (L.set j (x, (L.getD j r40).2)).getD i r40 = L.getD i r40 := by rw [List.getD_eq_getElem?_getD, List.getElem?_set_ne (by omega), ← List.getD_eq_getElem?_getD]
    rw [e, Array.getElem?_setIfInBounds_ne (by omega), Array.getElem?_setIfInBounds_ne (by omega), Array.getElem?_setIfInBounds_ne (by omega), Array.getElem?_setIfInBounds_ne (by omega)]
    exact ⟨a, b, c, d⟩
  · have e : (L.set i (x, (L.getD i r40).2)).getD i r40 = (x, (L.getD i r40).2) := by rw [List.getD_eq_getElem?_getD, List.getElem?_set_self hi]; rfl
    rw [e, Array.getElem?_setIfInBounds_ne (i := i * 4) (j := i * 4 + 1) (by omega), Array.getElem?_setIfInBounds_ne (i := i * 4) (j := i * 4 + 2) (by omega), Array.getElem?_setIfInBounds_ne (i := i * 4) (j := i * 4 + 3) (by omega)]
    exact ⟨by simp only [Array.getElem?_setIfInBounds_self]; rw [if_pos (by omega)], b, c, d⟩
  · have e : (L.set j (x, (L.getD j r40).2)).getD i r40 = L.getD i r40 := by rw [List.getD_eq_getElem?_getD, List.getElem?_set_ne (by omega), ← List.getD_eq_getElem?_getD]
    rw [e, Array.getElem?_setIfInBounds_ne (by omega), Array.getElem?_setIfInBounds_ne (by omega), Array.getElem?_setIfInBounds_ne (by omega), Array.getElem?_setIfInBounds_ne (by omega)]
    exact ⟨a, b, c, d⟩
end Go.Proofs.Ytgpcfkegbcpkpaa
