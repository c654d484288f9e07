/-
  The graph of a press by those that push: plain, and in memory.
-/
import Derived.Test.YtgpcfkegbcpkpaaPushO
import Derived.Test.YtgpcfkegbcpkpaaRlx
namespace Go.Proofs.Ytgpcfkegbcpkpaa
set_option linter.unusedSimpArgs false
set_option linter.unusedVariables false
open Go.ChangeShapes Go.WideShapes Go.ChangeAt Go.RowKit

/-- Which part pushes, and which one is pushed: upward or downward. -/
def fromH (up : Bool) (r : R3) : Int := if up = true then r.1 else r.2.1
def toH (up : Bool) (r : R3) : Int := if up = true then r.2.1 else r.1
/-- The pushes of part u by the first k rules. -/
def gRow (up : Bool) (rs : List R3) : Nat → Nat → List R3
  | 0, _ => []
  | k + 1, u => if fromH up (rs.getD k r30) = (u : Int) then gRow up rs k u ++ [((k : Int), toH up (rs.getD k r30), (rs.getD k r30).2.2)] else gRow up rs k u
def gRows (up : Bool) (rs : List R3) (N k : Nat) : List (List R3) := (List.range N).map (gRow up rs k)
theorem gRows_len (up : Bool) (rs : List R3) (N k : Nat) : (gRows up rs N k).length = N := by simp [gRows]
theorem gRows_at {up : Bool} {rs : List R3} {N k u : Nat} (h : u < N) : (gRows up rs N k).getD u [] = gRow up rs k u := by
  simp [gRows, List.getD_eq_getElem?_getD, h]
theorem gRow_len (up : Bool) (rs : List R3) : ∀ k u, (gRow up rs k u).length ≤ k
  | 0, _ => Nat.le_refl _
  | k + 1, u => by
    have := gRow_len up rs k u
    unfold gRow; split <;> simp <;> omega
theorem gRow_mem {up : Bool} {rs : List R3} {p : R3} : ∀ {k u}, p ∈ gRow up rs k u ↔ ∃ j, j < k ∧ fromH up (rs.getD j r30) = (u : Int) ∧ p = ((j : Int), toH up (rs.getD j r30), (rs.getD j r30).2.2)
  | 0, u => by simp [gRow]
  | k + 1, u => by
    have ih := gRow_mem (up := up) (rs := rs) (p := p) (k := k) (u := u)
    unfold gRow
    constructor
    · intro h
      split at h
      · rename_i hf
        rcases List.mem_append.1 h with h | h
        · obtain ⟨j, hj, h1⟩ := ih.1 h
          exact ⟨j, by omega, h1⟩
        · exact ⟨k, by omega, hf, by simpa using h⟩
      · obtain ⟨j, hj, h1⟩ := ih.1 h
        exact ⟨j, by omega, h1⟩
    · rintro ⟨j, hj, h1, h2⟩
      rcases Nat.lt_or_ge j k with hlt | hge
      · have := ih.2 ⟨j, hlt, h1, h2⟩
        split
        · exact List.mem_append.2 (.inl this)
        · exact this
      · obtain rfl : j = k := by omega
        rw [if_pos h1]
        exact List.mem_append.2 (.inr (by simp [h2]))
/-- The rules as the graph goes through them: by parts that push. -/
def byU (up : Bool) (rs : List R3) (u : Nat) : List R3 := (gRow up rs rs.length u).map fun p => ((u : Int), p.2.1, p.2.2)
def byG (up : Bool) (rs : List R3) (N : Nat) : List R3 := (List.range N).flatMap (byU up rs)
/-- A rule, turned round where the pushes go downward. -/
def turnR (up : Bool) (r : R3) : R3 := (fromH up r, toH up r, r.2.2)
theorem byG_mem {up : Bool} {rs : List R3} {N : Nat} (h : ∀ r ∈ rs, 0 ≤ fromH up r ∧ fromH up r < (N : Int)) (r : R3) : r ∈ rs.map (turnR up) ↔ r ∈ byG up rs N := by
  simp only [byG, byU, List.mem_flatMap, List.mem_range, List.mem_map]
  constructor
  · rintro ⟨q, hq, rfl⟩
    obtain ⟨j, hj, rfl⟩ := List.mem_iff_getElem.1 hq
    have e : rs.getD j r30 = rs[j] := by simp [List.getD_eq_getElem?_getD, hj]
    obtain ⟨h1, h2⟩ := h _ hq
    refine ⟨(fromH up rs[j]).toNat, by omega, _, gRow_mem.2 ⟨j, hj, by rw [e]; omega, rfl⟩, ?_⟩
    simp only [e, turnR]
    rw [show ((fromH up rs[j]).toNat : Int) = fromH up rs[j] by omega]
  · rintro ⟨u, hu, p, hp, rfl⟩
    obtain ⟨j, hj, h1, rfl⟩ := gRow_mem.1 hp
    have e : rs.getD j r30 = rs[j] := by simp [List.getD_eq_getElem?_getD, hj]
    exact ⟨rs[j], by simp, by simp only [turnR, ← e, h1]⟩

def sl0 : Value := .slice none 0 0
/-- Block G holds the rows F, each in a block of its own. -/
def GrW (w : World) (base G : Nat) (F : List (List R3)) : Prop :=
  ∃ vs : List Value, vs.length = F.length ∧ w.heap[G]? = some (.cells vs.toArray 136 (0, 0)) ∧ (∀ u, u < F.length → OwnU w base (vs.getD u sl0) (F.getD u []) ∧ (vs.getD u sl0).ownBlock ≠ some G) ∧
    ∀ u v, u < F.length → v < F.length → u ≠ v → ApartV (vs.getD u sl0) (vs.getD v sl0)
theorem GrW.lt {w : World} {base G : Nat} {F : List (List R3)} (h : GrW w base G F) : G < w.heap.size := by
  obtain ⟨vs, _, hh, _⟩ := h
  rcases Nat.lt_or_ge G w.heap.size with hlt | hge
  · exact hlt
  · rw [Array.getElem?_eq_none hge] at hh; cases hh
theorem GrW.to {w w1 : World} {base G : Nat} {F : List (List R3)} (h : GrW w base G F) (hb : Below w.heap.size w w1) : GrW w1 base G F := by
  have hl := h.lt
  obtain ⟨vs, h1, h2, h3, h4⟩ := h
  exact ⟨vs, h1, (hb.block G hl).trans h2, fun u hu => ⟨(h3 u hu).1.to hb, (h3 u hu).2⟩, h4⟩
/-- A row's slice, read. -/
theorem GrW.row {w : World} {base G : Nat} {F : List (List R3)} (h : GrW w base G F) {u : Nat} (hu : u < F.length) :
    ∃ v, w.cell? ⟨G, u, none⟩ = some v ∧ OwnU w base v (F.getD u []) ∧ (∃ A c, v = .slice A (F.getD u []).length c) ∧ w.frozen? ⟨G, u, none⟩ = false ∧ v.ownBlock ≠ some G := by
  obtain ⟨vs, h1, h2, h3, h4⟩ := h
  obtain ⟨ho, hne⟩ := h3 u hu
  obtain ⟨A, c, e, _⟩ := ho.rul
  refine ⟨vs.getD u sl0, ?_, ho, ⟨A, c, e⟩, by simp [World.frozen?, h2], hne⟩
  rw [cell_of_row w G _ vs.toArray _ _ h2]
  simp [List.getD_eq_getElem?_getD, h1, hu]
/-- One more push in a row. -/
theorem GrW.push {w w6 : World} {base G : Nat} {F : List (List R3)} (h : GrW w base G F) {u : Nat} (hu : u < F.length) {v v6 : Value} {r : R3} {tmp : Obj} (hv : w.cell? ⟨G, u, none⟩ = some v)
    (ho : OwnU w6 base v6 (F.getD u [] ++ [r])) (hg : (w.alloc tmp).grownBy w6 v.ownBlock) (hb : v6.ownBlock = v.ownBlock ∨ v6.ownBlock = some (w.alloc tmp).heap.size) :
    GrW (w6.setCell ⟨G, u, none⟩ v6) base G (F.set u (F.getD u [] ++ [r])) := by
  have hGl := h.lt
  obtain ⟨vs, h1, h2, h3, h4⟩ := h
  have hvv : vs.getD u sl0 = v := by
    rw [cell_of_row w G _ vs.toArray _ _ h2] at hv
    have hu' : u < vs.length := by omega
    simp [hu'] at hv
    simp [List.getD_eq_getElem?_getD, hu', hv]
  have hz : (w.alloc tmp).heap.size = w.heap.size + 1 := World.size_alloc _ _
  have keep : ∀ i, i < w.heap.size → v.ownBlock ≠ some i → w6.heap[i]? = w.heap[i]? := fun i hi hne => (hg.block i (by omega) (Ne.symm hne)).trans (Below.heap_alloc w _ i hi)
  have hvG : v.ownBlock ≠ some G := by rw [← hvv]; exact (h3 u hu).2
  have hG6 : w6.heap[G]? = some (.cells vs.toArray 136 (0, 0)) := (keep G hGl hvG).trans h2
  have hv6G : v6.ownBlock ≠ some G := by
    rcases hb with hb | hb
    · rw [hb]; exact hvG
    · rw [hb]; intro e; injection e with e; omega
  have hset : ∀ k, k < F.length → (vs.set u v6).getD k sl0 = if k = u then v6 else vs.getD k sl0 := fun k hk => by
    simp only [List.getD_eq_getElem?_getD, List.getElem?_set]
    by_cases e : u = k
    · subst e; simp [h1, hu]
    · rw [if_neg e, if_neg (fun x => e x.symm)]
  have hsetF : ∀ k, k < F.length → (F.set u (F.getD u [] ++ [r])).getD k [] = if k = u then F.getD u [] ++ [r] else F.getD k [] := fun k hk => by
    simp only [List.getD_eq_getElem?_getD, List.getElem?_set]
    by_cases e : u = k
    · subst e; simp [hu]
    · rw [if_neg e, if_neg (fun x => e x.symm)]
  refine ⟨vs.set u v6, by simp [h1], ?_, fun k hk => ?_, fun k l hk hl hne => ?_⟩
  · simp [World.setCell, Array.getElem?_modify, hG6]
  · have hk' : k < F.length := by simpa using hk
    rw [hset k hk', hsetF k hk']
    by_cases e : k = u
    · rw [if_pos e, if_pos e]
      refine ⟨ho.keep fun i hi => Below.heap_setCell w6 ⟨G, u, none⟩ v6 i (fun e => hv6G (by rw [hi]; simpa using e)), hv6G⟩
    · rw [if_neg e, if_neg e]
      obtain ⟨o1, o2⟩ := h3 k hk'
      refine ⟨o1.keep fun i hi => ?_, o2⟩
      rw [Below.heap_setCell w6 ⟨G, u, none⟩ v6 i (fun e => o2 (by rw [hi]; simpa using e))]
      refine keep i (o1.lt hi) fun hvi => ?_
      rw [← hvv] at hvi
      exact h4 k u hk' hu e i hi hvi
  · have hk' : k < F.length := by simpa using hk
    have hl' : l < F.length := by simpa using hl
    rw [hset k hk', hset l hl']
    have fresh : ∀ k, k < F.length → k ≠ u → ApartV v6 (vs.getD k sl0) := fun k hk hne i hi hki => by
      rcases hb with hb | hb
      · rw [hb] at hi
        rw [← hvv] at hi
        exact h4 u k hu hk (fun e => hne e.symm) i hi hki
      · rw [hb] at hi
        injection hi with hi
        have := (h3 k hk).1.lt hki
        omega
    by_cases ek : k = u
    · rw [if_pos ek, if_neg (fun e => hne (ek.trans e.symm))]
      exact fresh l hl' (fun e => hne (ek.trans e.symm))
    · rw [if_neg ek]
      by_cases el : l = u
      · rw [if_pos el]
        exact (fresh k hk' ek).symm
      · rw [if_neg el]
        exact h4 k l hk' hl' hne
/-- The rows F, read only, all below block B. -/
def GraphAt (w : World) (B : Nat) (A : Option Addr) (F : List (List R3)) : Prop :=
  0 < F.length → ∃ G, A = some ⟨G, 0, none⟩ ∧ G < B ∧ ∀ u, u < F.length → ∃ Au cu, w.cell? ⟨G, u, none⟩ = some (.slice Au (F.getD u []).length cu) ∧ RulAt w B Au (F.getD u [])
theorem GrW.graph {w : World} {base G : Nat} {F : List (List R3)} (h : GrW w base G F) : GraphAt w w.heap.size (some ⟨G, 0, none⟩) F := fun _ => by
  refine ⟨G, rfl, h.lt, fun u hu => ?_⟩
  obtain ⟨v, hc, ho, _⟩ := h.row hu
  obtain ⟨A, c, rfl, hr⟩ := ho.rul
  exact ⟨A, c, hc, hr⟩
end Go.Proofs.Ytgpcfkegbcpkpaa
