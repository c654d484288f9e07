/-
  Contracts: EvenGrid, as the program has it.
-/
import Derived.Test.YtijnjcamfbnmgaaGridB
import Derived.Test.YtijnjcamfbnmgaaGridI
import Derived.Test.YtijnjcamfbnmgaaAttemptG
namespace Go.Proofs.Ytijnjcamfbnmgaa
set_option linter.unusedSimpArgs false
set_option linter.unusedVariables false
open Go.ChangeShapes Go.WideShapes Go.ChangeAt Go.RowKit Go.Shelf

/-- A row whose numbers come from some place on: those before k are set. -/
def fillB (base : Nat) (room : Int) (k : Nat) : Nat → Int := fun x => if base + x < k then room else 0
theorem GrB.put_in {W : World} {g cnt n k y0 x0 : Nat} {room : Int} {B : Nat → Nat} (h : GrB W g cnt n (fun y => fillB (B y) room k)) (hy : y0 < cnt) (hx : x0 < n) (hk : B y0 + x0 = k) (hd : ∀ y, y < cnt → y ≠ y0 → ∀ x, x < n → B y + x ≠ k) :
    GrB (W.setCell ⟨g + 1 + y0, x0, none⟩ (.int .i64 room)) g cnt n (fun y => fillB (B y) room (k + 1)) := by
  refine ⟨fun y h2 => (World.cell?_of_block (a := ⟨g, y, none⟩) (Below.heap_setCell _ _ _ _ (by dsimp only; omega))).trans (h.outc y h2), by simpa [World.setCell] using h.lt, fun y h2 => ?_⟩
  by_cases e : y = y0
  · subst e
    refine ((h.rows y h2).set_ hx room).congr fun i hi => ?_
    unfold updI fillB
    by_cases ei : i = x0
    · rw [if_pos ei, if_pos (by omega)]
    · rw [if_neg ei]
      by_cases hlt : B y + i < k
      · rw [if_pos hlt, if_pos (by omega)]
      · rw [if_neg hlt, if_neg (by omega)]
  · refine ((h.rows y h2).keep (Below.heap_setCell _ _ _ _ (by dsimp only; omega))).congr fun i hi => ?_
    have := hd y h2 e i hi
    unfold fillB
    by_cases hlt : B y + i < k
    · rw [if_pos hlt, if_pos (by omega)]
    · rw [if_neg hlt, if_neg (by omega)]
theorem GrB.put_out {W : World} {g cnt n k : Nat} {room : Int} {B : Nat → Nat} (h : GrB W g cnt n (fun y => fillB (B y) room k)) {p : Addr} (hp : p.block < g ∨ g + cnt < p.block) (v : Value) (hd : ∀ y, y < cnt → ∀ x, x < n → B y + x ≠ k) :
    GrB (W.setCell p v) g cnt n (fun y => fillB (B y) room (k + 1)) := by
  refine ⟨fun y h2 => (World.cell?_of_block (a := ⟨g, y, none⟩) (Below.heap_setCell _ _ _ _ (by dsimp only; omega))).trans (h.outc y h2), by simpa [World.setCell] using h.lt, fun y h2 => ?_⟩
  refine ((h.rows y h2).keep (Below.heap_setCell _ _ _ _ (by omega))).congr fun i hi => ?_
  have := hd y h2 i hi
  unfold fillB
  by_cases hlt : B y + i < k
  · rw [if_pos hlt, if_pos (by omega)]
  · rw [if_neg hlt, if_neg (by omega)]
theorem GrB.kept {W W' : World} {g cnt n : Nat} {f : Nat → Nat → Int} {row : Option Nat} (h : GrB W g cnt n f) (hg : W.grownBy W' row) (hr : ∀ r, row = some r → ∃ o : Obj, W.heap[r]? = some o ∧ o.isCells = false) : GrB W' g cnt n f :=
  ⟨fun y hy => cell_kept (h.outc y hy) hg hr, Nat.lt_of_lt_of_le h.lt hg.size, fun y hy => by
    obtain ⟨cs, h0, h1⟩ := h.rows y hy
    exact ⟨cs, (grownBy_keeps_cells hg hr h0 rfl).trans h0, h1⟩⟩
/-- What stands while a grid is filled: k of its numbers are set. -/
structure EvI (Z R G gA H m : Nat) (room : Int) (k : Nat) (W : World) : Prop where
  cR : W.cell? ⟨Z, 0, none⟩ = some (.int .i64 room)
  kr : Blk W R #[.slice none 0 0, .slice none 0 0] 53
  kg : Blk W G #[.slice (some ⟨gA, 0, none⟩) H H, .slice (some ⟨gA + 1 + H, 0, none⟩) (H - 1) (H - 1)] 53
  a : GrB W gA H m (fun y => fillB (y * m) room k)
  u : GrB W (gA + 1 + H) (H - 1) (m + 1) (fun y => fillB (H * m + y * (m + 1)) room k)
theorem EvI.own (Z R G gA H m : Nat) (room : Int) : Own (EvI Z R G gA H m room) := fun k W W' row hs hg hr =>
  ⟨cell_kept hs.cR hg hr, hs.kr.keep (grownBy_keeps_cells hg hr hs.kr rfl), hs.kg.keep (grownBy_keeps_cells hg hr hs.kg rfl), hs.a.kept hg hr, hs.u.kept hg hr⟩
theorem EvI.to {Z R G gA H m : Nat} {room : Int} {k : Nat} {W W1 : World} (h : EvI Z R G gA H m room k W) (hb : Below W.heap.size W W1) : EvI Z R G gA H m room k W1 :=
  ⟨(hb.cell (p := ⟨Z, 0, none⟩) (World.block_lt_of_cell? W _ h.cR)).trans h.cR, h.kr.to hb, h.kg.to hb, h.a.to hb, h.u.to hb⟩
def rowP (g : Nat) (y : Nat) : Option Addr := some ⟨g + 1 + y, 0, none⟩
/-- Where the k-th number lies. -/
def AtK (gA H m k b x : Nat) : Prop := (∃ y, y < H ∧ x < m ∧ b = gA + 1 + y ∧ y * m + x = k) ∨ (∃ y, y < H - 1 ∧ x < m + 1 ∧ b = gA + 1 + H + 1 + y ∧ H * m + y * (m + 1) + x = k)
theorem edge_at {gA H m k : Nat} (hk : k < H * m + (H - 1) * (m + 1)) : ∃ ev b x, edgeK H m (m + 1) (rowP gA) (rowP (gA + 1 + H)) k = #[ev, .pointer (some ⟨b, x, none⟩)] ∧ AtK gA H m k b x := by
  by_cases h : k < H * m
  · have hm : 0 < m := by
      rcases Nat.eq_zero_or_pos m with e | e
      · subst e; simp at h
      · exact e
    have hy : k / m < H := by rw [Nat.div_lt_iff_lt_mul hm]; exact h
    have hx : k % m < m := Nat.mod_lt _ hm
    refine ⟨.agg #[.int .i64 ((k % m : Nat) : Int), .int .i64 ((k / m : Nat) : Int), .int .i64 (edX 114 ((k % m : Nat) : Int)), .int .i64 (edY 114 ((k / m : Nat) : Int))], gA + 1 + k / m, k % m, ?_, .inl ⟨k / m, hy, hx, rfl, by rw [Nat.mul_comm]; exact Nat.div_add_mod k m⟩⟩
    unfold edgeK
    rw [if_pos h, edgeV_at (r := gA + 1 + k / m) (o := 0) rfl, Nat.zero_add]
  · have hq : k - H * m < (H - 1) * (m + 1) := by omega
    have hy : (k - H * m) / (m + 1) < H - 1 := by rw [Nat.div_lt_iff_lt_mul (by omega)]; exact hq
    have hx : (k - H * m) % (m + 1) < m + 1 := Nat.mod_lt _ (by omega)
    have hd := Nat.div_add_mod (k - H * m) (m + 1)
    rw [Nat.mul_comm] at hd
    refine ⟨.agg #[.int .i64 (((k - H * m) % (m + 1) : Nat) : Int), .int .i64 (((k - H * m) / (m + 1) : Nat) : Int), .int .i64 (edX 117 (((k - H * m) % (m + 1) : Nat) : Int)), .int .i64 (edY 117 (((k - H * m) / (m + 1) : Nat) : Int))], gA + 1 + H + 1 + (k - H * m) / (m + 1), (k - H * m) % (m + 1), ?_, .inr ⟨(k - H * m) / (m + 1), hy, hx, rfl, by omega⟩⟩
    unfold edgeK
    rw [if_neg h, edgeV_at (r := gA + 1 + H + 1 + (k - H * m) / (m + 1)) (o := 0) rfl, Nat.zero_add]
theorem uniq_in {y x y0 x0 m : Nat} (hx : x < m) (hx0 : x0 < m) (h : y * m + x = y0 * m + x0) : y = y0 := by
  have := congrArg (· / m) h
  simp only [div_in hx, div_in hx0] at this
  exact this
theorem EvI.put {Z R G gA H m : Nat} {room : Int} {k b x : Nat} {W : World} (h : EvI Z R G gA H m room k W) (ha : AtK gA H m k b x) (hZ : Z < gA) (hR : R < gA) (hG : G ≠ b) : EvI Z R G gA H m room (k + 1) (W.setCell ⟨b, x, none⟩ (.int .i64 room)) := by
  have hb : gA < b := by rcases ha with ⟨y, _, _, e, _⟩ | ⟨y, _, _, e, _⟩ <;> omega
  refine ⟨(World.cell?_of_block (a := ⟨Z, 0, none⟩) (Below.heap_setCell _ _ _ _ (by dsimp only; omega))).trans h.cR, h.kr.far (by dsimp only; omega) _, h.kg.far hG _, ?_, ?_⟩
  · rcases ha with ⟨y, hy, hx, rfl, e⟩ | ⟨y, hy, hx, rfl, e⟩
    · exact h.a.put_in hy hx e (fun y2 _ hne x2 hx2 e2 => hne (uniq_in hx2 hx (e2.trans e.symm)))
    · refine h.a.put_out (.inr (by dsimp only; omega)) _ (fun y2 hy2 x2 hx2 e2 => ?_)
      have := mul_in hy2 hx2
      omega
  · rcases ha with ⟨y, hy, hx, rfl, e⟩ | ⟨y, hy, hx, rfl, e⟩
    · refine h.u.put_out (.inl (by dsimp only; omega)) _ (fun y2 hy2 x2 hx2 e2 => ?_)
      have := mul_in hy hx
      omega
    · exact h.u.put_in hy hx e (fun y2 _ hne x2 hx2 e2 => hne (uniq_in hx2 hx (by omega)))
theorem EvI.there {Z R G gA H m : Nat} {room : Int} {k b x : Nat} {W : World} (h : EvI Z R G gA H m room k W) (ha : AtK gA H m k b x) : (∃ v, W.cell? ⟨b, x, none⟩ = some v) ∧ W.frozen? ⟨b, x, none⟩ = false ∧ b < W.heap.size := by
  rcases ha with ⟨y, hy, hx, rfl, e⟩ | ⟨y, hy, hx, rfl, e⟩
  · have := h.a.rows y hy
    exact ⟨⟨_, this.at_ hx⟩, this.frozen x, this.lt⟩
  · have := h.u.rows y hy
    exact ⟨⟨_, this.at_ hx⟩, this.frozen x, this.lt⟩
theorem AtK.lt {gA H m k b x : Nat} {W : World} {f f' : Nat → Nat → Int} (ha : AtK gA H m k b x) (h1 : GrB W gA H m f) (h2 : GrB W (gA + 1 + H) (H - 1) (m + 1) f') : b < W.heap.size := by
  rcases ha with ⟨y, hy, hx, rfl, e⟩ | ⟨y, hy, hx, rfl, e⟩
  · exact (h1.rows y hy).lt
  · exact (h2.rows y hy).lt
end Go.Proofs.Ytijnjcamfbnmgaa
