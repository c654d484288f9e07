/-
  Channels: the argument opened; the law's size, copy and comparison.
-/
import Derived.Test.YtpcilpcinbamcaaDoorNums
import Derived.Laws.ResultCell
namespace Go.Proofs.YtpcilpcinbamcaaDoor
set_option linter.unusedSimpArgs false
set_option linter.unusedVariables false
open Go.ChangeShapes Go.WideShapes Go.ChangeAt Go.RowKit

variable {H : Type} {enc : TypeId × Value → H}
set_option maxRecDepth 100000 in
theorem open_nums_trod {w : World} {v : Value} {n : Nat} {y : DataW H × List MemPlace} (hf : DataW.trod enc Tryd.prog w 0 (fun _ => true) true n 22 [v] = some y) :
    ∃ (A : Option Addr) (ns : List Int) (c : Nat), v = .slice A ns.length c ∧ IntsAt w w.heap.size A ns ∧ (∀ n ∈ ns, Fits n) ∧ ns.length ≤ c ∧ c ≤ maxLen := by
  rcases open_ints Tryd.underlying22 Tryd.underlying2 (by kernel_rfl) hf with ⟨hcs, _⟩ | ⟨x, len, cap, zs, hcs, _, hl, hm, hz, _, hcell, hwz⟩
  · injection hcs with hcs
    exact ⟨none, [], 0, by simpa using hcs, fun h => by simp at h, by simp, by simp, by simp⟩
  · injection hcs with hcs
    subst hcs
    simp only [if_true] at hz
    have hlz : (zs.take len).length = len := by simp; omega
    refine ⟨some x, zs.take len, cap, by rw [hlz], ?_, fun n hn => fits_of (hwz n (List.mem_of_mem_take hn)), by omega, hm⟩
    intro h0
    rw [hlz] at h0
    obtain ⟨b, off, spot⟩ := x
    have hc0 := hcell 0 (by omega)
    have hspot : spot = none := by simpa [Addr.add] using World.cell?_spot hc0
    subst hspot
    refine ⟨b, off, rfl, World.block_lt_of_cell? w ⟨b, off, none⟩ (by simpa [Addr.add] using hc0), fun i hi => ?_⟩
    rw [hlz] at hi
    have := hcell i (by omega)
    rw [add_plain] at this
    rw [this]
    simp [List.getD_eq_getElem?_getD, List.getElem?_take, hi]
/-- What a row of a channel is. -/
def RowIn (w : World) (A : Option Addr) (ns : List Int) (c : Nat) : Prop := IntsAt w w.heap.size A ns ∧ (∀ n ∈ ns, Fits n) ∧ ns.length ≤ c ∧ c ≤ maxLen
set_option maxRecDepth 100000 in
theorem open_channel {w : World} {v : Value} {d : DataW H} {p : List MemPlace} {r : Reach} {b0 : Nat} (hv : Value.okWide Tryd.prog w r b0 24 v) (h : DataW.Trod enc Tryd.prog w 0 (fun _ => true) true 24 v d p) :
    ∃ (A : Option Addr) (T : List Int) (c : Nat) (A' : Option Addr) (B : List Int) (c' : Nat), v = .agg #[.slice A T.length c, .slice A' B.length c'] ∧ RowIn w A T c ∧ RowIn w A' B c' := by
  obtain ⟨c0, c1, y0, y1, m, rfl, _, _, hy0, hy1⟩ := Go.Joins.open_agg2 Tryd.underlying24 (by kernel_rfl) (by kernel_rfl) hv h
  obtain ⟨A, T, c, rfl, h0⟩ := open_nums_trod hy0
  obtain ⟨A', B, c', rfl, h1⟩ := open_nums_trod hy1
  exact ⟨A, T, c, A', B, c', rfl, h0, h1⟩

theorem szInt64S_any (A : Option Addr) (n c : Nat) (k : Int) (w : World) (hn : (n : Int) ≤ k) (hk : k ≤ 1048576) :
    Calls Tryd.prog 13 #[.slice A n c, .int .i64 k] w fun e w' => e = .returned (.int .i64 (k - n)) ∧ w = w' := by
  have hz : ¬ (k - (n : Int)) < 0 := by omega
  go_enter Tryd.func13, Tryd.ntmps13
  go_wp2
  go_ret
  exact ⟨rfl, rfl⟩
theorem szInt64S_big (A : Option Addr) (n c : Nat) (k : Int) (w : World) (hn : k < (n : Int)) (hk : 0 ≤ k ∧ k ≤ 1048576) (hm : n ≤ maxLen) :
    Calls Tryd.prog 13 #[.slice A n c, .int .i64 k] w fun e w' => e = .returned (.int .i64 (-1)) ∧ w = w' := by
  unfold maxLen at hm
  obtain ⟨hk0, hk1⟩ := hk
  have hz : (k - (n : Int)) < 0 := by omega
  go_enter Tryd.func13, Tryd.ntmps13
  go_wp2
  go_ret
  exact ⟨rfl, rfl⟩
/-- The size that a law asks for first: it is small, or the law is done. -/
theorem szChannel_fits (A A' : Option Addr) (n n' c c' : Nat) (w : World) (hn : n + n' ≤ 1048576) :
    Calls Tryd.prog 4 #[.agg #[.slice A n c, .slice A' n' c'], .int .i64 1048576] w fun e w' => (∃ k : Int, 0 ≤ k ∧ e = .returned (.int .i64 k)) ∧ Below w.heap.size w w' := by
  have h1 : ¬ (1048576 - (n : Int)) < 0 := by omega
  have h2 : ¬ (1048576 - (n : Int) - (n' : Int)) < 0 := by omega
  go_enter Tryd.func4, Tryd.ntmps4
  go_wp2_with fail
  refine (szInt64S_any A n c 1048576 _ (by omega) (by omega)).mono ?_
  rintro e w1 ⟨rfl, rfl⟩
  go_wp2_with fail
  refine (szInt64S_any A' n' c' (1048576 - (n : Int)) _ (by omega) (by omega)).mono ?_
  rintro e w1 ⟨rfl, rfl⟩
  go_wp2
  go_ret
  exact ⟨⟨_, by omega, rfl⟩, by (repeat (first | assumption | exact Below.refl _ _ | (refine bl_alloc ?_ _) | (refine Below.drew ?_) | (refine bl_drewN ?_ _) | (refine bl_set ?_ (by first | (simp; done) | omega | (simp; omega)) _) | (refine bl_trans ?_ (by assumption)) | (refine bl_step ?_ (by assumption) (by first | omega | exact Below.size (by assumption) | (simp; omega) | (simp; exact Below.size (by assumption))))))⟩
theorem szChannel_big (A A' : Option Addr) (n n' c c' : Nat) (w : World) (hn : 1048576 < n + n') (hm : n ≤ maxLen) (hm' : n' ≤ maxLen) :
    Calls Tryd.prog 4 #[.agg #[.slice A n c, .slice A' n' c'], .int .i64 1048576] w fun e w' => e = .returned (.int .i64 (-1)) ∧ Below w.heap.size w w' := by
  by_cases h : n ≤ 1048576
  · have h1 : ¬ (1048576 - (n : Int)) < 0 := by omega
    go_enter Tryd.func4, Tryd.ntmps4
    go_wp2_with fail
    refine (szInt64S_any A n c 1048576 _ (by omega) (by omega)).mono ?_
    rintro e w1 ⟨rfl, rfl⟩
    go_wp2_with fail
    refine (szInt64S_big A' n' c' (1048576 - (n : Int)) _ (by omega) (by omega) hm').mono ?_
    rintro e w1 ⟨rfl, rfl⟩
    go_wp2
    go_ret
    exact ⟨rfl, by (repeat (first | assumption | exact Below.refl _ _ | (refine bl_alloc ?_ _) | (refine Below.drew ?_) | (refine bl_drewN ?_ _) | (refine bl_set ?_ (by first | (simp; done) | omega | (simp; omega)) _) | (refine bl_trans ?_ (by assumption)) | (refine bl_step ?_ (by assumption) (by first | omega | exact Below.size (by assumption) | (simp; omega) | (simp; exact Below.size (by assumption))))))⟩
  · go_enter Tryd.func4, Tryd.ntmps4
    go_wp2_with fail
    refine (szInt64S_big A n c 1048576 _ (by omega) (by omega) hm).mono ?_
    rintro e w1 ⟨rfl, rfl⟩
    go_wp2
    go_ret
    exact ⟨rfl, by (repeat (first | assumption | exact Below.refl _ _ | (refine bl_alloc ?_ _) | (refine Below.drew ?_) | (refine bl_drewN ?_ _) | (refine bl_set ?_ (by first | (simp; done) | omega | (simp; omega)) _) | (refine bl_trans ?_ (by assumption)) | (refine bl_step ?_ (by assumption) (by first | omega | exact Below.size (by assumption) | (simp; omega) | (simp; exact Below.size (by assumption))))))⟩

/-- A channel's value. -/
abbrev chV (g g' n n' : Nat) : Value := .agg #[.slice (some ⟨g, 0, none⟩) n n, .slice (some ⟨g', 0, none⟩) n' n']
/-- A new channel with the rows T and B. -/
def NewChan (w : World) (T B : List Int) (e : Ending) (w' : World) : Prop :=
  ∃ g g', e = .returned (chV g g' T.length B.length) ∧ NBlk w' g T T.length ∧ NBlk w' g' B B.length ∧ Below w.heap.size w w' ∧ w.heap.size ≤ g ∧ g < g'
set_option maxHeartbeats 400000 in
theorem toChannel_new (A A' : Option Addr) (T B : List Int) (c c' : Nat) (w : World) (hp : IntsAt w w.heap.size A T) (hq : IntsAt w w.heap.size A' B) (hl : T.length ≤ 1048576) (hl' : B.length ≤ 1048576) :
    Calls Tryd.prog 6 #[.agg #[.slice A T.length c, .slice A' B.length c']] w (NewChan w T B) := by
  go_enter Tryd.func6, Tryd.ntmps6
  go_wp2_with fail
  refine (toInt64S_new _ _ _ _ (hp.to (by (repeat (first | assumption | exact Below.refl _ _ | (refine bl_alloc ?_ _) | (refine Below.drew ?_) | (refine bl_drewN ?_ _) | (refine bl_set ?_ (by first | (simp; done) | omega | (simp; omega)) _) | (refine bl_trans ?_ (by assumption)) | (refine bl_step ?_ (by assumption) (by first | omega | exact Below.size (by assumption) | (simp; omega) | (simp; exact Below.size (by assumption)))))))) hl).mono ?_
  rintro e w1 ⟨g1, rfl, hB1, hb1, hg1⟩
  obtain ⟨hc, hf, hz⟩ := bcell hb1
  have hz2 : w.heap.size + 1 + 1 < w1.heap.size := by (simp at hz; omega)
  have hz1 : w.heap.size + 1 < w1.heap.size := by omega
  have hz0 : w.heap.size < w1.heap.size := by omega
  have bel1 : Below w.heap.size w w1 := by (repeat (first | assumption | exact Below.refl _ _ | (refine bl_alloc ?_ _) | (refine Below.drew ?_) | (refine bl_drewN ?_ _) | (refine bl_set ?_ (by first | (simp; done) | omega | (simp; omega)) _) | (refine bl_trans ?_ (by assumption)) | (refine bl_step ?_ (by assumption) (by first | omega | exact Below.size (by assumption) | (simp; omega) | (simp; exact Below.size (by assumption))))))
  have hg1' : w.heap.size + 1 + 1 < g1 := by (simp at hg1; omega)
  go_wp2_with fail
  refine (toInt64S_new _ _ _ _ (hq.to (by (repeat (first | assumption | exact Below.refl _ _ | (refine bl_alloc ?_ _) | (refine Below.drew ?_) | (refine bl_drewN ?_ _) | (refine bl_set ?_ (by first | (simp; done) | omega | (simp; omega)) _) | (refine bl_trans ?_ (by assumption)) | (refine bl_step ?_ (by assumption) (by first | omega | exact Below.size (by assumption) | (simp; omega) | (simp; exact Below.size (by assumption)))))))) hl').mono ?_
  rintro e w2 ⟨g2, rfl, hB2, hb2, hg2⟩
  have hB1' := (NBlk.to (hB1.keep (w' := w1.setCell ⟨w.heap.size + 1 + 1, 0, none⟩ (.slice (some ⟨g1, 0, none⟩) T.length T.length)) (Below.heap_setCell w1 _ _ g1 (by simp; omega))) hb2)
  have hlt1 : g1 < w1.heap.size := hB1.lt
  have hg2' : w1.heap.size ≤ g2 := by simpa using hg2
  obtain ⟨hc2, hf2, hy⟩ := bcell hb2
  have hy2 : w.heap.size + 1 + 1 < w2.heap.size := by (simp at hy; omega)
  have hy1 : w.heap.size + 1 < w2.heap.size := by omega
  have hy0 : w.heap.size < w2.heap.size := by omega
  have bel2 : Below w.heap.size w w2 := by (repeat (first | assumption | exact Below.refl _ _ | (refine bl_alloc ?_ _) | (refine Below.drew ?_) | (refine bl_drewN ?_ _) | (refine bl_set ?_ (by first | (simp; done) | omega | (simp; omega)) _) | (refine bl_trans ?_ (by assumption)) | (refine bl_step ?_ (by assumption) (by first | omega | exact Below.size (by assumption) | (simp; omega) | (simp; exact Below.size (by assumption))))))
  go_wp2
  refine bodyPost_ret_by (v := chV g1 g2 T.length B.length) ?_ rfl ⟨g1, g2, rfl, ?_, ?_, ?_, by omega, by omega⟩
  · simp [results, Tryd.results6, go_sem, hc2, hc, hy0, hy1, hy2, hz0, hz1, hz2]
  · exact (((hB1'.keep (Below.heap_setCell _ _ _ g1 (by simp; omega))).keep (Below.heap_setCell _ _ _ g1 (by simp; omega))).keep (Below.heap_setCell _ _ _ g1 (by simp; omega)))
  · exact (((hB2.keep (Below.heap_setCell _ _ _ g2 (by simp; omega))).keep (Below.heap_setCell _ _ _ g2 (by simp; omega))).keep (Below.heap_setCell _ _ _ g2 (by simp; omega)))
  · (repeat (first | assumption | exact Below.refl _ _ | (refine bl_alloc ?_ _) | (refine Below.drew ?_) | (refine bl_drewN ?_ _) | (refine bl_set ?_ (by first | (simp; done) | omega | (simp; omega)) _) | (refine bl_trans ?_ (by assumption)) | (refine bl_step ?_ (by assumption) (by first | omega | exact Below.size (by assumption) | (simp; omega) | (simp; exact Below.size (by assumption))))))
set_option maxHeartbeats 400000 in
theorem eqChannel_same (A A' C C' : Option Addr) (T B : List Int) (c c' d d' : Nat) (w : World) (hp : IntsAt w w.heap.size A T) (hq : IntsAt w w.heap.size A' B) (hr : IntsAt w w.heap.size C T) (hs : IntsAt w w.heap.size C' B) (hl : T.length ≤ 1048576) (hl' : B.length ≤ 1048576) :
    Calls Tryd.prog 9 #[.agg #[.slice A T.length c, .slice A' B.length c'], .agg #[.slice C T.length d, .slice C' B.length d']] w fun e w' => e = .returned (.bool true) ∧ Below w.heap.size w w' := by
  go_enter Tryd.func9, Tryd.ntmps9
  go_wp2_with fail
  refine (eqInt64S_same _ _ _ _ _ _ (hp.to (by (repeat (first | assumption | exact Below.refl _ _ | (refine bl_alloc ?_ _) | (refine Below.drew ?_) | (refine bl_drewN ?_ _) | (refine bl_set ?_ (by first | (simp; done) | omega | (simp; omega)) _) | (refine bl_trans ?_ (by assumption)) | (refine bl_step ?_ (by assumption) (by first | omega | exact Below.size (by assumption) | (simp; omega) | (simp; exact Below.size (by assumption)))))))) (hr.to (by (repeat (first | assumption | exact Below.refl _ _ | (refine bl_alloc ?_ _) | (refine Below.drew ?_) | (refine bl_drewN ?_ _) | (refine bl_set ?_ (by first | (simp; done) | omega | (simp; omega)) _) | (refine bl_trans ?_ (by assumption)) | (refine bl_step ?_ (by assumption) (by first | omega | exact Below.size (by assumption) | (simp; omega) | (simp; exact Below.size (by assumption)))))))) hl).mono ?_
  rintro e w1 ⟨rfl, hb1⟩
  have b1 : Below w.heap.size w w1 := by (repeat (first | assumption | exact Below.refl _ _ | (refine bl_alloc ?_ _) | (refine Below.drew ?_) | (refine bl_drewN ?_ _) | (refine bl_set ?_ (by first | (simp; done) | omega | (simp; omega)) _) | (refine bl_trans ?_ (by assumption)) | (refine bl_step ?_ (by assumption) (by first | omega | exact Below.size (by assumption) | (simp; omega) | (simp; exact Below.size (by assumption))))))
  obtain ⟨hcc, hff, hz⟩ := bcell hb1
  have hz1 : w.heap.size + 1 < w1.heap.size := by (simp at hz; omega)
  have hz0 : w.heap.size < w1.heap.size := by omega
  go_wp2_with fail
  refine (eqInt64S_same _ _ _ _ _ _ (hq.to b1) (hs.to b1) hl').mono ?_
  rintro e w2 ⟨rfl, hb2⟩
  have b2 : Below w.heap.size w w2 := bl_trans b1 hb2
  go_wp2
  go_ret
  exact ⟨rfl, b2⟩

/-! ### Valid channels -/
/-- The pins of the first i columns, in order. -/
def pinsTo (T B : List Int) : Nat → List Int
  | 0 => []
  | i + 1 => pinsTo T B i ++ [T.getD i 0, B.getD i 0]
def inNet (n : Int) : Bool := inB n 0 12
def single (L : List Int) : Bool := (List.range 12).any fun k => L.count ((k + 1 : Nat) : Int) == 1
def formB (T B : List Int) : Bool := decide (1 ≤ T.length ∧ T.length ≤ 24 ∧ B.length = T.length)
/-- Is a channel valid? -/
def chanB (T B : List Int) : Bool := formB T B && (pinsTo T B T.length).all inNet && !single (pinsTo T B T.length)
theorem pinsTo_len (T B : List Int) (i : Nat) : (pinsTo T B i).length = 2 * i := by
  induction i with
  | zero => rfl
  | succ i ih => simp [pinsTo, ih]; omega
theorem pinsTo_bad {T B : List Int} {i n : Nat} (hi : i ≤ n) (h : (pinsTo T B i).all inNet = false) : (pinsTo T B n).all inNet = false := by
  induction n with
  | zero => obtain rfl : i = 0 := by omega
            exact h
  | succ n ih =>
    by_cases e : i = n + 1
    · subst e; exact h
    · simp only [pinsTo, List.all_append, ih (by omega), Bool.false_and]
theorem all_snoc2 {L : List Int} {a b : Int} (h : L.all inNet = true) : (L ++ [a, b]).all inNet = (inNet a && inNet b) := by simp [h]

/-- Block g holds how often each of the numbers 0 to 12 is in L. -/
def CntAt (w : World) (g : Nat) (t : TypeId) (L : List Int) : Prop :=
  ∃ cs, w.heap[g]? = some (.cells cs t (0, 0)) ∧ cs.size = 13 ∧ ∀ j, j < 13 → cs[j]? = some (.int .i64 (L.count (j : Int) : Int))
theorem CntAt.lt {w : World} {g : Nat} {t : TypeId} {L : List Int} (h : CntAt w g t L) : g < w.heap.size := by
  obtain ⟨cs, h, _⟩ := h
  rcases Nat.lt_or_ge g w.heap.size with hlt | hge
  · exact hlt
  · rw [Array.getElem?_eq_none hge] at h; cases h
theorem CntAt.keep {w w' : World} {g : Nat} {t : TypeId} {L : List Int} (h : CntAt w g t L) (hk : w'.heap[g]? = w.heap[g]?) : CntAt w' g t L := by
  obtain ⟨cs, h0, h1⟩ := h
  exact ⟨cs, hk.trans h0, h1⟩
theorem CntAt.to {w w1 : World} {g : Nat} {t : TypeId} {L : List Int} (h : CntAt w g t L) (hb : Below w.heap.size w w1) : CntAt w1 g t L := h.keep (hb.block g h.lt)
theorem CntAt.at_ {w : World} {g : Nat} {t : TypeId} {L : List Int} (h : CntAt w g t L) {j : Nat} (hj : j < 13) : w.cell? ⟨g, j, none⟩ = some (.int .i64 (L.count (j : Int) : Int)) := by
  obtain ⟨cs, h0, _, h2⟩ := h
  rw [cell_of_row w g _ cs _ _ h0]
  exact h2 j hj
theorem CntAt.frozen {w : World} {g : Nat} {t : TypeId} {L : List Int} (h : CntAt w g t L) (i : Nat) : w.frozen? ⟨g, i, none⟩ = false := by
  obtain ⟨cs, h0, _⟩ := h
  simp [World.frozen?, h0]
theorem CntAt.inc {w : World} {g : Nat} {t : TypeId} {L : List Int} (h : CntAt w g t L) {j : Nat} (hj : j < 13) : CntAt (w.setCell ⟨g, j, none⟩ (.int .i64 ((L.count (j : Int) : Int) + 1))) g t (L ++ [(j : Int)]) := by
  obtain ⟨cs, h0, h1, h2⟩ := h
  refine ⟨cs.setIfInBounds j (.int .i64 ((L.count (j : Int) : Int) + 1)), ?_, by simpa using h1, ?_⟩
  · simp [World.setCell, Array.getElem?_modify, h0]
  · intro i hi
    by_cases e : i = j
    · subst e
      simp only [Array.getElem?_setIfInBounds_self, h1]
      rw [if_pos (by omega)]
      simp
    · rw [Array.getElem?_setIfInBounds_ne (by omega), h2 i hi]
      have : (j : Int) ≠ (i : Int) := by omega
      simp [List.count_append, List.count_cons, this]
end Go.Proofs.YtpcilpcinbamcaaDoor
