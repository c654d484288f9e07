/-
  Contracts: the sum of the distances from a root, as the model and the program have it.
-/
import Derived.Test.YtepamhdopmfkfaaBoxBound
import Derived.Test.YtepamhdopmfkfaaPlanT
namespace Go.Proofs.Ytepamhdopmfkfaa
set_option linter.unusedSimpArgs false
set_option linter.unusedVariables false
open Go.ChangeShapes Go.WideShapes Go.ChangeAt Go.RowKit Go.Shelf
open Go.Proofs.Ytepamhdopmfkfaa.fnExactBoxOf

/-- The sum of the distances of the first k from a point. -/
def starTo (ps : List Pt) (x y : Int) : Nat → Int
  | 0 => 0
  | k + 1 => starTo ps x y k + farI (ps.getD k (0, 0)).1 (ps.getD k (0, 0)).2 x y
theorem starTo_succ (ps : List Pt) (x y : Int) (k : Nat) : starTo ps x y (k + 1) = starTo ps x y k + farI (ps.getD k (0, 0)).1 (ps.getD k (0, 0)).2 x y := rfl
theorem far_in {x y x' y' : Int} (h : isPt x y = true) (h' : isPt x' y' = true) : 0 ≤ farI x y x' y' ∧ farI x y x' y' ≤ 200 := by
  have := isPt_iff.1 h; have := isPt_iff.1 h'
  unfold farI absI; split <;> split <;> omega
theorem starTo_in {ps : List Pt} {x y : Int} (ha : allPt ps = true) (hr : isPt x y = true) : ∀ k, k ≤ ps.length → 0 ≤ starTo ps x y k ∧ starTo ps x y k ≤ 200 * (k : Int)
  | 0, _ => by simp [starTo]
  | k + 1, h => by
    have h1 := starTo_in ha hr k (by omega)
    have h2 := far_in (allPt_at ha (show k < ps.length by omega)) hr
    rw [starTo_succ]
    omega
/-- A region that draws its order, by a tree of plans, with whatever end. -/
theorem wp_region_tree {P : Program} {ops : Array Oper} {Q : Exit → Act → World → Prop} {id : Nat} {a : Act} {w : World} (S : World → Prop) (plan : Pl) (hm : P.follows .mixedOrders = true) (hs : Region.noSelect ops = true)
    (hok : treeOk .any ops ops.size (Array.replicate ops.size false) plan = true) (hQ : ∀ c d v a w, Q (.panic c) (a.put d v) w → Q (.panic c) a w) (hS : S w.drew)
    (h : S w.drew → TreeWp P ops Q S plan a w.drew) : (Code.region id ops true).wp P Q a w := wp_region_held (S := S) hm (tree_sound hs hQ plan _ _ _ _ hok hS (h hS))
theorem tplan_endQ {P : Program} {ops : Array Oper} {Q : Exit → Act → World → Prop} {S : World → Prop} {a : Act} {w : World} (h : Q .normal a w) : TreeWp P ops Q S .done a w := by
  with_unfolding_all exact h

set_option maxRecDepth 100000 in
set_option maxHeartbeats 800000 in
theorem l05Star_any (A : Option Addr) (ps : List Pt) (c : Nat) (x y : Int) (w : World) (hp : PtsAt w w.heap.size A ps) (h20 : ps.length ≤ 20) (ha : allPt ps = true) (hr : isPt x y = true) :
    Calls Try.prog 56 #[.slice A ps.length c, .agg #[.int .i64 x, .int .i64 y]] w fun e w' => e = .returned (.int .i64 (starTo ps x y ps.length)) ∧ Below w.heap.size w w' := by
  obtain ⟨r1, r2⟩ := isPt_lo hr
  have HA := Lib.hid ha
  have HR := Lib.hid hr
  clear ha hr
  go_enter Try.func56, Try.ntmps56
  go_wp2
  go_loopw [5, 6] (fun s i wr => ∃ k : Nat, k ≤ ps.length ∧ i = .int .i64 k ∧ s = .int .i64 (starTo ps x y k) ∧ wr.cell? ⟨w.heap.size, 0, none⟩ = some (.int .i64 x) ∧ wr.cell? ⟨w.heap.size, 0 + 1, none⟩ = some (.int .i64 y) ∧ Below w.heap.size w wr ∧ w.heap.size < wr.heap.size) (fun _ i _ => ps.length - (intOf i).toNat)
  case atStart => exact ⟨0, Nat.zero_le _, rfl, rfl, by simp, by simp, by (repeat (first | assumption | exact Below.refl _ _ | (refine bl_alloc ?_ _) | (refine Below.drew ?_) | (refine bl_drewN ?_ _) | (refine bl_set ?_ (by first | (simp; done) | omega | (simp; omega)) _) | (refine bl_trans ?_ (by assumption)) | (refine bl_step ?_ (by assumption) (by first | omega | exact Below.size (by assumption) | (simp; omega) | (simp; exact Below.size (by assumption)))))), by simp⟩
  case round =>
    obtain ⟨k, hk, rfl, rfl, q0, q1, hb, hz⟩ := hrel
    by_cases hlt : k < ps.length
    · obtain ⟨b, off, rfl, hbB, hc⟩ := hp (by omega)
      obtain ⟨c0, c1⟩ := hc k hlt
      have d0 := (hb.cell (p := ⟨b, off + k * 2, none⟩) hbB).trans c0
      have d1 := (hb.cell (p := ⟨b, off + k * 2 + 1, none⟩) hbB).trans c1
      have HS := Lib.hid (starTo_succ ps x y k)
      obtain ⟨m1, m2⟩ := isPt_lo (allPt_at HA.out hlt)
      have s1 := starTo_in HA.out HR.out k hk
      have f1 := far_in (allPt_at HA.out hlt) HR.out
      generalize (ps.getD k (0, 0)).1 = xk at *
      generalize (ps.getD k (0, 0)).2 = yk at *
      have hF : IntKind.i64.wrap (starTo ps x y k + farI xk yk x y) = starTo ps x y (k + 1) := by rw [HS.out]; exact IntWalk.i64_in _ (by omega)
      have hltI : (k : Int) < (ps.length : Int) := by omega
      have hk0 : (0 : Int) ≤ (k : Int) := by omega
      obtain ⟨n2, hn2⟩ : ∃ n2, starTo ps x y (k + 1) = n2 := ⟨_, rfl⟩
      rw [hn2] at hF
      have HN2 := Lib.hid hn2
      generalize starTo ps x y k = n1 at *
      clear hc c0 c1 hp HS s1 f1 hn2
      go_wp2
      refine wp_region_plan (fun wx => wx.cell? ⟨b, off + k * 2, none⟩ = some (.int .i64 xk) ∧ wx.cell? ⟨b, off + k * 2 + 1, none⟩ = some (.int .i64 yk) ∧ wx.cell? ⟨w.heap.size, 0, none⟩ = some (.int .i64 x) ∧ wx.cell? ⟨w.heap.size, 0 + 1, none⟩ = some (.int .i64 y) ∧ Below w.heap.size w wx ∧ w.heap.size ≤ wx.heap.size) [(0, true), (1, true), (2, true), (3, true), (4, true), (5, true), (6, false), (7, true), (8, true)] (by kernel_rfl) (by kernel_rfl) (by kernel_rfl) (fun _ d _ _ _ h => by cases d <;> exact h) ⟨d0, d1, q0, q1, hb.drew, by show w.heap.size ≤ wr.heap.size; omega⟩ (fun hS0 => ?_)
      refine plan_w (v := ?_) rfl (by rfl) ?_ ?_
      rotate_left
      · intro wx hSx
        try dsimp only at hSx
        go_simp
        try (with_reducible rfl)
      try simp only [Act.put, List.setIfInBounds_toArray, List.set_cons_zero, List.set_cons_succ]
      refine plan_w (v := ?_) rfl (by rfl) ?_ ?_
      rotate_left
      · intro wx hSx
        try dsimp only at hSx
        go_simp
        try (with_reducible rfl)
      try simp only [Act.put, List.setIfInBounds_toArray, List.set_cons_zero, List.set_cons_succ]
      refine plan_w (v := ?_) rfl (by rfl) ?_ ?_
      rotate_left
      · intro wx hSx
        try dsimp only at hSx
        go_simp
        try (with_reducible rfl)
      try simp only [Act.put, List.setIfInBounds_toArray, List.set_cons_zero, List.set_cons_succ]
      refine plan_w (v := ?_) rfl (by rfl) ?_ ?_
      rotate_left
      · intro wx hSx
        try dsimp only at hSx
        go_simp
        try (with_reducible rfl)
      try simp only [Act.put, List.setIfInBounds_toArray, List.set_cons_zero, List.set_cons_succ]
      refine plan_w (v := ?_) rfl (by rfl) ?_ ?_
      rotate_left
      · intro wx hSx
        try dsimp only at hSx
        go_simp
        try (with_reducible rfl)
      try simp only [Act.put, List.setIfInBounds_toArray, List.set_cons_zero, List.set_cons_succ]
      refine plan_w (v := ?_) rfl (by rfl) ?_ ?_
      rotate_left
      · intro wx hSx
        try dsimp only at hSx
        go_simp
        try (with_reducible rfl)
      try simp only [Act.put, List.setIfInBounds_toArray, List.set_cons_zero, List.set_cons_succ]
      refine plan_b rfl (fun K hK => ?_)
      go_simp
      refine (l01Far_any _ _ _ _ _ m1 m2 r1 r2).mono ?_
      rintro e w1 ⟨rfl, hb1⟩
      have hS1 := keep4 hS0 hb1
      refine hK _ _ ⟨hS1, ?_⟩
      clear hK K
      try simp only [Act.put, List.setIfInBounds_toArray, List.set_cons_zero, List.set_cons_succ]
      refine plan_w (v := ?_) rfl (by rfl) ?_ ?_
      rotate_left
      · intro wx hSx
        try dsimp only at hSx
        go_simp
        try (with_reducible rfl)
      try simp only [Act.put, List.setIfInBounds_toArray, List.set_cons_zero, List.set_cons_succ]
      refine plan_w (v := ?_) rfl (by rfl) ?_ ?_
      rotate_left
      · intro wx hSx
        try dsimp only at hSx
        go_simp
        try (with_reducible rfl)
      try simp only [Act.put, List.setIfInBounds_toArray, List.set_cons_zero, List.set_cons_succ]
      refine plan_end ?_
      go_wp2
      go_roundw
      case rel => exact ⟨k + 1, by omega, by go_num, by rw [HN2.out], hS1.2.2.1, hS1.2.2.2.1, fifth hS1, by have := hb1.size; simp at this; omega⟩
      case measure => simp [intOf]; omega
    · obtain rfl : k = ps.length := by omega
      go_wp2
      go_ret
      exact ⟨rfl, hb⟩

def Star3 (w : World) (g : Nat) (x y n : Int) : Prop := w.heap[g]? = some (.cells #[.int .i64 x, .int .i64 y, .int .i64 n] 77 (0, 0))
theorem Star3.lt {w : World} {g : Nat} {x y n : Int} (h : Star3 w g x y n) : g < w.heap.size := by
  rcases Nat.lt_or_ge g w.heap.size with hl | hl
  · exact hl
  · rw [Star3, Array.getElem?_eq_none (by omega)] at h; cases h
theorem Star3.new {w : World} {g : Nat} (x y n : Int) (h : g = w.heap.size) : Star3 (w.alloc (.cells #[.int .i64 x, .int .i64 y, .int .i64 n] 77)) g x y n := by
  subst h; unfold Star3 World.alloc; simp
theorem Star3.alloc {w : World} {g : Nat} {x y n : Int} (h : Star3 w g x y n) (o : Obj) : Star3 (w.alloc o) g x y n := (Below.heap_alloc w o g h.lt).trans h
theorem Star3.frozen {w : World} {g : Nat} {x y n : Int} (h : Star3 w g x y n) (i : Nat) : w.frozen? ⟨g, i, none⟩ = false := by simp [World.frozen?, show w.heap[g]? = _ from h]
theorem Star3.put {w : World} {g : Nat} {x y n : Int} (h : Star3 w g x y n) (a b m : Int) : Star3 (((w.setCell ⟨g, 0, none⟩ (.int .i64 a)).setCell ⟨g, 1, none⟩ (.int .i64 b)).setCell ⟨g, 2, none⟩ (.int .i64 m)) g a b m := by
  unfold Star3 at h ⊢
  simp [World.setCell, Array.getElem?_modify, h]
theorem Star3.keep {w w' : World} {g : Nat} {x y n : Int} (h : Star3 w g x y n) (hk : w'.heap[g]? = w.heap[g]?) : Star3 w' g x y n := hk.trans h
theorem Star3.to {w w1 : World} {g : Nat} {x y n : Int} (h : Star3 w g x y n) (hb : Below w.heap.size w w1) : Star3 w1 g x y n := h.keep (hb.block g h.lt)
theorem Star3.far {w : World} {g : Nat} {x y n : Int} (h : Star3 w g x y n) {p : Addr} (hp : g ≠ p.block) (u : Value) : Star3 (w.setCell p u) g x y n := (Below.heap_setCell w p u g hp).trans h
theorem Star3.set2 {w : World} {g : Nat} {x y n : Int} (h : Star3 w g x y n) (m : Int) : Star3 (w.setCell ⟨g, 2, none⟩ (.int .i64 m)) g x y m := by
  unfold Star3 at h ⊢
  simp [World.setCell, Array.getElem?_modify, h]
theorem Star3.cell0 {w : World} {g : Nat} {x y n : Int} (h : Star3 w g x y n) : w.cell? ⟨g, 0, none⟩ = some (.int .i64 x) := by simp [World.cell?, show w.heap[g]? = _ from h]
theorem Star3.cell1 {w : World} {g : Nat} {x y n : Int} (h : Star3 w g x y n) : w.cell? ⟨g, 1, none⟩ = some (.int .i64 y) := by simp [World.cell?, show w.heap[g]? = _ from h]
theorem Star3.cell2 {w : World} {g : Nat} {x y n : Int} (h : Star3 w g x y n) : w.cell? ⟨g, 2, none⟩ = some (.int .i64 n) := by simp [World.cell?, show w.heap[g]? = _ from h]
theorem Star3.frozen2 {w : World} {g : Nat} {x y n : Int} (h : Star3 w g x y n) : w.frozen? ⟨g, 2, none⟩ = false := by simp [World.frozen?, show w.heap[g]? = _ from h]
theorem keep4s {N : Nat} {w wr : World} {b1 o1 b2 o2 : Nat} {X Y X' Y' : Value}
    (h : wr.cell? ⟨b1, o1, none⟩ = some X ∧ wr.cell? ⟨b1, o1 + 1, none⟩ = some Y ∧ wr.cell? ⟨b2, o2, none⟩ = some X' ∧ wr.cell? ⟨b2, o2 + 1, none⟩ = some Y' ∧ Below N w wr ∧ N ≤ wr.heap.size) {p : Addr} (h1 : p.block ≠ b1) (h2 : p.block ≠ b2) (h3 : N ≤ p.block) (u : Value) :
    (wr.setCell p u).cell? ⟨b1, o1, none⟩ = some X ∧ (wr.setCell p u).cell? ⟨b1, o1 + 1, none⟩ = some Y ∧ (wr.setCell p u).cell? ⟨b2, o2, none⟩ = some X' ∧ (wr.setCell p u).cell? ⟨b2, o2 + 1, none⟩ = some Y' ∧ Below N w (wr.setCell p u) ∧ N ≤ (wr.setCell p u).heap.size := by
  obtain ⟨a, b, c, d, e, f⟩ := h
  have n1 : ∀ o, p ≠ (⟨b1, o, none⟩ : Addr) := fun o e => h1 (by rw [e])
  have n2 : ∀ o, p ≠ (⟨b2, o, none⟩ : Addr) := fun o e => h2 (by rw [e])
  exact ⟨(World.cell?_setCell_other _ _ _ _ (n1 _)).trans a, (World.cell?_setCell_other _ _ _ _ (n1 _)).trans b, (World.cell?_setCell_other _ _ _ _ (n2 _)).trans c, (World.cell?_setCell_other _ _ _ _ (n2 _)).trans d, e.setCell h3 u, by simpa using f⟩
set_option maxRecDepth 100000 in
set_option maxHeartbeats 1600000 in
theorem starFrom_any (A : Option Addr) (ps : List Pt) (c : Nat) (x y : Int) (w : World) (hp : PtsAt w w.heap.size A ps) (h20 : ps.length ≤ 20) (ha : allPt ps = true) (hr : isPt x y = true) :
    Calls Try.prog 59 #[.slice A ps.length c, .agg #[.int .i64 x, .int .i64 y]] w fun e w' => e = .returned (.agg #[.int .i64 x, .int .i64 y, .int .i64 (starTo ps x y ps.length)]) ∧ Below w.heap.size w w' := by
  obtain ⟨r1, r2⟩ := isPt_lo hr
  have HA := Lib.hid ha
  have HR := Lib.hid hr
  clear ha hr
  have hR : One (((w.alloc (.cells #[.int .i64 x, .int .i64 y] 33)).alloc (.cells #[.int .i64 0, .int .i64 0, .int .i64 0] 77)).alloc (.cells #[.int .i64 x, .int .i64 y, .int .i64 0] 77)) w.heap.size x y := ((heap_alloc_at _ _ rfl).alloc _).alloc _
  have hU : Star3 (((w.alloc (.cells #[.int .i64 x, .int .i64 y] 33)).alloc (.cells #[.int .i64 0, .int .i64 0, .int .i64 0] 77)).alloc (.cells #[.int .i64 x, .int .i64 y, .int .i64 0] 77)) (w.heap.size + 1) 0 0 0 := (Star3.new _ _ _ (by simp)).alloc _
  have hT : Star3 (((w.alloc (.cells #[.int .i64 x, .int .i64 y] 33)).alloc (.cells #[.int .i64 0, .int .i64 0, .int .i64 0] 77)).alloc (.cells #[.int .i64 x, .int .i64 y, .int .i64 0] 77)) (w.heap.size + 1 + 1) x y 0 := Star3.new _ _ _ (by simp)
  have hB : Below w.heap.size w (((w.alloc (.cells #[.int .i64 x, .int .i64 y] 33)).alloc (.cells #[.int .i64 0, .int .i64 0, .int .i64 0] 77)).alloc (.cells #[.int .i64 x, .int .i64 y, .int .i64 0] 77)) := by (repeat (first | assumption | exact Below.refl _ _ | (refine bl_alloc ?_ _) | (refine Below.drew ?_) | (refine bl_drewN ?_ _) | (refine bl_set ?_ (by first | (simp; done) | omega | (simp; omega)) _) | (refine bl_trans ?_ (by assumption)) | (refine bl_step ?_ (by assumption) (by first | omega | exact Below.size (by assumption) | (simp; omega) | (simp; exact Below.size (by assumption))))))
  go_enter Try.func59, Try.ntmps59
  go_wp2
  go_loopw [7, 12] (fun _ i wr => ∃ k : Nat, k ≤ ps.length ∧ i = .int .i64 k ∧ One wr w.heap.size x y ∧ Star3 wr (w.heap.size + 1) 0 0 0 ∧ Star3 wr (w.heap.size + 1 + 1) x y (starTo ps x y k) ∧ Below w.heap.size w wr) (fun _ i _ => ps.length - (intOf i).toNat)
  case atStart => exact ⟨0, Nat.zero_le _, rfl, hR, hU, hT, hB⟩
  case round =>
    clear hR hU hT hB
    obtain ⟨k, hk, rfl, hR, hU, hT, hb⟩ := hrel
    by_cases hlt : k < ps.length
    · obtain ⟨b, off, rfl, hbB, hc⟩ := hp (by omega)
      obtain ⟨c0, c1⟩ := hc k hlt
      have d0 := (hb.cell (p := ⟨b, off + k * 2, none⟩) hbB).trans c0
      have d1 := (hb.cell (p := ⟨b, off + k * 2 + 1, none⟩) hbB).trans c1
      have HS := Lib.hid (starTo_succ ps x y k)
      obtain ⟨m1, m2⟩ := isPt_lo (allPt_at HA.out hlt)
      have s1 := starTo_in HA.out HR.out k hk
      have f1 := far_in (allPt_at HA.out hlt) HR.out
      generalize (ps.getD k (0, 0)).1 = xk at *
      generalize (ps.getD k (0, 0)).2 = yk at *
      have hF : IntKind.i64.wrap (starTo ps x y k + farI xk yk x y) = starTo ps x y (k + 1) := by rw [HS.out]; exact IntWalk.i64_in _ (by omega)
      have hltI : (k : Int) < (ps.length : Int) := by omega
      have hk0 : (0 : Int) ≤ (k : Int) := by omega
      obtain ⟨n2, hn2⟩ : ∃ n2, starTo ps x y (k + 1) = n2 := ⟨_, rfl⟩
      rw [hn2] at hF
      have HN2 := Lib.hid hn2
      generalize starTo ps x y k = n1 at *
      clear hc c0 c1 hp HS s1 f1 hn2
      have hgl := hT.lt
      have hX : One (wr.alloc (.cells #[.int .i64 xk, .int .i64 yk] 33)) wr.heap.size xk yk := heap_alloc_at _ _ rfl
      have hR0 : One (wr.alloc (.cells #[.int .i64 xk, .int .i64 yk] 33)).drew w.heap.size x y := (hR.alloc _).drew
      have hU0 : Star3 (wr.alloc (.cells #[.int .i64 xk, .int .i64 yk] 33)).drew (w.heap.size + 1) 0 0 0 := hU.to (by (repeat (first | assumption | exact Below.refl _ _ | (refine bl_alloc ?_ _) | (refine Below.drew ?_) | (refine bl_drewN ?_ _) | (refine bl_set ?_ (by first | (simp; done) | omega | (simp; omega)) _) | (refine bl_trans ?_ (by assumption)) | (refine bl_step ?_ (by assumption) (by first | omega | exact Below.size (by assumption) | (simp; omega) | (simp; exact Below.size (by assumption)))))))
      have hT0 : Star3 (wr.alloc (.cells #[.int .i64 xk, .int .i64 yk] 33)).drew (w.heap.size + 1 + 1) x y n1 := hT.to (by (repeat (first | assumption | exact Below.refl _ _ | (refine bl_alloc ?_ _) | (refine Below.drew ?_) | (refine bl_drewN ?_ _) | (refine bl_set ?_ (by first | (simp; done) | omega | (simp; omega)) _) | (refine bl_trans ?_ (by assumption)) | (refine bl_step ?_ (by assumption) (by first | omega | exact Below.size (by assumption) | (simp; omega) | (simp; exact Below.size (by assumption)))))))
      have cT0 := hT0.cell2
      have bx : Below w.heap.size w (wr.alloc (.cells #[.int .i64 xk, .int .i64 yk] 33)).drew := (hb.alloc hb.size _).drew
      obtain ⟨x0, x1, _, _⟩ := hX.cells
      obtain ⟨y0, y1, _, _⟩ := hR0.cells
      clear hR hU hT hX
      go_wp2
      refine wp_region_tree (fun wx => wx.cell? ⟨wr.heap.size, 0, none⟩ = some (.int .i64 xk) ∧ wx.cell? ⟨wr.heap.size, 0 + 1, none⟩ = some (.int .i64 yk) ∧ wx.cell? ⟨w.heap.size, 0, none⟩ = some (.int .i64 x) ∧ wx.cell? ⟨w.heap.size, 0 + 1, none⟩ = some (.int .i64 y) ∧ Below w.heap.size w wx ∧ w.heap.size ≤ wx.heap.size)
        (Pl.takes [0, 2, 3] (.fork 1 (.alone 4 (Pl.takes [5, 6] (.alone 7 .done))) 4 (.alone 1 (Pl.takes [5, 6] (.alone 7 .done)))))
        (by kernel_rfl) (by kernel_rfl) (by kernel_rfl) (fun _ d _ _ _ h => by cases d <;> exact h) ⟨x0, x1, y0, y1, bx, by simp; omega⟩ (fun hS0 => ?_)
      refine tplan_w (v := ?_) rfl (by rfl) ?_ ?_
      rotate_left
      · intro wx hSx
        try dsimp only at hSx
        go_simp
        try (with_reducible rfl)
      try simp only [Act.put, List.setIfInBounds_toArray, List.set_cons_zero, List.set_cons_succ]
      refine tplan_w (v := ?_) rfl (by rfl) ?_ ?_
      rotate_left
      · intro wx hSx
        try dsimp only at hSx
        go_simp
        try (with_reducible rfl)
      try simp only [Act.put, List.setIfInBounds_toArray, List.set_cons_zero, List.set_cons_succ]
      refine tplan_w (v := ?_) rfl (by rfl) ?_ ?_
      rotate_left
      · intro wx hSx
        try dsimp only at hSx
        go_simp
        try (with_reducible rfl)
      try simp only [Act.put, List.setIfInBounds_toArray, List.set_cons_zero, List.set_cons_succ]
      refine tplan_fork ?_ ?_
      · skip
        refine tplan_b rfl (fun K hK => ?_)
        go_simp
        refine hK _ _ ⟨hS0, ?_⟩
        clear hK K
        try simp only [Act.put, List.setIfInBounds_toArray, List.set_cons_zero, List.set_cons_succ]
        refine tplan_b rfl (fun K hK => ?_)
        go_simp
        refine (distance_any _ _ _ _ _ m1 m2 r1 r2).mono ?_
        rintro e w1 ⟨rfl, hb1⟩
        have hS1 := keep4 hS0 hb1
        have hT1 := hT0.to hb1
        have hU1 := hU0.to hb1
        have hR1 := hR0.to hb1
        have cT1 := hT1.cell2
        have fT1 := hT1.frozen2
        refine hK _ _ ⟨hS1, ?_⟩
        clear hK K
        try simp only [Act.put, List.setIfInBounds_toArray, List.set_cons_zero, List.set_cons_succ]
        refine tplan_w (v := ?_) rfl (by rfl) ?_ ?_
        rotate_left
        · intro wx hSx
          try dsimp only at hSx
          go_simp
          try (with_reducible rfl)
        try simp only [Act.put, List.setIfInBounds_toArray, List.set_cons_zero, List.set_cons_succ]
        refine tplan_w (v := ?_) rfl (by rfl) ?_ ?_
        rotate_left
        · intro wx hSx
          try dsimp only at hSx
          go_simp
          try (with_reducible rfl)
        try simp only [Act.put, List.setIfInBounds_toArray, List.set_cons_zero, List.set_cons_succ]
        refine tplan_b rfl (fun K hK => ?_)
        go_simp
        refine hK _ _ ⟨keep4s hS1 (p := ⟨w.heap.size + 1 + 1, 2, none⟩) (by simp; omega) (by simp; omega) (by simp; omega) _, ?_⟩
        clear hK K
        try simp only [Act.put, List.setIfInBounds_toArray, List.set_cons_zero, List.set_cons_succ]
        refine tplan_endQ ?_
        have hR2 := hR1.far (p := ⟨w.heap.size + 1 + 1, 2, none⟩) (by simp; omega) (.int .i64 n2)
        have hU2 := hU1.far (p := ⟨w.heap.size + 1 + 1, 2, none⟩) (by simp) (.int .i64 n2)
        have hT2 := hT1.set2 n2
        have b2 := (fifth hS1).setCell (p := ⟨w.heap.size + 1 + 1, 2, none⟩) (by simp; omega) (.int .i64 n2)
        go_wp2
        go_roundw
        case rel => exact ⟨k + 1, by omega, by go_num, hR2, hU2, by rw [HN2.out]; exact hT2, b2⟩
        case measure => simp [intOf]; omega
      · skip
        refine tplan_b rfl (fun K hK => ?_)
        go_simp
        refine (distance_any _ _ _ _ _ m1 m2 r1 r2).mono ?_
        rintro e w1 ⟨rfl, hb1⟩
        have hS1 := keep4 hS0 hb1
        have hT1 := hT0.to hb1
        have hU1 := hU0.to hb1
        have hR1 := hR0.to hb1
        have cT1 := hT1.cell2
        have fT1 := hT1.frozen2
        refine hK _ _ ⟨hS1, ?_⟩
        clear hK K
        try simp only [Act.put, List.setIfInBounds_toArray, List.set_cons_zero, List.set_cons_succ]
        refine tplan_b rfl (fun K hK => ?_)
        go_simp
        refine hK _ _ ⟨hS1, ?_⟩
        clear hK K
        try simp only [Act.put, List.setIfInBounds_toArray, List.set_cons_zero, List.set_cons_succ]
        refine tplan_w (v := ?_) rfl (by rfl) ?_ ?_
        rotate_left
        · intro wx hSx
          try dsimp only at hSx
          go_simp
          try (with_reducible rfl)
        try simp only [Act.put, List.setIfInBounds_toArray, List.set_cons_zero, List.set_cons_succ]
        refine tplan_w (v := ?_) rfl (by rfl) ?_ ?_
        rotate_left
        · intro wx hSx
          try dsimp only at hSx
          go_simp
          try (with_reducible rfl)
        try simp only [Act.put, List.setIfInBounds_toArray, List.set_cons_zero, List.set_cons_succ]
        refine tplan_b rfl (fun K hK => ?_)
        go_simp
        refine hK _ _ ⟨keep4s hS1 (p := ⟨w.heap.size + 1 + 1, 2, none⟩) (by simp; omega) (by simp; omega) (by simp; omega) _, ?_⟩
        clear hK K
        try simp only [Act.put, List.setIfInBounds_toArray, List.set_cons_zero, List.set_cons_succ]
        refine tplan_endQ ?_
        have hR2 := hR1.far (p := ⟨w.heap.size + 1 + 1, 2, none⟩) (by simp; omega) (.int .i64 n2)
        have hU2 := hU1.far (p := ⟨w.heap.size + 1 + 1, 2, none⟩) (by simp) (.int .i64 n2)
        have hT2 := hT1.set2 n2
        have b2 := (fifth hS1).setCell (p := ⟨w.heap.size + 1 + 1, 2, none⟩) (by simp; omega) (.int .i64 n2)
        go_wp2
        go_roundw
        case rel => exact ⟨k + 1, by omega, by go_num, hR2, hU2, by rw [HN2.out]; exact hT2, b2⟩
        case measure => simp [intOf]; omega
    · obtain rfl : k = ps.length := by omega
      have t0 := hT.cell0
      have t1 := hT.cell1
      have t2 := hT.cell2
      have u0 := hU.cell0
      have u1 := hU.cell1
      have u2 := hU.cell2
      have v0 := hU.frozen 0
      have v1 := hU.frozen 1
      have v2 := hU.frozen 2
      have hZ := hU.put x y (starTo ps x y ps.length)
      have bZ := ((hb.setCell (p := ⟨w.heap.size + 1, 0, none⟩) (by simp) (.int .i64 x)).setCell (p := ⟨w.heap.size + 1, 1, none⟩) (by simp) (.int .i64 y)).setCell (p := ⟨w.heap.size + 1, 2, none⟩) (by simp) (.int .i64 (starTo ps x y ps.length))
      have z0 := hZ.cell0
      have z1 := hZ.cell1
      have z2 := hZ.cell2
      go_wp2
      trace_state
      exact bodyPost_ret (v := .agg #[.int .i64 x, .int .i64 y, .int .i64 (starTo ps x y ps.length)]) (by simp [results, Try.results59, go_sem, z0, z1, z2]) rfl ⟨rfl, bZ⟩
end Go.Proofs.Ytepamhdopmfkfaa
