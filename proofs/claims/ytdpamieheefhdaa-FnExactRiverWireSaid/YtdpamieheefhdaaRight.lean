/-
  Contract: the program's wire to the right.
-/
import Derived.Test.YtdpamieheefhdaaPlaces
import Derived.Test.YtdpamieheefhdaaDraw
namespace Go.Proofs.Ytdpamieheefhdaa
set_option linter.unusedSimpArgs false
set_option linter.unusedVariables false
open Go.ChangeShapes Go.WideShapes Go.ChangeAt Go.RowKit Go.Shelf
attribute [local go_sem] Oper.semAt_some

/-- Where the wire is behind track k. -/
def rAt (T B : List Int) (n i : Nat) : Nat → Int
  | 0 => B.getD i 0
  | k + 1 => plc T B n i (k + 1)
def stL (T B : List Int) (n i : Nat) : Nat → List Pt
  | 0 => [(B.getD i 0, 0)]
  | k + 1 => stL T B n i k ++ [(rAt T B n i k, ((k + 1 : Nat) : Int)), (rAt T B n i (k + 1), ((k + 1 : Nat) : Int))]
def stops (T B : List Int) (n i t : Nat) : List Pt := stL T B n i t ++ [(rAt T B n i t, ((t + 1 : Nat) : Int))]
theorem stL_len (T B : List Int) (n i : Nat) : ∀ k, (stL T B n i k).length = 2 * k + 1
  | 0 => rfl
  | k + 1 => by unfold stL; rw [List.length_append, stL_len T B n i k]; simp; omega
theorem stL_pt {T B : List Int} {n i : Nat} : ∀ k, (∀ j, j ≤ k → 0 ≤ rAt T B n i j ∧ rAt T B n i j ≤ 99) → k ≤ 90 → allPt (stL T B n i k) = true
  | 0, h, _ => by
    have h0 : 0 ≤ B.getD i 0 ∧ B.getD i 0 ≤ 99 := h 0 (Nat.le_refl _)
    unfold stL allPt
    simp only [List.all_cons, List.all_nil, Bool.and_true]
    exact isPt_iff.2 ⟨h0, by omega⟩
  | k + 1, h, hk => by
    have h1 := stL_pt k (fun j hj => h j (by omega)) (by omega)
    have h2 := h k (by omega)
    have h3 := h (k + 1) (Nat.le_refl _)
    unfold stL allPt
    unfold allPt at h1
    rw [List.all_append, h1]
    simp only [List.all_cons, List.all_nil, Bool.and_true, Bool.true_and, Bool.and_eq_true]
    exact ⟨isPt_iff.2 ⟨h2, by omega⟩, isPt_iff.2 ⟨h3, by omega⟩⟩
theorem stops_pt {T B : List Int} {n i t : Nat} (h : ∀ j, j ≤ t → 0 ≤ rAt T B n i j ∧ rAt T B n i j ≤ 99) (ht : t ≤ 20) : allPt (stops T B n i t) = true := by
  have h1 := stL_pt t h (by omega)
  have h2 := h t (Nat.le_refl _)
  unfold stops allPt
  unfold allPt at h1
  rw [List.all_append, h1]
  simp only [List.all_cons, List.all_nil, Bool.and_true, Bool.true_and]
  exact isPt_iff.2 ⟨h2, by omega⟩
theorem cellsP_two (L : List Pt) (p q : Pt) : cellsP (L ++ [p, q]) = cellsP L ++ [.int .i64 p.1, .int .i64 p.2, .int .i64 q.1, .int .i64 q.2] := by unfold cellsP; simp
theorem new_four (W : World) (t : TypeId) (a b c d : Int) : ∀ j u, ([Value.int .i64 a, Value.int .i64 b, Value.int .i64 c, Value.int .i64 d])[j]? = some u → (W.alloc (.cells #[.int .i64 a, .int .i64 b, .int .i64 c, .int .i64 d] t)).cell? ((⟨W.heap.size, 0, none⟩ : Addr).add j) = some u := by
  intro j u hu
  rcases j with _ | _ | _ | _ | j <;> simp at hu <;> (subst hu; simp [Addr.add])
theorem own_obj (g : Nat) (o : Nat → Obj) (ho : ∀ k, (o k).isCells = true) : Own (fun (k : Nat) W => W.heap[g]? = some (o k)) := fun s X Y row hv hg hrow => by
  have hlt : g < X.heap.size := (Array.getElem?_eq_some_iff.1 hv).1
  refine (hg.block g hlt (fun e' => ?_)).trans hv
  obtain ⟨o', ho', hc⟩ := hrow g e'.symm
  rw [hv] at ho'; cases ho'; rw [ho s] at hc; cases hc
/-- A block of another type is no row. -/
theorem obj_not_row {W : World} {g B size k : Nat} {e t : TypeId} {cs : Array Value} {fr : Nat × Nat} {v : Value} {xs : List Value} (h : W.heap[g]? = some (.cells cs t fr)) (ht : t ≠ e) (hr : W.ownsRow B e size v k xs) : some g ≠ v.ownBlock := fun e' => by
  rcases hr.2 with ⟨rfl, _⟩ | ⟨g', cap, cur, rfl, _, hg, _⟩
  · simp [Value.ownBlock] at e'
  · simp [Value.ownBlock] at e'
    subst e'
    rw [h] at hg; cases hg; exact ht rfl
/-- A deferred list is no row. -/
theorem defer_not_row {W : World} {g B size k : Nat} {e : TypeId} {o : Obj} {v : Value} {xs : List Value} (h : W.heap[g]? = some o) (ht : o.isCells = false) (hr : W.ownsRow B e size v k xs) : some g ≠ v.ownBlock := fun e' => by
  rcases hr.2 with ⟨rfl, _⟩ | ⟨g', cap, cur, rfl, _, hg, _⟩
  · simp [Value.ownBlock] at e'
  · simp [Value.ownBlock] at e'
    subst e'
    rw [h] at hg; cases hg; cases ht
theorem OwnL.lowR {w : World} {B B' : Nat} {v : Value} {L : List Pt} (h : OwnL w B' v L) (hB : B ≤ B') : OwnL w B v L :=
  ⟨h.1, h.2.imp id fun ⟨g, cap, cur, e, hg, r⟩ => ⟨g, cap, cur, e, Nat.le_trans hB hg, r⟩⟩
theorem new_twoR (W : World) (t : TypeId) (a b : Int) : ∀ j u, ([Value.int .i64 a, Value.int .i64 b])[j]? = some u → (W.alloc (.cells #[.int .i64 a, .int .i64 b] t)).cell? ((⟨W.heap.size, 0, none⟩ : Addr).add j) = some u := by
  intro j u hu
  rcases j with _ | _ | j <;> simp at hu <;> (subst hu; simp [Addr.add])
theorem boxed_far' {w : World} {g g' : Nat} {t : TypeId} {v : Value} (h : Boxed w g t v) (hp : g ≠ g') (u : Value) : Boxed (w.setCell ⟨g', 0, none⟩ u) g t v := (Below.heap_setCell w ⟨g', 0, none⟩ u g hp).trans h
theorem low_not_row {W : World} {g B size k : Nat} {e : TypeId} {v : Value} {xs : List Value} (hg : g < B) (hr : W.ownsRow B e size v k xs) : some g ≠ v.ownBlock := fun e' => by
  have := (hr.lt g e'.symm).1
  omega

theorem placesOnTracks_any (S1 S2 : Value) (t i : Int) (w : World) :
    Calls Try.prog 95 #[.agg #[S1, S2], .int .i64 t, .int .i64 i] w fun e w' => e = .returned (.func (.func 106) #[] #[.pointer (some ⟨w.heap.size + 1, 0, none⟩), .pointer (some ⟨w.heap.size, 0, none⟩), .pointer (some ⟨w.heap.size + 1 + 1, 0, none⟩)]) ∧ w' = ((w.alloc (.cells #[S1, S2] 60)).alloc (.cells #[.int .i64 t] 2)).alloc (.cells #[.int .i64 i] 2) := by
  have hmf : ∀ (fn : Fn) (first cap : Array Value) (w : World), (Instr.makeFunc fn first cap).run Try.prog w = .ok (.func fn first cap) w := fun _ _ _ _ => rfl
  go_enter Try.func95, Try.ntmps95
  go_wp2
  go_ret
  exact ⟨rfl, rfl⟩
theorem rowOwn {W W' : World} {B : Nat} {e : TypeId} {size n : Nat} {v : Value} {xs : List Value} (h : W.ownsRow B e size v n xs) (hb : Below W.heap.size W W') : W'.ownsRow B e size v n xs :=
  World.ownsRow.kept (row := none) h ⟨hb.os, hb.tape, hb.output, hb.size, fun i hi _ => hb.block i hi⟩ (by
    rcases h.2 with ⟨rfl, _⟩ | ⟨g, cap, cur, rfl, _⟩
    · exact .inl rfl
    · exact .inr (by simp [Value.ownBlock]))
theorem obj_to {W W' : World} {g : Nat} {o : Obj} (h : W.heap[g]? = some o) (hb : Below W.heap.size W W') : W'.heap[g]? = some o := (hb.block g (Array.getElem?_eq_some_iff.1 h).1).trans h
theorem cell_obj {W : World} {g : Nat} {cs : Array Value} {t : TypeId} {i : Nat} {v : Value} (h : W.heap[g]? = some (.cells cs t (0, 0))) (hv : cs[i]? = some v) : W.cell? ⟨g, i, none⟩ = some v := by rw [cell_of_row W g i cs _ _ h]; exact hv
set_option maxRecDepth 100000 in
set_option maxHeartbeats 3200000 in
theorem wireToRight_any (T B : List Int) (n i t bT oT bB oB c c' : Nat) (w : World) (hn : n ≤ 20) (ht : t ≤ 20) (hi : i < n) (hbT : ∀ j, 0 ≤ T.getD j 0 ∧ T.getD j 0 ≤ 99) (hbB : ∀ j, 0 ≤ B.getD j 0 ∧ B.getD j 0 ≤ 99)
    (hT : bT < w.heap.size ∧ ∀ j, j < n → w.cell? ⟨bT, oT + j, none⟩ = some (.int .i64 (T.getD j 0))) (hB : bB < w.heap.size ∧ ∀ j, j < n → w.cell? ⟨bB, oB + j, none⟩ = some (.int .i64 (B.getD j 0)))
    (hR : ∀ j, j ≤ t → 0 ≤ rAt T B n i j ∧ rAt T B n i j ≤ 99) :
    Calls Try.prog 69 #[.agg #[.slice (some ⟨bT, oT, none⟩) n c, .slice (some ⟨bB, oB, none⟩) n c'], .int .i64 t, .int .i64 i] w (OwnPost (wlkL (stops T B n i t)) w) := by
  have t0 := hT.2 i hi
  have b0 := hB.2 i hi
  have hiI : (i : Int) < (n : Int) := by omega
  have hi0 : (0 : Int) ≤ (i : Int) := by omega
  refine (callsIn_wide (n := 3)).1 ?_
  refine callsIn_of_wp_marks Try.func69 rfl trivial ?_ rfl
  simp only [Try.ntmps69, List.size_toArray, List.length_cons, List.length_nil, Nat.reduceAdd, Nat.reduceSub, Array.replicate_succ, Array.replicate_zero, List.push_toArray, List.append_toArray, List.nil_append, List.cons_append]
  obtain ⟨x0, hx0⟩ : ∃ x0, B.getD i 0 = x0 := ⟨_, rfl⟩
  have HX0 := Lib.hid hx0
  rw [hx0] at b0
  have HTl := Lib.hid hT
  have HBl := Lib.hid hB
  have hTl := hT.1
  have hBl := hB.1
  clear hx0 hT hB
  have h4z : ((((w.alloc (.cells #[.slice (some ⟨bT, oT, none⟩) n c, .slice (some ⟨bB, oB, none⟩) n c'] 60)).alloc (.cells #[.int .i64 x0, .int .i64 0] 37)).alloc (.cells #[.int .i64 x0, .int .i64 0] 37)).alloc (.cells #[.slice (some ⟨w.heap.size + 1 + 1, 0, none⟩) 1 1] 32)).heap.size = w.heap.size + 1 + 1 + 1 + 1 := by simp
  have b4 : Below w.heap.size w ((((w.alloc (.cells #[.slice (some ⟨bT, oT, none⟩) n c, .slice (some ⟨bB, oB, none⟩) n c'] 60)).alloc (.cells #[.int .i64 x0, .int .i64 0] 37)).alloc (.cells #[.int .i64 x0, .int .i64 0] 37)).alloc (.cells #[.slice (some ⟨w.heap.size + 1 + 1, 0, none⟩) 1 1] 32)) := by (repeat (first | assumption | exact Below.refl _ _ | (refine bl_alloc ?_ _) | (refine Below.drew ?_) | (refine bl_drewN ?_ _) | (refine bl_set ?_ (by first | (simp; done) | omega | (simp; omega)) _) | (refine bl_trans ?_ (by assumption)) | (refine bl_step ?_ (by assumption) (by first | omega | exact Below.size (by assumption) | (simp; omega) | (simp; exact Below.size (by assumption))))))
  have o1 : ((((w.alloc (.cells #[.slice (some ⟨bT, oT, none⟩) n c, .slice (some ⟨bB, oB, none⟩) n c'] 60)).alloc (.cells #[.int .i64 x0, .int .i64 0] 37)).alloc (.cells #[.int .i64 x0, .int .i64 0] 37)).alloc (.cells #[.slice (some ⟨w.heap.size + 1 + 1, 0, none⟩) 1 1] 32)).heap[w.heap.size + 1]? = some (.cells #[.int .i64 x0, .int .i64 0] 37 (0, 0)) := by
    have h := heap_alloc_new (w.alloc (.cells #[.slice (some ⟨bT, oT, none⟩) n c, .slice (some ⟨bB, oB, none⟩) n c'] 60)) (.cells #[.int .i64 x0, .int .i64 0] 37)
    rw [show (w.alloc (.cells #[.slice (some ⟨bT, oT, none⟩) n c, .slice (some ⟨bB, oB, none⟩) n c'] 60)).heap.size = w.heap.size + 1 by simp] at h
    exact obj_to (obj_to h ((Below.refl _ _).alloc (Nat.le_refl _) _)) ((Below.refl _ _).alloc (Nat.le_refl _) _)
  have hBx : Boxed ((((w.alloc (.cells #[.slice (some ⟨bT, oT, none⟩) n c, .slice (some ⟨bB, oB, none⟩) n c'] 60)).alloc (.cells #[.int .i64 x0, .int .i64 0] 37)).alloc (.cells #[.int .i64 x0, .int .i64 0] 37)).alloc (.cells #[.slice (some ⟨w.heap.size + 1 + 1, 0, none⟩) 1 1] 32)) (w.heap.size + 1 + 1 + 1) 32 (.slice (some ⟨w.heap.size + 1 + 1, 0, none⟩) 1 1) := by
    have h := Boxed.new (((w.alloc (.cells #[.slice (some ⟨bT, oT, none⟩) n c, .slice (some ⟨bB, oB, none⟩) n c'] 60)).alloc (.cells #[.int .i64 x0, .int .i64 0] 37)).alloc (.cells #[.int .i64 x0, .int .i64 0] 37)) 32 (.slice (some ⟨w.heap.size + 1 + 1, 0, none⟩) 1 1)
    simpa using h
  have hrow0 : ((((w.alloc (.cells #[.slice (some ⟨bT, oT, none⟩) n c, .slice (some ⟨bB, oB, none⟩) n c'] 60)).alloc (.cells #[.int .i64 x0, .int .i64 0] 37)).alloc (.cells #[.int .i64 x0, .int .i64 0] 37)).alloc (.cells #[.slice (some ⟨w.heap.size + 1 + 1, 0, none⟩) 1 1] 32)).ownsRow (w.heap.size + 1 + 1) 37 2 (.slice (some ⟨w.heap.size + 1 + 1, 0, none⟩) 1 1) (stL T B n i 0).length (cellsP (stL T B n i 0)) := by
    have h : OwnL (((w.alloc (.cells #[.slice (some ⟨bT, oT, none⟩) n c, .slice (some ⟨bB, oB, none⟩) n c'] 60)).alloc (.cells #[.int .i64 x0, .int .i64 0] 37)).alloc (.cells #[.int .i64 x0, .int .i64 0] 37)) (w.heap.size + 1 + 1) (.slice (some ⟨w.heap.size + 1 + 1, 0, none⟩) 1 1) [(x0, 0)] := by
      have h := OwnL.one ((w.alloc (.cells #[.slice (some ⟨bT, oT, none⟩) n c, .slice (some ⟨bB, oB, none⟩) n c'] 60)).alloc (.cells #[.int .i64 x0, .int .i64 0] 37)) (w.heap.size + 1 + 1) (x0, 0) (by simp)
      simpa using h
    have e : stL T B n i 0 = [(x0, 0)] := by show [(B.getD i 0, (0 : Int))] = _; rw [HX0.out]
    rw [e]
    exact rowOwn h ((Below.refl _ _).alloc (Nat.le_refl _) _)
  have hA0 : rAt T B n i 0 = x0 := HX0.out
  gi_wp2
  generalize ((((w.alloc (.cells #[.slice (some ⟨bT, oT, none⟩) n c, .slice (some ⟨bB, oB, none⟩) n c'] 60)).alloc (.cells #[.int .i64 x0, .int .i64 0] 37)).alloc (.cells #[.int .i64 x0, .int .i64 0] 37)).alloc (.cells #[.slice (some ⟨w.heap.size + 1 + 1, 0, none⟩) 1 1] 32)) = w4 at *
  refine ⟨trivial, (callsIn_wide.2 (placesOnTracks_any _ _ _ _ _)).mono ?_⟩
  rintro e w5 ⟨rfl, rfl⟩
  rw [h4z]
  have b5 : Below w4.heap.size w4 (((w4.alloc (.cells #[.slice (some ⟨bT, oT, none⟩) n c, .slice (some ⟨bB, oB, none⟩) n c'] 60)).alloc (.cells #[.int .i64 t] 2)).alloc (.cells #[.int .i64 i] 2)) := by (repeat (first | assumption | exact Below.refl _ _ | (refine bl_alloc ?_ _) | (refine Below.drew ?_) | (refine bl_drewN ?_ _) | (refine bl_set ?_ (by first | (simp; done) | omega | (simp; omega)) _) | (refine bl_trans ?_ (by assumption)) | (refine bl_step ?_ (by assumption) (by first | omega | exact Below.size (by assumption) | (simp; omega) | (simp; exact Below.size (by assumption))))))
  have q3 : (((w4.alloc (.cells #[.slice (some ⟨bT, oT, none⟩) n c, .slice (some ⟨bB, oB, none⟩) n c'] 60)).alloc (.cells #[.int .i64 t] 2)).alloc (.cells #[.int .i64 i] 2)).heap[w.heap.size + 1 + 1 + 1 + 1]? = some (.cells #[.slice (some ⟨bT, oT, none⟩) n c, .slice (some ⟨bB, oB, none⟩) n c'] 60 (0, 0)) := by
    have h := heap_alloc_new w4 (.cells #[.slice (some ⟨bT, oT, none⟩) n c, .slice (some ⟨bB, oB, none⟩) n c'] 60)
    rw [h4z] at h
    exact obj_to (obj_to h ((Below.refl _ _).alloc (Nat.le_refl _) _)) ((Below.refl _ _).alloc (Nat.le_refl _) _)
  have q4 : (((w4.alloc (.cells #[.slice (some ⟨bT, oT, none⟩) n c, .slice (some ⟨bB, oB, none⟩) n c'] 60)).alloc (.cells #[.int .i64 t] 2)).alloc (.cells #[.int .i64 i] 2)).heap[w.heap.size + 1 + 1 + 1 + 1 + 1]? = some (.cells #[.int .i64 t] 2 (0, 0)) := by
    have h := heap_alloc_new (w4.alloc (.cells #[.slice (some ⟨bT, oT, none⟩) n c, .slice (some ⟨bB, oB, none⟩) n c'] 60)) (.cells #[.int .i64 t] 2)
    rw [World.size_alloc, h4z] at h
    exact obj_to h ((Below.refl _ _).alloc (Nat.le_refl _) _)
  have q5 : (((w4.alloc (.cells #[.slice (some ⟨bT, oT, none⟩) n c, .slice (some ⟨bB, oB, none⟩) n c'] 60)).alloc (.cells #[.int .i64 t] 2)).alloc (.cells #[.int .i64 i] 2)).heap[w.heap.size + 1 + 1 + 1 + 1 + 1 + 1]? = some (.cells #[.int .i64 i] 2 (0, 0)) := by
    have h := heap_alloc_new ((w4.alloc (.cells #[.slice (some ⟨bT, oT, none⟩) n c, .slice (some ⟨bB, oB, none⟩) n c'] 60)).alloc (.cells #[.int .i64 t] 2)) (.cells #[.int .i64 i] 2)
    rw [World.size_alloc, World.size_alloc, h4z] at h
    exact h
  have hz5 : (((w4.alloc (.cells #[.slice (some ⟨bT, oT, none⟩) n c, .slice (some ⟨bB, oB, none⟩) n c'] 60)).alloc (.cells #[.int .i64 t] 2)).alloc (.cells #[.int .i64 i] 2)).heap.size = w.heap.size + 1 + 1 + 1 + 1 + 1 + 1 + 1 := by simp [h4z]
  have bw := bl_trans b4 b5
  have o1' := obj_to o1 b5
  have hBx' := obj_to hBx b5
  have hrow' := rowOwn hrow0 b5
  generalize ((w4.alloc (.cells #[.slice (some ⟨bT, oT, none⟩) n c, .slice (some ⟨bB, oB, none⟩) n c'] 60)).alloc (.cells #[.int .i64 t] 2)).alloc (.cells #[.int .i64 i] 2) = w5 at *
  clear b4 b5 o1 hBx hrow0 h4z
  gi_wp2
  obtain ⟨i0, hi0', hz0, hz1, hz2⟩ := info_parts infoPtO
  have HOwn : OwnFrom w5.heap.size (fun k W => (((∃ v, Boxed W (w.heap.size + 1 + 1 + 1) 32 v ∧ W.ownsRow (w.heap.size + 1 + 1) 37 2 v (stL T B n i k).length (cellsP (stL T B n i k)) ∧ True) ∧ W.heap[w.heap.size + 1]? = some (.cells #[.int .i64 (rAt T B n i k), .int .i64 0] 37 (0, 0))) ∧ (W.heap[w.heap.size + 1 + 1 + 1 + 1]? = some (.cells #[.slice (some ⟨bT, oT, none⟩) n c, .slice (some ⟨bB, oB, none⟩) n c'] 60 (0, 0)) ∧ (W.heap[w.heap.size + 1 + 1 + 1 + 1 + 1]? = some (.cells #[.int .i64 t] 2 (0, 0)) ∧ W.heap[w.heap.size + 1 + 1 + 1 + 1 + 1 + 1]? = some (.cells #[.int .i64 i] 2 (0, 0))))) ∧ Below w.heap.size w W) :=
    OwnFrom.and (OwnFrom.and (OwnFrom.and (Own.from (holdsRow_own (w.heap.size + 1 + 1) (w.heap.size + 1 + 1 + 1) 32 37 2 (fun k : Nat => (stL T B n i k).length) (fun k : Nat => cellsP (stL T B n i k)) (fun _ _ => True)) _) (Own.from (own_obj _ (fun k => .cells #[.int .i64 (rAt T B n i k), .int .i64 0] 37 (0, 0)) (fun _ => rfl)) _)) (OwnFrom.and (Own.from (own_obj _ (fun _ => .cells #[.slice (some ⟨bT, oT, none⟩) n c, .slice (some ⟨bB, oB, none⟩) n c'] 60 (0, 0)) (fun _ => rfl)) _) (OwnFrom.and (Own.from (own_obj _ (fun _ => .cells #[.int .i64 t] 2 (0, 0)) (fun _ => rfl)) _) (Own.from (own_obj _ (fun _ => .cells #[.int .i64 i] 2 (0, 0)) (fun _ => rfl)) _)))) (ownFrom_below (Nat.le_refl _) bw.size)
  refine range_givesQ (gf := 106) (xs := plcL T B n i t) (Rd := PlRd T B n i t bT oT bB oB c c' (w.heap.size + 1 + 1 + 1 + 1) (w.heap.size + 1 + 1 + 1 + 1 + 1) (w.heap.size + 1 + 1 + 1 + 1 + 1 + 1)) (by omega) rfl (enters_of Try.func106 (by kernel_rfl) rfl) (places_gives T B 2 n i t bT oT bB oB c c' _ _ _ hn ht hi hbT hbB) rfl _ HOwn
    ⟨⟨⟨⟨_, hBx', hrow', trivial⟩, by rw [hA0]; exact o1'⟩, q3, q4, q5⟩, bw⟩
    (fun k W h => ⟨cell_obj h.1.2.2.1 rfl, cell_obj h.1.2.2.2 rfl, cell_obj h.1.2.1 rfl, cell_obj h.1.2.1 rfl, fun j hj => (h.2.cell (p := ⟨bT, oT + j, none⟩) hTl).trans (HTl.out.2 j hj), fun j hj => (h.2.cell (p := ⟨bB, oB + j, none⟩) hBl).trans (HBl.out.2 j hj)⟩)
    (fun p a' W => a' = { tmps := #[.agg #[.slice (some ⟨bT, oT, none⟩) n c, .slice (some ⟨bB, oB, none⟩) n c'], .int .i64 t, .int .i64 i, .pointer (some ⟨w.heap.size, 0, none⟩), undef, undef, .slice none 0 0, .pointer (some ⟨w.heap.size + 1, 0, none⟩), .pointer (some ⟨w.heap.size + 1 + 1 + 1, 0, none⟩), .int .i64 p.1, .int .i64 p.2, .pointer (some ⟨w.heap.size, 1, none⟩), .slice (some ⟨bB, oB, none⟩) n c', .int .i64 i, .pointer (some ⟨bB, oB + i, none⟩), .int .i64 x0, .agg #[.int .i64 x0, .int .i64 0], .agg #[.int .i64 x0, .int .i64 0], .slice (some ⟨w.heap.size + 1 + 1, 0, none⟩) 1 1, .agg #[.slice (some ⟨bT, oT, none⟩) n c, .slice (some ⟨bB, oB, none⟩) n c'], .int .i64 t, .int .i64 i, .func (.func 106) #[] #[.pointer (some ⟨w.heap.size + 1 + 1 + 1 + 1 + 1, 0, none⟩), .pointer (some ⟨w.heap.size + 1 + 1 + 1 + 1, 0, none⟩), .pointer (some ⟨w.heap.size + 1 + 1 + 1 + 1 + 1 + 1, 0, none⟩)], .int .i64 p.1, .int .i64 p.2, undef, undef, undef, undef, undef, undef, undef, undef, undef, undef, undef, undef, undef, undef, undef, undef, undef, undef, undef, undef, undef], defers := [] }) ?own ?assign ?body ?done
  case own => exact fun p a' s W W' row h _ _ => h
  case assign =>
    rintro l' k ⟨X, Y⟩ W K' hI hK'
    gi_wp2
    exact hK' _ _ (KeepsFrom.refl _ _) hI rfl
  case body =>
    clear HOwn q3 q4 q5 bw o1' hBx' hrow' hA0
    rintro l' k ⟨X, Y⟩ a' W hl' ⟨r, hr⟩ ⟨⟨⟨⟨v, hv, hrow, _⟩, ho1⟩, hg3, hg4, hg5⟩, hB⟩ rfl hx
    have hkt : k < t := by
      rcases Nat.lt_or_ge k t with h | h
      · exact h
      · rw [List.getElem?_eq_none (by rw [plcL_len]; exact h)] at hx; cases hx
    rw [plcL_at hkt] at hx
    injection hx with hx
    injection hx with hx1 hx2
    have HSt : Hid (stL T B n i (k + 1) = stL T B n i k ++ [(rAt T B n i k, X), (rAt T B n i (k + 1), X)]) := by show _ = _; rw [← hx1]; rfl
    have HRt : Hid (rAt T B n i (k + 1) = Y) := by show plc T B n i (k + 1) = Y; exact hx2
    have hle : (stL T B n i k).length ≤ 41 := by rw [stL_len]; omega
    clear hx1 hx2 hr
    generalize rAt T B n i k = x1 at *
    obtain ⟨L0, hL0⟩ : ∃ L0, stL T B n i k = L0 := ⟨_, rfl⟩
    rw [hL0] at hrow hle HSt
    rw [HRt.out] at HSt
    clear hL0
    have hc := hv.cell
    have a0 : W.cell? ⟨w.heap.size + 1, 0, none⟩ = some (.int .i64 x1) := cell_obj ho1 rfl
    have hzB := hB.size
    have hvl := hv.lt
    have hne78 : w.heap.size + 1 + 1 + 1 ≠ w.heap.size + 1 := by omega
    have n3 := obj_not_row hg3 (show 60 ≠ 37 by decide) hrow
    have n4 := obj_not_row hg4 (show 2 ≠ 37 by decide) hrow
    have n5 := obj_not_row hg5 (show 2 ≠ 37 by decide) hrow
    have n1 := low_not_row (show w.heap.size + 1 < w.heap.size + 1 + 1 by omega) hrow
    have HKeep : Hid (∀ (g : Nat) (o : Obj) (w7 : World), W.heap[g]? = some o → some g ≠ v.ownBlock → (W.alloc (.cells #[.int .i64 x1, .int .i64 X, .int .i64 Y, .int .i64 X] 37)).grownBy w7 v.ownBlock → w7.heap[g]? = some o) := fun g o w7 h hne hg => by
      have h2 := obj_to h ((Below.refl _ _).alloc (Nat.le_refl _) (.cells #[.int .i64 x1, .int .i64 X, .int .i64 Y, .int .i64 X] 37))
      exact (hg.block g (Array.getElem?_eq_some_iff.1 h2).1 hne).trans h2
    gi_wp2_with (gi_at_builtin; refine wpListIn_append_own _ rfl _ _ 32 rfl (w.heap.size + 1 + 1) 37 i0 _ 2 16 Try.underlying32 hi0' hz0 hz1 hz2 rfl (by decide) _ _ _ rfl (hrow.alloc _) ⟨W.heap.size, 0, none⟩ 2 2 [.int .i64 x1, .int .i64 X, .int .i64 Y, .int .i64 X] rfl rfl (new_four _ _ _ _ _ _) (by simp [Value.oneCell']) (by unfold maxLen; omega) (by omega) (by simp; omega) ?_; intro v' w7 hown' hgrow _; obtain ⟨g', cap', rfl⟩ := ownsRow_succ (k := L0.length + 1) hown'; obtain ⟨hv1, hv2, hr2, hk2, hb2⟩ := hv.appended (by decide) hrow (by omega) (by omega) hown' hgrow; have ho7 := HKeep.out _ _ _ ho1 n1 hgrow; have hc1 := hv1.cell; have hf1 := hv1.frozen; have a7 : (w7.setCell ⟨w.heap.size + 1 + 1 + 1, 0, none⟩ (.slice (some ⟨g', 0, none⟩) (L0.length + 1 + 1) cap')).cell? ⟨w.heap.size + 1, 0, none⟩ = some (.int .i64 x1) := (World.cell?_of_block (a := ⟨w.heap.size + 1, 0, none⟩) (Below.heap_setCell w7 ⟨w.heap.size + 1 + 1 + 1, 0, none⟩ _ (w.heap.size + 1) (by simp))).trans (cell_obj ho7 rfl); have f7 : w7.frozen? ⟨w.heap.size + 1, 0, none⟩ = false := by simp [World.frozen?, ho7])
    have ho8 : (w7.setCell ⟨w.heap.size + 1 + 1 + 1, 0, none⟩ (.slice (some ⟨g', 0, none⟩) (L0.length + 1 + 1) cap')).heap[w.heap.size + 1]? = some (.cells #[.int .i64 x1, .int .i64 0] 37 (0, 0)) := (Below.heap_setCell w7 ⟨w.heap.size + 1 + 1 + 1, 0, none⟩ _ (w.heap.size + 1) (by simp)).trans ho7
    have HFar : Hid (∀ (g : Nat) (o : Obj), w7.heap[g]? = some o → g ≠ w.heap.size + 1 + 1 + 1 → g ≠ w.heap.size + 1 → ((w7.setCell ⟨w.heap.size + 1 + 1 + 1, 0, none⟩ (.slice (some ⟨g', 0, none⟩) (L0.length + 1 + 1) cap')).setCell ⟨w.heap.size + 1, 0, none⟩ (.int .i64 Y)).heap[g]? = some o) := fun g o h h1 h2 =>
      (Below.heap_setCell _ ⟨w.heap.size + 1, 0, none⟩ _ g h2).trans ((Below.heap_setCell _ ⟨w.heap.size + 1 + 1 + 1, 0, none⟩ _ g h1).trans h)
    refine ⟨(hk2.trans (KeepsOthers.setCell _ _ _)).from _, ⟨⟨⟨⟨_, boxed_far' hv2 hne78 _, ?_, trivial⟩, ?_⟩, HFar.out _ _ (HKeep.out _ _ _ hg3 n3 hgrow) (by omega) (by omega), HFar.out _ _ (HKeep.out _ _ _ hg4 n4 hgrow) (by omega) (by omega), HFar.out _ _ (HKeep.out _ _ _ hg5 n5 hgrow) (by omega) (by omega)⟩, hB.trans ((hb2.mono (show w.heap.size ≤ w.heap.size + 1 + 1 by omega)).setCell (p := ⟨w.heap.size + 1, 0, none⟩) (by simp) _)⟩⟩
    · have h := hr2.kept (grownBy_setCell' _ (w.heap.size + 1) (.int .i64 Y)) (.inr (low_not_row (show w.heap.size + 1 < w.heap.size + 1 + 1 by omega) hr2).symm)
      rw [HSt.out, cellsP_two]
      simpa using h
    · rw [HRt.out]
      exact PtB.set0 (p := (x1, 0)) ho8 Y
  case done =>
    rintro D W hD ⟨⟨⟨⟨v, hv, hrow, _⟩, ho1⟩, hg3, hg4, hg5⟩, hB⟩ hK
    rw [plcL_len] at hrow ho1
    have hc := hv.cell
    have a0 : W.cell? ⟨w.heap.size + 1, 0, none⟩ = some (.int .i64 (rAt T B n i t)) := cell_obj ho1 rfl
    have hw1 : IntKind.i64.wrap ((t : Int) + 1) = ((t + 1 : Nat) : Int) := by rw [IntWalk.i64_in _ (by omega)]; omega
    have HSt : Hid (stops T B n i t = stL T B n i t ++ [(rAt T B n i t, ((t + 1 : Nat) : Int))]) := rfl
    have hle : (stL T B n i t).length ≤ 41 := by rw [stL_len]; omega
    have hpt := stops_pt hR ht
    have hvl := hv.lt
    have hslen : (stops T B n i t).length ≤ 42 := by rw [HSt.out, List.length_append]; simp; omega
    have hs1 : 1 ≤ (stops T B n i t).length := by rw [HSt.out, List.length_append]; simp
    have hzB := hB.size
    clear hBx' hrow' o1' q3 q4 q5 HOwn hA0
    obtain ⟨S, hS⟩ : ∃ S, stops T B n i t = S := ⟨_, rfl⟩
    rw [hS] at HSt hslen hs1 hpt
    have HSS := Lib.hid hS
    obtain ⟨L0, hL0⟩ : ∃ L0, stL T B n i t = L0 := ⟨_, rfl⟩
    rw [hL0] at hrow hle HSt
    generalize rAt T B n i t = x1 at *
    clear hS hL0 hR
    gi_wp2_with (gi_at_builtin; refine wpListIn_append_own _ rfl _ _ 32 rfl (w.heap.size + 1 + 1) 37 i0 _ 2 16 Try.underlying32 hi0' hz0 hz1 hz2 rfl (by decide) _ _ _ rfl (hrow.alloc _) ⟨W.heap.size, 0, none⟩ 1 1 [.int .i64 x1, .int .i64 ((t + 1 : Nat) : Int)] rfl rfl (new_twoR _ _ _ _) (by simp [Value.oneCell']) (by unfold maxLen; omega) (by omega) (by simp; omega) ?_; intro v' w7 hown' hgrow _; have hOL : OwnL w7 (w.heap.size + 1 + 1) v' S := (by rw [HSt.out]; exact OwnL.snoc hown'); obtain ⟨A9, c9, rfl, hO9, hc9⟩ := hOL.cap)
    have hg7 : (W.alloc (.cells #[.int .i64 x1, .int .i64 ((t : Int) + 1)] 37)).grownBy w7 v.ownBlock := hgrow
    have hb7 : Below w.heap.size w w7 := Below.grown (hB.alloc hzB _) hg7 (by simp; omega) (fun k hk => by have h := (hrow.lt k hk).1; omega)
    have hDl : w.heap.size ≤ D := by omega
    have hz7 := hb7.size
    have hK7 : w7.heap[D]? = some (.deferred (some [])) := by
      have h2 := obj_to hK ((Below.refl _ _).alloc (Nat.le_refl _) (.cells #[.int .i64 x1, .int .i64 ((t : Int) + 1)] 37))
      exact (hg7.block D (Array.getElem?_eq_some_iff.1 h2).1 (defer_not_row hK rfl hrow)).trans h2
    have HK7 := Lib.hid hK7
    clear hgrow hg7 hown' hOL hK hg3 hg4 hg5 ho1 a0 hc hv hrow hB
    refine ⟨trivial, (callsIn_wide.2 (walkAlong_any A9 S c9 w7 hO9.pts hs1 (by omega) hc9 hpt)).mono ?_⟩
    rintro e w8 ⟨v8, rfl, hO8, hb8⟩
    have hK8 := obj_to HK7.out hb8
    have hbw8 : Below w.heap.size w w8 := hb7.trans (hb8.mono hz7)
    have hO9' : OwnL w8 w.heap.size v8 (wlkL S) := OwnL.lowR hO8 hz7
    gi_wp2
    refine ⟨by simp, .inl ⟨_, _, rfl, run_takeDeferred hK8, ?_⟩⟩
    rw [HSS.out]
    exact ⟨_, results_tmp rfl _ _ _, ⟨v8, rfl, ownsRow_putObj hO9' _ hK8 rfl, hbw8.trans (belowK_b (w := w) (Nat.le_refl _) w8 D _ _ hDl hK8 rfl rfl)⟩⟩
end Go.Proofs.Ytdpamieheefhdaa
