/-
  Contract: a mirrored river.
-/
import Derived.Test.YtdpamieheefhdaaMirror
import Derived.Test.YtdpamieheefhdaaPlanT
import Derived.Deep.DeepCutAuto
import Derived.Sort.CutIn
namespace Go.Proofs.Ytdpamieheefhdaa
set_option linter.unusedSimpArgs false
set_option linter.unusedVariables false
open Go.ChangeShapes Go.WideShapes Go.ChangeAt Go.RowKit Go.Shelf Go.Sort

/-- Block g holds a river. -/
def RivObj (w : World) (g : Nat) : Prop := ∃ x y, w.heap[g]? = some (.cells #[x, y] 60 (0, 0))
theorem RivObj.to {w w' : World} {g : Nat} (h : RivObj w g) (hb : Below w.heap.size w w') : RivObj w' g := by
  obtain ⟨x, y, e⟩ := h
  exact ⟨x, y, obj_to e hb⟩
theorem RivObj.set {w : World} {g : Nat} (h : RivObj w g) (a b : Value) : ((w.setCell ⟨g, 0, none⟩ a).setCell ⟨g, 1, none⟩ b).heap[g]? = some (.cells #[a, b] 60 (0, 0)) := by
  obtain ⟨x, y, e⟩ := h
  simp [World.setCell, Array.getElem?_modify, e]
theorem mrS {w wr wr' : World} {a b : Value} {b0 b1 : Nat} (h : wr.cell? ⟨b0, 0, none⟩ = some a ∧ wr.cell? ⟨b0, 1, none⟩ = some b ∧ RivObj wr b1 ∧ Below w.heap.size w wr) (hs : Below wr.heap.size wr wr') (hz : w.heap.size ≤ wr.heap.size) :
    wr'.cell? ⟨b0, 0, none⟩ = some a ∧ wr'.cell? ⟨b0, 1, none⟩ = some b ∧ RivObj wr' b1 ∧ Below w.heap.size w wr' := by
  obtain ⟨h0, h1, h2, h3⟩ := h
  have l0 : b0 < wr.heap.size := by
    rcases Nat.lt_or_ge b0 wr.heap.size with h | h
    · exact h
    · simp [World.cell?, Array.getElem?_eq_none h] at h0
  exact ⟨(hs.cell (p := ⟨b0, 0, none⟩) l0).trans h0, (hs.cell (p := ⟨b0, 1, none⟩) l0).trans h1, h2.to hs, h3.trans (hs.mono hz)⟩
/-- A new river. -/
def NewRiver (T B : List Int) (n : Nat) (w : World) (e : Ending) (w' : World) : Prop :=
  ∃ g1 g2, e = .returned (.agg #[.slice (some ⟨g1, 0, none⟩) n n, .slice (some ⟨g2, 0, none⟩) n n]) ∧ NBlk w' g1 T n ∧ NBlk w' g2 B n ∧ Below w.heap.size w w'
set_option maxRecDepth 100000 in
set_option maxHeartbeats 1600000 in
theorem mirrored_any (A A' : Option Addr) (T B : List Int) (n c c' : Nat) (w : World) (hp : IntsAt w w.heap.size A T) (hq : IntsAt w w.heap.size A' B) (HT : Hid (T.length = n)) (HB : Hid (B.length = n)) (h1 : 1 ≤ n) (hn : n ≤ 20) (hbT : ∀ j, 0 ≤ T.getD j 0 ∧ T.getD j 0 ≤ 99) (hbB : ∀ j, 0 ≤ B.getD j 0 ∧ B.getD j 0 ≤ 99) :
    Calls Try.prog 70 #[.agg #[.slice A n c, .slice A' n c']] w (NewRiver (mirL T) (mirL B) n w) := by
  have hb1 : Below w.heap.size w ((w.alloc (.cells #[.slice A n c, .slice A' n c'] 60)).alloc (.cells #[.slice none 0 0, .slice none 0 0] 60)) := by (repeat (first | assumption | exact Below.refl _ _ | (refine bl_alloc ?_ _) | (refine Below.drew ?_) | (refine bl_drewN ?_ _) | (refine bl_set ?_ (by first | (simp; done) | omega | (simp; omega)) _) | (refine bl_trans ?_ (by assumption)) | (refine bl_step ?_ (by assumption) (by first | omega | exact Below.size (by assumption) | (simp; omega) | (simp; exact Below.size (by assumption))))))
  have q0 : ((w.alloc (.cells #[.slice A n c, .slice A' n c'] 60)).alloc (.cells #[.slice none 0 0, .slice none 0 0] 60)).cell? ⟨w.heap.size, 0, none⟩ = some (.slice A n c) := by go_simp
  have q1 : ((w.alloc (.cells #[.slice A n c, .slice A' n c'] 60)).alloc (.cells #[.slice none 0 0, .slice none 0 0] 60)).cell? ⟨w.heap.size, 1, none⟩ = some (.slice A' n c') := by go_simp
  have q2 : ((w.alloc (.cells #[.slice A n c, .slice A' n c'] 60)).alloc (.cells #[.slice none 0 0, .slice none 0 0] 60)).heap[w.heap.size + 1]? = some (.cells #[.slice none 0 0, .slice none 0 0] 60 (0, 0)) := by
    have h := heap_alloc_new (w.alloc (.cells #[.slice A n c, .slice A' n c'] 60)) (.cells #[.slice none 0 0, .slice none 0 0] 60)
    simpa using h
  have HP := fun wx (h : Below w.heap.size w wx) => mirroredRow_any A T n c wx (hp.to h) HT h1 hn hbT
  have HQ := fun wx (h : Below w.heap.size w wx) => mirroredRow_any A' B n c' wx (hq.to h) HB h1 hn hbB
  have HPx := Lib.hid HP
  have HQx := Lib.hid HQ
  have HMT : Hid ((mirL T).length = n) := by show _ = n; rw [mirL_len]; exact HT.out
  have HMB : Hid ((mirL B).length = n) := by show _ = n; rw [mirL_len]; exact HB.out
  clear HP HQ hp hq HT HB hbT hbB
  go_enter Try.func70, Try.ntmps70
  go_wp2_with fail
  generalize ((w.alloc (.cells #[.slice A n c, .slice A' n c'] 60)).alloc (.cells #[.slice none 0 0, .slice none 0 0] 60)) = w1 at *
  have hS1 : w1.cell? ⟨w.heap.size, 0, none⟩ = some (.slice A n c) ∧ w1.cell? ⟨w.heap.size, 1, none⟩ = some (.slice A' n c') ∧ RivObj w1 (w.heap.size + 1) ∧ Below w.heap.size w w1 := ⟨q0, q1, ⟨_, _, q2⟩, hb1⟩
  clear q0 q1 q2
  refine (wpIn_wide (n := 3)).1 (wpIn_region_tree (fun wx => wx.cell? ⟨w.heap.size, 0, none⟩ = some (.slice A n c) ∧ wx.cell? ⟨w.heap.size, 1, none⟩ = some (.slice A' n c') ∧ RivObj wx (w.heap.size + 1) ∧ Below w.heap.size w wx)
    (Pl.takes [0, 1, 3, 4] (.alone 2 (.alone 5 (Pl.takes [6] (.alone 7 .done)))))
    (by kernel_rfl) (by kernel_rfl) (by kernel_rfl) (mrS hS1 ((Below.refl _ _).drew) hb1.size) (fun hS0 => ?_))
  refine tplan_w (v := ?_) rfl (by rfl) ?_ ?_
  rotate_left
  · intro wx hSx
    try dsimp only at hSx
    go_simp
    try (with_reducible rfl)
  try simp only [Act.put, List.setIfInBounds_toArray, List.set_cons_zero, List.set_cons_succ]
  refine tplan_w (v := ?_) rfl (by rfl) ?_ ?_
  rotate_left
  · intro wx hSx
    try dsimp only at hSx
    go_simp
    try (with_reducible rfl)
  try simp only [Act.put, List.setIfInBounds_toArray, List.set_cons_zero, List.set_cons_succ]
  refine tplan_w (v := ?_) rfl (by rfl) ?_ ?_
  rotate_left
  · intro wx hSx
    try dsimp only at hSx
    go_simp
    try (with_reducible rfl)
  try simp only [Act.put, List.setIfInBounds_toArray, List.set_cons_zero, List.set_cons_succ]
  refine tplan_w (v := ?_) rfl (by rfl) ?_ ?_
  rotate_left
  · intro wx hSx
    try dsimp only at hSx
    go_simp
    try (with_reducible rfl)
  try simp only [Act.put, List.setIfInBounds_toArray, List.set_cons_zero, List.set_cons_succ]
  refine tplan_b rfl (fun K hK => ?_)
  go_simp
  refine (HPx.out _ hS0.2.2.2).mono ?_
  rintro e w20 ⟨g1, rfl, hG1, hb20, hg1⟩
  rw [HMT.out] at hG1
  rw [HMT.out]
  have S20 := mrS hS0 hb20 hS0.2.2.2.size
  refine hK _ _ ⟨S20, ?_⟩
  clear hK K
  try simp only [Act.put, List.setIfInBounds_toArray, List.set_cons_zero, List.set_cons_succ]
  refine tplan_b rfl (fun K hK => ?_)
  go_simp
  refine (HQx.out _ S20.2.2.2).mono ?_
  rintro e w21 ⟨g2, rfl, hG2, hb21, hg2⟩
  rw [HMB.out] at hG2
  rw [HMB.out]
  have S21 := mrS S20 hb21 S20.2.2.2.size
  have hG1' := hG1.to hb21
  have n1 := hG1'.lt
  have n2 := hG2.lt
  refine hK _ _ ⟨S21, ?_⟩
  clear hK K
  try simp only [Act.put, List.setIfInBounds_toArray, List.set_cons_zero, List.set_cons_succ]
  refine tplan_w (v := ?_) rfl (by rfl) ?_ ?_
  rotate_left
  · intro wx hSx
    try dsimp only at hSx
    go_simp
    try (with_reducible rfl)
  try simp only [Act.put, List.setIfInBounds_toArray, List.set_cons_zero, List.set_cons_succ]
  have hO := S21.2.2.1.set (.slice (some ⟨g1, 0, none⟩) n n) (.slice (some ⟨g2, 0, none⟩) n n)
  obtain ⟨x, y, hxy⟩ := S21.2.2.1
  have a0 : w21.cell? ⟨w.heap.size + 1, 0, none⟩ = some x := cell_obj hxy rfl
  have a1 : w21.cell? ⟨w.heap.size + 1, 1, none⟩ = some y := cell_obj hxy rfl
  have f0 : w21.frozen? ⟨w.heap.size + 1, 0, none⟩ = false := by simp [World.frozen?, hxy]
  have f1 : w21.frozen? ⟨w.heap.size + 1, 1, none⟩ = false := by simp [World.frozen?, hxy]
  have hbS : Below w.heap.size w21 ((w21.setCell ⟨w.heap.size + 1, 0, none⟩ (.slice (some ⟨g1, 0, none⟩) n n)).setCell ⟨w.heap.size + 1, 1, none⟩ (.slice (some ⟨g2, 0, none⟩) n n)) := ((Below.refl _ _).setCell (p := ⟨w.heap.size + 1, 0, none⟩) (by simp) _).setCell (p := ⟨w.heap.size + 1, 1, none⟩) (by simp) _
  have hlo : w.heap.size + 1 < w1.drew.heap.size := by
    obtain ⟨_, _, e⟩ := hS0.2.2.1
    exact (Array.getElem?_eq_some_iff.1 e).1
  have hz20 := hb20.size
  have hF : ∀ g, g ≠ w.heap.size + 1 → ((w21.setCell ⟨w.heap.size + 1, 0, none⟩ (.slice (some ⟨g1, 0, none⟩) n n)).setCell ⟨w.heap.size + 1, 1, none⟩ (.slice (some ⟨g2, 0, none⟩) n n)).heap[g]? = w21.heap[g]? := fun g hg =>
    (Below.heap_setCell _ ⟨w.heap.size + 1, 1, none⟩ _ g hg).trans (Below.heap_setCell _ ⟨w.heap.size + 1, 0, none⟩ _ g hg)
  have hN1 := hG1'.keep (hF g1 (by omega))
  have hN2 := hG2.keep (hF g2 (by omega))
  have hbE := S21.2.2.2.trans hbS
  have s0 := (World.cell?_of_block (a := ⟨w.heap.size, 0, none⟩) (hF w.heap.size (by omega))).trans S21.1
  have s1 := (World.cell?_of_block (a := ⟨w.heap.size, 1, none⟩) (hF w.heap.size (by omega))).trans S21.2.1
  refine tplan_b rfl (fun K hK => ?_)
  go_simp
  clear a0 a1 f0 f1 hF hbS hxy S20 S21 hG1 hG2 hG1'
  generalize ((w21.setCell ⟨w.heap.size + 1, 0, none⟩ (.slice (some ⟨g1, 0, none⟩) n n)).setCell ⟨w.heap.size + 1, 1, none⟩ (.slice (some ⟨g2, 0, none⟩) n n)) = w9 at *
  refine hK _ _ ⟨⟨s0, s1, ⟨_, _, hO⟩, hbE⟩, ?_⟩
  clear hK K
  try simp only [Act.put, List.setIfInBounds_toArray, List.set_cons_zero, List.set_cons_succ]
  refine tplan_end ?_
  have r0 : w9.cell? ⟨w.heap.size + 1, 0, none⟩ = some (.slice (some ⟨g1, 0, none⟩) n n) := cell_obj hO rfl
  have r1 : w9.cell? ⟨w.heap.size + 1, 1, none⟩ = some (.slice (some ⟨g2, 0, none⟩) n n) := cell_obj hO rfl
  go_wp2_with fail
  refine ⟨rfl, .agg #[.slice (some ⟨g1, 0, none⟩) n n, .slice (some ⟨g2, 0, none⟩) n n], ?_, g1, g2, rfl, hN1, hN2, hbE⟩
  have hres : Try.f70.results = #[ResultVar.cell 2 60] := Try.results70
  simp [results, hres, go_sem]
  go_simp
end Go.Proofs.Ytdpamieheefhdaa
