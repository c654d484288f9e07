/-
  Contract: EvenGrid, as the program has it: whole.
-/
import Derived.Test.YtijnjcamfbnmgaaEvenJ
import Derived.Laws.ResultCell
namespace Go.Proofs.Ytijnjcamfbnmgaa
set_option linter.unusedSimpArgs false
set_option linter.unusedVariables false
open Go.ChangeShapes Go.WideShapes Go.ChangeAt Go.RowKit

def EvPost (wI hI room : Int) (w : World) (e : Ending) (w' : World) : Prop :=
  ((evOk wI hI room = true ∧ ∃ A0 n0 k0 A1 n1 k1, e = .returned (.tuple #[.agg #[.slice A0 n0 k0, .slice A1 n1 k1], .bool true]) ∧ EvenAt w.heap.size wI hI room (.agg #[.slice A0 n0 k0, .slice A1 n1 k1]) w') ∨
    (evOk wI hI room = false ∧ e = .returned (.tuple #[.agg #[.slice none 0 0, .slice none 0 0], .bool false]))) ∧ Below w.heap.size w w'
theorem GrB.by_ {W W' : World} {g cnt n : Nat} {f : Nat → Nat → Int} (h : GrB W g cnt n f) (hs : W'.heap.size = W.heap.size) (hk : ∀ b, g ≤ b → W'.heap[b]? = W.heap[b]?) : GrB W' g cnt n f :=
  ⟨fun y hy => (World.cell?_of_block (a := ⟨g, y, none⟩) (hk g (Nat.le_refl _))).trans (h.outc y hy), by rw [hs]; exact h.lt, fun y hy => (h.rows y hy).keep (hk _ (by omega))⟩
theorem EvenAt.by_ {N N' : Nat} {wI hI room : Int} {v : Value} {W W' : World} (h : EvenAt N wI hI room v W) (hN : N' ≤ N) (hs : W'.heap.size = W.heap.size) (hk : ∀ b, N ≤ b → W'.heap[b]? = W.heap[b]?) : EvenAt N' wI hI room v W' := by
  obtain ⟨gA, H, m, e1, e2, e3, h1, h8, h7, hn, ha, hu⟩ := h
  exact ⟨gA, H, m, e1, e2, e3, h1, h8, h7, by omega, ha.by_ hs (fun b hb => hk b (by omega)), hu.by_ hs (fun b hb => hk b (by omega))⟩
theorem EvenAt.to {N : Nat} {wI hI room : Int} {v : Value} {W W' : World} (h : EvenAt N wI hI room v W) (hb : Below W.heap.size W W') : EvenAt N wI hI room v W' := by
  obtain ⟨gA, H, m, e1, e2, e3, h1, h8, h7, hn, ha, hu⟩ := h
  exact ⟨gA, H, m, e1, e2, e3, h1, h8, h7, hn, ha.to hb, hu.to hb⟩
theorem enter_ofE {f : FuncId} {fn : Func} {c : Code} (hf : Try.prog.funcs[f]? = some fn) (hname : (fn.name == "runtime.NumGoroutine") = false) (hb : fn.body = some c) : ∀ (args : Array Value) (w : World), (callFunc f args).run Try.prog w = .ok (.enter f args) w := Go.Proofs.enters_of hf hname hb
set_option maxRecDepth 100000 in
set_option maxHeartbeats 3200000 in
theorem EvenGridI_any (wI hI room : Int) (w : World) : Calls Try.prog 40 #[.int .i64 wI, .int .i64 hI, .int .i64 room] w (EvPost wI hI room w) := by
  have hx : Below w.heap.size w ((((w.alloc (.cells #[.int .i64 wI] 2)).alloc (.cells #[.int .i64 hI] 2)).alloc (.cells #[.int .i64 room] 2)).alloc (.cells #[.slice none 0 0, .slice none 0 0] 53)) := by (repeat (first | assumption | exact Below.refl _ _ | (refine bl_alloc ?_ _) | (refine Below.drew ?_) | (refine bl_drewN ?_ _) | (refine bl_set ?_ (by first | (simp; done) | omega | (simp; omega)) _) | (refine bl_trans ?_ (by assumption)) | (refine bl_step ?_ (by assumption) (by first | omega | exact Below.size (by assumption) | (simp; omega) | (simp; exact Below.size (by assumption))))))
  have k0 : ((((w.alloc (.cells #[.int .i64 wI] 2)).alloc (.cells #[.int .i64 hI] 2)).alloc (.cells #[.int .i64 room] 2)).alloc (.cells #[.slice none 0 0, .slice none 0 0] 53)).cell? ⟨w.heap.size, 0, none⟩ = some (.int .i64 wI) := by go_simp
  have k1 : ((((w.alloc (.cells #[.int .i64 wI] 2)).alloc (.cells #[.int .i64 hI] 2)).alloc (.cells #[.int .i64 room] 2)).alloc (.cells #[.slice none 0 0, .slice none 0 0] 53)).cell? ⟨w.heap.size + 1, 0, none⟩ = some (.int .i64 hI) := by go_simp
  have k2 : ((((w.alloc (.cells #[.int .i64 wI] 2)).alloc (.cells #[.int .i64 hI] 2)).alloc (.cells #[.int .i64 room] 2)).alloc (.cells #[.slice none 0 0, .slice none 0 0] 53)).cell? ⟨w.heap.size + 1 + 1, 0, none⟩ = some (.int .i64 room) := by go_simp
  have kR : Blk ((((w.alloc (.cells #[.int .i64 wI] 2)).alloc (.cells #[.int .i64 hI] 2)).alloc (.cells #[.int .i64 room] 2)).alloc (.cells #[.slice none 0 0, .slice none 0 0] 53)) (w.heap.size + 1 + 1 + 1) #[.slice none 0 0, .slice none 0 0] 53 := by
    have := Blk.new (((w.alloc (.cells #[.int .i64 wI] 2)).alloc (.cells #[.int .i64 hI] 2)).alloc (.cells #[.int .i64 room] 2)) #[.slice none 0 0, .slice none 0 0] 53
    rwa [World.size_alloc, World.size_alloc, World.size_alloc] at this
  obtain ⟨W1, hE⟩ : ∃ W1, ((((w.alloc (.cells #[.int .i64 wI] 2)).alloc (.cells #[.int .i64 hI] 2)).alloc (.cells #[.int .i64 room] 2)).alloc (.cells #[.slice none 0 0, .slice none 0 0] 53)) = W1 := ⟨_, rfl⟩
  rw [hE] at hx k0 k1 k2 kR
  have hy : Below W1.heap.size W1 ((W1.alloc (.cells #[.slice none 0 0, .slice none 0 0] 53)).alloc (.cells #[.bool false] 4)) := by (repeat (first | assumption | exact Below.refl _ _ | (refine bl_alloc ?_ _) | (refine Below.drew ?_) | (refine bl_drewN ?_ _) | (refine bl_set ?_ (by first | (simp; done) | omega | (simp; omega)) _) | (refine bl_trans ?_ (by assumption)) | (refine bl_step ?_ (by assumption) (by first | omega | exact Below.size (by assumption) | (simp; omega) | (simp; exact Below.size (by assumption))))))
  have l0 := World.block_lt_of_cell? W1 _ k0
  have l1 := World.block_lt_of_cell? W1 _ k1
  have l2 := World.block_lt_of_cell? W1 _ k2
  have lR := kR.lt
  have CA := attemptG_any 79 #[.pointer (some ⟨w.heap.size, 0, none⟩), .pointer (some ⟨w.heap.size + 1, 0, none⟩), .pointer (some ⟨w.heap.size + 1 + 1, 0, none⟩)] W1 (fun v W => evOk wI hI room = true ∧ EvenAt (W1.heap.size + 1 + 1) wI hI room v W) (evOk wI hI room = false) (enter_ofE Try.func79 (by kernel_rfl) rfl)
    (by
      have := evenClo_any wI hI room w.heap.size (w.heap.size + 1) (w.heap.size + 1 + 1) ((W1.alloc (.cells #[.slice none 0 0, .slice none 0 0] 53)).alloc (.cells #[.bool false] 4)) ((hy.cell (p := ⟨w.heap.size, 0, none⟩) l0).trans k0) ((hy.cell (p := ⟨w.heap.size + 1, 0, none⟩) l1).trans k1) ((hy.cell (p := ⟨w.heap.size + 1 + 1, 0, none⟩) l2).trans k2)
      simpa only [World.size_alloc] using this)
  have HE := Lib.hid hE
  clear hE k0 k1 k2 hy l0 l1 l2
  go_enter Try.func40, Try.ntmps40
  go_wp2_with fail
  rw [HE.out]
  refine CA.mono ?_
  rintro e w2 ⟨⟨A0, n0, c0, A1, n1, c1, w1, rfl, ⟨hk, hv⟩, hT⟩ | ⟨rfl, hk⟩, hb2⟩
  · have hv2 := hv.by_ (N' := W1.heap.size + 1 + 1) (Nat.le_refl _) hT.1 (fun b hb => hT.2 b (by omega) (by omega))
    have kR2 := kR.to hb2
    have bb := bl_step hx hb2 hx.size
    have HK := Lib.hid hk
    clear CA hv hT hk kR
    have t0 := kR2.cell 0 rfl
    have t1 := kR2.cell 1 rfl
    have q0 := kR2.frozen 0
    have q1 := kR2.frozen 1
    have ke := (kR2.set 0 (.slice A0 n0 c0)).set 1 (.slice A1 n1 c1)
    have hbE := (bb.setCell (p := ⟨w.heap.size + 1 + 1 + 1, 0, none⟩) (by show w.heap.size ≤ w.heap.size + 1 + 1 + 1; omega) (.slice A0 n0 c0)).setCell (p := ⟨w.heap.size + 1 + 1 + 1, 1, none⟩) (by show w.heap.size ≤ w.heap.size + 1 + 1 + 1; omega) (.slice A1 n1 c1)
    have hvE : EvenAt (W1.heap.size + 1 + 1) wI hI room (.agg #[.slice A0 n0 c0, .slice A1 n1 c1]) ((w2.setCell ⟨w.heap.size + 1 + 1 + 1, 0, none⟩ (.slice A0 n0 c0)).setCell ⟨w.heap.size + 1 + 1 + 1, 1, none⟩ (.slice A1 n1 c1)) := hv2.by_ (Nat.le_refl _) (by simp [World.setCell]) (fun b hb => by
      rw [Below.heap_setCell _ _ _ b (by dsimp only; omega), Below.heap_setCell _ _ _ b (by dsimp only; omega)])
    have hNN := hx.size
    go_wp2
    generalize ((w2.setCell ⟨w.heap.size + 1 + 1 + 1, 0, none⟩ (.slice A0 n0 c0)).setCell ⟨w.heap.size + 1 + 1 + 1, 1, none⟩ (.slice A1 n1 c1)) = wE at *
    have z0 := ke.cell 0 (v := .slice A0 n0 c0) (by simp)
    have z1 := ke.cell 1 (v := .slice A1 n1 c1) (by simp)
    refine bodyPost_ret_by (v := .tuple #[.agg #[.slice A0 n0 c0, .slice A1 n1 c1], .bool true]) ?_ rfl ⟨.inl ⟨HK.out, _, _, _, _, _, _, rfl, hvE.by_ (by omega) rfl (fun _ _ => rfl)⟩, hbE⟩
    simp [results, Try.results40, go_sem, z0, z1]
  · have kR2 := kR.to hb2
    have bb := bl_step hx hb2 hx.size
    have HK := Lib.hid hk
    clear CA hk kR
    have t0 := kR2.cell 0 rfl
    have t1 := kR2.cell 1 rfl
    have q0 := kR2.frozen 0
    have q1 := kR2.frozen 1
    have ke := (kR2.set 0 (.slice none 0 0)).set 1 (.slice none 0 0)
    have hbE := (bb.setCell (p := ⟨w.heap.size + 1 + 1 + 1, 0, none⟩) (by show w.heap.size ≤ w.heap.size + 1 + 1 + 1; omega) (.slice none 0 0)).setCell (p := ⟨w.heap.size + 1 + 1 + 1, 1, none⟩) (by show w.heap.size ≤ w.heap.size + 1 + 1 + 1; omega) (.slice none 0 0)
    go_wp2
    generalize ((w2.setCell ⟨w.heap.size + 1 + 1 + 1, 0, none⟩ (.slice none 0 0)).setCell ⟨w.heap.size + 1 + 1 + 1, 1, none⟩ (.slice none 0 0)) = wE at *
    have z0 := ke.cell 0 (v := .slice none 0 0) (by simp)
    have z1 := ke.cell 1 (v := .slice none 0 0) (by simp)
    refine bodyPost_ret_by (v := .tuple #[.agg #[.slice none 0 0, .slice none 0 0], .bool false]) ?_ rfl ⟨.inr ⟨HK.out, rfl⟩, hbE⟩
    simp [results, Try.results40, go_sem, z0, z1]
end Go.Proofs.Ytijnjcamfbnmgaa
