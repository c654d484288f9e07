/-
  Contract: EvenGrid, as the program has it.
-/
import Derived.Test.YtijnjcamfbnmgaaEvenI
namespace Go.Proofs.Ytijnjcamfbnmgaa
set_option linter.unusedSimpArgs false
set_option linter.unusedVariables false
open Go.ChangeShapes Go.WideShapes Go.ChangeAt Go.RowKit Go.Shelf

def evOk (wI hI room : Int) : Bool := inB wI 1 8 && (inB hI 1 8 && inB room 0 20)
/-- A grid of the call's own with the same number everywhere. -/
def EvenAt (N : Nat) (wI hI room : Int) (v : Value) (W : World) : Prop :=
  ∃ gA H m : Nat, v = .agg #[.slice (some ⟨gA, 0, none⟩) H H, .slice (some ⟨gA + 1 + H, 0, none⟩) (H - 1) (H - 1)] ∧ wI = (m : Int) + 1 ∧ hI = (H : Int) ∧ 1 ≤ H ∧ H ≤ 8 ∧ m ≤ 7 ∧ N ≤ gA ∧ GrB W gA H m (fun _ _ => room) ∧ GrB W (gA + 1 + H) (H - 1) (m + 1) (fun _ _ => room)
theorem GrB.full {W : World} {g cnt n N : Nat} {room : Int} {B : Nat → Nat} (h : GrB W g cnt n (fun y => fillB (B y) room N)) (hN : ∀ y, y < cnt → ∀ x, x < n → B y + x < N) : GrB W g cnt n (fun _ _ => room) :=
  ⟨h.outc, h.lt, fun y hy => (h.rows y hy).congr fun i hi => by unfold fillB; rw [if_pos (hN y hy i hi)]⟩
theorem GrB.start {W : World} {g cnt n : Nat} {room : Int} {B : Nat → Nat} (h : GrB W g cnt n (fun _ _ => 0)) : GrB W g cnt n (fun y => fillB (B y) room 0) :=
  ⟨h.outc, h.lt, fun y hy => (h.rows y hy).congr fun i hi => by unfold fillB; rw [if_neg (by omega)]⟩
attribute [local go_sem] Oper.semAt_some
set_option maxRecDepth 100000 in
set_option maxHeartbeats 3200000 in
theorem evenClo_any (wI hI room : Int) (Z0 Z1 Z2 : Nat) (w : World) (k0 : w.cell? ⟨Z0, 0, none⟩ = some (.int .i64 wI)) (k1 : w.cell? ⟨Z1, 0, none⟩ = some (.int .i64 hI)) (k2 : w.cell? ⟨Z2, 0, none⟩ = some (.int .i64 room)) :
    Calls Try.prog 79 #[.pointer (some ⟨Z0, 0, none⟩), .pointer (some ⟨Z1, 0, none⟩), .pointer (some ⟨Z2, 0, none⟩)] w fun e w' =>
      ((∃ A0 n0 k0 A1 n1 k1, e = .returned (.agg #[.slice A0 n0 k0, .slice A1 n1 k1]) ∧ (evOk wI hI room = true ∧ EvenAt w.heap.size wI hI room (.agg #[.slice A0 n0 k0, .slice A1 n1 k1]) w')) ∨ (Pan e ∧ evOk wI hI room = false)) ∧ Below w.heap.size w w' := by
  have hx : Below w.heap.size w (w.alloc (.cells #[.slice none 0 0, .slice none 0 0] 53)) := by (repeat (first | assumption | exact Below.refl _ _ | (refine bl_alloc ?_ _) | (refine Below.drew ?_) | (refine bl_drewN ?_ _) | (refine bl_set ?_ (by first | (simp; done) | omega | (simp; omega)) _) | (refine bl_trans ?_ (by assumption)) | (refine bl_step ?_ (by assumption) (by first | omega | exact Below.size (by assumption) | (simp; omega) | (simp; exact Below.size (by assumption))))))
  have kr := Blk.new w #[.slice none 0 0, .slice none 0 0] 53
  have l0 := World.block_lt_of_cell? w _ k0
  have l1 := World.block_lt_of_cell? w _ k1
  have l2 := World.block_lt_of_cell? w _ k2
  have d0 := (hx.cell (p := ⟨Z0, 0, none⟩) l0).trans k0
  have d1 := (hx.cell (p := ⟨Z1, 0, none⟩) l1).trans k1
  have d2 := (hx.cell (p := ⟨Z2, 0, none⟩) l2).trans k2
  clear k0 k1 k2
  cases h1 : inB wI 1 8
  case false =>
    have HI := Lib.hid h1
    have R : Hid (evOk wI hI room = false) := by show _ = _; unfold evOk; rw [h1]; rfl
    clear h1
    go_enter Try.func79, Try.ntmps79
    go_wp2_with fail
    refine (isGridSide_any _ _ HI _).mono ?_
    rintro e w1 ⟨rfl, rfl⟩
    go_wp2_with fail
    refine (require_no _).mono ?_
    rintro e w2 ⟨⟨u, pv, rfl⟩, rfl⟩
    go_wp2
    exact ⟨rfl, .inr ⟨⟨_, _, rfl⟩, R.out⟩, hx⟩
  cases h2 : inB hI 1 8
  case false =>
    have HI := Lib.hid h1
    have HI2 := Lib.hid h2
    have R : Hid (evOk wI hI room = false) := by show _ = _; unfold evOk; rw [h1, h2]; rfl
    clear h1 h2
    go_enter Try.func79, Try.ntmps79
    go_wp2_with fail
    refine (isGridSide_any _ _ HI _).mono ?_
    rintro e w1 ⟨rfl, rfl⟩
    go_wp2_with fail
    refine (isGridSide_any _ _ HI2 _).mono ?_
    rintro e w1 ⟨rfl, rfl⟩
    go_wp2_with fail
    refine (require_no _).mono ?_
    rintro e w2 ⟨⟨u, pv, rfl⟩, rfl⟩
    go_wp2
    exact ⟨rfl, .inr ⟨⟨_, _, rfl⟩, R.out⟩, hx⟩
  cases h3 : inB room 0 20
  case false =>
    have HI := Lib.hid h1
    have HI2 := Lib.hid h2
    have HI3 := Lib.hid h3
    have R : Hid (evOk wI hI room = false) := by show _ = _; unfold evOk; rw [h1, h2, h3]; rfl
    clear h1 h2 h3
    go_enter Try.func79, Try.ntmps79
    go_wp2_with fail
    refine (isGridSide_any _ _ HI _).mono ?_
    rintro e w1 ⟨rfl, rfl⟩
    go_wp2_with fail
    refine (isGridSide_any _ _ HI2 _).mono ?_
    rintro e w1 ⟨rfl, rfl⟩
    go_wp2_with fail
    refine (isNoRoom_any _ _ HI3 _).mono ?_
    rintro e w1 ⟨rfl, rfl⟩
    go_wp2_with fail
    refine (require_no _).mono ?_
    rintro e w2 ⟨⟨u, pv, rfl⟩, rfl⟩
    go_wp2
    exact ⟨rfl, .inr ⟨⟨_, _, rfl⟩, R.out⟩, hx⟩
  have R : Hid (evOk wI hI room = true) := by show _ = _; unfold evOk; rw [h1, h2, h3]; rfl
  have b1 : 1 ≤ wI ∧ wI ≤ 8 := of_decide_eq_true h1
  have b2 : 1 ≤ hI ∧ hI ≤ 8 := of_decide_eq_true h2
  obtain ⟨m, rfl⟩ : ∃ m : Nat, wI = (m : Int) + 1 := ⟨(wI - 1).toNat, by omega⟩
  obtain ⟨H, rfl⟩ : ∃ H : Nat, hI = (H : Int) := ⟨hI.toNat, by omega⟩
  have hm7 : m ≤ 7 := by omega
  have hH1 : 1 ≤ H := by omega
  have hH8 : H ≤ 8 := by omega
  have HI := Lib.hid h1
  have HI2 := Lib.hid h2
  have HI3 := Lib.hid h3
  have hmf : ∀ (fn : Fn) (first cap : Array Value) (w : World), (Instr.makeFunc fn first cap).run Try.prog w = .ok (.func fn first cap) w := fun _ _ _ _ => rfl
  have CBG := Lib.hid (fun wx => blankGrid_any m H wx hm7 hH1 hH8)
  clear h1 h2 h3 b1 b2
  refine (callsIn_wide (n := 3)).1 ?_
  refine callsIn_of_wp_marks Try.func79 rfl trivial ?_ rfl
  simp only [Try.ntmps79, List.size_toArray, List.length_cons, List.length_nil, Nat.reduceAdd, Nat.reduceSub, Array.replicate_succ, Array.replicate_zero, List.push_toArray, List.append_toArray, List.nil_append, List.cons_append]
  gi_wp2
  generalize (w.alloc (.cells #[.slice none 0 0, .slice none 0 0] 53)) = w0 at *
  refine ⟨trivial, (callsIn_wide.2 (isGridSide_any _ _ HI _)).mono ?_⟩
  rintro e w1 ⟨rfl, rfl⟩
  gi_wp2
  refine ⟨trivial, (callsIn_wide.2 (isGridSide_any _ _ HI2 _)).mono ?_⟩
  rintro e w1 ⟨rfl, rfl⟩
  gi_wp2
  refine ⟨trivial, (callsIn_wide.2 (isNoRoom_any _ _ HI3 _)).mono ?_⟩
  rintro e w1 ⟨rfl, rfl⟩
  gi_wp2
  refine ⟨trivial, (callsIn_wide.2 (require_yes _)).mono ?_⟩
  rintro e w1 ⟨rfl, rfl⟩
  gi_wp2
  refine ⟨trivial, (callsIn_wide.2 (CBG.out _)).mono ?_⟩
  rintro e w2 ⟨gA, rfl, hgA, hGA, hGU, hb2⟩
  have hlt0 := kr.lt
  have hx2 := bl_step hx hb2 hx.size
  have kr2 := kr.to hb2
  have e2 := (hb2.cell (p := ⟨Z2, 0, none⟩) (World.block_lt_of_cell? _ _ d2)).trans d2
  have kg := Blk.new w2 #[.slice (some ⟨gA, 0, none⟩) H H, .slice (some ⟨gA + 1 + H, 0, none⟩) (H - 1) (H - 1)] 53
  have hy : Below w2.heap.size w2 (w2.alloc (.cells #[.slice (some ⟨gA, 0, none⟩) H H, .slice (some ⟨gA + 1 + H, 0, none⟩) (H - 1) (H - 1)] 53)) := (Below.refl _ _).alloc (Nat.le_refl _) _
  have hgG := hGU.lt
  have hI0 : EvI Z2 w.heap.size w2.heap.size gA H m room 0 (w2.alloc (.cells #[.slice (some ⟨gA, 0, none⟩) H H, .slice (some ⟨gA + 1 + H, 0, none⟩) (H - 1) (H - 1)] 53)) :=
    ⟨(hy.cell (p := ⟨Z2, 0, none⟩) (World.block_lt_of_cell? w2 _ e2)).trans e2, kr2.to hy, kg, (hGA.to hy).start, (hGU.to hy).start⟩
  have hx3 := bl_step hx2 hy hx2.size
  have hneG : ∀ k b x, AtK gA H m k b x → w2.heap.size ≠ b := fun k b x h => by have := h.lt hGA hGU; omega
  clear kr kr2 e2 kg hy hGA hGU hb2 hx2 d0 d1 d2
  gi_wp2
  have hlt3 := hI0.kg.lt
  have hAlt : ∀ k b x, AtK gA H m k b x → b < (w2.alloc (.cells #[.slice (some ⟨gA, 0, none⟩) H H, .slice (some ⟨gA + 1 + H, 0, none⟩) (H - 1) (H - 1)] 53)).heap.size := fun k b x h => h.lt hI0.a hI0.u
  generalize (w2.alloc (.cells #[.slice (some ⟨gA, 0, none⟩) H H, .slice (some ⟨gA + 1 + H, 0, none⟩) (H - 1) (H - 1)] 53)) = w3 at *
  generalize w2.heap.size = G at *
  have q0 := hI0.kg.cell 0 (v := .slice (some ⟨gA, 0, none⟩) H H) rfl
  have q1 := hI0.kg.cell 1 (v := .slice (some ⟨gA + 1 + H, 0, none⟩) (H - 1) (H - 1)) rfl
  have HAL := Lib.hid hAlt
  have HNG := Lib.hid hneG
  clear hAlt hneG
  try gi_wp2
  refine range_givesB (gf := 82) (pre := #[.agg #[.slice (some ⟨gA, 0, none⟩) H H, .slice (some ⟨gA + 1 + H, 0, none⟩) (H - 1) (H - 1)]]) (post := #[]) (N := H * m + (H - 1) * (m + 1)) (m := 2) (xs := edgeK H m (m + 1) (rowP gA) (rowP (gA + 1 + H))) (Kq := fun W => RowsAt (some ⟨gA, 0, none⟩) H m (rowP gA) (fun _ => m) W ∧ RowsAt (some ⟨gA + 1 + H, 0, none⟩) (H - 1) (m + 1) (rowP (gA + 1 + H)) (fun _ => m + 1) W) (by omega) rfl (enters_of Try.func82 (by kernel_rfl) rfl) (numbers_gives _ H m (H - 1) (m + 1) H (H - 1) _ _ _ _ _ _ hH8 (by omega) (by omega) (by omega)) rfl (edgeK_size _ _ _ _ _)
    (fun k W => EvI Z2 w.heap.size G gA H m room k W ∧ Below w.heap.size w W)
    (OwnFrom.and (Own.from (EvI.own _ _ _ _ _ _ _) _) (ownFrom_below (Nat.le_refl _) hx3.size)) (fun k Wa Wb h hb => ⟨h.1.to hb, bl_step h.2 hb h.2.size⟩)
    (fun k W1 h => ⟨⟨fun _ => ⟨gA, 0, rfl, fun y hy => by rw [Nat.zero_add]; exact h.1.a.outc y hy⟩, fun y _ _ => ⟨_, _, rfl⟩⟩, ⟨fun _ => ⟨gA + 1 + H, 0, rfl, fun y hy => by rw [Nat.zero_add]; exact h.1.u.outc y hy⟩, fun y _ _ => ⟨_, _, rfl⟩⟩⟩) ⟨hI0, hx3⟩
    (fun k a' _ => ∃ ev b x, edgeK H m (m + 1) (rowP gA) (rowP (gA + 1 + H)) k = #[ev, .pointer (some ⟨b, x, none⟩)] ∧ AtK gA H m k b x ∧ a' = { tmps := #[.pointer (some ⟨Z0, 0, none⟩), .pointer (some ⟨Z1, 0, none⟩), .pointer (some ⟨Z2, 0, none⟩), .pointer (some ⟨w.heap.size, 0, none⟩), .pointer (some ⟨G, 0, none⟩), undef, .pointer (some ⟨b, x, none⟩), .int .i64 ((m : Int) + 1), .bool true, .bool true, .int .i64 (H : Int), .bool true, .bool true, .bool true, .int .i64 room, .bool false, .bool true, .bool true, .tuple #[], .int .i64 ((m : Int) + 1), .int .i64 (H : Int), .agg #[.slice (some ⟨gA, 0, none⟩) H H, .slice (some ⟨gA + 1 + H, 0, none⟩) (H - 1) (H - 1)], .agg #[.slice (some ⟨gA, 0, none⟩) H H, .slice (some ⟨gA + 1 + H, 0, none⟩) (H - 1) (H - 1)], .func (.func 82) #[.agg #[.slice (some ⟨gA, 0, none⟩) H H, .slice (some ⟨gA + 1 + H, 0, none⟩) (H - 1) (H - 1)]] #[], ev, .pointer (some ⟨b, x, none⟩), undef, undef, undef, undef], defers := [] }) (fun _ _ _ _ _ _ h _ _ => h) ?assign ?body ?done
  case assign =>
    intro l k W1 K hk hI hK
    obtain ⟨ev, b, x, he, ha⟩ := edge_at (gA := gA) hk
    rw [he]
    gi_wp2
    exact hK _ _ ⟨Nat.le_refl _, fun _ _ _ h _ => h⟩ (KeepC.refl _ _) hI ⟨ev, b, x, he, ha, rfl⟩
  case body =>
    rintro l k a' W1 hl hloop hk ⟨hI, hb⟩ ⟨ev, b, x, he, ha, rfl⟩
    obtain ⟨⟨v0, t0⟩, f0, _⟩ := hI.there ha
    have hn := hI.put ha (by omega) (by omega) (HNG.out k b x ha)
    have hbn := hb.setCell (p := ⟨b, x, none⟩) (by rcases ha with ⟨y, _, _, e, _⟩ | ⟨y, _, _, e, _⟩ <;> (dsimp only; omega)) (.int .i64 room)
    have hkc := KeepC.set_ (B := w3.heap.size) W1 (p := ⟨b, x, none⟩) (HAL.out k b x ha) (.int .i64 room)
    have hkf := (KeepsOthers.setCell W1 ⟨b, x, none⟩ (.int .i64 room)).from w3.heap.size
    have cR := hI.cR
    clear hI hb ha he
    gi_wp2
    exact ⟨hkf, hkc, hn, hbn⟩
  case done =>
    rintro D W1 hD ⟨hI, hb⟩ hK
    have cg0 := hI.kg.cell 0 (v := .slice (some ⟨gA, 0, none⟩) H H) rfl
    have cg1 := hI.kg.cell 1 (v := .slice (some ⟨gA + 1 + H, 0, none⟩) (H - 1) (H - 1)) rfl
    have cr0 := hI.kr.cell 0 rfl
    have cr1 := hI.kr.cell 1 rfl
    have fr0 := hI.kr.frozen 0
    have fr1 := hI.kr.frozen 1
    have hA := ((hI.a.full (fun y hy x hx => by have := mul_in hy hx; omega)).far (p := ⟨w.heap.size, 0, none⟩) (by dsimp only; omega) (.slice (some ⟨gA, 0, none⟩) H H)).far (p := ⟨w.heap.size, 1, none⟩) (by dsimp only; omega) (.slice (some ⟨gA + 1 + H, 0, none⟩) (H - 1) (H - 1))
    have hU := ((hI.u.full (fun y hy x hx => by have := mul_in hy hx; omega)).far (p := ⟨w.heap.size, 0, none⟩) (by dsimp only; omega) (.slice (some ⟨gA, 0, none⟩) H H)).far (p := ⟨w.heap.size, 1, none⟩) (by dsimp only; omega) (.slice (some ⟨gA + 1 + H, 0, none⟩) (H - 1) (H - 1))
    have ke := (hI.kr.set 0 (.slice (some ⟨gA, 0, none⟩) H H)).set 1 (.slice (some ⟨gA + 1 + H, 0, none⟩) (H - 1) (H - 1))
    have hbE := (hb.setCell (p := ⟨w.heap.size, 0, none⟩) (Nat.le_refl _) (.slice (some ⟨gA, 0, none⟩) H H)).setCell (p := ⟨w.heap.size, 1, none⟩) (Nat.le_refl _) (.slice (some ⟨gA + 1 + H, 0, none⟩) (H - 1) (H - 1))
    have hDn : w.heap.size < D := by have := hx3.size; omega
    have hKE : ((W1.setCell ⟨w.heap.size, 0, none⟩ (.slice (some ⟨gA, 0, none⟩) H H)).setCell ⟨w.heap.size, 1, none⟩ (.slice (some ⟨gA + 1 + H, 0, none⟩) (H - 1) (H - 1))).heap[D]? = some (.deferred (some [])) := by
      rw [Below.heap_setCell _ _ _ D (by dsimp only; omega), Below.heap_setCell _ _ _ D (by dsimp only; omega)]
      exact hK
    gi_wp2
    generalize ((W1.setCell ⟨w.heap.size, 0, none⟩ (.slice (some ⟨gA, 0, none⟩) H H)).setCell ⟨w.heap.size, 1, none⟩ (.slice (some ⟨gA + 1 + H, 0, none⟩) (H - 1) (H - 1))) = wE at *
    have hgr : ∀ r, some D = some r → ∃ o : Obj, wE.heap[r]? = some o ∧ o.isCells = false := fun r e => by cases e; exact ⟨_, hKE, rfl⟩
    have hA2 := hA.kept (grownBy_putObj' wE D (.deferred none)) hgr
    have hU2 := hU.kept (grownBy_putObj' wE D (.deferred none)) hgr
    have ke2 := ke.keep (w' := wE.putObj D (.deferred none)) (World.putObj_heap_other (by omega))
    have z0 := ke2.cell 0 (v := .slice (some ⟨gA, 0, none⟩) H H) (by simp)
    have z1 := ke2.cell 1 (v := .slice (some ⟨gA + 1 + H, 0, none⟩) (H - 1) (H - 1)) (by simp)
    refine ⟨by simp, .inl ⟨_, _, rfl, run_takeDeferred hKE, ?_⟩⟩
    refine ⟨.agg #[.slice (some ⟨gA, 0, none⟩) H H, .slice (some ⟨gA + 1 + H, 0, none⟩) (H - 1) (H - 1)], ?_, .inl ⟨_, _, _, _, _, _, rfl, R.out, gA, H, m, rfl, rfl, rfl, hH1, hH8, hm7, by omega, hA2, hU2⟩, hbE.trans (belowK_b (w := w) (Nat.le_refl _) wE D _ _ (by omega) hKE rfl rfl)⟩
    simp [results, Try.results79, go_sem, z0, z1]
end Go.Proofs.Ytijnjcamfbnmgaa
