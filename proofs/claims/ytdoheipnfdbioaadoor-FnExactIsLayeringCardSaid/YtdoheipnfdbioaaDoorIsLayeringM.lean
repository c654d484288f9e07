/-
  Proved: FnExactIsLayering over every input at which its listed variables lie as the program's text lays them, and its tied card.
-/
import Derived.Test.YtdoheipnfdbioaaDoorPan
import Derived.Test.YtdoheipnfdbioaaDoorWirL
import Derived.Test.YtdoheipnfdbioaaDoorReqW
import Derived.Test.YtdoheipnfdbioaaDoorReqL
import Derived.Test.YtdoheipnfdbioaaDoorSpan
import Derived.ProofKit
import Derived.LaidMore
import Derived.OpenShut
import Derived.Stop.Joined
import Derived.Test.YtdoheipnfdbioaaDoorCards
import Derived.Test.YtdoheipnfdbioaaDoorTie
import Derived.SevenTiedAt
import Derived.Stop.LaidErr
import Derived.ChangeMaps5
namespace Go.Proofs.YtdoheipnfdbioaaDoor
set_option linter.unusedSimpArgs false
set_option linter.unusedVariables false
open Go.ChangeShapes Go.WideShapes Go.ChangeAt Go.RowKit

theorem catchU_panicking (p : Addr) (x : Bool) (u : TypeId) (pv : Value) (older : List PanicEntry) (w : World) (hc : w.cell? p = some (.bool x)) (hz : w.frozen? p = false) :
    CallsD Tryd.prog 65 #[.pointer (some p)] (.panicking ({ v := .iface u pv, recovered := false } :: older)) w fun e u' w' =>
      e = .returned (.tuple #[]) ∧ u' = .panicking ({ v := .iface u pv, recovered := true } :: older) ∧ w' = w.setCell p (.bool false) := by
  refine callsD_of_wpS Tryd.func65 rfl fun c₀ cs hu => ?_
  apply wpS_region
  simp [wpOpsS, go_sem, recoverD, hu, Tryd.ntmps65, Exit.thenS, hc, hz, bodyPostS, results, Tryd.results65]
theorem catchU_idle (p : Addr) (x : Bool) (w : World) (hc : w.cell? p = some (.bool x)) (hz : w.frozen? p = false) :
    CallsD Tryd.prog 65 #[.pointer (some p)] .returning w fun e u' w' => e = .returned (.tuple #[]) ∧ u' = .returning ∧ w' = w.setCell p (.bool true) := by
  refine callsD_of_wpS Tryd.func65 rfl fun c₀ cs hu => ?_
  apply wpS_region
  simp [wpOpsS, go_sem, recoverD, hu, Tryd.ntmps65, Exit.thenS, hc, hz, bodyPostS, results, Tryd.results65]
  cases c₀
  simp_all
def AttURes (OK : Value → World → Prop) (NO : Prop) (B : Nat) (w : World) (e : Ending) (w' : World) : Prop :=
  ((∃ v w1, e = .returned (.tuple #[v, .bool true]) ∧ OK v w1 ∧ w' = (w1.setCell ⟨B, 0, none⟩ (.bool true)).setCell ⟨B, 0, none⟩ (.bool true)) ∨ (e = .returned (.tuple #[.int .u64 0, .bool false]) ∧ NO)) ∧ Below w.heap.size w w'
theorem attemptU_any (G : Nat) (caps : Array Value) (w : World) (OK : Value → World → Prop) (NO : Prop) (eg : ∀ args w, (callFunc G args).run Tryd.prog w = .ok (.enter G args) w)
    (hc : Calls Tryd.prog G caps (w.alloc (.cells #[.bool false] 4)) fun e w' => ((∃ v, e = .returned v ∧ OK v w') ∨ (Pan e ∧ NO)) ∧ Below (w.alloc (.cells #[.bool false] 4)).heap.size (w.alloc (.cells #[.bool false] 4)) w') :
    Calls Tryd.prog 37 #[.func (.func G) #[] caps] w (AttURes OK NO w.heap.size w) := by
  have hmf : ∀ (fn : Fn) (first cap : Array Value) (w : World), (Instr.makeFunc fn first cap).run Tryd.prog w = .ok (.func fn first cap) w := fun _ _ _ _ => rfl
  go_enter_defers Tryd.func37, Tryd.ntmps37
  go_wp2_with fail
  refine hc.mono ?_
  rintro e w1 ⟨h, hb1⟩
  have c0 : w1.cell? ⟨w.heap.size, 0, none⟩ = some (.bool false) := (hb1.cell (p := ⟨w.heap.size, 0, none⟩) (by simp)).trans (by go_simp)
  have f0 : w1.frozen? ⟨w.heap.size, 0, none⟩ = false := (hb1.frozen (p := ⟨w.heap.size, 0, none⟩) (by simp)).trans (by go_simp)
  have b1 : Below w.heap.size w w1 := bl_trans (by (repeat (first | assumption | exact Below.refl _ _ | (refine bl_alloc ?_ _) | (refine Below.drew ?_) | (refine bl_drewN ?_ _) | (refine bl_set ?_ (by first | (simp; done) | omega | (simp; omega)) _) | (refine bl_trans ?_ (by assumption)) | (refine bl_step ?_ (by assumption) (by first | omega | exact Below.size (by assumption) | (simp; omega) | (simp; exact Below.size (by assumption))))))) hb1
  rcases h with ⟨v, rfl, hv⟩ | ⟨⟨u, pv, rfl⟩, hno⟩
  · go_wp2
    refine leaves_cons (f := 65) (args := #[.pointer (some ⟨w.heap.size, 0, none⟩)]) (by simp) (by simp [go_sem]) ?_
    refine (catchU_idle ⟨w.heap.size, 0, none⟩ true _ ?_ ?_).mono ?_
    · exact World.cell?_setCell_same _ _ _ c0
    · simp [f0]
    rintro e u' w'' ⟨rfl, rfl, rfl⟩
    have c1 : (w1.setCell ⟨w.heap.size, 0, none⟩ (.bool true)).cell? ⟨w.heap.size, 0, none⟩ = some (.bool true) := World.cell?_setCell_same _ _ _ c0
    have c2 : ((w1.setCell ⟨w.heap.size, 0, none⟩ (.bool true)).setCell ⟨w.heap.size, 0, none⟩ (.bool true)).cell? ⟨w.heap.size, 0, none⟩ = some (.bool true) := World.cell?_setCell_same _ _ _ c1
    simp [Leaves, settle, results, Tryd.results37, go_sem, c2]
    exact ⟨.inl ⟨_, _, rfl, hv, rfl⟩, (b1.setCell (p := ⟨w.heap.size, 0, none⟩) (Nat.le_refl _) _).setCell (p := ⟨w.heap.size, 0, none⟩) (Nat.le_refl _) _⟩
  · go_wp2
    refine leaves_cons (f := 65) (args := #[.pointer (some ⟨w.heap.size, 0, none⟩)]) (by simp) (by simp [go_sem]) ?_
    refine (catchU_panicking ⟨w.heap.size, 0, none⟩ false _ _ _ _ c0 f0).mono ?_
    rintro e u' w'' ⟨rfl, rfl, rfl⟩
    have c1 : (w1.setCell ⟨w.heap.size, 0, none⟩ (.bool false)).cell? ⟨w.heap.size, 0, none⟩ = some (.bool false) := World.cell?_setCell_same _ _ _ c0
    simp [Leaves, settle, results, Tryd.results37, go_sem, c1]
    exact ⟨.inr ⟨rfl, hno⟩, b1.setCell (p := ⟨w.heap.size, 0, none⟩) (Nat.le_refl _) _⟩
end Go.Proofs.YtdoheipnfdbioaaDoor
namespace Go.Proofs.YtdoheipnfdbioaaDoor
open Go.ChangeShapes Go.WideShapes Go.ChangeAt Go.RowKit

/-- Is it a valid wiring, with layers that are a layering? -/
def isLayB (nI : Int) (C J : List (List Int)) (F X : List Int) : Bool := wvB nI C J F && layB nI C F X
set_option maxRecDepth 100000 in
set_option maxHeartbeats 1600000 in
theorem IsLayeringS_any (nI : Int) (AC : Option Addr) (C : List SlI) (cC : Nat) (AJ : Option Addr) (J : List SlI) (cJ : Nat) (AF : Option Addr) (F : List Int) (cF : Nat) (AX : Option Addr) (X : List Int) (cX : Nat) (w : World)
    (hp : WirAt w w.heap.size AC C AJ J AF F) (hs : WirSz C J F) (hX : IntsAt w w.heap.size AX X) (lX : X.length ≤ 1048576) :
    Calls Tryd.prog 10 #[.agg #[.int .i64 nI, .slice AC C.length cC, .slice AJ J.length cJ, .slice AF F.length cF], .slice AX X.length cX] w fun e w' => e = .returned (.bool (isLayB nI (heldI C) (heldI J) F X)) ∧ Below w.heap.size w w' := by
  have hx : Below w.heap.size w (w.alloc (.cells #[.int .i64 nI, .slice AC C.length cC, .slice AJ J.length cJ, .slice AF F.length cF] 28)) := by (repeat (first | assumption | exact Below.refl _ _ | (refine bl_alloc ?_ _) | (refine Below.drew ?_) | (refine bl_drewN ?_ _) | (refine bl_set ?_ (by first | (simp; done) | omega | (simp; omega)) _) | (refine bl_trans ?_ (by assumption)) | (refine bl_step ?_ (by assumption) (by first | omega | exact Below.size (by assumption) | (simp; omega) | (simp; exact Below.size (by assumption))))))
  have k0 := Blk.new w #[.int .i64 nI, .slice AC C.length cC, .slice AJ J.length cJ, .slice AF F.length cF] 28
  have h1 := hp.to hx
  have hX1 := hX.to hx
  have cc := l07Is_any w.heap.size nI AC C cC AJ J cJ AF F cF _ (k0.cell 0 rfl) (k0.cell 1 rfl) (k0.cell 2 rfl) (k0.cell 3 rfl) h1.1 h1.2.1 h1.2.2 hs.1.1 hs.2.1.1 hs.2.2 hs.1.2 hs.2.1.2
  cases hv : wvB nI (heldI C) (heldI J) F
  · have R : Hid (isLayB nI (heldI C) (heldI J) F X = false) := by show _ = _; unfold isLayB; rw [hv]; rfl
    rw [hv] at cc
    clear hv hp hX hs
    go_enter Tryd.func10, Tryd.ntmps10
    go_wp2_with fail
    refine cc.mono ?_
    rintro e w1 ⟨rfl, hb1⟩
    go_wp2
    go_ret
    exact ⟨retB R.out.symm, bl_step hx hb1 hx.size⟩
  · obtain ⟨n, hn, ok⟩ := wvOk_of hv
    subst hn
    have R : Hid (isLayB n (heldI C) (heldI J) F X = layB n (heldI C) F X) := by show _ = _; unfold isLayB; rw [hv]; rfl
    rw [hv] at cc
    have CL := Lib.hid (fun (wx : World) (hb : Below (w.alloc (.cells #[.int .i64 (n : Int), .slice AC C.length cC, .slice AJ J.length cJ, .slice AF F.length cF] 28)).heap.size (w.alloc (.cells #[.int .i64 (n : Int), .slice AC C.length cC, .slice AJ J.length cJ, .slice AF F.length cF] 28)) wx) => l07Layering_any w.heap.size n AC C cC (heldI J) AF F cF AX X cX wx ((k0.to hb).cell 0 rfl) ((k0.to hb).cell 1 rfl) ((k0.to hb).cell 3 rfl) (h1.1.to hb) (h1.2.2.to hb) (hX1.to hb) ok lX)
    clear hv hp hX hs h1 hX1 ok k0
    obtain ⟨b, hb⟩ : ∃ b, layB n (heldI C) F X = b := ⟨_, rfl⟩
    rw [hb] at CL R
    clear hb
    go_enter Tryd.func10, Tryd.ntmps10
    go_wp2_with fail
    refine cc.mono ?_
    rintro e w1 ⟨rfl, hb1⟩
    go_wp2_with fail
    refine (CL.out _ hb1).mono ?_
    rintro e w2 ⟨rfl, hb2⟩
    go_wp2
    go_ret
    exact ⟨retB R.out.symm, bl_step (bl_step hx hb1 hx.size) hb2 (bl_step hx hb1 hx.size).size⟩

set_option maxRecDepth 100000 in
set_option maxHeartbeats 1600000 in
theorem isLayClo_any (nI : Int) (AC : Option Addr) (C : List SlI) (cC : Nat) (AJ : Option Addr) (J : List SlI) (cJ : Nat) (AF : Option Addr) (F : List Int) (cF : Nat) (AX : Option Addr) (X : List Int) (cX : Nat) (Z1 Z2 : Nat) (w : World)
    (hp : WirAt w w.heap.size AC C AJ J AF F) (hs : WirSz C J F) (hX : IntsAt w w.heap.size AX X) (lX : X.length ≤ 1048576) (hL : BruAt w)
    (k1 : Blk w Z1 #[.int .i64 nI, .slice AC C.length cC, .slice AJ J.length cJ, .slice AF F.length cF] 28) (c2 : w.cell? ⟨Z2, 0, none⟩ = some (.slice AX X.length cX)) :
    Calls Tryd.prog 38 #[.pointer (some ⟨Z1, 0, none⟩), .pointer (some ⟨Z2, 0, none⟩)] w fun e w' =>
      ((∃ v, e = .returned v ∧ isLayB nI (heldI C) (heldI J) F X = true) ∨ (Pan e ∧ isLayB nI (heldI C) (heldI J) F X = false)) ∧ Below w.heap.size w w' := by
  have CW := Lib.hid (fun (wx : World) (hb : Below w.heap.size w wx) => requireWiring_any nI AC C cC AJ J cJ AF F cF wx (hp.to hb).1 (hp.to hb).2.1 (hp.to hb).2.2 hs.1.1 hs.2.1.1 hs.2.2 hs.1.2 hs.2.1.2)
  have CX := Lib.hid (fun (wx : World) (hb : Below w.heap.size w wx) => hX.to hb)
  have CL := Lib.hid (fun (wx : World) (hb : Below w.heap.size w wx) => hL.to hb)
  have s0 := k1.cell 0 (v := .int .i64 nI) rfl
  have s1 := k1.cell 1 (v := .slice AC C.length cC) rfl
  have s2 := k1.cell 2 (v := .slice AJ J.length cJ) rfl
  have s3 := k1.cell 3 (v := .slice AF F.length cF) rfl
  have l1 := k1.lt
  have l2 : Z2 < w.heap.size := World.block_lt_of_cell? w _ c2
  clear hp hs hX hL k1
  go_enter Tryd.func38, Tryd.ntmps38
  go_wp2
  refine wp_region_treeB (.takes [0, 2] (.alone 1 (.alone 3 (.takes [4] .done)))) (by kernel_rfl) (by kernel_rfl) (by kernel_rfl) (fun _ d _ _ _ h => by cases d <;> exact h) (fun hS0 => ?_)
  refine tplan_w (v := ?_) rfl (by rfl) ?_ ?_
  rotate_left
  · intro wx hSx
    obtain ⟨hcx, hfx, hzx⟩ := bcell hSx
    go_simp
    try (with_reducible rfl)
  try simp only [Act.put, List.setIfInBounds_toArray, List.set_cons_zero, List.set_cons_succ]
  refine tplan_w (v := ?_) rfl (by rfl) ?_ ?_
  rotate_left
  · intro wx hSx
    obtain ⟨hcx, hfx, hzx⟩ := bcell hSx
    go_simp
    try (with_reducible rfl)
  try simp only [Act.put, List.setIfInBounds_toArray, List.set_cons_zero, List.set_cons_succ]
  refine tplan_b rfl (fun K hK => ?_)
  go_simp
  refine (CW.out _ hS0).mono ?_
  rintro e w3 ⟨⟨n, gX, AJ2, cJ2, rfl, ⟨hv, ok⟩, rfl, hBX, hJts⟩ | ⟨hv, u, pv, rfl⟩, hb3⟩
  · have hS1 := belowS hS0 hb3
    have HV : Hid (layB n (heldI C) F X = isLayB n (heldI C) (heldI J) F X) := by
      show _ = _
      unfold isLayB
      rw [hv]; rfl
    refine hK _ _ ⟨hS1, ?_⟩
    clear hK K
    try simp only [Act.put, List.setIfInBounds_toArray, List.set_cons_zero, List.set_cons_succ]
    refine tplan_b rfl (fun K hK => ?_)
    go_simp
    have hB3 := hb3
    refine (requireLayering_any n gX (heldI C) (heldI J) F AJ2 (heldI J).length cJ2 AX X cX w3 hBX ok ((CX.out _ hS0).to hb3) lX ((CL.out _ hS0).to hb3)).mono ?_
    rintro e w4 ⟨⟨hl, rfl⟩ | ⟨hl, u, pv, rfl⟩, hb4⟩
    · have hS2 := belowS hS1 hb4
      have HL : Hid (isLayB n (heldI C) (heldI J) F X = true) := by show _ = _; rw [← HV.out]; exact hl
      refine hK _ _ ⟨hS2, ?_⟩
      clear hK K hl
      try simp only [Act.put, List.setIfInBounds_toArray, List.set_cons_zero, List.set_cons_succ]
      refine tplan_w (v := ?_) rfl (by rfl) ?_ ?_
      rotate_left
      · intro wx hSx
        obtain ⟨hcx, hfx, hzx⟩ := bcell hSx
        go_simp
        try (with_reducible rfl)
      try simp only [Act.put, List.setIfInBounds_toArray, List.set_cons_zero, List.set_cons_succ]
      refine tplan_endQ ?_
      go_wp2
      go_ret
      exact ⟨.inl ⟨_, rfl, HL.out⟩, hS2⟩
    · have HL : Hid (isLayB n (heldI C) (heldI J) F X = false) := by show _ = _; rw [← HV.out]; exact hl
      have hS2 := belowS hS1 hb4
      clear hl
      go_wp2
      exact ⟨rfl, .inr ⟨⟨_, _, rfl⟩, HL.out⟩, hS2⟩
  · have HV : Hid (isLayB nI (heldI C) (heldI J) F X = false) := by show _ = _; unfold isLayB; rw [hv]; rfl
    clear hv
    go_wp2
    exact ⟨rfl, .inr ⟨⟨_, _, rfl⟩, HV.out⟩, hS0.trans (hb3.mono hS0.size)⟩
theorem enter_of {f : FuncId} {fn : Func} {c : Code} (hf : Tryd.prog.funcs[f]? = some fn) (hname : (fn.name == "runtime.NumGoroutine") = false) (hb : fn.body = some c) : ∀ (args : Array Value) (w : World), (callFunc f args).run Tryd.prog w = .ok (.enter f args) w := Go.Proofs.enters_of hf hname hb
set_option maxRecDepth 100000 in
set_option maxHeartbeats 1600000 in
theorem IsLayeringI_any (nI : Int) (AC : Option Addr) (C : List SlI) (cC : Nat) (AJ : Option Addr) (J : List SlI) (cJ : Nat) (AF : Option Addr) (F : List Int) (cF : Nat) (AX : Option Addr) (X : List Int) (cX : Nat) (w : World)
    (hp : WirAt w w.heap.size AC C AJ J AF F) (hs : WirSz C J F) (hX : IntsAt w w.heap.size AX X) (lX : X.length ≤ 1048576) (hL : BruAt w) :
    Calls Tryd.prog 13 #[.agg #[.int .i64 nI, .slice AC C.length cC, .slice AJ J.length cJ, .slice AF F.length cF], .slice AX X.length cX] w fun e w' => e = .returned (.bool (isLayB nI (heldI C) (heldI J) F X)) ∧ Below w.heap.size w w' := by
  have hx : Below w.heap.size w ((w.alloc (.cells #[.int .i64 nI, .slice AC C.length cC, .slice AJ J.length cJ, .slice AF F.length cF] 28)).alloc (.cells #[.slice AX X.length cX] 23)) := by (repeat (first | assumption | exact Below.refl _ _ | (refine bl_alloc ?_ _) | (refine Below.drew ?_) | (refine bl_drewN ?_ _) | (refine bl_set ?_ (by first | (simp; done) | omega | (simp; omega)) _) | (refine bl_trans ?_ (by assumption)) | (refine bl_step ?_ (by assumption) (by first | omega | exact Below.size (by assumption) | (simp; omega) | (simp; exact Below.size (by assumption))))))
  have k1 : Blk ((w.alloc (.cells #[.int .i64 nI, .slice AC C.length cC, .slice AJ J.length cJ, .slice AF F.length cF] 28)).alloc (.cells #[.slice AX X.length cX] 23)) w.heap.size #[.int .i64 nI, .slice AC C.length cC, .slice AJ J.length cJ, .slice AF F.length cF] 28 := (Blk.new _ _ _).alloc _
  have k2 : Blk ((w.alloc (.cells #[.int .i64 nI, .slice AC C.length cC, .slice AJ J.length cJ, .slice AF F.length cF] 28)).alloc (.cells #[.slice AX X.length cX] 23)) (w.heap.size + 1) #[.slice AX X.length cX] 23 := by
    have := Blk.new (w.alloc (.cells #[.int .i64 nI, .slice AC C.length cC, .slice AJ J.length cJ, .slice AF F.length cF] 28)) #[.slice AX X.length cX] 23
    rwa [World.size_alloc] at this
  have hp1 := hp.to hx
  have hX1 := hX.to hx
  have hL1 := hL.to hx
  have hgen : ∃ W1, ((w.alloc (.cells #[.int .i64 nI, .slice AC C.length cC, .slice AJ J.length cJ, .slice AF F.length cF] 28)).alloc (.cells #[.slice AX X.length cX] 23)) = W1 := ⟨_, rfl⟩
  obtain ⟨W1, hW1⟩ := hgen
  rw [hW1] at hx k1 k2 hp1 hX1 hL1
  have hy := (Below.refl W1.heap.size W1).alloc (Nat.le_refl _) (.cells #[.bool false] 4)
  have CA := attemptU_any 38 #[.pointer (some ⟨w.heap.size, 0, none⟩), .pointer (some ⟨w.heap.size + 1, 0, none⟩)] W1 (fun _ _ => isLayB nI (heldI C) (heldI J) F X = true) (isLayB nI (heldI C) (heldI J) F X = false) (enter_of Tryd.func38 (by kernel_rfl) rfl)
    (isLayClo_any nI AC C cC AJ J cJ AF F cF AX X cX w.heap.size (w.heap.size + 1) _ (hp1.to hy) hs (hX1.to hy) lX (hL1.to hy) (k1.to hy) ((k2.to hy).cell 0 rfl))
  have HW1 := Lib.hid hW1
  clear hW1 hp hs hX lX hL k1 k2 hp1 hX1 hL1 hy
  go_enter Tryd.func13, Tryd.ntmps13
  go_wp2_with fail
  rw [HW1.out]
  refine CA.mono ?_
  rintro e w2 ⟨⟨v, w1, rfl, hl, rfl⟩ | ⟨rfl, hl⟩, hb2⟩
  · have HL := Lib.hid hl
    have bb := hx.trans (hb2.mono hx.size)
    clear hl hb2
    generalize (w1.setCell _ _).setCell _ _ = w3 at *
    go_wp2
    go_ret
    exact ⟨retB HL.out.symm, bb⟩
  · have HL := Lib.hid hl
    have bb := hx.trans (hb2.mono hx.size)
    clear hl hb2
    go_wp2
    go_ret
    exact ⟨retB HL.out.symm, bb⟩
end Go.Proofs.YtdoheipnfdbioaaDoor
namespace Go.Proofs.YtdoheipnfdbioaaDoor.fnExactIsLayering
open Go.ChangeShapes Go.WideShapes Go.ChangeAt Go.RowKit

set_option maxRecDepth 100000 in
set_option maxHeartbeats 3200000 in
theorem walk (n : Int) (AC : Option Addr) (C : List SlI) (cC : Nat) (AJ : Option Addr) (J : List SlI) (cJ : Nat) (AF : Option Addr) (F : List Int) (cF : Nat) (AX : Option Addr) (X : List Int) (cX : Nat) (w : World) (h : WirIn w AC C cC AJ J cJ AF F cF n)
    (hx : IntsAt w w.heap.size AX X ∧ (∀ n ∈ X, Fits n) ∧ X.length ≤ cX ∧ cX ≤ maxLen) (hL : BruAt w) :
    Calls Tryd.prog 3 #[.agg #[.int .i64 n, .slice AC C.length cC, .slice AJ J.length cJ, .slice AF F.length cF], .slice AX X.length cX] w fun e w' => e = .returned (.bool true) ∧ Below w.heap.size w w' := by
  obtain ⟨_, ⟨hC, _, lC1, lC2⟩, ⟨hJ, _, lJ1, lJ2⟩, hF, _, lF1, lF2⟩ := h
  obtain ⟨hX, _, lX1, lX2⟩ := hx
  have hXm : X.length ≤ maxLen := by omega
  have hp : WirAt w w.heap.size AC C AJ J AF F := ⟨hC, hJ, hF⟩
  have hx0 : Below w.heap.size w (w.alloc (.cells #[.int .i64 n, .slice AC C.length cC, .slice AJ J.length cJ, .slice AF F.length cF] 25)) := by (repeat (first | assumption | exact Below.refl _ _ | (refine bl_alloc ?_ _) | (refine Below.drew ?_) | (refine bl_drewN ?_ _) | (refine bl_set ?_ (by first | (simp; done) | omega | (simp; omega)) _) | (refine bl_trans ?_ (by assumption)) | (refine bl_step ?_ (by assumption) (by first | omega | exact Below.size (by assumption) | (simp; omega) | (simp; exact Below.size (by assumption))))))
  have ka0 := Blk.new w #[.int .i64 n, .slice AC C.length cC, .slice AJ J.length cJ, .slice AF F.length cF] 25
  have csz := szWiring_any n AC C cC AJ J cJ AF F cF (w.alloc (.cells #[.int .i64 n, .slice AC C.length cC, .slice AJ J.length cJ, .slice AF F.length cF] 25)) (hp.to hx0) (by omega) (by omega) (by omega)
  have HP := Lib.hid hp
  have HX := Lib.hid hX
  have HL := Lib.hid hL
  clear hp hC hJ hF hX lC1 lC2 lJ1 lJ2 lF1 lF2 lX1 lX2 hL
  unfold maxLen at hXm
  by_cases hbig : 1048576 < X.length
  · have hbI : (1048576 : Int) < (X.length : Int) := by omega
    clear csz hbig
    go_enter Tryd.func3, Tryd.ntmps3
    go_wp2
    go_ret
    exact ⟨rfl, hx0⟩
  have hbI : (X.length : Int) ≤ 1048576 := by omega
  have lX : X.length ≤ 1048576 := by omega
  clear hbig hXm
  obtain ⟨v, hv⟩ : ∃ v, isLayB n (heldI C) (heldI J) F X = v := ⟨_, rfl⟩
  have CS0 : ∀ (wx : World) (g1 : Nat) (M1 : List SlI) (g2 : Nat) (M2 : List SlI) (g3 gx : Nat) (h : HeldW C J F g1 M1 g2 M2 g3 wx) (hs : WirSz C J F) (hX : IntsAt wx wx.heap.size (some ⟨gx, 0, none⟩) X), Calls Tryd.prog 10 #[.agg #[.int .i64 n, .slice (some ⟨g1, 0, none⟩) M1.length M1.length, .slice (some ⟨g2, 0, none⟩) M2.length M2.length, .slice (some ⟨g3, 0, none⟩) F.length F.length], .slice (some ⟨gx, 0, none⟩) X.length X.length] wx fun e w' => e = .returned (.bool v) ∧ Below wx.heap.size wx w' := by
    intro wx g1 M1 g2 M2 g3 gx h hs hX
    have := IsLayeringS_any n (some ⟨g1, 0, none⟩) M1 M1.length (some ⟨g2, 0, none⟩) M2 M2.length (some ⟨g3, 0, none⟩) F F.length (some ⟨gx, 0, none⟩) X X.length wx h.2 (h.sz hs) hX lX
    rw [h.1.2.2.1, h.1.2.2.2, hv] at this
    exact this
  have CI0 : ∀ (wx : World) (g1 : Nat) (M1 : List SlI) (g2 : Nat) (M2 : List SlI) (g3 gx : Nat) (h : HeldW C J F g1 M1 g2 M2 g3 wx) (hs : WirSz C J F) (hX : IntsAt wx wx.heap.size (some ⟨gx, 0, none⟩) X) (hL : BruAt wx), Calls Tryd.prog 13 #[.agg #[.int .i64 n, .slice (some ⟨g1, 0, none⟩) M1.length M1.length, .slice (some ⟨g2, 0, none⟩) M2.length M2.length, .slice (some ⟨g3, 0, none⟩) F.length F.length], .slice (some ⟨gx, 0, none⟩) X.length X.length] wx fun e w' => e = .returned (.bool v) ∧ Below wx.heap.size wx w' := by
    intro wx g1 M1 g2 M2 g3 gx h hs hX hL
    have := IsLayeringI_any n (some ⟨g1, 0, none⟩) M1 M1.length (some ⟨g2, 0, none⟩) M2 M2.length (some ⟨g3, 0, none⟩) F F.length (some ⟨gx, 0, none⟩) X X.length wx h.2 (h.sz hs) hX lX hL
    rw [h.1.2.2.1, h.1.2.2.2, hv] at this
    exact this
  have CS := Lib.hid CS0
  have CI := Lib.hid CI0
  clear CS0 CI0
  have HV := Lib.hid hv
  clear hv
  have CXN := Lib.hid (fun (wx : World) (hx : Below w.heap.size w wx) => toInt64S_new AX X cX wx (HX.out.to hx) lX)
  go_enter Tryd.func3, Tryd.ntmps3
  go_wp2_with fail
  refine csz.mono ?_
  rintro e w1 ⟨⟨r, rfl, hr1, hr2, hr3⟩, hb1⟩
  have HR := Lib.hid hr3
  clear hr3
  replace ka0 := ka0.to hb1
  have x1 := bl_step hx0 hb1 hx0.size
  clear hb1 hx0
  by_cases hr : r < 0
  · go_wp2
    go_ret
    exact ⟨rfl, x1⟩
  have HS := Lib.hid (HR.out (by omega))
  have CT := Lib.hid (fun (wx : World) (hx : Below w.heap.size w wx) => toWiring_copy n AC C cC AJ J cJ AF F cF wx (HP.out.to hx) HS.out)
  have s0 := ka0.cell 0 (v := .int .i64 n) rfl
  have s1 := ka0.cell 1 (v := .slice AC C.length cC) rfl
  have s2 := ka0.cell 2 (v := .slice AJ J.length cJ) rfl
  have s3 := ka0.cell 3 (v := .slice AF F.length cF) rfl
  go_wp2_with fail
  refine (CT.out _ x1).mono ?_
  rintro e w2 ⟨g1, M1, g2, M2, g3, rfl, hH, hb2⟩
  have x2 := bl_trans x1 hb2
  replace ka0 := ka0.to hb2
  clear hb2 s0 s1 s2 s3 x1
  go_wp2_with fail
  refine (CXN.out _ x2).mono ?_
  rintro e w21 ⟨gx, rfl, hBx, hb21, _⟩
  have x21 := bl_trans x2 hb21
  replace ka0 := ka0.to hb21
  have hH21 := hH.to hb21
  clear hb21 x2 hH
  go_wp2_with fail
  refine (CS.out _ g1 M1 g2 M2 g3 gx hH21 HS.out hBx.nums).mono ?_
  rintro e w3 ⟨rfl, hb3⟩
  have x3 := bl_trans x21 hb3
  replace ka0 := ka0.to hb3
  clear hb3 hH21 x21 hBx
  have s0 := ka0.cell 0 (v := .int .i64 n) rfl
  have s1 := ka0.cell 1 (v := .slice AC C.length cC) rfl
  have s2 := ka0.cell 2 (v := .slice AJ J.length cJ) rfl
  have s3 := ka0.cell 3 (v := .slice AF F.length cF) rfl
  go_wp2_with fail
  refine (CT.out _ x3).mono ?_
  rintro e w4 ⟨k1, N1, k2, N2, k3, rfl, hN, hb4⟩
  have x4 := bl_trans x3 hb4
  replace ka0 := ka0.to hb4
  clear hb4 s0 s1 s2 s3 x3
  have kb0 := Blk.new w4 #[.int .i64 n, .slice (some ⟨k1, 0, none⟩) N1.length N1.length, .slice (some ⟨k2, 0, none⟩) N2.length N2.length, .slice (some ⟨k3, 0, none⟩) F.length F.length] 28
  have hx4 : Below w4.heap.size w4 (w4.alloc (.cells #[.int .i64 n, .slice (some ⟨k1, 0, none⟩) N1.length N1.length, .slice (some ⟨k2, 0, none⟩) N2.length N2.length, .slice (some ⟨k3, 0, none⟩) F.length F.length] 28)) := (Below.refl _ _).alloc (Nat.le_refl _) _
  replace ka0 := ka0.to hx4
  have hN4 := hN.to hx4
  replace x4 := bl_trans x4 hx4
  clear hx4 hN
  go_wp2_with fail
  generalize (w4.alloc (.cells #[.int .i64 n, .slice (some ⟨k1, 0, none⟩) N1.length N1.length, .slice (some ⟨k2, 0, none⟩) N2.length N2.length, .slice (some ⟨k3, 0, none⟩) F.length F.length] 28)) = w5 at *
  generalize w4.heap.size = Z at *
  refine (CXN.out _ x4).mono ?_
  rintro e w51 ⟨gy, rfl, hBy, hb51, _⟩
  have x51 := bl_trans x4 hb51
  replace ka0 := ka0.to hb51
  replace kb0 := kb0.to hb51
  have hN51 := hN4.to hb51
  clear hb51 x4 hN4
  have t0 := kb0.cell 0 (v := .int .i64 n) rfl
  have t1 := kb0.cell 1 (v := .slice (some ⟨k1, 0, none⟩) N1.length N1.length) rfl
  have t2 := kb0.cell 2 (v := .slice (some ⟨k2, 0, none⟩) N2.length N2.length) rfl
  have t3 := kb0.cell 3 (v := .slice (some ⟨k3, 0, none⟩) F.length F.length) rfl
  go_wp2_with fail
  refine (CI.out _ k1 N1 k2 N2 k3 gy hN51 HS.out hBy.nums (HL.out.to x51)).mono ?_
  rintro e w6 ⟨rfl, hb6⟩
  have x6 := bl_trans x51 hb6
  replace ka0 := ka0.to hb6
  replace kb0 := kb0.to hb6
  have hN6 := hN51.to hb6
  have hBy6 := hBy.to hb6
  clear hb6 x51 hN51 t0 t1 t2 t3 hBy
  have s0 := ka0.cell 0 (v := .int .i64 n) rfl
  have s1 := ka0.cell 1 (v := .slice AC C.length cC) rfl
  have s2 := ka0.cell 2 (v := .slice AJ J.length cJ) rfl
  have s3 := ka0.cell 3 (v := .slice AF F.length cF) rfl
  have t0 := kb0.cell 0 (v := .int .i64 n) rfl
  have t1 := kb0.cell 1 (v := .slice (some ⟨k1, 0, none⟩) N1.length N1.length) rfl
  have t2 := kb0.cell 2 (v := .slice (some ⟨k2, 0, none⟩) N2.length N2.length) rfl
  have t3 := kb0.cell 3 (v := .slice (some ⟨k3, 0, none⟩) F.length F.length) rfl
  have la := ka0.lt
  have lb := kb0.lt
  clear CI CS
  go_wp2_with fail
  refine wp_region_treeB (.takes [0, 1] (.alone 2 (.alone 3 (.takes [4] .done)))) (by kernel_rfl) (by kernel_rfl) (by kernel_rfl) (fun _ d _ _ _ h => by cases d <;> exact h) (fun hS0 => ?_)
  refine tplan_w (v := ?_) rfl (by rfl) ?_ ?_
  rotate_left
  · intro wx hSx
    obtain ⟨hcx, hfx, hzx⟩ := bcell hSx
    go_simp
    try (with_reducible rfl)
  try simp only [Act.put, List.setIfInBounds_toArray, List.set_cons_zero, List.set_cons_succ]
  refine tplan_w (v := ?_) rfl (by rfl) ?_ ?_
  rotate_left
  · intro wx hSx
    obtain ⟨hcx, hfx, hzx⟩ := bcell hSx
    go_simp
    try (with_reducible rfl)
  try simp only [Act.put, List.setIfInBounds_toArray, List.set_cons_zero, List.set_cons_succ]
  refine tplan_b rfl (fun K hK => ?_)
  go_simp
  refine (CT.out _ (bl_step x6 hS0 x6.size)).mono ?_
  rintro e w7 ⟨m1, P1, m2, P2, m3, rfl, hP, hb7⟩
  have hS1 := belowS hS0 hb7
  refine hK _ _ ⟨hS1, ?_⟩
  clear hK K
  try simp only [Act.put, List.setIfInBounds_toArray, List.set_cons_zero, List.set_cons_succ]
  refine tplan_b rfl (fun K hK => ?_)
  go_simp
  refine ((eqWiring_same n C J F k1 N1 k2 N2 k3 m1 P1 m2 P2 m3 _ ((hN6.to hS0).to hb7) hP HS.out)).mono ?_
  rintro e w2 ⟨rfl, hb2⟩
  have hS2 := belowS hS1 hb2
  refine hK _ _ ⟨hS2, ?_⟩
  clear hK K
  try simp only [Act.put, List.setIfInBounds_toArray, List.set_cons_zero, List.set_cons_succ]
  refine tplan_w (v := ?_) rfl (by rfl) ?_ ?_
  rotate_left
  · intro wx hSx
    obtain ⟨hcx, hfx, hzx⟩ := bcell hSx
    go_simp
    try (with_reducible rfl)
  try simp only [Act.put, List.setIfInBounds_toArray, List.set_cons_zero, List.set_cons_succ]
  refine tplan_endQ ?_
  have x8 := bl_step x6 hS2 x6.size
  have hBy8 := hBy6.to hS2
  clear s0 s1 s2 s3 t0 t1 t2 t3 la lb ka0 kb0 hN6 hBy6 x6 hP
  go_wp2_with fail
  refine (CXN.out _ x8).mono ?_
  rintro e w9 ⟨gz, rfl, hBz, hb9, _⟩
  have x9 := bl_trans x8 hb9
  have hBy9 := hBy8.to hb9
  clear hb9 x8 hBy8
  go_wp2_with fail
  refine (eqInt64S_same _ _ X X.length X.length _ hBy9.nums hBz.nums lX).mono ?_
  rintro e w10 ⟨rfl, hb10⟩
  go_wp2
  go_ret
  exact ⟨rfl, bl_trans x9 hb10⟩
end Go.Proofs.YtdoheipnfdbioaaDoor.fnExactIsLayering
namespace Go.Proofs.YtdoheipnfdbioaaDoor
open Go.ChangeShapes Go.WideShapes Go.ChangeAt Go.RowKit

theorem tBru : (Tryd.prog.globals[0]?).map (·.type) = some 125 := by kernel_rfl
theorem uArrB : Tryd.prog.underlying 125 = some (.array 64 5) := by kernel_rfl
theorem uU8 : Tryd.prog.underlying 5 = some (.int .u8) := by kernel_rfl
def laid1 : List (String × DataW Unit) := [("math/bits.deBruijn64tab", Rows.laid_math_bits_deBruijn64tab)]
/-- The door's own heap meets the condition. -/
theorem door_met1 (os : Os) (args : Array Value) : laidMetH Tryd.prog laid1 ((World.doorLaid Tryd.prog 4000 os).forCall (fun _ _ => 0) ⟨#[], args, []⟩).memory :=
  laidMetH_of_parts3 (fuel := 8) (laidMet_of_run' 8 (by kernel_rfl) (by kernel_rfl)) (by kernel_rfl) (by kernel_rfl)
theorem of_laid1 {W : World} (h : laidMetH Tryd.prog laid1 W) : BruAt W := by
  rw [MakeChecks.laidMetH_plain _ _ _ (by kernel_rfl)] at h
  have e : (Rows.laid_math_bits_deBruijn64tab : DataW Unit) = Lib.tabData .u8 bruTab := by kernel_rfl
  have h2 : laidMet Tryd.prog [("math/bits.deBruijn64tab", Rows.laid_math_bits_deBruijn64tab)] W := h
  rw [e] at h2
  exact Lib.tabIs_of_head gBru tBru uArrB uU8 (by kernel_rfl) (by kernel_rfl) h2
end Go.Proofs.YtdoheipnfdbioaaDoor
namespace Go.Proofs.YtdoheipnfdbioaaDoor.fnExactIsLayering
open Go.ChangeShapes Go.WideShapes Go.ChangeAt Go.RowKit
open Go.ChangeMaps (open_string)

set_option maxRecDepth 100000 in
theorem lifted (os : Os) (started : os.Started) (H : Type) (enc : TypeId × Value → H) :
    ReturnsInHanded {} Tryd.checked os 3 .any (fun w args => (Rows.fnExactIsLayeringSpec.pre enc Tryd.prog Tryd.f3 [] false w args ∧ laidMetH Tryd.prog laid1 w) ∧ sizedMet enc Tryd.prog Tryd.f3 (OpenSpec.ofChange Rows.fnExactIsLayeringSpec) false w args)
      (Rows.fnExactIsLayeringSpec.post enc Tryd.prog Tryd.f3 false true false false) := by
  refine returnsInHanded_of_change_and (C := Tryd.checked) (X := fun w _ => laidMetH Tryd.prog laid1 w) (fun _ _ _ hh h => h.of_heap hh) own started (by kernel_rfl) Tryd.func3
    (ChangeSpec.witness_shaped (enc := enc) (C := Tryd.checked) (os := os) (X := fun w _ => laidMetH Tryd.prog laid1 w) false (World.doorLaid Tryd.prog 4000 os) #[.agg #[.int .i64 0, .slice none 0 0, .slice none 0 0, .slice none 0 0], .slice none 0 0] 8 rfl (World.shaped_of_RefB (by kernel_rfl) (by kernel_rfl)) (by kernel_rfl) (by kernel_rfl) (by kernel_rfl) (door_met1 os _)) ?_
  intro W base args ds gs before hval0 hW _ _ hL _
  have hval : ∀ (j : Nat) t v, Tryd.f3.params[j]? = some t → args[j]? = some v → Value.okWide Tryd.prog W .any base t v := hval0
  have hW' := hW
  obtain ⟨p, q, hA0, hV, rfl, hfz, hnd⟩ := hW
  have hA : DataW.TrodAll enc Tryd.prog W 0 (fun _ => true) true Tryd.f3.params.toList args.toList ds p := hA0
  rw [Tryd.params3] at hA hval
  obtain ⟨v0, vs0, d0, ds0, p0, q0, hargs, rfl, rfl, h0, r0⟩ := trodAll_cons hA
  obtain ⟨v1, vs1, d1, ds1, p1, q1, rfl, rfl, rfl, h1, r1⟩ := trodAll_cons r0
  obtain ⟨rfl, rfl, rfl⟩ := trodAll_nil r1
  obtain rfl : args = #[v0, v1] := by cases args; simp_all
  obtain ⟨rfl, rfl⟩ := trodVars_none hV
  have k0 := h0
  have lt0 : ∀ x ∈ p0, x.block < W.heap.size := by obtain ⟨m, hm⟩ := k0; exact DataW.trod_lt m _ _ _ hm
  have k1 := h1
  have lt1 : ∀ x ∈ p1, x.block < W.heap.size := by obtain ⟨m, hm⟩ := k1; exact DataW.trod_lt m _ _ _ hm
  obtain ⟨n_0, AC_0, C_0, cC_0, AJ_0, J_0, cJ_0, AF_0, F_0, cF_0, rfl, w0⟩ := open_wiring (hval 0 25 v0 rfl rfl) h0
  obtain ⟨A1, l1, c1, rfl, w1⟩ := open_nums (hval 1 23 v1 rfl rfl) h1
  clear hA0 hval0
  refine (walk n_0 AC_0 C_0 cC_0 AJ_0 J_0 cJ_0 AF_0 F_0 cF_0 A1 l1 c1 W w0 w1 (of_laid1 hL)).mono fun e W' ⟨he, bel⟩ => ?_
  subst he
  exact ⟨_, rfl, _, _, _, [], _, [], hW', trodAll_mk1 (shut_bool Tryd.underlying4 _), (trodAll_cons_mk (Below.trod laidOut (by kernel_rfl) (of_decide_eq_true (by kernel_rfl)) k0 bel lt0) (trodAll_cons_mk (Below.trod laidOut (by kernel_rfl) (of_decide_eq_true (by kernel_rfl)) k1 bel lt1) trodAll_mk0)), rfl, bel.frame _, fun h => by cases h⟩

theorem row_holds : Rows.FnExactIsLayeringSaid :=
  OpenClaim.holds_of_wide 3 Tryd.f3 rfl rfl rfl rfl rfl rfl rfl ⟨rfl, rfl, rfl, rfl, rfl⟩ rfl rfl rfl rfl rfl (by kernel_rfl) Tryd.func3 (by kernel_rfl)
    (of_decide_eq_true (by kernel_rfl)) (by unfold Func.isWrapper; first | (rw [if_pos (by decide +kernel)]; kernel_rfl) | (rw [if_neg (by decide +kernel)]; exact ⟨rfl, rfl⟩))
    (fun os started H enc _ => lifted os started H enc)

/-- The tied card. -/
theorem proved : Rows.FnExactIsLayeringCardSaid :=
  Claim7.holds_tied_plain_at .later [] [.data] true Rows.fnExactIsLayeringCard.stood.harness Rows.fnExactIsLayeringCard.stood.looks
    row_holds (fun _ h => by cases h) (by kernel_rfl) (fun _ h => by cases h) fnExactIsLayering_row_tie rfl ⟨rfl, rfl⟩ (by kernel_rfl) rfl
    (fun f fn hf hfn => by
      obtain rfl : f = 3 := Option.some.inj ((show Tryd.prog.funcNamed "loop.example/g01149/laws.FnExactIsLayering" = some 3 by kernel_rfl).symm.trans hf) |>.symm
      obtain rfl : fn = Tryd.f3 := (Option.some.inj (Tryd.func3.symm.trans hfn)).symm
      exact ⟨by kernel_rfl, fun j t ht => by
        rw [Tryd.params3] at ht
        have hm : t ∈ [25, 23] := by simpa using Array.mem_of_getElem? ht
        have hall : ([25, 23].all fun u => !Tryd.prog.wantsStandIn u) = true := by kernel_rfl
        exact (show Tryd.prog.wantsStandIn t = false by simpa using List.all_eq_true.1 hall t hm)⟩)
    (by kernel_rfl)
#print axioms proved
end Go.Proofs.YtdoheipnfdbioaaDoor.fnExactIsLayering
