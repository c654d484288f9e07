/-
  Contracts: the whole layout required; IsLayout of the program.
-/
import Derived.Test.YtifenbamookmiaaDoorLayoJ
namespace Go.Proofs.YtifenbamookmiaaDoor
set_option linter.unusedSimpArgs false
set_option linter.unusedVariables false
open Go.ChangeShapes Go.WideShapes Go.ChangeAt Go.RowKit Go.BigFrame

def LayRes (v : Bool) (A : Option Addr) (n c : Nat) (AO : Option Addr) (m cO M : Nat) (w : World) (e : Ending) (w' : World) : Prop :=
  ((v = true ∧ e = .returned (loV A n c AO m cO M)) ∨ (v = false ∧ Pan e)) ∧ Below w.heap.size w w'
theorem loB_3 {Ls : List SlI} {L S : List Int} : loB (heldI Ls) L S = (bnB (heldI Ls) && (orB Ls.length L && shB Ls.length S)) := by unfold loB; rw [heldI_len]
set_option maxRecDepth 100000 in
set_option maxHeartbeats 3200000 in
theorem requireLayout_any (A : Option Addr) (Ls : List SlI) (c : Nat) (AO : Option Addr) (L : List Int) (cO : Nat) (AS : Option Addr) (S : List Int) (cS : Nat) (w : World) (hp : ISAt w w.heap.size A Ls) (hn : Ls.length ≤ 1048576) (hl : ∀ i, i < Ls.length → (Ls.getD i si0).2.1.length ≤ 1048576) (hL : IntsAt w w.heap.size AO L) (lL : L.length ≤ 1048576) (hS : IntsAt w w.heap.size AS S) (lS : S.length ≤ 1048576) :
    Calls Tryd.prog 32 #[.agg #[.slice A Ls.length c], .slice AO L.length cO, .slice AS S.length cS] w (LayRes (loB (heldI Ls) L S) A Ls.length c AO L.length cO (shM Ls.length S) w) := by
  have hx : Below w.heap.size w ((w.alloc (.cells #[.slice A Ls.length c] 29)).alloc (.cells #[.slice none 0 0, .slice none 0 0, .int .u64 0] 57)) := by (repeat (first | assumption | exact Below.refl _ _ | (refine bl_alloc ?_ _) | (refine Below.drew ?_) | (refine bl_drewN ?_ _) | (refine bl_set ?_ (by first | (simp; done) | omega | (simp; omega)) _) | (refine bl_trans ?_ (by assumption)) | (refine bl_step ?_ (by assumption) (by first | omega | exact Below.size (by assumption) | (simp; omega) | (simp; exact Below.size (by assumption))))))
  have kR : Blk ((w.alloc (.cells #[.slice A Ls.length c] 29)).alloc (.cells #[.slice none 0 0, .slice none 0 0, .int .u64 0] 57)) (w.heap.size + 1) #[.slice none 0 0, .slice none 0 0, .int .u64 0] 57 := by
    have := Blk.new (w.alloc (.cells #[.slice A Ls.length c] 29)) #[.slice none 0 0, .slice none 0 0, .int .u64 0] 57
    rwa [World.size_alloc] at this
  have CB := Lib.hid (requireBundle_any A Ls c ((w.alloc (.cells #[.slice A Ls.length c] 29)).alloc (.cells #[.slice none 0 0, .slice none 0 0, .int .u64 0] 57)) (hp.to hx) hn hl)
  have HB := Lib.hid (loB_3 (Ls := Ls) (L := L) (S := S))
  have HN : Hid (bnB (heldI Ls) = true → 1 ≤ Ls.length ∧ Ls.length ≤ 9) := fun h => by
    have o := bnB_iff.1 h
    have h1 := o.h1; have h9 := o.h9
    rw [heldI_len] at h1 h9
    exact ⟨h1, h9⟩
  have CO := Lib.hid (fun (wx : World) (hw : Below w.heap.size w wx) (h9 : Ls.length ≤ 9) => requireOrder_any A Ls.length c AO L cO wx h9 (hL.to hw) lL)
  obtain ⟨M, hM⟩ : ∃ M, shM Ls.length S = M := ⟨_, rfl⟩
  have CS := Lib.hid (fun (wx : World) (hw : Below w.heap.size w wx) (h1 : 1 ≤ Ls.length) (h9 : Ls.length ≤ 9) => requireShields_any A Ls.length c AO L.length cO AS S cS wx h1 h9 (hS.to hw) lS M (Lib.hid hM))
  rw [hM]
  clear hp hn hl hL hS lL lS hM
  unfold LayRes
  generalize Ls.length = n at *
  generalize L.length = m at *
  generalize S.length = ls at *
  go_enter Tryd.func32, Tryd.ntmps32
  go_wp2_with fail
  generalize ((w.alloc (.cells #[.slice A n c] 29)).alloc (.cells #[.slice none 0 0, .slice none 0 0, .int .u64 0] 57)) = w0 at *
  refine CB.out.mono ?_
  rintro e w1 ⟨h, hb1⟩
  have b1 := bl_step hx hb1 hx.size
  replace kR := kR.to hb1
  clear hb1 hx CB
  rcases h with ⟨hv, rfl⟩ | ⟨hv, u, pv, rfl⟩
  case inr =>
    go_wp2
    exact ⟨rfl, .inr ⟨by rw [HB.out, hv]; rfl, _, _, rfl⟩, b1⟩
  obtain ⟨h1, h9⟩ := HN.out hv
  have HV := Lib.hid hv
  clear hv
  go_wp2_with fail
  refine (CO.out _ b1 h9).mono ?_
  rintro e w2 ⟨h, hb2⟩
  have b2 := bl_trans b1 hb2
  replace kR := kR.to hb2
  clear hb2 b1 CO
  rcases h with ⟨ho, rfl⟩ | ⟨ho, u, pv, rfl⟩
  case inr =>
    go_wp2
    exact ⟨rfl, .inr ⟨by rw [HB.out, ho]; simp, _, _, rfl⟩, b2⟩
  have HO := Lib.hid ho
  clear ho
  go_wp2_with fail
  refine (CS.out _ b2 h1 h9).mono ?_
  rintro e w3 ⟨h, hb3⟩
  have b3 := bl_trans b2 hb3
  replace kR := kR.to hb3
  clear hb3 b2 CS
  rcases h with ⟨hs, rfl⟩ | ⟨hs, u, pv, rfl⟩
  case inr =>
    go_wp2
    exact ⟨rfl, .inr ⟨by rw [HB.out, hs]; simp, _, _, rfl⟩, b3⟩
  have HS : Hid (loB (heldI Ls) L S = true) := by show _ = _; rw [HB.out, HV.out, HO.out, hs]; rfl
  have r0 := kR.cell 0 (v := .slice none 0 0) rfl
  have r1 := kR.cell 1 (v := .slice none 0 0) rfl
  have r2 := kR.cell 2 (v := .int .u64 0) rfl
  have f0 := kR.frozen 0
  have f1 := kR.frozen 1
  have f2 := kR.frozen 2
  clear hs
  go_wp2
  have kE := ((kR.set 0 (.slice A n c)).set 1 (.slice AO m cO)).set 2 (.int .u64 M)
  have bE := ((b3.setCell (p := ⟨w.heap.size + 1, 0, none⟩) (by simp) (.slice A n c)).setCell (p := ⟨w.heap.size + 1, 1, none⟩) (by simp) (.slice AO m cO)).setCell (p := ⟨w.heap.size + 1, 2, none⟩) (by simp) (.int .u64 M)
  generalize (((w3.setCell ⟨w.heap.size + 1, 0, none⟩ (.slice A n c)).setCell ⟨w.heap.size + 1, 1, none⟩ (.slice AO m cO)).setCell ⟨w.heap.size + 1, 2, none⟩ (.int .u64 M)) = wE at *
  have e0 := kE.cell 0 (v := .slice A n c) (by simp)
  have e1 := kE.cell 1 (v := .slice AO m cO) (by simp)
  have e2 := kE.cell 2 (v := .int .u64 M) (by simp)
  refine bodyPost_ret_by (v := loV A n c AO m cO M) ?_ rfl ⟨.inl ⟨HS.out, rfl⟩, bE⟩
  simp [results, Tryd.results32, go_sem, e0, e1, e2]
/-- Three arguments in boxes. -/
def Box3 (w : World) (b : Nat) (A : Option Addr) (n c : Nat) (AO : Option Addr) (m cO : Nat) (AS : Option Addr) (l cS : Nat) : Prop :=
  w.cell? ⟨b, 0, none⟩ = some (.slice A n c) ∧ w.cell? ⟨b + 1, 0, none⟩ = some (.slice AO m cO) ∧ w.cell? ⟨b + 1 + 1, 0, none⟩ = some (.slice AS l cS) ∧ b + 1 + 1 < w.heap.size
theorem Box3.to {w w1 : World} {b : Nat} {A : Option Addr} {n c : Nat} {AO : Option Addr} {m cO : Nat} {AS : Option Addr} {l cS : Nat} (h : Box3 w b A n c AO m cO AS l cS) (hb : Below w.heap.size w w1) : Box3 w1 b A n c AO m cO AS l cS := by
  obtain ⟨h0, h1, h2, h3⟩ := h
  exact ⟨(hb.cell (p := ⟨b, 0, none⟩) (by simp; omega)).trans h0, (hb.cell (p := ⟨b + 1, 0, none⟩) (by simp; omega)).trans h1, (hb.cell (p := ⟨b + 1 + 1, 0, none⟩) (by simp; omega)).trans h2, Nat.lt_of_lt_of_le h3 hb.size⟩
theorem Box3.new (w : World) (A : Option Addr) (n c : Nat) (AO : Option Addr) (m cO : Nat) (AS : Option Addr) (l cS : Nat) (t u v : TypeId) :
    Box3 (((w.alloc (.cells #[.slice A n c] t)).alloc (.cells #[.slice AO m cO] u)).alloc (.cells #[.slice AS l cS] v)) w.heap.size A n c AO m cO AS l cS := by
  have k0 := ((Blk.new w #[.slice A n c] t).alloc (.cells #[.slice AO m cO] u)).alloc (.cells #[.slice AS l cS] v)
  have k1 := (Blk.new (w.alloc (.cells #[.slice A n c] t)) #[.slice AO m cO] u).alloc (.cells #[.slice AS l cS] v)
  have k2 := Blk.new ((w.alloc (.cells #[.slice A n c] t)).alloc (.cells #[.slice AO m cO] u)) #[.slice AS l cS] v
  rw [World.size_alloc] at k1
  rw [World.size_alloc, World.size_alloc] at k2
  exact ⟨k0.cell 0 rfl, k1.cell 0 rfl, k2.cell 0 rfl, k2.lt⟩
end Go.Proofs.YtifenbamookmiaaDoor
