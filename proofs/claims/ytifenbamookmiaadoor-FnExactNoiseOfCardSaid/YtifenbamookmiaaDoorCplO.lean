/-
  Contracts: CouplingOf of both.
-/
import Derived.Test.YtifenbamookmiaaDoorCplS
import Derived.Test.YtifenbamookmiaaDoorCplI
import Derived.Test.YtifenbamookmiaaDoorLayoK
import Derived.Test.YtifenbamookmiaaDoorAttemptI
import Derived.Test.YtifenbamookmiaaDoorBunW
namespace Go.Proofs.YtifenbamookmiaaDoor
set_option linter.unusedSimpArgs false
set_option linter.unusedVariables false
open Go.ChangeShapes Go.WideShapes Go.ChangeAt Go.RowKit Go.BigFrame

/-- What CouplingOf answers. -/
def cpX (B : Mz) (L S : List Int) : Int := if loB B L S then cplTo B L S B.length else 0
theorem loB_lo {w : World} {A AO : Option Addr} {Ls : List SlI} {L S : List Int} (hp : ISAt w w.heap.size A Ls) (hL : IntsAt w w.heap.size AO L) (h : loB (heldI Ls) L S = true) : LoAt w A AO Ls.length (heldI Ls) L ∧ L.length = Ls.length := by
  rw [loB_3, Bool.and_eq_true, Bool.and_eq_true] at h
  exact ⟨LoAt.of hp hL h.1 h.2.1, (orB_iff.1 h.2.1).len⟩
set_option maxRecDepth 100000 in
set_option maxHeartbeats 1600000 in
theorem CouplingOfS_any (A : Option Addr) (Ls : List SlI) (c : Nat) (AO : Option Addr) (L : List Int) (cO : Nat) (AS : Option Addr) (S : List Int) (cS : Nat) (w : World) (hp : ISAt w w.heap.size A Ls) (hs : ShI Ls) (hL : IntsAt w w.heap.size AO L) (lL : L.length ≤ 1048576) (hS : IntsAt w w.heap.size AS S) (lS : S.length ≤ 1048576) :
    Calls Tryd.prog 9 #[.agg #[.slice A Ls.length c], .slice AO L.length cO, .slice AS S.length cS] w fun e w' => e = .returned (.tuple #[.int .i64 (cpX (heldI Ls) L S), .bool (loB (heldI Ls) L S)]) ∧ Below w.heap.size w w' := by
  have hx : Below w.heap.size w (w.alloc (.cells #[.slice A Ls.length c] 29)) := by (repeat (first | assumption | exact Below.refl _ _ | (refine bl_alloc ?_ _) | (refine Below.drew ?_) | (refine bl_drewN ?_ _) | (refine bl_set ?_ (by first | (simp; done) | omega | (simp; omega)) _) | (refine bl_trans ?_ (by assumption)) | (refine bl_step ?_ (by assumption) (by first | omega | exact Below.size (by assumption) | (simp; omega) | (simp; exact Below.size (by assumption))))))
  have kB := Blk.new w #[.slice A Ls.length c] 29
  have CL := Lib.hid (l10Layout_any w.heap.size A Ls c AO L cO AS S cS (w.alloc (.cells #[.slice A Ls.length c] 29)) (kB.cell 0 rfl) kB.lt (hp.to hx) hs (hL.to hx) lL (hS.to hx) lS)
  have CC := Lib.hid (fun (h : loB (heldI Ls) L S = true) (wx : World) (hb : Below (w.alloc (.cells #[.slice A Ls.length c] 29)).heap.size (w.alloc (.cells #[.slice A Ls.length c] 29)) wx) => l10Coupling_any w.heap.size A Ls.length c (heldI Ls) AO L cO AS S cS wx ((kB.to hb).cell 0 rfl) (kB.to hb).lt ((loB_lo hp hL h).1.to (bl_step hx hb hx.size)) (hS.to (bl_step hx hb hx.size)) lS)
  have HLN : Hid (loB (heldI Ls) L S = true → L.length = Ls.length) := fun h => (loB_lo hp hL h).2
  have HX : Hid (cpX (heldI Ls) L S = if loB (heldI Ls) L S then cplTo (heldI Ls) L S Ls.length else 0) := by show _ = _; unfold cpX; rw [heldI_len]
  clear hp hs hL hS kB
  cases hv : loB (heldI Ls) L S
  · have R : Hid (cpX (heldI Ls) L S = 0) := by show _ = _; rw [HX.out, hv]; rfl
    rw [hv] at CL
    rw [R.out]
    clear hv CC HLN HX
    generalize Ls.length = n at *
    generalize L.length = m at *
    generalize S.length = ls at *
    go_enter Tryd.func9, Tryd.ntmps9
    go_wp2_with fail
    refine CL.out.mono ?_
    rintro e w1 ⟨rfl, hb1⟩
    go_wp2
    go_ret2
    exact ⟨rfl, bl_step hx hb1 hx.size⟩
  · have R : Hid (cpX (heldI Ls) L S = cplTo (heldI Ls) L S Ls.length) := by show _ = _; rw [HX.out, hv]; rfl
    have hln := HLN.out hv
    have CC2 := Lib.hid (CC.out hv)
    rw [hv] at CL
    rw [R.out]
    rw [hln] at CL ⊢
    clear hv CC HLN HX hln lL
    generalize Ls.length = n at *
    generalize S.length = ls at *
    generalize cplTo (heldI Ls) L S n = v at *
    go_enter Tryd.func9, Tryd.ntmps9
    go_wp2_with fail
    generalize (w.alloc (.cells #[.slice A n c] 29)) = w0 at *
    refine CL.out.mono ?_
    rintro e w1 ⟨rfl, hb1⟩
    go_wp2_with fail
    refine (CC2.out _ hb1).mono ?_
    rintro e w2 ⟨rfl, hb2⟩
    go_wp2
    go_ret2
    exact ⟨rfl, bl_step hx (bl_trans hb1 hb2) hx.size⟩
def CplRes (v : Bool) (x : Int) (w : World) (e : Ending) (w' : World) : Prop := ((v = true ∧ e = .returned (.int .i64 x)) ∨ (v = false ∧ Pan e)) ∧ Below w.heap.size w w'
set_option maxRecDepth 100000 in
set_option maxHeartbeats 3200000 in
theorem cplClo_any (A : Option Addr) (Ls : List SlI) (c : Nat) (AO : Option Addr) (L : List Int) (cO : Nat) (AS : Option Addr) (S : List Int) (cS b : Nat) (w : World) (hB : Box3 w b A Ls.length c AO L.length cO AS S.length cS) (hp : ISAt w w.heap.size A Ls) (hs : ShI Ls) (hL : IntsAt w w.heap.size AO L) (lL : L.length ≤ 1048576) (hS : IntsAt w w.heap.size AS S) (lS : S.length ≤ 1048576) (hT : BruAt w) :
    Calls Tryd.prog 31 #[.pointer (some ⟨b, 0, none⟩), .pointer (some ⟨b + 1, 0, none⟩), .pointer (some ⟨b + 1 + 1, 0, none⟩)] w (CplRes (loB (heldI Ls) L S) (cplTo (heldI Ls) L S Ls.length) w) := by
  have CL := Lib.hid (requireLayout_any A Ls c AO L cO AS S cS w hp hs.1 hs.2 hL lL hS lS)
  have CC := Lib.hid (fun (h : loB (heldI Ls) L S = true) (wx : World) (hb : Below w.heap.size w wx) => coupling_any A Ls.length c (heldI Ls) AO L cO S wx ((loB_lo hp hL h).1.to hb) (hT.to hb))
  have HLN : Hid (loB (heldI Ls) L S = true → L.length = Ls.length) := fun h => (loB_lo hp hL h).2
  obtain ⟨q0, q1, q2, q3⟩ := hB
  clear hp hs hL lL hS lS hT
  unfold CplRes
  unfold LayRes at CL
  generalize shM Ls.length S = M at *
  generalize loB (heldI Ls) L S = v at *
  generalize Ls.length = n at *
  generalize cplTo (heldI Ls) L S n = x at *
  generalize L.length = m at *
  generalize S.length = ls at *
  go_enter Tryd.func31, Tryd.ntmps31
  go_wp2_with fail
  refine CL.out.mono ?_
  rintro e w3 ⟨h, hb3⟩
  clear CL q0 q1 q2
  rcases h with ⟨hs, rfl⟩ | ⟨hs, u, pv, rfl⟩
  case inr =>
    go_wp2
    exact ⟨rfl, .inr ⟨hs, _, _, rfl⟩, hb3⟩
  obtain rfl := HLN.out hs
  have CC2 := Lib.hid (CC.out hs)
  have HS := Lib.hid hs
  clear hs CC HLN
  go_wp2_with fail
  refine (CC2.out _ hb3).mono ?_
  rintro e w4 ⟨rfl, hb4⟩
  go_wp2
  go_ret
  exact ⟨.inl ⟨HS.out, rfl⟩, bl_trans hb3 hb4⟩
set_option maxRecDepth 100000 in
set_option maxHeartbeats 3200000 in
theorem CouplingOfI_any (A : Option Addr) (Ls : List SlI) (c : Nat) (AO : Option Addr) (L : List Int) (cO : Nat) (AS : Option Addr) (S : List Int) (cS : Nat) (w : World) (hp : ISAt w w.heap.size A Ls) (hs : ShI Ls) (hL : IntsAt w w.heap.size AO L) (lL : L.length ≤ 1048576) (hS : IntsAt w w.heap.size AS S) (lS : S.length ≤ 1048576) (hT : BruAt w) :
    Calls Tryd.prog 12 #[.agg #[.slice A Ls.length c], .slice AO L.length cO, .slice AS S.length cS] w fun e w' => e = .returned (.tuple #[.int .i64 (cpX (heldI Ls) L S), .bool (loB (heldI Ls) L S)]) ∧ Below w.heap.size w w' := by
  have hx : Below w.heap.size w (((w.alloc (.cells #[.slice A Ls.length c] 29)).alloc (.cells #[.slice AO L.length cO] 25)).alloc (.cells #[.slice AS S.length cS] 25)) := by (repeat (first | assumption | exact Below.refl _ _ | (refine bl_alloc ?_ _) | (refine Below.drew ?_) | (refine bl_drewN ?_ _) | (refine bl_set ?_ (by first | (simp; done) | omega | (simp; omega)) _) | (refine bl_trans ?_ (by assumption)) | (refine bl_step ?_ (by assumption) (by first | omega | exact Below.size (by assumption) | (simp; omega) | (simp; exact Below.size (by assumption))))))
  have kb := Box3.new w A Ls.length c AO L.length cO AS S.length cS 29 25 25
  have cc := Lib.hid (fun (wx : World) (hb : Below (((w.alloc (.cells #[.slice A Ls.length c] 29)).alloc (.cells #[.slice AO L.length cO] 25)).alloc (.cells #[.slice AS S.length cS] 25)).heap.size (((w.alloc (.cells #[.slice A Ls.length c] 29)).alloc (.cells #[.slice AO L.length cO] 25)).alloc (.cells #[.slice AS S.length cS] 25)) wx) => cplClo_any A Ls c AO L cO AS S cS w.heap.size wx (kb.to hb) ((hp.to hx).to hb) hs ((hL.to hx).to hb) lL ((hS.to hx).to hb) lS ((hT.to hx).to hb))
  have HX : Hid (cpX (heldI Ls) L S = if loB (heldI Ls) L S then cplTo (heldI Ls) L S Ls.length else 0) := by show _ = _; unfold cpX; rw [heldI_len]
  clear hp hs hL lL hS lS kb hT
  rw [HX.out]
  clear HX
  unfold CplRes at cc
  generalize loB (heldI Ls) L S = v at *
  generalize Ls.length = n at *
  generalize cplTo (heldI Ls) L S n = x at *
  generalize L.length = m at *
  generalize S.length = ls at *
  go_enter Tryd.func12, Tryd.ntmps12
  go_wp2_with fail
  generalize (((w.alloc (.cells #[.slice A n c] 29)).alloc (.cells #[.slice AO m cO] 25)).alloc (.cells #[.slice AS ls cS] 25)) = w1 at *
  have hx1 : Below w1.heap.size w1 (w1.alloc (.cells #[.bool false] 4)) := by (repeat (first | assumption | exact Below.refl _ _ | (refine bl_alloc ?_ _) | (refine Below.drew ?_) | (refine bl_drewN ?_ _) | (refine bl_set ?_ (by first | (simp; done) | omega | (simp; omega)) _) | (refine bl_trans ?_ (by assumption)) | (refine bl_step ?_ (by assumption) (by first | omega | exact Below.size (by assumption) | (simp; omega) | (simp; exact Below.size (by assumption))))))
  refine (attemptInt_any 31 _ w1 (fun u _ => u = .int .i64 x ∧ v = true) (v = false) (fun _ _ => by first | rfl | (simp [go_sem]; done)) ((cc.out _ hx1).mono ?_)).mono ?_
  · rintro e w2 ⟨⟨hv, rfl⟩ | ⟨hv, hP⟩, hb⟩
    · exact ⟨.inl ⟨_, rfl, rfl, hv⟩, hb⟩
    · exact ⟨.inr ⟨hP, hv⟩, hb⟩
  rintro e w2 ⟨⟨v0, w3, rfl, ⟨rfl, rfl⟩, rfl⟩ | ⟨rfl, rfl⟩, hb2⟩
  · have b2 := bl_step hx hb2 hx.size
    go_wp2
    go_ret2
    exact ⟨rfl, b2⟩
  · have b2 := bl_step hx hb2 hx.size
    go_wp2
    go_ret2
    exact ⟨rfl, b2⟩
theorem CouplingOfS_in (A : Option Addr) (n c : Nat) (M : Mz) (AO : Option Addr) (L : List Int) (cO : Nat) (AS : Option Addr) (S : List Int) (cS : Nat) (w : World) (h : BnIn w A n M) (hL : IntsAt w w.heap.size AO L) (lL : L.length ≤ 1048576) (hS : IntsAt w w.heap.size AS S) (lS : S.length ≤ 1048576) :
    Calls Tryd.prog 9 #[.agg #[.slice A n c], .slice AO L.length cO, .slice AS S.length cS] w fun e w' => e = .returned (.tuple #[.int .i64 (cpX M L S), .bool (loB M L S)]) ∧ Below w.heap.size w w' := by
  obtain ⟨Ms, rfl, rfl, h3, h4⟩ := h
  exact CouplingOfS_any A Ms c AO L cO AS S cS w h3 h4 hL lL hS lS
theorem CouplingOfI_in (A : Option Addr) (n c : Nat) (M : Mz) (AO : Option Addr) (L : List Int) (cO : Nat) (AS : Option Addr) (S : List Int) (cS : Nat) (w : World) (h : BnIn w A n M) (hL : IntsAt w w.heap.size AO L) (lL : L.length ≤ 1048576) (hS : IntsAt w w.heap.size AS S) (lS : S.length ≤ 1048576) (hT : BruAt w) :
    Calls Tryd.prog 12 #[.agg #[.slice A n c], .slice AO L.length cO, .slice AS S.length cS] w fun e w' => e = .returned (.tuple #[.int .i64 (cpX M L S), .bool (loB M L S)]) ∧ Below w.heap.size w w' := by
  obtain ⟨Ms, rfl, rfl, h3, h4⟩ := h
  exact CouplingOfI_any A Ms c AO L cO AS S cS w h3 h4 hL lL hS lS hT
end Go.Proofs.YtifenbamookmiaaDoor
