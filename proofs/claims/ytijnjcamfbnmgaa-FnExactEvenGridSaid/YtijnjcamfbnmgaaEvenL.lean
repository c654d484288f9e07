/-
  Grids of the call's own in a law: compared, marked, held.
-/
import Derived.Test.YtijnjcamfbnmgaaEvenK
import Derived.Test.YtijnjcamfbnmgaaEvenS
import Derived.Test.YtijnjcamfbnmgaaMarkLL
namespace Go.Proofs.Ytijnjcamfbnmgaa
set_option linter.unusedSimpArgs false
set_option linter.unusedVariables false
open Go.ChangeShapes Go.WideShapes Go.ChangeAt Go.RowKit

set_option maxHeartbeats 1600000 in
theorem eqGrid_gen (A0 A1 B0 B1 : Option Addr) (c0 c1 d0 d1 n0 n1 : Nat) (Ms Us Ns Vs : List SlI) (w : World)
    (pa : ISAt w w.heap.size A0 Ms) (pb : ISAt w w.heap.size A1 Us) (qa : ISAt w w.heap.size B0 Ns) (qb : ISAt w w.heap.size B1 Vs) (a1 : Ms.length = n0) (a2 : Us.length = n1) (b1 : Ns.length = n0) (b2 : Vs.length = n1) (e1 : heldI Ms = heldI Ns) (e2 : heldI Us = heldI Vs) (s1 : n0 ≤ 1048576) (s3 : n1 ≤ 1048576)
    (z1 : ∀ i, i < n0 → (Ms.getD i si0).2.1.length ≤ 1048576) (z2 : ∀ i, i < n1 → (Us.getD i si0).2.1.length ≤ 1048576) :
    Calls Try.prog 38 #[.agg #[.slice A0 n0 c0, .slice A1 n1 c1], .agg #[.slice B0 n0 d0, .slice B1 n1 d1]] w fun e w' => e = .returned (.bool true) ∧ Below w.heap.size w w' := by
  have C1 := Lib.hid (fun (wx : World) (hx : Below w.heap.size w wx) => eqInt64SS_same A0 B0 Ms Ns n0 c0 d0 wx (pa.to hx) (qa.to hx) a1 b1 e1 s1 z1)
  have C2 := Lib.hid (fun (wx : World) (hx : Below w.heap.size w wx) => eqInt64SS_same A1 B1 Us Vs n1 c1 d1 wx (pb.to hx) (qb.to hx) a2 b2 e2 s3 z2)
  clear pa pb qa qb z1 z2 a1 a2 b1 b2 e1 e2
  have hb0 : Below w.heap.size w ((w.alloc (.cells #[.slice A0 n0 c0, .slice A1 n1 c1] 53)).alloc (.cells #[.slice B0 n0 d0, .slice B1 n1 d1] 53)) := by (repeat (first | assumption | exact Below.refl _ _ | (refine bl_alloc ?_ _) | (refine Below.drew ?_) | (refine bl_drewN ?_ _) | (refine bl_set ?_ (by first | (simp; done) | omega | (simp; omega)) _) | (refine bl_trans ?_ (by assumption)) | (refine bl_step ?_ (by assumption) (by first | omega | exact Below.size (by assumption) | (simp; omega) | (simp; exact Below.size (by assumption))))))
  have ka : Blk ((w.alloc (.cells #[.slice A0 n0 c0, .slice A1 n1 c1] 53)).alloc (.cells #[.slice B0 n0 d0, .slice B1 n1 d1] 53)) w.heap.size #[.slice A0 n0 c0, .slice A1 n1 c1] 53 := (Blk.new _ _ _).alloc _
  have kb : Blk ((w.alloc (.cells #[.slice A0 n0 c0, .slice A1 n1 c1] 53)).alloc (.cells #[.slice B0 n0 d0, .slice B1 n1 d1] 53)) (w.heap.size + 1) #[.slice B0 n0 d0, .slice B1 n1 d1] 53 := by
    have := Blk.new (w.alloc (.cells #[.slice A0 n0 c0, .slice A1 n1 c1] 53)) #[.slice B0 n0 d0, .slice B1 n1 d1] 53
    rwa [World.size_alloc] at this
  generalize hw0 : ((w.alloc (.cells #[.slice A0 n0 c0, .slice A1 n1 c1] 53)).alloc (.cells #[.slice B0 n0 d0, .slice B1 n1 d1] 53)) = w0 at *
  have p0 := ka.cell 0 (v := .slice A0 n0 c0) rfl
  have q0 := kb.cell 0 (v := .slice B0 n0 d0) rfl
  go_enter Try.func38, Try.ntmps38
  go_wp2_with fail
  refine (C1.out _ hb0).mono ?_
  rintro e w1 ⟨rfl, hb1⟩
  replace ka := ka.to hb1
  replace kb := kb.to hb1
  replace hb1 := bl_trans hb0 hb1
  clear p0 q0 hb0 C1
  have p2 := ka.cell 1 (v := .slice A1 n1 c1) rfl
  have q2 := kb.cell 1 (v := .slice B1 n1 d1) rfl
  go_wp2_with fail
  refine (C2.out _ hb1).mono ?_
  rintro e w2 ⟨rfl, hb2⟩
  go_wp2
  go_ret
  exact ⟨rfl, bl_trans hb1 hb2⟩

/-- Two lists of rows of the call's own, from N on, none in the other's place. -/
structure GOwn (w : World) (N : Nat) (A0 A1 : Option Addr) (Ms Us : List SlI) : Prop where
  o0 : OutAt w A0 Ms
  o1 : OutAt w A1 Us
  r0 : RowsOwn w N Ms
  r1 : RowsOwn w N Us
  dj : ∀ b, rowOf Ms b → ¬ rowOf Us b
  d0 : ∀ b o, A0 = some ⟨b, o, none⟩ → ¬ rowOf Us b
  d1 : ∀ b o, A1 = some ⟨b, o, none⟩ → ¬ rowOf Ms b
  lt : ∀ b, (rowOf Ms b ∨ rowOf Us b) → b < w.heap.size
  l0 : ∀ b o, 0 < Ms.length → A0 = some ⟨b, o, none⟩ → b < w.heap.size
  l1 : ∀ b o, 0 < Us.length → A1 = some ⟨b, o, none⟩ → b < w.heap.size
  m0 : Ms.length ≤ 1048576 ∧ ∀ i, i < Ms.length → nI Ms i ≤ 1048576
  m1 : Us.length ≤ 1048576 ∧ ∀ i, i < Us.length → nI Us i ≤ 1048576
theorem OutAt.keep {w w' : World} {A : Option Addr} {Ls : List SlI} (h : OutAt w A Ls) (hk : ∀ b o, 0 < Ls.length → A = some ⟨b, o, none⟩ → w'.heap[b]? = w.heap[b]?) : OutAt w' A Ls := fun h0 => by
  obtain ⟨b, off, e, hc, hne⟩ := h h0
  exact ⟨b, off, e, fun i hi => (World.cell?_of_block (a := ⟨b, off + i, none⟩) (hk b off h0 e)).trans (hc i hi), hne⟩
theorem RowsOwn.keep {w w' : World} {B : Nat} {Ls : List SlI} (h : RowsOwn w B Ls) (hk : ∀ b, rowOf Ls b → w'.heap[b]? = w.heap[b]?) : RowsOwn w' B Ls :=
  ⟨fun i hi h0 => by obtain ⟨gi, e, hB, hp⟩ := h.1 i hi h0; exact ⟨gi, e, hB, hp.keep (hk gi ⟨i, hi, h0, e⟩)⟩, h.2⟩
theorem Marked.keep {w w' : World} {Ls : List SlI} {q k : Nat} (h : Marked w Ls q k) (hkl : k ≤ Ls.length) (hk : ∀ b, rowOf Ls b → w'.heap[b]? = w.heap[b]?) : Marked w' Ls q k := fun i hi gi e j hj =>
  (World.cell?_of_block (a := ⟨gi, j, none⟩) (hk gi ⟨i, by omega, by omega, e⟩)).trans (h i hi gi e j hj)
theorem GOwn.keep {w w' : World} {N : Nat} {A0 A1 : Option Addr} {Ms Us : List SlI} (h : GOwn w N A0 A1 Ms Us) (hk : ∀ b, b < w.heap.size → w'.heap[b]? = w.heap[b]?) (hs : w.heap.size ≤ w'.heap.size) : GOwn w' N A0 A1 Ms Us :=
  ⟨h.o0.keep fun b o h0 e => hk b (h.l0 b o h0 e), h.o1.keep fun b o h0 e => hk b (h.l1 b o h0 e), h.r0.keep fun b hb => hk b (h.lt b (.inl hb)), h.r1.keep fun b hb => hk b (h.lt b (.inr hb)), h.dj, h.d0, h.d1, fun b hb => Nat.lt_of_lt_of_le (h.lt b hb) hs, fun b o h0 e => Nat.lt_of_lt_of_le (h.l0 b o h0 e) hs, fun b o h0 e => Nat.lt_of_lt_of_le (h.l1 b o h0 e) hs, h.m0, h.m1⟩
theorem GOwn.to {w w' : World} {N : Nat} {A0 A1 : Option Addr} {Ms Us : List SlI} (h : GOwn w N A0 A1 Ms Us) (hb : Below w.heap.size w w') : GOwn w' N A0 A1 Ms Us := h.keep (fun b hlt => hb.block b hlt) hb.size
/-- Both are marked. -/
def GMark (w : World) (Ms Us : List SlI) : Prop := Marked w Ms 1 Ms.length ∧ Marked w Us (1 + offL Ms Ms.length) Us.length
theorem GMark.to {w w' : World} {N : Nat} {A0 A1 : Option Addr} {Ms Us : List SlI} (h : GMark w Ms Us) (hg : GOwn w N A0 A1 Ms Us) (hb : Below w.heap.size w w') : GMark w' Ms Us :=
  ⟨h.1.keep (Nat.le_refl _) fun b hr => hb.block b (hg.lt b (.inl hr)), h.2.keep (Nat.le_refl _) fun b hr => hb.block b (hg.lt b (.inr hr))⟩
def gTot (Ms Us : List SlI) : Nat := 1 + offL Ms Ms.length + offL Us Us.length
theorem offL_big {Ls : List SlI} (h : Ls.length ≤ 1048576 ∧ ∀ i, i < Ls.length → nI Ls i ≤ 1048576) : offL Ls Ls.length ≤ 1099511627776 := by
  have h1 := offL_le h.2 Ls.length (Nat.le_refl _)
  have : Ls.length * 1048576 ≤ 1048576 * 1048576 := Nat.mul_le_mul_right _ h.1
  omega
def MarkG (w : World) (N : Nat) (A0 A1 : Option Addr) (Ms Us : List SlI) (e : Ending) (w' : World) : Prop :=
  e = .returned (.int .i64 (gTot Ms Us : Int)) ∧ GOwn w' N A0 A1 Ms Us ∧ GMark w' Ms Us ∧ (∀ b, b < w.heap.size → ¬ rowOf Ms b → ¬ rowOf Us b → w'.heap[b]? = w.heap[b]?) ∧ w.heap.size ≤ w'.heap.size ∧ w'.os = w.os ∧ w'.tape = w.tape ∧ w'.output = w.output
set_option maxRecDepth 100000 in
set_option maxHeartbeats 1600000 in
theorem markGrid_any (A0 A1 : Option Addr) (c0 c1 N : Nat) (Ms Us : List SlI) (w : World) (hg : GOwn w N A0 A1 Ms Us) :
    Calls Try.prog 41 #[.agg #[.slice A0 Ms.length c0, .slice A1 Us.length c1], .int .i64 1] w (MarkG w N A0 A1 Ms Us) := by
  have hx : Below w.heap.size w (w.alloc (.cells #[.slice A0 Ms.length c0, .slice A1 Us.length c1] 53)) := by (repeat (first | assumption | exact Below.refl _ _ | (refine bl_alloc ?_ _) | (refine Below.drew ?_) | (refine bl_drewN ?_ _) | (refine bl_set ?_ (by first | (simp; done) | omega | (simp; omega)) _) | (refine bl_trans ?_ (by assumption)) | (refine bl_step ?_ (by assumption) (by first | omega | exact Below.size (by assumption) | (simp; omega) | (simp; exact Below.size (by assumption))))))
  have kg := Blk.new w #[.slice A0 Ms.length c0, .slice A1 Us.length c1] 53
  have hg1 := hg.to hx
  have hnr0 : ¬ rowOf Ms w.heap.size := fun h => by have := hg.lt _ (.inl h); omega
  have hnr1 : ¬ rowOf Us w.heap.size := fun h => by have := hg.lt _ (.inr h); omega
  have hb0 := offL_big hg.m0
  have hb1 := offL_big hg.m1
  have HG := Lib.hid hg
  clear hg
  go_enter Try.func41, Try.ntmps41
  go_wp2_with fail
  generalize hE : (w.alloc (.cells #[.slice A0 Ms.length c0, .slice A1 Us.length c1] 53)) = w0 at *
  refine (markLL_any A0 Ms c0 N 1 w0 hg1.o0 hg1.r0 hg1.m0.1 hg1.m0.2 (by omega)).mono ?_
  rintro e w1 ⟨rfl, hO1, hR1, hA1, hM1⟩
  have kg1 := kg.keep (hO1.block _ hnr0)
  have g1 := kg1.cell 1 (v := .slice A1 Us.length c1) rfl
  have o1' := hg1.o1.keep (w' := w1) fun b o _ e => hO1.block b (hg1.d1 b o e)
  have r1' := hg1.r1.keep (w' := w1) fun b hb => hO1.block b (fun h => hg1.dj b h hb)
  have HM1 := Lib.hid hM1
  have HO1 := Lib.hid hO1
  have CU := Lib.hid (markLL_any A1 Us c1 N (1 + offL Ms Ms.length) w1 o1' r1' hg1.m1.1 hg1.m1.2 (by omega))
  clear hM1 hO1 kg o1' r1' kg1
  obtain ⟨s, hs⟩ : ∃ s, 1 + offL Ms Ms.length = s := ⟨_, rfl⟩
  rw [hs] at CU ⊢
  have HS := Lib.hid hs
  clear hs
  go_wp2_with fail
  refine CU.out.mono ?_
  rintro e w2 ⟨rfl, hO2, hR2, hA2, hM2⟩
  have o0' := hA1.keep (w' := w2) fun b o _ e => hO2.block b (hg1.d0 b o e)
  have r0' := hR1.keep (w' := w2) fun b hb => hO2.block b (hg1.dj b hb)
  have m0' := HM1.out.keep (w' := w2) (Nat.le_refl _) fun b hb => hO2.block b (hg1.dj b hb)
  have hsz : w2.heap.size = w0.heap.size := hO2.size.trans HO1.out.size
  have hG2 : GOwn w2 N A0 A1 Ms Us := ⟨o0', hA2, r0', hR2, hg1.dj, hg1.d0, hg1.d1, fun b hb => by rw [hsz]; exact hg1.lt b hb, fun b o h0 e => by rw [hsz]; exact hg1.l0 b o h0 e, fun b o h0 e => by rw [hsz]; exact hg1.l1 b o h0 e, hg1.m0, hg1.m1⟩
  have hK : ∀ b, b < w.heap.size → ¬ rowOf Ms b → ¬ rowOf Us b → w2.heap[b]? = w.heap[b]? := fun b hb h1 h2 => (hO2.block b h2).trans ((HO1.out.block b h1).trans (hx.block b hb))
  have HR : Hid (MarkG w N A0 A1 Ms Us (.returned (.int .i64 ((s + offL Us Us.length : Nat) : Int))) w2) :=
    ⟨by unfold gTot; rw [HS.out], hG2, ⟨m0', by rw [HS.out]; exact hM2⟩, hK, by rw [hsz]; exact hx.size, hO2.os.trans (HO1.out.os.trans hx.os), hO2.tape.trans (HO1.out.tape.trans hx.tape), hO2.output.trans (HO1.out.output.trans hx.output)⟩
  clear hG2 hK o0' r0' m0' hM2 hR2 hA2 hO2 hsz
  go_wp2
  go_ret
  exact HR.out
set_option maxRecDepth 100000 in
set_option maxHeartbeats 1600000 in
theorem heldGrid_any (A0 A1 : Option Addr) (c0 c1 N : Nat) (Ms Us : List SlI) (w : World) (hg : GOwn w N A0 A1 Ms Us) (hm : GMark w Ms Us) :
    Calls Try.prog 42 #[.agg #[.slice A0 Ms.length c0, .slice A1 Us.length c1], .int .i64 1] w fun e w' => e = .returned (.int .i64 (gTot Ms Us : Int)) ∧ Below w.heap.size w w' := by
  have hx : Below w.heap.size w (w.alloc (.cells #[.slice A0 Ms.length c0, .slice A1 Us.length c1] 53)) := by (repeat (first | assumption | exact Below.refl _ _ | (refine bl_alloc ?_ _) | (refine Below.drew ?_) | (refine bl_drewN ?_ _) | (refine bl_set ?_ (by first | (simp; done) | omega | (simp; omega)) _) | (refine bl_trans ?_ (by assumption)) | (refine bl_step ?_ (by assumption) (by first | omega | exact Below.size (by assumption) | (simp; omega) | (simp; exact Below.size (by assumption))))))
  have kg := Blk.new w #[.slice A0 Ms.length c0, .slice A1 Us.length c1] 53
  have hg1 := hg.to hx
  have hm1 := hm.to hg hx
  have hb0 := offL_big hg.m0
  have hb1 := offL_big hg.m1
  clear hg hm
  have g0 := kg.cell 0 (v := .slice A0 Ms.length c0) rfl
  have g1 := kg.cell 1 (v := .slice A1 Us.length c1) rfl
  generalize hE : (w.alloc (.cells #[.slice A0 Ms.length c0, .slice A1 Us.length c1] 53)) = w0 at *
  have CA := Lib.hid (heldLL_any A0 Ms c0 N 1 w0 hg1.o0 hg1.r0 hm1.1 hg1.m0.1 hg1.m0.2 (by omega))
  have CU := Lib.hid (heldLL_any A1 Us c1 N (1 + offL Ms Ms.length) w0 hg1.o1 hg1.r1 hm1.2 hg1.m1.1 hg1.m1.2 (by omega))
  obtain ⟨s, hs⟩ : ∃ s, 1 + offL Ms Ms.length = s := ⟨_, rfl⟩
  rw [hs] at CA CU
  have hs0 : ¬ ((s : Int) < 0) := by omega
  have hs1 : ¬ (((s + offL Us Us.length : Nat) : Int) < 0) := by omega
  have HR : Hid ((gTot Ms Us : Int) = ((s + offL Us Us.length : Nat) : Int)) := by show _ = _; unfold gTot; rw [hs]
  clear hs hg1 hm1 kg hb0 hb1
  generalize offL Us Us.length = t at *
  go_enter Try.func42, Try.ntmps42
  go_wp2_with fail
  refine CA.out.mono ?_
  rintro e w1 ⟨rfl, rfl⟩
  go_wp2_with fail
  refine CU.out.mono ?_
  rintro e w2 ⟨rfl, rfl⟩
  go_wp2
  go_ret
  exact ⟨retI (by rw [HR.out]; first | rfl | omega | simp), hx⟩
/-- What is asked for, as lists. -/
def rA (wI hI room : Int) : List (List Int) := if evOk wI hI room then eqRows hI.toNat (wI - 1).toNat room else []
def rU (wI hI room : Int) : List (List Int) := if evOk wI hI room then eqRows (hI.toNat - 1) ((wI - 1).toNat + 1) room else []
theorem rA_f {wI hI room : Int} (h : evOk wI hI room = false) : rA wI hI room = [] := by unfold rA; rw [h]; rfl
theorem rU_f {wI hI room : Int} (h : evOk wI hI room = false) : rU wI hI room = [] := by unfold rU; rw [h]; rfl
theorem rA_t {m H : Nat} {room : Int} (h : evOk ((m : Int) + 1) (H : Int) room = true) : rA ((m : Int) + 1) (H : Int) room = eqRows H m room := by
  unfold rA; rw [h, show ((m : Int) + 1 - 1).toNat = m by omega, show (H : Int).toNat = H by omega]; rfl
theorem rU_t {m H : Nat} {room : Int} (h : evOk ((m : Int) + 1) (H : Int) room = true) : rU ((m : Int) + 1) (H : Int) room = eqRows (H - 1) (m + 1) room := by
  unfold rU; rw [h, show ((m : Int) + 1 - 1).toNat = m by omega, show (H : Int).toNat = H by omega]; rfl
theorem eqRows_len (h m : Nat) (room : Int) : (eqRows h m room).length = h := by simp [eqRows]
theorem evOk_same (wI hI room : Int) : evOkS wI hI room = evOk wI hI room := rfl
def Ev2 (own : Prop) (wI hI room : Int) (w : World) (e : Ending) (w' : World) : Prop :=
  ∃ A0 c0 Ms A1 c1 Us, e = .returned (.tuple #[.agg #[.slice A0 (rA wI hI room).length c0, .slice A1 (rU wI hI room).length c1], .bool (evOk wI hI room)]) ∧ heldI Ms = rA wI hI room ∧ heldI Us = rU wI hI room ∧ ISAt w' w'.heap.size A0 Ms ∧ ISAt w' w'.heap.size A1 Us ∧ (own → GOwn w' w.heap.size A0 A1 Ms Us) ∧ Below w.heap.size w w'
theorem EvenGridS2 (wI hI room : Int) (w : World) : Calls Try.prog 39 #[.int .i64 wI, .int .i64 hI, .int .i64 room] w (Ev2 False wI hI room w) :=
  (EvenGridS_any wI hI room w).mono fun e w' ⟨h, hb⟩ => by
    rcases h with ⟨hk, m, H, A0, c0, Ms, A1, c1, Us, rfl, rfl, h1, h8, h7, rfl, ⟨a1, a2, a3⟩, u1, u2, u3⟩ | ⟨hk, rfl⟩
    · rw [evOk_same] at hk
      refine ⟨A0, c0, Ms, A1, c1, Us, ?_, by rw [a2, rA_t hk], by rw [u2, rU_t hk], a3, u3, fun h => h.elim, hb⟩
      rw [rA_t hk, rU_t hk, eqRows_len, eqRows_len, hk]
    · rw [evOk_same] at hk
      refine ⟨none, 0, [], none, 0, [], ?_, by rw [rA_f hk]; rfl, by rw [rU_f hk]; rfl, fun h => by simp at h, fun h => by simp at h, fun h => h.elim, hb⟩
      rw [rA_f hk, rU_f hk, hk]; rfl
theorem nI_rows {g n k y : Nat} {v : Int} (h : y < k) : nI (rowsL g n v k) y = n := by unfold nI; rw [rowsL_at h]; simp
theorem pI_rows {g n k y : Nat} {v : Int} (h : y < k) : pI (rowsL g n v k) y = some ⟨g + 1 + y, 0, none⟩ := by unfold pI; rw [rowsL_at h]
theorem kI_rows {g n k y : Nat} {v : Int} (h : y < k) : kI (rowsL g n v k) y = n := by unfold kI; rw [rowsL_at h]
theorem rowOf_rows {g n k b : Nat} {v : Int} (h : rowOf (rowsL g n v k) b) : ∃ y, y < k ∧ b = g + 1 + y := by
  obtain ⟨y, hy, _, e⟩ := h
  rw [rowsL_len] at hy
  rw [pI_rows hy] at e
  injection e with e; injection e with e
  exact ⟨y, hy, e.symm⟩
theorem heldI_rows (g n k : Nat) (v : Int) : heldI (rowsL g n v k) = eqRows k n v := by
  unfold heldI rowsL eqRows
  rw [List.map_map]
  exact List.eq_replicate_iff.2 ⟨by simp, fun b hb => by
    obtain ⟨y, _, e⟩ := List.mem_map.1 hb
    exact e.symm⟩
theorem GrB.isat {W : World} {g cnt n : Nat} {v : Int} (h : GrB W g cnt n (fun _ _ => v)) (hn : n ≤ 8) : ISAt W W.heap.size (some ⟨g, 0, none⟩) (rowsL g n v cnt) := fun h0 => by
  refine ⟨g, 0, rfl, h.lt, fun i hi => ?_⟩
  rw [rowsL_len] at hi
  rw [rowsL_at hi]
  have hz := h.rows i hi
  refine ⟨by rw [Nat.zero_add, h.outc i hi]; simp, fun _ => ⟨g + 1 + i, 0, rfl, hz.lt, fun j hj => ?_⟩, by simp, by unfold maxLen; dsimp only; omega⟩
  have hj' : j < n := by simpa using hj
  rw [Nat.zero_add, hz.at_ hj']
  simp [List.getD_eq_getElem?_getD, hj']
theorem GrB.outAt {W : World} {g cnt n : Nat} {v : Int} (h : GrB W g cnt n (fun _ _ => v)) : OutAt W (some ⟨g, 0, none⟩) (rowsL g n v cnt) := fun h0 => by
  refine ⟨g, 0, rfl, fun i hi => ?_, fun i hi _ e => ?_⟩
  · rw [rowsL_len] at hi
    rw [pI_rows hi, nI_rows hi, kI_rows hi, Nat.zero_add, h.outc i hi]
  · rw [rowsL_len] at hi
    rw [pI_rows hi] at e
    injection e with e; injection e with e
    omega
theorem GrB.own {W : World} {g cnt n N : Nat} {v : Int} (h : GrB W g cnt n (fun _ _ => v)) (hN : N ≤ g) : RowsOwn W N (rowsL g n v cnt) := by
  refine ⟨fun i hi _ => ?_, fun i j hij hj _ _ e => ?_⟩
  · rw [rowsL_len] at hi
    obtain ⟨cs, h0, h1, _⟩ := h.rows i hi
    exact ⟨g + 1 + i, pI_rows hi, by omega, cs, h0, by rw [nI_rows hi, h1]; exact Nat.le_refl _⟩
  · rw [rowsL_len] at hj
    rw [pI_rows (show i < cnt by omega), pI_rows hj] at e
    injection e with e; injection e with e
    omega
theorem EvenGridI2 (wI hI room : Int) (w : World) : Calls Try.prog 40 #[.int .i64 wI, .int .i64 hI, .int .i64 room] w (Ev2 True wI hI room w) :=
  (EvenGridI_any wI hI room w).mono fun e w' ⟨h, hb⟩ => by
    rcases h with ⟨hk, A0, n0, c0, A1, n1, c1, rfl, gA, H, m, hv, rfl, rfl, h1, h8, h7, hN, ha, hu⟩ | ⟨hk, rfl⟩
    · simp at hv
      obtain ⟨⟨e1, e2, e3⟩, e4, e5, e6⟩ := hv
      subst A0 n0 c0 A1 n1 c1
      refine ⟨some ⟨gA, 0, none⟩, H, rowsL gA m room H, some ⟨gA + 1 + H, 0, none⟩, H - 1, rowsL (gA + 1 + H) (m + 1) room (H - 1), ?_, by rw [heldI_rows, rA_t hk], by rw [heldI_rows, rU_t hk], ha.isat (by omega), hu.isat (by omega), fun _ => ?_, hb⟩
      · rw [rA_t hk, rU_t hk, eqRows_len, eqRows_len, hk]
      · refine ⟨ha.outAt, hu.outAt, ha.own hN, hu.own (by omega), fun b hb1 hb2 => ?_, fun b o e hb2 => ?_, fun b o e hb2 => ?_, fun b hb1 => ?_, fun b o _ e => ?_, fun b o _ e => ?_, ⟨by rw [rowsL_len]; omega, fun i hi => ?_⟩, ⟨by rw [rowsL_len]; omega, fun i hi => ?_⟩⟩
        · obtain ⟨y, hy, rfl⟩ := rowOf_rows hb1
          obtain ⟨y2, hy2, e⟩ := rowOf_rows hb2
          omega
        · injection e with e; injection e with e
          obtain ⟨y2, hy2, e2⟩ := rowOf_rows hb2
          omega
        · injection e with e; injection e with e
          obtain ⟨y2, hy2, e2⟩ := rowOf_rows hb2
          omega
        · rcases hb1 with hb1 | hb1
          · obtain ⟨y, hy, rfl⟩ := rowOf_rows hb1
            exact (ha.rows y hy).lt
          · obtain ⟨y, hy, rfl⟩ := rowOf_rows hb1
            exact (hu.rows y hy).lt
        · injection e with e; injection e with e
          rw [← e]; exact ha.lt
        · injection e with e; injection e with e
          rw [← e]; exact hu.lt
        · rw [rowsL_len] at hi; rw [nI_rows hi]; omega
        · rw [rowsL_len] at hi; rw [nI_rows hi]; omega
    · refine ⟨none, 0, [], none, 0, [], ?_, by rw [rA_f hk]; rfl, by rw [rU_f hk]; rfl, fun h => by simp at h, fun h => by simp at h, fun _ => ?_, hb⟩
      · rw [rA_f hk, rU_f hk, hk]; rfl
      · refine ⟨fun h => by simp at h, fun h => by simp at h, ⟨fun i hi => by simp at hi, fun i j _ hj => by simp at hj⟩, ⟨fun i hi => by simp at hi, fun i j _ hj => by simp at hj⟩, fun b ⟨i, hi, _⟩ => by simp at hi, fun b o e => (by cases e), fun b o e => (by cases e), fun b h => ?_, fun b o h => by simp at h, fun b o h => by simp at h, ⟨by simp, fun i hi => by simp at hi⟩, ⟨by simp, fun i hi => by simp at hi⟩⟩
        rcases h with ⟨i, hi, _⟩ | ⟨i, hi, _⟩ <;> simp at hi
end Go.Proofs.Ytijnjcamfbnmgaa
