/-
  Contract: the program's visiting of cells.
-/
import Derived.Test.YtepamhdopmfkfaaVisP
import Derived.Test.YtepamhdopmfkfaaSeeS
import Derived.Test.YtepamhdopmfkfaaMap
import Derived.Laws.EntriesVeiled
namespace Go.Proofs.Ytepamhdopmfkfaa
set_option linter.unusedSimpArgs false
set_option linter.unusedVariables false
open Go.ChangeShapes Go.WideShapes Go.ChangeAt Go.RowKit

abbrev visV (gm gp gv : Nat) : Value := .func (.func 101) #[] #[.pointer (some ⟨gm, 0, none⟩), .pointer (some ⟨gp, 0, none⟩), .pointer (some ⟨gv, 0, none⟩)]
/-- What a visit reads: the map's variable, the prices', its own. -/
structure VAt (w0 : World) (B gm gp gv mb gw gh gc : Nat) (w : World) (l : List Pt) : Prop where
  lo : Below B w0 w
  bm : Boxed w gm 96 (.map (some mb))
  bp : Boxed w gp 93 (prV gw gh gc)
  bv : Boxed w gv 114 (visV gm gp gv)
  set : SetMap w mb l
theorem But.boxed {g G : Nat} {w w' : World} {t : TypeId} {v : Value} (h : But g w w') (hb : Boxed w G t v) (hne : G ≠ g) : Boxed w' G t v := (h.block G hb.lt hne).trans hb
theorem But.cell {g : Nat} {w w' : World} {p : Addr} (h : But g w w') (hlt : p.block < w.heap.size) (hne : p.block ≠ g) : w'.cell? p = w.cell? p := by
  unfold World.cell?
  rw [h.block _ hlt hne]
theorem SetMap.no_box {w : World} {b g : Nat} {l : List Pt} {t : TypeId} {v : Value} (h : SetMap w b l) (hb : Boxed w g t v) : g ≠ b := by
  rintro rfl
  obtain ⟨es, c, h0, _⟩ := h
  have := h0.symm.trans hb
  simp at this
theorem SetMap.no_cell {w : World} {b g : Nat} {l : List Pt} {o : Nat} {v : Value} (h : SetMap w b l) (hc : w.cell? ⟨g, o, none⟩ = some v) : g ≠ b := by
  rintro rfl
  obtain ⟨es, c, h0, _⟩ := h
  simp [World.cell?, h0] at hc
theorem VAt.but {w0 : World} {B gm gp gv mb gw gh gc : Nat} {w w' : World} {l l' : List Pt} (h : VAt w0 B gm gp gv mb gw gh gc w l) (hb : But mb w w') (hs : SetMap w' mb l') (hB : B ≤ mb) (hB0 : B ≤ w0.heap.size) : VAt w0 B gm gp gv mb gw gh gc w' l' :=
  ⟨hb.below h.lo hB (Nat.le_trans hB0 h.lo.size), hb.boxed h.bm (h.set.no_box h.bm), hb.boxed h.bp (h.set.no_box h.bp), hb.boxed h.bv (h.set.no_box h.bv), hs⟩
/-- What a visit comes to. -/
def VRes (M : Mz) (mb : Nat) (l : List Pt) (p : Pt) (w : World) (e : Ending) (w' : World) : Prop :=
  e = .returned (.tuple #[]) ∧ ∃ l', VPost M l p l' ∧ SetMap w' mb l' ∧ But mb w w'
theorem But.alloc {g : Nat} {a b : World} (h : But g a b) (o : Obj) : But g a (b.alloc o) := h.trans (But.of (by (repeat (first | assumption | exact Below.refl _ _ | (refine bl_alloc ?_ _) | (refine Below.drew ?_) | (refine bl_drewN ?_ _) | (refine bl_set ?_ (by first | (simp; done) | omega | (simp; omega)) _) | (refine bl_trans ?_ (by assumption)) | (refine bl_step ?_ (by assumption) (by first | omega | exact Below.size (by assumption) | (simp; omega) | (simp; exact Below.size (by assumption))))))))
theorem But.grown {g : Nat} {a b : World} (h : a.grownBy b (some g)) : But g a b := ⟨h.os, h.tape, h.output, h.size, fun i hi hne => h.block i hi (fun e => hne (by injection e))⟩

set_option maxRecDepth 100000 in
set_option maxHeartbeats 3200000 in
theorem visit_any {w0 : World} {B gm gp gv mb gw gh gc : Nat} {A : Option Addr} {Ls : List SlI} {c : Nat} (hv : MzOk (heldI Ls)) (hPr : PrB w0 B gw gh gc A Ls c) (hB : B ≤ mb) (hB0 : B ≤ w0.heap.size) :
    ∀ (N : Nat) (l : List Pt) (x y : Int) (w : World), VAt w0 B gm gp gv mb gw gh gc w l → l.Nodup → (∀ q ∈ l, openB (heldI Ls) q.1 q.2 = true) → 144 < l.length + N →
      Calls Try.prog 101 #[.agg #[.int .i64 x, .int .i64 y], .pointer (some ⟨gm, 0, none⟩), .pointer (some ⟨gp, 0, none⟩), .pointer (some ⟨gv, 0, none⟩)] w (VRes (heldI Ls) mb l (x, y) w) := by
  intro N
  induction N with
  | zero =>
    intro l x y w _ hn ho hlt
    have := open_few hv.h12 hv.w12 hn ho
    omega
  | succ N ih =>
    intro l x y w hV hn ho hlt
    have hO := fun w1 hm => isOpen_any gw gh gc A Ls c x y w1 hm hv
    have HIH := Lib.hid ih
    have HV := Lib.hid hv
    have HP := Lib.hid hPr
    obtain ⟨M, hM⟩ : ∃ M, heldI Ls = M := ⟨_, rfl⟩
    rw [hM] at hv hO ho HIH HV ⊢
    have HO := Lib.hid hO
    have HN := Lib.hid hn
    have Ho := Lib.hid ho
    obtain ⟨hlo, hbm, hbp, hbv, hset⟩ := hV
    have m0 := hbm.cell
    have q0 := hbp.cell
    have v0 := hbv.cell
    have hml := hbm.lt
    have hpl := hbp.lt
    have hvl := hbv.lt
    have hbl := hset.lt
    have hset1 := hset.alloc (.cells #[.int .i64 x, .int .i64 y] 33)
    have hPB := PtBox.new w x y
    have b1 : Below w.heap.size w (w.alloc (.cells #[.int .i64 x, .int .i64 y] 33)) := by (repeat (first | assumption | exact Below.refl _ _ | (refine bl_alloc ?_ _) | (refine Below.drew ?_) | (refine bl_drewN ?_ _) | (refine bl_set ?_ (by first | (simp; done) | omega | (simp; omega)) _) | (refine bl_trans ?_ (by assumption)) | (refine bl_step ?_ (by assumption) (by first | omega | exact Below.size (by assumption) | (simp; omega) | (simp; exact Below.size (by assumption))))))
    have lo1 : Below B w0 (w.alloc (.cells #[.int .i64 x, .int .i64 y] 33)) := hlo.alloc (Nat.le_trans hB0 hlo.size) _
    have hlk := hset1.look (x, y)
    unfold ptV at hlk
    have hPA := HP.out.at_ lo1 (Nat.le_trans hB0 lo1.size)
    have HVV : Hid (VAt w0 B gm gp gv mb gw gh gc w l) := ⟨hlo, hbm, hbp, hbv, hset⟩
    clear hM hv hO ho ih hPr hn
    by_cases hmem : (x, y) ∈ l
    · have HR : Hid (VPost M l (x, y) l) := VPost.same HN.out Ho.out (fun _ => hmem)
      rw [decide_eq_true hmem] at hlk
      clear hmem hPA hlo lo1 hbm hbp hbv
      go_enter Try.func101, Try.ntmps101
      go_wp2
      go_end0
      exact ⟨rfl, l, HR.out, hset1, But.of b1⟩
    · rw [decide_eq_false hmem] at hlk
      have HMem := Lib.hid hmem
      have HB := Lib.hid (And.intro hB hB0)
      clear hmem hlo lo1 hbm hbp hbv
      go_enter Try.func101, Try.ntmps101
      go_wp2_with fail
      refine (HO.out _ hPA).mono ?_
      rintro e w1 ⟨rfl, hb1⟩
      have b2 := bl_step b1 hb1 b1.size
      have hset2 := hset1.to hb1
      have hPB2 := hPB.to hb1
      have hv2 := HVV.out.but (But.of b2) hset2 HB.out.1 HB.out.2
      clear hlk hPA b1 hb1 hset1 hPB
      cases hop : openB M x y
      · have HR : Hid (VPost M l (x, y) l) := VPost.same HN.out Ho.out (fun h => by rw [show openB M (x, y).1 (x, y).2 = false from hop] at h; cases h)
        clear hop
        go_wp2
        go_end0
        exact ⟨rfl, l, HR.out, hset2, But.of b2⟩
      · obtain ⟨i, j, hx, hy, hi, hj, _⟩ := openB_pt hop
        have h12 := HV.out.h12
        have w12 := HV.out.w12
        have cN := fun w1 => neighboursOf_any x y w1 ⟨by omega, by omega⟩ ⟨by omega, by omega⟩
        have HOP := Lib.hid hop
        have HI0 := Lib.hid (VInv.start HN.out Ho.out HMem.out (show openB M (x, y).1 (x, y).2 = true from hop))
        clear hop hx hy hi hj h12 w12
        obtain ⟨w5, hst, hM5, hg5⟩ := hset2.store (x, y) HMem.out
        unfold ptV at hst
        have hbut5 := (But.of b2).trans (But.grown hg5)
        have hv5 := HVV.out.but hbut5 hM5 HB.out.1 HB.out.2
        have hPB5 : PtBox w5 w.heap.size (x, y) := hPB2.keep (hg5.block _ hPB2.lt (fun e => by injection e; omega))
        have p0 := hPB2.c0
        have p1 := hPB2.c1
        have p50 := hPB5.c0
        have p51 := hPB5.c1
        simp only at p0 p1 p50 p51
        have m2 := hv2.bm.cell
        have m5 := hv5.bm.cell
        clear hPB2 hPB5 hg5 hset2 b2 hv2
        go_wp2_with fail
        refine (cN w5).mono ?_
        rintro e w6 ⟨⟨g, rfl, hpt⟩, hb6⟩
        obtain ⟨b', o', hbo, hbl', hc⟩ := hpt (by simp [nbs])
        simp only [Option.some.injEq, Addr.mk.injEq, and_true] at hbo
        obtain ⟨rfl, rfl⟩ := hbo
        have hM6 := hM5.to hb6
        have hgmb := hM6.no_cell (hc 0 (by simp [nbs])).1
        have hbut6 := hbut5.trans (But.of hb6)
        have HC := Lib.hid hc
        clear cN hst m2 m5 p0 p1 p50 p51 hbut5 hv5 hb6 hpt hc hM5
        go_wp2
        go_loopw [6, 21] (fun _ i wr => ∃ (k : Nat) (lk : List Pt), k ≤ 4 ∧ i = .int .i64 k ∧ Hid (VInv M l (x, y) lk k) ∧ SetMap wr mb lk ∧ But mb w wr ∧ But mb w6 wr) (fun _ i _ => 4 - (intOf i).toNat)
        case atStart => exact ⟨0, _, by omega, rfl, HI0, hM6, hbut6, But.refl _ _⟩
        case round =>
          clear hM6 hbut6
          obtain ⟨k, lk, hk, rfl, HI, hMr, hbw, hb6r⟩ := hrel
          by_cases hk4 : k < 4
          · obtain ⟨c0, c1⟩ := HC.out k (by simpa [nbs] using hk4)
            have d0 := (hb6r.cell (p := ⟨g, 0 + k * 2, none⟩) hbl' hgmb).trans c0
            have d1 := (hb6r.cell (p := ⟨g, 0 + k * 2 + 1, none⟩) hbl' hgmb).trans c1
            have e : (nbs (x, y)).getD k (0, 0) = nb (x, y) k := by
              rcases (show k = 0 ∨ k = 1 ∨ k = 2 ∨ k = 3 by omega) with rfl | rfl | rfl | rfl <;> rfl
            rw [e, Nat.zero_add] at d0 d1
            obtain ⟨X, hX⟩ : ∃ X, (nb (x, y) k).1 = X := ⟨_, rfl⟩
            obtain ⟨Y, hY⟩ : ∃ Y, (nb (x, y) k).2 = Y := ⟨_, rfl⟩
            have HXY : Hid (nb (x, y) k = (X, Y)) := by show _ = _; rw [← hX, ← hY]
            rw [hX] at d0
            rw [hY] at d1
            have hkI : (k : Int) < 4 := by omega
            have hk0 : (0 : Int) ≤ (k : Int) := by omega
            have hMa := hMr.alloc (.cells #[.int .i64 X, .int .i64 Y] 33)
            have hva := HVV.out.but (hbw.alloc (.cells #[.int .i64 X, .int .i64 Y] 33)) hMa HB.out.1 HB.out.2
            have va := hva.bv.cell
            have hcall := HIH.out lk X Y _ hva HI.out.nodup HI.out.opn (by have := HI.out.len; omega)
            clear c0 c1 e hX hY hMr
            go_wp2_with fail
            refine hcall.mono ?_
            rintro e w7 ⟨rfl, l', hp, hs, hbt⟩
            have HI2 := Lib.hid (HI.out.step hk4 (by rw [HXY.out]; exact hp))
            have hbwr := (hbw.alloc (.cells #[.int .i64 X, .int .i64 Y] 33)).trans hbt
            have hb6n := (hb6r.alloc (.cells #[.int .i64 X, .int .i64 Y] 33)).trans hbt
            clear hcall hva va hMa d0 d1 hbt hp hbw hb6r
            go_wp2
            go_roundw
            case rel => exact ⟨k + 1, l', by omega, by go_num, HI2, hs, hbwr, hb6n⟩
            case measure => simp [intOf]; omega
          · obtain rfl : k = 4 := by omega
            go_wp2
            go_end0
            exact ⟨rfl, lk, HI.out.end_ HOP.out, hMr, hbw⟩
end Go.Proofs.Ytepamhdopmfkfaa
