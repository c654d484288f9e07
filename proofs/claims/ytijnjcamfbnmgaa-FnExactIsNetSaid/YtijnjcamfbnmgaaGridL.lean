/-
  Grids in a law: the argument opened, its size, copy and comparison.
-/
import Derived.Test.YtijnjcamfbnmgaaOpenIS
import Derived.Test.YtijnjcamfbnmgaaGridV
import Derived.Laws.ResultCell
namespace Go.Proofs.Ytijnjcamfbnmgaa
set_option linter.unusedSimpArgs false
set_option linter.unusedVariables false
open Go.ChangeShapes Go.WideShapes Go.ChangeAt Go.RowKit

variable {H : Type} {enc : TypeId × Value → H}

/-- A grid as an argument brings it. -/
def GrIn (w : World) (AA : Option Addr) (A : List SlI) (cA : Nat) (AU : Option Addr) (U : List SlI) (cU : Nat) : Prop := RowsIn w AA A cA ∧ RowsIn w AU U cU
set_option maxRecDepth 100000 in
theorem open_grid {w : World} {v : Value} {d : DataW H} {p : List MemPlace} {r : Reach} {b0 : Nat} (hv : Value.okWide Try.prog w r b0 50 v) (h : DataW.Trod enc Try.prog w 0 (fun _ => true) true 50 v d p) :
    ∃ (AA : Option Addr) (A : List SlI) (cA : Nat) (AU : Option Addr) (U : List SlI) (cU : Nat), v = .agg #[.slice AA A.length cA, .slice AU U.length cU] ∧ GrIn w AA A cA AU U cU := by
  obtain ⟨c0, c1, y0, y1, m, rfl, _, _, hy0, hy1⟩ := Go.Joins.open_agg2 Try.underlying50 (by kernel_rfl) (by kernel_rfl) hv h
  obtain ⟨AA, A, cA, rfl, h1⟩ := open_intss_trod hy0
  obtain ⟨AU, U, cU, rfl, h2⟩ := open_intss_trod hy1
  exact ⟨AA, A, cA, AU, U, cU, rfl, h1, h2⟩

def SzGPost (A U : List SlI) (w : World) (e : Ending) (w' : World) : Prop := (∃ r : Int, e = .returned (.int .i64 r) ∧ -1 ≤ r ∧ r ≤ 1048576 ∧ (0 ≤ r → GrSz A U)) ∧ Below w.heap.size w w'
set_option maxHeartbeats 800000 in
theorem szGrid_any (AA : Option Addr) (A : List SlI) (cA : Nat) (AU : Option Addr) (U : List SlI) (cU : Nat) (w : World)
    (hp : GrAt w w.heap.size AA A AU U) (lA : A.length ≤ maxLen) (lU : U.length ≤ maxLen) :
    Calls Try.prog 34 #[.agg #[.slice AA A.length cA, .slice AU U.length cU], .int .i64 1048576] w (SzGPost A U w) := by
  have hx : Below w.heap.size w (w.alloc (.cells #[.slice AA A.length cA, .slice AU U.length cU] 50)) := by (repeat (first | assumption | exact Below.refl _ _ | (refine bl_alloc ?_ _) | (refine Below.drew ?_) | (refine bl_drewN ?_ _) | (refine bl_set ?_ (by first | (simp; done) | omega | (simp; omega)) _) | (refine bl_trans ?_ (by assumption)) | (refine bl_step ?_ (by assumption) (by first | omega | exact Below.size (by assumption) | (simp; omega) | (simp; exact Below.size (by assumption))))))
  have hp1 := hp.to hx
  obtain ⟨h1, h2⟩ := hp1
  clear hp
  go_enter Try.func34, Try.ntmps34
  go_wp2_with fail
  refine (szInt64SS_any _ _ _ _ _ h1 lA (by omega) (by omega)).mono ?_
  rintro e w1 ⟨r, rfl, rfl, hr0, hr1, hr2⟩
  have HR := Lib.hid hr2
  clear hr2
  by_cases hr : r < 0
  · go_wp2
    go_ret
    exact ⟨⟨-1, rfl, by omega, by omega, fun h => by omega⟩, hx⟩
  have hr0' : 0 ≤ r := by omega
  have hd : ¬ r < 0 := hr
  clear hr0
  go_wp2_with fail
  refine (szInt64SS_any _ _ _ _ _ h2 lU (by omega) (by omega)).mono ?_
  rintro e w1 ⟨q, rfl, rfl, hq0, hq1, hq2⟩
  have HQ := Lib.hid hq2
  clear hq2
  by_cases hq : q < 0
  · go_wp2
    go_ret
    exact ⟨⟨-1, rfl, by omega, by omega, fun h => by omega⟩, hx⟩
  have hq0' : 0 ≤ q := by omega
  go_wp2
  go_ret
  exact ⟨⟨_, rfl, by omega, by omega, fun h => ⟨HR.out (by omega), HQ.out (by omega)⟩⟩, hx⟩

theorem ZI.keepZ {w w1 : World} {g n : Nat} {Ms : List SlI} (h : ZI w g n Ms) (hk : w1.heap[g]? = w.heap[g]?) : ZI w1 g n Ms := by
  obtain ⟨cs, h0, h1⟩ := h
  exact ⟨cs, hk.trans h0, h1⟩
theorem NewIAll.farZ {w : World} {B : Nat} {Ms : List SlI} (h : NewIAll w B Ms) {p : Addr} (hp : p.block ≤ B) (v : Value) : NewIAll (w.setCell p v) B Ms := fun i hi => by
  obtain ⟨gi, h1, h2, h3, h4⟩ := h i hi
  exact ⟨gi, h1, h2, h3.keep (Below.heap_setCell _ p _ gi (by omega)), h4⟩
theorem NewIAll.keepH {w w1 : World} {B : Nat} {Ms : List SlI} (h : NewIAll w B Ms) (hk : ∀ g, B < g → w1.heap[g]? = w.heap[g]?) : NewIAll w1 B Ms := fun i hi => by
  obtain ⟨gi, h1, h2, h3, h4⟩ := h i hi
  exact ⟨gi, h1, h2, h3.keep (hk gi h2), h4⟩
/-- A new grid that holds the same, each of its slices in blocks of its own. -/
def NewGr (A U : List SlI) (w : World) (e : Ending) (w' : World) : Prop :=
  ∃ g1 M1 g2 M2, e = .returned (.agg #[.slice (some ⟨g1, 0, none⟩) A.length A.length, .slice (some ⟨g2, 0, none⟩) U.length U.length]) ∧
    (M1.length = A.length ∧ M2.length = U.length ∧ heldI M1 = heldI A ∧ heldI M2 = heldI U) ∧ (ZI w' g1 A.length M1 ∧ NewIAll w' g1 M1 ∧ ZI w' g2 U.length M2 ∧ NewIAll w' g2 M2) ∧ (w.heap.size ≤ g1 ∧ w.heap.size ≤ g2) ∧ Below w.heap.size w w'
set_option maxHeartbeats 1600000 in
theorem toGrid_new (AA : Option Addr) (A : List SlI) (cA : Nat) (AU : Option Addr) (U : List SlI) (cU : Nat) (w : World)
    (hp : GrAt w w.heap.size AA A AU U) (hs : GrSz A U) :
    Calls Try.prog 36 #[.agg #[.slice AA A.length cA, .slice AU U.length cU]] w (NewGr A U w) := by
  obtain ⟨⟨lA, mA⟩, lU, mU⟩ := hs
  have CA := Lib.hid (fun (wx : World) (hx : Below w.heap.size w wx) => toInt64SS_own AA A cA wx (hp.1.to hx) lA mA)
  have CU := Lib.hid (fun (wx : World) (hx : Below w.heap.size w wx) => toInt64SS_own AU U cU wx (hp.2.to hx) lU mU)
  clear mA mU hp
  have hb0 : Below w.heap.size w (((w.alloc (.cells #[.slice AA A.length cA, .slice AU U.length cU] 50)).alloc (.cells #[.slice none 0 0, .slice none 0 0] 53)).alloc (.cells #[.slice none 0 0, .slice none 0 0] 53)) := by (repeat (first | assumption | exact Below.refl _ _ | (refine bl_alloc ?_ _) | (refine Below.drew ?_) | (refine bl_drewN ?_ _) | (refine bl_set ?_ (by first | (simp; done) | omega | (simp; omega)) _) | (refine bl_trans ?_ (by assumption)) | (refine bl_step ?_ (by assumption) (by first | omega | exact Below.size (by assumption) | (simp; omega) | (simp; exact Below.size (by assumption))))))
  have ka : Blk (((w.alloc (.cells #[.slice AA A.length cA, .slice AU U.length cU] 50)).alloc (.cells #[.slice none 0 0, .slice none 0 0] 53)).alloc (.cells #[.slice none 0 0, .slice none 0 0] 53)) w.heap.size #[.slice AA A.length cA, .slice AU U.length cU] 50 := ((Blk.new _ _ _).alloc _).alloc _
  have kr : Blk (((w.alloc (.cells #[.slice AA A.length cA, .slice AU U.length cU] 50)).alloc (.cells #[.slice none 0 0, .slice none 0 0] 53)).alloc (.cells #[.slice none 0 0, .slice none 0 0] 53)) (w.heap.size + 1) #[.slice none 0 0, .slice none 0 0] 53 := by
    have := (Blk.new (w.alloc (.cells #[.slice AA A.length cA, .slice AU U.length cU] 50)) #[.slice none 0 0, .slice none 0 0] 53).alloc (.cells #[.slice none 0 0, .slice none 0 0] 53)
    rwa [World.size_alloc] at this
  have ko : Blk (((w.alloc (.cells #[.slice AA A.length cA, .slice AU U.length cU] 50)).alloc (.cells #[.slice none 0 0, .slice none 0 0] 53)).alloc (.cells #[.slice none 0 0, .slice none 0 0] 53)) (w.heap.size + 1 + 1) #[.slice none 0 0, .slice none 0 0] 53 := by
    have := Blk.new ((w.alloc (.cells #[.slice AA A.length cA, .slice AU U.length cU] 50)).alloc (.cells #[.slice none 0 0, .slice none 0 0] 53)) #[.slice none 0 0, .slice none 0 0] 53
    rwa [World.size_alloc, World.size_alloc] at this
  go_enter Try.func36, Try.ntmps36
  go_wp2_with fail
  generalize (((w.alloc (.cells #[.slice AA A.length cA, .slice AU U.length cU] 50)).alloc (.cells #[.slice none 0 0, .slice none 0 0] 53)).alloc (.cells #[.slice none 0 0, .slice none 0 0] 53)) = w0 at *
  refine (CA.out _ hb0).mono ?_
  rintro e w1 ⟨g1, M1, rfl, hM1, hH1, hZ1, hN1, hg1, hb1⟩
  have hg1' : w.heap.size + 1 + 1 < g1 := by have := ko.lt; omega
  replace ka := ka.to hb1
  replace kr := kr.to hb1
  replace ko := ko.to hb1
  replace hb1 := bl_trans hb0 hb1
  have s0 := ka.cell 0 (v := .slice AA A.length cA) rfl
  have s1 := ka.cell 1 (v := .slice AU U.length cU) rfl
  have o1 := ko.cell 0 rfl
  have f1 := ko.frozen 0
  have ko1 := ko.set 0 (.slice (some ⟨g1, 0, none⟩) A.length A.length)
  have ka1 := ka.far (p := ⟨w.heap.size + 1 + 1, 0, none⟩) (by simp; omega) (.slice (some ⟨g1, 0, none⟩) A.length A.length)
  have kr1 := kr.far (p := ⟨w.heap.size + 1 + 1, 0, none⟩) (by simp) (.slice (some ⟨g1, 0, none⟩) A.length A.length)
  have hZ1' := hZ1.keepZ (Below.heap_setCell _ ⟨w.heap.size + 1 + 1, 0, none⟩ (.slice (some ⟨g1, 0, none⟩) A.length A.length) g1 (by simp; omega))
  have hN1' := hN1.farZ (p := ⟨w.heap.size + 1 + 1, 0, none⟩) (by simp; omega) (.slice (some ⟨g1, 0, none⟩) A.length A.length)
  have hb1' : Below w.heap.size w (w1.setCell ⟨w.heap.size + 1 + 1, 0, none⟩ (.slice (some ⟨g1, 0, none⟩) A.length A.length)) := hb1.setCell (p := ⟨w.heap.size + 1 + 1, 0, none⟩) (by simp; omega) _
  have HM1 := Lib.hid hM1
  have HH1 := Lib.hid hH1
  clear hM1 hH1 hb0 ka kr ko hZ1 hN1
  go_wp2_with fail
  clear s0 s1 o1 f1 hb1
  generalize w1.setCell ⟨w.heap.size + 1 + 1, 0, none⟩ (.slice (some ⟨g1, 0, none⟩) A.length A.length) = v1 at *
  refine (CU.out _ hb1').mono ?_
  rintro e w3 ⟨g2, M2, rfl, hM2, hH2, hZ2, hN2, hg2, hb2⟩
  have hg2' : w.heap.size + 1 + 1 < g2 := by have := ko1.lt; omega
  replace kr1 := kr1.to hb2
  replace ko1 := ko1.to hb2
  replace hZ1' := hZ1'.to hb2
  replace hN1' := hN1'.to hb2
  replace hb2 := bl_trans hb1' hb2
  have o1 := ko1.cell 1 rfl
  have f1 := ko1.frozen 1
  have t0 := kr1.cell 0 rfl
  have t1 := kr1.cell 1 rfl
  have q0 := kr1.frozen 0
  have q1 := kr1.frozen 1
  have c0 := ko1.cell 0 (v := .slice (some ⟨g1, 0, none⟩) A.length A.length) rfl
  have HM2 := Lib.hid hM2
  have HH2 := Lib.hid hH2
  have ke := ((kr1.far (p := ⟨w.heap.size + 1 + 1, 1, none⟩) (by simp) (.slice (some ⟨g2, 0, none⟩) U.length U.length)).set 0 (.slice (some ⟨g1, 0, none⟩) A.length A.length)).set 1 (.slice (some ⟨g2, 0, none⟩) U.length U.length)
  have hh : ∀ g, w.heap.size + 1 + 1 < g → (((w3.setCell ⟨w.heap.size + 1 + 1, 1, none⟩ (.slice (some ⟨g2, 0, none⟩) U.length U.length)).setCell ⟨w.heap.size + 1, 0, none⟩ (.slice (some ⟨g1, 0, none⟩) A.length A.length)).setCell ⟨w.heap.size + 1, 1, none⟩ (.slice (some ⟨g2, 0, none⟩) U.length U.length)).heap[g]? = w3.heap[g]? := by
    intro g hg
    rw [Below.heap_setCell _ _ _ g (by simp; omega), Below.heap_setCell _ _ _ g (by simp; omega), Below.heap_setCell _ _ _ g (by simp; omega)]
  have hbE : Below w.heap.size w (((w3.setCell ⟨w.heap.size + 1 + 1, 1, none⟩ (.slice (some ⟨g2, 0, none⟩) U.length U.length)).setCell ⟨w.heap.size + 1, 0, none⟩ (.slice (some ⟨g1, 0, none⟩) A.length A.length)).setCell ⟨w.heap.size + 1, 1, none⟩ (.slice (some ⟨g2, 0, none⟩) U.length U.length)) :=
    ((hb2.setCell (p := ⟨w.heap.size + 1 + 1, 1, none⟩) (by simp; omega) _).setCell (p := ⟨w.heap.size + 1, 0, none⟩) (by simp) _).setCell (p := ⟨w.heap.size + 1, 1, none⟩) (by simp) _
  clear hM2 hH2
  go_wp2
  generalize (((w3.setCell ⟨w.heap.size + 1 + 1, 1, none⟩ (.slice (some ⟨g2, 0, none⟩) U.length U.length)).setCell ⟨w.heap.size + 1, 0, none⟩ (.slice (some ⟨g1, 0, none⟩) A.length A.length)).setCell ⟨w.heap.size + 1, 1, none⟩ (.slice (some ⟨g2, 0, none⟩) U.length U.length)) = wE at *
  have e0 := ke.cell 0 (v := .slice (some ⟨g1, 0, none⟩) A.length A.length) (by simp)
  have e1 := ke.cell 1 (v := .slice (some ⟨g2, 0, none⟩) U.length U.length) (by simp)
  refine bodyPost_ret_by (v := .agg #[.slice (some ⟨g1, 0, none⟩) A.length A.length, .slice (some ⟨g2, 0, none⟩) U.length U.length]) ?_ rfl
    ⟨g1, M1, g2, M2, rfl, ⟨HM1.out, HM2.out, HH1.out, HH2.out⟩, ⟨hZ1'.keepZ (hh g1 hg1'), hN1'.keepH (fun g hg => hh g (by omega)), hZ2.keepZ (hh g2 hg2'), hN2.keepH (fun g hg => hh g (by omega))⟩, ⟨by omega, by omega⟩, hbE⟩
  simp [results, Try.results36, go_sem, e0, e1]
/-- What a law keeps of a copy. -/
def HeldG (A U : List SlI) (g1 : Nat) (M1 : List SlI) (g2 : Nat) (M2 : List SlI) (w : World) : Prop :=
  (M1.length = A.length ∧ M2.length = U.length ∧ heldI M1 = heldI A ∧ heldI M2 = heldI U) ∧ GrAt w w.heap.size (some ⟨g1, 0, none⟩) M1 (some ⟨g2, 0, none⟩) M2
theorem HeldG.to {A U : List SlI} {g1 : Nat} {M1 : List SlI} {g2 : Nat} {M2 : List SlI} {w w1 : World} (h : HeldG A U g1 M1 g2 M2 w) (hb : Below w.heap.size w w1) : HeldG A U g1 M1 g2 M2 w1 := ⟨h.1, h.2.to hb⟩
theorem rowsG_eq {C M : List SlI} (h : heldI M = heldI C) : ∀ i, (M.getD i si0).2.1.length = (C.getD i si0).2.1.length := fun i => by
  rw [← heldI_at, ← heldI_at, h]
theorem HeldG.sz {A U : List SlI} {g1 : Nat} {M1 : List SlI} {g2 : Nat} {M2 : List SlI} {w : World} (h : HeldG A U g1 M1 g2 M2 w) (hs : GrSz A U) : GrSz M1 M2 := by
  obtain ⟨⟨e1, e2, e3, e4⟩, _⟩ := h
  obtain ⟨⟨a1, a2⟩, b1, b2⟩ := hs
  exact ⟨⟨by omega, fun i hi => by rw [rowsG_eq e3]; exact a2 i (by omega)⟩, by omega, fun i hi => by rw [rowsG_eq e4]; exact b2 i (by omega)⟩
/-- A law's copy of a grid: only what it holds. -/
def CopyG (A U : List SlI) (w : World) (e : Ending) (w' : World) : Prop :=
  ∃ g1 M1 g2 M2, e = .returned (.agg #[.slice (some ⟨g1, 0, none⟩) A.length A.length, .slice (some ⟨g2, 0, none⟩) U.length U.length]) ∧ HeldG A U g1 M1 g2 M2 w' ∧ Below w.heap.size w w'
theorem toGrid_copy (AA : Option Addr) (A : List SlI) (cA : Nat) (AU : Option Addr) (U : List SlI) (cU : Nat) (w : World)
    (hp : GrAt w w.heap.size AA A AU U) (hs : GrSz A U) :
    Calls Try.prog 36 #[.agg #[.slice AA A.length cA, .slice AU U.length cU]] w (CopyG A U w) :=
  (toGrid_new AA A cA AU U cU w hp hs).mono fun _ _ ⟨g1, M1, g2, M2, he, h1, ⟨z1, n1, z2, n2⟩, _, hb⟩ => ⟨g1, M1, g2, M2, he, ⟨h1, z1.isat n1, z2.isat n2⟩, hb⟩
set_option maxHeartbeats 1600000 in
theorem eqGrid_same (A U : List SlI) (g1 : Nat) (M1 : List SlI) (g2 : Nat) (M2 : List SlI) (k1 : Nat) (N1 : List SlI) (k2 : Nat) (N2 : List SlI) (w : World)
    (hp : HeldG A U g1 M1 g2 M2 w) (hq : HeldG A U k1 N1 k2 N2 w) (hs : GrSz A U) :
    Calls Try.prog 38 #[.agg #[.slice (some ⟨g1, 0, none⟩) A.length A.length, .slice (some ⟨g2, 0, none⟩) U.length U.length], .agg #[.slice (some ⟨k1, 0, none⟩) A.length A.length, .slice (some ⟨k2, 0, none⟩) U.length U.length]] w fun e w' => e = .returned (.bool true) ∧ Below w.heap.size w w' := by
  have hz := hp.sz hs
  obtain ⟨⟨a1, a2, a3, a4⟩, pa, pb⟩ := hp
  obtain ⟨⟨b1, b2, b3, b4⟩, qa, qb⟩ := hq
  obtain ⟨⟨s1, s2⟩, s3, s4⟩ := hs
  obtain ⟨⟨_, z2⟩, _, z4⟩ := hz
  have C1 := Lib.hid (fun (wx : World) (hx : Below w.heap.size w wx) => eqInt64SS_same (some ⟨g1, 0, none⟩) (some ⟨k1, 0, none⟩) M1 N1 A.length A.length A.length wx (pa.to hx) (qa.to hx) a1 b1 (a3.trans b3.symm) s1 (fun i hi => z2 i (by omega)))
  have C2 := Lib.hid (fun (wx : World) (hx : Below w.heap.size w wx) => eqInt64SS_same (some ⟨g2, 0, none⟩) (some ⟨k2, 0, none⟩) M2 N2 U.length U.length U.length wx (pb.to hx) (qb.to hx) a2 b2 (a4.trans b4.symm) s3 (fun i hi => z4 i (by omega)))
  clear pa pb qa qb z2 z4 s2 s4 a1 a2 a3 a4 b1 b2 b3 b4
  have hb0 : Below w.heap.size w ((w.alloc (.cells #[.slice (some ⟨g1, 0, none⟩) A.length A.length, .slice (some ⟨g2, 0, none⟩) U.length U.length] 53)).alloc (.cells #[.slice (some ⟨k1, 0, none⟩) A.length A.length, .slice (some ⟨k2, 0, none⟩) U.length U.length] 53)) := by (repeat (first | assumption | exact Below.refl _ _ | (refine bl_alloc ?_ _) | (refine Below.drew ?_) | (refine bl_drewN ?_ _) | (refine bl_set ?_ (by first | (simp; done) | omega | (simp; omega)) _) | (refine bl_trans ?_ (by assumption)) | (refine bl_step ?_ (by assumption) (by first | omega | exact Below.size (by assumption) | (simp; omega) | (simp; exact Below.size (by assumption))))))
  have ka : Blk ((w.alloc (.cells #[.slice (some ⟨g1, 0, none⟩) A.length A.length, .slice (some ⟨g2, 0, none⟩) U.length U.length] 53)).alloc (.cells #[.slice (some ⟨k1, 0, none⟩) A.length A.length, .slice (some ⟨k2, 0, none⟩) U.length U.length] 53)) w.heap.size #[.slice (some ⟨g1, 0, none⟩) A.length A.length, .slice (some ⟨g2, 0, none⟩) U.length U.length] 53 := (Blk.new _ _ _).alloc _
  have kb : Blk ((w.alloc (.cells #[.slice (some ⟨g1, 0, none⟩) A.length A.length, .slice (some ⟨g2, 0, none⟩) U.length U.length] 53)).alloc (.cells #[.slice (some ⟨k1, 0, none⟩) A.length A.length, .slice (some ⟨k2, 0, none⟩) U.length U.length] 53)) (w.heap.size + 1) #[.slice (some ⟨k1, 0, none⟩) A.length A.length, .slice (some ⟨k2, 0, none⟩) U.length U.length] 53 := by
    have := Blk.new (w.alloc (.cells #[.slice (some ⟨g1, 0, none⟩) A.length A.length, .slice (some ⟨g2, 0, none⟩) U.length U.length] 53)) #[.slice (some ⟨k1, 0, none⟩) A.length A.length, .slice (some ⟨k2, 0, none⟩) U.length U.length] 53
    rwa [World.size_alloc] at this
  generalize hw0 : ((w.alloc (.cells #[.slice (some ⟨g1, 0, none⟩) A.length A.length, .slice (some ⟨g2, 0, none⟩) U.length U.length] 53)).alloc (.cells #[.slice (some ⟨k1, 0, none⟩) A.length A.length, .slice (some ⟨k2, 0, none⟩) U.length U.length] 53)) = w0 at *
  have p0 := ka.cell 0 (v := .slice (some ⟨g1, 0, none⟩) A.length A.length) rfl
  have q0 := kb.cell 0 (v := .slice (some ⟨k1, 0, none⟩) A.length A.length) rfl
  go_enter Try.func38, Try.ntmps38
  go_wp2_with fail
  refine (C1.out _ hb0).mono ?_
  rintro e w1 ⟨rfl, hb1⟩
  replace ka := ka.to hb1
  replace kb := kb.to hb1
  replace hb1 := bl_trans hb0 hb1
  clear p0 q0 hb0 C1
  have p2 := ka.cell 1 (v := .slice (some ⟨g2, 0, none⟩) U.length U.length) rfl
  have q2 := kb.cell 1 (v := .slice (some ⟨k2, 0, none⟩) U.length U.length) rfl
  go_wp2_with fail
  refine (C2.out _ hb1).mono ?_
  rintro e w2 ⟨rfl, hb2⟩
  go_wp2
  go_ret
  exact ⟨rfl, bl_trans hb1 hb2⟩
end Go.Proofs.Ytijnjcamfbnmgaa
