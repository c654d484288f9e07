/-
  Wirings in a law: the argument opened, its size, copy and comparison.
-/
import Derived.Test.YtdoheipnfdbioaaDoorOpenIS
import Derived.Test.YtdoheipnfdbioaaDoorWirIs
import Derived.Test.YtdoheipnfdbioaaDoorWirV
import Derived.Test.YtdoheipnfdbioaaDoorPan
import Derived.Laws.ResultCell
namespace Go.Proofs.YtdoheipnfdbioaaDoor
set_option linter.unusedSimpArgs false
set_option linter.unusedVariables false
open Go.ChangeShapes Go.WideShapes Go.ChangeAt Go.RowKit

variable {H : Type} {enc : TypeId × Value → H}

/-- A wiring as an argument brings it. -/
def WirIn (w : World) (AC : Option Addr) (C : List SlI) (cC : Nat) (AJ : Option Addr) (J : List SlI) (cJ : Nat) (AF : Option Addr) (F : List Int) (cF : Nat) (n : Int) : Prop :=
  Fits n ∧ RowsIn w AC C cC ∧ RowsIn w AJ J cJ ∧ IntsAt w w.heap.size AF F ∧ (∀ n ∈ F, Fits n) ∧ F.length ≤ cF ∧ cF ≤ maxLen
set_option maxRecDepth 100000 in
theorem open_wiring {w : World} {v : Value} {d : DataW H} {p : List MemPlace} {r : Reach} {b0 : Nat} (hv : Value.okWide Tryd.prog w r b0 25 v) (h : DataW.Trod enc Tryd.prog w 0 (fun _ => true) true 25 v d p) :
    ∃ (n : Int) (AC : Option Addr) (C : List SlI) (cC : Nat) (AJ : Option Addr) (J : List SlI) (cJ : Nat) (AF : Option Addr) (F : List Int) (cF : Nat), v = .agg #[.int .i64 n, .slice AC C.length cC, .slice AJ J.length cJ, .slice AF F.length cF] ∧ WirIn w AC C cC AJ J cJ AF F cF n := by
  obtain ⟨c0, c1, c2, c3, y0, y1, y2, y3, m, rfl, _, _, hy0, hy1, hy2, hy3⟩ := Go.Joins.open_agg4 Tryd.underlying25 (by kernel_rfl) (by kernel_rfl) hv h
  obtain ⟨n, e0, _, wn⟩ := DataW.trod_int Tryd.underlying2 hy0
  simp at e0
  subst e0
  obtain ⟨AC, C, cC, rfl, h1⟩ := open_intss_trod hy1
  obtain ⟨AJ, J, cJ, rfl, h2⟩ := open_intss_trod hy2
  obtain ⟨AF, F, cF, rfl, h3⟩ := open_nums_trod hy3
  exact ⟨n, AC, C, cC, AJ, J, cJ, AF, F, cF, rfl, fits_of wn, h1, h2, h3⟩

/-- What lies in memory of a wiring, below B. -/
def WirAt (w : World) (B : Nat) (AC : Option Addr) (C : List SlI) (AJ : Option Addr) (J : List SlI) (AF : Option Addr) (F : List Int) : Prop := ISAt w B AC C ∧ ISAt w B AJ J ∧ IntsAt w B AF F
theorem WirAt.to {w w1 : World} {AC : Option Addr} {C : List SlI} {AJ : Option Addr} {J : List SlI} {AF : Option Addr} {F : List Int} (h : WirAt w w.heap.size AC C AJ J AF F) (hb : Below w.heap.size w w1) : WirAt w1 w1.heap.size AC C AJ J AF F := ⟨h.1.to hb, h.2.1.to hb, h.2.2.to hb⟩
/-- The sizes that a law's copies want. -/
def WirSz (C J : List SlI) (F : List Int) : Prop := (C.length ≤ 1048576 ∧ ∀ i, i < C.length → (C.getD i si0).2.1.length ≤ 1048576) ∧ (J.length ≤ 1048576 ∧ ∀ i, i < J.length → (J.getD i si0).2.1.length ≤ 1048576) ∧ F.length ≤ 1048576
def SzWPost (C J : List SlI) (F : List Int) (w : World) (e : Ending) (w' : World) : Prop := (∃ r : Int, e = .returned (.int .i64 r) ∧ -1 ≤ r ∧ r ≤ 1048576 ∧ (0 ≤ r → WirSz C J F)) ∧ Below w.heap.size w w'
set_option maxHeartbeats 800000 in
theorem szWiring_any (n : Int) (AC : Option Addr) (C : List SlI) (cC : Nat) (AJ : Option Addr) (J : List SlI) (cJ : Nat) (AF : Option Addr) (F : List Int) (cF : Nat) (w : World)
    (hp : WirAt w w.heap.size AC C AJ J AF F) (lC : C.length ≤ maxLen) (lJ : J.length ≤ maxLen) (lF : F.length ≤ maxLen) :
    Calls Tryd.prog 9 #[.agg #[.int .i64 n, .slice AC C.length cC, .slice AJ J.length cJ, .slice AF F.length cF], .int .i64 1048576] w (SzWPost C J F w) := by
  have hx : Below w.heap.size w (w.alloc (.cells #[.int .i64 n, .slice AC C.length cC, .slice AJ J.length cJ, .slice AF F.length cF] 25)) := by (repeat (first | assumption | exact Below.refl _ _ | (refine bl_alloc ?_ _) | (refine Below.drew ?_) | (refine bl_drewN ?_ _) | (refine bl_set ?_ (by first | (simp; done) | omega | (simp; omega)) _) | (refine bl_trans ?_ (by assumption)) | (refine bl_step ?_ (by assumption) (by first | omega | exact Below.size (by assumption) | (simp; omega) | (simp; exact Below.size (by assumption))))))
  have hp1 := hp.to hx
  obtain ⟨h1, h2, h3⟩ := hp1
  have H3 := Lib.hid lF
  clear hp lF
  go_enter Tryd.func9, Tryd.ntmps9
  go_wp2_with fail
  refine (szInt64SS_any _ _ _ _ _ h1 lC (by omega) (by omega)).mono ?_
  rintro e w1 ⟨r, rfl, rfl, hr0, hr1, hr2⟩
  have HR := Lib.hid hr2
  clear hr2
  by_cases hr : r < 0
  · go_wp2
    go_ret
    exact ⟨⟨-1, rfl, by omega, by omega, fun h => by omega⟩, hx⟩
  have hr0' : 0 ≤ r := by omega
  have hd : ¬ r < 0 := hr
  clear hr0
  go_wp2_with fail
  refine (szInt64SS_any _ _ _ _ _ h2 lJ (by omega) (by omega)).mono ?_
  rintro e w1 ⟨q, rfl, rfl, hq0, hq1, hq2⟩
  have HQ := Lib.hid hq2
  clear hq2
  by_cases hq : q < 0
  · go_wp2
    go_ret
    exact ⟨⟨-1, rfl, by omega, by omega, fun h => by omega⟩, hx⟩
  have hq0' : 0 ≤ q := by omega
  go_wp2_with fail
  refine (szInt64S_gen _ _ _ _ _ H3.out (by omega) (by omega)).mono ?_
  rintro e w1 ⟨rfl, rfl⟩
  by_cases hs : (F.length : Int) ≤ q
  · rw [if_pos hs]
    have hz2 : ¬ q - (F.length : Int) < 0 := by omega
    go_wp2
    go_ret
    exact ⟨⟨_, rfl, by omega, by omega, fun h => ⟨HR.out (by omega), HQ.out (by omega), by omega⟩⟩, hx⟩
  · rw [if_neg hs]
    go_wp2
    go_ret
    exact ⟨⟨-1, rfl, by omega, by omega, fun h => by omega⟩, hx⟩

/-- A new wiring that holds the same, each of its slices in blocks of its own. -/
def NewWir (n : Int) (C J : List SlI) (F : List Int) (w : World) (e : Ending) (w' : World) : Prop :=
  ∃ g1 M1 g2 M2 g3, e = .returned (.agg #[.int .i64 n, .slice (some ⟨g1, 0, none⟩) C.length C.length, .slice (some ⟨g2, 0, none⟩) J.length J.length, .slice (some ⟨g3, 0, none⟩) F.length F.length]) ∧
    (M1.length = C.length ∧ M2.length = J.length ∧ heldI M1 = heldI C ∧ heldI M2 = heldI J) ∧ (ZI w' g1 C.length M1 ∧ NewIAll w' g1 M1 ∧ ZI w' g2 J.length M2 ∧ NewIAll w' g2 M2 ∧ NBlk w' g3 F F.length) ∧ (w.heap.size ≤ g1 ∧ w.heap.size ≤ g2 ∧ w.heap.size ≤ g3) ∧ Below w.heap.size w w'
theorem ZI.keepZ {w w1 : World} {g n : Nat} {Ms : List SlI} (h : ZI w g n Ms) (hk : w1.heap[g]? = w.heap[g]?) : ZI w1 g n Ms := by
  obtain ⟨cs, h0, h1⟩ := h
  exact ⟨cs, hk.trans h0, h1⟩
theorem NewIAll.farZ {w : World} {B : Nat} {Ms : List SlI} (h : NewIAll w B Ms) {p : Addr} (hp : p.block ≤ B) (v : Value) : NewIAll (w.setCell p v) B Ms := fun i hi => by
  obtain ⟨gi, h1, h2, h3, h4⟩ := h i hi
  exact ⟨gi, h1, h2, h3.keep (Below.heap_setCell _ p _ gi (by omega)), h4⟩
theorem NewIAll.keepH {w w1 : World} {B : Nat} {Ms : List SlI} (h : NewIAll w B Ms) (hk : ∀ g, B < g → w1.heap[g]? = w.heap[g]?) : NewIAll w1 B Ms := fun i hi => by
  obtain ⟨gi, h1, h2, h3, h4⟩ := h i hi
  exact ⟨gi, h1, h2, h3.keep (hk gi h2), h4⟩
set_option maxHeartbeats 1600000 in
theorem toWiring_new (n : Int) (AC : Option Addr) (C : List SlI) (cC : Nat) (AJ : Option Addr) (J : List SlI) (cJ : Nat) (AF : Option Addr) (F : List Int) (cF : Nat) (w : World)
    (hp : WirAt w w.heap.size AC C AJ J AF F) (hs : WirSz C J F) :
    Calls Tryd.prog 11 #[.agg #[.int .i64 n, .slice AC C.length cC, .slice AJ J.length cJ, .slice AF F.length cF]] w (NewWir n C J F w) := by
  obtain ⟨⟨lC, mC⟩, ⟨lJ, mJ⟩, lF⟩ := hs
  have CC := Lib.hid (fun (wx : World) (hx : Below w.heap.size w wx) => toInt64SS_own AC C cC wx (hp.1.to hx) lC mC)
  have CJ := Lib.hid (fun (wx : World) (hx : Below w.heap.size w wx) => toInt64SS_own AJ J cJ wx (hp.2.1.to hx) lJ mJ)
  have CF := Lib.hid (fun (wx : World) (hx : Below w.heap.size w wx) => toInt64S_new AF F cF wx (hp.2.2.to hx) lF)
  clear mC mJ hp
  have hb0 : Below w.heap.size w (((w.alloc (.cells #[.int .i64 n, .slice AC C.length cC, .slice AJ J.length cJ, .slice AF F.length cF] 25)).alloc (.cells #[.int .i64 0, .slice none 0 0, .slice none 0 0, .slice none 0 0] 28)).alloc (.cells #[.int .i64 n, .slice none 0 0, .slice none 0 0, .slice none 0 0] 28)) := by (repeat (first | assumption | exact Below.refl _ _ | (refine bl_alloc ?_ _) | (refine Below.drew ?_) | (refine bl_drewN ?_ _) | (refine bl_set ?_ (by first | (simp; done) | omega | (simp; omega)) _) | (refine bl_trans ?_ (by assumption)) | (refine bl_step ?_ (by assumption) (by first | omega | exact Below.size (by assumption) | (simp; omega) | (simp; exact Below.size (by assumption))))))
  have ka : Blk (((w.alloc (.cells #[.int .i64 n, .slice AC C.length cC, .slice AJ J.length cJ, .slice AF F.length cF] 25)).alloc (.cells #[.int .i64 0, .slice none 0 0, .slice none 0 0, .slice none 0 0] 28)).alloc (.cells #[.int .i64 n, .slice none 0 0, .slice none 0 0, .slice none 0 0] 28)) w.heap.size #[.int .i64 n, .slice AC C.length cC, .slice AJ J.length cJ, .slice AF F.length cF] 25 := ((Blk.new _ _ _).alloc _).alloc _
  have kr : Blk (((w.alloc (.cells #[.int .i64 n, .slice AC C.length cC, .slice AJ J.length cJ, .slice AF F.length cF] 25)).alloc (.cells #[.int .i64 0, .slice none 0 0, .slice none 0 0, .slice none 0 0] 28)).alloc (.cells #[.int .i64 n, .slice none 0 0, .slice none 0 0, .slice none 0 0] 28)) (w.heap.size + 1) #[.int .i64 0, .slice none 0 0, .slice none 0 0, .slice none 0 0] 28 := by
    have := (Blk.new (w.alloc (.cells #[.int .i64 n, .slice AC C.length cC, .slice AJ J.length cJ, .slice AF F.length cF] 25)) #[.int .i64 0, .slice none 0 0, .slice none 0 0, .slice none 0 0] 28).alloc (.cells #[.int .i64 n, .slice none 0 0, .slice none 0 0, .slice none 0 0] 28)
    rwa [World.size_alloc] at this
  have ko : Blk (((w.alloc (.cells #[.int .i64 n, .slice AC C.length cC, .slice AJ J.length cJ, .slice AF F.length cF] 25)).alloc (.cells #[.int .i64 0, .slice none 0 0, .slice none 0 0, .slice none 0 0] 28)).alloc (.cells #[.int .i64 n, .slice none 0 0, .slice none 0 0, .slice none 0 0] 28)) (w.heap.size + 1 + 1) #[.int .i64 n, .slice none 0 0, .slice none 0 0, .slice none 0 0] 28 := by
    have := Blk.new ((w.alloc (.cells #[.int .i64 n, .slice AC C.length cC, .slice AJ J.length cJ, .slice AF F.length cF] 25)).alloc (.cells #[.int .i64 0, .slice none 0 0, .slice none 0 0, .slice none 0 0] 28)) #[.int .i64 n, .slice none 0 0, .slice none 0 0, .slice none 0 0] 28
    rwa [World.size_alloc, World.size_alloc] at this
  go_enter Tryd.func11, Tryd.ntmps11
  go_wp2_with fail
  generalize (((w.alloc (.cells #[.int .i64 n, .slice AC C.length cC, .slice AJ J.length cJ, .slice AF F.length cF] 25)).alloc (.cells #[.int .i64 0, .slice none 0 0, .slice none 0 0, .slice none 0 0] 28)).alloc (.cells #[.int .i64 n, .slice none 0 0, .slice none 0 0, .slice none 0 0] 28)) = w0 at *
  refine (CC.out _ hb0).mono ?_
  rintro e w1 ⟨g1, M1, rfl, hM1, hH1, hZ1, hN1, hg1, hb1⟩
  have hg1' : w.heap.size + 1 + 1 < g1 := by have := ko.lt; omega
  replace ka := ka.to hb1
  replace kr := kr.to hb1
  replace ko := ko.to hb1
  replace hb1 := bl_trans hb0 hb1
  have s0 := ka.cell 0 (v := .int .i64 n) rfl
  have s1 := ka.cell 1 (v := .slice AC C.length cC) rfl
  have s2 := ka.cell 2 (v := .slice AJ J.length cJ) rfl
  have s3 := ka.cell 3 (v := .slice AF F.length cF) rfl
  have o1 := ko.cell 1 rfl
  have f1 := ko.frozen 1
  have ko1 := ko.set 1 (.slice (some ⟨g1, 0, none⟩) C.length C.length)
  have ka1 := ka.far (p := ⟨w.heap.size + 1 + 1, 1, none⟩) (by simp; omega) (.slice (some ⟨g1, 0, none⟩) C.length C.length)
  have kr1 := kr.far (p := ⟨w.heap.size + 1 + 1, 1, none⟩) (by simp) (.slice (some ⟨g1, 0, none⟩) C.length C.length)
  have hZ1' := hZ1.keepZ (Below.heap_setCell _ ⟨w.heap.size + 1 + 1, 1, none⟩ (.slice (some ⟨g1, 0, none⟩) C.length C.length) g1 (by simp; omega))
  have hN1' := hN1.farZ (p := ⟨w.heap.size + 1 + 1, 1, none⟩) (by simp; omega) (.slice (some ⟨g1, 0, none⟩) C.length C.length)
  have hb1' : Below w.heap.size w (w1.setCell ⟨w.heap.size + 1 + 1, 1, none⟩ (.slice (some ⟨g1, 0, none⟩) C.length C.length)) := hb1.setCell (p := ⟨w.heap.size + 1 + 1, 1, none⟩) (by simp; omega) _
  have HM1 := Lib.hid hM1
  have HH1 := Lib.hid hH1
  clear hM1 hH1 hb0 ka kr ko hZ1 hN1
  go_wp2_with fail
  clear s0 s1 s2 s3 o1 f1 hb1
  generalize w1.setCell ⟨w.heap.size + 1 + 1, 1, none⟩ (.slice (some ⟨g1, 0, none⟩) C.length C.length) = v1 at *
  refine (CJ.out _ hb1').mono ?_
  rintro e w2 ⟨g2, M2, rfl, hM2, hH2, hZ2, hN2, hg2, hb2⟩
  have hg2' : w.heap.size + 1 + 1 < g2 := by have := ko1.lt; omega
  replace ka1 := ka1.to hb2
  replace kr1 := kr1.to hb2
  replace ko1 := ko1.to hb2
  replace hZ1' := hZ1'.to hb2
  replace hN1' := hN1'.to hb2
  replace hb2 := bl_trans hb1' hb2
  have s0 := ka1.cell 0 (v := .int .i64 n) rfl
  have s3 := ka1.cell 3 (v := .slice AF F.length cF) rfl
  have o1 := ko1.cell 2 rfl
  have f1 := ko1.frozen 2
  have ko2 := ko1.set 2 (.slice (some ⟨g2, 0, none⟩) J.length J.length)
  have ka2 := ka1.far (p := ⟨w.heap.size + 1 + 1, 2, none⟩) (by simp; omega) (.slice (some ⟨g2, 0, none⟩) J.length J.length)
  have kr2 := kr1.far (p := ⟨w.heap.size + 1 + 1, 2, none⟩) (by simp) (.slice (some ⟨g2, 0, none⟩) J.length J.length)
  have hZ1'' := hZ1'.keepZ (Below.heap_setCell _ ⟨w.heap.size + 1 + 1, 2, none⟩ (.slice (some ⟨g2, 0, none⟩) J.length J.length) g1 (by simp; omega))
  have hN1'' := hN1'.farZ (p := ⟨w.heap.size + 1 + 1, 2, none⟩) (by simp; omega) (.slice (some ⟨g2, 0, none⟩) J.length J.length)
  have hZ2' := hZ2.keepZ (Below.heap_setCell _ ⟨w.heap.size + 1 + 1, 2, none⟩ (.slice (some ⟨g2, 0, none⟩) J.length J.length) g2 (by simp; omega))
  have hN2' := hN2.farZ (p := ⟨w.heap.size + 1 + 1, 2, none⟩) (by simp; omega) (.slice (some ⟨g2, 0, none⟩) J.length J.length)
  have hb2' : Below w.heap.size w (w2.setCell ⟨w.heap.size + 1 + 1, 2, none⟩ (.slice (some ⟨g2, 0, none⟩) J.length J.length)) := hb2.setCell (p := ⟨w.heap.size + 1 + 1, 2, none⟩) (by simp; omega) _
  have HM2 := Lib.hid hM2
  have HH2 := Lib.hid hH2
  clear hM2 hH2 hb1' ka1 kr1 ko1 hZ2 hN2 hZ1' hN1'
  go_wp2_with fail
  clear s0 s3 o1 f1 hb2
  generalize w2.setCell ⟨w.heap.size + 1 + 1, 2, none⟩ (.slice (some ⟨g2, 0, none⟩) J.length J.length) = v2 at *
  refine (CF.out _ hb2').mono ?_
  rintro e w3 ⟨g3, rfl, hB3, hb3, hg3⟩
  have hg3' : w.heap.size + 1 + 1 < g3 := by have := ko2.lt; omega
  replace ka2 := ka2.to hb3
  replace kr2 := kr2.to hb3
  replace ko2 := ko2.to hb3
  replace hZ1'' := hZ1''.to hb3
  replace hN1'' := hN1''.to hb3
  replace hZ2' := hZ2'.to hb3
  replace hN2' := hN2'.to hb3
  replace hb3 := bl_trans hb2' hb3
  have o1 := ko2.cell 3 rfl
  have f1 := ko2.frozen 3
  have t0 := kr2.cell 0 rfl
  have t1 := kr2.cell 1 rfl
  have t2 := kr2.cell 2 rfl
  have t3 := kr2.cell 3 rfl
  have q0 := kr2.frozen 0
  have q1 := kr2.frozen 1
  have q2 := kr2.frozen 2
  have q3 := kr2.frozen 3
  have c0 := ko2.cell 0 (v := .int .i64 n) rfl
  have c1 := ko2.cell 1 (v := .slice (some ⟨g1, 0, none⟩) C.length C.length) rfl
  have c2 := ko2.cell 2 (v := .slice (some ⟨g2, 0, none⟩) J.length J.length) rfl
  have ke := ((((kr2.far (p := ⟨w.heap.size + 1 + 1, 3, none⟩) (by simp) (.slice (some ⟨g3, 0, none⟩) F.length F.length)).set 0 (.int .i64 n)).set 1 (.slice (some ⟨g1, 0, none⟩) C.length C.length)).set 2 (.slice (some ⟨g2, 0, none⟩) J.length J.length)).set 3 (.slice (some ⟨g3, 0, none⟩) F.length F.length)
  have hh : ∀ g, w.heap.size + 1 + 1 < g → (((((w3.setCell ⟨w.heap.size + 1 + 1, 3, none⟩ (.slice (some ⟨g3, 0, none⟩) F.length F.length)).setCell ⟨w.heap.size + 1, 0, none⟩ (.int .i64 n)).setCell ⟨w.heap.size + 1, 1, none⟩ (.slice (some ⟨g1, 0, none⟩) C.length C.length)).setCell ⟨w.heap.size + 1, 2, none⟩ (.slice (some ⟨g2, 0, none⟩) J.length J.length)).setCell ⟨w.heap.size + 1, 3, none⟩ (.slice (some ⟨g3, 0, none⟩) F.length F.length)).heap[g]? = w3.heap[g]? := by
    intro g hg
    rw [Below.heap_setCell _ _ _ g (by simp; omega), Below.heap_setCell _ _ _ g (by simp; omega), Below.heap_setCell _ _ _ g (by simp; omega), Below.heap_setCell _ _ _ g (by simp; omega), Below.heap_setCell _ _ _ g (by simp; omega)]
  have hbE : Below w.heap.size w (((((w3.setCell ⟨w.heap.size + 1 + 1, 3, none⟩ (.slice (some ⟨g3, 0, none⟩) F.length F.length)).setCell ⟨w.heap.size + 1, 0, none⟩ (.int .i64 n)).setCell ⟨w.heap.size + 1, 1, none⟩ (.slice (some ⟨g1, 0, none⟩) C.length C.length)).setCell ⟨w.heap.size + 1, 2, none⟩ (.slice (some ⟨g2, 0, none⟩) J.length J.length)).setCell ⟨w.heap.size + 1, 3, none⟩ (.slice (some ⟨g3, 0, none⟩) F.length F.length)) :=
    ((((hb3.setCell (p := ⟨w.heap.size + 1 + 1, 3, none⟩) (by simp; omega) _).setCell (p := ⟨w.heap.size + 1, 0, none⟩) (by simp) _).setCell (p := ⟨w.heap.size + 1, 1, none⟩) (by simp) _).setCell (p := ⟨w.heap.size + 1, 2, none⟩) (by simp) _).setCell (p := ⟨w.heap.size + 1, 3, none⟩) (by simp) _
  go_wp2
  generalize (((((w3.setCell ⟨w.heap.size + 1 + 1, 3, none⟩ (.slice (some ⟨g3, 0, none⟩) F.length F.length)).setCell ⟨w.heap.size + 1, 0, none⟩ (.int .i64 n)).setCell ⟨w.heap.size + 1, 1, none⟩ (.slice (some ⟨g1, 0, none⟩) C.length C.length)).setCell ⟨w.heap.size + 1, 2, none⟩ (.slice (some ⟨g2, 0, none⟩) J.length J.length)).setCell ⟨w.heap.size + 1, 3, none⟩ (.slice (some ⟨g3, 0, none⟩) F.length F.length)) = wE at *
  have e0 := ke.cell 0 (v := .int .i64 n) (by simp)
  have e1 := ke.cell 1 (v := .slice (some ⟨g1, 0, none⟩) C.length C.length) (by simp)
  have e2 := ke.cell 2 (v := .slice (some ⟨g2, 0, none⟩) J.length J.length) (by simp)
  have e3 := ke.cell 3 (v := .slice (some ⟨g3, 0, none⟩) F.length F.length) (by simp)
  refine bodyPost_ret_by (v := .agg #[.int .i64 n, .slice (some ⟨g1, 0, none⟩) C.length C.length, .slice (some ⟨g2, 0, none⟩) J.length J.length, .slice (some ⟨g3, 0, none⟩) F.length F.length]) ?_ rfl
    ⟨g1, M1, g2, M2, g3, rfl, ⟨HM1.out, HM2.out, HH1.out, HH2.out⟩, ⟨hZ1''.keepZ (hh g1 hg1'), hN1''.keepH (fun g hg => hh g (by omega)), hZ2'.keepZ (hh g2 hg2'), hN2'.keepH (fun g hg => hh g (by omega)), hB3.keep (hh g3 hg3')⟩, ⟨by omega, by omega, by omega⟩, hbE⟩
  simp [results, Tryd.results11, go_sem, e0, e1, e2, e3]
/-- What a law keeps of a copy. -/
def HeldW (C J : List SlI) (F : List Int) (g1 : Nat) (M1 : List SlI) (g2 : Nat) (M2 : List SlI) (g3 : Nat) (w : World) : Prop :=
  (M1.length = C.length ∧ M2.length = J.length ∧ heldI M1 = heldI C ∧ heldI M2 = heldI J) ∧ WirAt w w.heap.size (some ⟨g1, 0, none⟩) M1 (some ⟨g2, 0, none⟩) M2 (some ⟨g3, 0, none⟩) F
theorem HeldW.to {C J : List SlI} {F : List Int} {g1 : Nat} {M1 : List SlI} {g2 : Nat} {M2 : List SlI} {g3 : Nat} {w w1 : World} (h : HeldW C J F g1 M1 g2 M2 g3 w) (hb : Below w.heap.size w w1) : HeldW C J F g1 M1 g2 M2 g3 w1 := ⟨h.1, h.2.to hb⟩
theorem rows_eq {C M : List SlI} (h : heldI M = heldI C) : ∀ i, (M.getD i si0).2.1.length = (C.getD i si0).2.1.length := fun i => by
  rw [← heldI_at, ← heldI_at, h]
theorem HeldW.sz {C J : List SlI} {F : List Int} {g1 : Nat} {M1 : List SlI} {g2 : Nat} {M2 : List SlI} {g3 : Nat} {w : World} (h : HeldW C J F g1 M1 g2 M2 g3 w) (hs : WirSz C J F) : WirSz M1 M2 F := by
  obtain ⟨⟨e1, e2, e3, e4⟩, _⟩ := h
  obtain ⟨⟨a1, a2⟩, ⟨b1, b2⟩, c⟩ := hs
  exact ⟨⟨by omega, fun i hi => by rw [rows_eq e3]; exact a2 i (by omega)⟩, ⟨by omega, fun i hi => by rw [rows_eq e4]; exact b2 i (by omega)⟩, c⟩
/-- A law's copy of a wiring: only what it holds. -/
def CopyW (n : Int) (C J : List SlI) (F : List Int) (w : World) (e : Ending) (w' : World) : Prop :=
  ∃ g1 M1 g2 M2 g3, e = .returned (.agg #[.int .i64 n, .slice (some ⟨g1, 0, none⟩) M1.length M1.length, .slice (some ⟨g2, 0, none⟩) M2.length M2.length, .slice (some ⟨g3, 0, none⟩) F.length F.length]) ∧ HeldW C J F g1 M1 g2 M2 g3 w' ∧ Below w.heap.size w w'
theorem toWiring_copy (n : Int) (AC : Option Addr) (C : List SlI) (cC : Nat) (AJ : Option Addr) (J : List SlI) (cJ : Nat) (AF : Option Addr) (F : List Int) (cF : Nat) (w : World)
    (hp : WirAt w w.heap.size AC C AJ J AF F) (hs : WirSz C J F) :
    Calls Tryd.prog 11 #[.agg #[.int .i64 n, .slice AC C.length cC, .slice AJ J.length cJ, .slice AF F.length cF]] w (CopyW n C J F w) :=
  (toWiring_new n AC C cC AJ J cJ AF F cF w hp hs).mono fun _ _ ⟨g1, M1, g2, M2, g3, he, h1, ⟨z1, n1, z2, n2, b3⟩, _, hb⟩ => ⟨g1, M1, g2, M2, g3, by rw [he, h1.1, h1.2.1], ⟨h1, z1.isat n1, z2.isat n2, b3.nums⟩, hb⟩
set_option maxHeartbeats 1600000 in
theorem eqWiring_len (n : Int) (C J : List SlI) (F : List Int) (g1 : Nat) (M1 : List SlI) (g2 : Nat) (M2 : List SlI) (g3 : Nat) (k1 : Nat) (N1 : List SlI) (k2 : Nat) (N2 : List SlI) (k3 : Nat) (w : World)
    (hp : HeldW C J F g1 M1 g2 M2 g3 w) (hq : HeldW C J F k1 N1 k2 N2 k3 w) (hs : WirSz C J F) :
    Calls Tryd.prog 14 #[.agg #[.int .i64 n, .slice (some ⟨g1, 0, none⟩) C.length C.length, .slice (some ⟨g2, 0, none⟩) J.length J.length, .slice (some ⟨g3, 0, none⟩) F.length F.length], .agg #[.int .i64 n, .slice (some ⟨k1, 0, none⟩) C.length C.length, .slice (some ⟨k2, 0, none⟩) J.length J.length, .slice (some ⟨k3, 0, none⟩) F.length F.length]] w fun e w' => e = .returned (.bool true) ∧ Below w.heap.size w w' := by
  have hz := hp.sz hs
  obtain ⟨⟨a1, a2, a3, a4⟩, pa, pb, pc⟩ := hp
  obtain ⟨⟨b1, b2, b3, b4⟩, qa, qb, qc⟩ := hq
  obtain ⟨⟨s1, s2⟩, ⟨s3, s4⟩, s5⟩ := hs
  obtain ⟨⟨_, z2⟩, ⟨_, z4⟩, _⟩ := hz
  have C1 := Lib.hid (fun (wx : World) (hx : Below w.heap.size w wx) => eqInt64SS_same (some ⟨g1, 0, none⟩) (some ⟨k1, 0, none⟩) M1 N1 C.length C.length C.length wx (pa.to hx) (qa.to hx) a1 b1 (a3.trans b3.symm) s1 (fun i hi => z2 i (by omega)))
  have C2 := Lib.hid (fun (wx : World) (hx : Below w.heap.size w wx) => eqInt64SS_same (some ⟨g2, 0, none⟩) (some ⟨k2, 0, none⟩) M2 N2 J.length J.length J.length wx (pb.to hx) (qb.to hx) a2 b2 (a4.trans b4.symm) s3 (fun i hi => z4 i (by omega)))
  have C3 := Lib.hid (fun (wx : World) (hx : Below w.heap.size w wx) => eqInt64S_same (some ⟨g3, 0, none⟩) (some ⟨k3, 0, none⟩) F F.length F.length wx (pc.to hx) (qc.to hx) s5)
  clear pa pb pc qa qb qc z2 z4 s2 s4 a1 a2 a3 a4 b1 b2 b3 b4
  have hb0 : Below w.heap.size w ((w.alloc (.cells #[.int .i64 n, .slice (some ⟨g1, 0, none⟩) C.length C.length, .slice (some ⟨g2, 0, none⟩) J.length J.length, .slice (some ⟨g3, 0, none⟩) F.length F.length] 28)).alloc (.cells #[.int .i64 n, .slice (some ⟨k1, 0, none⟩) C.length C.length, .slice (some ⟨k2, 0, none⟩) J.length J.length, .slice (some ⟨k3, 0, none⟩) F.length F.length] 28)) := by (repeat (first | assumption | exact Below.refl _ _ | (refine bl_alloc ?_ _) | (refine Below.drew ?_) | (refine bl_drewN ?_ _) | (refine bl_set ?_ (by first | (simp; done) | omega | (simp; omega)) _) | (refine bl_trans ?_ (by assumption)) | (refine bl_step ?_ (by assumption) (by first | omega | exact Below.size (by assumption) | (simp; omega) | (simp; exact Below.size (by assumption))))))
  have ka : Blk ((w.alloc (.cells #[.int .i64 n, .slice (some ⟨g1, 0, none⟩) C.length C.length, .slice (some ⟨g2, 0, none⟩) J.length J.length, .slice (some ⟨g3, 0, none⟩) F.length F.length] 28)).alloc (.cells #[.int .i64 n, .slice (some ⟨k1, 0, none⟩) C.length C.length, .slice (some ⟨k2, 0, none⟩) J.length J.length, .slice (some ⟨k3, 0, none⟩) F.length F.length] 28)) w.heap.size #[.int .i64 n, .slice (some ⟨g1, 0, none⟩) C.length C.length, .slice (some ⟨g2, 0, none⟩) J.length J.length, .slice (some ⟨g3, 0, none⟩) F.length F.length] 28 := (Blk.new _ _ _).alloc _
  have kb : Blk ((w.alloc (.cells #[.int .i64 n, .slice (some ⟨g1, 0, none⟩) C.length C.length, .slice (some ⟨g2, 0, none⟩) J.length J.length, .slice (some ⟨g3, 0, none⟩) F.length F.length] 28)).alloc (.cells #[.int .i64 n, .slice (some ⟨k1, 0, none⟩) C.length C.length, .slice (some ⟨k2, 0, none⟩) J.length J.length, .slice (some ⟨k3, 0, none⟩) F.length F.length] 28)) (w.heap.size + 1) #[.int .i64 n, .slice (some ⟨k1, 0, none⟩) C.length C.length, .slice (some ⟨k2, 0, none⟩) J.length J.length, .slice (some ⟨k3, 0, none⟩) F.length F.length] 28 := by
    have := Blk.new (w.alloc (.cells #[.int .i64 n, .slice (some ⟨g1, 0, none⟩) C.length C.length, .slice (some ⟨g2, 0, none⟩) J.length J.length, .slice (some ⟨g3, 0, none⟩) F.length F.length] 28)) #[.int .i64 n, .slice (some ⟨k1, 0, none⟩) C.length C.length, .slice (some ⟨k2, 0, none⟩) J.length J.length, .slice (some ⟨k3, 0, none⟩) F.length F.length] 28
    rwa [World.size_alloc] at this
  generalize hw0 : ((w.alloc (.cells #[.int .i64 n, .slice (some ⟨g1, 0, none⟩) C.length C.length, .slice (some ⟨g2, 0, none⟩) J.length J.length, .slice (some ⟨g3, 0, none⟩) F.length F.length] 28)).alloc (.cells #[.int .i64 n, .slice (some ⟨k1, 0, none⟩) C.length C.length, .slice (some ⟨k2, 0, none⟩) J.length J.length, .slice (some ⟨k3, 0, none⟩) F.length F.length] 28)) = w0 at *
  have p0 := ka.cell 0 (v := .int .i64 n) rfl
  have p1 := ka.cell 1 (v := .slice (some ⟨g1, 0, none⟩) C.length C.length) rfl
  have q0 := kb.cell 0 (v := .int .i64 n) rfl
  have q1 := kb.cell 1 (v := .slice (some ⟨k1, 0, none⟩) C.length C.length) rfl
  go_enter Tryd.func14, Tryd.ntmps14
  go_wp2_with fail
  refine (C1.out _ hb0).mono ?_
  rintro e w1 ⟨rfl, hb1⟩
  replace ka := ka.to hb1
  replace kb := kb.to hb1
  replace hb1 := bl_trans hb0 hb1
  clear p0 p1 q0 q1 hb0 C1
  have p2 := ka.cell 2 (v := .slice (some ⟨g2, 0, none⟩) J.length J.length) rfl
  have q2 := kb.cell 2 (v := .slice (some ⟨k2, 0, none⟩) J.length J.length) rfl
  go_wp2_with fail
  refine (C2.out _ hb1).mono ?_
  rintro e w2 ⟨rfl, hb2⟩
  replace ka := ka.to hb2
  replace kb := kb.to hb2
  replace hb2 := bl_trans hb1 hb2
  clear p2 q2 hb1 C2
  have p3 := ka.cell 3 (v := .slice (some ⟨g3, 0, none⟩) F.length F.length) rfl
  have q3 := kb.cell 3 (v := .slice (some ⟨k3, 0, none⟩) F.length F.length) rfl
  go_wp2_with fail
  refine (C3.out _ hb2).mono ?_
  rintro e w3 ⟨rfl, hb3⟩
  go_wp2
  go_ret
  exact ⟨rfl, bl_trans hb2 hb3⟩
theorem eqWiring_same (n : Int) (C J : List SlI) (F : List Int) (g1 : Nat) (M1 : List SlI) (g2 : Nat) (M2 : List SlI) (g3 : Nat) (k1 : Nat) (N1 : List SlI) (k2 : Nat) (N2 : List SlI) (k3 : Nat) (w : World)
    (hp : HeldW C J F g1 M1 g2 M2 g3 w) (hq : HeldW C J F k1 N1 k2 N2 k3 w) (hs : WirSz C J F) :
    Calls Tryd.prog 14 #[.agg #[.int .i64 n, .slice (some ⟨g1, 0, none⟩) M1.length M1.length, .slice (some ⟨g2, 0, none⟩) M2.length M2.length, .slice (some ⟨g3, 0, none⟩) F.length F.length], .agg #[.int .i64 n, .slice (some ⟨k1, 0, none⟩) N1.length N1.length, .slice (some ⟨k2, 0, none⟩) N2.length N2.length, .slice (some ⟨k3, 0, none⟩) F.length F.length]] w fun e w' => e = .returned (.bool true) ∧ Below w.heap.size w w' := by
  rw [hp.1.1, hp.1.2.1, hq.1.1, hq.1.2.1]
  exact eqWiring_len n C J F g1 M1 g2 M2 g3 k1 N1 k2 N2 k3 w hp hq hs
end Go.Proofs.YtdoheipnfdbioaaDoor
