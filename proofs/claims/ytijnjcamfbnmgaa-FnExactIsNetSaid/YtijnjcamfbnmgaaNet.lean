/-
  Nets of a grid: in a law, and whether they are nets, as the model and the program have it.
-/
import Derived.Test.YtijnjcamfbnmgaaGridL
import Derived.Test.YtijnjcamfbnmgaaOpen
import Derived.ChangeMaps5
namespace Go.Proofs.Ytijnjcamfbnmgaa
set_option linter.unusedSimpArgs false
set_option linter.unusedVariables false
open Go.ChangeShapes Go.WideShapes Go.ChangeAt Go.RowKit Go.BigFrame

variable {H : Type} {enc : TypeId × Value → H}

/-- A cell of a grid of L rows of n rooms. -/
def cellB (n L : Nat) (x y : Int) : Bool := inB x 0 (n : Int) && inB y 0 ((L : Int) - 1)
def netB (A : List (List Int)) (a b c e : Int) : Bool := cellB (A.getD 0 []).length A.length a b && cellB (A.getD 0 []).length A.length c e
set_option maxRecDepth 100000 in
theorem open_net {w : World} {v : Value} {d : DataW H} {p : List MemPlace} {r : Reach} {b0 : Nat} (hv : Value.okWide Try.prog w r b0 64 v) (h : DataW.Trod enc Try.prog w 0 (fun _ => true) true 64 v d p) :
    ∃ a b c e, v = .agg #[.int .i64 a, .int .i64 b, .int .i64 c, .int .i64 e] ∧ (Fits a ∧ Fits b ∧ Fits c ∧ Fits e) := by
  obtain ⟨cs, rfl, hsz⟩ := okWide_struct Try.underlying64 hv
  have hsz4 : cs.size = 4 := hsz.trans (by kernel_rfl)
  obtain ⟨l⟩ := cs
  obtain ⟨c0, c1, c2, c3, rfl⟩ : ∃ c0 c1 c2 c3, l = [c0, c1, c2, c3] := by
    match l, hsz4 with
    | [c0, c1, c2, c3], _ => exact ⟨c0, c1, c2, c3, rfl⟩
  obtain ⟨fuel, hf⟩ := h
  obtain ⟨y0, y1, n, hx, _, h0, h1⟩ := trod_struct2 Try.underlying64 hf
  have h0' : DataW.trod enc Try.prog w 0 (fun _ => true) true n 62 [c0, c1] = some y0 := h0
  have h1' : DataW.trod enc Try.prog w 0 (fun _ => true) true n 62 [c2, c3] = some y1 := h1
  obtain ⟨z0, z1, m, hx2, _, k0, k1⟩ := trod_struct2 Try.underlying62 h0'
  obtain ⟨z2, z3, m2, hx3, _, k2, k3⟩ := trod_struct2 Try.underlying62 h1'
  have k0' : DataW.trod enc Try.prog w 0 (fun _ => true) true m 2 [c0] = some z0 := k0
  have k1' : DataW.trod enc Try.prog w 0 (fun _ => true) true m 2 [c1] = some z1 := k1
  have k2' : DataW.trod enc Try.prog w 0 (fun _ => true) true m2 2 [c2] = some z2 := k2
  have k3' : DataW.trod enc Try.prog w 0 (fun _ => true) true m2 2 [c3] = some z3 := k3
  obtain ⟨a, e0, _, wa⟩ := DataW.trod_int Try.underlying2 k0'
  obtain ⟨b, e1, _, wb⟩ := DataW.trod_int Try.underlying2 k1'
  obtain ⟨c, e2, _, wc⟩ := DataW.trod_int Try.underlying2 k2'
  obtain ⟨e, e3, _, we⟩ := DataW.trod_int Try.underlying2 k3'
  simp at e0 e1 e2 e3
  subst e0; subst e1; subst e2; subst e3
  exact ⟨a, b, c, e, rfl, fits_of wa, fits_of wb, fits_of wc, fits_of we⟩
set_option maxHeartbeats 1600000 in
theorem toNet_any (a b c e : Int) (w : World) :
    Calls Try.prog 44 #[.agg #[.int .i64 a, .int .i64 b, .int .i64 c, .int .i64 e]] w fun e' w' => e' = .returned (.agg #[.int .i64 a, .int .i64 b, .int .i64 c, .int .i64 e]) ∧ Below w.heap.size w w' := by
  have hb0 : Below w.heap.size w (((w.alloc (.cells #[.int .i64 a, .int .i64 b, .int .i64 c, .int .i64 e] 64)).alloc (.cells #[.int .i64 0, .int .i64 0, .int .i64 0, .int .i64 0] 68)).alloc (.cells #[.int .i64 0, .int .i64 0, .int .i64 0, .int .i64 0] 68)) := by (repeat (first | assumption | exact Below.refl _ _ | (refine bl_alloc ?_ _) | (refine Below.drew ?_) | (refine bl_drewN ?_ _) | (refine bl_set ?_ (by first | (simp; done) | omega | (simp; omega)) _) | (refine bl_trans ?_ (by assumption)) | (refine bl_step ?_ (by assumption) (by first | omega | exact Below.size (by assumption) | (simp; omega) | (simp; exact Below.size (by assumption))))))
  have ka : Blk (((w.alloc (.cells #[.int .i64 a, .int .i64 b, .int .i64 c, .int .i64 e] 64)).alloc (.cells #[.int .i64 0, .int .i64 0, .int .i64 0, .int .i64 0] 68)).alloc (.cells #[.int .i64 0, .int .i64 0, .int .i64 0, .int .i64 0] 68)) w.heap.size #[.int .i64 a, .int .i64 b, .int .i64 c, .int .i64 e] 64 := ((Blk.new _ _ _).alloc _).alloc _
  have kr : Blk (((w.alloc (.cells #[.int .i64 a, .int .i64 b, .int .i64 c, .int .i64 e] 64)).alloc (.cells #[.int .i64 0, .int .i64 0, .int .i64 0, .int .i64 0] 68)).alloc (.cells #[.int .i64 0, .int .i64 0, .int .i64 0, .int .i64 0] 68)) (w.heap.size + 1) #[.int .i64 0, .int .i64 0, .int .i64 0, .int .i64 0] 68 := by
    have := (Blk.new (w.alloc (.cells #[.int .i64 a, .int .i64 b, .int .i64 c, .int .i64 e] 64)) #[.int .i64 0, .int .i64 0, .int .i64 0, .int .i64 0] 68).alloc (.cells #[.int .i64 0, .int .i64 0, .int .i64 0, .int .i64 0] 68)
    rwa [World.size_alloc] at this
  have ko : Blk (((w.alloc (.cells #[.int .i64 a, .int .i64 b, .int .i64 c, .int .i64 e] 64)).alloc (.cells #[.int .i64 0, .int .i64 0, .int .i64 0, .int .i64 0] 68)).alloc (.cells #[.int .i64 0, .int .i64 0, .int .i64 0, .int .i64 0] 68)) (w.heap.size + 1 + 1) #[.int .i64 0, .int .i64 0, .int .i64 0, .int .i64 0] 68 := by
    have := Blk.new ((w.alloc (.cells #[.int .i64 a, .int .i64 b, .int .i64 c, .int .i64 e] 64)).alloc (.cells #[.int .i64 0, .int .i64 0, .int .i64 0, .int .i64 0] 68)) #[.int .i64 0, .int .i64 0, .int .i64 0, .int .i64 0] 68
    rwa [World.size_alloc, World.size_alloc] at this
  go_enter Try.func44, Try.ntmps44
  go_wp2_with fail
  generalize (((w.alloc (.cells #[.int .i64 a, .int .i64 b, .int .i64 c, .int .i64 e] 64)).alloc (.cells #[.int .i64 0, .int .i64 0, .int .i64 0, .int .i64 0] 68)).alloc (.cells #[.int .i64 0, .int .i64 0, .int .i64 0, .int .i64 0] 68)) = w0 at *
  refine (toPoint_any _ _ _).mono ?_
  rintro e' w1 ⟨rfl, hb1⟩
  replace ka := ka.to hb1
  replace kr := kr.to hb1
  replace ko := ko.to hb1
  replace hb1 := bl_trans hb0 hb1
  have s2 := ka.cell 2 (v := .int .i64 c) rfl
  have s3 := ka.cell 3 (v := .int .i64 e) rfl
  have o0 := ko.cell 0 rfl
  have o1 := ko.cell 1 rfl
  have f0 := ko.frozen 0
  have f1 := ko.frozen 1
  have ko1 := (ko.set 0 (.int .i64 a)).set 1 (.int .i64 b)
  have ka1 := ((ka.far (p := ⟨w.heap.size + 1 + 1, 0, none⟩) (by simp; omega) (.int .i64 a)).far (p := ⟨w.heap.size + 1 + 1, 1, none⟩) (by simp; omega) (.int .i64 b))
  have kr1 := ((kr.far (p := ⟨w.heap.size + 1 + 1, 0, none⟩) (by simp) (.int .i64 a)).far (p := ⟨w.heap.size + 1 + 1, 1, none⟩) (by simp) (.int .i64 b))
  have hb1' := ((hb1.setCell (p := ⟨w.heap.size + 1 + 1, 0, none⟩) (by show w.heap.size ≤ w.heap.size + 1 + 1; omega) (.int .i64 a)).setCell (p := ⟨w.heap.size + 1 + 1, 1, none⟩) (by show w.heap.size ≤ w.heap.size + 1 + 1; omega) (.int .i64 b))
  clear hb0 ka kr ko
  go_wp2_with fail
  clear s2 s3 o0 o1 f0 f1 hb1
  generalize ((w1.setCell ⟨w.heap.size + 1 + 1, 0, none⟩ (.int .i64 a)).setCell ⟨w.heap.size + 1 + 1, 1, none⟩ (.int .i64 b)) = v1 at *
  refine (toPoint_any _ _ _).mono ?_
  rintro e' w3 ⟨rfl, hb2⟩
  replace kr1 := kr1.to hb2
  replace ko1 := ko1.to hb2
  replace hb2 := bl_trans hb1' hb2
  have c0 := ko1.cell 0 (v := .int .i64 a) rfl
  have c1 := ko1.cell 1 (v := .int .i64 b) rfl
  have o2 := ko1.cell 2 rfl
  have o3 := ko1.cell 3 rfl
  have f0 := ko1.frozen 0
  have t0 := kr1.cell 0 rfl
  have q0 := kr1.frozen 0
  have f1 := ko1.frozen 1
  have t1 := kr1.cell 1 rfl
  have q1 := kr1.frozen 1
  have f2 := ko1.frozen 2
  have t2 := kr1.cell 2 rfl
  have q2 := kr1.frozen 2
  have f3 := ko1.frozen 3
  have t3 := kr1.cell 3 rfl
  have q3 := kr1.frozen 3
  have ke := ((((((kr1.far (p := ⟨w.heap.size + 1 + 1, 2, none⟩) (by simp) (.int .i64 c)).far (p := ⟨w.heap.size + 1 + 1, 3, none⟩) (by simp) (.int .i64 e)).set 0 (.int .i64 a)).set 1 (.int .i64 b)).set 2 (.int .i64 c)).set 3 (.int .i64 e))
  have hbE : Below w.heap.size w ((((((w3.setCell ⟨w.heap.size + 1 + 1, 2, none⟩ (.int .i64 c)).setCell ⟨w.heap.size + 1 + 1, 3, none⟩ (.int .i64 e)).setCell ⟨w.heap.size + 1, 0, none⟩ (.int .i64 a)).setCell ⟨w.heap.size + 1, 1, none⟩ (.int .i64 b)).setCell ⟨w.heap.size + 1, 2, none⟩ (.int .i64 c)).setCell ⟨w.heap.size + 1, 3, none⟩ (.int .i64 e)) := ((((((hb2.setCell (p := ⟨w.heap.size + 1 + 1, 2, none⟩) (by show w.heap.size ≤ w.heap.size + 1 + 1; omega) (.int .i64 c)).setCell (p := ⟨w.heap.size + 1 + 1, 3, none⟩) (by show w.heap.size ≤ w.heap.size + 1 + 1; omega) (.int .i64 e)).setCell (p := ⟨w.heap.size + 1, 0, none⟩) (by show w.heap.size ≤ w.heap.size + 1; omega) (.int .i64 a)).setCell (p := ⟨w.heap.size + 1, 1, none⟩) (by show w.heap.size ≤ w.heap.size + 1; omega) (.int .i64 b)).setCell (p := ⟨w.heap.size + 1, 2, none⟩) (by show w.heap.size ≤ w.heap.size + 1; omega) (.int .i64 c)).setCell (p := ⟨w.heap.size + 1, 3, none⟩) (by show w.heap.size ≤ w.heap.size + 1; omega) (.int .i64 e))
  go_wp2
  generalize ((((((w3.setCell ⟨w.heap.size + 1 + 1, 2, none⟩ (.int .i64 c)).setCell ⟨w.heap.size + 1 + 1, 3, none⟩ (.int .i64 e)).setCell ⟨w.heap.size + 1, 0, none⟩ (.int .i64 a)).setCell ⟨w.heap.size + 1, 1, none⟩ (.int .i64 b)).setCell ⟨w.heap.size + 1, 2, none⟩ (.int .i64 c)).setCell ⟨w.heap.size + 1, 3, none⟩ (.int .i64 e)) = wE at *
  have e0 := ke.cell 0 (v := .int .i64 a) (by simp)
  have e1 := ke.cell 1 (v := .int .i64 b) (by simp)
  have e2 := ke.cell 2 (v := .int .i64 c) (by simp)
  have e3 := ke.cell 3 (v := .int .i64 e) (by simp)
  refine bodyPost_ret_by (v := .agg #[.int .i64 a, .int .i64 b, .int .i64 c, .int .i64 e]) ?_ rfl ⟨rfl, hbE⟩
  simp [results, Try.results44, go_sem, e0, e1, e2, e3]
theorem inB_wc {x hi : Int} : inB x 0 hi = (decide (0 ≤ x) && decide (x ≤ hi)) := by unfold inB; by_cases h : 0 ≤ x <;> by_cases h2 : x ≤ hi <;> simp [h, h2]
set_option maxRecDepth 100000 in
set_option maxHeartbeats 1600000 in
theorem l08Cell_any (g b off cA c0' : Nat) (A0 : Option Addr) (L n : Nat) (x y : Int) (w : World) (c0 : w.cell? ⟨g, 0, none⟩ = some (.slice (some ⟨b, off, none⟩) L cA)) (d0 : w.cell? ⟨b, off, none⟩ = some (.slice A0 n c0')) (h0 : 0 < L) (hL : L ≤ 8) (hn : n ≤ 7) :
    Calls Try.prog 117 #[.pointer (some ⟨g, 0, none⟩), .agg #[.int .i64 x, .int .i64 y]] w fun e w' => e = .returned (.bool (cellB n L x y)) ∧ Below w.heap.size w w' := by
  have hg := World.block_lt_of_cell? w _ c0
  have hbB := World.block_lt_of_cell? w _ d0
  have hx : Below w.heap.size w (w.alloc (.cells #[.int .i64 x, .int .i64 y] 66)) := by (repeat (first | assumption | exact Below.refl _ _ | (refine bl_alloc ?_ _) | (refine Below.drew ?_) | (refine bl_drewN ?_ _) | (refine bl_set ?_ (by first | (simp; done) | omega | (simp; omega)) _) | (refine bl_trans ?_ (by assumption)) | (refine bl_step ?_ (by assumption) (by first | omega | exact Below.size (by assumption) | (simp; omega) | (simp; exact Below.size (by assumption))))))
  have kp := Blk.new w #[.int .i64 x, .int .i64 y] 66
  have cs := l08Size_1 g b off cA c0' A0 L n (w.alloc (.cells #[.int .i64 x, .int .i64 y] 66)) ((hx.cell (p := ⟨g, 0, none⟩) hg).trans c0) ((hx.cell (p := ⟨b, off, none⟩) hbB).trans d0) h0 (by omega) (by omega)
  have hLI : (L : Int) ≤ 8 := by omega
  have hnI : (n : Int) ≤ 7 := by omega
  unfold cellB
  cases hX : inB x 0 (n : Int)
  · have HX := Lib.hid hX
    clear hX c0 d0
    go_enter Try.func117, Try.ntmps117
    go_wp2_with fail
    refine cs.mono ?_
    rintro e w1 ⟨rfl, hb1⟩
    have p0 := (kp.to hb1).cell 0 (v := .int .i64 x) rfl
    have bb := bl_step hx hb1 hx.size
    clear cs
    go_wp2_with fail
    refine (l00In_g HX _).mono ?_
    rintro e w2 ⟨rfl, rfl⟩
    go_wp2
    go_ret
    exact ⟨rfl, bb⟩
  · have HX := Lib.hid hX
    cases hY : inB y 0 ((L : Int) - 1)
    all_goals
      have HY := Lib.hid hY
      clear hX hY c0 d0
      go_enter Try.func117, Try.ntmps117
      go_wp2_with fail
      refine cs.mono ?_
      rintro e w1 ⟨rfl, hb1⟩
      have p0 := (kp.to hb1).cell 0 (v := .int .i64 x) rfl
      have p1 := (kp.to hb1).cell 1 (v := .int .i64 y) rfl
      have bb := bl_step hx hb1 hx.size
      clear cs
      go_wp2_with fail
      refine (l00In_g HX _).mono ?_
      rintro e w2 ⟨rfl, rfl⟩
      go_wp2_with fail
      refine (l00In_g HY _).mono ?_
      rintro e w3 ⟨rfl, rfl⟩
      go_wp2
      go_ret
      exact ⟨rfl, bb⟩
set_option maxRecDepth 100000 in
set_option maxHeartbeats 1600000 in
theorem l08Net_any (g b off cA c0' : Nat) (A0 : Option Addr) (L n : Nat) (x y z t : Int) (w : World) (c0 : w.cell? ⟨g, 0, none⟩ = some (.slice (some ⟨b, off, none⟩) L cA)) (d0 : w.cell? ⟨b, off, none⟩ = some (.slice A0 n c0')) (h0 : 0 < L) (hL : L ≤ 8) (hn : n ≤ 7) :
    Calls Try.prog 83 #[.pointer (some ⟨g, 0, none⟩), .agg #[.int .i64 x, .int .i64 y, .int .i64 z, .int .i64 t]] w fun e w' => e = .returned (.bool (cellB n L x y && cellB n L z t)) ∧ Below w.heap.size w w' := by
  have hg := World.block_lt_of_cell? w _ c0
  have hbB := World.block_lt_of_cell? w _ d0
  have hx : Below w.heap.size w (w.alloc (.cells #[.int .i64 x, .int .i64 y, .int .i64 z, .int .i64 t] 68)) := by (repeat (first | assumption | exact Below.refl _ _ | (refine bl_alloc ?_ _) | (refine Below.drew ?_) | (refine bl_drewN ?_ _) | (refine bl_set ?_ (by first | (simp; done) | omega | (simp; omega)) _) | (refine bl_trans ?_ (by assumption)) | (refine bl_step ?_ (by assumption) (by first | omega | exact Below.size (by assumption) | (simp; omega) | (simp; exact Below.size (by assumption))))))
  have kp := Blk.new w #[.int .i64 x, .int .i64 y, .int .i64 z, .int .i64 t] 68
  have CC := Lib.hid (fun (x y : Int) (wx : World) (hb : Below w.heap.size w wx) => l08Cell_any g b off cA c0' A0 L n x y wx ((hb.cell (p := ⟨g, 0, none⟩) hg).trans c0) ((hb.cell (p := ⟨b, off, none⟩) hbB).trans d0) h0 hL hn)
  have C1 := Lib.hid (fun wx hb => CC.out x y wx hb)
  have C2 := Lib.hid (fun wx hb => CC.out z t wx hb)
  clear CC c0 d0
  cases hX : cellB n L x y
  · rw [hX] at C1
    clear hX C2
    go_enter Try.func83, Try.ntmps83
    go_wp2_with fail
    refine (C1.out _ hx).mono ?_
    rintro e w1 ⟨rfl, hb1⟩
    go_wp2
    go_ret
    exact ⟨rfl, bl_step hx hb1 hx.size⟩
  · rw [hX] at C1
    generalize cellB n L z t = u at *
    clear hX
    go_enter Try.func83, Try.ntmps83
    go_wp2_with fail
    refine (C1.out _ hx).mono ?_
    rintro e w1 ⟨rfl, hb1⟩
    have p2 := (kp.to hb1).cell 2 (v := .int .i64 z) rfl
    have p3 := (kp.to hb1).cell 3 (v := .int .i64 t) rfl
    have bb := bl_step hx hb1 hx.size
    go_wp2_with fail
    refine (C2.out _ bb).mono ?_
    rintro e w2 ⟨rfl, hb2⟩
    go_wp2
    go_ret
    exact ⟨by simp, bl_step bb hb2 bb.size⟩
/-- What a valid grid is. -/
theorem gvB_facts {A U : List SlI} (h : gvB (heldI A) (heldI U) = true) : 0 < A.length ∧ A.length ≤ 8 ∧ (A.getD 0 si0).2.1.length ≤ 7 := by
  unfold gvB at h
  simp only [Bool.and_eq_true, decide_eq_true_eq] at h
  rw [heldI_len, heldI_at] at h
  exact ⟨h.1, h.2.2.1, h.2.1⟩
def isNetB (A U : List (List Int)) (a b c e : Int) : Bool := gvB A U && netB A a b c e
set_option maxRecDepth 100000 in
set_option maxHeartbeats 1600000 in
theorem IsNetS_any (AA : Option Addr) (A : List SlI) (cA : Nat) (AU : Option Addr) (U : List SlI) (cU : Nat) (x y z t : Int) (w : World) (hp : GrAt w w.heap.size AA A AU U) (hs : GrSz A U) :
    Calls Try.prog 43 #[.agg #[.slice AA A.length cA, .slice AU U.length cU], .agg #[.int .i64 x, .int .i64 y, .int .i64 z, .int .i64 t]] w fun e w' => e = .returned (.bool (isNetB (heldI A) (heldI U) x y z t)) ∧ Below w.heap.size w w' := by
  have hx : Below w.heap.size w ((w.alloc (.cells #[.slice AA A.length cA, .slice AU U.length cU] 53)).alloc (.cells #[.int .i64 x, .int .i64 y, .int .i64 z, .int .i64 t] 68)) := by (repeat (first | assumption | exact Below.refl _ _ | (refine bl_alloc ?_ _) | (refine Below.drew ?_) | (refine bl_drewN ?_ _) | (refine bl_set ?_ (by first | (simp; done) | omega | (simp; omega)) _) | (refine bl_trans ?_ (by assumption)) | (refine bl_step ?_ (by assumption) (by first | omega | exact Below.size (by assumption) | (simp; omega) | (simp; exact Below.size (by assumption))))))
  have kg : Blk ((w.alloc (.cells #[.slice AA A.length cA, .slice AU U.length cU] 53)).alloc (.cells #[.int .i64 x, .int .i64 y, .int .i64 z, .int .i64 t] 68)) w.heap.size #[.slice AA A.length cA, .slice AU U.length cU] 53 := (Blk.new _ _ _).alloc _
  have kn : Blk ((w.alloc (.cells #[.slice AA A.length cA, .slice AU U.length cU] 53)).alloc (.cells #[.int .i64 x, .int .i64 y, .int .i64 z, .int .i64 t] 68)) (w.heap.size + 1) #[.int .i64 x, .int .i64 y, .int .i64 z, .int .i64 t] 68 := by
    have := Blk.new (w.alloc (.cells #[.slice AA A.length cA, .slice AU U.length cU] 53)) #[.int .i64 x, .int .i64 y, .int .i64 z, .int .i64 t] 68
    rwa [World.size_alloc] at this
  have hp1 := hp.to hx
  obtain ⟨W1, hW1⟩ : ∃ W1, ((w.alloc (.cells #[.slice AA A.length cA, .slice AU U.length cU] 53)).alloc (.cells #[.int .i64 x, .int .i64 y, .int .i64 z, .int .i64 t] 68)) = W1 := ⟨_, rfl⟩
  rw [hW1] at hx kg kn hp1
  have cc := l08Is_any w.heap.size AA A cA AU U cU W1 (kg.cell 0 rfl) (kg.cell 1 rfl) hp1 hs
  unfold isNetB
  cases hg : gvB (heldI A) (heldI U)
  · rw [hg] at cc
    have HW := Lib.hid hW1
    clear hW1 hp hp1 kg kn
    go_enter Try.func43, Try.ntmps43
    go_wp2_with fail
    rw [HW.out]
    refine cc.mono ?_
    rintro e w1 ⟨rfl, hb1⟩
    go_wp2
    go_ret
    exact ⟨rfl, bl_step hx hb1 hx.size⟩
  · rw [hg] at cc
    obtain ⟨h0, h8, h7⟩ := gvB_facts hg
    obtain ⟨b, off, rfl, hbB, hc⟩ := hp1.1 h0
    have d0 := (hc 0 h0).1
    rw [Nat.add_zero] at d0
    have g0 := kg.cell 0 (v := .slice (some ⟨b, off, none⟩) A.length cA) rfl
    have lg := kg.lt
    have CN := Lib.hid (fun (wx : World) (hb : Below W1.heap.size W1 wx) => l08Net_any w.heap.size b off cA _ _ A.length _ x y z t wx ((hb.cell (p := ⟨w.heap.size, 0, none⟩) lg).trans g0) ((hb.cell (p := ⟨b, off, none⟩) hbB).trans d0) h0 h8 h7)
    have hnb : netB (heldI A) x y z t = (cellB (A.getD 0 si0).2.1.length A.length x y && cellB (A.getD 0 si0).2.1.length A.length z t) := by unfold netB; rw [heldI_at, heldI_len]
    rw [hnb]
    generalize (cellB (A.getD 0 si0).2.1.length A.length x y && cellB (A.getD 0 si0).2.1.length A.length z t) = u at *
    have HW := Lib.hid hW1
    clear hW1 hp hp1 kg hc d0 g0 h0 h8 h7 hnb hg
    go_enter Try.func43, Try.ntmps43
    go_wp2_with fail
    rw [HW.out]
    refine cc.mono ?_
    rintro e w1 ⟨rfl, hb1⟩
    have p0 := (kn.to hb1).cell 0 (v := .int .i64 x) rfl
    have p1 := (kn.to hb1).cell 1 (v := .int .i64 y) rfl
    have p2 := (kn.to hb1).cell 2 (v := .int .i64 z) rfl
    have p3 := (kn.to hb1).cell 3 (v := .int .i64 t) rfl
    have bb := bl_step hx hb1 hx.size
    clear cc
    go_wp2_with fail
    refine (CN.out _ hb1).mono ?_
    rintro e w2 ⟨rfl, hb2⟩
    go_wp2
    go_ret
    exact ⟨by simp, bl_step bb hb2 bb.size⟩
end Go.Proofs.Ytijnjcamfbnmgaa
