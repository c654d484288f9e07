/-
  Contract: the graph of a press, as the program makes it.
-/
import Derived.Test.YtgpcfkegbcpkpaaGraf
import Derived.Test.YtgpcfkegbcpkpaaOver
namespace Go.Proofs.Ytgpcfkegbcpkpaa
set_option linter.unusedSimpArgs false
set_option linter.unusedVariables false
open Go.ChangeShapes Go.WideShapes Go.ChangeAt Go.RowKit Go.BigFrame

theorem gRows_next {up : Bool} {rs : List R3} {N k U : Nat} (hU : fromH up (rs.getD k r30) = (U : Int)) (hN : U < N) :
    gRows up rs N (k + 1) = (gRows up rs N k).set U ((gRows up rs N k).getD U [] ++ [((k : Int), toH up (rs.getD k r30), (rs.getD k r30).2.2)]) := by
  rw [gRows_at hN]
  refine List.ext_getElem (by simp [gRows]) fun i h1 h2 => ?_
  have hi : i < N := by simpa [gRows] using h1
  simp only [gRows, List.getElem_map, List.getElem_range, List.getElem_set]
  by_cases e : U = i
  · subst e
    rw [if_pos rfl, gRow, if_pos hU]
  · rw [if_neg e, gRow, if_neg (fun h => e (by omega))]
theorem ruleFrom_any (x y z : Int) (w : World) :
    Calls Try.prog 124 #[.agg #[.int .i64 x, .int .i64 y, .int .i64 z]] w fun e w' => e = .returned (.int .i64 x) ∧ Below w.heap.size w w' := by
  go_enter Try.func124, Try.ntmps124
  go_wp2
  go_ret
  exact ⟨rfl, by (repeat (first | assumption | exact Below.refl _ _ | (refine bl_alloc ?_ _) | (refine Below.drew ?_) | (refine bl_drewN ?_ _) | (refine bl_set ?_ (by first | (simp; done) | omega | (simp; omega)) _) | (refine bl_trans ?_ (by assumption)) | (refine bl_step ?_ (by assumption) (by first | omega | exact Below.size (by assumption) | (simp; omega) | (simp; exact Below.size (by assumption))))))⟩
theorem ruleTo_any (x y z : Int) (w : World) :
    Calls Try.prog 125 #[.agg #[.int .i64 x, .int .i64 y, .int .i64 z]] w fun e w' => e = .returned (.int .i64 y) ∧ Below w.heap.size w w' := by
  go_enter Try.func125, Try.ntmps125
  go_wp2
  go_ret
  exact ⟨rfl, by (repeat (first | assumption | exact Below.refl _ _ | (refine bl_alloc ?_ _) | (refine Below.drew ?_) | (refine bl_drewN ?_ _) | (refine bl_set ?_ (by first | (simp; done) | omega | (simp; omega)) _) | (refine bl_trans ?_ (by assumption)) | (refine bl_step ?_ (by assumption) (by first | omega | exact Below.size (by assumption) | (simp; omega) | (simp; exact Below.size (by assumption))))))⟩
theorem infoG : (Try.prog.info? 136).map (fun i => (i.zero, i.size, i.bytes)) = some (some (.slice none 0 0), 1, 24) := by kernel_rfl
theorem run_mkgraph (n : Nat) (h : n ≤ 1048576) (w : World) :
    (Instr.makeSlice 133 (.int .i64 (n : Int)) (.int .i64 (n : Int))).run Try.prog w = .ok (.slice (some ⟨w.heap.size, 0, none⟩) n n) (w.alloc (.cells (madeCells #[.slice none 0 0] n) 136)) := by
  obtain ⟨i, hi, hzz⟩ := Option.map_eq_some_iff.1 infoG
  simp only [Prod.mk.injEq] at hzz
  obtain ⟨hz, hs, hb⟩ := hzz
  have := run_make (P := Try.prog) w 133 136 i _ Try.underlying133 hi hz .i64 .i64 n n (by omega) (by omega) (by rw [hb]; omega) (by omega)
  rw [this, hs, Nat.mul_one]
  rfl
theorem GrW.new (w : World) (base : Nat) (up : Bool) (rs : List R3) (N : Nat) : GrW (w.alloc (.cells (madeCells #[.slice none 0 0] N) 136)) base w.heap.size (gRows up rs N 0) := by
  have hv : ∀ u, (List.replicate N sl0).getD u sl0 = sl0 := fun u => by
    rw [List.getD_eq_getElem?_getD, List.getElem?_replicate]
    split <;> rfl
  refine ⟨List.replicate N sl0, by simp [gRows], ?_, fun u hu => ?_, fun u v _ _ _ => ?_⟩
  · rw [heap_alloc_new, show madeCells #[Value.slice none 0 0] N = (List.replicate N sl0).toArray from by rw [show List.replicate N sl0 = (madeCells #[Value.slice none 0 0] N).toList from (toList_madeCells_one _ _).symm]]
  · rw [hv]
    have hu' : u < N := by simpa [gRows] using hu
    rw [gRows_at hu']
    exact ⟨OwnU.nil_ _ _, by simp [sl0, Value.ownBlock]⟩
  · rw [hv, hv]; exact ApartV.nil _

set_option maxRecDepth 100000 in
set_option maxHeartbeats 6400000 in
theorem graph_any (P Q : Nat) (up : Bool) (N : Nat) (A : Option Addr) (rs : List R3) (c : Nat) (w : World) (eP : ∀ args w, (callFunc P args).run Try.prog w = .ok (.enter P args) w) (eQ : ∀ args w, (callFunc Q args).run Try.prog w = .ok (.enter Q args) w)
    (hP : ∀ x y z wx, Calls Try.prog P #[.agg #[.int .i64 x, .int .i64 y, .int .i64 z]] wx fun e w' => e = .returned (.int .i64 (fromH up (x, y, z))) ∧ Below wx.heap.size wx w')
    (hQ : ∀ x y z wx, Calls Try.prog Q #[.agg #[.int .i64 x, .int .i64 y, .int .i64 z]] wx fun e w' => e = .returned (.int .i64 (toH up (x, y, z))) ∧ Below wx.heap.size wx w')
    (hp : RulAt w w.heap.size A rs) (hv : prB (N : Int) rs = true) :
    Calls Try.prog 122 #[.agg #[.int .i64 (N : Int), .slice A rs.length c], .agg #[.func (.func P) #[] #[], .func (.func Q) #[] #[]]] w fun e w' => (∃ G, e = .returned (.slice (some ⟨G, 0, none⟩) N N) ∧ GrW w' G G (gRows up rs N rs.length) ∧ w.heap.size ≤ G) ∧ Below w.heap.size w w' := by
  obtain ⟨⟨n1, n16⟩, h40, hru⟩ := pr_facts hv
  have h40I : (rs.length : Int) ≤ 40 := by omega
  have HRU := Lib.hid hru
  have HP := Lib.hid hP
  have HQ := Lib.hid hQ
  have hx : Below w.heap.size w ((w.alloc (.cells #[.int .i64 (N : Int), .slice A rs.length c] 29)).alloc (.cells #[.func (.func P) #[] #[], .func (.func Q) #[] #[]] 124)) := by (repeat (first | assumption | exact Below.refl _ _ | (refine bl_alloc ?_ _) | (refine Below.drew ?_) | (refine bl_drewN ?_ _) | (refine bl_set ?_ (by first | (simp; done) | omega | (simp; omega)) _) | (refine bl_trans ?_ (by assumption)) | (refine bl_step ?_ (by assumption) (by first | omega | exact Below.size (by assumption) | (simp; omega) | (simp; exact Below.size (by assumption))))))
  have hmk := run_mkgraph N (by omega) ((w.alloc (.cells #[.int .i64 (N : Int), .slice A rs.length c] 29)).alloc (.cells #[.func (.func P) #[] #[], .func (.func Q) #[] #[]] 124))
  have kh : Blk ((w.alloc (.cells #[.int .i64 (N : Int), .slice A rs.length c] 29)).alloc (.cells #[.func (.func P) #[] #[], .func (.func Q) #[] #[]] 124)) (w.heap.size + 1) #[.func (.func P) #[] #[], .func (.func Q) #[] #[]] 124 := by
    have := Blk.new (w.alloc (.cells #[.int .i64 (N : Int), .slice A rs.length c] 29)) #[.func (.func P) #[] #[], .func (.func Q) #[] #[]] 124
    rwa [World.size_alloc] at this
  have kp : Blk ((w.alloc (.cells #[.int .i64 (N : Int), .slice A rs.length c] 29)).alloc (.cells #[.func (.func P) #[] #[], .func (.func Q) #[] #[]] 124)) w.heap.size #[.int .i64 (N : Int), .slice A rs.length c] 29 := (Blk.new _ _ _).alloc _
  have hpx := hp.to hx
  clear hv hru hP hQ hp
  go_enter Try.func122, Try.ntmps122
  go_wp2_with fail
  clear hmk
  have hz0 : w.heap.size + 1 < ((w.alloc (.cells #[.int .i64 (N : Int), .slice A rs.length c] 29)).alloc (.cells #[.func (.func P) #[] #[], .func (.func Q) #[] #[]] 124)).heap.size := kh.lt
  have eG : w.heap.size + 1 + 1 = ((w.alloc (.cells #[.int .i64 (N : Int), .slice A rs.length c] 29)).alloc (.cells #[.func (.func P) #[] #[], .func (.func Q) #[] #[]] 124)).heap.size := by simp
  try rw [eG]
  generalize ((w.alloc (.cells #[.int .i64 (N : Int), .slice A rs.length c] 29)).alloc (.cells #[.func (.func P) #[] #[], .func (.func Q) #[] #[]] 124)) = w0 at *
  have hG0 := GrW.new w0 w0.heap.size up rs N
  have hb0 : Below w0.heap.size w0 (w0.alloc (.cells (madeCells #[.slice none 0 0] N) 136)) := by (repeat (first | assumption | exact Below.refl _ _ | (refine bl_alloc ?_ _) | (refine Below.drew ?_) | (refine bl_drewN ?_ _) | (refine bl_set ?_ (by first | (simp; done) | omega | (simp; omega)) _) | (refine bl_trans ?_ (by assumption)) | (refine bl_step ?_ (by assumption) (by first | omega | exact Below.size (by assumption) | (simp; omega) | (simp; exact Below.size (by assumption))))))
  go_loopw [6, 8, 15] (fun _ _ i wr => ∃ k : Nat, k ≤ rs.length ∧ i = .int .i64 k ∧ GrW wr w0.heap.size w0.heap.size (gRows up rs N k) ∧ Below w0.heap.size w0 wr) (fun _ _ i _ => rs.length - (intOf i).toNat)
  case atStart => exact ⟨0, by omega, rfl, hG0, hb0⟩
  case round =>
    clear hG0 hb0
    obtain ⟨k, hk, rfl, hGr, hb⟩ := hrel
    have hk0 : (0 : Int) ≤ (k : Int) := by omega
    by_cases hlt : k < rs.length
    case neg =>
      obtain rfl : k = rs.length := by omega
      have hzw := hb.size
      go_wp2
      go_ret
      exact ⟨⟨w0.heap.size, rfl, hGr, by omega⟩, hx.trans (hb.mono hx.size)⟩
    obtain ⟨b, off, rfl, hbB, hc⟩ := hpx (by omega)
    obtain ⟨e0, e1, e2⟩ := hc k hlt
    have f0 := (hb.cell (p := ⟨b, off + k * 3, none⟩) hbB).trans e0
    have f1 := (hb.cell (p := ⟨b, off + k * 3 + 1, none⟩) hbB).trans e1
    have f2 := (hb.cell (p := ⟨b, off + k * 3 + 2, none⟩) hbB).trans e2
    have h0 := (kh.to hb).cell 0 (v := .func (.func P) #[] #[]) rfl
    have hltI : (k : Int) < (rs.length : Int) := by omega
    obtain ⟨X, Y, hX, hY, hXn, hYn, hXY, z1, z2⟩ := ru_facts (HRU.out k hlt) n16
    obtain ⟨U, V, hU, hV, hUn, hVn⟩ : ∃ U V : Nat, fromH up (rs.getD k r30) = (U : Int) ∧ toH up (rs.getD k r30) = (V : Int) ∧ U < N ∧ V < N := by
      cases up
      · exact ⟨Y, X, by unfold fromH; rw [if_neg (by decide)]; exact hY, by unfold toH; rw [if_neg (by decide)]; exact hX, by omega, by omega⟩
      · exact ⟨X, Y, by unfold fromH; rw [if_pos rfl]; exact hX, by unfold toH; rw [if_pos rfl]; exact hY, by omega, by omega⟩
    have HNX : Hid (gRows up rs N (k + 1) = (gRows up rs N k).set U (gRow up rs k U ++ [((k : Int), (V : Int), (rs.getD k r30).2.2)])) := by
      show _ = _
      rw [gRows_next hU hUn, gRows_at hUn, hV]
    have hLl : (gRow up rs k U).length ≤ 4000000 := by have := gRow_len up rs k U; omega
    have hUl : U < (gRows up rs N k).length := by rw [gRows_len]; exact hUn
    have HRk : Hid ((gRows up rs N k).getD U [] = gRow up rs k U) := gRows_at hUn
    have CP := Lib.hid (fun wx => by have := HP.out (rs.getD k r30).1 (rs.getD k r30).2.1 (rs.getD k r30).2.2 wx; rw [show fromH up ((rs.getD k r30).1, (rs.getD k r30).2.1, (rs.getD k r30).2.2) = (U : Int) from hU] at this; exact this)
    have CQ := Lib.hid (fun wx => by have := HQ.out (rs.getD k r30).1 (rs.getD k r30).2.1 (rs.getD k r30).2.2 wx; rw [show toH up ((rs.getD k r30).1, (rs.getD k r30).2.1, (rs.getD k r30).2.2) = (V : Int) from hV] at this; exact this)
    clear hc e0 e1 e2
    rw [hX] at f0 CP CQ
    rw [hY] at f1 CP CQ
    generalize (rs.getD k r30).2.2 = z at *
    clear hU hV hX hY
    have hx1 : Below wr.heap.size wr (wr.alloc (.cells #[.int .i64 X, .int .i64 Y, .int .i64 z] 60)) := (Below.refl wr.heap.size wr).alloc (Nat.le_refl _) _
    have kr0 := Blk.new wr #[.int .i64 X, .int .i64 Y, .int .i64 z] 60
    have b1 := hb.trans (hx1.mono hb.size)
    have gr1 := hGr.to hx1
    have hRz : w0.heap.size < wr.heap.size := hGr.lt
    obtain ⟨v, cv0, hov0, ⟨Av, cv, hve⟩, _, hvG⟩ := hGr.row hUl
    rw [HRk.out] at hov0 hve
    have hvR : ∀ i, v.ownBlock = some i → i < wr.heap.size := fun i e => hov0.lt e
    have cv1 := (hx1.cell (p := ⟨w0.heap.size, U, none⟩) hRz).trans cv0
    have hov1 := hov0.to hx1
    have gl1 := gr1.lt
    clear hGr cv0 hov0
    have hH : w.heap.size + 1 < wr.heap.size := by omega
    go_wp2_with fail
    refine (CP.out _).mono ?_
    rintro e wA ⟨rfl, hbA⟩
    have cvA := (hbA.cell (p := ⟨w0.heap.size, U, none⟩) gl1).trans cv1
    have hov := hov1.to hbA
    have krA := kr0.to hbA
    have grA := gr1.to hbA
    have bA := b1.trans (hbA.mono b1.size)
    have khA := kh.to (bA.mono (Nat.le_refl _))
    have rA : wr.heap.size < wA.heap.size := krA.lt
    clear hbA b1 gr1 kr0 f0 f1 f2 h0 hx1 hb cv1 hov1 gl1
    generalize wr.heap.size = R at *
    have hS : ∀ {wx wy : World}, (wx.cell? ⟨w.heap.size + 1, 1, none⟩ = some (.func (.func Q) #[] #[]) ∧ wx.cell? ⟨R, 0, none⟩ = some (.int .i64 X) ∧ wx.cell? ⟨R, 1, none⟩ = some (.int .i64 Y) ∧ wx.cell? ⟨R, 2, none⟩ = some (.int .i64 z) ∧ R < wx.heap.size) → Below wx.heap.size wx wy →
        (wy.cell? ⟨w.heap.size + 1, 1, none⟩ = some (.func (.func Q) #[] #[]) ∧ wy.cell? ⟨R, 0, none⟩ = some (.int .i64 X) ∧ wy.cell? ⟨R, 1, none⟩ = some (.int .i64 Y) ∧ wy.cell? ⟨R, 2, none⟩ = some (.int .i64 z) ∧ R < wy.heap.size) := by
      rintro wx wy ⟨s1, s2, s3, s4, s5⟩ hb
      exact ⟨(hb.cell (p := ⟨w.heap.size + 1, 1, none⟩) (by show w.heap.size + 1 < wx.heap.size; omega)).trans s1, (hb.cell (p := ⟨R, 0, none⟩) s5).trans s2, (hb.cell (p := ⟨R, 1, none⟩) s5).trans s3, (hb.cell (p := ⟨R, 2, none⟩) s5).trans s4, Nat.lt_of_lt_of_le s5 hb.size⟩
    have S0 : wA.cell? ⟨w.heap.size + 1, 1, none⟩ = some (.func (.func Q) #[] #[]) ∧ wA.cell? ⟨R, 0, none⟩ = some (.int .i64 X) ∧ wA.cell? ⟨R, 1, none⟩ = some (.int .i64 Y) ∧ wA.cell? ⟨R, 2, none⟩ = some (.int .i64 z) ∧ R < wA.heap.size :=
      ⟨khA.cell 1 rfl, krA.cell 0 rfl, krA.cell 1 rfl, krA.cell 2 rfl, rA⟩
    have FIN : Hid (∀ (wB : World) (v6 : Value) (w6 : World), GrW wB w0.heap.size w0.heap.size (gRows up rs N k) → wB.cell? ⟨w0.heap.size, U, none⟩ = some v → Below w0.heap.size w0 wB →
        ((wB.alloc (.cells #[.int .i64 (k : Int), .int .i64 (V : Int), .int .i64 z] 138)).cell? ⟨w.heap.size + 1, 1, none⟩ = some (.func (.func Q) #[] #[]) ∧ (wB.alloc (.cells #[.int .i64 (k : Int), .int .i64 (V : Int), .int .i64 z] 138)).cell? ⟨R, 0, none⟩ = some (.int .i64 X) ∧ (wB.alloc (.cells #[.int .i64 (k : Int), .int .i64 (V : Int), .int .i64 z] 138)).cell? ⟨R, 1, none⟩ = some (.int .i64 Y) ∧ (wB.alloc (.cells #[.int .i64 (k : Int), .int .i64 (V : Int), .int .i64 z] 138)).cell? ⟨R, 2, none⟩ = some (.int .i64 z) ∧ R < (wB.alloc (.cells #[.int .i64 (k : Int), .int .i64 (V : Int), .int .i64 z] 138)).heap.size) →
        OwnU w6 w0.heap.size v6 (gRow up rs k U ++ [((k : Int), (V : Int), z)]) → (wB.alloc (.cells #[.int .i64 (k : Int), .int .i64 (V : Int), .int .i64 z] 138)).grownBy w6 v.ownBlock → (v6.ownBlock = v.ownBlock ∨ v6.ownBlock = some (wB.alloc (.cells #[.int .i64 (k : Int), .int .i64 (V : Int), .int .i64 z] 138)).heap.size) →
        (w6.cell? ⟨w.heap.size + 1, 1, none⟩ = some (.func (.func Q) #[] #[]) ∧ w6.cell? ⟨R, 0, none⟩ = some (.int .i64 X) ∧ w6.cell? ⟨R, 1, none⟩ = some (.int .i64 Y) ∧ w6.cell? ⟨R, 2, none⟩ = some (.int .i64 z) ∧ R < w6.heap.size) ∧ (∃ u, w6.cell? ⟨w0.heap.size, U, none⟩ = some u) ∧ w6.frozen? ⟨w0.heap.size, U, none⟩ = false ∧ True ∧
        ((w6.setCell ⟨w0.heap.size, U, none⟩ v6).cell? ⟨w.heap.size + 1, 1, none⟩ = some (.func (.func Q) #[] #[]) ∧ (w6.setCell ⟨w0.heap.size, U, none⟩ v6).cell? ⟨R, 0, none⟩ = some (.int .i64 X) ∧ (w6.setCell ⟨w0.heap.size, U, none⟩ v6).cell? ⟨R, 1, none⟩ = some (.int .i64 Y) ∧ (w6.setCell ⟨w0.heap.size, U, none⟩ v6).cell? ⟨R, 2, none⟩ = some (.int .i64 z) ∧ R < (w6.setCell ⟨w0.heap.size, U, none⟩ v6).heap.size) ∧
          GrW (w6.setCell ⟨w0.heap.size, U, none⟩ v6) w0.heap.size w0.heap.size ((gRows up rs N k).set U (gRow up rs k U ++ [((k : Int), (V : Int), z)])) ∧ Below w0.heap.size w0 (w6.setCell ⟨w0.heap.size, U, none⟩ v6)) := by
      show ∀ (wB : World) (v6 : Value) (w6 : World), _
      intro wB v6 w6 grB cvB bB hs hO hg hb6
      obtain ⟨s1, s2, s3, s4, s5⟩ := hs
      have hzt : (wB.alloc (.cells #[.int .i64 (k : Int), .int .i64 (V : Int), .int .i64 z] 138)).heap.size = wB.heap.size + 1 := World.size_alloc _ _
      have hz6 := hg.size
      have kH : v.ownBlock ≠ some (w.heap.size + 1) := fun e => by have := hov.ge e; omega
      have kR : v.ownBlock ≠ some R := fun e => by have := hvR _ e; omega
      have keep : ∀ i, i < wB.heap.size + 1 → v.ownBlock ≠ some i → w6.heap[i]? = (wB.alloc (.cells #[.int .i64 (k : Int), .int .i64 (V : Int), .int .i64 z] 138)).heap[i]? := fun i hi hne => hg.block i (by omega) (Ne.symm hne)
      have hzB : w0.heap.size ≤ wB.heap.size := bB.size
      have cH : ∀ o, w6.cell? ⟨w.heap.size + 1, o, none⟩ = (wB.alloc (.cells #[.int .i64 (k : Int), .int .i64 (V : Int), .int .i64 z] 138)).cell? ⟨w.heap.size + 1, o, none⟩ := fun o => World.cell?_of_block (a := ⟨w.heap.size + 1, o, none⟩) (keep (w.heap.size + 1) (by omega) kH)
      have cR : ∀ o, w6.cell? ⟨R, o, none⟩ = (wB.alloc (.cells #[.int .i64 (k : Int), .int .i64 (V : Int), .int .i64 z] 138)).cell? ⟨R, o, none⟩ := fun o => World.cell?_of_block (a := ⟨R, o, none⟩) (keep R (by omega) kR)
      have gl := grB.lt
      have hGG : w6.heap[w0.heap.size]? = wB.heap[w0.heap.size]? := (keep w0.heap.size (by omega) hvG).trans (Below.heap_alloc wB _ _ gl)
      have dH : ∀ o, (w6.setCell ⟨w0.heap.size, U, none⟩ v6).cell? ⟨w.heap.size + 1, o, none⟩ = w6.cell? ⟨w.heap.size + 1, o, none⟩ := fun o => World.cell?_of_block (a := ⟨w.heap.size + 1, o, none⟩) (Below.heap_setCell w6 ⟨w0.heap.size, U, none⟩ v6 _ (by show w.heap.size + 1 ≠ w0.heap.size; omega))
      have dR : ∀ o, (w6.setCell ⟨w0.heap.size, U, none⟩ v6).cell? ⟨R, o, none⟩ = w6.cell? ⟨R, o, none⟩ := fun o => World.cell?_of_block (a := ⟨R, o, none⟩) (Below.heap_setCell w6 ⟨w0.heap.size, U, none⟩ v6 _ (by show R ≠ w0.heap.size; omega))
      have hzs : (w6.setCell ⟨w0.heap.size, U, none⟩ v6).heap.size = w6.heap.size := by simp [World.setCell]
      have S6 : w6.cell? ⟨w.heap.size + 1, 1, none⟩ = some (.func (.func Q) #[] #[]) ∧ w6.cell? ⟨R, 0, none⟩ = some (.int .i64 X) ∧ w6.cell? ⟨R, 1, none⟩ = some (.int .i64 Y) ∧ w6.cell? ⟨R, 2, none⟩ = some (.int .i64 z) ∧ R < w6.heap.size := ⟨(cH 1).trans s1, (cR 0).trans s2, (cR 1).trans s3, (cR 2).trans s4, by omega⟩
      refine ⟨S6, ⟨v, (World.cell?_of_block (a := ⟨w0.heap.size, U, none⟩) hGG).trans cvB⟩, ?_, trivial, ⟨(dH 1).trans S6.1, (dR 0).trans S6.2.1, (dR 1).trans S6.2.2.1, (dR 2).trans S6.2.2.2.1, by omega⟩, ?_, ?_⟩
      · obtain ⟨_, _, _, _, fz, _⟩ := grB.row hUl
        rw [← fz]
        unfold World.frozen?
        rw [hGG]
      · have := grB.push hUl cvB (r := ((k : Int), (V : Int), z)) (by rw [HRk.out]; exact hO) hg hb6
        rwa [HRk.out] at this
      · exact (Below.grown (bB.alloc bB.size _) hg (by omega) (fun i hi => hov.ge hi)).setCell (p := ⟨w0.heap.size, U, none⟩) (Nat.le_refl _) v6
    have hbD : Below wA.heap.size wA wA.drew := (Below.refl _ _).drew
    clear krA khA kh kp
    go_wp2_with fail
    refine wp_region_tree (fun wx => wx.cell? ⟨w.heap.size + 1, 1, none⟩ = some (.func (.func Q) #[] #[]) ∧ wx.cell? ⟨R, 0, none⟩ = some (.int .i64 X) ∧ wx.cell? ⟨R, 1, none⟩ = some (.int .i64 Y) ∧ wx.cell? ⟨R, 2, none⟩ = some (.int .i64 z) ∧ R < wx.heap.size)
      (Pl.takes [0, 1, 2, 3, 4, 6, 7, 8, 9, 11, 12] (.fork 5 (.alone 10 (.takes [13] (.alone 14 (.alone 15 (.takes [16] (.alone 17 .done)))))) 10 (.takes [13] (.fork 5 (.alone 14 (.alone 15 (.takes [16] (.alone 17 .done)))) 14 (.alone 5 (.alone 15 (.takes [16] (.alone 17 .done))))))))
      (by kernel_rfl) (by kernel_rfl) (by kernel_rfl) (fun _ d _ _ _ h => by cases d <;> exact h) S0 (fun S0 => ?_)
    subst hve
    refine tplan_w (v := ?_) rfl (by rfl) ?_ ?_
    rotate_left
    · intro wx hSx
      try dsimp only at hSx
      go_simp
      try (with_reducible rfl)
    try simp only [Act.put, List.setIfInBounds_toArray, List.set_cons_zero, List.set_cons_succ]
    refine tplan_w (v := ?_) rfl (by rfl) ?_ ?_
    rotate_left
    · intro wx hSx
      try dsimp only at hSx
      go_simp
      try (with_reducible rfl)
    try simp only [Act.put, List.setIfInBounds_toArray, List.set_cons_zero, List.set_cons_succ]
    refine tplan_w (v := ?_) rfl (by rfl) ?_ ?_
    rotate_left
    · intro wx hSx
      try dsimp only at hSx
      go_simp
      try (with_reducible rfl)
    try simp only [Act.put, List.setIfInBounds_toArray, List.set_cons_zero, List.set_cons_succ]
    refine tplan_w (v := ?_) rfl (by rfl) ?_ ?_
    rotate_left
    · intro wx hSx
      try dsimp only at hSx
      go_simp
      try (with_reducible rfl)
    try simp only [Act.put, List.setIfInBounds_toArray, List.set_cons_zero, List.set_cons_succ]
    refine tplan_w (v := ?_) rfl (by rfl) ?_ ?_
    rotate_left
    · intro wx hSx
      try dsimp only at hSx
      go_simp
      try (with_reducible rfl)
    try simp only [Act.put, List.setIfInBounds_toArray, List.set_cons_zero, List.set_cons_succ]
    refine tplan_w (v := ?_) rfl (by rfl) ?_ ?_
    rotate_left
    · intro wx hSx
      try dsimp only at hSx
      go_simp
      try (with_reducible rfl)
    try simp only [Act.put, List.setIfInBounds_toArray, List.set_cons_zero, List.set_cons_succ]
    refine tplan_w (v := ?_) rfl (by rfl) ?_ ?_
    rotate_left
    · intro wx hSx
      try dsimp only at hSx
      go_simp
      try (with_reducible rfl)
    try simp only [Act.put, List.setIfInBounds_toArray, List.set_cons_zero, List.set_cons_succ]
    refine tplan_w (v := ?_) rfl (by rfl) ?_ ?_
    rotate_left
    · intro wx hSx
      try dsimp only at hSx
      go_simp
      try (with_reducible rfl)
    try simp only [Act.put, List.setIfInBounds_toArray, List.set_cons_zero, List.set_cons_succ]
    refine tplan_w (v := ?_) rfl (by rfl) ?_ ?_
    rotate_left
    · intro wx hSx
      try dsimp only at hSx
      go_simp
      try (with_reducible rfl)
    try simp only [Act.put, List.setIfInBounds_toArray, List.set_cons_zero, List.set_cons_succ]
    refine tplan_w (v := ?_) rfl (by rfl) ?_ ?_
    rotate_left
    · intro wx hSx
      try dsimp only at hSx
      go_simp
      try (with_reducible rfl)
    try simp only [Act.put, List.setIfInBounds_toArray, List.set_cons_zero, List.set_cons_succ]
    refine tplan_w (v := ?_) rfl (by rfl) ?_ ?_
    rotate_left
    · intro wx hSx
      try dsimp only at hSx
      go_simp
      try (with_reducible rfl)
    try simp only [Act.put, List.setIfInBounds_toArray, List.set_cons_zero, List.set_cons_succ]
    refine tplan_fork ?_ ?_
    · skip
      refine tplan_b rfl (fun K hK => ?_)
      go_simp
      refine hK _ _ ⟨S0, ?_⟩
      clear hK K
      try simp only [Act.put, List.setIfInBounds_toArray, List.set_cons_zero, List.set_cons_succ]
      refine tplan_b rfl (fun K hK => ?_)
      go_simp
      refine (CQ.out _).mono ?_
      rintro e wB ⟨rfl, hbB⟩
      have S1 := hS S0 hbB
      replace hbB := bl_trans hbD hbB
      have grB := grA.to hbB
      have cvB := (hbB.cell (p := ⟨w0.heap.size, U, none⟩) grA.lt).trans cvA
      have bB := bA.trans (hbB.mono bA.size)
      have hzB : wA.heap.size ≤ wB.heap.size := hbB.size
      refine hK _ _ ⟨S1, ?_⟩
      clear hK K
      try simp only [Act.put, List.setIfInBounds_toArray, List.set_cons_zero, List.set_cons_succ]
      refine tplan_w (v := ?_) rfl (by rfl) ?_ ?_
      rotate_left
      · intro wx hSx
        try dsimp only at hSx
        go_simp
        try (with_reducible rfl)
      try simp only [Act.put, List.setIfInBounds_toArray, List.set_cons_zero, List.set_cons_succ]
      have hbC : Below wB.heap.size wB (wB.alloc (.cells #[.int .i64 (k : Int), .int .i64 (V : Int), .int .i64 z] 138)) := (Below.refl _ _).alloc (Nat.le_refl _) _
      have S2 := hS S1 hbC
      have kC := Blk.new wB #[.int .i64 (k : Int), .int .i64 (V : Int), .int .i64 z] 138
      have cvC := (hbC.cell (p := ⟨w0.heap.size, U, none⟩) grB.lt).trans cvB
      refine tplan_b rfl (fun K hK => ?_)
      go_simp
      refine hK _ _ ⟨S2, ?_⟩
      clear hK K
      try simp only [Act.put, List.setIfInBounds_toArray, List.set_cons_zero, List.set_cons_succ]
      have bC := bB.trans (hbC.mono bB.size)
      have hoC := hov.to (bl_step hbB hbC hbB.size)
      refine tplan_b rfl (fun K hK => ?_)
      refine step_append_pu (by rfl) (.tmp 29) (.tmp 38) (by rfl) w0.heap.size _ (gRow up rs k U) (k : Int) (V : Int) z wB.heap.size (by rfl) hoC (by rfl) kC hLl bC.size ?_
      intro v6 w6 hO6 hgrow howb
      obtain ⟨S3, ⟨u6, f4⟩, f5, _, f7⟩ := FIN.out wB v6 w6 grB cvB bB S2 hO6 hgrow howb
      obtain ⟨A6, c6, hv6, _⟩ := hO6.cells
      obtain ⟨q6, hq6⟩ : ∃ q, (gRow up rs k U ++ [((k : Int), (V : Int), z)]).length = q := ⟨_, rfl⟩
      rw [hq6] at hv6
      clear hq6 hO6 hgrow howb
      subst hv6
      refine hK _ _ ⟨S3, ?_⟩
      clear hK K
      try simp only [Act.put, List.setIfInBounds_toArray, List.set_cons_zero, List.set_cons_succ]
      refine tplan_w (v := ?_) rfl (by rfl) ?_ ?_
      rotate_left
      · intro wx hSx
        try dsimp only at hSx
        go_simp
        try (with_reducible rfl)
      try simp only [Act.put, List.setIfInBounds_toArray, List.set_cons_zero, List.set_cons_succ]
      refine tplan_b rfl (fun K hK => ?_)
      go_simp
      refine hK _ _ ⟨f7.1, ?_⟩
      clear hK K
      try simp only [Act.put, List.setIfInBounds_toArray, List.set_cons_zero, List.set_cons_succ]
      refine tplan_endQ ?_
      go_wp2
      go_roundw
      case rel => exact ⟨k + 1, by omega, by go_num, by rw [HNX.out]; exact f7.2.1, f7.2.2⟩
      case measure => simp [intOf]; omega
    · skip
      refine tplan_b rfl (fun K hK => ?_)
      go_simp
      refine (CQ.out _).mono ?_
      rintro e wB ⟨rfl, hbB⟩
      have S1 := hS S0 hbB
      replace hbB := bl_trans hbD hbB
      have grB := grA.to hbB
      have cvB := (hbB.cell (p := ⟨w0.heap.size, U, none⟩) grA.lt).trans cvA
      have bB := bA.trans (hbB.mono bA.size)
      have hzB : wA.heap.size ≤ wB.heap.size := hbB.size
      refine hK _ _ ⟨S1, ?_⟩
      clear hK K
      try simp only [Act.put, List.setIfInBounds_toArray, List.set_cons_zero, List.set_cons_succ]
      refine tplan_w (v := ?_) rfl (by rfl) ?_ ?_
      rotate_left
      · intro wx hSx
        try dsimp only at hSx
        go_simp
        try (with_reducible rfl)
      try simp only [Act.put, List.setIfInBounds_toArray, List.set_cons_zero, List.set_cons_succ]
      refine tplan_fork ?_ ?_
      · skip
        refine tplan_b rfl (fun K hK => ?_)
        go_simp
        refine hK _ _ ⟨S1, ?_⟩
        clear hK K
        try simp only [Act.put, List.setIfInBounds_toArray, List.set_cons_zero, List.set_cons_succ]
        have hbC : Below wB.heap.size wB (wB.alloc (.cells #[.int .i64 (k : Int), .int .i64 (V : Int), .int .i64 z] 138)) := (Below.refl _ _).alloc (Nat.le_refl _) _
        have S2 := hS S1 hbC
        have kC := Blk.new wB #[.int .i64 (k : Int), .int .i64 (V : Int), .int .i64 z] 138
        have cvC := (hbC.cell (p := ⟨w0.heap.size, U, none⟩) grB.lt).trans cvB
        refine tplan_b rfl (fun K hK => ?_)
        go_simp
        refine hK _ _ ⟨S2, ?_⟩
        clear hK K
        try simp only [Act.put, List.setIfInBounds_toArray, List.set_cons_zero, List.set_cons_succ]
        have bC := bB.trans (hbC.mono bB.size)
        have hoC := hov.to (bl_step hbB hbC hbB.size)
        refine tplan_b rfl (fun K hK => ?_)
        refine step_append_pu (by rfl) (.tmp 29) (.tmp 38) (by rfl) w0.heap.size _ (gRow up rs k U) (k : Int) (V : Int) z wB.heap.size (by rfl) hoC (by rfl) kC hLl bC.size ?_
        intro v6 w6 hO6 hgrow howb
        obtain ⟨S3, ⟨u6, f4⟩, f5, _, f7⟩ := FIN.out wB v6 w6 grB cvB bB S2 hO6 hgrow howb
        obtain ⟨A6, c6, hv6, _⟩ := hO6.cells
        obtain ⟨q6, hq6⟩ : ∃ q, (gRow up rs k U ++ [((k : Int), (V : Int), z)]).length = q := ⟨_, rfl⟩
        rw [hq6] at hv6
        clear hq6 hO6 hgrow howb
        subst hv6
        refine hK _ _ ⟨S3, ?_⟩
        clear hK K
        try simp only [Act.put, List.setIfInBounds_toArray, List.set_cons_zero, List.set_cons_succ]
        refine tplan_w (v := ?_) rfl (by rfl) ?_ ?_
        rotate_left
        · intro wx hSx
          try dsimp only at hSx
          go_simp
          try (with_reducible rfl)
        try simp only [Act.put, List.setIfInBounds_toArray, List.set_cons_zero, List.set_cons_succ]
        refine tplan_b rfl (fun K hK => ?_)
        go_simp
        refine hK _ _ ⟨f7.1, ?_⟩
        clear hK K
        try simp only [Act.put, List.setIfInBounds_toArray, List.set_cons_zero, List.set_cons_succ]
        refine tplan_endQ ?_
        go_wp2
        go_roundw
        case rel => exact ⟨k + 1, by omega, by go_num, by rw [HNX.out]; exact f7.2.1, f7.2.2⟩
        case measure => simp [intOf]; omega
      · skip
        have hbC : Below wB.heap.size wB (wB.alloc (.cells #[.int .i64 (k : Int), .int .i64 (V : Int), .int .i64 z] 138)) := (Below.refl _ _).alloc (Nat.le_refl _) _
        have S2 := hS S1 hbC
        have kC := Blk.new wB #[.int .i64 (k : Int), .int .i64 (V : Int), .int .i64 z] 138
        have cvC := (hbC.cell (p := ⟨w0.heap.size, U, none⟩) grB.lt).trans cvB
        refine tplan_b rfl (fun K hK => ?_)
        go_simp
        refine hK _ _ ⟨S2, ?_⟩
        clear hK K
        try simp only [Act.put, List.setIfInBounds_toArray, List.set_cons_zero, List.set_cons_succ]
        refine tplan_b rfl (fun K hK => ?_)
        go_simp
        refine hK _ _ ⟨S2, ?_⟩
        clear hK K
        try simp only [Act.put, List.setIfInBounds_toArray, List.set_cons_zero, List.set_cons_succ]
        have bC := bB.trans (hbC.mono bB.size)
        have hoC := hov.to (bl_step hbB hbC hbB.size)
        refine tplan_b rfl (fun K hK => ?_)
        refine step_append_pu (by rfl) (.tmp 29) (.tmp 38) (by rfl) w0.heap.size _ (gRow up rs k U) (k : Int) (V : Int) z wB.heap.size (by rfl) hoC (by rfl) kC hLl bC.size ?_
        intro v6 w6 hO6 hgrow howb
        obtain ⟨S3, ⟨u6, f4⟩, f5, _, f7⟩ := FIN.out wB v6 w6 grB cvB bB S2 hO6 hgrow howb
        obtain ⟨A6, c6, hv6, _⟩ := hO6.cells
        obtain ⟨q6, hq6⟩ : ∃ q, (gRow up rs k U ++ [((k : Int), (V : Int), z)]).length = q := ⟨_, rfl⟩
        rw [hq6] at hv6
        clear hq6 hO6 hgrow howb
        subst hv6
        refine hK _ _ ⟨S3, ?_⟩
        clear hK K
        try simp only [Act.put, List.setIfInBounds_toArray, List.set_cons_zero, List.set_cons_succ]
        refine tplan_w (v := ?_) rfl (by rfl) ?_ ?_
        rotate_left
        · intro wx hSx
          try dsimp only at hSx
          go_simp
          try (with_reducible rfl)
        try simp only [Act.put, List.setIfInBounds_toArray, List.set_cons_zero, List.set_cons_succ]
        refine tplan_b rfl (fun K hK => ?_)
        go_simp
        refine hK _ _ ⟨f7.1, ?_⟩
        clear hK K
        try simp only [Act.put, List.setIfInBounds_toArray, List.set_cons_zero, List.set_cons_succ]
        refine tplan_endQ ?_
        go_wp2
        go_roundw
        case rel => exact ⟨k + 1, by omega, by go_num, by rw [HNX.out]; exact f7.2.1, f7.2.2⟩
        case measure => simp [intOf]; omega
end Go.Proofs.Ytgpcfkegbcpkpaa
