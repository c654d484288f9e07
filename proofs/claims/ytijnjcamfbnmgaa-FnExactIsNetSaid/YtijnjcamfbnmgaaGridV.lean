/-
  Contract: ValidGrid, as the program has it and as the model has it.
-/
import Derived.Test.YtijnjcamfbnmgaaGridI
import Derived.Test.YtijnjcamfbnmgaaPan
namespace Go.Proofs.Ytijnjcamfbnmgaa
set_option linter.unusedSimpArgs false
set_option linter.unusedVariables false
open Go.ChangeShapes Go.WideShapes Go.ChangeAt Go.RowKit Go.BigFrame

abbrev gridV (AA : Option Addr) (lA cA : Nat) (AU : Option Addr) (lU cU : Nat) : Value := .agg #[.slice AA lA cA, .slice AU lU cU]
theorem ValidGridS_any (AA : Option Addr) (A : List SlI) (cA : Nat) (AU : Option Addr) (U : List SlI) (cU : Nat) (w : World) (hp : GrAt w w.heap.size AA A AU U) (hs : GrSz A U) :
    Calls Try.prog 35 #[.agg #[.slice AA A.length cA, .slice AU U.length cU]] w fun e w' => e = .returned (.bool (gvB (heldI A) (heldI U))) ∧ Below w.heap.size w w' := by
  have hx : Below w.heap.size w (w.alloc (.cells #[.slice AA A.length cA, .slice AU U.length cU] 53)) := by (repeat (first | assumption | exact Below.refl _ _ | (refine bl_alloc ?_ _) | (refine Below.drew ?_) | (refine bl_drewN ?_ _) | (refine bl_set ?_ (by first | (simp; done) | omega | (simp; omega)) _) | (refine bl_trans ?_ (by assumption)) | (refine bl_step ?_ (by assumption) (by first | omega | exact Below.size (by assumption) | (simp; omega) | (simp; exact Below.size (by assumption))))))
  have cc := l08Is_any w.heap.size AA A cA AU U cU (w.alloc (.cells #[.slice AA A.length cA, .slice AU U.length cU] 53)) (by go_simp) (by go_simp) (hp.to hx) hs
  go_enter Try.func35, Try.ntmps35
  go_wp2_with fail
  refine cc.mono ?_
  rintro e w1 ⟨rfl, hb1⟩
  go_wp2
  go_ret
  exact ⟨rfl, bl_step hx hb1 hx.size⟩
set_option maxRecDepth 100000 in
set_option maxHeartbeats 3200000 in
theorem ValidGridI_any (AA : Option Addr) (A : List SlI) (cA : Nat) (AU : Option Addr) (U : List SlI) (cU : Nat) (w : World) (hp : GrAt w w.heap.size AA A AU U) (hs : GrSz A U) :
    Calls Try.prog 37 #[.agg #[.slice AA A.length cA, .slice AU U.length cU]] w fun e w' => e = .returned (.bool (gvB (heldI A) (heldI U))) ∧ Below w.heap.size w w' := by
  have hx : Below w.heap.size w (w.alloc (.cells #[.slice AA A.length cA, .slice AU U.length cU] 53)) := by (repeat (first | assumption | exact Below.refl _ _ | (refine bl_alloc ?_ _) | (refine Below.drew ?_) | (refine bl_drewN ?_ _) | (refine bl_set ?_ (by first | (simp; done) | omega | (simp; omega)) _) | (refine bl_trans ?_ (by assumption)) | (refine bl_step ?_ (by assumption) (by first | omega | exact Below.size (by assumption) | (simp; omega) | (simp; exact Below.size (by assumption))))))
  have kg := Blk.new w #[.slice AA A.length cA, .slice AU U.length cU] 53
  obtain ⟨hA, hU⟩ := hp.to hx
  obtain ⟨⟨lA, mA⟩, lU, mU⟩ := hs
  have hAl := heldI_len A
  clear hp
  by_cases h0 : 0 < A.length
  case neg =>
    have R : Hid (gvB (heldI A) (heldI U) = false) := gvB_0 (by rw [hAl]; exact h0)
    rw [show A.length = 0 by omega] at hx ⊢
    rw [R.out]
    clear hA hU mA mU h0 hAl kg
    go_enter Try.func37, Try.ntmps37
    go_wp2
    go_ret
    exact ⟨rfl, hx⟩
  obtain ⟨L, hL⟩ : ∃ L, A.length = L := ⟨_, rfl⟩
  obtain ⟨n, hn⟩ : ∃ n, (A.getD 0 si0).2.1.length = n := ⟨_, rfl⟩
  have hn0 : ((heldI A).getD 0 []).length = n := by rw [heldI_at]; exact hn
  have hm0 := mA 0 h0
  obtain ⟨b, off, rfl, hbB, hc⟩ := hA h0
  have d0 := (hc 0 h0).1
  rw [hn] at d0 hm0
  rw [Nat.add_zero] at d0
  have CR0 := fun (wx : World) (hb : Below (w.alloc (.cells #[.slice (some ⟨b, off, none⟩) A.length cA, .slice AU U.length cU] 53)).heap.size (w.alloc (.cells #[.slice (some ⟨b, off, none⟩) A.length cA, .slice AU U.length cU] 53)) wx) (hI nI : Int) (h m : Nat) (hm : m ≤ 8) (eh : hI = (h : Int)) (en : nI = (m : Int)) => areRooms_any (some ⟨b, off, none⟩) A cA h m hI nI wx (hA.to hb) (by omega) mA hm eh en
  have CU0 := fun (wx : World) (hb : Below (w.alloc (.cells #[.slice (some ⟨b, off, none⟩) A.length cA, .slice AU U.length cU] 53)).heap.size (w.alloc (.cells #[.slice (some ⟨b, off, none⟩) A.length cA, .slice AU U.length cU] 53)) wx) (hI nI : Int) (h m : Nat) (hm : m ≤ 8) (eh : hI = (h : Int)) (en : nI = (m : Int)) => areRooms_any AU U cU h m hI nI wx (hU.to hb) lU mU hm eh en
  have CR := Lib.hid CR0
  have CU := Lib.hid CU0
  clear CR0 CU0
  rw [hL] at CR CU hAl kg hx h0 lA d0 hbB ⊢
  have LI : (L : Int) ≤ 1048576 := by omega
  have nI : (n : Int) ≤ 1048576 := by omega
  have h0I : (0 : Int) < (L : Int) := by omega
  have hne : ((L : Int) == 0) = false := by simp; omega
  have HL := Lib.hid hAl
  have HN := Lib.hid hn0
  have HM := Lib.hid hm0
  clear hc hn mA mU hA hU hn0 hAl hL hm0
  generalize heldI A = J at *
  generalize heldI U = K at *
  generalize hlU : U.length = lu at *
  have HW : Hid (∀ x, Calls Try.prog 73 #[.agg #[.slice (some ⟨b, off, none⟩) L cA, .slice AU lu cU]] (over (w.alloc (.cells #[.slice (some ⟨b, off, none⟩) L cA, .slice AU lu cU] 53)) x) fun e w' => e = .returned (.int .i64 ((n : Int) + 1)) ∧ Below (over (w.alloc (.cells #[.slice (some ⟨b, off, none⟩) L cA, .slice AU lu cU] 53)) x).heap.size (over (w.alloc (.cells #[.slice (some ⟨b, off, none⟩) L cA, .slice AU lu cU] 53)) x) w') := fun x =>
    width_any b off cA _ _ L n AU lu cU _ ((over_cell hbB x off).trans d0) h0 HM.out (Nat.lt_of_lt_of_le hbB (over_below _ x).size)
  clear hlU d0 hbB
  have g0 := kg.cell 0 (v := .slice (some ⟨b, off, none⟩) L cA) rfl
  have g1 := kg.cell 1 (v := .slice AU lu cU) rfl
  have lg := kg.lt
  clear kg
  by_cases h7 : n ≤ 7
  case neg =>
    have R : Hid (gvB J K = false) := gvB_w (by rw [HN.out]; exact h7)
    have HI : Hid (inB ((n : Int) + 1) 1 8 = false) := inB_f (by omega)
    rw [R.out]
    clear CR CU h7
    go_enter Try.func37, Try.ntmps37
    go_wp2_with fail
    generalize (w.alloc (.cells #[.slice (some ⟨b, off, none⟩) L cA, .slice AU lu cU] 53)) = w1 at *
    refine wp_region_over (by kernel_rfl) (by kernel_rfl) ?_
    have hov := over_cells w1
    repeat (go_big_quiet_step ((first | (go_at_call 73; exact overC (HW.out _)) | (go_at_call 74; exact overC (height_any _ _ _ _ _ _ _)))))
    refine over_nil (fun w2 hb2 => ?_)
    clear hov
    have bb := bl_step hx hb2 hx.size
    go_wp2_with fail
    refine (isGridSide_any _ _ HI _).mono ?_
    rintro e w' ⟨rfl, rfl⟩
    go_wp2
    go_ret
    exact ⟨rfl, bb⟩
  have HI : Hid (inB ((n : Int) + 1) 1 8 = true) := inB_t (by omega) (by omega)
  by_cases h8 : L ≤ 8
  case neg =>
    have R : Hid (gvB J K = false) := gvB_h (by rw [HL.out]; exact h8)
    have HI2 : Hid (inB (L : Int) 1 8 = false) := inB_f (by omega)
    rw [R.out]
    clear CR CU h7 h8
    go_enter Try.func37, Try.ntmps37
    go_wp2_with fail
    generalize (w.alloc (.cells #[.slice (some ⟨b, off, none⟩) L cA, .slice AU lu cU] 53)) = w1 at *
    refine wp_region_over (by kernel_rfl) (by kernel_rfl) ?_
    have hov := over_cells w1
    repeat (go_big_quiet_step ((first | (go_at_call 73; exact overC (HW.out _)) | (go_at_call 74; exact overC (height_any _ _ _ _ _ _ _)))))
    refine over_nil (fun w2 hb2 => ?_)
    clear hov
    have bb := bl_step hx hb2 hx.size
    go_wp2_with fail
    refine (isGridSide_any _ _ HI _).mono ?_
    rintro e w' ⟨rfl, rfl⟩
    go_wp2_with fail
    refine (isGridSide_any _ _ HI2 _).mono ?_
    rintro e w' ⟨rfl, rfl⟩
    go_wp2
    go_ret
    exact ⟨rfl, bb⟩
  have HI2 : Hid (inB (L : Int) 1 8 = true) := inB_t (by omega) (by omega)
  have R : Hid (gvB J K = (gRowsB J L n && gRowsB K (L - 1) (n + 1))) := by
    have := gvB_r (A := J) (U := K) (by rw [HL.out]; exact h0) (by rw [HN.out]; exact h7) (by rw [HL.out]; exact h8)
    rw [HL.out, HN.out] at this
    exact this
  have C1 := Lib.hid (fun wx hb => CR.out wx hb (L : Int) (n : Int) L n (by omega) rfl rfl)
  have C2 := Lib.hid (fun wx hb => CU.out wx hb ((L : Int) - 1) ((n : Int) + 1) (L - 1) (n + 1) (by omega) (by omega) (by omega))
  have h7I : (n : Int) ≤ 7 := by omega
  have h8I : (L : Int) ≤ 8 := by omega
  rw [R.out]
  clear CR CU h7 h8 R
  cases hr : gRowsB J L n
  · rw [hr] at C1
    clear hr C2
    go_enter Try.func37, Try.ntmps37
    go_wp2_with fail
    generalize (w.alloc (.cells #[.slice (some ⟨b, off, none⟩) L cA, .slice AU lu cU] 53)) = w1 at *
    refine wp_region_over (by kernel_rfl) (by kernel_rfl) ?_
    have hov := over_cells w1
    repeat (go_big_quiet_step ((first | (go_at_call 73; exact overC (HW.out _)) | (go_at_call 74; exact overC (height_any _ _ _ _ _ _ _)))))
    refine over_nil (fun w2 hb2 => ?_)
    clear hov
    have e0 := (hb2.cell (p := ⟨w.heap.size, 0, none⟩) lg).trans g0
    have e1 := (hb2.cell (p := ⟨w.heap.size, 1, none⟩) lg).trans g1
    have bb := bl_step hx hb2 hx.size
    clear g0 g1
    go_wp2_with fail
    refine (isGridSide_any _ _ HI _).mono ?_
    rintro e w' ⟨rfl, rfl⟩
    go_wp2_with fail
    refine (isGridSide_any _ _ HI2 _).mono ?_
    rintro e w' ⟨rfl, rfl⟩
    go_wp2_with fail
    refine (C1.out _ hb2).mono ?_
    rintro e w3 ⟨rfl, hb3⟩
    go_wp2
    go_ret
    exact ⟨rfl, bl_step bb hb3 bb.size⟩
  · rw [hr] at C1
    clear hr
    generalize gRowsB K (L - 1) (n + 1) = z at *
    go_enter Try.func37, Try.ntmps37
    go_wp2_with fail
    generalize (w.alloc (.cells #[.slice (some ⟨b, off, none⟩) L cA, .slice AU lu cU] 53)) = w1 at *
    refine wp_region_over (by kernel_rfl) (by kernel_rfl) ?_
    have hov := over_cells w1
    repeat (go_big_quiet_step ((first | (go_at_call 73; exact overC (HW.out _)) | (go_at_call 74; exact overC (height_any _ _ _ _ _ _ _)))))
    refine over_nil (fun w2 hb2 => ?_)
    clear hov
    have e0 := (hb2.cell (p := ⟨w.heap.size, 0, none⟩) lg).trans g0
    have e1 := (hb2.cell (p := ⟨w.heap.size, 1, none⟩) lg).trans g1
    have bb := bl_step hx hb2 hx.size
    go_wp2_with fail
    refine (isGridSide_any _ _ HI _).mono ?_
    rintro e w' ⟨rfl, rfl⟩
    go_wp2_with fail
    refine (isGridSide_any _ _ HI2 _).mono ?_
    rintro e w' ⟨rfl, rfl⟩
    go_wp2_with fail
    refine (C1.out _ hb2).mono ?_
    rintro e w3 ⟨rfl, hb3⟩
    have hb23 := bl_trans hb2 hb3
    have f0 := (hb23.cell (p := ⟨w.heap.size, 0, none⟩) lg).trans g0
    have f1 := (hb23.cell (p := ⟨w.heap.size, 1, none⟩) lg).trans g1
    clear g0 g1 e0 e1
    go_wp2_with fail
    refine (C2.out _ hb23).mono ?_
    rintro e w4 ⟨rfl, hb4⟩
    go_wp2
    go_ret
    exact ⟨by simp, bl_step (bl_step bb hb3 bb.size) hb4 (bl_step bb hb3 bb.size).size⟩
end Go.Proofs.Ytijnjcamfbnmgaa
