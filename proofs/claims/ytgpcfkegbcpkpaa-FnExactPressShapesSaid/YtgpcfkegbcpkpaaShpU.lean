/-
  Contracts: PressShapes, as the model has it.
-/
import Derived.Test.YtgpcfkegbcpkpaaShpD
import Derived.Test.YtgpcfkegbcpkpaaLstS
namespace Go.Proofs.Ytgpcfkegbcpkpaa
set_option linter.unusedSimpArgs false
set_option linter.unusedVariables false
open Go.ChangeShapes Go.WideShapes Go.ChangeAt Go.RowKit Go.BigFrame

theorem add_at (g o k : Nat) : (⟨g, o, none⟩ : Addr).add k = ⟨g, o + k, none⟩ := by unfold Addr.add; split <;> simp_all
set_option maxRecDepth 100000 in
set_option maxHeartbeats 3200000 in
theorem PressShapesS_any (A : Option Addr) (ss : List R4) (c : Nat) (a : Int) (w : World) (hp : ShpAt w w.heap.size A ss) (hl : ss.length ≤ 1048576) :
    Calls Try.prog 48 #[.slice A ss.length c, .int .i64 a] w (SpRes ((prsO ss a).getD []) (prsO ss a).isSome w) := by
  have cs := Lib.hid (ShapeRulesS_any A ss c a w hp hl)
  cases hs : shpO ss a
  case none =>
    obtain ⟨e1, e2, e3⟩ := shL_none hs
    have HP := Lib.hid (prsO_n hs)
    rw [e1, e2, hs] at cs
    rw [HP.out]
    clear hp hs e1 e2 e3
    go_enter Try.func48, Try.ntmps48
    go_wp2_with fail
    refine cs.out.mono ?_
    rintro e w1 ⟨B, d, rfl, _, hb1⟩
    have xF : Below w.heap.size w (w1.alloc (.cells #[.int .i64 0, .slice B 0 d] 29)) := hb1.alloc hb1.size _
    go_wp2
    go_ret2
    exact ⟨none, 0, rfl, Own6.none_ _ _ _, xF⟩
  case some L =>
    obtain ⟨e1, e2, e3⟩ := shL_some hs
    obtain ⟨h0, hv⟩ := shpO_facts hs
    have CL := Lib.hid (fun (g : Nat) (B : Option Addr) (d : Nat) (wx : World) (c0 : wx.cell? ⟨g, 0, none⟩ = some (.int .i64 (ss.length : Int))) (c1 : wx.cell? ⟨g, 1, none⟩ = some (.slice B L.length d)) (hr : RulAt wx wx.heap.size B L) => by
      have := l09Least_any g (ss.length : Int) B L d wx c0 c1 hr hv
      rw [Int.toNat_natCast] at this
      exact this)
    have P2 := Lib.hid (fun (h2 : lpO ss L = none) => prsO_l hs h2)
    have P3 := Lib.hid (fun (ds : List Int) (h2 : lpO ss L = some ds) => prsO_s hs h2)
    obtain ⟨b, off, hA, hb, hc⟩ := hp h0
    subst hA
    have HC := Lib.hid (fun (wx : World) (hx : Below w.heap.size w wx) => news_shp (w := wx) (b := b) (off := off) (L := ss) fun i hi => ⟨(hx.cell (p := ⟨b, _, none⟩) hb).trans (hc i hi).1, (hx.cell (p := ⟨b, _, none⟩) hb).trans (hc i hi).2.1, (hx.cell (p := ⟨b, _, none⟩) hb).trans (hc i hi).2.2.1, (hx.cell (p := ⟨b, _, none⟩) hb).trans (hc i hi).2.2.2⟩)
    have H0 := Lib.hid h0
    rw [e1, e2, hs] at cs
    clear hp hs e1 e2 e3 h0 hv hc
    generalize prsO ss a = RR at *
    go_enter Try.func48, Try.ntmps48
    go_wp2_with fail
    refine cs.out.mono ?_
    rintro e w1 ⟨B, d, rfl, ho, hb1⟩
    have hb2 : Below w1.heap.size w1 (w1.alloc (.cells #[.int .i64 (ss.length : Int), .slice B L.length d] 29)) := (Below.refl _ _).alloc (Nat.le_refl _) _
    have kp := Blk.new w1 #[.int .i64 (ss.length : Int), .slice B L.length d] 29
    have CL2 := Lib.hid (CL.out w1.heap.size B d _ (kp.cell 0 rfl) (kp.cell 1 rfl) (ho.to hb2).rul)
    have x2 := bl_trans hb1 hb2
    clear ho hb1 hb2 CL cs kp
    go_wp2_with fail
    generalize (w1.alloc (.cells #[.int .i64 (ss.length : Int), .slice B L.length d] 29)) = w2 at *
    refine CL2.out.mono ?_
    rintro e w3 ⟨⟨ds, G, hD, rfl, hG, hGz⟩ | ⟨hD, rfl⟩, hb3⟩
    case inr =>
      have HD := Lib.hid (P2.out hD)
      have xF := bl_trans x2 hb3
      clear hD P2 P3 CL2
      go_wp2
      go_ret2
      rw [HD.out]
      exact ⟨none, 0, rfl, Own6.none_ _ _ _, xF⟩
    have HE := Lib.hid (P3.out ds hD)
    have hdl := lpO_len hD
    have b3 := bl_trans x2 hb3
    have hwG : w.heap.size ≤ G := Nat.le_trans x2.size hGz
    clear hD P2 P3 CL2 x2 hb3 hGz
    obtain ⟨N, hN⟩ : ∃ N, N = ds.length := ⟨_, rfl⟩
    rw [← hN]
    rw [← hN] at hG hdl
    have hNs : (N : Int) ≤ 1048576 := by omega
    have HN := Lib.hid hN
    have HDL := Lib.hid hdl
    clear hN hdl
    have b4 : Below w.heap.size w (w3.alloc (.cells #[] 78)) := b3.alloc b3.size _
    have hoE : (w3.alloc (.cells #[] 78)).ownsRow w3.heap.size 78 4 (.slice (some ⟨w3.heap.size, 0, none⟩) 0 0) 0 [] := ⟨rfl, .inr ⟨w3.heap.size, 0, #[], rfl, Nat.le_refl _, heap_alloc_new w3 _, Nat.le_refl _, Nat.zero_le _, rfl, rfl⟩⟩
    have HN4 := Lib.hid (HC.out _ b4)
    have hG4 : NBlk (w3.alloc (.cells #[] 78)) G ds N := hG.to ((Below.refl _ _).alloc (Nat.le_refl _) _)
    have hGl := hG.lt
    have hz4 : (w3.alloc (.cells #[] 78)).heap.size = w3.heap.size + 1 := World.size_alloc _ _
    have hz3 := b3.size
    have HZ4 := Lib.hid hz4
    obtain ⟨i0, hi0, hiz, his, hib⟩ := info_parts infoShp
    clear hG b3 HC hz4
    go_wp2_with (at_builtin; refine Hid.out ?_)
    refine Lib.hid ?_
    refine wpList_append_own_at _ (by rfl) (.tmp 26) (.tmp 27) 41 (by rfl) w3.heap.size 78 i0 _ 4 32 Try.underlying41 hi0 hiz his hib rfl (by decide) (.slice (some ⟨w3.heap.size, 0, none⟩) 0 0) 0 [] (by rfl) hoE ⟨b, off, none⟩ ss.length c (cellsH ss) (by rfl) (cellsH_len ss) (fun j u hu => by rw [add_at]; exact HN4.out j u hu) (cellsH_one _) (by unfold maxLen; omega) (by omega) (by rw [HZ4.out]; omega) ?_
    intro v6 w6 hown6 hgrow6 _ hblk6
    obtain ⟨g, d6, rfl, hg, hP⟩ := shp_of_own (L := ss) (by simpa using hown6) H0.out
    have hG6 : NBlk w6 G ds N := hG4.keep (hgrow6.block G (by rw [HZ4.out]; omega) (by simp [Value.ownBlock]; omega))
    have b6 : Below w.heap.size w w6 := Below.grown b4 hgrow6 (by rw [HZ4.out]; omega) (fun k e => by simp [Value.ownBlock] at e; omega)
    have hgG : G ≠ g := by omega
    have hwg : w.heap.size ≤ g := by omega
    have hsS : (ss.length : Int) ≤ 1048576 := by omega
    clear hown6 hgrow6 hblk6 hG4 b4 hoE HN4 hz3 hg
    go_wp2
    go_loopw [11] (fun i wr => ∃ j : Nat, j ≤ ss.length ∧ i = .int .i64 j ∧ ShpBlk wr g (mixX ss ds j) ss.length ∧ NBlk wr G ds N ∧ Below w.heap.size w wr) (fun i _ => ss.length - (intOf i).toNat)
    case atStart => exact ⟨0, Nat.zero_le _, rfl, hP, hG6, b6⟩
    case round =>
      clear hP hG6 b6
      obtain ⟨j, hj, rfl, hP, hG, hb⟩ := hrel
      by_cases hlt : j < ss.length
      · have hjI : (j : Int) < (ss.length : Int) := by omega
        have hj0 : (0 : Int) ≤ (j : Int) := by omega
        have hjn : j < N := by rw [HDL.out]; exact hlt
        have hjN : (j : Int) < (N : Int) := by omega
        have t0 := hG.at_ (i := j) hjn (by rw [← HN.out]; exact hjn)
        have f0 := hP.frozen (j * 4)
        obtain ⟨v0, q0⟩ := hP.there (i := j * 4) (by rw [mixX_len]; omega)
        have hP' := mix_step hP hlt
        have hG' : NBlk (wr.setCell ⟨g, j * 4, none⟩ (.int .i64 (ds.getD j 0))) G ds N := hG.keep (Below.heap_setCell _ _ _ G (by show G ≠ g; exact hgG))
        have hb' : Below w.heap.size w (wr.setCell ⟨g, j * 4, none⟩ (.int .i64 (ds.getD j 0))) := hb.setCell (p := ⟨g, j * 4, none⟩) hwg _
        clear hP hG hb
        go_wp2
        go_roundw
        case rel => exact ⟨j + 1, by omega, by go_num, hP', hG', hb'⟩
        case measure => simp [intOf]; omega
      · have hje : j = ss.length := by omega
        have HM : Hid (RR = some (mixX ss ds j)) := by show _ = _; rw [HE.out, hje]
        have hln := mixX_len ss ds j
        have HJ : ¬ ((j : Int) < (ss.length : Int)) := by omega
        have HLN := Lib.hid hln
        clear HE hG HDL HN hln hje
        go_wp2
        go_ret2
        rw [HM.out]
        exact ⟨some ⟨g, 0, none⟩, d6, by simp only [Option.getD_some, Option.isSome_some, HLN.out]; rfl, fun _ => ⟨g, rfl, hwg, by simp only [Option.getD_some, HLN.out]; exact hP⟩, hb⟩
end Go.Proofs.Ytgpcfkegbcpkpaa
