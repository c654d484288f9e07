/-
  Contract: the latest places, as the model has them.
-/
import Derived.Test.YtgpcfkegbcpkpaaSetl
namespace Go.Proofs.Ytgpcfkegbcpkpaa
set_option linter.unusedSimpArgs false
set_option linter.unusedVariables false
open Go.ChangeShapes Go.WideShapes Go.ChangeAt Go.RowKit Go.BigFrame

/-- Places seen from the other end. -/
def mir (t : Int) (ds : List Int) : List Int := ds.map fun x => t - x
theorem mir_len (t : Int) (ds : List Int) : (mir t ds).length = ds.length := by simp [mir]
theorem mir_at {t : Int} {ds : List Int} {i : Nat} (h : i < ds.length) : (mir t ds).getD i 0 = t - ds.getD i 0 := by
  simp [mir, List.getD_eq_getElem?_getD, h]
theorem mir_set (t : Int) (ds : List Int) (i : Nat) (v : Int) : mir t (ds.set i v) = (mir t ds).set i (t - v) := by
  simp [mir, List.map_set]
theorem turn_at (up : Bool) (rs : List R3) {k : Nat} (h : k < rs.length) : (rs.map (turnR up)).getD k r30 = turnR up (rs.getD k r30) := by
  simp [List.getD_eq_getElem?_getD, h]
/-- The model's answer: places in a block of their own, and whether they are places, or none. -/
def LatRes (n : Int) (rs : List R3) (t : Int) (R : Option (List Int)) (w : World) (e : Ending) (w' : World) : Prop :=
  ((∃ (ds : List Int) (G : Nat), R = some ds ∧ e = .returned (.tuple #[.slice (some ⟨G, 0, none⟩) (mir t ds).length (mir t ds).length, .bool (plB n rs (mir t ds))]) ∧ NBlk w' G (mir t ds) (mir t ds).length ∧ w.heap.size ≤ G) ∨ (R = none ∧ e = .returned (.tuple #[.slice none 0 0, .bool false]))) ∧ Below w.heap.size w w'
set_option maxRecDepth 100000 in
set_option maxHeartbeats 6400000 in
theorem l09Latest_any (g : Nat) (t : Int) (n : Int) (A : Option Addr) (rs : List R3) (c : Nat) (w : World) (c0 : w.cell? ⟨g, 0, none⟩ = some (.int .i64 n)) (c1 : w.cell? ⟨g, 1, none⟩ = some (.slice A rs.length c))
    (hp : RulAt w w.heap.size A rs) (hv : prB n rs = true) (ht : 0 ≤ t ∧ t ≤ 16000) :
    Calls Try.prog 90 #[.pointer (some ⟨g, 0, none⟩), .int .i64 t] w (LatRes n rs t (runR (rs.map (turnR false)) (n.toNat + 1) (zer n.toNat)) w) := by
  have hg : g < w.heap.size := World.block_lt_of_cell? w _ c0
  obtain ⟨⟨n1, n16⟩, h40, hru⟩ := pr_facts hv
  obtain ⟨N, rfl⟩ : ∃ N : Nat, n = (N : Int) := ⟨n.toNat, by omega⟩
  have h40I : (rs.length : Int) ≤ 40 := by omega
  have HRU := Lib.hid hru
  have hmk := run_mknums N (by omega) w
  obtain ⟨qs, hqs⟩ : ∃ qs, rs.map (turnR false) = qs := ⟨_, rfl⟩
  have hql : qs.length = rs.length := by rw [← hqs]; simp
  have HQA : Hid (∀ k, k < rs.length → qs.getD k r30 = turnR false (rs.getD k r30)) := fun k hk => by rw [← hqs]; exact turn_at false rs hk
  obtain ⟨t0, t16⟩ := ht
  rw [hqs]
  obtain ⟨R, hR⟩ : ∃ R, runR qs (N + 1) (zer N) = R := ⟨_, rfl⟩
  have HR0 : Hid (runR qs (N + 1 - 0) (zer N) = R) := hR
  rw [show ((N : Int).toNat) = N by omega, hR]
  have hml : (mir t (zer N)).length = N := by simp [mir, zer]
  have hG0 : NBlk (w.alloc (.cells (blankN N) 2)) w.heap.size (mir t (zer N)) 0 := by have := NBlk.new w (mir t (zer N)); rwa [hml] at this
  have HPL := Lib.hid (fun (wx : World) (ps : List Int) (hb : Below w.heap.size w wx) (hq : IntsAt wx wx.heap.size (some ⟨w.heap.size, 0, none⟩) ps) (hl : ps.length = N) => by
    have := l09Placed_any g (N : Int) A rs c (some ⟨w.heap.size, 0, none⟩) ps ps.length wx ((hb.cell (p := ⟨g, 0, none⟩) hg).trans c0) ((hb.cell (p := ⟨g, 1, none⟩) hg).trans c1) (hp.to hb) hq (by omega) hv
    exact this)
  have hb0 : Below w.heap.size w (w.alloc (.cells (blankN N) 2)) := by (repeat (first | assumption | exact Below.refl _ _ | (refine bl_alloc ?_ _) | (refine Below.drew ?_) | (refine bl_drewN ?_ _) | (refine bl_set ?_ (by first | (simp; done) | omega | (simp; omega)) _) | (refine bl_trans ?_ (by assumption)) | (refine bl_step ?_ (by assumption) (by first | omega | exact Below.size (by assumption) | (simp; omega) | (simp; exact Below.size (by assumption))))))
  have hzl : (zer N).length = N := by simp [zer]
  have HM0 : Hid (∀ k, k < N → (mir t (zer N)).getD k 0 = t) := fun k hk => by rw [mir_at (by simp [zer]; exact hk), zer_at]; omega
  clear hv hru hR hqs
  go_enter Try.func90, Try.ntmps90
  go_wp2
  clear hmk
  go_loopw [7, 19] (fun _ i wr => ∃ k : Nat, k ≤ N ∧ i = .int .i64 k ∧ NBlk wr w.heap.size (mir t (zer N)) k ∧ Below w.heap.size w wr) (fun _ i _ => N - (intOf i).toNat)
  case atStart => exact ⟨0, by omega, rfl, hG0, hb0⟩
  case round =>
   clear hG0 hb0
   obtain ⟨k, hk, rfl, hG0, hb0⟩ := hrel
   have hk0 : (0 : Int) ≤ (k : Int) := by omega
   by_cases hkN : k < N
   · have hkI : (k : Int) < (N : Int) := by omega
     have f0 := hG0.frozen k
     obtain ⟨v0, s0⟩ := hG0.there (i := k) (by omega)
     have hG1 := hG0.set_ (k := k) (by omega)
     rw [HM0.out k hkN] at hG1
     have hb1 := hb0.setCell (p := ⟨w.heap.size, k, none⟩) (Nat.le_refl _) (.int .i64 t)
     clear hG0 hb0
     go_wp2
     go_roundw
     case rel => exact ⟨k + 1, by omega, by go_num, hG1, hb1⟩
     case measure => simp [intOf]; omega
   have hkE : N = k := by omega
   subst hkE
   replace hG0 : NBlk wr w.heap.size (mir t (zer N)) (mir t (zer N)).length := by rw [hml]; exact hG0
   go_wp2
   go_loopw [8, 9, 10] (fun i _ _ wr => ∃ (k : Nat) (ds : List Int), k ≤ N + 1 ∧ i = .int .i64 k ∧ ds.length = N ∧ NBlk wr w.heap.size (mir t ds) (mir t ds).length ∧ Hid (runR qs (N + 1 - k) ds = R) ∧ Hid (Bd ds (40000 * (k : Int))) ∧ Below w.heap.size w wr) (fun i _ _ _ => N + 1 - (intOf i).toNat)
   case atStart => exact ⟨0, zer N, by omega, rfl, hzl, hG0, HR0, Bd.zer N, hb0⟩
   case round =>
     clear hG0 hb0 HR0 hzl
     obtain ⟨k, ds, hk, rfl, hdl, hD, HR, HB, hb⟩ := hrel
     have d0 := (hb.cell (p := ⟨g, 0, none⟩) hg).trans c0
     have hk0 : (0 : Int) ≤ (k : Int) := by omega
     by_cases hlt : k ≤ N
     case neg =>
       obtain rfl : k = N + 1 := by omega
       have hR : R = none := by have := HR.out; rw [show N + 1 - (N + 1) = 0 by omega] at this; rw [← this]; rfl
       have hdn : ¬ (((N + 1 : Nat) : Int) ≤ (N : Int)) := by omega
       have HRN := Lib.hid hR
       clear hR HR
       go_wp2
       go_ret2
       exact ⟨.inr ⟨HRN.out, rfl⟩, hb⟩
     have hltI : (k : Int) ≤ (N : Int) := by omega
     go_wp2
     go_loopw [9, 10] (fun gb i wx => ∃ (j : Nat) (dj : List Int) (b : Bool), j ≤ rs.length ∧ i = .int .i64 j ∧ gb = .bool b ∧ dj.length = N ∧ NBlk wx w.heap.size (mir t dj) (mir t dj).length ∧ Hid (passR (qs.take j) ds = dj) ∧ Hid (grew (qs.take j) ds = b) ∧ Hid (Bd dj (40000 * (k : Int) + 1000 * (j : Int))) ∧ Below w.heap.size w wx) (fun _ i _ => rs.length - (intOf i).toNat)
     case atStart => exact ⟨0, ds, false, by omega, rfl, rfl, hdl, hD, rfl, rfl, HB.out.mono (by omega), hb⟩
     case round =>
       clear hD hb d0 HB
       obtain ⟨j, dj, gb, hj, rfl, rfl, hdl', hD, HP, HG, HB, hb⟩ := hrel
       have d0 := (hb.cell (p := ⟨g, 0, none⟩) hg).trans c0
       have d1 := (hb.cell (p := ⟨g, 1, none⟩) hg).trans c1
       have hj0 : (0 : Int) ≤ (j : Int) := by omega
       by_cases hjl : j < rs.length
       · obtain ⟨b, off, rfl, hbB, hc⟩ := hp (by omega)
         obtain ⟨e0, e1, e2⟩ := hc j hjl
         have f0 := (hb.cell (p := ⟨b, off + j * 3, none⟩) hbB).trans e0
         have f1 := (hb.cell (p := ⟨b, off + j * 3 + 1, none⟩) hbB).trans e1
         have f2 := (hb.cell (p := ⟨b, off + j * 3 + 2, none⟩) hbB).trans e2
         have hjI : (j : Int) < (rs.length : Int) := by omega
         obtain ⟨X, Y, hX, hY, hXn, hYn, hXY, z1, z2⟩ := ru_facts (HRU.out j hjl) n16
         have hXl : X < dj.length := by omega
         have hYl : Y < dj.length := by omega
         have hXm : X < (mir t dj).length := by rw [mir_len]; exact hXl
         have hYm : Y < (mir t dj).length := by rw [mir_len]; exact hYl
         have hjq : j < qs.length := by omega
         have hrq := HQA.out j hjl
         have hq1 : (qs.getD j r30).1 = (Y : Int) := by rw [hrq]; unfold turnR fromH; rw [if_neg (by decide)]; exact hY
         have hq2 : (qs.getD j r30).2.1 = (X : Int) := by rw [hrq]; unfold turnR toH; rw [if_neg (by decide)]; exact hX
         have hq3 : (qs.getD j r30).2.2 = (rs.getD j r30).2.2 := by rw [hrq]; rfl
         have bX := HB.out X
         have bY := HB.out Y
         have HPN : Hid (passR (qs.take (j + 1)) ds = rlx dj (qs.getD j r30)) := by show _ = _; rw [pass_next qs ds hjq, HP.out]
         have HGN : Hid (grew (qs.take (j + 1)) ds = (gb || tst dj (qs.getD j r30))) := by show _ = _; rw [grew_next qs ds hjq, HP.out, HG.out]
         have HT := Lib.hid (fun h => rlx_t (ds := dj) hq1 hq2 h)
         have HF := Lib.hid (fun h => rlx_f (ds := dj) hq1 hq2 h)
         have HBN : Hid (Bd (rlx dj (qs.getD j r30)) (40000 * (k : Int) + 1000 * ((j + 1 : Nat) : Int))) := (HB.out.rlx _ (by rw [hq3]; exact z2) (by omega)).mono (by push_cast; omega)
         rw [hX] at f0
         rw [hY] at f1
         rw [hq3] at HT HF
         clear hq1 hq2 hq3 hrq hX hY
         clear hc e0 e1 e2 hp c0 c1 HB HP HG
         generalize (rs.getD j r30).2.2 = z at *
         have HD := Lib.hid hD
         have hGw := hD.lt
         have hkb : (40000 * (k : Int) + 1000 * (j : Int)) ≤ 1000000 := by omega
         obtain ⟨px, hpx⟩ : ∃ px, dj.getD X 0 = px := ⟨_, rfl⟩
         obtain ⟨py, hpy⟩ : ∃ py, dj.getD Y 0 = py := ⟨_, rfl⟩
         rw [hpx] at bX HT HF
         rw [hpy] at bY HT HF
         obtain ⟨bX0, bX1⟩ := bX
         obtain ⟨bY0, bY1⟩ := bY
         have kr := Blk.new wr #[.int .i64 X, .int .i64 Y, .int .i64 z] 60
         have hx0 : Below wr.heap.size wr (wr.alloc (.cells #[.int .i64 X, .int .i64 Y, .int .i64 z] 60)) := (Below.refl wr.heap.size wr).alloc (Nat.le_refl _) _
         have hbA := bl_step hb hx0 hb.size
         have hDA := hD.to hx0
         have q0 := hDA.at_ hXm hXm
         have q1 := hDA.at_ hYm hYm
         rw [mir_at hXl, hpx] at q0
         rw [mir_at hYl, hpy] at q1
         have r0 := kr.cell 0 (v := .int .i64 X) rfl
         have r1 := kr.cell 1 (v := .int .i64 Y) rfl
         have r2 := kr.cell 2 (v := .int .i64 z) rfl
         have hrl := kr.lt
         have hGA := hDA.lt
         have hXI : (X : Int) < (N : Int) := by omega
         have hYI : (Y : Int) < (N : Int) := by omega
         clear kr hD HD
         by_cases hz : px < py + z
         · have ⟨ht, hr⟩ := HT.out hz
           have HRX := Lib.hid hr
           have HGT : Hid (grew (qs.take (j + 1)) ds = true) := by show _ = _; rw [HGN.out, ht]; simp
           have hd : decide (t - py - z < t - px) = true := decide_eq_true (by omega)
           clear HT HF ht hr HGN
           go_wp2_with fail
           clear d0 d1 f0 f1 f2 hb hx0
           generalize (wr.alloc (.cells #[.int .i64 X, .int .i64 Y, .int .i64 z] 60)) = wA at *
           generalize wr.heap.size = M at *
           refine wp_region_over (by kernel_rfl) (by kernel_rfl) ?_
           have hov := over_cells wA
           repeat (go_big_quiet_step ((fail)))
           refine over_nil (fun w3 hb3 => ?_)
           clear hov
           have s0 := (hb3.cell (p := ⟨w.heap.size, Y, none⟩) hGA).trans q1
           have t0 := (hb3.cell (p := ⟨M, 0, none⟩) hrl).trans r0
           have t1 := (hb3.cell (p := ⟨M, 1, none⟩) hrl).trans r1
           have t2 := (hb3.cell (p := ⟨M, 2, none⟩) hrl).trans r2
           have lG : w.heap.size < w3.heap.size := Nat.lt_of_lt_of_le hGA hb3.size
           have lM : M < w3.heap.size := Nat.lt_of_lt_of_le hrl hb3.size
           have hD3 := hDA.to hb3
           have bb3 := hbA.trans (hb3.mono hbA.size)
           clear q0 q1 r0 r1 r2 hDA hbA hb3 hrl hGA
           go_wp2
           refine wp_region_overB (m := 12) (.alone 12 .done) (by kernel_rfl) (by kernel_rfl) (by kernel_rfl) ?_
           simp only [List.take_succ_cons, List.take_zero]
           have hov := over_cells w3
           repeat (go_big_quiet_step ((fail)))
           refine over_nilB (fun w2 hb2 => ?_)
           clear hov
           have hD4 := hD3.to hb2
           obtain ⟨vv, st1⟩ := hD4.there hXm
           have sf1 := hD4.frozen X
           refine tplan_b rfl (fun K hK => ?_)
           go_simp
           refine hK _ _ ⟨trivial, ?_⟩
           clear hK K
           try simp only [Act.put, List.setIfInBounds_toArray, List.set_cons_zero, List.set_cons_succ]
           refine tplan_end ?_
           have hD5 := hD4.upd hXm (t - py - z)
           have hme : (mir t dj).set X (t - py - z) = mir t (dj.set X (py + z)) := by rw [mir_set, show t - (py + z) = t - py - z by omega]
           rw [hme] at hD5
           have hb5 := (bl_step bb3 hb2 bb3.size).setCell (p := ⟨w.heap.size, X, none⟩) (Nat.le_refl _) (.int .i64 (t - py - z))
           generalize (w2.setCell ⟨w.heap.size, X, none⟩ (.int .i64 (t - py - z))) = w5 at *
           clear hme
           clear s0 t0 t1 t2 lG lM hD3 bb3 st1 sf1 hD4 hb2
           go_wp2
           go_roundw
           case rel => exact ⟨j + 1, _, true, by omega, by go_num, rfl, by rw [rlx_len]; exact hdl', by rw [HRX.out]; exact hD5, HPN, HGT, HBN, hb5⟩
           case measure => simp [intOf]; omega
         · have ⟨ht, hr⟩ := HF.out hz
           have HRX := Lib.hid hr
           have HGT : Hid (grew (qs.take (j + 1)) ds = gb) := by show _ = _; rw [HGN.out, ht]; simp
           have hd : decide (t - py - z < t - px) = false := decide_eq_false (by omega)
           clear HT HF ht hr HGN
           go_wp2_with fail
           clear d0 d1 f0 f1 f2 hb hx0
           generalize (wr.alloc (.cells #[.int .i64 X, .int .i64 Y, .int .i64 z] 60)) = wA at *
           generalize wr.heap.size = M at *
           refine wp_region_over (by kernel_rfl) (by kernel_rfl) ?_
           have hov := over_cells wA
           repeat (go_big_quiet_step ((fail)))
           refine over_nil (fun w3 hb3 => ?_)
           clear hov
           have hD3 := hDA.to hb3
           have bb3 := hbA.trans (hb3.mono hbA.size)
           clear q0 q1 r0 r1 r2 hDA hbA hb3 hrl hGA
           go_wp2
           go_roundw
           case rel => exact ⟨j + 1, _, gb, by omega, by go_num, rfl, by rw [rlx_len]; exact hdl', by rw [HRX.out]; exact hD3, HPN, HGT, HBN, bb3⟩
           case measure => simp [intOf]; omega
       · obtain rfl : j = rs.length := by omega
         have HP' : Hid (passR qs ds = dj) := by
           have := HP.out
           rwa [List.take_of_length_le (by omega)] at this
         have HG' : Hid (grew qs ds = gb) := by
           have := HG.out
           rwa [List.take_of_length_le (by omega)] at this
         have HR1 : Hid (runR qs (N - k + 1) ds = R) := by
           have := HR.out
           rwa [show N + 1 - k = N - k + 1 by omega] at this
         have HBX : Hid (Bd dj (40000 * ((k + 1 : Nat) : Int))) := HB.out.mono (by push_cast; omega)
         clear HP HG HR HB
         cases gb
         · have HS : Hid (R = some dj) := by show _ = _; rw [← HR1.out, run_stop HG'.out, HP'.out]
           have HL := Lib.hid hdl'
           have hmN : (mir t dj).length = N := by rw [mir_len]; exact hdl'
           have HMN := Lib.hid hmN
           have hq := hD.nums
           have cpl := Lib.hid (HPL.out _ (mir t dj) hb hq hmN)
           rw [hmN] at cpl
           clear hmN hq
           go_wp2_with fail
           refine cpl.out.mono ?_
           rintro e w8 ⟨rfl, hb8⟩
           go_wp2
           go_ret2
           exact ⟨.inl ⟨dj, w.heap.size, HS.out, by rw [HMN.out]; rfl, hD.to hb8, Nat.le_refl _⟩, bl_trans hb hb8⟩
         · have HS : Hid (runR qs (N + 1 - (k + 1)) dj = R) := by show _ = _; rw [← HR1.out, run_more HG'.out, HP'.out, show N + 1 - (k + 1) = N - k by omega]
           go_wp2
           go_roundw
           case rel => exact ⟨k + 1, dj, by omega, by go_num, hdl', hD, HS, HBX, hb⟩
           case measure => simp [intOf]; omega
end Go.Proofs.Ytgpcfkegbcpkpaa
