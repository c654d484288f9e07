/-
  Contract: the least places, as the model has them.
-/
import Derived.Test.YtgpcfkegbcpkpaaRlx
import Derived.Test.YtgpcfkegbcpkpaaAttemptN
namespace Go.Proofs.Ytgpcfkegbcpkpaa
set_option linter.unusedSimpArgs false
set_option linter.unusedVariables false
open Go.ChangeShapes Go.WideShapes Go.ChangeAt Go.RowKit Go.BigFrame

/-- The model's answer: places in a block of their own, or none. -/
def LstRes (R : Option (List Int)) (w : World) (e : Ending) (w' : World) : Prop :=
  ((∃ (ds : List Int) (G : Nat), R = some ds ∧ e = .returned (.tuple #[.slice (some ⟨G, 0, none⟩) ds.length ds.length, .bool true]) ∧ NBlk w' G ds ds.length ∧ w.heap.size ≤ G) ∨ (R = none ∧ e = .returned (.tuple #[.slice none 0 0, .bool false]))) ∧ Below w.heap.size w w'
set_option maxRecDepth 100000 in
set_option maxHeartbeats 6400000 in
theorem l09Least_any (g : Nat) (n : Int) (A : Option Addr) (rs : List R3) (c : Nat) (w : World) (c0 : w.cell? ⟨g, 0, none⟩ = some (.int .i64 n)) (c1 : w.cell? ⟨g, 1, none⟩ = some (.slice A rs.length c))
    (hp : RulAt w w.heap.size A rs) (hv : prB n rs = true) :
    Calls Try.prog 78 #[.pointer (some ⟨g, 0, none⟩)] w (LstRes (runR rs (n.toNat + 1) (zer n.toNat)) w) := by
  have hg : g < w.heap.size := World.block_lt_of_cell? w _ c0
  obtain ⟨⟨n1, n16⟩, h40, hru⟩ := pr_facts hv
  obtain ⟨N, rfl⟩ : ∃ N : Nat, n = (N : Int) := ⟨n.toNat, by omega⟩
  have h40I : (rs.length : Int) ≤ 40 := by omega
  have HRU := Lib.hid hru
  have hmk := run_mknums N (by omega) w
  obtain ⟨R, hR⟩ : ∃ R, runR rs (N + 1) (zer N) = R := ⟨_, rfl⟩
  have HR0 : Hid (runR rs (N + 1 - 0) (zer N) = R) := hR
  rw [show ((N : Int).toNat) = N by omega, hR]
  have hG0 := NBlk.zer w N
  have hb0 : Below w.heap.size w (w.alloc (.cells (blankN N) 2)) := by (repeat (first | assumption | exact Below.refl _ _ | (refine bl_alloc ?_ _) | (refine Below.drew ?_) | (refine bl_drewN ?_ _) | (refine bl_set ?_ (by first | (simp; done) | omega | (simp; omega)) _) | (refine bl_trans ?_ (by assumption)) | (refine bl_step ?_ (by assumption) (by first | omega | exact Below.size (by assumption) | (simp; omega) | (simp; exact Below.size (by assumption))))))
  have hzl : (zer N).length = N := by simp [zer]
  clear hv hru hR
  go_enter Try.func78, Try.ntmps78
  go_wp2
  clear hmk
  go_loopw [5, 6, 7] (fun i _ _ wr => ∃ (k : Nat) (ds : List Int), k ≤ N + 1 ∧ i = .int .i64 k ∧ ds.length = N ∧ NBlk wr w.heap.size ds ds.length ∧ Hid (runR rs (N + 1 - k) ds = R) ∧ Hid (Bd ds (40000 * (k : Int))) ∧ Below w.heap.size w wr) (fun i _ _ _ => N + 1 - (intOf i).toNat)
  case atStart => exact ⟨0, zer N, by omega, rfl, hzl, hG0, HR0, Bd.zer N, hb0⟩
  case round =>
    clear hG0 hb0 HR0 hzl
    obtain ⟨k, ds, hk, rfl, hdl, hD, HR, HB, hb⟩ := hrel
    have d0 := (hb.cell (p := ⟨g, 0, none⟩) hg).trans c0
    have hk0 : (0 : Int) ≤ (k : Int) := by omega
    by_cases hlt : k ≤ N
    case neg =>
      obtain rfl : k = N + 1 := by omega
      have hR : R = none := by have := HR.out; rw [show N + 1 - (N + 1) = 0 by omega] at this; rw [← this]; rfl
      have hdn : ¬ (((N + 1 : Nat) : Int) ≤ (N : Int)) := by omega
      have HRN := Lib.hid hR
      clear hR HR
      go_wp2
      go_ret2
      exact ⟨.inr ⟨HRN.out, rfl⟩, hb⟩
    have hltI : (k : Int) ≤ (N : Int) := by omega
    go_wp2
    go_loopw [6, 7] (fun gb i wx => ∃ (j : Nat) (dj : List Int) (b : Bool), j ≤ rs.length ∧ i = .int .i64 j ∧ gb = .bool b ∧ dj.length = N ∧ NBlk wx w.heap.size dj dj.length ∧ Hid (passR (rs.take j) ds = dj) ∧ Hid (grew (rs.take j) ds = b) ∧ Hid (Bd dj (40000 * (k : Int) + 1000 * (j : Int))) ∧ Below w.heap.size w wx) (fun _ i _ => rs.length - (intOf i).toNat)
    case atStart => exact ⟨0, ds, false, by omega, rfl, rfl, hdl, hD, rfl, rfl, HB.out.mono (by omega), hb⟩
    case round =>
      clear hD hb d0 HB
      obtain ⟨j, dj, gb, hj, rfl, rfl, hdl', hD, HP, HG, HB, hb⟩ := hrel
      have d0 := (hb.cell (p := ⟨g, 0, none⟩) hg).trans c0
      have d1 := (hb.cell (p := ⟨g, 1, none⟩) hg).trans c1
      have hj0 : (0 : Int) ≤ (j : Int) := by omega
      by_cases hjl : j < rs.length
      · obtain ⟨b, off, rfl, hbB, hc⟩ := hp (by omega)
        obtain ⟨e0, e1, e2⟩ := hc j hjl
        have f0 := (hb.cell (p := ⟨b, off + j * 3, none⟩) hbB).trans e0
        have f1 := (hb.cell (p := ⟨b, off + j * 3 + 1, none⟩) hbB).trans e1
        have f2 := (hb.cell (p := ⟨b, off + j * 3 + 2, none⟩) hbB).trans e2
        have hjI : (j : Int) < (rs.length : Int) := by omega
        obtain ⟨X, Y, hX, hY, hXn, hYn, hXY, z1, z2⟩ := ru_facts (HRU.out j hjl) n16
        have hXl : X < dj.length := by omega
        have hYl : Y < dj.length := by omega
        have g0 := hD.at_ hXl hXl
        have g1 := hD.at_ hYl hYl
        have fz := hD.frozen Y
        have bX := HB.out X
        have bY := HB.out Y
        have HPN : Hid (passR (rs.take (j + 1)) ds = rlx dj (rs.getD j r30)) := by show _ = _; rw [pass_next rs ds hjl, HP.out]
        have HGN : Hid (grew (rs.take (j + 1)) ds = (gb || tst dj (rs.getD j r30))) := by show _ = _; rw [grew_next rs ds hjl, HP.out, HG.out]
        have HT := Lib.hid (fun h => rlx_t (ds := dj) hX hY h)
        have HF := Lib.hid (fun h => rlx_f (ds := dj) hX hY h)
        have HBN : Hid (Bd (rlx dj (rs.getD j r30)) (40000 * (k : Int) + 1000 * ((j + 1 : Nat) : Int))) := (HB.out.rlx _ z2 (by omega)).mono (by push_cast; omega)
        rw [hX] at f0
        rw [hY] at f1
        clear hc e0 e1 e2 hp c0 c1 HB HP HG
        generalize (rs.getD j r30).2.2 = z at *
        have HD := Lib.hid hD
        have hGw := hD.lt
        have hkb : (40000 * (k : Int) + 1000 * (j : Int)) ≤ 1000000 := by omega
        obtain ⟨px, hpx⟩ : ∃ px, dj.getD X 0 = px := ⟨_, rfl⟩
        obtain ⟨py, hpy⟩ : ∃ py, dj.getD Y 0 = py := ⟨_, rfl⟩
        rw [hpx] at g0 bX HT HF
        rw [hpy] at g1 bY HT HF
        obtain ⟨bX0, bX1⟩ := bX
        obtain ⟨bY0, bY1⟩ := bY
        have kr := Blk.new wr #[.int .i64 X, .int .i64 Y, .int .i64 z] 60
        have hx0 : Below wr.heap.size wr (wr.alloc (.cells #[.int .i64 X, .int .i64 Y, .int .i64 z] 60)) := (Below.refl wr.heap.size wr).alloc (Nat.le_refl _) _
        have hbA := bl_step hb hx0 hb.size
        have hDA := hD.to hx0
        have q0 := hDA.at_ hXl hXl
        have q1 := hDA.at_ hYl hYl
        rw [hpx] at q0
        rw [hpy] at q1
        have r0 := kr.cell 0 (v := .int .i64 X) rfl
        have r1 := kr.cell 1 (v := .int .i64 Y) rfl
        have r2 := kr.cell 2 (v := .int .i64 z) rfl
        have hrl := kr.lt
        have hGA := hDA.lt
        have hXI : (X : Int) < (N : Int) := by omega
        have hYI : (Y : Int) < (N : Int) := by omega
        clear kr hD HD g0 g1 fz
        by_cases hz : py < px + z
        · have ⟨ht, hr⟩ := HT.out hz
          have HRX := Lib.hid hr
          have HGT : Hid (grew (rs.take (j + 1)) ds = true) := by show _ = _; rw [HGN.out, ht]; simp
          have hd : decide (py < px + z) = true := decide_eq_true hz
          clear HT HF ht hr HGN
          go_wp2_with fail
          clear d0 d1 f0 f1 f2 hb hx0
          generalize (wr.alloc (.cells #[.int .i64 X, .int .i64 Y, .int .i64 z] 60)) = wA at *
          generalize wr.heap.size = M at *
          refine wp_region_over (by kernel_rfl) (by kernel_rfl) ?_
          have hov := over_cells wA
          repeat (go_big_quiet_step ((fail)))
          refine over_nil (fun w3 hb3 => ?_)
          clear hov
          have s0 := (hb3.cell (p := ⟨w.heap.size, X, none⟩) hGA).trans q0
          have t0 := (hb3.cell (p := ⟨M, 0, none⟩) hrl).trans r0
          have t1 := (hb3.cell (p := ⟨M, 1, none⟩) hrl).trans r1
          have t2 := (hb3.cell (p := ⟨M, 2, none⟩) hrl).trans r2
          have lG : w.heap.size < w3.heap.size := Nat.lt_of_lt_of_le hGA hb3.size
          have lM : M < w3.heap.size := Nat.lt_of_lt_of_le hrl hb3.size
          have hD3 := hDA.to hb3
          have bb3 := hbA.trans (hb3.mono hbA.size)
          clear q0 q1 r0 r1 r2 hDA hbA hb3 hrl hGA
          go_wp2
          refine wp_region_overB (m := 12) (.alone 12 .done) (by kernel_rfl) (by kernel_rfl) (by kernel_rfl) ?_
          simp only [List.take_succ_cons, List.take_zero]
          have hov := over_cells w3
          repeat (go_big_quiet_step ((fail)))
          refine over_nilB (fun w2 hb2 => ?_)
          clear hov
          have hD4 := hD3.to hb2
          obtain ⟨vv, st1⟩ := hD4.there hYl
          have sf1 := hD4.frozen Y
          refine tplan_b rfl (fun K hK => ?_)
          go_simp
          refine hK _ _ ⟨trivial, ?_⟩
          clear hK K
          try simp only [Act.put, List.setIfInBounds_toArray, List.set_cons_zero, List.set_cons_succ]
          refine tplan_end ?_
          have hD5 := hD4.upd hYl (px + z)
          have hb5 := (bl_step bb3 hb2 bb3.size).setCell (p := ⟨w.heap.size, Y, none⟩) (Nat.le_refl _) (.int .i64 (px + z))
          generalize (w2.setCell ⟨w.heap.size, Y, none⟩ (.int .i64 (px + z))) = w5 at *
          clear s0 t0 t1 t2 lG lM hD3 bb3 st1 sf1 hD4 hb2
          go_wp2
          go_roundw
          case rel => exact ⟨j + 1, _, true, by omega, by go_num, rfl, by rw [rlx_len]; exact hdl', by rw [HRX.out]; exact hD5, HPN, HGT, HBN, hb5⟩
          case measure => simp [intOf]; omega
        · have ⟨ht, hr⟩ := HF.out hz
          have HRX := Lib.hid hr
          have HGT : Hid (grew (rs.take (j + 1)) ds = gb) := by show _ = _; rw [HGN.out, ht]; simp
          have hd : decide (py < px + z) = false := decide_eq_false hz
          clear HT HF ht hr HGN
          go_wp2_with fail
          clear d0 d1 f0 f1 f2 hb hx0
          generalize (wr.alloc (.cells #[.int .i64 X, .int .i64 Y, .int .i64 z] 60)) = wA at *
          generalize wr.heap.size = M at *
          refine wp_region_over (by kernel_rfl) (by kernel_rfl) ?_
          have hov := over_cells wA
          repeat (go_big_quiet_step ((fail)))
          refine over_nil (fun w3 hb3 => ?_)
          clear hov
          have hD3 := hDA.to hb3
          have bb3 := hbA.trans (hb3.mono hbA.size)
          clear q0 q1 r0 r1 r2 hDA hbA hb3 hrl hGA
          go_wp2
          go_roundw
          case rel => exact ⟨j + 1, _, gb, by omega, by go_num, rfl, by rw [rlx_len]; exact hdl', by rw [HRX.out]; exact hD3, HPN, HGT, HBN, bb3⟩
          case measure => simp [intOf]; omega
      · obtain rfl : j = rs.length := by omega
        have HP' : Hid (passR rs ds = dj) := by
          have := HP.out
          rwa [List.take_of_length_le (Nat.le_refl _)] at this
        have HG' : Hid (grew rs ds = gb) := by
          have := HG.out
          rwa [List.take_of_length_le (Nat.le_refl _)] at this
        have HR1 : Hid (runR rs (N - k + 1) ds = R) := by
          have := HR.out
          rwa [show N + 1 - k = N - k + 1 by omega] at this
        have HBX : Hid (Bd dj (40000 * ((k + 1 : Nat) : Int))) := HB.out.mono (by push_cast; omega)
        clear HP HG HR HB
        cases gb
        · have HS : Hid (R = some dj) := by show _ = _; rw [← HR1.out, run_stop HG'.out, HP'.out]
          have HL := Lib.hid hdl'
          go_wp2
          go_ret2
          exact ⟨.inl ⟨dj, w.heap.size, HS.out, by rw [HL.out]; rfl, hD, Nat.le_refl _⟩, hb⟩
        · have HS : Hid (runR rs (N + 1 - (k + 1)) dj = R) := by show _ = _; rw [← HR1.out, run_more HG'.out, HP'.out, show N + 1 - (k + 1) = N - k by omega]
          go_wp2
          go_roundw
          case rel => exact ⟨k + 1, dj, by omega, by go_num, hdl', hD, HS, HBX, hb⟩
          case measure => simp [intOf]; omega
end Go.Proofs.Ytgpcfkegbcpkpaa
