/-
  Contract: one round of pushes.
-/
import Derived.Test.YtgpcfkegbcpkpaaGraf
import Derived.Test.YtgpcfkegbcpkpaaOver
import Derived.Test.YtgpcfkegbcpkpaaPresM
import Derived.Test.YtgpcfkegbcpkpaaBits
namespace Go.Proofs.Ytgpcfkegbcpkpaa
set_option linter.unusedSimpArgs false
set_option linter.unusedVariables false
open Go.ChangeShapes Go.WideShapes Go.ChangeAt Go.RowKit Go.BigFrame

theorem RulAt.but {H B : Nat} {w w' : World} {A : Option Addr} {rs : List R3} (h : ButG H w w') (hp : RulAt w B A rs) (hB : B ≤ H) (hz : B ≤ w.heap.size) : RulAt w' B A rs := fun h0 => by
  obtain ⟨b, off, e, hlt, hc⟩ := hp h0
  have hk : w'.heap[b]? = w.heap[b]? := h.block b (by omega) (by omega)
  exact ⟨b, off, e, hlt, fun i hi => ⟨(World.cell?_of_block (a := ⟨b, _, none⟩) hk).trans (hc i hi).1, (World.cell?_of_block (a := ⟨b, _, none⟩) hk).trans (hc i hi).2.1, (World.cell?_of_block (a := ⟨b, _, none⟩) hk).trans (hc i hi).2.2⟩⟩
theorem GraphAt.but {H B : Nat} {w w' : World} {A : Option Addr} {F : List (List R3)} (h : ButG H w w') (hp : GraphAt w B A F) (hB : B ≤ H) (hz : B ≤ w.heap.size) : GraphAt w' B A F := fun h0 => by
  obtain ⟨G, e, hlt, hc⟩ := hp h0
  have hk : w'.heap[G]? = w.heap[G]? := h.block G (by omega) (by omega)
  refine ⟨G, e, hlt, fun u hu => ?_⟩
  obtain ⟨Au, cu, h1, h2⟩ := hc u hu
  exact ⟨Au, cu, (World.cell?_of_block (a := ⟨G, _, none⟩) hk).trans h1, h2.but h hB hz⟩
def atU (u : Nat) (p : R3) : R3 := ((u : Int), p.2.1, p.2.2)
def byF (F : List (List R3)) (n : Nat) : List R3 := (List.range n).flatMap fun u => (F.getD u []).map (atU u)
theorem byF_succ (F : List (List R3)) (u : Nat) : byF F (u + 1) = byF F u ++ (F.getD u []).map (atU u) := by
  unfold byF
  rw [List.range_succ, List.flatMap_append]
  simp
theorem byF_gRows (up : Bool) (rs : List R3) (N : Nat) : byF (gRows up rs N rs.length) N = byG up rs N := by
  have h : ∀ u ∈ List.range N, ((gRows up rs N rs.length).getD u []).map (atU u) = byU up rs u := fun u hu => by rw [gRows_at (by simpa using hu)]; rfl
  unfold byF byG
  rw [List.flatMap_def, List.flatMap_def, List.map_congr_left h]
theorem or_zero {m V : Nat} : m ||| 2 ^ V ≠ 0 := fun h => by
  have h1 : (m ||| 2 ^ V).testBit V = false := by rw [h]; simp
  rw [Nat.testBit_or, Nat.testBit_two_pow_self] at h1
  simp at h1
theorem or_small {m V : Nat} (h : m < 65536) (hV : V < 16) : m ||| 2 ^ V < 65536 :=
  Nat.or_lt_two_pow (n := 16) h (Nat.pow_lt_pow_right (by omega) hV)
/-- The flag of pushed parts. -/
def Flag (m : Nat) (b : Bool) : Prop := m < 65536 ∧ (m = 0 ↔ b = false)
def PushRes (H : Nat) (F : List (List R3)) (N : Nat) (ds : List Int) (w : World) (e : Ending) (w' : World) : Prop :=
  (∃ m : Nat, e = .returned (.int .u64 (m : Int)) ∧ Flag m (grew (byF F N) ds)) ∧ NBlk w' H (passR (byF F N) ds) (passR (byF F N) ds).length ∧ ButG H w w'
set_option maxRecDepth 100000 in
set_option maxHeartbeats 6400000 in
theorem pushAll_any (G H B N : Nat) (F : List (List R3)) (ds : List Int) (M : Int) (w : World) (hF : F.length = N) (hg : GraphAt w B (some ⟨G, 0, none⟩) F) (hB : B ≤ H) (hBz : B ≤ w.heap.size) (hD : NBlk w H ds ds.length) (hdl : ds.length = N) (hn1 : 1 ≤ N) (hn : N ≤ 16)
    (hok : ∀ u, u < N → (F.getD u []).length ≤ 40 ∧ ∀ j, j < (F.getD u []).length → (∃ V : Nat, ((F.getD u []).getD j r30).2.1 = (V : Int) ∧ V < N) ∧ -1000 ≤ ((F.getD u []).getD j r30).2.2 ∧ ((F.getD u []).getD j r30).2.2 ≤ 1000)
    (hM : Bd ds M) (hM0 : 0 ≤ M) (hM1 : M ≤ 100000000) :
    Calls Try.prog 126 #[.slice (some ⟨G, 0, none⟩) N N, .slice (some ⟨H, 0, none⟩) N N] w (PushRes H F N ds w) := by
  have hH := hD.lt
  obtain ⟨G', eG, hGB, hrow⟩ := hg (by omega)
  injection eG with eG
  injection eG with eG
  subst eG
  have HROW := Lib.hid hrow
  have HOK := Lib.hid hok
  have HF := Lib.hid hF
  have hnI : (N : Int) ≤ 16 := by omega
  have HD0 : Hid (passR (byF F 0) ds = ds) := rfl
  clear hrow hok hg
  go_enter Try.func126, Try.ntmps126
  go_wp2
  go_loopw [5, 13] (fun pv i wr => ∃ (u m : Nat) (dj : List Int), u ≤ N ∧ i = .int .i64 u ∧ pv = .int .u64 (m : Int) ∧ Hid (Flag m (grew (byF F u) ds)) ∧ dj.length = N ∧ NBlk wr H dj dj.length ∧ Hid (passR (byF F u) ds = dj) ∧ Hid (Bd dj (M + 40000 * (u : Int))) ∧ ButG H w wr) (fun _ i _ => N - (intOf i).toNat)
  case atStart => exact ⟨0, 0, ds, by omega, rfl, rfl, ⟨by omega, by simp [byF, grew]⟩, hdl, hD, HD0.out, hM.mono (by omega), ButG.refl _ _⟩
  case round =>
    clear hD hM HD0
    obtain ⟨u, m, dj, hu, rfl, rfl, HFL, hdj, hD, HP, HB, hO⟩ := hrel
    have hu0 : (0 : Int) ≤ (u : Int) := by omega
    by_cases hlt : u < N
    case neg =>
      obtain rfl : u = N := by omega
      go_wp2
      go_ret
      exact ⟨⟨m, rfl, HFL.out⟩, by rw [HP.out]; exact hD, hO⟩
    have hltI : (u : Int) < (N : Int) := by omega
    obtain ⟨Au, cu, hcu, hru⟩ := HROW.out u (by have := HF.out; omega)
    obtain ⟨hl40, hel⟩ := HOK.out u hlt
    have hkG : wr.heap[G]? = w.heap[G]? := hO.block G (by omega) (by omega)
    have s0 := (World.cell?_of_block (a := ⟨G, u, none⟩) hkG).trans hcu
    have HEL := Lib.hid hel
    have HS := Lib.hid (byF_succ F u)
    obtain ⟨L, hL⟩ : ∃ L, F.getD u [] = L := ⟨_, rfl⟩
    rw [hL] at s0 hru hl40 HEL HS
    have hl40I : (L.length : Int) ≤ 40 := by omega
    clear hL hel hcu hkG
    go_wp2_with fail
    go_loopw [5, 20] (fun pv i wx => ∃ (j m : Nat) (dk : List Int), j ≤ L.length ∧ i = .int .i64 j ∧ pv = .int .u64 (m : Int) ∧ Hid (Flag m (grew (byF F u ++ (L.take j).map (atU u)) ds)) ∧ dk.length = N ∧ NBlk wx H dk dk.length ∧ Hid (passR (byF F u ++ (L.take j).map (atU u)) ds = dk) ∧ Hid (Bd dk (M + 40000 * (u : Int) + 1000 * (j : Int))) ∧ ButG H w wx) (fun _ i _ => L.length - (intOf i).toNat)
    case atStart => exact ⟨0, m, dj, by omega, rfl, rfl, by show Flag _ _; simpa using HFL.out, hdj, hD, by show passR _ _ = _; simpa using HP.out, HB.out.mono (by omega), hO⟩
    case round =>
      clear hD HB HP HFL hO s0
      obtain ⟨j, m, dk, hj, rfl, rfl, HFL, hdk, hD, HP, HB, hO⟩ := hrel
      have hj0 : (0 : Int) ≤ (j : Int) := by omega
      by_cases hjl : j < L.length
      case neg =>
        obtain rfl : j = L.length := by omega
        rw [List.take_of_length_le (Nat.le_refl _), ← HS.out] at HFL HP
        have HBX : Hid (Bd dk (M + 40000 * ((u + 1 : Nat) : Int))) := HB.out.mono (by push_cast; omega)
        go_wp2
        go_roundw
        case rel => exact ⟨u + 1, m, dk, by omega, by go_num, rfl, HFL, hdk, hD, HP, HBX, hO⟩
        case measure => simp [intOf]; omega
      obtain ⟨b, off, rfl, hbB, hc⟩ := (hru.but hO hB hBz) (by omega)
      obtain ⟨f0, f1, f2⟩ := hc j hjl
      have hjI : (j : Int) < (L.length : Int) := by omega
      obtain ⟨⟨V, hV, hVN⟩, z1, z2⟩ := HEL.out j hjl
      have hul : u < dk.length := by omega
      have hVl : V < dk.length := by omega
      have g0 := hD.at_ hul hul
      have bX := HB.out u
      have bY := HB.out V
      have hseg : byF F u ++ (L.take (j + 1)).map (atU u) = (byF F u ++ (L.take j).map (atU u)) ++ [atU u (L.getD j r30)] := by
        rw [take_snoc3 L j hjl]; simp
      have HPN : Hid (passR (byF F u ++ (L.take (j + 1)).map (atU u)) ds = rlx dk (atU u (L.getD j r30))) := by show _ = _; rw [hseg, passR_app, HP.out]; rfl
      have HGN : Hid (grew (byF F u ++ (L.take (j + 1)).map (atU u)) ds = (grew (byF F u ++ (L.take j).map (atU u)) ds || tst dk (atU u (L.getD j r30)))) := by show _ = _; rw [hseg, grew_app, HP.out]; simp [grew]
      have HT := Lib.hid (fun h => rlx_t (ds := dk) (r := atU u (L.getD j r30)) (X := u) (Y := V) rfl hV h)
      have HFF := Lib.hid (fun h => rlx_f (ds := dk) (r := atU u (L.getD j r30)) (X := u) (Y := V) rfl hV h)
      have HBN : Hid (Bd (rlx dk (atU u (L.getD j r30))) (M + 40000 * (u : Int) + 1000 * ((j + 1 : Nat) : Int))) := (HB.out.rlx (atU u (L.getD j r30)) z2 (by omega)).mono (by push_cast; omega)
      rw [show (atU u (L.getD j r30)).2.2 = (L.getD j r30).2.2 from rfl] at HT HFF
      rw [hV] at f1
      clear hc HB HP hseg hV
      generalize (L.getD j r30).2.2 = z at *
      generalize (L.getD j r30).1 = x at *
      have hkb : M + 40000 * (u : Int) + 1000 * (j : Int) ≤ 110000000 := by omega
      obtain ⟨px, hpx⟩ : ∃ px, dk.getD u 0 = px := ⟨_, rfl⟩
      obtain ⟨py, hpy⟩ : ∃ py, dk.getD V 0 = py := ⟨_, rfl⟩
      rw [hpx] at g0 bX HT HFF
      rw [hpy] at bY HT HFF
      obtain ⟨bX0, bX1⟩ := bX
      obtain ⟨bY0, bY1⟩ := bY
      have kr := Blk.new wr #[.int .i64 x, .int .i64 V, .int .i64 z] 138
      have hx0 : Below wr.heap.size wr (wr.alloc (.cells #[.int .i64 x, .int .i64 V, .int .i64 z] 138)) := (Below.refl wr.heap.size wr).alloc (Nat.le_refl _) _
      have hDA := hD.to hx0
      have hOA := hO.trans (ButG.of hx0)
      have hHw := hD.lt
      have hHA := hDA.lt
      have q0 := hDA.at_ hul hul
      rw [hpx] at q0
      have r1 := kr.cell 1 (v := .int .i64 V) rfl
      have r2 := kr.cell 2 (v := .int .i64 z) rfl
      have hrl := kr.lt
      have hVI : (V : Int) < (N : Int) := by omega
      clear kr hD hO g0
      by_cases hz : py < px + z
      · have ⟨ht, hr⟩ := HT.out hz
        have HRX := Lib.hid hr
        have hor : bits .or .u64 (m : Int) ((2 : Int) ^ V) = ((m ||| 2 ^ V : Nat) : Int) := by
          have h64 : 2 ^ V < 65536 := Nat.pow_lt_pow_right (a := 2) (m := V) (n := 16) (by omega) (by omega)
          have := bits_or_u64_nat m (2 ^ V) (by have := HFL.out.1; omega) (by omega)
          rw [← this]; simp
        have HGT : Hid (Flag (m ||| 2 ^ V) (grew (byF F u ++ (L.take (j + 1)).map (atU u)) ds)) := by
          show Flag _ _
          rw [HGN.out, ht]
          exact ⟨or_small HFL.out.1 (by omega), ⟨fun h => absurd h or_zero, fun h => by simp at h⟩⟩
        have hd : decide (py < px + z) = true := decide_eq_true hz
        clear HT HFF ht hr HGN HFL
        go_wp2_with fail
        clear f0 f1 f2 hx0
        generalize (wr.alloc (.cells #[.int .i64 x, .int .i64 V, .int .i64 z] 138)) = wA at *
        generalize wr.heap.size = Q at *
        refine wp_region_over (by kernel_rfl) (by kernel_rfl) ?_
        have hov := over_cells wA
        repeat (go_big_quiet_step ((fail)))
        refine over_nil (fun w3 hb3 => ?_)
        clear hov
        have t1 := (hb3.cell (p := ⟨Q, 1, none⟩) hrl).trans r1
        have hD3 := hDA.to hb3
        have y0 := hD3.at_ hVl hVl
        rw [hpy] at y0
        have sf := hD3.frozen V
        have nQ : ¬ Q = H := by omega
        have hO5 := (hOA.trans (ButG.of hb3)).set_ V (.int .i64 (px + z))
        have hD5 := hD3.upd hVl (px + z)
        clear q0 r1 r2 hDA hOA hb3 hrl hHA hD3
        go_wp2_with fail
        generalize (w3.setCell ⟨H, V, none⟩ (.int .i64 (px + z))) = w5 at *
        refine (bitsetOf_any V (by omega) _).mono ?_
        rintro e w6 ⟨rfl, rfl⟩
        clear t1 y0 sf
        go_wp2
        go_roundw
        case rel => exact ⟨j + 1, m ||| 2 ^ V, _, by omega, by go_num, by first | rfl | (rw [← hor]; first | rfl | simp), HGT, by rw [rlx_len]; exact hdk, by rw [HRX.out]; exact hD5, HPN, HBN, hO5⟩
        case measure => simp [intOf]; omega
      · have ⟨ht, hr⟩ := HFF.out hz
        have HRX := Lib.hid hr
        have HGT : Hid (Flag m (grew (byF F u ++ (L.take (j + 1)).map (atU u)) ds)) := by
          show Flag _ _
          rw [HGN.out, ht, Bool.or_false]
          exact HFL.out
        have hd : decide (py < px + z) = false := decide_eq_false hz
        clear HT HFF ht hr HGN HFL
        go_wp2_with fail
        clear f0 f1 f2 hx0
        generalize (wr.alloc (.cells #[.int .i64 x, .int .i64 V, .int .i64 z] 138)) = wA at *
        generalize wr.heap.size = Q at *
        refine wp_region_over (by kernel_rfl) (by kernel_rfl) ?_
        have hov := over_cells wA
        repeat (go_big_quiet_step ((fail)))
        refine over_nil (fun w3 hb3 => ?_)
        clear hov
        have t1 := (hb3.cell (p := ⟨Q, 1, none⟩) hrl).trans r1
        have hD3 := hDA.to hb3
        have y0 := hD3.at_ hVl hVl
        rw [hpy] at y0
        have hO5 := hOA.trans (ButG.of hb3)
        clear q0 r1 r2 hDA hOA hb3 hrl hHA
        go_wp2
        go_roundw
        case rel => exact ⟨j + 1, m, _, by omega, by go_num, rfl, HGT, by rw [rlx_len]; exact hdk, by rw [HRX.out]; exact hD3, HPN, HBN, hO5⟩
        case measure => simp [intOf]; omega
end Go.Proofs.Ytgpcfkegbcpkpaa
