/-
  Contracts: the tight rules of places, as the model has them and as the program has them.
-/
import Derived.Test.YtgpcfkegbcpkpaaPlac
import Derived.Test.YtgpcfkegbcpkpaaAttemptN
namespace Go.Proofs.Ytgpcfkegbcpkpaa
set_option linter.unusedSimpArgs false
set_option linter.unusedVariables false
open Go.ChangeShapes Go.WideShapes Go.ChangeAt Go.RowKit Go.BigFrame

def tgB (ps : List Int) (rs : List R3) (k : Nat) : Bool := decide (atP ps (rs.getD k r30).2.1 = atP ps (rs.getD k r30).1 + (rs.getD k r30).2.2)
def tgL (ps : List Int) (rs : List R3) : Nat → List Int
  | 0 => []
  | k + 1 => if tgB ps rs k = true then tgL ps rs k ++ [(k : Int)] else tgL ps rs k
theorem tgL_len (ps : List Int) (rs : List R3) : ∀ k, (tgL ps rs k).length ≤ k
  | 0 => Nat.le_refl _
  | k + 1 => by
    have := tgL_len ps rs k
    unfold tgL; split <;> simp <;> omega
theorem tgL_t {ps : List Int} {rs : List R3} {k : Nat} (h : tgB ps rs k = true) : tgL ps rs (k + 1) = tgL ps rs k ++ [(k : Int)] := by rw [tgL, if_pos h]
theorem tgL_f {ps : List Int} {rs : List R3} {k : Nat} (h : tgB ps rs k = false) : tgL ps rs (k + 1) = tgL ps rs k := by rw [tgL, if_neg (by rw [h]; simp)]
/-- What places of a valid press say of a rule. -/
theorem pl_facts {n : Int} {rs : List R3} {ps : List Int} (h : plB n rs ps = true) : (ps.length : Int) = n ∧ okTo (plcB ps) ps.length = true := by
  unfold plB at h
  simp only [Bool.and_eq_true, decide_eq_true_eq] at h
  exact ⟨h.1, h.2.1⟩
theorem isPl_pr {n : Int} {rs : List R3} {ps : List Int} (h : isPl n rs ps = true) : prB n rs = true ∧ plB n rs ps = true := by unfold isPl at h; simpa using h
set_option maxRecDepth 100000 in
set_option maxHeartbeats 3200000 in
theorem l09Tight_any (g : Nat) (n : Int) (A : Option Addr) (rs : List R3) (c : Nat) (B : Option Addr) (ps : List Int) (d : Nat) (w : World) (c0 : w.cell? ⟨g, 0, none⟩ = some (.int .i64 n)) (c1 : w.cell? ⟨g, 1, none⟩ = some (.slice A rs.length c))
    (hp : RulAt w w.heap.size A rs) (hq : IntsAt w w.heap.size B ps) (hv : isPl n rs ps = true) :
    Calls Try.prog 66 #[.pointer (some ⟨g, 0, none⟩), .slice B ps.length d] w (NOwn (tgL ps rs rs.length) w) := by
  have hg : g < w.heap.size := World.block_lt_of_cell? w _ c0
  obtain ⟨hpr, hpl⟩ := isPl_pr hv
  obtain ⟨⟨n1, n16⟩, h40, hru⟩ := pr_facts hpr
  obtain ⟨hn, ho⟩ := pl_facts hpl
  have h40I : (rs.length : Int) ≤ 40 := by omega
  have hlI : (ps.length : Int) ≤ 16 := by omega
  have HN := Lib.hid hn
  have HF := Lib.hid ho
  have HRU := Lib.hid hru
  have ho1 := OwnI.empty w w.heap.size (Nat.le_refl _)
  have hb1 : Below w.heap.size w (w.alloc (.cells #[] 2)) := by (repeat (first | assumption | exact Below.refl _ _ | (refine bl_alloc ?_ _) | (refine Below.drew ?_) | (refine bl_drewN ?_ _) | (refine bl_set ?_ (by first | (simp; done) | omega | (simp; omega)) _) | (refine bl_trans ?_ (by assumption)) | (refine bl_step ?_ (by assumption) (by first | omega | exact Below.size (by assumption) | (simp; omega) | (simp; exact Below.size (by assumption))))))
  have hz1 : w.heap.size ≤ (w.alloc (.cells #[] 2)).heap.size := by simp
  clear hv hpr hpl hru ho hn
  go_enter Try.func66, Try.ntmps66
  go_wp2
  go_loopw [5, 6] (fun v i wr => ∃ k : Nat, k ≤ rs.length ∧ i = .int .i64 k ∧ OwnI wr w.heap.size v (tgL ps rs k) ∧ Below w.heap.size w wr ∧ w.heap.size ≤ wr.heap.size) (fun _ i _ => rs.length - (intOf i).toNat)
  case atStart => exact ⟨0, Nat.zero_le _, rfl, ho1, hb1, hz1⟩
  case round =>
    clear ho1 hb1 hz1
    obtain ⟨k, hk, rfl, hown, hb, hzr⟩ := hrel
    have d0 := (hb.cell (p := ⟨g, 0, none⟩) hg).trans c0
    have d1 := (hb.cell (p := ⟨g, 1, none⟩) hg).trans c1
    have hk0 : (0 : Int) ≤ (k : Int) := by omega
    by_cases hlt : k < rs.length
    · obtain ⟨b, off, rfl, hbB, hc⟩ := hp (by omega)
      obtain ⟨e0, e1, e2⟩ := hc k hlt
      have f0 := (hb.cell (p := ⟨b, off + k * 3, none⟩) hbB).trans e0
      have f1 := (hb.cell (p := ⟨b, off + k * 3 + 1, none⟩) hbB).trans e1
      have f2 := (hb.cell (p := ⟨b, off + k * 3 + 2, none⟩) hbB).trans e2
      have hltI : (k : Int) < (rs.length : Int) := by omega
      have hgw : g < wr.heap.size := Nat.lt_of_lt_of_le hg hb.size
      obtain ⟨X, Y, hX, hY, hXn, hYn, _, z1, z2⟩ := ru_facts (HRU.out k hlt) n16
      have hXl : X < ps.length := by have := HN.out; omega
      have hYl : Y < ps.length := by have := HN.out; omega
      obtain ⟨b2, off2, rfl, hbB2, hc2⟩ := hq (by omega)
      have g0 := (hb.cell (p := ⟨b2, off2 + X, none⟩) hbB2).trans (hc2 X hXl)
      have g1 := (hb.cell (p := ⟨b2, off2 + Y, none⟩) hbB2).trans (hc2 Y hYl)
      obtain ⟨u0, u1⟩ := plc_at HF.out hXl
      obtain ⟨v0, v1⟩ := plc_at HF.out hYl
      have HK : Hid (tgB ps rs k = decide (ps.getD Y 0 = ps.getD X 0 + (rs.getD k r30).2.2)) := by
        show _ = _
        unfold tgB atP
        rw [hX, hY]; rfl
      have hLl : (tgL ps rs k).length ≤ 1000000 := by have := tgL_len ps rs k; omega
      have HT := Lib.hid (fun h => tgL_t (ps := ps) (rs := rs) (k := k) h)
      have HFF := Lib.hid (fun h => tgL_f (ps := ps) (rs := rs) (k := k) h)
      clear hc hc2 e0 e1 e2 hp hq c0 c1
      rw [hX] at f0
      rw [hY] at f1
      generalize (rs.getD k r30).2.2 = z at *
      generalize ps.getD X 0 = px at *
      generalize ps.getD Y 0 = py at *
      have hbw2 : b2 < wr.heap.size := Nat.lt_of_lt_of_le hbB2 hb.size
      have hXI : (X : Int) < (ps.length : Int) := by omega
      have hYI : (Y : Int) < (ps.length : Int) := by omega
      have kr := Blk.new wr #[.int .i64 X, .int .i64 Y, .int .i64 z] 60
      have hx0 : Below wr.heap.size wr (wr.alloc (.cells #[.int .i64 X, .int .i64 Y, .int .i64 z] 60)) := (Below.refl wr.heap.size wr).alloc (Nat.le_refl _) _
      have hbA := bl_step hb hx0 hb.size
      have q1 := (hx0.cell (p := ⟨b2, off2 + X, none⟩) hbw2).trans g0
      have q2 := (hx0.cell (p := ⟨b2, off2 + Y, none⟩) hbw2).trans g1
      have r0 := kr.cell 0 (v := .int .i64 X) rfl
      have r1 := kr.cell 1 (v := .int .i64 Y) rfl
      have r2 := kr.cell 2 (v := .int .i64 z) rfl
      have hrl := kr.lt
      have hA2 : b2 < (wr.alloc (.cells #[.int .i64 X, .int .i64 Y, .int .i64 z] 60)).heap.size := by simp; omega
      have hownA := hown.to hx0
      have hzA : w.heap.size ≤ (wr.alloc (.cells #[.int .i64 X, .int .i64 Y, .int .i64 z] 60)).heap.size := by simp; omega
      clear kr hown
      by_cases hz : py = px + z
      · have R := Lib.hid (HT.out (by rw [HK.out, decide_eq_true hz]))
        have hd : decide (py = px + z) = true := decide_eq_true hz
        have hd2 : (py == px + z) = true := by simpa using hz
        have HZ := Lib.hid hz
        clear HT HFF HK hz
        go_wp2_with fail
        clear d0 d1 f0 f1 f2 hb g0 g1 hx0
        generalize (wr.alloc (.cells #[.int .i64 X, .int .i64 Y, .int .i64 z] 60)) = wA at *
        generalize wr.heap.size = N at *
        refine wp_region_over (by kernel_rfl) (by kernel_rfl) ?_
        have hov := over_cells wA
        repeat (go_big_quiet_step ((fail)))
        refine over_nil (fun w2 hb2 => ?_)
        clear hov
        have hown2 := hownA.to hb2
        have bb2 := hbA.trans (hb2.mono hbA.size)
        have hz2 : w.heap.size ≤ w2.heap.size := by have := hb2.size; omega
        clear hownA hb2 hbA hzA q1 q2 r0 r1 r2
        go_wp2_with (at_builtin; refine append_int rfl (.tmp 39) (.tmp 41) rfl w2 w.heap.size _ _ (k : Int) rfl hown2 _ rfl rfl hLl hz2 ?_; intro v6 w6 hown6 hbel6; refine Hid.out ?_)
        have hb6 := hbel6 _ bb2
        refine Lib.hid ?_
        go_wp2
        go_roundw
        case rel => exact ⟨k + 1, by omega, by go_num, by rw [R.out]; exact hown6, hb6, hb6.size⟩
        case measure => simp [intOf]; omega
      · have R := Lib.hid (HFF.out (by rw [HK.out, decide_eq_false hz]))
        have hd : decide (py = px + z) = false := decide_eq_false hz
        have hd2 : (py == px + z) = false := by simpa using hz
        clear HT HFF HK hz
        go_wp2_with fail
        clear d0 d1 f0 f1 f2 hb g0 g1 hx0
        generalize (wr.alloc (.cells #[.int .i64 X, .int .i64 Y, .int .i64 z] 60)) = wA at *
        generalize wr.heap.size = N at *
        refine wp_region_over (by kernel_rfl) (by kernel_rfl) ?_
        have hov := over_cells wA
        repeat (go_big_quiet_step ((fail)))
        refine over_nil (fun w2 hb2 => ?_)
        clear hov
        go_wp2
        go_roundw
        case rel => exact ⟨k + 1, by omega, by go_num, by rw [R.out]; exact hownA.to hb2, hbA.trans (hb2.mono hbA.size), by have := hb2.size; omega⟩
        case measure => simp [intOf]; omega
    · obtain rfl : k = rs.length := by omega
      go_wp2
      go_ret
      exact ⟨⟨_, rfl, hown⟩, hb⟩
end Go.Proofs.Ytgpcfkegbcpkpaa
