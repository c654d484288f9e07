/-
  Contract: the coupling of a layout, as the model has it.
-/
import Derived.Test.YtifenbamookmiaaDoorCplP
import Derived.Test.YtifenbamookmiaaDoorHasN
import Derived.Test.YtifenbamookmiaaDoorLayoS
namespace Go.Proofs.YtifenbamookmiaaDoor
set_option linter.unusedSimpArgs false
set_option linter.unusedVariables false
open Go.ChangeShapes Go.WideShapes Go.ChangeAt Go.RowKit Go.BigFrame

set_option maxRecDepth 100000 in
set_option maxHeartbeats 3200000 in
theorem l10Coupling_any (g : Nat) (A : Option Addr) (n c : Nat) (B : Mz) (AO : Option Addr) (L : List Int) (cO : Nat) (AS : Option Addr) (S : List Int) (cS : Nat) (w : World) (hg : w.cell? ⟨g, 0, none⟩ = some (.slice A n c)) (hgl : g < w.heap.size) (h : LoAt w A AO n B L) (hS : IntsAt w w.heap.size AS S) (lS : S.length ≤ 1048576) :
    Calls Tryd.prog 28 #[.pointer (some ⟨g, 0, none⟩), .slice AO n cO, .slice AS S.length cS] w fun e w' => e = .returned (.int .i64 (cplTo B L S n)) ∧ Below w.heap.size w w' := by
  obtain ⟨h1, h9⟩ := h.n9
  have h9I : (n : Int) ≤ 9 := by omega
  have h1I : (1 : Int) ≤ (n : Int) := by omega
  obtain ⟨bo, oo, rfl, hbo, ho⟩ := h.wires
  obtain ⟨b, off, rfl, hbB, hc⟩ := h.sq
  have HW : Hid (∀ i, i < n → wireN L i < n) := fun i hi => (h.ok.wire hi).1
  have HO := Lib.hid ho
  have HC := Lib.hid hc
  have HG : Hid (∀ k, k ≤ n → 0 ≤ cplTo B L S k ∧ cplTo B L S k ≤ 1000 * (k : Int)) := fun k hk => cplTo_ge h.bn h.len h.ok k hk
  have HV : Hid (∀ k, k < n → 0 ≤ cplAt B L S k ∧ cplAt B L S k ≤ 1000) := fun k hk => cplAt_ge h.bn h.len h.ok hk
  have CH := Lib.hid (fun (v : Int) (bv : Bool) (HI : Hid (S.contains v = bv)) (wx : World) (hx : Below w.heap.size w wx) => l00Has_at AS S cS v bv HI wx (hS.to hx) lS)
  have lSI : (S.length : Int) ≤ 1048576 := by omega
  clear h hS lS ho hc
  generalize hls : S.length = ls at *
  clear hls
  go_enter Tryd.func28, Tryd.ntmps28
  go_wp2
  go_loopw [7, 8] (fun s i wr => ∃ k : Nat, 1 ≤ k ∧ k ≤ n ∧ i = .int .i64 k ∧ s = .int .i64 (cplTo B L S k) ∧ Below w.heap.size w wr) (fun _ i _ => n - (intOf i).toNat)
  case atStart => exact ⟨1, Nat.le_refl _, h1, rfl, rfl, Below.refl _ _⟩
  case round =>
    obtain ⟨k, hk1, hk, rfl, rfl, hb⟩ := hrel
    by_cases hlt : k < n
    case neg =>
      obtain rfl : k = n := by omega
      go_wp2
      go_ret
      exact ⟨rfl, hb⟩
    obtain ⟨m, rfl⟩ : ∃ m, k = m + 1 := ⟨k - 1, by omega⟩
    have hmN : m < n := by omega
    have hkI : (m : Int) + 1 < (n : Int) := by omega
    have hk0 : (0 : Int) ≤ (m : Int) + 1 := by omega
    have hm0 : (0 : Int) ≤ (m : Int) := by omega
    have hmI : (m : Int) < (n : Int) := by omega
    have ek : ((m + 1 : Nat) : Int) = (m : Int) + 1 := by omega
    have et : ((m : Int) + 1).toNat = m + 1 := by omega
    have hnx := cplTo_next B L S (show 1 ≤ m + 1 by omega)
    obtain ⟨hs0, hs1⟩ := HG.out (m + 1) (by omega)
    obtain ⟨hv0, hv1⟩ := HV.out (m + 1) hlt
    have HNX := Lib.hid hnx
    clear hnx
    have hs1' : cplTo B L S (m + 1) ≤ 9000 := by omega
    clear hs1
    cases hin : S.contains ((m : Int) + 1)
    · have HI := Lib.hid hin
      have hat : cplAt B L S (m + 1) = wtI B (wireN L m) (wireN L (m + 1)) := by
        unfold cplAt
        rw [ek, hin]; rfl
      have q0 := HO.out m hmN
      have q1 := HO.out (m + 1) hlt
      have n0 := HW.out m hmN
      have n1 := HW.out (m + 1) hlt
      obtain ⟨bi, oi, ci, hbi, r0, r1⟩ := HC.out _ n0
      have r2 := r1 _ n1
      rw [← hat] at r2
      have q0' := (hb.cell (p := ⟨bo, oo + m, none⟩) hbo).trans q0
      have q1' := (hb.cell (p := ⟨bo, oo + (m + 1), none⟩) hbo).trans q1
      have r0' := (hb.cell (p := ⟨b, off + wireN L m, none⟩) hbB).trans r0
      have r2' := (hb.cell (p := ⟨bi, oi + wireN L (m + 1), none⟩) hbi).trans r2
      have g0 := (hb.cell (p := ⟨g, 0, none⟩) hgl).trans hg
      have zg : g < wr.heap.size := Nat.lt_of_lt_of_le hgl hb.size
      have zo : bo < wr.heap.size := Nat.lt_of_lt_of_le hbo hb.size
      have zb : b < wr.heap.size := Nat.lt_of_lt_of_le hbB hb.size
      have zi : bi < wr.heap.size := Nat.lt_of_lt_of_le hbi hb.size
      have n0I : (wireN L m : Int) < (n : Int) := by omega
      have n1I : (wireN L (m + 1) : Int) < (n : Int) := by omega
      clear hin hat q0 q1 r0 r1 r2
      generalize wireN L m = x at *
      generalize wireN L (m + 1) = y at *
      generalize cplAt B L S (m + 1) = v at *
      generalize hsv : cplTo B L S (m + 1) = s at *
      have HSV := Lib.hid hsv
      clear hsv
      go_wp2_with fail
      refine (CH.out _ false HI _ hb).mono ?_
      rintro e w2 ⟨rfl, rfl⟩
      go_wp2
      refine wp_region_over (by kernel_rfl) (by kernel_rfl) ?_
      have hov := over_cells w2
      repeat (go_big_quiet_step ((fail)))
      refine over_nil (fun w2 hb2 => ?_)
      clear hov
      go_wp2
      go_roundw
      case rel => exact ⟨m + 1 + 1, by omega, by omega, by go_num, by rw [HNX.out], bl_trans hb (by assumption)⟩
      case measure => simp [intOf]; omega
    · have HI := Lib.hid hin
      have hat : cplAt B L S (m + 1) = 0 := by
        unfold cplAt
        rw [ek, hin]; rfl
      have HN : Hid (cplTo B L S (m + 1) = cplTo B L S (m + 1 + 1)) := by show _ = _; rw [HNX.out, hat]; omega
      clear hin hat hv0 hv1
      go_wp2_with fail
      refine (CH.out _ true HI _ hb).mono ?_
      rintro e w2 ⟨rfl, rfl⟩
      go_wp2
      go_roundw
      case rel => exact ⟨m + 1 + 1, by omega, by omega, by go_num, by rw [← HN.out], hb⟩
      case measure => simp [intOf]; omega
end Go.Proofs.YtifenbamookmiaaDoor
