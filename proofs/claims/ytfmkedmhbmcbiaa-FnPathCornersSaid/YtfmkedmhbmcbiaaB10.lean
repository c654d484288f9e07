/-
  Contracts: the small functions of the laws over points.
-/
import Derived.Test.YtfmkedmhbmcbiaaThroughS
namespace Go.Proofs.Ytfmkedmhbmcbiaa
set_option linter.unusedSimpArgs false
set_option linter.unusedVariables false
open Go.ChangeShapes Go.WideShapes Go.ChangeAt Go.RowKit

theorem b10Abs_any (n : Int) (w : World) (hn : -9223372036854775808 < n) (hn2 : n ≤ 9223372036854775807) :
    Calls Try.prog 78 #[.int .i64 n] w fun e w' => e = .returned (.int .i64 (absI n)) ∧ w = w' := by
  by_cases h : n < 0
  · have F : Hid (absI n = -n) := by show _ = _; unfold absI; rw [if_pos h]
    go_enter Try.func78, Try.ntmps78
    go_wp2
    go_ret
    exact ⟨retI F.out.symm, rfl⟩
  · have F : Hid (absI n = n) := by show _ = _; unfold absI; rw [if_neg h]
    go_enter Try.func78, Try.ntmps78
    go_wp2
    go_ret
    exact ⟨retI F.out.symm, rfl⟩

theorem b10Far_any (p q : Pt) (w : World) (hp : isPt p.1 p.2 = true) (hq : isPt q.1 q.2 = true) :
    Calls Try.prog 27 #[.agg #[.int .i64 p.1, .int .i64 p.2], .agg #[.int .i64 q.1, .int .i64 q.2]] w fun e w' => e = .returned (.int .i64 (farI p.1 p.2 q.1 q.2)) ∧ Below w.heap.size w w' := by
  obtain ⟨a, b⟩ := p
  obtain ⟨c, d⟩ := q
  rw [isPt_iff] at hp hq
  simp only at hp hq ⊢
  obtain ⟨⟨a0, a1⟩, b0, b1⟩ := hp
  obtain ⟨⟨c0, c1⟩, d0, d1⟩ := hq
  have k1 := absI_le (n := a - c) (b := 99) (by omega) (by omega)
  have k2 := absI_le (n := b - d) (b := 99) (by omega) (by omega)
  have F : Hid (farI a b c d = absI (a - c) + absI (b - d)) := rfl
  have e1 : IntKind.i64.wrap (a - c) = a - c := IntWalk.i64_in _ (by omega)
  have e2 : IntKind.i64.wrap (b - d) = b - d := IntWalk.i64_in _ (by omega)
  have e3 : IntKind.i64.wrap (absI (a - c) + absI (b - d)) = absI (a - c) + absI (b - d) := IntWalk.i64_in _ (by omega)
  clear k1 k2
  go_enter Try.func27, Try.ntmps27
  go_wp2
  go_quiet ((first
    | (go_at_call_of 78 (Value.int IntKind.i64 (a - c)); exact Calls.quiet_of_same (quiet_l (b10Abs_any _ _ (by omega) (by omega))))
    | (go_at_call_of 78 (Value.int IntKind.i64 (b - d)); exact Calls.quiet_of_same (quiet_l (b10Abs_any _ _ (by omega) (by omega))))))
  go_wp2
  go_ret
  exact ⟨retI F.out.symm, by (repeat (first | assumption | exact Below.refl _ _ | (refine bl_alloc ?_ _) | (refine Below.drew ?_) | (refine bl_drewN ?_ _) | (refine bl_set ?_ (by simp) _) | (refine bl_trans ?_ (by assumption)) | (refine bl_step ?_ (by assumption) (by first | omega | exact Below.size (by assumption) | (simp; omega) | (simp; exact Below.size (by assumption))))))⟩

def LongPostB (n m : Nat) (w : World) (e : Ending) (w' : World) : Prop := e = .returned (.bool (decide (1048576 < n) || decide (1048576 < m))) ∧ w = w'
theorem b10Long_any (A A' : Option Addr) (n m c c' : Nat) (w : World) :
    Calls Try.prog 19 #[.slice A n c, .slice A' m c'] w (LongPostB n m w) := by
  by_cases h1 : 1048576 < n
  · have hI : 1048576 < (n : Int) := by omega
    have H := Lib.hid h1
    clear h1
    go_enter Try.func19, Try.ntmps19
    go_wp2
    go_ret
    exact ⟨retB (by rw [decide_eq_true H.out]; rfl), rfl⟩
  · have hI : ¬ 1048576 < (n : Int) := by omega
    have hd : decide (1048576 < n) = false := decide_eq_false h1
    have H := Lib.hid hd
    clear h1
    by_cases h2 : 1048576 < m
    · have hJ : 1048576 < (m : Int) := by omega
      have H2 := Lib.hid h2
      clear h2
      go_enter Try.func19, Try.ntmps19
      go_wp2
      go_ret
      exact ⟨retB (by rw [H.out, decide_eq_true H2.out]; simp), rfl⟩
    · have hJ : ¬ 1048576 < (m : Int) := by omega
      have hd2 : decide (1048576 < m) = false := decide_eq_false h2
      have H2 := Lib.hid hd2
      clear h2
      go_enter Try.func19, Try.ntmps19
      go_wp2
      go_ret
      exact ⟨retB (by rw [H.out, H2.out]; simp), rfl⟩

set_option maxHeartbeats 800000 in
theorem b10Same_any (A A' : Option Addr) (l m : List Pt) (c c' : Nat) (w : World) (hp : PtsAt w w.heap.size A l) (hq : PtsAt w w.heap.size A' m) (hl : l.length ≤ 1048576) (hl' : m.length ≤ 1048576) :
    Calls Try.prog 26 #[.slice A l.length c, .slice A' m.length c'] w fun e w' => e = .returned (.bool (decide (l = m))) ∧ Below w.heap.size w w' := by
  by_cases hlen : l.length = m.length
  · have hz : ((l.length : Int) != (m.length : Int)) = false := by simp [hlen]
    have HL := Lib.hid hlen
    clear hlen
    go_enter Try.func26, Try.ntmps26
    go_wp2
    go_loopw [5] (fun i wr => ∃ k : Nat, k ≤ l.length ∧ i = .int .i64 k ∧ Hid (l.take k = m.take k) ∧ Below w.heap.size w wr) (fun i _ => l.length - (intOf i).toNat)
    case atStart => exact ⟨0, Nat.zero_le _, rfl, by show _ = _; simp, Below.refl _ _⟩
    case round =>
      obtain ⟨k, hk, rfl, HA, hb⟩ := hrel
      by_cases hlt : k < l.length
      · obtain ⟨b1, o1, rfl, hb1, hc1⟩ := hp (by omega)
        have hlt' : k < m.length := by rw [← HL.out]; exact hlt
        obtain ⟨b2, o2, rfl, hb2, hc2⟩ := hq (by omega)
        obtain ⟨c0, c1⟩ := hc1 k hlt
        obtain ⟨c2, c3⟩ := hc2 k hlt'
        have d0 := (hb.cell (p := ⟨b1, o1 + k * 2, none⟩) hb1).trans c0
        have d1 := (hb.cell (p := ⟨b1, o1 + k * 2 + 1, none⟩) hb1).trans c1
        have d2 := (hb.cell (p := ⟨b2, o2 + k * 2, none⟩) hb2).trans c2
        have d3 := (hb.cell (p := ⟨b2, o2 + k * 2 + 1, none⟩) hb2).trans c3
        have HN := fun e => Lib.hid (take_next HA.out hlt hlt' e)
        have HF := fun e => Lib.hid (ne_at (l := l) (m := m) (k := k) e)
        have hltI : (k : Int) < (l.length : Int) := by omega
        have hltI' : (k : Int) < (m.length : Int) := by omega
        have hk0 : 0 ≤ (k : Int) := by omega
        obtain ⟨p, hp'⟩ : ∃ p, l.getD k (0, 0) = p := ⟨_, rfl⟩
        obtain ⟨q, hq'⟩ : ∃ q, m.getD k (0, 0) = q := ⟨_, rfl⟩
        rw [hp'] at d0 d1 HN HF
        rw [hq'] at d2 d3 HN HF
        have hneq := fun w => run_neq_pt p q w
        clear hp' hq' hc1 hc2 c0 c1 c2 c3 hp hq
        by_cases he : p = q
        · have HN' := HN he
          simp only [he, decide_true, Bool.not_true] at hneq
          subst he
          clear HN HF
          go_wp2
          go_quiet (fail)
          go_wp2
          go_roundw
          case rel => exact ⟨k + 1, by omega, by go_num, HN', by (repeat (first | assumption | exact Below.refl _ _ | (refine bl_alloc ?_ _) | (refine Below.drew ?_) | (refine bl_drewN ?_ _) | (refine bl_set ?_ (by simp) _) | (refine bl_trans ?_ (by assumption)) | (refine bl_step ?_ (by assumption) (by first | omega | exact Below.size (by assumption) | (simp; omega) | (simp; exact Below.size (by assumption))))))⟩
          case measure => simp [intOf]; omega
        · have HF' := HF he
          simp only [he, decide_false, Bool.not_false] at hneq
          clear HN HF he
          go_wp2
          go_quiet (fail)
          go_wp2
          go_ret
          exact ⟨retB (by rw [decide_eq_false HF'.out]), by (repeat (first | assumption | exact Below.refl _ _ | (refine bl_alloc ?_ _) | (refine Below.drew ?_) | (refine bl_drewN ?_ _) | (refine bl_set ?_ (by simp) _) | (refine bl_trans ?_ (by assumption)) | (refine bl_step ?_ (by assumption) (by first | omega | exact Below.size (by assumption) | (simp; omega) | (simp; exact Below.size (by assumption))))))⟩
      · have HE : Hid (l = m) := by
          show _ = _
          have := HA.out
          rwa [List.take_of_length_le (by omega), List.take_of_length_le (by rw [← HL.out]; omega)] at this
        go_wp2
        go_ret
        exact ⟨retB (by rw [decide_eq_true HE.out]), hb⟩
  · have hz : ((l.length : Int) != (m.length : Int)) = true := by simp; omega
    have HF : Hid (l ≠ m) := fun e => hlen (by rw [e])
    clear hlen
    go_enter Try.func26, Try.ntmps26
    go_wp2
    go_ret
    exact ⟨retB (by rw [decide_eq_false HF.out]), by (repeat (first | assumption | exact Below.refl _ _ | (refine bl_alloc ?_ _) | (refine Below.drew ?_) | (refine bl_drewN ?_ _) | (refine bl_set ?_ (by simp) _) | (refine bl_trans ?_ (by assumption)) | (refine bl_step ?_ (by assumption) (by first | omega | exact Below.size (by assumption) | (simp; omega) | (simp; exact Below.size (by assumption))))))⟩
end Go.Proofs.Ytfmkedmhbmcbiaa
