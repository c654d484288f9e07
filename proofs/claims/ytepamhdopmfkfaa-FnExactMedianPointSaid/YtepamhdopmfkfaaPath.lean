/-
  Contracts: the model's index of a point in a list.
-/
import Derived.Test.YtepamhdopmfkfaaSlices
import Derived.Test.YtepamhdopmfkfaaMap
import Derived.Test.YtepamhdopmfkfaaPlan
namespace Go.Proofs.Ytepamhdopmfkfaa
set_option linter.unusedSimpArgs false
set_option linter.unusedVariables false
open Go.ChangeShapes Go.WideShapes Go.ChangeAt Go.RowKit

theorem run_eql_pt (p q : Int × Int) (w : World) : (binOp .eql 33 (.agg #[.int .i64 p.1, .int .i64 p.2]) (.agg #[.int .i64 q.1, .int .i64 q.2])).run Try.prog w = .ok (.bool (decide (p = q))) w := by
  have h := run_equal_pt p q w
  unfold Op.equal ptV at h
  rw [run_eql_struct, show (10000 : Nat) = Op.maxDepth from rfl, h]
  rfl

/-- What the index of p in l comes to. -/
def IdxPost (l : List (Int × Int)) (p : Int × Int) (w : World) (e : Ending) (w' : World) : Prop :=
  (p ∈ l → ∃ k : Nat, e = .returned (.int .i64 k) ∧ k ≤ l.length) ∧ (p ∉ l → e = .returned (.int .i64 (-1))) ∧ Below w.heap.size w w'

set_option maxRecDepth 100000 in
set_option maxHeartbeats 400000 in
theorem l01Index_any (A : Option Addr) (ps : List (Int × Int)) (c : Nat) (x y : Int) (w : World) (hp : PtsAt w w.heap.size A ps) (hl : ps.length ≤ 1048576) :
    Calls Try.prog 77 #[.slice A ps.length c, .agg #[.int .i64 x, .int .i64 y]] w (IdxPost ps (x, y) w) := by
  go_enter Try.func77, Try.ntmps77
  go_wp2
  go_loopw [5] (fun i wr => ∃ k : Nat, k ≤ ps.length ∧ i = .int .i64 k ∧ Hid ((x, y) ∉ ps.take k) ∧ wr.cell? ⟨w.heap.size, 0, none⟩ = some (.int .i64 x) ∧ wr.cell? ⟨w.heap.size, 0 + 1, none⟩ = some (.int .i64 y) ∧ Below w.heap.size w wr ∧ w.heap.size < wr.heap.size) (fun i _ => ps.length - (intOf i).toNat)
  case atStart => exact ⟨0, Nat.zero_le _, rfl, by show _ ∉ _; simp, by simp, by simp, by (repeat (first | assumption | exact Below.refl _ _ | (refine bl_alloc ?_ _) | (refine Below.drew ?_) | (refine bl_drewN ?_ _) | (refine bl_set ?_ (by first | (simp; done) | omega | (simp; omega)) _) | (refine bl_trans ?_ (by assumption)) | (refine bl_step ?_ (by assumption) (by first | omega | exact Below.size (by assumption) | (simp; omega) | (simp; exact Below.size (by assumption)))))), by simp⟩
  case round =>
    obtain ⟨k, hk, rfl, HA, q0, q1, hb, hz⟩ := hrel
    by_cases hlt : k < ps.length
    · obtain ⟨b, off, rfl, hbB, hc⟩ := hp (by omega)
      obtain ⟨c0, c1⟩ := hc k hlt
      have d0 := (hb.cell (p := ⟨b, off + k * 2, none⟩) hbB).trans c0
      have d1 := (hb.cell (p := ⟨b, off + k * 2 + 1, none⟩) hbB).trans c1
      have HN := Lib.hid (take_snocP ps k hlt)
      have HM : Hid (ps.getD k (0, 0) ∈ ps) := by show _ ∈ _; simp [List.getD_eq_getElem?_getD, hlt]
      have heq := fun w => run_eql_pt (ps.getD k (0, 0)) (x, y) w
      obtain ⟨pk, hpk⟩ : ∃ pk, ps.getD k (0, 0) = pk := ⟨_, rfl⟩
      rw [hpk] at d0 d1 HN HM heq
      clear hpk hc c0 c1 hp
      obtain ⟨xk, yk⟩ := pk
      have hltI : (k : Int) < (ps.length : Int) := by omega
      have hzle : w.heap.size ≤ wr.heap.size := by omega
      by_cases he : (xk, yk) = (x, y)
      · simp only [he, decide_true] at heq
        have HE := Lib.hid he
        clear he
        go_wp2
        go_region_held3 (fun wx => wx.cell? ⟨b, off + k * 2, none⟩ = some (.int .i64 xk) ∧ wx.cell? ⟨b, off + k * 2 + 1, none⟩ = some (.int .i64 yk) ∧ wx.cell? ⟨w.heap.size, 0, none⟩ = some (.int .i64 x) ∧ wx.cell? ⟨w.heap.size, 0 + 1, none⟩ = some (.int .i64 y) ∧ Below w.heap.size w wx ∧ w.heap.size ≤ wx.heap.size)
          (first | exact ⟨d0, d1, q0, q1, hb.drew, hzle⟩) (fail)
        go_wp2
        go_ret
        exact ⟨fun _ => ⟨k, rfl, hk⟩, fun h => absurd (HE.out ▸ HM.out) h, hb.drew⟩
      · simp only [he, decide_false] at heq
        have HE := Lib.hid he
        clear he
        go_wp2
        go_region_held3 (fun wx => wx.cell? ⟨b, off + k * 2, none⟩ = some (.int .i64 xk) ∧ wx.cell? ⟨b, off + k * 2 + 1, none⟩ = some (.int .i64 yk) ∧ wx.cell? ⟨w.heap.size, 0, none⟩ = some (.int .i64 x) ∧ wx.cell? ⟨w.heap.size, 0 + 1, none⟩ = some (.int .i64 y) ∧ Below w.heap.size w wx ∧ w.heap.size ≤ wx.heap.size)
          (first | exact ⟨d0, d1, q0, q1, hb.drew, hzle⟩) (fail)
        go_wp2
        go_roundw
        case rel => exact ⟨k + 1, by omega, by go_num, by show _ ∉ _; rw [HN.out]; simp only [List.mem_append, List.mem_singleton, not_or]; exact ⟨HA.out, fun e => HE.out e.symm⟩, q0, q1, hb.drew, hz⟩
        case measure => simp [intOf]; omega
    · have HF : Hid ((x, y) ∉ ps) := by
        show _ ∉ _
        have := HA.out
        rwa [List.take_of_length_le (by omega)] at this
      go_wp2
      go_ret
      exact ⟨fun h => absurd h HF.out, fun _ => rfl, hb⟩

theorem PtsAt.take {w : World} {B : Nat} {A : Option Addr} {ps : List (Int × Int)} (h : PtsAt w B A ps) (k : Nat) : PtsAt w B A (ps.take k) := fun h0 => by
  have hl : (ps.take k).length = min k ps.length := List.length_take
  obtain ⟨b, off, e, hb, hc⟩ := h (by omega)
  refine ⟨b, off, e, hb, fun i hi => ?_⟩
  have hik : i < k := by omega
  have := hc i (by omega)
  simpa [List.getD_eq_getElem?_getD, List.getElem?_take, hik] using this
theorem l01Index_n (A : Option Addr) (l : List (Int × Int)) (n c : Nat) (x y : Int) (w : World) (hn : l.length = n) (hp : PtsAt w w.heap.size A l) (hl : n ≤ 1048576) :
    Calls Try.prog 77 #[.slice A n c, .agg #[.int .i64 x, .int .i64 y]] w (IdxPost l (x, y) w) := by
  subst hn; exact l01Index_any A l c x y w hp hl

/-- A list is a path up to k, apart from the bounds of the grid. -/
def stepB (ps : List (Int × Int)) (k : Nat) : Bool :=
  !decide (ps.getD k (0, 0) ∈ ps.take k) && (decide (k = 0) || decide (farI (ps.getD (k - 1) (0, 0)).1 (ps.getD (k - 1) (0, 0)).2 (ps.getD k (0, 0)).1 (ps.getD k (0, 0)).2 = 1))
def pathS (ps : List (Int × Int)) : Nat → Bool
  | 0 => true
  | k + 1 => pathS ps k && (isPt (ps.getD k (0, 0)).1 (ps.getD k (0, 0)).2 && stepB ps k)
def pathI (ps : List (Int × Int)) : Nat → Bool
  | 0 => true
  | k + 1 => pathI ps k && stepB ps k
def sizeB (ps : List (Int × Int)) : Bool := decide (1 ≤ ps.length ∧ ps.length ≤ 576)
def isPathB (ps : List (Int × Int)) : Bool := sizeB ps && pathS ps ps.length
theorem pathS_bad (ps : List (Int × Int)) (k n : Nat) (h : k ≤ n) (hk : pathS ps k = false) : pathS ps n = false := by
  induction n with
  | zero => obtain rfl : k = 0 := by omega
            exact hk
  | succ n ih =>
    by_cases e : k = n + 1
    · subst e; exact hk
    · unfold pathS; rw [ih (by omega)]; rfl
theorem pathI_bad (ps : List (Int × Int)) (k n : Nat) (h : k ≤ n) (hk : pathI ps k = false) : pathI ps n = false := by
  induction n with
  | zero => obtain rfl : k = 0 := by omega
            exact hk
  | succ n ih =>
    by_cases e : k = n + 1
    · subst e; exact hk
    · unfold pathI; rw [ih (by omega)]; rfl
theorem pathS_eq (ps : List (Int × Int)) : ∀ k, k ≤ ps.length → pathS ps k = (allPt (ps.take k) && pathI ps k)
  | 0, _ => by simp [pathS, pathI, allPt]
  | k + 1, h => by
    unfold pathS pathI
    rw [pathS_eq ps k (by omega), allPt_snoc ps k (by omega)]
    cases allPt (ps.take k) <;> cases pathI ps k <;> cases isPt (ps.getD k (0, 0)).1 (ps.getD k (0, 0)).2 <;> cases stepB ps k <;> rfl
theorem pathS_len (ps : List (Int × Int)) : pathS ps ps.length = (allPt ps && pathI ps ps.length) := by
  rw [pathS_eq ps _ (Nat.le_refl _), List.take_length]

theorem keep2b {N : Nat} {w wr wr' : World} {b1 o1 : Nat} {X Y : Value}
    (h : wr.cell? ⟨b1, o1, none⟩ = some X ∧ wr.cell? ⟨b1, o1 + 1, none⟩ = some Y ∧ Below N w wr ∧ N ≤ wr.heap.size) (hs : Below wr.heap.size wr wr') :
    wr'.cell? ⟨b1, o1, none⟩ = some X ∧ wr'.cell? ⟨b1, o1 + 1, none⟩ = some Y ∧ Below N w wr' ∧ N ≤ wr'.heap.size := by
  obtain ⟨h0, h1, hb, hz⟩ := h
  have l1 : b1 < wr.heap.size := World.block_lt_of_cell? wr _ h0
  exact ⟨(hs.cell (p := ⟨b1, o1, none⟩) l1).trans h0, (hs.cell (p := ⟨b1, o1 + 1, none⟩) l1).trans h1, hb.trans (hs.mono hz), Nat.le_trans hz hs.size⟩
theorem PtsAt.at_ {w wr : World} {A : Option Addr} {ps : List (Int × Int)} (h : PtsAt w w.heap.size A ps) (hb : Below w.heap.size w wr) : PtsAt wr wr.heap.size A ps := h.to hb
theorem pathS_at {ps : List (Int × Int)} {n : Nat} (h : pathS ps n = true) {k : Nat} (hk : k < n) : isPt (ps.getD k (0, 0)).1 (ps.getD k (0, 0)).2 = true := by
  cases hv : isPt (ps.getD k (0, 0)).1 (ps.getD k (0, 0)).2
  · have : pathS ps (k + 1) = false := by unfold pathS; rw [hv]; simp
    rw [pathS_bad ps (k + 1) n (by omega) this] at h; cases h
  · rfl

end Go.Proofs.Ytepamhdopmfkfaa
