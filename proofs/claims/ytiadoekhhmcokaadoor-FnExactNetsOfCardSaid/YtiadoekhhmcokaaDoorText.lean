/-
  Contracts: the text of a list of numbers, both.
-/
import Derived.Test.YtiadoekhhmcokaaDoorDec
import Derived.Laws.Concat
import Derived.Lib.ItoaLen
import Derived.Lib.Join
namespace Go.Proofs.YtiadoekhhmcokaaDoor
set_option linter.unusedSimpArgs false
set_option linter.unusedVariables false
open Go.ChangeShapes Go.WideShapes Go.ChangeAt Go.RowKit

/-- A number of a list. -/
def itmB (n : Int) : Bool := inB n (-1000000000) 1000000000
def itmTo (ns : List Int) : Nat → Bool
  | 0 => true
  | k + 1 => itmTo ns k && itmB (ns.getD k 0)
theorem itmTo_bad {ns : List Int} {k n : Nat} (h : k ≤ n) (hk : itmTo ns k = false) : itmTo ns n = false := by
  induction n with
  | zero => obtain rfl : k = 0 := by omega
            exact hk
  | succ n ih =>
    by_cases e : k = n + 1
    · subst e; exact hk
    · unfold itmTo; rw [ih (by omega)]; rfl
theorem itmTo_at {ns : List Int} {n k : Nat} (h : itmTo ns n = true) (hk : k < n) : itmB (ns.getD k 0) = true := by
  cases hs : itmB (ns.getD k 0)
  · have : itmTo ns (k + 1) = false := by unfold itmTo; rw [hs]; simp
    rw [itmTo_bad (by omega : k + 1 ≤ n) this] at h; cases h
  · rfl
def itmsB (ns : List Int) : Bool := decide (ns.length ≤ 60) && itmTo ns ns.length
theorem itmB_bd {n : Int} (h : itmB n = true) : -1000000000 ≤ n ∧ n ≤ 1000000000 := of_decide_eq_true h

theorem l00In_itm {n : Int} {b : Bool} (h : Hid (itmB n = b)) (w : World) :
    Calls Tryd.prog 64 #[.int .i64 n, .int .i64 (-1000000000), .int .i64 1000000000] w fun e w' => e = .returned (.bool b) ∧ w = w' := by
  rw [← h.out]; exact l00In_any n (-1000000000) 1000000000 w
theorem isItem_any (n : Int) (w : World) :
    Calls Tryd.prog 117 #[.int .i64 n] w fun e w' => e = .returned (.bool (itmB n)) ∧ w = w' := by
  by_cases h1 : -1000000000 ≤ n
  · by_cases h2 : n ≤ 1000000000
    · have F : Hid (itmB n = true) := inB_t h1 h2
      go_enter Tryd.func117, Tryd.ntmps117
      go_wp2
      go_ret
      exact ⟨retB (by rw [F.out]), rfl⟩
    · have F : Hid (itmB n = false) := inB_f (by omega)
      go_enter Tryd.func117, Tryd.ntmps117
      go_wp2
      go_ret
      exact ⟨retB (by rw [F.out]), rfl⟩
  · have F : Hid (itmB n = false) := inB_f (by omega)
    go_enter Tryd.func117, Tryd.ntmps117
    go_wp2
    go_ret
    exact ⟨retB (by rw [F.out]), rfl⟩
theorem isItem_is {n : Int} {b : Bool} (h : Hid (itmB n = b)) (w : World) :
    Calls Tryd.prog 117 #[.int .i64 n] w fun e w' => e = .returned (.bool b) ∧ w = w' := by
  rw [← h.out]; exact isItem_any n w

/-- The text of the words, with commas between them, up to k of them. -/
def cmm (fs : List (List UInt8)) : Nat → List UInt8
  | 0 => []
  | k + 1 => if k = 0 then fs.getD 0 [] else cmm fs k ++ (44 :: fs.getD k [])
theorem cmm_one (fs : List (List UInt8)) : cmm fs 1 = fs.getD 0 [] := rfl
theorem cmm_next {fs : List (List UInt8)} {k : Nat} (h : 1 ≤ k) : cmm fs (k + 1) = cmm fs k ++ (44 :: fs.getD k []) := by
  show (if k = 0 then fs.getD 0 [] else cmm fs k ++ (44 :: fs.getD k [])) = _
  rw [if_neg (by omega)]
theorem cmm_join : ∀ (fs : List (List UInt8)), fs ≠ [] → cmm fs fs.length = Lib.join fs [44]
  | [], h => absurd rfl h
  | x :: r, _ => by
    rw [Lib.join_cons]
    have : ∀ k, k ≤ r.length → cmm (x :: r) (k + 1) = x ++ Lib.joinTail [44] (r.take k) := by
      intro k
      induction k with
      | zero => intro _; simp [cmm, Lib.joinTail]
      | succ k ih =>
        intro hk
        rw [cmm_next (by omega), ih (by omega)]
        have hy : r[k]? = some (r[k]'(by omega)) := by simp [show k < r.length by omega]
        rw [Lib.joinTail_take_succ [44] r k _ hy]
        simp [List.getD_eq_getElem?_getD, show k < r.length by omega]
    have := this r.length (Nat.le_refl _)
    rw [List.take_length] at this
    exact this
theorem cmm_len {fs : List (List UInt8)} {m : Nat} (h : ∀ i, i < fs.length → (fs.getD i []).length ≤ m) : ∀ k, k ≤ fs.length → (cmm fs k).length ≤ k * (m + 1)
  | 0, _ => by simp [cmm]
  | k + 1, hk => by
    have ih := cmm_len h k (by omega)
    have h1 := h k (by omega)
    rw [Nat.succ_mul]
    unfold cmm
    split
    · rename_i e; subst e; omega
    · rw [List.length_append, List.length_cons]; omega
def wrds (ns : List Int) : List (List UInt8) := ns.map Lib.itoa
/-- The text of a list. -/
def lstT (ns : List Int) : ByteArray := if ns.length = 0 then ⟨#[110, 111, 110, 101]⟩ else ⟨(cmm (wrds ns) ns.length).toArray⟩
theorem wrds_at {ns : List Int} {i : Nat} (h : i < ns.length) : (wrds ns).getD i [] = Lib.itoa (ns.getD i 0) := by
  simp [wrds, List.getD_eq_getElem?_getD, h]
theorem wrds_len {ns : List Int} (h : itmTo ns ns.length = true) : ∀ i, i < (wrds ns).length → ((wrds ns).getD i []).length ≤ 21 := by
  intro i hi
  have hi' : i < ns.length := by simpa [wrds] using hi
  rw [wrds_at hi']
  obtain ⟨h1, h2⟩ := itmB_bd (itmTo_at h hi')
  exact Lib.itoa_length_le _ (by omega) (by omega)

set_option maxHeartbeats 800000 in
theorem l01Text_any (A : Option Addr) (ns : List Int) (c : Nat) (w : World) (hp : IntsAt w w.heap.size A ns) (hl : ns.length ≤ 60) (hi : itmTo ns ns.length = true) :
    Calls Tryd.prog 109 #[.slice A ns.length c] w fun e w' => e = .returned (.string (lstT ns)) ∧ Below w.heap.size w w' := by
  have hlI : (ns.length : Int) ≤ 60 := by omega
  by_cases h0 : ns.length = 0
  · have F : Hid (lstT ns = ⟨#[110, 111, 110, 101]⟩) := by show _ = _; unfold lstT; rw [if_pos h0]
    have hz : ((ns.length : Int) == 0) = true := by simp [h0]
    clear h0
    go_enter Tryd.func109, Tryd.ntmps109
    go_wp2
    go_ret
    exact ⟨by rw [F.out]; rfl, by (repeat (first | assumption | exact Below.refl _ _ | (refine bl_alloc ?_ _) | (refine Below.drew ?_) | (refine bl_drewN ?_ _) | (refine bl_set ?_ (by first | (simp; done) | omega | (simp; omega)) _) | (refine bl_trans ?_ (by assumption)) | (refine bl_step ?_ (by assumption) (by first | omega | exact Below.size (by assumption) | (simp; omega) | (simp; exact Below.size (by assumption))))))⟩
  · have F : Hid (lstT ns = ⟨(cmm (wrds ns) ns.length).toArray⟩) := by show _ = _; unfold lstT; rw [if_neg h0]
    have hz : ((ns.length : Int) == 0) = false := by simp; exact fun e => h0 (by simp [e])
    obtain ⟨b, off, rfl, hbB, hc⟩ := hp (by omega)
    have c0 := hc 0 (by omega)
    simp only [Nat.add_zero] at c0
    obtain ⟨k1, k2⟩ := itmB_bd (itmTo_at hi (by omega : 0 < ns.length))
    have HW : Hid (cmm (wrds ns) 1 = Lib.itoa (ns.getD 0 0)) := by show _ = _; rw [cmm_one, wrds_at (by omega)]
    have hpos : 0 < ns.length := by omega
    have hposI : 0 < (ns.length : Int) := by omega
    generalize ns.getD 0 0 = n0 at *
    go_enter Tryd.func109, Tryd.ntmps109
    go_wp2_with (go_at_call 115; refine (l01Dec_any n0 _ (by omega) (by omega)).mono ?_; rintro e w1 ⟨rfl, hb1⟩)
    rw [← HW.out]
    go_loopw [3, 4] (fun s i wr => ∃ k : Nat, 1 ≤ k ∧ k ≤ ns.length ∧ i = .int .i64 k ∧ s = .string ⟨(cmm (wrds ns) k).toArray⟩ ∧ Below w.heap.size w wr) (fun _ i _ => ns.length - (intOf i).toNat)
    case atStart => exact ⟨1, Nat.le_refl _, by omega, rfl, rfl, hb1⟩
    case round =>
      clear hb1 c0
      obtain ⟨k, hk1, hk, rfl, rfl, hb⟩ := hrel
      by_cases hlt : k < ns.length
      · have d0 := (hb.cell (p := ⟨b, off + k, none⟩) hbB).trans (hc k hlt)
        have hltI : (k : Int) < (ns.length : Int) := by omega
        obtain ⟨k3, k4⟩ := itmB_bd (itmTo_at hi hlt)
        have HN : Hid (cmm (wrds ns) (k + 1) = cmm (wrds ns) k ++ (44 :: Lib.itoa (ns.getD k 0))) := by show _ = _; rw [cmm_next hk1, wrds_at hlt]
        have hL := cmm_len (wrds_len hi) k (by simp [wrds]; omega)
        have hI := Lib.itoa_length_le (ns.getD k 0) (by omega) (by omega)
        generalize ns.getD k 0 = x at *
        have hlx : (Lib.itoa x).length ≤ 8388607 := by omega
        have hlc : (cmm (wrds ns) k).length ≤ 8388607 := by
          have : k * (21 + 1) ≤ 60 * 22 := Nat.mul_le_mul (by omega) (by omega)
          omega
        have s1 : ∀ w, (Op.stringOp .add ⟨#[44]⟩ ⟨(Lib.itoa x).toArray⟩).run Tryd.prog w = .ok (.string ⟨((44 :: Lib.itoa x)).toArray⟩) w := fun w => run_string_add_lists w [44] (Lib.itoa x) (by simp) (by omega)
        have s2 : ∀ w, (Op.stringOp .add ⟨(cmm (wrds ns) k).toArray⟩ ⟨(44 :: Lib.itoa x).toArray⟩).run Tryd.prog w = .ok (.string ⟨(cmm (wrds ns) k ++ (44 :: Lib.itoa x)).toArray⟩) w := fun w => run_string_add_lists w _ _ (by omega) (by simp; omega)
        clear hc hL hI
        go_wp2_with (go_at_call 115; refine (l01Dec_any x _ (by omega) (by omega)).mono ?_; rintro e w2 ⟨rfl, hb2⟩)
        trace_state
        go_roundw
        case rel => exact ⟨k + 1, by omega, by omega, by go_num, by rw [HN.out], by (repeat (first | assumption | exact Below.refl _ _ | (refine bl_alloc ?_ _) | (refine Below.drew ?_) | (refine bl_drewN ?_ _) | (refine bl_set ?_ (by first | (simp; done) | omega | (simp; omega)) _) | (refine bl_trans ?_ (by assumption)) | (refine bl_step ?_ (by assumption) (by first | omega | exact Below.size (by assumption) | (simp; omega) | (simp; exact Below.size (by assumption))))))⟩
        case measure => simp [intOf]; omega
      · obtain rfl : k = ns.length := by omega
        go_wp2
        go_ret
        exact ⟨by rw [F.out]; rfl, hb⟩
end Go.Proofs.YtiadoekhhmcokaaDoor
