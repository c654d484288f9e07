/-
  Proved: for every text, the program's IsName answers as the model's. No condition.
-/
import Derived.Test.YtmdfiggchiefkaaDist
import Derived.LoopTactic
import Derived.Laws.RangeAny
namespace Go.Proofs.Ytmdfiggchiefkaa.fnExactIsName
open Go.ChangeShapes Go.WideShapes Go.ChangeAt Go.RowKit

def low (c : UInt8) : Bool := decide (97 ≤ (c.toNat : Int) ∧ (c.toNat : Int) ≤ 122)
def allLow (l : List UInt8) : Bool := l.all low
def isNm (s : ByteArray) : Bool := allLow s.data.toList && decide (1 ≤ s.size ∧ s.size ≤ 8)
theorem take_snoc (s : ByteArray) (k : Nat) (h : k < s.size) : s.data.toList.take (k + 1) = s.data.toList.take k ++ [s[k]] := by
  rw [List.take_succ_eq_append_getElem (by simpa using h)]; rfl
theorem allLow_snoc (l : List UInt8) (c : UInt8) : allLow (l ++ [c]) = (allLow l && low c) := by simp [allLow]
theorem allLow_bad (s : ByteArray) (k : Nat) (h : k < s.size) (hb : low s[k] = false) : allLow s.data.toList = false := by
  unfold allLow
  rw [List.all_eq_false]
  exact ⟨s[k], by simp [ByteArray.getElem_eq_getElem_data], by simp [hb]⟩
theorem bad_of {s : ByteArray} {k : Nat} (h : k < s.size) (hb : low s[k] = false) : isNm s = false := by simp [isNm, allLow_bad s k h hb]

set_option maxHeartbeats 400000 in
theorem IsNameS_any (s : ByteArray) (w : World) (hs : s.size ≤ maxLen) :
    Calls Try.prog 26 #[.string s] w fun e w' => e = .returned (.bool (isNm s)) ∧ w = w' := by
  unfold maxLen at hs
  go_enter Try.func26, Try.ntmps26
  go_wp2
  go_loop [3] (fun i => ∃ k : Nat, k ≤ s.size ∧ i = .int .i64 k ∧ Hid (allLow (s.data.toList.take k) = true)) (fun i => s.size - (intOf i).toNat)
  case atStart => exact ⟨0, Nat.zero_le _, rfl, by show allLow _ = true; simp [allLow]⟩
  case round =>
    obtain ⟨k, hk, rfl, HA⟩ := hrel
    by_cases hlt : k < s.size
    · have hb : (s[k].toNat : Int) ≤ 255 := by have := s[k].toNat_lt; omega
      by_cases g1 : (s[k].toNat : Int) < 97
      · have HF := Lib.hid (bad_of hlt (show low s[k] = false by simp [low]; omega))
        go_wp2
        go_ret
        exact ⟨retB (by rw [HF.out]), rfl⟩
      · by_cases g2 : 122 < (s[k].toNat : Int)
        · have HF := Lib.hid (bad_of hlt (show low s[k] = false by simp [low]; omega))
          go_wp2
          go_ret
          exact ⟨retB (by rw [HF.out]), rfl⟩
        · have HS : Hid (allLow (s.data.toList.take (k + 1)) = true) := by
            show _ = _
            rw [take_snoc s k hlt, allLow_snoc, HA.out]; simp [low]; omega
          go_wp2
          go_round
          case rel => exact ⟨k + 1, by omega, by go_num, HS⟩
          case measure => simp [intOf]; omega
    · have HT : Hid (isNm s = decide (1 ≤ s.size ∧ s.size ≤ 8)) := by
        show _ = _
        have := HA.out
        rw [List.take_of_length_le (by simp; omega)] at this
        simp [isNm, this]
      by_cases c1 : 1 ≤ s.size
      · by_cases c2 : s.size ≤ 8
        · have d : Hid (decide (1 ≤ s.size ∧ s.size ≤ 8) = true) := by show _ = _; simp [c1, c2]
          go_wp2
          go_ret
          exact ⟨retB (by rw [HT.out, d.out] <;> (first | (simp; done) | (simp; omega))), rfl⟩
        · have d : Hid (decide (1 ≤ s.size ∧ s.size ≤ 8) = false) := by show _ = _; simp [c2]
          go_wp2
          go_ret
          exact ⟨retB (by rw [HT.out, d.out] <;> (first | (simp; done) | (simp; omega))), rfl⟩
      · have d : Hid (decide (1 ≤ s.size ∧ s.size ≤ 8) = false) := by show _ = _; simp [c1]
        go_wp2
        go_ret
        exact ⟨retB (by rw [HT.out, d.out] <;> (first | (simp; done) | (simp; omega))), rfl⟩

theorem bl_iter (w : World) (s : ByteArray) (pos : Nat) : Below w.heap.size w (w.iter s pos) := (Below.refl _ _).alloc (Nat.le_refl _) _

set_option maxHeartbeats 400000 in
theorem IsNameI_any (s : ByteArray) (w : World) (hs : s.size ≤ maxLen) :
    Calls Try.prog 27 #[.string s] w fun e w' => e = .returned (.bool (isNm s)) ∧ Below w.heap.size w w' := by
  unfold maxLen at hs
  by_cases c1 : 1 ≤ s.size
  · by_cases c2 : s.size ≤ 8
    · go_enter Try.func27, Try.ntmps27
      go_wp2
      go_loopw [4] (fun _ wr => ∃ k : Nat, k ≤ s.size ∧ wr = w.iter s k ∧ Hid (allLow (s.data.toList.take k) = true)) (fun _ wr => s.size - wr.iterPos w.heap.size)
      case atStart => exact ⟨0, Nat.zero_le _, rfl, by show allLow _ = true; simp [allLow]⟩
      case round =>
        obtain ⟨k, hk, rfl, HA⟩ := hrel
        by_cases hlt : k < s.size
        · by_cases g0 : s[k].toNat < 128
          · have hnx : ∀ ty, (Instr.next (.pointer (some ⟨w.heap.size, 0, none⟩)) true ty).run Try.prog (w.iter s k) = _ := fun ty => run_next_ascii w s k ty hlt g0
            by_cases g1 : (s[k].toNat : Int) < 97
            · have HF := Lib.hid (bad_of hlt (show low s[k] = false by simp [low]; omega))
              go_wp2
              go_ret
              exact ⟨retB (by rw [HF.out]), bl_iter _ _ _⟩
            · by_cases g2 : 122 < (s[k].toNat : Int)
              · have HF := Lib.hid (bad_of hlt (show low s[k] = false by simp [low]; omega))
                go_wp2
                go_ret
                exact ⟨retB (by rw [HF.out]), bl_iter _ _ _⟩
              · have HS : Hid (allLow (s.data.toList.take (k + 1)) = true) := by
                  show _ = _
                  rw [take_snoc s k hlt, allLow_snoc, HA.out]; simp [low]; omega
                go_wp2
                go_roundw
                case rel => exact ⟨k + 1, by omega, rfl, HS⟩
                case measure => simp; omega
          · have HF := Lib.hid (bad_of hlt (show low s[k] = false by simp [low]; omega))
            have hh := (decode_high s k hlt (by omega)).1
            have hnx : ∀ ty, (Instr.next (.pointer (some ⟨w.heap.size, 0, none⟩)) true ty).run Try.prog (w.iter s k) = _ := fun ty => run_next_any w s k ty hlt
            generalize (Utf8.decode s k).2 = W at hnx
            generalize (Utf8.decode s k).1 = R at hnx hh
            have hh1 : ¬ (R : Int) < 97 := by omega
            have hh2 : 122 < (R : Int) := by omega
            go_wp2
            go_ret
            exact ⟨retB (by rw [HF.out]), bl_iter _ _ _⟩
        · have HT : Hid (isNm s = true) := by
            show _ = _
            have := HA.out
            rw [List.take_of_length_le (by simp; omega)] at this
            simp [isNm, this, c1, c2]
          have hnx : ∀ ty, (Instr.next (.pointer (some ⟨w.heap.size, 0, none⟩)) true ty).run Try.prog (w.iter s k) = _ := fun ty => run_next_end w s k ty hlt
          go_wp2
          go_ret
          exact ⟨retB (by rw [HT.out]), bl_iter _ _ _⟩
    · have HT : Hid (isNm s = false) := by show _ = _; simp [isNm, c2]
      go_enter Try.func27, Try.ntmps27
      go_wp2
      go_ret
      exact ⟨retB (by rw [HT.out]), Below.refl _ _⟩
  · have HT : Hid (isNm s = false) := by show _ = _; simp [isNm, c1]
    go_enter Try.func27, Try.ntmps27
    go_wp2
    go_ret
    exact ⟨retB (by rw [HT.out]), Below.refl _ _⟩

theorem walk (s : ByteArray) (w : World) (hs : s.size ≤ maxLen) :
    Calls Try.prog 4 #[.string s] w fun e w' => e = .returned (.bool true) ∧ Below w.heap.size w w' := by
  have hs' := hs
  unfold maxLen at hs'
  cases hv : isNm s
  all_goals
    have H := Lib.hid hv
    clear hv
    by_cases hb : 1048576 < s.size
    all_goals
      go_enter Try.func4, Try.ntmps4
      go_wp2_with (first
        | (go_at_call 26; refine (IsNameS_any _ _ hs).mono ?_; rintro e w' ⟨rfl, rfl⟩; rw [H.out])
        | (go_at_call 27; refine (IsNameI_any _ _ hs).mono ?_; rintro e w' ⟨rfl, hbl⟩; rw [H.out]))
      go_ret
      exact ⟨rfl, by (repeat (first | assumption | exact Below.refl _ _ | (refine bl_alloc ?_ _) | (refine Below.drew ?_) | (refine bl_drewN ?_ _) | (refine bl_set ?_ (by simp) _) | (refine bl_step ?_ (by assumption) (by (try simp); try omega))))⟩
end Go.Proofs.Ytmdfiggchiefkaa.fnExactIsName
