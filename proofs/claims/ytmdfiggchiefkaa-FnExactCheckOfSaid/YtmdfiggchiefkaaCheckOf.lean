/-
  Proved: for every start and text, the program's CheckOf answers as the model's. No condition.
-/
import Derived.Test.YtmdfiggchiefkaaDist
import Derived.LoopTactic
namespace Go.Proofs.Ytmdfiggchiefkaa.fnExactCheckOf
open Go.ChangeShapes Go.WideShapes Go.ChangeAt Go.RowKit

/-- One byte more. -/
def stepN (n : Int) (c : UInt8) : Int := (211 * n + (c.toNat : Int) + 9) % 65521
def chk (n : Int) (l : List UInt8) : Int := l.foldl stepN n
theorem chk_snoc (n : Int) (l : List UInt8) (c : UInt8) : chk n (l ++ [c]) = (211 * chk n l + (c.toNat : Int) + 9) % 65521 := by simp [chk, stepN]
theorem chk_bd (n : Int) (l : List UInt8) (h0 : 0 ≤ n) (h1 : n ≤ 65520) : 0 ≤ chk n l ∧ chk n l ≤ 65520 := by
  rcases List.eq_nil_or_concat l with rfl | ⟨l', c, rfl⟩
  · exact ⟨h0, h1⟩
  · rw [List.concat_eq_append, chk_snoc]; omega
theorem take_snoc (s : ByteArray) (k : Nat) (h : k < s.size) : s.data.toList.take (k + 1) = s.data.toList.take k ++ [s[k]] := by
  rw [List.take_succ_eq_append_getElem (by simpa using h)]; rfl

set_option maxHeartbeats 400000 in
theorem checkS_any (n : Int) (s : ByteArray) (w : World) (h0 : 0 ≤ n) (h1 : n ≤ 65520) (hs : s.size ≤ maxLen) :
    Calls Try.prog 83 #[.int .i64 n, .string s] w fun e w' => e = .returned (.int .i64 (chk n s.data.toList)) ∧ w = w' := by
  unfold maxLen at hs
  go_enter Try.func83, Try.ntmps83
  go_wp2
  go_loop [0, 5] (fun v i => ∃ k : Nat, k ≤ s.size ∧ i = .int .i64 k ∧ v = .int .i64 (chk n (s.data.toList.take k))) (fun _ i => s.size - (intOf i).toNat)
  case atStart => exact ⟨0, Nat.zero_le _, rfl, rfl⟩
  case round =>
    obtain ⟨k, hk, rfl, rfl⟩ := hrel
    by_cases hlt : k < s.size
    · obtain ⟨b0, b1⟩ := chk_bd n (s.data.toList.take k) h0 h1
      have hb : (s[k].toNat : Int) ≤ 255 := by have := s[k].toNat_lt; omega
      have HS : Hid (chk n (s.data.toList.take (k + 1)) = (211 * chk n (s.data.toList.take k) + (s[k].toNat : Int) + 9) % 65521) := by rw [take_snoc s k hlt]; exact chk_snoc _ _ _
      go_wp2
      go_round
      case rel => exact ⟨k + 1, by omega, by go_num, by rw [HS.out]⟩
      case measure => simp [intOf]; omega
    · go_wp2
      go_ret
      exact ⟨retI (by rw [List.take_of_length_le (by simp; omega)]), rfl⟩

/-- What CheckOf comes to, as a value that the walk does not open. -/
def chkV (n : Int) (s : ByteArray) : Value := .tuple #[.int .i64 (if 0 ≤ n ∧ n ≤ 65520 then chk n s.data.toList else 0), .bool (decide (0 ≤ n ∧ n ≤ 65520))]
theorem chkV_t {n : Int} {s : ByteArray} (h : 0 ≤ n ∧ n ≤ 65520) : chkV n s = .tuple #[.int .i64 (chk n s.data.toList), .bool true] := by simp [chkV, h]
theorem chkV_f {n : Int} {s : ByteArray} (h : ¬ (0 ≤ n ∧ n ≤ 65520)) : chkV n s = .tuple #[.int .i64 0, .bool false] := by
  unfold chkV; rw [if_neg h, decide_eq_false h]

theorem CheckOfS_any (n : Int) (s : ByteArray) (w : World) (hs : s.size ≤ maxLen) :
    Calls Try.prog 52 #[.int .i64 n, .string s] w fun e w' => e = .returned (chkV n s) ∧ w = w' := by
  by_cases h : 0 ≤ n ∧ n ≤ 65520
  · have H := Lib.hid (chkV_t (s := s) h)
    have HB := Lib.hid (inB_t h.1 h.2)
    obtain ⟨h0, h1⟩ := h
    go_enter Try.func52, Try.ntmps52
    go_wp2_with (first
      | (go_at_call 82; refine (l00In_any _ _ _ _).mono ?_; rintro e w' ⟨rfl, rfl⟩; rw [HB.out])
      | (go_at_call 83; refine (checkS_any _ _ _ h0 h1 hs).mono ?_; rintro e w' ⟨rfl, rfl⟩))
    go_ret2
    exact ⟨by rw [H.out]; rfl, rfl⟩
  · have H := Lib.hid (chkV_f (s := s) h)
    have HB := Lib.hid (inB_f h)
    clear h
    go_enter Try.func52, Try.ntmps52
    go_wp2_with (go_at_call 82; refine (l00In_any _ _ _ _).mono ?_; rintro e w' ⟨rfl, rfl⟩; rw [HB.out])
    go_ret2
    exact ⟨by rw [H.out]; rfl, rfl⟩

set_option maxHeartbeats 400000 in
theorem CheckOfI_any (n : Int) (s : ByteArray) (w : World) (hs : s.size ≤ maxLen) :
    Calls Try.prog 53 #[.int .i64 n, .string s] w fun e w' => e = .returned (chkV n s) ∧ w = w' := by
  unfold maxLen at hs
  by_cases h : 0 ≤ n ∧ n ≤ 65520
  · have H := Lib.hid (chkV_t (s := s) h)
    obtain ⟨h0, h1⟩ := h
    go_enter Try.func53, Try.ntmps53
    go_wp2
    go_loop [6, 7, 17] (fun v _ i => ∃ k : Nat, k ≤ s.size ∧ i = .int .i64 k ∧ v = .int .i64 (chk n (s.data.toList.take k))) (fun _ _ i => s.size - (intOf i).toNat)
    case atStart => exact ⟨0, Nat.zero_le _, rfl, rfl⟩
    case round =>
      obtain ⟨k, hk, rfl, rfl⟩ := hrel
      by_cases hlt : k < s.size
      · obtain ⟨b0, b1⟩ := chk_bd n (s.data.toList.take k) h0 h1
        have hb : (s[k].toNat : Int) ≤ 255 := by have := s[k].toNat_lt; omega
        have HS : Hid (chk n (s.data.toList.take (k + 1)) = (211 * chk n (s.data.toList.take k) + (s[k].toNat : Int) + 9) % 65521) := by rw [take_snoc s k hlt]; exact chk_snoc _ _ _
        go_wp2
        go_round
        case rel => exact ⟨k + 1, by omega, by go_num, by rw [HS.out]⟩
        case measure => simp [intOf]; omega
      · have HT : Hid (chk n (s.data.toList.take k) = chk n s.data.toList) := by
          show _ = _
          rw [List.take_of_length_le (by simp; omega)]
        go_wp2
        go_ret2
        exact ⟨by rw [H.out, ← HT.out]; rfl, rfl⟩
  · have H := Lib.hid (chkV_f (s := s) h)
    by_cases h0 : n < 0
    all_goals
      have h1 : ¬ (0 ≤ n ∧ n ≤ 65520) := h
      first | (have h2 : 65521 ≤ n := by omega) | skip
      clear h h1
      go_enter Try.func53, Try.ntmps53
      go_wp2
      go_ret2
      exact ⟨by rw [H.out]; rfl, rfl⟩

theorem walk (n : Int) (s : ByteArray) (w : World) (_ : (Lit.int .i64 n).wf = true) (hs : s.size ≤ maxLen) :
    Calls Try.prog 16 #[.int .i64 n, .string s] w fun e w' => e = .returned (.bool true) ∧ Below w.heap.size w w' := by
  have hs' := hs
  unfold maxLen at hs'
  obtain ⟨c, b, hv⟩ : ∃ c b, chkV n s = .tuple #[.int .i64 c, .bool b] := ⟨_, _, rfl⟩
  have H := Lib.hid hv
  clear hv
  by_cases hb : 1048576 < s.size
  all_goals
    go_enter Try.func16, Try.ntmps16
    go_wp2_with (first
      | (go_at_call 52; refine (CheckOfS_any _ _ _ hs).mono ?_; rintro e w' ⟨rfl, rfl⟩; rw [H.out])
      | (go_at_call 53; refine (CheckOfI_any _ _ _ hs).mono ?_; rintro e w' ⟨rfl, rfl⟩; rw [H.out]))
    go_ret
    exact ⟨rfl, Below.refl _ _⟩
end Go.Proofs.Ytmdfiggchiefkaa.fnExactCheckOf
