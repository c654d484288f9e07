/-
  Contracts: spec's l01Value: the number with a text.
-/
import Derived.Test.YtiadoekhhmcokaaDoorReadM
import Derived.Test.YtiadoekhhmcokaaDoorText
namespace Go.Proofs.YtiadoekhhmcokaaDoor
set_option linter.unusedSimpArgs false
set_option linter.unusedVariables false
open Go.ChangeShapes Go.WideShapes Go.ChangeAt Go.RowKit

/-- What l01Value has before it compares. -/
def valM (s : ByteArray) : Int := if s.size ≤ 11 then (if s.data.toList.head? = some 45 then -(accN s.data.toList : Int) else accN s.data.toList) else 0
/-- The text of n is s. -/
def isTx (n : Int) (s : ByteArray) : Bool := decide ((⟨(Lib.itoa n).toArray⟩ : ByteArray) = s)
theorem take_next (s : ByteArray) (k : Nat) (h : k < s.size) : s.data.toList.take (k + 1) = s.data.toList.take k ++ [s[k]] := by
  rw [List.take_succ_eq_append_getElem (by simpa using h)]; rfl
theorem accN_next (s : ByteArray) (k : Nat) (h : k < s.size) : accN (s.data.toList.take (k + 1)) = stepN (accN (s.data.toList.take k)) s[k] := by rw [take_next s k h, accN_snoc]

theorem tx_ne {a b : ByteArray} (h : a ≠ b) : (a.toList == b.toList) = false := by
  rw [beq_eq_false_iff_ne]
  intro e
  rw [ByteArray.toList_eq, ByteArray.toList_eq] at e
  exact h (by cases a; cases b; simp only [ByteArray.mk.injEq]; exact Array.ext' e)

set_option maxHeartbeats 800000 in
theorem l01Value_bad (s : ByteArray) (w : World) (hs : s.size ≤ 1048576) (hbad : (itmB (valM s) && isTx (valM s) s) = false) :
    Calls Tryd.prog 90 #[.string s] w fun e w' => e = .returned (.tuple #[.int .i64 0, .bool false]) ∧ Below w.heap.size w w' := by
  have HV := Lib.hid hbad
  have hsI : (s.size : Int) ≤ 1048576 := by omega
  clear hbad
  go_enter Tryd.func90, Tryd.ntmps90
  go_wp2
  go_loop [4, 5] (fun n i => ∃ k : Nat, k ≤ s.size ∧ i = .int .i64 k ∧ n = .int .i64 (accN (s.data.toList.take k) : Nat) ∧ (s.size ≤ 11 ∨ k = 0)) (fun _ i => s.size - (intOf i).toNat)
  case atStart => exact ⟨0, Nat.zero_le _, rfl, by simp [accN], .inr rfl⟩
  case round =>
    obtain ⟨k, hk, rfl, rfl, hor⟩ := hrel
    by_cases h11 : s.size ≤ 11
    · have h11I : (s.size : Int) ≤ 11 := by omega
      by_cases hlt : k < s.size
      · have hltI : (k : Int) < s.size := by omega
        have hb : (s[k].toNat : Int) ≤ 255 := by have := s[k].toNat_lt; omega
        have hA : accN (s.data.toList.take k) < 10 ^ 11 := accN_lt (by simp; omega)
        have HS := Lib.hid (accN_next s k hlt)
        generalize accN (s.data.toList.take k) = a at *
        have hA1 : (a : Int) ≤ 100000000000 := by omega
        have hA0 : 0 ≤ (a : Int) := by omega
        by_cases g1 : 48 ≤ (s[k].toNat : Int)
        · by_cases g2 : (s[k].toNat : Int) ≤ 57
          · have HE : Hid (((accN (s.data.toList.take (k + 1)) : Nat) : Int) = 10 * (a : Int) + ((s[k].toNat : Int) - 48)) := by
              show _ = _
              have := HS.out
              unfold stepN at this
              rw [if_pos (by omega)] at this
              omega
            go_wp2
            go_round
            case rel => exact ⟨k + 1, by omega, by go_num, by rw [HE.out], .inl h11⟩
            case measure => simp [intOf]; omega
          · have HE : Hid (((accN (s.data.toList.take (k + 1)) : Nat) : Int) = (a : Int)) := by
              show _ = _
              have := HS.out
              unfold stepN at this
              rw [if_neg (by omega)] at this
              omega
            go_wp2
            go_round
            case rel => exact ⟨k + 1, by omega, by go_num, by rw [HE.out], .inl h11⟩
            case measure => simp [intOf]; omega
        · have HE : Hid (((accN (s.data.toList.take (k + 1)) : Nat) : Int) = (a : Int)) := by
            show _ = _
            have := HS.out
            unfold stepN at this
            rw [if_neg (by omega)] at this
            omega
          go_wp2
          go_round
          case rel => exact ⟨k + 1, by omega, by go_num, by rw [HE.out], .inl h11⟩
          case measure => simp [intOf]; omega
      · obtain rfl : k = s.size := by omega
        have hA : accN (s.data.toList.take s.size) < 10 ^ 11 := accN_lt (by simp; omega)
        have hT : s.data.toList.take s.size = s.data.toList := List.take_of_length_le (by simp)
        rw [hT] at hA ⊢
        have hV := HV.out
        unfold valM at hV
        rw [if_pos h11] at hV
        have hA1 : (accN s.data.toList : Int) ≤ 100000000000 := by omega
        have hA0 : 0 ≤ (accN s.data.toList : Int) := by omega
        by_cases h0 : 0 < s.size
        · have h0I : 0 < (s.size : Int) := by omega
          have hh : s.data.toList.head? = some s[0] := by
            rw [List.head?_eq_getElem?, List.getElem?_eq_getElem (by simpa using h0)]; rfl
          rw [hh] at hV
          by_cases h45 : (s[0].toNat : Int) = 45
          · have e45 : s[0] = 45 := UInt8.toNat_inj.1 (by show _ = 45; omega)
            rw [if_pos (by rw [e45])] at hV
            generalize accN s.data.toList = a at *
            cases hi : itmB (-(a : Int))
            · have HI := Lib.hid hi
              go_wp2_with (go_at_call 64; refine (l00In_itm HI _).mono ?_; rintro e w' ⟨rfl, rfl⟩)
              go_ret2
              exact ⟨rfl, Below.refl _ _⟩
            · have HI := Lib.hid hi
              rw [hi, Bool.true_and] at hV
              have hne : (⟨(Lib.itoa (-(a : Int))).toArray⟩ : ByteArray) ≠ s := of_decide_eq_false hV
              replace hne := tx_ne hne
              have hd := l01Dec_any (-(a : Int)) w (by omega) (by omega)
              generalize (⟨(Lib.itoa (-(a : Int))).toArray⟩ : ByteArray) = tx at *
              go_wp2_with (first
                | (go_at_call 64; refine (l00In_itm HI _).mono ?_; rintro e w' ⟨rfl, rfl⟩)
                | (go_at_call 115; refine hd.mono ?_; rintro e w' ⟨rfl, hb⟩))
              go_ret2
              exact ⟨rfl, hb⟩
          · rw [if_neg (by intro e; exact h45 (by rw [Option.some.inj e]; rfl))] at hV
            generalize accN s.data.toList = a at *
            cases hi : itmB (a : Int)
            · have HI := Lib.hid hi
              go_wp2_with (go_at_call 64; refine (l00In_itm HI _).mono ?_; rintro e w' ⟨rfl, rfl⟩)
              go_ret2
              exact ⟨rfl, Below.refl _ _⟩
            · have HI := Lib.hid hi
              rw [hi, Bool.true_and] at hV
              have hne : (⟨(Lib.itoa (a : Int)).toArray⟩ : ByteArray) ≠ s := of_decide_eq_false hV
              replace hne := tx_ne hne
              have hd := l01Dec_any (a : Int) w (by omega) (by omega)
              generalize (⟨(Lib.itoa (a : Int)).toArray⟩ : ByteArray) = tx at *
              go_wp2_with (first
                | (go_at_call 64; refine (l00In_itm HI _).mono ?_; rintro e w' ⟨rfl, rfl⟩)
                | (go_at_call 115; refine hd.mono ?_; rintro e w' ⟨rfl, hb⟩))
              go_ret2
              exact ⟨rfl, hb⟩
        · have h0I : ¬ 0 < (s.size : Int) := by omega
          have hl : s.data.toList = [] := List.length_eq_zero_iff.1 (by rw [Array.length_toList]; show s.size = 0; omega)
          have ha : accN s.data.toList = 0 := by rw [hl]; rfl
          rw [ha] at hV ⊢
          rw [hl] at hV
          have HI : Hid (itmB 0 = true) := by show _ = _; decide
          have hne : (⟨(Lib.itoa 0).toArray⟩ : ByteArray) ≠ s := by
            intro e
            have := congrArg (fun b : ByteArray => b.data.toList) e
            rw [hl] at this
            exact itoa_ne 0 this
          replace hne := tx_ne hne
          have hd := l01Dec_any 0 w (by omega) (by omega)
          generalize (⟨(Lib.itoa 0).toArray⟩ : ByteArray) = tx at *
          go_wp2_with (first
            | (go_at_call 64; refine (l00In_itm HI _).mono ?_; rintro e w' ⟨rfl, rfl⟩)
            | (go_at_call 115; refine hd.mono ?_; rintro e w' ⟨rfl, hb⟩))
          go_ret2
          exact ⟨rfl, hb⟩
    · have h11I : ¬ (s.size : Int) ≤ 11 := by omega
      obtain rfl : k = 0 := by rcases hor with h | h
                               · exact absurd h h11
                               · exact h
      have h0I : 0 < (s.size : Int) := by omega
      have hT : accN (s.data.toList.take 0) = 0 := rfl
      rw [hT]
      have HI : Hid (itmB 0 = true) := by show _ = _; decide
      have hne : (⟨(Lib.itoa 0).toArray⟩ : ByteArray) ≠ s := by
        intro e
        have := congrArg (fun b : ByteArray => b.data.toList.length) e
        have h2 := itoa_len 0 (by omega) (by omega)
        have h3 : (Lib.itoa 0).length = s.size := by simpa using this
        omega
      replace hne := tx_ne hne
      have hd := l01Dec_any 0 w (by omega) (by omega)
      generalize (⟨(Lib.itoa 0).toArray⟩ : ByteArray) = tx at *
      by_cases h45 : (s[0].toNat : Int) = 45
      all_goals
        go_wp2_with (first
          | (go_at_call 64; refine (l00In_itm HI _).mono ?_; rintro e w' ⟨rfl, rfl⟩)
          | (go_at_call 115; refine hd.mono ?_; rintro e w' ⟨rfl, hb⟩))
        go_ret2
        exact ⟨rfl, hb⟩

theorem num_facts {s : ByteArray} {m : Int} (h : IsNum s m) : 0 < s.size ∧ s.size ≤ 11 ∧ (⟨(Lib.itoa m).toArray⟩ : ByteArray) = s ∧ accN s.data.toList = m.natAbs ∧ (s.data.toList.head? = some 45 ↔ m < 0) := by
  obtain ⟨h1, h2, h3⟩ := h
  have hsz : s.size = (Lib.itoa m).length := by rw [← h3, Array.length_toList]; rfl
  have hp := List.length_pos_iff.2 (itoa_ne m)
  refine ⟨by omega, by have := itoa_len m h1 h2; omega, ?_, by rw [h3, itoa_acc], by rw [h3, itoa_head]⟩
  rw [← h3]

set_option maxHeartbeats 800000 in
theorem l01Value_num (s : ByteArray) (m : Int) (w : World) (h : IsNum s m) :
    Calls Tryd.prog 90 #[.string s] w fun e w' => e = .returned (.tuple #[.int .i64 m, .bool true]) ∧ Below w.heap.size w w' := by
  obtain ⟨h0, h11, htx, hac, hsg⟩ := num_facts h
  obtain ⟨m1, m2, -⟩ := h
  have hsI : (s.size : Int) ≤ 1048576 := by omega
  have h11I : (s.size : Int) ≤ 11 := by omega
  have HI : Hid (itmB m = true) := by show _ = _; unfold itmB inB; simp; omega
  have hd := l01Dec_any m w (by omega) (by omega)
  rw [htx] at hd
  clear htx
  go_enter Tryd.func90, Tryd.ntmps90
  go_wp2
  go_loop [4, 5] (fun n i => ∃ k : Nat, k ≤ s.size ∧ i = .int .i64 k ∧ n = .int .i64 (accN (s.data.toList.take k) : Nat)) (fun _ i => s.size - (intOf i).toNat)
  case atStart => exact ⟨0, Nat.zero_le _, rfl, by simp [accN]⟩
  case round =>
    obtain ⟨k, hk, rfl, rfl⟩ := hrel
    by_cases hlt : k < s.size
    · have hltI : (k : Int) < s.size := by omega
      have hb : (s[k].toNat : Int) ≤ 255 := by have := s[k].toNat_lt; omega
      have hA : accN (s.data.toList.take k) < 10 ^ 11 := accN_lt (by simp; omega)
      have HS := Lib.hid (accN_next s k hlt)
      generalize accN (s.data.toList.take k) = a at *
      have hA1 : (a : Int) ≤ 100000000000 := by omega
      have hA0 : 0 ≤ (a : Int) := by omega
      by_cases g1 : 48 ≤ (s[k].toNat : Int)
      · by_cases g2 : (s[k].toNat : Int) ≤ 57
        · have HE : Hid (((accN (s.data.toList.take (k + 1)) : Nat) : Int) = 10 * (a : Int) + ((s[k].toNat : Int) - 48)) := by
            show _ = _
            have := HS.out
            unfold stepN at this
            rw [if_pos (by omega)] at this
            omega
          go_wp2
          go_round
          case rel => exact ⟨k + 1, by omega, by go_num, by rw [HE.out]⟩
          case measure => simp [intOf]; omega
        · have HE : Hid (((accN (s.data.toList.take (k + 1)) : Nat) : Int) = (a : Int)) := by
            show _ = _
            have := HS.out
            unfold stepN at this
            rw [if_neg (by omega)] at this
            omega
          go_wp2
          go_round
          case rel => exact ⟨k + 1, by omega, by go_num, by rw [HE.out]⟩
          case measure => simp [intOf]; omega
      · have HE : Hid (((accN (s.data.toList.take (k + 1)) : Nat) : Int) = (a : Int)) := by
          show _ = _
          have := HS.out
          unfold stepN at this
          rw [if_neg (by omega)] at this
          omega
        go_wp2
        go_round
        case rel => exact ⟨k + 1, by omega, by go_num, by rw [HE.out]⟩
        case measure => simp [intOf]; omega
    · obtain rfl : k = s.size := by omega
      have hT : s.data.toList.take s.size = s.data.toList := List.take_of_length_le (by simp)
      rw [hT, hac]
      have h0I : 0 < (s.size : Int) := by omega
      have hh : s.data.toList.head? = some s[0] := by
        rw [List.head?_eq_getElem?, List.getElem?_eq_getElem (by simpa using h0)]; rfl
      rw [hh] at hsg
      by_cases hm : m < 0
      · have e45 : s[0] = 45 := Option.some.inj (hsg.2 hm)
        have h45 : (s[0].toNat : Int) = 45 := by rw [e45]; rfl
        obtain ⟨a, rfl⟩ : ∃ a : Nat, m = -(a : Int) := ⟨m.natAbs, by omega⟩
        have hna : (-(a : Int)).natAbs = a := by omega
        rw [hna]
        clear hsg e45 hac
        go_wp2_with (first
          | (go_at_call 64; refine (l00In_itm HI _).mono ?_; rintro e w' ⟨rfl, rfl⟩)
          | (go_at_call 115; refine hd.mono ?_; rintro e w' ⟨rfl, hb⟩))
        go_ret2
        exact ⟨rfl, hb⟩
      · have h45 : ¬ (s[0].toNat : Int) = 45 := fun e => hm (hsg.1 (congrArg some (UInt8.toNat_inj.1 (by show _ = 45; omega))))
        obtain ⟨a, rfl⟩ : ∃ a : Nat, m = (a : Int) := ⟨m.natAbs, by omega⟩
        have hna : ((a : Int)).natAbs = a := by omega
        rw [hna]
        clear hsg hac
        go_wp2_with (first
          | (go_at_call 64; refine (l00In_itm HI _).mono ?_; rintro e w' ⟨rfl, rfl⟩)
          | (go_at_call 115; refine hd.mono ?_; rintro e w' ⟨rfl, hb⟩))
        go_ret2
        exact ⟨rfl, hb⟩

/-- A text of no number falls at the comparison. -/
theorem bad_of_none {s : ByteArray} (h : ∀ m, ¬ IsNum s m) (n : Int) : (itmB n && isTx n s) = false := by
  cases hi : itmB n
  · rfl
  · rw [Bool.true_and]
    unfold itmB inB at hi
    simp at hi
    exact decide_eq_false fun e => h n ⟨by omega, by omega, by rw [← e]⟩
end Go.Proofs.YtiadoekhhmcokaaDoor
