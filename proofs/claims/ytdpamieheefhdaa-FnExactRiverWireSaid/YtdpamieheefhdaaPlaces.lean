/-
  Contract: the places on the tracks, handed on by the program's closure.
-/
import Derived.Test.YtdpamieheefhdaaEachQ
import Derived.Test.YtdpamieheefhdaaWire
namespace Go.Proofs.Ytdpamieheefhdaa
set_option linter.unusedSimpArgs false
set_option linter.unusedVariables false
open Go.ChangeShapes Go.WideShapes Go.ChangeAt Go.RowKit Go.Shelf
attribute [local go_sem] Oper.semAt_some

/-- The place on track k to which a wire to the right goes. -/
def plc (T B : List Int) (n i k : Nat) : Int := if i + k < n then min (T.getD i 0) (B.getD (i + k) 0 - (k : Int)) else T.getD i 0
def plcL (T B : List Int) (n i t : Nat) : List Pt := (List.range t).map fun k => (((k + 1 : Nat) : Int), plc T B n i (k + 1))
theorem plcL_len (T B : List Int) (n i t : Nat) : (plcL T B n i t).length = t := by simp [plcL]
theorem plcL_at {T B : List Int} {n i t k : Nat} (h : k < t) : (plcL T B n i t)[k]? = some (((k + 1 : Nat) : Int), plc T B n i (k + 1)) := by simp [plcL, h]
/-- What the closure reads. -/
structure PlRd (T B : List Int) (n i t : Nat) (bT oT bB oB c c' g3 g4 g5 : Nat) (W : World) : Prop where
  c4 : W.cell? ⟨g4, 0, none⟩ = some (.int .i64 t)
  c5 : W.cell? ⟨g5, 0, none⟩ = some (.int .i64 i)
  c30 : W.cell? ⟨g3, 0, none⟩ = some (.slice (some ⟨bT, oT, none⟩) n c)
  c31 : W.cell? ⟨g3, 1, none⟩ = some (.slice (some ⟨bB, oB, none⟩) n c')
  cT : ∀ j, j < n → W.cell? ⟨bT, oT + j, none⟩ = some (.int .i64 (T.getD j 0))
  cB : ∀ j, j < n → W.cell? ⟨bB, oB + j, none⟩ = some (.int .i64 (B.getD j 0))
set_option maxRecDepth 100000 in
set_option maxHeartbeats 1600000 in
theorem places_gives (T B : List Int) (N n i t bT oT bB oB c c' g3 g4 g5 : Nat) (hn : n ≤ 20) (ht : t ≤ 20) (hi : i < n) (hbT : ∀ j, 0 ≤ T.getD j 0 ∧ T.getD j 0 ≤ 99) (hbB : ∀ j, 0 ≤ B.getD j 0 ∧ B.getD j 0 ≤ 99) :
    GivesQ N 106 #[.pointer (some ⟨g4, 0, none⟩), .pointer (some ⟨g3, 0, none⟩), .pointer (some ⟨g5, 0, none⟩)] (PlRd T B n i t bT oT bB oB c c' g3 g4 g5) (plcL T B n i t) := fun l J W hRd hY h0 => by
  rw [plcL_len]
  refine callsIn_of_wp Try.func106 rfl trivial ?_ rfl
  simp only [Try.ntmps106, List.size_toArray, List.length_cons, List.length_nil, Nat.reduceAdd, Nat.reduceSub, Array.replicate_succ, Array.replicate_zero, List.push_toArray, List.append_toArray, List.nil_append, List.cons_append]
  have HRd := Lib.hid hRd
  have HbT := Lib.hid hbT
  have HbB := Lib.hid hbB
  clear hRd hbT hbB
  gi_wp2
  gi_loopw [5, 6] (fun r _ wr => ∃ k : Nat, k ≤ t ∧ r = .int .i64 ((k + 1 : Nat) : Int) ∧ J k wr) (fun r _ _ => t + 1 - (intOf r).toNat)
  case atStart => exact ⟨0, by omega, rfl, h0⟩
  case round =>
    obtain ⟨k, hk, rfl, hJ⟩ := hrel
    obtain ⟨c4, c5, c30, c31, cT, cB⟩ := HRd.out k wr hJ
    obtain ⟨m, hm⟩ : ∃ m : Nat, k + 1 = m := ⟨_, rfl⟩
    have HM := Lib.hid hm
    by_cases hkt : k < t
    · have t0 := cT i hi
      have hTb := HbT.out i
      have hiI : (i : Int) < (n : Int) := by omega
      have hi0 : (0 : Int) ≤ (i : Int) := by omega
      have hmtI : (m : Int) ≤ (t : Int) := by omega
      have hw1 : IntKind.i64.wrap ((i : Int) + (m : Int)) = ((i + m : Nat) : Int) := by rw [IntWalk.i64_in _ (by omega)]; omega
      have hy := hY k (((k + 1 : Nat) : Int), plc T B n i (k + 1)) wr hJ (plcL_at hkt)
      rw [hm] at hy ⊢
      obtain ⟨fn, tmps, assign, body, hy', hR⟩ := hy
      have HP : Hid (plc T B n i m = if i + m < n then min (T.getD i 0) (B.getD (i + m) 0 - (m : Int)) else T.getD i 0) := rfl
      generalize plc T B n i m = y at *
      generalize T.getD i 0 = Ti at *
      by_cases h1 : i + m < n
      · have b0 := cB (i + m) h1
        have hBb := HbB.out (i + m)
        generalize B.getD (i + m) 0 = Bk at *
        rw [if_pos h1] at HP
        have h1I : ((i + m : Nat) : Int) < (n : Int) := by omega
        have hw2 : IntKind.i64.wrap (Bk - (m : Int)) = Bk - (m : Int) := IntWalk.i64_in _ (by omega)
        clear cT cB hY hm
        rcases Int.le_total Ti (Bk - (m : Int)) with hle | hle
        · have e : Ti = y := by rw [HP.out]; omega
          subst e
          gi_wp2
          refine ⟨fun h => (by cases h), hR.mono ?_⟩
          rintro e W' ⟨rfl, hJ'⟩
          gi_wp2
          exact ⟨⟨k + 1, by omega, by have := HM.out; go_num, by rw [HM.out]; exact hJ'⟩, by have := HM.out; simp [intOf]; omega⟩
        · by_cases heq : Ti = Bk - (m : Int)
          · have e : Ti = y := by rw [HP.out]; omega
            subst e
            have hle2 : Ti ≤ Bk - (m : Int) := by omega
            clear hle heq
            gi_wp2
            refine ⟨fun h => (by cases h), hR.mono ?_⟩
            rintro e W' ⟨rfl, hJ'⟩
            gi_wp2
            exact ⟨⟨k + 1, by omega, by have := HM.out; go_num, by rw [HM.out]; exact hJ'⟩, by have := HM.out; simp [intOf]; omega⟩
          · have e : Bk - (m : Int) = y := by rw [HP.out]; omega
            subst e
            have hlt : Bk - (m : Int) < Ti := by omega
            clear hle heq
            gi_wp2
            refine ⟨fun h => (by cases h), hR.mono ?_⟩
            rintro e W' ⟨rfl, hJ'⟩
            gi_wp2
            exact ⟨⟨k + 1, by omega, by have := HM.out; go_num, by rw [HM.out]; exact hJ'⟩, by have := HM.out; simp [intOf]; omega⟩
      · rw [if_neg h1] at HP
        have e : Ti = y := HP.out.symm
        subst e
        have h1I : ¬ ((i + m : Nat) : Int) < (n : Int) := by omega
        clear cT cB hY hm
        gi_wp2
        refine ⟨fun h => (by cases h), hR.mono ?_⟩
        rintro e W' ⟨rfl, hJ'⟩
        gi_wp2
        exact ⟨⟨k + 1, by omega, by have := HM.out; go_num, by rw [HM.out]; exact hJ'⟩, by have := HM.out; simp [intOf]; omega⟩
    · obtain rfl : k = t := by omega
      have hnm : ¬ (m : Int) ≤ (k : Int) := by omega
      rw [hm]
      clear cT cB
      gi_wp2
      go_end0
      exact ⟨⟨_, rfl⟩, hJ⟩
end Go.Proofs.Ytdpamieheefhdaa
