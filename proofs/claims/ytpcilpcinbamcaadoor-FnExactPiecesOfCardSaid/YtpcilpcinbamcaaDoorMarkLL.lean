/-
  Contracts: lists of lists of the call's own, marked through and through, and held.
-/
import Derived.Test.YtpcilpcinbamcaaDoorIS
namespace Go.Proofs.YtpcilpcinbamcaaDoor
set_option linter.unusedSimpArgs false
set_option linter.unusedVariables false
open Go.ChangeShapes Go.WideShapes Go.ChangeAt Go.RowKit

def pI (Ls : List SlI) (i : Nat) : Option Addr := (Ls.getD i si0).1
def nI (Ls : List SlI) (i : Nat) : Nat := (Ls.getD i si0).2.1.length
def kI (Ls : List SlI) (i : Nat) : Nat := (Ls.getD i si0).2.2
/-- Block g has places for n numbers. -/
def PlN (w : World) (g n : Nat) : Prop := ∃ cs, w.heap[g]? = some (.cells cs 2 (0, 0)) ∧ n ≤ cs.size
theorem PlN.lt {w : World} {g n : Nat} (h : PlN w g n) : g < w.heap.size := by
  obtain ⟨cs, h, _⟩ := h
  rcases Nat.lt_or_ge g w.heap.size with hlt | hge
  · exact hlt
  · rw [Array.getElem?_eq_none hge] at h; cases h
theorem PlN.frozen {w : World} {g n : Nat} (h : PlN w g n) (i : Nat) : w.frozen? ⟨g, i, none⟩ = false := by
  obtain ⟨cs, h0, _⟩ := h
  simp [World.frozen?, h0]
theorem PlN.there {w : World} {g n : Nat} (h : PlN w g n) {i : Nat} (hi : i < n) : ∃ v, w.cell? ⟨g, i, none⟩ = some v := by
  obtain ⟨cs, h0, h1⟩ := h
  rw [cell_of_row w g _ cs _ _ h0]
  exact ⟨cs[i]'(by omega), by simp [show i < cs.size by omega]⟩
theorem PlN.set_ {w : World} {g n : Nat} (h : PlN w g n) (b o : Nat) (v : Value) : PlN (w.setCell ⟨b, o, none⟩ v) g n := by
  obtain ⟨cs, h0, h1⟩ := h
  by_cases e : g = b
  · subst e
    exact ⟨cs.setIfInBounds o v, by simp [World.setCell, Array.getElem?_modify, h0], by simpa using h1⟩
  · exact ⟨cs, (Below.heap_setCell w ⟨b, o, none⟩ v g e).trans h0, h1⟩
theorem PlN.keep {w w' : World} {g n : Nat} (h : PlN w g n) (hk : w'.heap[g]? = w.heap[g]?) : PlN w' g n := by
  obtain ⟨cs, h0, h1⟩ := h
  exact ⟨cs, hk.trans h0, h1⟩
/-- Only blocks of S have turned. -/
structure OnlyR (S : Nat → Prop) (w w' : World) : Prop where
  os : w'.os = w.os
  tape : w'.tape = w.tape
  output : w'.output = w.output
  size : w'.heap.size = w.heap.size
  block : ∀ b, ¬ S b → w'.heap[b]? = w.heap[b]?
theorem OnlyR.refl (S : Nat → Prop) (w : World) : OnlyR S w w := ⟨rfl, rfl, rfl, rfl, fun _ _ => rfl⟩
theorem OnlyR.trans {S : Nat → Prop} {a b c : World} (h : OnlyR S a b) (k : OnlyR S b c) : OnlyR S a c :=
  ⟨k.os.trans h.os, k.tape.trans h.tape, k.output.trans h.output, k.size.trans h.size, fun i hi => (k.block i hi).trans (h.block i hi)⟩
theorem OnlyR.mono {S T : Nat → Prop} {a b : World} (h : OnlyR S a b) (hs : ∀ i, S i → T i) : OnlyR T a b := ⟨h.os, h.tape, h.output, h.size, fun i hi => h.block i (fun k => hi (hs i k))⟩
theorem OnlyR.set_ {S : Nat → Prop} {a b : World} (h : OnlyR S a b) {p : Addr} (hp : S p.block) (v : Value) : OnlyR S a (b.setCell p v) :=
  ⟨h.os, h.tape, h.output, by simpa [World.setCell] using h.size, fun i hi => (Below.heap_setCell b p v i (fun e => hi (e ▸ hp))).trans (h.block i hi)⟩
theorem OnlyR.cell {S : Nat → Prop} {a b : World} (h : OnlyR S a b) {p : Addr} (hp : ¬ S p.block) : b.cell? p = a.cell? p := World.cell?_of_block (h.block _ hp)
theorem OnlyR.below {S : Nat → Prop} {B : Nat} {a w w' : World} (h : OnlyR S w w') (hb : Below B a w) (hS : ∀ i, S i → B ≤ i) : Below B a w' :=
  ⟨h.os.trans hb.os, h.tape.trans hb.tape, h.output.trans hb.output, by rw [h.size]; exact hb.size, fun k hk => (h.block k (fun hs => by have := hS k hs; omega)).trans (hb.block k hk)⟩

set_option maxRecDepth 100000 in
set_option maxHeartbeats 1600000 in
theorem markRowV_any (gi n c q : Nat) (w : World) (h : PlN w gi n) (hn : n ≤ 1048576) (hq : q ≤ 1000000000000000) :
    Calls Tryd.prog 20 #[.slice (some ⟨gi, 0, none⟩) n c, .int .i64 (q : Int)] w fun e w' => e = .returned (.int .i64 ((q + n : Nat) : Int)) ∧ OnlyR (fun b => b = gi) w w' ∧ PlN w' gi n ∧ ∀ j, j < n → w'.cell? ⟨gi, j, none⟩ = some (.int .i64 ((q + j : Nat) : Int)) := by
  have hqI : (q : Int) ≤ 1000000000000000 := by omega
  have hnI : (n : Int) ≤ 1048576 := by omega
  go_enter Tryd.func20, Tryd.ntmps20
  go_wp2
  go_loopw [1, 5] (fun p i wr => ∃ j : Nat, j ≤ n ∧ i = .int .i64 j ∧ p = .int .i64 ((q : Int) + (j : Int)) ∧ PlN wr gi n ∧ OnlyR (fun b => b = gi) w wr ∧ Hid (∀ i, i < j → wr.cell? ⟨gi, i, none⟩ = some (.int .i64 ((q : Int) + (i : Int))))) (fun _ i _ => n - (intOf i).toNat)
  case atStart => exact ⟨0, Nat.zero_le _, rfl, by simp, h, OnlyR.refl _ _, fun i hi => by omega⟩
  case round =>
    clear h
    obtain ⟨j, hj, rfl, rfl, h, hO, hA⟩ := hrel
    by_cases hlt : j < n
    · have hjI : (j : Int) < (n : Int) := by omega
      have hj0 : (0 : Int) ≤ (j : Int) := by omega
      have f0 := h.frozen j
      obtain ⟨v0, t0⟩ := h.there hlt
      have h' := h.set_ gi j (.int .i64 ((q : Int) + (j : Int)))
      have hO' := hO.set_ (p := ⟨gi, j, none⟩) rfl (.int .i64 ((q : Int) + (j : Int)))
      have HA : Hid (∀ i, i < j + 1 → (wr.setCell ⟨gi, j, none⟩ (.int .i64 ((q : Int) + (j : Int)))).cell? ⟨gi, i, none⟩ = some (.int .i64 ((q : Int) + (i : Int)))) := fun i hi => by
        by_cases e : i = j
        · subst e; exact World.cell?_setCell_same _ _ _ t0
        · rw [World.cell?_setCell_other _ _ _ _ (by simp [e])]; exact hA.out i (by omega)
      clear hA
      go_wp2
      go_roundw
      case rel => exact ⟨j + 1, by omega, by go_num, by go_num, h', hO', HA⟩
      case measure => simp [intOf]; omega
    · obtain rfl : j = n := by omega
      go_wp2
      go_ret
      exact ⟨retI (by simp), hO, h, fun i hi => by simpa using hA.out i hi⟩
theorem mark0_any (A : Option Addr) (c q : Nat) (w : World) : Calls Tryd.prog 20 #[.slice A 0 c, .int .i64 (q : Int)] w fun e w' => e = .returned (.int .i64 (q : Int)) ∧ w' = w := by
  go_enter Tryd.func20, Tryd.ntmps20
  go_wp2
  go_loop [1, 5] (fun p i => p = .int .i64 (q : Int) ∧ i = .int .i64 0) (fun _ _ => 0)
  case atStart => exact ⟨rfl, rfl⟩
  case round =>
    obtain ⟨rfl, rfl⟩ := hrel
    go_wp2
    go_ret
    exact ⟨rfl, rfl⟩
set_option maxHeartbeats 1600000 in
theorem heldRowV_any (A : Option Addr) (n c q : Nat) (w : World) (h : 0 < n → ∃ gi, A = some ⟨gi, 0, none⟩ ∧ ∀ j, j < n → w.cell? ⟨gi, j, none⟩ = some (.int .i64 ((q + j : Nat) : Int))) (hn : n ≤ 1048576) (hq : q ≤ 1000000000000000) :
    Calls Tryd.prog 21 #[.slice A n c, .int .i64 (q : Int)] w fun e w' => e = .returned (.int .i64 ((q + n : Nat) : Int)) ∧ w' = w := by
  have hqI : (q : Int) ≤ 1000000000000000 := by omega
  have hnI : (n : Int) ≤ 1048576 := by omega
  have H := Lib.hid h
  clear h
  go_enter Tryd.func21, Tryd.ntmps21
  go_wp2
  go_loop [1, 5] (fun p i => ∃ j : Nat, j ≤ n ∧ i = .int .i64 j ∧ p = .int .i64 ((q : Int) + (j : Int))) (fun _ i => n - (intOf i).toNat)
  case atStart => exact ⟨0, Nat.zero_le _, rfl, by simp⟩
  case round =>
    obtain ⟨j, hj, rfl, rfl⟩ := hrel
    by_cases hlt : j < n
    · have hjI : (j : Int) < (n : Int) := by omega
      have hj0 : (0 : Int) ≤ (j : Int) := by omega
      obtain ⟨gi, rfl, hc⟩ := H.out (by omega)
      have e := hc j hlt
      rw [show ((q + j : Nat) : Int) = (q : Int) + (j : Int) by omega] at e
      clear hc
      go_wp2
      go_round
      case rel => exact ⟨j + 1, by omega, by go_num, by go_num⟩
      case measure => simp [intOf]; omega
    · obtain rfl : j = n := by omega
      go_wp2
      go_ret
      exact ⟨retI (by simp), rfl⟩

def offL (Ls : List SlI) : Nat → Nat
  | 0 => 0
  | k + 1 => offL Ls k + nI Ls k
theorem offL_le {Ls : List SlI} {n : Nat} (h : ∀ i, i < n → nI Ls i ≤ 1048576) : ∀ k, k ≤ n → offL Ls k ≤ k * 1048576
  | 0, _ => by simp [offL]
  | k + 1, hk => by
    have := offL_le h k (by omega)
    have := h k (by omega)
    unfold offL
    omega
/-- Where the outer slice lies. -/
def OutAt (w : World) (A : Option Addr) (Ls : List SlI) : Prop :=
  0 < Ls.length → ∃ b off, A = some ⟨b, off, none⟩ ∧ (∀ i, i < Ls.length → w.cell? ⟨b, off + i, none⟩ = some (.slice (pI Ls i) (nI Ls i) (kI Ls i))) ∧ ∀ i, i < Ls.length → 0 < nI Ls i → pI Ls i ≠ some ⟨b, 0, none⟩
/-- The rows, each in a block of its own from B on. -/
def RowsOwn (w : World) (B : Nat) (Ls : List SlI) : Prop :=
  (∀ i, i < Ls.length → 0 < nI Ls i → ∃ gi, pI Ls i = some ⟨gi, 0, none⟩ ∧ B ≤ gi ∧ PlN w gi (nI Ls i)) ∧ ∀ i j, i < j → j < Ls.length → 0 < nI Ls i → 0 < nI Ls j → pI Ls i ≠ pI Ls j
def rowOf (Ls : List SlI) (b : Nat) : Prop := ∃ i, i < Ls.length ∧ 0 < nI Ls i ∧ pI Ls i = some ⟨b, 0, none⟩
theorem RowsOwn.ge {w : World} {B b : Nat} {Ls : List SlI} (h : RowsOwn w B Ls) (hb : rowOf Ls b) : B ≤ b := by
  obtain ⟨i, hi, h0, e⟩ := hb
  obtain ⟨gi, e2, hB, _⟩ := h.1 i hi h0
  rw [e] at e2
  cases e2
  exact hB
theorem RowsOwn.only {S : Nat → Prop} {w w' : World} {B : Nat} {Ls : List SlI} (h : RowsOwn w B Ls) (hk : ∀ g n, PlN w g n → PlN w' g n) : RowsOwn w' B Ls :=
  ⟨fun i hi h0 => by obtain ⟨gi, e, hB, hp⟩ := h.1 i hi h0; exact ⟨gi, e, hB, hk _ _ hp⟩, h.2⟩
/-- The first k rows are marked from q on. -/
def Marked (w : World) (Ls : List SlI) (q k : Nat) : Prop := ∀ i, i < k → ∀ gi, pI Ls i = some ⟨gi, 0, none⟩ → ∀ j, j < nI Ls i → w.cell? ⟨gi, j, none⟩ = some (.int .i64 ((q + offL Ls i + j : Nat) : Int))
theorem OutAt.only {S : Nat → Prop} {w w' : World} {A : Option Addr} {Ls : List SlI} (h : OutAt w A Ls) (hO : OnlyR S w w') (hS : ∀ b off, A = some ⟨b, off, none⟩ → ¬ S b) : OutAt w' A Ls := fun h0 => by
  obtain ⟨b, off, e, hc, hne⟩ := h h0
  exact ⟨b, off, e, fun i hi => (hO.cell (p := ⟨b, off + i, none⟩) (hS b off e)).trans (hc i hi), hne⟩
theorem OutAt.notRow {w : World} {A : Option Addr} {Ls : List SlI} (h : OutAt w A Ls) : ∀ b off, A = some ⟨b, off, none⟩ → ¬ rowOf Ls b := fun b off e ⟨i, hi, h0, e2⟩ => by
  obtain ⟨b', off', e', _, hne⟩ := h (by omega)
  rw [e] at e'
  cases e'
  exact hne i hi h0 e2
set_option maxRecDepth 100000 in
set_option maxHeartbeats 1600000 in
theorem markLL_any (A : Option Addr) (Ls : List SlI) (c B q : Nat) (w : World) (hA : OutAt w A Ls) (hR : RowsOwn w B Ls) (hn : Ls.length ≤ 1048576) (hm : ∀ i, i < Ls.length → nI Ls i ≤ 1048576) (hq : q ≤ 10000000000000) :
    Calls Tryd.prog 11 #[.slice A Ls.length c, .int .i64 (q : Int)] w fun e w' => e = .returned (.int .i64 ((q + offL Ls Ls.length : Nat) : Int)) ∧ OnlyR (rowOf Ls) w w' ∧ RowsOwn w' B Ls ∧ OutAt w' A Ls ∧ Marked w' Ls q Ls.length := by
  have hnI : (Ls.length : Int) ≤ 1048576 := by omega
  have hoff := offL_le hm
  have hNR := hA.notRow
  obtain ⟨n, hLn⟩ : ∃ n, Ls.length = n := ⟨_, rfl⟩
  have HA := Lib.hid hA
  have HM := Lib.hid hm
  have HO := Lib.hid hoff
  have HNR := Lib.hid hNR
  have HLn := Lib.hid hLn
  rw [hLn] at hnI hn ⊢
  clear hA hm hoff hNR hLn
  go_enter Tryd.func11, Tryd.ntmps11
  go_wp2
  go_loopw [1, 5] (fun p i wr => ∃ k s : Nat, k ≤ n ∧ i = .int .i64 k ∧ p = .int .i64 (s : Int) ∧ Hid (s = q + offL Ls k) ∧ RowsOwn wr B Ls ∧ OnlyR (rowOf Ls) w wr ∧ Hid (Marked wr Ls q k)) (fun _ i _ => n - (intOf i).toNat)
  case atStart => exact ⟨0, q, Nat.zero_le _, rfl, rfl, rfl, hR, OnlyR.refl _ _, fun i hi => by omega⟩
  case round =>
    clear hR
    obtain ⟨k, s, hk, rfl, rfl, HS, hR, hO, hM⟩ := hrel
    by_cases hlt : k < n
    · have hkI : (k : Int) < (n : Int) := by omega
      have hk0 : (0 : Int) ≤ (k : Int) := by omega
      have hL := HLn.out
      obtain ⟨b, off, rfl, hc, hne⟩ := HA.out (by omega)
      have d := (hO.cell (p := ⟨b, off + k, none⟩) (HNR.out b off rfl)).trans (hc k (by omega))
      have hs : s ≤ 1000000000000000 := by
        have h1 := HS.out
        have h2 := HO.out k (by omega)
        have : k * 1048576 ≤ 1048576 * 1048576 := Nat.mul_le_mul_right _ (by omega)
        omega
      have hmk := HM.out k (by omega)
      by_cases h0 : 0 < nI Ls k
      · obtain ⟨gi, e, hB, hp⟩ := hR.1 k (by omega) h0
        have cm := markRowV_any gi (nI Ls k) (kI Ls k) s wr hp hmk hs
        have HNX : Hid (∀ w2, OnlyR (fun b => b = gi) wr w2 → PlN w2 gi (nI Ls k) → (∀ j, j < nI Ls k → w2.cell? ⟨gi, j, none⟩ = some (.int .i64 ((s + j : Nat) : Int))) → s + nI Ls k = q + offL Ls (k + 1) ∧ RowsOwn w2 B Ls ∧ OnlyR (rowOf Ls) w w2 ∧ Marked w2 Ls q (k + 1)) := fun w2 hO2 hp2 hv => by
          refine ⟨by have := HS.out; unfold offL; omega, ⟨fun i hi hi0 => ?_, hR.2⟩, hO.trans (hO2.mono (fun b hb => ⟨k, by omega, h0, by rw [hb]; exact e⟩)), fun i hi gj ej j hj => ?_⟩
          · obtain ⟨gj, ej, hBj, hpj⟩ := hR.1 i hi hi0
            refine ⟨gj, ej, hBj, ?_⟩
            by_cases hg : gj = gi
            · subst hg
              by_cases hik : i = k
              · subst hik; exact hp2
              · exfalso
                rcases Nat.lt_or_gt_of_ne hik with h | h
                · exact hR.2 i k h (by omega) hi0 h0 (ej.trans e.symm)
                · exact hR.2 k i h hi h0 hi0 (e.trans ej.symm)
            · exact hpj.keep (hO2.block gj hg)
          · by_cases hik : i = k
            · subst hik
              rw [e] at ej
              cases ej
              rw [hv j hj, HS.out]
            · have hg : gj ≠ gi := fun hg => by
                subst hg
                exact hR.2 i k (by omega) (by omega) (by omega) h0 (ej.trans e.symm)
              exact (hO2.cell (p := ⟨gj, j, none⟩) hg).trans (hM.out i (by omega) gj ej j hj)
        rw [e] at d
        clear hM hR hO hc hne hL h0 hp hB e
        generalize nI Ls k = m at *
        generalize kI Ls k = kc at *
        go_wp2_with fail
        refine cm.mono ?_
        rintro e w2 ⟨rfl, hO2, hp2, hv⟩
        obtain ⟨n1, n2, n3, n4⟩ := HNX.out w2 hO2 hp2 hv
        have N1 := Lib.hid n1
        have N4 := Lib.hid n4
        clear HNX hO2 hp2 hv cm n1 n4 d
        go_wp2
        go_roundw
        case rel => exact ⟨k + 1, s + m, by omega, by go_num, rfl, N1, n2, n3, N4⟩
        case measure => simp [intOf]; omega
      · have hz : nI Ls k = 0 := by omega
        have HNX : Hid (s = q + offL Ls (k + 1) ∧ Marked wr Ls q (k + 1)) := ⟨by have := HS.out; unfold offL; omega, fun i hi gj ej j hj => by
          by_cases hik : i = k
          · subst hik; omega
          · exact hM.out i (by omega) gj ej j hj⟩
        rw [hz] at d
        clear hM hc hne hL h0 hz
        go_wp2_with fail
        refine (mark0_any _ _ s _).mono ?_
        rintro e w2 ⟨rfl, rfl⟩
        go_wp2
        go_roundw
        case rel => exact ⟨k + 1, s, by omega, by go_num, rfl, HNX.out.1, hR, hO, HNX.out.2⟩
        case measure => simp [intOf]; omega
    · obtain rfl : k = n := by omega
      go_wp2
      go_ret
      exact ⟨by rw [← HS.out]; rfl, hO, hR, HA.out.only hO HNR.out, hM.out⟩
set_option maxRecDepth 100000 in
set_option maxHeartbeats 1600000 in
theorem heldLL_any (A : Option Addr) (Ls : List SlI) (c B q : Nat) (w : World) (hA : OutAt w A Ls) (hR : RowsOwn w B Ls) (hM : Marked w Ls q Ls.length) (hn : Ls.length ≤ 1048576) (hm : ∀ i, i < Ls.length → nI Ls i ≤ 1048576) (hq : q ≤ 10000000000000) :
    Calls Tryd.prog 12 #[.slice A Ls.length c, .int .i64 (q : Int)] w fun e w' => e = .returned (.int .i64 ((q + offL Ls Ls.length : Nat) : Int)) ∧ w' = w := by
  have hnI : (Ls.length : Int) ≤ 1048576 := by omega
  have hoff := offL_le hm
  obtain ⟨n, hLn⟩ : ∃ n, Ls.length = n := ⟨_, rfl⟩
  have HA := Lib.hid hA
  have HM := Lib.hid hm
  have HO := Lib.hid hoff
  have HR := Lib.hid hR
  have HK := Lib.hid hM
  have HLn := Lib.hid hLn
  rw [hLn] at hnI hn ⊢
  clear hA hm hoff hLn hR hM
  go_enter Tryd.func12, Tryd.ntmps12
  go_wp2
  go_loop [1, 5] (fun p i => ∃ k s : Nat, k ≤ n ∧ i = .int .i64 k ∧ p = .int .i64 (s : Int) ∧ Hid (s = q + offL Ls k)) (fun _ i => n - (intOf i).toNat)
  case atStart => exact ⟨0, q, Nat.zero_le _, rfl, rfl, rfl⟩
  case round =>
    obtain ⟨k, s, hk, rfl, rfl, HS⟩ := hrel
    by_cases hlt : k < n
    · have hkI : (k : Int) < (n : Int) := by omega
      have hk0 : (0 : Int) ≤ (k : Int) := by omega
      have hL := HLn.out
      obtain ⟨b, off, rfl, hc, hne⟩ := HA.out (by omega)
      have d := hc k (by omega)
      have hs : s ≤ 1000000000000000 := by
        have h1 := HS.out
        have h2 := HO.out k (by omega)
        have : k * 1048576 ≤ 1048576 * 1048576 := Nat.mul_le_mul_right _ (by omega)
        omega
      have hmk := HM.out k (by omega)
      have cm := heldRowV_any (pI Ls k) (nI Ls k) (kI Ls k) s w (fun h0 => by
        obtain ⟨gi, e, _, _⟩ := HR.out.1 k (by omega) h0
        exact ⟨gi, e, fun j hj => by rw [HS.out]; exact HK.out k (by omega) gi e j hj⟩) hmk hs
      have HNX : Hid (s + nI Ls k = q + offL Ls (k + 1)) := by show _ = _; have := HS.out; unfold offL; omega
      have hsm : ¬ (((s + nI Ls k : Nat) : Int) < 0) := by omega
      clear hc hne hL
      generalize nI Ls k = m at *
      generalize kI Ls k = kc at *
      generalize pI Ls k = pk at *
      go_wp2_with fail
      refine cm.mono ?_
      rintro e w2 ⟨rfl, rfl⟩
      clear cm d
      go_wp2
      go_round
      case rel => exact ⟨k + 1, s + m, by omega, by go_num, rfl, HNX⟩
      case measure => simp [intOf]; omega
    · obtain rfl : k = n := by omega
      go_wp2
      go_ret
      exact ⟨retI (by have := HS.out; omega), rfl⟩
end Go.Proofs.YtpcilpcinbamcaaDoor
