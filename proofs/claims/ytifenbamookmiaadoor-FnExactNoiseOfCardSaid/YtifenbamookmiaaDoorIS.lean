/-
  Slices of slices of numbers: opened; their size, copied, compared.
-/
import Derived.Test.YtifenbamookmiaaDoorChan
import Derived.Test.YtifenbamookmiaaDoorMarkI
import Derived.Deep.Slices
namespace Go.Proofs.YtifenbamookmiaaDoor
set_option linter.unusedSimpArgs false
set_option linter.unusedVariables false
open Go.ChangeShapes Go.WideShapes Go.ChangeAt Go.RowKit

/-- A slice of numbers: its address, what it holds, its room. -/
abbrev SlI := Option Addr × List Int × Nat
def si0 : SlI := (none, [], 0)
/-- The slice with the address A holds the slices Ls, all below block B. -/
def ISAt (w : World) (B : Nat) (A : Option Addr) (Ls : List SlI) : Prop :=
  0 < Ls.length → ∃ b off, A = some ⟨b, off, none⟩ ∧ b < B ∧ ∀ i, i < Ls.length →
    w.cell? ⟨b, off + i, none⟩ = some (.slice (Ls.getD i si0).1 (Ls.getD i si0).2.1.length (Ls.getD i si0).2.2) ∧ IntsAt w B (Ls.getD i si0).1 (Ls.getD i si0).2.1 ∧ (Ls.getD i si0).2.1.length ≤ (Ls.getD i si0).2.2 ∧ (Ls.getD i si0).2.2 ≤ maxLen
theorem ISAt.keepB {w w1 : World} {B : Nat} {A : Option Addr} {Ls : List SlI} (h : ISAt w B A Ls) (hb : Below B w w1) : ISAt w1 B A Ls := fun h0 => by
  obtain ⟨b, off, e, hlt, hc⟩ := h h0
  exact ⟨b, off, e, hlt, fun i hi => ⟨(hb.cell (p := ⟨b, _, none⟩) hlt).trans (hc i hi).1, (hc i hi).2.1.keepB hb, (hc i hi).2.2⟩⟩
theorem ISAt.mono {w : World} {B B' : Nat} {A : Option Addr} {Ls : List SlI} (h : ISAt w B A Ls) (hB : B ≤ B') : ISAt w B' A Ls := fun h0 => by
  obtain ⟨b, off, e, hlt, hc⟩ := h h0
  exact ⟨b, off, e, by omega, fun i hi => ⟨(hc i hi).1, (hc i hi).2.1.mono hB, (hc i hi).2.2⟩⟩
theorem ISAt.to {w w1 : World} {A : Option Addr} {Ls : List SlI} (h : ISAt w w.heap.size A Ls) (hb : Below w.heap.size w w1) : ISAt w1 w1.heap.size A Ls := (h.keepB hb).mono hb.size

/-- Rows as an argument brings them. -/
def RowsIn (w : World) (A : Option Addr) (Ls : List SlI) (c : Nat) : Prop := ISAt w w.heap.size A Ls ∧ (∀ i, i < Ls.length → ∀ n ∈ (Ls.getD i si0).2.1, Fits n) ∧ Ls.length ≤ c ∧ c ≤ maxLen
/-- One slice of numbers, read. -/
theorem open_ints_z {H : Type} {enc : TypeId × Value → H} {w : World} {v : Value} {n : Nat} {y : DataW H × List MemPlace} (hf : DataW.trod enc Tryd.prog w 0 (fun _ => true) true n 25 [v] = some y) :
    ∃ z : SlI, v = .slice z.1 z.2.1.length z.2.2 ∧ (IntsAt w w.heap.size z.1 z.2.1 ∧ (∀ n ∈ z.2.1, Fits n)) ∧ z.2.1.length ≤ z.2.2 ∧ z.2.2 ≤ maxLen := by
  obtain ⟨A, ns, c, e, h1, h2, h3, h4⟩ := open_nums_trod hf
  exact ⟨(A, ns, c), e, ⟨h1, h2⟩, h3, h4⟩
variable {H : Type} {enc : TypeId × Value → H}
set_option maxRecDepth 100000 in
theorem open_intss {w : World} {v : Value} {d : DataW H} {p : List MemPlace} {r : Reach} {b0 : Nat} (hv : Value.okWide Tryd.prog w r b0 22 v) (h : DataW.Trod enc Tryd.prog w 0 (fun _ => true) true 22 v d p) :
    ∃ (A : Option Addr) (Ls : List SlI) (c : Nat), v = .slice A Ls.length c ∧ RowsIn w A Ls c := by
  obtain ⟨a0, len, cap, rfl⟩ := okWide_slice Tryd.underlying22 hv
  obtain ⟨fuel, hf⟩ := h
  rcases Go.Deep.open_slice1 Tryd.underlying22 (by kernel_rfl) hf with ⟨hcs, _⟩ | ⟨a, l, c, m, n, V, D, Pl, hcs, _, hl, hm, hmm, _, hx⟩
  · simp [Value.cells] at hcs
    obtain ⟨rfl, rfl, rfl⟩ := hcs
    exact ⟨none, [], 0, rfl, fun h => by simp at h, fun i h => by simp at h, by simp, by simp⟩
  · simp [Value.cells] at hcs
    obtain ⟨rfl, rfl, rfl⟩ := hcs
    simp only [if_true] at hmm
    subst hmm
    have each : ∀ i, i < len → ∃ z : SlI, V i = .slice z.1 z.2.1.length z.2.2 ∧ (IntsAt w w.heap.size z.1 z.2.1 ∧ (∀ n ∈ z.2.1, Fits n)) ∧ z.2.1.length ≤ z.2.2 ∧ z.2.2 ≤ maxLen := fun i hi => open_ints_z (hx i (by omega)).2
    obtain ⟨z, hz⟩ := Go.Deep.choose_lt each
    have e : ∀ i, i < len → ((List.range len).map z).getD i si0 = z i := fun i hi => by simp [List.getD_eq_getElem?_getD, hi]
    refine ⟨some a, (List.range len).map z, m, by simp, ?_, fun i hi => ?_, by simpa using hl, hm⟩
    rotate_left
    · simp at hi
      rw [e i hi]
      exact (hz i hi).2.1.2
    intro h0
    simp at h0
    obtain ⟨b, off, spot⟩ := a
    have hc0 := (hx 0 (by omega)).1
    have hspot : spot = none := by simpa [Addr.add] using World.cell?_spot hc0
    subst hspot
    refine ⟨b, off, rfl, World.block_lt_of_cell? w ⟨b, off, none⟩ (by simpa [Addr.add] using hc0), fun i hi => ?_⟩
    simp at hi
    rw [e i hi]
    obtain ⟨h1, h2, h3, h4⟩ := hz i hi
    have h5 := (hx i (by omega)).1
    rw [add_plain] at h5
    exact ⟨by rw [h5, h1], h2.1, h3, h4⟩

/-- What szInt64S leaves. -/
theorem szInt64S_gen (A : Option Addr) (n c : Nat) (left : Int) (w : World) (hn : n ≤ maxLen) (h0 : 0 ≤ left) (h1 : left ≤ 1048576) :
    Calls Tryd.prog 60 #[.slice A n c, .int .i64 left] w fun e w' => e = .returned (.int .i64 (if (n : Int) ≤ left then left - n else -1)) ∧ w = w' := by
  unfold maxLen at hn
  by_cases h : (n : Int) ≤ left
  · have F : Hid ((if (n : Int) ≤ left then left - n else -1) = left - n) := by show _ = _; rw [if_pos h]
    have hz : ¬ (left - (n : Int)) < 0 := by omega
    have e1 : IntKind.i64.wrap (left - (n : Int)) = left - (n : Int) := IntWalk.i64_in _ (by omega)
    go_enter Tryd.func60, Tryd.ntmps60
    go_wp2
    go_ret
    exact ⟨retI (by first | rfl | exact F.out.symm | simp [F.out]), rfl⟩
  · have F : Hid ((if (n : Int) ≤ left then left - n else -1) = -1) := by show _ = _; rw [if_neg h]
    have hz : (left - (n : Int)) < 0 := by omega
    have e1 : IntKind.i64.wrap (left - (n : Int)) = left - (n : Int) := IntWalk.i64_in _ (by omega)
    go_enter Tryd.func60, Tryd.ntmps60
    go_wp2
    go_ret
    exact ⟨retI (by first | rfl | exact F.out.symm | simp [F.out]), rfl⟩
def SzIPost (Ls : List SlI) (w : World) (e : Ending) (w' : World) : Prop :=
  ∃ r : Int, e = .returned (.int .i64 r) ∧ w = w' ∧ -1 ≤ r ∧ r ≤ 1048576 ∧ (0 ≤ r → Ls.length ≤ 1048576 ∧ ∀ i, i < Ls.length → (Ls.getD i si0).2.1.length ≤ 1048576)
set_option maxHeartbeats 800000 in
theorem szInt64SS_any (A : Option Addr) (Ls : List SlI) (c : Nat) (r0 : Int) (w : World) (hp : ISAt w w.heap.size A Ls) (hn : Ls.length ≤ maxLen) (h0 : 0 ≤ r0) (h1 : r0 ≤ 1048576) :
    Calls Tryd.prog 26 #[.slice A Ls.length c, .int .i64 r0] w (SzIPost Ls w) := by
  unfold maxLen at hn
  by_cases h : (Ls.length : Int) ≤ r0
  · have hz : ¬ (r0 - (Ls.length : Int)) < 0 := by omega
    have e1 : IntKind.i64.wrap (r0 - (Ls.length : Int)) = r0 - (Ls.length : Int) := IntWalk.i64_in _ (by omega)
    have hnI : (Ls.length : Int) ≤ 1048576 := by omega
    go_enter Tryd.func26, Tryd.ntmps26
    go_wp2
    go_loop [1, 5] (fun lf i => ∃ (k : Nat) (r : Int), k ≤ Ls.length ∧ i = .int .i64 k ∧ lf = .int .i64 r ∧ 0 ≤ r ∧ r ≤ 1048576 ∧ Hid (∀ i, i < k → (Ls.getD i si0).2.1.length ≤ 1048576)) (fun _ i => Ls.length - (intOf i).toNat)
    case atStart => exact ⟨0, r0 - (Ls.length : Int), Nat.zero_le _, rfl, by simp [e1], by omega, by omega, fun i hi => by omega⟩
    case round =>
      obtain ⟨k, r, hk, rfl, rfl, hr0, hr1, HA⟩ := hrel
      have hk0 : 0 ≤ (k : Int) := by omega
      by_cases hlt : k < Ls.length
      · obtain ⟨b, off, rfl, hbB, hc⟩ := hp (by omega)
        obtain ⟨d0, _, hl1, hl2⟩ := hc k hlt
        have hltI : (k : Int) < (Ls.length : Int) := by omega
        have hLm : (Ls.getD k si0).2.1.length ≤ maxLen := Nat.le_trans hl1 hl2
        have cz := fun w => szInt64S_gen (Ls.getD k si0).1 (Ls.getD k si0).2.1.length (Ls.getD k si0).2.2 r w hLm hr0 hr1
        by_cases hfit : ((Ls.getD k si0).2.1.length : Int) ≤ r
        · rw [if_pos hfit] at cz
          have HA2 : Hid (∀ i, i < k + 1 → (Ls.getD i si0).2.1.length ≤ 1048576) := by
            intro i hi
            by_cases e : i = k
            · subst e; omega
            · exact HA.out i (by omega)
          have hz2 : ¬ r - ((Ls.getD k si0).2.1.length : Int) < 0 := by omega
          generalize (Ls.getD k si0).2.1.length = n at *
          generalize (Ls.getD k si0).1 = A2 at *
          generalize (Ls.getD k si0).2.2 = c2 at *
          clear hc hp
          go_wp2_with (go_at_call 60; refine (cz _).mono ?_; rintro e w' ⟨rfl, rfl⟩)
          go_round
          case rel => exact ⟨k + 1, r - n, by omega, by go_num, rfl, by omega, by omega, HA2⟩
          case measure => simp [intOf]; omega
        · rw [if_neg hfit] at cz
          have hz2 : ((-1 : Int) < 0) := by omega
          generalize (Ls.getD k si0).2.1.length = n at *
          generalize (Ls.getD k si0).1 = A2 at *
          generalize (Ls.getD k si0).2.2 = c2 at *
          clear hc hp
          go_wp2_with (go_at_call 60; refine (cz _).mono ?_; rintro e w' ⟨rfl, rfl⟩)
          go_ret
          exact ⟨-1, rfl, rfl, by omega, by omega, fun h => by omega⟩
      · obtain rfl : k = Ls.length := by omega
        go_wp2
        go_ret
        exact ⟨r, rfl, rfl, by omega, hr1, fun _ => ⟨by omega, HA.out⟩⟩
  · have hz : (r0 - (Ls.length : Int)) < 0 := by omega
    have e1 : IntKind.i64.wrap (r0 - (Ls.length : Int)) = r0 - (Ls.length : Int) := IntWalk.i64_in _ (by omega)
    go_enter Tryd.func26, Tryd.ntmps26
    go_wp2
    go_ret
    exact ⟨-1, rfl, rfl, by omega, by omega, fun h => by omega⟩

/-- Block g holds the first k of the slices Ms, and has places for n. -/
def ZI (w : World) (g n : Nat) (Ms : List SlI) : Prop :=
  ∃ cs, w.heap[g]? = some (.cells cs 25 (0, 0)) ∧ cs.size = n ∧ ∀ i, i < Ms.length → cs[i]? = some (.slice (Ms.getD i si0).1 (Ms.getD i si0).2.1.length (Ms.getD i si0).2.2)
theorem ZI.lt {w : World} {g n : Nat} {Ms : List SlI} (h : ZI w g n Ms) : g < w.heap.size := by
  obtain ⟨cs, h, _⟩ := h
  rcases Nat.lt_or_ge g w.heap.size with hlt | hge
  · exact hlt
  · rw [Array.getElem?_eq_none hge] at h; cases h
theorem ZI.to {w w1 : World} {g n : Nat} {Ms : List SlI} (h : ZI w g n Ms) (hb : Below w.heap.size w w1) : ZI w1 g n Ms := by
  have hl := h.lt
  obtain ⟨cs, h0, h1⟩ := h
  exact ⟨cs, (hb.block g hl).trans h0, h1⟩
theorem ZI.frozen {w : World} {g n : Nat} {Ms : List SlI} (h : ZI w g n Ms) (i : Nat) : w.frozen? ⟨g, i, none⟩ = false := by
  obtain ⟨cs, h0, _⟩ := h
  simp [World.frozen?, h0]
theorem ZI.there {w : World} {g n : Nat} {Ms : List SlI} (h : ZI w g n Ms) {i : Nat} (hi : i < n) : ∃ v, w.cell? ⟨g, i, none⟩ = some v := by
  obtain ⟨cs, h0, h1, _⟩ := h
  rw [cell_of_row w g _ cs _ _ h0]
  exact ⟨cs[i], by simp [h1, hi]⟩
theorem ZI.put {w : World} {g n : Nat} {Ms : List SlI} (h : ZI w g n Ms) (z : SlI) (hk : Ms.length < n) :
    ZI (w.setCell ⟨g, Ms.length, none⟩ (.slice z.1 z.2.1.length z.2.2)) g n (Ms ++ [z]) := by
  obtain ⟨cs, h0, h1, h2⟩ := h
  refine ⟨cs.setIfInBounds Ms.length (.slice z.1 z.2.1.length z.2.2), by simp [World.setCell, Array.getElem?_modify, h0], by simpa using h1, fun i hi => ?_⟩
  rw [List.length_append] at hi
  simp only [List.length_singleton] at hi
  by_cases e : i = Ms.length
  · subst e
    simp only [Array.getElem?_setIfInBounds_self, h1]
    rw [if_pos hk]
    simp [List.getD_eq_getElem?_getD]
  · rw [Array.getElem?_setIfInBounds_ne (by omega)]
    have := h2 i (by omega)
    simpa [List.getD_eq_getElem?_getD, List.getElem?_append_left (show i < Ms.length by omega)] using this
theorem infoZI : (Tryd.prog.info? 25).map (fun i => (i.zero, i.size, i.bytes)) = some (some (.slice none 0 0), 1, 24) := by kernel_rfl
def blankZI (n : Nat) : Array Value := madeCells #[.slice none 0 0] n
theorem run_mkis (n : Nat) (h : n ≤ 1048576) (w : World) :
    (Instr.makeSlice 22 (.int .i64 (n : Int)) (.int .i64 (n : Int))).run Tryd.prog w = .ok (.slice (some ⟨w.heap.size, 0, none⟩) n n) (w.alloc (.cells (blankZI n) 25)) := by
  obtain ⟨i, hi, hzz⟩ := Option.map_eq_some_iff.1 infoZI
  simp only [Prod.mk.injEq] at hzz
  obtain ⟨hz, hs, hb⟩ := hzz
  have := run_make (P := Tryd.prog) w 22 25 i _ Tryd.underlying22 hi hz .i64 .i64 n n (by omega) (by omega) (by rw [hb]; omega) (by omega)
  rw [this, hs, Nat.mul_one]
  rfl
/-- What slices hold. -/
def heldI (Ls : List SlI) : List (List Int) := Ls.map (·.2.1)
theorem heldI_at {Ls : List SlI} {i : Nat} : (heldI Ls).getD i [] = (Ls.getD i si0).2.1 := by
  simp only [heldI, List.getD_eq_getElem?_getD, List.getElem?_map]
  cases Ls[i]? <;> rfl
theorem heldI_len (Ls : List SlI) : (heldI Ls).length = Ls.length := by simp [heldI]
/-- New slices that hold the same. -/
def NewIS (Ls : List SlI) (w : World) (e : Ending) (w' : World) : Prop :=
  ∃ g Ms, e = .returned (.slice (some ⟨g, 0, none⟩) Ls.length Ls.length) ∧ Ms.length = Ls.length ∧ heldI Ms = heldI Ls ∧ ISAt w' w'.heap.size (some ⟨g, 0, none⟩) Ms ∧ Below w.heap.size w w'
/-- Each of the slices lies in a block of its own beyond B. -/
def NewIAll (w : World) (B : Nat) (Ms : List SlI) : Prop :=
  ∀ i, i < Ms.length → ∃ gi, (Ms.getD i si0).1 = some ⟨gi, 0, none⟩ ∧ B < gi ∧ NBlk w gi (Ms.getD i si0).2.1 (Ms.getD i si0).2.1.length ∧ (Ms.getD i si0).2.2 = (Ms.getD i si0).2.1.length ∧ (Ms.getD i si0).2.1.length ≤ 1048576
theorem NewIAll.snoc {w : World} {B : Nat} {Ms : List SlI} (h : NewIAll w B Ms) {z : SlI} {gi : Nat} (h1 : z.1 = some ⟨gi, 0, none⟩) (h2 : B < gi) (h3 : NBlk w gi z.2.1 z.2.1.length) (h4 : z.2.2 = z.2.1.length) (h5 : z.2.1.length ≤ 1048576) : NewIAll w B (Ms ++ [z]) := by
  intro i hi
  rw [List.length_append] at hi
  simp only [List.length_singleton] at hi
  by_cases e : i = Ms.length
  · subst e
    have e2 : (Ms ++ [z]).getD Ms.length si0 = z := by simp [List.getD_eq_getElem?_getD]
    rw [e2]
    exact ⟨gi, h1, h2, h3, h4, h5⟩
  · have e2 : (Ms ++ [z]).getD i si0 = Ms.getD i si0 := by simp [List.getD_eq_getElem?_getD, List.getElem?_append_left (show i < Ms.length by omega)]
    rw [e2]
    exact h i (by omega)
theorem NewIAll.to {w w1 : World} {B : Nat} {Ms : List SlI} (h : NewIAll w B Ms) (hb : Below w.heap.size w w1) : NewIAll w1 B Ms := fun i hi => by
  obtain ⟨gi, h1, h2, h3, h4⟩ := h i hi
  exact ⟨gi, h1, h2, h3.to hb, h4⟩
theorem NewIAll.set_ {w : World} {B : Nat} {Ms : List SlI} (h : NewIAll w B Ms) (k : Nat) (v : Value) : NewIAll (w.setCell ⟨B, k, none⟩ v) B Ms := fun i hi => by
  obtain ⟨gi, h1, h2, h3, h4⟩ := h i hi
  exact ⟨gi, h1, h2, h3.keep (Below.heap_setCell _ ⟨B, k, none⟩ _ gi (by simp; omega)), h4⟩
theorem ZI.isat {w : World} {g n : Nat} {Ms : List SlI} (h : ZI w g n Ms) (hN : NewIAll w g Ms) : ISAt w w.heap.size (some ⟨g, 0, none⟩) Ms := fun _ => by
  have hl := h.lt
  obtain ⟨cs, h0, h1, h2⟩ := h
  refine ⟨g, 0, rfl, hl, fun i hi => ?_⟩
  obtain ⟨gi, k1, k2, k3, k4, k5⟩ := hN i hi
  refine ⟨?_, ?_, by omega, by unfold maxLen; omega⟩
  · rw [Nat.zero_add, cell_of_row w g _ cs _ _ h0]; exact h2 i hi
  · rw [k1]; exact k3.nums
/-- .. each in a block of its own. -/
def NewIS2 (Ls : List SlI) (w : World) (e : Ending) (w' : World) : Prop :=
  ∃ g Ms, e = .returned (.slice (some ⟨g, 0, none⟩) Ls.length Ls.length) ∧ Ms.length = Ls.length ∧ heldI Ms = heldI Ls ∧ ZI w' g Ls.length Ms ∧ NewIAll w' g Ms ∧ w.heap.size ≤ g ∧ Below w.heap.size w w'
set_option maxHeartbeats 1600000 in
theorem toInt64SS_own (A : Option Addr) (Ls : List SlI) (c : Nat) (w : World) (hp : ISAt w w.heap.size A Ls) (hn : Ls.length ≤ 1048576) (hl : ∀ i, i < Ls.length → (Ls.getD i si0).2.1.length ≤ 1048576) :
    Calls Tryd.prog 29 #[.slice A Ls.length c] w (NewIS2 Ls w) := by
  have hmk := run_mkis Ls.length hn
  have hnI : (Ls.length : Int) ≤ 1048576 := by omega
  have hz0 : ZI (w.alloc (.cells (blankZI Ls.length) 25)) w.heap.size Ls.length [] := ⟨blankZI Ls.length, heap_alloc_new w _, by simp [blankZI, size_madeCells], fun i hi => by simp at hi⟩
  go_enter Tryd.func29, Tryd.ntmps29
  go_wp2
  clear hmk
  go_loopw [4] (fun i wr => ∃ (k : Nat) (Ms : List SlI), k ≤ Ls.length ∧ i = .int .i64 k ∧ Hid (Ms.length = k) ∧ Hid (heldI Ms = (heldI Ls).take k) ∧ ZI wr w.heap.size Ls.length Ms ∧ Hid (NewIAll wr w.heap.size Ms) ∧ Below w.heap.size w wr) (fun i _ => Ls.length - (intOf i).toNat)
  case atStart => exact ⟨0, [], Nat.zero_le _, rfl, rfl, by show _ = _; simp [heldI], hz0, fun i hi => by simp at hi, by (repeat (first | assumption | exact Below.refl _ _ | (refine bl_alloc ?_ _) | (refine Below.drew ?_) | (refine bl_drewN ?_ _) | (refine bl_set ?_ (by first | (simp; done) | omega | (simp; omega)) _) | (refine bl_trans ?_ (by assumption)) | (refine bl_step ?_ (by assumption) (by first | omega | exact Below.size (by assumption) | (simp; omega) | (simp; exact Below.size (by assumption))))))⟩
  case round =>
    clear hz0
    obtain ⟨k, Ms, hk, rfl, HL, HM, hZ, HP, hb⟩ := hrel
    have hk0 : 0 ≤ (k : Int) := by omega
    by_cases hlt : k < Ls.length
    · obtain ⟨b, off, rfl, hbB, hc⟩ := hp (by omega)
      obtain ⟨c0, hpk, _, _⟩ := hc k hlt
      have d0 := (hb.cell (p := ⟨b, off + k, none⟩) hbB).trans c0
      have hltI : (k : Int) < (Ls.length : Int) := by omega
      have hlk := hl k hlt
      have hpk2 := (hpk.keepB hb).mono hb.size
      have HT : Hid ((heldI Ls).take (k + 1) = (heldI Ls).take k ++ [(Ls.getD k si0).2.1]) := by
        show _ = _
        rw [List.take_add_one, List.getElem?_eq_getElem (by rw [heldI_len]; exact hlt)]
        simp [heldI, List.getD_eq_getElem?_getD, hlt]
      obtain ⟨z, hz⟩ : ∃ z, Ls.getD k si0 = z := ⟨_, rfl⟩
      rw [hz] at d0 hlk hpk2 HT
      obtain ⟨A2, P2, c2⟩ := z
      simp only at d0 hlk hpk2 HT
      clear hc c0 hpk hz
      go_wp2_with fail
      refine (toInt64S_new _ _ _ _ hpk2 hlk).mono ?_
      rintro e w2 ⟨g2, rfl, hB2, hb2, hg2⟩
      have hZ2 := hZ.to hb2
      have b2 := bl_trans hb hb2
      have f0 := hZ2.frozen k
      obtain ⟨v0, t0⟩ := hZ2.there (i := k) hlt
      have hZ3 := hZ2.put (some ⟨g2, 0, none⟩, P2, P2.length) (by rw [HL.out]; exact hlt)
      rw [HL.out] at hZ3
      have hN2 := (HP.out.to hb2).set_ k (.slice (some ⟨g2, 0, none⟩) P2.length P2.length)
      have hB3 : NBlk (w2.setCell ⟨w.heap.size, k, none⟩ (.slice (some ⟨g2, 0, none⟩) P2.length P2.length)) g2 P2 P2.length := hB2.keep (Below.heap_setCell _ ⟨w.heap.size, k, none⟩ _ g2 (by have := hZ.lt; simp; omega))
      have HN3 : Hid (NewIAll (w2.setCell ⟨w.heap.size, k, none⟩ (.slice (some ⟨g2, 0, none⟩) P2.length P2.length)) w.heap.size (Ms ++ [(some ⟨g2, 0, none⟩, P2, P2.length)])) := NewIAll.snoc hN2 (gi := g2) rfl (by have := hZ.lt; omega) hB3 rfl hlk
      have HM3 : Hid (heldI (Ms ++ [(some ⟨g2, 0, none⟩, P2, P2.length)]) = (heldI Ls).take (k + 1)) := by
        show _ = _
        rw [HT.out, ← HM.out]; simp [heldI]
      have HL3 : Hid ((Ms ++ [((some ⟨g2, 0, none⟩, P2, P2.length) : SlI)]).length = k + 1) := by show _ = _; rw [List.length_append, HL.out]; rfl
      clear hZ hb hb2 hB2 hN2 hB3 HP HM HL HT hZ2 d0 hpk2 hp hg2
      go_wp2
      go_roundw
      case rel => exact ⟨k + 1, Ms ++ [(some ⟨g2, 0, none⟩, P2, P2.length)], by omega, by go_num, HL3, HM3, hZ3, HN3, by (repeat (first | assumption | exact Below.refl _ _ | (refine bl_alloc ?_ _) | (refine Below.drew ?_) | (refine bl_drewN ?_ _) | (refine bl_set ?_ (by first | (simp; done) | omega | (simp; omega)) _) | (refine bl_trans ?_ (by assumption)) | (refine bl_step ?_ (by assumption) (by first | omega | exact Below.size (by assumption) | (simp; omega) | (simp; exact Below.size (by assumption))))))⟩
      case measure => simp [intOf]; omega
    · obtain rfl : k = Ls.length := by omega
      have hH : heldI Ms = heldI Ls := by rw [HM.out, ← heldI_len Ls, List.take_length]
      go_wp2
      go_ret
      exact ⟨w.heap.size, Ms, rfl, HL.out, hH, hZ, HP.out, Nat.le_refl _, hb⟩
theorem toInt64SS_new (A : Option Addr) (Ls : List SlI) (c : Nat) (w : World) (hp : ISAt w w.heap.size A Ls) (hn : Ls.length ≤ 1048576) (hl : ∀ i, i < Ls.length → (Ls.getD i si0).2.1.length ≤ 1048576) :
    Calls Tryd.prog 29 #[.slice A Ls.length c] w (NewIS Ls w) :=
  (toInt64SS_own A Ls c w hp hn hl).mono fun _ _ ⟨g, Ms, he, hl, hh, hz, ha, _, hb⟩ => ⟨g, Ms, he, hl, hh, hz.isat ha, hb⟩

theorem is_hold {N b o b' o' : Nat} {w wx wx' : World} {X Y : Value}
    (h : wx.cell? ⟨b, o, none⟩ = some X ∧ wx.cell? ⟨b', o', none⟩ = some Y ∧ Below N w wx ∧ N ≤ wx.heap.size ∧ b < wx.heap.size ∧ b' < wx.heap.size) (hb : Below wx.heap.size wx wx') :
    wx'.cell? ⟨b, o, none⟩ = some X ∧ wx'.cell? ⟨b', o', none⟩ = some Y ∧ Below N w wx' ∧ N ≤ wx'.heap.size ∧ b < wx'.heap.size ∧ b' < wx'.heap.size := by
  obtain ⟨h1, h2, h3, h4, h5, h6⟩ := h
  exact ⟨(hb.cell (p := ⟨b, _, none⟩) h5).trans h1, (hb.cell (p := ⟨b', _, none⟩) h6).trans h2, h3.trans (hb.mono h4), Nat.le_trans h4 hb.size, Nat.lt_of_lt_of_le h5 hb.size, Nat.lt_of_lt_of_le h6 hb.size⟩
theorem is_pts {a b d e : Prop} {w wx : World} {A : Option Addr} {P : List Int} (hp : IntsAt w w.heap.size A P) (h : a ∧ b ∧ Below w.heap.size w wx ∧ w.heap.size ≤ wx.heap.size ∧ d ∧ e) : IntsAt wx wx.heap.size A P := (hp.keepB h.2.2.1).mono h.2.2.2.1
theorem is_b {a b d : Prop} {N : Nat} {w wx : World} (h : a ∧ b ∧ Below N w wx ∧ d) : Below N w wx := h.2.2.1
set_option maxHeartbeats 1600000 in
theorem eqInt64SS_same (A B : Option Addr) (Ls Ms : List SlI) (n c d : Nat) (w : World) (hp : ISAt w w.heap.size A Ls) (hq : ISAt w w.heap.size B Ms) (hL : Ls.length = n) (hM : Ms.length = n) (hh : heldI Ls = heldI Ms) (hn : n ≤ 1048576) (hl : ∀ i, i < n → (Ls.getD i si0).2.1.length ≤ 1048576) :
    Calls Tryd.prog 34 #[.slice A n c, .slice B n d] w fun e w' => e = .returned (.bool true) ∧ Below w.heap.size w w' := by
  have hnI : (n : Int) ≤ 1048576 := by omega
  have HL := Lib.hid hL
  have HM := Lib.hid hM
  go_enter Tryd.func34, Tryd.ntmps34
  go_wp2
  go_loopw [5] (fun i wr => ∃ k : Nat, k ≤ n ∧ i = .int .i64 k ∧ Below w.heap.size w wr) (fun i _ => n - (intOf i).toNat)
  case atStart => exact ⟨0, Nat.zero_le _, rfl, Below.refl _ _⟩
  case round =>
    obtain ⟨k, hk, rfl, hb⟩ := hrel
    have hk0 : 0 ≤ (k : Int) := by omega
    by_cases hlt : k < n
    · obtain ⟨b1, o1, rfl, hb1, hc1⟩ := hp (by omega)
      obtain ⟨b2, o2, rfl, hb2, hc2⟩ := hq (by omega)
      obtain ⟨c1, p1, _, _⟩ := hc1 k (by omega)
      obtain ⟨c2, p2, _, _⟩ := hc2 k (by omega)
      have hlk := hl k hlt
      have hE : (Ms.getD k si0).2.1 = (Ls.getD k si0).2.1 := by rw [← heldI_at, ← heldI_at, hh]
      rw [hE] at c2 p2
      have d1 := (hb.cell (p := ⟨b1, o1 + k, none⟩) hb1).trans c1
      have d2 := (hb.cell (p := ⟨b2, o2 + k, none⟩) hb2).trans c2
      have hltI : (k : Int) < (n : Int) := by omega
      have hz := hb.size
      have hz1 : b1 < wr.heap.size := Nat.lt_of_lt_of_le hb1 hz
      have hz2 : b2 < wr.heap.size := Nat.lt_of_lt_of_le hb2 hz
      generalize (Ls.getD k si0).2.1 = P at *
      generalize (Ls.getD k si0).1 = A1 at *
      generalize (Ls.getD k si0).2.2 = C1 at *
      generalize (Ms.getD k si0).1 = A2 at *
      generalize (Ms.getD k si0).2.2 = C2 at *
      have ce : ∀ wx, (wx.cell? ⟨b1, o1 + k, none⟩ = some (.slice A1 P.length C1) ∧ wx.cell? ⟨b2, o2 + k, none⟩ = some (.slice A2 P.length C2) ∧ Below w.heap.size w wx ∧ w.heap.size ≤ wx.heap.size ∧ b1 < wx.heap.size ∧ b2 < wx.heap.size) → Calls Tryd.prog 14 #[.slice A1 P.length C1, .slice A2 P.length C2] wx fun e w' => e = .returned (.bool true) ∧ Below wx.heap.size wx w' := fun wx h => eqInt64S_same A1 A2 P C1 C2 wx (is_pts p1 h) (is_pts p2 h) hlk
      have CE := Lib.hid ce
      clear hc1 hc2 c1 c2 hE hp hq hL hM p1 p2 hlk ce
      go_wp2
      go_region_held3 (fun wx => wx.cell? ⟨b1, o1 + k, none⟩ = some (.slice A1 P.length C1) ∧ wx.cell? ⟨b2, o2 + k, none⟩ = some (.slice A2 P.length C2) ∧ Below w.heap.size w wx ∧ w.heap.size ≤ wx.heap.size ∧ b1 < wx.heap.size ∧ b2 < wx.heap.size)
        (first | exact is_hold (by assumption) (by assumption) | exact ⟨d1, d2, hb.drew, hz, hz1, hz2⟩)
        ((go_at_call 14; refine (CE.out _ (by assumption)).mono ?_; rintro e w' ⟨rfl, hb'⟩))
      go_wp2
      go_roundw
      case rel => exact ⟨k + 1, by omega, by go_num, is_b (by assumption)⟩
      case measure => simp [intOf]; omega
    · obtain rfl : k = n := by omega
      go_wp2
      go_ret
      exact ⟨rfl, hb⟩
end Go.Proofs.YtifenbamookmiaaDoor
