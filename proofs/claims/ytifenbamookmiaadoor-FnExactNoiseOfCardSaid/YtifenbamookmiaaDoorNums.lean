/-
  Slices of numbers: the law's copies and comparison.
-/
import Derived.Test.YtifenbamookmiaaDoorDist
import Derived.LoopTactic
import Derived.Laws.MakeOwn
import Derived.Laws.Rows
namespace Go.Proofs.YtifenbamookmiaaDoor
set_option linter.unusedSimpArgs false
set_option linter.unusedVariables false
open Go.ChangeShapes Go.WideShapes Go.ChangeAt Go.RowKit

variable {H : Type} {enc : TypeId × Value → H}

/-- The slice with the address A holds the numbers ns, below block B. -/
abbrev IntsAt (w : World) (B : Nat) (A : Option Addr) (ns : List Int) : Prop := NumsAt .i64 w B A ns

set_option maxRecDepth 100000 in
theorem open_nums {w : World} {v : Value} {d : DataW H} {p : List MemPlace} {r : Reach} {b0 : Nat} (hv : Value.okWide Tryd.prog w r b0 25 v) (h : DataW.Trod enc Tryd.prog w 0 (fun _ => true) true 25 v d p) :
    ∃ (A : Option Addr) (ns : List Int) (c : Nat), v = .slice A ns.length c ∧ IntsAt w w.heap.size A ns ∧ (∀ n ∈ ns, Fits n) ∧ ns.length ≤ c ∧ c ≤ maxLen := by
  obtain ⟨A, ns, c, e, h1, h2, h3⟩ := open_nums_any .i64 Tryd.underlying25 Tryd.underlying2 (by kernel_rfl) hv h
  exact ⟨A, ns, c, e, h1, fun n hn => fits_of (h2 n hn), h3⟩

theorem NumsAt.to {K : IntKind} {w w1 : World} {A : Option Addr} {ns : List Int} (h : NumsAt K w w.heap.size A ns) (hb : Below w.heap.size w w1) : NumsAt K w1 w1.heap.size A ns := fun h0 => by
  obtain ⟨b, off, e, hlt, hc⟩ := h h0
  exact ⟨b, off, e, Nat.lt_of_lt_of_le hlt hb.size, fun i hi => (hb.cell (p := ⟨b, _, none⟩) hlt).trans (hc i hi)⟩
theorem NumsAt.keepB {K : IntKind} {w w1 : World} {B : Nat} {A : Option Addr} {ns : List Int} (h : NumsAt K w B A ns) (hb : Below B w w1) : NumsAt K w1 B A ns := fun h0 => by
  obtain ⟨b, off, e, hlt, hc⟩ := h h0
  exact ⟨b, off, e, hlt, fun i hi => (hb.cell (p := ⟨b, _, none⟩) hlt).trans (hc i hi)⟩
theorem NumsAt.mono {K : IntKind} {w : World} {B B' : Nat} {A : Option Addr} {ns : List Int} (h : NumsAt K w B A ns) (hB : B ≤ B') : NumsAt K w B' A ns := fun h0 => by
  obtain ⟨b, off, e, hlt, hc⟩ := h h0
  exact ⟨b, off, e, by omega, hc⟩

/-- Block g holds the first k of the numbers ns, and has places for all of them. -/
def NBlk (w : World) (g : Nat) (ns : List Int) (k : Nat) : Prop :=
  ∃ cs, w.heap[g]? = some (.cells cs 2 (0, 0)) ∧ cs.size = ns.length ∧ ∀ i, i < k → i < ns.length → cs[i]? = some (.int .i64 (ns.getD i 0))
theorem NBlk.lt {w : World} {g k : Nat} {ns : List Int} (h : NBlk w g ns k) : g < w.heap.size := by
  obtain ⟨cs, h, _⟩ := h
  rcases Nat.lt_or_ge g w.heap.size with hlt | hge
  · exact hlt
  · rw [Array.getElem?_eq_none hge] at h; cases h
theorem NBlk.keep {w w' : World} {g k : Nat} {ns : List Int} (h : NBlk w g ns k) (hk : w'.heap[g]? = w.heap[g]?) : NBlk w' g ns k := by
  obtain ⟨cs, h0, h1⟩ := h
  exact ⟨cs, hk.trans h0, h1⟩
theorem NBlk.below {w w' : World} {B g k : Nat} {ns : List Int} (h : NBlk w g ns k) (hb : Below B w w') (hg : g < B) : NBlk w' g ns k := h.keep (hb.block g hg)
theorem NBlk.to {w w1 : World} {g k : Nat} {ns : List Int} (h : NBlk w g ns k) (hb : Below w.heap.size w w1) : NBlk w1 g ns k := h.below hb h.lt
theorem NBlk.at_ {w : World} {g k : Nat} {ns : List Int} (h : NBlk w g ns k) {i : Nat} (hi : i < k) (hl : i < ns.length) :
    w.cell? ⟨g, i, none⟩ = some (.int .i64 (ns.getD i 0)) := by
  obtain ⟨cs, h0, _, h2⟩ := h
  rw [cell_of_row w g _ cs _ _ h0]
  exact h2 i hi hl
theorem NBlk.nums {w : World} {g : Nat} {ns : List Int} (h : NBlk w g ns ns.length) : IntsAt w w.heap.size (some ⟨g, 0, none⟩) ns := fun _ =>
  ⟨g, 0, rfl, h.lt, fun i hi => by simpa using h.at_ hi hi⟩
theorem NBlk.frozen {w : World} {g k : Nat} {ns : List Int} (h : NBlk w g ns k) (i : Nat) : w.frozen? ⟨g, i, none⟩ = false := by
  obtain ⟨cs, h0, _⟩ := h
  simp [World.frozen?, h0]
theorem NBlk.there {w : World} {g k : Nat} {ns : List Int} (h : NBlk w g ns k) {i : Nat} (hi : i < ns.length) : ∃ v, w.cell? ⟨g, i, none⟩ = some v := by
  obtain ⟨cs, h0, h1, _⟩ := h
  rw [cell_of_row w g _ cs _ _ h0]
  exact ⟨cs[i], by simp [h1, hi]⟩
theorem NBlk.set_ {w : World} {g k : Nat} {ns : List Int} (h : NBlk w g ns k) (hk : k < ns.length) :
    NBlk (w.setCell ⟨g, k, none⟩ (.int .i64 (ns.getD k 0))) g ns (k + 1) := by
  obtain ⟨cs, h0, h1, h2⟩ := h
  refine ⟨cs.setIfInBounds k (.int .i64 (ns.getD k 0)), ?_, by simpa using h1, ?_⟩
  · simp [World.setCell, Array.getElem?_modify, h0]
  · intro i hi hl
    rcases Nat.lt_or_ge i k with hlt | hge
    · rw [Array.getElem?_setIfInBounds_ne (by omega)]
      exact h2 i hlt hl
    · obtain rfl : i = k := by omega
      simp only [Array.getElem?_setIfInBounds_self, h1]
      rw [if_pos (by omega)]

/-- The empty places of a new slice of numbers. -/
def blankN (n : Nat) : Array Value := madeCells #[.int .i64 0] n
theorem infoI : (Tryd.prog.info? 2).map (fun i => (i.zero, i.size, i.bytes)) = some (some (.int .i64 0), 1, 8) := by kernel_rfl
theorem run_mknums (n : Nat) (h : n ≤ 1048576) (w : World) :
    (Instr.makeSlice 25 (.int .i64 (n : Int)) (.int .i64 (n : Int))).run Tryd.prog w = .ok (.slice (some ⟨w.heap.size, 0, none⟩) n n) (w.alloc (.cells (blankN n) 2)) := by
  obtain ⟨i, hi, hzz⟩ := Option.map_eq_some_iff.1 infoI
  simp only [Prod.mk.injEq] at hzz
  obtain ⟨hz, hs, hb⟩ := hzz
  have := run_make (P := Tryd.prog) w 25 2 i _ Tryd.underlying25 hi hz .i64 .i64 n n (by omega) (by omega) (by rw [hb]; omega) (by omega)
  rw [this, hs, Nat.mul_one]
  rfl
theorem NBlk.new (w : World) (ns : List Int) : NBlk (w.alloc (.cells (blankN ns.length) 2)) w.heap.size ns 0 :=
  ⟨blankN ns.length, heap_alloc_new w _, by simp [blankN, size_madeCells], fun i hi => by omega⟩

set_option maxHeartbeats 400000 in
theorem toInt64S_any (A : Option Addr) (ns : List Int) (c : Nat) (w : World) (hp : IntsAt w w.heap.size A ns) (hl : ns.length ≤ 1048576) :
    Calls Tryd.prog 11 #[.slice A ns.length c] w fun e w' => e = .returned (.slice (some ⟨w.heap.size, 0, none⟩) ns.length ns.length) ∧ NBlk w' w.heap.size ns ns.length ∧ Below w.heap.size w w' := by
  have hmk := run_mknums ns.length hl
  have hl' : (ns.length : Int) ≤ 1048576 := by omega
  go_enter Tryd.func11, Tryd.ntmps11
  go_wp2
  clear hmk
  go_loopw [4] (fun i wr => ∃ k : Nat, k ≤ ns.length ∧ i = .int .i64 k ∧ NBlk wr w.heap.size ns k ∧ Below w.heap.size w wr) (fun i _ => ns.length - (intOf i).toNat)
  case atStart => exact ⟨0, Nat.zero_le _, rfl, NBlk.new w ns, by (repeat (first | assumption | exact Below.refl _ _ | (refine bl_alloc ?_ _) | (refine Below.drew ?_) | (refine bl_drewN ?_ _) | (refine bl_set ?_ (by first | (simp; done) | omega | (simp; omega)) _) | (refine bl_trans ?_ (by assumption)) | (refine bl_step ?_ (by assumption) (by first | omega | exact Below.size (by assumption) | (simp; omega) | (simp; exact Below.size (by assumption))))))⟩
  case round =>
    obtain ⟨k, hk, rfl, hB, hb⟩ := hrel
    by_cases hlt : k < ns.length
    · obtain ⟨b, off, rfl, hbB, hc⟩ := hp (by omega)
      have c0 := hc k hlt
      have d0 := (hb.cell (p := ⟨b, off + k, none⟩) hbB).trans c0
      have f0 := hB.frozen k
      obtain ⟨v0, t0⟩ := hB.there (i := k) (by omega)
      have hlt' : (k : Int) < (ns.length : Int) := by omega
      clear hc c0 hp
      go_wp2
      go_roundw
      case rel => exact ⟨k + 1, by omega, by go_num, by simpa [hlt] using hB.set_ hlt, by (repeat (first | assumption | exact Below.refl _ _ | (refine bl_alloc ?_ _) | (refine Below.drew ?_) | (refine bl_drewN ?_ _) | (refine bl_set ?_ (by first | (simp; done) | omega | (simp; omega)) _) | (refine bl_trans ?_ (by assumption)) | (refine bl_step ?_ (by assumption) (by first | omega | exact Below.size (by assumption) | (simp; omega) | (simp; exact Below.size (by assumption))))))⟩
      case measure => simp [intOf]; omega
    · obtain rfl : k = ns.length := by omega
      go_wp2
      go_ret
      exact ⟨rfl, hB, hb⟩

/-- A new slice that holds the numbers ns. -/
def NewInts (w : World) (ns : List Int) (e : Ending) (w' : World) : Prop :=
  ∃ g, e = .returned (.slice (some ⟨g, 0, none⟩) ns.length ns.length) ∧ NBlk w' g ns ns.length ∧ Below w.heap.size w w' ∧ w.heap.size ≤ g
theorem toInt64S_new (A : Option Addr) (ns : List Int) (c : Nat) (w : World) (hp : IntsAt w w.heap.size A ns) (hl : ns.length ≤ 1048576) :
    Calls Tryd.prog 11 #[.slice A ns.length c] w (NewInts w ns) :=
  (toInt64S_any A ns c w hp hl).mono fun _ _ ⟨he, hB, hb⟩ => ⟨_, he, hB, hb, Nat.le_refl _⟩

set_option maxHeartbeats 400000 in
theorem eqInt64S_same (A B : Option Addr) (ns : List Int) (c d : Nat) (w : World) (hp : IntsAt w w.heap.size A ns) (hq : IntsAt w w.heap.size B ns) (hl : ns.length ≤ 1048576) :
    Calls Tryd.prog 14 #[.slice A ns.length c, .slice B ns.length d] w fun e w' => e = .returned (.bool true) ∧ Below w.heap.size w w' := by
  have hl' : (ns.length : Int) ≤ 1048576 := by omega
  go_enter Tryd.func14, Tryd.ntmps14
  go_wp2
  go_loopw [5] (fun i wr => ∃ k : Nat, k ≤ ns.length ∧ i = .int .i64 k ∧ Below w.heap.size w wr) (fun i _ => ns.length - (intOf i).toNat)
  case atStart => exact ⟨0, Nat.zero_le _, rfl, Below.refl _ _⟩
  case round =>
    obtain ⟨k, hk, rfl, hb⟩ := hrel
    by_cases hlt : k < ns.length
    · obtain ⟨b1, o1, rfl, hb1, hc1⟩ := hp (by omega)
      obtain ⟨b2, o2, rfl, hb2, hc2⟩ := hq (by omega)
      have d0 := (hb.cell (p := ⟨b1, o1 + k, none⟩) hb1).trans (hc1 k hlt)
      have d2 := (hb.cell (p := ⟨b2, o2 + k, none⟩) hb2).trans (hc2 k hlt)
      have hz := hb.size
      generalize ns.getD k 0 = x at d0 d2
      clear hc1 hc2 hp hq
      have hlt' : (k : Int) < (ns.length : Int) := by omega
      go_wp2
      go_quiet (fail)
      go_wp2
      go_roundw
      case rel => exact ⟨k + 1, by omega, by go_num, by (repeat (first | assumption | exact Below.refl _ _ | (refine bl_alloc ?_ _) | (refine Below.drew ?_) | (refine bl_drewN ?_ _) | (refine bl_set ?_ (by first | (simp; done) | omega | (simp; omega)) _) | (refine bl_trans ?_ (by assumption)) | (refine bl_step ?_ (by assumption) (by first | omega | exact Below.size (by assumption) | (simp; omega) | (simp; exact Below.size (by assumption))))))⟩
      case measure => simp [intOf]; omega
    · go_wp2
      go_ret
      exact ⟨rfl, hb⟩

/-! ### A list that rises within bounds -/
def riseAt (l : List Int) (lo hi : Int) (k : Nat) : Bool := inB (l.getD k 0) lo hi && (decide (k = 0) || decide (l.getD (k - 1) 0 < l.getD k 0))
def riseTo (l : List Int) (lo hi : Int) : Nat → Bool
  | 0 => true
  | k + 1 => riseTo l lo hi k && riseAt l lo hi k
def rises (l : List Int) (lo hi : Int) : Bool := riseTo l lo hi l.length
theorem riseTo_bad {l : List Int} {lo hi : Int} {k n : Nat} (h : k ≤ n) (hk : riseTo l lo hi k = false) : riseTo l lo hi n = false := by
  induction n with
  | zero => obtain rfl : k = 0 := by omega
            exact hk
  | succ n ih =>
    by_cases e : k = n + 1
    · subst e; exact hk
    · unfold riseTo; rw [ih (by omega)]; rfl
theorem riseTo_at {l : List Int} {lo hi : Int} {n : Nat} (h : riseTo l lo hi n = true) {k : Nat} (hk : k < n) : riseAt l lo hi k = true := by
  cases hv : riseAt l lo hi k
  · have : riseTo l lo hi (k + 1) = false := by unfold riseTo; rw [hv]; simp
    rw [riseTo_bad (by omega) this] at h; cases h
  · rfl
theorem rises_in {l : List Int} {lo hi : Int} (h : rises l lo hi = true) {k : Nat} (hk : k < l.length) : lo ≤ l.getD k 0 ∧ l.getD k 0 ≤ hi := by
  have := riseTo_at h hk
  simp [riseAt, inB] at this
  exact this.1

theorem l00In_is {n lo hi : Int} {b : Bool} (h : Hid (inB n lo hi = b)) (w : World) :
    Calls Tryd.prog 43 #[.int .i64 n, .int .i64 lo, .int .i64 hi] w fun e w' => e = .returned (.bool b) ∧ w' = w :=
  (l00In_any n lo hi w).mono fun _ _ ⟨he, hw⟩ => ⟨by rw [he, h.out], hw.symm⟩
theorem l00In_at {n lo hi : Int} {b : Bool} (h : Hid (inB n lo hi = b)) (w : World) :
    Calls Tryd.prog 43 #[.int .i64 n, .int .i64 lo, .int .i64 hi] w fun e w' => e = .returned (.bool b) ∧ w = w' :=
  (l00In_any n lo hi w).mono fun _ _ ⟨he, hw⟩ => ⟨by rw [he, h.out], hw⟩
set_option maxHeartbeats 800000 in
theorem l00Rises_any (A : Option Addr) (ns : List Int) (c : Nat) (lo hi : Int) (w : World) (hp : IntsAt w w.heap.size A ns) (hl : ns.length ≤ 1048576) :
    Calls Tryd.prog 61 #[.slice A ns.length c, .int .i64 lo, .int .i64 hi] w fun e w' => e = .returned (.bool (rises ns lo hi)) ∧ Below w.heap.size w w' := by
  have hl' : (ns.length : Int) ≤ 1048576 := by omega
  go_enter Tryd.func61, Tryd.ntmps61
  go_wp2
  go_loopw [7] (fun i wr => ∃ k : Nat, k ≤ ns.length ∧ i = .int .i64 k ∧ Hid (riseTo ns lo hi k = true) ∧ Below w.heap.size w wr) (fun i _ => ns.length - (intOf i).toNat)
  case atStart => exact ⟨0, Nat.zero_le _, rfl, rfl, Below.refl _ _⟩
  case round =>
    obtain ⟨k, hk, rfl, HA, hb⟩ := hrel
    by_cases hlt : k < ns.length
    · obtain ⟨b, off, rfl, hbB, hc⟩ := hp (by omega)
      have d0 := (hb.cell (p := ⟨b, off + k, none⟩) hbB).trans (hc k hlt)
      have HS : Hid (riseTo ns lo hi (k + 1) = riseAt ns lo hi k) := by show _ = _; unfold riseTo; rw [HA.out]; rfl
      have HB := fun h => Lib.hid (show rises ns lo hi = false from riseTo_bad (k := k + 1) (by omega) h)
      have hltI : (k : Int) < (ns.length : Int) := by omega
      have hzle : w.heap.size ≤ wr.heap.size := hb.size
      cases hin : inB (ns.getD k 0) lo hi
      · have HF := HB (by rw [HS.out]; unfold riseAt; rw [hin]; rfl)
        have HI := Lib.hid hin
        generalize ns.getD k 0 = x at *
        clear hc hp hin HB
        go_wp2
        go_quiet ((go_at_call 43; exact Calls.quiet_of_same (l00In_is HI _)))
        go_wp2
        go_ret
        exact ⟨retB (by rw [HF.out]), by (repeat (first | assumption | exact Below.refl _ _ | (refine bl_alloc ?_ _) | (refine Below.drew ?_) | (refine bl_drewN ?_ _) | (refine bl_set ?_ (by first | (simp; done) | omega | (simp; omega)) _) | (refine bl_trans ?_ (by assumption)) | (refine bl_step ?_ (by assumption) (by first | omega | exact Below.size (by assumption) | (simp; omega) | (simp; exact Below.size (by assumption))))))⟩
      · have HI := Lib.hid hin
        by_cases hk0 : k = 0
        · have HN : Hid (riseTo ns lo hi (k + 1) = true) := by show _ = _; rw [HS.out]; unfold riseAt; rw [hin]; simp [hk0]
          have hkd : decide (0 < k) = false := decide_eq_false (by omega)
          generalize ns.getD k 0 = x at *
          have HK := Lib.hid hk0
          clear hc hp hin HB hk0
          go_wp2
          go_quiet ((go_at_call 43; exact Calls.quiet_of_same (l00In_is HI _)))
          go_wp2
          go_roundw
          case rel => exact ⟨k + 1, by omega, by go_num, HN, by (repeat (first | assumption | exact Below.refl _ _ | (refine bl_alloc ?_ _) | (refine Below.drew ?_) | (refine bl_drewN ?_ _) | (refine bl_set ?_ (by first | (simp; done) | omega | (simp; omega)) _) | (refine bl_trans ?_ (by assumption)) | (refine bl_step ?_ (by assumption) (by first | omega | exact Below.size (by assumption) | (simp; omega) | (simp; exact Below.size (by assumption))))))⟩
          case measure => simp [intOf]; omega
        · have hk1 : ((k - 1 : Nat) : Int) = (k : Int) - 1 := by omega
          have d1 := (hb.cell (p := ⟨b, off + (k - 1), none⟩) hbB).trans (hc (k - 1) (by omega))
          have hkd : decide (0 < k) = true := decide_eq_true (by omega)
          have hkp : (0 : Int) < (k : Int) := by omega
          have hkp1 : (0 : Int) ≤ (k : Int) - 1 := by omega
          have hkt : ((k : Int) - 1).toNat = k - 1 := by omega
          by_cases hcmp : ns.getD (k - 1) 0 < ns.getD k 0
          · have HN : Hid (riseTo ns lo hi (k + 1) = true) := by show _ = _; rw [HS.out]; unfold riseAt; rw [hin, decide_eq_true hcmp]; simp
            generalize ns.getD k 0 = x at *
            generalize ns.getD (k - 1) 0 = y at *
            have HK := Lib.hid hk1
            have hcd : ¬ x ≤ y := by omega
            clear hc hp hin HB hk0 hk1
            go_wp2
            go_quiet ((go_at_call 43; exact Calls.quiet_of_same (l00In_is HI _)))
            go_wp2
            go_roundw
            case rel => exact ⟨k + 1, by omega, by go_num, HN, by (repeat (first | assumption | exact Below.refl _ _ | (refine bl_alloc ?_ _) | (refine Below.drew ?_) | (refine bl_drewN ?_ _) | (refine bl_set ?_ (by first | (simp; done) | omega | (simp; omega)) _) | (refine bl_trans ?_ (by assumption)) | (refine bl_step ?_ (by assumption) (by first | omega | exact Below.size (by assumption) | (simp; omega) | (simp; exact Below.size (by assumption))))))⟩
            case measure => simp [intOf]; omega
          · have HF := HB (by rw [HS.out]; unfold riseAt; rw [decide_eq_false hcmp, decide_eq_false hk0]; simp)
            generalize ns.getD k 0 = x at *
            generalize ns.getD (k - 1) 0 = y at *
            have HK := Lib.hid hk1
            have hcd : x ≤ y := by omega
            clear hc hp hin HB hk0 hk1
            go_wp2
            go_quiet ((go_at_call 43; exact Calls.quiet_of_same (l00In_is HI _)))
            go_wp2
            go_ret
            exact ⟨retB (by rw [HF.out]), by (repeat (first | assumption | exact Below.refl _ _ | (refine bl_alloc ?_ _) | (refine Below.drew ?_) | (refine bl_drewN ?_ _) | (refine bl_set ?_ (by first | (simp; done) | omega | (simp; omega)) _) | (refine bl_trans ?_ (by assumption)) | (refine bl_step ?_ (by assumption) (by first | omega | exact Below.size (by assumption) | (simp; omega) | (simp; exact Below.size (by assumption))))))⟩
    · have HT : Hid (rises ns lo hi = true) := by
        show _ = _
        have := HA.out
        rwa [show k = ns.length by omega] at this
      go_wp2
      go_ret
      exact ⟨retB (by rw [HT.out]), hb⟩
end Go.Proofs.YtifenbamookmiaaDoor
