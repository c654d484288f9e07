/-
  Contracts: the program's text of a list of numbers.
-/
import Derived.Test.YtiadoekhhmcokaaDoorText
import Derived.Test.YtiadoekhhmcokaaDoorDecimal
namespace Go.Proofs.YtiadoekhhmcokaaDoor
set_option linter.unusedSimpArgs false
set_option linter.unusedVariables false
open Go.ChangeShapes Go.WideShapes Go.ChangeAt Go.RowKit

/-- Block g holds the first k of the words, and has places for all of them. -/
def WBlk (w : World) (g : Nat) (fs : List (List UInt8)) (k : Nat) : Prop :=
  ∃ cs, w.heap[g]? = some (.cells cs 9 (0, 0)) ∧ cs.size = fs.length ∧ ∀ i, i < k → i < fs.length → cs[i]? = some (.string ⟨(fs.getD i []).toArray⟩)
theorem WBlk.lt {w : World} {g k : Nat} {fs : List (List UInt8)} (h : WBlk w g fs k) : g < w.heap.size := by
  obtain ⟨cs, h, _⟩ := h
  rcases Nat.lt_or_ge g w.heap.size with hlt | hge
  · exact hlt
  · rw [Array.getElem?_eq_none hge] at h; cases h
theorem WBlk.keep {w w' : World} {g k : Nat} {fs : List (List UInt8)} (h : WBlk w g fs k) (hk : w'.heap[g]? = w.heap[g]?) : WBlk w' g fs k := by
  obtain ⟨cs, h0, h1⟩ := h
  exact ⟨cs, hk.trans h0, h1⟩
theorem WBlk.to {w w1 : World} {g k : Nat} {fs : List (List UInt8)} (h : WBlk w g fs k) (hb : Below w.heap.size w w1) : WBlk w1 g fs k := h.keep (hb.block g h.lt)
theorem WBlk.at_ {w : World} {g k : Nat} {fs : List (List UInt8)} (h : WBlk w g fs k) {i : Nat} (hi : i < k) (hl : i < fs.length) :
    w.cell? ⟨g, i, none⟩ = some (.string ⟨(fs.getD i []).toArray⟩) := by
  obtain ⟨cs, h0, _, h2⟩ := h
  rw [cell_of_row w g _ cs _ _ h0]
  exact h2 i hi hl
theorem WBlk.frozen {w : World} {g k : Nat} {fs : List (List UInt8)} (h : WBlk w g fs k) (i : Nat) : w.frozen? ⟨g, i, none⟩ = false := by
  obtain ⟨cs, h0, _⟩ := h
  simp [World.frozen?, h0]
theorem WBlk.there {w : World} {g k : Nat} {fs : List (List UInt8)} (h : WBlk w g fs k) {i : Nat} (hi : i < fs.length) : ∃ v, w.cell? ⟨g, i, none⟩ = some v := by
  obtain ⟨cs, h0, h1, _⟩ := h
  rw [cell_of_row w g _ cs _ _ h0]
  exact ⟨cs[i], by simp [h1, hi]⟩
theorem WBlk.set_ {w : World} {g k : Nat} {fs : List (List UInt8)} (h : WBlk w g fs k) (hk : k < fs.length) :
    WBlk (w.setCell ⟨g, k, none⟩ (.string ⟨(fs.getD k []).toArray⟩)) g fs (k + 1) := by
  obtain ⟨cs, h0, h1, h2⟩ := h
  refine ⟨cs.setIfInBounds k (.string ⟨(fs.getD k []).toArray⟩), ?_, by simpa using h1, ?_⟩
  · simp [World.setCell, Array.getElem?_modify, h0]
  · intro i hi hl
    rcases Nat.lt_or_ge i k with hlt | hge
    · rw [Array.getElem?_setIfInBounds_ne (by omega)]
      exact h2 i hlt hl
    · obtain rfl : i = k := by omega
      simp only [Array.getElem?_setIfInBounds_self, h1]
      rw [if_pos (by omega)]
/-- The empty places of a new slice of strings. -/
def blankS (n : Nat) : Array Value := madeCells #[.string ⟨#[]⟩] n
theorem infoS : (Tryd.prog.info? 9).map (fun i => (i.zero, i.size, i.bytes)) = some (some (.string ⟨#[]⟩), 1, 16) := by kernel_rfl
theorem run_mkstrs (n : Nat) (h : n ≤ 1048576) (w : World) :
    (Instr.makeSlice 120 (.int .i64 (n : Int)) (.int .i64 (n : Int))).run Tryd.prog w = .ok (.slice (some ⟨w.heap.size, 0, none⟩) n n) (w.alloc (.cells (blankS n) 9)) := by
  obtain ⟨i, hi, hzz⟩ := Option.map_eq_some_iff.1 infoS
  simp only [Prod.mk.injEq] at hzz
  obtain ⟨hz, hs, hb⟩ := hzz
  have := run_make (P := Tryd.prog) w 120 9 i _ Tryd.underlying120 hi hz .i64 .i64 n n (by omega) (by omega) (by rw [hb]; omega) (by omega)
  rw [this, hs, Nat.mul_one]
  rfl
theorem WBlk.new (w : World) (fs : List (List UInt8)) : WBlk (w.alloc (.cells (blankS fs.length) 9)) w.heap.size fs 0 :=
  ⟨blankS fs.length, heap_alloc_new w _, by simp [blankS, size_madeCells], fun i hi => by omega⟩
theorem map_toList (fs : List (List UInt8)) : (fs.map fun l => (⟨l.toArray⟩ : ByteArray)).map (·.data.toList) = fs := by
  induction fs with
  | nil => rfl
  | cons x r ih => rw [List.map_cons, List.map_cons, ih]
theorem WBlk.join {w : World} {g : Nat} {fs : List (List UInt8)} (h : WBlk w g fs fs.length) (n : Nat) (hn : fs.length = n) (h0 : 1 ≤ n) (h60 : n ≤ 60) (hl : ∀ i, i < fs.length → (fs.getD i []).length ≤ 1000) :
    Calls Tryd.prog 110 #[.slice (some ⟨g, 0, none⟩) n n, .string ⟨#[44]⟩] w fun e w' => e = .returned (.string ⟨(cmm fs n).toArray⟩) ∧ Below w.heap.size w w' := by
  have hne : fs ≠ [] := by intro e; subst e; simp at hn; omega
  have hlen := cmm_len hl fs.length (Nat.le_refl _)
  rw [cmm_join fs hne] at hlen
  have hlen2 : fs.length * (1000 + 1) ≤ 60 * 1001 := Nat.mul_le_mul (by omega) (by omega)
  have hcon := Any.strings_Join Tryd.lays156 Tryd.Builder_Extra_156 g 0 n (fs.map fun l => (⟨l.toArray⟩ : ByteArray)) ⟨#[44]⟩ w (fun j x hx => by
      rw [List.getElem?_map] at hx
      cases hj : fs[j]? with
      | none => rw [hj] at hx; cases hx
      | some l =>
        rw [hj] at hx
        simp only [Option.map_some, Option.some.injEq] at hx
        subst hx
        have hjl : j < fs.length := by
          rcases Nat.lt_or_ge j fs.length with hh | hh
          · exact hh
          · rw [List.getElem?_eq_none hh] at hj; cases hj
        rw [Nat.zero_add, h.at_ hjl hjl]
        simp [List.getD_eq_getElem?_getD, hj])
    h.lt (by simp; omega) (by simp; omega) (by rw [map_toList]; show (Lib.join fs [44]).length ≤ _; omega)
  rw [map_toList] at hcon
  change Calls Tryd.prog 110 _ _ _ at hcon
  rw [List.length_map, hn] at hcon
  rw [← hn, cmm_join fs hne, hn]
  exact hcon

set_option maxHeartbeats 1600000 in
theorem joinInts_any (A : Option Addr) (ns : List Int) (c : Nat) (w : World) (hp : IntsAt w w.heap.size A ns) (hl : ns.length ≤ 60) (hi : itmTo ns ns.length = true) (htab : Lib.TabIs Tryd.prog w "internal/strconv.uint64pow10" .u64 Lib.pow10Tab) :
    Calls Tryd.prog 84 #[.slice A ns.length c, .func (.func 85) #[] #[]] w fun e w' => e = .returned (.string (lstT ns)) ∧ Below w.heap.size w w' := by
  have hlI : (ns.length : Int) ≤ 60 := by omega
  by_cases h0 : ns.length = 0
  · have F : Hid (lstT ns = ⟨#[110, 111, 110, 101]⟩) := by show _ = _; unfold lstT; rw [if_pos h0]
    have hz : ((ns.length : Int) == 0) = true := by simp [h0]
    clear h0
    go_enter Tryd.func84, Tryd.ntmps84
    go_wp2
    go_ret
    exact ⟨by rw [F.out]; rfl, by (repeat (first | assumption | exact Below.refl _ _ | (refine bl_alloc ?_ _) | (refine Below.drew ?_) | (refine bl_drewN ?_ _) | (refine bl_set ?_ (by first | (simp; done) | omega | (simp; omega)) _) | (refine bl_trans ?_ (by assumption)) | (refine bl_step ?_ (by assumption) (by first | omega | exact Below.size (by assumption) | (simp; omega) | (simp; exact Below.size (by assumption))))))⟩
  · have F : Hid (lstT ns = ⟨(cmm (wrds ns) ns.length).toArray⟩) := by show _ = _; unfold lstT; rw [if_neg h0]
    have hz : ((ns.length : Int) == 0) = false := by simp; exact fun e => h0 (by simp [e])
    obtain ⟨b, off, rfl, hbB, hc⟩ := hp (by omega)
    have hmk := run_mkstrs ns.length (by omega)
    have hWl : (wrds ns).length = ns.length := by simp [wrds]
    have hw0 := WBlk.new w (wrds ns)
    rw [hWl] at hw0
    go_enter Tryd.func84, Tryd.ntmps84
    go_wp2
    clear hmk
    go_loopw [6, 7, 16] (fun _ _ i wr => ∃ k : Nat, k ≤ ns.length ∧ i = .int .i64 k ∧ WBlk wr w.heap.size (wrds ns) k ∧ Below w.heap.size w wr) (fun _ _ i _ => ns.length - (intOf i).toNat)
    case atStart => exact ⟨0, Nat.zero_le _, rfl, hw0, by (repeat (first | assumption | exact Below.refl _ _ | (refine bl_alloc ?_ _) | (refine Below.drew ?_) | (refine bl_drewN ?_ _) | (refine bl_set ?_ (by first | (simp; done) | omega | (simp; omega)) _) | (refine bl_trans ?_ (by assumption)) | (refine bl_step ?_ (by assumption) (by first | omega | exact Below.size (by assumption) | (simp; omega) | (simp; exact Below.size (by assumption))))))⟩
    case round =>
      clear hw0
      obtain ⟨k, hk, rfl, hB, hb⟩ := hrel
      have hk0 : 0 ≤ (k : Int) := by omega
      by_cases hlt : k < ns.length
      · have d0 := (hb.cell (p := ⟨b, off + k, none⟩) hbB).trans (hc k hlt)
        have hltI : (k : Int) < (ns.length : Int) := by omega
        obtain ⟨k3, k4⟩ := itmB_bd (itmTo_at hi hlt)
        have HW := Lib.hid (wrds_at hlt)
        generalize ns.getD k 0 = x at *
        have htab' := Go.Joins.tab_stays fnExactDecimal.gPow htab hb (Nat.le_refl _)
        clear hc
        go_wp2_with fail
        refine (fnExactDecimal.decI_any x _ (by omega) (by omega) htab').mono ?_
        rintro e w2 ⟨rfl, hb2⟩
        have hB2 := hB.to hb2
        have b2 := bl_trans hb hb2
        have f0 := hB2.frozen k
        obtain ⟨v0, t0⟩ := hB2.there (i := k) (by omega)
        have HS := hB2.set_ (k := k) (by omega)
        rw [HW.out] at HS
        clear hB hb hb2 d0 htab'
        go_wp2
        go_roundw
        case rel => exact ⟨k + 1, by omega, by go_num, HS, by (repeat (first | assumption | exact Below.refl _ _ | (refine bl_alloc ?_ _) | (refine Below.drew ?_) | (refine bl_drewN ?_ _) | (refine bl_set ?_ (by first | (simp; done) | omega | (simp; omega)) _) | (refine bl_trans ?_ (by assumption)) | (refine bl_step ?_ (by assumption) (by first | omega | exact Below.size (by assumption) | (simp; omega) | (simp; exact Below.size (by assumption))))))⟩
        case measure => simp [intOf]; omega
      · obtain rfl : k = ns.length := by omega
        rw [← hWl] at hB
        have cJ := hB.join ns.length hWl (by omega) hl (fun i hi' => Nat.le_trans (wrds_len hi i hi') (by omega))
        go_wp2_with fail
        refine cJ.mono ?_
        rintro e w2 ⟨rfl, hb2⟩
        have b2 := bl_trans hb hb2
        go_wp2
        go_ret
        exact ⟨by rw [F.out]; rfl, b2⟩
end Go.Proofs.YtiadoekhhmcokaaDoor
