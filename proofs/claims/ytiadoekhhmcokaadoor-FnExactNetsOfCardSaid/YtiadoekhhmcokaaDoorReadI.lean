/-
  Contracts: impl's isFormError, parseDecimal, ReadDecimal.
-/
import Derived.Test.YtiadoekhhmcokaaDoorReadS
import Derived.Test.YtiadoekhhmcokaaDoorAs
import Derived.Test.YtiadoekhhmcokaaDoorShP
import Derived.Test.YtiadoekhhmcokaaDoorDecimal
import Derived.Shelf.Strconv.ParseIntPublic10
namespace Go.Proofs.YtiadoekhhmcokaaDoor
set_option linter.unusedSimpArgs false
set_option linter.unusedVariables false
open Go.ChangeShapes Go.WideShapes Go.ChangeAt Go.RowKit

/-- package errors' type of errors, as a variable. -/
def TypeLaid (w : World) : Prop := w.cell? ⟨0, 0, none⟩ = some (.iface 186 (.agg #[.pointer (some ⟨7, 62, none⟩)]))

theorem isForm_nil (w : World) :
    Calls Tryd.prog 55 #[.nilIface] w fun e w' => e = .returned (.bool false) ∧ Below w.heap.size w w' := by
  go_enter Tryd.func55, Tryd.ntmps55
  go_wp2_with (go_at_call 94; refine (as_nil _ _).mono ?_; rintro e w' ⟨rfl, rfl⟩)
  go_ret
  exact ⟨rfl, by (repeat (first | assumption | exact Below.refl _ _ | (refine bl_alloc ?_ _) | (refine Below.drew ?_) | (refine bl_drewN ?_ _) | (refine bl_set ?_ (by first | (simp; done) | omega | (simp; omega)) _) | (refine bl_trans ?_ (by assumption)) | (refine bl_step ?_ (by assumption) (by first | omega | exact Below.size (by assumption) | (simp; omega) | (simp; exact Below.size (by assumption))))))⟩

set_option maxHeartbeats 800000 in
theorem isForm_hit (e : Addr) (w : World) (hg : TypeLaid w) :
    Calls Tryd.prog 55 #[.iface 125 (.pointer (some e))] w fun e w' => e = .returned (.bool true) ∧ Below w.heap.size w w' := by
  unfold TypeLaid at hg
  have h0 : 0 < w.heap.size := by
    rcases Nat.eq_zero_or_pos w.heap.size with h0 | h
    · simp [World.cell?, h0] at hg
    · exact h
  have hc := as_hit e ⟨w.heap.size, 0, none⟩ (.pointer none) (w.alloc (.cells #[.pointer none] 125)) (by rw [World.cell?_alloc_lt _ _ ⟨0, 0, none⟩ h0]; exact hg) (by simp) (by simp)
  go_enter Tryd.func55, Tryd.ntmps55
  go_wp2_with (go_at_call 94; refine hc.mono ?_; rintro e w' ⟨rfl, rfl⟩)
  go_ret
  exact ⟨rfl, by (repeat (first | assumption | exact Below.refl _ _ | (refine bl_alloc ?_ _) | (refine Below.drew ?_) | (refine bl_drewN ?_ _) | (refine bl_set ?_ (by first | (simp; done) | omega | (simp; omega)) _) | (refine bl_trans ?_ (by assumption)) | (refine bl_step ?_ (by assumption) (by first | omega | exact Below.size (by assumption) | (simp; omega) | (simp; exact Below.size (by assumption))))))⟩

/-- What the walk of parseDecimal needs of the world: strconv's tables and errors, package errors' type. -/
structure ParseLaid (w : World) : Prop where
  tab : Lib.TabIs Tryd.prog w "internal/strconv.uint64pow10" .u64 Lib.pow10Tab
  ty : TypeLaid w
  syn : ∃ te pe, w.cell? ⟨4, 0, none⟩ = some (.iface te pe)
  rng : ∃ te pe, w.cell? ⟨5, 0, none⟩ = some (.iface te pe)
theorem cell_lt {w : World} {a : Addr} {v : Value} (h : w.cell? a = some v) : a.block < w.heap.size := by
  rcases Nat.lt_or_ge a.block w.heap.size with h' | h'
  · exact h'
  · simp [World.cell?, Array.getElem?_eq_none h'] at h
theorem ParseLaid.stays {w w1 : World} {B : Nat} (h : ParseLaid w) (hb : Below B w w1) (hB : w.heap.size ≤ B) : ParseLaid w1 := by
  obtain ⟨h1, h2, ⟨a, b, h3⟩, ⟨c, d, h4⟩⟩ := h
  exact ⟨Go.Joins.tab_stays fnExactDecimal.gPow h1 hb hB, (hb.cell (Nat.lt_of_lt_of_le (cell_lt h2) hB)).trans h2, ⟨a, b, (hb.cell (Nat.lt_of_lt_of_le (cell_lt h3) hB)).trans h3⟩, ⟨c, d, (hb.cell (Nat.lt_of_lt_of_le (cell_lt h4) hB)).trans h4⟩⟩

/-- strconv.ParseInt at every text: what it answers is of three kinds. -/
def PEnd (s : ByteArray) (e : Ending) : Prop := (∃ v, Lib.parseIntB 64 s.data.toList = .ok v ∧ e = .returned (.tuple #[.int .i64 v, .nilIface])) ∨ (∃ v te N, (∀ u, Lib.parseIntB 64 s.data.toList ≠ .ok u) ∧ e = .returned (.tuple #[.int .i64 v, .iface te (.pointer (some N))]))
theorem parseInt_any (s : ByteArray) (w : World) (hs : s.size ≤ 1048576) (hl : ParseLaid w) :
    Calls Tryd.prog 116 #[.string s, .int .i64 10, .int .i64 64] w fun e w' => PEnd s e ∧ Below w.heap.size w w' := by
  obtain ⟨_, _, ⟨a, b, h3⟩, ⟨c, d, h4⟩⟩ := hl
  cases hp : Lib.parseIntB 64 s.data.toList with
  | ok v =>
    refine (Any.strconv_ParseInt_10_at64_ok Tryd.laysC174 s (by omega) v hp w).mono fun e w' ⟨he, hw⟩ => ⟨.inl ⟨v, hp, he⟩, ?_⟩
    rcases hw with rfl | ⟨t, rfl⟩
    · exact Below.refl _ _
    · exact Go.Joins.below_bytesWorld _ _ _ _ (Nat.le_refl _)
  | «syntax» =>
    exact (Any.strconv_ParseInt_10_at64_syntax Tryd.laysC174 s (by omega) hp _ w h3 (.inr ⟨a, b, rfl⟩)).mono fun e w' ⟨N, he, _, _, hb⟩ => ⟨.inr ⟨_, _, _, (by rw [hp]; intro u h; cases h), he⟩, hb⟩
  | range =>
    exact (Any.strconv_ParseInt_10_at64_range Tryd.laysC174 s (by omega) hp _ w h4 (.inr ⟨c, d, rfl⟩)).mono fun e w' ⟨N, he, _, _, hb⟩ => ⟨.inr ⟨_, _, _, (by rw [hp]; intro u h; cases h), he⟩, hb⟩

theorem num_dec {s : ByteArray} {m : Int} (h : IsNum s m) (w : World) (hl : ParseLaid w) :
    Calls Tryd.prog 85 #[.int .i64 m] w fun e w' => e = .returned (.string s) ∧ Below w.heap.size w w' := by
  have hd := fnExactDecimal.decI_any m w (by have := h.1; omega) (by have := h.2.1; omega) hl.tab
  rw [(num_facts h).2.2.1] at hd
  exact hd

set_option maxHeartbeats 800000 in
theorem parse_num (s : ByteArray) (m : Int) (w : World) (hs : s.size ≤ 1048576) (h : IsNum s m) (hl : ParseLaid w) :
    Calls Tryd.prog 92 #[.string s] w fun e w' => e = .returned (.tuple #[.int .i64 m, .nilIface]) ∧ Below w.heap.size w w' := by
  have HI : Hid (itmB m = true) := by show _ = _; unfold itmB inB; have := h.1; have := h.2.1; simp; omega
  have hpar : Lib.parseIntB 64 s.data.toList = .ok m := by rw [h.2.2]; exact itoa_parse m h.1 h.2.1
  have hp : Calls Tryd.prog 116 #[.string s, .int .i64 10, .int .i64 64] w fun e w' => e = .returned (.tuple #[.int .i64 m, .nilIface]) ∧ Below w.heap.size w w' := by
    refine (parseInt_any s w hs hl).mono fun e w' ⟨he, hb⟩ => ⟨?_, hb⟩
    rcases he with ⟨v, hv, he⟩ | ⟨v, te, N, hv, he⟩
    · rw [hpar] at hv; cases hv; exact he
    · exact absurd hpar (hv m)
  go_enter Tryd.func92, Tryd.ntmps92
  go_wp2_with (first
    | (go_at_call 116; refine hp.mono ?_; rintro e w' ⟨rfl, hb⟩)
    | (go_at_call 117; refine (isItem_is HI _).mono ?_; rintro e w' ⟨rfl, rfl⟩)
    | (go_at_call 85; refine (num_dec h _ (hl.stays hb (Nat.le_refl _))).mono ?_; rintro e w'' ⟨rfl, hb2⟩))
  go_ret2
  exact ⟨rfl, by (repeat (first | assumption | exact Below.refl _ _ | (refine bl_alloc ?_ _) | (refine Below.drew ?_) | (refine bl_drewN ?_ _) | (refine bl_set ?_ (by first | (simp; done) | omega | (simp; omega)) _) | (refine bl_trans ?_ (by assumption)) | (refine bl_step ?_ (by assumption) (by first | omega | exact Below.size (by assumption) | (simp; omega) | (simp; exact Below.size (by assumption))))))⟩

/-- A new formError. -/
def NewForm (e : Ending) : Prop := ∃ a : Addr, e = .returned (.tuple #[.int .i64 0, .iface 125 (.pointer (some a))])
theorem newForm {a : Addr} : NewForm (.returned (.tuple #[.int .i64 0, .iface 125 (.pointer (some a))])) := ⟨a, rfl⟩

set_option maxHeartbeats 800000 in
theorem parse_bad (s : ByteArray) (w : World) (hs : s.size ≤ 1048576) (h : ∀ m, ¬ IsNum s m) (hl : ParseLaid w) :
    Calls Tryd.prog 92 #[.string s] w fun e w' => NewForm e ∧ Below w.heap.size w w' := by
  have hp := parseInt_any s w hs hl
  by_cases hok : ∃ v, Lib.parseIntB 64 s.data.toList = .ok v
  · obtain ⟨v, hv⟩ := hok
    obtain ⟨v1, v2⟩ := Lib.parseIntB_bounds hv
    have h64 : ((2 ^ (64 - 1) : Nat) : Int) = 9223372036854775808 := by decide
    rw [h64] at v1 v2
    replace hp : Calls Tryd.prog 116 #[.string s, .int .i64 10, .int .i64 64] w fun e w' => e = .returned (.tuple #[.int .i64 v, .nilIface]) ∧ Below w.heap.size w w' := by
      refine hp.mono fun e w' ⟨he, hb⟩ => ⟨?_, hb⟩
      rcases he with ⟨u, hu, he⟩ | ⟨u, te, N, hu, he⟩
      · rw [hv] at hu; cases hu; exact he
      · exact absurd hv (hu v)
    have hbad := bad_of_none h v
    cases hi : itmB v
    · have HI := Lib.hid hi
      go_enter Tryd.func92, Tryd.ntmps92
      go_wp2_with (first
        | (go_at_call 116; refine hp.mono ?_; rintro e w' ⟨rfl, hb⟩)
        | (go_at_call 117; refine (isItem_is HI _).mono ?_; rintro e w' ⟨rfl, rfl⟩))
      go_ret2
      exact ⟨newForm, by (repeat (first | assumption | exact Below.refl _ _ | (refine bl_alloc ?_ _) | (refine Below.drew ?_) | (refine bl_drewN ?_ _) | (refine bl_set ?_ (by first | (simp; done) | omega | (simp; omega)) _) | (refine bl_trans ?_ (by assumption)) | (refine bl_step ?_ (by assumption) (by first | omega | exact Below.size (by assumption) | (simp; omega) | (simp; exact Below.size (by assumption))))))⟩
    · have HI := Lib.hid hi
      rw [hi, Bool.true_and] at hbad
      have hne := tx_ne (of_decide_eq_false hbad)
      have hd := fun (w1 : World) (hb : Below w.heap.size w w1) => fnExactDecimal.decI_any v w1 (by omega) (by omega) (hl.stays hb (Nat.le_refl _)).tab
      generalize (⟨(Lib.itoa v).toArray⟩ : ByteArray) = tx at *
      go_enter Tryd.func92, Tryd.ntmps92
      go_wp2_with (first
        | (go_at_call 116; refine hp.mono ?_; rintro e w' ⟨rfl, hb⟩)
        | (go_at_call 117; refine (isItem_is HI _).mono ?_; rintro e w' ⟨rfl, rfl⟩)
        | (go_at_call 85; refine (hd _ hb).mono ?_; rintro e w'' ⟨rfl, hb2⟩))
      go_ret2
      exact ⟨newForm, by (repeat (first | assumption | exact Below.refl _ _ | (refine bl_alloc ?_ _) | (refine Below.drew ?_) | (refine bl_drewN ?_ _) | (refine bl_set ?_ (by first | (simp; done) | omega | (simp; omega)) _) | (refine bl_trans ?_ (by assumption)) | (refine bl_step ?_ (by assumption) (by first | omega | exact Below.size (by assumption) | (simp; omega) | (simp; exact Below.size (by assumption))))))⟩
  · replace hp : Calls Tryd.prog 116 #[.string s, .int .i64 10, .int .i64 64] w fun e w' => (∃ v te N, e = .returned (.tuple #[.int .i64 v, .iface te (.pointer (some N))])) ∧ Below w.heap.size w w' := by
      refine hp.mono fun e w' ⟨he, hb⟩ => ⟨?_, hb⟩
      rcases he with ⟨u, hu, he⟩ | ⟨u, te, N, hu, he⟩
      · exact absurd ⟨u, hu⟩ hok
      · exact ⟨u, te, N, he⟩
    go_enter Tryd.func92, Tryd.ntmps92
    go_wp2_with (go_at_call 116; refine hp.mono ?_; rintro e w' ⟨⟨v, te, N, rfl⟩, hb⟩)
    go_ret2
    exact ⟨newForm, by (repeat (first | assumption | exact Below.refl _ _ | (refine bl_alloc ?_ _) | (refine Below.drew ?_) | (refine bl_drewN ?_ _) | (refine bl_set ?_ (by first | (simp; done) | omega | (simp; omega)) _) | (refine bl_trans ?_ (by assumption)) | (refine bl_step ?_ (by assumption) (by first | omega | exact Below.size (by assumption) | (simp; omega) | (simp; exact Below.size (by assumption))))))⟩

end Go.Proofs.YtiadoekhhmcokaaDoor
