/-
  Contracts: the drawn rows and numbers of the laws over rivers.
-/
import Derived.Test.YtdpamieheefhdaaSrc
import Derived.Test.YtdpamieheefhdaaOwnI
namespace Go.Proofs.Ytdpamieheefhdaa
set_option linter.unusedSimpArgs false
set_option linter.unusedVariables false
open Go.ChangeShapes Go.WideShapes Go.ChangeAt Go.RowKit

theorem Only.below_ {g B : Nat} {a w w' : World} (h : Only g w w') (hb : Below B a w) (hB : B ≤ g) : Below B a w' := h.below hb hB
theorem OwnI.only {g : Nat} {w w1 : World} {base : Nat} {v : Value} {L : List Int} (h : OwnI w base v L) (ho : Only g w w1) (hg : g < base) : OwnI w1 base v L :=
  World.ownsRow.kept (row := some g) h ⟨ho.1, ho.2.1, ho.2.2.1, by rw [ho.2.2.2.1]; exact Nat.le_refl _, fun i hi hne => ho.2.2.2.2 i (fun e => hne (by rw [e]))⟩ (by
    rcases h.2 with ⟨rfl, _⟩ | ⟨g', cap, cur, rfl, hB, _⟩
    · exact .inl rfl
    · exact .inr (by simp [Value.ownBlock]; omega))
theorem Src.keepB {w w1 : World} {g c k B : Nat} {A : Option Addr} {cs : List Int} (h : Src w g A cs c k) (hb : Below B w w1) (hg : g < B) : Src w1 g A cs c k := by
  obtain ⟨sd, h, hs⟩ := h
  exact ⟨sd, (hb.block g hg).trans h, hs⟩

/-- The numbers drawn so far rise, and lie below x. -/
def RowTo (L : List Int) (x : Int) : Prop := 0 ≤ x ∧ (∀ i, i < L.length → 0 ≤ L.getD i 0 ∧ L.getD i 0 < x) ∧ ∀ i, i + 1 < L.length → L.getD i 0 < L.getD (i + 1) 0
theorem RowTo.nil {x : Int} (h : 0 ≤ x) : RowTo [] x := ⟨h, fun i hi => by simp at hi, fun i hi => by simp at hi⟩
theorem getD_snoc_lt {L : List Int} {x : Int} {i : Nat} (h : i < L.length) : (L ++ [x]).getD i 0 = L.getD i 0 := by
  simp [List.getD_eq_getElem?_getD, List.getElem?_append_left h]
theorem getD_snoc_eq {L : List Int} {x : Int} : (L ++ [x]).getD L.length 0 = x := by simp [List.getD_eq_getElem?_getD]
theorem RowTo.snoc {L : List Int} {x y : Int} (h : RowTo L x) (hy : x < y) : RowTo (L ++ [x]) y := by
  obtain ⟨h0, h1, h2⟩ := h
  refine ⟨by omega, fun i hi => ?_, fun i hi => ?_⟩
  · simp at hi
    by_cases e : i = L.length
    · subst e; rw [getD_snoc_eq]; exact ⟨h0, hy⟩
    · rw [getD_snoc_lt (by omega)]
      have := h1 i (by omega)
      omega
  · simp at hi
    rw [getD_snoc_lt (by omega)]
    by_cases e : i + 1 = L.length
    · rw [e, getD_snoc_eq]; exact (h1 i (by omega)).2
    · rw [getD_snoc_lt (by omega)]; exact h2 i (by omega)
theorem RowTo.rises {L : List Int} {x : Int} (h : RowTo L x) (hx : x ≤ 100) : rises L 0 99 = true := by
  obtain ⟨_, h1, h2⟩ := h
  have : ∀ k, k ≤ L.length → riseTo L 0 99 k = true := by
    intro k
    induction k with
    | zero => intro _; rfl
    | succ k ih =>
      intro hk
      unfold riseTo
      rw [ih (by omega)]
      have a := h1 k (by omega)
      have e1 : inB (L.getD k 0) 0 99 = true := inB_t a.1 (by omega)
      unfold riseAt
      rw [e1]
      by_cases e : k = 0
      · simp [e]
      · have b := h2 (k - 1) (by omega)
        rw [show k - 1 + 1 = k by omega] at b
        rw [decide_eq_true b]; simp
  exact this _ (Nat.le_refl _)

/-- A slice of the call's own that is a row of n places. -/
def RowPost (n : Nat) (w : World) (e : Ending) (w' : World) : Prop :=
  ∃ A L c, e = .returned (.slice A n c) ∧ L.length = n ∧ rises L 0 99 = true ∧ IntsAt w' w'.heap.size A L ∧ n ≤ c ∧ Below w.heap.size w w'

set_option maxRecDepth 100000 in
set_option maxHeartbeats 1600000 in
theorem R8Row_any (A : Option Addr) (cs : List Int) (c n : Nat) (w : World) (hp : NumsAt .u8 w w.heap.size A cs) (hw : ∀ n ∈ cs, (Lit.int .u8 n).wf = true) (hl : cs.length ≤ 1048576) (hn : n ≤ 7) :
    Calls Try.prog 10 #[.slice A cs.length c, .int .i64 (n : Int)] w (RowPost n w) := by
  have hnI : (n : Int) ≤ 7 := by omega
  go_enter Try.func10, Try.ntmps10
  go_wp2_with fail
  refine (from_any _ _ _ _).mono ?_
  rintro e w1 ⟨rfl, hS1, hb1, hz1⟩
  have hS2 : Src (w1.alloc (.cells #[] 2)) w.heap.size A cs c 0 := hS1.to ((Below.refl _ _).alloc (Nat.le_refl _) _)
  have hb2 : Below w.heap.size w (w1.alloc (.cells #[] 2)) := by (repeat (first | assumption | exact Below.refl _ _ | (refine bl_alloc ?_ _) | (refine Below.drew ?_) | (refine bl_drewN ?_ _) | (refine bl_set ?_ (by first | (simp; done) | omega | (simp; omega)) _) | (refine bl_trans ?_ (by assumption)) | (refine bl_step ?_ (by assumption) (by first | omega | exact Below.size (by assumption) | (simp; omega) | (simp; exact Below.size (by assumption))))))
  have ho2 : OwnI (w1.alloc (.cells #[] 2)) (w.heap.size + 1) (.slice (some ⟨w1.heap.size, 0, none⟩) 0 0) [] := OwnI.empty _ _ (by omega)
  have hz2 : w.heap.size < (w1.alloc (.cells #[] 2)).heap.size := by simp; omega
  clear hS1 hb1 hz1
  go_wp2_with fail
  refine (pick_any _ _ _ w.heap.size _ _ _ _ hS2 (hp.keepB hb2) (Nat.le_refl _) hw hl (by omega) (by omega) (by omega)).mono ?_
  rintro e w3 ⟨x0, ⟨y0, y1⟩, rfl, hS3, hO3⟩
  have hb3 : Below w.heap.size w w3 := hO3.below hb2 (Nat.le_refl _)
  have ho3 := ho2.only hO3 (by omega)
  have hz3 : w.heap.size < w3.heap.size := by rw [hO3.2.2.2.1]; exact hz2
  clear hS2 hO3 hb2 ho2 hz2
  go_wp2_with fail
  go_loopw [6, 7, 8] (fun v x i wr => ∃ (k : Nat) (L : List Int) (X : Int), k ≤ n ∧ i = .int .i64 k ∧ x = .int .i64 X ∧ Hid (L.length = k) ∧ OwnI wr (w.heap.size + 1) v L ∧ Hid (RowTo L X) ∧ 0 ≤ X ∧ X ≤ 4 + 4 * (k : Int) ∧ Src wr w.heap.size A cs c (k + 1) ∧ Below w.heap.size w wr ∧ w.heap.size < wr.heap.size) (fun _ _ i _ => n - (intOf i).toNat)
  case atStart => exact ⟨0, [], x0, Nat.zero_le _, rfl, rfl, rfl, ho3, RowTo.nil y0, y0, by omega, hS3, hb3, hz3⟩
  case round =>
    clear hS3 hb3 ho3 hz3
    obtain ⟨k, L, X, hk, rfl, rfl, HL, hown, HR, hX0, hX1, hS, hb, hz⟩ := hrel
    have hk0 : 0 ≤ (k : Int) := by omega
    by_cases hlt : k < n
    · have hltI : (k : Int) < (n : Int) := by omega
      have hLl : L.length ≤ 1000000 := by rw [HL.out]; omega
      go_wp2_with (at_builtin; refine append_int rfl (.tmp 19) (.tmp 21) rfl wr (w.heap.size + 1) _ _ X rfl hown _ rfl rfl hLl (by omega) ?_; intro v6 w6 hown6 hbel6; refine Hid.out ?_)
      have hb6 : Below (w.heap.size + 1) wr w6 := hbel6 _ (Below.refl _ _)
      have hbb6 : Below w.heap.size w w6 := bl_step hb (hb6.mono (by omega)) (Nat.le_refl _)
      have hS6 := hS.keepB hb6 (by omega)
      have hz6 : w.heap.size < w6.heap.size := Nat.lt_of_lt_of_le hz hb6.size
      clear hbel6 hb6 hS hb hz hown
      refine Lib.hid ?_
      go_wp2_with fail
      refine (pick_any _ _ _ w.heap.size _ _ _ _ hS6 (hp.keepB hbb6) (Nat.le_refl _) hw hl (by omega) (by omega) (by omega)).mono ?_
      rintro e w7 ⟨p, ⟨p0, p1⟩, rfl, hS7, hO7⟩
      have hb7 : Below w.heap.size w w7 := hO7.below hbb6 (Nat.le_refl _)
      have ho7 := hown6.only hO7 (by omega)
      have hz7 : w.heap.size < w7.heap.size := by rw [hO7.2.2.2.1]; exact hz6
      clear hS6 hO7 hbb6 hown6 hz6
      go_wp2
      go_roundw
      case rel => exact ⟨k + 1, L ++ [X], X + (1 + p), by omega, by go_num, rfl, by show _ = _; rw [List.length_append, HL.out]; rfl, ho7, HR.out.snoc (by omega), by omega, by omega, hS7, hb7, hz7⟩
      case measure => simp [intOf]; omega
    · obtain rfl : k = n := by omega
      obtain ⟨A1, c1, rfl, hI, hc1⟩ := hown.ints
      go_wp2
      go_ret
      exact ⟨A1, L, c1, by first | rfl | (rw [HL.out]; rfl), HL.out, HR.out.rises (by omega), hI, by rw [← HL.out]; exact hc1, hb⟩

/-- A number below m that an input chooses. -/
def AtPost (m : Int) (w : World) (e : Ending) (w' : World) : Prop := ∃ x : Int, (0 ≤ x ∧ x < m) ∧ e = .returned (.int .i64 x) ∧ Below w.heap.size w w'
theorem r8At_any (A : Option Addr) (cs : List Int) (c : Nat) (k : Nat) (m : Int) (w : World) (hp : NumsAt .u8 w w.heap.size A cs) (hw : ∀ n ∈ cs, (Lit.int .u8 n).wf = true) (hl : cs.length ≤ 1048576) (hm : 1 < m) (hk : k ≤ 1000) :
    Calls Try.prog 9 #[.slice A cs.length c, .int .i64 (k : Int), .int .i64 m] w (AtPost m w) := by
  have h1 : ¬ m ≤ 1 := by omega
  have h1d : decide (m ≤ 1) = false := decide_eq_false h1
  have h3 : m ≠ 0 := by omega
  have hk0 : 0 ≤ (k : Int) := by omega
  have hlI : (cs.length : Int) ≤ 1048576 := by omega
  by_cases hlt : k < cs.length
  · obtain ⟨b, off, rfl, hbB, hc⟩ := hp (by omega)
    have d0 := hc k hlt
    obtain ⟨x0, x1⟩ := bounds_u8 (hw (cs.getD k 0) (by simp [List.getD_eq_getElem?_getD, hlt]))
    have hltI : (k : Int) < (cs.length : Int) := by omega
    have hd : ¬ (cs.length : Int) ≤ (k : Int) := by omega
    have hd2 : decide (cs.length ≤ k) = false := decide_eq_false (by omega)
    generalize cs.getD k 0 = x at *
    clear hc hp hw
    go_enter Try.func9, Try.ntmps9
    go_wp2
    go_ret
    have e : x.tmod m = x % m := Int.tmod_eq_emod_of_nonneg x0
    have r0 : 0 ≤ x % m := Int.emod_nonneg _ h3
    have r1 : x % m < m := Int.emod_lt_of_pos _ (by omega)
    refine ⟨x % m, ⟨r0, r1⟩, ?_, by (repeat (first | assumption | exact Below.refl _ _ | (refine bl_alloc ?_ _) | (refine Below.drew ?_) | (refine bl_drewN ?_ _) | (refine bl_set ?_ (by first | (simp; done) | omega | (simp; omega)) _) | (refine bl_trans ?_ (by assumption)) | (refine bl_step ?_ (by assumption) (by first | omega | exact Below.size (by assumption) | (simp; omega) | (simp; exact Below.size (by assumption))))))⟩
    try rw [← e]
    try rfl
  · have hd : (cs.length : Int) ≤ (k : Int) := by omega
    have hd2 : decide (cs.length ≤ k) = true := decide_eq_true (by omega)
    go_enter Try.func9, Try.ntmps9
    go_wp2
    go_ret
    exact ⟨0, ⟨by omega, by omega⟩, rfl, by (repeat (first | assumption | exact Below.refl _ _ | (refine bl_alloc ?_ _) | (refine Below.drew ?_) | (refine bl_drewN ?_ _) | (refine bl_set ?_ (by first | (simp; done) | omega | (simp; omega)) _) | (refine bl_trans ?_ (by assumption)) | (refine bl_step ?_ (by assumption) (by first | omega | exact Below.size (by assumption) | (simp; omega) | (simp; exact Below.size (by assumption))))))⟩
def LongPost (n m : Nat) (w : World) (e : Ending) (w' : World) : Prop := e = .returned (.bool (decide (48 < n) || decide (48 < m))) ∧ w = w'
theorem r8Long_any (A A' : Option Addr) (n m c c' : Nat) (w : World) :
    Calls Try.prog 8 #[.slice A n c, .slice A' m c'] w (LongPost n m w) := by
  by_cases h1 : 48 < n
  · have hI : 48 < (n : Int) := by omega
    have H := Lib.hid h1
    clear h1
    go_enter Try.func8, Try.ntmps8
    go_wp2
    go_ret
    exact ⟨retB (by rw [decide_eq_true H.out]; rfl), rfl⟩
  · have hI : ¬ 48 < (n : Int) := by omega
    have hd : decide (48 < n) = false := decide_eq_false h1
    have H := Lib.hid hd
    clear h1
    by_cases h2 : 48 < m
    · have hJ : 48 < (m : Int) := by omega
      have H2 := Lib.hid h2
      clear h2
      go_enter Try.func8, Try.ntmps8
      go_wp2
      go_ret
      exact ⟨retB (by rw [H.out, decide_eq_true H2.out]; simp), rfl⟩
    · have hJ : ¬ 48 < (m : Int) := by omega
      have hd2 : decide (48 < m) = false := decide_eq_false h2
      have H2 := Lib.hid hd2
      clear h2
      go_enter Try.func8, Try.ntmps8
      go_wp2
      go_ret
      exact ⟨retB (by rw [H.out, H2.out]; simp), rfl⟩
end Go.Proofs.Ytdpamieheefhdaa
