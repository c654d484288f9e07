/-
  Contracts: the density of a column.
-/
import Derived.Test.YtiadoekhhmcokaaDoorNets
import Derived.Test.YtiadoekhhmcokaaDoorEach
import Derived.Test.YtiadoekhhmcokaaDoorMarkI
import Derived.Stop.RegionWithIn
namespace Go.Proofs.YtiadoekhhmcokaaDoor
set_option linter.unusedSimpArgs false
set_option linter.unusedVariables false
open Go.ChangeShapes Go.WideShapes Go.ChangeAt Go.RowKit Go.Shelf

/-- Has the net's span the column? -/
def densB (T B : List Int) (n : Nat) (col : Int) (k : Nat) : Bool := inB col (loTo (hasP T B (k : Int)) n) (hiTo (hasP T B (k : Int)) n)
/-- How many nets of a list do. -/
def densN (T B : List Int) (n : Nat) (col : Int) (xs : List Nat) : Nat := (xs.filter (densB T B n col)).length
theorem densN_t {T B : List Int} {n : Nat} {col : Int} {xs : List Nat} {j k : Nat} (hx : xs[j]? = some k) (h : densB T B n col k = true) : densN T B n col (xs.take (j + 1)) = densN T B n col (xs.take j) + 1 := by
  unfold densN; rw [List.take_add_one, hx, List.filter_append]; simp [h]
theorem densN_f {T B : List Int} {n : Nat} {col : Int} {xs : List Nat} {j k : Nat} (hx : xs[j]? = some k) (h : densB T B n col k = false) : densN T B n col (xs.take (j + 1)) = densN T B n col (xs.take j) := by
  unfold densN; rw [List.take_add_one, hx, List.filter_append]; simp [h]
theorem densN_le (T B : List Int) (n : Nat) (col : Int) (xs : List Nat) : densN T B n col xs ≤ xs.length := List.length_filter_le _ _
theorem netsL_len (T B : List Int) (n : Nat) : (netsL T B n).length ≤ 13 := memL_len _ _ _

set_option maxRecDepth 100000 in
set_option maxHeartbeats 800000 in
theorem l03Density_any (b : Nat) (A A' : Option Addr) (T B : List Int) (n n' c c' : Nat) (col : Int) (w : World) (hb : ChAt w b A A' n n' c c') (hp : IntsAt w w.heap.size A T) (hq : IntsAt w w.heap.size A' B) (HT : Hid (T.length = n)) (HB : Hid (B.length = n')) (hn : n ≤ 24) (HN : Hid (n' = n)) :
    Calls Tryd.prog 68 #[.pointer (some ⟨b, 0, none⟩), .int .i64 col] w fun e w' => e = .returned (.int .i64 (densN T B n col (netsL T B n))) ∧ Below w.heap.size w w' := by
  go_enter Tryd.func68, Tryd.ntmps68
  go_wp2_with fail
  refine (l03Nets_any b A A' T B n n' c c' _ hb hp hq HT HB hn HN).mono ?_
  rintro e w1 ⟨⟨v, rfl, hown⟩, hb1⟩
  obtain ⟨A1, c1, rfl, h4⟩ := own4_of hown
  have hin := h4.ints
  have hlen := natI_len (netsL T B n)
  have h13 := netsL_len T B n
  rw [hlen]
  have hb' := hb.to hb1
  have hp' := hp.to hb1
  have hq' := hq.to hb1
  obtain ⟨xs, hxs⟩ : ∃ xs, netsL T B n = xs := ⟨_, rfl⟩
  have HXS := Lib.hid hxs
  rw [hxs] at hin hlen h13 ⊢
  clear hown h4 hxs hb hp hq
  go_wp2
  go_loop [5, 7, 8, 9, 10] (fun d i _ _ _ => ∃ j : Nat, j ≤ xs.length ∧ i = .int .i64 j ∧ d = .int .i64 (densN T B n col (xs.take j))) (fun _ i _ _ _ => xs.length - (intOf i).toNat)
  case atStart => exact ⟨0, Nat.zero_le _, rfl, rfl⟩
  case round =>
    obtain ⟨j, hj, rfl, rfl⟩ := hrel
    by_cases hlt : j < xs.length
    · obtain ⟨k, hk⟩ : ∃ k, xs[j]? = some k := ⟨xs[j], List.getElem?_eq_getElem hlt⟩
      obtain ⟨b2, o2, rfl, z2, k2⟩ := hin (by rw [hlen]; omega)
      have d2 := k2 j (by rw [hlen]; exact hlt)
      rw [natI_at hk] at d2
      have hltI : (j : Int) < xs.length := by omega
      have hj0 : (0 : Int) ≤ j := by omega
      have hsp := l03Span_any b A A' T B n n' c c' (k : Int) w1 hb' hp' hq' HT HB hn HN.out
      have hdn := densN_le T B n col (xs.take j)
      rw [List.length_take] at hdn
      cases hd : densB T B n col k
      · have HD := Lib.hid (densN_f hk hd)
        have HI : Hid (inB col (loTo (hasP T B (k : Int)) n) (hiTo (hasP T B (k : Int)) n) = false) := hd
        generalize loTo (hasP T B (k : Int)) n = lo at *
        generalize hiTo (hasP T B (k : Int)) n = hi at *
        clear k2 hin hd hk
        go_wp2_with (first
          | (go_at_call 65; refine hsp.mono ?_; rintro e w2 ⟨rfl, rfl⟩)
          | (go_at_call 64; refine (l00In_at HI _).mono ?_; rintro e w2 ⟨rfl, rfl⟩))
        go_round
        case rel => exact ⟨j + 1, by omega, by go_num, by rw [HD.out]⟩
        case measure => simp [intOf]; omega
      · have HD := Lib.hid (densN_t hk hd)
        have HI : Hid (inB col (loTo (hasP T B (k : Int)) n) (hiTo (hasP T B (k : Int)) n) = true) := hd
        generalize loTo (hasP T B (k : Int)) n = lo at *
        generalize hiTo (hasP T B (k : Int)) n = hi at *
        clear k2 hin hd hk
        go_wp2_with (first
          | (go_at_call 65; refine hsp.mono ?_; rintro e w2 ⟨rfl, rfl⟩)
          | (go_at_call 64; refine (l00In_at HI _).mono ?_; rintro e w2 ⟨rfl, rfl⟩))
        go_round
        case rel => exact ⟨j + 1, by omega, by go_num, by rw [HD.out]; go_num⟩
        case measure => simp [intOf]; omega
    · obtain rfl : j = xs.length := by omega
      rw [List.take_length]
      go_wp2
      go_ret
      exact ⟨by rw [HXS.out]; rfl, hb1⟩

theorem has_any (lo hi col : Int) (b : Bool) (HI : Hid (inB col lo hi = b)) (w : World) :
    Calls Tryd.prog 102 #[.agg #[.int .i64 lo, .int .i64 hi], .int .i64 col] w fun e w' => e = .returned (.bool b) ∧ Below w.heap.size w w' := by
  by_cases h1 : lo ≤ col
  · by_cases h2 : col ≤ hi
    · have hb : b = true := by rw [← HI.out]; exact inB_t h1 h2
      subst hb
      have hd : decide (lo ≤ col) = true := decide_eq_true h1
      have hd2 : decide (col ≤ hi) = true := decide_eq_true h2
      go_enter Tryd.func102, Tryd.ntmps102
      go_wp2
      go_ret
      exact ⟨rfl, by (repeat (first | assumption | exact Below.refl _ _ | (refine bl_alloc ?_ _) | (refine Below.drew ?_) | (refine bl_drewN ?_ _) | (refine bl_set ?_ (by first | (simp; done) | omega | (simp; omega)) _) | (refine bl_trans ?_ (by assumption)) | (refine bl_step ?_ (by assumption) (by first | omega | exact Below.size (by assumption) | (simp; omega) | (simp; exact Below.size (by assumption))))))⟩
    · have hb : b = false := by rw [← HI.out]; exact inB_f (by omega)
      subst hb
      have hd : decide (lo ≤ col) = true := decide_eq_true h1
      have hd2 : decide (col ≤ hi) = false := decide_eq_false h2
      go_enter Tryd.func102, Tryd.ntmps102
      go_wp2
      go_ret
      exact ⟨rfl, by (repeat (first | assumption | exact Below.refl _ _ | (refine bl_alloc ?_ _) | (refine Below.drew ?_) | (refine bl_drewN ?_ _) | (refine bl_set ?_ (by first | (simp; done) | omega | (simp; omega)) _) | (refine bl_trans ?_ (by assumption)) | (refine bl_step ?_ (by assumption) (by first | omega | exact Below.size (by assumption) | (simp; omega) | (simp; exact Below.size (by assumption))))))⟩
  · have hb : b = false := by rw [← HI.out]; exact inB_f (by omega)
    subst hb
    have hd : decide (lo ≤ col) = false := decide_eq_false h1
    go_enter Tryd.func102, Tryd.ntmps102
    go_wp2
    go_ret
    exact ⟨rfl, by (repeat (first | assumption | exact Below.refl _ _ | (refine bl_alloc ?_ _) | (refine Below.drew ?_) | (refine bl_drewN ?_ _) | (refine bl_set ?_ (by first | (simp; done) | omega | (simp; omega)) _) | (refine bl_trans ?_ (by assumption)) | (refine bl_step ?_ (by assumption) (by first | omega | exact Below.size (by assumption) | (simp; omega) | (simp; exact Below.size (by assumption))))))⟩

attribute [local go_sem] Oper.semAt_some
/-- What the loop over the nets holds. -/
def DCells (N : Nat) (V C : Value) (f : Nat → Int) (k : Nat) (W : World) : Prop :=
  W.cell? ⟨N, 0, none⟩ = some V ∧ W.cell? ⟨N + 1, 0, none⟩ = some C ∧ W.cell? ⟨N + 1 + 1, 0, none⟩ = some (.int .i64 (f k)) ∧ W.frozen? ⟨N + 1 + 1, 0, none⟩ = false
theorem DCells.own (N : Nat) (V C : Value) (f : Nat → Int) : Own (DCells N V C f) := fun s A B row hs hg hr =>
  ⟨cell_kept hs.1 hg hr, cell_kept hs.2.1 hg hr, cell_kept hs.2.2.1 hg hr, (frozen_kept hs.2.2.1 hg hr).trans hs.2.2.2⟩

theorem keepsFrom_below {B : Nat} {W W' : World} (h : Below W.heap.size W W') : KeepsFrom B W W' :=
  ⟨h.size, fun k o _ hk _ => (h.block k (Array.getElem?_eq_some_iff.1 hk).1).trans hk⟩
theorem new_cell (w : World) (v : Value) (t : TypeId) : (w.alloc (.cells #[v] t)).cell? ⟨w.heap.size, 0, none⟩ = some v := by simp
theorem new_frozen (w : World) (v : Value) (t : TypeId) : (w.alloc (.cells #[v] t)).frozen? ⟨w.heap.size, 0, none⟩ = false := by simp
theorem three_boxes (w : World) (V C D : Value) (s t u : TypeId) :
    (((w.alloc (.cells #[V] s)).alloc (.cells #[C] t)).alloc (.cells #[D] u)).cell? ⟨w.heap.size, 0, none⟩ = some V ∧
    (((w.alloc (.cells #[V] s)).alloc (.cells #[C] t)).alloc (.cells #[D] u)).cell? ⟨w.heap.size + 1, 0, none⟩ = some C ∧
    (((w.alloc (.cells #[V] s)).alloc (.cells #[C] t)).alloc (.cells #[D] u)).cell? ⟨w.heap.size + 1 + 1, 0, none⟩ = some D ∧
    (((w.alloc (.cells #[V] s)).alloc (.cells #[C] t)).alloc (.cells #[D] u)).frozen? ⟨w.heap.size + 1 + 1, 0, none⟩ = false := by
  have a0 := new_cell w V s
  have a1 := new_cell (w.alloc (.cells #[V] s)) C t
  have a2 := new_cell ((w.alloc (.cells #[V] s)).alloc (.cells #[C] t)) D u
  have a3 := new_frozen ((w.alloc (.cells #[V] s)).alloc (.cells #[C] t)) D u
  have b1 : Below (w.alloc (.cells #[V] s)).heap.size (w.alloc (.cells #[V] s)) ((w.alloc (.cells #[V] s)).alloc (.cells #[C] t)) := (Below.refl _ _).alloc (Nat.le_refl _) _
  have b2 : Below ((w.alloc (.cells #[V] s)).alloc (.cells #[C] t)).heap.size ((w.alloc (.cells #[V] s)).alloc (.cells #[C] t)) (((w.alloc (.cells #[V] s)).alloc (.cells #[C] t)).alloc (.cells #[D] u)) := (Below.refl _ _).alloc (Nat.le_refl _) _
  have e0 := (b2.cell (p := ⟨w.heap.size, 0, none⟩) (by simp; omega)).trans ((b1.cell (p := ⟨w.heap.size, 0, none⟩) (by simp)).trans a0)
  have e1 := (b2.cell (p := ⟨(w.alloc (.cells #[V] s)).heap.size, 0, none⟩) (by simp)).trans a1
  refine ⟨e0, ?_, ?_, ?_⟩
  · simpa only [World.size_alloc] using e1
  · simpa only [World.size_alloc] using a2
  · simpa only [World.size_alloc] using a3

set_option maxRecDepth 100000 in
set_option maxHeartbeats 2000000 in
theorem densityAt_any (g : Nat) (T B : List Int) (n : Nat) (col : Int) (w : World) (hG : ColBlk w g T B n n) (hn : n ≤ 24) (hL : BruAt w) :
    Calls Tryd.prog 69 #[.slice (some ⟨g, 0, none⟩) n n, .int .i64 col] w fun e w' => e = .returned (.int .i64 (densN T B n col (netsL T B n))) ∧ Below w.heap.size w w' := by
  refine (callsIn_wide (n := 3)).1 ?_
  refine callsIn_of_wp_marks Tryd.func69 rfl trivial ?_ rfl
  simp only [Tryd.ntmps69, List.size_toArray, List.length_cons, List.length_nil, Nat.reduceAdd, Nat.reduceSub, Array.replicate_succ, Array.replicate_zero, List.push_toArray, List.append_toArray, List.nil_append, List.cons_append]
  have hb0 : Below w.heap.size w (((w.alloc (.cells #[.slice (some ⟨g, 0, none⟩) n n] 75)).alloc (.cells #[.int .i64 col] 2)).alloc (.cells #[.int .i64 0] 2)) := by (repeat (first | assumption | exact Below.refl _ _ | (refine bl_alloc ?_ _) | (refine Below.drew ?_) | (refine bl_drewN ?_ _) | (refine bl_set ?_ (by first | (simp; done) | omega | (simp; omega)) _) | (refine bl_trans ?_ (by assumption)) | (refine bl_step ?_ (by assumption) (by first | omega | exact Below.size (by assumption) | (simp; omega) | (simp; exact Below.size (by assumption))))))
  have hc0 := three_boxes w (.slice (some ⟨g, 0, none⟩) n n) (.int .i64 col) (.int .i64 0) 75 2 2
  gi_wp2
  refine ⟨trivial, (callsIn_wide.2 (nets_any g T B n _ (hG.to hb0) hn)).mono ?_⟩
  rintro e w1 ⟨rfl, hb1⟩
  have z1 : w.heap.size + 1 + 1 < w1.heap.size := by have := hb1.size; simp at this; omega
  have hc1 : DCells w.heap.size (.slice (some ⟨g, 0, none⟩) n n) (.int .i64 col) (fun k => (densN T B n col ((netsL T B n).take k) : Int)) 0 w1 :=
    ⟨(hb1.cell (p := ⟨w.heap.size, 0, none⟩) (by simp; omega)).trans hc0.1, (hb1.cell (p := ⟨w.heap.size + 1, 0, none⟩) (by simp)).trans hc0.2.1, (hb1.cell (p := ⟨w.heap.size + 1 + 1, 0, none⟩) (by simp)).trans hc0.2.2.1, (hb1.frozen (p := ⟨w.heap.size + 1 + 1, 0, none⟩) (by simp)).trans hc0.2.2.2⟩
  have b1 : Below w.heap.size w w1 := bl_step hb0 hb1 hb0.size
  clear hb0 hb1 hc0
  gi_wp2
  refine range_gives (gf := 99) (b := .int .u64 (netsM T B n)) (xs := netsL T B n) (Kq := BruAt) (by omega) rfl (enters_of Tryd.func99 (by kernel_rfl) rfl) (each_gives _ (isNetB T B n) 13 (by omega)) rfl
    (fun k W => DCells w.heap.size (.slice (some ⟨g, 0, none⟩) n n) (.int .i64 col) (fun k => (densN T B n col ((netsL T B n).take k) : Int)) k W ∧ Below w.heap.size w W)
    (OwnFrom.and (Own.from (DCells.own _ _ _ _) _) (ownFrom_below (Nat.le_refl _) b1.size)) (fun k W h => hL.to h.2) ⟨hc1, b1⟩
    (fun x => { tmps := #[.slice (some ⟨g, 0, none⟩) n n, .int .i64 col, .pointer (some ⟨w.heap.size, 0, none⟩), .pointer (some ⟨w.heap.size + 1, 0, none⟩), .int .i64 0, .pointer (some ⟨w.heap.size + 1 + 1, 0, none⟩), .int .i64 x, .slice (some ⟨g, 0, none⟩) n n, .int .u64 (netsM T B n), .func (.func 99) #[.int .u64 (netsM T B n)] #[], .int .i64 x, undef, undef, undef, undef, undef, undef, undef, undef, undef], defers := [] }) ?assign ?body ?done
  case assign =>
    intro l x W K hK
    gi_wp2
    exact hK
  case body =>
    rintro l k x W ⟨⟨c0, c1, c2, f2⟩, hb⟩ hx
    obtain ⟨hx13, hnet⟩ := memL_lt (List.mem_of_getElem? hx)
    have zW : w.heap.size + 1 + 1 < W.heap.size := World.block_lt_of_cell? W _ c2
    have zW1 : w.heap.size + 1 < W.heap.size := by omega
    have hx1 : 1 ≤ x := by
      rcases Nat.eq_zero_or_pos x with h | h
      · rw [h, isNetB_zero] at hnet; cases hnet
      · exact h
    rw [isNetB_span hx1, Bool.and_eq_true, decide_eq_true_eq] at hnet
    have hpin := fun w1 (h : Below w.heap.size w w1) => pinsOf_any g T B n (x : Int) w1 (hG.to h) hn
    rcases mask_span (hasP T B (x : Int)) n (by omega) with ⟨_, hlo, _⟩ | ⟨lo, hi, hlh, hhi, hlo, hhie, hm, hz, hlen⟩
    · omega
    have hM : maskTo (hasP T B (x : Int)) n < 18446744073709551616 := Nat.lt_of_lt_of_le (maskTo_lt _ _) (Nat.pow_le_pow_right (n := 2) (i := n) (j := 64) (by omega) (by omega))
    have hsp := fun w3 hT => span_any (maskTo (hasP T B (x : Int)) n) lo hi hM hm hz hlen (by omega) w3 hT
    have hdn := densN_le T B n col ((netsL T B n).take k)
    have h13 := netsL_len T B n
    rw [List.length_take] at hdn
    have hDB : densB T B n col x = inB col (lo : Int) (hi : Int) := by unfold densB; rw [hlo, hhie]
    generalize maskTo (hasP T B (x : Int)) n = M at *
    dsimp only at c2
    have hdnI : (densN T B n col ((netsL T B n).take k) : Int) ≤ 13 := by omega
    cases hd : densB T B n col x
    · have HI : Hid (inB col (lo : Int) (hi : Int) = false) := by show _ = _; rw [← hDB, hd]
      have HD := Lib.hid (densN_f (T := T) (B := B) (n := n) (col := col) hx hd)
      clear hd hDB hnet hlo hhie hz hlen hm hM hx hdn h13
      gi_wp2
      gi_region_with (first
        | (refine ⟨trivial, ?_⟩; gi_at_call 66; refine (CallsIn.inRound l (callsIn_wide.2 (hpin _ (by (repeat (first | assumption | exact Below.refl _ _ | (refine bl_alloc ?_ _) | (refine Below.drew ?_) | (refine bl_drewN ?_ _) | (refine bl_set ?_ (by first | (simp; done) | omega | (simp; omega)) _) | (refine bl_trans ?_ (by assumption)) | (refine bl_step ?_ (by assumption) (by first | omega | exact Below.size (by assumption) | (simp; omega) | (simp; exact Below.size (by assumption)))))))))).mono ?_; rintro e w2 ⟨rfl, hb2⟩; have d1 := (hb2.cell (p := ⟨w.heap.size + 1, 0, none⟩) zW1).trans c1; have d2 := (hb2.cell (p := ⟨w.heap.size + 1 + 1, 0, none⟩) zW).trans c2; have g2 := (hb2.frozen (p := ⟨w.heap.size + 1 + 1, 0, none⟩) zW).trans f2)
        | (refine ⟨trivial, ?_⟩; gi_at_call 67; refine (CallsIn.inRound l (callsIn_wide.2 (hsp _ (hL.to (by (repeat (first | assumption | exact Below.refl _ _ | (refine bl_alloc ?_ _) | (refine Below.drew ?_) | (refine bl_drewN ?_ _) | (refine bl_set ?_ (by first | (simp; done) | omega | (simp; omega)) _) | (refine bl_trans ?_ (by assumption)) | (refine bl_step ?_ (by assumption) (by first | omega | exact Below.size (by assumption) | (simp; omega) | (simp; exact Below.size (by assumption))))))))))).mono ?_; rintro e w3 ⟨rfl, hb3⟩; have d1' := (hb3.cell (p := ⟨w.heap.size + 1, 0, none⟩) (World.block_lt_of_cell? _ _ d1)).trans d1; have d2' := (hb3.cell (p := ⟨w.heap.size + 1 + 1, 0, none⟩) (World.block_lt_of_cell? _ _ d2)).trans d2; have g2' := (hb3.frozen (p := ⟨w.heap.size + 1 + 1, 0, none⟩) (World.block_lt_of_cell? _ _ d2)).trans g2)
        | (refine ⟨trivial, ?_⟩; gi_at_call 102; refine (CallsIn.inRound l (callsIn_wide.2 (has_any _ _ _ _ HI _))).mono ?_; rintro e w4 ⟨rfl, hb4⟩; have d2'' := (hb4.cell (p := ⟨w.heap.size + 1 + 1, 0, none⟩) (World.block_lt_of_cell? _ _ d2')).trans d2'; have g2'' := (hb4.frozen (p := ⟨w.heap.size + 1 + 1, 0, none⟩) (World.block_lt_of_cell? _ _ d2')).trans g2'))
      all_goals
        have hbW : Below W.heap.size W w4 := bl_step (bl_step (bl_step (Below.refl _ W).drew hb2 (Nat.le_refl _)) hb3 hb2.size) hb4 (Nat.le_trans hb2.size hb3.size)
        have hbw := bl_step hb hbW hb.size
        gi_wp2
        exact ⟨keepsFrom_below hbW, ⟨(hbW.cell (p := ⟨w.heap.size, 0, none⟩) (World.block_lt_of_cell? _ _ c0)).trans c0, (hbW.cell (p := ⟨w.heap.size + 1, 0, none⟩) (World.block_lt_of_cell? _ _ c1)).trans c1, by dsimp only; rw [HD.out]; exact d2'', g2''.trans rfl⟩, hbw⟩
    · have HI : Hid (inB col (lo : Int) (hi : Int) = true) := by show _ = _; rw [← hDB, hd]
      have HD := Lib.hid (densN_t (T := T) (B := B) (n := n) (col := col) hx hd)
      clear hd hDB hnet hlo hhie hz hlen hm hM hx hdn h13
      gi_wp2
      gi_region_with (first
        | (refine ⟨trivial, ?_⟩; gi_at_call 66; refine (CallsIn.inRound l (callsIn_wide.2 (hpin _ (by (repeat (first | assumption | exact Below.refl _ _ | (refine bl_alloc ?_ _) | (refine Below.drew ?_) | (refine bl_drewN ?_ _) | (refine bl_set ?_ (by first | (simp; done) | omega | (simp; omega)) _) | (refine bl_trans ?_ (by assumption)) | (refine bl_step ?_ (by assumption) (by first | omega | exact Below.size (by assumption) | (simp; omega) | (simp; exact Below.size (by assumption)))))))))).mono ?_; rintro e w2 ⟨rfl, hb2⟩; have d1 := (hb2.cell (p := ⟨w.heap.size + 1, 0, none⟩) zW1).trans c1; have d2 := (hb2.cell (p := ⟨w.heap.size + 1 + 1, 0, none⟩) zW).trans c2; have g2 := (hb2.frozen (p := ⟨w.heap.size + 1 + 1, 0, none⟩) zW).trans f2)
        | (refine ⟨trivial, ?_⟩; gi_at_call 67; refine (CallsIn.inRound l (callsIn_wide.2 (hsp _ (hL.to (by (repeat (first | assumption | exact Below.refl _ _ | (refine bl_alloc ?_ _) | (refine Below.drew ?_) | (refine bl_drewN ?_ _) | (refine bl_set ?_ (by first | (simp; done) | omega | (simp; omega)) _) | (refine bl_trans ?_ (by assumption)) | (refine bl_step ?_ (by assumption) (by first | omega | exact Below.size (by assumption) | (simp; omega) | (simp; exact Below.size (by assumption))))))))))).mono ?_; rintro e w3 ⟨rfl, hb3⟩; have d1' := (hb3.cell (p := ⟨w.heap.size + 1, 0, none⟩) (World.block_lt_of_cell? _ _ d1)).trans d1; have d2' := (hb3.cell (p := ⟨w.heap.size + 1 + 1, 0, none⟩) (World.block_lt_of_cell? _ _ d2)).trans d2; have g2' := (hb3.frozen (p := ⟨w.heap.size + 1 + 1, 0, none⟩) (World.block_lt_of_cell? _ _ d2)).trans g2)
        | (refine ⟨trivial, ?_⟩; gi_at_call 102; refine (CallsIn.inRound l (callsIn_wide.2 (has_any _ _ _ _ HI _))).mono ?_; rintro e w4 ⟨rfl, hb4⟩; have d2'' := (hb4.cell (p := ⟨w.heap.size + 1 + 1, 0, none⟩) (World.block_lt_of_cell? _ _ d2')).trans d2'; have g2'' := (hb4.frozen (p := ⟨w.heap.size + 1 + 1, 0, none⟩) (World.block_lt_of_cell? _ _ d2')).trans g2'))
      all_goals
        have hbW : Below W.heap.size W w4 := bl_step (bl_step (bl_step (Below.refl _ W).drew hb2 (Nat.le_refl _)) hb3 hb2.size) hb4 (Nat.le_trans hb2.size hb3.size)
        have hbw := bl_step hb hbW hb.size
        have k0 := (hbW.cell (p := ⟨w.heap.size, 0, none⟩) (World.block_lt_of_cell? _ _ c0)).trans c0
        have k1 := (hbW.cell (p := ⟨w.heap.size + 1, 0, none⟩) (World.block_lt_of_cell? _ _ c1)).trans c1
        gi_wp2
        refine ⟨(keepsFrom_below hbW).trans ((KeepsOthers.setCell _ _ _).from _), ⟨?_, ?_, ?_, ?_⟩, hbw.setCell (p := ⟨w.heap.size + 1 + 1, 0, none⟩) (by simp; omega) _⟩
        · exact (World.cell?_of_block (a := ⟨w.heap.size, 0, none⟩) (Below.heap_setCell _ _ _ _ (by simp; omega))).trans k0
        · exact (World.cell?_of_block (a := ⟨w.heap.size + 1, 0, none⟩) (Below.heap_setCell _ _ _ _ (by simp))).trans k1
        · dsimp only
          rw [HD.out]
          exact (World.cell?_setCell_same' _ _ _ (by rw [d2'']; rfl)).trans (by go_num)
        · rw [World.frozen?_setCell]; exact g2''
  case done =>
    rintro D W hD ⟨⟨c0, c1, c2, f2⟩, hb⟩ hK
    simp only [List.take_length] at c2
    gi_wp2
    refine ⟨by simp, .inl ⟨_, _, rfl, run_takeDeferred hK, ?_⟩⟩
    exact ⟨_, results_tmp rfl _ _ _, rfl, hb.trans (belowK_b (w := w) (Nat.le_refl _) W D _ _ (by have := b1.size; omega) hK rfl rfl)⟩
end Go.Proofs.YtiadoekhhmcokaaDoor
