/-
  Contracts: RiverWire, as the model and the program have it; marks on a slice of numbers.
-/
import Derived.Test.YtdpamieheefhdaaWireL
import Derived.Test.YtdpamieheefhdaaRivFits
import Derived.Laws.Rows
namespace Go.Proofs.Ytdpamieheefhdaa
set_option linter.unusedSimpArgs false
set_option linter.unusedVariables false
open Go.ChangeShapes Go.WideShapes Go.ChangeAt Go.RowKit

theorem l02Good_any (A A' : Option Addr) (T B : List Int) (c c' : Nat) (t : Int) (w : World) (hp : IntsAt w w.heap.size A T) (hq : IntsAt w w.heap.size A' B) (hl : T.length ≤ 1048576) (hl' : B.length ≤ 1048576) :
    Calls Try.prog 49 #[.slice A T.length c, .slice A' B.length c', .int .i64 t] w fun e w' => e = .returned (.bool (fitsB T B t)) ∧ Below w.heap.size w w' := by
  cases hr : riverB T B
  · have HF : Hid (fitsB T B t = false) := by show _ = _; unfold fitsB; rw [hr]; rfl
    have HR := Lib.hid hr
    clear hr
    go_enter Try.func49, Try.ntmps49
    go_wp2_with (go_at_call 75; refine (l02Is_any _ _ _ _ _ _ _ hp hq hl hl').mono ?_; rintro e w' ⟨rfl, hb'⟩; rw [HR.out])
    go_ret
    exact ⟨retB (by rw [HF.out]), by (repeat (first | assumption | exact Below.refl _ _ | (refine bl_alloc ?_ _) | (refine Below.drew ?_) | (refine bl_drewN ?_ _) | (refine bl_set ?_ (by first | (simp; done) | omega | (simp; omega)) _) | (refine bl_trans ?_ (by assumption)) | (refine bl_step ?_ (by assumption) (by first | omega | exact Below.size (by assumption) | (simp; omega) | (simp; exact Below.size (by assumption))))))⟩
  · cases ht : inB t 0 20
    · have HF : Hid (fitsB T B t = false) := by show _ = _; unfold fitsB; rw [ht]; simp
      have HR := Lib.hid hr
      have HI := Lib.hid ht
      clear hr ht
      go_enter Try.func49, Try.ntmps49
      go_wp2_with (first
        | (go_at_call 75; refine (l02Is_any _ _ _ _ _ _ _ hp hq hl hl').mono ?_; rintro e w' ⟨rfl, hb'⟩; rw [HR.out])
        | (go_at_call 76; refine (l02Tracks_any _ _).mono ?_; rintro e w2 ⟨rfl, rfl⟩; rw [HI.out]))
      go_ret
      exact ⟨retB (by rw [HF.out]), by (repeat (first | assumption | exact Below.refl _ _ | (refine bl_alloc ?_ _) | (refine Below.drew ?_) | (refine bl_drewN ?_ _) | (refine bl_set ?_ (by first | (simp; done) | omega | (simp; omega)) _) | (refine bl_trans ?_ (by assumption)) | (refine bl_step ?_ (by assumption) (by first | omega | exact Below.size (by assumption) | (simp; omega) | (simp; exact Below.size (by assumption))))))⟩
    · obtain ⟨k, rfl, hk⟩ := tracks_nat ht
      have HF : Hid (fitsB T B k = fitB T B k) := by show _ = _; unfold fitsB; rw [hr, ht]; simp
      obtain ⟨hL, h1, h20, hT, hB⟩ := riverB_of hr
      have HL := Lib.hid hL
      have HR := Lib.hid hr
      have HI := Lib.hid ht
      clear hr ht hL
      go_enter Try.func49, Try.ntmps49
      go_wp2_with fail
      refine (l02Is_any _ _ _ _ _ _ _ hp hq hl hl').mono ?_
      rintro e w1 ⟨rfl, hb1⟩
      rw [HR.out]
      go_wp2_with (go_at_call 76; refine (l02Tracks_any _ _).mono ?_; rintro e w2 ⟨rfl, rfl⟩; rw [HI.out])
      refine (l02Fits_any _ _ _ _ _ _ _ _ (hp.to hb1) (hq.to hb1) HL h20 hk hT hB).mono ?_
      rintro e w2 ⟨rfl, hb2⟩
      go_wp2
      go_ret
      exact ⟨retB (by rw [HF.out]), by (repeat (first | assumption | exact Below.refl _ _ | (refine bl_alloc ?_ _) | (refine Below.drew ?_) | (refine bl_drewN ?_ _) | (refine bl_set ?_ (by first | (simp; done) | omega | (simp; omega)) _) | (refine bl_trans ?_ (by assumption)) | (refine bl_step ?_ (by assumption) (by first | omega | exact Below.size (by assumption) | (simp; omega) | (simp; exact Below.size (by assumption))))))⟩


theorem rises_lt' {l : List Int} {lo hi : Int} (h : rises l lo hi = true) {i : Nat} (hi' : i + 1 < l.length) : l.getD i 0 < l.getD (i + 1) 0 := by
  have := riseTo_at h hi'
  unfold riseAt at this
  simp only [Bool.and_eq_true, Bool.or_eq_true, decide_eq_true_eq] at this
  rcases this.2 with h | h
  · omega
  · simpa using h
theorem ascB_of {T B : List Int} (h : riverB T B = true) : AscB B T.length := by
  unfold riverB at h
  simp only [Bool.and_eq_true, decide_eq_true_eq] at h
  intro j hj
  exact rises_lt' h.2.2.2 (by omega)
/-- The places of a wire are places. -/
theorem xAt_in {T B : List Int} {n i : Nat} (hi : i < n) (ha : AscB B n) (hT : Places T) (hB : Places B) (HT : T.length = n) (HB : B.length = n) (k : Nat) : 0 ≤ xAt T B n i k ∧ xAt T B n i k ≤ 99 := by
  by_cases hle : B.getD i 0 ≤ T.getD i 0
  · rw [rAt_xAt hi ha hle]; exact rAt_in ha hT hB hle k
  · have hRT : MirRow T (mirL T) n := by have h := mirL_row T; rw [HT] at h; exact h
    have hRB : MirRow B (mirL B) n := by have h := mirL_row B; rw [HB] at h; exact h
    have hle' : (mirL B).getD (n - 1 - i) 0 ≤ (mirL T).getD (n - 1 - i) 0 := by
      rw [hRT _ (by omega), hRB _ (by omega), show n - 1 - (n - 1 - i) = i by omega]; omega
    have h1 := xAt_mir hi hRT hRB k
    rw [rAt_xAt (by omega) (ha.mir hRB) hle'] at h1
    have h2 := rAt_in (ha.mir hRB) (mirL_in hT) (mirL_in hB) hle' k
    omega
theorem wireP_len (T B : List Int) (n i t : Nat) (ht : t ≤ 20) : (wireP T B n i t).length ≤ 4096 := by
  have := wirL_len T B n i t
  unfold wireP
  simp
  omega
/-- Is there such a wire? -/
def rwB (T B : List Int) (t x : Int) : Bool := fitsB T B t && inB x 0 ((T.length : Int) - 1)
def rwL (T B : List Int) (t x : Int) : List Pt := if rwB T B t x = true then cornL (wireP T B T.length x.toNat t.toNat) (wireP T B T.length x.toNat t.toNat).length else []
theorem rwL_f {T B : List Int} {t x : Int} (h : rwB T B t x = false) : rwL T B t x = [] := by unfold rwL; rw [h]; simp
theorem rwL_t {T B : List Int} {t i : Nat} (h : rwB T B t i = true) : rwL T B t i = cornL (wireP T B T.length i t) (wireP T B T.length i t).length := by unfold rwL; rw [h]; simp
theorem rwL_len (T B : List Int) (t x : Int) : (rwL T B t x).length ≤ 1048576 := by
  cases h : rwB T B t x
  · rw [rwL_f h]; simp
  · have h' := h
    unfold rwB at h'
    simp only [Bool.and_eq_true] at h'
    obtain ⟨h1, h2⟩ := h'
    unfold fitsB at h1
    simp only [Bool.and_eq_true] at h1
    obtain ⟨k, rfl, hk⟩ := tracks_nat h1.2.1
    have hx : 0 ≤ x := by have := of_decide_eq_true h2; omega
    obtain ⟨i, rfl⟩ := Int.eq_ofNat_of_zero_le hx
    rw [rwL_t h]
    exact Nat.le_trans (cornL_le _ _) (Nat.le_trans (wireP_len T B _ i k hk) (by decide))

set_option maxRecDepth 100000 in
set_option maxHeartbeats 800000 in
theorem RiverWireS_any (A A' : Option Addr) (T B : List Int) (c c' : Nat) (t x : Int) (w : World) (hp : IntsAt w w.heap.size A T) (hq : IntsAt w w.heap.size A' B) (hl : T.length ≤ 1048576) (hl' : B.length ≤ 1048576) :
    Calls Try.prog 19 #[.slice A T.length c, .slice A' B.length c', .int .i64 t, .int .i64 x] w (SRes (rwL T B t x) (rwB T B t x) w) := by
  cases hf : fitsB T B t
  · have H := Lib.hid hf
    have Q : Hid (rwB T B t x = false) := Lib.hid (show rwB T B t x = false by simp [rwB, hf])
    rw [Q.out, rwL_f Q.out]
    clear hf
    go_enter Try.func19, Try.ntmps19
    go_wp2_with fail
    refine (l02Good_any _ _ _ _ _ _ _ _ hp hq hl hl').mono ?_
    rintro e w1 ⟨rfl, hb1⟩
    rw [H.out]
    go_wp2
    go_ret2
    exact ⟨none, 0, rfl, Own3.none_ _ _ _, hb1⟩
  · cases hx : inB x 0 ((T.length : Int) - 1)
    · have H := Lib.hid hf
      have HX := Lib.hid hx
      have Q : Hid (rwB T B t x = false) := Lib.hid (show rwB T B t x = false by simp [rwB, hx])
      rw [Q.out, rwL_f Q.out]
      clear hf hx
      have hlI : (T.length : Int) ≤ 1048576 := by omega
      go_enter Try.func19, Try.ntmps19
      go_wp2_with fail
      refine (l02Good_any _ _ _ _ _ _ _ _ hp hq hl hl').mono ?_
      rintro e w1 ⟨rfl, hb1⟩
      rw [H.out]
      go_wp2_with fail
      refine (l00In_any _ _ _ _).mono ?_
      rintro e w2 ⟨rfl, rfl⟩
      rw [HX.out]
      go_wp2
      go_ret2
      exact ⟨none, 0, rfl, Own3.none_ _ _ _, hb1⟩
    · have Q : Hid (rwB T B t x = true) := Lib.hid (show rwB T B t x = true by simp [rwB, hf, hx])
      have hf' := hf
      unfold fitsB at hf'
      simp only [Bool.and_eq_true] at hf'
      obtain ⟨hr, ht, _⟩ := hf'
      obtain ⟨k, rfl, hk⟩ := tracks_nat ht
      have hx0 : 0 ≤ x ∧ x ≤ (T.length : Int) - 1 := of_decide_eq_true hx
      obtain ⟨i, rfl⟩ := Int.eq_ofNat_of_zero_le hx0.1
      obtain ⟨hL, h1, h20, hT, hB⟩ := riverB_of hr
      have ha := ascB_of hr
      have hi : i < T.length := by have := hx0.2; omega
      have hw4 := wireP_len T B T.length i k hk
      rw [Q.out, rwL_t Q.out]
      have cw := fun (w1 : World) (hp1 : IntsAt w1 w1.heap.size A T) (hq1 : IntsAt w1 w1.heap.size A' B) => l02Wire_any A A' T B T.length k i c c' w1 hp1 hq1 rfl hL.symm h20 hk hi hT hB (fun j _ => xAt_in hi ha hT hB rfl hL.symm j)
      obtain ⟨n, hn⟩ : ∃ n, T.length = n := ⟨_, rfl⟩
      have hn' : B.length = n := by omega
      have cg := l02Good_any A A' T B c c' k w hp hq hl hl'
      rw [hn] at cw hw4 hx hi h20 ⊢
      rw [hn'] at cg ⊢
      rw [hn] at cg
      obtain ⟨L, hLw⟩ : ∃ L, wireP T B n i k = L := ⟨_, rfl⟩
      rw [hLw] at cw hw4 ⊢
      have H := Lib.hid hf
      have HX := Lib.hid hx
      have CW := Lib.hid cw
      have hnI : (n : Int) ≤ 20 := by omega
      have hi0 : (0 : Int) ≤ (i : Int) := by omega
      clear hf hx hx0 hr ht hL h1 hT hB ha hn hn' cw hLw
      go_enter Try.func19, Try.ntmps19
      go_wp2_with fail
      refine cg.mono ?_
      rintro e w1 ⟨rfl, hb1⟩
      rw [H.out]
      go_wp2_with fail
      refine (l00In_any _ _ _ _).mono ?_
      rintro e w2 ⟨rfl, rfl⟩
      rw [HX.out]
      go_wp2_with fail
      refine (CW.out _ (hp.to hb1) (hq.to hb1)).mono ?_
      rintro e w3 ⟨v, rfl, ho, hb3⟩
      obtain ⟨A3, c3, rfl, ho3⟩ := own3_of ho
      have hb13 := bl_trans hb1 hb3
      have hs13 := hb13.size
      clear ho hb1 hb3
      go_wp2_with fail
      refine (l01Corners_own4 _ _ _ _ ho3.pts hw4).mono ?_
      rintro e w4 ⟨v, rfl, ho, hb4⟩
      obtain ⟨A4, c4, rfl, ho4⟩ := own3_of ho
      have hb14 := bl_trans hb13 hb4
      clear ho hb13 hb4 ho3
      go_wp2
      go_ret2
      exact ⟨A4, c4, rfl, fun h0 => by obtain ⟨g, e, hg, hP⟩ := ho4 h0; exact ⟨g, e, by omega, hP⟩, hb14⟩

set_option maxRecDepth 100000 in
set_option maxHeartbeats 800000 in
theorem RiverWireI_any (A A' : Option Addr) (T B : List Int) (c c' : Nat) (t x : Int) (w : World) (hp : IntsAt w w.heap.size A T) (hq : IntsAt w w.heap.size A' B) (hl : T.length ≤ 1048576) (hl' : B.length ≤ 1048576) (hlc : T.length ≤ c) (hlc' : B.length ≤ c') :
    Calls Try.prog 14 #[.slice A T.length c, .slice A' B.length c', .int .i64 t, .int .i64 x] w (SRes (rwL T B t x) (rwB T B t x) w) := by
  cases hf : fitsB T B t
  · have H := Lib.hid hf
    have Q : Hid (rwB T B t x = false) := Lib.hid (show rwB T B t x = false by simp [rwB, hf])
    rw [Q.out, rwL_f Q.out]
    clear hf
    go_enter Try.func14, Try.ntmps14
    go_wp2_with fail
    refine (FitsRiverI_any _ _ _ _ _ _ _ _ hp hq hl hl' hlc hlc').mono ?_
    rintro e w1 ⟨rfl, hb1⟩
    rw [H.out]
    go_wp2
    go_ret2
    exact ⟨none, 0, rfl, Own3.none_ _ _ _, hb1⟩
  · have hf' := hf
    unfold fitsB at hf'
    simp only [Bool.and_eq_true] at hf'
    obtain ⟨hr, ht, _⟩ := hf'
    obtain ⟨k, rfl, hk⟩ := tracks_nat ht
    obtain ⟨hL, h1, h20, hT, hB⟩ := riverB_of hr
    have cg := FitsRiverI_any A A' T B c c' k w hp hq hl hl' hlc hlc'
    obtain ⟨n, hn⟩ : ∃ n, T.length = n := ⟨_, rfl⟩
    have hn' : B.length = n := by omega
    by_cases hx0 : x < 0
    · have H := Lib.hid hf
      have Q : Hid (rwB T B k x = false) := Lib.hid (show rwB T B k x = false by simp [rwB, inB]; intro _ h; omega)
      rw [Q.out, rwL_f Q.out]
      clear hf hr ht hL h1 hT hB hn hn' h20
      go_enter Try.func14, Try.ntmps14
      go_wp2_with fail
      refine cg.mono ?_
      rintro e w1 ⟨rfl, hb1⟩
      rw [H.out]
      go_wp2
      go_ret2
      exact ⟨none, 0, rfl, Own3.none_ _ _ _, hb1⟩
    · by_cases hxn : x < (n : Int)
      · obtain ⟨i, rfl⟩ := Int.eq_ofNat_of_zero_le (show 0 ≤ x by omega)
        have hi : i < n := by omega
        have ha := ascB_of hr
        rw [hn] at ha h1 h20
        have Q : Hid (rwB T B k i = true) := Lib.hid (show rwB T B k i = true by simp [rwB, hf, inB]; omega)
        have hw4 := wireP_len T B n i k hk
        rw [Q.out, rwL_t Q.out]
        rw [hn] at cg ⊢
        rw [hn'] at cg ⊢
        obtain ⟨bT, oT, rfl, hbT, hcT⟩ := hp (by omega)
        obtain ⟨bB, oB, rfl, hbB, hcB⟩ := hq (by omega)
        rw [hn] at hcT
        rw [hn'] at hcB
        have cw := fun (w1 : World) (hb1 : Below w.heap.size w w1) => show Calls Try.prog 39 #[.agg #[.slice (some ⟨bT, oT, none⟩) n c, .slice (some ⟨bB, oB, none⟩) n c'], .int .i64 k, .int .i64 i] w1 (OwnPost (wireP T B n i k) w1) from by
          have gT : bT < w1.heap.size ∧ ∀ j, j < n → w1.cell? ⟨bT, oT + j, none⟩ = some (.int .i64 (T.getD j 0)) := ⟨Nat.lt_of_lt_of_le hbT hb1.size, fun j hj => (hb1.cell (p := ⟨bT, oT + j, none⟩) hbT).trans (hcT j hj)⟩
          have gB : bB < w1.heap.size ∧ ∀ j, j < n → w1.cell? ⟨bB, oB + j, none⟩ = some (.int .i64 (B.getD j 0)) := ⟨Nat.lt_of_lt_of_le hbB hb1.size, fun j hj => (hb1.cell (p := ⟨bB, oB + j, none⟩) hbB).trans (hcB j hj)⟩
          by_cases hle : B.getD i 0 ≤ T.getD i 0
          · exact wireR_any T B n i k bT oT bB oB c c' w1 h20 hk hi hT hB gT gB ha hle
          · exact wireL_any T B n i k bT oT bB oB c c' w1 (Lib.hid hn) (Lib.hid hn') h20 hk hi hT hB (hp.to hb1) (hq.to hb1) gT gB ha hle
        obtain ⟨L, hLw⟩ : ∃ L, wireP T B n i k = L := ⟨_, rfl⟩
        rw [hLw] at cw hw4 ⊢
        have H := Lib.hid hf
        have CW := Lib.hid cw
        have hnI : (n : Int) ≤ 20 := by omega
        have hi0 : (0 : Int) ≤ (i : Int) := by omega
        have hiI : (i : Int) < (n : Int) := by omega
        clear hf hr ht hL h1 hT hB ha hn hn' cw hLw hcT hcB hx0 hxn
        go_enter Try.func14, Try.ntmps14
        go_wp2_with fail
        refine cg.mono ?_
        rintro e w1 ⟨rfl, hb1⟩
        rw [H.out]
        go_wp2_with fail
        refine (CW.out _ hb1).mono ?_
        rintro e w3 ⟨v, rfl, ho, hb3⟩
        obtain ⟨A3, c3, rfl, ho3⟩ := own3_of ho
        have hb13 := bl_trans hb1 hb3
        have hs13 := hb13.size
        clear ho hb1 hb3
        go_wp2_with fail
        refine (corners_own4 _ _ _ _ ho3.pts hw4).mono ?_
        rintro e w4 ⟨v, rfl, ho, hb4⟩
        obtain ⟨A4, c4, rfl, ho4⟩ := own3_of ho
        have hb14 := bl_trans hb13 hb4
        clear ho hb13 hb4 ho3
        go_wp2
        go_ret2
        exact ⟨A4, c4, rfl, fun h0 => by obtain ⟨g, e, hg, hP⟩ := ho4 h0; exact ⟨g, e, by omega, hP⟩, hb14⟩
      · have H := Lib.hid hf
        have Q : Hid (rwB T B k x = false) := Lib.hid (show rwB T B k x = false by simp [rwB, inB]; intro _ h; omega)
        rw [Q.out, rwL_f Q.out]
        rw [hn'] at cg ⊢
        rw [hn] at cg ⊢
        have hnI : (n : Int) ≤ 20 := by omega
        clear hf hr ht hL h1 hT hB hn hn' h20
        go_enter Try.func14, Try.ntmps14
        go_wp2_with fail
        refine cg.mono ?_
        rintro e w1 ⟨rfl, hb1⟩
        rw [H.out]
        go_wp2
        go_ret2
        exact ⟨none, 0, rfl, Own3.none_ _ _ _, hb1⟩

/-! ### Marks on a slice of numbers: what is not that slice stands. -/
def CBlk (w : World) (g n : Nat) : Prop := ∃ cs, w.heap[g]? = some (.cells cs 2 (0, 0)) ∧ n ≤ cs.size
theorem CBlk.of {w : World} {g k : Nat} {L : List Int} (h : NBlk w g L k) : CBlk w g L.length := by
  obtain ⟨cs, h1, h2, _⟩ := h
  exact ⟨cs, h1, by omega⟩
theorem CBlk.cell {w : World} {g n : Nat} (h : CBlk w g n) {i : Nat} (hi : i < n) : ∃ v, w.cell? ⟨g, i, none⟩ = some v := by
  obtain ⟨cs, h1, h2⟩ := h
  exact ⟨cs[i], by simp [World.cell?, h1, show i < cs.size by omega]⟩
theorem CBlk.frozen {w : World} {g n : Nat} (h : CBlk w g n) (i : Nat) : w.frozen? ⟨g, i, none⟩ = false := by
  obtain ⟨cs, h1, _⟩ := h
  simp [World.frozen?, h1]
theorem CBlk.set {w : World} {g n : Nat} (h : CBlk w g n) (i : Nat) (v : Value) : CBlk (w.setCell ⟨g, i, none⟩ v) g n := by
  obtain ⟨cs, h1, h2⟩ := h
  exact ⟨_, heap_setCell_same w g i cs _ v h1, by simpa using h2⟩
set_option maxRecDepth 100000 in
set_option maxHeartbeats 800000 in
theorem markN_any (g n c : Nat) (s : Int) (w : World) (h : CBlk w g n) (hn : n ≤ 1048576) (hs0 : 0 ≤ s) (hsI : s ≤ 1048577) :
    Calls Try.prog 23 #[.slice (some ⟨g, 0, none⟩) n c, .int .i64 s] w fun e w' => e = .returned (.int .i64 (s + (n : Int))) ∧ Only g w w' := by
  have hnI : (n : Int) ≤ 1048576 := by omega
  go_enter Try.func23, Try.ntmps23
  go_wp2
  go_loopw [1, 5] (fun q i wr => ∃ j : Nat, j ≤ n ∧ i = .int .i64 j ∧ q = .int .i64 (s + (j : Int)) ∧ CBlk wr g n ∧ Only g w wr) (fun _ i _ => n - (intOf i).toNat)
  case atStart => exact ⟨0, Nat.zero_le _, rfl, by simp, h, Only.refl _ _⟩
  case round =>
    obtain ⟨j, hj, rfl, rfl, hP, hO⟩ := hrel
    by_cases hlt : j < n
    · have hjI : (j : Int) < (n : Int) := by omega
      have hj0 : (0 : Int) ≤ (j : Int) := by omega
      have f0 := hP.frozen j
      obtain ⟨v0, t0⟩ := hP.cell hlt
      have HS := hP.set j (.int .i64 (s + (j : Int)))
      have HO := hO.set_ j (.int .i64 (s + (j : Int)))
      go_wp2
      go_roundw
      case rel => exact ⟨j + 1, by omega, by go_num, by go_num, HS, HO⟩
      case measure => simp [intOf]; omega
    · obtain rfl : j = n := by omega
      go_wp2
      go_ret
      exact ⟨rfl, hO⟩
end Go.Proofs.Ytdpamieheefhdaa
