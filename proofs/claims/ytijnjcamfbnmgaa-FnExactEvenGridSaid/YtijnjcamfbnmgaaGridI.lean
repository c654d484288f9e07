/-
  Contracts: is a grid valid, as the program has it.
-/
import Derived.Test.YtijnjcamfbnmgaaGridS
import Derived.Test.YtijnjcamfbnmgaaOver
namespace Go.Proofs.Ytijnjcamfbnmgaa
set_option linter.unusedSimpArgs false
set_option linter.unusedVariables false
open Go.ChangeShapes Go.WideShapes Go.ChangeAt Go.RowKit

theorem isGridSide_any (n : Int) (b : Bool) (h : Hid (inB n 1 8 = b)) (w : World) :
    Calls Try.prog 75 #[.int .i64 n] w fun e w' => e = .returned (.bool b) ∧ w = w' := by
  by_cases h1 : 1 ≤ n
  · have H : Hid (decide (n ≤ 8) = b) := by
      show _ = _
      rw [← h.out]; unfold inB; exact decide_eq_decide.2 (by omega)
    have hd : decide (1 ≤ n) = true := decide_eq_true h1
    clear h h1
    go_enter Try.func75, Try.ntmps75
    go_wp2
    go_ret
    exact ⟨retB H.out, rfl⟩
  · have H : Hid (b = false) := by
      show _ = _
      rw [← h.out]; exact inB_f (by omega)
    have hd : decide (1 ≤ n) = false := decide_eq_false h1
    rw [H.out]
    clear h h1
    go_enter Try.func75, Try.ntmps75
    go_wp2
    go_ret
    exact ⟨rfl, rfl⟩
theorem isNoRoom_any (n : Int) (b : Bool) (h : Hid (inB n 0 20 = b)) (w : World) :
    Calls Try.prog 80 #[.int .i64 n] w fun e w' => e = .returned (.bool (!b)) ∧ w = w' := by
  by_cases h1 : n < 0
  · have H : Hid (b = false) := by
      show _ = _
      rw [← h.out]; exact inB_f (by omega)
    have hd : decide (n < 0) = true := decide_eq_true h1
    rw [H.out]
    clear h h1
    go_enter Try.func80, Try.ntmps80
    go_wp2
    go_ret
    exact ⟨rfl, rfl⟩
  · have H : Hid ((!b) = decide (20 < n)) := by
      show _ = _
      rw [← h.out]; unfold inB
      by_cases h2 : 20 < n
      · rw [decide_eq_true h2, decide_eq_false (by omega)]; rfl
      · rw [decide_eq_false h2, decide_eq_true (by omega)]; rfl
    have hd : decide (n < 0) = false := decide_eq_false h1
    clear h h1
    go_enter Try.func80, Try.ntmps80
    go_wp2
    go_ret
    exact ⟨retB H.out.symm, rfl⟩
/-- -1 where all hold, and an index where one does not. -/
def IdxR (b : Bool) (w : World) (e : Ending) (w' : World) : Prop :=
  ∃ r : Int, e = .returned (.int .i64 r) ∧ w = w' ∧ decide (0 ≤ r) = !b ∧ -1 ≤ r ∧ r ≤ 1048576
set_option maxHeartbeats 800000 in
theorem indexRoom_any (A : Option Addr) (R : List Int) (c : Nat) (w : World) (hp : IntsAt w w.heap.size A R) (hn : R.length ≤ 1048576) :
    Calls Try.prog 131 #[.slice A R.length c, .func (.func 80) #[] #[]] w (IdxR (okTo (roomB R) R.length) w) := by
  have hnI : (R.length : Int) ≤ 1048576 := by omega
  go_enter Try.func131, Try.ntmps131
  go_wp2
  go_loop [5, 8] (fun _ i => ∃ k : Nat, k ≤ R.length ∧ i = .int .i64 k ∧ Hid (okTo (roomB R) k = true)) (fun _ i => R.length - (intOf i).toNat)
  case atStart => exact ⟨0, Nat.zero_le _, rfl, rfl⟩
  case round =>
    obtain ⟨k, hk, rfl, HX⟩ := hrel
    have hk0 : (0 : Int) ≤ (k : Int) := by omega
    by_cases hlt : k < R.length
    · obtain ⟨b, off, rfl, hbB, hc⟩ := hp (by omega)
      have d0 := hc k hlt
      have hltI : (k : Int) < (R.length : Int) := by omega
      cases hin : roomB R k
      · have HF : Hid (okTo (roomB R) R.length = false) := okTo_bad hlt hin
        have HI : Hid (inB (R.getD k 0) 0 20 = false) := hin
        clear hc hin hp
        generalize R.getD k 0 = v at *
        go_wp2_with (go_at_call 80; refine (isNoRoom_any _ _ HI _).mono ?_; rintro e w' ⟨rfl, rfl⟩)
        go_ret
        exact ⟨k, rfl, rfl, by rw [HF.out]; exact decide_eq_true (by omega), by omega, by omega⟩
      · have HX2 : Hid (okTo (roomB R) (k + 1) = true) := okTo_next HX.out hin
        have HI : Hid (inB (R.getD k 0) 0 20 = true) := hin
        clear hc hin hp
        generalize R.getD k 0 = v at *
        go_wp2_with (go_at_call 80; refine (isNoRoom_any _ _ HI _).mono ?_; rintro e w' ⟨rfl, rfl⟩)
        go_round
        case rel => exact ⟨k + 1, by omega, by go_num, HX2⟩
        case measure => simp [intOf]; omega
    · have HF : Hid (okTo (roomB R) R.length = true) := by
        have := HX.out
        rw [show k = R.length by omega] at this
        exact this
      go_wp2
      go_ret
      exact ⟨-1, rfl, rfl, by rw [HF.out]; rfl, by omega, by omega⟩
theorem containsRoom_any (A : Option Addr) (R : List Int) (c : Nat) (w : World) (hp : IntsAt w w.heap.size A R) (hn : R.length ≤ 1048576) :
    Calls Try.prog 113 #[.slice A R.length c, .func (.func 80) #[] #[]] w fun e w' => e = .returned (.bool (!okTo (roomB R) R.length)) ∧ w = w' := by
  go_enter Try.func113, Try.ntmps113
  go_wp2_with fail
  refine (indexRoom_any _ _ _ _ hp hn).mono ?_
  rintro e w' ⟨r, rfl, rfl, hd, h1, h2⟩
  have HD := Lib.hid hd
  clear hd
  go_wp2
  go_ret
  exact ⟨retB HD.out, rfl⟩
theorem badRow_any (A : Option Addr) (R : List Int) (c Z n : Nat) (b : Bool) (w : World) (hp : IntsAt w w.heap.size A R) (hn : R.length ≤ 1048576) (hm : n ≤ 8) (hz : w.cell? ⟨Z, 0, none⟩ = some (.int .i64 n)) (h : Hid ((decide (R.length = n) && okTo (roomB R) n) = b)) :
    Calls Try.prog 112 #[.slice A R.length c, .pointer (some ⟨Z, 0, none⟩)] w fun e w' => e = .returned (.bool (!b)) ∧ w = w' := by
  have hnI : (R.length : Int) ≤ 1048576 := by omega
  have hmI : (n : Int) ≤ 8 := by omega
  by_cases hl : R.length = n
  · subst hl
    have cc := containsRoom_any A R c w hp hn
    have HB : Hid (okTo (roomB R) R.length = b) := by
      have := h.out
      rw [decide_eq_true rfl] at this
      exact this
    rw [HB.out] at cc
    have hne : ((R.length : Int) != (R.length : Int)) = false := by simp
    clear h hp
    go_enter Try.func112, Try.ntmps112
    go_wp2_with fail
    refine cc.mono ?_
    rintro e w' ⟨rfl, rfl⟩
    go_wp2
    go_ret
    exact ⟨rfl, rfl⟩
  · have HB : Hid (b = false) := by
      show _ = _
      rw [← h.out, decide_eq_false hl]; rfl
    have hne : ((R.length : Int) != (n : Int)) = true := by simp; omega
    rw [HB.out]
    clear h hp hl
    go_enter Try.func112, Try.ntmps112
    go_wp2
    go_ret
    exact ⟨rfl, rfl⟩
set_option maxHeartbeats 800000 in
theorem indexRow_any (A : Option Addr) (Ls : List SlI) (c Z n : Nat) (w : World) (hp : ISAt w w.heap.size A Ls) (hn : Ls.length ≤ 1048576) (hls : ∀ i, i < Ls.length → (Ls.getD i si0).2.1.length ≤ 1048576) (hm : n ≤ 8) (hz : w.cell? ⟨Z, 0, none⟩ = some (.int .i64 n)) :
    Calls Try.prog 130 #[.slice A Ls.length c, .func (.func 112) #[] #[.pointer (some ⟨Z, 0, none⟩)]] w (IdxR (okTo (gRowB (heldI Ls) n) Ls.length) w) := by
  have hnI : (Ls.length : Int) ≤ 1048576 := by omega
  go_enter Try.func130, Try.ntmps130
  go_wp2
  go_loop [5, 8] (fun _ i => ∃ k : Nat, k ≤ Ls.length ∧ i = .int .i64 k ∧ Hid (okTo (gRowB (heldI Ls) n) k = true)) (fun _ i => Ls.length - (intOf i).toNat)
  case atStart => exact ⟨0, Nat.zero_le _, rfl, rfl⟩
  case round =>
    obtain ⟨k, hk, rfl, HX⟩ := hrel
    have hk0 : (0 : Int) ≤ (k : Int) := by omega
    by_cases hlt : k < Ls.length
    · obtain ⟨b, off, rfl, hbB, hc⟩ := hp (by omega)
      obtain ⟨d0, pk, _, _⟩ := hc k hlt
      have hkl := hls k hlt
      have hltI : (k : Int) < (Ls.length : Int) := by omega
      have hE : gRowB (heldI Ls) n k = (decide ((Ls.getD k si0).2.1.length = n) && okTo (roomB (Ls.getD k si0).2.1) n) := by unfold gRowB; rw [heldI_at]
      have cb := fun (b : Bool) (h : Hid ((decide ((Ls.getD k si0).2.1.length = n) && okTo (roomB (Ls.getD k si0).2.1) n) = b)) => badRow_any (Ls.getD k si0).1 (Ls.getD k si0).2.1 (Ls.getD k si0).2.2 Z n b w pk hkl hm hz h
      have HCB := Lib.hid cb
      clear cb
      cases hin : gRowB (heldI Ls) n k
      · have HF : Hid (okTo (gRowB (heldI Ls) n) Ls.length = false) := okTo_bad hlt hin
        have HI := Lib.hid (hE.symm.trans hin)
        have CB := HCB.out _ HI
        clear hc hin hp hE HCB HI pk
        generalize (Ls.getD k si0).2.1 = R at *
        generalize (Ls.getD k si0).1 = Ay at *
        generalize (Ls.getD k si0).2.2 = ky at *
        go_wp2_with (go_at_call 112; refine CB.mono ?_; rintro e w' ⟨rfl, rfl⟩)
        go_ret
        exact ⟨k, rfl, rfl, by rw [HF.out]; exact decide_eq_true (by omega), by omega, by omega⟩
      · have HX2 : Hid (okTo (gRowB (heldI Ls) n) (k + 1) = true) := okTo_next HX.out hin
        have HI := Lib.hid (hE.symm.trans hin)
        have CB := HCB.out _ HI
        clear hc hin hp hE HCB HI pk
        generalize (Ls.getD k si0).2.1 = R at *
        generalize (Ls.getD k si0).1 = Ay at *
        generalize (Ls.getD k si0).2.2 = ky at *
        go_wp2_with (go_at_call 112; refine CB.mono ?_; rintro e w' ⟨rfl, rfl⟩)
        go_round
        case rel => exact ⟨k + 1, by omega, by go_num, HX2⟩
        case measure => simp [intOf]; omega
    · have HF : Hid (okTo (gRowB (heldI Ls) n) Ls.length = true) := by
        have := HX.out
        rw [show k = Ls.length by omega] at this
        exact this
      go_wp2
      go_ret
      exact ⟨-1, rfl, rfl, by rw [HF.out]; rfl, by omega, by omega⟩
theorem containsRow_any (A : Option Addr) (Ls : List SlI) (c Z n : Nat) (w : World) (hp : ISAt w w.heap.size A Ls) (hn : Ls.length ≤ 1048576) (hls : ∀ i, i < Ls.length → (Ls.getD i si0).2.1.length ≤ 1048576) (hm : n ≤ 8) (hz : w.cell? ⟨Z, 0, none⟩ = some (.int .i64 n)) :
    Calls Try.prog 111 #[.slice A Ls.length c, .func (.func 112) #[] #[.pointer (some ⟨Z, 0, none⟩)]] w fun e w' => e = .returned (.bool (!okTo (gRowB (heldI Ls) n) Ls.length)) ∧ w = w' := by
  go_enter Try.func111, Try.ntmps111
  go_wp2_with fail
  refine (indexRow_any _ _ _ _ _ _ hp hn hls hm hz).mono ?_
  rintro e w' ⟨r, rfl, rfl, hd, h1, h2⟩
  have HD := Lib.hid hd
  clear hd
  go_wp2
  go_ret
  exact ⟨retB HD.out, rfl⟩
theorem new_cellG (w : World) (V : Value) (t : TypeId) : (w.alloc (.cells #[V] t)).cell? ⟨w.heap.size, 0, none⟩ = some V := by go_simp
theorem areRooms_any (A : Option Addr) (Ls : List SlI) (c h n : Nat) (hI nI : Int) (w : World) (hp : ISAt w w.heap.size A Ls) (hl : Ls.length ≤ 1048576) (hls : ∀ i, i < Ls.length → (Ls.getD i si0).2.1.length ≤ 1048576) (hm : n ≤ 8) (eh : hI = (h : Int)) (en : nI = (n : Int)) :
    Calls Try.prog 76 #[.slice A Ls.length c, .int .i64 hI, .int .i64 nI] w fun e w' => e = .returned (.bool (gRowsB (heldI Ls) h n)) ∧ Below w.heap.size w w' := by
  subst eh en
  have hlI : (Ls.length : Int) ≤ 1048576 := by omega
  have hmf : ∀ (fn : Fn) (first cap : Array Value) (w : World), (Instr.makeFunc fn first cap).run Try.prog w = .ok (.func fn first cap) w := fun _ _ _ _ => rfl
  have hx : Below w.heap.size w (w.alloc (.cells #[.int .i64 (n : Int)] 2)) := by (repeat (first | assumption | exact Below.refl _ _ | (refine bl_alloc ?_ _) | (refine Below.drew ?_) | (refine bl_drewN ?_ _) | (refine bl_set ?_ (by first | (simp; done) | omega | (simp; omega)) _) | (refine bl_trans ?_ (by assumption)) | (refine bl_step ?_ (by assumption) (by first | omega | exact Below.size (by assumption) | (simp; omega) | (simp; exact Below.size (by assumption))))))
  by_cases hL : Ls.length = h
  · subst hL
    have R : Hid (gRowsB (heldI Ls) Ls.length n = okTo (gRowB (heldI Ls) n) Ls.length) := by
      show _ = _
      unfold gRowsB; rw [heldI_len, decide_eq_true rfl]; rfl
    have cc := containsRow_any A Ls c w.heap.size n _ (hp.to hx) hl hls hm (new_cellG w (.int .i64 (n : Int)) 2)
    have hne : ((Ls.length : Int) == (Ls.length : Int)) = true := by simp
    rw [R.out]
    generalize okTo (gRowB (heldI Ls) n) Ls.length = b at *
    clear hp hls R
    go_enter Try.func76, Try.ntmps76
    go_wp2_with fail
    refine cc.mono ?_
    rintro e w' ⟨rfl, rfl⟩
    go_wp2
    go_ret
    exact ⟨by simp, hx⟩
  · have R : Hid (gRowsB (heldI Ls) h n = false) := gRowsB_len (by rw [heldI_len]; exact hL)
    have hne : ((Ls.length : Int) == (h : Int)) = false := by simp; omega
    rw [R.out]
    clear hp hls hL
    go_enter Try.func76, Try.ntmps76
    go_wp2
    go_ret
    exact ⟨rfl, hx⟩
set_option maxHeartbeats 800000 in
theorem width_any (b off cA c0' : Nat) (A0 : Option Addr) (L n : Nat) (AU : Option Addr) (lU cU : Nat) (w : World) (d0 : w.cell? ⟨b, off, none⟩ = some (.slice A0 n c0')) (h0 : 0 < L) (hn : n ≤ 1048576) (hb : b < w.heap.size) :
    Calls Try.prog 73 #[.agg #[.slice (some ⟨b, off, none⟩) L cA, .slice AU lU cU]] w fun e w' => e = .returned (.int .i64 ((n : Int) + 1)) ∧ Below w.heap.size w w' := by
  have hnI : (n : Int) ≤ 1048576 := by omega
  have h0I : (0 : Int) < (L : Int) := by omega
  have hx : Below w.heap.size w (w.alloc (.cells #[.slice (some ⟨b, off, none⟩) L cA, .slice AU lU cU] 53)) := by (repeat (first | assumption | exact Below.refl _ _ | (refine bl_alloc ?_ _) | (refine Below.drew ?_) | (refine bl_drewN ?_ _) | (refine bl_set ?_ (by first | (simp; done) | omega | (simp; omega)) _) | (refine bl_trans ?_ (by assumption)) | (refine bl_step ?_ (by assumption) (by first | omega | exact Below.size (by assumption) | (simp; omega) | (simp; exact Below.size (by assumption))))))
  go_enter Try.func73, Try.ntmps73
  go_wp2
  go_ret
  exact ⟨rfl, hx⟩
set_option maxHeartbeats 800000 in
theorem height_any (A : Option Addr) (cA L : Nat) (AU : Option Addr) (lU cU : Nat) (w : World) :
    Calls Try.prog 74 #[.agg #[.slice A L cA, .slice AU lU cU]] w fun e w' => e = .returned (.int .i64 (L : Int)) ∧ Below w.heap.size w w' := by
  have hx : Below w.heap.size w (w.alloc (.cells #[.slice A L cA, .slice AU lU cU] 53)) := by (repeat (first | assumption | exact Below.refl _ _ | (refine bl_alloc ?_ _) | (refine Below.drew ?_) | (refine bl_drewN ?_ _) | (refine bl_set ?_ (by first | (simp; done) | omega | (simp; omega)) _) | (refine bl_trans ?_ (by assumption)) | (refine bl_step ?_ (by assumption) (by first | omega | exact Below.size (by assumption) | (simp; omega) | (simp; exact Below.size (by assumption))))))
  go_enter Try.func74, Try.ntmps74
  go_wp2
  go_ret
  exact ⟨rfl, hx⟩
end Go.Proofs.Ytijnjcamfbnmgaa
