/-
  Contracts: what bundles, orders and shields are required to be, as the program has it.
-/
import Derived.Test.YtifenbamookmiaaDoorBunI
import Derived.Test.YtifenbamookmiaaDoorMaskB
import Derived.Test.YtifenbamookmiaaDoorPan
namespace Go.Proofs.YtifenbamookmiaaDoor
set_option linter.unusedSimpArgs false
set_option linter.unusedVariables false
open Go.ChangeShapes Go.WideShapes Go.ChangeAt Go.RowKit Go.BigFrame

abbrev buV (A : Option Addr) (n c : Nat) : Value := .agg #[.slice A n c]
abbrev loV (A : Option Addr) (n c : Nat) (AO : Option Addr) (m cO v : Nat) : Value := .agg #[.slice A n c, .slice AO m cO, .int .u64 (v : Int)]
theorem wires_any (A : Option Addr) (n c : Nat) (w : World) :
    Calls Tryd.prog 40 #[.agg #[.slice A n c]] w fun e w' => e = .returned (.int .i64 (n : Int)) ∧ Below w.heap.size w w' := by
  go_enter Tryd.func40, Tryd.ntmps40
  go_wp2
  go_ret
  exact ⟨rfl, by (repeat (first | assumption | exact Below.refl _ _ | (refine bl_alloc ?_ _) | (refine Below.drew ?_) | (refine bl_drewN ?_ _) | (refine bl_set ?_ (by first | (simp; done) | omega | (simp; omega)) _) | (refine bl_trans ?_ (by assumption)) | (refine bl_step ?_ (by assumption) (by first | omega | exact Below.size (by assumption) | (simp; omega) | (simp; exact Below.size (by assumption))))))⟩
def allP (_ : Nat) : Bool := true
def gapP (j : Nat) : Bool := decide (j ≠ 0)
theorem wall_any (A : Option Addr) (n c : Nat) (w : World) (hn : n ≤ 60) :
    Calls Tryd.prog 70 #[.agg #[.slice A n c]] w fun e w' => e = .returned (.int .u64 (maskTo allP n : Nat)) ∧ Below w.heap.size w w' := by
  have hx : Below w.heap.size w (w.alloc (.cells #[.slice A n c] 53)) := by (repeat (first | assumption | exact Below.refl _ _ | (refine bl_alloc ?_ _) | (refine Below.drew ?_) | (refine bl_drewN ?_ _) | (refine bl_set ?_ (by first | (simp; done) | omega | (simp; omega)) _) | (refine bl_trans ?_ (by assumption)) | (refine bl_step ?_ (by assumption) (by first | omega | exact Below.size (by assumption) | (simp; omega) | (simp; exact Below.size (by assumption))))))
  have hw : IntKind.u64.wrap (((2 ^ n : Nat) : Int) - 1) = ((maskTo allP n : Nat) : Int) := by
    have h64 : 2 ^ n < 18446744073709551616 := Nat.pow_lt_pow_right (a := 2) (m := n) (n := 64) (by omega) (by omega)
    have h0 : 0 < 2 ^ n := Nat.two_pow_pos n
    rw [show maskTo allP n = 2 ^ n - 1 from mask_full n, IntKind.wrap_u64]
    omega
  have HW := Lib.hid hw
  clear hw
  go_enter Tryd.func70, Tryd.ntmps70
  go_wp2_with fail
  refine (wires_any _ _ _ _).mono ?_
  rintro e w1 ⟨rfl, hb1⟩
  go_wp2_with fail
  refine (bitsetOf_any n (by omega) _).mono ?_
  rintro e w2 ⟨rfl, rfl⟩
  have b1 := bl_step hx hb1 hx.size
  obtain ⟨v, hv⟩ : ∃ v, 2 ^ n = v := ⟨_, rfl⟩
  rw [hv] at HW ⊢
  go_wp2
  go_ret
  exact ⟨by rw [← HW.out]; rfl, b1⟩
theorem gaps_any (A : Option Addr) (n c : Nat) (w : World) (h1 : 1 ≤ n) (hn : n ≤ 60) :
    Calls Tryd.prog 65 #[.agg #[.slice A n c]] w fun e w' => e = .returned (.int .u64 (maskTo gapP n : Nat)) ∧ Below w.heap.size w w' := by
  have hx : Below w.heap.size w (w.alloc (.cells #[.slice A n c] 53)) := by (repeat (first | assumption | exact Below.refl _ _ | (refine bl_alloc ?_ _) | (refine Below.drew ?_) | (refine bl_drewN ?_ _) | (refine bl_set ?_ (by first | (simp; done) | omega | (simp; omega)) _) | (refine bl_trans ?_ (by assumption)) | (refine bl_step ?_ (by assumption) (by first | omega | exact Below.size (by assumption) | (simp; omega) | (simp; exact Below.size (by assumption))))))
  have hg : bits .andNot .u64 (maskTo allP n : Int) 1 = (maskTo gapP n : Int) := by
    rw [show (1 : Int) = ((2 ^ 0 : Nat) : Int) from rfl, ← mask_one (show 0 < n by omega), mask_less _ _ (by omega)]
    congr 2
    funext j
    simp [allP, gapP]
  have HG := Lib.hid hg
  clear hg
  go_enter Tryd.func65, Tryd.ntmps65
  go_wp2_with fail
  refine (wall_any _ _ _ _ hn).mono ?_
  rintro e w1 ⟨rfl, hb1⟩
  have b1 := bl_step hx hb1 hx.size
  go_wp2_with fail
  refine (bitsetOf_any 0 (by omega) _).mono ?_
  rintro e w2 ⟨rfl, rfl⟩
  go_wp2
  go_ret
  exact ⟨by rw [← HG.out]; rfl, b1⟩
theorem inOrder_any (A : Option Addr) (n c : Nat) (AO : Option Addr) (m cO : Nat) (w : World) :
    Calls Tryd.prog 73 #[.agg #[.slice A n c], .slice AO m cO] w fun e w' => e = .returned (.agg #[.slice A n c, .slice AO m cO, .int .u64 0]) ∧ Below w.heap.size w w' := by
  go_enter Tryd.func73, Tryd.ntmps73
  go_wp2
  refine bodyPost_ret_by (v := .agg #[.slice A n c, .slice AO m cO, .int .u64 0]) ?_ rfl ⟨rfl, by (repeat (first | assumption | exact Below.refl _ _ | (refine bl_alloc ?_ _) | (refine Below.drew ?_) | (refine bl_drewN ?_ _) | (refine bl_set ?_ (by first | (simp; done) | omega | (simp; omega)) _) | (refine bl_trans ?_ (by assumption)) | (refine bl_step ?_ (by assumption) (by first | omega | exact Below.size (by assumption) | (simp; omega) | (simp; exact Below.size (by assumption))))))⟩
  simp [results, Tryd.results73, go_sem]

def ReqBRes (A : Option Addr) (B : Mz) (n c : Nat) (w : World) (e : Ending) (w' : World) : Prop :=
  ((bnB B = true ∧ e = .returned (buV A n c)) ∨ (bnB B = false ∧ Pan e)) ∧ Below w.heap.size w w'
set_option maxHeartbeats 800000 in
theorem requireBundle_any (A : Option Addr) (Ls : List SlI) (c : Nat) (w : World) (hp : ISAt w w.heap.size A Ls) (hn : Ls.length ≤ 1048576) (hl : ∀ i, i < Ls.length → (Ls.getD i si0).2.1.length ≤ 1048576) :
    Calls Tryd.prog 46 #[.agg #[.slice A Ls.length c]] w (ReqBRes A (heldI Ls) Ls.length c w) := by
  have hx : Below w.heap.size w ((w.alloc (.cells #[.slice A Ls.length c] 29)).alloc (.cells #[.slice none 0 0] 53)) := by (repeat (first | assumption | exact Below.refl _ _ | (refine bl_alloc ?_ _) | (refine Below.drew ?_) | (refine bl_drewN ?_ _) | (refine bl_set ?_ (by first | (simp; done) | omega | (simp; omega)) _) | (refine bl_trans ?_ (by assumption)) | (refine bl_step ?_ (by assumption) (by first | omega | exact Below.size (by assumption) | (simp; omega) | (simp; exact Below.size (by assumption))))))
  have CV := Lib.hid (ValidBundleI_any A Ls c ((w.alloc (.cells #[.slice A Ls.length c] 29)).alloc (.cells #[.slice none 0 0] 53)) (hp.to hx) hn hl)
  clear hp hl
  cases hv : bnB (heldI Ls)
  · have HV := Lib.hid hv
    rw [hv] at CV
    clear hv
    generalize Ls.length = n at *
    go_enter Tryd.func46, Tryd.ntmps46
    go_wp2_with fail
    refine CV.out.mono ?_
    rintro e w1 ⟨rfl, hb1⟩
    have b1 := bl_step hx hb1 hx.size
    go_wp2_with fail
    refine (require_no _).mono ?_
    rintro e w2 ⟨⟨u, pv, rfl⟩, rfl⟩
    go_wp2
    exact ⟨rfl, .inr ⟨HV.out, _, _, rfl⟩, b1⟩
  · have HV := Lib.hid hv
    rw [hv] at CV
    clear hv
    obtain ⟨n, hnn⟩ : ∃ n, Ls.length = n := ⟨_, rfl⟩
    have HNN := Lib.hid hnn
    rw [hnn] at CV hx
    rw [hnn]
    clear hn hnn
    have kB : Blk ((w.alloc (.cells #[.slice A n c] 29)).alloc (.cells #[.slice none 0 0] 53)) w.heap.size #[.slice A n c] 29 := (Blk.new _ _ _).alloc _
    have kR : Blk ((w.alloc (.cells #[.slice A n c] 29)).alloc (.cells #[.slice none 0 0] 53)) (w.heap.size + 1) #[.slice none 0 0] 53 := by
      have := Blk.new (w.alloc (.cells #[.slice A n c] 29)) #[.slice none 0 0] 53
      rwa [World.size_alloc] at this
    go_enter Tryd.func46, Tryd.ntmps46
    go_wp2_with fail
    refine CV.out.mono ?_
    rintro e w1 ⟨rfl, hb1⟩
    have b1 := bl_step hx hb1 hx.size
    replace kB := kB.to hb1
    replace kR := kR.to hb1
    clear CV hb1 hx
    go_wp2_with fail
    refine (require_yes _).mono ?_
    rintro e w2 ⟨rfl, rfl⟩
    have s0 := kB.cell 0 (v := .slice A n c) rfl
    have r0 := kR.cell 0 (v := .slice none 0 0) rfl
    have f0 := kR.frozen 0
    go_wp2
    have kE := kR.set 0 (.slice A n c)
    have e0 := kE.cell 0 (v := .slice A n c) rfl
    refine bodyPost_ret_by (v := buV A n c) ?_ rfl ⟨.inl ⟨HV.out, rfl⟩, b1.setCell (p := ⟨w.heap.size + 1, 0, none⟩) (by simp) _⟩
    simp [results, Tryd.results46, go_sem, e0]

def ReqORes (A : Option Addr) (n c : Nat) (AO : Option Addr) (L : List Int) (m cO : Nat) (w : World) (e : Ending) (w' : World) : Prop :=
  ((orB n L = true ∧ e = .returned (.agg #[.slice A n c, .slice AO m cO, .int .u64 0])) ∨ (orB n L = false ∧ Pan e)) ∧ Below w.heap.size w w'
theorem step_has {n k : Nat} {L : List Int} {x : Int} (hx : L.getD k 0 = x) (hn : n ≤ 60) : (decide (0 ≤ x) && (maskTo (leftP L k) n).testBit x.toNat) = stepB n L k := by
  rw [mask_testBit]
  unfold stepB leftP
  rw [hx]
  by_cases h0 : 0 ≤ x
  · obtain ⟨j, rfl⟩ : ∃ j : Nat, x = j := ⟨x.toNat, by omega⟩
    rw [decide_eq_true h0, Int.toNat_natCast]
    by_cases hj : j < n
    · rw [decide_eq_true hj, inB_t h0 (by omega)]; simp
    · rw [decide_eq_false hj, inB_f (by omega)]; simp
  · rw [decide_eq_false h0, inB_f (by omega)]; simp
theorem left_next {n k x : Nat} {L : List Int} (hx : L.getD k 0 = (x : Int)) (hxn : x < n) (hn : n ≤ 60) : bits .andNot .u64 (maskTo (leftP L k) n : Int) ((2 ^ x : Nat) : Int) = (maskTo (leftP L (k + 1)) n : Int) := by
  rw [← mask_one hxn, mask_less _ _ (by omega), mask_congr]
  intro j _
  unfold leftP
  rw [newB_next, hx]
  by_cases e : j = x
  · subst e; simp
  · have : decide ((x : Int) ≠ (j : Int)) = true := decide_eq_true (by omega)
    rw [this, decide_eq_false e]; rfl
set_option maxRecDepth 100000 in
set_option maxHeartbeats 3200000 in
theorem requireOrder_any (A : Option Addr) (n c : Nat) (AO : Option Addr) (L : List Int) (cO : Nat) (w : World) (hn : n ≤ 9) (hL : IntsAt w w.heap.size AO L) (lL : L.length ≤ 1048576) :
    Calls Tryd.prog 47 #[.agg #[.slice A n c], .slice AO L.length cO] w (ReqORes A n c AO L L.length cO w) := by
  have lLI : (L.length : Int) ≤ 1048576 := by omega
  have hx : Below w.heap.size w ((w.alloc (.cells #[.slice A n c] 53)).alloc (.cells #[.slice none 0 0, .slice none 0 0, .int .u64 0] 57)) := by (repeat (first | assumption | exact Below.refl _ _ | (refine bl_alloc ?_ _) | (refine Below.drew ?_) | (refine bl_drewN ?_ _) | (refine bl_set ?_ (by first | (simp; done) | omega | (simp; omega)) _) | (refine bl_trans ?_ (by assumption)) | (refine bl_step ?_ (by assumption) (by first | omega | exact Below.size (by assumption) | (simp; omega) | (simp; exact Below.size (by assumption))))))
  have kB : Blk ((w.alloc (.cells #[.slice A n c] 53)).alloc (.cells #[.slice none 0 0, .slice none 0 0, .int .u64 0] 57)) w.heap.size #[.slice A n c] 53 := (Blk.new _ _ _).alloc _
  have kR : Blk ((w.alloc (.cells #[.slice A n c] 53)).alloc (.cells #[.slice none 0 0, .slice none 0 0, .int .u64 0] 57)) (w.heap.size + 1) #[.slice none 0 0, .slice none 0 0, .int .u64 0] 57 := by
    have := Blk.new (w.alloc (.cells #[.slice A n c] 53)) #[.slice none 0 0, .slice none 0 0, .int .u64 0] 57
    rwa [World.size_alloc] at this
  have HX : Hid (∀ i, i < L.length → ∃ b off, AO = some ⟨b, off, none⟩ ∧ b < w.heap.size ∧ w.cell? ⟨b, off + i, none⟩ = some (.int .i64 (L.getD i 0))) := fun i hi => by
    obtain ⟨b, off, e, hb, hc⟩ := hL (by omega)
    exact ⟨b, off, e, hb, hc i hi⟩
  obtain ⟨m, hm⟩ : ∃ m, L.length = m := ⟨_, rfl⟩
  have HM := Lib.hid hm
  have HO := Lib.hid (fun h => orB_left (n := n) (L := L) h)
  rw [hm] at HX lLI HO
  rw [hm]
  clear hL lL hm
  go_enter Tryd.func47, Tryd.ntmps47
  go_wp2_with fail
  generalize ((w.alloc (.cells #[.slice A n c] 53)).alloc (.cells #[.slice none 0 0, .slice none 0 0, .int .u64 0] 57)) = w0 at *
  refine (wall_any _ _ _ _ (by omega)).mono ?_
  rintro e w1 ⟨rfl, hb1⟩
  have b1 := bl_step hx hb1 hx.size
  replace kB := kB.to hb1
  replace kR := kR.to hb1
  clear hb1 hx
  have h0 : maskTo allP n = maskTo (leftP L 0) n := rfl
  rw [h0]
  clear h0
  go_wp2
  go_loopw [5, 7, 12] (fun v _ i wr => ∃ k : Nat, k ≤ m ∧ i = .int .i64 k ∧ v = .int .u64 (maskTo (leftP L k) n : Nat) ∧ Hid (okTo (stepB n L) k = true) ∧ wr = w1) (fun _ _ i _ => m - (intOf i).toNat)
  case atStart => exact ⟨0, Nat.zero_le _, rfl, rfl, rfl, rfl⟩
  case round =>
    obtain ⟨k, hk, rfl, rfl, HA, rfl⟩ := hrel
    have hk0 : (0 : Int) ≤ (k : Int) := by omega
    by_cases hlt : k < m
    case neg =>
      obtain rfl : k = m := by omega
      have HOO := HO.out HA.out
      have hz := mask_zero_eq (p := leftP L k) (k := n)
      rw [← HOO] at hz
      obtain ⟨M, hMM⟩ : ∃ M, maskTo (leftP L k) n = M := ⟨_, rfl⟩
      rw [hMM] at hz ⊢
      have HZ := Lib.hid hz
      clear hz hMM HO HOO
      cases ho : orB n L
      · have HOF := Lib.hid ho
        rw [ho] at HZ
        clear ho
        go_wp2_with fail
        rw [HZ.out]
        refine (require_no _).mono ?_
        rintro e w2 ⟨⟨u, pv, rfl⟩, rfl⟩
        go_wp2
        exact ⟨rfl, .inr ⟨HOF.out, _, _, rfl⟩, b1⟩
      · have HOT := Lib.hid ho
        rw [ho] at HZ
        clear ho
        go_wp2_with fail
        rw [HZ.out]
        refine (require_yes _).mono ?_
        rintro e w2 ⟨rfl, rfl⟩
        have s0 := kB.cell 0 (v := .slice A n c) rfl
        go_wp2_with fail
        refine (inOrder_any _ _ _ _ _ _ _).mono ?_
        rintro e w2 ⟨rfl, hb2⟩
        have b2 := bl_step b1 hb2 b1.size
        replace kR := kR.to hb2
        have r0 := kR.cell 0 (v := .slice none 0 0) rfl
        have r1 := kR.cell 1 (v := .slice none 0 0) rfl
        have r2 := kR.cell 2 (v := .int .u64 0) rfl
        have f0 := kR.frozen 0
        have f1 := kR.frozen 1
        have f2 := kR.frozen 2
        clear hb2
        go_wp2
        have kE := ((kR.set 0 (.slice A n c)).set 1 (.slice AO k cO)).set 2 (.int .u64 0)
        have bE := ((b2.setCell (p := ⟨w.heap.size + 1, 0, none⟩) (by simp) (.slice A n c)).setCell (p := ⟨w.heap.size + 1, 1, none⟩) (by simp) (.slice AO k cO)).setCell (p := ⟨w.heap.size + 1, 2, none⟩) (by simp) (.int .u64 0)
        generalize (((w2.setCell ⟨w.heap.size + 1, 0, none⟩ (.slice A n c)).setCell ⟨w.heap.size + 1, 1, none⟩ (.slice AO k cO)).setCell ⟨w.heap.size + 1, 2, none⟩ (.int .u64 0)) = wE at *
        have e0 := kE.cell 0 (v := .slice A n c) (by simp)
        have e1 := kE.cell 1 (v := .slice AO k cO) (by simp)
        have e2 := kE.cell 2 (v := .int .u64 0) (by simp)
        refine bodyPost_ret_by (v := .agg #[.slice A n c, .slice AO k cO, .int .u64 0]) ?_ rfl ⟨.inl ⟨HOT.out, rfl⟩, bE⟩
        simp [results, Tryd.results47, go_sem, e0, e1, e2]
    have hkI : (k : Int) < (m : Int) := by omega
    obtain ⟨b, off, rfl, hbB, hc⟩ := HX.out k hlt
    have dk := (b1.cell (p := ⟨b, off + k, none⟩) hbB).trans hc
    have h64 := mask_64 (leftP L k) (show n ≤ 63 by omega)
    obtain ⟨x, hxx⟩ : ∃ x, L.getD k 0 = x := ⟨_, rfl⟩
    have HH := Lib.hid (step_has hxx (show n ≤ 60 by omega))
    rw [hxx] at dk
    have HXK := Lib.hid hxx
    clear hc hxx
    cases hst : stepB n L k
    · have R : Hid (orB n L = false) := orB_step (by rw [HM.out]; exact hlt) hst
      rw [hst] at HH
      clear hst HO
      go_wp2_with fail
      refine (bhas_any _ h64 _ _ HH _).mono ?_
      rintro e w2 ⟨rfl, rfl⟩
      go_wp2_with fail
      refine (require_no _).mono ?_
      rintro e w2 ⟨⟨u, pv, rfl⟩, rfl⟩
      go_wp2
      exact ⟨rfl, .inr ⟨R.out, _, _, rfl⟩, b1⟩
    · have HN : Hid (okTo (stepB n L) (k + 1) = true) := okTo_next HA.out hst
      have hin : inB x 0 ((n : Int) - 1) = true := by
        have := hst
        unfold stepB at this
        rw [HXK.out, Bool.and_eq_true] at this
        exact this.1
      have hxr : 0 ≤ x ∧ x ≤ (n : Int) - 1 := of_decide_eq_true hin
      obtain ⟨x, rfl⟩ : ∃ y : Nat, x = y := ⟨x.toNat, by omega⟩
      have hxn : x < n := by omega
      have HL := Lib.hid (left_next HXK.out hxn (show n ≤ 60 by omega))
      rw [hst] at HH
      clear hst HO hin hxr
      obtain ⟨M, hMM⟩ : ∃ M, maskTo (leftP L k) n = M := ⟨_, rfl⟩
      obtain ⟨M2, hMM2⟩ : ∃ M2, maskTo (leftP L (k + 1)) n = M2 := ⟨_, rfl⟩
      rw [hMM] at HL HH h64 ⊢
      rw [hMM2] at HL
      have HM2 := Lib.hid hMM2
      clear hMM hMM2
      go_wp2_with fail
      refine (bhas_any _ h64 _ _ HH _).mono ?_
      rintro e w2 ⟨rfl, rfl⟩
      go_wp2_with fail
      refine (require_yes _).mono ?_
      rintro e w2 ⟨rfl, rfl⟩
      go_wp2_with fail
      refine (bitsetOf_any x (by omega) _).mono ?_
      rintro e w2 ⟨rfl, rfl⟩
      have HL' := HL.out
      generalize ((2 ^ x : Nat) : Int) = X at *
      go_wp2
      go_roundw
      case rel => exact ⟨k + 1, by omega, by go_num, by rw [HM2.out], HN, (by first | rfl | trivial)⟩
      case measure => simp [intOf]; omega
end Go.Proofs.YtifenbamookmiaaDoor
