/-
  Contracts: shields, and the whole layout, as the program requires them.
-/
import Derived.Test.YtifenbamookmiaaDoorLayoI
import Derived.Test.YtifenbamookmiaaDoorAttemptL
namespace Go.Proofs.YtifenbamookmiaaDoor
set_option linter.unusedSimpArgs false
set_option linter.unusedVariables false
open Go.ChangeShapes Go.WideShapes Go.ChangeAt Go.RowKit Go.BigFrame

/-- The shields among the first k. -/
def inP (S : List Int) (k j : Nat) : Bool := !newB S k (j : Int)
theorem gap_has {n : Nat} {x : Int} (h1 : 1 ≤ n) : (decide (0 ≤ x) && (maskTo gapP n).testBit x.toNat) = inB x 1 ((n : Int) - 1) := by
  rw [mask_testBit]
  unfold gapP
  by_cases h0 : 0 ≤ x
  · obtain ⟨j, rfl⟩ : ∃ j : Nat, x = j := ⟨x.toNat, by omega⟩
    rw [decide_eq_true h0, Int.toNat_natCast]
    by_cases hj : j < n
    · by_cases hz : j = 0
      · subst hz; rw [inB_f (by omega)]; simp
      · rw [decide_eq_true hj, inB_t (by omega) (by omega), decide_eq_true hz]; rfl
    · rw [decide_eq_false hj, inB_f (by omega)]; simp
  · rw [decide_eq_false h0, inB_f (by omega)]; simp
theorem mask_shr {p : Nat → Bool} {n x : Nat} : ((maskTo p n : Int) / 2 ^ x == 0) = decide (∀ j, j < n → x ≤ j → p j = false) := by
  have e : (maskTo p n : Int) / 2 ^ x = ((maskTo p n / 2 ^ x : Nat) : Int) := by simp
  rw [e, Bool.eq_iff_iff, beq_iff_eq, decide_eq_true_eq]
  have h0 : 0 < 2 ^ x := Nat.two_pow_pos x
  constructor
  · intro h j hn hj
    have h2 : maskTo p n / 2 ^ x = 0 := by omega
    rw [Nat.div_eq_zero_iff] at h2
    have h3 : maskTo p n < 2 ^ x := by omega
    have h4 : (maskTo p n).testBit j = false := Nat.testBit_lt_two_pow (Nat.lt_of_lt_of_le h3 (Nat.pow_le_pow_right (by omega) hj))
    rw [mask_testBit, decide_eq_true hn] at h4
    simpa using h4
  · intro h
    have h3 : maskTo p n < 2 ^ x := by
      refine Nat.lt_pow_two_of_testBit _ fun i hi => ?_
      rw [mask_testBit]
      by_cases hn : i < n
      · rw [h i hn hi]; simp
      · rw [decide_eq_false hn]; rfl
    rw [Nat.div_eq_of_lt h3]; rfl
theorem shd_shr {n k x : Nat} {S : List Int} (h : okTo (shdB n S) k = true) : decide (∀ j, j < n → x ≤ j → inP S k j = false) = okTo (fun t => decide (S.getD t 0 < (x : Int))) k := by
  rw [Bool.eq_iff_iff, decide_eq_true_eq, okTo_iff]
  constructor
  · intro hj t ht
    have h1 := okTo_iff.1 h t ht
    simp only [shdB, Bool.and_eq_true, inB, decide_eq_true_eq] at h1
    rw [decide_eq_true_eq]
    by_cases hlt : S.getD t 0 < (x : Int)
    · exact hlt
    · have := hj (S.getD t 0).toNat (by omega) (by omega)
      unfold inP at this
      rw [Bool.not_eq_false', newB_iff] at this
      have := this t ht
      omega
  · intro ht j _ hx
    unfold inP
    rw [Bool.not_eq_false', newB_iff]
    intro t h2
    have := ht t h2
    rw [decide_eq_true_eq] at this
    omega
theorem in_next {n k x : Nat} {S : List Int} (hx : S.getD k 0 = (x : Int)) (hxn : x < n) (hn : n ≤ 60) : bits .or .u64 (maskTo (inP S k) n : Int) ((2 ^ x : Nat) : Int) = (maskTo (inP S (k + 1)) n : Int) := by
  rw [← mask_one hxn, mask_or _ _ (by omega), mask_congr]
  intro j _
  unfold inP
  rw [newB_next, hx]
  by_cases e : j = x
  · subst e; simp
  · have : decide ((x : Int) ≠ (j : Int)) = true := decide_eq_true (by omega)
    rw [this, decide_eq_false e]; simp

/-- The set of shields. -/
def shM (n : Nat) (S : List Int) : Nat := maskTo (inP S S.length) n
def ReqSRes (A : Option Addr) (n c : Nat) (AO : Option Addr) (m cO M : Nat) (S : List Int) (w : World) (e : Ending) (w' : World) : Prop :=
  ((shB n S = true ∧ e = .returned (loV A n c AO m cO M)) ∨ (shB n S = false ∧ Pan e)) ∧ Below w.heap.size w w'
set_option maxRecDepth 100000 in
set_option maxHeartbeats 3200000 in
theorem requireShields_any (A : Option Addr) (n c : Nat) (AO : Option Addr) (m cO : Nat) (AS : Option Addr) (S : List Int) (cS : Nat) (w : World) (h1 : 1 ≤ n) (hn : n ≤ 9) (hS : IntsAt w w.heap.size AS S) (lS : S.length ≤ 1048576) (MM : Nat) (HMM : Hid (shM n S = MM)) :
    Calls Tryd.prog 64 #[.agg #[.slice A n c, .slice AO m cO, .int .u64 0], .slice AS S.length cS] w (ReqSRes A n c AO m cO MM S w) := by
  have lSI : (S.length : Int) ≤ 1048576 := by omega
  have hx : Below w.heap.size w ((w.alloc (.cells #[.slice A n c, .slice AO m cO, .int .u64 0] 57)).alloc (.cells #[.slice none 0 0, .slice none 0 0, .int .u64 0] 57)) := by (repeat (first | assumption | exact Below.refl _ _ | (refine bl_alloc ?_ _) | (refine Below.drew ?_) | (refine bl_drewN ?_ _) | (refine bl_set ?_ (by first | (simp; done) | omega | (simp; omega)) _) | (refine bl_trans ?_ (by assumption)) | (refine bl_step ?_ (by assumption) (by first | omega | exact Below.size (by assumption) | (simp; omega) | (simp; exact Below.size (by assumption))))))
  have kB : Blk ((w.alloc (.cells #[.slice A n c, .slice AO m cO, .int .u64 0] 57)).alloc (.cells #[.slice none 0 0, .slice none 0 0, .int .u64 0] 57)) w.heap.size #[.slice A n c, .slice AO m cO, .int .u64 (maskTo (inP S 0) n : Nat)] 57 := by
    have e : maskTo (inP S 0) n = 0 := by
      have h : ∀ n, maskTo (inP S 0) n = 0 := fun n => by
        induction n with
        | zero => rfl
        | succ n ih => rw [maskTo_f (by rfl), ih]
      exact h n
    rw [e]
    exact (Blk.new _ _ _).alloc _
  have kR : Blk ((w.alloc (.cells #[.slice A n c, .slice AO m cO, .int .u64 0] 57)).alloc (.cells #[.slice none 0 0, .slice none 0 0, .int .u64 0] 57)) (w.heap.size + 1) #[.slice none 0 0, .slice none 0 0, .int .u64 0] 57 := by
    have := Blk.new (w.alloc (.cells #[.slice A n c, .slice AO m cO, .int .u64 0] 57)) #[.slice none 0 0, .slice none 0 0, .int .u64 0] 57
    rwa [World.size_alloc] at this
  have HX : Hid (∀ i, i < S.length → ∃ b off, AS = some ⟨b, off, none⟩ ∧ b < w.heap.size ∧ w.cell? ⟨b, off + i, none⟩ = some (.int .i64 (S.getD i 0))) := fun i hi => by
    obtain ⟨b, off, e, hb, hc⟩ := hS (by omega)
    exact ⟨b, off, e, hb, hc i hi⟩
  obtain ⟨l, hl⟩ : ∃ l, S.length = l := ⟨_, rfl⟩
  have HLn := Lib.hid hl
  rw [hl] at HX lSI
  rw [hl]
  clear hS lS hl
  have hn9 : (n : Int) ≤ 9 := by omega
  go_enter Tryd.func64, Tryd.ntmps64
  go_wp2
  generalize ((w.alloc (.cells #[.slice A n c, .slice AO m cO, .int .u64 0] 57)).alloc (.cells #[.slice none 0 0, .slice none 0 0, .int .u64 0] 57)) = w0 at *
  go_loopw [6, 9] (fun _ i wr => ∃ k : Nat, k ≤ l ∧ i = .int .i64 k ∧ Hid (okTo (shdB n S) k = true) ∧ Hid (Blk wr w.heap.size #[.slice A n c, .slice AO m cO, .int .u64 (maskTo (inP S k) n : Nat)] 57) ∧ Hid (Blk wr (w.heap.size + 1) #[.slice none 0 0, .slice none 0 0, .int .u64 0] 57) ∧ Below w.heap.size w wr) (fun _ i _ => l - (intOf i).toNat)
  case atStart => exact ⟨0, Nat.zero_le _, rfl, rfl, kB, kR, hx⟩
  case round =>
    clear kB kR hx
    obtain ⟨k, hk, rfl, HA, HB, HR, hb⟩ := hrel
    have hk0 : (0 : Int) ≤ (k : Int) := by omega
    have kB := HB.out
    have kR := HR.out
    clear HB HR
    have lB := kB.lt
    by_cases hlt : k < l
    case neg =>
      obtain rfl : k = l := by omega
      have HF : Hid (shB n S = true) := by show _ = _; unfold shB; rw [HLn.out]; exact HA.out
      have HE : Hid (maskTo (inP S k) n = MM) := by show _ = _; rw [← HMM.out]; unfold shM; rw [HLn.out]
      obtain ⟨M, hM⟩ : ∃ M, maskTo (inP S k) n = M := ⟨_, rfl⟩
      rw [hM] at kB HE
      have s0 := kB.cell 0 (v := .slice A n c) rfl
      have s1 := kB.cell 1 (v := .slice AO m cO) rfl
      have s2 := kB.cell 2 (v := .int .u64 M) rfl
      have r0 := kR.cell 0 (v := .slice none 0 0) rfl
      have r1 := kR.cell 1 (v := .slice none 0 0) rfl
      have r2 := kR.cell 2 (v := .int .u64 0) rfl
      have f0 := kR.frozen 0
      have f1 := kR.frozen 1
      have f2 := kR.frozen 2
      clear hM
      go_wp2
      have kE := ((kR.set 0 (.slice A n c)).set 1 (.slice AO m cO)).set 2 (.int .u64 M)
      have bE := ((hb.setCell (p := ⟨w.heap.size + 1, 0, none⟩) (by simp) (.slice A n c)).setCell (p := ⟨w.heap.size + 1, 1, none⟩) (by simp) (.slice AO m cO)).setCell (p := ⟨w.heap.size + 1, 2, none⟩) (by simp) (.int .u64 M)
      generalize (((wr.setCell ⟨w.heap.size + 1, 0, none⟩ (.slice A n c)).setCell ⟨w.heap.size + 1, 1, none⟩ (.slice AO m cO)).setCell ⟨w.heap.size + 1, 2, none⟩ (.int .u64 M)) = wE at *
      have e0 := kE.cell 0 (v := .slice A n c) (by simp)
      have e1 := kE.cell 1 (v := .slice AO m cO) (by simp)
      have e2 := kE.cell 2 (v := .int .u64 M) (by simp)
      refine bodyPost_ret_by (v := loV A n c AO m cO M) ?_ rfl ⟨.inl ⟨HF.out, by rw [← HE.out]⟩, bE⟩
      simp [results, Tryd.results64, go_sem, e0, e1, e2]
    have hkI : (k : Int) < (l : Int) := by omega
    obtain ⟨b, off, rfl, hbB, hc⟩ := HX.out k hlt
    have dk := (hb.cell (p := ⟨b, off + k, none⟩) hbB).trans hc
    have h64 := mask_64 gapP (show n ≤ 63 by omega)
    obtain ⟨x, hxx⟩ : ∃ x, S.getD k 0 = x := ⟨_, rfl⟩
    rw [hxx] at dk
    have HXK := Lib.hid hxx
    have HST : Hid (shdB n S k = (inB x 1 ((n : Int) - 1) && okTo (fun t => decide (S.getD t 0 < x)) k)) := by show _ = _; unfold shdB; rw [hxx]
    have HBad : Hid (shdB n S k = false → shB n S = false) := fun h => by unfold shB; exact okTo_bad (by rw [HLn.out]; exact hlt) h
    have s0 := kB.cell 0 (v := .slice A n c) rfl
    have s2 := kB.cell 2 (v := .int .u64 (maskTo (inP S k) n : Nat)) rfl
    have fB := kB.frozen 2
    clear hc hxx
    have HG := Lib.hid (fun wx => gaps_any A n c wx h1 (by omega))
    cases hin : inB x 1 ((n : Int) - 1)
    · have R := Lib.hid (HBad.out (by rw [HST.out, hin]; rfl))
      have HH := Lib.hid ((gap_has (x := x) h1).trans hin)
      clear hin
      go_wp2_with fail
      refine (HG.out _).mono ?_
      rintro e w2 ⟨rfl, hb2⟩
      go_wp2_with fail
      refine (bhas_any _ h64 _ _ HH _).mono ?_
      rintro e w3 ⟨rfl, rfl⟩
      go_wp2_with fail
      refine (require_no _).mono ?_
      rintro e w3 ⟨⟨u, pv, rfl⟩, rfl⟩
      go_wp2
      exact ⟨rfl, .inr ⟨R.out, _, _, rfl⟩, bl_trans hb hb2⟩
    have HH := Lib.hid ((gap_has (x := x) h1).trans hin)
    have hxr : 1 ≤ x ∧ x ≤ (n : Int) - 1 := of_decide_eq_true hin
    obtain ⟨x, rfl⟩ : ∃ y : Nat, x = y := ⟨x.toNat, by omega⟩
    have hxn : x < n := by omega
    have hx0 : (0 : Int) ≤ (x : Int) := by omega
    have HSR := Lib.hid ((mask_shr (p := inP S k) (n := n) (x := x)).trans (shd_shr HA.out))
    have HIN := Lib.hid (in_next HXK.out hxn (show n ≤ 60 by omega))
    have HIn := Lib.hid hin
    clear hin hxr
    obtain ⟨M, hM⟩ : ∃ M, maskTo (inP S k) n = M := ⟨_, rfl⟩
    obtain ⟨M2, hM2⟩ : ∃ M2, maskTo (inP S (k + 1)) n = M2 := ⟨_, rfl⟩
    rw [hM] at s2 kB HSR HIN
    rw [hM2] at HIN
    have HM2 := Lib.hid hM2
    clear hM hM2
    cases hs : okTo (fun t => decide (S.getD t 0 < (x : Int))) k
    · have R := Lib.hid (HBad.out (by rw [HST.out, HIn.out, hs]; rfl))
      rw [hs] at HSR
      clear hs
      go_wp2_with fail
      refine (HG.out _).mono ?_
      rintro e w2 ⟨rfl, hb2⟩
      have s2' := (hb2.cell (p := ⟨w.heap.size, 2, none⟩) lB).trans s2
      clear s2
      go_wp2_with fail
      refine (bhas_any _ h64 _ _ HH _).mono ?_
      rintro e w3 ⟨rfl, rfl⟩
      go_wp2_with fail
      rw [HSR.out]
      refine (require_no _).mono ?_
      rintro e w3 ⟨⟨u, pv, rfl⟩, rfl⟩
      go_wp2
      exact ⟨rfl, .inr ⟨R.out, _, _, rfl⟩, bl_trans hb hb2⟩
    · have HN : Hid (okTo (shdB n S) (k + 1) = true) := okTo_next HA.out (by rw [HST.out, HIn.out, hs]; rfl)
      rw [hs] at HSR
      clear hs
      go_wp2_with fail
      refine (HG.out _).mono ?_
      rintro e w2 ⟨rfl, hb2⟩
      have s2' := (hb2.cell (p := ⟨w.heap.size, 2, none⟩) lB).trans s2
      clear s2
      go_wp2_with fail
      refine (bhas_any _ h64 _ _ HH _).mono ?_
      rintro e w3 ⟨rfl, rfl⟩
      go_wp2_with fail
      rw [HSR.out]
      refine (require_yes _).mono ?_
      rintro e w3 ⟨rfl, rfl⟩
      have lB3 := Nat.lt_of_lt_of_le lB hb2.size
      have kB3 := kB.to hb2
      have kR3 := kR.to hb2
      have bb := bl_trans hb hb2
      have CB := Lib.hid (fun wx => bitsetOf_any x (by omega) wx)
      have HO' := HIN.out
      generalize 2 ^ x = X at *
      clear kB kR s0 lB fB hb hb2 dk
      go_wp2
      refine wp_region_overB (m := 6) (.alone 6 .done) (by kernel_rfl) (by kernel_rfl) (by kernel_rfl) ?_
      simp only [List.take_succ_cons, List.take_zero]
      have hov := over_cells w3
      repeat (go_big_quiet_step ((go_at_call 72; exact overE (CB.out _))))
      refine over_nilB (fun w2 hb2 => ?_)
      clear hov
      have kB4 := kB3.to hb2
      have kR4 := kR3.to hb2
      have st1 := kB4.cell 2 (v := .int .u64 M) rfl
      have sf1 := kB4.frozen 2
      refine tplan_b rfl (fun K hK => ?_)
      go_simp
      refine hK _ _ ⟨trivial, ?_⟩
      clear hK K
      try simp only [Act.put, List.setIfInBounds_toArray, List.set_cons_zero, List.set_cons_succ]
      refine tplan_end ?_
      have kB5 := kB4.set 2 (.int .u64 M2)
      have kR5 := kR4.far (p := ⟨w.heap.size, 2, none⟩) (by simp) (.int .u64 M2)
      have b5 := (bl_trans bb hb2).setCell (p := ⟨w.heap.size, 2, none⟩) (Nat.le_refl _) (.int .u64 M2)
      have kB6 : Blk (w2.setCell ⟨w.heap.size, 2, none⟩ (.int .u64 M2)) w.heap.size #[.slice A n c, .slice AO m cO, .int .u64 (maskTo (inP S (k + 1)) n : Nat)] 57 := by rw [HM2.out]; exact kB5
      generalize (w2.setCell ⟨w.heap.size, 2, none⟩ (.int .u64 M2)) = w6 at *
      go_wp2
      go_roundw
      case rel => exact ⟨k + 1, by omega, by go_num, HN, kB6, kR5, b5⟩
      case measure => simp [intOf]; omega
end Go.Proofs.YtifenbamookmiaaDoor
