/-
  Contract: what layers are required to be.
-/
import Derived.Test.YtdoheipnfdbioaaDoorReqP
import Derived.Test.YtdoheipnfdbioaaDoorGrpA
import Derived.Test.YtdoheipnfdbioaaDoorWirI
namespace Go.Proofs.YtdoheipnfdbioaaDoor
set_option linter.unusedSimpArgs false
set_option linter.unusedVariables false
open Go.ChangeShapes Go.WideShapes Go.ChangeAt Go.RowKit

theorem grps_at {A : Nat → Nat → Bool} {n k : Nat} (hk : k < (leads A n).length) : (grpsTo A n n).getD k (0, 0) = grpOf A n ((leads A n).getD k 0) := by
  unfold grpsTo
  simp [List.getD_eq_getElem?_getD, hk]
theorem mask_shl {n : Nat} {p : Nat → Bool} (hn : n ≤ 14) (b : Bool) (h : p n = b) : bits .or .u64 (maskTo p n : Int) ((if b then (2 : Int) ^ n else 0)) = (maskTo p (n + 1) : Int) := by
  cases b
  · rw [maskTo_f h]
    have := bits_or_u64_nat (maskTo p n) 0 (mask_64 p (by omega)) (by omega)
    simpa using this
  · have e : (2 : Int) ^ n = ((2 ^ n : Nat) : Int) := by simp
    have h64 : 2 ^ n < 2 ^ 64 := Nat.pow_lt_pow_right (by omega) (by omega)
    rw [if_pos rfl, e, bits_or_u64_nat _ _ (mask_64 p (by omega)) (by omega), or_two_pow (maskTo_lt p n), maskTo_t h]
def ReqLRes (n : Nat) (C : List (List Int)) (F X : List Int) (w : World) (e : Ending) (w' : World) : Prop :=
  ((layB n C F X = true ∧ e = .returned (.int .u64 (maskTo (oneP X) n))) ∨ (layB n C F X = false ∧ Pan e)) ∧ Below w.heap.size w w'
set_option maxRecDepth 100000 in
set_option maxHeartbeats 6400000 in
theorem requireLayering_any (n gX : Nat) (C J : List (List Int)) (F : List Int) (AJ : Option Addr) (j cJ : Nat) (AX : Option Addr) (X : List Int) (cX : Nat) (w : World) (hG : BitBlk w gX n (adjT C C.length)) (ok : WvOk n C J F) (hX : IntsAt w w.heap.size AX X) (lX : X.length ≤ 1048576) (hL : BruAt w) :
    Calls Tryd.prog 40 #[.agg #[.int .i64 (n : Int), .slice (some ⟨gX, 0, none⟩) n n, .slice AJ j cJ, .int .u64 (maskTo (fixP F 0) n : Int), .int .u64 (maskTo (fixP F 1) n : Int)], .slice AX X.length cX] w (ReqLRes n C F X w) := by
  have hx0 : Below w.heap.size w (w.alloc (.cells #[.int .i64 (n : Int), .slice (some ⟨gX, 0, none⟩) n n, .slice AJ j cJ, .int .u64 (maskTo (fixP F 0) n : Int), .int .u64 (maskTo (fixP F 1) n : Int)] 62)) := by (repeat (first | assumption | exact Below.refl _ _ | (refine bl_alloc ?_ _) | (refine Below.drew ?_) | (refine bl_drewN ?_ _) | (refine bl_set ?_ (by first | (simp; done) | omega | (simp; omega)) _) | (refine bl_trans ?_ (by assumption)) | (refine bl_step ?_ (by assumption) (by first | omega | exact Below.size (by assumption) | (simp; omega) | (simp; exact Below.size (by assumption))))))
  have k0 := Blk.new w #[.int .i64 (n : Int), .slice (some ⟨gX, 0, none⟩) n n, .slice AJ j cJ, .int .u64 (maskTo (fixP F 0) n : Int), .int .u64 (maskTo (fixP F 1) n : Int)] 62
  have lXI : (X.length : Int) ≤ 1048576 := by omega
  have HLL := Lib.hid (lay_leads (X := X) ok)
  have n14 := ok.n14
  by_cases hln : X.length = n
  case neg =>
    have R : Hid (layB n C F X = false) := Bool.eq_false_iff.2 fun h => hln (HLL.out.1 h).1
    have hne : ((X.length : Int) == (n : Int)) = false := by simp; omega
    clear hln HLL hX
    go_enter Tryd.func40, Tryd.ntmps40
    go_wp2_with fail
    refine (require_no _).mono ?_
    rintro e w2 ⟨⟨u, pv, rfl⟩, rfl⟩
    go_wp2
    exact ⟨rfl, .inr ⟨R.out, _, _, rfl⟩, hx0⟩
  have hne : ((X.length : Int) == (n : Int)) = true := by simp; omega
  have n14I : (n : Int) ≤ 14 := by omega
  have HX : Hid (0 < n → ∃ b off, AX = some ⟨b, off, none⟩ ∧ b < w.heap.size ∧ ∀ i, i < n → w.cell? ⟨b, off + i, none⟩ = some (.int .i64 (X.getD i 0))) := by
    intro h; rw [← hln] at h ⊢; exact hX h
  rw [hln] at hne lXI ⊢
  have HLN := Lib.hid hln
  clear hX hln lX
  go_enter Tryd.func40, Tryd.ntmps40
  go_wp2_with fail
  refine (require_yes _).mono ?_
  rintro e w2 ⟨rfl, rfl⟩
  go_wp2
  generalize (w.alloc (.cells #[.int .i64 (n : Int), .slice (some ⟨gX, 0, none⟩) n n, .slice AJ j cJ, .int .u64 (maskTo (fixP F 0) n : Int), .int .u64 (maskTo (fixP F 1) n : Int)] 62)) = w1 at *
  go_loopw [5, 6, 7, 18] (fun m _ _ i wr => ∃ k : Nat, k ≤ n ∧ i = .int .i64 k ∧ m = .int .u64 (maskTo (oneP X) k) ∧ Hid (∀ i, i < k → inB (X.getD i 0) 0 1 = true) ∧ wr = w1) (fun _ _ _ i _ => n - (intOf i).toNat)
  case atStart => exact ⟨0, Nat.zero_le _, rfl, rfl, fun i hi => by omega, rfl⟩
  case round =>
    obtain ⟨k, hk, rfl, rfl, HA, rfl⟩ := hrel
    have hk0 : (0 : Int) ≤ (k : Int) := by omega
    by_cases hlt : k < n
    · have hkI : (k : Int) < (n : Int) := by omega
      obtain ⟨b, off, rfl, hbB, hc⟩ := HX.out (by omega)
      have dk := (hx0.cell (p := ⟨b, off + k, none⟩) hbB).trans (hc k hlt)
      have hms := mask_shl (p := oneP X) (show k ≤ 14 by omega) (oneP X k) rfl
      obtain ⟨x, hx⟩ : ∃ x, X.getD k 0 = x := ⟨_, rfl⟩
      rw [hx] at dk
      have h1 : oneP X k = decide (x = 1) := by unfold oneP; rw [hx]
      have HXK := Lib.hid hx
      clear hc hx
      cases hin : inB x 0 1
      · have R : Hid (layB n C F X = false) := Bool.eq_false_iff.2 fun h => by
          have := (HLL.out.1 h).2.1 k hlt
          rw [HXK.out, hin] at this; cases this
        have HI := Lib.hid hin
        clear hin hms h1
        go_wp2_with fail
        refine (isLayer_any _ _).mono ?_
        rintro e w2 ⟨rfl, rfl⟩
        rw [HI.out]
        go_wp2_with fail
        refine (require_no _).mono ?_
        rintro e w2 ⟨⟨u, pv, rfl⟩, rfl⟩
        go_wp2
        exact ⟨rfl, .inr ⟨R.out, _, _, rfl⟩, hx0⟩
      · have HA2 : Hid (∀ i, i < k + 1 → inB (X.getD i 0) 0 1 = true) := fun i hi => by
          by_cases e : i = k
          · subst e; rw [HXK.out]; exact hin
          · exact HA.out i (by omega)
        have h01 : x = 0 ∨ x = 1 := by have : 0 ≤ x ∧ x ≤ 1 := of_decide_eq_true hin; omega
        have HI := Lib.hid hin
        rw [h1] at hms
        clear hin h1
        rcases h01 with rfl | rfl
        · have hm2 : bits .or .u64 (maskTo (oneP X) k : Int) 0 = (maskTo (oneP X) (k + 1) : Int) := by simpa using hms
          clear hms HXK
          obtain ⟨m2, hm⟩ : ∃ m2, maskTo (oneP X) (k + 1) = m2 := ⟨_, rfl⟩
          rw [hm] at hm2
          have HM := Lib.hid hm
          clear hm
          go_wp2_with fail
          refine (isLayer_any _ _).mono ?_
          rintro e w2 ⟨rfl, rfl⟩
          rw [HI.out]
          go_wp2_with fail
          refine (require_yes _).mono ?_
          rintro e w2 ⟨rfl, rfl⟩
          go_wp2
          go_roundw
          case rel => exact ⟨k + 1, by omega, by go_num, by rw [HM.out], HA2, (by first | rfl | trivial)⟩
          case measure => simp [intOf]; omega
        · have hm2 : bits .or .u64 (maskTo (oneP X) k : Int) ((2 : Int) ^ k) = (maskTo (oneP X) (k + 1) : Int) := by simpa using hms
          have hw : IntKind.u64.wrap ((2 : Int) ^ k) = (2 : Int) ^ k := by
            have e : (2 : Int) ^ k = ((2 ^ k : Nat) : Int) := by simp
            have h64 : 2 ^ k < 18446744073709551616 := Nat.pow_lt_pow_right (a := 2) (m := k) (n := 64) (by omega) (by omega)
            rw [e, IntKind.wrap_u64]
            generalize (2 : Nat) ^ k = m at h64 ⊢
            omega
          clear hms HXK
          obtain ⟨m2, hm⟩ : ∃ m2, maskTo (oneP X) (k + 1) = m2 := ⟨_, rfl⟩
          rw [hm] at hm2
          have HM := Lib.hid hm
          clear hm
          go_wp2_with fail
          refine (isLayer_any _ _).mono ?_
          rintro e w2 ⟨rfl, rfl⟩
          rw [HI.out]
          go_wp2_with fail
          refine (require_yes _).mono ?_
          rintro e w2 ⟨rfl, rfl⟩
          go_wp2
          go_roundw
          case rel => exact ⟨k + 1, by omega, by go_num, by rw [HM.out], HA2, (by first | rfl | trivial)⟩
          case measure => simp [intOf]; omega
    · obtain rfl : k = n := by omega
      clear HX
      have c0 := k0.cell 0 (v := .int .i64 (k : Int)) rfl
      have c1 := k0.cell 1 (v := .slice (some ⟨gX, 0, none⟩) k k) rfl
      have c2 := k0.cell 2 (v := .slice AJ j cJ) rfl
      have c3 := k0.cell 3 (v := .int .u64 (maskTo (fixP F 0) k : Int)) rfl
      have c4 := k0.cell 4 (v := .int .u64 (maskTo (fixP F 1) k : Int)) rfl
      go_wp2_with fail
      refine (groups_any k gX (adjT C C.length) AJ j cJ _ _ _ (hG.to hx0) (adj_of ok) n14 (hL.to hx0)).mono ?_
      rintro e w2 ⟨gv, rfl, hO, hb2⟩
      obtain ⟨AG, cG, rfl, hGr, _⟩ := hO.pts
      have hlen : (grpsTo (adjT C C.length) k k).length = (leads (adjT C C.length) k).length := by unfold grpsTo; simp
      have hl14 := leads_len (adjT C C.length) k
      replace k0 := k0.to hb2
      have b2 := bl_step hx0 hb2 hx0.size
      clear c0 c1 c2 c3 c4 hO hb2 hx0
      rw [hlen]
      obtain ⟨LS, hLS⟩ : ∃ LS, leads (adjT C C.length) k = LS := ⟨_, rfl⟩
      have HGR : Hid (0 < LS.length → ∃ b off, AG = some ⟨b, off, none⟩ ∧ b < w2.heap.size ∧ ∀ i, i < LS.length → w2.cell? ⟨b, off + i * 2, none⟩ = some (.int .u64 (maskTo (evB (adjT C C.length) (LS.getD i 0)) k : Int)) ∧ w2.cell? ⟨b, off + i * 2 + 1, none⟩ = some (.int .u64 (maskTo (odB (adjT C C.length) (LS.getD i 0)) k : Int))) := by
        intro h0
        rw [← hLS] at h0
        obtain ⟨b, off, e, hb, hc⟩ := hGr (by rw [hlen]; exact h0)
        refine ⟨b, off, e, hb, fun i hi => ?_⟩
        have := hc i (by rw [hlen, hLS]; exact hi)
        rw [grps_at (by rw [hLS]; exact hi), hLS] at this
        exact this
      rw [hLS] at HLL hl14
      rw [hLS]
      have hLSI : (LS.length : Int) ≤ 14 := by omega
      clear hGr hlen hLS
      go_wp2
      go_loopw [9, 36] (fun _ i wr => ∃ m : Nat, m ≤ LS.length ∧ i = .int .i64 m ∧ Hid (∀ i, i < m → (maskTo (fun q => oneP X q && (evB (adjT C C.length) (LS.getD i 0) q || odB (adjT C C.length) (LS.getD i 0) q)) k : Int) ∈ laysL k (fixP F 0) (fixP F 1) (evB (adjT C C.length) (LS.getD i 0)) (odB (adjT C C.length) (LS.getD i 0))) ∧ Below w2.heap.size w2 wr) (fun _ i _ => LS.length - (intOf i).toNat)
      case atStart => exact ⟨0, Nat.zero_le _, rfl, fun i hi => by omega, Below.refl _ _⟩
      case round =>
        obtain ⟨m, hm, rfl, HM, hb⟩ := hrel
        have hm0 : (0 : Int) ≤ (m : Int) := by omega
        have bw := bl_step b2 hb b2.size
        by_cases hmt : m < LS.length
        · have hmI : (m : Int) < (LS.length : Int) := by omega
          obtain ⟨bG, oG, rfl, hbG, hcG⟩ := HGR.out (by omega)
          obtain ⟨g0, g1⟩ := hcG m hmt
          have q0 := (hb.cell (p := ⟨bG, oG + m * 2, none⟩) hbG).trans g0
          have q1 := (hb.cell (p := ⟨bG, oG + m * 2 + 1, none⟩) hbG).trans g1
          obtain ⟨s, hs⟩ : ∃ s, LS.getD m 0 = s := ⟨_, rfl⟩
          rw [hs] at q0 q1
          have HS := Lib.hid hs
          have HSM : Hid (s ∈ LS) := by
            show _ ∈ _
            rw [← hs, List.getD_eq_getElem?_getD, List.getElem?_eq_getElem hmt]
            exact List.getElem_mem hmt
          have kw := k0.to hb
          have kG := Blk.new wr #[.int .u64 (maskTo (evB (adjT C C.length) s) k : Int), .int .u64 (maskTo (odB (adjT C C.length) s) k : Int)] 74
          replace kw := kw.alloc (.cells #[.int .u64 (maskTo (evB (adjT C C.length) s) k : Int), .int .u64 (maskTo (odB (adjT C C.length) s) k : Int)] 74)
          have bx := bl_alloc bw (.cells #[.int .u64 (maskTo (evB (adjT C C.length) s) k : Int), .int .u64 (maskTo (odB (adjT C C.length) s) k : Int)] 74)
          have by2 := bl_alloc hb (.cells #[.int .u64 (maskTo (evB (adjT C C.length) s) k : Int), .int .u64 (maskTo (odB (adjT C C.length) s) k : Int)] 74)
          have CLA := Lib.hid (fun wx => layersOf_any k gX AJ j cJ (fixP F 0) (fixP F 1) (evB (adjT C C.length) s) (odB (adjT C C.length) s) wx n14)
          have CGA := Lib.hid (fun wx => gall_any (evB (adjT C C.length) s) (odB (adjT C C.length) s) k n14 wx)
          have rA := mask_and (oneP X) (fun q => evB (adjT C C.length) s q || odB (adjT C C.length) s q) (k := k) (by omega)
          have hl2 : (laysL k (fixP F 0) (fixP F 1) (evB (adjT C C.length) s) (odB (adjT C C.length) s)).length ≤ 2 := by
            unfold laysL kept2
            split
            · split <;> split <;> simp
            · simp
          have HN : Hid (∀ h : (maskTo (fun q => oneP X q && (evB (adjT C C.length) s q || odB (adjT C C.length) s q)) k : Int) ∈ laysL k (fixP F 0) (fixP F 1) (evB (adjT C C.length) s) (odB (adjT C C.length) s), ∀ i, i < m + 1 → (maskTo (fun q => oneP X q && (evB (adjT C C.length) (LS.getD i 0) q || odB (adjT C C.length) (LS.getD i 0) q)) k : Int) ∈ laysL k (fixP F 0) (fixP F 1) (evB (adjT C C.length) (LS.getD i 0)) (odB (adjT C C.length) (LS.getD i 0))) := by
            intro h i hi
            by_cases e : i = m
            · subst e; rw [HS.out]; exact h
            · exact HM.out i (by omega)
          have HBAD : Hid (¬ (maskTo (fun q => oneP X q && (evB (adjT C C.length) s q || odB (adjT C C.length) s q)) k : Int) ∈ laysL k (fixP F 0) (fixP F 1) (evB (adjT C C.length) s) (odB (adjT C C.length) s) → layB k C F X = false) := fun h => Bool.eq_false_iff.2 fun hl => h ((HLL.out.1 hl).2.2 s HSM.out)
          clear hcG g0 g1 hs HM HLL HSM
          generalize laysL k (fixP F 0) (fixP F 1) (evB (adjT C C.length) s) (odB (adjT C C.length) s) = LL at *
          generalize maskTo (fun q => oneP X q && (evB (adjT C C.length) s q || odB (adjT C C.length) s q)) k = mA at *
          generalize maskTo (fun q => evB (adjT C C.length) s q || odB (adjT C C.length) s q) k = mB at *
          go_wp2
          generalize (wr.alloc (.cells #[.int .u64 (maskTo (evB (adjT C C.length) s) k : Int), .int .u64 (maskTo (odB (adjT C C.length) s) k : Int)] 74)) = wx at *
          have s0 := kw.cell 0 (v := .int .i64 (k : Int)) rfl
          have s1 := kw.cell 1 (v := .slice (some ⟨gX, 0, none⟩) k k) rfl
          have s2 := kw.cell 2 (v := .slice AJ j cJ) rfl
          have s3 := kw.cell 3 (v := .int .u64 (maskTo (fixP F 0) k : Int)) rfl
          have s4 := kw.cell 4 (v := .int .u64 (maskTo (fixP F 1) k : Int)) rfl
          have t0 := kG.cell 0 (v := .int .u64 (maskTo (evB (adjT C C.length) s) k : Int)) rfl
          have t1 := kG.cell 1 (v := .int .u64 (maskTo (odB (adjT C C.length) s) k : Int)) rfl
          have la := kw.lt
          have lb := kG.lt
          clear q0 q1
          by_cases hmem : (mA : Int) ∈ LL
          · have HN2 := Lib.hid (HN.out hmem)
            have hdm : decide ((mA : Int) ∈ LL) = true := decide_eq_true hmem
            have HDM := Lib.hid hdm
            clear hmem hdm HN HBAD
            refine wp_region_treeB (.takes [0, 1, 3, 4] (.alone 2 (.alone 5 (.takes [6] (.alone 7 (.alone 8 .done)))))) (by kernel_rfl) (by kernel_rfl) (by kernel_rfl) (fun _ d _ _ _ h => by cases d <;> exact h) (fun hS0 => ?_)
            refine tplan_w (v := ?_) rfl (by rfl) ?_ ?_
            rotate_left
            · intro wx hSx
              obtain ⟨hcx, hfx, hzx⟩ := bcell hSx
              go_simp
              try (with_reducible rfl)
            try simp only [Act.put, List.setIfInBounds_toArray, List.set_cons_zero, List.set_cons_succ]
            refine tplan_w (v := ?_) rfl (by rfl) ?_ ?_
            rotate_left
            · intro wx hSx
              obtain ⟨hcx, hfx, hzx⟩ := bcell hSx
              go_simp
              try (with_reducible rfl)
            try simp only [Act.put, List.setIfInBounds_toArray, List.set_cons_zero, List.set_cons_succ]
            refine tplan_w (v := ?_) rfl (by rfl) ?_ ?_
            rotate_left
            · intro wx hSx
              obtain ⟨hcx, hfx, hzx⟩ := bcell hSx
              go_simp
              try (with_reducible rfl)
            try simp only [Act.put, List.setIfInBounds_toArray, List.set_cons_zero, List.set_cons_succ]
            refine tplan_w (v := ?_) rfl (by rfl) ?_ ?_
            rotate_left
            · intro wx hSx
              obtain ⟨hcx, hfx, hzx⟩ := bcell hSx
              go_simp
              try (with_reducible rfl)
            try simp only [Act.put, List.setIfInBounds_toArray, List.set_cons_zero, List.set_cons_succ]
            refine tplan_b rfl (fun K hK => ?_)
            go_simp
            refine (CLA.out _).mono ?_
            rintro e w3 ⟨A3, c3', rfl, hN3, hb3⟩
            have hS1 := belowS hS0 hb3
            refine hK _ _ ⟨hS1, ?_⟩
            clear hK K
            try simp only [Act.put, List.setIfInBounds_toArray, List.set_cons_zero, List.set_cons_succ]
            refine tplan_b rfl (fun K hK => ?_)
            go_simp
            refine ((CGA.out _)).mono ?_
            rintro e w2 ⟨rfl, hb2⟩
            have hS2 := belowS hS1 hb2
            refine hK _ _ ⟨hS2, ?_⟩
            clear hK K
            try simp only [Act.put, List.setIfInBounds_toArray, List.set_cons_zero, List.set_cons_succ]
            refine tplan_w (v := ?_) rfl (by rfl) ?_ ?_
            rotate_left
            · intro wx hSx
              obtain ⟨hcx, hfx, hzx⟩ := bcell hSx
              go_simp
              try (with_reducible rfl)
            try simp only [Act.put, List.setIfInBounds_toArray, List.set_cons_zero, List.set_cons_succ]
            refine tplan_b rfl (fun K hK => ?_)
            go_simp
            refine (containsBits_any _ _ _ _ _ (hN3.to hb2) hl2).mono ?_
            rintro e w4 ⟨rfl, rfl⟩
            rw [HDM.out]
            refine hK _ _ ⟨hS2, ?_⟩
            clear hK K
            try simp only [Act.put, List.setIfInBounds_toArray, List.set_cons_zero, List.set_cons_succ]
            refine tplan_b rfl (fun K hK => ?_)
            go_simp
            refine (require_yes _).mono ?_
            rintro e w4 ⟨rfl, rfl⟩
            refine hK _ _ ⟨hS2, ?_⟩
            clear hK K
            try simp only [Act.put, List.setIfInBounds_toArray, List.set_cons_zero, List.set_cons_succ]
            refine tplan_endQ ?_
            go_wp2
            go_roundw
            case rel => exact ⟨m + 1, by omega, by go_num, HN2, by2.trans (hS2.mono by2.size)⟩
            case measure => simp [intOf]; omega
          · have R := Lib.hid (HBAD.out hmem)
            have HDM := Lib.hid (decide_eq_false hmem)
            clear hmem HN HBAD
            refine wp_region_treeB (.takes [0, 1, 3, 4] (.alone 2 (.alone 5 (.takes [6] (.alone 7 (.alone 8 .done)))))) (by kernel_rfl) (by kernel_rfl) (by kernel_rfl) (fun _ d _ _ _ h => by cases d <;> exact h) (fun hS0 => ?_)
            refine tplan_w (v := ?_) rfl (by rfl) ?_ ?_
            rotate_left
            · intro wx hSx
              obtain ⟨hcx, hfx, hzx⟩ := bcell hSx
              go_simp
              try (with_reducible rfl)
            try simp only [Act.put, List.setIfInBounds_toArray, List.set_cons_zero, List.set_cons_succ]
            refine tplan_w (v := ?_) rfl (by rfl) ?_ ?_
            rotate_left
            · intro wx hSx
              obtain ⟨hcx, hfx, hzx⟩ := bcell hSx
              go_simp
              try (with_reducible rfl)
            try simp only [Act.put, List.setIfInBounds_toArray, List.set_cons_zero, List.set_cons_succ]
            refine tplan_w (v := ?_) rfl (by rfl) ?_ ?_
            rotate_left
            · intro wx hSx
              obtain ⟨hcx, hfx, hzx⟩ := bcell hSx
              go_simp
              try (with_reducible rfl)
            try simp only [Act.put, List.setIfInBounds_toArray, List.set_cons_zero, List.set_cons_succ]
            refine tplan_w (v := ?_) rfl (by rfl) ?_ ?_
            rotate_left
            · intro wx hSx
              obtain ⟨hcx, hfx, hzx⟩ := bcell hSx
              go_simp
              try (with_reducible rfl)
            try simp only [Act.put, List.setIfInBounds_toArray, List.set_cons_zero, List.set_cons_succ]
            refine tplan_b rfl (fun K hK => ?_)
            go_simp
            refine (CLA.out _).mono ?_
            rintro e w3 ⟨A3, c3', rfl, hN3, hb3⟩
            have hS1 := belowS hS0 hb3
            refine hK _ _ ⟨hS1, ?_⟩
            clear hK K
            try simp only [Act.put, List.setIfInBounds_toArray, List.set_cons_zero, List.set_cons_succ]
            refine tplan_b rfl (fun K hK => ?_)
            go_simp
            refine ((CGA.out _)).mono ?_
            rintro e w2 ⟨rfl, hb2⟩
            have hS2 := belowS hS1 hb2
            refine hK _ _ ⟨hS2, ?_⟩
            clear hK K
            try simp only [Act.put, List.setIfInBounds_toArray, List.set_cons_zero, List.set_cons_succ]
            refine tplan_w (v := ?_) rfl (by rfl) ?_ ?_
            rotate_left
            · intro wx hSx
              obtain ⟨hcx, hfx, hzx⟩ := bcell hSx
              go_simp
              try (with_reducible rfl)
            try simp only [Act.put, List.setIfInBounds_toArray, List.set_cons_zero, List.set_cons_succ]
            refine tplan_b rfl (fun K hK => ?_)
            go_simp
            refine (containsBits_any _ _ _ _ _ (hN3.to hb2) hl2).mono ?_
            rintro e w4 ⟨rfl, rfl⟩
            rw [HDM.out]
            refine hK _ _ ⟨hS2, ?_⟩
            clear hK K
            try simp only [Act.put, List.setIfInBounds_toArray, List.set_cons_zero, List.set_cons_succ]
            refine tplan_b rfl (fun K hK => ?_)
            go_simp
            refine (require_no _).mono ?_
            rintro e w4 ⟨⟨u, pv, rfl⟩, rfl⟩
            go_wp2
            exact ⟨rfl, .inr ⟨R.out, _, _, rfl⟩, bx.trans (hS2.mono bx.size)⟩
        · obtain rfl : m = LS.length := by omega
          have R : Hid (layB k C F X = true) := HLL.out.2 ⟨HLN.out, HA.out, fun s hs => by
            obtain ⟨i, hi, e⟩ := List.getElem_of_mem hs
            have := HM.out i hi
            rw [List.getD_eq_getElem?_getD, List.getElem?_eq_getElem hi] at this
            simp only [Option.getD_some, e] at this
            exact this⟩
          clear HM
          go_wp2
          go_ret
          exact ⟨.inl ⟨R.out, rfl⟩, bw⟩
end Go.Proofs.YtdoheipnfdbioaaDoor
