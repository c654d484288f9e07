/-
  Contract: the groups of a wiring: the walk.
-/
import Derived.Test.YtdoheipnfdbioaaDoorGrps
namespace Go.Proofs.YtdoheipnfdbioaaDoor
set_option linter.unusedSimpArgs false
set_option linter.unusedVariables false
open Go.ChangeShapes Go.WideShapes Go.ChangeAt Go.RowKit

/-- The groups, in a slice of the call's own. -/
def GrpsRes (A : Nat → Nat → Bool) (n : Nat) (w : World) (e : Ending) (w' : World) : Prop := ∃ v, e = .returned v ∧ OwnG w' w.heap.size v (grpsTo A n n) ∧ Below w.heap.size w w'
theorem leads_end {A : Nat → Nat → Bool} {n b : Nat} (hb : b ≤ n) (h : ∀ k, k < n → rsB A b k = false) : leads A b = leads A n := by
  have : ∀ d, b + d ≤ n → leads A (b + d) = leads A b := by
    intro d
    induction d with
    | zero => intro _; rfl
    | succ d ih =>
      intro hd
      have hno : leadB A (b + d) = false := by
        obtain ⟨s, h1, h2, h3⟩ := rsB_no (h (b + d) (by omega))
        cases e : leadB A (b + d)
        · rfl
        · have := leadB_iff.1 e s (by omega)
          rw [h3] at this; cases this
      unfold leads
      rw [show b + (d + 1) = (b + d) + 1 by omega, List.range_succ, List.filter_append]
      have := ih (by omega)
      unfold leads at this
      rw [this]; simp [hno]
  have e := this (n - b) (by omega)
  rw [show b + (n - b) = n by omega] at e
  exact e.symm
set_option maxRecDepth 100000 in
set_option maxHeartbeats 3200000 in
theorem groups_any (n gX : Nat) (A : Nat → Nat → Bool) (AJ : Option Addr) (j cJ : Nat) (f0 f1 : Int) (w : World) (hG : BitBlk w gX n A) (hA : Adj n A) (hn : n ≤ 14) (hL : BruAt w) :
    Calls Tryd.prog 49 #[.agg #[.int .i64 (n : Int), .slice (some ⟨gX, 0, none⟩) n n, .slice AJ j cJ, .int .u64 f0, .int .u64 f1]] w (GrpsRes A n w) := by
  have hb0 : Below w.heap.size w (w.alloc (.cells #[.int .i64 (n : Int), .slice (some ⟨gX, 0, none⟩) n n, .slice AJ j cJ, .int .u64 f0, .int .u64 f1] 62)) := by (repeat (first | assumption | exact Below.refl _ _ | (refine bl_alloc ?_ _) | (refine Below.drew ?_) | (refine bl_drewN ?_ _) | (refine bl_set ?_ (by first | (simp; done) | omega | (simp; omega)) _) | (refine bl_trans ?_ (by assumption)) | (refine bl_step ?_ (by assumption) (by first | omega | exact Below.size (by assumption) | (simp; omega) | (simp; exact Below.size (by assumption))))))
  have k0 := Blk.new w #[.int .i64 (n : Int), .slice (some ⟨gX, 0, none⟩) n n, .slice AJ j cJ, .int .u64 f0, .int .u64 f1] 62
  go_enter Tryd.func49, Tryd.ntmps49
  go_wp2_with fail
  refine (all_any n gX AJ j cJ f0 f1 _ hn).mono ?_
  rintro e w1 ⟨rfl, hb1⟩
  replace k0 := k0.to hb1
  replace hb1 := bl_step hb0 hb1 hb0.size
  clear hb0
  go_wp2
  go_loopw [3, 4, 5] (fun gv r _ wr => ∃ b, b ≤ n ∧ OwnG wr w.heap.size gv (grpsTo A n b) ∧ Hid (gv.ownBlock ≠ some w.heap.size) ∧ r = .int .u64 (maskTo (rsB A b) n) ∧ Blk wr w.heap.size #[.int .i64 (n : Int), .slice (some ⟨gX, 0, none⟩) n n, .slice AJ j cJ, .int .u64 f0, .int .u64 f1] 62 ∧ Below w.heap.size w wr) (fun _ r _ _ => (intOf r).toNat)
  case atStart =>
    refine ⟨0, Nat.zero_le _, OwnG.nil_ _ _, (fun h => by cases h), ?_, k0, hb1⟩
    rw [mask_congr (p := fun _ => true) (q := rsB A 0) (fun _ _ => rfl)]
  case round =>
    clear k0 hb1
    obtain ⟨b, hbn, hO, HVZ, rfl, k0, hb⟩ := hrel
    by_cases hz : maskTo (rsB A b) n = 0
    · have hE := leads_end hbn (mask_zero_iff hz)
      have HE : Hid (grpsTo A n b = grpsTo A n n) := by show _ = _; unfold grpsTo; rw [hE]
      rw [hz]
      go_wp2
      go_ret
      exact ⟨_, rfl, by rw [← HE.out]; exact hO, hb⟩
    · obtain ⟨l, hi, hl, hp, hm, hctz, hlen, hi64⟩ := mask_low (by omega) hz
      obtain ⟨s1, s2, s3⟩ := rest_step hl hp hm
      have CS := Lib.hid (fun (wx : World) (h : Below w.heap.size w wx) => span_any (maskTo (rsB A b) n) l hi (mask_64 _ (by omega)) hz hctz hlen hi64 wx (hL.to h))
      have CG := Lib.hid (fun (wx : World) (h : Below w.heap.size w wx) => groupFrom_any n gX A AJ j cJ f0 f1 l wx (hG.to h) hA hn hl (hL.to h))
      have CA := Lib.hid (fun wx => gall_any (evB A l) (odB A l) n hn wx)
      have hnz : ¬ (maskTo (rsB A b) n : Int) = 0 := by omega
      have hnb : ((maskTo (rsB A b) n : Int) == 0) = false := by simp; exact hz
      have hnc : ((maskTo (rsB A b) n : Int) != 0) = true := by simp; exact hz
      have hless := mask_less (rsB A b) (fun k => evB A l k || odB A l k) (k := n) (by omega)
      rw [mask_congr (p := fun k => rsB A b k && !(evB A l k || odB A l k)) (q := rsB A (l + 1)) (fun k _ => by rw [s3, cmp_or])] at hless
      have hlt : maskTo (rsB A (l + 1)) n < maskTo (rsB A b) n := by
        have h1 : maskTo (rsB A (l + 1)) n ≤ maskTo (rsB A b) n := mask_mono fun k _ hk => by rw [s3] at hk; simp at hk; exact hk.1
        have h2 : maskTo (rsB A (l + 1)) n ≠ maskTo (rsB A b) n := fun e => by
          have := mask_inj e l hl
          rw [s3, hp, cmp_refl] at this; cases this
        omega
      have HG : Hid (grpsTo A n (l + 1) = grpsTo A n b ++ [((maskTo (evB A l) n : Int), (maskTo (odB A l) n : Int))]) := by show _ = _; unfold grpsTo; rw [s2]; simp [grpOf]
      have HLT := Lib.hid hlt
      have hLen : (grpsTo A n b).length ≤ 4000000 := by
        unfold grpsTo; rw [List.length_map]
        have := leads_len A b; omega
      have c0 := k0.cell 0 (v := .int .i64 (n : Int)) rfl
      have c1 := k0.cell 1 (v := .slice (some ⟨gX, 0, none⟩) n n) rfl
      have c2 := k0.cell 2 (v := .slice AJ j cJ) rfl
      have c3 := k0.cell 3 (v := .int .u64 f0) rfl
      have c4 := k0.cell 4 (v := .int .u64 f1) rfl
      have l0 := k0.lt
      have e1 := @run_span0
      clear hp hm hctz hlen s1 s2 s3 hlt hz
      generalize maskTo (evB A l) n = E at *
      generalize maskTo (odB A l) n = O at *
      generalize maskTo (fun k => evB A l k || odB A l k) n = EO at *
      generalize maskTo (rsB A b) n = R at *
      obtain ⟨R2, hR2⟩ : ∃ R2, maskTo (rsB A (l + 1)) n = R2 := ⟨_, rfl⟩
      rw [hR2] at hless HLT
      have HR2 := Lib.hid hR2
      clear hR2
      go_wp2
      refine wp_region_alloc (i0 := 5) (m := 6) (ks := [(0, false), (1, true), (2, false), (3, true), (4, false)]) (.alone 6 .done) (by kernel_rfl) (by kernel_rfl) (by kernel_rfl) (fun _ d _ _ _ h => by cases d <;> exact h) rfl rfl (fun a w => by go_simp <;> rfl) ?_
      refine g_w (v := ?_) (by rfl) ?_ ?_
      rotate_left
      · intro wx hSx
        obtain ⟨hcx, hfx, hzx⟩ := bcell hSx
        go_simp
        try (with_reducible rfl)
      try simp only [Act.put, List.setIfInBounds_toArray, List.set_cons_zero, List.set_cons_succ]
      refine g_p (v := ?_) (by rfl) ?_ ?_
      rotate_left
      · intro wx
        go_simp
        try (with_reducible rfl)
      try simp only [Act.put, List.setIfInBounds_toArray, List.set_cons_zero, List.set_cons_succ]
      refine g_c (by rfl) (fun wx hSx => CS.out _ (hb.trans (hSx.mono hb.size))) (fun wx hSx => by go_simp <;> (repeat' (first | rfl | apply And.intro))) ?_
      try simp only [Act.put, List.setIfInBounds_toArray, List.set_cons_zero, List.set_cons_succ]
      refine g_p (v := ?_) (by rfl) ?_ ?_
      rotate_left
      · intro wx
        go_simp
        try (with_reducible rfl)
      try simp only [Act.put, List.setIfInBounds_toArray, List.set_cons_zero, List.set_cons_succ]
      refine g_c (by rfl) (fun wx hSx => CG.out _ (hb.trans (hSx.mono hb.size))) (fun wx hSx => by go_simp <;> (repeat' (first | rfl | apply And.intro))) ?_
      try simp only [Act.put, List.setIfInBounds_toArray, List.set_cons_zero, List.set_cons_succ]
      refine g_nil (fun G w2 hb2 hG2 hNG => ?_)
      try simp only [Act.put, List.setIfInBounds_toArray, List.set_cons_zero, List.set_cons_succ]
      have g0 := hG2.cell 0 rfl
      have g1 := hG2.cell 1 rfl
      have gf := hG2.frozen
      refine tplan_b rfl (fun K hK => ?_)
      go_simp
      refine hK _ _ ⟨trivial, ?_⟩
      clear hK K
      try simp only [Act.put, List.setIfInBounds_toArray, List.set_cons_zero, List.set_cons_succ]
      refine tplan_endQ ?_
      have hGv := (hG2.set 0 (.int .u64 E)).set 1 (.int .u64 O)
      have hbv : Below wr.heap.size wr ((w2.setCell ⟨G, 0, none⟩ (.int .u64 E)).setCell ⟨G, 1, none⟩ (.int .u64 O)) := (hb2.setCell (p := ⟨G, 0, none⟩) hNG _).setCell (p := ⟨G, 1, none⟩) hNG _
      generalize ((w2.setCell ⟨G, 0, none⟩ (.int .u64 E)).setCell ⟨G, 1, none⟩ (.int .u64 O)) = w3 at *
      clear hG2 g0 g1 gf hb2 c0 c1 c2 c3 c4 CS CG
      have hO3 := hO.to hbv
      have b3 := hb.trans (hbv.mono hb.size)
      replace k0 := k0.to hbv
      have lG := hGv.lt
      have u0 := hGv.cell 0 (v := .int .u64 E) rfl
      have u1 := hGv.cell 1 (v := .int .u64 O) rfl
      have hvG : u3.ownBlock ≠ some G := by
        rcases hO.2 with ⟨h1, _⟩ | ⟨g, cap, cur, h1, _, hh, _⟩
        · rw [h1]; simp [Value.ownBlock]
        · rw [h1]
          have : g < wr.heap.size := by
            rcases Nat.lt_or_ge g wr.heap.size with h | h
            · exact h
            · rw [Array.getElem?_eq_none h] at hh; cases hh
          simp [Value.ownBlock]; omega
      have hvZ : u3.ownBlock ≠ some w.heap.size := HVZ.out
      clear hO hb
      go_wp2_with (at_builtin; refine append_grp rfl (.tmp 15) (.tmp 17) rfl _ w.heap.size _ _ E O rfl hO3 _ rfl rfl hLen b3.size ?_; intro v' w5 hO5 hbel hblk hown5 hz5; refine Hid.out ?_)
      have e0 := (hblk G lG hvG)
      have b5 := hbel _ b3
      have u05 : w5.cell? ⟨G, 0, none⟩ = some (.int .u64 E) := (World.cell?_of_block (a := ⟨G, 0, none⟩) e0).trans u0
      have u15 : w5.cell? ⟨G, 1, none⟩ = some (.int .u64 O) := (World.cell?_of_block (a := ⟨G, 1, none⟩) e0).trans u1
      have k5 := k0.keep (hblk _ k0.lt hvZ)
      have HVZ5 : Hid (v'.ownBlock ≠ some w.heap.size) := by
        rcases hown5 with h | ⟨g, h, hg⟩
        · rw [h]; exact hvZ
        · intro e; rw [h] at e; cases e; have := b3.size; have := k0.lt; omega
      clear hO3 b3 hbel hblk hown5 e0 hvG hvZ k0 hGv u0 u1 HVZ
      refine Lib.hid ?_
      go_wp2_with fail
      refine (CA.out _).mono ?_
      rintro e w6 ⟨rfl, hb6⟩
      have k6 := k5.to hb6
      have hO6 := hO5.to hb6
      have b6 := b5.trans (hb6.mono b5.size)
      have HO6 : Hid (OwnG w6 w.heap.size v' (grpsTo A n (l + 1))) := by show OwnG _ _ _ _; rw [HG.out]; exact hO6
      clear k5 hO5 b5 hb6 hO6
      go_wp2
      go_roundw
      case rel => exact ⟨l + 1, by omega, HO6.out, HVZ5, by rw [HR2.out], k6, b6⟩
      case measure => have := HLT.out; simp [intOf]; omega
end Go.Proofs.YtdoheipnfdbioaaDoor
