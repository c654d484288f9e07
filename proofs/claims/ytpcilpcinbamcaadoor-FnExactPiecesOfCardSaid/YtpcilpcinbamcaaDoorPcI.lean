/-
  Contract: the pieces of nets, as the program has them.
-/
import Derived.Test.YtpcilpcinbamcaaDoorPcO
import Derived.Test.YtpcilpcinbamcaaDoorPcS
import Derived.Test.YtpcilpcinbamcaaDoorCollect
import Derived.Test.YtpcilpcinbamcaaDoorPlanT
import Derived.Test.YtpcilpcinbamcaaDoorScope
namespace Go.Proofs.YtpcilpcinbamcaaDoor
set_option linter.unusedSimpArgs false
set_option linter.unusedVariables false
open Go.ChangeShapes Go.WideShapes Go.ChangeAt Go.RowKit Go.Shelf
attribute [local go_sem] Oper.semAt_some

theorem own_box0 (B : Nat) (t : TypeId) (v : Value) : Own (fun (_ : Nat) W => Boxed W B t v) := fun s X Y row hv hg hrow => hv.kept hg (fun e' => by
  obtain ⟨o, ho, hc⟩ := hrow B e'.symm
  rw [show X.heap[B]? = _ from hv] at ho; cases ho; cases hc)
theorem box_to {w w1 : World} {g : Nat} {t : TypeId} {v : Value} (h : Boxed w g t v) (hb : Below w.heap.size w w1) : Boxed w1 g t v := (hb.block g h.lt).trans h
theorem box_far {w : World} {g g' : Nat} {t : TypeId} {v : Value} (h : Boxed w g t v) (hp : g ≠ g') (u : Value) : Boxed (w.setCell ⟨g', 0, none⟩ u) g t v := (Below.heap_setCell w ⟨g', 0, none⟩ u g hp).trans h
theorem NumOff.far {W : World} {v : Value} {A : Option Addr} {L : List Int} (h : NumOff W v A L) {g : Nat} (hA : ∀ b o, A = some ⟨b, o, none⟩ → b ≠ g) (u : Value) : NumOff (W.setCell ⟨g, 0, none⟩ u) v A L := fun h0 => by
  obtain ⟨b, off, e, h1, h2, h3⟩ := h h0
  exact ⟨b, off, e, h1, by simpa [World.setCell] using h2, fun i hi => (World.cell?_of_block (a := ⟨b, off + i, none⟩) (Below.heap_setCell W ⟨g, 0, none⟩ u b (hA b off e))).trans (h3 i hi)⟩
theorem cnt_memL (p : Nat → Bool) : ∀ k, (memL p 0 k).length = cntTo p k
  | 0 => by simp [memL, cntTo]
  | k + 1 => by
    cases h : p k
    · rw [memL_snoc_f h, cntTo, h]
      exact cnt_memL p k
    · rw [memL_snoc_t h, cntTo, h, List.length_append, cnt_memL p k]; rfl
theorem net_pins {T B : List Int} {n x : Nat} (h : isNetB T B n x = true) : 1 < (memL (hasP T B (x : Int)) 0 n).length := by
  unfold isNetB at h
  rw [Bool.and_eq_true] at h
  rw [cnt_memL]
  exact of_decide_eq_true h.2
set_option maxRecDepth 100000 in
set_option maxHeartbeats 4000000 in
theorem piecesI_any (g : Nat) (T B : List Int) (n : Nat) (w : World) (hG : ColBlk w g T B n n) (hn : n ≤ 24) (hL : BruAt w) :
    Calls Tryd.prog 18 #[.slice (some ⟨g, 0, none⟩) n n] w fun e w' => (∃ v, e = .returned v ∧ OwnP3 w' w.heap.size v (pcsAll T B n (netsL T B n).length)) ∧ Below w.heap.size w w' := by
  refine (callsIn_wide (n := 3)).1 ?_
  refine callsIn_of_wp_marks Tryd.func18 rfl trivial ?_ rfl
  simp only [Tryd.ntmps18, List.size_toArray, List.length_cons, List.length_nil, Nat.reduceAdd, Nat.reduceSub, Array.replicate_succ, Array.replicate_zero, List.push_toArray, List.append_toArray, List.nil_append, List.cons_append]
  have hb0 : Below w.heap.size w ((w.alloc (.cells #[.slice (some ⟨g, 0, none⟩) n n] 42)).alloc (.cells #[.slice none 0 0] 45)) := by (repeat (first | assumption | exact Below.refl _ _ | (refine bl_alloc ?_ _) | (refine Below.drew ?_) | (refine bl_drewN ?_ _) | (refine bl_set ?_ (by first | (simp; done) | omega | (simp; omega)) _) | (refine bl_trans ?_ (by assumption)) | (refine bl_step ?_ (by assumption) (by first | omega | exact Below.size (by assumption) | (simp; omega) | (simp; exact Below.size (by assumption))))))
  have bC := (Boxed.new w 42 (.slice (some ⟨g, 0, none⟩) n n)).alloc (.cells #[.slice none 0 0] 45)
  have bP := Boxed.new (w.alloc (.cells #[.slice (some ⟨g, 0, none⟩) n n] 42)) 45 (.slice none 0 0)
  rw [show (w.alloc (.cells #[.slice (some ⟨g, 0, none⟩) n n] 42)).heap.size = w.heap.size + 1 by simp] at bP
  have c0 := bC.cell
  gi_wp2
  refine ⟨trivial, (callsIn_wide.2 (nets_any g T B n _ (hG.to hb0) hn)).mono ?_⟩
  rintro e w1 ⟨rfl, hb1⟩
  have bC1 := box_to bC hb1
  have bP1 := box_to bP hb1
  have b1 : Below w.heap.size w w1 := bl_step hb0 hb1 hb0.size
  have z1 : w.heap.size + 1 < w1.heap.size := bP1.lt
  clear hb0 hb1 bC bP c0
  gi_wp2
  have HOwn : OwnFrom w1.heap.size (fun k W => ((∃ v, Boxed W (w.heap.size + 1) 45 v ∧ W.ownsRow w.heap.size 50 3 v (pcsAll T B n k).length (cellsP (pcsAll T B n k)) ∧ True) ∧ Boxed W w.heap.size 42 (.slice (some ⟨g, 0, none⟩) n n)) ∧ Below w.heap.size w W) :=
    OwnFrom.and (OwnFrom.and (Own.from (holdsRow_own w.heap.size (w.heap.size + 1) 45 50 3 (fun k : Nat => (pcsAll T B n k).length) (fun k : Nat => cellsP (pcsAll T B n k)) (fun _ _ => True)) _) (Own.from (own_box0 _ _ _) _)) (ownFrom_below (Nat.le_refl _) b1.size)
  refine range_gives (gf := 26) (b := .int .u64 (netsM T B n)) (xs := netsL T B n) (Kq := BruAt) (by omega) rfl (enters_of Tryd.func26 (by kernel_rfl) rfl) (each_gives _ (isNetB T B n) 13 (by omega)) rfl
    _ HOwn (fun k W h => hL.to h.2) ⟨⟨⟨_, bP1, World.ownsRow_nil _ _ _ _, trivial⟩, bC1⟩, b1⟩
    (fun x => { tmps := #[.slice (some ⟨g, 0, none⟩) n n, .pointer (some ⟨w.heap.size, 0, none⟩), .slice none 0 0, .pointer (some ⟨w.heap.size + 1, 0, none⟩), .int .i64 x, undef, undef, .slice (some ⟨g, 0, none⟩) n n, .int .u64 (netsM T B n), .func (.func 26) #[.int .u64 (netsM T B n)] #[], .int .i64 x, undef, undef, undef, undef, undef, undef, undef, undef, undef, undef, undef, undef, undef, undef, undef, undef, undef, undef, undef, undef, undef, undef, undef, undef, undef, undef, undef], defers := [] }) ?assign ?body ?done
  case assign =>
    intro l x W K hK
    gi_wp2
    exact hK
  case body =>
    rintro l k x W ⟨⟨⟨v, hv, hrow, _⟩, hc⟩, hB⟩ hx
    obtain ⟨hx13, hnet⟩ := memL_lt (List.mem_of_getElem? hx)
    have hm0 := net_pins hnet
    have HSC := pcsAll_succ (T := T) (B := B) (n := n) hx
    rw [pcs_pairs] at HSC
    have hkl : k < 13 := by
      have h13 := netsL_len T B n
      rcases Nat.lt_or_ge k 13 with h | h
      · exact h
      · rw [List.getElem?_eq_none (by omega)] at hx; cases hx
    have hle : (pcsAll T B n k).length ≤ 312 := by
      have h1 := pcsAll_len T B n k
      have h2 : k * n ≤ 13 * 24 := Nat.mul_le_mul (by omega) hn
      omega
    have hmle := memL_len (hasP T B (x : Int)) 0 n
    have hpin := fun w1 (h : Below w.heap.size w w1) => pinsOf_any g T B n (x : Int) w1 (hG.to h) hn
    have hmem := fun w1 (h : Below w.heap.size w w1) => members_any (hasP T B (x : Int)) n (by omega) w1 (hL.to h)
    obtain ⟨L0, hL0⟩ : ∃ L0, pcsAll T B n k = L0 := ⟨_, rfl⟩
    obtain ⟨Es, hEs⟩ : ∃ Es, memL (hasP T B (x : Int)) 0 n = Es := ⟨_, rfl⟩
    rw [hL0] at hrow hle HSC
    rw [hEs] at hm0 hmle HSC
    simp only [hEs] at hmem
    obtain ⟨m, hm⟩ : ∃ m, Es.length = m + 1 := ⟨Es.length - 1, by omega⟩
    rw [hm, Nat.add_sub_cancel] at HSC
    rw [hm] at hmle
    have hm1 : 1 ≤ m := by omega
    have HM := Lib.hid hm
    have HS := Lib.hid HSC
    clear HSC hx hL0 hEs hnet hm0
    generalize maskTo (hasP T B (x : Int)) n = M at *
    have d0 := hc.cell
    gi_wp2
    refine ⟨trivial, (CallsIn.inRound l (callsIn_wide.2 (hpin _ hB))).mono ?_⟩
    rintro e w2 ⟨rfl, hb2⟩
    gi_wp2
    refine ⟨trivial, (CallsIn.inRound l (callsIn_wide.2 (hmem _ (bl_step hB hb2 hB.size)))).mono ?_⟩
    rintro e w3 ⟨⟨ve, rfl, ho⟩, hb3⟩
    obtain ⟨Ae, ce, rfl, hIn, hcap⟩ := ho.ints
    have hnl := natI_len Es
    rw [HM.out] at hnl
    have hge : ∀ b off, Ae = some ⟨b, off, none⟩ → w2.heap.size ≤ b := fun b off e => by
      rcases ho.2 with ⟨q, _⟩ | ⟨g2, cap2, cur2, q, hB2, _⟩
      · injection q with q1; rw [e] at q1; cases q1
      · injection q with q1; rw [e] at q1; injection q1 with q1; injection q1 with q1; omega
    rw [hnl] at hcap ⊢
    have hvl : ∀ i, v.ownBlock = some i → i < W.heap.size := fun i e => (show OwnP3 W w.heap.size v L0 from hrow).lt e
    have hz2 := hb2.size
    have hzv := hv.lt
    have hNO : NumOff w3 v Ae (natI Es) := fun h0 => by
      obtain ⟨b, off, e, hlt, hcs⟩ := hIn h0
      refine ⟨b, off, e, fun k2 => ?_, hlt, hcs⟩
      have h1 := hvl b k2
      have h3 := hge b off e
      omega
    obtain ⟨be, oe, eAe, _, hbe, _⟩ := hNO (by omega)
    have hgeb : w.heap.size + 1 < be := by
      have := hge be oe eAe
      omega
    subst eAe
    have b23 := bl_step hb2 hb3 hb2.size
    have bw3 := bl_step hB b23 hB.size
    have hv3 := box_to hv b23
    have hc3 := box_to hc b23
    have hrow3 : OwnP3 w3 w.heap.size v L0 := (show OwnP3 W w.heap.size v L0 from hrow).to b23
    have hk3 : Hid (KeepsFrom w1.heap.size W w3) := keepsFrom_below b23
    have hmI : (m : Int) ≤ 24 := by omega
    have hcapI : ((m : Int) + 1) ≤ (ce : Int) := by omega
    have hce : ¬ ce = 1 := by omega
    clear hv hc hrow hIn ho hb2 hb3 b23 hvl hbe hpin hmem hB d0 hge hz2 hzv
    gi_wp2
    gi_loopw [6, 18] (fun _ i wr => ∃ (j : Nat) (u : Value), j ≤ m ∧ i = .int .i64 j ∧ Boxed wr (w.heap.size + 1) 45 u ∧ OwnP3 wr w.heap.size u (L0 ++ prTo (x : Int) Es j) ∧ Boxed wr w.heap.size 42 (.slice (some ⟨g, 0, none⟩) n n) ∧ NumOff wr u (some ⟨be, oe, none⟩) (natI Es) ∧ Below w.heap.size w wr ∧ Hid (KeepsFrom w1.heap.size W wr)) (fun _ i _ => m - (intOf i).toNat)
    case atStart => exact ⟨0, v, Nat.zero_le _, rfl, hv3, by rw [show prTo (x : Int) Es 0 = [] from rfl, List.append_nil]; exact hrow3, hc3, hNO, bw3, hk3⟩
    case round =>
      clear hv3 hrow3 hc3 hNO bw3 hk3
      obtain ⟨j, u, hj, rfl, hv, hrow, hc, hNO, hB, hk⟩ := hrel
      by_cases hlt : j < m
      case neg =>
        obtain rfl : j = m := by omega
        gi_wp2
        refine ⟨hk.out, ⟨⟨u, hv, ?_⟩, hc⟩, hB⟩
        rw [HS.out]
        exact ⟨hrow, trivial⟩
      have hjI : (j : Int) < (m : Int) := by omega
      have hj0 : (0 : Int) ≤ (j : Int) := by omega
      obtain ⟨ya, hya⟩ : ∃ y, Es[j]? = some y := ⟨_, List.getElem?_eq_getElem (by rw [HM.out]; omega)⟩
      obtain ⟨yb, hyb⟩ : ∃ y, Es[j + 1]? = some y := ⟨_, List.getElem?_eq_getElem (by rw [HM.out]; omega)⟩
      obtain ⟨b', o', e', hne, hbe, hcs⟩ := hNO (by rw [hnl]; omega)
      cases e'
      have da := hcs j (by rw [hnl]; omega)
      have db := hcs (j + 1) (by rw [hnl]; omega)
      rw [natI_at hya] at da
      rw [natI_at hyb] at db
      have HPR : Hid (L0 ++ prTo (x : Int) Es (j + 1) = (L0 ++ prTo (x : Int) Es j) ++ [[(x : Int), (ya : Int), (yb : Int)]]) := by show _ = _; rw [prTo_succ, ← List.append_assoc, List.getD_eq_getElem?_getD, hya, List.getD_eq_getElem?_getD, hyb]; rfl
      have hLl : (L0 ++ prTo (x : Int) Es j).length ≤ 4000000 := by rw [List.length_append, prTo_len]; omega
      obtain ⟨L, hLe⟩ : ∃ L, L0 ++ prTo (x : Int) Es j = L := ⟨_, rfl⟩
      rw [hLe] at HPR hLl hrow
      have d0 := hv.cell
      have hj1 : (j : Int) < (m : Int) + 1 := by omega
      have hjw : IntKind.i64.wrap ((j : Int) + 1) = (j : Int) + 1 := IntWalk.i64_in _ (by omega)
      have hjp : 0 ≤ (j : Int) + 1 := by omega
      have hjq : (j : Int) + 1 < (m : Int) + 1 := by omega
      have hjt : ((j : Int) + 1).toNat = j + 1 := by omega
      have FIN : Hid (∀ (v6 : Value) (w6 : World), OwnP3 w6 w.heap.size v6 (L ++ [[(x : Int), (ya : Int), (yb : Int)]]) → (wr.drew.alloc (.cells #[.int .i64 (x : Int), .int .i64 (ya : Int), .int .i64 (yb : Int)] 50)).grownBy w6 u.ownBlock → (v6.ownBlock = u.ownBlock ∨ v6.ownBlock = some (wr.drew.alloc (.cells #[.int .i64 (x : Int), .int .i64 (ya : Int), .int .i64 (yb : Int)] 50)).heap.size) →
          (w6.cell? ⟨be, oe + j, none⟩ = some (.int .i64 (ya : Int)) ∧ w6.cell? ⟨be, oe + (j + 1), none⟩ = some (.int .i64 (yb : Int))) ∧ Boxed w6 (w.heap.size + 1) 45 u ∧ ((w6.setCell ⟨w.heap.size + 1, 0, none⟩ v6).cell? ⟨be, oe + j, none⟩ = some (.int .i64 (ya : Int)) ∧ (w6.setCell ⟨w.heap.size + 1, 0, none⟩ v6).cell? ⟨be, oe + (j + 1), none⟩ = some (.int .i64 (yb : Int))) ∧ Boxed (w6.setCell ⟨w.heap.size + 1, 0, none⟩ v6) (w.heap.size + 1) 45 v6 ∧ OwnP3 (w6.setCell ⟨w.heap.size + 1, 0, none⟩ v6) w.heap.size v6 (L0 ++ prTo (x : Int) Es (j + 1)) ∧ Boxed (w6.setCell ⟨w.heap.size + 1, 0, none⟩ v6) w.heap.size 42 (.slice (some ⟨g, 0, none⟩) n n) ∧ NumOff (w6.setCell ⟨w.heap.size + 1, 0, none⟩ v6) v6 (some ⟨be, oe, none⟩) (natI Es) ∧ Below w.heap.size w (w6.setCell ⟨w.heap.size + 1, 0, none⟩ v6) ∧ Hid (KeepsFrom w1.heap.size W (w6.setCell ⟨w.heap.size + 1, 0, none⟩ v6))) := by
        show ∀ (v6 : Value) (w6 : World), _
        intro v6 w6 hown hgrow hob
        obtain ⟨hv1, hv2, hr2, hk2, hb2⟩ := Boxed.appended (W := wr.drew) (tmp := .cells #[.int .i64 (x : Int), .int .i64 (ya : Int), .int .i64 (yb : Int)] 50) hv (by decide) hrow hB.size (by omega) hown hgrow
        have hz : (wr.drew.alloc (.cells #[.int .i64 (x : Int), .int .i64 (ya : Int), .int .i64 (yb : Int)] 50)).heap.size = wr.heap.size + 1 := World.size_alloc _ _
        have hzs : wr.heap.size ≤ w6.heap.size := by have := hgrow.size; omega
        have keep : ∀ i, i < wr.heap.size → u.ownBlock ≠ some i → w6.heap[i]? = wr.heap[i]? := fun i hi hne => (hgrow.block i (by omega) (Ne.symm hne)).trans (Below.heap_alloc wr.drew _ i hi)
        have kc : ∀ o, w6.cell? ⟨be, o, none⟩ = wr.cell? ⟨be, o, none⟩ := fun o => World.cell?_of_block (a := ⟨be, o, none⟩) (keep be hbe hne)
        have kd : ∀ o, (w6.setCell ⟨w.heap.size + 1, 0, none⟩ v6).cell? ⟨be, o, none⟩ = wr.cell? ⟨be, o, none⟩ := fun o => (World.cell?_of_block (a := ⟨be, o, none⟩) (Below.heap_setCell w6 ⟨w.heap.size + 1, 0, none⟩ v6 be (by simp; omega))).trans (kc o)
        have hkf := hk2.from w1.heap.size
        have hN6 : NumOff w6 v6 (some ⟨be, oe, none⟩) (natI Es) := hNO.next keep (hob.elim .inl (fun e => .inr ⟨_, e, by omega⟩)) hzs
        refine ⟨⟨(kc _).trans da, (kc _).trans db⟩, hv1, ⟨(kd _).trans da, (kd _).trans db⟩, hv2, by rw [HPR.out]; exact hr2, box_far (((show Boxed wr.drew w.heap.size 42 (.slice (some ⟨g, 0, none⟩) n n) from hc).alloc _).kept hgrow (hc.not_row (by decide) hrow)) (by omega) v6, hN6.far (fun b o e => by injection e with e; injection e with e; omega) v6, hB.drew.trans hb2, ?_⟩
        exact hk.out.trans ⟨hkf.size, hkf.same⟩
      have hgA : Blk (wr.drew.alloc (.cells #[.int .i64 (x : Int), .int .i64 (ya : Int), .int .i64 (yb : Int)] 50)) wr.heap.size #[.int .i64 (x : Int), .int .i64 (ya : Int), .int .i64 (yb : Int)] 50 := Blk.new wr.drew _ _
      have bA : Below wr.heap.size wr (wr.drew.alloc (.cells #[.int .i64 (x : Int), .int .i64 (ya : Int), .int .i64 (yb : Int)] 50)) := (Below.refl _ _).drew.alloc (Nat.le_refl _) _
      clear hya hyb hcs HPR hk hNO hc
      gi_wp2
      refine wpIn_region_treeR (fun wx => wx.cell? ⟨be, oe + j, none⟩ = some (.int .i64 (ya : Int)) ∧ wx.cell? ⟨be, oe + (j + 1), none⟩ = some (.int .i64 (yb : Int))) (Pl.takes [1, 2, 3, 4, 5, 6, 7, 8, 9, 10, 11, 12] (.fork 0 (.alone 13 (.alone 14 (.alone 15 .done))) 13 (.alone 0 (.alone 14 (.alone 15 .done))))) (by kernel_rfl) (by kernel_rfl) (by kernel_rfl) (by kernel_rfl) ⟨da, db⟩ (fun hS0 => ?_)
      refine tplan_w (v := ?_) rfl (by rfl) ?_ ?_
      rotate_left
      · intro wx hSx
        try dsimp only at hSx
        go_simp
        try (with_reducible rfl)
      try simp only [Act.put, List.setIfInBounds_toArray, List.set_cons_zero, List.set_cons_succ]
      refine tplan_w (v := ?_) rfl (by rfl) ?_ ?_
      rotate_left
      · intro wx hSx
        try dsimp only at hSx
        go_simp
        try (with_reducible rfl)
      try simp only [Act.put, List.setIfInBounds_toArray, List.set_cons_zero, List.set_cons_succ]
      refine tplan_w (v := ?_) rfl (by rfl) ?_ ?_
      rotate_left
      · intro wx hSx
        try dsimp only at hSx
        go_simp
        try (with_reducible rfl)
      try simp only [Act.put, List.setIfInBounds_toArray, List.set_cons_zero, List.set_cons_succ]
      refine tplan_w (v := ?_) rfl (by rfl) ?_ ?_
      rotate_left
      · intro wx hSx
        try dsimp only at hSx
        go_simp
        try (with_reducible rfl)
      try simp only [Act.put, List.setIfInBounds_toArray, List.set_cons_zero, List.set_cons_succ]
      refine tplan_w (v := ?_) rfl (by rfl) ?_ ?_
      rotate_left
      · intro wx hSx
        try dsimp only at hSx
        go_simp
        try (with_reducible rfl)
      try simp only [Act.put, List.setIfInBounds_toArray, List.set_cons_zero, List.set_cons_succ]
      refine tplan_w (v := ?_) rfl (by rfl) ?_ ?_
      rotate_left
      · intro wx hSx
        try dsimp only at hSx
        go_simp
        try (with_reducible rfl)
      try simp only [Act.put, List.setIfInBounds_toArray, List.set_cons_zero, List.set_cons_succ]
      refine tplan_w (v := ?_) rfl (by rfl) ?_ ?_
      rotate_left
      · intro wx hSx
        try dsimp only at hSx
        go_simp
        try (with_reducible rfl)
      try simp only [Act.put, List.setIfInBounds_toArray, List.set_cons_zero, List.set_cons_succ]
      refine tplan_w (v := ?_) rfl (by rfl) ?_ ?_
      rotate_left
      · intro wx hSx
        try dsimp only at hSx
        go_simp
        try (with_reducible rfl)
      try simp only [Act.put, List.setIfInBounds_toArray, List.set_cons_zero, List.set_cons_succ]
      refine tplan_w (v := ?_) rfl (by rfl) ?_ ?_
      rotate_left
      · intro wx hSx
        try dsimp only at hSx
        go_simp
        try (with_reducible rfl)
      try simp only [Act.put, List.setIfInBounds_toArray, List.set_cons_zero, List.set_cons_succ]
      refine tplan_w (v := ?_) rfl (by rfl) ?_ ?_
      rotate_left
      · intro wx hSx
        try dsimp only at hSx
        go_simp
        try (with_reducible rfl)
      try simp only [Act.put, List.setIfInBounds_toArray, List.set_cons_zero, List.set_cons_succ]
      refine tplan_w (v := ?_) rfl (by rfl) ?_ ?_
      rotate_left
      · intro wx hSx
        try dsimp only at hSx
        go_simp
        try (with_reducible rfl)
      try simp only [Act.put, List.setIfInBounds_toArray, List.set_cons_zero, List.set_cons_succ]
      refine tplan_w (v := ?_) rfl (by rfl) ?_ ?_
      rotate_left
      · intro wx hSx
        try dsimp only at hSx
        go_simp
        try (with_reducible rfl)
      try simp only [Act.put, List.setIfInBounds_toArray, List.set_cons_zero, List.set_cons_succ]
      have hS1 : (fun wx : World => wx.cell? ⟨be, oe + j, none⟩ = some (.int .i64 (ya : Int)) ∧ wx.cell? ⟨be, oe + (j + 1), none⟩ = some (.int .i64 (yb : Int))) (wr.drew.alloc (.cells #[.int .i64 (x : Int), .int .i64 (ya : Int), .int .i64 (yb : Int)] 50)) := ⟨Lib.cell?_alloc_some _ hS0.1, Lib.cell?_alloc_some _ hS0.2⟩
      refine tplan_fork ?_ ?_
      · skip
        refine tplan_b rfl (fun K hK => ?_)
        go_simp
        refine hK _ _ ⟨hS0, ?_⟩
        clear hK K
        try simp only [Act.put, List.setIfInBounds_toArray, List.set_cons_zero, List.set_cons_succ]
        refine tplan_b rfl (fun K hK => ?_)
        go_simp
        refine hK _ _ ⟨hS1, ?_⟩
        clear hK K
        try simp only [Act.put, List.setIfInBounds_toArray, List.set_cons_zero, List.set_cons_succ]
        refine tplan_b rfl (fun K hK => ?_)
        refine step_append_pc (by rfl) (.tmp 21) (.tmp 34) (by rfl) w.heap.size u L (x : Int) (ya : Int) (yb : Int) wr.heap.size (by rfl) (hrow.to bA) (by rfl) hgA hLl (Nat.le_trans hB.size bA.size) ?_
        intro v6 w6 hO6 hgrow howb
        obtain ⟨f1, f2, f3, r1, r2, r3, r4, r5, r6⟩ := FIN.out _ _ hO6 hgrow howb
        obtain ⟨A6, c6, hv6, _⟩ := hO6.cells
        obtain ⟨q6, hq6⟩ : ∃ q, (L ++ [[(x : Int), (ya : Int), (yb : Int)]]).length = q := ⟨_, rfl⟩
        rw [hq6] at hv6
        clear hq6 hO6 hgrow howb
        subst hv6
        have i0 := f2.cell
        have iF := f2.frozen
        refine hK _ _ ⟨f1, ?_⟩
        clear hK K f1 f2
        try simp only [Act.put, List.setIfInBounds_toArray, List.set_cons_zero, List.set_cons_succ]
        refine tplan_b rfl (fun K hK => ?_)
        go_simp
        refine hK _ _ ⟨f3, ?_⟩
        clear hK K
        try simp only [Act.put, List.setIfInBounds_toArray, List.set_cons_zero, List.set_cons_succ]
        refine tplan_end ?_
        gi_wp2
        exact ⟨⟨j + 1, _, by omega, by go_num, r1, r2, r3, r4, r5, r6⟩, by simp [intOf]; omega⟩
      · have d1 : (wr.alloc (.cells #[.int .i64 (x : Int), .int .i64 (ya : Int), .int .i64 (yb : Int)] 50)).cell? ⟨w.heap.size + 1, 0, none⟩ = some u := Lib.cell?_alloc_some _ d0
        refine tplan_b rfl (fun K hK => ?_)
        go_simp
        refine hK _ _ ⟨hS1, ?_⟩
        clear hK K
        try simp only [Act.put, List.setIfInBounds_toArray, List.set_cons_zero, List.set_cons_succ]
        refine tplan_b rfl (fun K hK => ?_)
        go_simp
        refine hK _ _ ⟨hS1, ?_⟩
        clear hK K
        try simp only [Act.put, List.setIfInBounds_toArray, List.set_cons_zero, List.set_cons_succ]
        refine tplan_b rfl (fun K hK => ?_)
        refine step_append_pc (by rfl) (.tmp 21) (.tmp 34) (by rfl) w.heap.size u L (x : Int) (ya : Int) (yb : Int) wr.heap.size (by rfl) (hrow.to bA) (by rfl) hgA hLl (Nat.le_trans hB.size bA.size) ?_
        intro v6 w6 hO6 hgrow howb
        obtain ⟨f1, f2, f3, r1, r2, r3, r4, r5, r6⟩ := FIN.out _ _ hO6 hgrow howb
        obtain ⟨A6, c6, hv6, _⟩ := hO6.cells
        obtain ⟨q6, hq6⟩ : ∃ q, (L ++ [[(x : Int), (ya : Int), (yb : Int)]]).length = q := ⟨_, rfl⟩
        rw [hq6] at hv6
        clear hq6 hO6 hgrow howb
        subst hv6
        have i0 := f2.cell
        have iF := f2.frozen
        refine hK _ _ ⟨f1, ?_⟩
        clear hK K f1 f2
        try simp only [Act.put, List.setIfInBounds_toArray, List.set_cons_zero, List.set_cons_succ]
        refine tplan_b rfl (fun K hK => ?_)
        go_simp
        refine hK _ _ ⟨f3, ?_⟩
        clear hK K
        try simp only [Act.put, List.setIfInBounds_toArray, List.set_cons_zero, List.set_cons_succ]
        refine tplan_end ?_
        gi_wp2
        exact ⟨⟨j + 1, _, by omega, by go_num, r1, r2, r3, r4, r5, r6⟩, by simp [intOf]; omega⟩
  case done =>
    rintro D W hD ⟨⟨⟨v, hv, hrow, _⟩, _⟩, hB⟩ hK
    have hc := hv.cell
    gi_wp2
    refine ⟨by simp, .inl ⟨_, _, rfl, run_takeDeferred hK, ?_⟩⟩
    exact ⟨_, results_tmp rfl _ _ _, ⟨v, rfl, ownsRow_putObj hrow _ hK rfl⟩, hB.trans (belowK_b (w := w) (Nat.le_refl _) W D _ _ (by omega) hK rfl rfl)⟩
end Go.Proofs.YtpcilpcinbamcaaDoor
