/-
  Contract: the pieces of nets, as the model has them.
-/
import Derived.Test.YtpcilpcinbamcaaDoorPcP
import Derived.Test.YtpcilpcinbamcaaDoorLL
namespace Go.Proofs.YtpcilpcinbamcaaDoor
set_option linter.unusedSimpArgs false
set_option linter.unusedVariables false
open Go.ChangeShapes Go.WideShapes Go.ChangeAt Go.RowKit

/-- Numbers that lie apart from a slice's block. -/
def NumOff (W : World) (v : Value) (A : Option Addr) (L : List Int) : Prop := 0 < L.length → ∃ b off, A = some ⟨b, off, none⟩ ∧ v.ownBlock ≠ some b ∧ b < W.heap.size ∧ ∀ i, i < L.length → W.cell? ⟨b, off + i, none⟩ = some (.int .i64 (L.getD i 0))
theorem NumOff.to {W W1 : World} {v : Value} {A : Option Addr} {L : List Int} (h : NumOff W v A L) (hb : Below W.heap.size W W1) : NumOff W1 v A L := fun h0 => by
  obtain ⟨b, off, e, h1, h2, h3⟩ := h h0
  exact ⟨b, off, e, h1, Nat.lt_of_lt_of_le h2 hb.size, fun i hi => (hb.cell (p := ⟨b, off + i, none⟩) h2).trans (h3 i hi)⟩
theorem NumOff.next {W w' : World} {v v' : Value} {A : Option Addr} {L : List Int} (h : NumOff W v A L) (hk : ∀ i, i < W.heap.size → v.ownBlock ≠ some i → w'.heap[i]? = W.heap[i]?) (hob : v'.ownBlock = v.ownBlock ∨ ∃ g, v'.ownBlock = some g ∧ W.heap.size ≤ g) (hz : W.heap.size ≤ w'.heap.size) : NumOff w' v' A L := fun h0 => by
  obtain ⟨b, off, e, h1, h2, h3⟩ := h h0
  refine ⟨b, off, e, fun k => ?_, by omega, fun i hi => (World.cell?_of_block (a := ⟨b, off + i, none⟩) (hk b h2 h1)).trans (h3 i hi)⟩
  rcases hob with hob | ⟨g, hg, hgz⟩
  · exact h1 (hob ▸ k)
  · rw [hg] at k; injection k with k; omega
set_option maxRecDepth 100000 in
set_option maxHeartbeats 6400000 in
theorem l03Pieces_any (b : Nat) (A A' : Option Addr) (T B : List Int) (n c c' : Nat) (w : World) (hb : ChAt w b A A' n n c c') (hp : IntsAt w w.heap.size A T) (hq : IntsAt w w.heap.size A' B) (HT : Hid (T.length = n)) (HB : Hid (B.length = n)) (hn : n ≤ 24) :
    Calls Tryd.prog 15 #[.pointer (some ⟨b, 0, none⟩)] w fun e w' => (∃ v Ms, e = .returned v ∧ LLOwn w' w.heap.size v Ms ∧ heldI Ms = pcsAll T B n (netsL T B n).length) ∧ Below w.heap.size w w' := by
  have hnI : (n : Int) ≤ 24 := by omega
  have hx0 : Below w.heap.size w (w.alloc (.cells #[] 22)) := (Below.refl _ _).alloc (Nat.le_refl _) _
  have hLL0 := LLOwn.empty w w.heap.size (Nat.le_refl _)
  have CN := Lib.hid (l03Nets_any b A A' T B n n c c' _ (hb.to hx0) (hp.to hx0) (hq.to hx0) HT HB hn (Lib.hid rfl))
  have HP := Lib.hid hp
  have HQ := Lib.hid hq
  have h13 : (netsL T B n).length ≤ 13 := memL_len _ _ _
  have HNX : Hid (∀ (i x : Nat), (netsL T B n)[i]? = some x → (natI (netsL T B n)).getD i 0 = (x : Int)) := fun i x h => natI_at h
  have hnl : (natI (netsL T B n)).length = (netsL T B n).length := natI_len _
  clear hp hq
  go_enter Tryd.func15, Tryd.ntmps15
  go_wp2_with fail
  refine CN.out.mono ?_
  rintro e w2 ⟨⟨vn, rfl, ho⟩, hb2⟩
  have hb02 := bl_trans hx0 hb2
  have hLL2 := hLL0.to hb2
  have hge : ∀ i, vn.ownBlock = some i → w.heap.size + 1 ≤ i := fun i e => by
    rcases ho.2 with ⟨rfl, _⟩ | ⟨g, cap, cur, rfl, hB, _⟩
    · simp [Value.ownBlock] at e
    · simp [Value.ownBlock] at e; simp at hB; omega
  obtain ⟨An, cn, rfl, hIn, _⟩ := ho.ints
  have hNO : NumOff w2 (.slice (some ⟨w.heap.size, 0, none⟩) 0 0) An (natI (netsL T B n)) := fun h0 => by
    obtain ⟨bn, on, e, hlt, hc⟩ := hIn h0
    refine ⟨bn, on, e, fun k => ?_, hlt, hc⟩
    have := hge bn (by rw [e]; rfl)
    simp [Value.ownBlock] at k
    omega
  obtain ⟨m, hm⟩ : ∃ m, (netsL T B n).length = m := ⟨_, rfl⟩
  rw [hm] at h13 hnl
  rw [hnl]
  have HM := Lib.hid hm
  have HNL := Lib.hid hnl
  have h13I : (m : Int) ≤ 13 := by omega
  have H0 : Hid (heldI ([] : List SlI) = pcsAll T B n 0) := rfl
  have HLE := Lib.hid (fun i => pcsAll_len T B n i)
  clear CN ho hge hIn hx0 hLL0 hb2 hm hnl
  go_wp2
  go_loopw [3, 5, 6, 7] (fun v i _ _ wr => ∃ (k : Nat) (Ms : List SlI), k ≤ m ∧ i = .int .i64 k ∧ LLOwn wr w.heap.size v Ms ∧ Hid (heldI Ms = pcsAll T B n k) ∧ NumOff wr v An (natI (netsL T B n)) ∧ Below w.heap.size w wr) (fun _ i _ _ _ => m - (intOf i).toNat)
  case atStart => exact ⟨0, [], Nat.zero_le _, rfl, hLL2, H0, hNO, hb02⟩
  case round =>
    clear hLL2 H0 hNO hb02
    obtain ⟨k, Ms, hk, rfl, hLL, HH, hNO, hbw⟩ := hrel
    by_cases hlt : k < m
    case neg =>
      obtain rfl : k = m := by omega
      go_wp2
      go_ret
      exact ⟨⟨_, Ms, rfl, hLL, by rw [HM.out]; exact HH.out⟩, hbw⟩
    have hkI : (k : Int) < (m : Int) := by omega
    have hk0 : (0 : Int) ≤ (k : Int) := by omega
    obtain ⟨x, hx⟩ : ∃ x, (netsL T B n)[k]? = some x := ⟨_, List.getElem?_eq_getElem (by rw [HM.out]; exact hlt)⟩
    have HX := Lib.hid hx
    have HXV := Lib.hid (HNX.out k x hx)
    have HSC := Lib.hid (pcsAll_succ hx)
    obtain ⟨p, hpp⟩ : ∃ p, hasP T B (x : Int) = p := ⟨_, rfl⟩
    have HPP := Lib.hid hpp
    clear hx hpp
    go_wp2
    go_loopw [3, 6, 7] (fun v last i wr => ∃ (j : Nat) (Ms : List SlI), j ≤ n ∧ i = .int .i64 j ∧ last = .int .i64 (hiTo p j) ∧ LLOwn wr w.heap.size v Ms ∧ Hid (heldI Ms = pcsAll T B n k ++ pcsTo p (x : Int) j) ∧ NumOff wr v An (natI (netsL T B n)) ∧ Below w.heap.size w wr) (fun _ _ i _ => n - (intOf i).toNat)
    case atStart => exact ⟨0, Ms, Nat.zero_le _, rfl, rfl, hLL, by show _ = _; rw [HH.out]; simp [pcsTo], hNO, hbw⟩
    case round =>
      clear hLL HH hNO hbw
      obtain ⟨j, Ms, hj, rfl, rfl, hLL, HH, hNO, hbw⟩ := hrel
      have hj0 : (0 : Int) ≤ (j : Int) := by omega
      have hch := hb.to hbw
      obtain ⟨_, e0, e1⟩ := hch
      by_cases hlj : j < n
      case neg =>
        obtain rfl : j = n := by omega
        have HN : Hid (heldI Ms = pcsAll T B j (k + 1)) := by show _ = _; rw [HSC.out, HH.out, HPP.out]
        go_wp2
        go_roundw
        case rel => exact ⟨k + 1, Ms, by omega, by go_num, hLL, HN, hNO, hbw⟩
        case measure => simp [intOf]; omega
      have hjI : (j : Int) < (n : Int) := by omega
      have hkl : k < (natI (netsL T B n)).length := by rw [HNL.out]; exact hlt
      obtain ⟨bn, on, eAn, _, hbn, hcn⟩ := hNO (by omega)
      subst eAn
      have dn := hcn k hkl
      rw [HXV.out] at dn
      obtain ⟨b1, o1, rfl, z1, k1⟩ := HP.out (by rw [HT.out]; omega)
      obtain ⟨b2, o2, rfl, z2, k2⟩ := HQ.out (by rw [HB.out]; omega)
      have d1 := (hbw.cell (p := ⟨b1, o1 + j, none⟩) z1).trans (k1 j (by rw [HT.out]; exact hlj))
      have d2 := (hbw.cell (p := ⟨b2, o2 + j, none⟩) z2).trans (k2 j (by rw [HB.out]; exact hlj))
      have HD : Hid (p j = (decide (T.getD j 0 = (x : Int)) || decide (B.getD j 0 = (x : Int)))) := by show _ = _; rw [← HPP.out]; rfl
      have hML : Ms.length ≤ 1000000 := by
        have e := congrArg List.length HH.out
        have h1 := HLE.out k
        have h2 := pcsTo_len p (x : Int) j
        have h3 : k * n ≤ 13 * 24 := Nat.mul_le_mul (by omega) hn
        rw [List.length_append, heldI_len] at e
        omega
      clear k1 k2 hcn hkl z1 z2
      generalize T.getD j 0 = t at *
      generalize B.getD j 0 = u at *
      cases hpj : p j
      · have HPC : Hid (pcsTo p (x : Int) (j + 1) = pcsTo p (x : Int) j) := pcsTo_f (by rw [hpj]; simp)
        have HHI := Lib.hid (hiTo_f hpj)
        have hxy := HD.out
        rw [hpj] at hxy
        have hx : ¬ t = (x : Int) := by intro e; simp [e] at hxy
        have hy : ¬ u = (x : Int) := by intro e; simp [e] at hxy
        have hxb : (t != (x : Int)) = true := by simpa using hx
        have hyb : (u != (x : Int)) = true := by simpa using hy
        have hxc : (t == (x : Int)) = false := by simpa using hx
        have hyc : (u == (x : Int)) = false := by simpa using hy
        clear hxy hpj
        go_wp2
        go_quiet (fail)
        have bd : Below wr.heap.size wr (wr.drewN nq) := bl_drewN (Below.refl _ _) _
        have HN : Hid (heldI Ms = pcsAll T B n k ++ pcsTo p (x : Int) (j + 1)) := by show _ = _; rw [HPC.out]; exact HH.out
        go_wp2
        go_roundw
        case rel => exact ⟨j + 1, Ms, by omega, by go_num, by rw [HHI.out], hLL.to bd, HN, hNO.to bd, bl_drewN hbw _⟩
        case measure => simp [intOf]; omega
      have HHI := Lib.hid (hiTo_t hpj)
      by_cases h0 : 0 ≤ hiTo p j
      case neg =>
        have HPC : Hid (pcsTo p (x : Int) (j + 1) = pcsTo p (x : Int) j) := pcsTo_f (fun h => h0 h.2)
        have HN : Hid (heldI Ms = pcsAll T B n k ++ pcsTo p (x : Int) (j + 1)) := by show _ = _; rw [HPC.out]; exact HH.out
        have hxy := HD.out
        rw [hpj] at hxy
        have hd0 : decide (0 ≤ hiTo p j) = false := decide_eq_false h0
        clear hpj
        by_cases hx : t = (x : Int)
        · subst hx
          clear hxy
          go_wp2
          go_quiet (fail)
          have bd : Below wr.heap.size wr (wr.drewN nq) := bl_drewN (Below.refl _ _) _
          go_wp2
          go_roundw
          case rel => exact ⟨j + 1, Ms, by omega, by go_num, by rw [HHI.out], hLL.to bd, HN, hNO.to bd, bl_drewN hbw _⟩
          case measure => simp [intOf]; omega
        · have hxb : (t != (x : Int)) = true := by simpa using hx
          have hxc : (t == (x : Int)) = false := by simpa using hx
          have hy : u = (x : Int) := by simpa [hx] using hxy.symm
          subst hy
          clear hxy
          go_wp2
          go_quiet (fail)
          have bd : Below wr.heap.size wr (wr.drewN nq) := bl_drewN (Below.refl _ _) _
          go_wp2
          go_roundw
          case rel => exact ⟨j + 1, Ms, by omega, by go_num, by rw [HHI.out], hLL.to bd, HN, hNO.to bd, bl_drewN hbw _⟩
          case measure => simp [intOf]; omega
      case pos =>
        have HPC : Hid (pcsTo p (x : Int) (j + 1) = pcsTo p (x : Int) j ++ [[(x : Int), hiTo p j, (j : Int)]]) := pcsTo_t hpj h0
        have HN : ∀ g, Hid (heldI (Ms ++ [(some ⟨g, 0, none⟩, [(x : Int), hiTo p j, (j : Int)], 3)]) = pcsAll T B n k ++ pcsTo p (x : Int) (j + 1)) := fun g => by
          have e := HH.out
          unfold heldI at e
          show _ = _
          unfold heldI
          rw [List.map_append, e, HPC.out, List.append_assoc]; rfl
        have hxy := HD.out
        rw [hpj] at hxy
        have hd0 : decide (0 ≤ hiTo p j) = true := decide_eq_true h0
        clear hpj HPC HH
        by_cases hx : t = (x : Int)
        · subst hx
          clear hxy
          go_wp2
          go_quiet (fail)
          have bd : Below wr.heap.size wr (wr.drewN nq) := bl_drewN (Below.refl _ _) _
          have hLd := hLL.to bd
          have hNd := hNO.to bd
          have bwd := bl_drewN hbw nq
          have dnd : (wr.drewN nq).cell? ⟨bn, on + k, none⟩ = some (.int .i64 (x : Int)) := dn
          clear bd hLL hNO hbw dn d1 d2 e0 e1
          generalize wr.drewN nq = W at *
          have hz := bwd.size
          have b3 : Below W.heap.size W (W.alloc (.cells #[.int .i64 (x : Int), .int .i64 (hiTo p j), .int .i64 (j : Int)] 2)) := (Below.refl _ _).alloc (Nat.le_refl _) _
          have bw3 := bl_trans bwd b3
          have hL3 := (hLd.to b3).ow
          have hz3 := bw3.size
          refine Lib.hid ?_
          go_wp2_with (at_builtin; go_loud (refine append_ss rfl (.tmp 54) (.tmp 62) rfl _ w.heap.size _ Ms (some ⟨W.heap.size, 0, none⟩, [(x : Int), hiTo p j, (j : Int)], 3) rfl hL3 (W.heap.size + 1) (by simp) rfl hML hz3 ?_; intro v6 w6 ho6 hbel6 hk6 hob6 hz6; refine Hid.out ?_))
          have hL6 := hLd.app hz ho6 hk6 hob6
          have hN6 := (hNd.to b3).next hk6 hob6 hz6
          have bw6 := hbel6 _ bw3
          have HNg := HN W.heap.size
          clear hLd hNd bwd b3 bw3 hL3 hz3 ho6 hbel6 hk6 hob6 hz6 dnd hz
          refine Lib.hid ?_
          go_wp2
          go_roundw
          case rel => exact ⟨j + 1, _, by omega, by go_num, by rw [HHI.out], hL6, HNg, hN6, bw6⟩
          case measure => simp [intOf]; omega
        · have hxb : (t != (x : Int)) = true := by simpa using hx
          have hxc : (t == (x : Int)) = false := by simpa using hx
          have hy : u = (x : Int) := by simpa [hx] using hxy.symm
          subst hy
          clear hxy
          go_wp2
          go_quiet (fail)
          have bd : Below wr.heap.size wr (wr.drewN nq) := bl_drewN (Below.refl _ _) _
          have hLd := hLL.to bd
          have hNd := hNO.to bd
          have bwd := bl_drewN hbw nq
          have dnd : (wr.drewN nq).cell? ⟨bn, on + k, none⟩ = some (.int .i64 (x : Int)) := dn
          clear bd hLL hNO hbw dn d1 d2 e0 e1
          generalize wr.drewN nq = W at *
          have hz := bwd.size
          have b3 : Below W.heap.size W (W.alloc (.cells #[.int .i64 (x : Int), .int .i64 (hiTo p j), .int .i64 (j : Int)] 2)) := (Below.refl _ _).alloc (Nat.le_refl _) _
          have bw3 := bl_trans bwd b3
          have hL3 := (hLd.to b3).ow
          have hz3 := bw3.size
          refine Lib.hid ?_
          go_wp2_with (at_builtin; go_loud (refine append_ss rfl (.tmp 54) (.tmp 62) rfl _ w.heap.size _ Ms (some ⟨W.heap.size, 0, none⟩, [(x : Int), hiTo p j, (j : Int)], 3) rfl hL3 (W.heap.size + 1) (by simp) rfl hML hz3 ?_; intro v6 w6 ho6 hbel6 hk6 hob6 hz6; refine Hid.out ?_))
          have hL6 := hLd.app hz ho6 hk6 hob6
          have hN6 := (hNd.to b3).next hk6 hob6 hz6
          have bw6 := hbel6 _ bw3
          have HNg := HN W.heap.size
          clear hLd hNd bwd b3 bw3 hL3 hz3 ho6 hbel6 hk6 hob6 hz6 dnd hz
          refine Lib.hid ?_
          go_wp2
          go_roundw
          case rel => exact ⟨j + 1, _, by omega, by go_num, by rw [HHI.out], hL6, HNg, hN6, bw6⟩
          case measure => simp [intOf]; omega
end Go.Proofs.YtpcilpcinbamcaaDoor
