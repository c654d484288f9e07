/-
  Contract: the press of shapes, as the model makes it.
-/
import Derived.Test.YtgpcfkegbcpkpaaShpI
namespace Go.Proofs.Ytgpcfkegbcpkpaa
set_option linter.unusedSimpArgs false
set_option linter.unusedVariables false
open Go.ChangeShapes Go.WideShapes Go.ChangeAt Go.RowKit Go.BigFrame

set_option maxRecDepth 100000 in
set_option maxHeartbeats 6400000 in
theorem l09Press_any (A : Option Addr) (ss : List R4) (c : Nat) (a : Int) (w : World) (hp : ShpAt w w.heap.size A ss) (hs : arS ss = true) (h0 : 0 ≤ a) (h1 : a ≤ 1000) :
    Calls Try.prog 73 #[.slice A ss.length c, .int .i64 a] w (PrOwn (some (allR ss a ss.length)) (ss.length : Int) w) := by
  have hx : Below w.heap.size w (w.alloc (.cells #[.int .i64 0, .slice none 0 0] 29)) := by (repeat (first | assumption | exact Below.refl _ _ | (refine bl_alloc ?_ _) | (refine Below.drew ?_) | (refine bl_drewN ?_ _) | (refine bl_set ?_ (by first | (simp; done) | omega | (simp; omega)) _) | (refine bl_trans ?_ (by assumption)) | (refine bl_step ?_ (by assumption) (by first | omega | exact Below.size (by assumption) | (simp; omega) | (simp; exact Below.size (by assumption))))))
  have kr := Blk.new w #[.int .i64 0, .slice none 0 0] 29
  obtain ⟨⟨l1, l12⟩, hsh⟩ := arS_facts hs
  have HSH := Lib.hid hsh
  have hlI : (ss.length : Int) ≤ 12 := by omega
  have HAL : Hid (∀ i, i < ss.length → (allR ss a i).length ≤ 144) := fun i hi => by
    have h2 := allR_len ss a i
    have h3 : i * ss.length ≤ 12 * 12 := Nat.mul_le_mul (by omega) l12
    omega
  have hp2 := hp.to hx
  clear hs hsh hp
  have kG0 : Blk ((w.alloc (.cells #[.int .i64 0, .slice none 0 0] 29)).alloc (.cells #[.int .i64 (ss.length : Int), .slice none 0 0] 29)) (w.alloc (.cells #[.int .i64 0, .slice none 0 0] 29)).heap.size #[.int .i64 (ss.length : Int), .slice none 0 0] 29 := Blk.new _ _ _
  have hb0 : Below (w.alloc (.cells #[.int .i64 0, .slice none 0 0] 29)).heap.size (w.alloc (.cells #[.int .i64 0, .slice none 0 0] 29)) ((w.alloc (.cells #[.int .i64 0, .slice none 0 0] 29)).alloc (.cells #[.int .i64 (ss.length : Int), .slice none 0 0] 29)) := (Below.refl _ _).alloc (Nat.le_refl _) _
  have ho0 : OwnR ((w.alloc (.cells #[.int .i64 0, .slice none 0 0] 29)).alloc (.cells #[.int .i64 (ss.length : Int), .slice none 0 0] 29)) ((w.alloc (.cells #[.int .i64 0, .slice none 0 0] 29)).heap.size + 1) (.slice none 0 0) [] := OwnR.nil_ _ _
  have hwG : w.heap.size < (w.alloc (.cells #[.int .i64 0, .slice none 0 0] 29)).heap.size := kr.lt
  go_enter Try.func73, Try.ntmps73
  go_wp2
  have eG : w.heap.size + 1 = (w.alloc (.cells #[.int .i64 0, .slice none 0 0] 29)).heap.size := by simp
  try rw [eG]
  generalize (w.alloc (.cells #[.int .i64 0, .slice none 0 0] 29)) = w2 at *
  go_loopw [6, 7] (fun i _ wr => ∃ (k : Nat) (v : Value), k ≤ ss.length ∧ i = .int .i64 k ∧ Blk wr w2.heap.size #[.int .i64 (ss.length : Int), v] 29 ∧ OwnR wr (w2.heap.size + 1) v (allR ss a k) ∧ Below w2.heap.size w2 wr) (fun i _ _ => ss.length - (intOf i).toNat)
  case atStart => exact ⟨0, _, by omega, rfl, kG0, ho0, hb0⟩
  case round =>
    clear kG0 hb0 ho0
    obtain ⟨i, v, hi, rfl, kG, hown, hb⟩ := hrel
    have hi0 : (0 : Int) ≤ (i : Int) := by omega
    by_cases hlt : i < ss.length
    case neg =>
      obtain rfl : i = ss.length := by omega
      obtain ⟨A4, c4, rfl, _⟩ := hown.rul
      have e0 := kG.cell 0 (v := .int .i64 (ss.length : Int)) rfl
      have e1 := kG.cell 1 (v := .slice A4 (allR ss a ss.length).length c4) rfl
      have kR := kr.to hb
      have xE := hx.trans (hb.mono hx.size)
      have t0 := kR.cell 0 rfl
      have t1 := kR.cell 1 rfl
      have q0 := kR.frozen 0
      have q1 := kR.frozen 1
      have ke := (kR.set 0 (.int .i64 (ss.length : Int))).set 1 (.slice A4 (allR ss a ss.length).length c4)
      have xF := (xE.setCell (p := ⟨w.heap.size, 0, none⟩) (Nat.le_refl _) (.int .i64 (ss.length : Int))).setCell (p := ⟨w.heap.size, 1, none⟩) (Nat.le_refl _) (.slice A4 (allR ss a ss.length).length c4)
      have hoF : OwnR ((wr.setCell ⟨w.heap.size, 0, none⟩ (.int .i64 (ss.length : Int))).setCell ⟨w.heap.size, 1, none⟩ (.slice A4 (allR ss a ss.length).length c4)) (w2.heap.size + 1) (.slice A4 (allR ss a ss.length).length c4) (allR ss a ss.length) := hown.keep fun g hg => by
        have := hown.ge hg
        rw [Below.heap_setCell _ _ _ g (by show g ≠ w.heap.size; omega), Below.heap_setCell _ _ _ g (by show g ≠ w.heap.size; omega)]
      have hni : ¬ ((ss.length : Nat) : Int) < (ss.length : Int) := by omega
      clear kR hown xE kG
      go_wp2
      generalize ((wr.setCell ⟨w.heap.size, 0, none⟩ (.int .i64 (ss.length : Int))).setCell ⟨w.heap.size, 1, none⟩ (.slice A4 (allR ss a ss.length).length c4)) = wE at *
      have z0 := ke.cell 0 (v := .int .i64 (ss.length : Int)) (by simp)
      have z1 := ke.cell 1 (v := .slice A4 (allR ss a ss.length).length c4) (by simp)
      refine bodyPost_ret_by (v := .agg #[.int .i64 (ss.length : Int), .slice A4 (allR ss a ss.length).length c4]) ?_ rfl ⟨.inl ⟨allR ss a ss.length, _, rfl, rfl, hoF.mono (by omega)⟩, xF⟩
      simp [results, Try.results73, go_sem, z0, z1]
    obtain ⟨b, off, rfl, hbB, hc⟩ := hp2 (by omega)
    obtain ⟨e0, e1, e2, e3⟩ := hc i hlt
    have hltI : (i : Int) < (ss.length : Int) := by omega
    have hsi := HSH.out i hlt
    have HC := Lib.hid hc
    clear hc
    obtain ⟨q, hq⟩ : ∃ q, ss.getD i r40 = q := ⟨_, rfl⟩
    rw [hq] at e0 e1 e2 e3 hsi
    have HQI := Lib.hid hq
    clear hq
    obtain ⟨x, y, u, z⟩ := q
    simp only at e0 e1 e2 e3
    obtain ⟨hsx, hsy, hsu, hsz⟩ := shB_iff.1 hsi
    have hAL := HAL.out i hlt
    have hub : 0 ≤ u ∧ u ≤ 1000 := by first | omega | (have := hsu; simp only at this; omega)
    obtain ⟨hu0, hu1⟩ := hub
    clear hsi
    have own0 : OwnR wr (w2.heap.size + 1) v (allR ss a i ++ rowR ss a i 0) := by simpa [rowR] using hown
    clear hown
    go_wp2
    go_loopw [7] (fun jj wx => ∃ (j : Nat) (v : Value), j ≤ ss.length ∧ jj = .int .i64 j ∧ Blk wx w2.heap.size #[.int .i64 (ss.length : Int), v] 29 ∧ OwnR wx (w2.heap.size + 1) v (allR ss a i ++ rowR ss a i j) ∧ Below w2.heap.size w2 wx) (fun jj _ => ss.length - (intOf jj).toNat)
    case atStart => exact ⟨0, v, by omega, rfl, kG, own0, hb⟩
    case round =>
      clear kG own0 hb
      obtain ⟨j, v, hj, rfl, kG, hown, hb⟩ := hrel
      have hj0 : (0 : Int) ≤ (j : Int) := by omega
      by_cases hjl : j < ss.length
      case neg =>
        obtain rfl : j = ss.length := by omega
        have hnj : ¬ ((ss.length : Nat) : Int) < (ss.length : Int) := by omega
        go_wp2
        go_roundw
        case rel => exact ⟨i + 1, v, by omega, by go_num, kG, hown, hb⟩
        case measure => simp [intOf]; omega
      obtain ⟨g0, g1, g2, g3⟩ := HC.out j hjl
      have hzx := hb.size
      have hjI : (j : Int) < (ss.length : Int) := by omega
      have hsj := HSH.out j hjl
      have HRT := Lib.hid (fun h => rowR_t (ss := ss) (a := a) (i := i) (j := j) h)
      have HRF := Lib.hid (fun h => rowR_f (ss := ss) (a := a) (i := i) (j := j) h)
      have hLl : (allR ss a i ++ rowR ss a i j).length ≤ 4000000 := by
        have := rowR_len ss a i j
        rw [List.length_append]; omega
      obtain ⟨q, hq⟩ : ∃ q, ss.getD j r40 = q := ⟨_, rfl⟩
      rw [hq] at g0 g1 g2 g3 hsj HRT HRF
      rw [HQI.out] at HRT HRF
      clear hq
      obtain ⟨x', y', u', z'⟩ := q
      simp only at g0 g1 g2 g3
      obtain ⟨hsx', hsy', hsu', hsz'⟩ := shB_iff.1 hsj
      have f0 := (hb.cell (p := ⟨b, off + i * 4, none⟩) hbB).trans e0
      have f1 := (hb.cell (p := ⟨b, off + i * 4 + 1, none⟩) hbB).trans e1
      have f2 := (hb.cell (p := ⟨b, off + i * 4 + 2, none⟩) hbB).trans e2
      have f3 := (hb.cell (p := ⟨b, off + i * 4 + 3, none⟩) hbB).trans e3
      have h0' := (hb.cell (p := ⟨b, off + j * 4, none⟩) hbB).trans g0
      have h1' := (hb.cell (p := ⟨b, off + j * 4 + 1, none⟩) hbB).trans g1
      have h2' := (hb.cell (p := ⟨b, off + j * 4 + 2, none⟩) hbB).trans g2
      have h3' := (hb.cell (p := ⟨b, off + j * 4 + 3, none⟩) hbB).trans g3
      have hbw : b < wr.heap.size := Nat.lt_of_lt_of_le hbB hzx
      have CM := Lib.hid (fun wx => l09Meet_any y z y' z' wx hsy (by first | omega | (have := hsz; simp only at this; omega)) hsy' (by first | omega | (have := hsz'; simp only at this; omega)))
      have HFA : Hid (faB (x, y, u, z) (x', y', u', z') = (decide (x < x') && meetB y z y' z')) := rfl
      clear hsj g0 g1 g2 g3 hsx' hsy' hsu' hsz'
      have kGz := kG.lt
      by_cases hxx : x < x'
      case neg =>
        have R := Lib.hid (HRF.out (by rw [HFA.out, decide_eq_false hxx]; rfl))
        have hd : decide (x < x') = false := decide_eq_false hxx
        clear HRT HRF HFA
        go_wp2_with fail
        refine wp_region_over (by kernel_rfl) (by kernel_rfl) ?_
        have hov := over_cells wr
        repeat (go_big_quiet_step ((fail)))
        refine over_nil (fun w2 hb2 => ?_)
        clear hov
        go_wp2
        go_roundw
        case rel => exact ⟨j + 1, v, by omega, by go_num, kG.to hb2, by rw [R.out]; exact hown.to hb2, hb.trans (hb2.mono hzx)⟩
        case measure => simp [intOf]; omega
      have hd : decide (x < x') = true := decide_eq_true hxx
      cases hf : meetB y z y' z'
      · have R := Lib.hid (HRF.out (by rw [HFA.out, hf, Bool.and_false]))
        rw [hf] at CM
        clear HRT HRF HFA hf
        go_wp2_with fail
        refine wp_region_over (by kernel_rfl) (by kernel_rfl) ?_
        have hov := over_cells wr
        repeat (go_big_quiet_step ((go_at_call 104; exact overL (CM.out _))))
        refine over_nil (fun w2 hb2 => ?_)
        clear hov
        go_wp2
        go_roundw
        case rel => exact ⟨j + 1, v, by omega, by go_num, kG.to hb2, by rw [R.out]; exact hown.to hb2, hb.trans (hb2.mono hzx)⟩
        case measure => simp [intOf]; omega
      · have R := Lib.hid (HRT.out (by rw [HFA.out, hf, hd]; rfl))
        rw [hf] at CM
        clear HRT HRF HFA hf
        go_wp2_with fail
        refine wp_region_over (by kernel_rfl) (by kernel_rfl) ?_
        have hov := over_cells wr
        repeat (go_big_quiet_step ((go_at_call 104; exact overL (CM.out _))))
        refine over_nil (fun w5 hb5 => ?_)
        clear hov
        have kG5 := kG.to hb5
        have hown5 := hown.to hb5
        have hbF := hb.trans (hb5.mono hzx)
        have s2 := (hb5.cell (p := ⟨b, off + i * 4 + 2, none⟩) hbw).trans f2
        have hbw5 : b < w5.heap.size := Nat.lt_of_lt_of_le hbw hb5.size
        obtain ⟨A5, c5, hv5, _⟩ := hown5.rul
        have hvG : v.ownBlock ≠ some w2.heap.size := fun e => by have := hown5.ge e; omega
        have hG5 := kG5.lt
        clear kG hown f0 f1 f2 f3 h0' h1' h2' h3' hb hb5 CM
        obtain ⟨LL, hLL⟩ : ∃ LL, allR ss a i ++ rowR ss a i j = LL := ⟨_, rfl⟩
        rw [hLL] at hown5 hLl hv5
        have HLE := Lib.hid hLL
        clear hLL
        subst hv5
        have s0 := kG5.cell 1 (v := .slice A5 LL.length c5) rfl
        have hz5 : w2.heap.size + 1 ≤ w5.heap.size := hG5
        have hwr : IntKind.i64.wrap (u + a) = u + a := IntWalk.i64_in _ (by omega)
        have HR2 : Hid (allR ss a i ++ rowR ss a i (j + 1) = LL ++ [((i : Int), (j : Int), u + a)]) := by show _ = _; rw [R.out, ← List.append_assoc, HLE.out]
        have hbG : b ≠ w2.heap.size := by omega
        have hvb : (Value.slice A5 LL.length c5).ownBlock ≠ some b := fun e => by have := hown5.ge e; omega
        have FIN : Hid (∀ (v6 : Value) (w6 : World), OwnR w6 (w2.heap.size + 1) v6 (LL ++ [((i : Int), (j : Int), u + a)]) → ((w5.alloc (.cells #[.int .i64 (i : Int), .int .i64 (j : Int), .int .i64 (u + a)] 60)).drew).grownBy w6 (.slice A5 LL.length c5 : Value).ownBlock → (v6.ownBlock = (.slice A5 LL.length c5 : Value).ownBlock ∨ v6.ownBlock = some ((w5.alloc (.cells #[.int .i64 (i : Int), .int .i64 (j : Int), .int .i64 (u + a)] 60)).drew).heap.size) →
            w6.cell? ⟨b, off + i * 4 + 2, none⟩ = some (.int .i64 u) ∧ (w6.cell? ⟨w2.heap.size, 1, none⟩ = some (.slice A5 LL.length c5) ∧ w6.frozen? ⟨w2.heap.size, 1, none⟩ = false) ∧ (w6.setCell ⟨w2.heap.size, 1, none⟩ v6).cell? ⟨b, off + i * 4 + 2, none⟩ = some (.int .i64 u) ∧
              Blk (w6.setCell ⟨w2.heap.size, 1, none⟩ v6) w2.heap.size #[.int .i64 (ss.length : Int), v6] 29 ∧ OwnR (w6.setCell ⟨w2.heap.size, 1, none⟩ v6) (w2.heap.size + 1) v6 (LL ++ [((i : Int), (j : Int), u + a)]) ∧ Below w2.heap.size w2 (w6.setCell ⟨w2.heap.size, 1, none⟩ v6)) := by
          show ∀ (v6 : Value) (w6 : World), _
          intro v6 w6 hO hg hb6
          have hzt : ((w5.alloc (.cells #[.int .i64 (i : Int), .int .i64 (j : Int), .int .i64 (u + a)] 60)).drew).heap.size = w5.heap.size + 1 := World.size_alloc _ _
          have keep : ∀ k, k < w5.heap.size → (.slice A5 LL.length c5 : Value).ownBlock ≠ some k → w6.heap[k]? = w5.heap[k]? := fun k hk hne => (hg.block k (by omega) (Ne.symm hne)).trans (Below.heap_alloc w5 _ k hk)
          have kG6 := kG5.keep (keep _ hG5 hvG)
          have hv6G : v6.ownBlock ≠ some w2.heap.size := by
            rcases hb6 with h | h
            · rw [h]; exact hvG
            · rw [h]; intro e; injection e with e; omega
          have S6 : w6.cell? ⟨b, off + i * 4 + 2, none⟩ = some (.int .i64 u) := (World.cell?_of_block (a := ⟨b, off + i * 4 + 2, none⟩) (keep b hbw5 hvb)).trans s2
          have hbC : Below w2.heap.size w2 ((w5.alloc (.cells #[.int .i64 (i : Int), .int .i64 (j : Int), .int .i64 (u + a)] 60)).drew) := (hbF.alloc hbF.size _).drew
          refine ⟨S6, ⟨kG6.cell 1 rfl, kG6.frozen 1⟩, (World.cell?_of_block (a := ⟨b, off + i * 4 + 2, none⟩) (Below.heap_setCell w6 ⟨w2.heap.size, 1, none⟩ v6 b (by show b ≠ w2.heap.size; exact hbG))).trans S6, by simpa using kG6.set 1 v6, hO.keep fun g hgg => Below.heap_setCell _ _ _ g (by show g ≠ w2.heap.size; intro e; exact hv6G (by rw [hgg, e])), ?_⟩
          exact (Below.grown hbC hg (by omega) (fun k hk => by have := hown5.ge hk; omega)).setCell (p := ⟨w2.heap.size, 1, none⟩) (Nat.le_refl _) v6
        have hbD : Below w5.heap.size w5 ((w5.alloc (.cells #[.int .i64 (i : Int), .int .i64 (j : Int), .int .i64 (u + a)] 60)).drew) := ((Below.refl w5.heap.size w5).alloc (Nat.le_refl _) (.cells #[.int .i64 (i : Int), .int .i64 (j : Int), .int .i64 (u + a)] 60)).drew
        have S1 : ((w5.alloc (.cells #[.int .i64 (i : Int), .int .i64 (j : Int), .int .i64 (u + a)] 60)).drew).cell? ⟨b, off + i * 4 + 2, none⟩ = some (.int .i64 u) := (hbD.cell (p := ⟨b, off + i * 4 + 2, none⟩) hbw5).trans s2
        have s1 : ((w5.alloc (.cells #[.int .i64 (i : Int), .int .i64 (j : Int), .int .i64 (u + a)] 60)).drew).cell? ⟨w2.heap.size, 1, none⟩ = some (.slice A5 LL.length c5) := (hbD.cell (p := ⟨w2.heap.size, 1, none⟩) hG5).trans s0
        have kC : Blk ((w5.alloc (.cells #[.int .i64 (i : Int), .int .i64 (j : Int), .int .i64 (u + a)] 60)).drew) w5.heap.size #[.int .i64 (i : Int), .int .i64 (j : Int), .int .i64 (u + a)] 60 := Blk.new w5 _ _
        have hoC := hown5.to hbD
        have hzC : w2.heap.size + 1 ≤ ((w5.alloc (.cells #[.int .i64 (i : Int), .int .i64 (j : Int), .int .i64 (u + a)] 60)).drew).heap.size := by have := hbD.size; omega
        go_wp2_with fail
        refine wp_region_tree (fun wx => wx.cell? ⟨b, off + i * 4 + 2, none⟩ = some (.int .i64 u))
          (Pl.takes [0, 2, 3, 4, 5, 6, 7, 8, 9, 10, 11] (.fork 1 (.alone 12 (.alone 13 (.takes [14] (.alone 15 .done)))) 12 (.alone 1 (.alone 13 (.takes [14] (.alone 15 .done)))))) (by kernel_rfl) (by kernel_rfl) (by kernel_rfl) (fun _ d _ _ _ h => by cases d <;> exact h) s2 (fun S0 => ?_)
        refine tplan_w (v := ?_) rfl (by rfl) ?_ ?_
        rotate_left
        · intro wx hSx
          try dsimp only at hSx
          go_simp
          try (with_reducible rfl)
        try simp only [Act.put, List.setIfInBounds_toArray, List.set_cons_zero, List.set_cons_succ]
        refine tplan_w (v := ?_) rfl (by rfl) ?_ ?_
        rotate_left
        · intro wx hSx
          try dsimp only at hSx
          go_simp
          try (with_reducible rfl)
        try simp only [Act.put, List.setIfInBounds_toArray, List.set_cons_zero, List.set_cons_succ]
        refine tplan_w (v := ?_) rfl (by rfl) ?_ ?_
        rotate_left
        · intro wx hSx
          try dsimp only at hSx
          go_simp
          try (with_reducible rfl)
        try simp only [Act.put, List.setIfInBounds_toArray, List.set_cons_zero, List.set_cons_succ]
        refine tplan_w (v := ?_) rfl (by rfl) ?_ ?_
        rotate_left
        · intro wx hSx
          try dsimp only at hSx
          go_simp
          try (with_reducible rfl)
        try simp only [Act.put, List.setIfInBounds_toArray, List.set_cons_zero, List.set_cons_succ]
        refine tplan_w (v := ?_) rfl (by rfl) ?_ ?_
        rotate_left
        · intro wx hSx
          try dsimp only at hSx
          go_simp
          try (with_reducible rfl)
        try simp only [Act.put, List.setIfInBounds_toArray, List.set_cons_zero, List.set_cons_succ]
        refine tplan_w (v := ?_) rfl (by rfl) ?_ ?_
        rotate_left
        · intro wx hSx
          try dsimp only at hSx
          go_simp
          try (with_reducible rfl)
        try simp only [Act.put, List.setIfInBounds_toArray, List.set_cons_zero, List.set_cons_succ]
        refine tplan_w (v := ?_) rfl (by rfl) ?_ ?_
        rotate_left
        · intro wx hSx
          try dsimp only at hSx
          go_simp
          try (with_reducible rfl)
        try simp only [Act.put, List.setIfInBounds_toArray, List.set_cons_zero, List.set_cons_succ]
        refine tplan_w (v := ?_) rfl (by rfl) ?_ ?_
        rotate_left
        · intro wx hSx
          try dsimp only at hSx
          go_simp
          try (with_reducible rfl)
        try simp only [Act.put, List.setIfInBounds_toArray, List.set_cons_zero, List.set_cons_succ]
        refine tplan_w (v := ?_) rfl (by rfl) ?_ ?_
        rotate_left
        · intro wx hSx
          try dsimp only at hSx
          go_simp
          try (with_reducible rfl)
        try simp only [Act.put, List.setIfInBounds_toArray, List.set_cons_zero, List.set_cons_succ]
        refine tplan_w (v := ?_) rfl (by rfl) ?_ ?_
        rotate_left
        · intro wx hSx
          try dsimp only at hSx
          go_simp
          try (with_reducible rfl)
        try simp only [Act.put, List.setIfInBounds_toArray, List.set_cons_zero, List.set_cons_succ]
        refine tplan_w (v := ?_) rfl (by rfl) ?_ ?_
        rotate_left
        · intro wx hSx
          try dsimp only at hSx
          go_simp
          try (with_reducible rfl)
        try simp only [Act.put, List.setIfInBounds_toArray, List.set_cons_zero, List.set_cons_succ]
        refine tplan_fork ?_ ?_
        · skip
          refine tplan_b rfl (fun K hK => ?_)
          go_simp
          refine hK _ _ ⟨S0, ?_⟩
          clear hK K
          try simp only [Act.put, List.setIfInBounds_toArray, List.set_cons_zero, List.set_cons_succ]
          refine tplan_b rfl (fun K hK => ?_)
          go_simp
          refine hK _ _ ⟨S1, ?_⟩
          clear hK K
          try simp only [Act.put, List.setIfInBounds_toArray, List.set_cons_zero, List.set_cons_succ]
          refine tplan_b rfl (fun K hK => ?_)
          refine step_append_ru (by rfl) (.tmp 58) (.tmp 69) (by rfl) (w2.heap.size + 1) _ LL (i : Int) (j : Int) (u + a) w5.heap.size (by rfl) hoC (by rfl) kC hLl hzC ?_
          intro v6 w6 hO6 hgrow howb
          obtain ⟨f1, ⟨f2, f3⟩, f4, f5, f6, f7⟩ := FIN.out v6 w6 hO6 hgrow howb
          obtain ⟨A6, c6, hv6, _⟩ := hO6.rul
          obtain ⟨l6, hl6⟩ : ∃ l, (LL ++ [((i : Int), (j : Int), u + a)]).length = l := ⟨_, rfl⟩
          rw [hl6] at hv6
          clear hl6 hO6 hgrow howb
          subst hv6
          refine hK _ _ ⟨f1, ?_⟩
          clear hK K
          try simp only [Act.put, List.setIfInBounds_toArray, List.set_cons_zero, List.set_cons_succ]
          refine tplan_w (v := ?_) rfl (by rfl) ?_ ?_
          rotate_left
          · intro wx hSx
            try dsimp only at hSx
            go_simp
            try (with_reducible rfl)
          try simp only [Act.put, List.setIfInBounds_toArray, List.set_cons_zero, List.set_cons_succ]
          refine tplan_b rfl (fun K hK => ?_)
          go_simp
          refine hK _ _ ⟨f4, ?_⟩
          clear hK K
          try simp only [Act.put, List.setIfInBounds_toArray, List.set_cons_zero, List.set_cons_succ]
          refine tplan_endQ ?_
          go_wp2
          go_roundw
          case rel => exact ⟨j + 1, _, by omega, by go_num, f5, by rw [HR2.out]; exact f6, f7⟩
          case measure => simp [intOf]; omega
        · skip
          refine tplan_b rfl (fun K hK => ?_)
          go_simp
          refine hK _ _ ⟨S1, ?_⟩
          clear hK K
          try simp only [Act.put, List.setIfInBounds_toArray, List.set_cons_zero, List.set_cons_succ]
          refine tplan_b rfl (fun K hK => ?_)
          go_simp
          refine hK _ _ ⟨S1, ?_⟩
          clear hK K
          try simp only [Act.put, List.setIfInBounds_toArray, List.set_cons_zero, List.set_cons_succ]
          refine tplan_b rfl (fun K hK => ?_)
          refine step_append_ru (by rfl) (.tmp 58) (.tmp 69) (by rfl) (w2.heap.size + 1) _ LL (i : Int) (j : Int) (u + a) w5.heap.size (by rfl) hoC (by rfl) kC hLl hzC ?_
          intro v6 w6 hO6 hgrow howb
          obtain ⟨f1, ⟨f2, f3⟩, f4, f5, f6, f7⟩ := FIN.out v6 w6 hO6 hgrow howb
          obtain ⟨A6, c6, hv6, _⟩ := hO6.rul
          obtain ⟨l6, hl6⟩ : ∃ l, (LL ++ [((i : Int), (j : Int), u + a)]).length = l := ⟨_, rfl⟩
          rw [hl6] at hv6
          clear hl6 hO6 hgrow howb
          subst hv6
          refine hK _ _ ⟨f1, ?_⟩
          clear hK K
          try simp only [Act.put, List.setIfInBounds_toArray, List.set_cons_zero, List.set_cons_succ]
          refine tplan_w (v := ?_) rfl (by rfl) ?_ ?_
          rotate_left
          · intro wx hSx
            try dsimp only at hSx
            go_simp
            try (with_reducible rfl)
          try simp only [Act.put, List.setIfInBounds_toArray, List.set_cons_zero, List.set_cons_succ]
          refine tplan_b rfl (fun K hK => ?_)
          go_simp
          refine hK _ _ ⟨f4, ?_⟩
          clear hK K
          try simp only [Act.put, List.setIfInBounds_toArray, List.set_cons_zero, List.set_cons_succ]
          refine tplan_endQ ?_
          go_wp2
          go_roundw
          case rel => exact ⟨j + 1, _, by omega, by go_num, f5, by rw [HR2.out]; exact f6, f7⟩
          case measure => simp [intOf]; omega
end Go.Proofs.Ytgpcfkegbcpkpaa
