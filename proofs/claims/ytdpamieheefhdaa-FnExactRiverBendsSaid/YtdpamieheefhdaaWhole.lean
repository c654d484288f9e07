/-
  Contract: the program's check of a path.
-/
import Derived.Test.YtdpamieheefhdaaPath
namespace Go.Proofs.Ytdpamieheefhdaa
set_option linter.unusedSimpArgs false
set_option linter.unusedVariables false
open Go.ChangeShapes Go.WideShapes Go.ChangeAt Go.RowKit

theorem smOf2 {a b d e : Prop} {w : World} {mb : Nat} {l : List (Int × Int)} (h : a ∧ b ∧ SetMap w mb l ∧ d ∧ e) : SetMap w mb l := h.2.2.1
theorem smOf4 {a b c f d e : Prop} {w : World} {mb : Nat} {l : List (Int × Int)} (h : a ∧ b ∧ c ∧ f ∧ SetMap w mb l ∧ d ∧ e) : SetMap w mb l := h.2.2.2.2.1
theorem pathI_at {ps : List (Int × Int)} {n : Nat} (h : pathI ps n = false) (hs : n ≤ ps.length) : isPathB ps = false := by
  unfold isPathB; rw [pathS_len, pathI_bad ps n ps.length hs h]; simp

theorem keepM {N : Nat} {w wr wr' : World} {b1 o1 b2 o2 mb : Nat} {X Y X' Y' : Value} {l : List (Int × Int)}
    (h : wr.cell? ⟨b1, o1, none⟩ = some X ∧ wr.cell? ⟨b1, o1 + 1, none⟩ = some Y ∧ wr.cell? ⟨b2, o2, none⟩ = some X' ∧ wr.cell? ⟨b2, o2 + 1, none⟩ = some Y' ∧ SetMap wr mb l ∧ Below N w wr ∧ N ≤ wr.heap.size)
    (hs : Below wr.heap.size wr wr') :
    wr'.cell? ⟨b1, o1, none⟩ = some X ∧ wr'.cell? ⟨b1, o1 + 1, none⟩ = some Y ∧ wr'.cell? ⟨b2, o2, none⟩ = some X' ∧ wr'.cell? ⟨b2, o2 + 1, none⟩ = some Y' ∧ SetMap wr' mb l ∧ Below N w wr' ∧ N ≤ wr'.heap.size := by
  obtain ⟨h0, h1, h2, h3, hM, hb, hz⟩ := h
  obtain ⟨a0, a1, a2, a3, a4, a5⟩ := keep4 ⟨h0, h1, h2, h3, hb, hz⟩ hs
  exact ⟨a0, a1, a2, a3, hM.to hs, a4, a5⟩

set_option maxRecDepth 100000 in
set_option maxHeartbeats 4000000 in
theorem isWhole_any (A : Option Addr) (ps : List (Int × Int)) (c : Nat) (w : World) (hp : PtsAt w w.heap.size A ps) (hl : ps.length ≤ 1048576) :
    Calls Try.prog 74 #[.slice A ps.length c] w fun e w' => e = .returned (.bool (isPathB ps)) ∧ Below w.heap.size w w' := by
  by_cases h1 : ps.length < 1
  · have R : Hid (isPathB ps = false) := by show _ = _; simp [isPathB, sizeB]; omega
    go_enter Try.func74, Try.ntmps74
    go_wp2
    go_ret
    exact ⟨retB (by rw [R.out]), Below.refl _ _⟩
  by_cases h2 : 576 < ps.length
  · have R : Hid (isPathB ps = false) := by show _ = _; simp [isPathB, sizeB]; omega
    go_enter Try.func74, Try.ntmps74
    go_wp2
    go_ret
    exact ⟨retB (by rw [R.out]), Below.refl _ _⟩
  cases hall : allPt ps
  · have R : Hid (isPathB ps = false) := by show _ = _; unfold isPathB; rw [pathS_len, hall]; simp
    have H := Lib.hid hall
    clear hall
    go_enter Try.func74, Try.ntmps74
    go_wp2_with (go_at_call 41; refine (areOnGrid_any _ _ _ _ hp hl).mono ?_; rintro e w1 ⟨rfl, hb1⟩; rw [H.out])
    go_ret
    exact ⟨retB (by rw [R.out]), hb1⟩
  have R : Hid (isPathB ps = pathI ps ps.length) := by show _ = _; unfold isPathB; rw [pathS_len, hall]; simp [sizeB]; omega
  have H := Lib.hid hall
  have hmm := run_makeMapN
  clear hall
  go_enter Try.func74, Try.ntmps74
  go_wp2_with (go_at_call 41; refine (areOnGrid_any _ _ _ _ hp hl).mono ?_; rintro e w1 ⟨rfl, hb1⟩; rw [H.out])
  clear hmm
  have hM0 := SetMap.new w1
  have hmb : w.heap.size ≤ w1.heap.size := hb1.size
  generalize w1.heap.size = mb at *
  generalize hW : World.alloc w1 _ = w2 at *
  have hb2 : Below w.heap.size w w2 := by rw [← hW]; exact bl_alloc hb1 _
  clear hW
  go_loopw [4, 5, 24] (fun _ _ i wr => ∃ k : Nat, k ≤ ps.length ∧ i = .int .i64 k ∧ Hid (pathI ps k = true) ∧ SetMap wr mb (ps.take k) ∧ Below w.heap.size w wr) (fun _ _ i _ => ps.length - (intOf i).toNat)
  case atStart => exact ⟨0, Nat.zero_le _, rfl, rfl, by simpa using hM0, hb2⟩
  case round =>
    clear hM0 hb2 hb1
    obtain ⟨k, hk, rfl, HA, hM, hb⟩ := hrel
    by_cases hlt : k < ps.length
    · have hp0 := hp
      obtain ⟨b, off, rfl, hbB, hc⟩ := hp (by omega)
      obtain ⟨c0, c1⟩ := hc k hlt
      have d0 := (hb.cell (p := ⟨b, off + k * 2, none⟩) hbB).trans c0
      have d1 := (hb.cell (p := ⟨b, off + k * 2 + 1, none⟩) hbB).trans c1
      have HS : Hid (pathI ps (k + 1) = stepB ps k) := by show _ = _; unfold pathI; rw [HA.out]; rfl
      have HB := fun h => Lib.hid (pathI_at (ps := ps) (n := k + 1) h (by omega))
      have HTK := Lib.hid (take_snocP ps k hlt)
      have hltI : (k : Int) < (ps.length : Int) := by omega
      have hzle : w.heap.size ≤ wr.heap.size := hb.size
      have hmlt := hM.lt
      have hbw : b < wr.heap.size := Nat.lt_of_lt_of_le hbB hzle
      have hM1 : SetMap (wr.alloc (.cells #[.int .i64 (ps.getD k (0, 0)).1, .int .i64 (ps.getD k (0, 0)).2] 37)) mb (ps.take k) := hM.alloc _
      by_cases hmem : ps.getD k (0, 0) ∈ ps.take k
      · have HF := HB (by rw [HS.out]; simp [stepB]; intro h; exact absurd hmem h)
        have HD : Hid (decide (((ps.getD k (0, 0)).1, (ps.getD k (0, 0)).2) ∈ ps.take k) = true) := decide_eq_true hmem
        generalize (ps.getD k (0, 0)).1 = xk at *
        generalize (ps.getD k (0, 0)).2 = yk at *
        clear hc c0 c1 hp hp0 hmem HB
        go_wp2
        refine wp_region_plan (fun wx => wx.cell? ⟨wr.heap.size, 0, none⟩ = some (.int .i64 xk) ∧ wx.cell? ⟨wr.heap.size, 0 + 1, none⟩ = some (.int .i64 yk) ∧ SetMap wx mb (ps.take k) ∧ Below w.heap.size w wx ∧ w.heap.size ≤ wx.heap.size) [(0, true), (1, true), (2, true), (3, true), (4, true), (5, true), (6, true), (7, true), (8, true), (9, true), (10, true), (11, true), (12, true), (13, false), (14, true), (15, true), (16, true)] (by kernel_rfl) (by kernel_rfl) (by kernel_rfl) (fun _ d _ _ _ h => by cases d <;> exact h) ⟨by simp, by simp, hM1.drew, by (repeat (first | assumption | exact Below.refl _ _ | (refine bl_alloc ?_ _) | (refine Below.drew ?_) | (refine bl_drewN ?_ _) | (refine bl_set ?_ (by first | (simp; done) | omega | (simp; omega)) _) | (refine bl_trans ?_ (by assumption)) | (refine bl_step ?_ (by assumption) (by first | omega | exact Below.size (by assumption) | (simp; omega) | (simp; exact Below.size (by assumption)))))), by simp; omega⟩ (fun hS0 => ?_)
        refine plan_w (v := ?_) rfl (by rfl) ?_ ?_
        rotate_left
        · intro wx hSx
          try dsimp only at hSx
          go_simp
          try (with_reducible rfl)
        try simp only [Act.put, List.setIfInBounds_toArray, List.set_cons_zero, List.set_cons_succ]
        refine plan_w (v := ?_) rfl (by rfl) ?_ ?_
        rotate_left
        · intro wx hSx
          try dsimp only at hSx
          go_simp
          try (with_reducible rfl)
        try simp only [Act.put, List.setIfInBounds_toArray, List.set_cons_zero, List.set_cons_succ]
        refine plan_w (v := .bool true) rfl (by rfl) ?_ ?_
        · intro wx hSx
          have hlk := (smOf2 hSx).look (xk, yk)
          rw [HD.out] at hlk
          unfold ptV at hlk
          clear hSx
          go_simp
        try simp only [Act.put, List.setIfInBounds_toArray, List.set_cons_zero, List.set_cons_succ]
        refine plan_w (v := ?_) rfl (by rfl) ?_ ?_
        rotate_left
        · intro wx hSx
          try dsimp only at hSx
          go_simp
          try (with_reducible rfl)
        try simp only [Act.put, List.setIfInBounds_toArray, List.set_cons_zero, List.set_cons_succ]
        refine plan_u rfl (by rfl) ?_
        try simp only [Act.put, List.setIfInBounds_toArray, List.set_cons_zero, List.set_cons_succ]
        refine plan_u rfl (by rfl) ?_
        try simp only [Act.put, List.setIfInBounds_toArray, List.set_cons_zero, List.set_cons_succ]
        refine plan_u rfl (by rfl) ?_
        try simp only [Act.put, List.setIfInBounds_toArray, List.set_cons_zero, List.set_cons_succ]
        refine plan_u rfl (by rfl) ?_
        try simp only [Act.put, List.setIfInBounds_toArray, List.set_cons_zero, List.set_cons_succ]
        refine plan_u rfl (by rfl) ?_
        try simp only [Act.put, List.setIfInBounds_toArray, List.set_cons_zero, List.set_cons_succ]
        refine plan_u rfl (by rfl) ?_
        try simp only [Act.put, List.setIfInBounds_toArray, List.set_cons_zero, List.set_cons_succ]
        refine plan_u rfl (by rfl) ?_
        try simp only [Act.put, List.setIfInBounds_toArray, List.set_cons_zero, List.set_cons_succ]
        refine plan_u rfl (by rfl) ?_
        try simp only [Act.put, List.setIfInBounds_toArray, List.set_cons_zero, List.set_cons_succ]
        refine plan_u rfl (by rfl) ?_
        try simp only [Act.put, List.setIfInBounds_toArray, List.set_cons_zero, List.set_cons_succ]
        refine plan_bu rfl (by rfl) (by assumption) ?_
        try simp only [Act.put, List.setIfInBounds_toArray, List.set_cons_zero, List.set_cons_succ]
        refine plan_u rfl (by rfl) ?_
        try simp only [Act.put, List.setIfInBounds_toArray, List.set_cons_zero, List.set_cons_succ]
        refine plan_u rfl (by rfl) ?_
        try simp only [Act.put, List.setIfInBounds_toArray, List.set_cons_zero, List.set_cons_succ]
        refine plan_w (v := ?_) rfl (by rfl) ?_ ?_
        rotate_left
        · intro wx hSx
          try dsimp only at hSx
          go_simp
          try (with_reducible rfl)
        try simp only [Act.put, List.setIfInBounds_toArray, List.set_cons_zero, List.set_cons_succ]
        refine plan_end ?_
        go_wp2
        go_ret
        exact ⟨retB (by rw [HF.out]), by (repeat (first | assumption | exact Below.refl _ _ | (refine bl_alloc ?_ _) | (refine Below.drew ?_) | (refine bl_drewN ?_ _) | (refine bl_set ?_ (by first | (simp; done) | omega | (simp; omega)) _) | (refine bl_trans ?_ (by assumption)) | (refine bl_step ?_ (by assumption) (by first | omega | exact Below.size (by assumption) | (simp; omega) | (simp; exact Below.size (by assumption))))))⟩
      · have HD : Hid (decide (((ps.getD k (0, 0)).1, (ps.getD k (0, 0)).2) ∈ ps.take k) = false) := decide_eq_false hmem
        have HNM : Hid (((ps.getD k (0, 0)).1, (ps.getD k (0, 0)).2) ∉ ps.take k) := hmem
        by_cases hk0 : k = 0
        · have HN : Hid (pathI ps (k + 1) = true) := by show _ = _; rw [HS.out]; simp [stepB, hmem, hk0]
          have hkz : ¬ (0 : Int) < (k : Int) := by omega
          have hkd : decide (0 < k) = false := decide_eq_false (by omega)
          have HT2 : Hid (ps.take (k + 1) = ps.take k ++ [((ps.getD k (0, 0)).1, (ps.getD k (0, 0)).2)]) := HTK.out
          generalize (ps.getD k (0, 0)).1 = xk at *
          generalize (ps.getD k (0, 0)).2 = yk at *
          have HK := Lib.hid hk0
          clear hc c0 c1 hp hp0 hmem HB hk0 HTK
          go_wp2
          refine wp_region_plan (fun wx => wx.cell? ⟨wr.heap.size, 0, none⟩ = some (.int .i64 xk) ∧ wx.cell? ⟨wr.heap.size, 0 + 1, none⟩ = some (.int .i64 yk) ∧ SetMap wx mb (ps.take k) ∧ Below w.heap.size w wx ∧ w.heap.size ≤ wx.heap.size) [(0, true), (1, true), (2, true), (3, true), (4, true), (5, true), (6, true), (7, true), (8, true), (9, true), (10, true), (11, true), (12, true), (13, false), (14, true), (15, true), (16, true)] (by kernel_rfl) (by kernel_rfl) (by kernel_rfl) (fun _ d _ _ _ h => by cases d <;> exact h) ⟨by simp, by simp, hM1.drew, by (repeat (first | assumption | exact Below.refl _ _ | (refine bl_alloc ?_ _) | (refine Below.drew ?_) | (refine bl_drewN ?_ _) | (refine bl_set ?_ (by first | (simp; done) | omega | (simp; omega)) _) | (refine bl_trans ?_ (by assumption)) | (refine bl_step ?_ (by assumption) (by first | omega | exact Below.size (by assumption) | (simp; omega) | (simp; exact Below.size (by assumption)))))), by simp; omega⟩ (fun hS0 => ?_)
          refine plan_w (v := ?_) rfl (by rfl) ?_ ?_
          rotate_left
          · intro wx hSx
            try dsimp only at hSx
            go_simp
            try (with_reducible rfl)
          try simp only [Act.put, List.setIfInBounds_toArray, List.set_cons_zero, List.set_cons_succ]
          refine plan_w (v := ?_) rfl (by rfl) ?_ ?_
          rotate_left
          · intro wx hSx
            try dsimp only at hSx
            go_simp
            try (with_reducible rfl)
          try simp only [Act.put, List.setIfInBounds_toArray, List.set_cons_zero, List.set_cons_succ]
          refine plan_w (v := .bool false) rfl (by rfl) ?_ ?_
          · intro wx hSx
            have hlk := (smOf2 hSx).look (xk, yk)
            rw [HD.out] at hlk
            unfold ptV at hlk
            clear hSx
            go_simp
          try simp only [Act.put, List.setIfInBounds_toArray, List.set_cons_zero, List.set_cons_succ]
          refine plan_w (v := ?_) rfl (by rfl) ?_ ?_
          rotate_left
          · intro wx hSx
            try dsimp only at hSx
            go_simp
            try (with_reducible rfl)
          try simp only [Act.put, List.setIfInBounds_toArray, List.set_cons_zero, List.set_cons_succ]
          refine plan_w (v := ?_) rfl (by rfl) ?_ ?_
          rotate_left
          · intro wx hSx
            try dsimp only at hSx
            go_simp
            try (with_reducible rfl)
          try simp only [Act.put, List.setIfInBounds_toArray, List.set_cons_zero, List.set_cons_succ]
          refine plan_w (v := ?_) rfl (by rfl) ?_ ?_
          rotate_left
          · intro wx hSx
            try dsimp only at hSx
            go_simp
            try (with_reducible rfl)
          try simp only [Act.put, List.setIfInBounds_toArray, List.set_cons_zero, List.set_cons_succ]
          refine plan_w (v := ?_) rfl (by rfl) ?_ ?_
          rotate_left
          · intro wx hSx
            try dsimp only at hSx
            go_simp
            try (with_reducible rfl)
          try simp only [Act.put, List.setIfInBounds_toArray, List.set_cons_zero, List.set_cons_succ]
          refine plan_u rfl (by rfl) ?_
          try simp only [Act.put, List.setIfInBounds_toArray, List.set_cons_zero, List.set_cons_succ]
          refine plan_u rfl (by rfl) ?_
          try simp only [Act.put, List.setIfInBounds_toArray, List.set_cons_zero, List.set_cons_succ]
          refine plan_u rfl (by rfl) ?_
          try simp only [Act.put, List.setIfInBounds_toArray, List.set_cons_zero, List.set_cons_succ]
          refine plan_u rfl (by rfl) ?_
          try simp only [Act.put, List.setIfInBounds_toArray, List.set_cons_zero, List.set_cons_succ]
          refine plan_u rfl (by rfl) ?_
          try simp only [Act.put, List.setIfInBounds_toArray, List.set_cons_zero, List.set_cons_succ]
          refine plan_u rfl (by rfl) ?_
          try simp only [Act.put, List.setIfInBounds_toArray, List.set_cons_zero, List.set_cons_succ]
          refine plan_bu rfl (by rfl) (by assumption) ?_
          try simp only [Act.put, List.setIfInBounds_toArray, List.set_cons_zero, List.set_cons_succ]
          refine plan_u rfl (by rfl) ?_
          try simp only [Act.put, List.setIfInBounds_toArray, List.set_cons_zero, List.set_cons_succ]
          refine plan_w (v := ?_) rfl (by rfl) ?_ ?_
          rotate_left
          · intro wx hSx
            try dsimp only at hSx
            go_simp
            try (with_reducible rfl)
          try simp only [Act.put, List.setIfInBounds_toArray, List.set_cons_zero, List.set_cons_succ]
          refine plan_w (v := ?_) rfl (by rfl) ?_ ?_
          rotate_left
          · intro wx hSx
            try dsimp only at hSx
            go_simp
            try (with_reducible rfl)
          try simp only [Act.put, List.setIfInBounds_toArray, List.set_cons_zero, List.set_cons_succ]
          refine plan_end ?_
          obtain ⟨w5, hst, hM5, hg5⟩ := (smOf2 hS0).store (xk, yk) HNM.out
          unfold ptV at hst
          have hb5 : Below w.heap.size w w5 := Below.grown hS0.2.2.2.1 hg5 hS0.2.2.2.2 (fun k' hk' => by injection hk' with hk'; omega)
          go_wp2
          go_roundw
          case rel => exact ⟨k + 1, by omega, by go_num, HN, by rw [HT2.out]; exact hM5, hb5⟩
          case measure => simp [intOf]; omega
        · obtain ⟨m, HMK⟩ : ∃ m, Hid (k - 1 = m) := ⟨_, rfl⟩
          have hm1 : m + 1 ≤ k := by have := HMK.out; omega
          have hm2 : k ≤ m + 1 := by have := HMK.out; omega
          have hkp : (0 : Int) < (k : Int) := by omega
          have hkd : decide (0 < k) = true := decide_eq_true (by omega)
          have hmI : (m : Int) < (ps.length : Int) := by omega
          have hsub : IntKind.i64.wrap ((k : Int) - 1) = (m : Int) := by rw [IntWalk.i64_in _ (by omega)]; omega
          have hbox0 : b ≠ wr.heap.size := by omega
          by_cases hfar : farI (ps.getD m (0, 0)).1 (ps.getD m (0, 0)).2 (ps.getD k (0, 0)).1 (ps.getD k (0, 0)).2 = 1
          · have HN : Hid (pathI ps (k + 1) = true) := by show _ = _; rw [HS.out]; unfold stepB; rw [HMK.out, decide_eq_false hmem, decide_eq_true hfar]; simp
            have HT2 : Hid (ps.take (k + 1) = ps.take k ++ [((ps.getD k (0, 0)).1, (ps.getD k (0, 0)).2)]) := HTK.out
            obtain ⟨e0, e1⟩ := hc m (by omega)
            have d2 := (hb.cell (p := ⟨b, off + m * 2, none⟩) hbB).trans e0
            have d3 := (hb.cell (p := ⟨b, off + m * 2 + 1, none⟩) hbB).trans e1
            obtain ⟨bk, bk'⟩ := isPt_lo (allPt_at H.out hlt)
            obtain ⟨bm, bm'⟩ := isPt_lo (allPt_at H.out (k := m) (by omega))
            generalize (ps.getD k (0, 0)).1 = xk at *
            generalize (ps.getD k (0, 0)).2 = yk at *
            generalize (ps.getD m (0, 0)).1 = xm at *
            generalize (ps.getD m (0, 0)).2 = ym at *
            have HV := Lib.hid hfar
            clear hc c0 c1 hp hp0 hmem HB hk0 e0 e1 hfar HTK
            go_wp2
            refine wp_region_plan (fun wx => wx.cell? ⟨wr.heap.size, 0, none⟩ = some (.int .i64 xk) ∧ wx.cell? ⟨wr.heap.size, 0 + 1, none⟩ = some (.int .i64 yk) ∧ wx.cell? ⟨b, off + m * 2, none⟩ = some (.int .i64 xm) ∧ wx.cell? ⟨b, off + m * 2 + 1, none⟩ = some (.int .i64 ym) ∧ SetMap wx mb (ps.take k) ∧ Below w.heap.size w wx ∧ w.heap.size ≤ wx.heap.size) [(0, true), (1, true), (2, true), (3, true), (4, true), (5, true), (6, true), (7, true), (8, true), (9, true), (10, true), (11, true), (12, true), (13, false), (14, true), (15, true), (16, true)] (by kernel_rfl) (by kernel_rfl) (by kernel_rfl) (fun _ d _ _ _ h => by cases d <;> exact h) ⟨by simp, by simp, (World.cell?_alloc_lt wr _ _ hbw).trans d2, (World.cell?_alloc_lt wr _ _ hbw).trans d3, hM1.drew, by (repeat (first | assumption | exact Below.refl _ _ | (refine bl_alloc ?_ _) | (refine Below.drew ?_) | (refine bl_drewN ?_ _) | (refine bl_set ?_ (by first | (simp; done) | omega | (simp; omega)) _) | (refine bl_trans ?_ (by assumption)) | (refine bl_step ?_ (by assumption) (by first | omega | exact Below.size (by assumption) | (simp; omega) | (simp; exact Below.size (by assumption)))))), by simp; omega⟩ (fun hS0 => ?_)
            refine plan_w (v := ?_) rfl (by rfl) ?_ ?_
            rotate_left
            · intro wx hSx
              try dsimp only at hSx
              go_simp
              try (with_reducible rfl)
            try simp only [Act.put, List.setIfInBounds_toArray, List.set_cons_zero, List.set_cons_succ]
            refine plan_w (v := ?_) rfl (by rfl) ?_ ?_
            rotate_left
            · intro wx hSx
              try dsimp only at hSx
              go_simp
              try (with_reducible rfl)
            try simp only [Act.put, List.setIfInBounds_toArray, List.set_cons_zero, List.set_cons_succ]
            refine plan_w (v := .bool false) rfl (by rfl) ?_ ?_
            · intro wx hSx
              have hlk := (smOf4 hSx).look (xk, yk)
              rw [HD.out] at hlk
              unfold ptV at hlk
              clear hSx
              go_simp
            try simp only [Act.put, List.setIfInBounds_toArray, List.set_cons_zero, List.set_cons_succ]
            refine plan_w (v := ?_) rfl (by rfl) ?_ ?_
            rotate_left
            · intro wx hSx
              try dsimp only at hSx
              go_simp
              try (with_reducible rfl)
            try simp only [Act.put, List.setIfInBounds_toArray, List.set_cons_zero, List.set_cons_succ]
            refine plan_w (v := ?_) rfl (by rfl) ?_ ?_
            rotate_left
            · intro wx hSx
              try dsimp only at hSx
              go_simp
              try (with_reducible rfl)
            try simp only [Act.put, List.setIfInBounds_toArray, List.set_cons_zero, List.set_cons_succ]
            refine plan_w (v := ?_) rfl (by rfl) ?_ ?_
            rotate_left
            · intro wx hSx
              try dsimp only at hSx
              go_simp
              try (with_reducible rfl)
            try simp only [Act.put, List.setIfInBounds_toArray, List.set_cons_zero, List.set_cons_succ]
            refine plan_w (v := ?_) rfl (by rfl) ?_ ?_
            rotate_left
            · intro wx hSx
              try dsimp only at hSx
              go_simp
              try (with_reducible rfl)
            try simp only [Act.put, List.setIfInBounds_toArray, List.set_cons_zero, List.set_cons_succ]
            refine plan_w (v := ?_) rfl (by rfl) ?_ ?_
            rotate_left
            · intro wx hSx
              try dsimp only at hSx
              go_simp
              try (with_reducible rfl)
            try simp only [Act.put, List.setIfInBounds_toArray, List.set_cons_zero, List.set_cons_succ]
            refine plan_w (v := ?_) rfl (by rfl) ?_ ?_
            rotate_left
            · intro wx hSx
              try dsimp only at hSx
              go_simp
              try (with_reducible rfl)
            try simp only [Act.put, List.setIfInBounds_toArray, List.set_cons_zero, List.set_cons_succ]
            refine plan_w (v := ?_) rfl (by rfl) ?_ ?_
            rotate_left
            · intro wx hSx
              try dsimp only at hSx
              go_simp
              try (with_reducible rfl)
            try simp only [Act.put, List.setIfInBounds_toArray, List.set_cons_zero, List.set_cons_succ]
            refine plan_w (v := ?_) rfl (by rfl) ?_ ?_
            rotate_left
            · intro wx hSx
              try dsimp only at hSx
              go_simp
              try (with_reducible rfl)
            try simp only [Act.put, List.setIfInBounds_toArray, List.set_cons_zero, List.set_cons_succ]
            refine plan_w (v := ?_) rfl (by rfl) ?_ ?_
            rotate_left
            · intro wx hSx
              try dsimp only at hSx
              go_simp
              try (with_reducible rfl)
            try simp only [Act.put, List.setIfInBounds_toArray, List.set_cons_zero, List.set_cons_succ]
            refine plan_w (v := ?_) rfl (by rfl) ?_ ?_
            rotate_left
            · intro wx hSx
              try dsimp only at hSx
              go_simp
              try (with_reducible rfl)
            try simp only [Act.put, List.setIfInBounds_toArray, List.set_cons_zero, List.set_cons_succ]
            refine plan_b rfl (fun K hK => ?_)
            go_simp
            refine (distance_any _ _ _ _ _ bm bm' bk bk').mono ?_
            rintro e w3 ⟨rfl, hb3⟩
            rw [HV.out]
            have hS3 := keepM hS0 hb3
            refine hK _ _ ⟨hS3, ?_⟩
            clear hK K
            try simp only [Act.put, List.setIfInBounds_toArray, List.set_cons_zero, List.set_cons_succ]
            refine plan_w (v := ?_) rfl (by rfl) ?_ ?_
            rotate_left
            · intro wx hSx
              try dsimp only at hSx
              go_simp
              try (with_reducible rfl)
            try simp only [Act.put, List.setIfInBounds_toArray, List.set_cons_zero, List.set_cons_succ]
            refine plan_w (v := ?_) rfl (by rfl) ?_ ?_
            rotate_left
            · intro wx hSx
              try dsimp only at hSx
              go_simp
              try (with_reducible rfl)
            try simp only [Act.put, List.setIfInBounds_toArray, List.set_cons_zero, List.set_cons_succ]
            refine plan_w (v := ?_) rfl (by rfl) ?_ ?_
            rotate_left
            · intro wx hSx
              try dsimp only at hSx
              go_simp
              try (with_reducible rfl)
            try simp only [Act.put, List.setIfInBounds_toArray, List.set_cons_zero, List.set_cons_succ]
            refine plan_end ?_
            have s0 := hS3.1
            have s1 := hS3.2.1
            obtain ⟨w5, hst, hM5, hg5⟩ := (smOf4 hS3).store (xk, yk) HNM.out
            unfold ptV at hst
            have hb5 : Below w.heap.size w w5 := Below.grown hS3.2.2.2.2.2.1 hg5 hS3.2.2.2.2.2.2 (fun k' hk' => by injection hk' with hk'; omega)
            go_wp2
            go_roundw
            case rel => exact ⟨k + 1, by omega, by go_num, HN, by rw [HT2.out]; exact hM5, hb5⟩
            case measure => simp [intOf]; omega
          · have HN : Hid (pathI ps (k + 1) = false) := by show _ = _; rw [HS.out]; unfold stepB; rw [HMK.out, decide_eq_false hmem, decide_eq_false hfar, decide_eq_false hk0]; rfl
            have HF := HB HN.out
            obtain ⟨e0, e1⟩ := hc m (by omega)
            have d2 := (hb.cell (p := ⟨b, off + m * 2, none⟩) hbB).trans e0
            have d3 := (hb.cell (p := ⟨b, off + m * 2 + 1, none⟩) hbB).trans e1
            obtain ⟨bk, bk'⟩ := isPt_lo (allPt_at H.out hlt)
            obtain ⟨bm, bm'⟩ := isPt_lo (allPt_at H.out (k := m) (by omega))
            generalize (ps.getD k (0, 0)).1 = xk at *
            generalize (ps.getD k (0, 0)).2 = yk at *
            generalize (ps.getD m (0, 0)).1 = xm at *
            generalize (ps.getD m (0, 0)).2 = ym at *
            have hne : (farI xm ym xk yk != 1) = true := by simpa using hfar
            clear hc c0 c1 hp hp0 hmem HB hk0 e0 e1 hfar HTK
            go_wp2
            refine wp_region_plan (fun wx => wx.cell? ⟨wr.heap.size, 0, none⟩ = some (.int .i64 xk) ∧ wx.cell? ⟨wr.heap.size, 0 + 1, none⟩ = some (.int .i64 yk) ∧ wx.cell? ⟨b, off + m * 2, none⟩ = some (.int .i64 xm) ∧ wx.cell? ⟨b, off + m * 2 + 1, none⟩ = some (.int .i64 ym) ∧ SetMap wx mb (ps.take k) ∧ Below w.heap.size w wx ∧ w.heap.size ≤ wx.heap.size) [(0, true), (1, true), (2, true), (3, true), (4, true), (5, true), (6, true), (7, true), (8, true), (9, true), (10, true), (11, true), (12, true), (13, false), (14, true), (15, true), (16, true)] (by kernel_rfl) (by kernel_rfl) (by kernel_rfl) (fun _ d _ _ _ h => by cases d <;> exact h) ⟨by simp, by simp, (World.cell?_alloc_lt wr _ _ hbw).trans d2, (World.cell?_alloc_lt wr _ _ hbw).trans d3, hM1.drew, by (repeat (first | assumption | exact Below.refl _ _ | (refine bl_alloc ?_ _) | (refine Below.drew ?_) | (refine bl_drewN ?_ _) | (refine bl_set ?_ (by first | (simp; done) | omega | (simp; omega)) _) | (refine bl_trans ?_ (by assumption)) | (refine bl_step ?_ (by assumption) (by first | omega | exact Below.size (by assumption) | (simp; omega) | (simp; exact Below.size (by assumption)))))), by simp; omega⟩ (fun hS0 => ?_)
            refine plan_w (v := ?_) rfl (by rfl) ?_ ?_
            rotate_left
            · intro wx hSx
              try dsimp only at hSx
              go_simp
              try (with_reducible rfl)
            try simp only [Act.put, List.setIfInBounds_toArray, List.set_cons_zero, List.set_cons_succ]
            refine plan_w (v := ?_) rfl (by rfl) ?_ ?_
            rotate_left
            · intro wx hSx
              try dsimp only at hSx
              go_simp
              try (with_reducible rfl)
            try simp only [Act.put, List.setIfInBounds_toArray, List.set_cons_zero, List.set_cons_succ]
            refine plan_w (v := .bool false) rfl (by rfl) ?_ ?_
            · intro wx hSx
              have hlk := (smOf4 hSx).look (xk, yk)
              rw [HD.out] at hlk
              unfold ptV at hlk
              clear hSx
              go_simp
            try simp only [Act.put, List.setIfInBounds_toArray, List.set_cons_zero, List.set_cons_succ]
            refine plan_w (v := ?_) rfl (by rfl) ?_ ?_
            rotate_left
            · intro wx hSx
              try dsimp only at hSx
              go_simp
              try (with_reducible rfl)
            try simp only [Act.put, List.setIfInBounds_toArray, List.set_cons_zero, List.set_cons_succ]
            refine plan_w (v := ?_) rfl (by rfl) ?_ ?_
            rotate_left
            · intro wx hSx
              try dsimp only at hSx
              go_simp
              try (with_reducible rfl)
            try simp only [Act.put, List.setIfInBounds_toArray, List.set_cons_zero, List.set_cons_succ]
            refine plan_w (v := ?_) rfl (by rfl) ?_ ?_
            rotate_left
            · intro wx hSx
              try dsimp only at hSx
              go_simp
              try (with_reducible rfl)
            try simp only [Act.put, List.setIfInBounds_toArray, List.set_cons_zero, List.set_cons_succ]
            refine plan_w (v := ?_) rfl (by rfl) ?_ ?_
            rotate_left
            · intro wx hSx
              try dsimp only at hSx
              go_simp
              try (with_reducible rfl)
            try simp only [Act.put, List.setIfInBounds_toArray, List.set_cons_zero, List.set_cons_succ]
            refine plan_w (v := ?_) rfl (by rfl) ?_ ?_
            rotate_left
            · intro wx hSx
              try dsimp only at hSx
              go_simp
              try (with_reducible rfl)
            try simp only [Act.put, List.setIfInBounds_toArray, List.set_cons_zero, List.set_cons_succ]
            refine plan_w (v := ?_) rfl (by rfl) ?_ ?_
            rotate_left
            · intro wx hSx
              try dsimp only at hSx
              go_simp
              try (with_reducible rfl)
            try simp only [Act.put, List.setIfInBounds_toArray, List.set_cons_zero, List.set_cons_succ]
            refine plan_w (v := ?_) rfl (by rfl) ?_ ?_
            rotate_left
            · intro wx hSx
              try dsimp only at hSx
              go_simp
              try (with_reducible rfl)
            try simp only [Act.put, List.setIfInBounds_toArray, List.set_cons_zero, List.set_cons_succ]
            refine plan_w (v := ?_) rfl (by rfl) ?_ ?_
            rotate_left
            · intro wx hSx
              try dsimp only at hSx
              go_simp
              try (with_reducible rfl)
            try simp only [Act.put, List.setIfInBounds_toArray, List.set_cons_zero, List.set_cons_succ]
            refine plan_w (v := ?_) rfl (by rfl) ?_ ?_
            rotate_left
            · intro wx hSx
              try dsimp only at hSx
              go_simp
              try (with_reducible rfl)
            try simp only [Act.put, List.setIfInBounds_toArray, List.set_cons_zero, List.set_cons_succ]
            refine plan_w (v := ?_) rfl (by rfl) ?_ ?_
            rotate_left
            · intro wx hSx
              try dsimp only at hSx
              go_simp
              try (with_reducible rfl)
            try simp only [Act.put, List.setIfInBounds_toArray, List.set_cons_zero, List.set_cons_succ]
            refine plan_b rfl (fun K hK => ?_)
            go_simp
            refine (distance_any _ _ _ _ _ bm bm' bk bk').mono ?_
            rintro e w3 ⟨rfl, hb3⟩
            have hS3 := keepM hS0 hb3
            refine hK _ _ ⟨hS3, ?_⟩
            clear hK K
            try simp only [Act.put, List.setIfInBounds_toArray, List.set_cons_zero, List.set_cons_succ]
            refine plan_w (v := ?_) rfl (by rfl) ?_ ?_
            rotate_left
            · intro wx hSx
              try dsimp only at hSx
              go_simp
              try (with_reducible rfl)
            try simp only [Act.put, List.setIfInBounds_toArray, List.set_cons_zero, List.set_cons_succ]
            refine plan_w (v := ?_) rfl (by rfl) ?_ ?_
            rotate_left
            · intro wx hSx
              try dsimp only at hSx
              go_simp
              try (with_reducible rfl)
            try simp only [Act.put, List.setIfInBounds_toArray, List.set_cons_zero, List.set_cons_succ]
            refine plan_w (v := ?_) rfl (by rfl) ?_ ?_
            rotate_left
            · intro wx hSx
              try dsimp only at hSx
              go_simp
              try (with_reducible rfl)
            try simp only [Act.put, List.setIfInBounds_toArray, List.set_cons_zero, List.set_cons_succ]
            refine plan_end ?_
            go_wp2
            go_ret
            exact ⟨retB (by rw [HF.out]), hS3.2.2.2.2.2.1⟩
    · have HT : Hid (isPathB ps = true) := by
        show _ = _
        obtain rfl : k = ps.length := by omega
        rw [R.out, HA.out]
      go_wp2
      go_ret
      exact ⟨retB (by rw [HT.out]), hb⟩
end Go.Proofs.Ytdpamieheefhdaa
