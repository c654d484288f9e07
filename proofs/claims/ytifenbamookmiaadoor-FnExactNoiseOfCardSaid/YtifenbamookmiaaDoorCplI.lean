/-
  Contract: the coupling of a layout, as the program has it.
-/
import Derived.Test.YtifenbamookmiaaDoorCplP
import Derived.Test.YtifenbamookmiaaDoorEach
import Derived.Test.YtifenbamookmiaaDoorPlanT
namespace Go.Proofs.YtifenbamookmiaaDoor
set_option linter.unusedSimpArgs false
set_option linter.unusedVariables false
open Go.ChangeShapes Go.WideShapes Go.ChangeAt Go.RowKit Go.BigFrame Go.Shelf

theorem kfB {B : Nat} {W W' : World} (h : Below W.heap.size W W') : KeepsFrom B W W' :=
  ⟨h.size, fun k o _ hk _ => (h.block k (Array.getElem?_eq_some_iff.1 hk).1).trans hk⟩
set_option maxRecDepth 100000 in
theorem weight_any (A : Option Addr) (n c : Nat) (B : Mz) (i k : Nat) (w : World) (h : SqM w A n B) (hi : i < n) (hk : k < n) :
    Calls Tryd.prog 79 #[.agg #[.slice A n c], .int .i64 i, .int .i64 k] w fun e w' => e = .returned (.int .i64 (wtI B i k)) ∧ Below w.heap.size w w' := by
  obtain ⟨b, off, rfl, hbB, hc⟩ := h
  obtain ⟨bi, oi, ci, hbi, r0, r1⟩ := hc i hi
  have r2 := r1 k hk
  have hiI : (i : Int) < (n : Int) := by omega
  have hkI : (k : Int) < (n : Int) := by omega
  have hi0 : (0 : Int) ≤ (i : Int) := by omega
  have hk0 : (0 : Int) ≤ (k : Int) := by omega
  clear hc r1
  generalize wtI B i k = v at *
  go_enter Tryd.func79, Tryd.ntmps79
  go_wp2
  go_ret
  exact ⟨rfl, by (repeat (first | assumption | exact Below.refl _ _ | (refine bl_alloc ?_ _) | (refine Below.drew ?_) | (refine bl_drewN ?_ _) | (refine bl_set ?_ (by first | (simp; done) | omega | (simp; omega)) _) | (refine bl_trans ?_ (by assumption)) | (refine bl_step ?_ (by assumption) (by first | omega | exact Below.size (by assumption) | (simp; omega) | (simp; exact Below.size (by assumption))))))⟩
set_option maxRecDepth 100000 in
set_option maxHeartbeats 1600000 in
theorem couplingAt_any (A : Option Addr) (n c : Nat) (B : Mz) (AO : Option Addr) (L : List Int) (cO : Nat) (S : List Int) (x : Int) (m : Nat) (ex : x = (m : Int) + 1) (hm : m + 1 < n) (w : World) (h : LoAt w A AO n B L) :
    Calls Tryd.prog 67 #[.agg #[.slice A n c, .slice AO n cO, .int .u64 (shM n S : Int)], .int .i64 x] w fun e w' => e = .returned (.int .i64 (cplAt B L S (m + 1))) ∧ Below w.heap.size w w' := by
  subst ex
  obtain ⟨h1, h9⟩ := h.n9
  have hx : Below w.heap.size w (w.alloc (.cells #[.slice A n c, .slice AO n cO, .int .u64 (shM n S : Int)] 57)) := by (repeat (first | assumption | exact Below.refl _ _ | (refine bl_alloc ?_ _) | (refine Below.drew ?_) | (refine bl_drewN ?_ _) | (refine bl_set ?_ (by first | (simp; done) | omega | (simp; omega)) _) | (refine bl_trans ?_ (by assumption)) | (refine bl_step ?_ (by assumption) (by first | omega | exact Below.size (by assumption) | (simp; omega) | (simp; exact Below.size (by assumption))))))
  have kB := Blk.new w #[.slice A n c, .slice AO n cO, .int .u64 (shM n S : Int)] 57
  have ek : ((m + 1 : Nat) : Int) = (m : Int) + 1 := by omega
  have hsh := shield_has (S := S) hm
  rw [ek] at hsh
  have h64 := shM_64 (S := S) h9
  obtain ⟨M, hM⟩ : ∃ M, shM n S = M := ⟨_, rfl⟩
  rw [hM] at hx kB hsh h64 ⊢
  have s0 := kB.cell 0 (v := .slice A n c) rfl
  have s1 := kB.cell 1 (v := .slice AO n cO) rfl
  have s2 := kB.cell 2 (v := .int .u64 (M : Int)) rfl
  have lB := kB.lt
  have hmN : m < n := by omega
  have hkI : (m : Int) + 1 < (n : Int) := by omega
  have hk0 : (0 : Int) ≤ (m : Int) + 1 := by omega
  have hm0 : (0 : Int) ≤ (m : Int) := by omega
  have hmI : (m : Int) < (n : Int) := by omega
  have h9I : (n : Int) ≤ 9 := by omega
  have et : ((m : Int) + 1).toNat = m + 1 := by omega
  cases hin : S.contains ((m : Int) + 1)
  · have HH := Lib.hid (hsh.trans hin)
    have hat : cplAt B L S (m + 1) = wtI B (wireN L m) (wireN L (m + 1)) := by
      unfold cplAt
      rw [ek, hin]; rfl
    obtain ⟨bo, oo, rfl, hbo, ho⟩ := h.wires
    have q0 := (hx.cell (p := ⟨bo, oo + m, none⟩) hbo).trans (ho m hmN)
    have q1 := (hx.cell (p := ⟨bo, oo + (m + 1), none⟩) hbo).trans (ho (m + 1) hm)
    have n0 := (h.ok.wire hmN).1
    have n1 := (h.ok.wire hm).1
    have zo := Nat.lt_of_lt_of_le hbo hx.size
    have CW := Lib.hid (fun (wx : World) (hb : Below w.heap.size w wx) => weight_any A n c B (wireN L m) (wireN L (m + 1)) wx (h.sq.to hb) n0 n1)
    rw [← hat] at CW
    clear hsh hin hat ho kB h
    generalize wireN L m = i at *
    generalize wireN L (m + 1) = k at *
    generalize cplAt B L S (m + 1) = v at *
    go_enter Tryd.func67, Tryd.ntmps67
    go_wp2_with fail
    generalize (w.alloc (.cells #[.slice A n c, .slice (some ⟨bo, oo, none⟩) n cO, .int .u64 (M : Int)] 57)) = w1 at *
    refine (bhas_any _ h64 _ _ HH _).mono ?_
    rintro e w2 ⟨rfl, rfl⟩
    go_wp2
    refine wp_region_over (by kernel_rfl) (by kernel_rfl) ?_
    have hov := over_cells w2
    repeat (go_big_quiet_step ((go_at_call 79; exact overC (CW.out _ (bl_step hx (over_below _ _) hx.size)))))
    refine over_nil (fun w2 hb2 => ?_)
    clear hov
    go_wp2
    go_ret
    exact ⟨rfl, bl_step hx (by assumption) hx.size⟩
  · have HH := Lib.hid (hsh.trans hin)
    have hat : cplAt B L S (m + 1) = 0 := by
      unfold cplAt
      rw [ek, hin]; rfl
    rw [hat]
    clear hsh hin hat h kB
    go_enter Tryd.func67, Tryd.ntmps67
    go_wp2_with fail
    refine (bhas_any _ h64 _ _ HH _).mono ?_
    rintro e w2 ⟨rfl, rfl⟩
    go_wp2
    go_ret
    exact ⟨rfl, hx⟩

/-- What the loop over the gaps holds. -/
structure LCells (Z : Nat) (V0 V1 V2 : Value) (f : Nat → Int) (k : Nat) (W : World) : Prop where
  c0 : W.cell? ⟨Z, 0, none⟩ = some V0
  c1 : W.cell? ⟨Z, 1, none⟩ = some V1
  c2 : W.cell? ⟨Z, 2, none⟩ = some V2
  cs : W.cell? ⟨Z + 1, 0, none⟩ = some (.int .i64 (f k))
  fs : W.frozen? ⟨Z + 1, 0, none⟩ = false
theorem LCells.own (Z : Nat) (V0 V1 V2 : Value) (f : Nat → Int) : Own (LCells Z V0 V1 V2 f) := fun _ _ _ _ hs hg hr =>
  ⟨cell_kept hs.c0 hg hr, cell_kept hs.c1 hg hr, cell_kept hs.c2 hg hr, cell_kept hs.cs hg hr, (frozen_kept hs.cs hg hr).trans hs.fs⟩
attribute [local go_sem] Oper.semAt_some
set_option maxRecDepth 100000 in
set_option maxHeartbeats 2000000 in
theorem coupling_any (A : Option Addr) (n c : Nat) (B : Mz) (AO : Option Addr) (L : List Int) (cO : Nat) (S : List Int) (w : World) (h : LoAt w A AO n B L) (hL : BruAt w) :
    Calls Tryd.prog 33 #[.agg #[.slice A n c, .slice AO n cO, .int .u64 (shM n S : Int)]] w fun e w' => e = .returned (.int .i64 (cplTo B L S n)) ∧ Below w.heap.size w w' := by
  obtain ⟨h1, h9⟩ := h.n9
  have CA := Lib.hid (fun (x : Int) (m : Nat) (ex : x = (m : Int) + 1) (hm : m + 1 < n) (wx : World) (hb : Below w.heap.size w wx) => couplingAt_any A n c B AO L cO S x m ex hm wx (h.to hb))
  have HG : Hid (∀ k, k ≤ n → 0 ≤ cplTo B L S k ∧ cplTo B L S k ≤ 1000 * (k : Int)) := fun k hk => cplTo_ge h.bn h.len h.ok k hk
  have HV : Hid (∀ k, k < n → 0 ≤ cplAt B L S k ∧ cplAt B L S k ≤ 1000) := fun k hk => cplAt_ge h.bn h.len h.ok hk
  obtain ⟨M, hM⟩ : ∃ M, shM n S = M := ⟨_, rfl⟩
  rw [hM] at CA ⊢
  clear h hM
  refine (callsIn_wide (n := 3)).1 ?_
  refine callsIn_of_wp_marks Tryd.func33 rfl trivial ?_ rfl
  simp only [Tryd.ntmps33, List.size_toArray, List.length_cons, List.length_nil, Nat.reduceAdd, Nat.reduceSub, Array.replicate_succ, Array.replicate_zero, List.push_toArray, List.append_toArray, List.nil_append, List.cons_append]
  have hb0 : Below w.heap.size w ((w.alloc (.cells #[.slice A n c, .slice AO n cO, .int .u64 (M : Int)] 57)).alloc (.cells #[.int .i64 0] 2)) := by (repeat (first | assumption | exact Below.refl _ _ | (refine bl_alloc ?_ _) | (refine Below.drew ?_) | (refine bl_drewN ?_ _) | (refine bl_set ?_ (by first | (simp; done) | omega | (simp; omega)) _) | (refine bl_trans ?_ (by assumption)) | (refine bl_step ?_ (by assumption) (by first | omega | exact Below.size (by assumption) | (simp; omega) | (simp; exact Below.size (by assumption))))))
  have hc0 : LCells w.heap.size (.slice A n c) (.slice AO n cO) (.int .u64 (M : Int)) (fun k => cplTo B L S (k + 1)) 0 ((w.alloc (.cells #[.slice A n c, .slice AO n cO, .int .u64 (M : Int)] 57)).alloc (.cells #[.int .i64 0] 2)) := by
    have k0 := (Blk.new w #[.slice A n c, .slice AO n cO, .int .u64 (M : Int)] 57).alloc (.cells #[.int .i64 0] 2)
    have k1 := Blk.new (w.alloc (.cells #[.slice A n c, .slice AO n cO, .int .u64 (M : Int)] 57)) #[.int .i64 0] 2
    rw [World.size_alloc] at k1
    exact ⟨k0.cell 0 rfl, k0.cell 1 rfl, k0.cell 2 rfl, k1.cell 0 rfl, k1.frozen 0⟩
  have s0 := hc0.c0
  have hga := fun wx => gaps_any A n c wx h1 (by omega)
  have hsz := hb0.size
  gi_wp2
  refine ⟨trivial, (callsIn_wide.2 (hga _)).mono ?_⟩
  rintro e w1 ⟨rfl, hb1⟩
  have b1 := bl_step hb0 hb1 hb0.size
  have lz := World.block_lt_of_cell? _ _ hc0.cs
  have hc1 : LCells w.heap.size (.slice A n c) (.slice AO n cO) (.int .u64 (M : Int)) (fun k => cplTo B L S (k + 1)) 0 w1 :=
    ⟨(hb1.cell (p := ⟨w.heap.size, 0, none⟩) (by simp; omega)).trans hc0.c0, (hb1.cell (p := ⟨w.heap.size, 1, none⟩) (by simp; omega)).trans hc0.c1, (hb1.cell (p := ⟨w.heap.size, 2, none⟩) (by simp; omega)).trans hc0.c2, (hb1.cell (p := ⟨w.heap.size + 1, 0, none⟩) (by simp)).trans hc0.cs, (hb1.frozen (p := ⟨w.heap.size + 1, 0, none⟩) (by simp)).trans hc0.fs⟩
  have z1 : w.heap.size + 1 < w1.heap.size := World.block_lt_of_cell? _ _ hc1.cs
  clear hb0 hb1 hc0 s0 hga hsz lz
  gi_wp2
  refine range_gives (gf := 66) (b := .int .u64 (maskTo gapP n : Nat)) (xs := memL gapP 0 n) (Kq := BruAt) (by omega) rfl (enters_of Tryd.func66 (by kernel_rfl) rfl) (each_gives _ gapP n (by omega)) rfl
    (fun k W => LCells w.heap.size (.slice A n c) (.slice AO n cO) (.int .u64 (M : Int)) (fun k => cplTo B L S (k + 1)) k W ∧ Below w.heap.size w W)
    (OwnFrom.and (Own.from (LCells.own _ _ _ _ _) _) (ownFrom_below (Nat.le_refl _) b1.size)) (fun k W h => hL.to h.2) ⟨hc1, b1⟩
    (fun x => { tmps := #[.agg #[.slice A n c, .slice AO n cO, .int .u64 (M : Int)], .pointer (some ⟨w.heap.size, 0, none⟩), .int .i64 0, .pointer (some ⟨w.heap.size + 1, 0, none⟩), .int .i64 x, .pointer (some ⟨w.heap.size, 0, none⟩), .agg #[.slice A n c], .int .u64 (maskTo gapP n : Nat), .func (.func 66) #[.int .u64 (maskTo gapP n : Nat)] #[], .int .i64 x, undef, undef, undef, undef, undef, undef], defers := [] }) ?assign ?body ?done
  case assign =>
    intro l x W K hK
    gi_wp2
    exact hK
  case body =>
    rintro l k x W ⟨⟨c0, c1, c2, cs, fs⟩, hb⟩ hx
    obtain ⟨rfl, hxn⟩ := gap_at hx
    have zW : w.heap.size + 1 < W.heap.size := World.block_lt_of_cell? W _ cs
    have zW0 : w.heap.size < W.heap.size := by omega
    have hCA := CA.out ((k + 1 : Nat) : Int) k (by omega) hxn
    obtain ⟨hs0, hs1⟩ := HG.out (k + 1) (by omega)
    obtain ⟨hv0, hv1⟩ := HV.out (k + 1) hxn
    have HT : Hid ((fun k => cplTo B L S (k + 1)) (k + 1) = cplTo B L S (k + 1) + cplAt B L S (k + 1)) := cplTo_next B L S (by omega)
    try dsimp only at cs
    have hs1' : cplTo B L S (k + 1) ≤ 9000 := by omega
    clear hs1
    generalize cplAt B L S (k + 1) = v at *
    generalize cplTo B L S (k + 1) = s at *
    have hbd : Below w.heap.size w W.drew := hb.drew
    gi_wp2
    refine wpIn_region_treeR (fun wx => wx.cell? ⟨w.heap.size, 0, none⟩ = some (.slice A n c) ∧ wx.cell? ⟨w.heap.size, 1, none⟩ = some (.slice AO n cO) ∧ wx.cell? ⟨w.heap.size, 2, none⟩ = some (.int .u64 (M : Int))) (Pl.takes [1, 2] (.fork 0 (.alone 3 (Pl.takes [4] (.alone 5 .done))) 3 (.alone 0 (Pl.takes [4] (.alone 5 .done))))) (by kernel_rfl) (by kernel_rfl) (by kernel_rfl) (by kernel_rfl) ⟨c0, c1, c2⟩ (fun hS0 => ?_)
    refine tplan_w (v := ?_) rfl (by rfl) ?_ ?_
    rotate_left
    · intro wx hSx
      try dsimp only at hSx
      go_simp
      try (with_reducible rfl)
    try simp only [Act.put, List.setIfInBounds_toArray, List.set_cons_zero, List.set_cons_succ]
    refine tplan_w (v := ?_) rfl (by rfl) ?_ ?_
    rotate_left
    · intro wx hSx
      try dsimp only at hSx
      go_simp
      try (with_reducible rfl)
    try simp only [Act.put, List.setIfInBounds_toArray, List.set_cons_zero, List.set_cons_succ]
    refine tplan_fork ?_ ?_
    · refine tplan_b rfl (fun K hK => ?_)
      go_simp
      refine hK _ _ ⟨hS0, ?_⟩
      clear hK K
      try simp only [Act.put, List.setIfInBounds_toArray, List.set_cons_zero, List.set_cons_succ]
      refine tplan_b rfl (fun K hK => ?_)
      go_simp
      refine (hCA _ hbd).mono ?_
      rintro e w3 ⟨rfl, hb3⟩
      have hbW : Below W.heap.size W w3 := bl_step (Below.refl _ W).drew hb3 (Nat.le_refl _)
      have k0 := (hbW.cell (p := ⟨w.heap.size, 0, none⟩) zW0).trans c0
      have k1 := (hbW.cell (p := ⟨w.heap.size, 1, none⟩) zW0).trans c1
      have k2 := (hbW.cell (p := ⟨w.heap.size, 2, none⟩) zW0).trans c2
      have ks := (hbW.cell (p := ⟨w.heap.size + 1, 0, none⟩) zW).trans cs
      have kf := (hbW.frozen (p := ⟨w.heap.size + 1, 0, none⟩) zW).trans fs
      refine hK _ _ ⟨⟨k0, k1, k2⟩, ?_⟩
      clear hK K
      try simp only [Act.put, List.setIfInBounds_toArray, List.set_cons_zero, List.set_cons_succ]
      refine tplan_w (v := ?_) rfl (by rfl) ?_ ?_
      rotate_left
      · intro wx hSx
        try dsimp only at hSx
        go_simp
        try (with_reducible rfl)
      try simp only [Act.put, List.setIfInBounds_toArray, List.set_cons_zero, List.set_cons_succ]
      refine tplan_b rfl (fun K hK => ?_)
      go_simp
      have oth : ∀ (o : Nat) (u : Value), (w3.setCell ⟨w.heap.size + 1, 0, none⟩ u).cell? ⟨w.heap.size, o, none⟩ = w3.cell? ⟨w.heap.size, o, none⟩ := fun o u => World.cell?_of_block (a := ⟨w.heap.size, o, none⟩) (Below.heap_setCell w3 _ _ _ (by simp))
      refine hK _ _ ⟨⟨(oth _ _).trans k0, (oth _ _).trans k1, (oth _ _).trans k2⟩, ?_⟩
      clear hK K
      try simp only [Act.put, List.setIfInBounds_toArray, List.set_cons_zero, List.set_cons_succ]
      refine tplan_end ?_
      gi_wp2
      refine ⟨(kfB hbW).trans ((KeepsOthers.setCell _ _ _).from _), ⟨(oth _ _).trans k0, (oth _ _).trans k1, (oth _ _).trans k2, ?_, ?_⟩, (bl_step hb hbW hb.size).setCell (p := ⟨w.heap.size + 1, 0, none⟩) (by simp) _⟩
      · rw [HT.out]; first | exact World.cell?_setCell_same _ _ _ ks | (rw [show IntKind.i64.wrap (s + v) = s + v from IntWalk.i64_in _ (by omega)]; exact World.cell?_setCell_same _ _ _ ks)
      · rw [World.frozen?_setCell]; exact kf
    · refine tplan_b rfl (fun K hK => ?_)
      go_simp
      refine (hCA _ hbd).mono ?_
      rintro e w3 ⟨rfl, hb3⟩
      have hbW : Below W.heap.size W w3 := bl_step (Below.refl _ W).drew hb3 (Nat.le_refl _)
      have k0 := (hbW.cell (p := ⟨w.heap.size, 0, none⟩) zW0).trans c0
      have k1 := (hbW.cell (p := ⟨w.heap.size, 1, none⟩) zW0).trans c1
      have k2 := (hbW.cell (p := ⟨w.heap.size, 2, none⟩) zW0).trans c2
      have ks := (hbW.cell (p := ⟨w.heap.size + 1, 0, none⟩) zW).trans cs
      have kf := (hbW.frozen (p := ⟨w.heap.size + 1, 0, none⟩) zW).trans fs
      refine hK _ _ ⟨⟨k0, k1, k2⟩, ?_⟩
      clear hK K
      try simp only [Act.put, List.setIfInBounds_toArray, List.set_cons_zero, List.set_cons_succ]
      refine tplan_b rfl (fun K hK => ?_)
      go_simp
      refine hK _ _ ⟨⟨k0, k1, k2⟩, ?_⟩
      clear hK K
      try simp only [Act.put, List.setIfInBounds_toArray, List.set_cons_zero, List.set_cons_succ]
      refine tplan_w (v := ?_) rfl (by rfl) ?_ ?_
      rotate_left
      · intro wx hSx
        try dsimp only at hSx
        go_simp
        try (with_reducible rfl)
      try simp only [Act.put, List.setIfInBounds_toArray, List.set_cons_zero, List.set_cons_succ]
      refine tplan_b rfl (fun K hK => ?_)
      go_simp
      have oth : ∀ (o : Nat) (u : Value), (w3.setCell ⟨w.heap.size + 1, 0, none⟩ u).cell? ⟨w.heap.size, o, none⟩ = w3.cell? ⟨w.heap.size, o, none⟩ := fun o u => World.cell?_of_block (a := ⟨w.heap.size, o, none⟩) (Below.heap_setCell w3 _ _ _ (by simp))
      refine hK _ _ ⟨⟨(oth _ _).trans k0, (oth _ _).trans k1, (oth _ _).trans k2⟩, ?_⟩
      clear hK K
      try simp only [Act.put, List.setIfInBounds_toArray, List.set_cons_zero, List.set_cons_succ]
      refine tplan_end ?_
      gi_wp2
      refine ⟨(kfB hbW).trans ((KeepsOthers.setCell _ _ _).from _), ⟨(oth _ _).trans k0, (oth _ _).trans k1, (oth _ _).trans k2, ?_, ?_⟩, (bl_step hb hbW hb.size).setCell (p := ⟨w.heap.size + 1, 0, none⟩) (by simp) _⟩
      · rw [HT.out]; first | exact World.cell?_setCell_same _ _ _ ks | (rw [show IntKind.i64.wrap (s + v) = s + v from IntWalk.i64_in _ (by omega)]; exact World.cell?_setCell_same _ _ _ ks)
      · rw [World.frozen?_setCell]; exact kf
  case done =>
    rintro D W hD ⟨⟨c0, c1, c2, cs, fs⟩, hb⟩ hK
    have hlen := gap_len h1
    have hl2 : n - 1 + 1 = n := by omega
    rw [hlen] at cs
    try dsimp only at cs
    rw [hl2] at cs
    gi_wp2
    refine ⟨by simp, .inl ⟨_, _, rfl, run_takeDeferred hK, ?_⟩⟩
    exact ⟨_, results_tmp rfl _ _ _, rfl, hb.trans (belowK_b (w := w) (Nat.le_refl _) W D _ _ (by have := b1.size; omega) hK rfl rfl)⟩
end Go.Proofs.YtifenbamookmiaaDoor
