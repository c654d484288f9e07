/-
  Contract: the skew of joins with wires, as the program adds it up.
-/
import Derived.Test.YtijnjcamfbnmgaaSkewI
import Derived.Test.YtijnjcamfbnmgaaPlanT
namespace Go.Proofs.Ytijnjcamfbnmgaa
set_option linter.unusedSimpArgs false
set_option linter.unusedVariables false
open Go.ChangeShapes Go.WideShapes Go.ChangeAt Go.RowKit Go.Shelf

/-- Some numbers set, one after another, each to one that lies elsewhere and one of its own. -/
def skE (f : Nat → Int) (X : Nat → Nat) (s : Int) (V : Nat → Int) : Nat → Nat → Int
  | 0 => f
  | k + 1 => updI (skE f X s V k) (X k) (s + V (X k))
theorem skE_off {f : Nat → Int} {X : Nat → Nat} {s : Int} {V : Nat → Int} {r : Nat} : ∀ k, (∀ j, j < k → X j ≠ r) → skE f X s V k r = f r
  | 0, _ => rfl
  | k + 1, h => by
    have := h k (by omega)
    unfold skE updI
    rw [if_neg (by omega)]
    exact skE_off k (fun j hj => h j (by omega))
def pickX (x y : Nat) (k : Nat) : Nat := if k = 0 then x else y
theorem skE_two (f : Nat → Int) (x y : Nat) (s : Int) (V : Nat → Int) : skE f (pickX x y) s V 2 = updI (updI f x (s + V x)) y (s + V y) := rfl
theorem ZBlk.own (g n : Nat) (f : Nat → Nat → Int) : Own (fun k W => ZBlk W g n (f k)) := fun k W W' row hs hg hr => by
  obtain ⟨cs, h0, h1⟩ := hs
  exact ⟨cs, (grownBy_keeps_cells hg hr h0 rfl).trans h0, h1⟩
theorem ZBlk.new_at {w' : World} {n : Nat} (g : Nat) (h : w'.heap[g]? = some (.cells (blankZ n) 2)) : ZBlk w' g n (fun _ => 0) :=
  ⟨blankZ n, h, by simp [blankZ, size_madeCells], fun i hi => by simp [blankZ, madeCells, hi, Nat.mod_one]⟩
/-- The boxes of a number, of wires and of sums. -/
structure SkC (Z : Nat) (V0 V1 V3 V4 : Value) (W : World) : Prop where
  c0 : W.cell? ⟨Z, 0, none⟩ = some V0
  c1 : W.cell? ⟨Z + 1, 0, none⟩ = some V1
  c3 : W.cell? ⟨Z + 1 + 1 + 1, 0, none⟩ = some V3
  c4 : W.cell? ⟨Z + 1 + 1 + 1 + 1, 0, none⟩ = some V4
theorem SkC.own (Z : Nat) (V0 V1 V3 V4 : Value) : Own (fun (_ : Nat) W => SkC Z V0 V1 V3 V4 W) := fun _ _ _ _ hs hg hr =>
  ⟨cell_kept hs.c0 hg hr, cell_kept hs.c1 hg hr, cell_kept hs.c3 hg hr, cell_kept hs.c4 hg hr⟩
theorem SkC.set_ {Z g : Nat} {V0 V1 V3 V4 : Value} {W : World} (h : SkC Z V0 V1 V3 V4 W) (i : Nat) (v : Value) (hg : g = Z + 1 + 1) : SkC Z V0 V1 V3 V4 (W.setCell ⟨g, i, none⟩ v) := by
  subst hg
  exact ⟨(World.cell?_of_block (a := ⟨Z, 0, none⟩) (Below.heap_setCell _ _ _ _ (by dsimp only; omega))).trans h.c0, (World.cell?_of_block (a := ⟨Z + 1, 0, none⟩) (Below.heap_setCell _ _ _ _ (by dsimp only; omega))).trans h.c1, (World.cell?_of_block (a := ⟨Z + 1 + 1 + 1, 0, none⟩) (Below.heap_setCell _ _ _ _ (by dsimp only; omega))).trans h.c3, (World.cell?_of_block (a := ⟨Z + 1 + 1 + 1 + 1, 0, none⟩) (Below.heap_setCell _ _ _ _ (by dsimp only; omega))).trans h.c4⟩
theorem new_cellZ (w : World) (V : Value) (t : TypeId) : (w.alloc (.cells #[V] t)).cell? ⟨w.heap.size, 0, none⟩ = some V := by go_simp
theorem five_objs (w : World) (V0 V1 V3 V4 : Value) (O : Obj) (t0 t1 t3 t4 : TypeId) :
    SkC w.heap.size V0 V1 V3 V4 (((((w.alloc (.cells #[V0] t0)).alloc (.cells #[V1] t1)).alloc O).alloc (.cells #[V3] t3)).alloc (.cells #[V4] t4)) ∧
    (((((w.alloc (.cells #[V0] t0)).alloc (.cells #[V1] t1)).alloc O).alloc (.cells #[V3] t3)).alloc (.cells #[V4] t4)).heap[w.heap.size + 1 + 1]? = some O ∧
    Below w.heap.size w (((((w.alloc (.cells #[V0] t0)).alloc (.cells #[V1] t1)).alloc O).alloc (.cells #[V3] t3)).alloc (.cells #[V4] t4)) := by
  have a0 := new_cellZ w V0 t0
  have b0 : Below w.heap.size w (w.alloc (.cells #[V0] t0)) := (Below.refl _ _).alloc (Nat.le_refl _) _
  have z0 : (w.alloc (.cells #[V0] t0)).heap.size = w.heap.size + 1 := by simp
  generalize (w.alloc (.cells #[V0] t0)) = w1 at *
  have a1 := new_cellZ w1 V1 t1
  have b1 : Below w1.heap.size w1 (w1.alloc (.cells #[V1] t1)) := (Below.refl _ _).alloc (Nat.le_refl _) _
  have z1 : (w1.alloc (.cells #[V1] t1)).heap.size = w1.heap.size + 1 := by simp
  generalize (w1.alloc (.cells #[V1] t1)) = w2 at *
  have a2 := World.alloc_heap_new w2 O
  have b2 : Below w2.heap.size w2 (w2.alloc O) := (Below.refl _ _).alloc (Nat.le_refl _) _
  have z2 : (w2.alloc O).heap.size = w2.heap.size + 1 := by simp
  generalize (w2.alloc O) = w3 at *
  have a3 := new_cellZ w3 V3 t3
  have b3 : Below w3.heap.size w3 (w3.alloc (.cells #[V3] t3)) := (Below.refl _ _).alloc (Nat.le_refl _) _
  have z3 : (w3.alloc (.cells #[V3] t3)).heap.size = w3.heap.size + 1 := by simp
  generalize (w3.alloc (.cells #[V3] t3)) = w4 at *
  have a4 := new_cellZ w4 V4 t4
  have b4 : Below w4.heap.size w4 (w4.alloc (.cells #[V4] t4)) := (Below.refl _ _).alloc (Nat.le_refl _) _
  generalize (w4.alloc (.cells #[V4] t4)) = w5 at *
  have b34 := bl_trans b3 b4
  have b234 := bl_trans b2 b34
  have b1234 := bl_trans b1 b234
  rw [z3, z2, z1, z0] at a4
  rw [z2, z1, z0] at a3
  rw [z1, z0] at a2
  rw [z0] at a1
  refine ⟨⟨?_, ?_, ?_, a4⟩, ?_, bl_trans b0 b1234⟩
  · exact (b1234.cell (p := ⟨w.heap.size, 0, none⟩) (by simp; omega)).trans a0
  · exact (b234.cell (p := ⟨w.heap.size + 1, 0, none⟩) (by simp; omega)).trans a1
  · exact (b4.cell (p := ⟨w.heap.size + 1 + 1 + 1, 0, none⟩) (by simp; omega)).trans a3
  · exact (b34.block _ (by omega)).trans a2
attribute [local go_sem] Oper.semAt_some
set_option maxRecDepth 100000 in
set_option maxHeartbeats 3200000 in
theorem skewOf_any (L n b off c bW oW cW : Nat) (pA : Nat → Option Addr) (pc : Nat → Nat) (J : List (List Int)) (W : List Int) (w : World) (h1 : 1 ≤ L) (h11 : L ≤ 11) (hn : n = 2 * L + 1) (hbB : b < w.heap.size) (hbW : bW < w.heap.size)
    (hc : ∀ k, k < L → w.cell? ⟨b, off + k, none⟩ = some (.slice (pA k) 2 (pc k)) ∧ ∃ bj oj, pA k = some ⟨bj, oj, none⟩ ∧ bj < w.heap.size ∧ w.cell? ⟨bj, oj, none⟩ = some (.int .i64 ((jx J k).toNat : Int)) ∧ w.cell? ⟨bj, oj + 1, none⟩ = some (.int .i64 ((jy J k).toNat : Int)) ∧ (jx J k).toNat < (jy J k).toNat ∧ (jy J k).toNat ≤ L + k)
    (hcW : ∀ i, i < n → w.cell? ⟨bW, oW + i, none⟩ = some (.int .i64 (W.getD i 0))) (hWb : ∀ i, 0 ≤ W.getD i 0 ∧ W.getD i 0 ≤ 1000000000) :
    Calls Try.prog 71 #[.int .i64 ((L : Int) + 1), .slice (some ⟨b, off, none⟩) L c, .slice (some ⟨bW, oW, none⟩) n cW] w fun e w' => e = .returned (.int .i64 (mxTo (skD J W L L) (L + 1) - mnTo (skD J W L L) (L + 1))) ∧ Below w.heap.size w w' := by
  refine (callsIn_wide (n := 3)).1 ?_
  refine callsIn_of_wp_marks Try.func71 rfl trivial ?_ rfl
  simp only [Try.ntmps71, List.size_toArray, List.length_cons, List.length_nil, Nat.reduceAdd, Nat.reduceSub, Array.replicate_succ, Array.replicate_zero, List.push_toArray, List.append_toArray, List.nil_append, List.cons_append]
  have hmk := run_mkzs n (by omega)
  have SB := Lib.hid (fun d j => skD_le (J := J) (L := L) hWb d j)
  have HN := Lib.hid hn
  have HWB := Lib.hid hWb
  have HC := Lib.hid hc
  have HCW := Lib.hid hcW
  have hnI : (n : Int) ≤ 23 := by omega
  have hL1 : (1 : Int) ≤ (L : Int) := by omega
  have hL11 : (L : Int) ≤ 11 := by omega
  have hLn : (L : Int) + 1 ≤ (n : Int) := by omega
  obtain ⟨hS0, hO, hB0⟩ := five_objs w (.int .i64 ((L : Int) + 1)) (.slice (some ⟨bW, oW, none⟩) n cW) (.slice (some ⟨w.heap.size + 1 + 1, 0, none⟩) n n) (.slice (some ⟨b, off, none⟩) L c) (.cells (blankZ n) 2) 2 38 38 23
  have hZ0 := ZBlk.new_at _ hO
  clear hn hWb hc hcW hO
  gi_wp2
  refine ⟨trivial, (callsIn_wide.2 (backward_any _ _ _ _)).mono ?_⟩
  rintro e w1 ⟨rfl, rfl⟩
  gi_wp2
  refine range_givesV (gf := 129) (pre := #[]) (post := #[.pointer (some ⟨w.heap.size + 1 + 1 + 1 + 1, 0, none⟩)]) (N := L) (m := 2) (xs := fun d => #[.int .i64 ((L : Int) - 1 - d), .slice (pA (L - 1 - d)) 2 (pc (L - 1 - d))]) (Kq := BackAt (w.heap.size + 1 + 1 + 1 + 1) b off L c (fun k => .slice (pA k) 2 (pc k))) (by omega) rfl (enters_of Try.func129 (by kernel_rfl) rfl) (backward_gives _ _ _ _ _ _ _ (by omega)) rfl (fun _ => rfl)
    (fun d W1 => SkC w.heap.size (.int .i64 ((L : Int) + 1)) (.slice (some ⟨bW, oW, none⟩) n cW) (.slice (some ⟨w.heap.size + 1 + 1, 0, none⟩) n n) (.slice (some ⟨b, off, none⟩) L c) W1 ∧ ZBlk W1 (w.heap.size + 1 + 1) n (skD J W L d) ∧ Below w.heap.size w W1)
    (OwnFrom.and (Own.from (SkC.own _ _ _ _ _) _) (OwnFrom.and (Own.from (ZBlk.own _ _ (fun d => skD J W L d)) _) (ownFrom_below (Nat.le_refl _) hB0.size))) (fun k W1 h => ⟨h.1.c4, fun k hk => (h.2.2.cell (p := ⟨b, off + k, none⟩) hbB).trans (HC.out k hk).1⟩) ⟨hS0, hZ0, hB0⟩
    (fun d a' _ => a' = { tmps := #[.int .i64 ((L : Int) + 1), .slice (some ⟨b, off, none⟩) L c, .slice (some ⟨bW, oW, none⟩) n cW, .pointer (some ⟨w.heap.size, 0, none⟩), undef, .pointer (some ⟨w.heap.size + 1, 0, none⟩), .int .i64 0, .pointer (some ⟨w.heap.size + 1 + 1 + 1, 0, none⟩), .int .i64 ((L : Int) - 1 - d), .slice (pA (L - 1 - d)) 2 (pc (L - 1 - d)), undef, undef, .slice (some ⟨bW, oW, none⟩) n cW, .int .i64 n, .slice (some ⟨w.heap.size + 1 + 1, 0, none⟩) n n, .slice (some ⟨b, off, none⟩) L c, .func (.func 129) #[] #[.pointer (some ⟨w.heap.size + 1 + 1 + 1 + 1, 0, none⟩)], .int .i64 ((L : Int) - 1 - d), .slice (pA (L - 1 - d)) 2 (pc (L - 1 - d)), undef, undef, undef, undef, undef, undef, undef, undef, undef, undef, undef, undef, undef, undef, undef, undef, undef, undef, undef, undef, undef, undef, undef, undef, undef, undef, undef, undef, undef, undef], defers := [] }) (fun _ _ _ _ _ _ h _ _ => h) ?assign ?body ?done
  case assign =>
    intro l d W1 K hd hI hK
    gi_wp2
    exact hK _ _ ⟨Nat.le_refl _, fun _ _ _ h _ => h⟩ hI rfl
  case body =>
    rintro l d a' W1 hl hloop hd ⟨hS, hZ, hb⟩ rfl
    obtain ⟨q, hq⟩ : ∃ q, L - 1 - d = q := ⟨_, rfl⟩
    have hqI : (L : Int) - 1 - (d : Int) = (q : Int) := by omega
    obtain ⟨k0, bj, oj, hpA, hbj, a0, a1, q4, q5⟩ := HC.out q (by omega)
    have hSD := skD_succ J W L d
    rw [hq] at hSD
    rw [hqI, hq, hpA]
    obtain ⟨r, hr⟩ : ∃ r, L + 1 + q = r := ⟨_, rfl⟩
    rw [hr] at hSD
    have hidx : (L : Int) + 1 + (q : Int) = (r : Int) := by omega
    have hHN := HN.out
    have hXn : ∀ k, k < 2 → pickX (jx J q).toNat (jy J q).toNat k < n ∧ pickX (jx J q).toNat (jy J q).toNat k ≠ r := fun k hk => by unfold pickX; split <;> omega
    have hXc : ∀ k, k < 2 → w.cell? ⟨bj, oj + k, none⟩ = some (.int .i64 (pickX (jx J q).toNat (jy J q).toNat k : Int)) := fun k hk => by
      obtain rfl | rfl : k = 0 ∨ k = 1 := by omega
      · exact a0
      · exact a1
    replace hSD : skD J W L (d + 1) = skE (skD J W L d) (pickX (jx J q).toNat (jy J q).toNat) (skD J W L d r) (fun i => W.getD i 0) 2 := hSD
    have hrn : r < n := by omega
    have hrnI : (r : Int) < (n : Int) := by omega
    have hr0 : (0 : Int) ≤ (r : Int) := by omega
    have hrw : IntKind.i64.wrap (r : Int) = (r : Int) := IntWalk.i64_in _ (by omega)
    generalize pickX (jx J q).toNat (jy J q).toNat = X at *
    have bs := SB.out d r
    obtain ⟨s, hs⟩ : ∃ s, skD J W L d r = s := ⟨_, rfl⟩
    rw [hs] at hSD bs
    have HF : ∀ k, k ≤ 2 → skE (skD J W L d) X s (fun i => W.getD i 0) k r = s := fun k hk => by rw [skE_off k (fun j hj => (hXn j (by omega)).2)]; exact hs
    have HSD := Lib.hid hSD
    have HFF := Lib.hid HF
    have HXN := Lib.hid hXn
    have HXC := Lib.hid hXc
    have hbs : 0 ≤ s ∧ s ≤ 11000000000 := by omega
    clear hSD HF hXn hXc k0 a0 a1 q4 q5 hs hr hq hHN bs hpA
    gi_wp2
    gi_loopw [11, 21] (fun _ i wr => ∃ k : Nat, k ≤ 2 ∧ i = .int .i64 k ∧ SkC w.heap.size (.int .i64 ((L : Int) + 1)) (.slice (some ⟨bW, oW, none⟩) n cW) (.slice (some ⟨w.heap.size + 1 + 1, 0, none⟩) n n) (.slice (some ⟨b, off, none⟩) L c) wr ∧ ZBlk wr (w.heap.size + 1 + 1) n (skE (skD J W L d) X s (fun i => W.getD i 0) k) ∧ Below w.heap.size w wr ∧ KeepsOthers W1 wr) (fun _ i _ => 2 - (intOf i).toNat)
    case atStart => exact ⟨0, by omega, rfl, hS, hZ, hb, KeepsOthers.refl _⟩
    case round =>
      clear hS hZ hb
      obtain ⟨k, hk, rfl, hS, hZ, hb, hko⟩ := hrel
      by_cases hlt : k < 2
      · obtain ⟨hxn, hxr⟩ := HXN.out k hlt
        have e := (hb.cell (p := ⟨bj, oj + k, none⟩) hbj).trans (HXC.out k hlt)
        have hkI : (k : Int) < 2 := by omega
        have hk0 : (0 : Int) ≤ (k : Int) := by omega
        have hZn : Hid (∀ f, skE (skD J W L d) X s (fun i => W.getD i 0) k = f → skE (skD J W L d) X s (fun i => W.getD i 0) (k + 1) = updI f (X k) (s + W.getD (X k) 0)) := fun f h => by rw [← h]; rfl
        have hfr := HFF.out k hk
        generalize hfd : skE (skD J W L d) X s (fun i => W.getD i 0) k = f at *
        have hZn2 := Lib.hid (hZn.out f rfl)
        clear hZn
        generalize X k = x at *
        have eW := (hb.cell (p := ⟨bW, oW + x, none⟩) hbW).trans (HCW.out x hxn)
        have bv := HWB.out x
        have er := hZ.at_ hrn
        rw [hfr] at er
        generalize W.getD x 0 = v at *
        have hxI : (x : Int) < (n : Int) := by omega
        have hx0 : (0 : Int) ≤ (x : Int) := by omega
        obtain ⟨c0, c1, c3, c4⟩ := hS
        have fz := hZ.frozen x
        have zx := hZ.at_ hxn
        have hsv : IntKind.i64.wrap (s + v) = s + v := IntWalk.i64_in _ (by omega)
        have HXR := Lib.hid hxr
        clear hxr hfd
        gi_wp2
        refine wpIn_region_treeR (fun wx => wx.cell? ⟨w.heap.size, 0, none⟩ = some (.int .i64 ((L : Int) + 1)) ∧ wx.cell? ⟨w.heap.size + 1, 0, none⟩ = some (.slice (some ⟨bW, oW, none⟩) n cW) ∧ wx.cell? ⟨w.heap.size + 1 + 1 + 1, 0, none⟩ = some (.slice (some ⟨w.heap.size + 1 + 1, 0, none⟩) n n) ∧ wx.cell? ⟨w.heap.size + 1 + 1, r, none⟩ = some (.int .i64 s) ∧ wx.cell? ⟨bW, oW + x, none⟩ = some (.int .i64 v)) (Pl.takes [0, 1, 2, 3, 4, 5, 6, 7, 8, 9, 10, 11, 12, 13] (.alone 14 .done)) (by kernel_rfl) (by kernel_rfl) (by kernel_rfl) (by kernel_rfl) ⟨c0, c1, c3, er, eW⟩ (fun hS0 => ?_)
        refine tplan_w (v := ?_) rfl (by rfl) ?_ ?_
        rotate_left
        · intro wx hSx
          try dsimp only at hSx
          go_simp
          try (with_reducible rfl)
        try simp only [Act.put, List.setIfInBounds_toArray, List.set_cons_zero, List.set_cons_succ]
        refine tplan_w (v := ?_) rfl (by rfl) ?_ ?_
        rotate_left
        · intro wx hSx
          try dsimp only at hSx
          go_simp
          try (with_reducible rfl)
        try simp only [Act.put, List.setIfInBounds_toArray, List.set_cons_zero, List.set_cons_succ]
        refine tplan_w (v := ?_) rfl (by rfl) ?_ ?_
        rotate_left
        · intro wx hSx
          try dsimp only at hSx
          go_simp
          try (with_reducible rfl)
        try simp only [Act.put, List.setIfInBounds_toArray, List.set_cons_zero, List.set_cons_succ]
        refine tplan_w (v := ?_) rfl (by rfl) ?_ ?_
        rotate_left
        · intro wx hSx
          try dsimp only at hSx
          go_simp
          try (with_reducible rfl)
        try simp only [Act.put, List.setIfInBounds_toArray, List.set_cons_zero, List.set_cons_succ]
        refine tplan_w (v := ?_) rfl (by rfl) ?_ ?_
        rotate_left
        · intro wx hSx
          try dsimp only at hSx
          go_simp
          try (with_reducible rfl)
        try simp only [Act.put, List.setIfInBounds_toArray, List.set_cons_zero, List.set_cons_succ]
        refine tplan_w (v := ?_) rfl (by rfl) ?_ ?_
        rotate_left
        · intro wx hSx
          try dsimp only at hSx
          go_simp
          try (with_reducible rfl)
        try simp only [Act.put, List.setIfInBounds_toArray, List.set_cons_zero, List.set_cons_succ]
        refine tplan_w (v := ?_) rfl (by rfl) ?_ ?_
        rotate_left
        · intro wx hSx
          try dsimp only at hSx
          go_simp
          try (with_reducible rfl)
        try simp only [Act.put, List.setIfInBounds_toArray, List.set_cons_zero, List.set_cons_succ]
        refine tplan_w (v := ?_) rfl (by rfl) ?_ ?_
        rotate_left
        · intro wx hSx
          try dsimp only at hSx
          go_simp
          try (with_reducible rfl)
        try simp only [Act.put, List.setIfInBounds_toArray, List.set_cons_zero, List.set_cons_succ]
        refine tplan_w (v := ?_) rfl (by rfl) ?_ ?_
        rotate_left
        · intro wx hSx
          try dsimp only at hSx
          go_simp
          try (with_reducible rfl)
        try simp only [Act.put, List.setIfInBounds_toArray, List.set_cons_zero, List.set_cons_succ]
        refine tplan_w (v := ?_) rfl (by rfl) ?_ ?_
        rotate_left
        · intro wx hSx
          try dsimp only at hSx
          go_simp
          try (with_reducible rfl)
        try simp only [Act.put, List.setIfInBounds_toArray, List.set_cons_zero, List.set_cons_succ]
        refine tplan_w (v := ?_) rfl (by rfl) ?_ ?_
        rotate_left
        · intro wx hSx
          try dsimp only at hSx
          go_simp
          try (with_reducible rfl)
        try simp only [Act.put, List.setIfInBounds_toArray, List.set_cons_zero, List.set_cons_succ]
        refine tplan_w (v := ?_) rfl (by rfl) ?_ ?_
        rotate_left
        · intro wx hSx
          try dsimp only at hSx
          go_simp
          try (with_reducible rfl)
        try simp only [Act.put, List.setIfInBounds_toArray, List.set_cons_zero, List.set_cons_succ]
        refine tplan_w (v := ?_) rfl (by rfl) ?_ ?_
        rotate_left
        · intro wx hSx
          try dsimp only at hSx
          go_simp
          try (with_reducible rfl)
        try simp only [Act.put, List.setIfInBounds_toArray, List.set_cons_zero, List.set_cons_succ]
        refine tplan_w (v := ?_) rfl (by rfl) ?_ ?_
        rotate_left
        · intro wx hSx
          try dsimp only at hSx
          go_simp
          try (with_reducible rfl)
        try simp only [Act.put, List.setIfInBounds_toArray, List.set_cons_zero, List.set_cons_succ]
        refine tplan_b rfl (fun K hK => ?_)
        go_simp
        have oth : ∀ (b' o : Nat), b' ≠ w.heap.size + 1 + 1 → ∀ u, (wr.setCell ⟨w.heap.size + 1 + 1, x, none⟩ u).drew.cell? ⟨b', o, none⟩ = wr.cell? ⟨b', o, none⟩ := fun b' o h u => World.cell?_of_block (a := ⟨b', o, none⟩) (Below.heap_setCell wr _ _ _ (by simpa using h))
        have hZ2 : ZBlk (wr.setCell ⟨w.heap.size + 1 + 1, x, none⟩ (.int .i64 (s + v))).drew (w.heap.size + 1 + 1) n (updI f x (s + v)) := (hZ.set_ hxn (s + v)).keep rfl
        have er2 := hZ2.at_ hrn
        have hup : updI f x (s + v) r = s := by unfold updI; rw [if_neg (fun h => HXR.out h.symm)]; exact hfr
        rw [hup] at er2
        refine hK _ _ ⟨⟨(oth _ _ (by omega) _).trans c0, (oth _ _ (by omega) _).trans c1, (oth _ _ (by omega) _).trans c3, er2, (oth _ _ (by omega) _).trans eW⟩, ?_⟩
        clear hK K
        try simp only [Act.put, List.setIfInBounds_toArray, List.set_cons_zero, List.set_cons_succ]
        refine tplan_end ?_
        have hS3 : SkC w.heap.size (.int .i64 ((L : Int) + 1)) (.slice (some ⟨bW, oW, none⟩) n cW) (.slice (some ⟨w.heap.size + 1 + 1, 0, none⟩) n n) (.slice (some ⟨b, off, none⟩) L c) (wr.setCell ⟨w.heap.size + 1 + 1, x, none⟩ (.int .i64 (s + v))).drew := SkC.set_ (W := wr.drew) ⟨c0, c1, c3, c4⟩ x (.int .i64 (s + v)) rfl
        have hb3 := (hb.setCell (p := ⟨w.heap.size + 1 + 1, x, none⟩) (by dsimp only; omega) (.int .i64 (s + v))).drew
        have hk3 : KeepsOthers W1 (wr.setCell ⟨w.heap.size + 1 + 1, x, none⟩ (.int .i64 (s + v))).drew := (hko.trans (KeepsOthers.setCell _ _ _)).trans (KeepsOthers.drew _)
        rw [← hZn2.out] at hZ2
        have hb4 : Below w.heap.size w (wr.setCell ⟨w.heap.size + 1 + 1, x, none⟩ (.int .i64 (s + v))).drew := hb3
        clear hb3 oth er2 c0 c1 c3 c4
        generalize (wr.setCell ⟨w.heap.size + 1 + 1, x, none⟩ (.int .i64 (s + v))).drew = w6 at *
        gi_wp2
        exact ⟨⟨k + 1, by omega, by first | rfl | go_num, hS3, hZ2, hb4, hk3⟩, by simp [intOf]; omega⟩
      · obtain rfl : k = 2 := by omega
        gi_wp2
        exact ⟨⟨hko.size, fun k o _ h1 h2 => hko.same k o h1 h2⟩, hS, (by show ZBlk _ _ _ (skD J W L (d + 1)); rw [HSD.out]; exact hZ), hb⟩
  case done =>
    rintro D W1 hD ⟨⟨c0, c1, c3, c4⟩, hZ, hb⟩ hK
    have bmn := mn_bd (SB.out L) (L + 1)
    have bmx := mx_bd (SB.out L) (L + 1)
    have hHN := HN.out
    have CMX := Lib.hid (fun (wx : World) (h : ZBlk wx (w.heap.size + 1 + 1) n (skD J W L L)) => maxI_any (w.heap.size + 1 + 1) n (L + 1) n (skD J W L L) wx h (by omega) (by omega) (by omega))
    have CMN := Lib.hid (fun (wx : World) (h : ZBlk wx (w.heap.size + 1 + 1) n (skD J W L L)) => minI_any (w.heap.size + 1 + 1) n (L + 1) n (skD J W L L) wx h (by omega) (by omega) (by omega))
    obtain ⟨mx, hmx⟩ : ∃ m, mxTo (skD J W L L) (L + 1) = m := ⟨_, rfl⟩
    obtain ⟨mn, hmn⟩ : ∃ m, mnTo (skD J W L L) (L + 1) = m := ⟨_, rfl⟩
    rw [hmx] at CMX bmx
    rw [hmn] at CMN bmn
    have HMX := Lib.hid hmx
    have HMN := Lib.hid hmn
    clear hmx hmn
    have hwr : IntKind.i64.wrap (mx - mn) = mx - mn := IntWalk.i64_in _ (by omega)
    clear hHN
    have hL0 : (0 : Int) ≤ (L : Int) + 1 := by omega
    gi_wp2
    refine wpIn_region_tree (fun wx => wx.cell? ⟨w.heap.size, 0, none⟩ = some (.int .i64 ((L : Int) + 1)) ∧ wx.cell? ⟨w.heap.size + 1 + 1 + 1, 0, none⟩ = some (.slice (some ⟨w.heap.size + 1 + 1, 0, none⟩) n n) ∧ ZBlk wx (w.heap.size + 1 + 1) n (skD J W L L) ∧ Below w.heap.size w wx ∧ wx.heap[D]? = some (.deferred (some []))) (Pl.takes [0, 1, 2, 4, 5, 6] (.alone 3 (.alone 7 (.takes [8, 9] .done)))) (by kernel_rfl) (by kernel_rfl) (by kernel_rfl) ⟨c0, c3, hZ, hb.drew, hK⟩ (fun hS0 => ?_)
    refine tplan_w (v := ?_) rfl (by rfl) ?_ ?_
    rotate_left
    · intro wx hSx
      try dsimp only at hSx
      go_simp
      try (with_reducible rfl)
    try simp only [Act.put, List.setIfInBounds_toArray, List.set_cons_zero, List.set_cons_succ]
    refine tplan_w (v := ?_) rfl (by rfl) ?_ ?_
    rotate_left
    · intro wx hSx
      try dsimp only at hSx
      go_simp
      try (with_reducible rfl)
    try simp only [Act.put, List.setIfInBounds_toArray, List.set_cons_zero, List.set_cons_succ]
    refine tplan_w (v := ?_) rfl (by rfl) ?_ ?_
    rotate_left
    · intro wx hSx
      try dsimp only at hSx
      go_simp
      try (with_reducible rfl)
    try simp only [Act.put, List.setIfInBounds_toArray, List.set_cons_zero, List.set_cons_succ]
    refine tplan_w (v := ?_) rfl (by rfl) ?_ ?_
    rotate_left
    · intro wx hSx
      try dsimp only at hSx
      go_simp
      try (with_reducible rfl)
    try simp only [Act.put, List.setIfInBounds_toArray, List.set_cons_zero, List.set_cons_succ]
    refine tplan_w (v := ?_) rfl (by rfl) ?_ ?_
    rotate_left
    · intro wx hSx
      try dsimp only at hSx
      go_simp
      try (with_reducible rfl)
    try simp only [Act.put, List.setIfInBounds_toArray, List.set_cons_zero, List.set_cons_succ]
    refine tplan_w (v := ?_) rfl (by rfl) ?_ ?_
    rotate_left
    · intro wx hSx
      try dsimp only at hSx
      go_simp
      try (with_reducible rfl)
    try simp only [Act.put, List.setIfInBounds_toArray, List.set_cons_zero, List.set_cons_succ]
    refine tplan_b rfl (fun K hK => ?_)
    go_simp
    refine (CMX.out _ hS0.2.2.1).mono ?_
    rintro e w2 ⟨rfl, rfl⟩
    refine hK _ _ ⟨hS0, ?_⟩
    clear hK K
    try simp only [Act.put, List.setIfInBounds_toArray, List.set_cons_zero, List.set_cons_succ]
    refine tplan_b rfl (fun K hK => ?_)
    go_simp
    refine (CMN.out _ hS0.2.2.1).mono ?_
    rintro e w3 ⟨rfl, rfl⟩
    refine hK _ _ ⟨hS0, ?_⟩
    clear hK K
    try simp only [Act.put, List.setIfInBounds_toArray, List.set_cons_zero, List.set_cons_succ]
    refine tplan_w (v := ?_) rfl (by rfl) ?_ ?_
    rotate_left
    · intro wx hSx
      try dsimp only at hSx
      go_simp
      try (with_reducible rfl)
    try simp only [Act.put, List.setIfInBounds_toArray, List.set_cons_zero, List.set_cons_succ]
    refine tplan_w (v := ?_) rfl (by rfl) ?_ ?_
    rotate_left
    · intro wx hSx
      try dsimp only at hSx
      go_simp
      try (with_reducible rfl)
    try simp only [Act.put, List.setIfInBounds_toArray, List.set_cons_zero, List.set_cons_succ]
    refine tplan_end ?_
    obtain ⟨_, _, _, hb9, hK9⟩ := hS0
    gi_wp2
    refine ⟨by simp, .inl ⟨_, _, rfl, run_takeDeferred hK9, ?_⟩⟩
    exact ⟨_, results_tmp rfl _ _ _, by rw [HMX.out, HMN.out]; rfl, hb9.trans (belowK_b (w := w) (Nat.le_refl _) _ D _ _ (by have := hB0.size; omega) hK9 rfl rfl)⟩
end Go.Proofs.Ytijnjcamfbnmgaa
