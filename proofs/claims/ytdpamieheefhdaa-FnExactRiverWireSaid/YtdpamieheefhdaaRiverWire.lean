/-
  Proved: for all rows, tracks and pins, the program's RiverWire answers as the model's, leaves the rows alone, and its answer owns its memory. No condition.
-/
import Derived.Test.YtdpamieheefhdaaRivWire
namespace Go.Proofs.Ytdpamieheefhdaa.fnExactRiverWire
set_option linter.unusedSimpArgs false
set_option linter.unusedVariables false
open Go.ChangeShapes Go.WideShapes Go.ChangeAt Go.RowKit

set_option maxRecDepth 100000 in
set_option maxHeartbeats 1600000 in
theorem walk (A : Option Addr) (T : List Int) (c : Nat) (A' : Option Addr) (B : List Int) (c' : Nat) (t0 x0 : Int) (w : World) (h : IntsAt w w.heap.size A T ∧ (∀ n ∈ T, Fits n) ∧ T.length ≤ c ∧ c ≤ maxLen) (h' : IntsAt w w.heap.size A' B ∧ (∀ n ∈ B, Fits n) ∧ B.length ≤ c' ∧ c' ≤ maxLen) (_ : (Lit.int .i64 t0).wf = true) (_ : (Lit.int .i64 x0).wf = true) :
    Calls Try.prog 4 #[.slice A T.length c, .slice A' B.length c', .int .i64 t0, .int .i64 x0] w fun e w' => e = .returned (.bool true) ∧ Below w.heap.size w w' := by
  obtain ⟨hp, _, hlc, hc⟩ := h
  obtain ⟨hq, _, hlc', hc'⟩ := h'
  unfold maxLen at hc hc'
  by_cases hl : T.length ≤ 1048576
  · by_cases hl' : B.length ≤ 1048576
    · obtain ⟨L, hL⟩ : ∃ L, rwL T B t0 x0 = L := ⟨_, rfl⟩
      obtain ⟨ok, hok⟩ : ∃ ok, rwB T B t0 x0 = ok := ⟨_, rfl⟩
      have hLl : L.length ≤ 1048576 := by rw [← hL]; exact rwL_len T B t0 x0
      have cS := fun (w : World) (A A' : Option Addr) (c c' : Nat) (h : IntsAt w w.heap.size A T) (h' : IntsAt w w.heap.size A' B) => RiverWireS_any A A' T B c c' t0 x0 w h h' hl hl'
      have cI := fun (w : World) (A A' : Option Addr) (c c' : Nat) (h : IntsAt w w.heap.size A T) (h' : IntsAt w w.heap.size A' B) (hc : T.length ≤ c) (hc' : B.length ≤ c') => RiverWireI_any A A' T B c c' t0 x0 w h h' hl hl' hc hc'
      rw [hL, hok] at cS cI
      have CS := Lib.hid cS
      have CI := Lib.hid cI
      clear hL hok cS cI
      have hT : ¬ 1048576 < (T.length : Int) := by omega
      have hB : ¬ 1048576 < (B.length : Int) := by omega
      have hm0 : ¬ (1 + (T.length : Int) + (B.length : Int)) < 0 := by omega
      have hm1 : ¬ (1 + 2 * (L.length : Int)) < 0 := by omega
      go_enter Try.func4, Try.ntmps4
      go_wp2_with fail
      refine (toInt64S_new _ _ _ _ hp hl).mono ?_
      rintro e w1 ⟨g1, rfl, hB1, hb1, _⟩
      go_wp2_with fail
      refine (toInt64S_new _ _ _ _ (hq.to hb1) hl').mono ?_
      rintro e w2 ⟨g2, rfl, hB2, hb2, _⟩
      have b2 := bl_trans hb1 hb2
      have hB1' := hB1.to hb2
      go_wp2_with fail
      refine (CS.out _ _ _ _ _ hB1'.nums hB2.nums).mono ?_
      rintro e w3 ⟨A0, c0, rfl, o3, hb3⟩
      have b3 := bl_trans b2 hb3
      have p3 : PtsAt w3 w3.heap.size A0 L := o3.pts
      clear hB1 hB2 hB1' hb1 hb2 hb3 b2 o3
      go_wp2_with fail
      refine (toInt64S_new _ _ _ _ (hp.to b3) hl).mono ?_
      rintro e w4 ⟨gx, rfl, X4, hb4, hgx⟩
      have b4 := bl_trans b3 hb4
      have p4 : PtsAt w4 w3.heap.size A0 L := p3.keepB hb4
      have z4 : w3.heap.size ≤ w4.heap.size := hb4.size
      have z34 := hb4.size
      have hgx4 : gx < w4.heap.size := X4.lt
      clear p3 hb4
      go_wp2_with fail
      refine (toInt64S_new _ _ _ _ (hq.to b4) hl').mono ?_
      rintro e w5 ⟨gy, rfl, Y5, hb5, hgy⟩
      have p5 : PtsAt w5 w3.heap.size A0 L := p4.keepB (hb5.mono z4)
      have b5 := bl_trans b4 hb5
      have z5 : w3.heap.size ≤ w5.heap.size := Nat.le_trans z4 hb5.size
      have X5 := X4.to hb5
      clear p4 z4 X4 hb5
      have hgx5 : gx < w5.heap.size := X5.lt
      have hgy5 : gy < w5.heap.size := Y5.lt
      have hgx3 : w3.heap.size ≤ gx := hgx
      go_wp2_with fail
      refine (CI.out _ _ _ _ _ X5.nums Y5.nums (Nat.le_refl _) (Nat.le_refl _)).mono ?_
      rintro e w6 ⟨A1, c1, rfl, o6, hb6⟩
      have p6 : PtsAt w6 w3.heap.size A0 L := p5.keepB (hb6.mono z5)
      have b6 := bl_trans b5 hb6
      have z6 : w3.heap.size ≤ w6.heap.size := Nat.le_trans z5 hb6.size
      have X6 := X5.to hb6
      have Y6 := Y5.to hb6
      clear p5 z5 X5 Y5 hb6
      go_wp2_with fail
      refine (eqPointS_same _ _ _ _ _ _ o6.pts (p6.mono z6) hLl).mono ?_
      rintro e w7 ⟨rfl, hb7⟩
      have p7 : PtsAt w7 w3.heap.size A0 L := p6.keepB (hb7.mono z6)
      have b7 := bl_trans b6 hb7
      have z7 : w3.heap.size ≤ w7.heap.size := Nat.le_trans z6 hb7.size
      have X7 := X6.to hb7
      have Y7 := Y6.to hb7
      have o7 := o6.to hb7
      clear p6 z6 X6 Y6 o6 hb7
      go_wp2_with fail
      refine (toInt64S_new _ _ _ _ (hp.to b7) hl).mono ?_
      rintro e w8 ⟨g8, rfl, B8, hb8, _⟩
      have p8 : PtsAt w8 w3.heap.size A0 L := p7.keepB (hb8.mono z7)
      have b8 := bl_trans b7 hb8
      have z8 : w3.heap.size ≤ w8.heap.size := Nat.le_trans z7 hb8.size
      have X8 := X7.to hb8
      have Y8 := Y7.to hb8
      have o8 := o7.to hb8
      clear p7 z7 X7 Y7 o7 hb8
      go_wp2_with fail
      refine (eqInt64S_same _ _ _ _ _ _ X8.nums B8.nums hl).mono ?_
      rintro e w9 ⟨rfl, hb9⟩
      clear B8
      have p9 : PtsAt w9 w3.heap.size A0 L := p8.keepB (hb9.mono z8)
      have b9 := bl_trans b8 hb9
      have z9 : w3.heap.size ≤ w9.heap.size := Nat.le_trans z8 hb9.size
      have X9 := X8.to hb9
      have Y9 := Y8.to hb9
      have o9 := o8.to hb9
      clear p8 z8 X8 Y8 o8 hb9
      go_wp2_with fail
      refine (toInt64S_new _ _ _ _ (hq.to b9) hl').mono ?_
      rintro e w10 ⟨g10, rfl, B10, hb10, _⟩
      have p10 : PtsAt w10 w3.heap.size A0 L := p9.keepB (hb10.mono z9)
      have b10 := bl_trans b9 hb10
      have z10 : w3.heap.size ≤ w10.heap.size := Nat.le_trans z9 hb10.size
      have X10 := X9.to hb10
      have Y10 := Y9.to hb10
      have o10 := o9.to hb10
      clear p9 z9 X9 Y9 o9 hb10
      go_wp2_with fail
      refine (eqInt64S_same _ _ _ _ _ _ Y10.nums B10.nums hl').mono ?_
      rintro e w11 ⟨rfl, hb11⟩
      clear B10
      have p11 : PtsAt w11 w3.heap.size A0 L := p10.keepB (hb11.mono z10)
      have b11 := bl_trans b10 hb11
      have z11 : w3.heap.size ≤ w11.heap.size := Nat.le_trans z10 hb11.size
      have X11 := X10.to hb11
      have Y11 := Y10.to hb11
      have o11 := o10.to hb11
      clear p10 z10 X10 Y10 o10 hb11
      have hA1 : ∀ g, (some ⟨g, 0, none⟩ : Option Addr) = A1 → 0 < L.length → w5.heap.size ≤ g := fun g e h0 => by obtain ⟨g', e', hg', _⟩ := o11 h0; rw [e'] at e; injection e with e; injection e with e; omega
      go_wp2_with fail
      refine (markN_any gx T.length _ _ _ (CBlk.of X11) hl (by omega) (by omega)).mono ?_
      rintro e w12 ⟨rfl, hO⟩
      have hOA : OnlyA (some ⟨gx, 0, none⟩) w11 w12 := ⟨hO.1, hO.2.1, hO.2.2.1, hO.2.2.2.1, fun k hk => hO.2.2.2.2 k (fun e => hk (by rw [e]))⟩
      have p12 : PtsAt w12 w3.heap.size A0 L := p11.onlyA hOA (fun k e => by injection e with e; injection e with e; omega)
      have o12 := o11.onlyA hOA (fun k e => by injection e with e; injection e with e; omega)
      have b12 : Below w.heap.size w w12 := hO.below b11 (by have := b3.size; omega)
      have z12 : w3.heap.size ≤ w12.heap.size := by rw [hO.2.2.2.1]; exact z11
      have Y12 : CBlk w12 gy B.length := by obtain ⟨cs, k1, k2⟩ := CBlk.of Y11; exact ⟨cs, (hO.2.2.2.2 gy (by omega)).trans k1, k2⟩
      clear hO hOA p11 o11 z11 X11 Y11
      go_wp2_with fail
      refine (markN_any gy B.length _ _ _ Y12 hl' (by omega) (by omega)).mono ?_
      rintro e w13 ⟨rfl, hO⟩
      have hOA : OnlyA (some ⟨gy, 0, none⟩) w12 w13 := ⟨hO.1, hO.2.1, hO.2.2.1, hO.2.2.2.1, fun k hk => hO.2.2.2.2 k (fun e => hk (by rw [e]))⟩
      have p13 : PtsAt w13 w3.heap.size A0 L := p12.onlyA hOA (fun k e => by injection e with e; injection e with e; omega)
      have o13 := o12.onlyA hOA (fun k e => by injection e with e; injection e with e; omega)
      have b13 : Below w.heap.size w w13 := hO.below b12 (by have := b3.size; omega)
      have z13 : w3.heap.size ≤ w13.heap.size := by rw [hO.2.2.2.1]; exact z12
      clear hO hOA p12 o12 z12 Y12
      go_wp2_with fail
      refine (eqPointS_same _ _ _ _ _ _ o13.pts (p13.mono z13) hLl).mono ?_
      rintro e w14 ⟨rfl, hb14⟩
      have p14 : PtsAt w14 w3.heap.size A0 L := p13.keepB (hb14.mono z13)
      have b14 := bl_trans b13 hb14
      have z14 : w3.heap.size ≤ w14.heap.size := Nat.le_trans z13 hb14.size
      have o14 := o13.to hb14
      clear p13 z13 o13 hb14
      go_wp2_with fail
      refine (mark_opt _ L _ w5.heap.size _ o14 hLl).mono ?_
      rintro e w15 ⟨rfl, m15, hO, hnw⟩
      have hA10 : ∀ g, A1 = some ⟨g, 0, none⟩ → 0 < L.length → w5.heap.size ≤ g := fun g e h0 => by obtain ⟨g', e', hg', _⟩ := o14 h0; rw [e'] at e; injection e with e; injection e with e; omega
      have z5' : w3.heap.size ≤ w5.heap.size := by omega
      have p15 : PtsAt w15 w3.heap.size A0 L := by
        rcases hnw with h0 | rfl
        · exact p14.onlyA hO (fun g e => by have := hA10 g e h0; omega)
        · exact p14
      have b15 : Below w.heap.size w w15 := by
        rcases hnw with h0 | rfl
        · exact hO.below b14 (fun g e => by have := hA10 g e h0; have := b5.size; omega)
        · exact b14
      have z15 : w3.heap.size ≤ w15.heap.size := by rw [hO.2.2.2.1]; exact z14
      clear p14 o14 hO hnw hA10 z14
      go_wp2_with fail
      refine (held_opt _ L _ w5.heap.size _ m15 hLl).mono ?_
      rintro e w16 ⟨rfl, rfl⟩
      go_wp2_with fail
      refine (toInt64S_new _ _ _ _ (hp.to b15) hl).mono ?_
      rintro e w17 ⟨g17, rfl, B17, hb17, _⟩
      have p17 : PtsAt w17 w3.heap.size A0 L := p15.keepB (hb17.mono z15)
      have m17 := m15.to hb17
      have b17 := bl_trans b15 hb17
      have z17 : w3.heap.size ≤ w17.heap.size := Nat.le_trans z15 hb17.size
      clear p15 m15 hb17
      go_wp2_with fail
      refine (toInt64S_new _ _ _ _ (hq.to b17) hl').mono ?_
      rintro e w18 ⟨g18, rfl, B18, hb18, _⟩
      have p18 : PtsAt w18 w3.heap.size A0 L := p17.keepB (hb18.mono z17)
      have m18 := m17.to hb18
      have b18 := bl_trans b17 hb18
      have z18 : w3.heap.size ≤ w18.heap.size := Nat.le_trans z17 hb18.size
      have B17' := B17.to hb18
      clear p17 m17 hb18 B17
      go_wp2_with fail
      refine (CI.out _ _ _ _ _ B17'.nums B18.nums (Nat.le_refl _) (Nat.le_refl _)).mono ?_
      rintro e w19 ⟨A2, c2, rfl, o19, hb19⟩
      have p19 : PtsAt w19 w3.heap.size A0 L := p18.keepB (hb19.mono z18)
      have m19 := m18.to hb19
      have b19 := bl_trans b18 hb19
      have z19 : w3.heap.size ≤ w19.heap.size := Nat.le_trans z18 hb19.size
      clear p18 m18 hb19 B17' B18
      go_wp2_with fail
      refine (eqPointS_same _ _ _ _ _ _ o19.pts (p19.mono z19) hLl).mono ?_
      rintro e w20 ⟨rfl, hb20⟩
      have m20 := m19.to hb20
      have b20 := bl_trans b19 hb20
      clear p19 m19 hb20 o19
      go_wp2_with fail
      refine (held_opt _ L _ w5.heap.size _ m20 hLl).mono ?_
      rintro e w21 ⟨rfl, rfl⟩
      go_wp2
      go_ret
      exact ⟨rfl, b20⟩
    · have hT : ¬ 1048576 < (T.length : Int) := by omega
      have hB : 1048576 < (B.length : Int) := by omega
      go_enter Try.func4, Try.ntmps4
      go_wp2
      go_ret
      exact ⟨rfl, Below.refl _ _⟩
  · have hT : 1048576 < (T.length : Int) := by omega
    go_enter Try.func4, Try.ntmps4
    go_wp2
    go_ret
    exact ⟨rfl, Below.refl _ _⟩
end Go.Proofs.Ytdpamieheefhdaa.fnExactRiverWire
