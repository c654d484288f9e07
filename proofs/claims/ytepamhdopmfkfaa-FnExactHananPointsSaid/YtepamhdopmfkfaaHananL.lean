/-
  Proved: for every list of points, the program's HananPoints answers as the model's, leaves the list alone, and its answer owns its memory. No condition.
-/
import Derived.Test.YtepamhdopmfkfaaHananP
namespace Go.Proofs.Ytepamhdopmfkfaa.fnExactHananPoints
set_option linter.unusedSimpArgs false
set_option linter.unusedVariables false
open Go.ChangeShapes Go.WideShapes Go.ChangeAt Go.RowKit

set_option maxRecDepth 100000 in
set_option maxHeartbeats 800000 in
theorem walk (A : Option Addr) (ps : List (Int × Int)) (c : Nat) (w : World) (h : PtsAt w w.heap.size A ps ∧ (∀ q ∈ ps, Fits q.1 ∧ Fits q.2) ∧ ps.length ≤ c ∧ c ≤ maxLen) :
    Calls Try.prog 6 #[.slice A ps.length c] w fun e w' => e = .returned (.bool true) ∧ Below w.heap.size w w' := by
  obtain ⟨hp, _, hlc, hc⟩ := h
  by_cases hl : ps.length ≤ 1048576
  · obtain ⟨L, hL⟩ : ∃ L, hanR ps = L := ⟨_, rfl⟩
    obtain ⟨ok, hok⟩ : ∃ ok, okF ps = ok := ⟨_, rfl⟩
    have hLl : L.length ≤ 1048576 := by rw [← hL]; exact hanR_len ps
    have cS := fun (w : World) (A : Option Addr) (c : Nat) (h : PtsAt w w.heap.size A ps) (hc : ps.length ≤ c) => HananPointsS_any A ps c w h hl hc
    have cI := fun (w : World) (b : Nat) (h : PBlk w b ps ps.length) => HananPointsI_any (some ⟨b, 0, none⟩) ps ps.length w h.pts hl (Nat.le_refl _)
    rw [hL, hok] at cS cI
    have CS := Lib.hid cS
    have CI := Lib.hid cI
    clear hL hok cS cI
    have hl' : ¬ (1048576 - (ps.length : Int)) < 0 := by omega
    have hm0 : ¬ (1 + 2 * (ps.length : Int)) < 0 := by omega
    have hm1 : ¬ (1 + 2 * (L.length : Int)) < 0 := by omega
    go_enter Try.func6, Try.ntmps6
    go_wp2_with fail
    refine (szPointS_any _ _ _ _ hl).mono ?_
    rintro e w1 ⟨rfl, rfl⟩
    go_wp2_with fail
    refine (toPointS_new _ _ _ _ hp hl).mono ?_
    rintro e w1 ⟨g1, rfl, hB1, hb1, _⟩
    go_wp2_with fail
    refine (CS.out _ _ _ hB1.pts (Nat.le_refl _)).mono ?_
    rintro e w2 ⟨A0, c0, rfl, o0, hb2⟩
    have b2 := bl_trans hb1 hb2
    have p0 : PtsAt w2 w2.heap.size A0 L := o0.pts
    clear hB1 hb1 hb2 o0
    go_wp2_with fail
    refine (toPointS_new _ _ _ _ (hp.to b2) hl).mono ?_
    rintro e w3 ⟨gx, rfl, hX, hb3, hgx⟩
    have p3 : PtsAt w3 w2.heap.size A0 L := p0.keepB hb3
    have b3 := bl_trans b2 hb3
    have hgx3 : gx < w3.heap.size := hX.lt
    have hz3 : w2.heap.size ≤ w3.heap.size := hb3.size
    clear p0 hb3
    go_wp2_with fail
    refine (CI.out _ _ hX).mono ?_
    rintro e w4 ⟨A1, c1, rfl, o4, hb4⟩
    have p4 : PtsAt w4 w2.heap.size A0 L := p3.keepB (hb4.mono hz3)
    have hX4 := hX.to hb4
    have b4 := bl_trans b3 hb4
    have hz4 : w2.heap.size ≤ w4.heap.size := Nat.le_trans hz3 hb4.size
    clear p3 hX hb4
    go_wp2_with fail
    refine (eqPointS_same _ _ _ _ _ _ o4.pts (p4.mono hz4) hLl).mono ?_
    rintro e w5 ⟨rfl, hb5⟩
    have p5 : PtsAt w5 w2.heap.size A0 L := p4.keepB (hb5.mono hz4)
    have hX5 := hX4.to hb5
    have o5 := o4.to hb5
    have b5 := bl_trans b4 hb5
    have hz5 : w2.heap.size ≤ w5.heap.size := Nat.le_trans hz4 hb5.size
    clear p4 hX4 o4 hb5
    go_wp2_with fail
    refine (toPointS_new _ _ _ _ (hp.to b5) hl).mono ?_
    rintro e w6 ⟨g6, rfl, hB6, hb6, _⟩
    have p6 : PtsAt w6 w2.heap.size A0 L := p5.keepB (hb6.mono hz5)
    have hX6 := hX5.to hb6
    have o6 := o5.to hb6
    have b6 := bl_trans b5 hb6
    have hz6 : w2.heap.size ≤ w6.heap.size := Nat.le_trans hz5 hb6.size
    clear p5 hX5 o5 hb6
    go_wp2_with fail
    refine (eqPointS_same _ _ _ _ _ _ hX6.pts hB6.pts hl).mono ?_
    rintro e w7 ⟨rfl, hb7⟩
    have p7 : PtsAt w7 w2.heap.size A0 L := p6.keepB (hb7.mono hz6)
    have hX7 := hX6.to hb7
    have o7 := o6.to hb7
    have b7 := bl_trans b6 hb7
    have hz7 : w2.heap.size ≤ w7.heap.size := Nat.le_trans hz6 hb7.size
    clear p6 hX6 o6 hb7 hB6
    go_wp2_with fail
    refine (mark_opt _ ps _ w2.heap.size _ (fun _ => ⟨gx, rfl, hgx, hX7.two⟩) hl).mono ?_
    rintro e w8 ⟨rfl, _, hO, _⟩
    have hA8 : ∀ g, (some ⟨gx, 0, none⟩ : Option Addr) = some ⟨g, 0, none⟩ → w2.heap.size ≤ g := fun g e => by injection e with e; injection e with e; omega
    have p8 : PtsAt w8 w2.heap.size A0 L := p7.onlyA hO hA8
    have o8 := o7.onlyA hO (fun g e => by injection e with e; injection e with e; omega)
    have b8 : Below w.heap.size w w8 := hO.below b7 (fun g e => by have := hA8 g e; have := b2.size; omega)
    have hz8 : w2.heap.size ≤ w8.heap.size := by rw [hO.2.2.2.1]; exact hz7
    clear p7 hX7 o7 hO hA8
    go_wp2_with fail
    refine (eqPointS_same _ _ _ _ _ _ o8.pts (p8.mono hz8) hLl).mono ?_
    rintro e w9 ⟨rfl, hb9⟩
    have p9 : PtsAt w9 w2.heap.size A0 L := p8.keepB (hb9.mono hz8)
    have o9 := o8.to hb9
    have b9 := bl_trans b8 hb9
    have hz9 : w2.heap.size ≤ w9.heap.size := Nat.le_trans hz8 hb9.size
    clear p8 o8 hb9
    go_wp2_with fail
    refine (mark_opt _ L _ w3.heap.size _ o9 hLl).mono ?_
    rintro e w10 ⟨rfl, m10, hO, hnw⟩
    have hA10 : ∀ g, A1 = some ⟨g, 0, none⟩ → 0 < L.length → w3.heap.size ≤ g := fun g e h0 => by obtain ⟨g', e', hg', _⟩ := o9 h0; rw [e'] at e; injection e with e; injection e with e; omega
    have p10 : PtsAt w10 w2.heap.size A0 L := by
      rcases hnw with h0 | rfl
      · exact p9.onlyA hO (fun g e => by have := hA10 g e h0; omega)
      · exact p9
    have b10 : Below w.heap.size w w10 := by
      rcases hnw with h0 | rfl
      · exact hO.below b9 (fun g e => by have := hA10 g e h0; have := b3.size; omega)
      · exact b9
    have hz10 : w2.heap.size ≤ w10.heap.size := by rw [hO.2.2.2.1]; exact hz9
    clear p9 o9 hO hnw hA10
    go_wp2_with fail
    refine (held_opt _ L _ w3.heap.size _ m10 hLl).mono ?_
    rintro e w11 ⟨rfl, rfl⟩
    go_wp2_with fail
    refine (toPointS_new _ _ _ _ (hp.to b10) hl).mono ?_
    rintro e w12 ⟨g12, rfl, hB12, hb12, _⟩
    have p12 : PtsAt w12 w2.heap.size A0 L := p10.keepB (hb12.mono hz10)
    have m12 := m10.to hb12
    have b12 := bl_trans b10 hb12
    have hz12 : w2.heap.size ≤ w12.heap.size := Nat.le_trans hz10 hb12.size
    clear p10 m10 hb12
    go_wp2_with fail
    refine (CI.out _ _ hB12).mono ?_
    rintro e w13 ⟨A2, c2, rfl, o13, hb13⟩
    have p13 : PtsAt w13 w2.heap.size A0 L := p12.keepB (hb13.mono hz12)
    have m13 := m12.to hb13
    have b13 := bl_trans b12 hb13
    have hz13 : w2.heap.size ≤ w13.heap.size := Nat.le_trans hz12 hb13.size
    clear p12 m12 hb13 hB12
    go_wp2_with fail
    refine (eqPointS_same _ _ _ _ _ _ o13.pts (p13.mono hz13) hLl).mono ?_
    rintro e w14 ⟨rfl, hb14⟩
    have m14 := m13.to hb14
    have b14 := bl_trans b13 hb14
    clear p13 m13 hb14 o13
    go_wp2_with fail
    refine (held_opt _ L _ w3.heap.size _ m14 hLl).mono ?_
    rintro e w15 ⟨rfl, rfl⟩
    go_wp2
    go_ret
    exact ⟨rfl, b14⟩
  · have hs : ((-1 : Int) < 0) := by omega
    go_enter Try.func6, Try.ntmps6
    go_wp2_with fail
    refine (szPointS_big _ _ _ _ (by omega) (Nat.le_trans hlc hc)).mono ?_
    rintro e w1 ⟨rfl, rfl⟩
    go_wp2
    go_ret
    exact ⟨rfl, Below.refl _ _⟩
end Go.Proofs.Ytepamhdopmfkfaa.fnExactHananPoints
