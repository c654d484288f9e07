/-
  Proved: for every width, height and room, the program's EvenGrid answers as the model's, in memory of its own. No condition.
-/
import Derived.Test.YtijnjcamfbnmgaaEvenL
namespace Go.Proofs.Ytijnjcamfbnmgaa.fnExactEvenGrid
set_option linter.unusedSimpArgs false
set_option linter.unusedVariables false
open Go.ChangeShapes Go.WideShapes Go.ChangeAt Go.RowKit

set_option maxRecDepth 100000 in
set_option maxHeartbeats 3200000 in
theorem walk (wI hI room : Int) (w : World) (_ : (Lit.int .i64 wI).wf = true) (_ : (Lit.int .i64 hI).wf = true) (_ : (Lit.int .i64 room).wf = true) :
    Calls Try.prog 8 #[.int .i64 wI, .int .i64 hI, .int .i64 room] w fun e w' => e = .returned (.bool true) ∧ Below w.heap.size w w' := by
  have CS := Lib.hid (fun wx => EvenGridS2 wI hI room wx)
  have CI := Lib.hid (fun wx => EvenGridI2 wI hI room wx)
  have hb8 : Hid ((∀ Ms, heldI Ms = rA wI hI room → Ms.length = (rA wI hI room).length ∧ Ms.length ≤ 1048576 ∧ ∀ i, i < Ms.length → (Ms.getD i si0).2.1.length ≤ 1048576) ∧ (∀ Ms, heldI Ms = rU wI hI room → Ms.length = (rU wI hI room).length ∧ Ms.length ≤ 1048576 ∧ ∀ i, i < Ms.length → (Ms.getD i si0).2.1.length ≤ 1048576)) := by
    have key : ∀ (h m : Nat), h ≤ 9 → m ≤ 9 → ∀ Ms, heldI Ms = eqRows h m room → Ms.length = h ∧ Ms.length ≤ 1048576 ∧ ∀ i, i < Ms.length → (Ms.getD i si0).2.1.length ≤ 1048576 := fun h m hh hm Ms e => by
      have hl : Ms.length = h := by rw [← heldI_len, e, eqRows_len]
      refine ⟨hl, by omega, fun i hi => ?_⟩
      rw [← heldI_at, e]
      unfold eqRows
      rw [List.getD_eq_getElem?_getD, List.getElem?_replicate, if_pos (by omega)]
      simp
      omega
    cases hk : evOk wI hI room
    · rw [rA_f hk, rU_f hk]
      exact ⟨fun Ms e => by have : Ms = [] := by simpa [heldI] using e
                            subst this; simp, fun Ms e => by have : Ms = [] := by simpa [heldI] using e
                                                             subst this; simp⟩
    · have hb := hk
      unfold evOk at hb
      simp only [Bool.and_eq_true] at hb
      have b1 : 1 ≤ wI ∧ wI ≤ 8 := of_decide_eq_true hb.1
      have b2 : 1 ≤ hI ∧ hI ≤ 8 := of_decide_eq_true hb.2.1
      unfold rA rU
      rw [hk]
      simp only [if_true]
      rw [eqRows_len, eqRows_len]
      exact ⟨key _ _ (by omega) (by omega), key _ _ (by omega) (by omega)⟩
  unfold Ev2 at CS CI
  obtain ⟨nA, hnA⟩ : ∃ n, (rA wI hI room).length = n := ⟨_, rfl⟩
  obtain ⟨nU, hnU⟩ : ∃ n, (rU wI hI room).length = n := ⟨_, rfl⟩
  rw [hnA, hnU] at CS CI hb8
  clear hnA hnU
  generalize rA wI hI room = RA at *
  generalize rU wI hI room = RU at *
  generalize evOk wI hI room = ok at *
  go_enter Try.func8, Try.ntmps8
  go_wp2_with fail
  refine (CS.out _).mono ?_
  rintro e w1 ⟨A0, c0, Ms, A1, c1, Us, rfl, hA, hU, iA, iU, _, hb1⟩
  obtain ⟨hMl, hMs, hMz⟩ := hb8.out.1 Ms hA
  obtain ⟨hUl, hUs, hUz⟩ := hb8.out.2 Us hU
  have k7 := Blk.new w1 #[.slice A0 nA c0, .slice A1 nU c1] 53
  have hx7 : Below w1.heap.size w1 (w1.alloc (.cells #[.slice A0 nA c0, .slice A1 nU c1] 53)) := (Below.refl _ _).alloc (Nat.le_refl _) _
  have iA7 := iA.to hx7
  have iU7 := iU.to hx7
  have bb := bl_step hb1 hx7 hb1.size
  clear hb1 iA iU hx7
  go_wp2_with fail
  generalize (w1.alloc (.cells #[.slice A0 nA c0, .slice A1 nU c1] 53)) = v1 at *
  generalize w1.heap.size = S at *
  refine (CI.out _).mono ?_
  rintro e w2 ⟨B0, d0, Ns, B1, d1, Vs, rfl, hN, hV, jA, jU, hown, hb2⟩
  have hG := hown trivial
  have hS := k7.lt
  obtain ⟨N, hNN⟩ : ∃ N, v1.heap.size = N := ⟨_, rfl⟩
  have hbv := bb.size
  rw [hNN] at iA7 iU7 hb2 hG hS hbv
  obtain ⟨hNl, hNs, hNz⟩ := hb8.out.1 Ns hN
  obtain ⟨hVl, hVs, hVz⟩ := hb8.out.2 Vs hV
  have k72 := k7.keep (hb2.block S hS)
  have iA2 := iA7.keepB hb2
  have iU2 := iU7.keepB hb2
  have bb2 := bb.trans (hb2.mono hbv)
  have hz2 : N ≤ w2.heap.size := by rw [← hNN]; exact (by have := hb2.size; rw [hNN] at this ⊢; exact this)
  have k9 := Blk.new w2 #[.slice B0 nA d0, .slice B1 nU d1] 53
  have hx9 : Below w2.heap.size w2 (w2.alloc (.cells #[.slice B0 nA d0, .slice B1 nU d1] 53)) := (Below.refl _ _).alloc (Nat.le_refl _) _
  have hnT : Hid (¬ rowOf Ns w2.heap.size ∧ ¬ rowOf Vs w2.heap.size) := ⟨fun h => by have := hG.lt _ (.inl h); omega, fun h => by have := hG.lt _ (.inr h); omega⟩
  have hnS : Hid (¬ rowOf Ns S ∧ ¬ rowOf Vs S) := ⟨fun h => by have := hG.r0.ge h; omega, fun h => by have := hG.r1.ge h; omega⟩
  have k79 := k72.to hx9
  have iA9 := iA2.keepB (hx9.mono hz2)
  have iU9 := iU2.keepB (hx9.mono hz2)
  have jA9 := jA.to hx9
  have jU9 := jU.to hx9
  have hG9 := hG.to hx9
  have bb9 := bl_step bb2 hx9 bb2.size
  have HNN := Lib.hid hNN
  clear k7 k72 iA7 iU7 iA2 iU2 jA jU hG hown hb2 bb bb2 hx9 hNN
  have q0 := k79.cell 0 (v := .slice A0 nA c0) rfl
  have q1 := k79.cell 1 (v := .slice A1 nU c1) rfl
  have p0 := k9.cell 0 (v := .slice B0 nA d0) rfl
  have p1 := k9.cell 1 (v := .slice B1 nU d1) rfl
  go_wp2_with fail
  have hz9 : N ≤ (w2.alloc (.cells #[.slice B0 nA d0, .slice B1 nU d1] 53)).heap.size := by rw [World.size_alloc]; omega
  have hl9 := k9.lt
  generalize (w2.alloc (.cells #[.slice B0 nA d0, .slice B1 nU d1] 53)) = v2 at *
  generalize w2.heap.size = T at *
  refine (eqGrid_gen B0 B1 A0 A1 d0 d1 c0 c1 nA nU Ns Vs Ms Us _ jA9 jU9 (iA9.mono hz9) (iU9.mono hz9) hNl hVl hMl hUl (hN.trans hA.symm) (hV.trans hU.symm) (by omega) (by omega) (fun i hi => hNz i (by omega)) (fun i hi => hVz i (by omega))).mono ?_
  rintro e w3 ⟨rfl, hb3⟩
  have k9a := k9.to hb3
  have k7a := k79.to hb3
  have hG3 := hG9.to hb3
  have iA3 := iA9.keepB (hb3.mono hz9)
  have iU3 := iU9.keepB (hb3.mono hz9)
  have bb3 := bl_step bb9 hb3 bb9.size
  have hz3 : N ≤ w3.heap.size := Nat.le_trans hz9 hb3.size
  have hT3 : T < w3.heap.size := k9a.lt
  clear p0 p1 q0 q1 k9 k79 iA9 iU9 jA9 jU9 hG9 bb9 hb3 hz9 hl9
  have p0 := k9a.cell 0 (v := .slice B0 nA d0) rfl
  have p1 := k9a.cell 1 (v := .slice B1 nU d1) rfl
  have CM := markGrid_any B0 B1 d0 d1 N Ns Vs w3 hG3
  rw [hNl, hVl] at CM
  go_wp2_with fail
  refine CM.mono ?_
  rintro e w4 ⟨rfl, hG4, hM4, hK4, hz4, ho4, ht4, hu4⟩
  have hB4 : Below N w3 w4 := ⟨ho4, ht4, hu4, hz4, fun b hb => hK4 b (by omega) (fun h => by have := hG3.r0.ge h; omega) (fun h => by have := hG3.r1.ge h; omega)⟩
  have k9b := k9a.keep (hK4 T hT3 hnT.out.1 hnT.out.2)
  have k7b := k7a.keep (hK4 S (by omega) hnS.out.1 hnS.out.2)
  have iA4 := iA3.keepB hB4
  have iU4 := iU3.keepB hB4
  have bb4 := bb3.trans (hB4.mono hbv)
  have CH := heldGrid_any B0 B1 d0 d1 N Ns Vs w4 hG4 hM4
  rw [hNl, hVl] at CH
  have HT0 : ¬ ((gTot Ns Vs : Int) < 0) := by omega
  have HCH := Lib.hid (fun (wx : World) (hb : Below w4.heap.size w4 wx) => heldGrid_any B0 B1 d0 d1 N Ns Vs wx (hG4.to hb) (hM4.to hG4 hb))
  rw [hNl, hVl] at HCH
  have hbg : (gTot Ns Vs : Int) ≤ 4398046511104 := by
    have := offL_big hG4.m0
    have := offL_big hG4.m1
    unfold gTot
    omega
  have hz44 : N ≤ w4.heap.size := Nat.le_trans hz3 hz4
  clear p0 p1 CM k9a k7a iA3 iU3 hG3 bb3 hB4 hK4 ho4 ht4 hu4 hz3 hT3 hM4 hG4 hz4
  generalize gTot Ns Vs = tot at *
  have p0 := k9b.cell 0 (v := .slice B0 nA d0) rfl
  have p1 := k9b.cell 1 (v := .slice B1 nU d1) rfl
  go_wp2_with fail
  refine CH.mono ?_
  rintro e w5 ⟨rfl, hb5⟩
  have k9c := k9b.to hb5
  have k7c := k7b.to hb5
  have iA5 := iA4.keepB (hb5.mono hz44)
  have iU5 := iU4.keepB (hb5.mono hz44)
  have bb5 := bl_step bb4 hb5 bb4.size
  have hz5 : N ≤ w5.heap.size := Nat.le_trans hz44 hb5.size
  clear p0 p1 CH k9b k7b iA4 iU4 bb4
  go_wp2_with fail
  refine (CI.out _).mono ?_
  rintro e w6 ⟨C0, f0, Ns2, C1, f1, Vs2, rfl, hN2, hV2, jA, jU, _, hb6⟩
  obtain ⟨hNl2, _, hNz2⟩ := hb8.out.1 Ns2 hN2
  obtain ⟨hVl2, _, hVz2⟩ := hb8.out.2 Vs2 hV2
  have k13 := Blk.new w6 #[.slice C0 nA f0, .slice C1 nU f1] 53
  have hx13 : Below w6.heap.size w6 (w6.alloc (.cells #[.slice C0 nA f0, .slice C1 nU f1] 53)) := (Below.refl _ _).alloc (Nat.le_refl _) _
  have hb56 := bl_trans hb6 hx13
  have k9d := k9c.to hb56
  have k7d := k7c.to hb56
  have iA6 := iA5.keepB (hb56.mono hz5)
  have iU6 := iU5.keepB (hb56.mono hz5)
  have jA6 := jA.to hx13
  have jU6 := jU.to hx13
  have bb6 := bl_step bb5 hb56 bb5.size
  have hb46 := bl_trans hb5 hb56
  have hz6 : N ≤ (w6.alloc (.cells #[.slice C0 nA f0, .slice C1 nU f1] 53)).heap.size := Nat.le_trans hz5 hb56.size
  clear k9c k7c iA5 iU5 jA jU bb5 hb56 hx13 hb6 hb5 hz5 CS CI
  have p0 := k13.cell 0 (v := .slice C0 nA f0) rfl
  have p1 := k13.cell 1 (v := .slice C1 nU f1) rfl
  have q0 := k7d.cell 0 (v := .slice A0 nA c0) rfl
  have q1 := k7d.cell 1 (v := .slice A1 nU c1) rfl
  go_wp2_with fail
  generalize (w6.alloc (.cells #[.slice C0 nA f0, .slice C1 nU f1] 53)) = v6 at *
  generalize w6.heap.size = V at *
  refine (eqGrid_gen C0 C1 A0 A1 f0 f1 c0 c1 nA nU Ns2 Vs2 Ms Us _ jA6 jU6 (iA6.mono hz6) (iU6.mono hz6) hNl2 hVl2 hMl hUl (hN2.trans hA.symm) (hV2.trans hU.symm) (by omega) (by omega) (fun i hi => hNz2 i (by omega)) (fun i hi => hVz2 i (by omega))).mono ?_
  rintro e w7 ⟨rfl, hb7⟩
  have k9e := k9d.to hb7
  have bb7 := bl_step bb6 hb7 bb6.size
  have hb47 := bl_trans hb46 hb7
  clear p0 p1 q0 q1 k13 k9d k7d iA6 iU6 jA6 jU6 bb6 hb7 hb46
  have p0 := k9e.cell 0 (v := .slice B0 nA d0) rfl
  have p1 := k9e.cell 1 (v := .slice B1 nU d1) rfl
  go_wp2_with fail
  refine (HCH.out _ hb47).mono ?_
  rintro e w8 ⟨rfl, hb8'⟩
  have bb8 := bl_step bb7 hb8' bb7.size
  clear hb8' bb7 p0 p1
  go_wp2
  go_ret
  exact ⟨rfl, bb8⟩
end Go.Proofs.Ytijnjcamfbnmgaa.fnExactEvenGrid
