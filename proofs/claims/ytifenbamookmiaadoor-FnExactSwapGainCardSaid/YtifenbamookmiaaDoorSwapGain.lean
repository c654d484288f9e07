/-
  Proved: for every bundle and further arguments, the program's SwapGain answers as the model's and leaves its arguments alone. Condition: math/bits' table lies as it is laid.
-/
import Derived.Test.YtifenbamookmiaaDoorBunW
import Derived.Test.YtifenbamookmiaaDoorSwpO
namespace Go.Proofs.YtifenbamookmiaaDoor.fnExactSwapGain
set_option linter.unusedSimpArgs false
set_option linter.unusedVariables false
open Go.ChangeShapes Go.WideShapes Go.ChangeAt Go.RowKit

set_option maxRecDepth 100000 in
set_option maxHeartbeats 3200000 in
theorem walk (A : Option Addr) (Ls : List SlI) (c : Nat) (B0 : Option Addr) (p0 : List Int) (d0 : Nat) (t1 : Int) (w : World) (h : RowsIn w A Ls c) (h0 : IntsAt w w.heap.size B0 p0 ∧ (∀ n ∈ p0, Fits n) ∧ p0.length ≤ d0 ∧ d0 ≤ maxLen) (h1 : (Lit.int .i64 t1).wf = true) (hL : BruAt w) :
    Calls Tryd.prog 5 #[.agg #[.slice A Ls.length c], .slice B0 p0.length d0, .int .i64 t1] w fun e w' => e = .returned (.bool true) ∧ Below w.heap.size w w' := by
  have hx0 : Below w.heap.size w (w.alloc (.cells #[.slice A Ls.length c] 24)) := by (repeat (first | assumption | exact Below.refl _ _ | (refine bl_alloc ?_ _) | (refine Below.drew ?_) | (refine bl_drewN ?_ _) | (refine bl_set ?_ (by first | (simp; done) | omega | (simp; omega)) _) | (refine bl_trans ?_ (by assumption)) | (refine bl_step ?_ (by assumption) (by first | omega | exact Below.size (by assumption) | (simp; omega) | (simp; exact Below.size (by assumption))))))
  obtain ⟨q0, _, _, _⟩ := h0
  by_cases m0 : p0.length ≤ 1048576
  case neg =>
    have mI : 1048576 < (p0.length : Int) := by omega
    go_enter Tryd.func5, Tryd.ntmps5
    go_wp2
    go_ret
    exact ⟨rfl, hx0⟩
  have mI0 : (p0.length : Int) ≤ 1048576 := by omega
  have HI1 := Lib.hid h1
  clear h1
  have ka := Blk.new w #[.slice A Ls.length c] 24
  have csz := szBundle_in A Ls c (w.alloc (.cells #[.slice A Ls.length c] 24)) w h hx0
  clear h
  have HL := Lib.hid hL
  clear hL
  generalize Ls.length = n at *
  generalize heldI Ls = M at *
  obtain ⟨v, hv⟩ : ∃ v, sgX M p0 t1 = v := ⟨_, rfl⟩
  obtain ⟨ok, hok⟩ : ∃ ok, sgB M p0 t1 = ok := ⟨_, rfl⟩
  have CS := Lib.hid (fun (wx : World) (A : Option Addr) (B0 : Option Addr) (h : BnIn wx A n M) (q0 : IntsAt wx wx.heap.size B0 p0) => by have := SwapGainS_in A n n M B0 p0 p0.length t1 wx h q0 m0 HI1.out; rw [hv, hok] at this; exact this)
  have CI := Lib.hid (fun (wx : World) (A : Option Addr) (B0 : Option Addr) (h : BnIn wx A n M) (q0 : IntsAt wx wx.heap.size B0 p0) (hL : BruAt wx) => by have := SwapGainI_in A n n M B0 p0 p0.length t1 wx h q0 m0 HI1.out hL; rw [hv, hok] at this; exact this)
  have CN0 := Lib.hid (fun (wx : World) (hx : Below w.heap.size w wx) => toInt64S_new B0 p0 d0 wx (q0.to hx) m0)
  have CP0 := Lib.hid (fun (wx : World) (A B : Option Addr) (h : IntsAt wx wx.heap.size A p0) (k : IntsAt wx wx.heap.size B p0) => eqInt64S_same A B p0 p0.length p0.length wx h k m0)
  have hokn : (ok != ok) = false := bne_self_eq_false _
  have hvn : (v != v) = false := bne_self_eq_false _
  clear hv hok q0
  go_enter Tryd.func5, Tryd.ntmps5
  go_wp2_with fail
  refine csz.mono ?_
  rintro e w1 ⟨⟨r, rfl, hr1, hr2, hr3⟩, hb⟩
  have HR := Lib.hid hr3
  clear hr3 csz
  replace ka := ka.to hb
  have x1 := bl_step hx0 hb hx0.size
  clear hb hx0
  by_cases hr : r < 0
  · go_wp2
    go_ret
    exact ⟨rfl, x1⟩
  have HP := Lib.hid (HR.out (by omega))
  have CT := Lib.hid (fun (wx : World) (hx : Below w.heap.size w wx) => toBundle_in A n c M wx (HP.out.to hx))
  clear HR hr1 hr2
  have s0 := ka.cell 0 (v := .slice A n c) rfl
  go_wp2_with fail
  refine (CT.out _ x1).mono ?_
  rintro e w2 ⟨g1, rfl, hB, _, hb⟩
  have x2 := bl_trans x1 hb
  replace ka := ka.to hb
  clear hb x1
  clear s0
  go_wp2_with fail
  refine (CN0.out _ x2).mono ?_
  rintro e w3 ⟨y0, rfl, hN0, hb, _⟩
  have x3 := bl_trans x2 hb
  replace ka := ka.to hb
  replace hB := hB.to hb
  clear hb x2
  go_wp2_with fail
  refine (CS.out _ _ _ hB.in_ hN0.nums).mono ?_
  rintro e w4 ⟨rfl, hb⟩
  have x4 := bl_trans x3 hb
  replace ka := ka.to hb
  clear hb x3
  clear hB hN0
  have s0 := ka.cell 0 (v := .slice A n c) rfl
  go_wp2_with fail
  refine (CT.out _ x4).mono ?_
  rintro e w5 ⟨gx, rfl, hX, _, hb⟩
  have x5 := bl_trans x4 hb
  replace ka := ka.to hb
  clear hb x4
  clear s0
  have kb := Blk.new w5 #[.slice (some ⟨gx, 0, none⟩) n n] 29
  have hb : Below w5.heap.size w5 (w5.alloc (.cells #[.slice (some ⟨gx, 0, none⟩) n n] 29)) := (Below.refl _ _).alloc (Nat.le_refl _) _
  replace ka := ka.to hb
  replace hX := hX.to hb
  replace x5 := bl_trans x5 hb
  clear hb
  go_wp2_with fail
  generalize (w5.alloc (.cells #[.slice (some ⟨gx, 0, none⟩) n n] 29)) = v5 at *
  generalize w5.heap.size = X at *
  refine (CN0.out _ x5).mono ?_
  rintro e w6 ⟨z0, rfl, hY0, hb, _⟩
  have x6 := bl_trans x5 hb
  replace ka := ka.to hb
  replace kb := kb.to hb
  replace hX := hX.to hb
  clear hb x5
  have u0 := kb.cell 0 (v := .slice (some ⟨gx, 0, none⟩) n n) rfl
  go_wp2_with fail
  refine (CI.out _ _ _ hX.in_ hY0.nums (HL.out.to x6)).mono ?_
  rintro e w7 ⟨rfl, hb⟩
  have x7 := bl_trans x6 hb
  replace ka := ka.to hb
  replace kb := kb.to hb
  replace hX := hX.to hb
  replace hY0 := hY0.to hb
  clear hb x6 u0
  have s0 := ka.cell 0 (v := .slice A n c) rfl
  have u0 := kb.cell 0 (v := .slice (some ⟨gx, 0, none⟩) n n) rfl
  have la := ka.lt
  have lb := kb.lt
  go_wp2_with fail
  refine wp_region_treeB (.takes [0, 1] (.alone 2 (.alone 3 (.takes [4] .done)))) (by kernel_rfl) (by kernel_rfl) (by kernel_rfl) (fun _ d _ _ _ h => by cases d <;> exact h) (fun hS0 => ?_)
  refine tplan_w (v := ?_) rfl (by rfl) ?_ ?_
  rotate_left
  · intro wx hSx
    obtain ⟨hcx, hfx, hzx⟩ := bcell hSx
    go_simp
    try (with_reducible rfl)
  try simp only [Act.put, List.setIfInBounds_toArray, List.set_cons_zero, List.set_cons_succ]
  refine tplan_w (v := ?_) rfl (by rfl) ?_ ?_
  rotate_left
  · intro wx hSx
    obtain ⟨hcx, hfx, hzx⟩ := bcell hSx
    go_simp
    try (with_reducible rfl)
  try simp only [Act.put, List.setIfInBounds_toArray, List.set_cons_zero, List.set_cons_succ]
  refine tplan_b rfl (fun K hK => ?_)
  go_simp
  refine (CT.out _ (bl_step x7 hS0 x7.size)).mono ?_
  rintro e wa ⟨m1, rfl, hP, _, hb9⟩
  have hS1 := belowS hS0 hb9
  refine hK _ _ ⟨hS1, ?_⟩
  clear hK K
  try simp only [Act.put, List.setIfInBounds_toArray, List.set_cons_zero, List.set_cons_succ]
  refine tplan_b rfl (fun K hK => ?_)
  go_simp
  refine ((eqBundle_in _ _ _ _ _ M _ ((hX.to hS0).to hb9).in_ hP.in_)).mono ?_
  rintro e w2 ⟨rfl, hb2⟩
  have hS2 := belowS hS1 hb2
  refine hK _ _ ⟨hS2, ?_⟩
  clear hK K
  try simp only [Act.put, List.setIfInBounds_toArray, List.set_cons_zero, List.set_cons_succ]
  refine tplan_w (v := ?_) rfl (by rfl) ?_ ?_
  rotate_left
  · intro wx hSx
    obtain ⟨hcx, hfx, hzx⟩ := bcell hSx
    go_simp
    try (with_reducible rfl)
  try simp only [Act.put, List.setIfInBounds_toArray, List.set_cons_zero, List.set_cons_succ]
  refine tplan_endQ ?_
  have x8 := bl_step x7 hS2 x7.size
  clear hP hb9 hS0 hS1 s0 u0 la lb
  replace hY0 := hY0.to hS2
  clear hS2 x7 hX
  go_wp2_with fail
  refine (CN0.out _ x8).mono ?_
  rintro e w9 ⟨gq, rfl, hQ, hb, _⟩
  have x9 := bl_trans x8 hb
  replace hY0 := hY0.to hb
  clear hb x8
  go_wp2_with fail
  refine (CP0.out _ _ _ hY0.nums hQ.nums).mono ?_
  rintro e w10 ⟨rfl, hb⟩
  have x10 := bl_trans x9 hb
  clear hb x9
  clear hQ
  go_wp2
  go_ret
  exact ⟨rfl, x10⟩
end Go.Proofs.YtifenbamookmiaaDoor.fnExactSwapGain
