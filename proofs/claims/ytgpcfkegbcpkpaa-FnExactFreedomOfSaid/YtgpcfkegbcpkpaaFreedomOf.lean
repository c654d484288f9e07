/-
  Proved: for every press and number, the program's FreedomOf answers as the model's, leaves its arguments alone, and its answer owns its memory. No condition.
-/
import Derived.Test.YtgpcfkegbcpkpaaPresM
import Derived.Test.YtgpcfkegbcpkpaaFreI
namespace Go.Proofs.Ytgpcfkegbcpkpaa.fnExactFreedomOf
set_option linter.unusedSimpArgs false
set_option linter.unusedVariables false
open Go.ChangeShapes Go.WideShapes Go.ChangeAt Go.RowKit

set_option maxRecDepth 100000 in
set_option maxHeartbeats 3200000 in
theorem walk (n : Int) (A : Option Addr) (rs : List R3) (c : Nat) (t : Int) (w : World) (h : PrIn w n A rs c) (h2 : (Lit.int .i64 t).wf = true) :
    Calls Try.prog 12 #[.agg #[.int .i64 n, .slice A rs.length c], .int .i64 t] w fun e w' => e = .returned (.bool true) ∧ Below w.heap.size w w' := by
  obtain ⟨_, hp, _, hl1, hl2⟩ := h
  have hI := bounds_i64 h2
  have HI := Lib.hid h2
  clear h2
  have hx0 : Below w.heap.size w (w.alloc (.cells #[.int .i64 n, .slice A rs.length c] 24)) := by (repeat (first | assumption | exact Below.refl _ _ | (refine bl_alloc ?_ _) | (refine Below.drew ?_) | (refine bl_drewN ?_ _) | (refine bl_set ?_ (by first | (simp; done) | omega | (simp; omega)) _) | (refine bl_trans ?_ (by assumption)) | (refine bl_step ?_ (by assumption) (by first | omega | exact Below.size (by assumption) | (simp; omega) | (simp; exact Below.size (by assumption))))))
  by_cases hl : rs.length ≤ 1048576
  case neg =>
    go_enter Try.func12, Try.ntmps12
    go_wp2_with fail
    refine (szPress_big _ _ _ _ _ (by omega) (by omega)).mono ?_
    rintro e w1 ⟨rfl, hb1⟩
    go_wp2
    go_ret
    exact ⟨rfl, bl_step hx0 hb1 hx0.size⟩
  have hz : ¬ (1048576 - (rs.length : Int)) < 0 := by omega
  have ka := Blk.new w #[.int .i64 n, .slice A rs.length c] 24
  obtain ⟨L, hL⟩ : ∃ L, outL (frO n rs t) = L := ⟨_, rfl⟩
  obtain ⟨ok, hok⟩ : ∃ ok, (frO n rs t).isSome = ok := ⟨_, rfl⟩
  have hLl : L.length ≤ 1048576 := by rw [← hL]; exact frO_len
  have hm0 : ¬ (1 + 3 * (rs.length : Int)) < 0 := by omega
  have hm1 : ¬ (1 + (L.length : Int)) < 0 := by omega
  have hokn : (ok != ok) = false := by simp
  have CS := Lib.hid (fun (wx : World) (A : Option Addr) (h : RulAt wx wx.heap.size A rs) => by have := FreedomOfS_any n A rs rs.length t wx h hl HI.out; rw [hL, hok] at this; exact this)
  have CI := Lib.hid (fun (wx : World) (A : Option Addr) (h : RulAt wx wx.heap.size A rs) => by have := FreedomOfI_any n A rs rs.length t wx h hl HI.out; rw [hL, hok] at this; exact this)
  have CT := Lib.hid (fun (wx : World) (hx : Below w.heap.size w wx) => toPress_new n A rs c wx (hp.to hx) hl)
  have CE := Lib.hid (fun (wx : World) (A B : Option Addr) (c d : Nat) (h : IntsAt wx wx.heap.size A L) (k : IntsAt wx wx.heap.size B L) => eqInt64S_same A B L c d wx h k hLl)
  clear hp hL hok hl1 hl2
  go_enter Try.func12, Try.ntmps12
  go_wp2_with fail
  refine (szPress_fits _ _ _ _ _ hl).mono ?_
  rintro e w1 ⟨rfl, hb1⟩
  replace ka := ka.to hb1
  have x1 := bl_step hx0 hb1 hx0.size
  clear hb1 hx0
  have s0 := ka.cell 0 (v := .int .i64 n) rfl
  have s1 := ka.cell 1 (v := .slice A rs.length c) rfl
  go_wp2_with fail
  refine (CT.out _ x1).mono ?_
  rintro e w2 ⟨g1, rfl, hB, hb, _⟩
  have x2 := bl_trans x1 hb
  replace ka := ka.to hb
  clear hb x1
  clear s0 s1
  go_wp2_with fail
  refine (CS.out _ _ hB.rec_).mono ?_
  rintro e w0 ⟨A0, c0, rfl, o0, hb⟩
  have x0 := bl_trans x2 hb
  replace ka := ka.to hb
  have p : IntsAt w0 w0.heap.size A0 L := o0.ints
  have hz2 : w0.heap.size ≤ w0.heap.size := Nat.le_refl _
  have hw0 : w.heap.size < w0.heap.size := ka.lt
  clear hb hB o0 x2
  have x3 := x0
  clear x0
  have s0 := ka.cell 0 (v := .int .i64 n) rfl
  have s1 := ka.cell 1 (v := .slice A rs.length c) rfl
  go_wp2_with fail
  refine (CT.out _ x3).mono ?_
  rintro e w4 ⟨gx, rfl, hX, hb, hgx⟩
  have x4 := bl_trans x3 hb
  replace ka := ka.to hb
  replace p := p.keepB (hb.mono hz2)
  replace hz2 : w0.heap.size ≤ w4.heap.size := Nat.le_trans hz2 hb.size
  clear hb x3
  clear s0 s1
  have hgx0 : w0.heap.size ≤ gx := by first | exact hgx | omega
  have kb := Blk.new w4 #[.int .i64 n, .slice (some ⟨gx, 0, none⟩) rs.length rs.length] 29
  have hb : Below w4.heap.size w4 (w4.alloc (.cells #[.int .i64 n, .slice (some ⟨gx, 0, none⟩) rs.length rs.length] 29)) := (Below.refl _ _).alloc (Nat.le_refl _) _
  have hgX : gx < w4.heap.size := hX.lt
  replace ka := ka.to hb
  replace p := p.keepB (hb.mono hz2)
  replace hz2 : w0.heap.size ≤ (w4.alloc (.cells #[.int .i64 n, .slice (some ⟨gx, 0, none⟩) rs.length rs.length] 29)).heap.size := Nat.le_trans hz2 hb.size
  replace hX := hX.to hb
  replace x4 := bl_trans x4 hb
  clear hb
  go_wp2_with fail
  generalize (w4.alloc (.cells #[.int .i64 n, .slice (some ⟨gx, 0, none⟩) rs.length rs.length] 29)) = v4 at *
  generalize w4.heap.size = X at *
  refine (CI.out _ _ hX.rec_).mono ?_
  rintro e w5 ⟨A1, c1, rfl, o, hb⟩
  have x5 := bl_trans x4 hb
  have gXo : gx < v4.heap.size := hX.lt
  replace ka := ka.to hb
  replace kb := kb.to hb
  replace p := p.keepB (hb.mono hz2)
  have hzo : w0.heap.size ≤ v4.heap.size := hz2
  replace hz2 : w0.heap.size ≤ w5.heap.size := Nat.le_trans hz2 hb.size
  replace hX := hX.to hb
  have xo := x4
  clear hb
  generalize v4.heap.size = O at *
  clear x4 xo
  go_wp2_with fail
  refine (CE.out _ _ _ _ _ o.ints (p.mono hz2)).mono ?_
  rintro e w6 ⟨rfl, hb⟩
  have x6 := bl_trans x5 hb
  replace ka := ka.to hb
  replace kb := kb.to hb
  replace p := p.keepB (hb.mono hz2)
  replace hz2 : w0.heap.size ≤ w6.heap.size := Nat.le_trans hz2 hb.size
  replace hX := hX.to hb
  replace o := o.to hb
  clear hb x5
  have s0 := ka.cell 0 (v := .int .i64 n) rfl
  have s1 := ka.cell 1 (v := .slice A rs.length c) rfl
  have t0 := kb.cell 0 (v := .int .i64 n) rfl
  have t1 := kb.cell 1 (v := .slice (some ⟨gx, 0, none⟩) rs.length rs.length) rfl
  have la := ka.lt
  have lb := kb.lt
  go_wp2_with fail
  refine wp_region_treeB (.takes [0, 1] (.alone 2 (.alone 3 (.takes [4] .done)))) (by kernel_rfl) (by kernel_rfl) (by kernel_rfl) (fun _ d _ _ _ h => by cases d <;> exact h) (fun hS0 => ?_)
  refine tplan_w (v := ?_) rfl (by rfl) ?_ ?_
  rotate_left
  · intro wx hSx
    obtain ⟨hcx, hfx, hzx⟩ := bcell hSx
    go_simp
    try (with_reducible rfl)
  try simp only [Act.put, List.setIfInBounds_toArray, List.set_cons_zero, List.set_cons_succ]
  refine tplan_w (v := ?_) rfl (by rfl) ?_ ?_
  rotate_left
  · intro wx hSx
    obtain ⟨hcx, hfx, hzx⟩ := bcell hSx
    go_simp
    try (with_reducible rfl)
  try simp only [Act.put, List.setIfInBounds_toArray, List.set_cons_zero, List.set_cons_succ]
  refine tplan_b rfl (fun K hK => ?_)
  go_simp
  refine (CT.out _ (bl_step x6 hS0 x6.size)).mono ?_
  rintro e wa ⟨m1, rfl, hP, hb9, _⟩
  have hS1 := belowS hS0 hb9
  refine hK _ _ ⟨hS1, ?_⟩
  clear hK K
  try simp only [Act.put, List.setIfInBounds_toArray, List.set_cons_zero, List.set_cons_succ]
  refine tplan_b rfl (fun K hK => ?_)
  go_simp
  refine ((eqPress_same n _ _ rs _ _ _ ((hX.to hS0).to hb9).rec_ hP.rec_ hl)).mono ?_
  rintro e w2 ⟨rfl, hb2⟩
  have hS2 := belowS hS1 hb2
  refine hK _ _ ⟨hS2, ?_⟩
  clear hK K
  try simp only [Act.put, List.setIfInBounds_toArray, List.set_cons_zero, List.set_cons_succ]
  refine tplan_w (v := ?_) rfl (by rfl) ?_ ?_
  rotate_left
  · intro wx hSx
    obtain ⟨hcx, hfx, hzx⟩ := bcell hSx
    go_simp
    try (with_reducible rfl)
  try simp only [Act.put, List.setIfInBounds_toArray, List.set_cons_zero, List.set_cons_succ]
  refine tplan_endQ ?_
  have x7 := bl_step x6 hS2 x6.size
  clear hP hb9 hS0 hS1 s0 s1 t0 t1 la lb
  have hb := hS2
  clear hS2
  replace ka := ka.to hb
  replace kb := kb.to hb
  replace p := p.keepB (hb.mono hz2)
  replace hz2 : w0.heap.size ≤ w2.heap.size := Nat.le_trans hz2 hb.size
  replace hX := hX.to hb
  replace o := o.to hb
  clear hb x6
  have t0 := kb.cell 0 (v := .int .i64 n) rfl
  have t1 := kb.cell 1 (v := .slice (some ⟨gx, 0, none⟩) rs.length rs.length) rfl
  go_wp2_with fail
  refine (markPress_any n gx rs.length rs.length 1 _ hX.pl hl (by omega) (by omega)).mono ?_
  rintro e w8 ⟨rfl, hO⟩
  have x8 := hO.below x7 (by omega) x7.size
  replace ka := hO.blk ka (by omega)
  replace p := hO.ints p hgx0 hz2
  replace o := hO.own4 o gXo
  replace hz2 : w0.heap.size ≤ w8.heap.size := Nat.le_trans hz2 hO.size
  clear hO hX kb t0 t1 x7
  go_wp2_with fail
  refine (CE.out _ _ _ _ _ o.ints (p.mono hz2)).mono ?_
  rintro e w9 ⟨rfl, hb⟩
  have x9 := bl_trans x8 hb
  replace ka := ka.to hb
  replace p := p.keepB (hb.mono hz2)
  replace hz2 : w0.heap.size ≤ w9.heap.size := Nat.le_trans hz2 hb.size
  replace o := o.to hb
  clear hb x8
  go_wp2_with fail
  refine (markI_opt A1 L _ O _ o hLl).mono ?_
  rintro e w10 ⟨rfl, m, hO, hnw⟩
  have hAO : ∀ g, A1 = some ⟨g, 0, none⟩ → 0 < L.length → O ≤ g := fun g e h0 => by obtain ⟨g', e', hg', _⟩ := o h0; rw [e'] at e; injection e with e; injection e with e; omega
  have hpk : IntsAt w10 w0.heap.size A0 L := by
    rcases hnw with h0 | rfl
    · intro h1
      obtain ⟨b, off, e, hlt, hc⟩ := p h1
      have hk : w10.heap[b]? = w9.heap[b]? := hO.2.2.2.2 b (fun e => by have := hAO b e h0; omega)
      exact ⟨b, off, e, hlt, fun i hi => (World.cell?_of_block (a := ⟨b, _, none⟩) hk).trans (hc i hi)⟩
    · exact p
  have x10 : Below w.heap.size w w10 := by
    rcases hnw with h0 | rfl
    · exact hO.below x9 (fun g e => by have := hAO g e h0; omega)
    · exact x9
  have hka : Blk w10 w.heap.size #[.int .i64 n, .slice A rs.length c] 24 := by
    rcases hnw with h0 | rfl
    · exact ka.keep (hO.2.2.2.2 _ (fun e => by have := hAO _ e h0; omega))
    · exact ka
  replace hz2 : w0.heap.size ≤ w10.heap.size := by rw [hO.2.2.2.1]; exact hz2
  clear p o ka hO hnw hAO x9
  go_wp2_with fail
  refine (heldI_opt A1 L.length _ O _ m hLl).mono ?_
  rintro e w11 ⟨rfl, rfl⟩
  have s0 := hka.cell 0 (v := .int .i64 n) rfl
  have s1 := hka.cell 1 (v := .slice A rs.length c) rfl
  have ka := hka
  have p := hpk
  clear hka hpk
  go_wp2_with fail
  refine (CT.out _ x10).mono ?_
  rintro e w11 ⟨g3, rfl, hB, hb, _⟩
  have x11 := bl_trans x10 hb
  replace ka := ka.to hb
  replace p := p.keepB (hb.mono hz2)
  replace hz2 : w0.heap.size ≤ w11.heap.size := Nat.le_trans hz2 hb.size
  replace m := m.to hb
  clear hb x10
  go_wp2_with fail
  refine (CI.out _ _ hB.rec_).mono ?_
  rintro e w12 ⟨A2, c2, rfl, o2, hb⟩
  have x12 := bl_trans x11 hb
  replace p := p.keepB (hb.mono hz2)
  replace hz2 : w0.heap.size ≤ w12.heap.size := Nat.le_trans hz2 hb.size
  replace m := m.to hb
  clear hb hB x11
  go_wp2_with fail
  refine (CE.out _ _ _ _ _ o2.ints (p.mono hz2)).mono ?_
  rintro e w13 ⟨rfl, hb⟩
  have x13 := bl_trans x12 hb
  replace m := m.to hb
  clear hb x12
  go_wp2_with fail
  refine (heldI_opt A1 L.length _ O _ m hLl).mono ?_
  rintro e w14 ⟨rfl, rfl⟩
  go_wp2
  go_ret
  exact ⟨rfl, x13⟩
end Go.Proofs.Ytgpcfkegbcpkpaa.fnExactFreedomOf
