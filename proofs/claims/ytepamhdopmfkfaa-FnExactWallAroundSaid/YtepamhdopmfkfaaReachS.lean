/-
  Contracts: the model's search and its sorted points.
-/
import Derived.Test.YtepamhdopmfkfaaReachI
namespace Go.Proofs.Ytepamhdopmfkfaa
set_option linter.unusedSimpArgs false
set_option linter.unusedVariables false
open Go.ChangeShapes Go.WideShapes Go.ChangeAt Go.RowKit

/-- Block g holds n truth values. -/
def FBlk (w : World) (g n : Nat) (f : Nat → Bool) : Prop :=
  ∃ cs, w.heap[g]? = some (.cells cs 4 (0, 0)) ∧ cs.size = n ∧ ∀ i, i < n → cs[i]? = some (.bool (f i))
theorem FBlk.lt {w : World} {g n : Nat} {f : Nat → Bool} (h : FBlk w g n f) : g < w.heap.size := by
  obtain ⟨cs, h, _⟩ := h
  rcases Nat.lt_or_ge g w.heap.size with hlt | hge
  · exact hlt
  · rw [Array.getElem?_eq_none hge] at h; cases h
theorem FBlk.keep {w w' : World} {g n : Nat} {f : Nat → Bool} (h : FBlk w g n f) (hk : w'.heap[g]? = w.heap[g]?) : FBlk w' g n f := by
  obtain ⟨cs, h0, h1⟩ := h
  exact ⟨cs, hk.trans h0, h1⟩
theorem FBlk.to {w w1 : World} {g n : Nat} {f : Nat → Bool} (h : FBlk w g n f) (hb : Below w.heap.size w w1) : FBlk w1 g n f := h.keep (hb.block g h.lt)
theorem FBlk.at_ {w : World} {g n : Nat} {f : Nat → Bool} (h : FBlk w g n f) {i : Nat} (hi : i < n) : w.cell? ⟨g, i, none⟩ = some (.bool (f i)) := by
  obtain ⟨cs, h0, _, h2⟩ := h
  rw [cell_of_row w g _ cs _ _ h0]
  exact h2 i hi
theorem FBlk.frozen {w : World} {g n : Nat} {f : Nat → Bool} (h : FBlk w g n f) (i : Nat) : w.frozen? ⟨g, i, none⟩ = false := by
  obtain ⟨cs, h0, _⟩ := h
  simp [World.frozen?, h0]
theorem FBlk.set_ {w : World} {g n : Nat} {f : Nat → Bool} (h : FBlk w g n f) {i : Nat} (hi : i < n) : FBlk (w.setCell ⟨g, i, none⟩ (.bool true)) g n (upd f i) := by
  obtain ⟨cs, h0, h1, h2⟩ := h
  refine ⟨cs.setIfInBounds i (.bool true), by simp [World.setCell, Array.getElem?_modify, h0], by simpa using h1, fun j hj => ?_⟩
  unfold upd
  by_cases e : j = i
  · subst e
    simp only [Array.getElem?_setIfInBounds_self, h1]
    rw [if_pos hj]
    simp
  · rw [Array.getElem?_setIfInBounds_ne (Ne.symm e), if_neg e]
    exact h2 j hj
theorem infoF : (Try.prog.info? 4).map (fun i => (i.zero, i.size, i.bytes)) = some (some (.bool false), 1, 1) := by kernel_rfl
def blankF (n : Nat) : Array Value := madeCells #[.bool false] n
theorem run_mkbools (n : Nat) (h : n ≤ 1048576) (w : World) :
    (Instr.makeSlice 85 (.int .i64 (n : Int)) (.int .i64 (n : Int))).run Try.prog w = .ok (.slice (some ⟨w.heap.size, 0, none⟩) n n) (w.alloc (.cells (blankF n) 4)) := by
  obtain ⟨i, hi, hzz⟩ := Option.map_eq_some_iff.1 infoF
  simp only [Prod.mk.injEq] at hzz
  obtain ⟨hz, hs, hb⟩ := hzz
  have := run_make (P := Try.prog) w 85 4 i _ Try.underlying85 hi hz .i64 .i64 n n (by omega) (by omega) (by rw [hb]; omega) (by omega)
  rw [this, hs, Nat.mul_one]
  rfl
theorem FBlk.new (w : World) (n : Nat) : FBlk (w.alloc (.cells (blankF n) 4)) w.heap.size n (fun _ => false) :=
  ⟨blankF n, heap_alloc_new w _, by simp [blankF, size_madeCells], fun i hi => by simp [blankF, madeCells, hi, Nat.mod_one]⟩

set_option maxRecDepth 100000 in
set_option maxHeartbeats 800000 in
theorem l04Index_any (g : Nat) (A : Option Addr) (Ls : List SlI) (c : Nat) (i j : Nat) (w : World) (hm : MzAt w g A Ls c) (hv : MzOk (heldI Ls)) (hi : i < wid (heldI Ls)) (hj : j < (heldI Ls).length) :
    Calls Try.prog 67 #[.pointer (some ⟨g, 0, none⟩), .agg #[.int .i64 i, .int .i64 j]] w fun e w' => e = .returned (.int .i64 (idxN (heldI Ls) i j : Nat)) ∧ Below w.heap.size w w' := by
  obtain ⟨hg, hgl, hp⟩ := hm
  have h12 := hv.h12
  have w12 := hv.w12
  have hwid := heldI_wid Ls
  rw [heldI_len] at h12 hj
  obtain ⟨b, off, rfl, hbB, hc⟩ := hp (by omega)
  obtain ⟨c0, _, _, _⟩ := hc 0 (by omega)
  rw [Nat.add_zero, ← hwid] at c0
  have h0I : (0 : Int) < (Ls.length : Int) := by omega
  have h0N : 0 < Ls.length := by omega
  have hmul : j * wid (heldI Ls) ≤ 12 * 12 := Nat.mul_le_mul (by omega) w12
  have hI : Hid (((idxN (heldI Ls) i j : Nat) : Int) = (j : Int) * (wid (heldI Ls) : Int) + (i : Int)) := by show _ = _; unfold idxN; simp
  have hJ : ((j * wid (heldI Ls) : Nat) : Int) = (j : Int) * (wid (heldI Ls) : Int) := by simp
  have hm1 : 0 ≤ (j : Int) * (wid (heldI Ls) : Int) := by omega
  have hm2 : (j : Int) * (wid (heldI Ls) : Int) ≤ 144 := by omega
  have e1 : IntKind.i64.wrap ((j : Int) * (wid (heldI Ls) : Int)) = (j : Int) * (wid (heldI Ls) : Int) := IntWalk.i64_in _ (by omega)
  have e2 : IntKind.i64.wrap ((j : Int) * (wid (heldI Ls) : Int) + (i : Int)) = (j : Int) * (wid (heldI Ls) : Int) + (i : Int) := IntWalk.i64_in _ (by omega)
  clear hc hp hJ hmul hwid
  generalize wid (heldI Ls) = n0 at *
  generalize (Ls.getD 0 si0).1 = A0 at *
  generalize (Ls.getD 0 si0).2.2 = k0 at *
  go_enter Try.func67, Try.ntmps67
  go_wp2
  go_quiet (fail)
  go_wp2
  go_ret
  exact ⟨retI (by rw [hI.out]), by (repeat (first | assumption | exact Below.refl _ _ | (refine bl_alloc ?_ _) | (refine Below.drew ?_) | (refine bl_drewN ?_ _) | (refine bl_set ?_ (by first | (simp; done) | omega | (simp; omega)) _) | (refine bl_trans ?_ (by assumption)) | (refine bl_step ?_ (by assumption) (by first | omega | exact Below.size (by assumption) | (simp; omega) | (simp; exact Below.size (by assumption))))))⟩

set_option maxRecDepth 100000 in
set_option maxHeartbeats 3200000 in
theorem l04Sorted_any (g : Nat) (A : Option Addr) (Ls : List SlI) (c : Nat) (gm : Nat) (f : Nat → Bool) (S : Pt → Bool) (n d : Nat) (w : World) (hm : MzAt w g A Ls c) (hv : MzOk (heldI Ls)) (hF : FBlk w gm n f) (hn : n = (heldI Ls).length * wid (heldI Ls))
    (hS : ∀ x y : Nat, x < wid (heldI Ls) → y < (heldI Ls).length → f (idxN (heldI Ls) x y) = S ((x : Int), (y : Int))) :
    Calls Try.prog 68 #[.pointer (some ⟨g, 0, none⟩), .slice (some ⟨gm, 0, none⟩) n d] w fun e w' => (∃ v, e = .returned v ∧ OwnQ w' w.heap.size v (colsS S (heldI Ls).length (wid (heldI Ls)))) ∧ Below w.heap.size w w' := by
  have cI := fun i j w1 hm hi hj => l04Index_any g A Ls c i j w1 hm hv hi hj
  obtain ⟨M, hM⟩ : ∃ M, heldI Ls = M := ⟨_, rfl⟩
  have h12 := hv.h12
  have w12 := hv.w12
  have hwid := heldI_wid Ls
  have hlen := heldI_len Ls
  rw [hM] at hv hS h12 w12 hwid hlen hn cI ⊢
  have HM := Lib.hid hm
  have hmul : M.length * wid M ≤ 12 * 12 := Nat.mul_le_mul h12 w12
  have HS := Lib.hid hS
  have HNn := Lib.hid hn
  have hnI : (n : Int) ≤ 144 := by omega
  obtain ⟨hg, hgl, hp⟩ := hm
  obtain ⟨b, off, rfl, hbB, hc⟩ := hp (by have := hv.h1; omega)
  obtain ⟨c0, _, _, _⟩ := hc 0 (by have := hv.h1; omega)
  rw [Nat.add_zero, ← hwid] at c0
  have h0I : (0 : Int) < (Ls.length : Int) := by have := hv.h1; omega
  have h0N : 0 < Ls.length := by omega
  have HLen := Lib.hid hlen
  rw [← hlen] at hg h0I h0N
  have hv1 := hv.h1
  have ho := OwnQ.empty w w.heap.size (Nat.le_refl _)
  have hb0 : Below w.heap.size w (w.alloc (.cells #[] 33)) := by (repeat (first | assumption | exact Below.refl _ _ | (refine bl_alloc ?_ _) | (refine Below.drew ?_) | (refine bl_drewN ?_ _) | (refine bl_set ?_ (by first | (simp; done) | omega | (simp; omega)) _) | (refine bl_trans ?_ (by assumption)) | (refine bl_step ?_ (by assumption) (by first | omega | exact Below.size (by assumption) | (simp; omega) | (simp; exact Below.size (by assumption))))))
  have hC0 : Hid (colsS S M.length 0 = []) := rfl
  rw [← hC0.out] at ho
  have CI := Lib.hid cI
  clear hc hp hM hS hn hwid hlen hmul cI hv
  generalize (Ls.getD 0 si0).1 = A0 at *
  generalize (Ls.getD 0 si0).2.2 = k0 at *
  obtain ⟨W, hW⟩ : ∃ W, wid M = W := ⟨_, rfl⟩
  obtain ⟨H, hH⟩ : ∃ H, M.length = H := ⟨_, rfl⟩
  have HW := Lib.hid hW
  have HH := Lib.hid hH
  rw [hW] at c0 w12 ⊢
  rw [hH] at h12 hg h0I h0N hv1 ho ⊢
  clear hW hH
  go_enter Try.func68, Try.ntmps68
  go_wp2
  go_loopw [5, 6, 7, 8] (fun v x _ _ wr => ∃ k : Nat, k ≤ W ∧ x = .int .i64 k ∧ OwnQ wr w.heap.size v (colsS S H k) ∧ Below w.heap.size w wr) (fun _ x _ _ _ => W - (intOf x).toNat)
  case atStart => exact ⟨0, Nat.zero_le _, rfl, ho, hb0⟩
  case round =>
    clear ho hb0
    obtain ⟨x, hx, rfl, hown, hb⟩ := hrel
    have hx0 : (0 : Int) ≤ (x : Int) := by omega
    have dg := (hb.cell (p := ⟨g, 0, none⟩) hgl).trans hg
    have d0 := (hb.cell (p := ⟨b, off, none⟩) hbB).trans c0
    by_cases hxl : x < W
    · have hxI : (x : Int) < (W : Int) := by omega
      have hCs := Lib.hid (colsS_succ S H x)
      have hl0 := colsS_len S H x
      have hl1 : x * H ≤ 12 * 12 := Nat.mul_le_mul (by omega) h12
      obtain ⟨wo, hwo⟩ : ∃ wo : World, wo = wr := ⟨_, rfl⟩
      subst hwo
      go_wp2
      obtain ⟨L0, hL0⟩ : ∃ L0, colsS S H x = L0 := ⟨_, rfl⟩
      rw [hL0] at hown hCs hl0
      clear hL0
      go_loopw [5, 7, 8] (fun v y _ wr => ∃ k : Nat, k ≤ H ∧ y = .int .i64 k ∧ OwnQ wr w.heap.size v (L0 ++ colS S x k) ∧ Below w.heap.size w wr) (fun _ y _ _ => H - (intOf y).toNat)
      case atStart => exact ⟨0, Nat.zero_le _, rfl, by simpa [colS] using hown, hb⟩
      case round =>
        clear hown dg d0
        obtain ⟨y, hy, rfl, hown, hb2⟩ := hrel
        have hy0 : (0 : Int) ≤ (y : Int) := by omega
        have dg := (hb2.cell (p := ⟨g, 0, none⟩) hgl).trans hg
        by_cases hyl : y < H
        · have hyI : (y : Int) < (H : Int) := by omega
          have hix := idxN_lt (M := M) (i := x) (j := y) (by rw [HW.out]; exact hxl) (by rw [HH.out]; exact hyl)
          rw [← HNn.out] at hix
          have hSxy := HS.out x y (by rw [HW.out]; exact hxl) (by rw [HH.out]; exact hyl)
          have hzz := hb2.size
          have hFw := hF.to hb2
          have bx : Below wr.heap.size wr (wr.alloc (.cells #[.int .i64 x, .int .i64 y] 33)) := (Below.refl _ _).alloc (Nat.le_refl _) _
          have b3 := bl_step hb2 bx hb2.size
          have hm3 := HM.out.to b3
          have hF3 := hFw.to bx
          have hown3 := hown.to bx
          have hpb := PtBox.new wr (x : Int) (y : Int)
          have hgw : w.heap.size ≤ wr.heap.size := hb2.size
          have hvne : True := trivial
          have cI := CI.out x y _ hm3 (by rw [HW.out]; exact hxl) (by rw [HH.out]; exact hyl)
          have hlen3 : (L0 ++ colS S x y).length ≤ 4000000 := by
            have := colS_len S x y
            simp; omega
          clear hown hb2
          go_wp2_with fail
          refine cI.mono ?_
          rintro e w4 ⟨rfl, hb4⟩
          have hF4 := hF3.to hb4
          have hown4 := hown3.to hb4
          have hpb4 := hpb.to hb4
          have b4 := bl_step b3 hb4 b3.size
          have hfa := hF4.at_ hix
          have hp0 := hpb4.c0
          have hp1 := hpb4.c1
          simp only at hp0 hp1
          rw [hSxy] at hfa
          have hixI : ((idxN M x y : Nat) : Int) < (n : Int) := by omega
          have hix0 : (0 : Int) ≤ ((idxN M x y : Nat) : Int) := by omega
          have HC2 := Lib.hid (colS_succ S x y)
          have hgz : wr.heap.size < w4.heap.size := by have := hb4.size; simp at this; omega
          clear cI hm3 hF3 hown3 hpb b3 bx hFw hb4 hSxy dg
          generalize idxN M x y = ix at *
          cases hs : S ((x : Int), (y : Int))
          · rw [hs] at hfa
            have HE : Hid (L0 ++ colS S x (y + 1) = L0 ++ colS S x y) := by show _ = _; rw [HC2.out, hs]; simp
            clear hs
            go_wp2
            go_roundw
            case rel => exact ⟨y + 1, by omega, by go_num, by rw [HE.out]; exact hown4, b4⟩
            case measure => simp [intOf]; omega
          · rw [hs] at hfa
            have HE : Hid (L0 ++ colS S x (y + 1) = L0 ++ colS S x y ++ [((x : Int), (y : Int))]) := by show _ = _; rw [HC2.out, hs]; simp
            clear hs
            go_wp2_with (at_builtin; refine append_ptq rfl (.tmp 39) (.tmp 41) rfl _ w.heap.size _ _ x y rfl hown4 _ rfl rfl hlen3 b4.size ?_; intro v' w5 hO5 hbel hblk hown5 hz5; refine Hid.out ?_)
            have b5 := hbel _ b4
            rw [← HE.out] at hO5
            clear hown4 hbel hblk hown5 hpb4 hp0 hp1 hfa hF4
            refine Lib.hid ?_
            go_wp2
            go_roundw
            case rel => exact ⟨y + 1, by omega, by go_num, hO5, b5⟩
            case measure => simp [intOf]; omega
        · obtain rfl : y = H := by omega
          go_wp2
          go_roundw
          case rel => exact ⟨x + 1, by omega, by go_num, by rw [hCs.out]; exact hown, hb2⟩
          case measure => simp [intOf]; omega
    · obtain rfl : x = W := by omega
      go_wp2
      go_ret
      exact ⟨⟨_, rfl, hown⟩, hb⟩
end Go.Proofs.Ytepamhdopmfkfaa
