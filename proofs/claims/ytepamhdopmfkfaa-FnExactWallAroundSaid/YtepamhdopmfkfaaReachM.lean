/-
  Contracts: the model's search.
-/
import Derived.Test.YtepamhdopmfkfaaReachS
namespace Go.Proofs.Ytepamhdopmfkfaa
set_option linter.unusedSimpArgs false
set_option linter.unusedVariables false
open Go.ChangeShapes Go.WideShapes Go.ChangeAt Go.RowKit

theorem Reach.lo {M : Mz} {p q : Pt} (h12 : M.length ≤ 12) (w12 : wid M ≤ 12) (hp : (0 ≤ p.1 ∧ p.1 ≤ 11) ∧ (0 ≤ p.2 ∧ p.2 ≤ 11)) (h : Reach M p q) : (0 ≤ q.1 ∧ q.1 ≤ 11) ∧ (0 ≤ q.2 ∧ q.2 ≤ 11) := by
  cases h with
  | refl => exact hp
  | step _ _ ho =>
    obtain ⟨x, y, e, hx, hy⟩ := nb_in ho
    rw [e]
    simp only []
    omega
theorem getD_in {L : List Pt} {k : Nat} (h : k < L.length) : L.getD k (0, 0) ∈ L := by
  rw [List.getD_eq_getElem?_getD, List.getElem?_eq_getElem h]
  exact List.getElem_mem h
theorem FBlk.alloc {w : World} {g n : Nat} {f : Nat → Bool} (h : FBlk w g n f) (o : Obj) : FBlk (w.alloc o) g n f := h.to ((Below.refl _ _).alloc (Nat.le_refl _) _)

set_option maxRecDepth 100000 in
set_option maxHeartbeats 400000 in
theorem l01Index_no (A : Option Addr) (c : Nat) (x y : Int) (w : World) :
    Calls Try.prog 77 #[.slice A 0 c, .agg #[.int .i64 x, .int .i64 y]] w fun e w' => e = .returned (.int .i64 (-1)) ∧ Below w.heap.size w w' := by
  go_enter Try.func77, Try.ntmps77
  go_wp2
  go_loopw [5] (fun i wr => i = .int .i64 0 ∧ Below w.heap.size w wr) (fun _ _ => 0)
  case atStart => exact ⟨rfl, by (repeat (first | assumption | exact Below.refl _ _ | (refine bl_alloc ?_ _) | (refine Below.drew ?_) | (refine bl_drewN ?_ _) | (refine bl_set ?_ (by first | (simp; done) | omega | (simp; omega)) _) | (refine bl_trans ?_ (by assumption)) | (refine bl_step ?_ (by assumption) (by first | omega | exact Below.size (by assumption) | (simp; omega) | (simp; exact Below.size (by assumption))))))⟩
  case round =>
    obtain ⟨rfl, hb⟩ := hrel
    go_wp2
    go_ret
    exact ⟨rfl, hb⟩

/-- What the model's search comes to. -/
def ReachRes (M : Mz) (p : Pt) (w : World) (e : Ending) (w' : World) : Prop :=
  (∃ gm f, e = .returned (.slice (some ⟨gm, 0, none⟩) (M.length * wid M) (M.length * wid M)) ∧ w.heap.size ≤ gm ∧ FBlk w' gm (M.length * wid M) f ∧ ∀ x y : Nat, x < wid M → y < M.length → f (idxN M x y) = reachB M p ((x : Int), (y : Int))) ∧ Below w.heap.size w w'
set_option maxRecDepth 100000 in
set_option maxHeartbeats 6400000 in
theorem l04Reached_any (g : Nat) (A : Option Addr) (Ls : List SlI) (c : Nat) (i j : Nat) (B : Option Addr) (d : Nat) (w : World) (hm : MzAt w g A Ls c) (hv : MzOk (heldI Ls)) (hi : i < wid (heldI Ls)) (hj : j < (heldI Ls).length) :
    Calls Try.prog 64 #[.pointer (some ⟨g, 0, none⟩), .agg #[.int .i64 i, .int .i64 j], .slice B 0 d] w (ReachRes (heldI Ls) ((i : Int), (j : Int)) w) := by
  have cI := fun i j w1 hm hi hj => l04Index_any g A Ls c i j w1 hm hv hi hj
  have cO := fun x y w1 hm => l04Open_any g A Ls c x y w1 hm hv
  obtain ⟨M, hM⟩ : ∃ M, heldI Ls = M := ⟨_, rfl⟩
  have h12 := hv.h12
  have w12 := hv.w12
  have hwid := heldI_wid Ls
  have hlen := heldI_len Ls
  rw [hM] at hv h12 w12 hwid hlen cI cO hi hj ⊢
  have HM := Lib.hid hm
  have hmul : M.length * wid M ≤ 12 * 12 := Nat.mul_le_mul h12 w12
  have hix := idxN_lt hi hj
  have hR0 := RInv.start hi hj
  obtain ⟨hg, hgl, hp⟩ := hm
  obtain ⟨b, off, rfl, hbB, hc⟩ := hp (by have := hv.h1; omega)
  obtain ⟨c0, _, _, _⟩ := hc 0 (by have := hv.h1; omega)
  rw [Nat.add_zero, ← hwid] at c0
  have h0I : (0 : Int) < (Ls.length : Int) := by have := hv.h1; omega
  have h0N : 0 < Ls.length := by omega
  rw [← hlen] at hg h0I h0N
  have HLo := Lib.hid (fun q (h : Reach M ((i : Int), (j : Int)) q) => Reach.lo h12 w12 ⟨⟨by omega, by omega⟩, ⟨by omega, by omega⟩⟩ h)
  have CI := Lib.hid cI
  have CO := Lib.hid cO
  have HI := Lib.hid hi
  have HJ := Lib.hid hj
  obtain ⟨n, hn⟩ : ∃ n, M.length * wid M = n := ⟨_, rfl⟩
  have HNn := Lib.hid hn
  unfold ReachRes
  rw [hn] at hmul hix ⊢
  have e1 : IntKind.i64.wrap ((M.length : Int) * (wid M : Int)) = (n : Int) := by rw [show (M.length : Int) * (wid M : Int) = (n : Int) by rw [← hn]; simp]; exact IntWalk.i64_in _ (by omega)
  have hmk := run_mkbools n (by omega)
  have HR0 := Lib.hid hR0
  have hix0 : (0 : Int) ≤ ((idxN M i j : Nat) : Int) := by omega
  have hixI : ((idxN M i j : Nat) : Int) < (n : Int) := by omega
  clear hc hp hM hwid hlen cI cO hv hn hR0
  generalize (Ls.getD 0 si0).1 = A0 at *
  generalize (Ls.getD 0 si0).2.2 = k0 at *
  have hF0 := FBlk.new (w.alloc (.cells #[.int .i64 i, .int .i64 j] 33)) n
  have hO0 := OwnQ.one ((w.alloc (.cells #[.int .i64 i, .int .i64 j] 33)).alloc (.cells (blankF n) 4)) w.heap.size i j (by simp; omega)
  have hF1 := hF0.alloc (.cells #[.int .i64 i, .int .i64 j] 33)
  have hgw : g ≠ w.heap.size := by omega
  clear hF0
  go_enter Try.func64, Try.ntmps64
  go_wp2_with fail
  refine (CI.out i j _ (HM.out.to (by (repeat (first | assumption | exact Below.refl _ _ | (refine bl_alloc ?_ _) | (refine Below.drew ?_) | (refine bl_drewN ?_ _) | (refine bl_set ?_ (by first | (simp; done) | omega | (simp; omega)) _) | (refine bl_trans ?_ (by assumption)) | (refine bl_step ?_ (by assumption) (by first | omega | exact Below.size (by assumption) | (simp; omega) | (simp; exact Below.size (by assumption)))))))) HI.out HJ.out).mono ?_
  rintro e w3 ⟨rfl, hb3⟩
  have b3 : Below w.heap.size w w3 := by (repeat (first | assumption | exact Below.refl _ _ | (refine bl_alloc ?_ _) | (refine Below.drew ?_) | (refine bl_drewN ?_ _) | (refine bl_set ?_ (by first | (simp; done) | omega | (simp; omega)) _) | (refine bl_trans ?_ (by assumption)) | (refine bl_step ?_ (by assumption) (by first | omega | exact Below.size (by assumption) | (simp; omega) | (simp; exact Below.size (by assumption))))))
  have hF3 := hF1.to hb3
  have hO3 := hO0.to hb3
  simp at hF3 hO3
  have hz3 := hb3.size
  simp at hz3
  have f3 := hF3.frozen (idxN M i j)
  have t3 := hF3.at_ hix
  have hF4 := hF3.set_ hix
  have hO4 := hO3.far (G := w.heap.size + 1) (by simp [Value.ownBlock]) (idxN M i j) (.bool true)
  have b4 := b3.setCell (p := ⟨w.heap.size + 1, idxN M i j, none⟩) (by simp <;> omega) (.bool true)
  clear hF1 hO0 hF3 hO3 hmk
  have HF4 := Lib.hid hF4
  clear hF4 hb3
  go_wp2
  go_loopw [9, 10, 11, 12] (fun v x _ _ wr => ∃ (L : List Pt) (f : Nat → Bool) (k : Nat), k ≤ L.length ∧ x = .int .i64 k ∧ OwnQ wr w.heap.size v L ∧ v.ownBlock ≠ some (w.heap.size + 1) ∧ FBlk wr (w.heap.size + 1) n f ∧ Hid (RInv M ((i : Int), (j : Int)) L f k 0) ∧ Below w.heap.size w wr) (fun _ x _ _ _ => 200 - (intOf x).toNat)
  case atStart => exact ⟨_, _, 0, Nat.zero_le _, rfl, hO4, by simp [Value.ownBlock], HF4.out, HR0, b4⟩
  case round =>
    clear hO4 b4 HF4 f3 t3 b3 hz3
    obtain ⟨L, f, k, hk, rfl, hown, hne, hF, HR, hb⟩ := hrel
    have hLn := HR.out.len
    rw [HNn.out] at hLn
    obtain ⟨A1, c1, rfl, hpt, _⟩ := hown.pts
    have hk0 : (0 : Int) ≤ (k : Int) := by omega
    by_cases hkl : k < L.length
    · have hkI : (k : Int) < (L.length : Int) := by omega
      go_wp2
      clear hpt
      go_loopw [9, 11, 12] (fun v y _ wr => ∃ (L : List Pt) (f : Nat → Bool) (m : Nat), m ≤ 4 ∧ k < L.length ∧ y = .int .i64 m ∧ OwnQ wr w.heap.size v L ∧ v.ownBlock ≠ some (w.heap.size + 1) ∧ FBlk wr (w.heap.size + 1) n f ∧ Hid (RInv M ((i : Int), (j : Int)) L f k m) ∧ Below w.heap.size w wr) (fun _ y _ _ => 4 - (intOf y).toNat)
      case atStart => exact ⟨L, f, 0, by omega, hkl, rfl, hown, hne, hF, HR, hb⟩
      case round =>
        clear hown hne hF HR hb hLn hk hkI hkl
        obtain ⟨L, f, m, hm4, hkl, rfl, hown, hne, hF, HR, hb⟩ := hrel
        have hLn := HR.out.len
        rw [HNn.out] at hLn
        by_cases hm : m < 4
        · obtain ⟨A1, c1, rfl, hpt, _⟩ := hown.pts
          obtain ⟨b2, o2, rfl, hb2, hc2⟩ := hpt (by omega)
          obtain ⟨q0, q1⟩ := hc2 k hkl
          have hlo := HLo.out _ (HR.out.reach _ (getD_in hkl))
          have HAdd := Lib.hid (fun x y hr => RInv.add (x := x) (y := y) HR.out hkl hm hr)
          have HSkip := Lib.hid (HR.out.skip)
          have hst := @stepW_lo (L.getD k (0, 0)).1 (L.getD k (0, 0)).2 m hlo.1 hlo.2
          have HNb : Hid (nb (L.getD k (0, 0)) m = stepW (L.getD k (0, 0)).1 (L.getD k (0, 0)).2 m) := rfl
          have HMem := Lib.hid HR.out.mem
          have hkI : (k : Int) < (L.length : Int) := by omega
          have hmI : (m : Int) < 4 := by omega
          have hm0 : (0 : Int) ≤ (m : Int) := by omega
          have hz := hb.size
          have hlen9 : L.length ≤ 4000000 := by omega
          clear hpt hc2 HR hLn
          obtain ⟨q, hq⟩ : ∃ q, L.getD k (0, 0) = q := ⟨_, rfl⟩
          rw [hq] at q0 q1 hlo hst HNb HAdd HSkip
          clear hq
          obtain ⟨r, hr⟩ : ∃ r, stepW q.1 q.2 m = r := ⟨_, rfl⟩
          have cS := l04Step_any q.1 q.2 m wr ⟨by omega, by omega⟩ ⟨by omega, by omega⟩ ⟨by omega, by omega⟩
          rw [hr] at cS hst HNb
          clear hr
          obtain ⟨X, Y⟩ := r
          simp only [] at cS hst
          go_wp2_with fail
          refine cS.mono ?_
          rintro e w2 ⟨rfl, hbs⟩
          have hown2 := hown.to hbs
          have hF2 := hF.to hbs
          have b2' := bl_step hb hbs hb.size
          have bA : Below w2.heap.size w2 (w2.alloc (.cells #[.int .i64 X, .int .i64 Y] 33)) := by (repeat (first | assumption | exact Below.refl _ _ | (refine bl_alloc ?_ _) | (refine Below.drew ?_) | (refine bl_drewN ?_ _) | (refine bl_set ?_ (by first | (simp; done) | omega | (simp; omega)) _) | (refine bl_trans ?_ (by assumption)) | (refine bl_step ?_ (by assumption) (by first | omega | exact Below.size (by assumption) | (simp; omega) | (simp; exact Below.size (by assumption))))))
          have hP2 := PtBox.new w2 X Y
          have b3 := bl_step b2' bA b2'.size
          have hown3 := hown2.to bA
          have hF3 := hF2.to bA
          have hm3 := HM.out.to b3
          have hz2 := b2'.size
          have hGm := hF2.lt
          clear cS hown hF hbs hown2 hF2 bA q0 q1 hlo
          go_wp2_with fail
          obtain ⟨w4, hw4⟩ : ∃ w4, w2.alloc (.cells #[.int .i64 X, .int .i64 Y] 33) = w4 := ⟨_, rfl⟩
          rw [hw4] at hP2 b3 hown3 hF3 hm3 ⊢
          have hz4 := hP2.lt
          clear hw4 b2'
          refine (CO.out X Y w4 hm3).mono ?_
          rintro e w5 ⟨rfl, hb5⟩
          have b5 := bl_step b3 hb5 b3.size
          have hP5 := hP2.to hb5
          have hown5 := hown3.to hb5
          have hF5 := hF3.to hb5
          have hm5 := HM.out.to b5
          have hz5 := hP5.lt
          generalize w2.heap.size = G at *
          clear hP2 hown3 hF3 hm3 hb5 b3
          have p0 := hP5.c0
          have p1 := hP5.c1
          simp only at p0 p1
          cases ho : openB M X Y
          · have HS := Lib.hid (HSkip.out (fun h => by rw [HNb.out] at h; rw [show openB M (X, Y).1 (X, Y).2 = false from ho] at h; cases h))
            clear HAdd HSkip HMem ho
            go_wp2
            go_roundw
            case rel => exact ⟨L, f, m + 1, by omega, hkl, by go_num, hown5, hne, hF5, HS, b5⟩
            case measure => simp [intOf]; omega
          · obtain ⟨x, y, hxy, hx, hy⟩ := nb_in (M := M) (q := q) (k := m) (by rw [HNb.out]; exact ho)
            have hxy' := HNb.out.symm.trans hxy
            simp only [Prod.mk.injEq] at hxy'
            obtain ⟨rfl, rfl⟩ := hxy'
            have hkx := idxN_lt hx hy
            rw [HNn.out] at hkx
            have HO := Lib.hid ho
            have cI5 := CI.out x y w5 hm5 hx hy
            have HX := Lib.hid hx
            have HY := Lib.hid hy
            have HXY := Lib.hid hxy
            clear ho hxy hx hy
            go_wp2_with fail
            refine cI5.mono ?_
            rintro e w6 ⟨rfl, hb6⟩
            have b6 := bl_step b5 hb6 b5.size
            have hP6 := hP5.to hb6
            have hown6 := hown5.to hb6
            have hF6 := hF5.to hb6
            have hz6 := hP6.lt
            have p0 := hP6.c0
            have p1 := hP6.c1
            simp only at p0 p1
            have hat := hF6.at_ hkx
            have hk0 : (0 : Int) ≤ ((idxN M x y : Nat) : Int) := by omega
            have hkxI : ((idxN M x y : Nat) : Int) < (n : Int) := by omega
            clear cI5 hm5 hb6 hP5 hown5 hF5
            cases hf : f (idxN M x y)
            · rw [hf] at hat
              have HRn := Lib.hid (HAdd.out x y HXY.out HX.out HY.out HO.out hf)
              clear HAdd HSkip HMem hf
              go_wp2_with fail
              refine (l01Index_no B d x y w6).mono ?_
              rintro e w7 ⟨rfl, hb7⟩
              have b7 := bl_step b6 hb7 b6.size
              have hP7 := hP6.to hb7
              have hown7 := hown6.to hb7
              have hF7 := hF6.to hb7
              have hz7 := hP7.lt
              have p0 := hP7.c0
              have p1 := hP7.c1
              simp only at p0 p1
              have hm7 := HM.out.to b7
              clear hat hP6 hown6 hF6 hb7
              go_wp2_with fail
              refine (CI.out x y w7 hm7 HX.out HY.out).mono ?_
              rintro e w8 ⟨rfl, hb8⟩
              have b8 := bl_step b7 hb8 b7.size
              have hP8 := hP7.to hb8
              have hown8 := hown7.to hb8
              have hF8 := hF7.to hb8
              have hz8 := hP8.lt
              clear hm7 hP7 hown7 hF7 hb8
              have f8 := hF8.frozen (idxN M x y)
              have t8 := hF8.at_ hkx
              have hF9 := hF8.set_ hkx
              have hown9 := hown8.far hne (idxN M x y) (.bool true)
              have b9 := b8.setCell (p := ⟨w.heap.size + 1, idxN M x y, none⟩) (by simp <;> omega) (.bool true)
              have hne10 : ∀ v' : Value, (v'.ownBlock = (Value.slice (some ⟨b2, o2, none⟩) L.length c1).ownBlock ∨ ∃ g', v'.ownBlock = some g' ∧ (w8.setCell ⟨w.heap.size + 1, idxN M x y, none⟩ (.bool true)).heap.size ≤ g') → v'.ownBlock ≠ some (w.heap.size + 1) := by
                intro v' h
                rcases h with h | ⟨g', h, hg'⟩
                · rw [h]; exact hne
                · rw [h]; intro e; cases e; have := hF9.lt; omega
              have hP9 := hP8.keep (Below.heap_setCell w8 ⟨w.heap.size + 1, idxN M x y, none⟩ (.bool true) G (by simp <;> omega))
              have p0 := hP9.c0
              have p1 := hP9.c1
              simp only at p0 p1
              clear hown8 hF8
              have HF9 := Lib.hid hF9
              clear hF9
              go_wp2_with (at_builtin; refine append_ptq rfl (.tmp 74) (.tmp 76) rfl _ w.heap.size _ _ x y rfl hown9 _ (by simp) rfl hlen9 b9.size ?_; intro v' w10 hO10 hbel hblk hown10 hz10; refine Hid.out ?_)
              have b10 := hbel _ b9
              have hF10 := HF9.out.keep (hblk _ HF9.out.lt hne)
              have hneZ := hne10 _ hown10
              clear hown9 hbel hblk hown10 hne10 HF9 b9 b8 f8 t8
              refine Lib.hid ?_
              go_wp2
              go_roundw
              case rel => exact ⟨_, _, m + 1, by omega, by simp; omega, by go_num, hO10, hneZ, hF10, HRn, b10⟩
              case measure => simp [intOf]; omega
            · have HS := Lib.hid (HSkip.out (fun _ => by rw [HXY.out]; exact (HMem.out x y HX.out HY.out).1 hf))
              rw [hf] at hat
              clear HAdd HSkip HMem hf
              go_wp2
              go_roundw
              case rel => exact ⟨L, f, m + 1, by omega, hkl, by go_num, hown6, hne, hF6, HS, b6⟩
              case measure => simp [intOf]; omega
        · obtain rfl : m = 4 := by omega
          go_wp2
          go_roundw
          case rel => exact ⟨L, f, k + 1, by omega, by go_num, hown, hne, hF, Lib.hid HR.out.next, hb⟩
          case measure => simp [intOf]; omega
    · obtain rfl : k = L.length := by omega
      go_wp2
      go_ret
      exact ⟨⟨w.heap.size + 1, f, rfl, by omega, hF, fun x y hx hy => HR.out.end_ x y hx hy⟩, hb⟩
end Go.Proofs.Ytepamhdopmfkfaa
