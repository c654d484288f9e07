/-
  Contract: the program's point of the middle X and the middle Y.
-/
import Derived.Test.YtepamhdopmfkfaaMed
import Derived.Test.YtepamhdopmfkfaaOwnJ
import Derived.Test.YtepamhdopmfkfaaAlong
import Derived.Test.YtepamhdopmfkfaaSortIntSh
namespace Go.Proofs.Ytepamhdopmfkfaa
set_option linter.unusedSimpArgs false
set_option linter.unusedVariables false
open Go.ChangeShapes Go.WideShapes Go.ChangeAt Go.RowKit Go.Shelf Go.Sort
open Go.Proofs.Ytepamhdopmfkfaa.fnExactBoxOf

def xsK (ps : List Pt) (k : Nat) : List Int := (ps.take k).map (·.1)
def ysK (ps : List Pt) (k : Nat) : List Int := (ps.take k).map (·.2)
theorem xsK_snoc {ps : List Pt} {k : Nat} (h : k < ps.length) : xsK ps (k + 1) = xsK ps k ++ [(ps.getD k (0, 0)).1] := by unfold xsK; rw [take_snocP ps k h]; simp
theorem ysK_snoc {ps : List Pt} {k : Nat} (h : k < ps.length) : ysK ps (k + 1) = ysK ps k ++ [(ps.getD k (0, 0)).2] := by unfold ysK; rw [take_snocP ps k h]; simp
theorem xsK_len {ps : List Pt} {k : Nat} (h : k ≤ ps.length) : (xsK ps k).length = k := by unfold xsK; rw [List.length_map, List.length_take]; omega
theorem ysK_len {ps : List Pt} {k : Nat} (h : k ≤ ps.length) : (ysK ps k).length = k := by unfold ysK; rw [List.length_map, List.length_take]; omega
theorem xsK_all (ps : List Pt) : xsK ps ps.length = ps.map (·.1) := by unfold xsK; rw [List.take_length]
theorem ysK_all (ps : List Pt) : ysK ps ps.length = ps.map (·.2) := by unfold ysK; rw [List.take_length]
theorem OwnI.cell {w : World} {B g cap n : Nat} {L : List Int} (h : OwnI w B (.slice (some ⟨g, 0, none⟩) n cap) L) {i : Nat} (hi : i < L.length) : w.cell? ⟨g, i, none⟩ = some (.int .i64 (L.getD i 0)) := by
  obtain ⟨A, c, e, hI, _⟩ := h.ints
  injection e with e1 e2 e3
  obtain ⟨b, off, e4, _, hc⟩ := hI (by omega)
  rw [← e1] at e4
  injection e4 with e4; injection e4 with e5 e6
  subst e5; subst e6
  have := hc i hi
  rwa [Nat.zero_add] at this
def srtI (l : List Int) : List Int := l.mergeSort fun x y => decide (x ≤ y)
theorem srtI_len (l : List Int) : (srtI l).length = l.length := (List.mergeSort_perm l _).length_eq
theorem medL_srt (l : List Int) : medL l = (srtI l).getD ((l.length - 1) / 2) 0 := rfl
/-- Numbers of the call's own are put in order. -/
def SortRes (B : Nat) (v : Value) (L : List Int) (w : World) (e : Ending) (w' : World) : Prop :=
  e = .returned (.tuple #[]) ∧ OwnI w' B v (srtI L) ∧ w.grownBy w' v.ownBlock
theorem sortI_any (B : Nat) (v : Value) (L : List Int) (w : World) (h : OwnI w B v L) (h0 : 0 < L.length) (hl : L.length ≤ 1000) :
    Calls Try.prog 87 #[v] w (SortRes B v L w) := by
  obtain ⟨g, cap, cur, rfl, hB, hh, hn, hcap, hs, ht⟩ := h.blk h0
  have hgl : g < w.heap.size := h.lt (by simp [Value.ownBlock])
  rw [Nat.mul_one] at ht
  have cS := AnyM.slices_Sort_int Try.sortIntsP g 0 cap L w (holds_of_blockI hh ht) hgl (by omega)
  change Calls Try.prog 87 _ _ _ at cS
  refine cS.mono ?_
  rintro e w' ⟨rfl, n, os, rfl⟩
  refine ⟨rfl, ?_, ?_⟩
  · have := ownsRow_sortedI (w := w) (n := n) (os := os) (base := B) (cap := cap) (ss := L) (ts := srtI L) (srtI_len L) hB hh hn hcap hs
    unfold OwnI
    rw [srtI_len]
    exact this
  · have := grownBy_sortedI (w := w) (g := g) (n := n) (os := os) (srtI L).toArray
    exact this

set_option maxRecDepth 100000 in
set_option maxHeartbeats 3200000 in
theorem medianOf_any (A : Option Addr) (ps : List Pt) (c : Nat) (w : World) (hp : PtsAt w w.heap.size A ps) (h0 : 0 < ps.length) (h20 : ps.length ≤ 20) :
    Calls Try.prog 50 #[.slice A ps.length c] w fun e w' => e = .returned (.agg #[.int .i64 (medL (ps.map (·.1))), .int .i64 (medL (ps.map (·.2)))]) ∧ Below w.heap.size w w' := by
  have bA : Below w.heap.size w (w.alloc (.cells #[.int .i64 0, .int .i64 0] 33)) := by (repeat (first | assumption | exact Below.refl _ _ | (refine bl_alloc ?_ _) | (refine Below.drew ?_) | (refine bl_drewN ?_ _) | (refine bl_set ?_ (by first | (simp; done) | omega | (simp; omega)) _) | (refine bl_trans ?_ (by assumption)) | (refine bl_step ?_ (by assumption) (by first | omega | exact Below.size (by assumption) | (simp; omega) | (simp; exact Below.size (by assumption))))))
  have hO : One (w.alloc (.cells #[.int .i64 0, .int .i64 0] 33)) w.heap.size 0 0 := heap_alloc_at _ _ rfl
  have hAz : (w.alloc (.cells #[.int .i64 0, .int .i64 0] 33)).heap.size = w.heap.size + 1 := by simp
  have hpA := hp.to bA
  go_enter Try.func50, Try.ntmps50
  go_wp2
  generalize w.alloc (.cells #[.int .i64 0, .int .i64 0] 33) = WA at *
  go_loopw [3, 4, 6, 10] (fun vx vy _ i wr => ∃ k : Nat, k ≤ ps.length ∧ i = .int .i64 k ∧ OwnI wr WA.heap.size vx (xsK ps k) ∧ OwnI wr WA.heap.size vy (ysK ps k) ∧ Hid (ApartV vx vy) ∧ Below WA.heap.size WA wr) (fun _ _ _ i _ => ps.length - (intOf i).toNat)
  case atStart => exact ⟨0, Nat.zero_le _, rfl, OwnI.nil _ _, OwnI.nil _ _, ApartV.nil _, Below.refl _ _⟩
  case round =>
    obtain ⟨k, hk, rfl, hox, hoy, HAp, hb⟩ := hrel
    by_cases hlt : k < ps.length
    · have hltI : (k : Int) < (ps.length : Int) := by omega
      have hk0 : (0 : Int) ≤ (k : Int) := by omega
      obtain ⟨b, off, hA, hbB, hc⟩ := hpA (by omega)
      subst hA
      obtain ⟨c0, c1⟩ := hc k hlt
      have d0 := (hb.cell (p := ⟨b, off + k * 2, none⟩) hbB).trans c0
      have d1 := (hb.cell (p := ⟨b, off + k * 2 + 1, none⟩) hbB).trans c1
      have HNx := Lib.hid (xsK_snoc hlt)
      have HNy := Lib.hid (ysK_snoc hlt)
      have hLx : (xsK ps k).length ≤ 1000000 := by rw [xsK_len hk]; omega
      have hLy : (ysK ps k).length ≤ 1000000 := by rw [ysK_len hk]; omega
      generalize (ps.getD k (0, 0)).1 = X at *
      generalize (ps.getD k (0, 0)).2 = Y at *
      have hz := hb.size
      have bx : Below wr.heap.size wr (wr.alloc (.cells #[.int .i64 X, .int .i64 Y] 33)) := by (repeat (first | assumption | exact Below.refl _ _ | (refine bl_alloc ?_ _) | (refine Below.drew ?_) | (refine bl_drewN ?_ _) | (refine bl_set ?_ (by first | (simp; done) | omega | (simp; omega)) _) | (refine bl_trans ?_ (by assumption)) | (refine bl_step ?_ (by assumption) (by first | omega | exact Below.size (by assumption) | (simp; omega) | (simp; exact Below.size (by assumption))))))
      have hox1 := hox.to bx
      have hoy1 := hoy.to bx
      have hPB : PtB (wr.alloc (.cells #[.int .i64 X, .int .i64 Y] 33)) wr.heap.size (X, Y) := PtB.new wr (X, Y)
      have b1 : Below WA.heap.size WA (wr.alloc (.cells #[.int .i64 X, .int .i64 Y] 33)) := hb.alloc hz _
      have hz1 := b1.size
      have HOff : Hid (u3.ownBlock ≠ some wr.heap.size) := fun e => by have := hox.lt e; omega
      clear hc c0 c1 hox hoy hb bx
      go_wp2_with (at_builtin; refine append_int_j rfl (.tmp 14) (.tmp 17) rfl _ WA.heap.size _ _ X rfl hox1 (wr.heap.size + 1) (by simp) rfl hLx hz1 ?_; intro v6 w6 hown6 hbel6 hkp6 hob6 hz6; refine Hid.out ?_)
      have b6 := hbel6 _ b1
      have hoy6 := hoy1.beside HAp.out hkp6
      have HAp6 : Hid (ApartV v6 u4) := HAp.out.next hoy1 hob6
      have hPB6 := hPB.keep (hkp6 _ hPB.lt HOff.out)
      obtain ⟨x0, x1, _, _⟩ := hPB6.cells
      have hz6' := b6.size
      clear hbel6 hkp6 hob6 hox1 hoy1 hPB b1 HOff HAp hPB6
      refine Lib.hid ?_
      go_wp2_with (at_builtin; refine append_int_j rfl (.tmp 19) (.tmp 22) rfl _ WA.heap.size _ _ Y rfl hoy6 _ rfl rfl hLy hz6' ?_; intro v7 w7 hown7 hbel7 hkp7 hob7 hz7; refine Hid.out ?_)
      have b7 := hbel7 _ b6
      have hox7 := hown6.beside HAp6.out.symm hkp7
      have HAp7 : Hid (ApartV v6 v7) := (HAp6.out.symm.next hown6 hob7).symm
      clear hbel7 hkp7 hob7 hown6 hoy6 b6 HAp6
      refine Lib.hid ?_
      go_wp2
      go_roundw
      case rel => exact ⟨k + 1, by omega, by go_num, by rw [HNx.out]; exact hox7, by rw [HNy.out]; exact hown7, HAp7, b7⟩
      case measure => simp [intOf]; omega
    · obtain rfl : k = ps.length := by omega
      have hz := hb.size
      have hlX := xsK_len (Nat.le_refl ps.length)
      have hlY := ysK_len (Nat.le_refl ps.length)
      rw [xsK_all] at hox hlX
      rw [ysK_all] at hoy hlY
      obtain ⟨Lx, hLX⟩ : ∃ Lx, ps.map (·.1) = Lx := ⟨_, rfl⟩
      obtain ⟨Ly, hLY⟩ : ∃ Ly, ps.map (·.2) = Ly := ⟨_, rfl⟩
      rw [hLX] at hox hlX
      rw [hLY] at hoy hlY
      have HMX : Hid (medL (ps.map (·.1)) = medL Lx) := by show _ = _; rw [hLX]
      have HMY : Hid (medL (ps.map (·.2)) = medL Ly) := by show _ = _; rw [hLY]
      clear hLX hLY
      have HmX := Lib.hid (medL_srt Lx)
      have HmY := Lib.hid (medL_srt Ly)
      rw [hlX] at HmX
      rw [hlY] at HmY
      go_wp2_with fail
      refine (sortI_any _ _ _ _ hox (by omega) (by omega)).mono ?_
      rintro e w1 ⟨rfl, hox1, hg1⟩
      have b1 : Below WA.heap.size WA w1 := Below.grown hb hg1 hz (fun i e => (World.ownsRow.lt hox i e).1)
      have hoy1 : OwnI w1 WA.heap.size u4 Ly := hoy.keep fun i e => hg1.block i (hoy.lt e) (fun k => HAp.out i k.symm e)
      clear hox hoy hg1 hb hz
      have hz := b1.size
      go_wp2_with fail
      refine (sortI_any _ _ _ _ hoy1 (by omega) (by omega)).mono ?_
      rintro e w2 ⟨rfl, hoy2, hg2⟩
      have b2 : Below WA.heap.size WA w2 := Below.grown b1 hg2 hz (fun i e => (World.ownsRow.lt hoy1 i e).1)
      have hox2 : OwnI w2 WA.heap.size u3 (srtI Lx) := hox1.keep fun i e => hg2.block i (hox1.lt e) (fun k => HAp.out i e k.symm)
      clear hox1 hoy1 hg2 b1 hz
      obtain ⟨n, hn⟩ : ∃ n, ps.length = n + 1 := ⟨ps.length - 1, by omega⟩
      have hs1 : IntKind.i64.wrap ((ps.length : Int) - 1) = (n : Int) := by rw [IntWalk.i64_in _ (by omega)]; omega
      have hq : IntKind.i64.wrap ((n : Int).tdiv 2) = ((n / 2 : Nat) : Int) := by
        rw [show ((n : Int).tdiv 2) = ((n / 2 : Nat) : Int) from rfl]
        exact IntWalk.i64_in _ (by omega)
      have hkx : n / 2 < (srtI Lx).length := by rw [srtI_len]; omega
      have hky : n / 2 < (srtI Ly).length := by rw [srtI_len]; omega
      obtain ⟨g1, cap1, cur1, hv1, _⟩ := hox2.blk (by omega)
      obtain ⟨g2, cap2, cur2, hv2, _⟩ := hoy2.blk (by omega)
      have hlx2 := srtI_len Lx
      have hly2 := srtI_len Ly
      rw [hlX] at hlx2
      rw [hlY] at hly2
      rw [hlx2] at hv1
      rw [hly2] at hv2
      subst hv1
      subst hv2
      have e1 := hox2.cell hkx
      have e2 := hoy2.cell hky
      rw [show (ps.length - 1) / 2 = n / 2 by omega] at HmX HmY
      rw [← HmX.out] at e1
      rw [← HmY.out] at e2
      have hk2 : (0 : Int) ≤ (n : Int) / 2 := by omega
      have hk3 : (n : Int) / 2 < (n : Int) + 1 := by omega
      have hkI : ((n / 2 : Nat) : Int) < (ps.length : Int) := by omega
      have hO2 := hO.keep (b2.block w.heap.size (by omega))
      obtain ⟨o0, o1, f0, f1⟩ := hO2.cells
      have bw : Below w.heap.size w w2 := bl_step bA b2 (by omega)
      generalize medL Lx = mx at *
      generalize medL Ly = my at *
      clear hox2 hoy2 hkx hky hlx2 hly2 HmX HmY HAp
      have hg1 : g1 ≠ w.heap.size := by rintro rfl; omega
      have hg2 : g2 ≠ w.heap.size := by rintro rfl; omega
      go_wp2
      go_region
      all_goals
        go_wp2
        generalize hw : World.drew _ = wz
        have z0 : One wz w.heap.size mx my := by rw [← hw]; exact ((hO2.set0 _).set1 _).drew
        have zb : Below w.heap.size w wz := by rw [← hw]; exact ((bw.setCell (by simp) _).setCell (by simp) _).drew
        obtain ⟨v0, v1, _, _⟩ := z0.cells
        exact bodyPost_ret (v := .agg #[.int .i64 mx, .int .i64 my]) (by simp [results, Try.results50, go_sem, v0, v1]) rfl ⟨by rw [HMX.out, HMY.out], zb⟩
end Go.Proofs.Ytepamhdopmfkfaa
