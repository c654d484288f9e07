/-
  Contracts: PiecesOf, as the model and the program have it.
-/
import Derived.Test.YtpcilpcinbamcaaDoorChanE
import Derived.Test.YtpcilpcinbamcaaDoorPcI
import Derived.Test.YtpcilpcinbamcaaDoorPcS
namespace Go.Proofs.YtpcilpcinbamcaaDoor
set_option linter.unusedSimpArgs false
set_option linter.unusedVariables false
open Go.ChangeShapes Go.WideShapes Go.ChangeAt Go.RowKit

/-- An answer: lists in memory of its own, and whether it succeeds. -/
def PcAns (P : List (List Int)) (ok : Bool) (w : World) (e : Ending) (w' : World) : Prop :=
  ∃ A Ms c, e = .returned (.tuple #[.slice A Ms.length c, .bool ok]) ∧ heldI Ms = P ∧ LLOwn w' w.heap.size (.slice A Ms.length c) Ms ∧ Below w.heap.size w w'
theorem pcsTo_three (p : Nat → Bool) (x : Int) : ∀ k, ∀ r ∈ pcsTo p x k, r = [r.getD 0 0, r.getD 1 0, r.getD 2 0]
  | 0 => fun r h => by simp [pcsTo] at h
  | k + 1 => fun r h => by
    by_cases hp : p k = true ∧ 0 ≤ hiTo p k
    · rw [pcsTo_t hp.1 hp.2, List.mem_append] at h
      rcases h with h | h
      · exact pcsTo_three p x k r h
      · rw [List.mem_singleton] at h
        subst h; rfl
    · rw [pcsTo_f hp] at h
      exact pcsTo_three p x k r h
theorem pcsAll_three (T B : List Int) (n i : Nat) (r : List Int) (h : r ∈ pcsAll T B n i) : r = [r.getD 0 0, r.getD 1 0, r.getD 2 0] := by
  unfold pcsAll at h
  rw [List.mem_flatMap] at h
  obtain ⟨x, _, h⟩ := h
  exact pcsTo_three _ _ _ r h
theorem pcsAll_le (T B : List Int) (n : Nat) (hn : n ≤ 24) : (pcsAll T B n (netsL T B n).length).length ≤ 312 := by
  have h1 := pcsAll_len T B n (netsL T B n).length
  have h3 := netsL_len T B n
  have h2 : (netsL T B n).length * n ≤ 13 * 24 := Nat.mul_le_mul h3 hn
  omega
set_option maxHeartbeats 800000 in
theorem PiecesOfS_any (A A' : Option Addr) (T B : List Int) (c c' : Nat) (w : World) (hp : IntsAt w w.heap.size A T) (hq : IntsAt w w.heap.size A' B) :
    Calls Tryd.prog 5 #[.agg #[.slice A T.length c, .slice A' B.length c']] w (PcAns (piecesA T B) (chanB T B) w) := by
  have hb0 : Below w.heap.size w (w.alloc (.cells #[.slice A T.length c, .slice A' B.length c'] 29)) := by (repeat (first | assumption | exact Below.refl _ _ | (refine bl_alloc ?_ _) | (refine Below.drew ?_) | (refine bl_drewN ?_ _) | (refine bl_set ?_ (by first | (simp; done) | omega | (simp; omega)) _) | (refine bl_trans ?_ (by assumption)) | (refine bl_step ?_ (by assumption) (by first | omega | exact Below.size (by assumption) | (simp; omega) | (simp; exact Below.size (by assumption))))))
  have hca := ChAt.new w A A' T.length B.length c c' 29
  have hc := l03Is_any w.heap.size A A' T B c c' _ hca (hp.to hb0) (hq.to hb0)
  cases hv : chanB T B
  · rw [piecesA_f hv]
    rw [hv] at hc
    clear hv
    go_enter Tryd.func5, Tryd.ntmps5
    go_wp2_with (go_at_call 14; refine hc.mono ?_; rintro e w1 ⟨rfl, hb1⟩)
    go_ret2
    exact ⟨none, [], 0, rfl, rfl, LLOwn.nil _ _, by (repeat (first | assumption | exact Below.refl _ _ | (refine bl_alloc ?_ _) | (refine Below.drew ?_) | (refine bl_drewN ?_ _) | (refine bl_set ?_ (by first | (simp; done) | omega | (simp; omega)) _) | (refine bl_trans ?_ (by assumption)) | (refine bl_step ?_ (by assumption) (by first | omega | exact Below.size (by assumption) | (simp; omega) | (simp; exact Below.size (by assumption))))))⟩
  · rw [piecesA_t hv]
    obtain ⟨h1, h24, hBT⟩ := chanB_form hv
    have HBT := Lib.hid hBT
    rw [hv] at hc
    clear hv hBT
    go_enter Tryd.func5, Tryd.ntmps5
    go_wp2_with fail
    refine hc.mono ?_
    rintro e w1 ⟨rfl, hb1⟩
    have b1 := bl_step hb0 hb1 hb0.size
    have hca1 := hca.to hb1
    rw [HBT.out] at hca1
    go_wp2_with fail
    refine (l03Pieces_any w.heap.size A A' T B T.length c c' _ hca1 (hp.to b1) (hq.to b1) rfl HBT h24).mono ?_
    rintro e w2 ⟨⟨v, Ms, rfl, hLL, hH⟩, hb2⟩
    obtain ⟨A2, c2, rfl, _⟩ := hLL.isat
    have b2 := bl_step b1 hb2 b1.size
    go_wp2
    go_ret2
    exact ⟨A2, Ms, c2, rfl, hH, LLOwn.low (W' := w2) hLL b1.size, b2⟩

set_option maxRecDepth 100000 in
set_option maxHeartbeats 1600000 in
theorem PiecesOfI_any (A A' : Option Addr) (T B : List Int) (c c' : Nat) (w : World) (hp : IntsAt w w.heap.size A T) (hq : IntsAt w w.heap.size A' B) (hL : BruAt w) :
    Calls Tryd.prog 7 #[.agg #[.slice A T.length c, .slice A' B.length c']] w (PcAns (piecesA T B) (chanB T B) w) := by
  have hb0 : Below w.heap.size w (w.alloc (.cells #[.slice A T.length c, .slice A' B.length c'] 29)) := by (repeat (first | assumption | exact Below.refl _ _ | (refine bl_alloc ?_ _) | (refine Below.drew ?_) | (refine bl_drewN ?_ _) | (refine bl_set ?_ (by first | (simp; done) | omega | (simp; omega)) _) | (refine bl_trans ?_ (by assumption)) | (refine bl_step ?_ (by assumption) (by first | omega | exact Below.size (by assumption) | (simp; omega) | (simp; exact Below.size (by assumption))))))
  have hc := columnsOf_any A A' T B c c' (w.alloc (.cells #[.slice A T.length c, .slice A' B.length c'] 29)) (hp.to hb0) (hq.to hb0)
  go_enter Tryd.func7, Tryd.ntmps7
  go_wp2_with fail
  refine hc.mono ?_
  rintro e w1 ⟨hb1, ⟨hv, g, rfl, hG, hg⟩ | ⟨hv, v, rfl⟩⟩
  · have R := Lib.hid (piecesA_t hv)
    have HV := Lib.hid hv
    obtain ⟨h1, h24, hBT⟩ := chanB_form hv
    have b1 := bl_step hb0 hb1 hb0.size
    clear hv hBT
    go_wp2_with fail
    refine (piecesI_any g T B T.length _ hG h24 (hL.to b1)).mono ?_
    rintro e w2 ⟨⟨v, rfl, ho⟩, hb2⟩
    have b2 := bl_step b1 hb2 b1.size
    obtain ⟨Ap, cp, rfl, hcell⟩ := ho.cells
    have h312 := pcsAll_le T B T.length h24
    have H3 := Lib.hid (fun r h => pcsAll_three T B T.length (netsL T B T.length).length r h)
    obtain ⟨L, hLe⟩ : ∃ L, pcsAll T B T.length (netsL T B T.length).length = L := ⟨_, rfl⟩
    rw [hLe] at hcell h312 H3 R ⊢
    have h312I : (L.length : Int) ≤ 312 := by omega
    have HC := Lib.hid hcell
    clear ho hLe hc hb0 hb1 hb2 b1 hG hcell
    go_wp2
    go_loopw [6, 8, 19] (fun vl _ i wr => ∃ (j : Nat) (Ms : List SlI), j ≤ L.length ∧ i = .int .i64 j ∧ LLOwn wr w2.heap.size vl Ms ∧ Hid (heldI Ms = L.take j) ∧ Below w2.heap.size w2 wr) (fun _ _ i _ => L.length - (intOf i).toNat)
    case atStart => exact ⟨0, [], Nat.zero_le _, rfl, LLOwn.nil _ _, rfl, Below.refl _ _⟩
    case round =>
      obtain ⟨j, Ms, hj, rfl, hLL, HH, hb⟩ := hrel
      by_cases hlt : j < L.length
      case neg =>
        obtain rfl : j = L.length := by omega
        obtain ⟨A2, c2, rfl, _⟩ := hLL.isat
        go_wp2
        go_ret2
        refine ⟨A2, Ms, c2, ?_, ?_, LLOwn.low (W' := wr) hLL b2.size, bl_step b2 hb b2.size⟩
        · rw [HV.out]; rfl
        · rw [R.out, HH.out, List.take_length]
      have hjI : (j : Int) < (L.length : Int) := by omega
      have hj0 : (0 : Int) ≤ (j : Int) := by omega
      obtain ⟨gp, rfl, hgp, hcs⟩ := HC.out (by omega)
      obtain ⟨p0, p1, p2⟩ := hcs j hlt
      have d0 := (hb.cell (p := ⟨gp, j * 3, none⟩) hgp).trans p0
      have d1 := (hb.cell (p := ⟨gp, j * 3 + 1, none⟩) hgp).trans p1
      have d2 := (hb.cell (p := ⟨gp, j * 3 + 2, none⟩) hgp).trans p2
      have hr : L[j]? = some (L.getD j []) := by rw [List.getD_eq_getElem?_getD, List.getElem?_eq_getElem hlt]; rfl
      have h3 := H3.out (L.getD j []) (List.mem_of_getElem? hr)
      have HT : Hid (L.take (j + 1) = L.take j ++ [[(L.getD j []).getD 0 0, (L.getD j []).getD 1 0, (L.getD j []).getD 2 0]]) := by show _ = _; rw [← h3, List.take_add_one, hr]; rfl
      have hML : Ms.length ≤ 1000000 := by
        have e := congrArg List.length HH.out
        rw [heldI_len, List.length_take] at e
        omega
      clear p0 p1 p2 hcs hr h3
      generalize (L.getD j []).getD 0 0 = x at *
      generalize (L.getD j []).getD 1 0 = y at *
      generalize (L.getD j []).getD 2 0 = z at *
      have HN : Hid (heldI (Ms ++ [(some ⟨wr.heap.size + 1, 0, none⟩, [x, y, z], 3)]) = L.take (j + 1)) := by
        have e := HH.out
        unfold heldI at e
        show _ = _
        unfold heldI
        rw [List.map_append, e, HT.out]; rfl
      have hzW : (wr.alloc (.cells #[.int .i64 x, .int .i64 y, .int .i64 z] 50)).heap.size = wr.heap.size + 1 := World.size_alloc _ _
      have bW : Below wr.heap.size wr (wr.alloc (.cells #[.int .i64 x, .int .i64 y, .int .i64 z] 50)) := (Below.refl _ _).alloc (Nat.le_refl _) _
      have hLW := hLL.to bW
      have bX : Below (wr.alloc (.cells #[.int .i64 x, .int .i64 y, .int .i64 z] 50)).heap.size (wr.alloc (.cells #[.int .i64 x, .int .i64 y, .int .i64 z] 50)) ((wr.alloc (.cells #[.int .i64 x, .int .i64 y, .int .i64 z] 50)).alloc (.cells #[.int .i64 x, .int .i64 y, .int .i64 z] 2)) := (Below.refl _ _).alloc (Nat.le_refl _) _
      have hLX := (hLW.to bX).ow
      have bwX := bl_trans (bl_trans hb bW) bX
      have hNW := (bl_trans hb bW).size
      have hNX := bwX.size
      clear hLL HH HT bW bX
      go_wp2_with (at_builtin; go_loud (refine append_ss rfl (.tmp 23) (.tmp 33) rfl _ w2.heap.size _ Ms (some ⟨wr.heap.size + 1, 0, none⟩, [x, y, z], 3) rfl hLX (wr.heap.size + 1 + 1) (by simp) rfl hML hNX ?_; intro v6 w6 ho6 hbel6 hk6 hob6 hz6; refine Hid.out ?_))
      have hL6 := hLW.app hNW (a := x) (b := y) (c := z) (by rw [hzW]; exact ho6) hk6 hob6
      rw [hzW] at hL6
      have b6 := hbel6 _ bwX
      clear ho6 hbel6 hk6 hob6 hz6 hLX hLW bwX hNW hNX hb d0 d1 d2
      refine Lib.hid ?_
      go_wp2
      go_roundw
      case rel => exact ⟨j + 1, _, by omega, by go_num, hL6, HN, b6⟩
      case measure => simp [intOf]; omega
  · have R := Lib.hid (piecesA_f hv)
    have HV := Lib.hid hv
    clear hv
    go_wp2
    go_ret2
    exact ⟨none, [], 0, by rw [HV.out]; rfl, by rw [R.out]; rfl, LLOwn.nil _ _, by (repeat (first | assumption | exact Below.refl _ _ | (refine bl_alloc ?_ _) | (refine Below.drew ?_) | (refine bl_drewN ?_ _) | (refine bl_set ?_ (by first | (simp; done) | omega | (simp; omega)) _) | (refine bl_trans ?_ (by assumption)) | (refine bl_step ?_ (by assumption) (by first | omega | exact Below.size (by assumption) | (simp; omega) | (simp; exact Below.size (by assumption))))))⟩
end Go.Proofs.YtpcilpcinbamcaaDoor
