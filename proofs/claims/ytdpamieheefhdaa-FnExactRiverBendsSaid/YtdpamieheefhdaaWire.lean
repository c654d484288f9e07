/-
  Contract: the points of a river's wire, as the model has them.
-/
import Derived.Test.YtdpamieheefhdaaThroughS
import Derived.Test.YtdpamieheefhdaaNums
namespace Go.Proofs.Ytdpamieheefhdaa
set_option linter.unusedSimpArgs false
set_option linter.unusedVariables false
open Go.ChangeShapes Go.WideShapes Go.ChangeAt Go.RowKit

/-- The place to which wire i goes on track k, coming at x. -/
def toW (T B : List Int) (n i k : Nat) (x : Int) : Int :=
  if x < T.getD i 0 ∧ i + k < n then min (T.getD i 0) (B.getD (i + k) 0 - (k : Int))
  else if T.getD i 0 < x ∧ k ≤ i then max (T.getD i 0) (B.getD (i - k) 0 + (k : Int)) else T.getD i 0
/-- Where it is behind track k. -/
def xAt (T B : List Int) (n i : Nat) : Nat → Int
  | 0 => B.getD i 0
  | k + 1 => toW T B n i (k + 1) (xAt T B n i k)
def wirL (T B : List Int) (n i : Nat) : Nat → List Pt
  | 0 => [(B.getD i 0, 0)]
  | k + 1 => (wirL T B n i k ++ [(xAt T B n i k, ((k + 1 : Nat) : Int))]) ++ seg (xAt T B n i (k + 1), ((k + 1 : Nat) : Int)) 100 (xAt T B n i k, ((k + 1 : Nat) : Int))
def wireP (T B : List Int) (n i t : Nat) : List Pt := wirL T B n i t ++ [(xAt T B n i t, ((t + 1 : Nat) : Int))]
theorem wirL_len (T B : List Int) (n i : Nat) : ∀ k, (wirL T B n i k).length ≤ 1 + 101 * k
  | 0 => by simp [wirL]
  | k + 1 => by
    have h1 := wirL_len T B n i k
    have h2 := seg_len (xAt T B n i (k + 1), ((k + 1 : Nat) : Int)) 100 (xAt T B n i k, ((k + 1 : Nat) : Int))
    unfold wirL
    simp only [List.length_append, List.length_singleton]
    omega
set_option maxRecDepth 100000 in
set_option maxHeartbeats 3200000 in
theorem l02Wire_any (A A' : Option Addr) (T B : List Int) (n t i c c' : Nat) (w : World) (hp : IntsAt w w.heap.size A T) (hq : IntsAt w w.heap.size A' B) (HT : Hid (T.length = n)) (HB : Hid (B.length = n)) (hn : n ≤ 20) (ht : t ≤ 20) (hi : i < n)
    (hbT : ∀ j, 0 ≤ T.getD j 0 ∧ T.getD j 0 ≤ 99) (hbB : ∀ j, 0 ≤ B.getD j 0 ∧ B.getD j 0 ≤ 99) (hbX : ∀ k, k ≤ t → 0 ≤ xAt T B n i k ∧ xAt T B n i k ≤ 99) :
    Calls Try.prog 52 #[.slice A n c, .slice A' n c', .int .i64 t, .int .i64 i] w (OwnPost (wireP T B n i t) w) := by
  obtain ⟨bT, oT, rfl, hbTl, hcT⟩ := hp (by have := HT.out; omega)
  obtain ⟨bB, oB, rfl, hbBl, hcB⟩ := hq (by have := HB.out; omega)
  have gT := fun j (hj : j < n) => hcT j (by have := HT.out; omega)
  have gB := fun j (hj : j < n) => hcB j (by have := HB.out; omega)
  have t0 := gT i hi
  have b0 := gB i hi
  have hiI : (i : Int) < (n : Int) := by omega
  have hi0 : (0 : Int) ≤ (i : Int) := by omega
  have hX0 : xAt T B n i 0 = B.getD i 0 := rfl
  have hW0 : wirL T B n i 0 = [(B.getD i 0, 0)] := rfl
  obtain ⟨x0, hx0⟩ : ∃ x0, B.getD i 0 = x0 := ⟨_, rfl⟩
  rw [hx0] at b0 hX0 hW0
  have ho0 : OwnL (w.alloc (.cells #[.int .i64 x0, .int .i64 0] 37)) w.heap.size (.slice (some ⟨w.heap.size, 0, none⟩) 1 1) (wirL T B n i 0) := by rw [hW0]; exact OwnL.one w w.heap.size (x0, 0) (Nat.le_refl _)
  have hbd0 : Below w.heap.size w (w.alloc (.cells #[.int .i64 x0, .int .i64 0] 37)) := by (repeat (first | assumption | exact Below.refl _ _ | (refine bl_alloc ?_ _) | (refine Below.drew ?_) | (refine bl_drewN ?_ _) | (refine bl_set ?_ (by first | (simp; done) | omega | (simp; omega)) _) | (refine bl_trans ?_ (by assumption)) | (refine bl_step ?_ (by assumption) (by first | omega | exact Below.size (by assumption) | (simp; omega) | (simp; exact Below.size (by assumption))))))
  have HX0 := Lib.hid hX0
  clear hx0 hX0 hW0
  have HbX := Lib.hid hbX
  have HbT := Lib.hid hbT
  have HbB := Lib.hid hbB
  have GT := Lib.hid gT
  have GB := Lib.hid gB
  clear hp hq hcT hcB gT gB hbX hbT hbB
  go_enter Try.func52, Try.ntmps52
  go_wp2
  go_loopw [9, 10, 11, 12] (fun vx vo vk _ wr => ∃ k : Nat, k ≤ t ∧ vk = .int .i64 ((k + 1 : Nat) : Int) ∧ vx = .int .i64 (xAt T B n i k) ∧ OwnL wr w.heap.size vo (wirL T B n i k) ∧ Below w.heap.size w wr) (fun _ _ vk _ _ => t + 1 - (intOf vk).toNat)
  case atStart => exact ⟨0, Nat.zero_le _, rfl, by rw [HX0.out], ho0, hbd0⟩
  case round =>
    clear ho0 hbd0 b0
    obtain ⟨k, hk, rfl, rfl, hown, hb⟩ := hrel
    have hz := hb.size
    have hL := wirL_len T B n i k
    obtain ⟨x, hx⟩ : ∃ x, xAt T B n i k = x := ⟨_, rfl⟩
    have hxb := HbX.out k hk
    rw [hx] at hxb
    obtain ⟨m, hm⟩ : ∃ m : Nat, k + 1 = m := ⟨_, rfl⟩
    have HM := Lib.hid hm
    by_cases hkt : k < t
    · have HW : Hid (wirL T B n i (k + 1) = (wirL T B n i k ++ [(x, (m : Int))]) ++ seg (xAt T B n i (k + 1), (m : Int)) 100 (x, (m : Int))) := by show _ = _; rw [← hx, ← hm]; rfl
      have HTo : Hid (xAt T B n i (k + 1) = toW T B n i m x) := by show _ = _; rw [← hx, ← hm]; rfl
      have hyb := HbX.out (k + 1) (by omega)
      obtain ⟨y, hy⟩ : ∃ y, xAt T B n i (k + 1) = y := ⟨_, rfl⟩
      have HY := Lib.hid hy
      rw [hy] at hyb HW HTo
      have hch : che (x, (m : Int)) (y, (m : Int)) ≤ 100 := by unfold che; simp only; omega
      have hmtI : (m : Int) ≤ (t : Int) := by omega
      have hm1 : 1 ≤ m := by omega
      have hm20 : m ≤ 20 := by omega
      obtain ⟨L, hLL⟩ : ∃ L, wirL T B n i k = L := ⟨_, rfl⟩
      rw [hLL] at hown HW hL
      rw [hx, hm]
      clear hx hm hy hLL
      go_wp2_with (at_builtin; refine append_pt rfl (.tmp 25) (.tmp 29) rfl _ w.heap.size _ _ x (m : Int) rfl hown _ rfl rfl (by omega) hz ?_; intro v6 w6 hown6 hbel6; refine Hid.out ?_)
      have b6 := hbel6 _ hb
      have t6 := (b6.cell (p := ⟨bT, oT + i, none⟩) hbTl).trans t0
      clear hown hbel6 hb
      refine Lib.hid ?_
      obtain ⟨Ti, hTi⟩ : ∃ Ti, T.getD i 0 = Ti := ⟨_, rfl⟩
      have hTb := HbT.out i
      unfold toW at HTo
      rw [hTi] at t6 hTb HTo
      by_cases h1 : x < Ti ∧ i + m < n
      · obtain ⟨h1a, h1b⟩ := h1
        rw [if_pos ⟨h1a, h1b⟩] at HTo
        have b7 := (b6.cell (p := ⟨bB, oB + (i + m), none⟩) hbBl).trans (GB.out (i + m) h1b)
        have hBb := HbB.out (i + m)
        generalize B.getD (i + m) 0 = Bk at *
        have h1I : (i : Int) + (m : Int) < (n : Int) := by omega
        have hw1 : IntKind.i64.wrap ((i : Int) + (m : Int)) = ((i + m : Nat) : Int) := by rw [IntWalk.i64_in _ (by omega)]; omega
        have hw2 : IntKind.i64.wrap (Bk - (m : Int)) = Bk - (m : Int) := IntWalk.i64_in _ (by omega)
        go_wp2_with (go_at_call 79; refine (l00Min_any _ _ _).mono ?_; rintro e w7 ⟨rfl, rfl⟩; rw [← HTo.out])
        clear HTo
        go_loopw [9, 10] (fun vx vo wr => ∃ (z : Int) (L2 : List Pt) (f : Nat), vx = .int .i64 z ∧ OwnL wr w.heap.size vo L2 ∧ Hid (L2 ++ seg (y, (m : Int)) f (z, (m : Int)) = wirL T B n i (k + 1)) ∧ che (z, (m : Int)) (y, (m : Int)) ≤ f ∧ f ≤ 100 ∧ L2.length + f ≤ 5000 ∧ (0 ≤ z ∧ z ≤ 99) ∧ Below w.heap.size w wr) (fun vx _ _ => (y - intOf vx).natAbs)
        case atStart => exact ⟨x, _, 100, rfl, hown6, HW.out.symm, hch, Nat.le_refl _, by simp; omega, hxb, b6⟩
        case round =>
          clear hown6 b6
          obtain ⟨z, L2, f, rfl, hown, HS, hcz, hf, hLf, hzb, hb⟩ := hrel
          have hz2 := hb.size
          have hl0 : (y - z : Int) = y - z := rfl
          by_cases hzy : z = y
          · subst hzy
            rw [seg_same, List.append_nil] at HS
            go_wp2
            go_roundw
            case rel => exact ⟨k + 1, by omega, by have := HM.out; go_num, by rw [HY.out], by rw [← HS.out]; exact hown, hb⟩
            case measure => have := HM.out; simp [intOf]; omega
          · obtain ⟨f2, rfl, hc2, hs2⟩ := seg_next (p := (z, (m : Int))) (q := (y, (m : Int))) (fun e => hzy (by injection e)) hcz
            have hst : stp (z, (m : Int)) (y, (m : Int)) = (z + sg z y, (m : Int)) := by
              unfold stp
              simp only
              rw [show sg (m : Int) (m : Int) = 0 by unfold sg; simp]; simp
            rw [hst] at hc2 hs2
            have hsg := sg_cases z y
            have hz3b : 0 ≤ z + sg z y ∧ z + sg z y ≤ 99 := by rcases hsg with ⟨_, e⟩ | ⟨_, e⟩ | ⟨_, e⟩ <;> rw [e] <;> omega
            have hwr1 : IntKind.i64.wrap (y - z) = y - z := IntWalk.i64_in _ (by omega)
            have hwr2 : IntKind.i64.wrap (z + sg z y) = z + sg z y := IntWalk.i64_in _ (by omega)
            have HMe : Hid ((y - (z + sg z y)).natAbs < (y - z).natAbs) := by show _ < _; rcases hsg with ⟨_, e⟩ | ⟨_, e⟩ | ⟨_, e⟩ <;> rw [e] <;> omega
            have HS2 : Hid ((L2 ++ [(z + sg z y, (m : Int))]) ++ seg (y, (m : Int)) f2 (z + sg z y, (m : Int)) = wirL T B n i (k + 1)) := by show _ = _; rw [← HS.out, hs2]; simp
            have cS := fun w1 => l01Sign_sub z y w1
            clear hst hs2 hsg hl0
            generalize sg z y = s at *
            go_wp2_with (first
              | (go_at_call 81; refine (cS _).mono ?_; rintro e w8 ⟨rfl, rfl⟩)
              | (at_builtin; refine append_pt rfl (.tmp 84) (.tmp 88) rfl _ w.heap.size _ _ (z + s) (m : Int) rfl hown _ rfl rfl (by omega) hz2 ?_; intro v9 w9 hown9 hbel9; refine Hid.out ?_))
            have b9 := hbel9 _ hb
            refine Lib.hid ?_
            go_wp2
            go_roundw
            case rel => exact ⟨z + s, _, f2, by first | rfl | (rw [hwr2]), hown9, HS2, hc2, by omega, by simp; omega, hz3b, b9⟩
            case measure => have := HMe.out; simp [intOf]; omega
      · rw [if_neg h1] at HTo
        by_cases h2 : Ti < x ∧ m ≤ i
        · obtain ⟨h2a, h2b⟩ := h2
          rw [if_pos ⟨h2a, h2b⟩] at HTo
          have b7 := (b6.cell (p := ⟨bB, oB + (i - m), none⟩) hbBl).trans (GB.out (i - m) (by omega))
          have hBb := HbB.out (i - m)
          obtain ⟨im, him⟩ : ∃ im, i - m = im := ⟨_, rfl⟩
          rw [him] at b7 hBb HTo
          generalize B.getD im 0 = Bk at *
          have h1I : ¬ x < Ti := by omega
          have h2I : (0 : Int) ≤ (im : Int) := by omega
          have h3I : (im : Int) < (n : Int) := by omega
          have hw1 : IntKind.i64.wrap ((i : Int) - (m : Int)) = (im : Int) := by rw [IntWalk.i64_in _ (by omega)]; omega
          have hw2 : IntKind.i64.wrap (Bk + (m : Int)) = Bk + (m : Int) := IntWalk.i64_in _ (by omega)
          clear him h1
          go_wp2_with (go_at_call 80; refine (l00Max_any _ _ _).mono ?_; rintro e w7 ⟨rfl, rfl⟩; rw [← HTo.out])
          clear HTo
          go_loopw [9, 10] (fun vx vo wr => ∃ (z : Int) (L2 : List Pt) (f : Nat), vx = .int .i64 z ∧ OwnL wr w.heap.size vo L2 ∧ Hid (L2 ++ seg (y, (m : Int)) f (z, (m : Int)) = wirL T B n i (k + 1)) ∧ che (z, (m : Int)) (y, (m : Int)) ≤ f ∧ f ≤ 100 ∧ L2.length + f ≤ 5000 ∧ (0 ≤ z ∧ z ≤ 99) ∧ Below w.heap.size w wr) (fun vx _ _ => (y - intOf vx).natAbs)
          case atStart => exact ⟨x, _, 100, rfl, hown6, HW.out.symm, hch, Nat.le_refl _, by simp; omega, hxb, b6⟩
          case round =>
            clear hown6 b6
            obtain ⟨z, L2, f, rfl, hown, HS, hcz, hf, hLf, hzb, hb⟩ := hrel
            have hz2 := hb.size
            have hl0 : (y - z : Int) = y - z := rfl
            by_cases hzy : z = y
            · subst hzy
              rw [seg_same, List.append_nil] at HS
              go_wp2
              go_roundw
              case rel => exact ⟨k + 1, by omega, by have := HM.out; go_num, by rw [HY.out], by rw [← HS.out]; exact hown, hb⟩
              case measure => have := HM.out; simp [intOf]; omega
            · obtain ⟨f2, rfl, hc2, hs2⟩ := seg_next (p := (z, (m : Int))) (q := (y, (m : Int))) (fun e => hzy (by injection e)) hcz
              have hst : stp (z, (m : Int)) (y, (m : Int)) = (z + sg z y, (m : Int)) := by
                unfold stp
                simp only
                rw [show sg (m : Int) (m : Int) = 0 by unfold sg; simp]; simp
              rw [hst] at hc2 hs2
              have hsg := sg_cases z y
              have hz3b : 0 ≤ z + sg z y ∧ z + sg z y ≤ 99 := by rcases hsg with ⟨_, e⟩ | ⟨_, e⟩ | ⟨_, e⟩ <;> rw [e] <;> omega
              have hwr1 : IntKind.i64.wrap (y - z) = y - z := IntWalk.i64_in _ (by omega)
              have hwr2 : IntKind.i64.wrap (z + sg z y) = z + sg z y := IntWalk.i64_in _ (by omega)
              have HMe : Hid ((y - (z + sg z y)).natAbs < (y - z).natAbs) := by show _ < _; rcases hsg with ⟨_, e⟩ | ⟨_, e⟩ | ⟨_, e⟩ <;> rw [e] <;> omega
              have HS2 : Hid ((L2 ++ [(z + sg z y, (m : Int))]) ++ seg (y, (m : Int)) f2 (z + sg z y, (m : Int)) = wirL T B n i (k + 1)) := by show _ = _; rw [← HS.out, hs2]; simp
              have cS := fun w1 => l01Sign_sub z y w1
              clear hst hs2 hsg hl0
              generalize sg z y = s at *
              go_wp2_with (first
                | (go_at_call 81; refine (cS _).mono ?_; rintro e w8 ⟨rfl, rfl⟩)
                | (at_builtin; refine append_pt rfl (.tmp 84) (.tmp 88) rfl _ w.heap.size _ _ (z + s) (m : Int) rfl hown _ rfl rfl (by omega) hz2 ?_; intro v9 w9 hown9 hbel9; refine Hid.out ?_))
              have b9 := hbel9 _ hb
              refine Lib.hid ?_
              go_wp2
              go_roundw
              case rel => exact ⟨z + s, _, f2, by first | rfl | (rw [hwr2]), hown9, HS2, hc2, by omega, by simp; omega, hz3b, b9⟩
              case measure => have := HMe.out; simp [intOf]; omega
        · rw [if_neg h2] at HTo
          have e := HTo.out
          by_cases h3 : x < Ti
          · have h3I : ¬ (i : Int) + (m : Int) < (n : Int) := fun h => h1 ⟨h3, by omega⟩
            have h4I : ¬ Ti < x := by omega
            have hw1 : IntKind.i64.wrap ((i : Int) + (m : Int)) = (i : Int) + (m : Int) := IntWalk.i64_in _ (by omega)
            subst e
            clear h1 h2
            go_wp2
            clear HTo
            go_loopw [9, 10] (fun vx vo wr => ∃ (z : Int) (L2 : List Pt) (f : Nat), vx = .int .i64 z ∧ OwnL wr w.heap.size vo L2 ∧ Hid (L2 ++ seg (y, (m : Int)) f (z, (m : Int)) = wirL T B n i (k + 1)) ∧ che (z, (m : Int)) (y, (m : Int)) ≤ f ∧ f ≤ 100 ∧ L2.length + f ≤ 5000 ∧ (0 ≤ z ∧ z ≤ 99) ∧ Below w.heap.size w wr) (fun vx _ _ => (y - intOf vx).natAbs)
            case atStart => exact ⟨x, _, 100, rfl, hown6, HW.out.symm, hch, Nat.le_refl _, by simp; omega, hxb, b6⟩
            case round =>
              clear hown6 b6
              obtain ⟨z, L2, f, rfl, hown, HS, hcz, hf, hLf, hzb, hb⟩ := hrel
              have hz2 := hb.size
              have hl0 : (y - z : Int) = y - z := rfl
              by_cases hzy : z = y
              · subst hzy
                rw [seg_same, List.append_nil] at HS
                go_wp2
                go_roundw
                case rel => exact ⟨k + 1, by omega, by have := HM.out; go_num, by rw [HY.out], by rw [← HS.out]; exact hown, hb⟩
                case measure => have := HM.out; simp [intOf]; omega
              · obtain ⟨f2, rfl, hc2, hs2⟩ := seg_next (p := (z, (m : Int))) (q := (y, (m : Int))) (fun e => hzy (by injection e)) hcz
                have hst : stp (z, (m : Int)) (y, (m : Int)) = (z + sg z y, (m : Int)) := by
                  unfold stp
                  simp only
                  rw [show sg (m : Int) (m : Int) = 0 by unfold sg; simp]; simp
                rw [hst] at hc2 hs2
                have hsg := sg_cases z y
                have hz3b : 0 ≤ z + sg z y ∧ z + sg z y ≤ 99 := by rcases hsg with ⟨_, e⟩ | ⟨_, e⟩ | ⟨_, e⟩ <;> rw [e] <;> omega
                have hwr1 : IntKind.i64.wrap (y - z) = y - z := IntWalk.i64_in _ (by omega)
                have hwr2 : IntKind.i64.wrap (z + sg z y) = z + sg z y := IntWalk.i64_in _ (by omega)
                have HMe : Hid ((y - (z + sg z y)).natAbs < (y - z).natAbs) := by show _ < _; rcases hsg with ⟨_, e⟩ | ⟨_, e⟩ | ⟨_, e⟩ <;> rw [e] <;> omega
                have HS2 : Hid ((L2 ++ [(z + sg z y, (m : Int))]) ++ seg (y, (m : Int)) f2 (z + sg z y, (m : Int)) = wirL T B n i (k + 1)) := by show _ = _; rw [← HS.out, hs2]; simp
                have cS := fun w1 => l01Sign_sub z y w1
                clear hst hs2 hsg hl0
                generalize sg z y = s at *
                go_wp2_with (first
                  | (go_at_call 81; refine (cS _).mono ?_; rintro e w8 ⟨rfl, rfl⟩)
                  | (at_builtin; refine append_pt rfl (.tmp 84) (.tmp 88) rfl _ w.heap.size _ _ (z + s) (m : Int) rfl hown _ rfl rfl (by omega) hz2 ?_; intro v9 w9 hown9 hbel9; refine Hid.out ?_))
                have b9 := hbel9 _ hb
                refine Lib.hid ?_
                go_wp2
                go_roundw
                case rel => exact ⟨z + s, _, f2, by first | rfl | (rw [hwr2]), hown9, HS2, hc2, by omega, by simp; omega, hz3b, b9⟩
                case measure => have := HMe.out; simp [intOf]; omega
          · by_cases h4 : Ti < x
            · have h5I : ¬ (0 : Int) ≤ (i : Int) - (m : Int) := fun h => h2 ⟨h4, by omega⟩
              have hw1 : IntKind.i64.wrap ((i : Int) - (m : Int)) = (i : Int) - (m : Int) := IntWalk.i64_in _ (by omega)
              subst e
              clear h1 h2
              go_wp2
              clear HTo
              go_loopw [9, 10] (fun vx vo wr => ∃ (z : Int) (L2 : List Pt) (f : Nat), vx = .int .i64 z ∧ OwnL wr w.heap.size vo L2 ∧ Hid (L2 ++ seg (y, (m : Int)) f (z, (m : Int)) = wirL T B n i (k + 1)) ∧ che (z, (m : Int)) (y, (m : Int)) ≤ f ∧ f ≤ 100 ∧ L2.length + f ≤ 5000 ∧ (0 ≤ z ∧ z ≤ 99) ∧ Below w.heap.size w wr) (fun vx _ _ => (y - intOf vx).natAbs)
              case atStart => exact ⟨x, _, 100, rfl, hown6, HW.out.symm, hch, Nat.le_refl _, by simp; omega, hxb, b6⟩
              case round =>
                clear hown6 b6
                obtain ⟨z, L2, f, rfl, hown, HS, hcz, hf, hLf, hzb, hb⟩ := hrel
                have hz2 := hb.size
                have hl0 : (y - z : Int) = y - z := rfl
                by_cases hzy : z = y
                · subst hzy
                  rw [seg_same, List.append_nil] at HS
                  go_wp2
                  go_roundw
                  case rel => exact ⟨k + 1, by omega, by have := HM.out; go_num, by rw [HY.out], by rw [← HS.out]; exact hown, hb⟩
                  case measure => have := HM.out; simp [intOf]; omega
                · obtain ⟨f2, rfl, hc2, hs2⟩ := seg_next (p := (z, (m : Int))) (q := (y, (m : Int))) (fun e => hzy (by injection e)) hcz
                  have hst : stp (z, (m : Int)) (y, (m : Int)) = (z + sg z y, (m : Int)) := by
                    unfold stp
                    simp only
                    rw [show sg (m : Int) (m : Int) = 0 by unfold sg; simp]; simp
                  rw [hst] at hc2 hs2
                  have hsg := sg_cases z y
                  have hz3b : 0 ≤ z + sg z y ∧ z + sg z y ≤ 99 := by rcases hsg with ⟨_, e⟩ | ⟨_, e⟩ | ⟨_, e⟩ <;> rw [e] <;> omega
                  have hwr1 : IntKind.i64.wrap (y - z) = y - z := IntWalk.i64_in _ (by omega)
                  have hwr2 : IntKind.i64.wrap (z + sg z y) = z + sg z y := IntWalk.i64_in _ (by omega)
                  have HMe : Hid ((y - (z + sg z y)).natAbs < (y - z).natAbs) := by show _ < _; rcases hsg with ⟨_, e⟩ | ⟨_, e⟩ | ⟨_, e⟩ <;> rw [e] <;> omega
                  have HS2 : Hid ((L2 ++ [(z + sg z y, (m : Int))]) ++ seg (y, (m : Int)) f2 (z + sg z y, (m : Int)) = wirL T B n i (k + 1)) := by show _ = _; rw [← HS.out, hs2]; simp
                  have cS := fun w1 => l01Sign_sub z y w1
                  clear hst hs2 hsg hl0
                  generalize sg z y = s at *
                  go_wp2_with (first
                    | (go_at_call 81; refine (cS _).mono ?_; rintro e w8 ⟨rfl, rfl⟩)
                    | (at_builtin; refine append_pt rfl (.tmp 84) (.tmp 88) rfl _ w.heap.size _ _ (z + s) (m : Int) rfl hown _ rfl rfl (by omega) hz2 ?_; intro v9 w9 hown9 hbel9; refine Hid.out ?_))
                  have b9 := hbel9 _ hb
                  refine Lib.hid ?_
                  go_wp2
                  go_roundw
                  case rel => exact ⟨z + s, _, f2, by first | rfl | (rw [hwr2]), hown9, HS2, hc2, by omega, by simp; omega, hz3b, b9⟩
                  case measure => have := HMe.out; simp [intOf]; omega
            · subst e
              clear h1 h2
              go_wp2
              clear HTo
              go_loopw [9, 10] (fun vx vo wr => ∃ (z : Int) (L2 : List Pt) (f : Nat), vx = .int .i64 z ∧ OwnL wr w.heap.size vo L2 ∧ Hid (L2 ++ seg (y, (m : Int)) f (z, (m : Int)) = wirL T B n i (k + 1)) ∧ che (z, (m : Int)) (y, (m : Int)) ≤ f ∧ f ≤ 100 ∧ L2.length + f ≤ 5000 ∧ (0 ≤ z ∧ z ≤ 99) ∧ Below w.heap.size w wr) (fun vx _ _ => (y - intOf vx).natAbs)
              case atStart => exact ⟨x, _, 100, rfl, hown6, HW.out.symm, hch, Nat.le_refl _, by simp; omega, hxb, b6⟩
              case round =>
                clear hown6 b6
                obtain ⟨z, L2, f, rfl, hown, HS, hcz, hf, hLf, hzb, hb⟩ := hrel
                have hz2 := hb.size
                have hl0 : (y - z : Int) = y - z := rfl
                by_cases hzy : z = y
                · subst hzy
                  rw [seg_same, List.append_nil] at HS
                  go_wp2
                  go_roundw
                  case rel => exact ⟨k + 1, by omega, by have := HM.out; go_num, by rw [HY.out], by rw [← HS.out]; exact hown, hb⟩
                  case measure => have := HM.out; simp [intOf]; omega
                · obtain ⟨f2, rfl, hc2, hs2⟩ := seg_next (p := (z, (m : Int))) (q := (y, (m : Int))) (fun e => hzy (by injection e)) hcz
                  have hst : stp (z, (m : Int)) (y, (m : Int)) = (z + sg z y, (m : Int)) := by
                    unfold stp
                    simp only
                    rw [show sg (m : Int) (m : Int) = 0 by unfold sg; simp]; simp
                  rw [hst] at hc2 hs2
                  have hsg := sg_cases z y
                  have hz3b : 0 ≤ z + sg z y ∧ z + sg z y ≤ 99 := by rcases hsg with ⟨_, e⟩ | ⟨_, e⟩ | ⟨_, e⟩ <;> rw [e] <;> omega
                  have hwr1 : IntKind.i64.wrap (y - z) = y - z := IntWalk.i64_in _ (by omega)
                  have hwr2 : IntKind.i64.wrap (z + sg z y) = z + sg z y := IntWalk.i64_in _ (by omega)
                  have HMe : Hid ((y - (z + sg z y)).natAbs < (y - z).natAbs) := by show _ < _; rcases hsg with ⟨_, e⟩ | ⟨_, e⟩ | ⟨_, e⟩ <;> rw [e] <;> omega
                  have HS2 : Hid ((L2 ++ [(z + sg z y, (m : Int))]) ++ seg (y, (m : Int)) f2 (z + sg z y, (m : Int)) = wirL T B n i (k + 1)) := by show _ = _; rw [← HS.out, hs2]; simp
                  have cS := fun w1 => l01Sign_sub z y w1
                  clear hst hs2 hsg hl0
                  generalize sg z y = s at *
                  go_wp2_with (first
                    | (go_at_call 81; refine (cS _).mono ?_; rintro e w8 ⟨rfl, rfl⟩)
                    | (at_builtin; refine append_pt rfl (.tmp 84) (.tmp 88) rfl _ w.heap.size _ _ (z + s) (m : Int) rfl hown _ rfl rfl (by omega) hz2 ?_; intro v9 w9 hown9 hbel9; refine Hid.out ?_))
                  have b9 := hbel9 _ hb
                  refine Lib.hid ?_
                  go_wp2
                  go_roundw
                  case rel => exact ⟨z + s, _, f2, by first | rfl | (rw [hwr2]), hown9, HS2, hc2, by omega, by simp; omega, hz3b, b9⟩
                  case measure => have := HMe.out; simp [intOf]; omega
    · obtain rfl : k = t := by omega
      have HW : Hid (wireP T B n i k = wirL T B n i k ++ [(x, (m : Int))]) := by show _ = _; rw [← hx, ← hm]; rfl
      have hmI : IntKind.i64.wrap ((k : Int) + 1) = (m : Int) := by rw [IntWalk.i64_in _ (by omega)]; omega
      obtain ⟨L, hLL⟩ : ∃ L, wirL T B n i k = L := ⟨_, rfl⟩
      rw [hLL] at hown HW hL
      rw [hx, hm]
      have hkm : (k : Int) + 1 = (m : Int) := by omega
      have hnm : ¬ (m : Int) ≤ (k : Int) := by omega
      clear hx hm hLL
      go_wp2_with (at_builtin; refine append_pt rfl (.tmp 90) (.tmp 95) rfl _ w.heap.size _ _ x (m : Int) rfl hown _ rfl rfl (by omega) hz ?_; intro v6 w6 hown6 hbel6; refine Hid.out ?_)
      have b6 := hbel6 _ hb
      refine Lib.hid ?_
      go_wp2
      go_ret
      exact ⟨_, rfl, by rw [HW.out]; exact hown6, b6⟩
end Go.Proofs.Ytdpamieheefhdaa
