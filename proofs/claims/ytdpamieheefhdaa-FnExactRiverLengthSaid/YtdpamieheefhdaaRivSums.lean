/-
  Contracts: the length and the bends of all wires of a river.
-/
import Derived.Test.YtdpamieheefhdaaRivSum
namespace Go.Proofs.Ytdpamieheefhdaa
set_option linter.unusedSimpArgs false
set_option linter.unusedVariables false
open Go.ChangeShapes Go.WideShapes Go.ChangeAt Go.RowKit

set_option maxRecDepth 100000 in
set_option maxHeartbeats 1600000 in
theorem RiverLengthS_any (A A' : Option Addr) (T B : List Int) (c c' : Nat) (t : Int) (w : World) (hp : IntsAt w w.heap.size A T) (hq : IntsAt w w.heap.size A' B) (hl : T.length ≤ 1048576) (hl' : B.length ≤ 1048576) :
    Calls Try.prog 26 #[.slice A T.length c, .slice A' B.length c', .int .i64 t] w fun e w' => e = .returned (swV lenF T B t) ∧ Below w.heap.size w w' := by
  cases hfit : fitsB T B t
  · have H := Lib.hid hfit
    have R := Lib.hid (swV_f (f := lenF) hfit)
    clear hfit
    go_enter Try.func26, Try.ntmps26
    go_wp2_with fail
    refine (l02Good_any _ _ _ _ _ _ _ _ hp hq hl hl').mono ?_
    rintro e w1 ⟨rfl, hb1⟩
    rw [H.out]
    go_wp2
    go_ret2
    exact ⟨by rw [R.out]; rfl, hb1⟩
  · have hf' := hfit
    unfold fitsB at hf'
    simp only [Bool.and_eq_true] at hf'
    obtain ⟨hr, ht, _⟩ := hf'
    obtain ⟨k0, rfl, hk⟩ := tracks_nat ht
    obtain ⟨hL, h1, h20, hT, hB⟩ := riverB_of hr
    have ha := ascB_of hr
    have R := Lib.hid (swV_t (f := lenF) hfit)
    have cg := l02Good_any A A' T B c c' k0 w hp hq hl hl'
    have cw := fun (w1 : World) (hb1 : Below w.heap.size w w1) (i : Nat) (hi : i < T.length) => l02Wire_any A A' T B T.length k0 i c c' w1 (hp.to hb1) (hq.to hb1) rfl hL.symm h20 hk hi hT hB (fun j _ => xAt_in hi ha hT hB rfl hL.symm j)
    obtain ⟨n, hn⟩ : ∃ n, T.length = n := ⟨_, rfl⟩
    have hn' : B.length = n := by omega
    rw [hn] at cw h20 R
    have hS := fun k => sumW_in (f := lenF) (T := T) (B := B) (n := n) hk lenF_in k
    have hWl := fun i => wireP_len T B n i k0 hk
    have hW1 := fun i => wireP_two T B n i k0
    rw [hn] at cg ⊢
    rw [hn'] at cg ⊢
    have H := Lib.hid hfit
    have CW := Lib.hid cw
    have HS := Lib.hid hS
    have HWl := Lib.hid hWl
    have HW1 := Lib.hid hW1
    have hnI : (n : Int) ≤ 20 := by omega
    have hn0 : (0 : Int) ≤ (n : Int) := by omega
    clear hfit hr ht hL h1 hT hB ha hn hn' cw hS hWl hW1 hl hl'
    go_enter Try.func26, Try.ntmps26
    go_wp2_with fail
    refine cg.mono ?_
    rintro e w1 ⟨rfl, hb1⟩
    rw [H.out]
    go_wp2
    go_loopw [8, 9] (fun s i wr => ∃ k : Nat, k ≤ n ∧ i = .int .i64 k ∧ s = .int .i64 (sumW lenF T B n k0 k) ∧ Below w.heap.size w wr) (fun _ i _ => n - (intOf i).toNat)
    case atStart => exact ⟨0, Nat.zero_le _, rfl, rfl, hb1⟩
    case round =>
      obtain ⟨k, hkn, rfl, rfl, hb⟩ := hrel
      by_cases hlt : k < n
      · have hltI : (k : Int) < (n : Int) := by omega
        have hk0 : (0 : Int) ≤ (k : Int) := by omega
        have s1 := HS.out k
        have HSk := Lib.hid (sumW_succ lenF T B n k0 k)
        have hl4 := HWl.out k
        have hl2 := HW1.out k
        have CWk := Lib.hid (CW.out wr hb k hlt)
        obtain ⟨L, hLw⟩ : ∃ L, wireP T B n k k0 = L := ⟨_, rfl⟩
        rw [hLw] at HSk hl4 hl2 CWk
        have hE : IntKind.i64.wrap (sumW lenF T B n k0 k + ((L.length : Int) - 1)) = sumW lenF T B n k0 (k + 1) := by rw [HSk.out, show lenF L = (L.length : Int) - 1 from rfl]; exact IntWalk.i64_in _ (by omega)
        obtain ⟨s2, hs2⟩ : ∃ s2, sumW lenF T B n k0 (k + 1) = s2 := ⟨_, rfl⟩
        rw [hs2] at hE
        have HS2 := Lib.hid hs2
        have hlI : (L.length : Int) ≤ 4096 := by omega
        generalize sumW lenF T B n k0 k = s0 at *
        clear hLw HSk s1 hs2 hl2
        go_wp2_with fail
        refine CWk.out.mono ?_
        rintro e w3 ⟨v, rfl, ho, hb3⟩
        obtain ⟨A3, c3, rfl, ho3⟩ := own3_of ho
        have bb := bl_trans hb hb3
        clear ho ho3 hb3
        go_wp2
        go_roundw
        case rel => exact ⟨k + 1, by omega, by go_num, by rw [HS2.out], bb⟩
        case measure => simp [intOf]; omega
      · obtain rfl : k = n := by omega
        go_wp2
        go_ret2
        exact ⟨by rw [R.out]; rfl, hb⟩

set_option maxRecDepth 100000 in
set_option maxHeartbeats 1600000 in
theorem RiverBendsS_any (A A' : Option Addr) (T B : List Int) (c c' : Nat) (t : Int) (w : World) (hp : IntsAt w w.heap.size A T) (hq : IntsAt w w.heap.size A' B) (hl : T.length ≤ 1048576) (hl' : B.length ≤ 1048576) :
    Calls Try.prog 27 #[.slice A T.length c, .slice A' B.length c', .int .i64 t] w fun e w' => e = .returned (swV benF T B t) ∧ Below w.heap.size w w' := by
  cases hfit : fitsB T B t
  · have H := Lib.hid hfit
    have R := Lib.hid (swV_f (f := benF) hfit)
    clear hfit
    go_enter Try.func27, Try.ntmps27
    go_wp2_with fail
    refine (l02Good_any _ _ _ _ _ _ _ _ hp hq hl hl').mono ?_
    rintro e w1 ⟨rfl, hb1⟩
    rw [H.out]
    go_wp2
    go_ret2
    exact ⟨by rw [R.out]; rfl, hb1⟩
  · have hf' := hfit
    unfold fitsB at hf'
    simp only [Bool.and_eq_true] at hf'
    obtain ⟨hr, ht, _⟩ := hf'
    obtain ⟨k0, rfl, hk⟩ := tracks_nat ht
    obtain ⟨hL, h1, h20, hT, hB⟩ := riverB_of hr
    have ha := ascB_of hr
    have R := Lib.hid (swV_t (f := benF) hfit)
    have cg := l02Good_any A A' T B c c' k0 w hp hq hl hl'
    have cw := fun (w1 : World) (hb1 : Below w.heap.size w w1) (i : Nat) (hi : i < T.length) => l02Wire_any A A' T B T.length k0 i c c' w1 (hp.to hb1) (hq.to hb1) rfl hL.symm h20 hk hi hT hB (fun j _ => xAt_in hi ha hT hB rfl hL.symm j)
    obtain ⟨n, hn⟩ : ∃ n, T.length = n := ⟨_, rfl⟩
    have hn' : B.length = n := by omega
    rw [hn] at cw h20 R
    have hS := fun k => sumW_in (f := benF) (T := T) (B := B) (n := n) hk benF_in k
    have hWl := fun i => wireP_len T B n i k0 hk
    have hW1 := fun i => wireP_two T B n i k0
    rw [hn] at cg ⊢
    rw [hn'] at cg ⊢
    have H := Lib.hid hfit
    have CW := Lib.hid cw
    have HS := Lib.hid hS
    have HWl := Lib.hid hWl
    have HW1 := Lib.hid hW1
    have hnI : (n : Int) ≤ 20 := by omega
    have hn0 : (0 : Int) ≤ (n : Int) := by omega
    clear hfit hr ht hL h1 hT hB ha hn hn' cw hS hWl hW1 hl hl'
    go_enter Try.func27, Try.ntmps27
    go_wp2_with fail
    refine cg.mono ?_
    rintro e w1 ⟨rfl, hb1⟩
    rw [H.out]
    go_wp2
    go_loopw [8, 9] (fun s i wr => ∃ k : Nat, k ≤ n ∧ i = .int .i64 k ∧ s = .int .i64 (sumW benF T B n k0 k) ∧ Below w.heap.size w wr) (fun _ i _ => n - (intOf i).toNat)
    case atStart => exact ⟨0, Nat.zero_le _, rfl, rfl, hb1⟩
    case round =>
      obtain ⟨k, hkn, rfl, rfl, hb⟩ := hrel
      by_cases hlt : k < n
      · have hltI : (k : Int) < (n : Int) := by omega
        have hk0 : (0 : Int) ≤ (k : Int) := by omega
        have s1 := HS.out k
        have HSk := Lib.hid (sumW_succ benF T B n k0 k)
        have hl4 := HWl.out k
        have hl2 := HW1.out k
        have CWk := Lib.hid (CW.out wr hb k hlt)
        obtain ⟨L, hLw⟩ : ∃ L, wireP T B n k k0 = L := ⟨_, rfl⟩
        rw [hLw] at HSk hl4 hl2 CWk
        have hcn := cors_cnt L L.length (Nat.le_refl _)
        rw [if_pos (by omega), if_pos ⟨rfl, hl2⟩] at hcn
        have hcl := cornL_le L L.length
        have hE : IntKind.i64.wrap (sumW benF T B n k0 k + (((cornL L L.length).length : Int) - 2)) = sumW benF T B n k0 (k + 1) := by rw [HSk.out, show benF L = cntB L L.length from rfl, show ((cornL L L.length).length : Int) - 2 = cntB L L.length by omega]; exact IntWalk.i64_in _ (by have := cntB_bd L L.length; omega)
        obtain ⟨s2, hs2⟩ : ∃ s2, sumW benF T B n k0 (k + 1) = s2 := ⟨_, rfl⟩
        rw [hs2] at hE
        have HS2 := Lib.hid hs2
        generalize sumW benF T B n k0 k = s0 at *
        clear hLw HSk hs2 hcn
        go_wp2_with fail
        refine CWk.out.mono ?_
        rintro e w3 ⟨v, rfl, ho, hb3⟩
        obtain ⟨A3, c3, rfl, ho3⟩ := own3_of ho
        have b3 := bl_trans hb hb3
        clear ho hb3
        have CC := Lib.hid (l01Corners_own4 A3 L c3 w3 ho3.pts hl4)
        obtain ⟨C, hC⟩ : ∃ C, cornL L L.length = C := ⟨_, rfl⟩
        rw [hC] at CC hE hcl
        have hCI : (C.length : Int) ≤ 4096 := by omega
        clear hC hcl
        go_wp2_with fail
        refine CC.out.mono ?_
        rintro e w4 ⟨v, rfl, ho, hb4⟩
        obtain ⟨A4, c4, rfl, ho4⟩ := own3_of ho
        have bb := bl_trans b3 hb4
        clear ho ho3 ho4 hb4 b3 CC
        go_wp2
        go_roundw
        case rel => exact ⟨k + 1, by omega, by go_num, by rw [HS2.out], bb⟩
        case measure => simp [intOf]; omega
      · obtain rfl : k = n := by omega
        go_wp2
        go_ret2
        exact ⟨by rw [R.out]; rfl, hb⟩

theorem RiverLengthI_any (A A' : Option Addr) (T B : List Int) (c c' : Nat) (t : Int) (w : World) (hp : IntsAt w w.heap.size A T) (hq : IntsAt w w.heap.size A' B) (hl : T.length ≤ 1048576) (hl' : B.length ≤ 1048576) (hlc : T.length ≤ c) (hlc' : B.length ≤ c') :
    Calls Try.prog 16 #[.slice A T.length c, .slice A' B.length c', .int .i64 t] w fun e w' => e = .returned (swV lenF T B t) ∧ Below w.heap.size w w' := by
  have eg : ∀ args w, (callFunc 46 args).run Try.prog w = .ok (.enter 46 args) w := enters_of Try.func46 (by kernel_rfl) rfl
  have hx := sumOfWires_any 46 lenF eg (fun w A L c h hl => (length_any A L.length c w (by omega)).mono (fun e w' ⟨he, hw⟩ => ⟨he, hw ▸ Below.refl _ _⟩)) lenF_in A A' T B c c' t w hp hq hl hl' hlc hlc'
  cases hfit : fitsB T B t
  · rw [swV_f hfit] at hx ⊢
    clear hfit eg
    go_enter Try.func16, Try.ntmps16
    go_wp2_with fail
    refine hx.mono ?_
    rintro e w1 ⟨rfl, hb1⟩
    go_wp2
    go_ret2
    exact ⟨rfl, hb1⟩
  · obtain ⟨s, hs⟩ : ∃ s, swV lenF T B t = .tuple #[.int .i64 s, .bool true] := ⟨_, by unfold swV; rw [hfit]; rfl⟩
    rw [hs] at hx ⊢
    clear hfit hs eg
    go_enter Try.func16, Try.ntmps16
    go_wp2_with fail
    refine hx.mono ?_
    rintro e w1 ⟨rfl, hb1⟩
    go_wp2
    go_ret2
    exact ⟨rfl, hb1⟩

theorem RiverBendsI_any (A A' : Option Addr) (T B : List Int) (c c' : Nat) (t : Int) (w : World) (hp : IntsAt w w.heap.size A T) (hq : IntsAt w w.heap.size A' B) (hl : T.length ≤ 1048576) (hl' : B.length ≤ 1048576) (hlc : T.length ≤ c) (hlc' : B.length ≤ c') :
    Calls Try.prog 17 #[.slice A T.length c, .slice A' B.length c', .int .i64 t] w fun e w' => e = .returned (swV benF T B t) ∧ Below w.heap.size w w' := by
  have eg : ∀ args w, (callFunc 47 args).run Try.prog w = .ok (.enter 47 args) w := enters_of Try.func47 (by kernel_rfl) rfl
  have hx := sumOfWires_any 47 benF eg (fun w A L c h hl => bends_any A L c w h (by omega)) benF_in A A' T B c c' t w hp hq hl hl' hlc hlc'
  cases hfit : fitsB T B t
  · rw [swV_f hfit] at hx ⊢
    clear hfit eg
    go_enter Try.func17, Try.ntmps17
    go_wp2_with fail
    refine hx.mono ?_
    rintro e w1 ⟨rfl, hb1⟩
    go_wp2
    go_ret2
    exact ⟨rfl, hb1⟩
  · obtain ⟨s, hs⟩ : ∃ s, swV benF T B t = .tuple #[.int .i64 s, .bool true] := ⟨_, by unfold swV; rw [hfit]; rfl⟩
    rw [hs] at hx ⊢
    clear hfit hs eg
    go_enter Try.func17, Try.ntmps17
    go_wp2_with fail
    refine hx.mono ?_
    rintro e w1 ⟨rfl, hb1⟩
    go_wp2
    go_ret2
    exact ⟨rfl, hb1⟩
theorem swV_parts (f : List Pt → Int) (T B : List Int) (t : Int) : ∃ n b, swV f T B t = .tuple #[.int .i64 n, .bool b] := by
  cases h : fitsB T B t
  · exact ⟨_, _, swV_f h⟩
  · exact ⟨_, _, by unfold swV; rw [h]; rfl⟩
end Go.Proofs.Ytdpamieheefhdaa
