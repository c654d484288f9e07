/-
  Contracts: both AreApart.
-/
import Derived.Test.YtfmkedmhbmcbiaaApartM
import Derived.Test.YtfmkedmhbmcbiaaDraw
import Derived.Deep.AppendLies
namespace Go.Proofs.Ytfmkedmhbmcbiaa
set_option linter.unusedSimpArgs false
set_option linter.unusedVariables false
open Go.ChangeShapes Go.WideShapes Go.ChangeAt Go.RowKit

theorem cell_any (g x y : Nat) (w : World) (hx : x < 100) (hy : y < 100) :
    Calls Try.prog 84 #[.pointer (some ⟨g, 0, none⟩), .agg #[.int .i64 (x : Int), .int .i64 (y : Int)]] w fun e w' => e = .returned (.pointer (some ⟨g, fI x y, none⟩)) ∧ Below w.heap.size w w' := by
  have hx0 : 0 ≤ (x : Int) := by omega
  have hy0 : 0 ≤ (y : Int) := by omega
  have hx1 : (x : Int) < 100 := by omega
  have hy1 : (y : Int) < 100 := by omega
  have F : Hid (fI x y = y * 100 + x) := rfl
  go_enter Try.func84, Try.ntmps84
  go_wp2
  go_quiet (fail)
  go_wp2
  go_ret
  exact ⟨by rw [F.out]; rfl, by (repeat (first | assumption | exact Below.refl _ _ | (refine bl_alloc ?_ _) | (refine Below.drew ?_) | (refine bl_drewN ?_ _) | (refine bl_set ?_ (by simp) _) | (refine bl_trans ?_ (by assumption)) | (refine bl_step ?_ (by assumption) (by first | omega | exact Below.size (by assumption) | (simp; omega) | (simp; exact Below.size (by assumption))))))⟩

theorem Gr.set_ {g : Nat} {w w1 : World} (h : w.grownBy w1 (some g)) (o : Nat) (v : Value) : w.grownBy (w1.setCell ⟨g, o, none⟩ v) (some g) :=
  ⟨h.os, h.tape, h.output, by have := h.size; simp [World.setCell]; exact this, fun i hi hne => (Below.heap_setCell w1 ⟨g, o, none⟩ v i (fun e => hne (by rw [e]))).trans (h.block i hi hne)⟩
theorem apart_long {Ls : List (List Pt)} (h : 20 < Ls.length) : apartB Ls = false := by unfold apartB; rw [decide_eq_false (by omega)]; rfl
theorem apart_few {Ls : List (List Pt)} (h : Ls.length ≤ 20) : apartB Ls = (aptL [] Ls).isSome := by unfold apartB; rw [decide_eq_true h]; rfl

set_option maxRecDepth 100000 in
set_option maxHeartbeats 3200000 in
theorem AreApartI_any (A : Option Addr) (Ls : List Sl) (c : Nat) (w : World) (hp : SSAt w w.heap.size A Ls) (hn : Ls.length ≤ 1048576) (hl : ∀ i, i < Ls.length → (Ls.getD i sl0).2.1.length ≤ 1048576) :
    Calls Try.prog 37 #[.slice A Ls.length c] w fun e w' => e = .returned (.bool (apartB (held Ls))) ∧ Below w.heap.size w w' := by
  have hnI : (Ls.length : Int) ≤ 1048576 := by omega
  by_cases h20 : 20 < Ls.length
  · have hI : 20 < (Ls.length : Int) := by omega
    have F := Lib.hid (apart_long (Ls := held Ls) (by rw [held_len]; exact h20))
    go_enter Try.func37, Try.ntmps37
    go_wp2
    go_ret
    exact ⟨retB (by rw [F.out]), by (repeat (first | assumption | exact Below.refl _ _ | (refine bl_alloc ?_ _) | (refine Below.drew ?_) | (refine bl_drewN ?_ _) | (refine bl_set ?_ (by simp) _) | (refine bl_trans ?_ (by assumption)) | (refine bl_step ?_ (by assumption) (by first | omega | exact Below.size (by assumption) | (simp; omega) | (simp; exact Below.size (by assumption))))))⟩
  · have hI : ¬ 20 < (Ls.length : Int) := by omega
    have hd : decide (20 < Ls.length) = false := decide_eq_false h20
    have F := Lib.hid (apart_few (Ls := held Ls) (by rw [held_len]; omega))
    obtain ⟨R, hR⟩ : ∃ R, (aptL [] (held Ls)).isSome = R := ⟨_, rfl⟩
    rw [hR] at F
    have HR0 : Hid ((aptL [] ((held Ls).drop 0)).isSome = R) := hR
    have tk0 := Tak.newI w
    have b0 : Below w.heap.size w (w.alloc (.cells Try.zeroCells80 80)) := by (repeat (first | assumption | exact Below.refl _ _ | (refine bl_alloc ?_ _) | (refine Below.drew ?_) | (refine bl_drewN ?_ _) | (refine bl_set ?_ (by simp) _) | (refine bl_trans ?_ (by assumption)) | (refine bl_step ?_ (by assumption) (by first | omega | exact Below.size (by assumption) | (simp; omega) | (simp; exact Below.size (by assumption))))))
    clear hR
    go_enter Try.func37, Try.ntmps37
    go_wp2
    go_loopw [5, 6, 7, 9, 10, 16] (fun _ _ _ _ _ i wr => ∃ (k : Nat) (S : List Pt), k ≤ Ls.length ∧ i = .int .i64 k ∧ Hid ((aptL S ((held Ls).drop k)).isSome = R) ∧ Tak fI 80 wr w.heap.size S ∧ Below w.heap.size w wr) (fun _ _ _ _ _ i _ => Ls.length - (intOf i).toNat)
    case atStart => exact ⟨0, [], Nat.zero_le _, rfl, HR0, tk0, b0⟩
    case round =>
      clear tk0 b0 HR0
      obtain ⟨k, S, hk, rfl, HR, hT, hb⟩ := hrel
      have hk0 : 0 ≤ (k : Int) := by omega
      by_cases hlt : k < Ls.length
      · obtain ⟨b, off, rfl, hbB, hc⟩ := hp (by omega)
        obtain ⟨c0, hpk, hcl, hcm⟩ := hc k hlt
        have d0 := (hb.cell (p := ⟨b, off + k, none⟩) hbB).trans c0
        have hltI : (k : Int) < (Ls.length : Int) := by omega
        have hlk := hl k hlt
        have hpk2 := (hpk.keepB hb).mono hb.size
        have hD := drop_at (l := held Ls) (k := k) (by rw [held_len]; exact hlt)
        rw [held_at] at hD
        obtain ⟨z, hz⟩ : ∃ z, Ls.getD k sl0 = z := ⟨_, rfl⟩
        rw [hz] at d0 hlk hpk2 hD hcl
        obtain ⟨A2, P, c2⟩ := z
        simp only at d0 hlk hpk2 hD hcl
        cases hok : okT P
        · have HF : Hid (R = false) := by show _ = _; rw [← HR.out, hD]; exact apt_bad hok
          have cI := PathThroughI_any A2 P c2 wr hpk2 hlk hcl
          rw [hok] at cI
          clear hD hc c0 hpk hz hok hpk2 hp hl
          go_wp2_with fail
          refine cI.mono ?_
          rintro e w3 ⟨A3, c3, rfl, o3, hb3⟩
          go_wp2
          go_ret
          exact ⟨retB (by rw [F.out, HF.out]), bl_trans hb hb3⟩
        · have HG : Hid (goes S ((thrL P).drop 0) ((held Ls).drop (k + 1)) = R) := by show _ = _; rw [← HR.out, hD]; exact (apt_ok hok).symm
          have hpts := through_pts hok
          have hL576 : (thrL P).length ≤ 1048576 := thrL_le P
          have cI := PathThroughI_any A2 P c2 wr hpk2 hlk hcl
          rw [hok] at cI
          generalize thrL P = L at *
          obtain ⟨rest, hrest⟩ : ∃ rest, (held Ls).drop (k + 1) = rest := ⟨_, rfl⟩
          rw [hrest] at HG hD
          have HRS := Lib.hid hrest
          have hzr : w.heap.size < wr.heap.size := hT.lt
          have HPTS := Lib.hid hpts
          clear hD hc c0 hpk hz hok hpk2 hp hl HR hpts hrest
          go_wp2_with fail
          refine cI.mono ?_
          rintro e w3 ⟨A3, c3, rfl, o3, hb3⟩
          have hT3 := hT.to hb3
          have b3 := bl_trans hb hb3
          have own3 : 0 < L.length → ∃ g, A3 = some ⟨g, 0, none⟩ ∧ w.heap.size < g ∧ PBlk2 w3 g L L.length := fun h0 => by obtain ⟨g, e, hg, hP⟩ := o3 h0; exact ⟨g, e, by omega, hP⟩
          have hz3 := b3.size
          have hLI : (L.length : Int) ≤ 1048576 := by omega
          clear hT hb hb3 o3 cI d0 hzr
          go_wp2_with fail
          go_loopw [9, 10, 29] (fun _ _ i wr2 => ∃ (j : Nat) (S' : List Pt), j ≤ L.length ∧ i = .int .i64 j ∧ Hid (goes S' (L.drop j) rest = R) ∧ Tak fI 80 wr2 w.heap.size S' ∧ Below w.heap.size w wr2 ∧ w3.grownBy wr2 (some w.heap.size)) (fun _ _ i _ => L.length - (intOf i).toNat)
          case atStart => exact ⟨0, S, Nat.zero_le _, rfl, HG, hT3, b3, World.grownBy.refl _ _⟩
          case round =>
            clear HG hT3 b3
            obtain ⟨j, S', hj, rfl, HG, hT, hb, hb'⟩ := hrel
            have hj0 : 0 ≤ (j : Int) := by omega
            by_cases hlj : j < L.length
            · obtain ⟨g3, rfl, hg3, hP3⟩ := own3 (by omega)
              obtain ⟨c1, c2'⟩ := hP3.at_ hlj hlj
              have e0 := (World.grownBy.cell_far hb' ⟨g3, j * 2, none⟩ hP3.lt (by simp; omega)).trans c1
              have e1 := (World.grownBy.cell_far hb' ⟨g3, j * 2 + 1, none⟩ hP3.lt (by simp; omega)).trans c2'
              have hljI : (j : Int) < (L.length : Int) := by omega
              have hD := drop_atP hlj
              have hpt := HPTS.out (L.getD j (0, 0)) (by simp [List.getD_eq_getElem?_getD, hlj])
              obtain ⟨x, y, hx, hy, hxy⟩ := pt_nat hpt
              rw [hxy] at e0 e1 hD
              simp only at e0 e1
              clear c1 c2' hpt hxy
              have hT1 : Tak fI 80 (wr.alloc (.cells #[.int .i64 (x : Int), .int .i64 (y : Int)] 34)) w.heap.size S' := hT.to ((Below.refl _ _).alloc (Nat.le_refl _) _)
              have hb1 : Below w.heap.size w (wr.alloc (.cells #[.int .i64 (x : Int), .int .i64 (y : Int)] 34)) := by (repeat (first | assumption | exact Below.refl _ _ | (refine bl_alloc ?_ _) | (refine Below.drew ?_) | (refine bl_drewN ?_ _) | (refine bl_set ?_ (by simp) _) | (refine bl_trans ?_ (by assumption)) | (refine bl_step ?_ (by assumption) (by first | omega | exact Below.size (by assumption) | (simp; omega) | (simp; exact Below.size (by assumption))))))
              have hb1' : w3.grownBy (wr.alloc (.cells #[.int .i64 (x : Int), .int .i64 (y : Int)] 34)) (some w.heap.size) := Gr.below hb' ((Below.refl _ _).alloc hb'.size _)
              clear hT hb hb'
              go_wp2_with fail
              refine (cell_any w.heap.size x y _ hx hy).mono ?_
              rintro e w5 ⟨rfl, hb5⟩
              have hT5 := hT1.to hb5
              have b5 := bl_trans hb1 hb5
              have b5' : w3.grownBy w5 (some w.heap.size) := Gr.below hb1' (hb5.mono hb1'.size)
              obtain ⟨t0, f0⟩ := hT5.at_ hx hy
              clear hT1 hb1 hb1' hb5 e0 e1
              by_cases hin : ((x : Int), (y : Int)) ∈ S'
              · have HF : Hid (R = false) := by show _ = _; rw [← HG.out, hD]; exact goes_in hin
                rw [decide_eq_true hin] at t0
                clear hD hin HG
                go_wp2
                go_ret
                exact ⟨retB (by rw [F.out, HF.out]), b5⟩
              · have HG2 : Hid (goes (S' ++ [((x : Int), (y : Int))]) (L.drop (j + 1)) rest = R) := by show _ = _; rw [← HG.out, hD]; exact (goes_out hin).symm
                rw [decide_eq_false hin] at t0
                have hT6 := hT5.put injI ltI hx hy
                have b6 : Below w.heap.size w (w5.setCell ⟨w.heap.size, fI x y, none⟩ (.bool true)) := b5.setCell (p := ⟨w.heap.size, fI x y, none⟩) (Nat.le_refl _) _
                have b6' : w3.grownBy (w5.setCell ⟨w.heap.size, fI x y, none⟩ (.bool true)) (some w.heap.size) := Gr.set_ b5' _ _
                clear hD hin HG hT5
                go_wp2
                go_roundw
                case rel => exact ⟨j + 1, S' ++ [((x : Int), (y : Int))], by omega, by go_num, HG2, hT6, b6, b6'⟩
                case measure => simp [intOf]; omega
            · obtain rfl : j = L.length := by omega
              have HG2 : Hid ((aptL S' ((held Ls).drop (k + 1))).isSome = R) := by show _ = _; rw [HRS.out, ← HG.out, List.drop_length]; rfl
              go_wp2
              go_roundw
              case rel => exact ⟨k + 1, S', by omega, by go_num, HG2, hT, hb⟩
              case measure => simp [intOf]; omega
      · obtain rfl : k = Ls.length := by omega
        have HF : Hid (R = true) := by show _ = _; rw [← HR.out, ← held_len Ls, List.drop_length]; rfl
        go_wp2
        go_ret
        exact ⟨retB (by rw [F.out, HF.out]), hb⟩

set_option maxRecDepth 100000 in
set_option maxHeartbeats 3200000 in
theorem AreApartS_any (A : Option Addr) (Ls : List Sl) (c : Nat) (w : World) (hp : SSAt w w.heap.size A Ls) (hn : Ls.length ≤ 1048576) (hl : ∀ i, i < Ls.length → (Ls.getD i sl0).2.1.length ≤ 1048576) :
    Calls Try.prog 62 #[.slice A Ls.length c] w fun e w' => e = .returned (.bool (apartB (held Ls))) ∧ Below w.heap.size w w' := by
  have hnI : (Ls.length : Int) ≤ 1048576 := by omega
  by_cases h20 : 20 < Ls.length
  · have hI : 20 < (Ls.length : Int) := by omega
    have F := Lib.hid (apart_long (Ls := held Ls) (by rw [held_len]; exact h20))
    go_enter Try.func62, Try.ntmps62
    go_wp2
    go_ret
    exact ⟨retB (by rw [F.out]), by (repeat (first | assumption | exact Below.refl _ _ | (refine bl_alloc ?_ _) | (refine Below.drew ?_) | (refine bl_drewN ?_ _) | (refine bl_set ?_ (by simp) _) | (refine bl_trans ?_ (by assumption)) | (refine bl_step ?_ (by assumption) (by first | omega | exact Below.size (by assumption) | (simp; omega) | (simp; exact Below.size (by assumption))))))⟩
  · have hI : ¬ 20 < (Ls.length : Int) := by omega
    have hd : decide (20 < Ls.length) = false := decide_eq_false h20
    have F := Lib.hid (apart_few (Ls := held Ls) (by rw [held_len]; omega))
    obtain ⟨R, hR⟩ : ∃ R, (aptL [] (held Ls)).isSome = R := ⟨_, rfl⟩
    rw [hR] at F
    have HR0 : Hid ((aptL [] ((held Ls).drop 0)).isSome = R) := hR
    have tk0 := Tak.newS w
    have hmk := run_mkbools w
    obtain ⟨Z, hZ⟩ : ∃ Z, madeCells #[.bool false] 10000 = Z := ⟨_, rfl⟩
    rw [hZ] at tk0 hmk
    have b0 : Below w.heap.size w (w.alloc (.cells Z 4)) := by (repeat (first | assumption | exact Below.refl _ _ | (refine bl_alloc ?_ _) | (refine Below.drew ?_) | (refine bl_drewN ?_ _) | (refine bl_set ?_ (by simp) _) | (refine bl_trans ?_ (by assumption)) | (refine bl_step ?_ (by assumption) (by first | omega | exact Below.size (by assumption) | (simp; omega) | (simp; exact Below.size (by assumption))))))
    clear hR hZ
    go_enter Try.func62, Try.ntmps62
    go_wp2
    clear hmk
    go_loopw [4, 5, 6, 7, 8] (fun i _ _ _ _ wr => ∃ (k : Nat) (S : List Pt), k ≤ Ls.length ∧ i = .int .i64 k ∧ Hid ((aptL S ((held Ls).drop k)).isSome = R) ∧ Tak fS 4 wr w.heap.size S ∧ Below w.heap.size w wr) (fun i _ _ _ _ _ => Ls.length - (intOf i).toNat)
    case atStart => exact ⟨0, [], Nat.zero_le _, rfl, HR0, tk0, b0⟩
    case round =>
      clear tk0 b0 HR0
      obtain ⟨k, S, hk, rfl, HR, hT, hb⟩ := hrel
      have hk0 : 0 ≤ (k : Int) := by omega
      by_cases hlt : k < Ls.length
      · obtain ⟨b, off, rfl, hbB, hc⟩ := hp (by omega)
        obtain ⟨c0, hpk, hcl, hcm⟩ := hc k hlt
        have d0 := (hb.cell (p := ⟨b, off + k, none⟩) hbB).trans c0
        have hltI : (k : Int) < (Ls.length : Int) := by omega
        have hlk := hl k hlt
        have hpk2 := (hpk.keepB hb).mono hb.size
        have hD := drop_at (l := held Ls) (k := k) (by rw [held_len]; exact hlt)
        rw [held_at] at hD
        obtain ⟨z, hz⟩ : ∃ z, Ls.getD k sl0 = z := ⟨_, rfl⟩
        rw [hz] at d0 hlk hpk2 hD hcl
        obtain ⟨A2, P, c2⟩ := z
        simp only at d0 hlk hpk2 hD hcl
        cases hok : okT P
        · have HF : Hid (R = false) := by show _ = _; rw [← HR.out, hD]; exact apt_bad hok
          have cI := l01Through_any A2 P c2 wr hpk2 hlk
          rw [hok] at cI
          clear hD hc c0 hpk hz hok hpk2 hp hl
          go_wp2_with fail
          refine cI.mono ?_
          rintro e w3 ⟨A3, c3, rfl, o3, hb3⟩
          go_wp2
          go_ret
          exact ⟨retB (by rw [F.out, HF.out]), bl_trans hb hb3⟩
        · have HG : Hid (goes S ((thrL P).drop 0) ((held Ls).drop (k + 1)) = R) := by show _ = _; rw [← HR.out, hD]; exact (apt_ok hok).symm
          have hpts := through_pts hok
          have hL576 : (thrL P).length ≤ 1048576 := thrL_le P
          have cI := l01Through_any A2 P c2 wr hpk2 hlk
          rw [hok] at cI
          generalize thrL P = L at *
          obtain ⟨rest, hrest⟩ : ∃ rest, (held Ls).drop (k + 1) = rest := ⟨_, rfl⟩
          rw [hrest] at HG hD
          have HRS := Lib.hid hrest
          have hzr : w.heap.size < wr.heap.size := hT.lt
          have HPTS := Lib.hid hpts
          clear hD hc c0 hpk hz hok hpk2 hp hl HR hpts hrest
          go_wp2_with fail
          refine cI.mono ?_
          rintro e w3 ⟨A3, c3, rfl, o3, hb3⟩
          have hT3 := hT.to hb3
          have b3 := bl_trans hb hb3
          have own3 : 0 < L.length → ∃ g, A3 = some ⟨g, 0, none⟩ ∧ w.heap.size < g ∧ PBlk2 w3 g L L.length := fun h0 => by obtain ⟨g, e, hg, hP⟩ := o3 h0; exact ⟨g, e, by omega, hP⟩
          have hz3 := b3.size
          have hLI : (L.length : Int) ≤ 1048576 := by omega
          clear hT hb hb3 o3 cI d0 hzr
          go_wp2_with fail
          go_loopw [7, 8] (fun i _ wr2 => ∃ (j : Nat) (S' : List Pt), j ≤ L.length ∧ i = .int .i64 j ∧ Hid (goes S' (L.drop j) rest = R) ∧ Tak fS 4 wr2 w.heap.size S' ∧ Below w.heap.size w wr2 ∧ w3.grownBy wr2 (some w.heap.size)) (fun i _ _ => L.length - (intOf i).toNat)
          case atStart => exact ⟨0, S, Nat.zero_le _, rfl, HG, hT3, b3, World.grownBy.refl _ _⟩
          case round =>
            clear HG hT3 b3
            obtain ⟨j, S', hj, rfl, HG, hT, hb, hb'⟩ := hrel
            have hj0 : 0 ≤ (j : Int) := by omega
            by_cases hlj : j < L.length
            · obtain ⟨g3, rfl, hg3, hP3⟩ := own3 (by omega)
              obtain ⟨c1, c2'⟩ := hP3.at_ hlj hlj
              have e0 := (World.grownBy.cell_far hb' ⟨g3, j * 2, none⟩ hP3.lt (by simp; omega)).trans c1
              have e1 := (World.grownBy.cell_far hb' ⟨g3, j * 2 + 1, none⟩ hP3.lt (by simp; omega)).trans c2'
              have hljI : (j : Int) < (L.length : Int) := by omega
              have hD := drop_atP hlj
              have hpt := HPTS.out (L.getD j (0, 0)) (by simp [List.getD_eq_getElem?_getD, hlj])
              obtain ⟨x, y, hx, hy, hxy⟩ := pt_nat hpt
              rw [hxy] at e0 e1 hD
              simp only at e0 e1
              obtain ⟨t0, f0⟩ := hT.at_ hx hy
              obtain ⟨at', hat⟩ : ∃ a : Nat, fS x y = a := ⟨_, rfl⟩
              have hatv : at' = x * 100 + y := by rw [← hat]; rfl
              have hw1 : IntKind.i64.wrap ((x : Int) * 100) = (x : Int) * 100 := IntWalk.i64_in _ (by omega)
              have hw2 : IntKind.i64.wrap ((x : Int) * 100 + (y : Int)) = (at' : Int) := by rw [IntWalk.i64_in _ (by omega), hatv]; omega
              have hat0 : 0 ≤ (at' : Int) := by omega
              have hat1 : (at' : Int) < 10000 := by omega
              rw [hat] at t0 f0
              have HAT := Lib.hid hat
              clear c1 c2' hpt hxy hat hatv
              by_cases hin : ((x : Int), (y : Int)) ∈ S'
              · have HF : Hid (R = false) := by show _ = _; rw [← HG.out, hD]; exact goes_in hin
                rw [decide_eq_true hin] at t0
                clear hD hin HG
                go_wp2
                go_quiet (fail)
                go_wp2
                go_ret
                exact ⟨retB (by rw [F.out, HF.out]), by (repeat (first | assumption | exact Below.refl _ _ | (refine bl_alloc ?_ _) | (refine Below.drew ?_) | (refine bl_drewN ?_ _) | (refine bl_set ?_ (by simp) _) | (refine bl_trans ?_ (by assumption)) | (refine bl_step ?_ (by assumption) (by first | omega | exact Below.size (by assumption) | (simp; omega) | (simp; exact Below.size (by assumption))))))⟩
              · have HG2 : Hid (goes (S' ++ [((x : Int), (y : Int))]) (L.drop (j + 1)) rest = R) := by show _ = _; rw [← HG.out, hD]; exact (goes_out hin).symm
                rw [decide_eq_false hin] at t0
                have hT6 := hT.put injS ltS hx hy
                have b6 : Below w.heap.size w (wr.setCell ⟨w.heap.size, fS x y, none⟩ (.bool true)) := hb.setCell (p := ⟨w.heap.size, fS x y, none⟩) (Nat.le_refl _) _
                have b6' : w3.grownBy (wr.setCell ⟨w.heap.size, fS x y, none⟩ (.bool true)) (some w.heap.size) := Gr.set_ hb' _ _
                rw [HAT.out] at hT6 b6 b6'
                clear hD hin HG
                go_wp2
                go_quiet (fail)
                go_wp2
                go_roundw
                case rel => exact ⟨j + 1, S' ++ [((x : Int), (y : Int))], by omega, by go_num, HG2, hT6, ⟨b6.os, b6.tape, b6.output, b6.size, b6.block⟩, ⟨b6'.os, b6'.tape, b6'.output, b6'.size, b6'.block⟩⟩
                case measure => simp [intOf]; omega
            · obtain rfl : j = L.length := by omega
              have HG2 : Hid ((aptL S' ((held Ls).drop (k + 1))).isSome = R) := by show _ = _; rw [HRS.out, ← HG.out, List.drop_length]; rfl
              go_wp2
              go_roundw
              case rel => exact ⟨k + 1, S', by omega, by go_num, HG2, hT, hb⟩
              case measure => simp [intOf]; omega
      · obtain rfl : k = Ls.length := by omega
        have HF : Hid (R = true) := by show _ = _; rw [← HR.out, ← held_len Ls, List.drop_length]; rfl
        go_wp2
        go_ret
        exact ⟨retB (by rw [F.out, HF.out]), hb⟩
end Go.Proofs.Ytfmkedmhbmcbiaa
