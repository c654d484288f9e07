/-
  Contracts: is a list an order, and are lists a layout, as the model has it.
-/
import Derived.Test.YtifenbamookmiaaDoorBunS
import Derived.Test.YtifenbamookmiaaDoorFBlk
namespace Go.Proofs.YtifenbamookmiaaDoor
set_option linter.unusedSimpArgs false
set_option linter.unusedVariables false
open Go.ChangeShapes Go.WideShapes Go.ChangeAt Go.RowKit Go.BigFrame

/-- A law's three things: a bundle's rows in memory. -/
def ShI (Ls : List SlI) : Prop := Ls.length ≤ 1048576 ∧ ∀ i, i < Ls.length → (Ls.getD i si0).2.1.length ≤ 1048576
theorem rise_shd {n : Nat} {S : List Int} : ∀ k, riseTo S 1 ((n : Int) - 1) k = okTo (shdB n S) k
  | 0 => rfl
  | k + 1 => by
    unfold riseTo okTo
    rw [rise_shd k]
    cases h : okTo (shdB n S) k
    · rfl
    simp only [Bool.true_and]
    unfold riseAt shdB
    congr 1
    rw [Bool.eq_iff_iff, okTo_iff]
    simp only [Bool.or_eq_true, decide_eq_true_eq]
    constructor
    · rintro h1 t ht
      rcases h1 with h1 | h1
      · omega
      · by_cases e : t = k - 1
        · rw [e]; exact h1
        · have := okTo_iff.1 h (k - 1) (by omega)
          simp only [shdB, Bool.and_eq_true, okTo_iff, decide_eq_true_eq] at this
          have := this.2 t (by omega)
          omega
    · intro h1
      by_cases e : k = 0
      · exact .inl e
      · exact .inr (h1 (k - 1) (by omega))
theorem rises_shd {n : Nat} {S : List Int} : rises S 1 ((n : Int) - 1) = shB n S := rise_shd _
theorem seen_next {L : List Int} {k x : Nat} (h : L.getD k 0 = (x : Int)) : upd (fun (j : Nat) => !newB L k (j : Int)) x = fun (j : Nat) => !newB L (k + 1) (j : Int) := by
  funext j
  unfold upd
  rw [newB_next, h]
  by_cases e : j = x
  · rw [if_pos e, e]; simp
  · rw [if_neg e]
    have : decide ((x : Int) ≠ (j : Int)) = true := decide_eq_true (by omega)
    rw [this]; simp
set_option maxRecDepth 100000 in
set_option maxHeartbeats 3200000 in
theorem l10Order_any (g : Nat) (A : Option Addr) (Ls : List SlI) (c : Nat) (AO : Option Addr) (L : List Int) (cO : Nat) (w : World) (hg : w.cell? ⟨g, 0, none⟩ = some (.slice A Ls.length c)) (hgl : g < w.heap.size) (hp : ISAt w w.heap.size A Ls) (hs : ShI Ls) (hL : IntsAt w w.heap.size AO L) (lL : L.length ≤ 1048576) :
    Calls Tryd.prog 42 #[.pointer (some ⟨g, 0, none⟩), .slice AO L.length cO] w fun e w' => e = .returned (.bool (bnB (heldI Ls) && orB Ls.length L)) ∧ Below w.heap.size w w' := by
  have CI := Lib.hid (l10Is_any g A Ls c w hg hgl hp hs.1 hs.2)
  have HLe := heldI_len Ls
  have lLI : (L.length : Int) ≤ 1048576 := by omega
  cases hb : bnB (heldI Ls)
  · rw [hb] at CI
    clear hp hs hL HLe
    generalize Ls.length = n at *
    generalize L.length = l at *
    go_enter Tryd.func42, Tryd.ntmps42
    go_wp2_with fail
    refine CI.out.mono ?_
    rintro e w1 ⟨rfl, hb1⟩
    go_wp2
    go_ret
    exact ⟨rfl, hb1⟩
  rw [hb] at CI
  have o := bnB_iff.1 hb
  have h1 := o.h1; have h9 := o.h9
  rw [HLe] at h1 h9
  simp only [Bool.true_and]
  by_cases hn : L.length = Ls.length
  case neg =>
    have HF : Hid (orB Ls.length L = false) := orB_len hn
    have hne := int_ne hn
    have hne2 := nat_ne hn
    rw [HF.out]
    clear hp hs hL HLe hn o hb
    generalize Ls.length = n at *
    generalize L.length = l at *
    go_enter Tryd.func42, Tryd.ntmps42
    go_wp2_with fail
    refine CI.out.mono ?_
    rintro e w1 ⟨rfl, hb1⟩
    have dg := (hb1.cell (p := ⟨g, 0, none⟩) hgl).trans hg
    go_wp2
    go_ret
    exact ⟨rfl, hb1⟩
  obtain ⟨n, hN⟩ : ∃ n, Ls.length = n := ⟨_, rfl⟩
  have HX : Hid (0 < n → ∃ b off, AO = some ⟨b, off, none⟩ ∧ b < w.heap.size ∧ ∀ i, i < n → w.cell? ⟨b, off + i, none⟩ = some (.int .i64 (L.getD i 0))) := by
    intro h; rw [← hN, ← hn] at h ⊢; exact hL h
  rw [hN] at hn hg h1 h9 ⊢
  have HLN := Lib.hid hn
  rw [hn]
  have hmk := run_mkbools n (by omega)
  have hn9 : (n : Int) ≤ 9 := by omega
  have hne := int_eq (show n = n from rfl)
  have hne2 := nat_eq (show n = n from rfl)
  have HOT : Hid (okTo (stepB n L) n = true → orB n L = true) := fun h => by unfold orB; rw [h, decide_eq_true HLN.out]; rfl
  have HOF : Hid (∀ k, k < n → stepB n L k = false → orB n L = false) := fun k hk h => orB_step (by rw [HLN.out]; exact hk) h
  clear hp hs hL HLe hn o hb hN lL lLI
  go_enter Tryd.func42, Tryd.ntmps42
  go_wp2_with fail
  refine CI.out.mono ?_
  rintro e w1 ⟨rfl, hb1⟩
  have dg := (hb1.cell (p := ⟨g, 0, none⟩) hgl).trans hg
  go_wp2
  have hF0 : FBlk (w1.alloc (.cells (blankF n) 4)) w1.heap.size n (fun (j : Nat) => !newB L 0 (j : Int)) := FBlk.new w1 n
  have hb0 : Below w.heap.size w (w1.alloc (.cells (blankF n) 4)) := bl_trans hb1 ((Below.refl _ _).alloc (Nat.le_refl _) _)
  have hsz := hb1.size
  clear hmk dg CI hne hne2
  generalize (w1.alloc (.cells (blankF n) 4)) = w3 at *
  generalize w1.heap.size = G at *
  go_loopw [6] (fun i wr => ∃ k : Nat, k ≤ n ∧ i = .int .i64 k ∧ Hid (FBlk wr G n (fun (j : Nat) => !newB L k (j : Int)) ∧ okTo (stepB n L) k = true) ∧ Below w.heap.size w wr) (fun i _ => n - (intOf i).toNat)
  case atStart => exact ⟨0, Nat.zero_le _, rfl, ⟨hF0, rfl⟩, hb0⟩
  case round =>
    clear hF0 hb0 hb1
    obtain ⟨k, hk, rfl, HFJ, hb⟩ := hrel
    have hk0 : (0 : Int) ≤ (k : Int) := by omega
    by_cases hlt : k < n
    case neg =>
      obtain rfl : k = n := by omega
      have R := Lib.hid (HOT.out HFJ.out.2)
      go_wp2
      go_ret
      exact ⟨retB (by rw [R.out]), hb⟩
    have hkI : (k : Int) < (n : Int) := by omega
    obtain ⟨b, off, rfl, hbB, hc⟩ := HX.out (by omega)
    have dk := (hb.cell (p := ⟨b, off + k, none⟩) hbB).trans (hc k hlt)
    have HST : Hid (stepB n L k = (inB (L.getD k 0) 0 ((n : Int) - 1) && newB L k (L.getD k 0))) := rfl
    obtain ⟨x, hx⟩ : ∃ x, L.getD k 0 = x := ⟨_, rfl⟩
    rw [hx] at dk HST
    have HXK := Lib.hid hx
    clear hc hx
    cases hin : inB x 0 ((n : Int) - 1)
    · have R := Lib.hid (HOF.out k hlt (by rw [HST.out, hin]; rfl))
      have HI := Lib.hid hin
      clear hin HFJ
      go_wp2_with fail
      refine (l00In_at HI _).mono ?_
      rintro e w' ⟨rfl, rfl⟩
      go_wp2
      go_ret
      exact ⟨retB (by rw [R.out]), hb⟩
    obtain ⟨x, rfl⟩ : ∃ y : Nat, x = y := ⟨x.toNat, by have : 0 ≤ x ∧ x ≤ _ := of_decide_eq_true hin; omega⟩
    have hxn : x < n := by have : (0 : Int) ≤ x ∧ (x : Int) ≤ (n : Int) - 1 := of_decide_eq_true hin; omega
    have hxI : (x : Int) < (n : Int) := by omega
    have hx0 : (0 : Int) ≤ (x : Int) := by omega
    have cF := HFJ.out.1.at_ hxn
    have fF := HFJ.out.1.frozen x
    have hF := HFJ.out.1
    have HOk := Lib.hid HFJ.out.2
    have HI := Lib.hid hin
    clear HFJ
    cases hs : newB L k (x : Int)
    · have R := Lib.hid (HOF.out k hlt (by rw [HST.out, hin, hs]; rfl))
      rw [hs] at cF
      clear hin hs hF
      go_wp2_with fail
      refine (l00In_at HI _).mono ?_
      rintro e w' ⟨rfl, rfl⟩
      go_wp2
      go_ret
      exact ⟨retB (by rw [R.out]), hb⟩
    · have HN : Hid (okTo (stepB n L) (k + 1) = true) := okTo_next HOk.out (by rw [HST.out, hin, hs]; rfl)
      have hF2 := hF.set_ hxn
      rw [seen_next HXK.out] at hF2
      have hb3 : Below w.heap.size w (wr.setCell ⟨G, x, none⟩ (.bool true)) := hb.setCell (p := ⟨G, x, none⟩) (by simp; omega) _
      have HFN : Hid (FBlk (wr.setCell ⟨G, x, none⟩ (.bool true)) G n (fun (j : Nat) => !newB L (k + 1) (j : Int)) ∧ okTo (stepB n L) (k + 1) = true) := ⟨hF2, HN.out⟩
      rw [hs] at cF
      clear hin hs hF hF2 HN HOk
      go_wp2_with fail
      refine (l00In_at HI _).mono ?_
      rintro e w' ⟨rfl, rfl⟩
      go_wp2
      go_roundw
      case rel => exact ⟨k + 1, by omega, by go_num, HFN, hb3⟩
      case measure => simp [intOf]; omega
set_option maxRecDepth 100000 in
set_option maxHeartbeats 3200000 in
theorem l10Layout_any (g : Nat) (A : Option Addr) (Ls : List SlI) (c : Nat) (AO : Option Addr) (L : List Int) (cO : Nat) (AS : Option Addr) (S : List Int) (cS : Nat) (w : World) (hg : w.cell? ⟨g, 0, none⟩ = some (.slice A Ls.length c)) (hgl : g < w.heap.size) (hp : ISAt w w.heap.size A Ls) (hs : ShI Ls) (hL : IntsAt w w.heap.size AO L) (lL : L.length ≤ 1048576) (hS : IntsAt w w.heap.size AS S) (lS : S.length ≤ 1048576) :
    Calls Tryd.prog 27 #[.pointer (some ⟨g, 0, none⟩), .slice AO L.length cO, .slice AS S.length cS] w fun e w' => e = .returned (.bool (loB (heldI Ls) L S)) ∧ Below w.heap.size w w' := by
  have CO := Lib.hid (l10Order_any g A Ls c AO L cO w hg hgl hp hs hL lL)
  have HLe := heldI_len Ls
  have lLI : (L.length : Int) ≤ 1048576 := by omega
  have lSI : (S.length : Int) ≤ 1048576 := by omega
  cases hb : bnB (heldI Ls) && orB Ls.length L
  · have R : Hid (loB (heldI Ls) L S = false) := by show _ = _; unfold loB; rw [HLe, ← Bool.and_assoc, hb]; rfl
    rw [hb] at CO
    rw [R.out]
    clear hp hs hL HLe hS hb
    generalize Ls.length = n at *
    generalize L.length = l at *
    generalize S.length = ls at *
    go_enter Tryd.func27, Tryd.ntmps27
    go_wp2_with fail
    refine CO.out.mono ?_
    rintro e w1 ⟨rfl, hb1⟩
    go_wp2
    go_ret
    exact ⟨rfl, hb1⟩
  have R : Hid (loB (heldI Ls) L S = shB Ls.length S) := by show _ = _; unfold loB; rw [HLe, ← Bool.and_assoc, hb]; rfl
  have hn : L.length = Ls.length := by
    rw [Bool.and_eq_true, orB_iff] at hb
    exact hb.2.len
  have h1 : 1 ≤ Ls.length := by
    rw [Bool.and_eq_true, bnB_iff] at hb
    have := hb.1.h1; omega
  rw [hb] at CO
  rw [R.out]
  have CR0 := fun (wx : World) (hx : Below w.heap.size w wx) => l00Rises_any AS S cS 1 ((Ls.length : Int) - 1) wx (hS.to hx) lS
  rw [rises_shd] at CR0
  have CR := Lib.hid CR0
  rw [hn] at CO lLI ⊢
  clear hp hs hL HLe hS hb hn lL CR0 R
  generalize Ls.length = n at *
  generalize shB n S = v at *
  generalize S.length = ls at *
  go_enter Tryd.func27, Tryd.ntmps27
  go_wp2_with fail
  refine CO.out.mono ?_
  rintro e w1 ⟨rfl, hb1⟩
  go_wp2_with fail
  refine (CR.out _ hb1).mono ?_
  rintro e w2 ⟨rfl, hb2⟩
  go_wp2
  go_ret
  exact ⟨rfl, bl_trans hb1 hb2⟩
end Go.Proofs.YtifenbamookmiaaDoor
