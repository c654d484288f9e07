/-
  Contracts: the points of the grid of pins, as the program has them.
-/
import Derived.Test.YtepamhdopmfkfaaHanan
import Derived.Test.YtepamhdopmfkfaaSortI
namespace Go.Proofs.Ytepamhdopmfkfaa
set_option linter.unusedSimpArgs false
set_option linter.unusedVariables false
open Go.ChangeShapes Go.WideShapes Go.ChangeAt Go.RowKit Go.Shelf
open Go.Proofs.Ytepamhdopmfkfaa.fnExactBoxOf

theorem append_han {ops : Array Oper} {rest : List Oper} {o : Oper} {a : Act} {Q : Exit → Act → World → Prop} (hgd : o.guard = none) (s x : Operand)
    (ho : o.op = .call { callee := .builtin .append, args := #[s, x], argTypes := #[25, 25] }) (w : World) (base : Nat) (v : Value) (L : List (Int × Int)) (X Y : Int)
    (hs : a.eval s = v) (hown : OwnL w base v L) (B0 : Nat) (hB0 : B0 = w.heap.size) (hx : a.eval x = .slice (some ⟨B0, 0, none⟩) 1 1) (hL : L.length ≤ 1000000) (hbase : base ≤ w.heap.size)
    (h : ∀ v' w', OwnL w' base v' (L ++ [(X, Y)]) → (∀ a0 B, B ≤ base → Below B a0 w → Below B a0 w') → (∀ g p, PtB w g p → Off v g → PtB w' g p ∧ Off v' g) → wpList Try.prog ops Q rest (a.put o.dst v') w') :
    wpList Try.prog ops Q (o :: rest) a (w.alloc (.cells #[.int .i64 X, .int .i64 Y] 33)) := append_at hgd s x ho w base v L X Y hs hown B0 hB0 hx hL hbase h

def HanRes (ps : List Pt) (w : World) (e : Ending) (w' : World) : Prop :=
  ∃ A c, e = .returned (.slice A (srtL (hanA ps)).length c) ∧ Own3 w' w.heap.size A (srtL (hanA ps)) ∧ Below w.heap.size w w'
set_option maxRecDepth 100000 in
set_option maxHeartbeats 3200000 in
theorem hananPoints_any (A : Option Addr) (ps : List Pt) (c : Nat) (w : World) (hp : PtsAt w w.heap.size A ps) (h0 : 0 < ps.length) (hl : ps.length ≤ 7) :
    Calls Try.prog 55 #[.slice A ps.length c] w (HanRes ps w) := by
  have eg : ∀ args w, (callFunc 91 args).run Try.prog w = .ok (.enter 91 args) w := enters_of Try.func91 (by kernel_rfl) rfl
  have EG := Lib.hid eg
  clear eg
  go_enter Try.func55, Try.ntmps55
  go_wp2
  go_loopw [3, 5, 7, 10, 14, 15, 16] (fun v _ _ i _ _ _ wr => ∃ k : Nat, k ≤ ps.length ∧ i = .int .i64 k ∧ OwnL wr w.heap.size v (hanL ps k 0) ∧ Below w.heap.size w wr) (fun _ _ _ i _ _ _ _ => ps.length - (intOf i).toNat)
  case atStart => exact ⟨0, Nat.zero_le _, rfl, by rw [hanL_zero]; exact ⟨rfl, .inl ⟨rfl, rfl⟩⟩, Below.refl _ _⟩
  case round =>
    obtain ⟨k, hk, rfl, hown, hb⟩ := hrel
    by_cases hlt : k < ps.length
    · have hltI : (k : Int) < (ps.length : Int) := by omega
      have hk0 : (0 : Int) ≤ (k : Int) := by omega
      have HRow := Lib.hid (hanL_row hlt)
      obtain ⟨b, off, hA, hbB, hc⟩ := hp (by omega)
      subst hA
      obtain ⟨c0, c1⟩ := hc k hlt
      have d0 := (hb.cell (p := ⟨b, off + k * 2, none⟩) hbB).trans c0
      have d1 := (hb.cell (p := ⟨b, off + k * 2 + 1, none⟩) hbB).trans c1
      have HNx := Lib.hid (fun (m : Nat) (hm : m < ps.length) => hanL_next (ps := ps) (i := k) hm)
      obtain ⟨p, hpk⟩ : ∃ p, ps.getD k (0, 0) = p := ⟨_, rfl⟩
      rw [hpk] at d0 d1 HNx
      obtain ⟨X, Y⟩ := p
      simp only at d0 d1 HNx
      have bx : Below wr.heap.size wr (wr.alloc (.cells #[.int .i64 X, .int .i64 Y] 33)) := by (repeat (first | assumption | exact Below.refl _ _ | (refine bl_alloc ?_ _) | (refine Below.drew ?_) | (refine bl_drewN ?_ _) | (refine bl_set ?_ (by first | (simp; done) | omega | (simp; omega)) _) | (refine bl_trans ?_ (by assumption)) | (refine bl_step ?_ (by assumption) (by first | omega | exact Below.size (by assumption) | (simp; omega) | (simp; exact Below.size (by assumption))))))
      have hPB : PtB (wr.alloc (.cells #[.int .i64 X, .int .i64 Y] 33)) wr.heap.size (X, Y) := PtB.new wr (X, Y)
      have hof : Off u3 wr.heap.size := hown.off (Nat.le_refl _)
      have hown1 := own_to hown bx
      have hz := hb.size
      have b1 : Below w.heap.size w (wr.alloc (.cells #[.int .i64 X, .int .i64 Y] 33)) := hb.alloc hz _
      have HG : Hid (w.heap.size ≤ wr.heap.size) := hz
      clear c0 c1 hpk hown bx
      go_wp2
      clear hb hz
      generalize wr.heap.size = G at *
      go_loopw [3, 7, 16] (fun v _ i wr => ∃ m : Nat, m ≤ ps.length ∧ i = .int .i64 m ∧ OwnL wr w.heap.size v (hanL ps k m) ∧ PtB wr G (X, Y) ∧ Off v G ∧ Below w.heap.size w wr) (fun _ _ i _ => ps.length - (intOf i).toNat)
      case atStart => exact ⟨0, Nat.zero_le _, rfl, hown1, hPB, hof, b1⟩
      case round =>
        clear hown1 hPB hof b1
        obtain ⟨m, hm, rfl, hown, hPB, hof, hb⟩ := hrel
        by_cases hmt : m < ps.length
        · obtain ⟨e0, e1⟩ := hc m hmt
          have d0 := (hb.cell (p := ⟨b, off + m * 2, none⟩) hbB).trans e0
          have d1 := (hb.cell (p := ⟨b, off + m * 2 + 1, none⟩) hbB).trans e1
          have hmtI : (m : Int) < (ps.length : Int) := by omega
          have hm0 : (0 : Int) ≤ (m : Int) := by omega
          have HN := Lib.hid (HNx.out m hmt)
          have hL := hanL_len (i := k) (k := m) (show ps.length ≤ 20 by omega) (by omega) (by omega)
          obtain ⟨L, hLL⟩ : ∃ L, hanL ps k m = L := ⟨_, rfl⟩
          rw [hLL] at hown HN hL
          obtain ⟨q, hqk⟩ : ∃ q, ps.getD m (0, 0) = q := ⟨_, rfl⟩
          rw [hqk] at d0 d1 HN
          obtain ⟨X2, Y2⟩ := q
          simp only at d0 d1 HN
          have hz := hb.size
          have bx : Below wr.heap.size wr (wr.alloc (.cells #[.int .i64 X2, .int .i64 Y2] 33)) := by (repeat (first | assumption | exact Below.refl _ _ | (refine bl_alloc ?_ _) | (refine Below.drew ?_) | (refine bl_drewN ?_ _) | (refine bl_set ?_ (by first | (simp; done) | omega | (simp; omega)) _) | (refine bl_trans ?_ (by assumption)) | (refine bl_step ?_ (by assumption) (by first | omega | exact Below.size (by assumption) | (simp; omega) | (simp; exact Below.size (by assumption))))))
          have hown1 := own_to hown bx
          have hPB1 := hPB.to bx
          have hQB : PtB (wr.alloc (.cells #[.int .i64 X2, .int .i64 Y2] 33)) wr.heap.size (X2, Y2) := PtB.new wr (X2, Y2)
          have b1 : Below w.heap.size w (wr.alloc (.cells #[.int .i64 X2, .int .i64 Y2] 33)) := hb.alloc hz _
          have hz1 := b1.size
          have hL2 : L.length ≤ 1000000 := by omega
          obtain ⟨p0, p1, _, _⟩ := hPB1.cells
          clear e0 e1 hLL hqk hown hPB hb bx hL
          go_wp2_with (at_builtin; refine append_han rfl (.tmp 20) (.tmp 26) rfl _ w.heap.size _ _ X Y2 rfl hown1 (wr.heap.size + 1) (by simp) rfl hL2 hz1 ?_; intro v6 w6 hown6 hbel6 hpb6; refine Hid.out ?_)
          have b6 := hbel6 _ _ (Nat.le_refl _) b1
          obtain ⟨hPB6, hof6⟩ := hpb6 _ _ hPB1 hof
          rw [← HN.out] at hown6
          clear hbel6 hpb6 hown1 hPB1 hQB b1
          refine Lib.hid ?_
          go_wp2
          go_roundw
          case rel => exact ⟨m + 1, by omega, by go_num, hown6, hPB6, hof6, b6⟩
          case measure => simp [intOf]; omega
        · obtain rfl : m = ps.length := by omega
          go_wp2
          go_roundw
          case rel => exact ⟨k + 1, by omega, by go_num, by rw [← HRow.out]; exact hown, hb⟩
          case measure => simp [intOf]; omega
    · obtain rfl : k = ps.length := by omega
      rw [hanL_end] at hown
      have hAl := hanA_len hl
      have h0A : 0 < (hanA ps).length := by unfold hanA; rw [flat_len]; exact Nat.mul_pos h0 h0
      have hz := hb.size
      have hne : u3.ownBlock ≠ none := by
        rcases hown.2 with ⟨_, e⟩ | ⟨g, cap, cur, e, _⟩
        · omega
        · rw [e]; simp [Value.ownBlock]
      have hcapM : ∀ g cap, u3 = .slice (some ⟨g, 0, none⟩) (hanA ps).length cap → cap ≤ maxLen := fun g cap e => by
        rcases hown.2 with ⟨e2, _⟩ | ⟨g', cap', cur, e2, _, _, _, hm, _⟩
        · rw [e] at e2; cases e2
        · rw [e] at e2; injection e2 with e3 e4 e5; rw [e5]; exact hm
      obtain ⟨g, cap, hu, _, hcap⟩ := hown.some_ hne
      have hcm := hcapM g cap hu
      clear hcapM
      subst hu
      have hgl := hown.gLt
      have hP2 : PBlk2 wr g (hanA ps) (hanA ps).length := by
        obtain ⟨A', c', e, ho3⟩ := own3_of hown
        obtain ⟨g', e', _, hP⟩ := ho3 h0A
        injection e with e1 e2 e3
        rw [← e1] at e'
        injection e' with e'; injection e' with e'
        subst e'
        exact hP
      clear hown hne

      obtain ⟨D, hD⟩ : ∃ D, hanA ps = D := ⟨_, rfl⟩
      have HD := Lib.hid hD
      rw [hD] at hAl h0A hcap hP2
      rw [hD]
      clear hD
      have eg := EG.out
      have cS := AnyQ.slices_SortFunc_total Try.sortP 2 Try.isAgg33 Try.sizeOf33 encP (fun _ => rfl) (fun x v hv => by simp [encP] at hv; rcases hv with rfl | rfl <;> rfl) cfP swoP 91 #[] g 0 cap D.toArray wr eg (fun _ _ _ _ x y => comparePoints_any x y _) hP2.holds hgl.2 (by simp; omega) totP
      change Calls Try.prog 90 _ _ _ at cS
      rw [List.size_toArray] at cS
      clear eg
      go_wp2_with fail
      refine cS.mono ?_
      rintro e w3 ⟨rfl, n, os, hw3⟩
      have hP3 : PBlk2 w3 g (srtD D) (srtD D).length := by rw [hw3]; exact sortW_blk os hP2 (srtD_len D)
      have b3 : Below w.heap.size w w3 := by rw [hw3]; exact sortW_below _ os hb (by omega) hz
      clear hw3 cS hP2 hb
      have cD := Compact_any g cap (srtD D) w3 hP3 (by rw [srtD_len]; omega) (by rw [srtD_len]; exact hcap) (by unfold maxLen at hcm; omega)
      rw [srtD_len] at cD
      go_wp2_with fail
      refine cD.mono ?_
      rintro e w4 ⟨c', rfl, hP4, hO4⟩
      have b4 : Below w.heap.size w w4 := hO4.below b3 (by omega)
      have hLd : ddL (srtD D) D.length = srtL D := by unfold srtL; rw [srtD_len]
      rw [hLd] at hP4
      rw [hLd]
      have HF : Hid (HanRes ps w (.returned (.slice (some ⟨g, 0, none⟩) (srtL D).length c')) w4) := by
        show HanRes _ _ _ _
        unfold HanRes
        rw [HD.out]
        exact ⟨some ⟨g, 0, none⟩, c', rfl, fun _ => ⟨g, rfl, hgl.1, hP4⟩, b4⟩
      clear hP3 b3 hO4 cD
      go_wp2
      go_ret
      exact HF.out
end Go.Proofs.Ytepamhdopmfkfaa
