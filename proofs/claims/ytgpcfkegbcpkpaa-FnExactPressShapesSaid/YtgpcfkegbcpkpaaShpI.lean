/-
  Contract: the press of shapes, as the program makes it.
-/
import Derived.Test.YtgpcfkegbcpkpaaShpG
namespace Go.Proofs.Ytgpcfkegbcpkpaa
set_option linter.unusedSimpArgs false
set_option linter.unusedVariables false
open Go.ChangeShapes Go.WideShapes Go.ChangeAt Go.RowKit Go.BigFrame

/-- A press of the call's own. -/
def PrOwn (R : Option (List R3)) (n : Int) (w : World) (e : Ending) (w' : World) : Prop :=
  ((∃ (L : List R3) (v : Value), R = some L ∧ e = .returned (.agg #[.int .i64 n, v]) ∧ OwnR w' w.heap.size v L) ∨ (R = none ∧ Pan e)) ∧ Below w.heap.size w w'
theorem OwnR.mono {w : World} {B C : Nat} {v : Value} {L : List R3} (h : OwnR w B v L) (hC : C ≤ B) : OwnR w C v L := by
  refine ⟨h.1, ?_⟩
  rcases h.2 with h0 | ⟨g, cap, cur, rfl, hB, r⟩
  · exact .inl h0
  · exact .inr ⟨g, cap, cur, rfl, Nat.le_trans hC hB, r⟩
set_option maxRecDepth 100000 in
set_option maxHeartbeats 6400000 in
theorem pressOf_any (A : Option Addr) (ss : List R4) (c : Nat) (a : Int) (w : World) (hp : ShpAt w w.heap.size A ss) (hl : ss.length ≤ 1048576) (hlc : ss.length ≤ c) :
    Calls Try.prog 76 #[.slice A ss.length c, .int .i64 a] w (PrOwn (shpO ss a) (ss.length : Int) w) := by
  have hx : Below w.heap.size w (w.alloc (.cells #[.int .i64 0, .slice none 0 0] 29)) := by (repeat (first | assumption | exact Below.refl _ _ | (refine bl_alloc ?_ _) | (refine Below.drew ?_) | (refine bl_drewN ?_ _) | (refine bl_set ?_ (by first | (simp; done) | omega | (simp; omega)) _) | (refine bl_trans ?_ (by assumption)) | (refine bl_step ?_ (by assumption) (by first | omega | exact Below.size (by assumption) | (simp; omega) | (simp; exact Below.size (by assumption))))))
  have kr := Blk.new w #[.int .i64 0, .slice none 0 0] 29
  have ca := Lib.hid (AreShapesI_any A ss c _ (hp.to hx) hl hlc)
  cases hs : arS ss
  · have R : Hid (shpO ss a = none) := by show _ = _; unfold shpO; rw [if_neg (by rw [hs]; simp)]
    rw [hs] at ca
    rw [R.out]
    clear hp hs
    go_enter Try.func76, Try.ntmps76
    go_wp2_with fail
    refine ca.out.mono ?_
    rintro e w1 ⟨rfl, hb1⟩
    go_wp2_with fail
    refine (require_no _).mono ?_
    rintro e w2 ⟨⟨u, pv, rfl⟩, rfl⟩
    go_wp2
    exact ⟨rfl, .inr ⟨rfl, ⟨_, _, rfl⟩⟩, bl_step hx hb1 hx.size⟩
  rw [hs] at ca
  by_cases h0 : 0 ≤ a
  case neg =>
    have R : Hid (shpO ss a = none) := by show _ = _; unfold shpO; rw [if_neg (fun h => h0 (of_decide_eq_true h.2.1).1)]
    have d0 : decide (0 ≤ a) = false := decide_eq_false h0
    rw [R.out]
    clear hp hs
    go_enter Try.func76, Try.ntmps76
    go_wp2_with fail
    refine ca.out.mono ?_
    rintro e w1 ⟨rfl, hb1⟩
    go_wp2_with fail
    refine (require_no _).mono ?_
    rintro e w2 ⟨⟨u, pv, rfl⟩, rfl⟩
    go_wp2
    exact ⟨rfl, .inr ⟨rfl, ⟨_, _, rfl⟩⟩, bl_step hx hb1 hx.size⟩
  by_cases h1 : a ≤ 1000
  case neg =>
    have R : Hid (shpO ss a = none) := by show _ = _; unfold shpO; rw [if_neg (fun h => h1 (of_decide_eq_true h.2.1).2)]
    have d0 : decide (0 ≤ a) = true := decide_eq_true h0
    have d1 : decide (a ≤ 1000) = false := decide_eq_false h1
    rw [R.out]
    clear hp hs
    go_enter Try.func76, Try.ntmps76
    go_wp2_with fail
    refine ca.out.mono ?_
    rintro e w1 ⟨rfl, hb1⟩
    go_wp2_with fail
    refine (require_no _).mono ?_
    rintro e w2 ⟨⟨u, pv, rfl⟩, rfl⟩
    go_wp2
    exact ⟨rfl, .inr ⟨rfl, ⟨_, _, rfl⟩⟩, bl_step hx hb1 hx.size⟩
  have d0 : decide (0 ≤ a) = true := decide_eq_true h0
  have d1 : decide (a ≤ 1000) = true := decide_eq_true h1
  obtain ⟨⟨l1, l12⟩, hsh⟩ := arS_facts hs
  have HSH := Lib.hid hsh
  have hlI : (ss.length : Int) ≤ 12 := by omega
  have HR : Hid (∀ b, prB (ss.length : Int) (allR ss a ss.length) = b → shpO ss a = if b = true then some (allR ss a ss.length) else none) := fun b h => by
    unfold shpO
    rw [h]
    cases b
    · rw [if_neg (by simp)]; rfl
    · rw [if_pos ⟨hs, by unfold inB; exact decide_eq_true ⟨h0, h1⟩, rfl⟩]; rfl
  have HLL : Hid ((allR ss a ss.length).length ≤ 1048576) := by
    have h2 := allR_len ss a ss.length
    have h3 : ss.length * ss.length ≤ 12 * 12 := Nat.mul_le_mul l12 l12
    show _ ≤ _
    omega
  have HAL : Hid (∀ i, i < ss.length → (allR ss a i).length ≤ 144) := fun i hi => by
    have h2 := allR_len ss a i
    have h3 : i * ss.length ≤ 12 * 12 := Nat.mul_le_mul (by omega) l12
    omega
  clear hs hsh
  go_enter Try.func76, Try.ntmps76
  go_wp2_with fail
  refine ca.out.mono ?_
  rintro e w1 ⟨rfl, hb1⟩
  have x1 := bl_step hx hb1 hx.size
  replace kr := kr.to hb1
  go_wp2_with fail
  refine (require_yes _).mono ?_
  rintro e w2 ⟨rfl, rfl⟩
  have hp2 := hp.to x1
  have kG0 := Blk.new w2 #[.int .i64 (ss.length : Int), .slice none 0 0] 29
  have hb0 : Below w2.heap.size w2 (w2.alloc (.cells #[.int .i64 (ss.length : Int), .slice none 0 0] 29)) := (Below.refl _ _).alloc (Nat.le_refl _) _
  have ho0 : OwnR (w2.alloc (.cells #[.int .i64 (ss.length : Int), .slice none 0 0] 29)) (w2.heap.size + 1) (.slice none 0 0) [] := OwnR.nil_ _ _
  have hwG : w.heap.size < w2.heap.size := kr.lt
  clear ca hb1 hx hp
  go_wp2
  go_loopw [6, 26] (fun _ i wr => ∃ (k : Nat) (v : Value), k ≤ ss.length ∧ i = .int .i64 k ∧ Blk wr w2.heap.size #[.int .i64 (ss.length : Int), v] 29 ∧ OwnR wr (w2.heap.size + 1) v (allR ss a k) ∧ Below w2.heap.size w2 wr) (fun _ i _ => ss.length - (intOf i).toNat)
  case atStart => exact ⟨0, _, by omega, rfl, kG0, ho0, hb0⟩
  case round =>
    clear kG0 hb0 ho0
    obtain ⟨i, v, hi, rfl, kG, hown, hb⟩ := hrel
    have hi0 : (0 : Int) ≤ (i : Int) := by omega
    by_cases hlt : i < ss.length
    case neg =>
      obtain rfl : i = ss.length := by omega
      obtain ⟨A4, c4, rfl, hra⟩ := hown.rul
      have cr := Lib.hid (requirePress_any (ss.length : Int) A4 (allR ss a ss.length) c4 wr hra HLL.out)
      have e0 := kG.cell 0 (v := .int .i64 (ss.length : Int)) rfl
      have e1 := kG.cell 1 (v := .slice A4 (allR ss a ss.length).length c4) rfl
      have kR := kr.to hb
      have xE := x1.trans (hb.mono x1.size)
      clear hra
      go_wp2_with fail
      refine cr.out.mono ?_
      rintro e w5 ⟨⟨hv, rfl⟩ | ⟨hv, u, pv, rfl⟩, hb5⟩
      · have HF := Lib.hid (HR.out true hv)
        replace kR := kR.to hb5
        have t0 := kR.cell 0 rfl
        have t1 := kR.cell 1 rfl
        have q0 := kR.frozen 0
        have q1 := kR.frozen 1
        have ke := (kR.set 0 (.int .i64 (ss.length : Int))).set 1 (.slice A4 (allR ss a ss.length).length c4)
        have xF := ((bl_trans xE hb5).setCell (p := ⟨w.heap.size, 0, none⟩) (Nat.le_refl _) (.int .i64 (ss.length : Int))).setCell (p := ⟨w.heap.size, 1, none⟩) (Nat.le_refl _) (.slice A4 (allR ss a ss.length).length c4)
        have ho5 := hown.to hb5
        have hoF : OwnR ((w5.setCell ⟨w.heap.size, 0, none⟩ (.int .i64 (ss.length : Int))).setCell ⟨w.heap.size, 1, none⟩ (.slice A4 (allR ss a ss.length).length c4)) (w2.heap.size + 1) (.slice A4 (allR ss a ss.length).length c4) (allR ss a ss.length) := ho5.keep fun g hg => by
          have := ho5.ge hg
          rw [Below.heap_setCell _ _ _ g (by show g ≠ w.heap.size; omega), Below.heap_setCell _ _ _ g (by show g ≠ w.heap.size; omega)]
        clear hv kR hown ho5 xE e0 e1
        go_wp2
        generalize ((w5.setCell ⟨w.heap.size, 0, none⟩ (.int .i64 (ss.length : Int))).setCell ⟨w.heap.size, 1, none⟩ (.slice A4 (allR ss a ss.length).length c4)) = wE at *
        have z0 := ke.cell 0 (v := .int .i64 (ss.length : Int)) (by simp)
        have z1 := ke.cell 1 (v := .slice A4 (allR ss a ss.length).length c4) (by simp)
        refine bodyPost_ret_by (v := .agg #[.int .i64 (ss.length : Int), .slice A4 (allR ss a ss.length).length c4]) ?_ rfl ⟨.inl ⟨allR ss a ss.length, _, HF.out, rfl, hoF.mono (by omega)⟩, xF⟩
        simp [results, Try.results76, go_sem, z0, z1]
      · have HF := Lib.hid (HR.out false hv)
        have xF := bl_trans xE hb5
        clear hv
        go_wp2
        exact ⟨rfl, .inr ⟨HF.out, ⟨_, _, rfl⟩⟩, xF⟩
    obtain ⟨b, off, rfl, hbB, hc⟩ := hp2 (by omega)
    obtain ⟨e0, e1, e2, e3⟩ := hc i hlt
    have hzw := hb.size
    have f0 := (hb.cell (p := ⟨b, off + i * 4, none⟩) hbB).trans e0
    have f1 := (hb.cell (p := ⟨b, off + i * 4 + 1, none⟩) hbB).trans e1
    have f2 := (hb.cell (p := ⟨b, off + i * 4 + 2, none⟩) hbB).trans e2
    have f3 := (hb.cell (p := ⟨b, off + i * 4 + 3, none⟩) hbB).trans e3
    have hltI : (i : Int) < (ss.length : Int) := by omega
    have hsi := HSH.out i hlt
    have HC := Lib.hid hc
    clear hc e0 e1 e2 e3
    obtain ⟨q, hq⟩ : ∃ q, ss.getD i r40 = q := ⟨_, rfl⟩
    rw [hq] at f0 f1 f2 f3 hsi
    have HQI := Lib.hid hq
    clear hq
    obtain ⟨x, y, u, z⟩ := q
    simp only at f0 f1 f2 f3
    obtain ⟨hsx, hsy, hsu, hsz⟩ := shB_iff.1 hsi
    have HSI := Lib.hid hsi
    have kR0 := Blk.new wr #[.int .i64 x, .int .i64 y, .int .i64 u, .int .i64 z] 78
    have hx0 : Below wr.heap.size wr (wr.alloc (.cells #[.int .i64 x, .int .i64 y, .int .i64 u, .int .i64 z] 78)) := (Below.refl wr.heap.size wr).alloc (Nat.le_refl _) _
    have hbR := bl_step hb hx0 hzw
    have kG1 := kG.to hx0
    have hown1 := hown.to hx0
    have hvR0 : v.ownBlock ≠ some wr.heap.size := fun e => by have := hown.lt e; omega
    have hAL := HAL.out i hlt
    have hGR : w2.heap.size < wr.heap.size := kG.lt
    clear hsi kG hown hx0 hb
    go_wp2_with fail
    generalize (wr.alloc (.cells #[.int .i64 x, .int .i64 y, .int .i64 u, .int .i64 z] 78)) = wR at *
    generalize wr.heap.size = RR at *
    clear f0 f1 f2 f3
    go_loopw [8, 33] (fun _ jj wx => ∃ (j : Nat) (v : Value), j ≤ ss.length ∧ jj = .int .i64 j ∧ Blk wx w2.heap.size #[.int .i64 (ss.length : Int), v] 29 ∧ OwnR wx (w2.heap.size + 1) v (allR ss a i ++ rowR ss a i j) ∧ v.ownBlock ≠ some RR ∧ Blk wx RR #[.int .i64 x, .int .i64 y, .int .i64 u, .int .i64 z] 78 ∧ Below w2.heap.size w2 wx) (fun _ jj _ => ss.length - (intOf jj).toNat)
    case atStart => exact ⟨0, v, by omega, rfl, kG1, by simpa [rowR] using hown1, hvR0, kR0, hbR⟩
    case round =>
      clear kG1 hown1 hvR0 kR0 hbR
      obtain ⟨j, v, hj, rfl, kG, hown, hvR, kR, hb⟩ := hrel
      have hj0 : (0 : Int) ≤ (j : Int) := by omega
      by_cases hjl : j < ss.length
      case neg =>
        obtain rfl : j = ss.length := by omega
        have hnj : ¬ ((ss.length : Nat) : Int) < (ss.length : Int) := by omega
        go_wp2
        go_roundw
        case rel => exact ⟨i + 1, v, by omega, by go_num, kG, hown, hb⟩
        case measure => simp [intOf]; omega
      obtain ⟨g0, g1, g2, g3⟩ := HC.out j hjl
      have hzx := hb.size
      have h0 := (hb.cell (p := ⟨b, off + j * 4, none⟩) hbB).trans g0
      have h1 := (hb.cell (p := ⟨b, off + j * 4 + 1, none⟩) hbB).trans g1
      have h2 := (hb.cell (p := ⟨b, off + j * 4 + 2, none⟩) hbB).trans g2
      have h3 := (hb.cell (p := ⟨b, off + j * 4 + 3, none⟩) hbB).trans g3
      have hjI : (j : Int) < (ss.length : Int) := by omega
      have hsj := HSH.out j hjl
      have HRT := Lib.hid (fun h => rowR_t (ss := ss) (a := a) (i := i) (j := j) h)
      have HRF := Lib.hid (fun h => rowR_f (ss := ss) (a := a) (i := i) (j := j) h)
      have hLl : (allR ss a i ++ rowR ss a i j).length ≤ 1000000 := by
        have := rowR_len ss a i j
        rw [List.length_append]; omega
      clear g0 g1 g2 g3
      obtain ⟨q, hq⟩ : ∃ q, ss.getD j r40 = q := ⟨_, rfl⟩
      rw [hq] at h0 h1 h2 h3 hsj HRT HRF
      rw [HQI.out] at HRT HRF
      clear hq
      obtain ⟨x', y', u', z'⟩ := q
      simp only at h0 h1 h2 h3
      have CF := Lib.hid (fun wx => faces_any x y u z x' y' u' z' wx HSI.out hsj)
      have HFA : Hid (faB (x, y, u, z) (x', y', u', z') = (decide (x < x') && meetB y z y' z')) := rfl
      have kQ0 := Blk.new wr #[.int .i64 x', .int .i64 y', .int .i64 u', .int .i64 z'] 78
      have hx0 : Below wr.heap.size wr (wr.alloc (.cells #[.int .i64 x', .int .i64 y', .int .i64 u', .int .i64 z'] 78)) := (Below.refl wr.heap.size wr).alloc (Nat.le_refl _) _
      have hbQ := bl_step hb hx0 hzx
      have kG1 := kG.to hx0
      have hown1 := hown.to hx0
      have kR1 := kR.to hx0
      have r0 := kR1.cell 0 (v := .int .i64 x) rfl
      have r1 := kR1.cell 1 (v := .int .i64 y) rfl
      have r2 := kR1.cell 2 (v := .int .i64 u) rfl
      have r3 := kR1.cell 3 (v := .int .i64 z) rfl
      have p0 := kQ0.cell 0 (v := .int .i64 x') rfl
      have p1 := kQ0.cell 1 (v := .int .i64 y') rfl
      have p2 := kQ0.cell 2 (v := .int .i64 u') rfl
      have p3 := kQ0.cell 3 (v := .int .i64 z') rfl
      clear kG hown kR hx0 hb hsj
      by_cases hxx : x < x'
      case neg =>
        have R := Lib.hid (HRF.out (by rw [HFA.out, decide_eq_false hxx]; rfl))
        have hd : decide (x < x') = false := decide_eq_false hxx
        clear HRT HRF HFA
        go_wp2
        go_roundw
        case rel => exact ⟨j + 1, v, by omega, by go_num, kG1, by rw [R.out]; exact hown1, hvR, kR1, hbQ⟩
        case measure => simp [intOf]; omega
      have hd : decide (x < x') = true := decide_eq_true hxx
      cases hf : meetB y z y' z'
      · have R := Lib.hid (HRF.out (by rw [HFA.out, hf, Bool.and_false]))
        rw [hf] at CF
        clear HRT HRF HFA hf
        go_wp2_with fail
        refine (CF.out _).mono ?_
        rintro e w5 ⟨rfl, hb5⟩
        go_wp2
        go_roundw
        case rel => exact ⟨j + 1, v, by omega, by go_num, kG1.to hb5, by rw [R.out]; exact hown1.to hb5, hvR, kR1.to hb5, bl_step hbQ hb5 hbQ.size⟩
        case measure => simp [intOf]; omega
      · have R := Lib.hid (HRT.out (by rw [HFA.out, hf, hd]; rfl))
        rw [hf] at CF
        clear HRT HRF HFA hf
        go_wp2_with fail
        refine (CF.out _).mono ?_
        rintro e w5 ⟨rfl, hb5⟩
        have kG5 := kG1.to hb5
        have hown5 := hown1.to hb5
        have kR5 := kR1.to hb5
        have hbF := bl_step hbQ hb5 hbQ.size
        obtain ⟨A5, c5, hv5, _⟩ := hown5.rul
        have hvR5 := hvR
        have hvG : v.ownBlock ≠ some w2.heap.size := fun e => by have := hown5.ge e; omega
        have s1 := kR5.cell 2 (v := .int .i64 u) rfl
        have hG5 := kG5.lt
        have hR5 := kR5.lt
        have hub : 0 ≤ u ∧ u ≤ 1000 := by first | omega | (have := hsu; simp only at this; omega)
        obtain ⟨hu0, hu1⟩ := hub
        clear kG1 hown1 kR1 r0 r1 r2 r3 p0 p1 p2 p3 h0 h1 h2 h3 hb5 hbQ kQ0
        obtain ⟨LL, hLL⟩ : ∃ LL, allR ss a i ++ rowR ss a i j = LL := ⟨_, rfl⟩
        rw [hLL] at hown5 hLl hv5
        have HLE := Lib.hid hLL
        clear hLL
        subst hv5
        have s0 := kG5.cell 1 (v := .slice A5 LL.length c5) rfl
        have hz5 : w2.heap.size + 1 ≤ w5.heap.size := hG5
        go_wp2_with (at_builtin; refine append_rul rfl (.tmp 49) (.tmp 57) rfl w5 (w2.heap.size + 1) _ _ (i : Int) (j : Int) (u + a) rfl hown5 _ rfl rfl hLl hz5 ?_; intro v6 w6 hown6 hbel6 hkp6 hob6 hz6; refine Hid.out ?_)
        have hb6 : Below w2.heap.size w2 w6 := hbF.trans ((hbel6 w5 (Below.refl _ _)).mono (Nat.le_succ _))
        have kG6 := kG5.keep (hkp6 _ hG5 hvG)
        have kR6 := kR5.keep (hkp6 _ hR5 hvR)
        obtain ⟨A6, c6, hv6, _⟩ := hown6.rul
        have hn6R : v6.ownBlock ≠ some RR := by
          rcases hob6 with h | ⟨g, h, hg⟩
          · rw [h]; exact hvR
          · rw [h]; intro e; injection e with e; omega
        have hn6G : v6.ownBlock ≠ some w2.heap.size := by
          rcases hob6 with h | ⟨g, h, hg⟩
          · rw [h]; exact hvG
          · rw [h]; intro e; injection e with e; omega
        obtain ⟨l6, hl6⟩ : ∃ l, (LL ++ [((i : Int), (j : Int), u + a)]).length = l := ⟨_, rfl⟩
        rw [hl6] at hv6
        have kG7 := kG6.set 1 v6
        have kR7 := kR6.far (p := ⟨w2.heap.size, 1, none⟩) (by show RR ≠ w2.heap.size; omega) v6
        have hown7 : OwnR (w6.setCell ⟨w2.heap.size, 1, none⟩ v6) (w2.heap.size + 1) v6 (LL ++ [((i : Int), (j : Int), u + a)]) := hown6.keep fun g hg => Below.heap_setCell _ _ _ g (by show g ≠ w2.heap.size; intro e; exact hn6G (by rw [hg, e]))
        have hb7 := hb6.setCell (p := ⟨w2.heap.size, 1, none⟩) (Nat.le_refl _) v6
        have q1 := kG6.cell 1 (v := .slice A5 LL.length c5) rfl
        have q2 := kG6.frozen 1
        have HR2 : Hid (allR ss a i ++ rowR ss a i (j + 1) = LL ++ [((i : Int), (j : Int), u + a)]) := by show _ = _; rw [R.out, ← List.append_assoc, HLE.out]
        clear hl6 hown6 hkp6 hob6 kG6 kR6 hb6 hbel6
        subst hv6
        refine Lib.hid ?_
        go_wp2
        go_roundw
        case rel => exact ⟨j + 1, _, by omega, by go_num, by simpa using kG7, by rw [HR2.out]; exact hown7, hn6R, kR7, hb7⟩
        case measure => simp [intOf]; omega
end Go.Proofs.Ytgpcfkegbcpkpaa
