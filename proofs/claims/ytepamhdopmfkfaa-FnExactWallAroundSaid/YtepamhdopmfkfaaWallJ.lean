/-
  Contract: the walls around reached cells, as the program has them: the way there.
-/
import Derived.Test.YtepamhdopmfkfaaWallI
import Derived.Test.YtepamhdopmfkfaaReachedI
import Derived.LoopNIn
import Derived.Sort.CutIn
import Derived.Test.YtepamhdopmfkfaaScope
namespace Go.Proofs.Ytepamhdopmfkfaa
set_option linter.unusedSimpArgs false
set_option linter.unusedVariables false
open Go.ChangeShapes Go.WideShapes Go.ChangeAt Go.RowKit Go.Shelf
attribute [local go_sem] Oper.semAt_some

theorem keepsF {B : Nat} {W W' : World} (h : Below W.heap.size W W') : KeepsFrom B W W' := ⟨h.size, fun k o _ hk _ => by
  have hlt : k < W.heap.size := (Array.getElem?_eq_some_iff.1 hk).1
  exact (h.block k hlt).trans hk⟩
theorem ownsRow_to {W W' : World} {B : Nat} {e : TypeId} {size n : Nat} {v : Value} {xs : List Value} (h : W.ownsRow B e size v n xs) (hb : Below W.heap.size W W') : W'.ownsRow B e size v n xs :=
  World.ownsRow.kept (row := none) h ⟨hb.os, hb.tape, hb.output, hb.size, fun i hi _ => hb.block i hi⟩ (by
    rcases h.2 with ⟨rfl, _⟩ | ⟨g, cap, cur, rfl, _⟩
    · exact .inl rfl
    · exact .inr (by simp [Value.ownBlock]))
theorem new_pair' (W : World) (t : TypeId) (a b : Int) {B : Nat} (hB : B = W.heap.size) : ∀ j u, ([Value.int .i64 a, Value.int .i64 b])[j]? = some u → (W.alloc (.cells #[.int .i64 a, .int .i64 b] t)).cell? ((⟨B, 0, none⟩ : Addr).add j) = some u := by
  subst hB; exact new_pair W t a b
theorem World.ownsRow_lower {W : World} {B B' : Nat} {e : TypeId} {size n : Nat} {v : Value} {xs : List Value} (h : W.ownsRow B' e size v n xs) (hB : B ≤ B') : W.ownsRow B e size v n xs :=
  ⟨h.1, h.2.imp id fun ⟨g, cap, cur, e, hg, r⟩ => ⟨g, cap, cur, e, Nat.le_trans hB hg, r⟩⟩
theorem anyN_more {M : Mz} {p q : Pt} {k : Nat} (h : anyN M p q k = true) : ∀ n, k ≤ n → anyN M p q n = true
  | 0, hk => by obtain rfl : k = 0 := by omega
                exact h
  | n + 1, hk => by
    by_cases e : k = n + 1
    · subst e; exact h
    · rw [anyN_succ, anyN_more h n (by omega)]; rfl
set_option maxRecDepth 100000 in
set_option maxHeartbeats 3200000 in
theorem WallAroundI_yes (A : Option Addr) (Ls : List SlI) (c : Nat) (x y : Int) (w : World) (hp : ISAt w w.heap.size A Ls) (hs : Short Ls) (ha : atB (heldI Ls) x y = true) :
    Calls Try.prog 32 #[.agg #[.slice A Ls.length c], .agg #[.int .i64 x, .int .i64 y]] w (WallRes (heldI Ls) (x, y) w) := by
  refine (callsIn_wide (n := 3)).1 ?_
  refine callsIn_of_wp_marks Try.func32 rfl trivial ?_ rfl
  simp only [Try.ntmps32, List.size_toArray, List.length_cons, List.length_nil, Nat.reduceAdd, Nat.reduceSub, Array.replicate_succ, Array.replicate_zero, List.push_toArray, List.append_toArray, List.nil_append, List.cons_append]
  gi_wp2
  refine wpIn_scope (fun _ _ _ h => h) ?_
  gi_wp2
  refine ⟨trivial, (callsIn_wide.2 (enterYes_any A Ls c x y (w.heap.size + 1 + 1) 1 _ (hp.to (by (repeat (first | assumption | exact Below.refl _ _ | (refine bl_alloc ?_ _) | (refine Below.drew ?_) | (refine bl_drewN ?_ _) | (refine bl_set ?_ (by first | (simp; done) | omega | (simp; omega)) _) | (refine bl_trans ?_ (by assumption)) | (refine bl_step ?_ (by assumption) (by first | omega | exact Below.size (by assumption) | (simp; omega) | (simp; exact Below.size (by assumption)))))))) hs (one_pts _ _ _ _ (by go_simp) (by go_simp)) ha)).mono ?_⟩
  rintro e w1 ⟨gw, gh, gc, rfl, hPr, hb1⟩
  obtain ⟨hv, ho⟩ := atB_two ha
  have hM := mzOk_of hv
  have b1 : Below w.heap.size w w1 := by (repeat (first | assumption | exact Below.refl _ _ | (refine bl_alloc ?_ _) | (refine Below.drew ?_) | (refine bl_drewN ?_ _) | (refine bl_set ?_ (by first | (simp; done) | omega | (simp; omega)) _) | (refine bl_trans ?_ (by assumption)) | (refine bl_step ?_ (by assumption) (by first | omega | exact Below.size (by assumption) | (simp; omega) | (simp; exact Below.size (by assumption))))))
  have hB2 := (((PtBox.new (w.alloc (.cells #[.slice A Ls.length c] 51)) x y).alloc_ (.cells #[.int .i64 x, .int .i64 y] 33)).to hb1).alloc_ (.cells #[prV gw gh gc] 93)
  have p0 := hB2.c0
  have p1 := hB2.c1
  simp at p0 p1
  have bP := Boxed.new w1 93 (prV gw gh gc)
  have bx : Below w1.heap.size w1 (w1.alloc (.cells #[prV gw gh gc] 93)) := by (repeat (first | assumption | exact Below.refl _ _ | (refine bl_alloc ?_ _) | (refine Below.drew ?_) | (refine bl_drewN ?_ _) | (refine bl_set ?_ (by first | (simp; done) | omega | (simp; omega)) _) | (refine bl_trans ?_ (by assumption)) | (refine bl_step ?_ (by assumption) (by first | omega | exact Below.size (by assumption) | (simp; omega) | (simp; exact Below.size (by assumption))))))
  have hPr1 := hPr.to bx
  have b2 := bl_trans b1 bx
  have c6 := bP.cell
  gi_wp2
  refine ⟨trivial, (callsIn_wide.2 (reached_any gw gh gc A Ls c x y _ hPr1 hM ho)).mono ?_⟩
  rintro e w3 ⟨mb, l, rfl, hset, hl, hmb, hb3⟩
  have b3 := bl_step b2 hb3 b2.size
  have hPr3 := hPr1.to hb3
  have bP3 := boxed_to bP hb3
  have HL := Lib.hid (fun q => (hl q).trans (reachB_iff (M := heldI Ls)).symm)
  have HA := Lib.hid (accS_wall (p := (x, y)) hM)
  have HAt := Lib.hid ha
  have HM := Lib.hid hM
  have hG6 : w1.heap.size < w3.heap.size := bP3.lt
  generalize w1.heap.size = G6 at *
  clear hl hM hv ho p0 p1 hB2 b1 hb1 hb3 hPr hPr1 hp hs bP bx b2 c6
  obtain ⟨i0, hi, hz0, hz1, hz2⟩ := info_parts infoQ
  have hml := hset.lt
  gi_wp2
  refine wpIn_label ?_
  gi_wp2
  have bL := Boxed.new (w3.alloc (.cells #[.map (some mb)] 96)) 25 (.slice none 0 0)
  rw [show (w3.alloc (.cells #[.map (some mb)] 96)).heap.size = w3.heap.size + 1 by simp] at bL
  have bM := (Boxed.new w3 96 (.map (some mb))).alloc (.cells #[.slice none 0 0] 25)
  have b4 : Below w3.heap.size w3 ((w3.alloc (.cells #[.map (some mb)] 96)).alloc (.cells #[.slice none 0 0] 25)) := by (repeat (first | assumption | exact Below.refl _ _ | (refine bl_alloc ?_ _) | (refine Below.drew ?_) | (refine bl_drewN ?_ _) | (refine bl_set ?_ (by first | (simp; done) | omega | (simp; omega)) _) | (refine bl_trans ?_ (by assumption)) | (refine bl_step ?_ (by assumption) (by first | omega | exact Below.size (by assumption) | (simp; omega) | (simp; exact Below.size (by assumption))))))
  obtain ⟨S, hS⟩ : ∃ S, wallS (heldI Ls) (x, y) = S := ⟨_, rfl⟩
  have HS := Lib.hid hS
  rw [hS] at HA
  clear hS
  have HOwn : OwnFrom ((w3.alloc (.cells #[.map (some mb)] 96)).alloc (.cells #[.slice none 0 0] 25)).heap.size (fun k W => ((∃ v, Boxed W (w3.heap.size + 1) 25 v ∧ W.ownsRow w3.heap.size 33 2 v (accS S k).length (cellsQ (accS S k)) ∧ True) ∧ Boxed W w3.heap.size 96 (.map (some mb))) ∧ Below w3.heap.size w3 W) :=
    OwnFrom.and (OwnFrom.and (Own.from (holdsRow_own w3.heap.size (w3.heap.size + 1) 25 33 2 (fun k : Nat => (accS S k).length) (fun k : Nat => cellsQ (accS S k)) (fun _ _ => True)) _) (Own.from (own_box _ _ _) _)) (ownFrom_below (Nat.le_refl _) b4.size)
  have hn0 := b3.size
  refine range_givesP (gf := 72) (xs := allP) (by omega) rfl (enters_of Try.func72 (by kernel_rfl) rfl) (eachCell_gives 2) rfl _ HOwn
    ⟨⟨⟨_, bL, World.ownsRow_nil _ _ _ _, trivial⟩, bM⟩, b4⟩
    (fun p a' W => ∃ bi, a' = { tmps := #[.agg #[.slice A Ls.length c], .agg #[.int .i64 x, .int .i64 y], .pointer (some ⟨w.heap.size, 0, none⟩), .pointer (some ⟨w.heap.size + 1, 0, none⟩), .slice none 0 0, .bool false, .pointer (some ⟨G6, 0, none⟩), .bool true, .pointer (some ⟨w3.heap.size, 0, none⟩), .pointer (some ⟨w3.heap.size + 1, 0, none⟩), .pointer (some ⟨bi, 0, none⟩), undef, undef, .tuple #[prV gw gh gc, .bool true], .agg #[.slice A Ls.length c], .agg #[.int .i64 x, .int .i64 y], .slice (some ⟨w.heap.size + 1 + 1, 0, none⟩) 1 1, .tuple #[prV gw gh gc, .bool true], prV gw gh gc, .bool true, .bool true, .bool false, prV gw gh gc, .agg #[.int .i64 x, .int .i64 y], .map (some mb), ptN p, undef, undef, undef, undef, undef, undef, undef, undef, undef, undef, undef, undef, undef, undef, undef, undef, undef, undef, undef, undef], defers := [] } ∧ PtBox W bi p) ?own ?assign ?body ?done
  case own =>
    rintro p a' s W W' row ⟨bi, h1, h2⟩ hg hr
    refine ⟨bi, h1, h2.keep (hg.block bi h2.lt (fun e => ?_))⟩
    obtain ⟨o, ho, hc⟩ := (hr bi e.symm).2
    rw [show W.heap[bi]? = _ from h2] at ho
    cases ho; cases hc
  case assign =>
    rintro l' k ⟨X, Y⟩ W K' hI hK'
    have hI2 := HOwn.alloc (.cells #[.int .i64 X, .int .i64 Y] 33) hI
    clear hI
    gi_wp2
    exact hK' _ _ ((KeepsOthers.alloc _ _).from _) hI2 ⟨W.heap.size, rfl, PtBox.new _ _ _⟩
  case body =>
    clear bL bM b4 HOwn
    rintro l' k ⟨X, Y⟩ a' W hl' ⟨r, hr⟩ ⟨⟨⟨v, hv, hrow, _⟩, hbm⟩, hB⟩ ⟨bi, rfl, hPt⟩ hx
    have hk : k < 144 := by
      rcases Nat.lt_or_ge k 144 with h | h
      · exact h
      · rw [List.getElem?_eq_none (by rw [allP_len]; exact h)] at hx; cases hx
    have hpk : ptK k = (X, Y) := by rw [allP_at hk] at hx; injection hx
    have hle := accS_len S k
    have HS1 := Lib.hid (accS_succ S k)
    rw [hpk] at HS1
    obtain ⟨L0, hL0⟩ : ∃ L0, accS S k = L0 := ⟨_, rfl⟩
    rw [hL0] at hrow hle HS1
    clear hx hr hL0 hpk
    have hPW := hPr3.to hB
    have bP := boxed_to bP3 hB
    have c6 := bP.cell
    have p0 := hPt.c0
    have p1 := hPt.c1
    simp only at p0 p1
    have hPz := hPt.lt
    have cW := isWall_any gw gh gc A Ls c X Y W hPW HM.out
    have HSV : Hid (S (X, Y) = (decide (priceI (heldI Ls) X Y = 0) && anyN (heldI Ls) (x, y) (X, Y) 4)) := by show _ = _; rw [← HS.out]; rfl
    have hzW := hB.size
    cases hw : decide (priceI (heldI Ls) X Y = 0)
    · rw [hw] at cW
      have HE : Hid (accS S (k + 1) = L0) := by show _ = _; rw [HS1.out, HSV.out, hw]; simp
      clear hw
      gi_wp2_with (refine ⟨trivial, ?_⟩; gi_at_call 73; refine (CallsIn.inRound l' (callsIn_wide.2 cW)).mono ?_; rintro e w4 ⟨rfl, hb4⟩)
      refine ⟨keepsF hb4, ⟨⟨v, boxed_to hv hb4, ?_⟩, boxed_to hbm hb4⟩, bl_step hB hb4 hzW⟩
      rw [HE.out]
      exact ⟨ownsRow_to hrow hb4, trivial⟩
    · rw [hw] at cW
      obtain ⟨i1, j1, hx1, hy1, hi1, hj1⟩ := isWall_iff (of_decide_eq_true hw)
      have h12 := HM.out.h12
      have w12 := HM.out.w12
      have cN := fun w1 => neighboursOf_any X Y w1 ⟨by omega, by omega⟩ ⟨by omega, by omega⟩
      have HSV2 : Hid (S (X, Y) = anyN (heldI Ls) (x, y) (X, Y) 4) := by show _ = _; rw [HSV.out, hw]; rfl
      clear hw hx1 hy1 hi1 hj1 h12 w12 HSV
      gi_wp2_with (first
        | (refine ⟨trivial, ?_⟩; gi_at_call 73; refine (CallsIn.inRound l' (callsIn_wide.2 cW)).mono ?_; rintro e w4 ⟨rfl, hb4⟩; have hP4 := hPt.to hb4; have p40 := hP4.c0; have p41 := hP4.c1; simp only at p40 p41)
        | (refine ⟨trivial, ?_⟩; gi_at_call 74; refine (CallsIn.inRound l' (callsIn_wide.2 (cN _))).mono ?_; rintro e w5 ⟨⟨g, rfl, hpt⟩, hb5⟩))
      have hb45 := bl_trans hb4 hb5
      have hP5 := hP4.to hb5
      have hB5 := bl_step hB hb45 hzW
      have hv5 := boxed_to hv hb45
      have hrow5 := ownsRow_to hrow hb45
      have hbm5 := boxed_to hbm hb45
      have HKF : Hid (KeepsFrom ((w3.alloc (.cells #[.map (some mb)] 96)).alloc (.cells #[.slice none 0 0] 25)).heap.size W w5) := keepsF hb45
      obtain ⟨b', o', hbo, hbl', hc⟩ := hpt (by simp [nbs])
      simp only [Option.some.injEq, Addr.mk.injEq, and_true] at hbo
      obtain ⟨rfl, rfl⟩ := hbo
      have HC := Lib.hid hc
      clear hPt p0 p1 hPz cW cN hb4 hP4 p40 p41 hb5 hb45 hpt hc hv hrow hbm hB hPW bP c6 hzW
      gi_loopw [12, 33] (fun _ i wr => ∃ m : Nat, m ≤ 4 ∧ i = .int .i64 m ∧ Hid (anyN (heldI Ls) (x, y) (X, Y) m = false) ∧ Below w5.heap.size w5 wr) (fun _ i _ => 4 - (intOf i).toNat)
      case atStart => exact ⟨0, by omega, rfl, rfl, Below.refl _ _⟩
      case round =>
        obtain ⟨m, hm, rfl, HNo, hbr⟩ := hrel
        by_cases hm4 : m < 4
        · obtain ⟨c0, c1⟩ := HC.out m (by simpa [nbs] using hm4)
          have d0 := (hbr.cell (p := ⟨g, 0 + m * 2, none⟩) hbl').trans c0
          have d1 := (hbr.cell (p := ⟨g, 0 + m * 2 + 1, none⟩) hbl').trans c1
          have e : (nbs (X, Y)).getD m (0, 0) = nb (X, Y) m := by
            rcases (show m = 0 ∨ m = 1 ∨ m = 2 ∨ m = 3 by omega) with rfl | rfl | rfl | rfl <;> rfl
          rw [e, Nat.zero_add] at d0 d1
          obtain ⟨X2, hX⟩ : ∃ X2, (nb (X, Y) m).1 = X2 := ⟨_, rfl⟩
          obtain ⟨Y2, hY⟩ : ∃ Y2, (nb (X, Y) m).2 = Y2 := ⟨_, rfl⟩
          have HXY : Hid (nb (X, Y) m = (X2, Y2)) := by show _ = _; rw [← hX, ← hY]
          rw [hX] at d0
          rw [hY] at d1
          have hmI : (m : Int) < 4 := by omega
          have hm0 : (0 : Int) ≤ (m : Int) := by omega
          have bz : Below w5.heap.size w5 (wr.alloc (.cells #[.int .i64 X2, .int .i64 Y2] 33)) := hbr.alloc hbr.size _
          have hBz := bl_step hB5 bz hB5.size
          have hsetz := hset.keep (hBz.block mb hset.lt)
          have hlk := hsetz.look (X2, Y2)
          unfold ptV at hlk
          have hvz := boxed_to hv5 bz
          have hrowz := ownsRow_to hrow5 bz
          have hbmz := boxed_to hbm5 bz
          have hPz := hP5.to bz
          have HAn := Lib.hid (anyN_succ (heldI Ls) (x, y) (X, Y) m)
          rw [HXY.out] at HAn
          have cvz := hvz.cell
          have cmz := hbmz.cell
          have p0 := hPz.c0
          have p1 := hPz.c1
          simp only at p0 p1
          have hzz := hBz.size
          have hdl : decide ((X2, Y2) ∈ l) = reachB (heldI Ls) (x, y) (X2, Y2) := by
            cases hs : reachB (heldI Ls) (x, y) (X2, Y2)
            · exact decide_eq_false (fun h => by have := (HL.out _).1 h; rw [hs] at this; cases this)
            · exact decide_eq_true ((HL.out _).2 hs)
          rw [hdl] at hlk
          clear c0 c1 e hX hY hdl hsetz
          cases hs : reachB (heldI Ls) (x, y) (X2, Y2)
          · rw [hs] at hlk
            have HNo2 : Hid (anyN (heldI Ls) (x, y) (X, Y) (m + 1) = false) := by show _ = _; rw [HAn.out, HNo.out, hs]; rfl
            clear hs
            gi_wp2
            exact ⟨⟨m + 1, by omega, by go_num, HNo2, bz⟩, by simp [intOf]; omega⟩
          · rw [hs] at hlk
            have HYes : Hid (anyN (heldI Ls) (x, y) (X, Y) 4 = true) := by show _ = _; exact anyN_more (k := m + 1) (by rw [HAn.out, hs]; simp) 4 (by omega)
            have HE : Hid (accS S (k + 1) = L0 ++ [(X, Y)]) := by show _ = _; rw [HS1.out, HSV2.out, HYes.out]; simp
            clear hs
            have hzw : (wr.alloc (.cells #[.int .i64 X2, .int .i64 Y2] 33)).heap.size = wr.heap.size + 1 := by simp
            gi_wp2_with (gi_at_builtin; refine wpListIn_append_own _ rfl _ _ 25 rfl w3.heap.size 33 i0 _ 2 16 Try.underlying25 hi hz0 hz1 hz2 rfl (by decide) _ _ _ rfl (hrowz.alloc _) ⟨wr.heap.size + 1, 0, none⟩ 1 1 [.int .i64 X, .int .i64 Y] rfl rfl (new_pair' (wr.alloc (.cells #[.int .i64 X2, .int .i64 Y2] 33)) _ _ _ (by simp)) (by simp [Value.oneCell']) (by unfold maxLen; omega) (by omega) (by simp; omega) ?_; intro v' w7 hown' hgrow _; obtain ⟨g', cap', rfl⟩ := ownsRow_succ hown'; obtain ⟨hv1, hv2, hr2, hk2, hb2⟩ := hvz.appended (by decide) hrowz hBz.size (by omega) hown' hgrow; have hbm2 := boxed_far ((hbmz.alloc _).kept hgrow (hbmz.not_row (by decide) hrowz)) (p := ⟨w3.heap.size + 1, 0, none⟩) (by simp) (.slice (some ⟨g', 0, none⟩) (L0.length + 1) cap'); have hc1 := hv1.cell; have hf1 := hv1.frozen)
            refine ⟨by have h := (HKF.out.trans (keepsF bz)).trans (hk2.from _); simpa using h, ⟨⟨_, hv2, ?_⟩, hbm2⟩, hBz.trans hb2⟩
            rw [HE.out, cellsQ_snoc]
            first | exact ⟨by simpa using hr2, trivial⟩ | simpa using hr2
        · obtain rfl : m = 4 := by omega
          have HE : Hid (accS S (k + 1) = L0) := by show _ = _; rw [HS1.out, HSV2.out, HNo.out]; simp
          gi_wp2
          refine ⟨HKF.out.trans (keepsF hbr), ⟨⟨v, boxed_to hv5 hbr, ?_⟩, boxed_to hbm5 hbr⟩, bl_step hB5 hbr hB5.size⟩
          rw [HE.out]
          exact ⟨ownsRow_to hrow5 hbr, trivial⟩
  case done =>
    rintro D W hD ⟨⟨⟨v, hv, hrow, _⟩, hbm⟩, hB⟩ hK
    rw [allP_len] at hrow
    have hc := hv.cell
    have hown : OwnQ W w.heap.size v (wallC (heldI Ls) (x, y)) := by rw [← HA.out]; exact World.ownsRow_lower hrow hn0
    have hBw := bl_step b3 hB hn0
    clear hrow hbm bL bM b4 HOwn HL
    gi_wp2
    refine ⟨by simp, .inl ⟨_, _, rfl, run_takeDeferred hK, ?_⟩⟩
    refine ⟨.tuple #[v, .bool true], by simp [results, Try.results32, go_sem], ⟨.inr ⟨HAt.out, v, rfl, ownsRow_putObj hown _ hK rfl⟩, hBw.trans (belowK_b (w := w) (Nat.le_refl _) W D _ _ (by simp at hD; omega) hK rfl rfl)⟩⟩
end Go.Proofs.Ytepamhdopmfkfaa
