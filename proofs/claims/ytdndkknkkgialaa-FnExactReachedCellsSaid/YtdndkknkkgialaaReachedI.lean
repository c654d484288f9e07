/-
  Contract: the reached cells, as the program has them.
-/
import Derived.Test.YtdndkknkkgialaaReachedS
import Derived.Test.YtdndkknkkgialaaReachV
import Derived.Test.YtdndkknkkgialaaEachC
namespace Go.Proofs.Ytdndkknkkgialaa
set_option linter.unusedSimpArgs false
set_option linter.unusedVariables false
open Go.ChangeShapes Go.WideShapes Go.ChangeAt Go.RowKit Go.Shelf
attribute [local go_sem] Oper.semAt_some

theorem own_box (B : Nat) (t : TypeId) (v : Value) : Own (fun (_ : Nat) W => Boxed W B t v) := fun s X Y row hv hg hrow => hv.kept hg (fun e' => by
  obtain ⟨o, ho, hc⟩ := hrow B e'.symm
  rw [show X.heap[B]? = _ from hv] at ho; cases ho; cases hc)
theorem ownFrom_set {B mb : Nat} {l : List Pt} (h : mb < B) : OwnFrom B (fun (_ : Nat) W => SetMap W mb l) := fun _ W W' row hs hg hr =>
  hs.keep (hg.block mb hs.lt (fun e => by have := (hr mb e.symm).1; omega))
theorem new_pair (W : World) (t : TypeId) (a b : Int) : ∀ j u, ([Value.int .i64 a, Value.int .i64 b])[j]? = some u → (W.alloc (.cells #[.int .i64 a, .int .i64 b] t)).cell? ((⟨W.heap.size, 0, none⟩ : Addr).add j) = some u := by
  intro j u hu
  rcases j with _ | _ | j
  · simp at hu; subst hu; simp [Addr.add]
  · simp at hu; subst hu; simp [Addr.add]
  · simp at hu
theorem reachB_out {M : Mz} {p : Pt} (hpo : openB M p.1 p.2 = true) {x y : Nat} (h : wid M ≤ x ∨ M.length ≤ y) : reachB M p ((x : Int), (y : Int)) = false := by
  cases hc : reachB M p ((x : Int), (y : Int))
  · rfl
  · obtain ⟨i, j, hi, hj, hi', hj', _⟩ := openB_pt ((reachB_iff.1 hc).open_ hpo)
    simp only at hi hj
    omega
theorem accS_all {M : Mz} {p : Pt} (hM : MzOk M) (hpo : openB M p.1 p.2 = true) : accS (reachB M p) 144 = reachL M p := by
  rw [show 144 = 12 * 12 from rfl, accS_cols]
  unfold reachL
  exact colsS_more (fun x y h => reachB_out hpo (.inl h)) (fun x y h => reachB_out hpo (.inr h)) 12 12 hM.w12 hM.h12
theorem PtBox.alloc_ {w : World} {G : Nat} {p : Pt} (h : PtBox w G p) (o : Obj) : PtBox (w.alloc o) G p := h.to (by (repeat (first | assumption | exact Below.refl _ _ | (refine bl_alloc ?_ _) | (refine Below.drew ?_) | (refine bl_drewN ?_ _) | (refine bl_set ?_ (by first | (simp; done) | omega | (simp; omega)) _) | (refine bl_trans ?_ (by assumption)) | (refine bl_step ?_ (by assumption) (by first | omega | exact Below.size (by assumption) | (simp; omega) | (simp; exact Below.size (by assumption)))))))
set_option maxRecDepth 100000 in
set_option maxHeartbeats 3200000 in
theorem ReachedCellsI_yes (A : Option Addr) (Ls : List SlI) (c : Nat) (x y : Int) (w : World) (hp : ISAt w w.heap.size A Ls) (hs : Short Ls) (ha : atB (heldI Ls) x y = true) :
    Calls Try.prog 25 #[.agg #[.slice A Ls.length c], .agg #[.int .i64 x, .int .i64 y]] w (ReachedRes (heldI Ls) (x, y) w) := by
  refine (callsIn_wide (n := 3)).1 ?_
  refine callsIn_of_wp_marks Try.func25 rfl trivial ?_ rfl
  simp only [Try.ntmps25, List.size_toArray, List.length_cons, List.length_nil, Nat.reduceAdd, Nat.reduceSub, Array.replicate_succ, Array.replicate_zero, List.push_toArray, List.append_toArray, List.nil_append, List.cons_append]
  gi_wp2
  refine ⟨trivial, (callsIn_wide.2 (enterOne_any A Ls c x y (w.heap.size + 1 + 1) 1 _ (hp.to (by (repeat (first | assumption | exact Below.refl _ _ | (refine bl_alloc ?_ _) | (refine Below.drew ?_) | (refine bl_drewN ?_ _) | (refine bl_set ?_ (by first | (simp; done) | omega | (simp; omega)) _) | (refine bl_trans ?_ (by assumption)) | (refine bl_step ?_ (by assumption) (by first | omega | exact Below.size (by assumption) | (simp; omega) | (simp; exact Below.size (by assumption)))))))) hs (one_pts _ _ _ _ (by go_simp) (by go_simp)))).mono ?_⟩
  rintro e w1 (⟨_, gw, gh, gc, rfl, hPr, hb1⟩ | ⟨ha', rfl, hb1⟩)
  · obtain ⟨hv, ho⟩ := atB_two ha
    have hM := mzOk_of hv
    have b1 : Below w.heap.size w w1 := by (repeat (first | assumption | exact Below.refl _ _ | (refine bl_alloc ?_ _) | (refine Below.drew ?_) | (refine bl_drewN ?_ _) | (refine bl_set ?_ (by first | (simp; done) | omega | (simp; omega)) _) | (refine bl_trans ?_ (by assumption)) | (refine bl_step ?_ (by assumption) (by first | omega | exact Below.size (by assumption) | (simp; omega) | (simp; exact Below.size (by assumption))))))
    have hB2 := ((PtBox.new (w.alloc (.cells #[.slice A Ls.length c] 27)) x y).alloc_ (.cells #[.int .i64 x, .int .i64 y] 34)).to hb1
    have p0 := hB2.c0
    have p1 := hB2.c1
    simp at p0 p1
    gi_wp2
    refine ⟨trivial, (callsIn_wide.2 (reached_any gw gh gc A Ls c x y _ hPr hM ho)).mono ?_⟩
    rintro e w3 ⟨mb, l, rfl, hset, hl, hmb, hb3⟩
    have b3 := bl_step b1 hb3 b1.size
    have HL := Lib.hid (fun q => (hl q).trans (reachB_iff (M := heldI Ls)).symm)
    have HA := Lib.hid (accS_all hM (show openB (heldI Ls) (x, y).1 (x, y).2 = true from ho))
    have HAt := Lib.hid ha
    clear hl hM hv ho p0 p1 hB2 b1 hb1 hb3 hPr hp hs
    obtain ⟨S, hS⟩ : ∃ S, reachB (heldI Ls) (x, y) = S := ⟨_, rfl⟩
    rw [hS] at HL HA
    obtain ⟨i0, hi, hz0, hz1, hz2⟩ := info_parts infoQ
    gi_wp2
    have bL := Boxed.new (w3.alloc (.cells #[.map (some mb)] 76)) 44 (.slice none 0 0)
    rw [show (w3.alloc (.cells #[.map (some mb)] 76)).heap.size = w3.heap.size + 1 by simp] at bL
    have bM := (Boxed.new w3 76 (.map (some mb))).alloc (.cells #[.slice none 0 0] 44)
    have hset0 := (hset.alloc (.cells #[.map (some mb)] 76)).alloc (.cells #[.slice none 0 0] 44)
    have b4 : Below w.heap.size w ((w3.alloc (.cells #[.map (some mb)] 76)).alloc (.cells #[.slice none 0 0] 44)) := by (repeat (first | assumption | exact Below.refl _ _ | (refine bl_alloc ?_ _) | (refine Below.drew ?_) | (refine bl_drewN ?_ _) | (refine bl_set ?_ (by first | (simp; done) | omega | (simp; omega)) _) | (refine bl_trans ?_ (by assumption)) | (refine bl_step ?_ (by assumption) (by first | omega | exact Below.size (by assumption) | (simp; omega) | (simp; exact Below.size (by assumption))))))
    have hml := hset.lt
    have HOwn : OwnFrom ((w3.alloc (.cells #[.map (some mb)] 76)).alloc (.cells #[.slice none 0 0] 44)).heap.size (fun k W => (((∃ v, Boxed W (w3.heap.size + 1) 44 v ∧ W.ownsRow w.heap.size 34 2 v (accS S k).length (cellsQ (accS S k)) ∧ True) ∧ Boxed W w3.heap.size 76 (.map (some mb))) ∧ SetMap W mb l) ∧ Below w.heap.size w W) :=
      OwnFrom.and (OwnFrom.and (OwnFrom.and (Own.from (holdsRow_own w.heap.size (w3.heap.size + 1) 44 34 2 (fun k : Nat => (accS S k).length) (fun k : Nat => cellsQ (accS S k)) (fun _ _ => True)) _) (Own.from (own_box _ _ _) _)) (ownFrom_set (by simp; omega))) (ownFrom_below (Nat.le_refl _) b4.size)
    have hn0 := b3.size
    clear hset b3
    refine range_givesP (gf := 57) (xs := allP) (by omega) rfl (enters_of Try.func57 (by kernel_rfl) rfl) (eachCell_gives 2) rfl _ HOwn
      ⟨⟨⟨⟨_, bL, World.ownsRow_nil _ _ _ _, trivial⟩, bM⟩, hset0⟩, b4⟩
      (fun p a' W => ∃ bi, a' = { tmps := #[.agg #[.slice A Ls.length c], .agg #[.int .i64 x, .int .i64 y], .pointer (some ⟨w.heap.size, 0, none⟩), .pointer (some ⟨w.heap.size + 1, 0, none⟩), .slice none 0 0, .bool false, prV gw gh gc, .bool true, .pointer (some ⟨w3.heap.size, 0, none⟩), .pointer (some ⟨w3.heap.size + 1, 0, none⟩), .pointer (some ⟨bi, 0, none⟩), .tuple #[prV gw gh gc, .bool true], .agg #[.slice A Ls.length c], .agg #[.int .i64 x, .int .i64 y], .slice (some ⟨w.heap.size + 1 + 1, 0, none⟩) 1 1, .tuple #[prV gw gh gc, .bool true], prV gw gh gc, .bool true, .bool true, .bool false, prV gw gh gc, .agg #[.int .i64 x, .int .i64 y], .map (some mb), ptN p, undef, undef, undef, undef, undef, undef, undef, undef], defers := [] } ∧ PtBox W bi p) ?own ?assign ?body ?done
    case own =>
      rintro p a' s W W' row ⟨bi, h1, h2⟩ hg hr
      refine ⟨bi, h1, h2.keep (hg.block bi h2.lt (fun e => ?_))⟩
      obtain ⟨o, ho, hc⟩ := (hr bi e.symm).2
      rw [show W.heap[bi]? = _ from h2] at ho
      cases ho; cases hc
    case assign =>
      rintro l' k ⟨X, Y⟩ W K' hI hK'
      have hI2 := HOwn.alloc (.cells #[.int .i64 X, .int .i64 Y] 34) hI
      clear hI
      gi_wp2
      exact hK' _ _ ((KeepsOthers.alloc _ _).from _) hI2 ⟨W.heap.size, rfl, PtBox.new _ _ _⟩
    case body =>
      clear bL bM hset0 b4 HOwn
      rintro l' k ⟨X, Y⟩ a' W hl' ⟨r, hr⟩ ⟨⟨⟨⟨v, hv, hrow, _⟩, hbm⟩, hst⟩, hB⟩ ⟨bi, rfl, hPt⟩ hx
      have hk : k < 144 := by
        rcases Nat.lt_or_ge k 144 with h | h
        · exact h
        · rw [List.getElem?_eq_none (by rw [allP_len]; exact h)] at hx; cases hx
      have hpk : ptK k = (X, Y) := by rw [allP_at hk] at hx; injection hx
      have hlk := hst.look (X, Y)
      unfold ptV at hlk
      have hc := hv.cell
      have m0 := hbm.cell
      have p0 := hPt.c0
      have p1 := hPt.c1
      simp only at p0 p1
      have hle := accS_len S k
      have HS1 := Lib.hid (accS_succ S k)
      have hdl : decide ((X, Y) ∈ l) = S (X, Y) := by
        cases hs : S (X, Y)
        · exact decide_eq_false (fun h => by have := (HL.out _).1 h; rw [hs] at this; cases this)
        · exact decide_eq_true ((HL.out _).2 hs)
      rw [hdl] at hlk
      clear hx hr hdl HL
      obtain ⟨L0, hL0⟩ : ∃ L0, accS S k = L0 := ⟨_, rfl⟩
      rw [hL0] at hrow hle HS1
      rw [hpk] at HS1
      clear hL0 hpk
      cases hs : S (X, Y)
      · have HE : Hid (accS S (k + 1) = L0) := by show _ = _; rw [HS1.out, hs]; simp
        rw [hs] at hlk
        clear hs
        gi_wp2
        exact ⟨KeepsFrom.refl _ _, ⟨⟨⟨v, hv, by rw [HE.out]; exact hrow⟩, hbm⟩, hst⟩, hB⟩
      · have HE : Hid (accS S (k + 1) = L0 ++ [(X, Y)]) := by show _ = _; rw [HS1.out, hs]; simp
        rw [hs] at hlk
        clear hs
        gi_wp2_with (gi_at_builtin; refine wpListIn_append_own _ rfl _ _ 44 rfl w.heap.size 34 i0 _ 2 16 Try.underlying44 hi hz0 hz1 hz2 rfl (by decide) _ _ _ rfl (hrow.alloc _) ⟨W.heap.size, 0, none⟩ 1 1 [.int .i64 X, .int .i64 Y] rfl rfl (new_pair _ _ _ _) (by simp [Value.oneCell']) (by unfold maxLen; omega) (by omega) (by have := hB.size; simp; omega) ?_; intro v' w5 hown' hgrow _; obtain ⟨g', cap', rfl⟩ := ownsRow_succ hown'; obtain ⟨hv1, hv2, hr2, hk2, hb2⟩ := hv.appended (by decide) hrow hB.size (by omega) hown' hgrow; have hbm2 := boxed_far ((hbm.alloc _).kept hgrow (hbm.not_row (by decide) hrow)) (p := ⟨w3.heap.size + 1, 0, none⟩) (by simp) (.slice (some ⟨g', 0, none⟩) (L0.length + 1) cap'); have hc1 := hv1.cell; have hf1 := hv1.frozen)
        refine ⟨hk2.from _, ⟨⟨⟨_, hv2, ?_⟩, hbm2⟩, ?_⟩, hB.trans hb2⟩
        · rw [HE.out, cellsQ_snoc]
          simpa using hr2
        · obtain ⟨es, ck, h0, h1⟩ := hst
          exact ⟨es, ck, hk2.same _ _ h0 rfl, h1⟩
    case done =>
      rintro D W hD ⟨⟨⟨⟨v, hv, hrow, _⟩, hbm⟩, hst⟩, hB⟩ hK
      rw [allP_len] at hrow
      have hc := hv.cell
      have hown : OwnQ W w.heap.size v (reachL (heldI Ls) (x, y)) := by rw [← HA.out]; exact hrow
      clear hrow hbm hst bL bM hset0 b4 HOwn HL
      gi_wp2
      refine ⟨by simp, .inl ⟨_, _, rfl, run_takeDeferred hK, ?_⟩⟩
      refine ⟨.tuple #[v, .bool true], by simp [results, Try.results25, go_sem], .inr ⟨HAt.out, v, rfl, ownsRow_putObj hown _ hK rfl⟩, hB.trans (belowK_b (w := w) (Nat.le_refl _) W D _ _ (by simp at hD; omega) hK rfl rfl)⟩
  · rw [ha] at ha'; cases ha'
end Go.Proofs.Ytdndkknkkgialaa
