/-
  Bundles in a law: the argument opened, its size, copy and comparison.
-/
import Derived.Test.YtifenbamookmiaaDoorOpenIS
import Derived.Test.YtifenbamookmiaaDoorBunI
import Derived.Test.YtifenbamookmiaaDoorKeep
import Derived.Laws.ResultCell
namespace Go.Proofs.YtifenbamookmiaaDoor
set_option linter.unusedSimpArgs false
set_option linter.unusedVariables false
open Go.ChangeShapes Go.WideShapes Go.ChangeAt Go.RowKit

variable {H : Type} {enc : TypeId × Value → H}

set_option maxRecDepth 100000 in
theorem open_bundle {w : World} {v : Value} {d : DataW H} {p : List MemPlace} {r : Reach} {b0 : Nat} (hv : Value.okWide Tryd.prog w r b0 24 v) (h : DataW.Trod enc Tryd.prog w 0 (fun _ => true) true 24 v d p) :
    ∃ (A : Option Addr) (Ls : List SlI) (c : Nat), v = .agg #[.slice A Ls.length c] ∧ RowsIn w A Ls c := by
  obtain ⟨f0, hs, ht0, ho0⟩ : ∃ f, Tryd.prog.underlying 24 = some (.struct #[f]) ∧ f.type = 22 ∧ f.offset = 0 := ⟨_, Tryd.underlying24, rfl, rfl⟩
  have hC : Tryd.prog.cellsOf 24 = 1 := by kernel_rfl
  obtain ⟨cs, rfl, hsz⟩ := okWide_struct hs hv
  obtain ⟨v0, rfl⟩ : ∃ v0, cs = #[v0] := by
    rw [hC] at hsz
    obtain ⟨l⟩ := cs
    match l, hsz with
    | [c0], _ => exact ⟨c0, rfl⟩
  obtain ⟨fuel, hf⟩ := h
  obtain ⟨xs, n, _, _, hl, hlen, hf0⟩ := DataW.trod_struct hs hf
  match xs, hlen with
  | [y0], _ =>
    have h0 := hf0 0 _ rfl
    have k1 : Tryd.prog.cellsOf 22 = 1 := by kernel_rfl
    obtain ⟨A, Ls, c, rfl, hR⟩ := open_intss_trod (v := v0) (by simpa [Value.cells, ht0, ho0, k1] using h0)
    exact ⟨A, Ls, c, rfl, hR⟩

/-- The size that a law asks for first: it is small, or the law is done. -/
theorem szBundle_any (A : Option Addr) (Ls : List SlI) (c : Nat) (w : World) (hp : ISAt w w.heap.size A Ls) (hn : Ls.length ≤ maxLen) :
    Calls Tryd.prog 8 #[.agg #[.slice A Ls.length c], .int .i64 1048576] w fun e w' => (∃ r : Int, e = .returned (.int .i64 r) ∧ -1 ≤ r ∧ r ≤ 1048576 ∧ (0 ≤ r → Ls.length ≤ 1048576 ∧ ∀ i, i < Ls.length → (Ls.getD i si0).2.1.length ≤ 1048576)) ∧ Below w.heap.size w w' := by
  have hx : Below w.heap.size w (w.alloc (.cells #[.slice A Ls.length c] 24)) := by (repeat (first | assumption | exact Below.refl _ _ | (refine bl_alloc ?_ _) | (refine Below.drew ?_) | (refine bl_drewN ?_ _) | (refine bl_set ?_ (by first | (simp; done) | omega | (simp; omega)) _) | (refine bl_trans ?_ (by assumption)) | (refine bl_step ?_ (by assumption) (by first | omega | exact Below.size (by assumption) | (simp; omega) | (simp; exact Below.size (by assumption))))))
  have hp1 := hp.to hx
  go_enter Tryd.func8, Tryd.ntmps8
  go_wp2_with fail
  refine (szInt64SS_any _ _ _ _ _ hp1 hn (by omega) (by omega)).mono ?_
  rintro e w1 ⟨r, rfl, rfl, h1, h2, h3⟩
  have H := Lib.hid h3
  clear h3
  by_cases hr : r < 0
  · go_wp2
    go_ret
    exact ⟨⟨-1, rfl, by omega, by omega, fun h => by omega⟩, hx⟩
  · go_wp2
    go_ret
    exact ⟨⟨r, rfl, h1, h2, H.out⟩, hx⟩

/-- A bundle's value. -/
abbrev bnV (g n : Nat) : Value := .agg #[.slice (some ⟨g, 0, none⟩) n n]
/-- A new bundle that holds what Ls holds. -/
def NewBn (Ls : List SlI) (w : World) (e : Ending) (w' : World) : Prop :=
  ∃ g Ms, e = .returned (bnV g Ls.length) ∧ Ms.length = Ls.length ∧ heldI Ms = heldI Ls ∧ ZI w' g Ls.length Ms ∧ NewIAll w' g Ms ∧ w.heap.size ≤ g ∧ Below w.heap.size w w'
theorem ZI.keep {w w1 : World} {g n : Nat} {Ms : List SlI} (h : ZI w g n Ms) (hk : w1.heap[g]? = w.heap[g]?) : ZI w1 g n Ms := by
  obtain ⟨cs, h0, h1⟩ := h
  exact ⟨cs, hk.trans h0, h1⟩
theorem NewIAll.far {w : World} {B : Nat} {Ms : List SlI} (h : NewIAll w B Ms) {p : Addr} (hp : p.block ≤ B) (v : Value) : NewIAll (w.setCell p v) B Ms := fun i hi => by
  obtain ⟨gi, h1, h2, h3, h4⟩ := h i hi
  exact ⟨gi, h1, h2, h3.keep (Below.heap_setCell _ p _ gi (by omega)), h4⟩
set_option maxHeartbeats 400000 in
theorem toBundle_new (A : Option Addr) (Ls : List SlI) (c : Nat) (w : World) (hp : ISAt w w.heap.size A Ls) (hn : Ls.length ≤ 1048576) (hl : ∀ i, i < Ls.length → (Ls.getD i si0).2.1.length ≤ 1048576) :
    Calls Tryd.prog 10 #[.agg #[.slice A Ls.length c]] w (NewBn Ls w) := by
  have HL := Lib.hid hl
  clear hl
  go_enter Tryd.func10, Tryd.ntmps10
  go_wp2_with fail
  refine (toInt64SS_own _ _ _ _ (hp.to (by (repeat (first | assumption | exact Below.refl _ _ | (refine bl_alloc ?_ _) | (refine Below.drew ?_) | (refine bl_drewN ?_ _) | (refine bl_set ?_ (by first | (simp; done) | omega | (simp; omega)) _) | (refine bl_trans ?_ (by assumption)) | (refine bl_step ?_ (by assumption) (by first | omega | exact Below.size (by assumption) | (simp; omega) | (simp; exact Below.size (by assumption)))))))) hn HL.out).mono ?_
  rintro e w1 ⟨g1, Ms, rfl, hM, hH, hZ, hI, hg1, hb1⟩
  obtain ⟨hc, hf, hz⟩ := bcell hb1
  have hz2 : w.heap.size + 1 + 1 < w1.heap.size := by (simp at hz; omega)
  have hz1 : w.heap.size + 1 < w1.heap.size := by omega
  have hz0 : w.heap.size < w1.heap.size := by omega
  have bel1 : Below w.heap.size w w1 := by (repeat (first | assumption | exact Below.refl _ _ | (refine bl_alloc ?_ _) | (refine Below.drew ?_) | (refine bl_drewN ?_ _) | (refine bl_set ?_ (by first | (simp; done) | omega | (simp; omega)) _) | (refine bl_trans ?_ (by assumption)) | (refine bl_step ?_ (by assumption) (by first | omega | exact Below.size (by assumption) | (simp; omega) | (simp; exact Below.size (by assumption))))))
  have HM := Lib.hid hM
  have HH := Lib.hid hH
  have HI := Lib.hid hI
  have hg1' : w.heap.size + 1 + 1 < g1 := by (simp at hg1; omega)
  clear hM hH hI
  go_wp2
  refine bodyPost_ret_by (v := bnV g1 Ls.length) ?_ rfl ⟨g1, Ms, rfl, HM.out, HH.out, ?_, ?_, by omega, ?_⟩
  · simp [results, Tryd.results10, go_sem, hc, hz0, hz1, hz2]
  · exact (hZ.keep (Below.heap_setCell _ _ _ g1 (by simp; omega))).keep (Below.heap_setCell _ _ _ g1 (by simp; omega))
  · exact (HI.out.far (by simp; omega) _).far (by simp; omega) _
  · (repeat (first | assumption | exact Below.refl _ _ | (refine bl_alloc ?_ _) | (refine Below.drew ?_) | (refine bl_drewN ?_ _) | (refine bl_set ?_ (by first | (simp; done) | omega | (simp; omega)) _) | (refine bl_trans ?_ (by assumption)) | (refine bl_step ?_ (by assumption) (by first | omega | exact Below.size (by assumption) | (simp; omega) | (simp; exact Below.size (by assumption))))))
theorem NewIAll.nsz {w : World} {B : Nat} {Ms : List SlI} (h : NewIAll w B Ms) {i : Nat} (hi : i < Ms.length) : (Ms.getD i si0).2.1.length ≤ 1048576 := by
  obtain ⟨_, _, _, _, _, h5⟩ := h i hi
  exact h5
set_option maxHeartbeats 400000 in
theorem eqBundle_same (A B : Option Addr) (Ls Ms : List SlI) (n c d : Nat) (w : World) (hp : ISAt w w.heap.size A Ls) (hq : ISAt w w.heap.size B Ms) (hL : Ls.length = n) (hM : Ms.length = n) (hh : heldI Ls = heldI Ms) (hn : n ≤ 1048576) (hl : ∀ i, i < n → (Ls.getD i si0).2.1.length ≤ 1048576) :
    Calls Tryd.prog 13 #[.agg #[.slice A n c], .agg #[.slice B n d]] w fun e w' => e = .returned (.bool true) ∧ Below w.heap.size w w' := by
  have HL := Lib.hid hL
  have HM := Lib.hid hM
  have HH := Lib.hid hh
  have HB := Lib.hid hl
  clear hL hM hh hl
  go_enter Tryd.func13, Tryd.ntmps13
  go_wp2_with fail
  refine (eqInt64SS_same _ _ _ _ _ _ _ _ (hp.to (by (repeat (first | assumption | exact Below.refl _ _ | (refine bl_alloc ?_ _) | (refine Below.drew ?_) | (refine bl_drewN ?_ _) | (refine bl_set ?_ (by first | (simp; done) | omega | (simp; omega)) _) | (refine bl_trans ?_ (by assumption)) | (refine bl_step ?_ (by assumption) (by first | omega | exact Below.size (by assumption) | (simp; omega) | (simp; exact Below.size (by assumption)))))))) (hq.to (by (repeat (first | assumption | exact Below.refl _ _ | (refine bl_alloc ?_ _) | (refine Below.drew ?_) | (refine bl_drewN ?_ _) | (refine bl_set ?_ (by first | (simp; done) | omega | (simp; omega)) _) | (refine bl_trans ?_ (by assumption)) | (refine bl_step ?_ (by assumption) (by first | omega | exact Below.size (by assumption) | (simp; omega) | (simp; exact Below.size (by assumption)))))))) HL.out HM.out HH.out hn HB.out).mono ?_
  rintro e w1 ⟨rfl, hb1⟩
  go_wp2
  go_ret
  exact ⟨rfl, by (repeat (first | assumption | exact Below.refl _ _ | (refine bl_alloc ?_ _) | (refine Below.drew ?_) | (refine bl_drewN ?_ _) | (refine bl_set ?_ (by first | (simp; done) | omega | (simp; omega)) _) | (refine bl_trans ?_ (by assumption)) | (refine bl_step ?_ (by assumption) (by first | omega | exact Below.size (by assumption) | (simp; omega) | (simp; exact Below.size (by assumption))))))⟩

end Go.Proofs.YtifenbamookmiaaDoor
