/-
  Mazes in a law: the argument opened, its size, copy and comparison.
-/
import Derived.Test.YtdpamieheefhdaaMazeV
import Derived.Test.YtdpamieheefhdaaKeep
import Derived.Laws.ResultCell
namespace Go.Proofs.Ytdpamieheefhdaa
set_option linter.unusedSimpArgs false
set_option linter.unusedVariables false
open Go.ChangeShapes Go.WideShapes Go.ChangeAt Go.RowKit

variable {H : Type} {enc : TypeId × Value → H}
theorem open_intss_trod {w : World} {v : Value} {n : Nat} {y : DataW H × List MemPlace} (hf : DataW.trod enc Try.prog w 0 (fun _ => true) true n 45 [v] = some y) : ∃ (A : Option Addr) (Ls : List SlI) (c : Nat), v = .slice A Ls.length c ∧ RowsIn w A Ls c := by
  rcases Go.Deep.open_slice1 Try.underlying45 (by kernel_rfl) hf with ⟨hcs, _⟩ | ⟨a, l, c, m, n, V, D, Pl, hcs, _, hl, hm, hmm, _, hx⟩
  · injection hcs with hcs
    exact ⟨none, [], 0, by simpa using hcs, fun h => by simp at h, fun i h => by simp at h, by simp, by simp⟩
  · injection hcs with hcs
    subst hcs
    simp only [if_true] at hmm
    subst hmm
    have each : ∀ i, i < l → ∃ z : SlI, V i = .slice z.1 z.2.1.length z.2.2 ∧ (IntsAt w w.heap.size z.1 z.2.1 ∧ (∀ n ∈ z.2.1, Fits n)) ∧ z.2.1.length ≤ z.2.2 ∧ z.2.2 ≤ maxLen := fun i hi => open_ints_z (hx i (by omega)).2
    obtain ⟨z, hz⟩ := Go.Deep.choose_lt each
    have e : ∀ i, i < l → ((List.range l).map z).getD i si0 = z i := fun i hi => by simp [List.getD_eq_getElem?_getD, hi]
    refine ⟨some a, (List.range l).map z, m, by simp, ?_, fun i hi => ?_, by simpa using hl, hm⟩
    rotate_left
    · simp at hi
      rw [e i hi]
      exact (hz i hi).2.1.2
    intro h0
    simp at h0
    obtain ⟨b, off, spot⟩ := a
    have hc0 := (hx 0 (by omega)).1
    have hspot : spot = none := by simpa [Addr.add] using World.cell?_spot hc0
    subst hspot
    refine ⟨b, off, rfl, World.block_lt_of_cell? w ⟨b, off, none⟩ (by simpa [Addr.add] using hc0), fun i hi => ?_⟩
    simp at hi
    rw [e i hi]
    obtain ⟨h1, h2, h3, h4⟩ := hz i hi
    have h5 := (hx i (by omega)).1
    rw [add_plain] at h5
    exact ⟨by rw [h5, h1], h2.1, h3, h4⟩
set_option maxRecDepth 100000 in
theorem open_maze {w : World} {v : Value} {d : DataW H} {p : List MemPlace} {r : Reach} {b0 : Nat} (hv : Value.okWide Try.prog w r b0 47 v) (h : DataW.Trod enc Try.prog w 0 (fun _ => true) true 47 v d p) :
    ∃ (A : Option Addr) (Ls : List SlI) (c : Nat), v = .agg #[.slice A Ls.length c] ∧ RowsIn w A Ls c := by
  obtain ⟨f0, hs, ht0, ho0⟩ : ∃ f, Try.prog.underlying 47 = some (.struct #[f]) ∧ f.type = 45 ∧ f.offset = 0 := ⟨_, Try.underlying47, rfl, rfl⟩
  have hC : Try.prog.cellsOf 47 = 1 := by kernel_rfl
  obtain ⟨cs, rfl, hsz⟩ := okWide_struct hs hv
  obtain ⟨v0, rfl⟩ : ∃ v0, cs = #[v0] := by
    rw [hC] at hsz
    obtain ⟨l⟩ := cs
    match l, hsz with
    | [c0], _ => exact ⟨c0, rfl⟩
  obtain ⟨fuel, hf⟩ := h
  obtain ⟨xs, n, _, _, hl, hlen, hf0⟩ := DataW.trod_struct hs hf
  match xs, hlen with
  | [y0], _ =>
    have h0 := hf0 0 _ rfl
    have k1 : Try.prog.cellsOf 45 = 1 := by kernel_rfl
    obtain ⟨A, Ls, c, rfl, hR⟩ := open_intss_trod (v := v0) (by simpa [Value.cells, ht0, ho0, k1] using h0)
    exact ⟨A, Ls, c, rfl, hR⟩

/-- The size that a law asks for first: it is small, or the law is done. -/
theorem szMaze_any (A : Option Addr) (Ls : List SlI) (c : Nat) (w : World) (hp : ISAt w w.heap.size A Ls) (hn : Ls.length ≤ maxLen) :
    Calls Try.prog 28 #[.agg #[.slice A Ls.length c], .int .i64 1048576] w fun e w' => (∃ r : Int, e = .returned (.int .i64 r) ∧ -1 ≤ r ∧ r ≤ 1048576 ∧ (0 ≤ r → Ls.length ≤ 1048576 ∧ ∀ i, i < Ls.length → (Ls.getD i si0).2.1.length ≤ 1048576)) ∧ Below w.heap.size w w' := by
  have hx : Below w.heap.size w (w.alloc (.cells #[.slice A Ls.length c] 47)) := by (repeat (first | assumption | exact Below.refl _ _ | (refine bl_alloc ?_ _) | (refine Below.drew ?_) | (refine bl_drewN ?_ _) | (refine bl_set ?_ (by first | (simp; done) | omega | (simp; omega)) _) | (refine bl_trans ?_ (by assumption)) | (refine bl_step ?_ (by assumption) (by first | omega | exact Below.size (by assumption) | (simp; omega) | (simp; exact Below.size (by assumption))))))
  have hp1 := hp.to hx
  go_enter Try.func28, Try.ntmps28
  go_wp2_with fail
  refine (szInt64SS_any _ _ _ _ _ hp1 hn (by omega) (by omega)).mono ?_
  rintro e w1 ⟨r, rfl, rfl, h1, h2, h3⟩
  have H := Lib.hid h3
  clear h3
  by_cases hr : r < 0
  · go_wp2
    go_ret
    exact ⟨⟨-1, rfl, by omega, by omega, fun h => by omega⟩, hx⟩
  · go_wp2
    go_ret
    exact ⟨⟨r, rfl, h1, h2, H.out⟩, hx⟩

/-- A maze's value. -/
abbrev mzV (g n : Nat) : Value := .agg #[.slice (some ⟨g, 0, none⟩) n n]
/-- A new maze that holds what Ls holds. -/
def NewMz (Ls : List SlI) (w : World) (e : Ending) (w' : World) : Prop :=
  ∃ g Ms, e = .returned (mzV g Ls.length) ∧ Ms.length = Ls.length ∧ heldI Ms = heldI Ls ∧ ZI w' g Ls.length Ms ∧ NewIAll w' g Ms ∧ w.heap.size ≤ g ∧ Below w.heap.size w w'
theorem ZI.keep {w w1 : World} {g n : Nat} {Ms : List SlI} (h : ZI w g n Ms) (hk : w1.heap[g]? = w.heap[g]?) : ZI w1 g n Ms := by
  obtain ⟨cs, h0, h1⟩ := h
  exact ⟨cs, hk.trans h0, h1⟩
theorem NewIAll.far {w : World} {B : Nat} {Ms : List SlI} (h : NewIAll w B Ms) {p : Addr} (hp : p.block ≤ B) (v : Value) : NewIAll (w.setCell p v) B Ms := fun i hi => by
  obtain ⟨gi, h1, h2, h3, h4⟩ := h i hi
  exact ⟨gi, h1, h2, h3.keep (Below.heap_setCell _ p _ gi (by omega)), h4⟩
set_option maxHeartbeats 400000 in
theorem toMaze_new (A : Option Addr) (Ls : List SlI) (c : Nat) (w : World) (hp : ISAt w w.heap.size A Ls) (hn : Ls.length ≤ 1048576) (hl : ∀ i, i < Ls.length → (Ls.getD i si0).2.1.length ≤ 1048576) :
    Calls Try.prog 30 #[.agg #[.slice A Ls.length c]] w (NewMz Ls w) := by
  have HL := Lib.hid hl
  clear hl
  go_enter Try.func30, Try.ntmps30
  go_wp2_with fail
  refine (toInt64SS_own _ _ _ _ (hp.to (by (repeat (first | assumption | exact Below.refl _ _ | (refine bl_alloc ?_ _) | (refine Below.drew ?_) | (refine bl_drewN ?_ _) | (refine bl_set ?_ (by first | (simp; done) | omega | (simp; omega)) _) | (refine bl_trans ?_ (by assumption)) | (refine bl_step ?_ (by assumption) (by first | omega | exact Below.size (by assumption) | (simp; omega) | (simp; exact Below.size (by assumption)))))))) hn HL.out).mono ?_
  rintro e w1 ⟨g1, Ms, rfl, hM, hH, hZ, hI, hg1, hb1⟩
  obtain ⟨hc, hf, hz⟩ := bcell hb1
  have hz2 : w.heap.size + 1 + 1 < w1.heap.size := by (simp at hz; omega)
  have hz1 : w.heap.size + 1 < w1.heap.size := by omega
  have hz0 : w.heap.size < w1.heap.size := by omega
  have bel1 : Below w.heap.size w w1 := by (repeat (first | assumption | exact Below.refl _ _ | (refine bl_alloc ?_ _) | (refine Below.drew ?_) | (refine bl_drewN ?_ _) | (refine bl_set ?_ (by first | (simp; done) | omega | (simp; omega)) _) | (refine bl_trans ?_ (by assumption)) | (refine bl_step ?_ (by assumption) (by first | omega | exact Below.size (by assumption) | (simp; omega) | (simp; exact Below.size (by assumption))))))
  have HM := Lib.hid hM
  have HH := Lib.hid hH
  have HI := Lib.hid hI
  have hg1' : w.heap.size + 1 + 1 < g1 := by (simp at hg1; omega)
  clear hM hH hI
  go_wp2
  refine bodyPost_ret_by (v := mzV g1 Ls.length) ?_ rfl ⟨g1, Ms, rfl, HM.out, HH.out, ?_, ?_, by omega, ?_⟩
  · simp [results, Try.results30, go_sem, hc, hz0, hz1, hz2]
  · exact (hZ.keep (Below.heap_setCell _ _ _ g1 (by simp; omega))).keep (Below.heap_setCell _ _ _ g1 (by simp; omega))
  · exact (HI.out.far (by simp; omega) _).far (by simp; omega) _
  · (repeat (first | assumption | exact Below.refl _ _ | (refine bl_alloc ?_ _) | (refine Below.drew ?_) | (refine bl_drewN ?_ _) | (refine bl_set ?_ (by first | (simp; done) | omega | (simp; omega)) _) | (refine bl_trans ?_ (by assumption)) | (refine bl_step ?_ (by assumption) (by first | omega | exact Below.size (by assumption) | (simp; omega) | (simp; exact Below.size (by assumption))))))
theorem NewIAll.nsz {w : World} {B : Nat} {Ms : List SlI} (h : NewIAll w B Ms) {i : Nat} (hi : i < Ms.length) : (Ms.getD i si0).2.1.length ≤ 1048576 := by
  obtain ⟨_, _, _, _, _, h5⟩ := h i hi
  exact h5
set_option maxHeartbeats 400000 in
theorem eqMaze_same (A B : Option Addr) (Ls Ms : List SlI) (n c d : Nat) (w : World) (hp : ISAt w w.heap.size A Ls) (hq : ISAt w w.heap.size B Ms) (hL : Ls.length = n) (hM : Ms.length = n) (hh : heldI Ls = heldI Ms) (hn : n ≤ 1048576) (hl : ∀ i, i < n → (Ls.getD i si0).2.1.length ≤ 1048576) :
    Calls Try.prog 33 #[.agg #[.slice A n c], .agg #[.slice B n d]] w fun e w' => e = .returned (.bool true) ∧ Below w.heap.size w w' := by
  have HL := Lib.hid hL
  have HM := Lib.hid hM
  have HH := Lib.hid hh
  have HB := Lib.hid hl
  clear hL hM hh hl
  go_enter Try.func33, Try.ntmps33
  go_wp2_with fail
  refine (eqInt64SS_same _ _ _ _ _ _ _ _ (hp.to (by (repeat (first | assumption | exact Below.refl _ _ | (refine bl_alloc ?_ _) | (refine Below.drew ?_) | (refine bl_drewN ?_ _) | (refine bl_set ?_ (by first | (simp; done) | omega | (simp; omega)) _) | (refine bl_trans ?_ (by assumption)) | (refine bl_step ?_ (by assumption) (by first | omega | exact Below.size (by assumption) | (simp; omega) | (simp; exact Below.size (by assumption)))))))) (hq.to (by (repeat (first | assumption | exact Below.refl _ _ | (refine bl_alloc ?_ _) | (refine Below.drew ?_) | (refine bl_drewN ?_ _) | (refine bl_set ?_ (by first | (simp; done) | omega | (simp; omega)) _) | (refine bl_trans ?_ (by assumption)) | (refine bl_step ?_ (by assumption) (by first | omega | exact Below.size (by assumption) | (simp; omega) | (simp; exact Below.size (by assumption)))))))) HL.out HM.out HH.out hn HB.out).mono ?_
  rintro e w1 ⟨rfl, hb1⟩
  go_wp2
  go_ret
  exact ⟨rfl, by (repeat (first | assumption | exact Below.refl _ _ | (refine bl_alloc ?_ _) | (refine Below.drew ?_) | (refine bl_drewN ?_ _) | (refine bl_set ?_ (by first | (simp; done) | omega | (simp; omega)) _) | (refine bl_trans ?_ (by assumption)) | (refine bl_step ?_ (by assumption) (by first | omega | exact Below.size (by assumption) | (simp; omega) | (simp; exact Below.size (by assumption))))))⟩

end Go.Proofs.Ytdpamieheefhdaa
