/-
  Contracts: the bound by the box, as the model and the program have it.
-/
import Derived.Test.YtepamhdopmfkfaaAttempt
import Derived.Test.YtepamhdopmfkfaaBoxI
import Derived.Shelf.Abstract
namespace Go.Proofs.Ytepamhdopmfkfaa
set_option linter.unusedSimpArgs false
set_option linter.unusedVariables false
open Go.ChangeShapes Go.WideShapes Go.ChangeAt Go.RowKit Go.Shelf
open Go.Proofs.Ytepamhdopmfkfaa.fnExactBoxOf

def bbN (ps : List Pt) : Int := farI (mnI (xs ps) ps.length) (mnI (ys ps) ps.length) (mxI (xs ps) ps.length) (mxI (ys ps) ps.length)
def bbV (ps : List Pt) : Value := .tuple #[.int .i64 (sel (isPins ps) (bbN ps)), .bool (isPins ps)]
theorem bbV_f {ps : List Pt} (h : isPins ps = false) : bbV ps = .tuple #[.int .i64 0, .bool false] := by simp [bbV, sel, h]
theorem bbV_t {ps : List Pt} (h : isPins ps = true) : bbV ps = .tuple #[.int .i64 (bbN ps), .bool true] := by simp [bbV, sel, h]
theorem mnI_in {l : Nat → Int} {a b : Int} (h : ∀ i, a ≤ l i ∧ l i ≤ b) : ∀ n, a ≤ mnI l n ∧ mnI l n ≤ b
  | 0 => h 0
  | n + 1 => by have := mnI_in h n; have := h n; unfold mnI; omega
theorem mxI_in {l : Nat → Int} {a b : Int} (h : ∀ i, a ≤ l i ∧ l i ≤ b) : ∀ n, a ≤ mxI l n ∧ mxI l n ≤ b
  | 0 => h 0
  | n + 1 => by have := mxI_in h n; have := h n; unfold mxI; omega
theorem pt_in {ps : List Pt} (ha : allPt ps = true) (i : Nat) : (0 ≤ xs ps i ∧ xs ps i ≤ 99) ∧ (0 ≤ ys ps i ∧ ys ps i ≤ 99) := by
  by_cases h : i < ps.length
  · exact isPt_iff.1 (allPt_at ha h)
  · unfold xs ys
    simp [List.getD_eq_getElem?_getD, List.getElem?_eq_none (show ps.length ≤ i by omega)]
theorem bb_lo {ps : List Pt} (ha : allPt ps = true) (n : Nat) : (-1000 ≤ mnI (xs ps) n ∧ mnI (xs ps) n ≤ 1000) ∧ (-1000 ≤ mnI (ys ps) n ∧ mnI (ys ps) n ≤ 1000) ∧ (-1000 ≤ mxI (xs ps) n ∧ mxI (xs ps) n ≤ 1000) ∧ (-1000 ≤ mxI (ys ps) n ∧ mxI (ys ps) n ≤ 1000) := by
  have h1 := mnI_in (fun i => (pt_in ha i).1) n
  have h2 := mnI_in (fun i => (pt_in ha i).2) n
  have h3 := mxI_in (fun i => (pt_in ha i).1) n
  have h4 := mxI_in (fun i => (pt_in ha i).2) n
  omega

set_option maxRecDepth 100000 in
set_option maxHeartbeats 800000 in
theorem BoxBoundS_any (A : Option Addr) (ps : List Pt) (c : Nat) (w : World) (hp : PtsAt w w.heap.size A ps) (hl : ps.length ≤ 1048576) (hlc : ps.length ≤ c) :
    Calls Try.prog 15 #[.slice A ps.length c] w fun e w' => e = .returned (bbV ps) ∧ Below w.heap.size w w' := by
  cases hi : isPins ps
  · have H := Lib.hid hi
    have R := Lib.hid (bbV_f hi)
    clear hi
    go_enter Try.func15, Try.ntmps15
    go_wp2_with fail
    refine (l05Is_any _ _ _ _ hp hl hlc).mono ?_
    rintro e w1 ⟨rfl, hb1⟩
    rw [H.out]
    go_wp2
    go_ret2
    exact ⟨by rw [R.out]; rfl, hb1⟩
  · obtain ⟨h0, h20, ha, _⟩ := isPins_iff.1 hi
    have H := Lib.hid hi
    have R := Lib.hid (bbV_t hi)
    obtain ⟨m1, m2, m3, m4⟩ := bb_lo ha ps.length
    have cb := fun (w1 : World) (hb : Below w.heap.size w w1) => l01Box_any A ps c w1 (hp.to hb) (by omega) h0
    have hF : ∀ n, bbN ps = n → farI (mnI (xs ps) ps.length) (mnI (ys ps) ps.length) (mxI (xs ps) ps.length) (mxI (ys ps) ps.length) = n := fun _ h => h
    unfold bbN at R
    generalize mnI (xs ps) ps.length = n1 at *
    generalize mnI (ys ps) ps.length = n2 at *
    generalize mxI (xs ps) ps.length = n3 at *
    generalize mxI (ys ps) ps.length = n4 at *
    have CB := Lib.hid cb
    clear hi h0 h20 ha cb hF
    go_enter Try.func15, Try.ntmps15
    go_wp2_with fail
    refine (l05Is_any _ _ _ _ hp hl hlc).mono ?_
    rintro e w1 ⟨rfl, hb1⟩
    rw [H.out]
    go_wp2_with fail
    refine (CB.out _ hb1).mono ?_
    rintro e w2 ⟨rfl, hb2⟩
    have b2 := bl_trans hb1 hb2
    go_wp2_with fail
    refine (l01Far_any _ _ _ _ _ m1 m2 m3 m4).mono ?_
    rintro e w3 ⟨rfl, hb3⟩
    go_wp2
    go_ret2
    exact ⟨by rw [R.out]; rfl, by (repeat (first | assumption | exact Below.refl _ _ | (refine bl_alloc ?_ _) | (refine Below.drew ?_) | (refine bl_drewN ?_ _) | (refine bl_set ?_ (by first | (simp; done) | omega | (simp; omega)) _) | (refine bl_trans ?_ (by assumption)) | (refine bl_step ?_ (by assumption) (by first | omega | exact Below.size (by assumption) | (simp; omega) | (simp; exact Below.size (by assumption))))))⟩

theorem okBox_pins {ps : List Pt} (h : isPins ps = true) : okBox ps = true := by
  obtain ⟨h0, h20, ha, _⟩ := isPins_iff.1 h
  simp [okBox, arePts, ha, h0]; omega
set_option maxRecDepth 100000 in
set_option maxHeartbeats 800000 in
theorem bbFn_any (g : Nat) (A : Option Addr) (ps : List Pt) (c : Nat) (w : World) (hg : w.cell? ⟨g, 0, none⟩ = some (.slice A ps.length c)) (hp : PtsAt w w.heap.size A ps) (hl : ps.length ≤ 1048576) (hlc : ps.length ≤ c) :
    Calls Try.prog 41 #[.pointer (some ⟨g, 0, none⟩)] w fun e w' => ((∃ v, e = .returned v ∧ (isPins ps = true ∧ v = .int .i64 (bbN ps))) ∨ (Pan e ∧ isPins ps = false)) ∧ Below w.heap.size w w' := by
  have cr := requirePins_any A ps c 20 w hp hl hlc
  have CB := Lib.hid (fun (w1 : World) (hb : Below w.heap.size w w1) => BoxOfI_any A ps c w1 (hp.to hb) hl)
  cases hi : isPins ps
  · have H := Lib.hid hi
    clear hi
    go_enter Try.func41, Try.ntmps41
    go_wp2_with fail
    refine cr.mono ?_
    rintro e w1 ⟨⟨h, _⟩ | ⟨_, u, pv, rfl⟩, hb1⟩
    · rw [H.out] at h; cases h
    go_wp2
    exact ⟨rfl, .inr ⟨⟨_, _, rfl⟩, trivial⟩, hb1⟩
  · obtain ⟨h0, h20, ha, _⟩ := isPins_iff.1 hi
    have H := Lib.hid hi
    have R := Lib.hid (boxV_t (okBox_pins hi))
    obtain ⟨m1, m2, m3, m4⟩ := bb_lo ha ps.length
    unfold bbN
    generalize mnI (xs ps) ps.length = n1 at *
    generalize mnI (ys ps) ps.length = n2 at *
    generalize mxI (xs ps) ps.length = n3 at *
    generalize mxI (ys ps) ps.length = n4 at *
    have H20 := Lib.hid h20
    clear hi h0 h20 ha
    go_enter Try.func41, Try.ntmps41
    go_wp2_with fail
    refine cr.mono ?_
    rintro e w1 ⟨hor, hb1⟩
    obtain rfl : e = .returned (.slice A ps.length c) := by
      rcases hor with ⟨_, _, h⟩ | ⟨h, _⟩
      · exact h
      · exact absurd ⟨H.out, H20.out⟩ h
    clear hor
    go_wp2_with fail
    refine (CB.out _ hb1).mono ?_
    rintro e w2 ⟨rfl, hb2⟩
    rw [R.out]
    have b2 := bl_trans hb1 hb2
    go_wp2_with fail
    refine (distance_any _ _ _ _ _ m1 m2 m3 m4).mono ?_
    rintro e w3 ⟨rfl, hb3⟩
    go_wp2
    go_ret
    exact ⟨.inl ⟨_, rfl, trivial, rfl⟩, by (repeat (first | assumption | exact Below.refl _ _ | (refine bl_alloc ?_ _) | (refine Below.drew ?_) | (refine bl_drewN ?_ _) | (refine bl_set ?_ (by first | (simp; done) | omega | (simp; omega)) _) | (refine bl_trans ?_ (by assumption)) | (refine bl_step ?_ (by assumption) (by first | omega | exact Below.size (by assumption) | (simp; omega) | (simp; exact Below.size (by assumption))))))⟩

set_option maxRecDepth 100000 in
theorem BoxBoundI_any (A : Option Addr) (ps : List Pt) (c : Nat) (w : World) (hp : PtsAt w w.heap.size A ps) (hl : ps.length ≤ 1048576) (hlc : ps.length ≤ c) :
    Calls Try.prog 16 #[.slice A ps.length c] w fun e w' => e = .returned (bbV ps) ∧ Below w.heap.size w w' := by
  have hmf : ∀ (fn : Fn) (first cap : Array Value) (w : World), (Instr.makeFunc fn first cap).run Try.prog w = .ok (.func fn first cap) w := fun _ _ _ _ => rfl
  have eg : ∀ args w, (callFunc 41 args).run Try.prog w = .ok (.enter 41 args) w := enters_of Try.func41 (by kernel_rfl) rfl
  have h0 : Below w.heap.size w (w.alloc (.cells #[.slice A ps.length c] 25)) := by (repeat (first | assumption | exact Below.refl _ _ | (refine bl_alloc ?_ _) | (refine Below.drew ?_) | (refine bl_drewN ?_ _) | (refine bl_set ?_ (by first | (simp; done) | omega | (simp; omega)) _) | (refine bl_trans ?_ (by assumption)) | (refine bl_step ?_ (by assumption) (by first | omega | exact Below.size (by assumption) | (simp; omega) | (simp; exact Below.size (by assumption))))))
  have h1 : Below (w.alloc (.cells #[.slice A ps.length c] 25)).heap.size (w.alloc (.cells #[.slice A ps.length c] 25)) ((w.alloc (.cells #[.slice A ps.length c] 25)).alloc (.cells #[.bool false] 4)) := by (repeat (first | assumption | exact Below.refl _ _ | (refine bl_alloc ?_ _) | (refine Below.drew ?_) | (refine bl_drewN ?_ _) | (refine bl_set ?_ (by first | (simp; done) | omega | (simp; omega)) _) | (refine bl_trans ?_ (by assumption)) | (refine bl_step ?_ (by assumption) (by first | omega | exact Below.size (by assumption) | (simp; omega) | (simp; exact Below.size (by assumption))))))
  have hx := attemptInt_any 41 #[.pointer (some ⟨w.heap.size, 0, none⟩)] (w.alloc (.cells #[.slice A ps.length c] 25)) (fun v _ => isPins ps = true ∧ v = .int .i64 (bbN ps)) (isPins ps = false) eg (bbFn_any w.heap.size A ps c _ ((h1.cell (p := ⟨w.heap.size, 0, none⟩) (by simp)).trans (by go_simp)) ((hp.to h0).to h1) hl hlc)
  go_enter Try.func16, Try.ntmps16
  go_wp2_with fail
  refine hx.mono ?_
  rintro e w1 ⟨⟨v, w2, rfl, ⟨hi, rfl⟩, rfl⟩ | ⟨rfl, hi⟩, hb1⟩
  · have b1 := bl_trans h0 hb1
    go_wp2
    go_ret2
    exact ⟨by rw [bbV_t hi]; rfl, by simpa using b1⟩
  · have b1 := bl_trans h0 hb1
    go_wp2
    go_ret2
    exact ⟨by rw [bbV_f hi]; rfl, b1⟩
end Go.Proofs.Ytepamhdopmfkfaa
