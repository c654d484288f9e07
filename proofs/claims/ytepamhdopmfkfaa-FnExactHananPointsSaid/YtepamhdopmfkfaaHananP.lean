/-
  Contracts: the points of the grid of pins, as the functions answer them.
-/
import Derived.Test.YtepamhdopmfkfaaHananI
namespace Go.Proofs.Ytepamhdopmfkfaa
set_option linter.unusedSimpArgs false
set_option linter.unusedVariables false
open Go.ChangeShapes Go.WideShapes Go.ChangeAt Go.RowKit Go.Shelf
open Go.Proofs.Ytepamhdopmfkfaa.fnExactBoxOf

theorem catchPts_panicking (p : Addr) (x : Bool) (u : TypeId) (pv : Value) (older : List PanicEntry) (w : World) (hc : w.cell? p = some (.bool x)) (hz : w.frozen? p = false) :
    CallsD Try.prog 89 #[.pointer (some p)] (.panicking ({ v := .iface u pv, recovered := false } :: older)) w fun e u' w' =>
      e = .returned (.tuple #[]) ∧ u' = .panicking ({ v := .iface u pv, recovered := true } :: older) ∧ w' = w.setCell p (.bool false) := by
  refine callsD_of_wpS Try.func89 rfl fun c₀ cs hu => ?_
  apply wpS_region
  simp [wpOpsS, go_sem, recoverD, hu, Try.ntmps89, Exit.thenS, hc, hz, bodyPostS, results, Try.results89]
theorem catchPts_idle (p : Addr) (x : Bool) (w : World) (hc : w.cell? p = some (.bool x)) (hz : w.frozen? p = false) :
    CallsD Try.prog 89 #[.pointer (some p)] .returning w fun e u' w' => e = .returned (.tuple #[]) ∧ u' = .returning ∧ w' = w.setCell p (.bool true) := by
  refine callsD_of_wpS Try.func89 rfl fun c₀ cs hu => ?_
  apply wpS_region
  simp [wpOpsS, go_sem, recoverD, hu, Try.ntmps89, Exit.thenS, hc, hz, bodyPostS, results, Try.results89]
  cases c₀
  simp_all
def AttPtsRes (OK : Value → World → Prop) (NO : Prop) (B : Nat) (w : World) (e : Ending) (w' : World) : Prop :=
  ((∃ v w1, e = .returned (.tuple #[v, .bool true]) ∧ OK v w1 ∧ w' = (w1.setCell ⟨B, 0, none⟩ (.bool true)).setCell ⟨B, 0, none⟩ (.bool true)) ∨ (e = .returned (.tuple #[.slice none 0 0, .bool false]) ∧ NO)) ∧ Below w.heap.size w w'
theorem attemptPts_any (G : Nat) (caps : Array Value) (w : World) (OK : Value → World → Prop) (NO : Prop) (eg : ∀ args w, (callFunc G args).run Try.prog w = .ok (.enter G args) w)
    (hc : Calls Try.prog G caps (w.alloc (.cells #[.bool false] 4)) fun e w' => ((∃ v, e = .returned v ∧ OK v w') ∨ (Pan e ∧ NO)) ∧ Below (w.alloc (.cells #[.bool false] 4)).heap.size (w.alloc (.cells #[.bool false] 4)) w') :
    Calls Try.prog 53 #[.func (.func G) #[] caps] w (AttPtsRes OK NO w.heap.size w) := by
  have hmf : ∀ (fn : Fn) (first cap : Array Value) (w : World), (Instr.makeFunc fn first cap).run Try.prog w = .ok (.func fn first cap) w := fun _ _ _ _ => rfl
  go_enter_defers Try.func53, Try.ntmps53
  go_wp2_with fail
  refine hc.mono ?_
  rintro e w1 ⟨h, hb1⟩
  have c0 : w1.cell? ⟨w.heap.size, 0, none⟩ = some (.bool false) := (hb1.cell (p := ⟨w.heap.size, 0, none⟩) (by simp)).trans (by go_simp)
  have f0 : w1.frozen? ⟨w.heap.size, 0, none⟩ = false := (hb1.frozen (p := ⟨w.heap.size, 0, none⟩) (by simp)).trans (by go_simp)
  have b1 : Below w.heap.size w w1 := bl_trans (by (repeat (first | assumption | exact Below.refl _ _ | (refine bl_alloc ?_ _) | (refine Below.drew ?_) | (refine bl_drewN ?_ _) | (refine bl_set ?_ (by first | (simp; done) | omega | (simp; omega)) _) | (refine bl_trans ?_ (by assumption)) | (refine bl_step ?_ (by assumption) (by first | omega | exact Below.size (by assumption) | (simp; omega) | (simp; exact Below.size (by assumption))))))) hb1
  rcases h with ⟨v, rfl, hv⟩ | ⟨⟨u, pv, rfl⟩, hno⟩
  · go_wp2
    refine leaves_cons (f := 89) (args := #[.pointer (some ⟨w.heap.size, 0, none⟩)]) (by simp) (by simp [go_sem]) ?_
    refine (catchPts_idle ⟨w.heap.size, 0, none⟩ true _ ?_ ?_).mono ?_
    · exact World.cell?_setCell_same _ _ _ c0
    · simp [f0]
    rintro e u' w'' ⟨rfl, rfl, rfl⟩
    have c1 : (w1.setCell ⟨w.heap.size, 0, none⟩ (.bool true)).cell? ⟨w.heap.size, 0, none⟩ = some (.bool true) := World.cell?_setCell_same _ _ _ c0
    have c2 : ((w1.setCell ⟨w.heap.size, 0, none⟩ (.bool true)).setCell ⟨w.heap.size, 0, none⟩ (.bool true)).cell? ⟨w.heap.size, 0, none⟩ = some (.bool true) := World.cell?_setCell_same _ _ _ c1
    simp [Leaves, settle, results, Try.results53, go_sem, c2]
    exact ⟨.inl ⟨_, _, rfl, hv, rfl⟩, (b1.setCell (p := ⟨w.heap.size, 0, none⟩) (Nat.le_refl _) _).setCell (p := ⟨w.heap.size, 0, none⟩) (Nat.le_refl _) _⟩
  · go_wp2
    refine leaves_cons (f := 89) (args := #[.pointer (some ⟨w.heap.size, 0, none⟩)]) (by simp) (by simp [go_sem]) ?_
    refine (catchPts_panicking ⟨w.heap.size, 0, none⟩ false _ _ _ _ c0 f0).mono ?_
    rintro e u' w'' ⟨rfl, rfl, rfl⟩
    have c1 : (w1.setCell ⟨w.heap.size, 0, none⟩ (.bool false)).cell? ⟨w.heap.size, 0, none⟩ = some (.bool false) := World.cell?_setCell_same _ _ _ c0
    simp [Leaves, settle, results, Try.results53, go_sem, c1]
    exact ⟨.inr ⟨rfl, hno⟩, b1.setCell (p := ⟨w.heap.size, 0, none⟩) (Nat.le_refl _) _⟩

def okF (ps : List Pt) : Bool := isPins ps && decide (ps.length ≤ 7)
def hanR (ps : List Pt) : List Pt := if okF ps = true then srtL (hanA ps) else []
theorem hanR_f {ps : List Pt} (h : okF ps = false) : hanR ps = [] := by simp [hanR, h]
theorem hanR_t {ps : List Pt} (h : okF ps = true) : hanR ps = srtL (hanA ps) := by simp [hanR, h]
theorem okF_iff {ps : List Pt} : okF ps = true ↔ isPins ps = true ∧ ps.length ≤ 7 := by simp [okF]
theorem hanR_len (ps : List Pt) : (hanR ps).length ≤ 1048576 := by
  cases h : okF ps
  · rw [hanR_f h]; simp
  · rw [hanR_t h]
    have h1 := srtL_le (hanA ps)
    have h2 := hanA_len (okF_iff.1 h).2
    omega
theorem l05Few_any (A : Option Addr) (ps : List Pt) (c : Nat) (w : World) (hp : PtsAt w w.heap.size A ps) (hl : ps.length ≤ 1048576) (hlc : ps.length ≤ c) :
    Calls Try.prog 51 #[.slice A ps.length c] w fun e w' => e = .returned (.bool (okF ps)) ∧ Below w.heap.size w w' := by
  cases hi : isPins ps
  · have H := Lib.hid hi
    have R : Hid (okF ps = false) := by show _ = _; unfold okF; rw [hi]; rfl
    clear hi
    go_enter Try.func51, Try.ntmps51
    go_wp2_with (go_at_call 35; refine (l05Is_any _ _ _ _ hp hl hlc).mono ?_; rintro e w' ⟨rfl, hb'⟩; rw [H.out])
    go_ret
    exact ⟨retB (by rw [R.out]), hb'⟩
  · have H := Lib.hid hi
    have R : Hid (okF ps = decide (ps.length ≤ 7)) := by show _ = _; unfold okF; rw [hi]; rfl
    clear hi
    by_cases h7 : ps.length ≤ 7
    · have hD := Lib.hid (decide_eq_true h7)
      have h7I : (ps.length : Int) ≤ 7 := by omega
      clear h7
      go_enter Try.func51, Try.ntmps51
      go_wp2_with (go_at_call 35; refine (l05Is_any _ _ _ _ hp hl hlc).mono ?_; rintro e w' ⟨rfl, hb'⟩; rw [H.out])
      go_ret
      exact ⟨retB (by rw [R.out, hD.out] <;> simp <;> omega), hb'⟩
    · have hD := Lib.hid (decide_eq_false h7)
      have h7I : ¬ (ps.length : Int) ≤ 7 := by omega
      clear h7
      go_enter Try.func51, Try.ntmps51
      go_wp2_with (go_at_call 35; refine (l05Is_any _ _ _ _ hp hl hlc).mono ?_; rintro e w' ⟨rfl, hb'⟩; rw [H.out])
      go_ret
      exact ⟨retB (by rw [R.out, hD.out] <;> simp <;> omega), hb'⟩
set_option maxRecDepth 100000 in
theorem HananPointsS_any (A : Option Addr) (ps : List Pt) (c : Nat) (w : World) (hp : PtsAt w w.heap.size A ps) (hl : ps.length ≤ 1048576) (hlc : ps.length ≤ c) :
    Calls Try.prog 21 #[.slice A ps.length c] w (SRes (hanR ps) (okF ps) w) := by
  cases hi : okF ps
  · have H := Lib.hid hi
    have R := Lib.hid (hanR_f hi)
    rw [R.out]
    clear hi
    go_enter Try.func21, Try.ntmps21
    go_wp2_with fail
    refine (l05Few_any _ _ _ _ hp hl hlc).mono ?_
    rintro e w1 ⟨rfl, hb1⟩
    rw [H.out]
    go_wp2
    go_ret2
    exact ⟨none, 0, rfl, Own3.none_ _ _ _, hb1⟩
  · obtain ⟨hi2, h7⟩ := okF_iff.1 hi
    have H := Lib.hid hi
    have R := Lib.hid (hanR_t hi)
    rw [R.out]
    clear hi hi2
    go_enter Try.func21, Try.ntmps21
    go_wp2_with fail
    refine (l05Few_any _ _ _ _ hp hl hlc).mono ?_
    rintro e w1 ⟨rfl, hb1⟩
    rw [H.out]
    go_wp2_with fail
    refine (l05Hanan_any _ _ _ _ (hp.to hb1) (by omega)).mono ?_
    rintro e w2 ⟨v, L, rfl, ho, hI, hb2⟩
    have hL := ins_srt hI
    subst hL
    obtain ⟨A', c', rfl, ho3⟩ := own3_of ho
    have hb12 := bl_trans hb1 hb2
    have hsz := hb1.size
    clear ho hb1 hb2 hI
    go_wp2
    go_ret2
    exact ⟨A', c', rfl, fun h0 => by obtain ⟨g, e, hg, hP⟩ := ho3 h0; exact ⟨g, e, by omega, hP⟩, hb12⟩
set_option maxRecDepth 100000 in
set_option maxHeartbeats 800000 in
theorem hanFn_any (g : Nat) (A : Option Addr) (ps : List Pt) (c : Nat) (w : World) (hg : w.cell? ⟨g, 0, none⟩ = some (.slice A ps.length c)) (hp : PtsAt w w.heap.size A ps) (hl : ps.length ≤ 1048576) (hlc : ps.length ≤ c) :
    Calls Try.prog 54 #[.pointer (some ⟨g, 0, none⟩)] w fun e w' => ((∃ v, e = .returned v ∧ (okF ps = true ∧ ∃ A' c', v = .slice A' (srtL (hanA ps)).length c' ∧ Own3 w' w.heap.size A' (srtL (hanA ps)))) ∨ (Pan e ∧ okF ps = false)) ∧ Below w.heap.size w w' := by
  have cr := requirePins_any A ps c 7 w hp hl hlc
  cases hi : okF ps
  · have H : Hid (¬ (isPins ps = true ∧ ps.length ≤ 7)) := fun h => by rw [okF_iff.2 h] at hi; cases hi
    clear hi
    go_enter Try.func54, Try.ntmps54
    go_wp2_with fail
    refine cr.mono ?_
    rintro e w1 ⟨⟨h1, h2, _⟩ | ⟨_, u, pv, rfl⟩, hb1⟩
    · exact absurd ⟨h1, h2⟩ H.out
    go_wp2
    exact ⟨rfl, .inr ⟨⟨_, _, rfl⟩, trivial⟩, hb1⟩
  · obtain ⟨hi2, h7⟩ := okF_iff.1 hi
    obtain ⟨h0, _, _, _⟩ := isPins_iff.1 hi2
    have H : Hid (isPins ps = true ∧ ps.length ≤ 7) := ⟨hi2, h7⟩
    clear hi hi2
    go_enter Try.func54, Try.ntmps54
    go_wp2_with fail
    refine cr.mono ?_
    rintro e w1 ⟨hor, hb1⟩
    obtain rfl : e = .returned (.slice A ps.length c) := by
      rcases hor with ⟨_, _, h⟩ | ⟨h, _⟩
      · exact h
      · exact absurd H.out h
    clear hor
    go_wp2_with fail
    refine (hananPoints_any A ps c _ (hp.to hb1) h0 h7).mono ?_
    rintro e w2 ⟨A', c', rfl, hO, hb2⟩
    have b2 := bl_trans hb1 hb2
    have hz := hb1.size
    have hO2 : Own3 w2 w.heap.size A' (srtL (hanA ps)) := fun h0 => by obtain ⟨g, e, hg, hP⟩ := hO h0; exact ⟨g, e, by omega, hP⟩
    clear hO
    go_wp2
    go_ret
    exact ⟨.inl ⟨_, rfl, trivial, A', c', rfl, hO2⟩, b2⟩
set_option maxRecDepth 100000 in
set_option maxHeartbeats 800000 in
theorem HananPointsI_any (A : Option Addr) (ps : List Pt) (c : Nat) (w : World) (hp : PtsAt w w.heap.size A ps) (hl : ps.length ≤ 1048576) (hlc : ps.length ≤ c) :
    Calls Try.prog 22 #[.slice A ps.length c] w (SRes (hanR ps) (okF ps) w) := by
  have hmf : ∀ (fn : Fn) (first cap : Array Value) (w : World), (Instr.makeFunc fn first cap).run Try.prog w = .ok (.func fn first cap) w := fun _ _ _ _ => rfl
  have eg : ∀ args w, (callFunc 54 args).run Try.prog w = .ok (.enter 54 args) w := enters_of Try.func54 (by kernel_rfl) rfl
  have h0 : Below w.heap.size w (w.alloc (.cells #[.slice A ps.length c] 25)) := by (repeat (first | assumption | exact Below.refl _ _ | (refine bl_alloc ?_ _) | (refine Below.drew ?_) | (refine bl_drewN ?_ _) | (refine bl_set ?_ (by first | (simp; done) | omega | (simp; omega)) _) | (refine bl_trans ?_ (by assumption)) | (refine bl_step ?_ (by assumption) (by first | omega | exact Below.size (by assumption) | (simp; omega) | (simp; exact Below.size (by assumption))))))
  have h1 : Below (w.alloc (.cells #[.slice A ps.length c] 25)).heap.size (w.alloc (.cells #[.slice A ps.length c] 25)) ((w.alloc (.cells #[.slice A ps.length c] 25)).alloc (.cells #[.bool false] 4)) := by (repeat (first | assumption | exact Below.refl _ _ | (refine bl_alloc ?_ _) | (refine Below.drew ?_) | (refine bl_drewN ?_ _) | (refine bl_set ?_ (by first | (simp; done) | omega | (simp; omega)) _) | (refine bl_trans ?_ (by assumption)) | (refine bl_step ?_ (by assumption) (by first | omega | exact Below.size (by assumption) | (simp; omega) | (simp; exact Below.size (by assumption))))))
  have hsz : (w.alloc (.cells #[.slice A ps.length c] 25)).heap.size = w.heap.size + 1 := by simp
  have g0 : (w.alloc (.cells #[.slice A ps.length c] 25)).cell? ⟨w.heap.size, 0, none⟩ = some (.slice A ps.length c) := by go_simp
  have hx := attemptPts_any 54 #[.pointer (some ⟨w.heap.size, 0, none⟩)] (w.alloc (.cells #[.slice A ps.length c] 25)) (fun v w' => okF ps = true ∧ ∃ A' c', v = .slice A' (srtL (hanA ps)).length c' ∧ Own3 w' ((w.alloc (.cells #[.slice A ps.length c] 25)).alloc (.cells #[.bool false] 4)).heap.size A' (srtL (hanA ps))) (okF ps = false) eg (hanFn_any w.heap.size A ps c _ ((h1.cell (p := ⟨w.heap.size, 0, none⟩) (by simp)).trans g0) ((hp.to h0).to h1) hl hlc)
  have hsz2 : ((w.alloc (.cells #[.slice A ps.length c] 25)).alloc (.cells #[.bool false] 4)).heap.size = w.heap.size + 1 + 1 := by simp
  rw [hsz2, hsz] at hx
  clear hsz2
  go_enter Try.func22, Try.ntmps22
  go_wp2_with fail
  refine hx.mono ?_
  rintro e w1 ⟨⟨v, w2, rfl, ⟨hi, A', c', rfl, hO⟩, rfl⟩ | ⟨rfl, hi⟩, hb1⟩
  · have b1 := bl_trans h0 hb1
    have hO2 : Own3 ((w2.setCell ⟨w.heap.size + 1, 0, none⟩ (.bool true)).setCell ⟨w.heap.size + 1, 0, none⟩ (.bool true)) w.heap.size A' (srtL (hanA ps)) := fun h0 => by
      obtain ⟨g, e, hg, hP⟩ := hO h0
      have hne : g ≠ w.heap.size + 1 := by omega
      exact ⟨g, e, by omega, hP.keep ((Below.heap_setCell _ ⟨w.heap.size + 1, 0, none⟩ _ g hne).trans (Below.heap_setCell _ ⟨w.heap.size + 1, 0, none⟩ _ g hne))⟩
    have R := Lib.hid (hanR_t hi)
    have HI := Lib.hid hi
    clear hi hO hx
    go_wp2
    go_ret2
    exact ⟨A', c', by rw [R.out, HI.out]; rfl, by rw [R.out]; exact hO2, b1⟩
  · have b1 := bl_trans h0 hb1
    have R := Lib.hid (hanR_f hi)
    have HI := Lib.hid hi
    clear hi hx
    go_wp2
    go_ret2
    exact ⟨none, 0, by rw [R.out, HI.out]; rfl, by rw [R.out]; exact Own3.none_ _ _ _, b1⟩
end Go.Proofs.Ytepamhdopmfkfaa
