/-
  Contracts: the model's path through corners.
-/
import Derived.Test.YtdpamieheefhdaaThrough
import Derived.Deep.DeepCutAuto
namespace Go.Proofs.Ytdpamieheefhdaa
set_option linter.unusedSimpArgs false
set_option linter.unusedVariables false
open Go.ChangeShapes Go.WideShapes Go.ChangeAt Go.RowKit

theorem l01Sign_any (n : Int) (w : World) :
    Calls Try.prog 81 #[.int .i64 n] w fun e w' => e = .returned (.int .i64 (sg 0 n)) ∧ w = w' := by
  rcases sg_cases 0 n with ⟨h, f⟩ | ⟨h, f⟩ | ⟨h, f⟩
  all_goals
    have F := Lib.hid f
    clear f
  · have h1 : ¬ n < 0 := by omega
    go_enter Try.func81, Try.ntmps81
    go_wp2
    go_ret
    exact ⟨retI F.out.symm, rfl⟩
  · go_enter Try.func81, Try.ntmps81
    go_wp2
    go_ret
    exact ⟨retI F.out.symm, rfl⟩
  · subst h
    go_enter Try.func81, Try.ntmps81
    go_wp2
    go_ret
    exact ⟨retI F.out.symm, rfl⟩
theorem sg_zero (a b : Int) : sg 0 (b - a) = sg a b := by
  rcases sg_cases a b with ⟨h, f⟩ | ⟨h, f⟩ | ⟨h, f⟩ <;> rcases sg_cases 0 (b - a) with ⟨h', f'⟩ | ⟨h', f'⟩ | ⟨h', f'⟩ <;> rw [f, f'] <;> omega
theorem l01Sign_sub (a b : Int) (w : World) :
    Calls Try.prog 81 #[.int .i64 (b - a)] w fun e w' => e = .returned (.int .i64 (sg a b)) ∧ w = w' :=
  (l01Sign_any (b - a) w).mono fun _ _ ⟨he, hw⟩ => ⟨by rw [he, sg_zero], hw⟩
theorem PtB.set0 {w : World} {g : Nat} {p : Pt} (h : PtB w g p) (x : Int) : PtB (w.setCell ⟨g, 0, none⟩ (.int .i64 x)) g (x, p.2) := by
  unfold PtB at h ⊢
  simp [World.setCell, Array.getElem?_modify, h]
theorem PtB.set1 {w : World} {g : Nat} {p : Pt} (h : PtB w g p) (y : Int) : PtB (w.setCell ⟨g, 0 + 1, none⟩ (.int .i64 y)) g (p.1, y) := by
  unfold PtB at h ⊢
  simp [World.setCell, Array.getElem?_modify, h]
theorem PtB.far1 {w : World} {g g' o : Nat} {p : Pt} (h : PtB w g p) (hg : g ≠ g') (x : Value) : PtB (w.setCell ⟨g', o, none⟩ x) g p :=
  h.keep (Below.heap_setCell _ ⟨g', o, none⟩ _ g hg)
theorem OwnL.set1 {w : World} {base : Nat} {v : Value} {L : List Pt} (h : OwnL w base v L) {g o : Nat} (hg : Off v g) (x : Value) : OwnL (w.setCell ⟨g, o, none⟩ x) base v L :=
  World.ownsRow.kept (row := some g) h ⟨rfl, rfl, rfl, by simp, fun i hi hne => Below.heap_setCell _ ⟨g, o, none⟩ _ i (fun e => hne (by rw [e]))⟩ (by
    rcases h.2 with ⟨rfl, _⟩ | ⟨g', cap, cur, rfl, _⟩
    · exact .inl rfl
    · exact .inr hg)
theorem OwnL.cap {w : World} {base : Nat} {v : Value} {L : List Pt} (h : OwnL w base v L) : ∃ A c, v = .slice A L.length c ∧ Own3 w base A L ∧ L.length ≤ c := by
  rcases h.2 with ⟨rfl, h0⟩ | ⟨g, cap, cur, rfl, hB, hh, hn, hr⟩
  · exact ⟨none, 0, by rw [h0], fun h1 => by omega, by omega⟩
  · obtain ⟨A, c, e, ho⟩ := own3_of h
    injection e with e1 e2 e3
    subst e1; subst e3
    exact ⟨_, _, rfl, ho, hn⟩
theorem okT_bad {cs : List Pt} {k : Nat} (hk : k ≤ cs.length) (h : alnTo cs k = false) : okT cs = false := by
  cases h1 : okT cs
  · rfl
  · have := okT_aln h1
    rw [alnTo_bad hk h] at this; cases this
theorem alnTo_pts {cs : List Pt} (h : alnTo cs cs.length = true) : allPt cs = true := by
  unfold allPt
  rw [List.all_eq_true]
  intro x hx
  obtain ⟨k, hk, e⟩ := List.getElem_of_mem hx
  have h1 : alnTo cs (k + 1) = true := by
    cases h2 : alnTo cs (k + 1)
    · rw [alnTo_bad (by omega) h2] at h; cases h
    · rfl
  unfold alnTo at h1
  simp only [Bool.and_eq_true] at h1
  have h3 := h1.2.1
  simp [List.getD_eq_getElem?_getD, hk, e] at h3
  exact h3
theorem size_bad {cs : List Pt} (h : 576 < (wlkL cs).length) : isPathB (wlkL cs) = false := by
  unfold isPathB sizeB; rw [decide_eq_false (by omega)]; rfl
/-- How far the model has come: the list so far is the beginning of all points, or has grown too long. -/
def Come (cs L R : List Pt) : Prop := (L ++ R = wlkL cs ∧ L.length ≤ 577) ∨ (L.length = 577 ∧ 576 < (wlkL cs).length)

def Going (cs L : List Pt) (q : Pt) (m : Nat) (p : Pt) (R : List Pt) : Prop := (che p q ≤ m ∧ L ++ (seg q m p ++ R) = wlkL cs ∧ L.length ≤ 577) ∨ (L.length = 577 ∧ 576 < (wlkL cs).length)

end Go.Proofs.Ytdpamieheefhdaa
