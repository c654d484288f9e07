/-
  Places pushed by rules: rounds over rules, in any order of them, come to the same least places, or to none (no walk).
-/
import Derived.Test.YtgpcfkegbcpkpaaRul
namespace Go.Proofs.Ytgpcfkegbcpkpaa
set_option linter.unusedSimpArgs false
set_option linter.unusedVariables false

def atP (ds : List Int) (i : Int) : Int := ds.getD i.toNat 0
def tst (ds : List Int) (r : R3) : Bool := decide (atP ds r.2.1 < atP ds r.1 + r.2.2)
def rlx (ds : List Int) (r : R3) : List Int := if tst ds r then ds.set r.2.1.toNat (atP ds r.1 + r.2.2) else ds
def passR : List R3 → List Int → List Int
  | [], ds => ds
  | r :: rs, ds => passR rs (rlx ds r)
def grew : List R3 → List Int → Bool
  | [], _ => false
  | r :: rs, ds => tst ds r || grew rs (rlx ds r)
def runR (rs : List R3) : Nat → List Int → Option (List Int)
  | 0, _ => none
  | k + 1, ds => if grew rs ds then runR rs k (passR rs ds) else some (passR rs ds)
theorem rlx_len (ds : List Int) (r : R3) : (rlx ds r).length = ds.length := by unfold rlx; split <;> simp
theorem passR_len : ∀ (rs : List R3) (ds : List Int), (passR rs ds).length = ds.length
  | [], _ => rfl
  | r :: rs, ds => by rw [passR, passR_len rs, rlx_len]
theorem passR_app : ∀ (a b : List R3) (ds : List Int), passR (a ++ b) ds = passR b (passR a ds)
  | [], _, _ => rfl
  | r :: a, b, ds => by simp only [List.cons_append, passR]; exact passR_app a b _
theorem grew_app : ∀ (a b : List R3) (ds : List Int), grew (a ++ b) ds = (grew a ds || grew b (passR a ds))
  | [], _, _ => by simp [grew, passR]
  | r :: a, b, ds => by simp only [List.cons_append, grew, passR]; rw [grew_app a b, Bool.or_assoc]
theorem at_set (ds : List Int) (t : Nat) (v : Int) (i : Nat) : (ds.set t v).getD i 0 = if t = i ∧ t < ds.length then v else ds.getD i 0 := by
  simp only [List.getD_eq_getElem?_getD, List.getElem?_set]
  by_cases h : t = i
  · subst h
    by_cases h2 : t < ds.length
    · simp [h2]
    · simp [h2]
  · simp [h]
theorem rlx_at (ds : List Int) (r : R3) (i : Nat) : (rlx ds r).getD i 0 = if tst ds r = true ∧ r.2.1.toNat = i ∧ r.2.1.toNat < ds.length then atP ds r.1 + r.2.2 else ds.getD i 0 := by
  unfold rlx
  cases h : tst ds r
  · simp
  · rw [if_pos rfl, at_set]; simp only [true_and]
/-- No place greater. -/
def leL (a b : List Int) : Prop := ∀ i, a.getD i 0 ≤ b.getD i 0
theorem leL.trans {a b c : List Int} (h : leL a b) (k : leL b c) : leL a c := fun i => Int.le_trans (h i) (k i)
theorem rlx_ge (ds : List Int) (r : R3) : leL ds (rlx ds r) := fun i => by
  rw [rlx_at]
  split
  · rename_i h
    obtain ⟨h1, h2, _⟩ := h
    have h1 := of_decide_eq_true h1
    unfold atP at h1 ⊢
    rw [h2] at h1
    omega
  · exact Int.le_refl _
theorem passR_ge : ∀ (rs : List R3) (ds : List Int), leL ds (passR rs ds)
  | [], _ => fun _ => Int.le_refl _
  | r :: rs, ds => (rlx_ge ds r).trans (passR_ge rs _)
def FixR (rs : List R3) (f : List Int) : Prop := ∀ r ∈ rs, tst f r = false
theorem rlx_le {rs : List R3} {f ds : List Int} (hf : FixR rs f) (h : leL ds f) {r : R3} (hr : r ∈ rs) : leL (rlx ds r) f := fun i => by
  rw [rlx_at]
  split
  · rename_i h0
    obtain ⟨_, h2, _⟩ := h0
    have h3 := of_decide_eq_false (hf r hr)
    have h4 := h r.1.toNat
    unfold atP at h3 ⊢
    rw [← h2]
    omega
  · exact h i
theorem passR_le {rs : List R3} {f : List Int} (hf : FixR rs f) : ∀ (qs : List R3) (ds : List Int), (∀ r ∈ qs, r ∈ rs) → leL ds f → leL (passR qs ds) f
  | [], _, _, h => h
  | r :: qs, ds, hq, h => passR_le hf qs _ (fun x hx => hq x (by simp [hx])) (rlx_le hf h (hq r (by simp)))
theorem grew_no : ∀ {rs : List R3} {ds : List Int}, grew rs ds = false → passR rs ds = ds ∧ FixR rs ds
  | [], _, _ => ⟨rfl, fun r h => by simp at h⟩
  | r :: rs, ds, h => by
    simp only [grew, Bool.or_eq_false_iff] at h
    obtain ⟨h1, h2⟩ := h
    have e : rlx ds r = ds := by unfold rlx; rw [h1]; rfl
    rw [e] at h2
    obtain ⟨h3, h4⟩ := grew_no h2
    refine ⟨by rw [passR, e, h3], fun x hx => ?_⟩
    rcases List.mem_cons.1 hx with rfl | hx
    · exact h1
    · exact h4 x hx
theorem grew_fix : ∀ {rs : List R3} {ds : List Int}, FixR rs ds → grew rs ds = false
  | [], _, _ => rfl
  | r :: rs, ds, h => by
    have h1 := h r (by simp)
    have e : rlx ds r = ds := by unfold rlx; rw [h1]; rfl
    rw [grew, h1, e, grew_fix fun x hx => h x (by simp [hx])]; rfl
/-- A rule that just holds, of a part that is where it must be, pushes the other one there. -/
theorem pass_hit {rs : List R3} {L : List Int} (hf : FixR rs L) : ∀ (qs : List R3) (ds : List Int), (∀ r ∈ qs, r ∈ rs) → leL ds L → ds.length = L.length → ∀ r ∈ qs, r.2.1.toNat < L.length → atP ds r.1 = atP L r.1 → atP L r.2.1 = atP L r.1 + r.2.2 → atP (passR qs ds) r.2.1 = atP L r.2.1
  | [], _, _, _, _, r, hr, _, _, _ => by simp at hr
  | q :: qs, ds, hq, hle, hl, r, hr, ht, e1, e2 => by
    have hle' := rlx_le hf hle (hq q (by simp))
    rcases List.mem_cons.1 hr with rfl | hr
    · have h1 : atP L r.2.1 ≤ atP (rlx ds r) r.2.1 := by
        unfold atP
        rw [rlx_at]
        split
        · rw [e1]; unfold atP at e2 ⊢; omega
        · rename_i hn
          have : tst ds r = false := by
            cases hb : tst ds r
            · rfl
            · exact absurd ⟨hb, rfl, by omega⟩ hn
          have := of_decide_eq_false this
          unfold atP at *
          omega
      have h2 := passR_ge qs (rlx ds r) r.2.1.toNat
      have h3 := passR_le hf qs _ (fun x hx => hq x (by simp [hx])) hle' r.2.1.toNat
      unfold atP at *
      rw [passR]
      omega
    · refine pass_hit hf qs _ (fun x hx => hq x (by simp [hx])) hle' (by rw [rlx_len, hl]) r hr ht ?_ e2
      have h1 := rlx_ge ds q r.1.toNat
      have h2 := hle' r.1.toNat
      unfold atP at *
      omega

def sumI (l : List Int) : Int := l.foldr (· + ·) 0
theorem sumI_le : ∀ {a b : List Int}, a.length = b.length → leL a b → sumI a ≤ sumI b ∧ (sumI a = sumI b → a = b)
  | [], [], _, _ => ⟨by simp [sumI], fun _ => rfl⟩
  | x :: a, y :: b, hl, h => by
    have h0 := h 0
    simp at h0
    obtain ⟨h1, h2⟩ := sumI_le (a := a) (b := b) (by simpa using hl) (fun i => by simpa using h (i + 1))
    simp only [sumI, List.foldr_cons] at *
    refine ⟨by omega, fun e => ?_⟩
    have e1 : x = y := by omega
    rw [e1, h2 (by omega)]
theorem sumI_nn : ∀ {a : List Int}, (∀ x ∈ a, 0 ≤ x) → 0 ≤ sumI a
  | [], _ => by simp [sumI]
  | x :: a, h => by
    have := sumI_nn (a := a) fun y hy => h y (by simp [hy])
    have := h x (by simp)
    simp only [sumI, List.foldr_cons] at *
    omega
/-- Rules of n parts. -/
def OkR (n : Nat) (rs : List R3) : Prop := ∀ r ∈ rs, r.1.toNat < n ∧ r.2.1.toNat < n
/-- Places that keep the rules, none below 0. -/
def NFix (n : Nat) (rs : List R3) (f : List Int) : Prop := f.length = n ∧ (∀ x ∈ f, 0 ≤ x) ∧ FixR rs f
def MinFix (n : Nat) (rs : List R3) (L : List Int) : Prop := NFix n rs L ∧ ∀ f, NFix n rs f → sumI L ≤ sumI f
theorem min_ex {n : Nat} {rs : List R3} : ∀ (k : Nat) (f : List Int), NFix n rs f → sumI f ≤ k → ∃ L, MinFix n rs L
  | 0, f, h, hk => ⟨f, h, fun g hg => by have := sumI_nn hg.2.1; omega⟩
  | k + 1, f, h, hk => by
    by_cases hx : ∃ g, NFix n rs g ∧ sumI g ≤ k
    · obtain ⟨g, hg, hk⟩ := hx
      exact min_ex k g hg hk
    · refine ⟨f, h, fun g hg => ?_⟩
      by_cases h1 : sumI f ≤ sumI g
      · exact h1
      · exact absurd ⟨g, hg, by omega⟩ hx
theorem nn_at {f : List Int} (h : ∀ x ∈ f, 0 ≤ x) (i : Nat) : 0 ≤ f.getD i 0 := by
  rw [List.getD_eq_getElem?_getD]
  rcases Nat.lt_or_ge i f.length with hl | hl
  · rw [List.getElem?_eq_getElem hl]; exact h _ (by simp)
  · rw [List.getElem?_eq_none hl]; simp
theorem list_ext0 {a b : List Int} (hl : a.length = b.length) (h : ∀ i, i < a.length → a.getD i 0 = b.getD i 0) : a = b := by
  refine List.ext_getElem hl fun i h1 h2 => ?_
  have := h i h1
  simpa [List.getD_eq_getElem?_getD, h1, h2] using this
/-- Lowered by 1 where not met, a least one is none. -/
theorem min_low {n : Nat} {rs : List R3} {L : List Int} (hm : MinFix n rs L) (p : Nat → Bool) (h0 : ∃ i, i < n ∧ p i = false) (hpos : ∀ i, i < n → p i = false → 1 ≤ L.getD i 0)
    (hfix : ∀ r ∈ rs, p r.1.toNat = true → p r.2.1.toNat = false → atP L r.1 + r.2.2 < atP L r.2.1) (ho : OkR n rs) : False := by
  obtain ⟨⟨hl, hnn, hf⟩, hmin⟩ := hm
  obtain ⟨L', hL⟩ : ∃ L', L' = (List.range n).map fun i => if p i = true then L.getD i 0 else L.getD i 0 - 1 := ⟨_, rfl⟩
  have hl' : L'.length = n := by rw [hL]; simp
  have hat : ∀ i, i < n → L'.getD i 0 = if p i = true then L.getD i 0 else L.getD i 0 - 1 := fun i hi => by
    rw [hL]; simp [List.getD_eq_getElem?_getD, hi]
  have hle : leL L' L := fun i => by
    rcases Nat.lt_or_ge i n with hi | hi
    · rw [hat i hi]; split <;> omega
    · simp [List.getD_eq_getElem?_getD, hl, hl', hi]
  have hn' : NFix n rs L' := by
    refine ⟨hl', fun x hx => ?_, fun r hr => ?_⟩
    · rw [hL] at hx
      simp only [List.mem_map, List.mem_range] at hx
      obtain ⟨i, hi, rfl⟩ := hx
      have h1 := nn_at hnn i
      split
      · exact h1
      · rename_i hp
        have := hpos i hi (by simpa using hp)
        omega
    · obtain ⟨o1, o2⟩ := ho r hr
      have h1 := of_decide_eq_false (hf r hr)
      have h2 := hfix r hr
      refine decide_eq_false ?_
      unfold atP at *
      rw [hat _ o1, hat _ o2]
      cases p1 : p r.1.toNat <;> cases p2 : p r.2.1.toNat <;> simp only [p1, p2, Bool.false_eq_true, if_true, if_false, true_implies] at h2 ⊢ <;> omega
  have hs := hmin L' hn'
  obtain ⟨h1, h2⟩ := sumI_le (hl'.trans hl.symm) hle
  have := h2 (by omega)
  obtain ⟨i, hi, hp⟩ := h0
  have e := hat i hi
  rw [this, if_neg (by rw [hp]; simp)] at e
  omega
def cntE (n : Nat) (ds L : List Int) : Nat := (List.range n).countP fun i => decide (ds.getD i 0 = L.getD i 0)
theorem countP_more {l : List Nat} {p q : Nat → Bool} (h : ∀ i ∈ l, p i = true → q i = true) (hx : ∃ i ∈ l, p i = false ∧ q i = true) : l.countP p + 1 ≤ l.countP q := by
  induction l with
  | nil => simp at hx
  | cons x l ih =>
    have hm : l.countP p ≤ l.countP q := List.countP_mono_left fun i hi => h i (by simp [hi])
    simp only [List.countP_cons]
    have hx0 := h x (by simp)
    obtain ⟨i, hi, h1, h2⟩ := hx
    rcases List.mem_cons.1 hi with rfl | hi
    · rw [h1, h2]; simp; omega
    · have := ih (fun j hj => h j (by simp [hj])) ⟨i, hi, h1, h2⟩
      cases hp : p x
      · simp; split <;> omega
      · rw [hx0 hp]; simp; omega
theorem cnt_le (n : Nat) (ds L : List Int) : cntE n ds L ≤ n := by
  have := List.countP_le_length (p := fun i => decide (ds.getD i 0 = L.getD i 0)) (l := List.range n)
  simpa [cntE] using this
theorem cnt_more {n : Nat} {rs : List R3} {L ds : List Int} (hm : MinFix n rs L) (ho : OkR n rs) (hl : ds.length = n) (hnn : ∀ i, 0 ≤ ds.getD i 0) (hle : leL ds L) (hne : ds ≠ L) :
    cntE n ds L + 1 ≤ cntE n (passR rs ds) L := by
  obtain ⟨⟨hL, hLn, hf⟩, _⟩ := id hm
  have hle' := passR_le hf rs ds (fun _ h => h) hle
  refine countP_more (fun i _ h => ?_) ?_
  · have h := of_decide_eq_true h
    have h1 := passR_ge rs ds i
    have h2 := hle' i
    exact decide_eq_true (by omega)
  · refine Classical.byContradiction fun hno => ?_
    refine min_low hm (fun i => decide (ds.getD i 0 = L.getD i 0)) ?_ ?_ ?_ ho
    · refine Classical.byContradiction fun hall => hne (list_ext0 (hl.trans hL.symm) fun i hi => ?_)
      refine Classical.byContradiction fun he => hall ⟨i, by omega, decide_eq_false he⟩
    · intro i hi hp
      have hp := of_decide_eq_false hp
      have := hle i
      have := hnn i
      omega
    · intro r hr h1 h2
      have h1 := of_decide_eq_true h1
      have h2' := of_decide_eq_false h2
      obtain ⟨o1, o2⟩ := ho r hr
      have h3 := of_decide_eq_false (hf r hr)
      refine Classical.byContradiction fun hn => hno ⟨r.2.1.toNat, by simpa using o2, h2, decide_eq_true ?_⟩
      exact pass_hit hf rs ds (fun _ h => h) hle (hl.trans hL.symm) r hr (by omega) h1 (by omega)
theorem run_min {n : Nat} {rs : List R3} {L : List Int} (hm : MinFix n rs L) (ho : OkR n rs) : ∀ (k : Nat) (ds : List Int), ds.length = n → (∀ i, 0 ≤ ds.getD i 0) → leL ds L → n + 1 ≤ cntE n ds L + k → runR rs k ds = some L
  | 0, ds, _, _, _, h => by have := cnt_le n ds L; omega
  | k + 1, ds, hl, hnn, hle, h => by
    obtain ⟨⟨hL, hLn, hf⟩, hmin⟩ := id hm
    rw [runR]
    cases hg : grew rs ds
    · obtain ⟨e, hfd⟩ := grew_no hg
      have hnf : NFix n rs ds := ⟨hl, fun x hx => by
        obtain ⟨i, hi, rfl⟩ := List.mem_iff_getElem.1 hx
        have := hnn i
        simpa [List.getD_eq_getElem?_getD, hi] using this, hfd⟩
      have h1 := hmin ds hnf
      obtain ⟨h2, h3⟩ := sumI_le (hl.trans hL.symm) hle
      simp only [Bool.false_eq_true, if_false]
      rw [e, h3 (by omega)]
    · have hne : ds ≠ L := fun e => by rw [e, grew_fix hf] at hg; cases hg
      have := cnt_more hm ho hl hnn hle hne
      simp only [if_true]
      exact run_min hm ho k _ (by rw [passR_len, hl]) (fun i => Int.le_trans (hnn i) (passR_ge rs ds i)) (passR_le hf rs ds (fun _ h => h) hle) (by omega)
theorem run_fix {rs : List R3} : ∀ (k : Nat) (ds out : List Int), runR rs k ds = some out → out.length = ds.length ∧ FixR rs out ∧ leL ds out
  | 0, _, _, h => by simp [runR] at h
  | k + 1, ds, out, h => by
    rw [runR] at h
    cases hg : grew rs ds
    · obtain ⟨e, hf⟩ := grew_no hg
      rw [hg] at h
      simp only [Bool.false_eq_true, if_false, Option.some.injEq] at h
      rw [e] at h
      subst h
      exact ⟨rfl, hf, fun _ => Int.le_refl _⟩
    · rw [hg] at h
      simp only [if_true] at h
      obtain ⟨h1, h2, h3⟩ := run_fix k _ out h
      exact ⟨by rw [h1, passR_len], h2, (passR_ge rs ds).trans h3⟩
def zer (n : Nat) : List Int := List.replicate n 0
theorem zer_at (n i : Nat) : (zer n).getD i 0 = 0 := by
  unfold zer
  rw [List.getD_eq_getElem?_getD, List.getElem?_replicate]
  split <;> rfl
theorem fix_same {rs qs : List R3} (h : ∀ r, r ∈ rs ↔ r ∈ qs) {f : List Int} : FixR rs f ↔ FixR qs f := ⟨fun k r hr => k r ((h r).2 hr), fun k r hr => k r ((h r).1 hr)⟩
/-- The least places, whatever the order of the rules, and whatever more rounds. -/
theorem run_same {n : Nat} {rs qs : List R3} (h : ∀ r, r ∈ rs ↔ r ∈ qs) (ho : OkR n rs) (hn : 1 ≤ n) {j k : Nat} (hj : n ≤ j) (hk : n ≤ k) : runR rs j (zer n) = runR qs k (zer n) := by
  have hoq : OkR n qs := fun r hr => ho r ((h r).2 hr)
  have hzl : (zer n).length = n := by simp [zer]
  by_cases hx : ∃ f, NFix n rs f
  · obtain ⟨f, hf⟩ := hx
    obtain ⟨L, hL⟩ := min_ex (sumI f).toNat f hf (by omega)
    have hLq : MinFix n qs L := ⟨⟨hL.1.1, hL.1.2.1, (fix_same h).1 hL.1.2.2⟩, fun g hg => hL.2 g ⟨hg.1, hg.2.1, (fix_same h).2 hg.2.2⟩⟩
    have hz : leL (zer n) L := fun i => by rw [zer_at]; exact nn_at hL.1.2.1 i
    have hc : 1 ≤ cntE n (zer n) L := by
      refine Classical.byContradiction fun hc => ?_
      have h0 : ∀ i, i < n → ¬ L.getD i 0 = 0 := fun i hi e => by
        have : 0 < cntE n (zer n) L := List.countP_pos_iff.2 ⟨i, by simpa using hi, decide_eq_true (by rw [zer_at, e])⟩
        omega
      exact min_low hL (fun _ => false) ⟨0, by omega, rfl⟩ (fun i hi _ => by have := h0 i hi; have := nn_at hL.1.2.1 i; omega) (fun r _ h => by cases h) ho
    rw [run_min hL ho j _ hzl (fun i => by rw [zer_at]; exact Int.le_refl _) hz (by omega), run_min hLq hoq k _ hzl (fun i => by rw [zer_at]; exact Int.le_refl _) hz (by omega)]
  · have no : ∀ (ps : List R3) (_ : ∀ r, r ∈ rs ↔ r ∈ ps) (m : Nat), runR ps m (zer n) = none := fun ps hp m => by
      cases hr : runR ps m (zer n) with
      | none => rfl
      | some out =>
        obtain ⟨h1, h2, h3⟩ := run_fix m _ out hr
        refine absurd ⟨out, by rw [h1, hzl], fun x hx => ?_, (fix_same hp).2 h2⟩ hx
        obtain ⟨i, hi, rfl⟩ := List.mem_iff_getElem.1 hx
        have := h3 i
        rw [zer_at] at this
        simpa [List.getD_eq_getElem?_getD, hi] using this
    rw [no rs (fun _ => Iff.rfl) j, no qs h k]
end Go.Proofs.Ytgpcfkegbcpkpaa
