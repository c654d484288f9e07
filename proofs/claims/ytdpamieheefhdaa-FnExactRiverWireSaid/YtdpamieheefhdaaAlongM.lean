/-
  Plain mathematics: the points along corners.
-/
import Derived.Test.YtdpamieheefhdaaCornFns
namespace Go.Proofs.Ytdpamieheefhdaa
set_option linter.unusedSimpArgs false
set_option linter.unusedVariables false
open Go.ChangeShapes Go.WideShapes Go.ChangeAt Go.RowKit

abbrev Pt := Int × Int
/-- One step from a towards b. -/
def sg (a b : Int) : Int := if a < b then 1 else if b < a then -1 else 0
def stp (p q : Pt) : Pt := (p.1 + sg p.1 q.1, p.2 + sg p.2 q.2)
def che (p q : Pt) : Nat := max (p.1 - q.1).natAbs (p.2 - q.2).natAbs
/-- The points behind p on the way to q. -/
def seg (q : Pt) : Nat → Pt → List Pt
  | 0, _ => []
  | m + 1, p => if p = q then [] else stp p q :: seg q m (stp p q)
def wlk : Pt → List Pt → List Pt
  | _, [] => []
  | p, q :: r => seg q 100 p ++ wlk q r
def wlkL : List Pt → List Pt
  | [] => []
  | p :: r => p :: wlk p r
theorem sg_cases (a b : Int) : (a < b ∧ sg a b = 1) ∨ (b < a ∧ sg a b = -1) ∨ (a = b ∧ sg a b = 0) := by
  unfold sg
  rcases Int.lt_trichotomy a b with h | h | h
  · exact .inl ⟨h, by rw [if_pos h]⟩
  · exact .inr (.inr ⟨h, by rw [if_neg (by omega), if_neg (by omega)]⟩)
  · exact .inr (.inl ⟨h, by rw [if_neg (by omega), if_pos h]⟩)
theorem che_stp {p q : Pt} (h : p ≠ q) : che (stp p q) q + 1 = che p q := by
  obtain ⟨a, b⟩ := p
  obtain ⟨c, d⟩ := q
  have h' : a ≠ c ∨ b ≠ d := by
    rcases Int.lt_trichotomy a c with e | e | e
    · exact .inl (by omega)
    · refine .inr fun e2 => h (by rw [e, e2])
    · exact .inl (by omega)
  unfold che stp
  simp only
  rcases sg_cases a c with ⟨e, f⟩ | ⟨e, f⟩ | ⟨e, f⟩ <;> rcases sg_cases b d with ⟨e', f'⟩ | ⟨e', f'⟩ | ⟨e', f'⟩ <;> rw [f, f'] <;> omega
theorem che_zero {p q : Pt} (h : che p q = 0) : p = q := by
  obtain ⟨a, b⟩ := p
  obtain ⟨c, d⟩ := q
  unfold che at h
  simp only at h
  rw [show a = c by omega, show b = d by omega]
theorem seg_same (q : Pt) (m : Nat) : seg q m q = [] := by cases m <;> simp [seg]
theorem seg_next {p q : Pt} {m : Nat} (h : p ≠ q) (hm : che p q ≤ m) : ∃ m', m = m' + 1 ∧ che (stp p q) q ≤ m' ∧ seg q m p = stp p q :: seg q m' (stp p q) := by
  have h1 := che_stp h
  cases m with
  | zero => omega
  | succ m => exact ⟨m, rfl, by omega, by simp [seg, h]⟩
theorem seg_end {q : Pt} : ∀ (m : Nat) (p : Pt), che p q ≤ m → ∃ pre, p :: seg q m p = pre ++ [q]
  | 0, p, h => by
    have := che_zero (p := p) (q := q) (by omega)
    subst this
    exact ⟨[], by simp [seg]⟩
  | m + 1, p, h => by
    by_cases e : p = q
    · subst e; exact ⟨[], by simp [seg_same]⟩
    · obtain ⟨m', hm', hc, hs⟩ := seg_next e h
      obtain rfl : m = m' := by omega
      obtain ⟨pre, hp⟩ := seg_end m (stp p q) hc
      exact ⟨p :: pre, by rw [hs, hp]; rfl⟩
theorem seg_len (q : Pt) : ∀ (m : Nat) (p : Pt), (seg q m p).length ≤ m
  | 0, p => by simp [seg]
  | m + 1, p => by
    unfold seg
    split
    · simp
    · have := seg_len q m (stp p q); simp; omega
theorem wlk_len : ∀ (r : List Pt) (p : Pt), (wlk p r).length ≤ 100 * r.length
  | [], p => by simp [wlk]
  | q :: r, p => by
    have := seg_len q 100 p
    have := wlk_len r q
    simp [wlk]; omega
theorem wlkL_len (cs : List Pt) : (wlkL cs).length ≤ 100 * cs.length := by
  cases cs with
  | nil => simp [wlkL]
  | cons p r => have := wlk_len r p; simp [wlkL]; omega
theorem che_grid {p q : Pt} (h1 : isPt p.1 p.2 = true) (h2 : isPt q.1 q.2 = true) : che p q ≤ 100 := by
  rw [isPt_iff] at h1 h2
  unfold che
  omega
theorem stp_grid {p q : Pt} (h1 : isPt p.1 p.2 = true) (h2 : isPt q.1 q.2 = true) : isPt (stp p q).1 (stp p q).2 = true := by
  rw [isPt_iff] at h1 h2 ⊢
  unfold stp
  rcases sg_cases p.1 q.1 with ⟨e, f⟩ | ⟨e, f⟩ | ⟨e, f⟩ <;> rcases sg_cases p.2 q.2 with ⟨e', f'⟩ | ⟨e', f'⟩ | ⟨e', f'⟩ <;> simp only [f, f'] <;> omega

/-- Neighbours in a list have the distance 1. -/
def adjL : List Pt → Prop
  | [] => True
  | [_] => True
  | a :: b :: r => farI a.1 a.2 b.1 b.2 = 1 ∧ adjL (b :: r)
theorem adj_tail {a : Pt} {r : List Pt} (h : adjL (a :: r)) : adjL r := by
  cases r with
  | nil => trivial
  | cons b r => exact h.2
theorem adj_suffix {l : List Pt} : ∀ (pre : List Pt), adjL (pre ++ l) → adjL l
  | [], h => h
  | _ :: pre, h => adj_suffix pre (adj_tail h)
theorem adj_of : ∀ (l : List Pt), (∀ k, k + 1 < l.length → farI (l.getD k (0, 0)).1 (l.getD k (0, 0)).2 (l.getD (k + 1) (0, 0)).1 (l.getD (k + 1) (0, 0)).2 = 1) → adjL l
  | [], _ => trivial
  | [_], _ => trivial
  | a :: b :: r, h => ⟨by simpa using h 0 (by simp), adj_of (b :: r) fun k hk => by simpa using h (k + 1) (by simpa using hk)⟩
theorem adj_path {l : List Pt} (h : isPathB l = true) : adjL l := by
  unfold isPathB at h
  rw [Bool.and_eq_true, pathS_len, Bool.and_eq_true] at h
  refine adj_of l fun k hk => ?_
  have h1 : stepB l (k + 1) = true := by
    cases hs : stepB l (k + 1)
    · have : pathI l (k + 1 + 1) = false := by unfold pathI; rw [hs]; simp
      rw [pathI_bad l (k + 1 + 1) l.length (by omega) this] at h
      simp at h
    · rfl
  unfold stepB at h1
  simp only [Bool.and_eq_true, Bool.or_eq_true, decide_eq_true_eq] at h1
  rcases h1.2 with h2 | h2
  · omega
  · simpa using h2
/-- Each point of a list has an X or a Y with the one before it. -/
def alnB (a b : Pt) : Bool := decide (a.1 = b.1) || decide (a.2 = b.2)
theorem adj_aln {p q : Pt} (h : p ≠ q) (hf : farI p.1 p.2 (stp p q).1 (stp p q).2 = 1) : alnB p q = true := by
  obtain ⟨a, b⟩ := p
  obtain ⟨c, d⟩ := q
  unfold farI absI stp at hf
  unfold alnB
  simp only [Bool.or_eq_true, decide_eq_true_eq] at hf ⊢
  rcases sg_cases a c with ⟨e, f⟩ | ⟨e, f⟩ | ⟨e, f⟩ <;> rcases sg_cases b d with ⟨e', f'⟩ | ⟨e', f'⟩ | ⟨e', f'⟩ <;> rw [f, f'] at hf <;> first | (left; exact e) | (right; exact e') | (exfalso; split at hf <;> split at hf <;> omega)
theorem aln_of : ∀ (r : List Pt) (p : Pt), (∀ x ∈ p :: r, isPt x.1 x.2 = true) → adjL (p :: wlk p r) → ∀ k, k < r.length → alnB ((p :: r).getD k (0, 0)) (r.getD k (0, 0)) = true
  | [], p, _, _, k, hk => by simp at hk
  | q :: r, p, hg, h, k, hk => by
    have hgp := hg p (by simp)
    have hgq := hg q (by simp)
    obtain ⟨pre, hpre⟩ := seg_end 100 p (che_grid hgp hgq)
    have hsuf : adjL (q :: wlk q r) := by
      have e : p :: wlk p (q :: r) = pre ++ (q :: wlk q r) := by
        show p :: (seg q 100 p ++ wlk q r) = _
        rw [← List.cons_append, hpre]; simp
      rw [e] at h
      exact adj_suffix pre h
    cases k with
    | zero =>
      show alnB p q = true
      by_cases e : p = q
      · subst e; unfold alnB; simp
      · obtain ⟨m', _, _, hs⟩ := seg_next e (che_grid hgp hgq)
        have h' : adjL (p :: (seg q 100 p ++ wlk q r)) := h
        rw [hs] at h'
        exact adj_aln e h'.1
    | succ k =>
      have := aln_of r q (fun x hx => hg x (by simp at hx ⊢; right; exact hx)) hsuf k (by simpa using hk)
      simpa using this

/-- There is a path with these corners. -/
def okT (cs : List Pt) : Bool := sizeB cs && (allPt cs && (isPathB (wlkL cs) && decide (cornL (wlkL cs) (wlkL cs).length = cs)))
def alnTo (cs : List Pt) : Nat → Bool
  | 0 => true
  | k + 1 => alnTo cs k && (isPt (cs.getD k (0, 0)).1 (cs.getD k (0, 0)).2 && (decide (k = 0) || alnB (cs.getD (k - 1) (0, 0)) (cs.getD k (0, 0))))
theorem alnTo_bad {cs : List Pt} {k n : Nat} (h : k ≤ n) (hk : alnTo cs k = false) : alnTo cs n = false := by
  induction n with
  | zero => obtain rfl : k = 0 := by omega
            exact hk
  | succ n ih =>
    by_cases e : k = n + 1
    · subst e; exact hk
    · unfold alnTo; rw [ih (by omega)]; rfl
theorem okT_aln {cs : List Pt} (h : okT cs = true) : alnTo cs cs.length = true := by
  unfold okT at h
  simp only [Bool.and_eq_true] at h
  obtain ⟨h0, h1, h2, _⟩ := h
  have hg : ∀ k, k < cs.length → isPt (cs.getD k (0, 0)).1 (cs.getD k (0, 0)).2 = true := fun k hk => allPt_at h1 hk
  have hal : ∀ k, k + 1 < cs.length → alnB (cs.getD k (0, 0)) (cs.getD (k + 1) (0, 0)) = true := by
    cases cs with
    | nil => intro k hk; simp at hk
    | cons p r =>
      have hx : ∀ x ∈ p :: r, isPt x.1 x.2 = true := by
        intro x hx
        unfold allPt at h1
        exact List.all_eq_true.1 h1 x hx
      have := aln_of r p hx (adj_path h2)
      intro k hk
      simpa using this k (by simpa using hk)
  have : ∀ k, k ≤ cs.length → alnTo cs k = true := by
    intro k
    induction k with
    | zero => intro _; rfl
    | succ k ih =>
      intro hk
      unfold alnTo
      rw [ih (by omega), hg k (by omega)]
      by_cases e : k = 0
      · simp [e]
      · have := hal (k - 1) (by omega)
        rw [show k - 1 + 1 = k by omega] at this
        rw [this]; simp
  exact this _ (Nat.le_refl _)
end Go.Proofs.Ytdpamieheefhdaa
