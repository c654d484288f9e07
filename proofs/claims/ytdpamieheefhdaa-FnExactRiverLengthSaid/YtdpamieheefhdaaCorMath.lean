/-
  Plain mathematics: a path is the one through its corners.
-/
import Derived.Test.YtdpamieheefhdaaThrough
namespace Go.Proofs.Ytdpamieheefhdaa
set_option linter.unusedSimpArgs false
set_option linter.unusedVariables false
open Go.ChangeShapes Go.WideShapes Go.ChangeAt Go.RowKit

/-- A path bends at b, between a and c. -/
def bndP (a c : Pt) : Bool := decide (a.1 ≠ c.1) && decide (a.2 ≠ c.2)
/-- The corners behind a of the path a, b, r. -/
def tlC : Pt → Pt → List Pt → List Pt
  | _, b, [] => [b]
  | a, b, c :: r => (if bndP a c = true then [b] else []) ++ tlC b c r
/-- Corners of the list from the index k on. -/
def cFrom (ps : List Pt) (k : Nat) : Nat → List Pt
  | 0 => []
  | m + 1 => (if cornB ps k = true then [ps.getD k (0, 0)] else []) ++ cFrom ps (k + 1) m
theorem cFrom_snoc (ps : List Pt) : ∀ (m k : Nat), cFrom ps k (m + 1) = cFrom ps k m ++ (if cornB ps (k + m) = true then [ps.getD (k + m) (0, 0)] else [])
  | 0, k => by simp [cFrom]
  | m + 1, k => by
    have ih := cFrom_snoc ps m (k + 1)
    rw [show cFrom ps k (m + 1 + 1) = (if cornB ps k = true then [ps.getD k (0, 0)] else []) ++ cFrom ps (k + 1) (m + 1) from rfl, ih,
      show cFrom ps k (m + 1) = (if cornB ps k = true then [ps.getD k (0, 0)] else []) ++ cFrom ps (k + 1) m from rfl,
      show k + 1 + m = k + (m + 1) by omega, List.append_assoc]
theorem cornL_from (ps : List Pt) : ∀ m, cornL ps m = cFrom ps 0 m
  | 0 => rfl
  | m + 1 => by
    rw [cFrom_snoc ps m 0, ← cornL_from ps m, Nat.zero_add]; rfl
theorem getD_drop (ps l : List Pt) (k i : Nat) (h : ps.drop k = l) : ps.getD (k + i) (0, 0) = l.getD i (0, 0) := by
  rw [← h]; simp [List.getD_eq_getElem?_getD]
theorem len_drop (ps l : List Pt) (k : Nat) (h : ps.drop k = l) (h0 : l ≠ []) : ps.length = k + l.length := by
  have h1 : ps.length - k = l.length := by rw [← h]; simp
  have h2 : 0 < l.length := List.length_pos_iff.2 h0
  omega
theorem cFrom_tl (ps : List Pt) : ∀ (r : List Pt) (a b : Pt) (k : Nat), ps.drop k = a :: b :: r → cFrom ps (k + 1) (r.length + 1) = tlC a b r
  | [], a, b, k, h => by
    have hl := len_drop ps _ k h (by simp)
    have h1 := getD_drop ps _ k 1 h
    simp at hl h1
    have hc : cornB ps (k + 1) = true := by unfold cornB; simp [hl]
    simp [cFrom, hc, tlC, List.getD_eq_getElem?_getD, h1]
  | c :: r, a, b, k, h => by
    have hl := len_drop ps _ k h (by simp)
    have h0 := getD_drop ps _ k 0 h
    have h1 := getD_drop ps _ k 1 h
    have h2 := getD_drop ps _ k 2 h
    have hd : ps.drop (k + 1) = b :: c :: r := by rw [← List.drop_drop, h]; rfl
    have ih := cFrom_tl ps r b c (k + 1) hd
    simp only [List.length_cons] at hl
    rw [List.getD_cons_zero] at h0
    rw [List.getD_cons_succ, List.getD_cons_zero] at h1
    rw [List.getD_cons_succ, List.getD_cons_succ, List.getD_cons_zero] at h2
    rw [Nat.add_zero] at h0
    have hc : cornB ps (k + 1) = bndP a c := by
      unfold cornB bendB bndP
      rw [show k + 1 - 1 = k by omega, show k + 1 + 1 = k + 2 by omega, h0, h2, decide_eq_false (by omega : ¬ k + 1 = 0), decide_eq_false (by omega : ¬ k + 2 = ps.length), decide_eq_true (by omega : 0 < k + 1), decide_eq_true (by omega : k + 2 < ps.length)]
      simp
    show (if cornB ps (k + 1) = true then [ps.getD (k + 1) (0, 0)] else []) ++ cFrom ps (k + 1 + 1) (r.length + 1) = _
    rw [ih, hc, h1]; rfl
theorem cornL_two (a b : Pt) (r : List Pt) : cornL (a :: b :: r) (a :: b :: r).length = a :: tlC a b r := by
  rw [cornL_from]
  show cFrom (a :: b :: r) 0 (r.length + 1 + 1) = _
  have h := cFrom_tl (a :: b :: r) r a b 0 rfl
  show (if cornB (a :: b :: r) 0 = true then [(a :: b :: r).getD 0 (0, 0)] else []) ++ cFrom (a :: b :: r) (0 + 1) (r.length + 1) = _
  rw [h]
  rfl
theorem cornL_one (a : Pt) : cornL [a] 1 = [a] := rfl

/-- The point b, m steps on in the direction from a to b. -/
def ray (a b : Pt) (m : Nat) : Pt := (b.1 + m * (b.1 - a.1), b.2 + m * (b.2 - a.2))
/-- Neighbours at the distance 1, and none is that but one before it. -/
def goodL : List Pt → Prop
  | [] => True
  | [_] => True
  | a :: b :: r => farI a.1 a.2 b.1 b.2 = 1 ∧ (∀ c ∈ r.head?, a ≠ c) ∧ goodL (b :: r)
theorem far_one {a b : Pt} (h : farI a.1 a.2 b.1 b.2 = 1) :
    (b.1 - a.1 = 1 ∧ b.2 - a.2 = 0) ∨ (b.1 - a.1 = -1 ∧ b.2 - a.2 = 0) ∨ (b.1 - a.1 = 0 ∧ b.2 - a.2 = 1) ∨ (b.1 - a.1 = 0 ∧ b.2 - a.2 = -1) := by
  unfold farI absI at h
  split at h <;> split at h <;> omega
theorem straight {a b c : Pt} (h : farI a.1 a.2 b.1 b.2 = 1) (h' : farI b.1 b.2 c.1 c.2 = 1) (hne : a ≠ c) (hb : bndP a c = false) : c.1 - b.1 = b.1 - a.1 ∧ c.2 - b.2 = b.2 - a.2 := by
  have hne' : a.1 ≠ c.1 ∨ a.2 ≠ c.2 := by
    by_cases e : a.1 = c.1
    · exact .inr fun e2 => hne (Prod.ext e e2)
    · exact .inl e
  unfold bndP at hb
  rw [Bool.and_eq_false_iff, decide_eq_false_iff_not, decide_eq_false_iff_not] at hb
  rcases far_one h with ⟨e, f⟩ | ⟨e, f⟩ | ⟨e, f⟩ | ⟨e, f⟩ <;> rcases far_one h' with ⟨e', f'⟩ | ⟨e', f'⟩ | ⟨e', f'⟩ | ⟨e', f'⟩ <;> omega
theorem tlC_ray : ∀ (r : List Pt) (a b : Pt), goodL (a :: b :: r) → ∃ m t, tlC a b r = ray a b m :: t
  | [], a, b, _ => ⟨0, [], by simp [tlC, ray]⟩
  | c :: r, a, b, h => by
    obtain ⟨h1, h2, h3⟩ := h
    cases hb : bndP a c
    · obtain ⟨m, t, ht⟩ := tlC_ray r b c h3
      obtain ⟨e, f⟩ := straight h1 h3.1 (h2 c rfl) hb
      refine ⟨m + 1, t, ?_⟩
      simp only [tlC, hb, Bool.false_eq_true, ↓reduceIte, List.nil_append, ht]
      congr 1
      unfold ray
      refine Prod.ext ?_ ?_
      · simp only [e]; push_cast; rw [Int.add_mul]; omega
      · simp only [f]; push_cast; rw [Int.add_mul]; omega
    · exact ⟨0, tlC b c r, by simp [tlC, hb, ray]⟩
theorem stp_ray {a b : Pt} (h : farI a.1 a.2 b.1 b.2 = 1) (m : Nat) : a ≠ ray a b m ∧ stp a (ray a b m) = b ∧ farI a.1 a.2 (ray a b m).1 (ray a b m).2 = farI b.1 b.2 (ray a b m).1 (ray a b m).2 + 1 := by
  obtain ⟨x, y⟩ := a
  obtain ⟨u, v⟩ := b
  have hf := far_one h
  simp only at hf
  have hm : 0 ≤ (m : Int) := by omega
  obtain ⟨X, hX⟩ : ∃ X, u + (m : Int) * (u - x) = X := ⟨_, rfl⟩
  obtain ⟨Y, hY⟩ : ∃ Y, v + (m : Int) * (v - y) = Y := ⟨_, rfl⟩
  have hr : ray (x, y) (u, v) m = (X, Y) := by unfold ray; simp only [hX, hY]
  rw [hr]
  clear hr h
  have key : (u = x + 1 ∧ v = y ∧ X = u + m ∧ Y = v) ∨ (u = x - 1 ∧ v = y ∧ X = u - m ∧ Y = v) ∨ (u = x ∧ v = y + 1 ∧ X = u ∧ Y = v + m) ∨ (u = x ∧ v = y - 1 ∧ X = u ∧ Y = v - m) := by
    rcases hf with ⟨e, f⟩ | ⟨e, f⟩ | ⟨e, f⟩ | ⟨e, f⟩ <;> rw [e] at hX <;> rw [f] at hY <;> omega
  clear hf hX hY
  refine ⟨fun hh => ?_, ?_, ?_⟩
  · injection hh with h1 h2; omega
  · unfold stp
    refine Prod.ext ?_ ?_ <;> simp only
    · rcases sg_cases x X with ⟨p, q⟩ | ⟨p, q⟩ | ⟨p, q⟩ <;> rw [q] <;> omega
    · rcases sg_cases y Y with ⟨p, q⟩ | ⟨p, q⟩ | ⟨p, q⟩ <;> rw [q] <;> omega
  · simp only [farI, absI]
    rcases key with ⟨k1, k2, k3, k4⟩ | ⟨k1, k2, k3, k4⟩ | ⟨k1, k2, k3, k4⟩ | ⟨k1, k2, k3, k4⟩ <;> (repeat' split) <;> omega
theorem seg_fuel (q : Pt) : ∀ (m m' : Nat) (p : Pt), che p q ≤ m → che p q ≤ m' → seg q m p = seg q m' p
  | 0, m', p, h, _ => by
    have e := che_zero (p := p) (q := q) (by omega)
    subst e
    rw [seg_same, seg_same]
  | m + 1, m', p, h, h' => by
    by_cases e : p = q
    · subst e; rw [seg_same, seg_same]
    · obtain ⟨k, hk, hc, hs⟩ := seg_next e h
      obtain ⟨k', hk', hc', hs'⟩ := seg_next e h'
      obtain rfl : m = k := by omega
      rw [hs, hs', seg_fuel q m k' _ hc hc']
theorem tlC_mem : ∀ (r : List Pt) (a b x : Pt), x ∈ tlC a b r → x ∈ b :: r
  | [], a, b, x, h => h
  | c :: r, a, b, x, h => by
    unfold tlC at h
    rcases List.mem_append.1 h with h | h
    · split at h
      · simp at h; simp [h]
      · simp at h
    · have := tlC_mem r b c x h
      exact List.mem_cons_of_mem _ this
theorem seg_one {a b : Pt} (h1 : farI a.1 a.2 b.1 b.2 = 1) (ha : isPt a.1 a.2 = true) (hb : isPt b.1 b.2 = true) : seg b 100 a = [b] := by
  have hs := stp_ray h1 0
  have e0 : ray a b 0 = b := by unfold ray; simp
  rw [e0] at hs
  obtain ⟨k, hk, hc', hs'⟩ := seg_next hs.1 (che_grid ha hb)
  rw [hs.2.1, seg_same] at hs'
  exact hs'
theorem wlk_tl : ∀ (r : List Pt) (a b : Pt), goodL (a :: b :: r) → (∀ x ∈ a :: b :: r, isPt x.1 x.2 = true) → wlk a (tlC a b r) = b :: r
  | [], a, b, h, hg => by
    show seg b 100 a ++ wlk b [] = _
    rw [seg_one h.1 (hg a (by simp)) (hg b (by simp))]; rfl
  | c :: r, a, b, h, hg => by
    have h0 := h
    obtain ⟨h1, h2, h3⟩ := h
    have ih := wlk_tl r b c h3 (fun x hx => hg x (List.mem_cons_of_mem _ hx))
    cases hb : bndP a c
    · obtain ⟨m, t, ht⟩ := tlC_ray (c :: r) a b h0
      have e : tlC a b (c :: r) = tlC b c r := by simp [tlC, hb]
      have hm : ray a b m ∈ b :: c :: r := tlC_mem (c :: r) a b _ (by rw [ht]; simp)
      rw [← e, ht] at ih
      rw [ht]
      obtain ⟨hne, hst, _⟩ := stp_ray h1 m
      have hga := hg a (by simp)
      have hgb := hg b (by simp)
      have hgq := hg _ (List.mem_cons_of_mem a hm)
      generalize ray a b m = q at *
      obtain ⟨k, hk, hc', hs'⟩ := seg_next hne (che_grid hga hgq)
      rw [hst] at hs' hc'
      show seg q 100 a ++ wlk q t = _
      have ih' : seg q 100 b ++ wlk q t = c :: r := ih
      rw [hs', List.cons_append, seg_fuel q k 100 b hc' (che_grid hgb hgq), ih']
    · have e : tlC a b (c :: r) = b :: tlC b c r := by simp [tlC, hb]
      rw [e]
      have e2 : seg b 100 a = [b] := seg_one h1 (hg a (by simp)) (hg b (by simp))
      show seg b 100 a ++ wlk b (tlC b c r) = _
      rw [e2, ih]; rfl
/-- The sum of the distances of neighbours. -/
def sumF : List Pt → Int
  | [] => 0
  | [_] => 0
  | a :: b :: r => farI a.1 a.2 b.1 b.2 + sumF (b :: r)
theorem sum_tl : ∀ (r : List Pt) (a b : Pt), goodL (a :: b :: r) → sumF (a :: tlC a b r) = (r.length : Int) + 1
  | [], a, b, h => by simp [tlC, sumF, h.1]
  | c :: r, a, b, h => by
    have h0 := h
    obtain ⟨h1, h2, h3⟩ := h
    have ih := sum_tl r b c h3
    cases hb : bndP a c
    · obtain ⟨m, t, ht⟩ := tlC_ray (c :: r) a b h0
      have e : tlC a b (c :: r) = tlC b c r := by simp [tlC, hb]
      rw [← e, ht] at ih
      rw [ht]
      have hs := (stp_ray h1 m).2.2
      simp only [sumF, List.length_cons] at ih ⊢
      push_cast
      omega
    · have e : tlC a b (c :: r) = b :: tlC b c r := by simp [tlC, hb]
      rw [e]
      show farI a.1 a.2 b.1 b.2 + sumF (b :: tlC b c r) = _
      rw [ih, h1]; simp; omega
theorem mem_take_at {l : List Pt} {i k : Nat} (hi : i < k) (hk : k ≤ l.length) : l.getD i (0, 0) ∈ l.take k := by
  have h1 : i < (l.take k).length := by simp; omega
  have : (l.take k)[i] = l.getD i (0, 0) := by simp [List.getD_eq_getElem?_getD, show i < l.length by omega]
  rw [← this]; exact List.getElem_mem h1
theorem good_of : ∀ (l : List Pt), (∀ k, k + 1 < l.length → farI (l.getD k (0, 0)).1 (l.getD k (0, 0)).2 (l.getD (k + 1) (0, 0)).1 (l.getD (k + 1) (0, 0)).2 = 1) → (∀ k, k + 2 < l.length → l.getD k (0, 0) ≠ l.getD (k + 2) (0, 0)) → goodL l
  | [], _, _ => trivial
  | [_], _, _ => trivial
  | a :: b :: r, h, h' => by
    refine ⟨by simpa using h 0 (by simp), ?_, good_of (b :: r) (fun k hk => by simpa using h (k + 1) (by simpa using hk)) (fun k hk => by simpa using h' (k + 1) (by simp at hk ⊢; omega))⟩
    intro c hc
    cases r with
    | nil => simp at hc
    | cons c' r =>
      simp at hc; subst hc
      simpa using h' 0 (by simp)
theorem path_step {l : List Pt} (h : isPathB l = true) {k : Nat} (hk : k < l.length) : stepB l k = true := by
  unfold isPathB at h
  rw [Bool.and_eq_true, pathS_len, Bool.and_eq_true] at h
  cases hs : stepB l k
  · have : pathI l (k + 1) = false := by unfold pathI; rw [hs]; simp
    rw [pathI_bad l (k + 1) l.length (by omega) this] at h
    simp at h
  · rfl
theorem path_good {l : List Pt} (h : isPathB l = true) : goodL l := by
  refine good_of l (fun k hk => ?_) (fun k hk => ?_)
  · have h1 := path_step h hk
    unfold stepB at h1
    simp only [Bool.and_eq_true, Bool.or_eq_true, decide_eq_true_eq] at h1
    rcases h1.2 with h2 | h2
    · omega
    · simpa using h2
  · have h1 := path_step h hk
    unfold stepB at h1
    simp only [Bool.and_eq_true, Bool.not_eq_true', decide_eq_false_iff_not] at h1
    intro e
    rw [← e] at h1
    exact h1.1 (mem_take_at (by omega) (by omega))
theorem path_pts {l : List Pt} (h : isPathB l = true) : ∀ x ∈ l, isPt x.1 x.2 = true := by
  unfold isPathB at h
  rw [Bool.and_eq_true, pathS_len, Bool.and_eq_true] at h
  have h1 := h.2.1
  unfold allPt at h1
  exact List.all_eq_true.1 h1
/-- The corners of a path. -/
def cors (l : List Pt) : List Pt := cornL l l.length
theorem cors_walk {l : List Pt} (h : isPathB l = true) : wlkL (cors l) = l := by
  have hg := path_good h
  have hp := path_pts h
  have h1 := (pathLen h).1
  unfold cors
  match l, h1 with
  | [a], _ => rfl
  | a :: b :: r, _ =>
    rw [cornL_two]
    show a :: wlk a (tlC a b r) = _
    rw [wlk_tl r a b hg hp]
theorem cornL_mem (ps : List Pt) : ∀ k, k ≤ ps.length → ∀ x ∈ cornL ps k, x ∈ ps
  | 0, _, x, hx => by simp [cornL] at hx
  | k + 1, hk, x, hx => by
    unfold cornL at hx
    rcases List.mem_append.1 hx with hx | hx
    · exact cornL_mem ps k (by omega) x hx
    · split at hx
      · simp at hx
        have := mem_take_at (l := ps) (i := k) (k := k + 1) (by omega) hk
        rw [List.getD_eq_getElem?_getD] at this
        rw [hx]; exact List.mem_of_mem_take this
      · simp at hx
theorem cors_ok {l : List Pt} (h : isPathB l = true) : okT (cors l) = true := by
  have hw := cors_walk h
  have hl := pathLen h
  have hle : (cors l).length ≤ l.length := cornL_le l l.length
  have hpos : 1 ≤ (cors l).length := by
    unfold cors
    match l, hl.1 with
    | [a], _ => exact Nat.le_refl _
    | a :: b :: r, _ => rw [cornL_two]; simp
  unfold okT
  rw [hw, h]
  have h1 : sizeB (cors l) = true := by unfold sizeB; exact decide_eq_true ⟨hpos, by omega⟩
  have h2 : allPt (cors l) = true := by
    unfold allPt
    exact List.all_eq_true.2 fun x hx => path_pts h x (cornL_mem l l.length (Nat.le_refl _) x hx)
  rw [h1, h2]
  show (true && (true && (true && decide (cors l = cors l)))) = true
  simp
theorem cors_thr {l : List Pt} (h : isPathB l = true) : thrL (cors l) = l := by rw [thrL_t (cors_ok h), cors_walk h]
theorem cors_sum {l : List Pt} (h : isPathB l = true) : sumF (cors l) = (l.length : Int) - 1 := by
  have hg := path_good h
  have h1 := (pathLen h).1
  unfold cors
  match l, h1 with
  | [a], _ => rfl
  | a :: b :: r, _ =>
    rw [cornL_two, sum_tl r a b hg]; simp
theorem cors_cnt (ps : List Pt) : ∀ k, k ≤ ps.length → ((cornL ps k).length : Int) = cntB ps k + (if 1 ≤ k then 1 else 0) + (if k = ps.length ∧ 2 ≤ k then 1 else 0)
  | 0, _ => by simp [cornL, cntB]
  | k + 1, hk => by
    have ih := cors_cnt ps k (by omega)
    rw [if_neg (by omega : ¬ (k = ps.length ∧ 2 ≤ k))] at ih
    unfold cornL cntB
    rw [List.length_append, Int.natCast_add, ih, if_pos (by omega : 1 ≤ k + 1)]
    by_cases h0 : k = 0
    · subst h0
      have e1 : cornB ps 0 = true := by simp [cornB]
      have e2 : bendB ps 0 = false := by simp [bendB]
      rw [e1, e2]
      simp
    · rw [if_pos (by omega : 1 ≤ k)]
      by_cases hl : k + 1 = ps.length
      · have e1 : cornB ps k = true := by simp [cornB, hl]
        have e2 : bendB ps k = false := by unfold bendB; rw [decide_eq_false (by omega : ¬ k + 1 < ps.length)]; simp
        rw [e1, e2, if_pos (⟨hl, by omega⟩ : k + 1 = ps.length ∧ 2 ≤ k + 1)]
        simp
      · have e1 : cornB ps k = bendB ps k := by unfold cornB; rw [decide_eq_false h0, decide_eq_false hl]; simp
        rw [e1, if_neg (by omega : ¬ (k + 1 = ps.length ∧ 2 ≤ k + 1))]
        cases bendB ps k <;> simp
theorem cors_bends {l : List Pt} (h : 2 ≤ l.length) : cntB l l.length = ((cors l).length : Int) - 2 := by
  have := cors_cnt l l.length (Nat.le_refl _)
  rw [if_pos (by omega : 1 ≤ l.length), if_pos (⟨rfl, h⟩ : l.length = l.length ∧ 2 ≤ l.length)] at this
  unfold cors
  omega
theorem cors_bend1 {l : List Pt} (h : l.length = 1) : cntB l l.length = 0 ∧ (cors l).length = 1 := by
  match l, h with
  | [a], _ => exact ⟨rfl, rfl⟩
/-- The sum of distances up to an index. -/
def sumTo (L : List Pt) : Nat → Int
  | 0 => 0
  | k + 1 => sumTo L k + farI (L.getD k (0, 0)).1 (L.getD k (0, 0)).2 (L.getD (k + 1) (0, 0)).1 (L.getD (k + 1) (0, 0)).2
theorem sumTo_cons (a : Pt) (L : List Pt) : ∀ k, sumTo (a :: L) (k + 1) = farI a.1 a.2 (L.getD 0 (0, 0)).1 (L.getD 0 (0, 0)).2 + sumTo L k
  | 0 => by simp [sumTo]
  | k + 1 => by
    have ih := sumTo_cons a L k
    rw [show sumTo (a :: L) (k + 1 + 1) = sumTo (a :: L) (k + 1) + farI ((a :: L).getD (k + 1) (0, 0)).1 ((a :: L).getD (k + 1) (0, 0)).2 ((a :: L).getD (k + 1 + 1) (0, 0)).1 ((a :: L).getD (k + 1 + 1) (0, 0)).2 from rfl, ih,
      show sumTo L (k + 1) = sumTo L k + farI (L.getD k (0, 0)).1 (L.getD k (0, 0)).2 (L.getD (k + 1) (0, 0)).1 (L.getD (k + 1) (0, 0)).2 from rfl]
    simp only [List.getD_cons_succ]
    omega
theorem sumF_to : ∀ (L : List Pt), sumF L = sumTo L (L.length - 1)
  | [] => rfl
  | [_] => rfl
  | a :: b :: r => by
    have ih := sumF_to (b :: r)
    show farI a.1 a.2 b.1 b.2 + sumF (b :: r) = sumTo (a :: b :: r) (r.length + 1)
    rw [sumTo_cons, ih]; rfl
theorem far_pos (a b c d : Int) : 0 ≤ farI a b c d := by unfold farI absI; split <;> split <;> omega
end Go.Proofs.Ytdpamieheefhdaa
