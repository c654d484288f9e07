/-
  Plain: the program's wire to the right is the model's wire.
-/
import Derived.Test.YtdpamieheefhdaaRight
namespace Go.Proofs.Ytdpamieheefhdaa
set_option linter.unusedSimpArgs false
set_option linter.unusedVariables false

theorem wlk_snoc (q : Pt) : ∀ (M : List Pt) (a l : Pt), wlk a (M ++ [l] ++ [q]) = wlk a (M ++ [l]) ++ seg q 100 l
  | [], a, l => by simp [wlk]
  | m :: M, a, l => by
    have h := wlk_snoc q M m l
    show seg m 100 a ++ wlk m (M ++ [l] ++ [q]) = (seg m 100 a ++ wlk m (M ++ [l])) ++ seg q 100 l
    rw [h, List.append_assoc]
theorem wlkL_snoc (M : List Pt) (l q : Pt) : wlkL (M ++ [l] ++ [q]) = wlkL (M ++ [l]) ++ seg q 100 l := by
  cases M with
  | nil => simp [wlkL, wlk]
  | cons m M =>
    show m :: wlk m (M ++ [l] ++ [q]) = (m :: wlk m (M ++ [l])) ++ seg q 100 l
    rw [wlk_snoc, List.cons_append]
theorem seg_self (q : Pt) (m : Nat) : seg q m q = [] := by cases m <;> simp [seg]
/-- One step up. -/
theorem seg_up (x : Int) (k : Nat) : seg (x, ((k + 1 : Nat) : Int)) 100 (x, (k : Int)) = [(x, ((k + 1 : Nat) : Int))] := by
  have h1 : stp (x, (k : Int)) (x, ((k + 1 : Nat) : Int)) = (x, ((k + 1 : Nat) : Int)) := by
    unfold stp
    have a : sg x x = 0 := by rcases sg_cases x x with h | h | h <;> omega
    have b : sg (k : Int) ((k + 1 : Nat) : Int) = 1 := by rcases sg_cases (k : Int) ((k + 1 : Nat) : Int) with h | h | h <;> omega
    simp only [a, b]
    ext <;> simp
  have h2 : ((x, (k : Int)) : Pt) ≠ (x, ((k + 1 : Nat) : Int)) := by
    intro h; injection h with _ h; omega
  show (if ((x, (k : Int)) : Pt) = (x, ((k + 1 : Nat) : Int)) then [] else stp (x, (k : Int)) (x, ((k + 1 : Nat) : Int)) :: seg (x, ((k + 1 : Nat) : Int)) 99 (stp (x, (k : Int)) (x, ((k + 1 : Nat) : Int)))) = _
  rw [if_neg h2, h1, seg_self]
/-- The bottom row ascends. -/
def AscB (B : List Int) (n : Nat) : Prop := ∀ j, j + 1 < n → B.getD j 0 < B.getD (j + 1) 0
theorem AscB.far {B : List Int} {n : Nat} (h : AscB B n) (i : Nat) : ∀ k, i + k < n → B.getD i 0 + (k : Int) ≤ B.getD (i + k) 0
  | 0, _ => by simp
  | k + 1, hk => by
    have h1 := h.far i k (by omega)
    have h2 := h (i + k) (by omega)
    rw [show i + (k + 1) = i + k + 1 by omega]
    omega
theorem rAt_le {T B : List Int} {n i : Nat} (h : B.getD i 0 ≤ T.getD i 0) : ∀ k, rAt T B n i k ≤ T.getD i 0
  | 0 => h
  | k + 1 => by
    show plc T B n i (k + 1) ≤ _
    unfold plc
    split <;> omega
theorem rAt_ge {T B : List Int} {n i : Nat} (ha : AscB B n) (h : B.getD i 0 ≤ T.getD i 0) : ∀ k, B.getD i 0 ≤ rAt T B n i k
  | 0 => Int.le_refl _
  | k + 1 => by
    show _ ≤ plc T B n i (k + 1)
    unfold plc
    split
    · next hk => have := ha.far i (k + 1) hk; omega
    · exact h
/-- Both go to the same places. -/
theorem rAt_xAt {T B : List Int} {n i : Nat} (hi : i < n) (ha : AscB B n) (h : B.getD i 0 ≤ T.getD i 0) : ∀ k, xAt T B n i k = rAt T B n i k
  | 0 => rfl
  | k + 1 => by
    have hl := rAt_le (n := n) h k
    show toW T B n i (k + 1) (xAt T B n i k) = plc T B n i (k + 1)
    rw [rAt_xAt hi ha h k]
    unfold toW plc
    by_cases hk : i + (k + 1) < n
    · rw [if_pos hk]
      by_cases hx : rAt T B n i k < T.getD i 0
      · rw [if_pos ⟨hx, hk⟩]
      · rw [if_neg (fun e => hx e.1), if_neg (fun e => by omega)]
        have e : rAt T B n i k = T.getD i 0 := by omega
        have hs := ha (i + k) (by omega)
        rw [show i + (k + 1) = i + k + 1 by omega]
        have hge : T.getD i 0 ≤ B.getD (i + k) 0 - (k : Int) := by
          cases k with
          | zero => have e' : B.getD i 0 = T.getD i 0 := e; simp only [Nat.add_zero]; omega
          | succ k =>
            have e' : plc T B n i (k + 1) = T.getD i 0 := e
            unfold plc at e'
            rw [if_pos (by omega)] at e'
            omega
        omega
    · rw [if_neg hk, if_neg (fun e => hk e.2), if_neg (fun e => by omega)]
theorem stL_split (T B : List Int) (n i : Nat) : ∀ k, ∃ M, stL T B n i k = M ++ [(rAt T B n i k, (k : Int))]
  | 0 => ⟨[], rfl⟩
  | k + 1 => ⟨stL T B n i k ++ [(rAt T B n i k, ((k + 1 : Nat) : Int))], by show stL T B n i k ++ [_, _] = _; rw [List.append_assoc]; rfl⟩
theorem wlkL_stL {T B : List Int} {n i : Nat} (hx : ∀ k, xAt T B n i k = rAt T B n i k) : ∀ k, wlkL (stL T B n i k) = wirL T B n i k
  | 0 => rfl
  | k + 1 => by
    have h := wlkL_stL hx k
    obtain ⟨M, hM⟩ := stL_split T B n i k
    have e : stL T B n i (k + 1) = M ++ [(rAt T B n i k, (k : Int))] ++ [(rAt T B n i k, ((k + 1 : Nat) : Int))] ++ [(rAt T B n i (k + 1), ((k + 1 : Nat) : Int))] := by
      show stL T B n i k ++ [_, _] = _
      rw [hM]; simp
    rw [e, wlkL_snoc, wlkL_snoc, ← hM, h, seg_up]
    show _ = (wirL T B n i k ++ [(xAt T B n i k, ((k + 1 : Nat) : Int))]) ++ seg (xAt T B n i (k + 1), ((k + 1 : Nat) : Int)) 100 (xAt T B n i k, ((k + 1 : Nat) : Int))
    rw [hx k, hx (k + 1)]
theorem wlkL_stops {T B : List Int} {n i : Nat} (t : Nat) (hi : i < n) (ha : AscB B n) (h : B.getD i 0 ≤ T.getD i 0) : wlkL (stops T B n i t) = wireP T B n i t := by
  have hx := rAt_xAt hi ha h
  obtain ⟨M, hM⟩ := stL_split T B n i t
  unfold stops wireP
  rw [hM, wlkL_snoc, ← hM, wlkL_stL hx, seg_up, hx t]

/-- The mirror image. -/
def mir (p : Pt) : Pt := (99 - p.1, p.2)
theorem mir_mir (p : Pt) : mir (mir p) = p := by unfold mir; ext <;> simp <;> omega
theorem mir_map (L : List Pt) : (L.map mir).map mir = L := by
  rw [List.map_map]
  have : (mir ∘ mir) = id := by funext p; exact mir_mir p
  rw [this, List.map_id]
theorem stp_mir (p q : Pt) : stp (mir p) (mir q) = mir (stp p q) := by
  unfold stp mir
  have a := sg_cases p.1 q.1
  have b := sg_cases (99 - p.1) (99 - q.1)
  ext
  · simp only; omega
  · simp only
theorem seg_mir (q : Pt) : ∀ (m : Nat) (p : Pt), seg (mir q) m (mir p) = (seg q m p).map mir
  | 0, _ => rfl
  | m + 1, p => by
    show (if mir p = mir q then [] else stp (mir p) (mir q) :: seg (mir q) m (stp (mir p) (mir q))) = (if p = q then [] else stp p q :: seg q m (stp p q)).map mir
    by_cases e : p = q
    · subst e; simp
    · rw [if_neg e, if_neg (fun h => e (by rw [← mir_mir p, h, mir_mir])), stp_mir, seg_mir q m]; rfl
/-- A row and its mirror image. -/
def MirRow (T T' : List Int) (n : Nat) : Prop := ∀ j, j < n → T'.getD j 0 = 99 - T.getD (n - 1 - j) 0
theorem toW_mir {T B T' B' : List Int} {n i : Nat} (hi : i < n) (hT : MirRow T T' n) (hB : MirRow B B' n) (k : Nat) (x : Int) : toW T' B' n (n - 1 - i) k (99 - x) = 99 - toW T B n i k x := by
  have ht := hT (n - 1 - i) (by omega)
  rw [show n - 1 - (n - 1 - i) = i by omega] at ht
  unfold toW
  rw [ht]
  by_cases h1 : T.getD i 0 < x ∧ k ≤ i
  · rw [if_pos ⟨by omega, by omega⟩, if_neg (fun e => by omega), if_pos h1]
    have hb := hB (n - 1 - i + k) (by omega)
    rw [show n - 1 - (n - 1 - i + k) = i - k by omega] at hb
    rw [hb]; omega
  · rw [if_neg (fun e => h1 ⟨by omega, by omega⟩)]
    by_cases h2 : x < T.getD i 0 ∧ i + k < n
    · rw [if_pos ⟨by omega, by omega⟩, if_pos h2]
      have hb := hB (n - 1 - i - k) (by omega)
      rw [show n - 1 - (n - 1 - i - k) = i + k by omega] at hb
      rw [hb]; omega
    · rw [if_neg (fun e => h2 ⟨by omega, by omega⟩), if_neg h2, if_neg h1]
theorem xAt_mir {T B T' B' : List Int} {n i : Nat} (hi : i < n) (hT : MirRow T T' n) (hB : MirRow B B' n) : ∀ k, xAt T' B' n (n - 1 - i) k = 99 - xAt T B n i k
  | 0 => by
    have h := hB (n - 1 - i) (by omega)
    rw [show n - 1 - (n - 1 - i) = i by omega] at h
    exact h
  | k + 1 => by
    show toW T' B' n (n - 1 - i) (k + 1) (xAt T' B' n (n - 1 - i) k) = 99 - toW T B n i (k + 1) (xAt T B n i k)
    rw [xAt_mir hi hT hB k, toW_mir hi hT hB]
theorem wirL_mir {T B T' B' : List Int} {n i : Nat} (hi : i < n) (hT : MirRow T T' n) (hB : MirRow B B' n) : ∀ k, wirL T' B' n (n - 1 - i) k = (wirL T B n i k).map mir
  | 0 => by
    have h := xAt_mir hi hT hB 0
    show [(xAt T' B' n (n - 1 - i) 0, (0 : Int))] = [mir (xAt T B n i 0, 0)]
    rw [h]; rfl
  | k + 1 => by
    have h1 := xAt_mir hi hT hB k
    have h2 := xAt_mir hi hT hB (k + 1)
    unfold wirL
    rw [wirL_mir hi hT hB k, h1, h2, List.map_append, List.map_append, ← seg_mir]
    rfl
theorem wireP_mir {T B T' B' : List Int} {n i : Nat} (t : Nat) (hi : i < n) (hT : MirRow T T' n) (hB : MirRow B B' n) : (wireP T' B' n (n - 1 - i) t).map mir = wireP T B n i t := by
  have h : wireP T' B' n (n - 1 - i) t = (wireP T B n i t).map mir := by
    unfold wireP
    rw [wirL_mir hi hT hB t, xAt_mir hi hT hB t, List.map_append]
    rfl
  rw [h, mir_map]
theorem AscB.mir {B B' : List Int} {n : Nat} (h : AscB B n) (hB : MirRow B B' n) : AscB B' n := fun j hj => by
  have h1 := hB j (by omega)
  have h2 := hB (j + 1) hj
  have h3 := h (n - 1 - (j + 1)) (by omega)
  rw [show n - 1 - (j + 1) + 1 = n - 1 - j by omega] at h3
  omega
end Go.Proofs.Ytdpamieheefhdaa
