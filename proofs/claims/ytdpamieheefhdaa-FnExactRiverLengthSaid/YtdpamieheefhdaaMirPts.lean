/-
  Plain: a list of points of the call's own, its points mirrored one by one in place.
-/
import Derived.Test.YtdpamieheefhdaaWireI
namespace Go.Proofs.Ytdpamieheefhdaa
set_option linter.unusedSimpArgs false
set_option linter.unusedVariables false
open Go.ChangeShapes Go.WideShapes Go.ChangeAt Go.RowKit Go.Shelf Go.Sort

/-- The list, its first k points mirrored. -/
def mp (L : List Pt) : Nat → List Pt
  | 0 => L
  | k + 1 => (mp L k).set k (99 - ((mp L k).getD k (0, 0)).1, ((mp L k).getD k (0, 0)).2)
theorem mp_len (L : List Pt) : ∀ k, (mp L k).length = L.length
  | 0 => rfl
  | k + 1 => by unfold mp; rw [List.length_set, mp_len L k]
theorem mp_at (L : List Pt) : ∀ k j, j < L.length → (mp L k).getD j (0, 0) = if j < k then mir (L.getD j (0, 0)) else L.getD j (0, 0)
  | 0, j, _ => by rw [if_neg (by omega)]; rfl
  | k + 1, j, hj => by
    have h := mp_at L k j hj
    unfold mp
    rcases Nat.lt_trichotomy j k with e | e | e
    · rw [List.getD_eq_getElem?_getD, List.getElem?_set_ne (by omega), ← List.getD_eq_getElem?_getD, h, if_pos e, if_pos (by omega)]
    · subst e
      rw [List.getD_eq_getElem?_getD, List.getElem?_set_self (by rw [mp_len]; exact hj), Option.getD_some, h, if_neg (by omega), if_pos (by omega)]
      rfl
    · rw [List.getD_eq_getElem?_getD, List.getElem?_set_ne (by omega), ← List.getD_eq_getElem?_getD, h, if_neg (by omega), if_neg (by omega)]
theorem mp_all (L : List Pt) : mp L L.length = L.map mir := by
  apply List.ext_getElem
  · rw [mp_len, List.length_map]
  · intro j h1 h2
    have hj : j < L.length := by rw [mp_len] at h1; exact h1
    have h := mp_at L L.length j hj
    rw [if_pos hj, List.getD_eq_getElem?_getD, List.getElem?_eq_getElem h1, Option.getD_some, List.getD_eq_getElem?_getD, List.getElem?_eq_getElem hj, Option.getD_some] at h
    rw [h, List.getElem_map]
theorem cellsP_cons (p : Pt) (L : List Pt) : cellsP (p :: L) = .int .i64 p.1 :: .int .i64 p.2 :: cellsP L := by simp [cellsP]
theorem cellsP_setx (x : Int) : ∀ (L : List Pt) (k : Nat), k < L.length → cellsP (L.set k (x, (L.getD k (0, 0)).2)) = (cellsP L).set (k * 2) (.int .i64 x)
  | [], k, h => by simp at h
  | p :: L, 0, _ => by
    rw [List.set_cons_zero, cellsP_cons, cellsP_cons]
    rfl
  | p :: L, k + 1, h => by
    have h' := cellsP_setx x L k (by simpa using h)
    rw [List.set_cons_succ, cellsP_cons, cellsP_cons, show (k + 1) * 2 = k * 2 + 1 + 1 by omega, List.set_cons_succ, List.set_cons_succ, ← h']
    rfl
theorem OwnL.setx {w : World} {base g c m k : Nat} {L : List Pt} (h : OwnL w base (.slice (some ⟨g, 0, none⟩) m c) L) (hm' : L.length = m) (hk : k < m) (x : Int) :
    OwnL (w.setCell ⟨g, k * 2, none⟩ (.int .i64 x)) base (.slice (some ⟨g, 0, none⟩) m c) (L.set k (x, (L.getD k (0, 0)).2)) := by
  subst hm'
  rcases h.2 with ⟨e, _⟩ | ⟨g', cap, cur, e, hB, hh, hn, hm, hs, ht⟩
  · cases e
  · injection e with e1 e2 e3
    injection e1 with e1; injection e1 with e1
    subst e1; subst e3
    refine ⟨by rw [cellsP_len], .inr ⟨g, c, cur.setIfInBounds (k * 2) (.int .i64 x), by rw [List.length_set], hB, ?_, by rw [List.length_set]; exact hn, hm, by simpa using hs, ?_⟩⟩
    · simp [World.setCell, Array.getElem?_modify, hh]
    · rw [cellsP_setx x L k hk, ← ht, Array.toList_setIfInBounds, List.length_set, List.take_set]
theorem OwnL.frz {w : World} {base g c m : Nat} {L : List Pt} (h : OwnL w base (.slice (some ⟨g, 0, none⟩) m c) L) (i : Nat) : w.frozen? ⟨g, i, none⟩ = false := by
  rcases h.2 with ⟨e, _⟩ | ⟨g', cap, cur, e, hB, hh, _⟩
  · cases e
  · injection e with e1 e2 e3
    injection e1 with e1; injection e1 with e1
    subst e1
    simp [World.frozen?, hh]
theorem seg_grid {q : Pt} (hq : isPt q.1 q.2 = true) : ∀ (m : Nat) (p : Pt), isPt p.1 p.2 = true → ∀ x ∈ seg q m p, isPt x.1 x.2 = true
  | 0, _, _, x, hx => by cases hx
  | m + 1, p, hp, x, hx => by
    unfold seg at hx
    split at hx
    · cases hx
    · rcases List.mem_cons.1 hx with e | e
      · rw [e]; exact stp_grid hp hq
      · exact seg_grid hq m _ (stp_grid hp hq) x e
theorem wlk_grid : ∀ (r : List Pt) (p : Pt), isPt p.1 p.2 = true → (∀ x ∈ r, isPt x.1 x.2 = true) → ∀ x ∈ wlk p r, isPt x.1 x.2 = true
  | [], _, _, _, x, hx => by cases hx
  | q :: r, p, hp, hr, x, hx => by
    have hq := hr q (by simp)
    unfold wlk at hx
    rcases List.mem_append.1 hx with e | e
    · exact seg_grid hq 100 p hp x e
    · exact wlk_grid r q hq (fun y hy => hr y (by simp [hy])) x e
theorem wlkL_grid {r : List Pt} (h : allPt r = true) : ∀ x ∈ wlkL r, isPt x.1 x.2 = true := by
  have h' : ∀ x ∈ r, isPt x.1 x.2 = true := by unfold allPt at h; exact List.all_eq_true.1 h
  cases r with
  | nil => intro x hx; cases hx
  | cons p r =>
    intro x hx
    rcases List.mem_cons.1 hx with e | e
    · rw [e]; exact h' p (by simp)
    · exact wlk_grid r p (h' p (by simp)) (fun y hy => h' y (by simp [hy])) x e
end Go.Proofs.Ytdpamieheefhdaa
