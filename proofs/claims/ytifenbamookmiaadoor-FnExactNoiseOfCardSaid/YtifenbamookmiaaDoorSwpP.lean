/-
  Two neighbours exchanged, said over lists; blocks of numbers (no walk).
-/
import Derived.Test.YtifenbamookmiaaDoorCplP
import Derived.Test.YtifenbamookmiaaDoorOwnJ
namespace Go.Proofs.YtifenbamookmiaaDoor
set_option linter.unusedSimpArgs false
set_option linter.unusedVariables false
open Go.ChangeShapes Go.WideShapes Go.ChangeAt Go.RowKit

/-- Two neighbours exchanged. -/
def swpL (L : List Int) (p : Nat) : List Int := (L.set p (L.getD (p + 1) 0)).set (p + 1) (L.getD p 0)
def swpN (p i : Nat) : Nat := if i = p then p + 1 else if i = p + 1 then p else i
theorem swp_len (L : List Int) (p : Nat) : (swpL L p).length = L.length := by unfold swpL; simp
theorem set_getD (L : List Int) (k i : Nat) (x : Int) (hk : k < L.length) : (L.set k x).getD i 0 = if i = k then x else L.getD i 0 := by
  by_cases e : i = k
  · subst e; rw [if_pos rfl, List.getD_eq_getElem?_getD, List.getElem?_set_self hk]; rfl
  · rw [if_neg e, List.getD_eq_getElem?_getD, List.getElem?_set_ne (by omega), ← List.getD_eq_getElem?_getD]
theorem swp_at {L : List Int} {p : Nat} (h : p + 1 < L.length) (i : Nat) : (swpL L p).getD i 0 = L.getD (swpN p i) 0 := by
  unfold swpL swpN
  rw [set_getD _ _ _ _ (by simpa using h)]
  by_cases e : i = p + 1
  · subst e; rw [if_pos rfl, if_neg (by omega), if_pos rfl]
  · rw [if_neg e, set_getD _ _ _ _ (by omega)]
    by_cases e2 : i = p
    · rw [if_pos e2, if_pos e2]
    · rw [if_neg e2, if_neg e2, if_neg e]
theorem swpN_lt {p i n : Nat} (h : p + 1 < n) (hi : i < n) : swpN p i < n := by unfold swpN; split <;> (try split) <;> omega
theorem swpN_inj {p i k : Nat} (h : swpN p i = swpN p k) : i = k := by unfold swpN at h; split at h <;> split at h <;> (try split at h) <;> (try split at h) <;> omega
theorem OrOk.swp {n p : Nat} {L : List Int} (o : OrOk n L) (h : p + 1 < n) : OrOk n (swpL L p) := by
  have hl : p + 1 < L.length := by rw [o.len]; exact h
  refine ⟨by rw [swp_len, o.len], fun i hi => ?_, fun i k hik hk => ?_⟩
  · rw [swp_at hl]; exact o.rng _ (swpN_lt h hi)
  · rw [swp_at hl, swp_at hl]
    have h1 := swpN_lt h hk
    have h2 := swpN_lt h (show i < n by omega)
    rcases Nat.lt_trichotomy (swpN p i) (swpN p k) with hl | hl | hl
    · exact o.dis _ _ hl h1
    · have := swpN_inj hl; omega
    · exact fun e => o.dis _ _ hl h2 e.symm
/-- What an exchange gains. -/
def gainI (B : Mz) (L : List Int) (p : Nat) : Int := cplTo B L [] L.length - cplTo B (swpL L p) [] L.length
theorem gain_ge {n : Nat} {B : Mz} {L : List Int} {p : Nat} (b : BnOk B) (e : B.length = n) (o : OrOk n L) (h : p + 1 < n) : -9000 ≤ gainI B L p ∧ gainI B L p ≤ 9000 := by
  have h9 := b.h9
  have h1 := cplTo_ge (S := []) b e o n (Nat.le_refl _)
  have h2 := cplTo_ge (S := []) b e (o.swp h) n (Nat.le_refl _)
  unfold gainI
  rw [o.len]
  omega

theorem IBlk.put {w : World} {g : Nat} {L : List Int} (h : IBlk w g L L.length) {k : Nat} (hk : k < L.length) (x : Int) :
    IBlk (w.setCell ⟨g, k, none⟩ (.int .i64 x)) g (L.set k x) (L.set k x).length := by
  obtain ⟨cs, h0, h1, h2⟩ := h
  refine ⟨cs.setIfInBounds k (.int .i64 x), by simp [World.setCell, Array.getElem?_modify, h0], by simpa using h1, fun i hi hl => ?_⟩
  have hl' : i < L.length := by simpa using hl
  by_cases e : i = k
  · subst e
    simp only [Array.getElem?_setIfInBounds_self]
    rw [if_pos (by omega), List.getD_eq_getElem?_getD, List.getElem?_set_self hk, Option.getD_some]
  · rw [Array.getElem?_setIfInBounds_ne (fun e' => e e'.symm), List.getD_eq_getElem?_getD, List.getElem?_set_ne (fun e' => e e'.symm), ← List.getD_eq_getElem?_getD]
    exact h2 i hl' hl'
theorem OwnI.iblk {w : World} {B : Nat} {v : Value} {L : List Int} (h : OwnI w B v L) (h0 : 0 < L.length) : ∃ g cap, v = .slice (some ⟨g, 0, none⟩) L.length cap ∧ B ≤ g ∧ IBlk w g L L.length ∧ L.length ≤ cap := by
  obtain ⟨g, cap, cur, e, hB, hg, hl, _, hs, ht⟩ := h.blk h0
  refine ⟨g, cap, e, hB, ⟨cur, hg, by omega, fun i _ hi => ?_⟩, hl⟩
  have key : cur[i]? = (cellsI L)[i]? := by rw [← ht, List.getElem?_take, if_pos (by omega), Array.getElem?_toList]
  rw [key]; exact cellsI_at hi
theorem cellsI_len (L : List Int) : (cellsI L).length = L.length * 1 := by simp [cellsI]
theorem cellsI_one (L : List Int) : ∀ u ∈ cellsI L, u.oneCell' = true := by
  intro u hu
  unfold cellsI at hu
  rw [List.mem_map] at hu
  obtain ⟨n, _, rfl⟩ := hu
  rfl
theorem news_int {w : World} {b off : Nat} {L : List Int} (hc : ∀ i, i < L.length → w.cell? ⟨b, off + i, none⟩ = some (.int .i64 (L.getD i 0))) : ∀ j u, (cellsI L)[j]? = some u → w.cell? ⟨b, off + j, none⟩ = some u := by
  intro j u hu
  have hj : j < L.length := by
    rcases Nat.lt_or_ge j L.length with h | h
    · exact h
    · rw [List.getElem?_eq_none (by simpa [cellsI] using h)] at hu; cases hu
  rw [cellsI_at hj] at hu
  injection hu with hu
  rw [← hu]; exact hc j hj
theorem addI (g o k : Nat) : (⟨g, o, none⟩ : Addr).add k = ⟨g, o + k, none⟩ := by unfold Addr.add; split <;> simp_all
theorem ints_nil (w : World) (B : Nat) (A : Option Addr) : IntsAt w B A [] := fun h => by simp at h
/-- A slice of numbers in a block of its own. -/
def OwnB (L : List Int) (w : World) (e : Ending) (w' : World) : Prop := ∃ g c, e = .returned (.slice (some ⟨g, 0, none⟩) L.length c) ∧ w.heap.size ≤ g ∧ IBlk w' g L L.length ∧ OwnI w' w.heap.size (.slice (some ⟨g, 0, none⟩) L.length c) L ∧ Below w.heap.size w w'
end Go.Proofs.YtifenbamookmiaaDoor
