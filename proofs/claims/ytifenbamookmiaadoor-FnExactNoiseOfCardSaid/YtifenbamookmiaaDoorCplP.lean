/-
  The coupling of an order with shields, said over lists; bundles and orders in memory (no walk).
-/
import Derived.Test.YtifenbamookmiaaDoorBunS
import Derived.Test.YtifenbamookmiaaDoorLayoJ
import Derived.Test.YtifenbamookmiaaDoorMem
namespace Go.Proofs.YtifenbamookmiaaDoor
set_option linter.unusedSimpArgs false
set_option linter.unusedVariables false
open Go.ChangeShapes Go.WideShapes Go.ChangeAt Go.RowKit

theorem gapL {n : Nat} : memL gapP 0 (n + 1) = (List.range n).map (· + 1) := by
  induction n with
  | zero =>
    have h : memL gapP 0 1 = [] := by rw [memL_zero]; rfl
    rw [h]; rfl
  | succ n ih =>
    have h : memL gapP 0 (n + 1 + 1) = memL gapP 0 (n + 1) ++ [n + 1] := by
      rw [memL_zero, memL_zero, List.range_succ (n := n + 1), List.filter_append]
      simp [gapP]
    rw [h, ih, List.range_succ, List.map_append]
    rfl
theorem gap_len {n : Nat} (h : 1 ≤ n) : (memL gapP 0 n).length = n - 1 := by
  obtain ⟨m, rfl⟩ : ∃ m, n = m + 1 := ⟨n - 1, by omega⟩
  rw [gapL]; simp
theorem gap_at {n k x : Nat} (h : (memL gapP 0 n)[k]? = some x) : x = k + 1 ∧ x < n := by
  rcases Nat.eq_zero_or_pos n with h0 | h0
  · subst h0; rw [memL_zero] at h; simp at h
  · obtain ⟨m, rfl⟩ : ∃ m, n = m + 1 := ⟨n - 1, by omega⟩
    rw [gapL] at h
    have hk : k < m := by
      rcases Nat.lt_or_ge k m with h1 | h1
      · exact h1
      · rw [List.getElem?_eq_none (by simpa using h1)] at h; cases h
    simp [hk] at h
    omega
theorem in_all {S : List Int} {x : Nat} : inP S S.length x = S.contains (x : Int) := by
  unfold inP
  rw [Bool.eq_iff_iff, Bool.not_eq_true', Bool.eq_false_iff, ne_eq, newB_iff, List.contains_iff_mem]
  constructor
  · intro h
    by_cases hm : (x : Int) ∈ S
    · exact hm
    · refine absurd (fun t ht e => hm ?_) h
      rw [List.getD_eq_getElem?_getD, List.getElem?_eq_getElem ht] at e
      exact e ▸ List.getElem_mem ht
  · intro h hn
    obtain ⟨j, hj, e⟩ := List.getElem_of_mem h
    exact hn j hj (by rw [List.getD_eq_getElem?_getD, List.getElem?_eq_getElem hj]; exact e)
theorem shield_has {n x : Nat} {S : List Int} (hx : x < n) : (decide ((0 : Int) ≤ (x : Int)) && (shM n S).testBit (x : Int).toNat) = S.contains (x : Int) := by
  unfold shM
  rw [mask_testBit, Int.toNat_natCast, decide_eq_true (show (0 : Int) ≤ (x : Int) by omega), decide_eq_true hx, in_all]; rfl
theorem shM_64 {n : Nat} {S : List Int} (h : n ≤ 9) : shM n S < 18446744073709551616 := mask_64 _ (by omega)

/-- The wire at a place. -/
def wireN (L : List Int) (i : Nat) : Nat := (L.getD i 0).toNat
theorem OrOk.wire {n : Nat} {L : List Int} (o : OrOk n L) {i : Nat} (hi : i < n) : wireN L i < n ∧ L.getD i 0 = (wireN L i : Int) := by
  have := o.rng i hi
  unfold wireN
  omega
theorem cplAt_ge {n : Nat} {B : Mz} {L S : List Int} (b : BnOk B) (e : B.length = n) (o : OrOk n L) {k : Nat} (hk : k < n) : 0 ≤ cplAt B L S k ∧ cplAt B L S k ≤ 1000 := by
  unfold cplAt
  split
  · omega
  · have h1 := (o.wire (i := k - 1) (by omega)).1
    have h2 := (o.wire hk).1
    exact b.w0 _ _ (by rw [e]; exact h1) (by rw [e]; exact h2)
theorem cplTo_ge {n : Nat} {B : Mz} {L S : List Int} (b : BnOk B) (e : B.length = n) (o : OrOk n L) : ∀ k, k ≤ n → 0 ≤ cplTo B L S k ∧ cplTo B L S k ≤ 1000 * (k : Int)
  | 0, _ => ⟨Int.le_refl _, by simp [cplTo]⟩
  | 1, _ => ⟨Int.le_refl _, by simp [cplTo]⟩
  | k + 2, h => by
    have h1 := cplTo_ge (S := S) b e o (k + 1) (by omega)
    have h2 := cplAt_ge (S := S) b e o (k := k + 1) (by omega)
    unfold cplTo
    omega
theorem cplTo_next (B : Mz) (L S : List Int) {k : Nat} (h : 1 ≤ k) : cplTo B L S (k + 1) = cplTo B L S k + cplAt B L S k := by
  obtain ⟨m, rfl⟩ : ∃ m, k = m + 1 := ⟨k - 1, by omega⟩
  rfl

/-- Rows of n numbers each, in memory, that hold B. -/
def SqM (w : World) (A : Option Addr) (n : Nat) (B : Mz) : Prop := ∃ b off, A = some ⟨b, off, none⟩ ∧ b < w.heap.size ∧ ∀ i, i < n → ∃ bi oi ci, bi < w.heap.size ∧ w.cell? ⟨b, off + i, none⟩ = some (.slice (some ⟨bi, oi, none⟩) n ci) ∧ ∀ k, k < n → w.cell? ⟨bi, oi + k, none⟩ = some (.int .i64 (wtI B i k))
theorem SqM.to {w w1 : World} {A : Option Addr} {n : Nat} {B : Mz} (h : SqM w A n B) (hb : Below w.heap.size w w1) : SqM w1 A n B := by
  obtain ⟨b, off, e, hB, hc⟩ := h
  refine ⟨b, off, e, Nat.lt_of_lt_of_le hB hb.size, fun i hi => ?_⟩
  obtain ⟨bi, oi, ci, h1, h2, h3⟩ := hc i hi
  exact ⟨bi, oi, ci, Nat.lt_of_lt_of_le h1 hb.size, (hb.cell (p := ⟨b, off + i, none⟩) hB).trans h2, fun k hk => (hb.cell (p := ⟨bi, oi + k, none⟩) h1).trans (h3 k hk)⟩
theorem SqM.of {w : World} {A : Option Addr} {Ls : List SlI} (hp : ISAt w w.heap.size A Ls) (o : BnOk (heldI Ls)) : SqM w A Ls.length (heldI Ls) := by
  have h1 := o.h1
  rw [heldI_len] at h1
  obtain ⟨b, off, rfl, hbB, hc⟩ := hp h1
  refine ⟨b, off, rfl, hbB, fun i hi => ?_⟩
  obtain ⟨c0, c1, _, _⟩ := hc i hi
  have hr := o.row i (by rw [heldI_len]; exact hi)
  rw [heldI_row, heldI_len] at hr
  obtain ⟨bi, oi, e1, hbi, hci⟩ := c1 (by omega)
  rw [hr, e1] at c0
  exact ⟨bi, oi, _, hbi, c0, fun k hk => by rw [wtI_held]; exact hci k (by omega)⟩
/-- A valid bundle and an order of its wires, in memory. -/
structure LoAt (w : World) (A AO : Option Addr) (n : Nat) (B : Mz) (L : List Int) : Prop where
  sq : SqM w A n B
  ord : IntsAt w w.heap.size AO L
  ok : OrOk n L
  bn : BnOk B
  len : B.length = n
theorem LoAt.to {w w1 : World} {A AO : Option Addr} {n : Nat} {B : Mz} {L : List Int} (h : LoAt w A AO n B L) (hb : Below w.heap.size w w1) : LoAt w1 A AO n B L := ⟨h.sq.to hb, h.ord.to hb, h.ok, h.bn, h.len⟩
theorem LoAt.n9 {w : World} {A AO : Option Addr} {n : Nat} {B : Mz} {L : List Int} (h : LoAt w A AO n B L) : 1 ≤ n ∧ n ≤ 9 := by
  have a := h.bn.h1; have b := h.bn.h9; have c := h.len
  omega
/-- The order's cells. -/
theorem LoAt.wires {w : World} {A AO : Option Addr} {n : Nat} {B : Mz} {L : List Int} (h : LoAt w A AO n B L) : ∃ b off, AO = some ⟨b, off, none⟩ ∧ b < w.heap.size ∧ ∀ i, i < n → w.cell? ⟨b, off + i, none⟩ = some (.int .i64 (wireN L i : Int)) := by
  have h9 := h.n9
  obtain ⟨b, off, e, hb, hc⟩ := h.ord (by rw [h.ok.len]; omega)
  exact ⟨b, off, e, hb, fun i hi => by rw [← (h.ok.wire hi).2]; exact hc i (by rw [h.ok.len]; exact hi)⟩
theorem LoAt.of {w : World} {A AO : Option Addr} {Ls : List SlI} {L : List Int} (hp : ISAt w w.heap.size A Ls) (hL : IntsAt w w.heap.size AO L) (hv : bnB (heldI Ls) = true) (ho : orB Ls.length L = true) : LoAt w A AO Ls.length (heldI Ls) L :=
  ⟨SqM.of hp (bnB_iff.1 hv), hL, orB_iff.1 ho, bnB_iff.1 hv, heldI_len Ls⟩
end Go.Proofs.YtifenbamookmiaaDoor
