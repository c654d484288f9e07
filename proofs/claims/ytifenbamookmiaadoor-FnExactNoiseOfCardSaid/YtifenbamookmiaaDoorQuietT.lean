/-
  A region that draws its order: all but its last operations are walked once, in the order of the text, in a class of worlds; then the last ones.
-/
import Derived.Test.YtifenbamookmiaaDoorPlanT
import Derived.Deep.Quiet
import Derived.WalkKit
import Derived.ProofKit
namespace Go.Proofs.YtifenbamookmiaaDoor
set_option linter.unusedSimpArgs false
set_option linter.unusedVariables false
open Go Go.ChangeShapes Go.WideShapes Go.ChangeAt Go.RowKit

section
variable {P : Program} {ops : Array Oper} {md : Region.Mode} {C : World → Prop}

/-- What is listed has all that it waits for listed. -/
def Closed (md : Region.Mode) (ops : Array Oper) (listed : Array Bool) : Prop :=
  ∀ j o, ops[j]? = some o → listed.getD j false = true → ∀ e ∈ o.after, Region.binds md e = true → listed.getD e.on false = true
/-- Each operation below m is waited for by a later one, up to m. -/
def sinks (md : Region.Mode) (ops : Array Oper) (m : Nat) : Bool :=
  (List.range m).all fun p => (List.range (m + 1)).any fun q => decide (p < q) && match ops[q]? with
    | some o => o.after.any fun e => Region.binds md e && e.on == p
    | none => false
theorem sinks_spec {m p : Nat} (h : sinks md ops m = true) (hp : p < m) : ∃ q o, p < q ∧ q ≤ m ∧ ops[q]? = some o ∧ ∃ e ∈ o.after, Region.binds md e = true ∧ e.on = p := by
  unfold sinks at h
  rw [List.all_eq_true] at h
  have := h p (by simpa using hp)
  rw [List.any_eq_true] at this
  obtain ⟨q, hq, hh⟩ := this
  rw [List.mem_range] at hq
  rw [Bool.and_eq_true] at hh
  obtain ⟨h1, h2⟩ := hh
  cases ho : ops[q]? with
  | none => rw [ho] at h2; cases h2
  | some o =>
    rw [ho] at h2
    dsimp only at h2
    obtain ⟨e, he, hb⟩ := Array.any_eq_true'.1 h2
    rw [Bool.and_eq_true] at hb
    exact ⟨q, o, of_decide_eq_true h1, by omega, ho, e, he, hb.1, by simpa using hb.2⟩
theorem sink_last {m : Nat} {listed : Array Bool} (h : sinks md ops m = true) (hc : Closed md ops listed) (hr : m ∈ Region.ready md ops listed) : ∀ d p, m - p = d → p < m → listed.getD p false = true := by
  intro d
  induction d using Nat.strongRecOn with
  | _ d ih =>
    intro p hd hp
    obtain ⟨q, o, h1, h2, ho, e, he, hb, hp'⟩ := sinks_spec h hp
    rcases Nat.lt_or_eq_of_le h2 with hq | rfl
    · have := ih (m - q) (by omega) q rfl hq
      rw [← hp']
      exact hc q o ho this e he hb
    · obtain ⟨_, o', ho', hall⟩ := mem_ready.1 hr
      rw [ho] at ho'
      cases ho'
      rw [← hp']
      exact hall e he hb
theorem closed_set {listed : Array Bool} {j : Nat} (hc : Closed md ops listed) (hj : j ∈ Region.ready md ops listed) : Closed md ops (listed.setIfInBounds j true) := by
  intro k o ho hk e he hb
  by_cases hjk : j = k
  · subst hjk
    obtain ⟨_, o', ho', hall⟩ := mem_ready.1 hj
    rw [ho] at ho'
    cases ho'
    exact getD_set_true (hall e he hb)
  · refine getD_set_true (hc k o ho ?_ e he hb)
    simp only [Array.getD_eq_getD_getElem?, Array.getElem?_setIfInBounds, hjk] at hk ⊢
    simpa using hk

/-- Whatever order is picked of what comes ahead of operation m. -/
def wpAnyT (P : Program) (md : Region.Mode) (ops : Array Oper) (C : World → Prop) (m : Nat) (Q : Array Bool → Act → Prop) : Nat → Array Bool → Act → Prop
  | 0, listed, a => Region.ready md ops listed = [m] ∧ Q listed a
  | fuel + 1, listed, a => Region.ready md ops listed ≠ [] ∧ m ∉ Region.ready md ops listed ∧
    ∀ i ∈ Region.ready md ops listed, qOp P ops C i (wpAnyT P md ops C m Q fuel (listed.setIfInBounds i true)) a

theorem wpAny_of_T {m r : Nat} {Q : Array Bool → Act → Prop} {Q' : Exit → Act → World → Prop} (hQ : ∀ listed a w, C w → Region.ready md ops listed = [m] → Q listed a → wpAny P md ops Q' r listed a w) :
    ∀ (fuel : Nat) (listed : Array Bool) (a : Act) (w : World), C w → wpAnyT P md ops C m Q fuel listed a → wpAny P md ops Q' (r + fuel) listed a w
  | 0, _, _, _, hw, h => hQ _ _ _ hw h.1 h.2
  | fuel + 1, _, _, _, hw, h => ⟨fun h0 => absurd h0 h.1, fun i hi => wpOp_of_qOp hw (fun a' w' hw' => wpAny_of_T hQ fuel _ a' w' hw') (h.2.2 i hi)⟩

theorem wpAnyT_first {m : Nat} {Q : Array Bool → Act → Prop} {i : Nat} {oi : Oper} {v : Value} (hi : ops[i]? = some oi) (him : i < m) (hsk : sinks md ops m = true) (hsel : ∀ (j : Nat) (o : Oper) cs b, ops[j]? = some o → o.op ≠ .select cs b) :
    ∀ (fuel : Nat) (listed : Array Bool) (a : Act), Closed md ops listed →
      (∀ j oj, ops[j]? = some oj → j ≠ i → listed.getD j true = false → (∀ e ∈ oj.after, Region.binds md e = true → e.on ≠ i) → oi.apart ops oj = true) →
      i ∈ Region.ready md ops listed → YieldsIn P ops C oi v a →
      wpAnyT P md ops C m Q fuel (listed.setIfInBounds i true) (a.put oi.dst v) → wpAnyT P md ops C m Q (fuel + 1) listed a := by
  have hnm : ∀ listed, Closed md ops listed → i ∈ Region.ready md ops listed → m ∉ Region.ready md ops listed := by
    intro listed hc hr hm
    have h1 := sink_last hsk hc hm _ i rfl him
    have h0 := (mem_ready.1 hr).1
    rcases Nat.lt_or_ge i listed.size with h' | h'
    · simp [h'] at h0 h1; rw [h0] at h1; cases h1
    · simp [Array.getElem?_eq_none h'] at h1
  intro fuel
  induction fuel with
  | zero =>
    intro listed a hc _ hr hy H
    refine ⟨fun h => (by rw [h] at hr; cases hr), hnm _ hc hr, fun j hj => ?_⟩
    by_cases hji : j = i
    · subst hji; exact hy.qOp hi H
    · have := ready_mono hj hji
      rw [H.1] at this
      obtain rfl : j = m := by simpa using this
      exact absurd hj (hnm _ hc hr)
  | succ fuel ih =>
    intro listed a hc hfree hr hy H
    refine ⟨fun h => (by rw [h] at hr; cases hr), hnm _ hc hr, fun j hj => ?_⟩
    by_cases hji : j = i
    · subst hji; exact hy.qOp hi H
    · have h1 := H.2.2 j (ready_mono hj hji)
      obtain ⟨hjun, oj, hoj, hall⟩ := mem_ready.1 hj
      have hnot : ∀ e ∈ oj.after, Region.binds md e = true → e.on ≠ i := fun e he hb heq => by
        have h1 := hall e he hb
        have h0 := (mem_ready.1 hr).1
        rw [heq] at h1
        rcases Nat.lt_or_ge i listed.size with h' | h'
        · simp [h'] at h0 h1; rw [h0] at h1; cases h1
        · simp [Array.getElem?_eq_none h'] at h1
      have h2 := qOp_put hoj (hfree j oj hoj hji hjun hnot) (fun cs b => hsel i oi cs b hi) (fun cs b => hsel j oj cs b hoj) hy h1
      have hfree' : ∀ k ok, ops[k]? = some ok → k ≠ i → (listed.setIfInBounds j true).getD k true = false →
          (∀ e ∈ ok.after, Region.binds md e = true → e.on ≠ i) → oi.apart ops ok = true := fun k ok hk hki hun hno => by
        refine hfree k ok hk hki ?_ hno
        by_cases hjk : j = k
        · subst hjk; exact hjun
        · rw [getD_set_ne true hjk] at hun; exact hun
      refine qOp_mono (fun a' h3 => ih (listed.setIfInBounds j true) a' (closed_set hc hj) hfree' (ready_mono hr (Ne.symm hji)) h3.1 ?_) h2
      rw [Array.setIfInBounds_comm _ _ hji]
      exact h3.2

/-- The state of the list behind the first operations, and whether each may come up and be taken first. -/
def lexT (md : Region.Mode) (ops : Array Oper) (m : Nat) : Nat → Nat → Array Bool → Bool
  | 0, _, listed => Region.ready md ops listed == [m]
  | fuel + 1, k, listed => decide (k < m) && ((Region.ready md ops listed).contains k && Region.free md ops listed k && lexT md ops m fuel (k + 1) (listed.setIfInBounds k true))
def listT : Nat → Nat → Array Bool → Array Bool
  | 0, _, listed => listed
  | fuel + 1, k, listed => listT fuel (k + 1) (listed.setIfInBounds k true)
theorem wpAnyT_lex {m : Nat} {Q : Array Bool → Act → Prop} (hs : Region.noSelect ops = true) (hsk : sinks md ops m = true) : ∀ (l : List Oper) (k : Nat) (listed : Array Bool) (a : Act), (∀ j, j < l.length → l[j]? = ops[k + j]?) → Closed md ops listed →
    lexT md ops m l.length k listed = true → wpQuiet P ops C (Q (listT l.length k listed)) l a → wpAnyT P md ops C m Q l.length listed a
  | [], _, _, _, _, _, hB, h => ⟨by simpa [lexT] using hB, h⟩
  | o :: l, k, listed, a, hl, hc, hB, h => by
    have h0 : ops[k]? = some o := by simpa using (hl 0 (by simp)).symm
    simp only [List.length_cons, lexT, Bool.and_eq_true] at hB
    obtain ⟨hkm, ⟨hr, hf⟩, hB'⟩ := hB
    have hst : qOp P ops C k (wpQuiet P ops C (Q (listT (l.length + 1) k listed)) l) a := by unfold qOp; simp only [h0]; exact h
    obtain ⟨v, hy, hK⟩ := yieldsIn_of_qOp h0 hst
    have hr' : k ∈ Region.ready md ops listed := by simpa using hr
    exact wpAnyT_first h0 (of_decide_eq_true hkm) hsk (Region.noSelect_spec hs) l.length listed a hc (Region.free_spec h0 hf) hr' hy
      (wpAnyT_lex hs hsk l (k + 1) _ _ (fun j hj => by have := hl (j + 1) (by simpa using hj); simpa [Nat.add_assoc, Nat.add_comm 1 j] using this) (closed_set hc hr') hB' hK)

theorem closed_none (md : Region.Mode) (ops : Array Oper) (n : Nat) : Closed md ops (Array.replicate n false) := by
  intro j o _ h
  rcases Nat.lt_or_ge j n with h' | h'
  · simp [h'] at h
  · simp [h'] at h
/-- The Bool on a region: m of its operations first, then the others. -/
def quietB (ops : Array Oper) (m : Nat) : Bool := Region.noSelect ops && (sinks .any ops m && (decide (m ≤ ops.size) && lexT .any ops m m 0 (Array.replicate ops.size false)))
theorem wpAny_quietQ {m : Nat} {Q : Exit → Act → World → Prop} {a : Act} {w : World} (plan : Pl) (hB : quietB ops m = true)
    (hok : treeOk .any ops (ops.size - m) (listT m 0 (Array.replicate ops.size false)) plan = true) (hQ : ∀ c d v a w, Q (.panic c) (a.put d v) w → Q (.panic c) a w) (hC : C w)
    (h : wpQuiet P ops C (fun a' => ∀ w', C w' → TreeWp P ops Q (fun _ => True) plan a' w') (ops.toList.take m) a) : wpAny P .any ops Q ops.size (Array.replicate ops.size false) a w := by
  unfold quietB at hB
  simp only [Bool.and_eq_true] at hB
  obtain ⟨hs, hsk, hle, hB⟩ := hB
  have hle' := of_decide_eq_true hle
  have hlen : (ops.toList.take m).length = m := by simp; omega
  have h1 := wpAnyT_lex (C := C) (Q := fun listed a' => ∀ w', C w' → wpAny P .any ops Q (ops.size - m) listed a' w') hs hsk (ops.toList.take m) 0 (Array.replicate ops.size false) a
    (fun j hj => by rw [List.getElem?_take]; rw [hlen] at hj; simp [hj]) (closed_none _ _ _) (by rw [hlen]; exact hB)
    (by
      rw [hlen]
      have : ∀ (l : List Oper) (a : Act), wpQuiet P ops C (fun a' => ∀ w', C w' → TreeWp P ops Q (fun _ => True) plan a' w') l a →
          wpQuiet P ops C (fun a' => ∀ w', C w' → wpAny P .any ops Q (ops.size - m) (listT m 0 (Array.replicate ops.size false)) a' w') l a := by
        intro l
        induction l with
        | nil => exact fun a h w' hw' => wpAny_of_held _ _ _ _ (tree_sound hs hQ plan _ _ _ _ hok trivial (h w' hw'))
        | cons o l ih =>
          intro a h
          unfold wpQuiet at h ⊢
          split
          · rename_i hw
            rw [if_pos hw] at h
            exact Oper.quiet_mono ih h
          · rename_i hw
            rw [if_neg hw] at h
            exact ih _ h
      exact this _ _ h)
  rw [hlen] at h1
  have h2 := wpAny_of_T (Q' := Q) (r := ops.size - m) (fun listed a w hw _ hq => hq w hw) m _ a w hC h1
  rwa [show ops.size - m + m = ops.size by omega] at h2

theorem wpAny_quietT {m : Nat} {Q : Exit → Act → World → Prop} {a : Act} {w : World} (plan : Pl) (hB : quietB ops m = true)
    (hok : treeOk .any ops (ops.size - m) (listT m 0 (Array.replicate ops.size false)) plan = true) (hC : C w)
    (h : wpQuiet P ops C (fun a' => ∀ w', C w' → TreeWp P ops (onlyN Q) (fun _ => True) plan a' w') (ops.toList.take m) a) : wpAny P .any ops (onlyN Q) ops.size (Array.replicate ops.size false) a w :=
  wpAny_quietQ plan hB hok (fun _ _ _ _ _ h => h) hC h

/-- A region that draws its order, by a tree of plans, with whatever end. -/
theorem wp_region_tree {id : Nat} {Q : Exit → Act → World → Prop} {a : Act} {w : World} (S : World → Prop) (plan : Pl) (hm : P.follows .mixedOrders = true) (hs : Region.noSelect ops = true)
    (hok : treeOk .any ops ops.size (Array.replicate ops.size false) plan = true) (hQ : ∀ c d v a w, Q (.panic c) (a.put d v) w → Q (.panic c) a w) (hS : S w.drew)
    (h : S w.drew → TreeWp P ops Q S plan a w.drew) : (Code.region id ops true).wp P Q a w := wp_region_held (S := S) hm (tree_sound hs hQ plan _ _ _ _ hok hS (h hS))
theorem tplan_endQ {S : World → Prop} {Q : Exit → Act → World → Prop} {a : Act} {w : World} (h : Q .normal a w) : TreeWp P ops Q S .done a w := by
  with_unfolding_all exact h
theorem belowS {w0 w w' : World} (h : Below w0.heap.size w0 w) (k : Below w.heap.size w w') : Below w0.heap.size w0 w' := h.trans (k.mono h.size)
/-- .. the worlds being those in which all that stood stands. -/
theorem wp_region_treeB {id : Nat} {Q : Exit → Act → World → Prop} {a : Act} {w : World} (plan : Pl) (hm : P.follows .mixedOrders = true) (hs : Region.noSelect ops = true)
    (hok : treeOk .any ops ops.size (Array.replicate ops.size false) plan = true) (hQ : ∀ c d v a w, Q (.panic c) (a.put d v) w → Q (.panic c) a w)
    (h : Below w.heap.size w w.drew → TreeWp P ops Q (Below w.heap.size w) plan a w.drew) : (Code.region id ops true).wp P Q a w := wp_region_tree (Below w.heap.size w) plan hm hs hok hQ (Below.refl _ _).drew h
/-- The region out of a round .. -/
theorem wp_region_quietT {id m : Nat} {Q : Exit → Act → World → Prop} {a : Act} {w : World} {l : List Oper} (C : World → Prop) (plan : Pl) (hm : P.follows .mixedOrders = true) (hB : quietB l.toArray m = true)
    (hok : treeOk .any l.toArray (l.toArray.size - m) (listT m 0 (Array.replicate l.toArray.size false)) plan = true) (hC : C w.drew)
    (h : wpQuiet P l.toArray C (fun a' => ∀ w', C w' → TreeWp P l.toArray (onlyN Q) (fun _ => True) plan a' w') (l.take m) a) : (Code.region id l.toArray true).wp P Q a w :=
  (wpIn_wide (n := 0)).1 (wpIn_mono (wpIn_wide.2 (wp_region_any hm (wpAny_quietT plan hB hok hC (by simpa using h)))) fun _ _ _ h => onlyN_mono h)
/-- .. in the worlds in which all that stood ahead of it stands .. -/
theorem wp_region_quietB {id m : Nat} {Q : Exit → Act → World → Prop} {a : Act} {w : World} {l : List Oper} (plan : Pl) (hm : P.follows .mixedOrders = true) (hB : quietB l.toArray m = true)
    (hok : treeOk .any l.toArray (l.toArray.size - m) (listT m 0 (Array.replicate l.toArray.size false)) plan = true)
    (h : wpQuiet P l.toArray (Below w.heap.size w) (fun a' => ∀ w', Below w.heap.size w w' → TreeWp P l.toArray (onlyN Q) (fun _ => True) plan a' w') (l.take m) a) : (Code.region id l.toArray true).wp P Q a w :=
  wp_region_quietT (Below w.heap.size w) plan hm hB hok (Below.refl _ _).drew h
/-- .. where the last operations may end in a panic .. -/
theorem wp_region_quietP {id m : Nat} {Q : Exit → Act → World → Prop} {a : Act} {w : World} {l : List Oper} (plan : Pl) (hm : P.follows .mixedOrders = true) (hB : quietB l.toArray m = true)
    (hok : treeOk .any l.toArray (l.toArray.size - m) (listT m 0 (Array.replicate l.toArray.size false)) plan = true) (hQ : ∀ c d v a w, Q (.panic c) (a.put d v) w → Q (.panic c) a w)
    (h : wpQuiet P l.toArray (Below w.heap.size w) (fun a' => ∀ w', Below w.heap.size w w' → TreeWp P l.toArray Q (fun _ => True) plan a' w') (l.take m) a) : (Code.region id l.toArray true).wp P Q a w :=
  wp_region_any hm (wpAny_quietQ plan hB hok hQ (Below.refl _ _).drew (by simpa using h))
/-- .. where all operations are walked so .. -/
theorem wp_region_quietA {id : Nat} {Q : Exit → Act → World → Prop} {a : Act} {w : World} {l : List Oper} (hm : P.follows .mixedOrders = true) (hB : Region.lexB .any l.toArray = true)
    (h : wpQuiet P l.toArray (Below w.heap.size w) (fun a' => ∀ w', Below w.heap.size w w' → Q .normal a' w') l a) : (Code.region id l.toArray true).wp P Q a w :=
  wp_region_quiet (C := Below w.heap.size w) hm hB (Below.refl _ _).drew (by simpa using h)
/-- .. within the wide fence .. -/
theorem wpIn_region_quietT {n id m : Nat} {Q : Exit → Act → World → Prop} {a : Act} {w : World} {l : List Oper} (C : World → Prop) (plan : Pl) (hm : P.follows .mixedOrders = true) (hB : quietB l.toArray m = true)
    (hok : treeOk .any l.toArray (l.toArray.size - m) (listT m 0 (Array.replicate l.toArray.size false)) plan = true) (hC : C w.drew)
    (h : wpQuiet P l.toArray C (fun a' => ∀ w', C w' → TreeWp P l.toArray (onlyN Q) (fun _ => True) plan a' w') (l.take m) a) : (Code.region id l.toArray true).wpIn Fence.wide n P Q a w :=
  wpIn_wide.2 (wp_region_quietT C plan hm hB hok hC h)
/-- .. and in one. -/
theorem wpIn_region_quietTR {n k id m : Nat} {Q : Exit → Act → World → Prop} {a : Act} {w : World} {l : List Oper} (C : World → Prop) (plan : Pl) (hm : P.follows .mixedOrders = true) (hB : quietB l.toArray m = true) (hd : noDefer l.toArray = true)
    (hok : treeOk .any l.toArray (l.toArray.size - m) (listT m 0 (Array.replicate l.toArray.size false)) plan = true) (hC : C w.drew)
    (h : wpQuiet P l.toArray C (fun a' => ∀ w', C w' → TreeWp P l.toArray (onlyN Q) (fun _ => True) plan a' w') (l.take m) a) : (Code.region id l.toArray true).wpIn (Fence.wide.inRound k) n P Q a w :=
  wpIn_mono (wpIn_region_any hm (wpAny_round hd (fun ⟨_, _, h⟩ => h) _ _ _ _ (wpAny_quietT plan hB hok hC (by simpa using h)))) fun _ _ _ h => onlyN_mono h

variable {l : List Oper} {Q : Act → Prop} {a : Act} {o : Oper} {rest : List Oper}
theorem q_u (hw : Region.wanted o (yielded ops a.tmps) = false) (h : wpQuiet P ops C Q rest (a.put o.dst undef)) : wpQuiet P ops C Q (o :: rest) a :=
  wpQuiet_step fun K hK => by rw [if_neg (by rw [hw]; exact Bool.false_ne_true)]; exact hK _ h
theorem q_w {v : Value} (hw : Region.wanted o (yielded ops a.tmps) = true) (hv : ∀ w, C w → (execOp a.eval o).run P w = .ok (.value v) w) (h : wpQuiet P ops C Q rest (a.put o.dst v)) : wpQuiet P ops C Q (o :: rest) a :=
  wpQuiet_step fun K hK => by
    rw [if_pos hw]
    exact ⟨v, fun w hCw => by unfold Oper.quietAt; rw [hv w hCw]; exact ⟨rfl, rfl⟩, hK _ h⟩
theorem q_c {f : FuncId} {args : Array Value} {v : Value} (hw : Region.wanted o (yielded ops a.tmps) = true) (hc : ∀ w, C w → Calls P f args w fun e w' => e = .returned v ∧ C w')
    (hv : ∀ w, C w → (execOp a.eval o).run P w = .ok (.enter f args) w) (h : wpQuiet P ops C Q rest (a.put o.dst v)) : wpQuiet P ops C Q (o :: rest) a :=
  wpQuiet_step fun K hK => by
    rw [if_pos hw]
    exact ⟨v, fun w hCw => by unfold Oper.quietAt; rw [hv w hCw]; exact ⟨rfl, hc w hCw⟩, hK _ h⟩
theorem q_nil (h : Q a) : wpQuiet P ops C Q [] a := h
end
end Go.Proofs.YtifenbamookmiaaDoor
