/-
  A region that draws its order and makes one new block: all but that and its last operations are walked once; the block is some new one.
-/
import Derived.Test.YtifenbamookmiaaDoorQuietT
import Derived.Test.YtifenbamookmiaaDoorPan
namespace Go.Proofs.YtifenbamookmiaaDoor
set_option linter.unusedSimpArgs false
set_option linter.unusedVariables false
open Go Go.ChangeShapes Go.WideShapes Go.ChangeAt Go.RowKit

section
variable {P : Program} {ops : Array Oper} {md : Region.Mode} {C : World → Prop}

theorem quietUpon_mono {C C' : World → Prop} {w : World} {v : Value} {r : Result Next} (h : ∀ w', C w' → C' w') (hh : Oper.quietUpon P C w v r) : Oper.quietUpon P C' w v r := by
  cases r with
  | ok n w' =>
    cases n <;> simp only [Oper.quietUpon] at hh ⊢
    case value u => exact hh
    case skip => exact hh
    case enter f args => exact ⟨hh.1, hh.2.mono fun e w'' ⟨he, hc⟩ => ⟨he, h _ hc⟩⟩
  | halt x w' => simp only [Oper.quietUpon] at hh
/-- One value, and what stood stands. -/
def growAt (P : Program) (o : Oper) (a : Act) (w : World) (v : Value) : Prop := Oper.quietUpon P (Below w.heap.size w) w v ((execOp a.eval o).run P w)
def YieldsG (P : Program) (ops : Array Oper) (C : World → Prop) (o : Oper) (v : Value) (a : Act) : Prop :=
  (Region.wanted o (yielded ops a.tmps) = true ∧ ∀ w, C w → growAt P o a w v) ∨ (Region.wanted o (yielded ops a.tmps) = false ∧ v = undef)
theorem YieldsG.yields {o : Oper} {v : Value} {a : Act} (hy : YieldsG P ops C o v a) {C' : World → Prop} (h : ∀ w, C' w → C w) (hg : ∀ w w', C' w → Below w.heap.size w w' → C' w') : YieldsIn P ops C' o v a := by
  rcases hy with ⟨hw, hv⟩ | hn
  · exact .inl ⟨hw, fun w hC => quietUpon_mono (fun w' hb => hg w w' hC hb) (hv w (h w hC))⟩
  · exact .inr hn
theorem YieldsG.of_same {o : Oper} {v : Value} {a a' : Act} (hy : YieldsG P ops C o v a) (he : execOp a'.eval o = execOp a.eval o)
    (hw : Region.wanted o (yielded ops a'.tmps) = Region.wanted o (yielded ops a.tmps)) : YieldsG P ops C o v a' := by
  unfold YieldsG growAt at *
  rw [he, hw]
  exact hy

/-- The class of worlds, ahead of the new block and behind it. -/
def clsA (C : World → Prop) (N : Nat) (vs : Array Value) (t : TypeId) : Option Nat → World → Prop
  | none, w => C w
  | some G, w => C w ∧ Blk w G vs t ∧ N ≤ G
theorem clsA_sub {N : Nat} {vs : Array Value} {t : TypeId} {g : Option Nat} {w : World} (h : clsA C N vs t g w) : C w := by
  cases g with
  | none => exact h
  | some G => exact h.1
theorem clsA_grow {N : Nat} {vs : Array Value} {t : TypeId} (hg : ∀ w w', C w → Below w.heap.size w w' → C w') {g : Option Nat} {w w' : World} (h : clsA C N vs t g w) (hb : Below w.heap.size w w') : clsA C N vs t g w' := by
  cases g with
  | none => exact hg _ _ h hb
  | some G => exact ⟨hg _ _ h.1 hb, h.2.1.to hb, h.2.2⟩
abbrev ptrA (G : Nat) : Value := .pointer (some ⟨G, 0, none⟩)

/-- Each of some operations is waited for by a later one of them, or by m. -/
def sinksL (md : Region.Mode) (ops : Array Oper) (m : Nat) (imp : List Nat) : Bool :=
  imp.all fun p => (m :: imp).any fun q => decide (p < q) && match ops[q]? with
    | some o => o.after.any fun e => Region.binds md e && e.on == p
    | none => false
theorem sinksL_spec {m p : Nat} {imp : List Nat} (h : sinksL md ops m imp = true) (hp : p ∈ imp) : ∃ q o, p < q ∧ (q = m ∨ q ∈ imp) ∧ ops[q]? = some o ∧ ∃ e ∈ o.after, Region.binds md e = true ∧ e.on = p := by
  unfold sinksL at h
  rw [List.all_eq_true] at h
  have := h p hp
  rw [List.any_eq_true] at this
  obtain ⟨q, hq, hh⟩ := this
  rw [Bool.and_eq_true] at hh
  obtain ⟨h1, h2⟩ := hh
  cases ho : ops[q]? with
  | none => rw [ho] at h2; cases h2
  | some o =>
    rw [ho] at h2
    dsimp only at h2
    obtain ⟨e, he, hb⟩ := Array.any_eq_true'.1 h2
    rw [Bool.and_eq_true] at hb
    exact ⟨q, o, of_decide_eq_true h1, by simpa using hq, ho, e, he, hb.1, by simpa using hb.2⟩
theorem sinkL_last {m : Nat} {imp : List Nat} {listed : Array Bool} (h : sinksL md ops m imp = true) (hc : Closed md ops listed) (hr : m ∈ Region.ready md ops listed) : ∀ d p, ops.size - p = d → p ∈ imp → listed.getD p false = true := by
  intro d
  induction d using Nat.strongRecOn with
  | _ d ih =>
    intro p hd hp
    obtain ⟨q, o, h1, h2, ho, e, he, hb, hp'⟩ := sinksL_spec h hp
    have hqs : q < ops.size := (Array.getElem?_eq_some_iff.1 ho).1
    rcases h2 with rfl | h2
    · obtain ⟨_, o', ho', hall⟩ := mem_ready.1 hr
      rw [ho] at ho'
      cases ho'
      rw [← hp']
      exact hall e he hb
    · have := ih (ops.size - q) (by omega) q rfl h2
      rw [← hp']
      exact hc q o ho this e he hb

def wpAnyA (P : Program) (md : Region.Mode) (ops : Array Oper) (C : World → Prop) (N : Nat) (vs : Array Value) (t : TypeId) (i0 : Nat) (d0 : Option Nat) (m r : Nat) (Q : Exit → Act → World → Prop) : Nat → Option Nat → Array Bool → Act → Prop
  | 0, g, listed, a => Region.ready md ops listed = [m] ∧ ∀ w, clsA C N vs t g w → wpAny P md ops Q r listed a w
  | fuel + 1, g, listed, a => Region.ready md ops listed ≠ [] ∧ (m ∈ Region.ready md ops listed → ∀ w, clsA C N vs t g w → wpAny P md ops Q (r + fuel + 1) listed a w) ∧
    (∀ i ∈ Region.ready md ops listed, i ≠ i0 → i ≠ m → qOp P ops (clsA C N vs t g) i (wpAnyA P md ops C N vs t i0 d0 m r Q fuel g (listed.setIfInBounds i true)) a) ∧
    (i0 ∈ Region.ready md ops listed → g = none ∧ ∀ G, wpAnyA P md ops C N vs t i0 d0 m r Q fuel (some G) (listed.setIfInBounds i0 true) (a.put d0 (ptrA G)))

theorem wpAny_of_A {N : Nat} {vs : Array Value} {t : TypeId} {i0 : Nat} {o0 : Oper} {m r : Nat} {Q : Exit → Act → World → Prop}
    (hi0 : ops[i0]? = some o0) (hg0 : o0.guard = none) (hal : ∀ (a : Act) (w : World), (execOp a.eval o0).run P w = .ok (.value (ptrA w.heap.size)) (w.alloc (.cells vs t)))
    (hgr : ∀ w w', C w → Below w.heap.size w w' → C w') (hN : ∀ w, C w → N ≤ w.heap.size) :
    ∀ (fuel : Nat) (g : Option Nat) (listed : Array Bool) (a : Act) (w : World), clsA C N vs t g w → wpAnyA P md ops C N vs t i0 o0.dst m r Q fuel g listed a → wpAny P md ops Q (r + fuel) listed a w
  | 0, _, _, _, _, hw, h => h.2 _ hw
  | fuel + 1, g, listed, a, w, hw, h => by
    by_cases hm : m ∈ Region.ready md ops listed
    · exact h.2.1 hm w hw
    refine ⟨fun h0 => absurd h0 h.1, fun i hi => ?_⟩
    by_cases hii : i = i0
    · subst hii
      obtain ⟨rfl, hG⟩ := h.2.2.2 hi
      unfold wpOp
      simp only [hi0]
      have hwt : Region.wanted o0 (yielded ops a.tmps) = true := by unfold Region.wanted; rw [hg0]
      rw [if_pos hwt]
      refine .inl ?_
      unfold Oper.wp
      rw [hal]
      exact wpAny_of_A hi0 hg0 hal hgr hN fuel (some w.heap.size) _ _ _ ⟨hgr _ _ hw ((Below.refl _ _).alloc (Nat.le_refl _) _), Blk.new _ _ _, hN _ hw⟩ (hG _)
    · exact wpOp_of_qOp hw (fun a' w' hw' => wpAny_of_A hi0 hg0 hal hgr hN fuel g _ a' w' hw') (h.2.2.1 i hi hii (fun e => hm (e ▸ hi)))

theorem not_after {i : Nat} {listed : Array Bool} {oj : Oper} (hr : i ∈ Region.ready md ops listed) (hall : ∀ e ∈ oj.after, Region.binds md e = true → listed.getD e.on false = true) : ∀ e ∈ oj.after, Region.binds md e = true → e.on ≠ i := fun e he hb heq => by
  have h1 := hall e he hb
  have h0 := (mem_ready.1 hr).1
  rw [heq] at h1
  rcases Nat.lt_or_ge i listed.size with h' | h'
  · simp [h'] at h0 h1; rw [h0] at h1; cases h1
  · simp [Array.getElem?_eq_none h'] at h1

/-- Number i may be taken first: it yields what it yields in all worlds of the class and precedes m, or does so in whatever world. -/
theorem wpAnyA_first {N : Nat} {vs : Array Value} {t : TypeId} {i0 : Nat} {o0 : Oper} {m r : Nat} {imp : List Nat} {Q : Exit → Act → World → Prop} (hQ : ∀ c d v a w, Q (.panic c) (a.put d v) w → Q (.panic c) a w) {i : Nat} {oi : Oper} {v : Value} (hi : ops[i]? = some oi) (him : i ≠ m) (hii0 : i ≠ i0) (hi0m : i0 ≠ m)
    (hi0 : ops[i0]? = some o0) (hgr : ∀ w w', C w → Below w.heap.size w w' → C w') (hsk : sinksL md ops m imp = true) (hsel : ∀ (j : Nat) (o : Oper) cs b, ops[j]? = some o → o.op ≠ .select cs b) :
    ∀ (fuel : Nat) (g : Option Nat) (listed : Array Bool) (a : Act), (i ∈ imp ∨ Yields P ops oi v a) → Closed md ops listed →
      (∀ j oj, ops[j]? = some oj → j ≠ i → listed.getD j true = false → (∀ e ∈ oj.after, Region.binds md e = true → e.on ≠ i) → oi.apart ops oj = true) →
      i ∈ Region.ready md ops listed → YieldsG P ops C oi v a →
      wpAnyA P md ops C N vs t i0 o0.dst m r Q fuel g (listed.setIfInBounds i true) (a.put oi.dst v) → wpAnyA P md ops C N vs t i0 o0.dst m r Q (fuel + 1) g listed a := by
  have hnm : ∀ listed, i ∈ imp → Closed md ops listed → i ∈ Region.ready md ops listed → m ∉ Region.ready md ops listed := by
    intro listed hp hc hr hm
    have h1 := sinkL_last hsk hc hm _ i rfl hp
    have h0 := (mem_ready.1 hr).1
    rcases Nat.lt_or_ge i listed.size with h' | h'
    · simp [h'] at h0 h1; rw [h0] at h1; cases h1
    · simp [Array.getElem?_eq_none h'] at h1
  have hin : ∀ g, ∀ a, YieldsG P ops C oi v a → YieldsIn P ops (clsA C N vs t g) oi v a := fun g a hy => hy.yields (fun w h => clsA_sub h) (fun w w' h hb => clsA_grow hgr h hb)
  intro fuel
  induction fuel with
  | zero =>
    intro g listed a hpu hc hfree hr hy H
    refine ⟨fun h => (by rw [h] at hr; cases hr), fun hm => ?_, fun j hj _ hjm => ?_, fun hj => ?_⟩
    · rcases hpu with hp | hp
      · exact absurd hm (hnm _ hp hc hr)
      · intro w hw
        exact wpAny_first hi hsel (fun c a w => hQ c oi.dst v a w) r listed a w hfree hr hp (H.2 w hw)
    · by_cases hji : j = i
      · subst hji; exact (hin g a hy).qOp hi H
      · have := ready_mono hj hji
        rw [H.1] at this
        exact absurd (by simpa using this) hjm
    · have := ready_mono hj (Ne.symm hii0)
      rw [H.1] at this
      exact absurd (by simpa using this) hi0m
  | succ fuel ih =>
    intro g listed a hpu hc hfree hr hy H
    have hfree' : ∀ j, ∀ k ok, ops[k]? = some ok → k ≠ i → (listed.setIfInBounds j true).getD k true = false →
        (∀ e ∈ ok.after, Region.binds md e = true → e.on ≠ i) → j ∈ Region.ready md ops listed → oi.apart ops ok = true := fun j k ok hk hki hun hno hjr => by
      refine hfree k ok hk hki ?_ hno
      by_cases hjk : j = k
      · subst hjk; exact (mem_ready.1 hjr).1
      · rw [getD_set_ne true hjk] at hun; exact hun
    have hpu' : ∀ (d : Option Nat) (u : Value), (Oper.apart ops oi oi = Oper.apart ops oi oi) → execOp (a.put d u).eval oi = execOp a.eval oi → Region.wanted oi (yielded ops (a.put d u).tmps) = Region.wanted oi (yielded ops a.tmps) → (i ∈ imp ∨ Yields P ops oi v (a.put d u)) := fun d u _ he hw => by
      rcases hpu with hp | hp
      · exact .inl hp
      · refine .inr ?_
        unfold Yields at hp ⊢
        rw [he, hw]
        exact hp
    refine ⟨fun h => (by rw [h] at hr; cases hr), fun hm => ?_, fun j hj hj0 hjm => ?_, fun hj => ?_⟩
    · rcases hpu with hp | hp
      · exact absurd hm (hnm _ hp hc hr)
      · intro w hw
        exact wpAny_first hi hsel (fun c a w => hQ c oi.dst v a w) (r + fuel + 1) listed a w hfree hr hp (H.2.1 (ready_mono hm (Ne.symm him)) w hw)
    · by_cases hji : j = i
      · subst hji; exact (hin g a hy).qOp hi H
      · have h1 := H.2.2.1 j (ready_mono hj hji) hj0 hjm
        obtain ⟨hjun, oj, hoj, hall⟩ := mem_ready.1 hj
        have hap := hfree j oj hoj hji hjun (not_after hr hall)
        obtain ⟨p1, p2, p3⟩ := Oper.apart_spec hap
        have h2 := qOp_put hoj hap (fun cs b => hsel i oi cs b hi) (fun cs b => hsel j oj cs b hoj) (hin g a hy) h1
        have hex : ∀ u, execOp (a.put oj.dst u).eval oi = execOp a.eval oi := fun u => execOp_put oi (fun cs b => hsel i oi cs b hi) a oj.dst u p3
        have hwa : ∀ u, Region.wanted oi (yielded ops (a.put oj.dst u).tmps) = Region.wanted oi (yielded ops a.tmps) := fun u => wanted_put oi a oj.dst u p3
        have hy' : ∀ u, YieldsG P ops C oi v (a.put oj.dst u) ∧ (i ∈ imp ∨ Yields P ops oi v (a.put oj.dst u)) := fun u => ⟨hy.of_same (hex u) (hwa u), hpu' _ _ rfl (hex u) (hwa u)⟩
        have h3 : qOp P ops (clsA C N vs t g) j (fun a' => (YieldsG P ops C oi v a' ∧ (i ∈ imp ∨ Yields P ops oi v a')) ∧ wpAnyA P md ops C N vs t i0 o0.dst m r Q fuel g ((listed.setIfInBounds i true).setIfInBounds j true) (a'.put oi.dst v)) a := by
          unfold qOp at h2 ⊢
          simp only [hoj] at h2 ⊢
          split
          · rename_i hw
            rw [if_pos hw] at h2
            obtain ⟨u, hu, _, hn⟩ := h2
            exact ⟨u, hu, hy' u, hn⟩
          · rename_i hw
            rw [if_neg hw] at h2
            exact ⟨hy' undef, h2.2⟩
        refine qOp_mono (fun a' h4 => ih g (listed.setIfInBounds j true) a' h4.1.2 (closed_set hc hj) (fun k ok hk hki hun hno => hfree' j k ok hk hki hun hno hj) (ready_mono hr (Ne.symm hji)) h4.1.1 ?_) h3
        rw [Array.setIfInBounds_comm _ _ hji]
        exact h4.2
    · obtain ⟨rfl, hG⟩ := H.2.2.2 (ready_mono hj (Ne.symm hii0))
      refine ⟨rfl, fun G => ?_⟩
      obtain ⟨hjun, oj, hoj, hall⟩ := mem_ready.1 hj
      rw [hi0] at hoj
      cases hoj
      have hap := hfree i0 o0 hi0 (Ne.symm hii0) hjun (not_after hr hall)
      obtain ⟨p1, p2, p3⟩ := Oper.apart_spec hap
      have hex := execOp_put oi (fun cs b => hsel i oi cs b hi) a o0.dst (ptrA G) p3
      have hwa := wanted_put oi a o0.dst (ptrA G) p3
      refine ih (some G) (listed.setIfInBounds i0 true) _ (hpu' _ _ rfl hex hwa) (closed_set hc hj) (fun k ok hk hki hun hno => hfree' i0 k ok hk hki hun hno hj) (ready_mono hr hii0) (hy.of_same hex hwa) ?_
      have := hG G
      rw [Array.setIfInBounds_comm _ _ (Ne.symm hii0), ← Act.put_comm a v (ptrA G) p2]
      exact this

/-- The walk of a plan: each operation, and whether it does its work in whatever world. -/
def wpGrow (P : Program) (ops : Array Oper) (C : World → Prop) (Q : Act → Prop) : List (Oper × Bool) → Act → Prop
  | [], a => Q a
  | (o, b) :: rest, a => ∃ v, YieldsG P ops C o v a ∧ (b = true → Yields P ops o v a) ∧ wpGrow P ops C Q rest (a.put o.dst v)

def planA (md : Region.Mode) (ops : Array Oper) (i0 m : Nat) (imp : List Nat) : List (Nat × Bool) → Array Bool → Bool
  | [], listed => Region.ready md ops listed == [i0] && Region.ready md ops (listed.setIfInBounds i0 true) == [m]
  | (k, b) :: ks, listed => decide (k ≠ m) && (decide (k ≠ i0) && ((b || imp.contains k) && ((Region.ready md ops listed).contains k && Region.free md ops listed k && planA md ops i0 m imp ks (listed.setIfInBounds k true))))
def listA (i0 : Nat) : List (Nat × Bool) → Array Bool → Array Bool
  | [], listed => listed.setIfInBounds i0 true
  | (k, _) :: ks, listed => listA i0 ks (listed.setIfInBounds k true)
theorem wpAnyA_plan {N : Nat} {vs : Array Value} {t : TypeId} {i0 : Nat} {o0 : Oper} {m r : Nat} {imp : List Nat} {Q : Exit → Act → World → Prop} (hQ : ∀ c d v a w, Q (.panic c) (a.put d v) w → Q (.panic c) a w) (hi0m : i0 ≠ m) (hi0 : ops[i0]? = some o0) (hgr : ∀ w w', C w → Below w.heap.size w w' → C w')
    (hs : Region.noSelect ops = true) (hsk : sinksL md ops m imp = true) : ∀ (ks : List (Nat × Bool)) (listed : Array Bool) (a : Act), Closed md ops listed →
    planA md ops i0 m imp ks listed = true → wpGrow P ops C (fun a' => ∀ G w, clsA C N vs t (some G) w → wpAny P md ops Q r (listA i0 ks listed) (a'.put o0.dst (ptrA G)) w) (ks.filterMap fun k => (ops[k.1]?).map fun o => (o, k.2)) a → wpAnyA P md ops C N vs t i0 o0.dst m r Q (ks.length + 1) none listed a
  | [], listed, a, _, hB, h => by
    simp only [planA, Bool.and_eq_true, beq_iff_eq] at hB
    refine ⟨by rw [hB.1]; simp, fun hm => ?_, fun j hj hj0 _ => ?_, fun _ => ⟨rfl, fun G => ⟨hB.2, fun w hw => h G w hw⟩⟩⟩
    · rw [hB.1] at hm
      exact absurd (by simpa using hm) (Ne.symm hi0m)
    · rw [hB.1] at hj
      exact absurd (by simpa using hj) hj0
  | (k, b) :: ks, listed, a, hc, hB, h => by
    simp only [planA, Bool.and_eq_true] at hB
    obtain ⟨hkm, hk0, hbi, ⟨hr, hf⟩, hB'⟩ := hB
    have hr' : k ∈ Region.ready md ops listed := by simpa using hr
    obtain ⟨_, ok, hok, _⟩ := mem_ready.1 hr'
    rw [List.filterMap_cons_some (b := (ok, b)) (by simp [hok])] at h
    unfold wpGrow at h
    obtain ⟨v, hy, hp, hK⟩ := h
    refine wpAnyA_first hQ hok (of_decide_eq_true hkm) (of_decide_eq_true hk0) hi0m hi0 hgr hsk (Region.noSelect_spec hs) _ none listed a ?_ hc (Region.free_spec hok hf) hr' hy
      (wpAnyA_plan hQ hi0m hi0 hgr hs hsk ks _ _ (closed_set hc hr') hB' hK)
    cases b with
    | true => exact .inr (hp rfl)
    | false => exact .inl (by simpa using hbi)

/-- The Bool on a region. -/
def allocB (ops : Array Oper) (i0 m : Nat) (ks : List (Nat × Bool)) : Bool := Region.noSelect ops && (sinksL .any ops m ((ks.filter fun k => !k.2).map (·.1)) && (decide (i0 ≠ m) && (decide (ks.length + 1 ≤ ops.size) && planA .any ops i0 m ((ks.filter fun k => !k.2).map (·.1)) ks (Array.replicate ops.size false))))
theorem wpAny_alloc {N : Nat} {vs : Array Value} {t : TypeId} {i0 : Nat} {o0 : Oper} {m : Nat} {ks : List (Nat × Bool)} {Q : Exit → Act → World → Prop} {a : Act} {w : World} (plan : Pl) (hB : allocB ops i0 m ks = true)
    (hok : treeOk .any ops (ops.size - (ks.length + 1)) (listA i0 ks (Array.replicate ops.size false)) plan = true) (hQ : ∀ c d v a w, Q (.panic c) (a.put d v) w → Q (.panic c) a w)
    (hi0 : ops[i0]? = some o0) (hg0 : o0.guard = none) (hal : ∀ (a : Act) (w : World), (execOp a.eval o0).run P w = .ok (.value (ptrA w.heap.size)) (w.alloc (.cells vs t)))
    (hgr : ∀ w w', C w → Below w.heap.size w w' → C w') (hN : ∀ w, C w → N ≤ w.heap.size) (hC : C w)
    (h : wpGrow P ops C (fun a' => ∀ G w', C w' → Blk w' G vs t → N ≤ G → TreeWp P ops Q (fun _ => True) plan (a'.put o0.dst (ptrA G)) w') (ks.filterMap fun k => (ops[k.1]?).map fun o => (o, k.2)) a) : wpAny P .any ops Q ops.size (Array.replicate ops.size false) a w := by
  unfold allocB at hB
  simp only [Bool.and_eq_true] at hB
  obtain ⟨hs, hsk, hlt, hle, hB⟩ := hB
  have hle' := of_decide_eq_true hle
  have h1 := wpAnyA_plan (P := P) (C := C) (N := N) (vs := vs) (t := t) (r := ops.size - (ks.length + 1)) (Q := Q) hQ (of_decide_eq_true hlt) hi0 hgr hs hsk ks (Array.replicate ops.size false) a (closed_none _ _ _) hB
    (by
      have : ∀ (l : List (Oper × Bool)) (a : Act), wpGrow P ops C (fun a' => ∀ G w', C w' → Blk w' G vs t → N ≤ G → TreeWp P ops Q (fun _ => True) plan (a'.put o0.dst (ptrA G)) w') l a →
          wpGrow P ops C (fun a' => ∀ G w', clsA C N vs t (some G) w' → wpAny P .any ops Q (ops.size - (ks.length + 1)) (listA i0 ks (Array.replicate ops.size false)) (a'.put o0.dst (ptrA G)) w') l a := by
        intro l
        induction l with
        | nil => exact fun a h G w' hw' => wpAny_of_held _ _ _ _ (tree_sound hs hQ plan _ _ _ _ hok trivial (h G w' hw'.1 hw'.2.1 hw'.2.2))
        | cons o l ih =>
          intro a h
          unfold wpGrow at h ⊢
          obtain ⟨v, h1, h2, h3⟩ := h
          exact ⟨v, h1, h2, ih _ h3⟩
      exact this _ _ h)
  have h2 := wpAny_of_A hi0 hg0 hal hgr hN (ks.length + 1) none _ a w hC h1
  rwa [show ops.size - (ks.length + 1) + (ks.length + 1) = ops.size by omega] at h2

/-- The operations of a plan, written out. -/
def pickO (l : List Oper) : List (Nat × Bool) → List (Oper × Bool)
  | [] => []
  | k :: ks => match nthO l k.1 with
    | some o => (o, k.2) :: pickO l ks
    | none => pickO l ks
theorem pickO_eq (l : List Oper) : ∀ ks : List (Nat × Bool), pickO l ks = ks.filterMap fun k => (l.toArray[k.1]?).map fun o => (o, k.2)
  | [] => rfl
  | k :: ks => by
    have h := nthO_eq l k.1
    unfold pickO
    cases hn : nthO l k.1 with
    | none => rw [hn] at h; rw [List.filterMap_cons_none (by rw [h]; rfl)]; exact pickO_eq l ks
    | some o => rw [hn] at h; rw [List.filterMap_cons_some (b := (o, k.2)) (by rw [h]; rfl)]; dsimp only; rw [pickO_eq l ks]
theorem sameB {f : FuncId} {args : Array Value} {w : World} {v : Value} (h : Calls P f args w fun e w' => e = .returned v ∧ w = w') : Calls P f args w fun e w' => e = .returned v ∧ Below w.heap.size w w' :=
  h.mono fun _ _ ⟨he, hw⟩ => ⟨he, hw ▸ Below.refl _ _⟩
theorem grow_below {w0 : World} : ∀ w w', Below w0.heap.size w0 w → Below w.heap.size w w' → Below w0.heap.size w0 w' := fun _ _ h k => h.trans (k.mono h.size)
theorem wp_region_alloc {id i0 m : Nat} {o0 : Oper} {ks : List (Nat × Bool)} {vs : Array Value} {t : TypeId} {Q : Exit → Act → World → Prop} {a : Act} {w : World} {l : List Oper} (plan : Pl) (hm : P.follows .mixedOrders = true) (hB : allocB l.toArray i0 m ks = true)
    (hok : treeOk .any l.toArray (l.toArray.size - (ks.length + 1)) (listA i0 ks (Array.replicate l.toArray.size false)) plan = true) (hQ : ∀ c d v a w, Q (.panic c) (a.put d v) w → Q (.panic c) a w)
    (hi0 : l.toArray[i0]? = some o0) (hg0 : o0.guard = none) (hal : ∀ (a : Act) (w : World), (execOp a.eval o0).run P w = .ok (.value (ptrA w.heap.size)) (w.alloc (.cells vs t)))
    (h : wpGrow P l.toArray (Below w.heap.size w) (fun a' => ∀ G w', Below w.heap.size w w' → Blk w' G vs t → w.heap.size ≤ G → TreeWp P l.toArray Q (fun _ => True) plan (a'.put o0.dst (ptrA G)) w') (pickO l ks) a) : (Code.region id l.toArray true).wp P Q a w :=
  wp_region_any hm (wpAny_alloc (C := Below w.heap.size w) plan hB hok hQ hi0 hg0 hal grow_below (fun _ h => h.size) (Below.refl _ _).drew (by rw [← pickO_eq]; exact h))

variable {Q : Act → Prop} {a : Act} {o : Oper} {b : Bool} {rest : List (Oper × Bool)}
theorem g_u (hw : Region.wanted o (yielded ops a.tmps) = false) (h : wpGrow P ops C Q rest (a.put o.dst undef)) : wpGrow P ops C Q ((o, b) :: rest) a :=
  ⟨undef, .inr ⟨hw, rfl⟩, fun _ => .inr ⟨hw, rfl⟩, h⟩
theorem g_w {v : Value} (hw : Region.wanted o (yielded ops a.tmps) = true) (hv : ∀ w, C w → (execOp a.eval o).run P w = .ok (.value v) w) (h : wpGrow P ops C Q rest (a.put o.dst v)) : wpGrow P ops C Q ((o, false) :: rest) a :=
  ⟨v, .inl ⟨hw, fun w hCw => by unfold growAt; rw [hv w hCw]; exact ⟨rfl, rfl⟩⟩, fun hb => (by cases hb), h⟩
theorem g_p {v : Value} (hw : Region.wanted o (yielded ops a.tmps) = true) (hv : ∀ w, (execOp a.eval o).run P w = .ok (.value v) w) (h : wpGrow P ops C Q rest (a.put o.dst v)) : wpGrow P ops C Q ((o, true) :: rest) a :=
  ⟨v, .inl ⟨hw, fun w _ => by unfold growAt; rw [hv w]; exact ⟨rfl, rfl⟩⟩, fun _ => .inl ⟨hw, hv⟩, h⟩
theorem g_c {f : FuncId} {args : Array Value} {v : Value} (hw : Region.wanted o (yielded ops a.tmps) = true) (hc : ∀ w, C w → Calls P f args w fun e w' => e = .returned v ∧ Below w.heap.size w w')
    (hv : ∀ w, C w → (execOp a.eval o).run P w = .ok (.enter f args) w) (h : wpGrow P ops C Q rest (a.put o.dst v)) : wpGrow P ops C Q ((o, false) :: rest) a :=
  ⟨v, .inl ⟨hw, fun w hCw => by unfold growAt; rw [hv w hCw]; exact ⟨rfl, hc w hCw⟩⟩, fun hb => (by cases hb), h⟩
theorem g_nil (h : Q a) : wpGrow P ops C Q [] a := h
end
end Go.Proofs.YtifenbamookmiaaDoor
