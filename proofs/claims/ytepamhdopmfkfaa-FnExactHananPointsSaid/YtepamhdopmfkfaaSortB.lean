/-
  Contracts: comparePoints, and slices.Compact at points.
-/
import Derived.Test.YtepamhdopmfkfaaSortA
import Derived.Test.YtepamhdopmfkfaaHarn
import Derived.StillTailTactics
import Derived.Sort.Grow
import Derived.Lib.SliceRun
namespace Go.Proofs.Ytepamhdopmfkfaa
set_option linter.unusedSimpArgs false
set_option linter.unusedVariables false
open Go.ChangeShapes Go.WideShapes Go.ChangeAt Go.RowKit Go.Sort Go.Lib

set_option maxRecDepth 100000 in
set_option maxHeartbeats 800000 in
theorem comparePoints_any (p q : Pt) (W : World) :
    Calls Try.prog 91 #[.agg #[.int .i64 p.1, .int .i64 p.2], .agg #[.int .i64 q.1, .int .i64 q.2]] W fun e w' => e = .returned (.int .i64 (cfP p q)) ∧ ∃ (k : Nat) (os : Array Obj), w' = grow (W.drewN k) os := by
  obtain ⟨a, b⟩ := p
  obtain ⟨c, d⟩ := q
  have F : Hid (cfP (a, b) (c, d) = orV (sg c a) (sg d b)) := rfl
  obtain ⟨x, hx⟩ : ∃ x, sg c a = x := ⟨_, rfl⟩
  obtain ⟨y, hy⟩ : ∃ y, sg d b = y := ⟨_, rfl⟩
  have c1 := fun w => compare_any a c w
  have c2 := fun w => compare_any b d w
  rw [hx] at c1
  rw [hy] at c2
  rw [hx, hy] at F
  have C1 := Lib.hid c1
  have C2 := Lib.hid c2
  clear hx hy c1 c2
  simp only
  have z0 := PtB.new W (a, b)
  have z1 : PtB ((W.alloc (.cells #[.int .i64 a, .int .i64 b] 33)).alloc (.cells #[.int .i64 c, .int .i64 d] 33)) W.heap.size (a, b) := z0.to ((Below.refl _ _).alloc (Nat.le_refl _) _)
  have z2 : PtB ((W.alloc (.cells #[.int .i64 a, .int .i64 b] 33)).alloc (.cells #[.int .i64 c, .int .i64 d] 33)) (W.heap.size + 1) (c, d) := by
    have := PtB.new (W.alloc (.cells #[.int .i64 a, .int .i64 b] 33)) (c, d)
    simpa using this
  go_enter Try.func91, Try.ntmps91
  go_wp2
  obtain ⟨X, hX⟩ : ∃ X, (W.alloc (.cells #[.int .i64 a, .int .i64 b] 33)).alloc (.cells #[.int .i64 c, .int .i64 d] 33) = X := ⟨_, rfl⟩
  have HX := Lib.hid hX
  rw [hX] at z1 z2 ⊢
  clear hX z0
  obtain ⟨d0, d1, _, _⟩ := z1.cells
  obtain ⟨d2, d3, _, _⟩ := z2.cells
  simp only at d0 d1 d2 d3
  refine wp_region_still_tail 10 (by kernel_rfl) (by kernel_rfl) ?_
  simp only [List.take_succ_cons, List.take_zero, List.drop_succ_cons, List.drop_zero]
  iterate 4
    refine wpStill_step (fun K hK => ?_)
    go_simp
    refine hK _ ?_
    clear hK K
  refine wpStill_step (fun K hK => ?_)
  go_simp
  refine ⟨_, quiet_l (C1.out _), hK _ ?_⟩
  clear hK K
  iterate 4
    refine wpStill_step (fun K hK => ?_)
    go_simp
    refine hK _ ?_
    clear hK K
  refine wpStill_step (fun K hK => ?_)
  go_simp
  refine ⟨_, quiet_l (C2.out _), hK _ ?_⟩
  clear hK K
  refine wpStill_nil ?_
  change wpList _ _ _ _ _ X.drew
  go_wp2_with (go_at_call 109; refine (or_any _ x y _ (by simp) (by simp)).mono ?_; rintro e w' ⟨rfl, rfl⟩)
  go_ret
  have hw : ∀ o, (X.alloc o).drew = grow (W.drewN 1) (#[.cells #[.int .i64 a, .int .i64 b] 33] ++ #[.cells #[.int .i64 c, .int .i64 d] 33] ++ #[o]) := by
    intro o
    rw [← HX.out, alloc_eq_grow, alloc_eq_grow, alloc_eq_grow, grow_grow, grow_grow, drew_grow]
    rfl
  exact ⟨retI (by rw [F.out]), 1, _, hw _⟩

/-- 'clear(s)' at points. -/
theorem run_clear_pts (w : World) (ty : TypeId) (b o n c : Nat) (hn : 0 < n)
    (hc : ∀ j, j < n * 2 → (w.cell? ⟨b, o + j, none⟩).isSome = true) (hf : ∀ j, j < n * 2 → w.frozen? ⟨b, o + j, none⟩ = false) :
    (Builtin.clear_ #[25] ty #[.slice (some ⟨b, o, none⟩) n c]).run Try.prog w = .ok (.tuple #[]) (w.setCells b o (List.replicate (n * 2) (.int .i64 0))) := by
  have ht : Try.prog.underlying 25 = some (.slice 33) := Try.underlying25
  have hv : ∀ w, (zeroValue 33).run Try.prog w = .ok (.agg #[.int .i64 0, .int .i64 0]) w := Try.zeroValue33
  have hzc : (Builtin.zeroCells (Value.agg #[.int .i64 0, .int .i64 0]).cells n).toList = List.replicate (n * 2) (.int .i64 0) := by
    show (Builtin.zeroCells #[Value.int .i64 0, .int .i64 0] n).toList = _
    simp only [Builtin.zeroCells]
    apply List.ext_getElem
    · simp [Nat.mul_comm]
    · intro i h1 h2
      rcases Nat.mod_two_eq_zero_or_one i with e | e <;> simp [e]
  have hst := run_storeCells_cells (P := Try.prog) b o (List.replicate (n * 2) (.int .i64 0)) 0 w (by simpa using hc) (by simpa using hf) (by intro v hv'; rw [List.eq_of_mem_replicate hv']; rfl)
  simp only [Nat.add_zero] at hst
  obtain ⟨m, rfl⟩ : ∃ m, n = m + 1 := ⟨n - 1, by omega⟩
  simp [Builtin.clear_, run_underlying ht, hv, hzc, hst]

/-- The block g holds the points of L first, and d from the index j on. -/
def Row2 (w : World) (g : Nat) (L d : List Pt) (j : Nat) : Prop :=
  ∃ cs, w.heap[g]? = some (.cells cs 33 (0, 0)) ∧ d.length * 2 ≤ cs.size ∧
    (∀ i, i < L.length → cs[i * 2]? = some (.int .i64 (L.getD i (0, 0)).1) ∧ cs[i * 2 + 1]? = some (.int .i64 (L.getD i (0, 0)).2)) ∧
    ∀ i, j ≤ i → i < d.length → cs[i * 2]? = some (.int .i64 (d.getD i (0, 0)).1) ∧ cs[i * 2 + 1]? = some (.int .i64 (d.getD i (0, 0)).2)
theorem Row2.lt {w : World} {g j : Nat} {L d : List Pt} (h : Row2 w g L d j) : g < w.heap.size := by
  obtain ⟨cs, h, _⟩ := h
  rcases Nat.lt_or_ge g w.heap.size with hlt | hge
  · exact hlt
  · rw [Array.getElem?_eq_none hge] at h; cases h
theorem Row2.at_ {w : World} {g j : Nat} {L d : List Pt} (h : Row2 w g L d j) {i : Nat} (hi : j ≤ i) (hl : i < d.length) :
    w.cell? ⟨g, i * 2, none⟩ = some (.int .i64 (d.getD i (0, 0)).1) ∧ w.cell? ⟨g, i * 2 + 1, none⟩ = some (.int .i64 (d.getD i (0, 0)).2) := by
  obtain ⟨cs, h0, _, _, h2⟩ := h
  rw [cell_of_row w g _ cs _ _ h0, cell_of_row w g _ cs _ _ h0]
  exact h2 i hi hl
theorem Row2.there {w : World} {g j : Nat} {L d : List Pt} (h : Row2 w g L d j) {i : Nat} (hi : i < d.length * 2) : (∃ v, w.cell? ⟨g, i, none⟩ = some v) ∧ w.frozen? ⟨g, i, none⟩ = false := by
  obtain ⟨cs, h0, h1, _⟩ := h
  rw [cell_of_row w g _ cs _ _ h0]
  exact ⟨⟨cs[i]'(by omega), by simp [show i < cs.size by omega]⟩, by simp [World.frozen?, h0]⟩
theorem Row2.next {w : World} {g j : Nat} {L d : List Pt} (h : Row2 w g L d j) : Row2 w g L d (j + 1) := by
  obtain ⟨cs, h0, h1, h2, h3⟩ := h
  exact ⟨cs, h0, h1, h2, fun i hi => h3 i (by omega)⟩
theorem Row2.put {w : World} {g j : Nat} {L d : List Pt} (h : Row2 w g L d j) (p : Pt) (hm : L.length ≤ j) (hl : L.length < d.length) :
    Row2 ((w.setCell ⟨g, L.length * 2, none⟩ (.int .i64 p.1)).setCell ⟨g, L.length * 2 + 1, none⟩ (.int .i64 p.2)) g (L ++ [p]) d (j + 1) := by
  obtain ⟨cs, h0, h1, h2, h3⟩ := h
  refine ⟨(cs.setIfInBounds (L.length * 2) (.int .i64 p.1)).setIfInBounds (L.length * 2 + 1) (.int .i64 p.2), ?_, by simpa using h1, ?_, ?_⟩
  · simp [World.setCell, Array.getElem?_modify, h0]
  · intro i hi
    rw [List.length_append] at hi
    simp only [List.length_singleton] at hi
    by_cases e : i = L.length
    · subst e
      rw [Array.getElem?_setIfInBounds_ne (by omega)]
      simp only [Array.getElem?_setIfInBounds_self, Array.size_setIfInBounds]
      rw [if_pos (by omega), if_pos (by omega)]
      simp [List.getD_eq_getElem?_getD]
    · rw [Array.getElem?_setIfInBounds_ne (by omega), Array.getElem?_setIfInBounds_ne (by omega), Array.getElem?_setIfInBounds_ne (by omega), Array.getElem?_setIfInBounds_ne (by omega)]
      have := h2 i (by omega)
      simpa [List.getD_eq_getElem?_getD, List.getElem?_append_left (show i < L.length by omega)] using this
  · intro i hi hl'
    rw [Array.getElem?_setIfInBounds_ne (by omega), Array.getElem?_setIfInBounds_ne (by omega), Array.getElem?_setIfInBounds_ne (by omega), Array.getElem?_setIfInBounds_ne (by omega)]
    exact h3 i (by omega) hl'
theorem PBlk2.setOut {w : World} {g o : Nat} {L : List Pt} (h : PBlk2 w g L L.length) (ho : L.length * 2 ≤ o) (u : Value) : PBlk2 (w.setCell ⟨g, o, none⟩ u) g L L.length := by
  obtain ⟨cs, h0, h1, h2⟩ := h
  refine ⟨cs.setIfInBounds o u, by simp [World.setCell, Array.getElem?_modify, h0], by simpa using h1, fun i hi hl => ?_⟩
  rw [Array.getElem?_setIfInBounds_ne (by omega), Array.getElem?_setIfInBounds_ne (by omega)]
  exact h2 i hi hl
theorem PBlk2.setsOut {g : Nat} {L : List Pt} : ∀ (vs : List Value) (o : Nat) (w : World), PBlk2 w g L L.length → L.length * 2 ≤ o → PBlk2 (w.setCells g o vs) g L L.length
  | [], _, _, h, _ => h
  | v :: r, o, w, h, ho => PBlk2.setsOut r (o + 1) (w.setCell ⟨g, o, none⟩ v) (h.setOut ho v) (by omega)
theorem Only.sets_ {g : Nat} {w : World} : ∀ (vs : List Value) (o : Nat) (w' : World), Only g w w' → Only g w (w'.setCells g o vs)
  | [], _, _, h => h
  | v :: r, o, w', h => Only.sets_ r (o + 1) (w'.setCell ⟨g, o, none⟩ v) (h.set_ o v)
theorem Row2.blk {w : World} {g j : Nat} {L d : List Pt} (h : Row2 w g L d j) (hl : L.length ≤ d.length) : PBlk2 w g L L.length := by
  obtain ⟨cs, h0, h1, h2, _⟩ := h
  exact ⟨cs, h0, by omega, fun i hi _ => h2 i hi⟩
theorem Row2.start {w : World} {g k : Nat} {d : List Pt} (h : PBlk2 w g d d.length) (hk : k ≤ d.length) : Row2 w g (d.take k) d k := by
  obtain ⟨cs, h0, h1, h2⟩ := h
  refine ⟨cs, h0, h1, fun i hi => ?_, fun i _ hl => h2 i hl hl⟩
  rw [List.length_take] at hi
  have := h2 i (by omega) (by omega)
  have e : (d.take k).getD i (0, 0) = d.getD i (0, 0) := by simp [List.getD_eq_getElem?_getD, List.getElem?_take, show i < k by omega]
  rw [e]; exact this
theorem Row2.drew {w : World} {g j : Nat} {L d : List Pt} (h : Row2 w g L d j) (n : Nat) : Row2 (w.drewN n) g L d j := h
theorem ddL_take {d : List Pt} : ∀ k, k ≤ d.length → (∀ i, i + 1 < k → d.getD (i + 1) (0, 0) ≠ d.getD i (0, 0)) → ddL d k = d.take k
  | 0, _, _ => by simp [ddL]
  | k + 1, hk, h => by
    have ih := ddL_take k (by omega) (fun i hi => h i (by omega))
    rw [ddL_keep', ih, take_snocP d k (by omega)]
    rintro ⟨h0, h1⟩
    have := h (k - 1) (by omega)
    rw [show k - 1 + 1 = k by omega] at this
    exact this h1
theorem ddL_keep {d : List Pt} {k : Nat} (h : d.getD k (0, 0) ≠ d.getD (k - 1) (0, 0)) : ddL d (k + 1) = ddL d k ++ [d.getD k (0, 0)] := ddL_keep' fun hh => h hh.2

def CompPost (g : Nat) (L : List Pt) (w : World) (e : Ending) (w' : World) : Prop :=
  ∃ c', e = .returned (.slice (some ⟨g, 0, none⟩) L.length c') ∧ PBlk2 w' g L L.length ∧ Only g w w'

set_option maxRecDepth 100000 in
set_option maxHeartbeats 3200000 in
theorem Compact_any (g c : Nat) (d : List Pt) (w : World) (hR : PBlk2 w g d d.length) (hl : d.length ≤ 64) (hlc : d.length ≤ c) (hc62 : c ≤ 9223372036854775807) :
    Calls Try.prog 92 #[.slice (some ⟨g, 0, none⟩) d.length c] w (CompPost g (ddL d d.length) w) := by
  have hlI : (d.length : Int) ≤ 64 := by omega
  have hcI : (d.length : Int) ≤ (c : Int) := by omega
  have hcJ : (c : Int) ≤ 9223372036854775807 := by omega
  by_cases h2 : d.length < 2
  · have h2I : (d.length : Int) < 2 := by omega
    have F : Hid (ddL d d.length = d) := by
      show _ = _
      rw [ddL_take _ (Nat.le_refl _) (fun i hi => by omega), List.take_length]
    rw [F.out]
    clear h2
    go_enter Try.func92, Try.ntmps92
    go_wp2
    go_ret
    exact ⟨c, rfl, hR, Only.refl _ _⟩
  · have h2I : ¬ (d.length : Int) < 2 := by omega
    have h2d : decide (d.length < 2) = false := decide_eq_false h2
    go_enter Try.func92, Try.ntmps92
    go_wp2
    go_loopw [3] (fun i wr => ∃ k : Nat, 1 ≤ k ∧ k ≤ d.length ∧ i = .int .i64 k ∧ Hid (∀ i, i + 1 < k → d.getD (i + 1) (0, 0) ≠ d.getD i (0, 0)) ∧ PBlk2 wr g d d.length ∧ Only g w wr) (fun i _ => d.length - (intOf i).toNat)
    case atStart => exact ⟨1, Nat.le_refl _, by omega, rfl, fun i hi => by omega, hR, Only.refl _ _⟩
    case round =>
      clear hR
      obtain ⟨k, hk1, hk, rfl, HD, hR, hO⟩ := hrel
      have hk0 : 1 ≤ (k : Int) := by omega
      have hk0' : 0 ≤ (k : Int) := by omega
      have hkI : (k : Int) ≤ (d.length : Int) := by omega
      by_cases hlt : k < d.length
      · obtain ⟨q, hq⟩ : ∃ q, k = q + 1 := ⟨k - 1, by omega⟩
        obtain ⟨q0, q1⟩ := hR.at_ (i := k) hlt hlt
        obtain ⟨q2, q3⟩ := hR.at_ (i := q) (by omega) (by omega)
        have hltI : (k : Int) < (d.length : Int) := by omega
        have hq0 : 0 ≤ (q : Int) := by omega
        have hqI : (q : Int) < (d.length : Int) := by omega
        have hsub : IntKind.i64.wrap ((k : Int) - 1) = (q : Int) := by rw [IntWalk.i64_in _ (by omega)]; omega
        have heq := fun w => run_eql_pt (d.getD k (0, 0)) (d.getD q (0, 0)) w
        by_cases he : d.getD k (0, 0) = d.getD q (0, 0)
        · have he' : d.getD k (0, 0) = d.getD (k - 1) (0, 0) := by rw [he, hq]; rfl
          have HS := Lib.hid (ddL_skip (d := d) (k := k) (by omega) he')
          have HT := Lib.hid (ddL_take (d := d) k hk HD.out)
          have hW := Row2.start hR hk
          rw [← HT.out] at hW
          have hLk : (ddL d k).length = k := by rw [HT.out]; simp; omega
          rw [← HS.out] at hW hLk
          have HLk := Lib.hid hLk
          simp only [he, decide_true] at heq
          rw [he] at q0 q1
          generalize d.getD q (0, 0) = p at *
          have HQ := Lib.hid hq
          clear hR HT HS hLk he he' HD hq
          go_wp2
          go_quiet (fail)
          clear q0 q1 q2 q3 heq
          go_wp2_with fail
          go_loopw [3, 5] (fun kk i wr2 => ∃ (m k2 : Nat), kk = .int .i64 m ∧ i = .int .i64 k2 ∧ 1 ≤ k2 ∧ k2 ≤ d.length - k ∧ Hid ((ddL d (k + k2)).length = m) ∧ m + 1 ≤ k + k2 ∧ Row2 wr2 g (ddL d (k + k2)) d (k + k2 - 1) ∧ Only g w wr2) (fun _ i _ => (d.length - k) - (intOf i).toNat)
          case atStart => exact ⟨k, 1, rfl, rfl, Nat.le_refl _, by omega, HLk, by omega, hW, hO⟩
          case round =>
            clear hW hO HLk
            obtain ⟨m, k2, rfl, rfl, h21, h2n, HL, hm, hW, hO⟩ := hrel
            have h20 : 0 ≤ (k2 : Int) := by omega
            have h2I : (k2 : Int) ≤ (d.length : Int) := by omega
            have hm0 : 0 ≤ (m : Int) := by omega
            have hmI : (m : Int) < (d.length : Int) := by omega
            have hmJ : (m : Int) ≤ (d.length : Int) := by omega
            have hmc : (m : Int) ≤ (c : Int) := by omega
            by_cases hlt2 : k2 < d.length - k
            · obtain ⟨s, hs⟩ : ∃ s, k2 = s + 1 := ⟨k2 - 1, by omega⟩
              obtain ⟨q0, q1⟩ := hW.at_ (i := k + k2) (by omega) (by omega)
              obtain ⟨q2, q3⟩ := hW.at_ (i := k + s) (by omega) (by omega)
              obtain ⟨⟨v0, t0⟩, f0⟩ := hW.there (i := m * 2) (by omega)
              obtain ⟨⟨v1, t1⟩, f1⟩ := hW.there (i := m * 2 + 1) (by omega)
              rw [show (k + k2) * 2 = k * 2 + k2 * 2 by omega] at q0 q1
              rw [show (k + s) * 2 = k * 2 + s * 2 by omega] at q2 q3
              have hsub2 : IntKind.i64.wrap ((k2 : Int) - 1) = (s : Int) := by rw [IntWalk.i64_in _ (by omega)]; omega
              have hs0 : 0 ≤ (s : Int) := by omega
              have hltJ : (k2 : Int) < ((d.length - k : Nat) : Int) := by omega
              have hsJ : (s : Int) < ((d.length - k : Nat) : Int) := by omega
              have hneq := fun w => run_neq_pt (d.getD (k + k2) (0, 0)) (d.getD (k + s) (0, 0)) w
              by_cases he2 : d.getD (k + k2) (0, 0) = d.getD (k + s) (0, 0)
              · have HS2 := Lib.hid (ddL_skip (d := d) (k := k + k2) (by omega) (by rw [he2]; congr 1; omega))
                have hW2 := hW.next
                rw [show k + k2 - 1 + 1 = k + (k2 + 1) - 1 by omega, ← HS2.out] at hW2
                have HL2 : Hid ((ddL d (k + (k2 + 1))).length = m) := by show _ = _; rw [show k + (k2 + 1) = k + k2 + 1 by omega, HS2.out]; exact HL.out
                simp only [he2, decide_true, Bool.not_true] at hneq
                rw [he2] at q0 q1
                generalize d.getD (k + s) (0, 0) = p2 at *
                clear he2 hW HS2 hs
                go_wp2
                go_quiet (fail)
                go_wp2
                go_roundw
                case rel => exact ⟨m, k2 + 1, rfl, by go_num, by omega, by omega, HL2, by omega, hW2, hO⟩
                case measure => simp [intOf]; omega
              · have HS2 := Lib.hid (ddL_keep (d := d) (k := k + k2) (by rw [show k + k2 - 1 = k + s by omega]; exact he2))
                have hW2 := hW.put (d.getD (k + k2) (0, 0)) (by rw [HL.out]; omega) (by rw [HL.out]; omega)
                rw [show k + k2 - 1 + 1 = k + (k2 + 1) - 1 by omega, ← HS2.out, HL.out] at hW2
                have HL2 : Hid ((ddL d (k + (k2 + 1))).length = m + 1) := by show _ = _; rw [show k + (k2 + 1) = k + k2 + 1 by omega, HS2.out, List.length_append, HL.out]; rfl
                have hO2 := (hO.set_ (m * 2) (.int .i64 (d.getD (k + k2) (0, 0)).1)).set_ (m * 2 + 1) (.int .i64 (d.getD (k + k2) (0, 0)).2)
                simp only [he2, decide_false, Bool.not_false] at hneq
                generalize d.getD (k + s) (0, 0) = p2 at *
                generalize d.getD (k + k2) (0, 0) = p3 at *
                clear he2 hW HS2 hs
                go_wp2
                go_quiet (fail)
                go_wp2
                go_roundw
                case rel => exact ⟨m + 1, k2 + 1, by go_num, by go_num, by omega, by omega, HL2, by omega, hW2, hO2⟩
                case measure => simp [intOf]; omega
            · have hk2 : k + k2 = d.length := by omega
              have hltJ : ¬ (k2 : Int) < ((d.length - k : Nat) : Int) := by omega
              have hcl : ∀ ty, (Builtin.clear_ #[25] ty #[.slice (some ⟨g, m * 2, none⟩) (d.length - m) (c - m)]).run Try.prog wr = .ok (.tuple #[]) (wr.setCells g (m * 2) (List.replicate ((d.length - m) * 2) (.int .i64 0))) :=
                fun ty => run_clear_pts wr ty g (m * 2) _ _ (by omega) (fun j hj => by obtain ⟨⟨v, hv⟩, _⟩ := hW.there (i := m * 2 + j) (by omega); rw [hv]; rfl) (fun j hj => (hW.there (i := m * 2 + j) (by omega)).2)
              rw [hk2] at hW HL
              have hB := hW.blk (by rw [HL.out]; omega)
              have hB2 := PBlk2.setsOut (List.replicate ((d.length - m) * 2) (.int .i64 0)) (m * 2) wr hB (by rw [HL.out]; exact Nat.le_refl _)
              have hO2 := Only.sets_ (List.replicate ((d.length - m) * 2) (.int .i64 0)) (m * 2) wr hO
              clear hW hB hO
              generalize wr.setCells g (m * 2) (List.replicate ((d.length - m) * 2) (.int .i64 0)) = w9 at *
              go_wp2
              go_ret
              exact ⟨_, by rw [HL.out]; rfl, hB2, hO2⟩
        · have HD2 : Hid (∀ i, i + 1 < k + 1 → d.getD (i + 1) (0, 0) ≠ d.getD i (0, 0)) := by
            intro i hi
            by_cases e : i + 1 = k
            · rw [e, show i = q by omega]; exact he
            · exact HD.out i (by omega)
          simp only [he, decide_false] at heq
          generalize d.getD q (0, 0) = p at *
          generalize d.getD k (0, 0) = p' at *
          clear he HD hq
          go_wp2
          go_quiet (fail)
          go_wp2
          go_roundw
          case rel => exact ⟨k + 1, by omega, by omega, by go_num, HD2, hR, hO⟩
          case measure => simp [intOf]; omega
      · obtain rfl : k = d.length := by omega
        have F : Hid (ddL d d.length = d) := by
          show _ = _
          rw [ddL_take _ (Nat.le_refl _) HD.out, List.take_length]
        go_wp2
        go_ret
        exact ⟨c, by rw [F.out]; rfl, by rw [F.out]; exact hR, hO⟩
end Go.Proofs.Ytepamhdopmfkfaa
