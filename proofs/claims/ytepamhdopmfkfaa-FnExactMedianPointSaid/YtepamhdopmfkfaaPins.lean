/-
  Contracts: different points of the grid, at most twenty; the place of a point in a list.
-/
import Derived.Test.YtepamhdopmfkfaaPath
import Derived.Test.YtepamhdopmfkfaaAlongM
namespace Go.Proofs.Ytepamhdopmfkfaa
set_option linter.unusedSimpArgs false
set_option linter.unusedVariables false
open Go.ChangeShapes Go.WideShapes Go.ChangeAt Go.RowKit

/-- The first k are different points of the grid. -/
def pinsTo (ps : List Pt) (k : Nat) : Bool := allPt (ps.take k) && decide (ps.take k).Nodup
def isPins (ps : List Pt) : Bool := decide (0 < ps.length) && decide (ps.length ≤ 20) && pinsTo ps ps.length
theorem pinsTo_zero (ps : List Pt) : pinsTo ps 0 = true := by simp [pinsTo, allPt]
theorem nodup_snoc {l : List Pt} {p : Pt} : (l ++ [p]).Nodup ↔ l.Nodup ∧ p ∉ l := by
  rw [List.nodup_append]
  constructor
  · rintro ⟨h, _, k⟩
    exact ⟨h, fun hp => k p hp p (by simp) rfl⟩
  · rintro ⟨h, k⟩
    exact ⟨h, by simp, fun a ha b hb e => by simp at hb; subst hb; subst e; exact k ha⟩
theorem pinsTo_snoc {ps : List Pt} {k : Nat} (h : k < ps.length) : pinsTo ps (k + 1) = (pinsTo ps k && (isPt (ps.getD k (0, 0)).1 (ps.getD k (0, 0)).2 && !decide (ps.getD k (0, 0) ∈ ps.take k))) := by
  unfold pinsTo
  rw [allPt_snoc ps k h, take_snocP ps k h]
  have e := nodup_snoc (l := ps.take k) (p := ps.getD k (0, 0))
  rw [decide_eq_decide.2 e, Bool.decide_and]
  simp only [decide_not]
  cases allPt (ps.take k) <;> cases isPt (ps.getD k (0, 0)).1 (ps.getD k (0, 0)).2 <;> cases decide (ps.take k).Nodup <;> simp
theorem pinsTo_bad {ps : List Pt} {k n : Nat} (hk : k < n) (hn : n ≤ ps.length) (h : pinsTo ps (k + 1) = false) : pinsTo ps n = false := by
  induction n with
  | zero => omega
  | succ n ih =>
    by_cases e : k = n
    · subst e; exact h
    · rw [pinsTo_snoc (by omega), ih (by omega) (by omega)]; rfl
theorem pinsTo_all {ps : List Pt} : pinsTo ps ps.length = (allPt ps && decide ps.Nodup) := by unfold pinsTo; rw [List.take_length]
theorem isPins_iff {ps : List Pt} : isPins ps = true ↔ 0 < ps.length ∧ ps.length ≤ 20 ∧ allPt ps = true ∧ ps.Nodup := by
  unfold isPins
  rw [pinsTo_all]
  simp only [Bool.and_eq_true, decide_eq_true_eq]
  exact ⟨fun ⟨⟨a, b⟩, c, d⟩ => ⟨a, b, c, d⟩, fun ⟨a, b, c, d⟩ => ⟨⟨a, b⟩, c, d⟩⟩

set_option maxRecDepth 100000 in
set_option maxHeartbeats 800000 in
theorem l05Is_any (A : Option Addr) (ps : List Pt) (c : Nat) (w : World) (hp : PtsAt w w.heap.size A ps) (hl : ps.length ≤ 1048576) (hlc : ps.length ≤ c) :
    Calls Try.prog 35 #[.slice A ps.length c] w fun e w' => e = .returned (.bool (isPins ps)) ∧ Below w.heap.size w w' := by
  by_cases h0 : 0 < ps.length
  · by_cases h20 : ps.length ≤ 20
    · have HR : Hid (isPins ps = pinsTo ps ps.length) := by show _ = _; unfold isPins; rw [decide_eq_true h0, decide_eq_true h20]; rfl
      have h0I : ¬ (ps.length : Int) < 1 := by omega
      have h20I : ¬ (20 : Int) < (ps.length : Int) := by omega
      go_enter Try.func35, Try.ntmps35
      go_wp2
      go_loopw [3] (fun i wr => ∃ k : Nat, k ≤ ps.length ∧ i = .int .i64 k ∧ Hid (pinsTo ps k = true) ∧ Below w.heap.size w wr) (fun i _ => ps.length - (intOf i).toNat)
      case atStart => exact ⟨0, Nat.zero_le _, rfl, pinsTo_zero ps, Below.refl _ _⟩
      case round =>
        obtain ⟨k, hk, rfl, HA, hb⟩ := hrel
        have hk0 : (0 : Int) ≤ (k : Int) := by omega
        by_cases hlt : k < ps.length
        · have hkI : (k : Int) < (ps.length : Int) := by omega
          obtain ⟨b, off, rfl, hbB, hc⟩ := hp (by omega)
          obtain ⟨c0, c1⟩ := hc k hlt
          have d0 := (hb.cell (p := ⟨b, off + k * 2, none⟩) hbB).trans c0
          have d1 := (hb.cell (p := ⟨b, off + k * 2 + 1, none⟩) hbB).trans c1
          have HN := Lib.hid (pinsTo_snoc hlt)
          have HB := Lib.hid (pinsTo_bad hlt (Nat.le_refl _))
          have hkl : (ps.take k).length = k := by rw [List.length_take]; omega
          have cx := Lib.hid (fun (w1 : World) (hb1 : Below w.heap.size w w1) (x y : Int) => l01Index_n (some ⟨b, off, none⟩) (ps.take k) k c x y w1 hkl ((hp.to hb1).take k) (by omega))
          obtain ⟨T, hT⟩ : ∃ T, ps.take k = T := ⟨_, rfl⟩
          rw [hT] at cx HN
          generalize ps.getD k (0, 0) = p at *
          obtain ⟨x, y⟩ := p
          simp only at d0 d1 HN
          clear hc c0 c1 hp hT hkl
          have hzle : w.heap.size ≤ wr.heap.size := hb.size
          cases hpt : isPt x y
          · have HP := Lib.hid hpt
            have HF : Hid (isPins ps = false) := by show _ = _; rw [HR.out]; exact HB.out (by rw [HN.out, hpt]; simp)
            clear hpt
            go_wp2
            refine wp_region_plan (fun wx => wx.cell? ⟨b, off + k * 2, none⟩ = some (.int .i64 x) ∧ wx.cell? ⟨b, off + k * 2 + 1, none⟩ = some (.int .i64 y) ∧ Below w.heap.size w wx ∧ w.heap.size ≤ wx.heap.size) [(0, true), (1, true), (2, true), (3, true), (4, false), (5, true), (6, true), (7, true), (8, true), (9, true), (10, true), (11, true), (12, true), (13, true), (14, false), (15, true), (16, true)] (by kernel_rfl) (by kernel_rfl) (by kernel_rfl) (fun _ d _ _ _ h => by cases d <;> exact h) ⟨d0, d1, hb.drew, hzle⟩ (fun hS0 => ?_)
            refine plan_w (v := ?_) rfl (by rfl) ?_ ?_
            rotate_left
            · intro wx hSx
              try dsimp only at hSx
              go_simp
              try (with_reducible rfl)
            try simp only [Act.put, List.setIfInBounds_toArray, List.set_cons_zero, List.set_cons_succ]
            refine plan_w (v := ?_) rfl (by rfl) ?_ ?_
            rotate_left
            · intro wx hSx
              try dsimp only at hSx
              go_simp
              try (with_reducible rfl)
            try simp only [Act.put, List.setIfInBounds_toArray, List.set_cons_zero, List.set_cons_succ]
            refine plan_w (v := ?_) rfl (by rfl) ?_ ?_
            rotate_left
            · intro wx hSx
              try dsimp only at hSx
              go_simp
              try (with_reducible rfl)
            try simp only [Act.put, List.setIfInBounds_toArray, List.set_cons_zero, List.set_cons_succ]
            refine plan_w (v := ?_) rfl (by rfl) ?_ ?_
            rotate_left
            · intro wx hSx
              try dsimp only at hSx
              go_simp
              try (with_reducible rfl)
            try simp only [Act.put, List.setIfInBounds_toArray, List.set_cons_zero, List.set_cons_succ]
            refine plan_b rfl (fun K hK => ?_)
            go_simp
            refine (l01Point_any _ _ _).mono ?_
            rintro e w1 ⟨rfl, hb1⟩
            rw [HP.out]
            have hS1 := keep2b hS0 hb1
            refine hK _ _ ⟨hS1, ?_⟩
            clear hK K
            try simp only [Act.put, List.setIfInBounds_toArray, List.set_cons_zero, List.set_cons_succ]
            refine plan_w (v := ?_) rfl (by rfl) ?_ ?_
            rotate_left
            · intro wx hSx
              try dsimp only at hSx
              go_simp
              try (with_reducible rfl)
            try simp only [Act.put, List.setIfInBounds_toArray, List.set_cons_zero, List.set_cons_succ]
            refine plan_w (v := ?_) rfl (by rfl) ?_ ?_
            rotate_left
            · intro wx hSx
              try dsimp only at hSx
              go_simp
              try (with_reducible rfl)
            try simp only [Act.put, List.setIfInBounds_toArray, List.set_cons_zero, List.set_cons_succ]
            refine plan_u rfl (by rfl) ?_
            try simp only [Act.put, List.setIfInBounds_toArray, List.set_cons_zero, List.set_cons_succ]
            refine plan_u rfl (by rfl) ?_
            try simp only [Act.put, List.setIfInBounds_toArray, List.set_cons_zero, List.set_cons_succ]
            refine plan_u rfl (by rfl) ?_
            try simp only [Act.put, List.setIfInBounds_toArray, List.set_cons_zero, List.set_cons_succ]
            refine plan_u rfl (by rfl) ?_
            try simp only [Act.put, List.setIfInBounds_toArray, List.set_cons_zero, List.set_cons_succ]
            refine plan_u rfl (by rfl) ?_
            try simp only [Act.put, List.setIfInBounds_toArray, List.set_cons_zero, List.set_cons_succ]
            refine plan_u rfl (by rfl) ?_
            try simp only [Act.put, List.setIfInBounds_toArray, List.set_cons_zero, List.set_cons_succ]
            refine plan_u rfl (by rfl) ?_
            try simp only [Act.put, List.setIfInBounds_toArray, List.set_cons_zero, List.set_cons_succ]
            refine plan_bu rfl (by rfl) (by assumption) ?_
            try simp only [Act.put, List.setIfInBounds_toArray, List.set_cons_zero, List.set_cons_succ]
            refine plan_u rfl (by rfl) ?_
            try simp only [Act.put, List.setIfInBounds_toArray, List.set_cons_zero, List.set_cons_succ]
            refine plan_w (v := ?_) rfl (by rfl) ?_ ?_
            rotate_left
            · intro wx hSx
              try dsimp only at hSx
              go_simp
              try (with_reducible rfl)
            try simp only [Act.put, List.setIfInBounds_toArray, List.set_cons_zero, List.set_cons_succ]
            refine plan_end ?_
            go_wp2
            go_ret
            exact ⟨retB (by rw [HF.out]), hS1.2.2.1⟩
          · have HP := Lib.hid hpt
            clear hpt
            have hkc : (k : Int) ≤ (c : Int) := by omega
            by_cases hmem : (x, y) ∈ T
            · have HM := Lib.hid hmem
              have HF : Hid (isPins ps = false) := by show _ = _; rw [HR.out]; exact HB.out (by rw [HN.out]; simp [hmem])
              clear hmem
              go_wp2
              refine wp_region_plan (fun wx => wx.cell? ⟨b, off + k * 2, none⟩ = some (.int .i64 x) ∧ wx.cell? ⟨b, off + k * 2 + 1, none⟩ = some (.int .i64 y) ∧ Below w.heap.size w wx ∧ w.heap.size ≤ wx.heap.size) [(0, true), (1, true), (2, true), (3, true), (4, false), (5, true), (6, true), (7, true), (8, true), (9, true), (10, true), (11, true), (12, true), (13, true), (14, false), (15, true), (16, true)] (by kernel_rfl) (by kernel_rfl) (by kernel_rfl) (fun _ d _ _ _ h => by cases d <;> exact h) ⟨d0, d1, hb.drew, hzle⟩ (fun hS0 => ?_)
              refine plan_w (v := ?_) rfl (by rfl) ?_ ?_
              rotate_left
              · intro wx hSx
                try dsimp only at hSx
                go_simp
                try (with_reducible rfl)
              try simp only [Act.put, List.setIfInBounds_toArray, List.set_cons_zero, List.set_cons_succ]
              refine plan_w (v := ?_) rfl (by rfl) ?_ ?_
              rotate_left
              · intro wx hSx
                try dsimp only at hSx
                go_simp
                try (with_reducible rfl)
              try simp only [Act.put, List.setIfInBounds_toArray, List.set_cons_zero, List.set_cons_succ]
              refine plan_w (v := ?_) rfl (by rfl) ?_ ?_
              rotate_left
              · intro wx hSx
                try dsimp only at hSx
                go_simp
                try (with_reducible rfl)
              try simp only [Act.put, List.setIfInBounds_toArray, List.set_cons_zero, List.set_cons_succ]
              refine plan_w (v := ?_) rfl (by rfl) ?_ ?_
              rotate_left
              · intro wx hSx
                try dsimp only at hSx
                go_simp
                try (with_reducible rfl)
              try simp only [Act.put, List.setIfInBounds_toArray, List.set_cons_zero, List.set_cons_succ]
              refine plan_b rfl (fun K hK => ?_)
              go_simp
              refine (l01Point_any _ _ _).mono ?_
              rintro e w1 ⟨rfl, hb1⟩
              rw [HP.out]
              have hS1 := keep2b hS0 hb1
              refine hK _ _ ⟨hS1, ?_⟩
              clear hK K
              try simp only [Act.put, List.setIfInBounds_toArray, List.set_cons_zero, List.set_cons_succ]
              refine plan_w (v := ?_) rfl (by rfl) ?_ ?_
              rotate_left
              · intro wx hSx
                try dsimp only at hSx
                go_simp
                try (with_reducible rfl)
              try simp only [Act.put, List.setIfInBounds_toArray, List.set_cons_zero, List.set_cons_succ]
              refine plan_w (v := ?_) rfl (by rfl) ?_ ?_
              rotate_left
              · intro wx hSx
                try dsimp only at hSx
                go_simp
                try (with_reducible rfl)
              try simp only [Act.put, List.setIfInBounds_toArray, List.set_cons_zero, List.set_cons_succ]
              refine plan_w (v := ?_) rfl (by rfl) ?_ ?_
              rotate_left
              · intro wx hSx
                try dsimp only at hSx
                go_simp
                try (with_reducible rfl)
              try simp only [Act.put, List.setIfInBounds_toArray, List.set_cons_zero, List.set_cons_succ]
              refine plan_w (v := ?_) rfl (by rfl) ?_ ?_
              rotate_left
              · intro wx hSx
                try dsimp only at hSx
                go_simp
                try (with_reducible rfl)
              try simp only [Act.put, List.setIfInBounds_toArray, List.set_cons_zero, List.set_cons_succ]
              refine plan_w (v := ?_) rfl (by rfl) ?_ ?_
              rotate_left
              · intro wx hSx
                try dsimp only at hSx
                go_simp
                try (with_reducible rfl)
              try simp only [Act.put, List.setIfInBounds_toArray, List.set_cons_zero, List.set_cons_succ]
              refine plan_w (v := ?_) rfl (by rfl) ?_ ?_
              rotate_left
              · intro wx hSx
                try dsimp only at hSx
                go_simp
                try (with_reducible rfl)
              try simp only [Act.put, List.setIfInBounds_toArray, List.set_cons_zero, List.set_cons_succ]
              refine plan_w (v := ?_) rfl (by rfl) ?_ ?_
              rotate_left
              · intro wx hSx
                try dsimp only at hSx
                go_simp
                try (with_reducible rfl)
              try simp only [Act.put, List.setIfInBounds_toArray, List.set_cons_zero, List.set_cons_succ]
              refine plan_w (v := ?_) rfl (by rfl) ?_ ?_
              rotate_left
              · intro wx hSx
                try dsimp only at hSx
                go_simp
                try (with_reducible rfl)
              try simp only [Act.put, List.setIfInBounds_toArray, List.set_cons_zero, List.set_cons_succ]
              refine plan_w (v := ?_) rfl (by rfl) ?_ ?_
              rotate_left
              · intro wx hSx
                try dsimp only at hSx
                go_simp
                try (with_reducible rfl)
              try simp only [Act.put, List.setIfInBounds_toArray, List.set_cons_zero, List.set_cons_succ]
              refine plan_b rfl (fun K hK => ?_)
              go_simp
              refine (cx.out _ hS1.2.2.1 _ _).mono ?_
              rintro e w2 ⟨hin, _, hb2⟩
              obtain ⟨j, rfl, hjl⟩ := hin HM.out
              have hj : (0 : Int) ≤ (j : Int) := by omega
              have hS2 := keep2b hS1 hb2
              refine hK _ _ ⟨hS2, ?_⟩
              clear hK K
              try simp only [Act.put, List.setIfInBounds_toArray, List.set_cons_zero, List.set_cons_succ]
              refine plan_w (v := ?_) rfl (by rfl) ?_ ?_
              rotate_left
              · intro wx hSx
                try dsimp only at hSx
                go_simp
                try (with_reducible rfl)
              try simp only [Act.put, List.setIfInBounds_toArray, List.set_cons_zero, List.set_cons_succ]
              refine plan_w (v := ?_) rfl (by rfl) ?_ ?_
              rotate_left
              · intro wx hSx
                try dsimp only at hSx
                go_simp
                try (with_reducible rfl)
              try simp only [Act.put, List.setIfInBounds_toArray, List.set_cons_zero, List.set_cons_succ]
              refine plan_end ?_
              go_wp2
              go_ret
              exact ⟨retB (by rw [HF.out]), hS2.2.2.1⟩
            · have HM := Lib.hid hmem
              have HT : Hid (pinsTo ps (k + 1) = true) := by show _ = _; rw [HN.out, HA.out, HP.out, decide_eq_false hmem]; rfl
              clear hmem
              go_wp2
              refine wp_region_plan (fun wx => wx.cell? ⟨b, off + k * 2, none⟩ = some (.int .i64 x) ∧ wx.cell? ⟨b, off + k * 2 + 1, none⟩ = some (.int .i64 y) ∧ Below w.heap.size w wx ∧ w.heap.size ≤ wx.heap.size) [(0, true), (1, true), (2, true), (3, true), (4, false), (5, true), (6, true), (7, true), (8, true), (9, true), (10, true), (11, true), (12, true), (13, true), (14, false), (15, true), (16, true)] (by kernel_rfl) (by kernel_rfl) (by kernel_rfl) (fun _ d _ _ _ h => by cases d <;> exact h) ⟨d0, d1, hb.drew, hzle⟩ (fun hS0 => ?_)
              refine plan_w (v := ?_) rfl (by rfl) ?_ ?_
              rotate_left
              · intro wx hSx
                try dsimp only at hSx
                go_simp
                try (with_reducible rfl)
              try simp only [Act.put, List.setIfInBounds_toArray, List.set_cons_zero, List.set_cons_succ]
              refine plan_w (v := ?_) rfl (by rfl) ?_ ?_
              rotate_left
              · intro wx hSx
                try dsimp only at hSx
                go_simp
                try (with_reducible rfl)
              try simp only [Act.put, List.setIfInBounds_toArray, List.set_cons_zero, List.set_cons_succ]
              refine plan_w (v := ?_) rfl (by rfl) ?_ ?_
              rotate_left
              · intro wx hSx
                try dsimp only at hSx
                go_simp
                try (with_reducible rfl)
              try simp only [Act.put, List.setIfInBounds_toArray, List.set_cons_zero, List.set_cons_succ]
              refine plan_w (v := ?_) rfl (by rfl) ?_ ?_
              rotate_left
              · intro wx hSx
                try dsimp only at hSx
                go_simp
                try (with_reducible rfl)
              try simp only [Act.put, List.setIfInBounds_toArray, List.set_cons_zero, List.set_cons_succ]
              refine plan_b rfl (fun K hK => ?_)
              go_simp
              refine (l01Point_any _ _ _).mono ?_
              rintro e w1 ⟨rfl, hb1⟩
              rw [HP.out]
              have hS1 := keep2b hS0 hb1
              refine hK _ _ ⟨hS1, ?_⟩
              clear hK K
              try simp only [Act.put, List.setIfInBounds_toArray, List.set_cons_zero, List.set_cons_succ]
              refine plan_w (v := ?_) rfl (by rfl) ?_ ?_
              rotate_left
              · intro wx hSx
                try dsimp only at hSx
                go_simp
                try (with_reducible rfl)
              try simp only [Act.put, List.setIfInBounds_toArray, List.set_cons_zero, List.set_cons_succ]
              refine plan_w (v := ?_) rfl (by rfl) ?_ ?_
              rotate_left
              · intro wx hSx
                try dsimp only at hSx
                go_simp
                try (with_reducible rfl)
              try simp only [Act.put, List.setIfInBounds_toArray, List.set_cons_zero, List.set_cons_succ]
              refine plan_w (v := ?_) rfl (by rfl) ?_ ?_
              rotate_left
              · intro wx hSx
                try dsimp only at hSx
                go_simp
                try (with_reducible rfl)
              try simp only [Act.put, List.setIfInBounds_toArray, List.set_cons_zero, List.set_cons_succ]
              refine plan_w (v := ?_) rfl (by rfl) ?_ ?_
              rotate_left
              · intro wx hSx
                try dsimp only at hSx
                go_simp
                try (with_reducible rfl)
              try simp only [Act.put, List.setIfInBounds_toArray, List.set_cons_zero, List.set_cons_succ]
              refine plan_w (v := ?_) rfl (by rfl) ?_ ?_
              rotate_left
              · intro wx hSx
                try dsimp only at hSx
                go_simp
                try (with_reducible rfl)
              try simp only [Act.put, List.setIfInBounds_toArray, List.set_cons_zero, List.set_cons_succ]
              refine plan_w (v := ?_) rfl (by rfl) ?_ ?_
              rotate_left
              · intro wx hSx
                try dsimp only at hSx
                go_simp
                try (with_reducible rfl)
              try simp only [Act.put, List.setIfInBounds_toArray, List.set_cons_zero, List.set_cons_succ]
              refine plan_w (v := ?_) rfl (by rfl) ?_ ?_
              rotate_left
              · intro wx hSx
                try dsimp only at hSx
                go_simp
                try (with_reducible rfl)
              try simp only [Act.put, List.setIfInBounds_toArray, List.set_cons_zero, List.set_cons_succ]
              refine plan_w (v := ?_) rfl (by rfl) ?_ ?_
              rotate_left
              · intro wx hSx
                try dsimp only at hSx
                go_simp
                try (with_reducible rfl)
              try simp only [Act.put, List.setIfInBounds_toArray, List.set_cons_zero, List.set_cons_succ]
              refine plan_w (v := ?_) rfl (by rfl) ?_ ?_
              rotate_left
              · intro wx hSx
                try dsimp only at hSx
                go_simp
                try (with_reducible rfl)
              try simp only [Act.put, List.setIfInBounds_toArray, List.set_cons_zero, List.set_cons_succ]
              refine plan_b rfl (fun K hK => ?_)
              go_simp
              refine (cx.out _ hS1.2.2.1 _ _).mono ?_
              rintro e w2 ⟨_, hout, hb2⟩
              obtain rfl := hout HM.out
              have hS2 := keep2b hS1 hb2
              refine hK _ _ ⟨hS2, ?_⟩
              clear hK K
              try simp only [Act.put, List.setIfInBounds_toArray, List.set_cons_zero, List.set_cons_succ]
              refine plan_w (v := ?_) rfl (by rfl) ?_ ?_
              rotate_left
              · intro wx hSx
                try dsimp only at hSx
                go_simp
                try (with_reducible rfl)
              try simp only [Act.put, List.setIfInBounds_toArray, List.set_cons_zero, List.set_cons_succ]
              refine plan_w (v := ?_) rfl (by rfl) ?_ ?_
              rotate_left
              · intro wx hSx
                try dsimp only at hSx
                go_simp
                try (with_reducible rfl)
              try simp only [Act.put, List.setIfInBounds_toArray, List.set_cons_zero, List.set_cons_succ]
              refine plan_end ?_
              go_wp2
              go_roundw
              case rel => exact ⟨k + 1, by omega, by go_num, HT, hS2.2.2.1⟩
              case measure => simp [intOf]; omega
        · obtain rfl : k = ps.length := by omega
          go_wp2
          go_ret
          exact ⟨retB (by rw [HR.out, HA.out]), hb⟩
    · have HR : Hid (isPins ps = false) := by show _ = _; unfold isPins; rw [decide_eq_true h0, decide_eq_false h20]; rfl
      have h0I : ¬ (ps.length : Int) < 1 := by omega
      have h20I : (20 : Int) < (ps.length : Int) := by omega
      go_enter Try.func35, Try.ntmps35
      go_wp2
      go_ret
      exact ⟨retB (by rw [HR.out]), Below.refl _ _⟩
  · have HR : Hid (isPins ps = false) := by show _ = _; unfold isPins; rw [decide_eq_false h0]; rfl
    have h0I : (ps.length : Int) < 1 := by omega
    go_enter Try.func35, Try.ntmps35
    go_wp2
    go_ret
    exact ⟨retB (by rw [HR.out]), Below.refl _ _⟩

set_option maxRecDepth 100000 in
set_option maxHeartbeats 800000 in
theorem indexPt_any (A : Option Addr) (ps : List Pt) (c : Nat) (x y : Int) (w : World) (hp : PtsAt w w.heap.size A ps) (hl : ps.length ≤ 1048576) :
    Calls Try.prog 78 #[.slice A ps.length c, .agg #[.int .i64 x, .int .i64 y]] w (IdxPost ps (x, y) w) := by
  go_enter Try.func78, Try.ntmps78
  go_wp2
  go_loopw [5, 8] (fun _ i wr => ∃ k : Nat, k ≤ ps.length ∧ i = .int .i64 k ∧ Hid ((x, y) ∉ ps.take k) ∧ wr.cell? ⟨w.heap.size, 0, none⟩ = some (.int .i64 x) ∧ wr.cell? ⟨w.heap.size, 0 + 1, none⟩ = some (.int .i64 y) ∧ Below w.heap.size w wr ∧ w.heap.size < wr.heap.size) (fun _ i _ => ps.length - (intOf i).toNat)
  case atStart => exact ⟨0, Nat.zero_le _, rfl, by show _ ∉ _; simp, by simp, by simp, by (repeat (first | assumption | exact Below.refl _ _ | (refine bl_alloc ?_ _) | (refine Below.drew ?_) | (refine bl_drewN ?_ _) | (refine bl_set ?_ (by first | (simp; done) | omega | (simp; omega)) _) | (refine bl_trans ?_ (by assumption)) | (refine bl_step ?_ (by assumption) (by first | omega | exact Below.size (by assumption) | (simp; omega) | (simp; exact Below.size (by assumption)))))), by simp⟩
  case round =>
    obtain ⟨k, hk, rfl, HA, q0, q1, hb, hz⟩ := hrel
    by_cases hlt : k < ps.length
    · obtain ⟨b, off, rfl, hbB, hc⟩ := hp (by omega)
      obtain ⟨c0, c1⟩ := hc k hlt
      have d0 := (hb.cell (p := ⟨b, off + k * 2, none⟩) hbB).trans c0
      have d1 := (hb.cell (p := ⟨b, off + k * 2 + 1, none⟩) hbB).trans c1
      have HN := Lib.hid (take_snocP ps k hlt)
      have HM : Hid (ps.getD k (0, 0) ∈ ps) := by show _ ∈ _; simp [List.getD_eq_getElem?_getD, hlt]
      have heq := fun w => run_eql_pt (x, y) (ps.getD k (0, 0)) w
      obtain ⟨pk, hpk⟩ : ∃ pk, ps.getD k (0, 0) = pk := ⟨_, rfl⟩
      rw [hpk] at d0 d1 HN HM heq
      clear hpk hc c0 c1 hp
      obtain ⟨xk, yk⟩ := pk
      have hltI : (k : Int) < (ps.length : Int) := by omega
      have hk0 : (0 : Int) ≤ (k : Int) := by omega
      have hzle : w.heap.size ≤ wr.heap.size := by omega
      by_cases he : (x, y) = (xk, yk)
      · simp only [he, decide_true] at heq
        have HE := Lib.hid he
        clear he
        go_wp2
        go_region_held3 (fun wx => wx.cell? ⟨b, off + k * 2, none⟩ = some (.int .i64 xk) ∧ wx.cell? ⟨b, off + k * 2 + 1, none⟩ = some (.int .i64 yk) ∧ wx.cell? ⟨w.heap.size, 0, none⟩ = some (.int .i64 x) ∧ wx.cell? ⟨w.heap.size, 0 + 1, none⟩ = some (.int .i64 y) ∧ Below w.heap.size w wx ∧ w.heap.size ≤ wx.heap.size)
          (first | exact ⟨d0, d1, q0, q1, hb.drew, hzle⟩) (fail)
        go_wp2
        go_ret
        exact ⟨fun _ => ⟨k, rfl, hk⟩, fun h => absurd (HE.out ▸ HM.out) h, hb.drew⟩
      · simp only [he, decide_false] at heq
        have HE := Lib.hid he
        clear he
        go_wp2
        go_region_held3 (fun wx => wx.cell? ⟨b, off + k * 2, none⟩ = some (.int .i64 xk) ∧ wx.cell? ⟨b, off + k * 2 + 1, none⟩ = some (.int .i64 yk) ∧ wx.cell? ⟨w.heap.size, 0, none⟩ = some (.int .i64 x) ∧ wx.cell? ⟨w.heap.size, 0 + 1, none⟩ = some (.int .i64 y) ∧ Below w.heap.size w wx ∧ w.heap.size ≤ wx.heap.size)
          (first | exact ⟨d0, d1, q0, q1, hb.drew, hzle⟩) (fail)
        go_wp2
        go_roundw
        case rel => exact ⟨k + 1, by omega, by go_num, by show _ ∉ _; rw [HN.out]; simp only [List.mem_append, List.mem_singleton, not_or]; exact ⟨HA.out, fun e => HE.out e⟩, q0, q1, hb.drew, hz⟩
        case measure => simp [intOf]; omega
    · have HF : Hid ((x, y) ∉ ps) := by
        show _ ∉ _
        have := HA.out
        rwa [List.take_of_length_le (by omega)] at this
      go_wp2
      go_ret
      exact ⟨fun h => absurd h HF.out, fun _ => rfl, hb⟩

theorem containsPt_any (A : Option Addr) (ps : List Pt) (n c : Nat) (x y : Int) (w : World) (hn : ps.length = n) (hp : PtsAt w w.heap.size A ps) (hl : n ≤ 1048576) :
    Calls Try.prog 37 #[.slice A n c, .agg #[.int .i64 x, .int .i64 y]] w fun e w' => e = .returned (.bool (decide ((x, y) ∈ ps))) ∧ Below w.heap.size w w' := by
  subst hn
  have hx0 : Below w.heap.size w (w.alloc (.cells #[.int .i64 x, .int .i64 y] 33)) := by (repeat (first | assumption | exact Below.refl _ _ | (refine bl_alloc ?_ _) | (refine Below.drew ?_) | (refine bl_drewN ?_ _) | (refine bl_set ?_ (by first | (simp; done) | omega | (simp; omega)) _) | (refine bl_trans ?_ (by assumption)) | (refine bl_step ?_ (by assumption) (by first | omega | exact Below.size (by assumption) | (simp; omega) | (simp; exact Below.size (by assumption))))))
  have ci := indexPt_any A ps c x y _ (hp.to hx0) hl
  by_cases hm : (x, y) ∈ ps
  · have HM := Lib.hid hm
    have HD := Lib.hid (decide_eq_true hm)
    clear hm
    go_enter Try.func37, Try.ntmps37
    go_wp2_with fail
    refine ci.mono ?_
    rintro e w1 ⟨hin, _, hb1⟩
    obtain ⟨j, rfl, _⟩ := hin HM.out
    have hj : (0 : Int) ≤ (j : Int) := by omega
    have b1 := bl_trans hx0 hb1
    go_wp2
    go_ret
    exact ⟨retB (by rw [HD.out]), b1⟩
  · have HM := Lib.hid hm
    have HD := Lib.hid (decide_eq_false hm)
    clear hm
    go_enter Try.func37, Try.ntmps37
    go_wp2_with fail
    refine ci.mono ?_
    rintro e w1 ⟨_, hout, hb1⟩
    obtain rfl := hout HM.out
    have b1 := bl_trans hx0 hb1
    go_wp2
    go_ret
    exact ⟨retB (by rw [HD.out]), b1⟩

theorem ArePinsS_any (A : Option Addr) (ps : List Pt) (c : Nat) (w : World) (hp : PtsAt w w.heap.size A ps) (hl : ps.length ≤ 1048576) (hlc : ps.length ≤ c) :
    Calls Try.prog 11 #[.slice A ps.length c] w fun e w' => e = .returned (.bool (isPins ps)) ∧ Below w.heap.size w w' := by
  go_enter Try.func11, Try.ntmps11
  go_wp2_with (go_at_call 35; refine (l05Is_any _ _ _ _ hp hl hlc).mono ?_; rintro e w' ⟨rfl, hb'⟩)
  go_ret
  exact ⟨rfl, hb'⟩

theorem pinsTo_grid {ps : List Pt} {k : Nat} (ha : allPt ps = true) (h : k < ps.length) : pinsTo ps (k + 1) = (pinsTo ps k && !decide (ps.getD k (0, 0) ∈ ps.take k)) := by
  rw [pinsTo_snoc h, allPt_at ha h, Bool.true_and]
theorem isPins_grid {ps : List Pt} (ha : allPt ps = false) : isPins ps = false := by
  unfold isPins; rw [pinsTo_all, ha]; simp

set_option maxRecDepth 100000 in
set_option maxHeartbeats 800000 in
theorem ArePinsI_any (A : Option Addr) (ps : List Pt) (c : Nat) (w : World) (hp : PtsAt w w.heap.size A ps) (hl : ps.length ≤ 1048576) (hlc : ps.length ≤ c) :
    Calls Try.prog 13 #[.slice A ps.length c] w fun e w' => e = .returned (.bool (isPins ps)) ∧ Below w.heap.size w w' := by
  by_cases h0 : 0 < ps.length
  · by_cases h20 : ps.length ≤ 20
    · have h0I : ¬ (ps.length : Int) < 1 := by omega
      have h20I : ¬ (20 : Int) < (ps.length : Int) := by omega
      cases ha : allPt ps
      · have HR := Lib.hid (isPins_grid ha)
        have HA := Lib.hid ha
        clear ha
        go_enter Try.func13, Try.ntmps13
        go_wp2_with (go_at_call 36; refine (areOnGrid_any _ _ _ _ hp hl).mono ?_; rintro e w' ⟨rfl, hb'⟩; rw [HA.out])
        go_ret
        exact ⟨retB (by rw [HR.out]), hb'⟩
      · have HR : Hid (isPins ps = pinsTo ps ps.length) := by show _ = _; unfold isPins; rw [decide_eq_true h0, decide_eq_true h20]; rfl
        have HG := Lib.hid ha
        clear ha
        go_enter Try.func13, Try.ntmps13
        go_wp2_with (go_at_call 36; refine (areOnGrid_any _ _ _ _ hp hl).mono ?_; rintro e w0 ⟨rfl, hb0⟩; rw [HG.out])
        go_loopw [3, 4, 20] (fun _ _ i wr => ∃ k : Nat, k ≤ ps.length ∧ i = .int .i64 k ∧ Hid (pinsTo ps k = true) ∧ Below w.heap.size w wr) (fun _ _ i _ => ps.length - (intOf i).toNat)
        case atStart => exact ⟨0, Nat.zero_le _, rfl, pinsTo_zero ps, hb0⟩
        case round =>
          obtain ⟨k, hk, rfl, HA, hb⟩ := hrel
          clear hb0
          have hk0 : (0 : Int) ≤ (k : Int) := by omega
          by_cases hlt : k < ps.length
          · have hkI : (k : Int) < (ps.length : Int) := by omega
            have hkc : (k : Int) ≤ (c : Int) := by omega
            have hp0 := hp
            obtain ⟨b, off, rfl, hbB, hc⟩ := hp (by omega)
            obtain ⟨c0, c1⟩ := hc k hlt
            have d0 := (hb.cell (p := ⟨b, off + k * 2, none⟩) hbB).trans c0
            have d1 := (hb.cell (p := ⟨b, off + k * 2 + 1, none⟩) hbB).trans c1
            have HN := Lib.hid (pinsTo_grid HG.out hlt)
            have HB := Lib.hid (pinsTo_bad hlt (Nat.le_refl _))
            have hkl : (ps.take k).length = k := by rw [List.length_take]; omega
            generalize ps.getD k (0, 0) = p at *
            obtain ⟨x, y⟩ := p
            simp only at d0 d1 HN
            have cx := fun (w1 : World) (hb1 : Below w.heap.size w w1) => containsPt_any (some ⟨b, off, none⟩) (ps.take k) k c x y w1 hkl ((hp.to hb1).take k) (by omega)
            obtain ⟨T, hT⟩ : ∃ T, ps.take k = T := ⟨_, rfl⟩
            rw [hT] at cx HN
            clear hc c0 c1 hp hp0 hT hkl
            cases hm : decide ((x, y) ∈ T)
            · have HT : Hid (pinsTo ps (k + 1) = true) := by show _ = _; rw [HN.out, HA.out, hm]; rfl
              rw [hm] at cx
              have CX := Lib.hid cx
              clear cx hm
              have q0 : (wr.alloc (.cells #[.int .i64 x, .int .i64 y] 33)).cell? ⟨wr.heap.size, 0, none⟩ = some (.int .i64 x) := by go_simp
              have q1 : (wr.alloc (.cells #[.int .i64 x, .int .i64 y] 33)).cell? ⟨wr.heap.size, 0 + 1, none⟩ = some (.int .i64 y) := by go_simp
              have bq : Below w.heap.size w (wr.alloc (.cells #[.int .i64 x, .int .i64 y] 33)) := hb.alloc hb.size _
              have hzq : w.heap.size ≤ (wr.alloc (.cells #[.int .i64 x, .int .i64 y] 33)).heap.size := bq.size
              go_wp2
              refine wp_region_plan (fun wx => wx.cell? ⟨wr.heap.size, 0, none⟩ = some (.int .i64 x) ∧ wx.cell? ⟨wr.heap.size, 0 + 1, none⟩ = some (.int .i64 y) ∧ Below w.heap.size w wx ∧ w.heap.size ≤ wx.heap.size) [(0, true), (1, true), (2, true), (3, true), (4, false)] (by kernel_rfl) (by kernel_rfl) (by kernel_rfl) (fun _ d _ _ _ h => by cases d <;> exact h) ⟨q0, q1, bq.drew, hzq⟩ (fun hS0 => ?_)
              refine plan_w (v := ?_) rfl (by rfl) ?_ ?_
              rotate_left
              · intro wx hSx
                try dsimp only at hSx
                go_simp
                try (with_reducible rfl)
              try simp only [Act.put, List.setIfInBounds_toArray, List.set_cons_zero, List.set_cons_succ]
              refine plan_w (v := ?_) rfl (by rfl) ?_ ?_
              rotate_left
              · intro wx hSx
                try dsimp only at hSx
                go_simp
                try (with_reducible rfl)
              try simp only [Act.put, List.setIfInBounds_toArray, List.set_cons_zero, List.set_cons_succ]
              refine plan_w (v := ?_) rfl (by rfl) ?_ ?_
              rotate_left
              · intro wx hSx
                try dsimp only at hSx
                go_simp
                try (with_reducible rfl)
              try simp only [Act.put, List.setIfInBounds_toArray, List.set_cons_zero, List.set_cons_succ]
              refine plan_w (v := ?_) rfl (by rfl) ?_ ?_
              rotate_left
              · intro wx hSx
                try dsimp only at hSx
                go_simp
                try (with_reducible rfl)
              try simp only [Act.put, List.setIfInBounds_toArray, List.set_cons_zero, List.set_cons_succ]
              refine plan_b rfl (fun K hK => ?_)
              go_simp
              refine (CX.out _ hS0.2.2.1).mono ?_
              rintro e w1 ⟨rfl, hb1⟩
              have hS1 := keep2b hS0 hb1
              refine hK _ _ ⟨hS1, ?_⟩
              clear hK K
              try simp only [Act.put, List.setIfInBounds_toArray, List.set_cons_zero, List.set_cons_succ]
              refine plan_end ?_
              go_wp2
              go_roundw
              case rel => exact ⟨k + 1, by omega, by go_num, HT, hS1.2.2.1⟩
              case measure => simp [intOf]; omega
            · have HT : Hid (isPins ps = false) := by show _ = _; rw [HR.out]; exact HB.out (by rw [HN.out, hm]; simp)
              rw [hm] at cx
              have CX := Lib.hid cx
              clear cx hm
              have q0 : (wr.alloc (.cells #[.int .i64 x, .int .i64 y] 33)).cell? ⟨wr.heap.size, 0, none⟩ = some (.int .i64 x) := by go_simp
              have q1 : (wr.alloc (.cells #[.int .i64 x, .int .i64 y] 33)).cell? ⟨wr.heap.size, 0 + 1, none⟩ = some (.int .i64 y) := by go_simp
              have bq : Below w.heap.size w (wr.alloc (.cells #[.int .i64 x, .int .i64 y] 33)) := hb.alloc hb.size _
              have hzq : w.heap.size ≤ (wr.alloc (.cells #[.int .i64 x, .int .i64 y] 33)).heap.size := bq.size
              go_wp2
              refine wp_region_plan (fun wx => wx.cell? ⟨wr.heap.size, 0, none⟩ = some (.int .i64 x) ∧ wx.cell? ⟨wr.heap.size, 0 + 1, none⟩ = some (.int .i64 y) ∧ Below w.heap.size w wx ∧ w.heap.size ≤ wx.heap.size) [(0, true), (1, true), (2, true), (3, true), (4, false)] (by kernel_rfl) (by kernel_rfl) (by kernel_rfl) (fun _ d _ _ _ h => by cases d <;> exact h) ⟨q0, q1, bq.drew, hzq⟩ (fun hS0 => ?_)
              refine plan_w (v := ?_) rfl (by rfl) ?_ ?_
              rotate_left
              · intro wx hSx
                try dsimp only at hSx
                go_simp
                try (with_reducible rfl)
              try simp only [Act.put, List.setIfInBounds_toArray, List.set_cons_zero, List.set_cons_succ]
              refine plan_w (v := ?_) rfl (by rfl) ?_ ?_
              rotate_left
              · intro wx hSx
                try dsimp only at hSx
                go_simp
                try (with_reducible rfl)
              try simp only [Act.put, List.setIfInBounds_toArray, List.set_cons_zero, List.set_cons_succ]
              refine plan_w (v := ?_) rfl (by rfl) ?_ ?_
              rotate_left
              · intro wx hSx
                try dsimp only at hSx
                go_simp
                try (with_reducible rfl)
              try simp only [Act.put, List.setIfInBounds_toArray, List.set_cons_zero, List.set_cons_succ]
              refine plan_w (v := ?_) rfl (by rfl) ?_ ?_
              rotate_left
              · intro wx hSx
                try dsimp only at hSx
                go_simp
                try (with_reducible rfl)
              try simp only [Act.put, List.setIfInBounds_toArray, List.set_cons_zero, List.set_cons_succ]
              refine plan_b rfl (fun K hK => ?_)
              go_simp
              refine (CX.out _ hS0.2.2.1).mono ?_
              rintro e w1 ⟨rfl, hb1⟩
              have hS1 := keep2b hS0 hb1
              refine hK _ _ ⟨hS1, ?_⟩
              clear hK K
              try simp only [Act.put, List.setIfInBounds_toArray, List.set_cons_zero, List.set_cons_succ]
              refine plan_end ?_
              go_wp2
              go_ret
              exact ⟨retB (by rw [HT.out]), hS1.2.2.1⟩
          · obtain rfl : k = ps.length := by omega
            go_wp2
            go_ret
            exact ⟨retB (by rw [HR.out, HA.out]), hb⟩
    · have HR : Hid (isPins ps = false) := by show _ = _; unfold isPins; rw [decide_eq_true h0, decide_eq_false h20]; rfl
      have h0I : ¬ (ps.length : Int) < 1 := by omega
      have h20I : (20 : Int) < (ps.length : Int) := by omega
      go_enter Try.func13, Try.ntmps13
      go_wp2
      go_ret
      exact ⟨retB (by rw [HR.out]), Below.refl _ _⟩
  · have HR : Hid (isPins ps = false) := by show _ = _; unfold isPins; rw [decide_eq_false h0]; rfl
    have h0I : (ps.length : Int) < 1 := by omega
    go_enter Try.func13, Try.ntmps13
    go_wp2
    go_ret
    exact ⟨retB (by rw [HR.out]), Below.refl _ _⟩
end Go.Proofs.Ytepamhdopmfkfaa
