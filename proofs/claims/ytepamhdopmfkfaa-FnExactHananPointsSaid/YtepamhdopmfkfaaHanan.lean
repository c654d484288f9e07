/-
  Contracts: the points of the grid of pins, before they are put in order.
-/
import Derived.Test.YtepamhdopmfkfaaStar
import Derived.Test.YtepamhdopmfkfaaSortS
import Derived.Test.YtepamhdopmfkfaaAlong
namespace Go.Proofs.Ytepamhdopmfkfaa
set_option linter.unusedSimpArgs false
set_option linter.unusedVariables false
open Go.ChangeShapes Go.WideShapes Go.ChangeAt Go.RowKit

/-- All X of the first i with all Y, and the X of the next one with the first k Y. -/
def hanL (ps : List Pt) (i k : Nat) : List Pt := ((ps.take i).flatMap fun p => ps.map fun q => (p.1, q.2)) ++ ((ps.take k).map fun q => ((ps.getD i (0, 0)).1, q.2))
def hanA (ps : List Pt) : List Pt := ps.flatMap fun p => ps.map fun q => (p.1, q.2)
theorem hanL_zero (ps : List Pt) : hanL ps 0 0 = [] := by simp [hanL]
theorem hanL_next {ps : List Pt} {i k : Nat} (hk : k < ps.length) : hanL ps i (k + 1) = hanL ps i k ++ [((ps.getD i (0, 0)).1, (ps.getD k (0, 0)).2)] := by
  unfold hanL; rw [take_snocP ps k hk]; simp
theorem hanL_row {ps : List Pt} {i : Nat} (hi : i < ps.length) : hanL ps i ps.length = hanL ps (i + 1) 0 := by
  unfold hanL; rw [take_snocP ps i hi]; simp
theorem hanL_end (ps : List Pt) : hanL ps ps.length 0 = hanA ps := by unfold hanL hanA; simp
theorem flat_len (l ps : List Pt) : (l.flatMap fun p => ps.map fun q => (p.1, q.2)).length = l.length * ps.length := by
  induction l with
  | nil => simp
  | cons a l ih => rw [List.flatMap_cons, List.length_append, ih, List.length_cons, Nat.succ_mul]; simp; omega
theorem hanL_len {ps : List Pt} {i k : Nat} (h : ps.length ≤ 20) (hi : i ≤ 20) (hk : k ≤ 20) : (hanL ps i k).length ≤ 420 := by
  unfold hanL
  rw [List.length_append, flat_len, List.length_map, List.length_take, List.length_take]
  have : min i ps.length * ps.length ≤ 20 * 20 := Nat.mul_le_mul (by omega) h
  omega
theorem hanA_len {ps : List Pt} {n : Nat} (h : ps.length ≤ n) : (hanA ps).length ≤ n * n := by
  unfold hanA
  rw [flat_len]
  exact Nat.mul_le_mul h h
theorem hanA_mem {ps : List Pt} {q : Pt} : q ∈ hanA ps ↔ (∃ p ∈ ps, p.1 = q.1) ∧ ∃ p ∈ ps, p.2 = q.2 := by
  unfold hanA
  rw [List.mem_flatMap]
  constructor
  · rintro ⟨p, hp, h⟩
    rw [List.mem_map] at h
    obtain ⟨r, hr, rfl⟩ := h
    exact ⟨⟨p, hp, rfl⟩, r, hr, rfl⟩
  · rintro ⟨⟨p, hp, h1⟩, r, hr, h2⟩
    exact ⟨p, hp, List.mem_map.2 ⟨r, hr, by obtain ⟨a, b⟩ := q; simp at h1 h2; simp [h1, h2]⟩⟩

theorem OwnL.lower {w : World} {B B' : Nat} {v : Value} {L : List Pt} (h : OwnL w B' v L) (hB : B ≤ B') : OwnL w B v L :=
  ⟨h.1, h.2.imp id fun ⟨g, cap, cur, e, hg, r⟩ => ⟨g, cap, cur, e, Nat.le_trans hB hg, r⟩⟩
set_option maxRecDepth 100000 in
set_option maxHeartbeats 1600000 in
theorem l05Hanan_any (A : Option Addr) (ps : List Pt) (c : Nat) (w : World) (hp : PtsAt w w.heap.size A ps) (hl : ps.length ≤ 20) :
    Calls Try.prog 52 #[.slice A ps.length c] w (SortPost (hanA ps) w) := by
  obtain ⟨i0, hi0, hiz, his, hib⟩ := info_parts infoPtO
  have ho0 : OwnL (w.alloc (.cells #[] 33)) w.heap.size (.slice (some ⟨w.heap.size, 0, none⟩) 0 0) (hanL ps 0 0) := by rw [hanL_zero]; exact ⟨rfl, .inr ⟨w.heap.size, 0, #[], rfl, Nat.le_refl _, heap_alloc_new w _, Nat.le_refl _, Nat.zero_le _, rfl, rfl⟩⟩
  have b0 : Below w.heap.size w (w.alloc (.cells #[] 33)) := by (repeat (first | assumption | exact Below.refl _ _ | (refine bl_alloc ?_ _) | (refine Below.drew ?_) | (refine bl_drewN ?_ _) | (refine bl_set ?_ (by first | (simp; done) | omega | (simp; omega)) _) | (refine bl_trans ?_ (by assumption)) | (refine bl_step ?_ (by assumption) (by first | omega | exact Below.size (by assumption) | (simp; omega) | (simp; exact Below.size (by assumption))))))
  go_enter Try.func52, Try.ntmps52
  go_wp2
  go_loopw [3, 4, 5] (fun v i _ wr => ∃ k : Nat, k ≤ ps.length ∧ i = .int .i64 k ∧ OwnL wr w.heap.size v (hanL ps k 0) ∧ Below w.heap.size w wr) (fun _ i _ _ => ps.length - (intOf i).toNat)
  case atStart => exact ⟨0, Nat.zero_le _, rfl, ho0, b0⟩
  case round =>
    clear ho0 b0
    obtain ⟨k, hk, rfl, hown, hb⟩ := hrel
    by_cases hlt : k < ps.length
    · have hltI : (k : Int) < (ps.length : Int) := by omega
      have hk0 : (0 : Int) ≤ (k : Int) := by omega
      have HRow := Lib.hid (hanL_row hlt)
      go_wp2
      go_loopw [3, 5] (fun v i wr => ∃ m : Nat, m ≤ ps.length ∧ i = .int .i64 m ∧ OwnL wr w.heap.size v (hanL ps k m) ∧ Below w.heap.size w wr) (fun _ i _ => ps.length - (intOf i).toNat)
      case atStart => exact ⟨0, Nat.zero_le _, rfl, hown, hb⟩
      case round =>
        clear hown hb
        obtain ⟨m, hm, rfl, hown, hb⟩ := hrel
        by_cases hmt : m < ps.length
        · obtain ⟨b, off, hA, hbB, hc⟩ := hp (by omega)
          subst hA
          obtain ⟨c0, c1⟩ := hc k hlt
          obtain ⟨e0, e1⟩ := hc m hmt
          have d0 := (hb.cell (p := ⟨b, off + k * 2, none⟩) hbB).trans c0
          have d1 := (hb.cell (p := ⟨b, off + m * 2 + 1, none⟩) hbB).trans e1
          have hmtI : (m : Int) < (ps.length : Int) := by omega
          have hm0 : (0 : Int) ≤ (m : Int) := by omega
          have HN := Lib.hid (hanL_next (i := k) hmt)
          have hL := hanL_len hl (show k ≤ 20 by omega) (show m ≤ 20 by omega)
          have hz := hb.size
          generalize (ps.getD k (0, 0)).1 = X at *
          generalize (ps.getD m (0, 0)).2 = Y at *
          obtain ⟨L, hLL⟩ : ∃ L, hanL ps k m = L := ⟨_, rfl⟩
          rw [hLL] at hown HN hL
          clear hLL c0 c1 e0 e1 hc
          go_wp2
          refine wp_region_plan (fun wx => wx.cell? ⟨b, off + k * 2, none⟩ = some (.int .i64 X) ∧ wx.cell? ⟨b, off + m * 2 + 1, none⟩ = some (.int .i64 Y) ∧ Below w.heap.size w wx ∧ w.heap.size ≤ wx.heap.size) [(0, true), (1, true), (2, true), (3, true), (4, true), (5, true), (6, true), (7, true), (8, true), (9, true), (10, true), (11, true), (12, false), (13, false), (14, true)] (by kernel_rfl) (by kernel_rfl) (by kernel_rfl) (fun _ d _ _ _ h => by cases d <;> exact h) ⟨d0, d1, hb.drew, hz⟩ (fun hS0 => ?_)
          refine plan_w (v := ?_) rfl (by rfl) ?_ ?_
          rotate_left
          · intro wx hSx
            try dsimp only at hSx
            go_simp
            try (with_reducible rfl)
          try simp only [Act.put, List.setIfInBounds_toArray, List.set_cons_zero, List.set_cons_succ]
          refine plan_w (v := ?_) rfl (by rfl) ?_ ?_
          rotate_left
          · intro wx hSx
            try dsimp only at hSx
            go_simp
            try (with_reducible rfl)
          try simp only [Act.put, List.setIfInBounds_toArray, List.set_cons_zero, List.set_cons_succ]
          refine plan_w (v := ?_) rfl (by rfl) ?_ ?_
          rotate_left
          · intro wx hSx
            try dsimp only at hSx
            go_simp
            try (with_reducible rfl)
          try simp only [Act.put, List.setIfInBounds_toArray, List.set_cons_zero, List.set_cons_succ]
          refine plan_w (v := ?_) rfl (by rfl) ?_ ?_
          rotate_left
          · intro wx hSx
            try dsimp only at hSx
            go_simp
            try (with_reducible rfl)
          try simp only [Act.put, List.setIfInBounds_toArray, List.set_cons_zero, List.set_cons_succ]
          refine plan_w (v := ?_) rfl (by rfl) ?_ ?_
          rotate_left
          · intro wx hSx
            try dsimp only at hSx
            go_simp
            try (with_reducible rfl)
          try simp only [Act.put, List.setIfInBounds_toArray, List.set_cons_zero, List.set_cons_succ]
          refine plan_w (v := ?_) rfl (by rfl) ?_ ?_
          rotate_left
          · intro wx hSx
            try dsimp only at hSx
            go_simp
            try (with_reducible rfl)
          try simp only [Act.put, List.setIfInBounds_toArray, List.set_cons_zero, List.set_cons_succ]
          refine plan_w (v := ?_) rfl (by rfl) ?_ ?_
          rotate_left
          · intro wx hSx
            try dsimp only at hSx
            go_simp
            try (with_reducible rfl)
          try simp only [Act.put, List.setIfInBounds_toArray, List.set_cons_zero, List.set_cons_succ]
          refine plan_w (v := ?_) rfl (by rfl) ?_ ?_
          rotate_left
          · intro wx hSx
            try dsimp only at hSx
            go_simp
            try (with_reducible rfl)
          try simp only [Act.put, List.setIfInBounds_toArray, List.set_cons_zero, List.set_cons_succ]
          refine plan_w (v := ?_) rfl (by rfl) ?_ ?_
          rotate_left
          · intro wx hSx
            try dsimp only at hSx
            go_simp
            try (with_reducible rfl)
          try simp only [Act.put, List.setIfInBounds_toArray, List.set_cons_zero, List.set_cons_succ]
          refine plan_w (v := ?_) rfl (by rfl) ?_ ?_
          rotate_left
          · intro wx hSx
            try dsimp only at hSx
            go_simp
            try (with_reducible rfl)
          try simp only [Act.put, List.setIfInBounds_toArray, List.set_cons_zero, List.set_cons_succ]
          refine plan_w (v := ?_) rfl (by rfl) ?_ ?_
          rotate_left
          · intro wx hSx
            try dsimp only at hSx
            go_simp
            try (with_reducible rfl)
          try simp only [Act.put, List.setIfInBounds_toArray, List.set_cons_zero, List.set_cons_succ]
          refine plan_w (v := ?_) rfl (by rfl) ?_ ?_
          rotate_left
          · intro wx hSx
            try dsimp only at hSx
            go_simp
            try (with_reducible rfl)
          try simp only [Act.put, List.setIfInBounds_toArray, List.set_cons_zero, List.set_cons_succ]
          refine plan_b rfl (fun K hK => ?_)
          go_simp
          have b1 : Below w.heap.size w (World.drew (wr.alloc (.cells #[.int .i64 X, .int .i64 Y] 33))) := (hb.alloc hz _).drew
          have o1 : OwnL (World.drew (wr.alloc (.cells #[.int .i64 X, .int .i64 Y] 33))) w.heap.size u3 L := own_to (w1 := wr.alloc (.cells #[.int .i64 X, .int .i64 Y] 33)) hown ((Below.refl _ _).alloc (Nat.le_refl _) _)
          have n1 : (World.drew (wr.alloc (.cells #[.int .i64 X, .int .i64 Y] 33))).heap[wr.heap.size]? = some (.cells #[.int .i64 X, .int .i64 Y] 33 (0, 0)) := heap_alloc_new wr _
          have f0 := (b1.cell (p := ⟨b, off + k * 2, none⟩) hbB).trans (hS0.2.2.1.cell (p := ⟨b, off + k * 2, none⟩) hbB).symm
          have f1 := (b1.cell (p := ⟨b, off + m * 2 + 1, none⟩) hbB).trans (hS0.2.2.1.cell (p := ⟨b, off + m * 2 + 1, none⟩) hbB).symm
          refine hK _ _ ⟨⟨f0.trans hS0.1, f1.trans hS0.2.1, b1, b1.size⟩, ?_⟩
          clear hK K f0 f1
          try simp only [Act.put, List.setIfInBounds_toArray, List.set_cons_zero, List.set_cons_succ]
          have hz1 := b1.size
          refine plan_b rfl (fun K hK => ?_)
          refine step_append_at (by rfl) (.tmp 19) (.tmp 31) 25 (by rfl) w.heap.size 33 i0 _ 2 16 Try.underlying25 hi0 hiz his hib rfl (by decide) u3 L.length (cellsP L) (by rfl) o1 ⟨wr.heap.size, 0, none⟩ 1 1 [.int .i64 X, .int .i64 Y] (by rfl) rfl (World.news_of_block n1) (by intro u hu; simp at hu; rcases hu with rfl | rfl <;> rfl) (by unfold maxLen; omega) (by omega) hz1 ?_
          intro v2 w2 hown2 hgrow2 hblk2
          have o2 : OwnL w2 w.heap.size v2 (hanL ps k (m + 1)) := by rw [HN.out]; exact OwnL.snoc hown2
          have b2 : Below w.heap.size w w2 := below_own b1 o1 hgrow2 hz1
          refine hK _ _ ⟨⟨?_, ?_, b2, b2.size⟩, ?_⟩
          · exact (b2.cell (p := ⟨b, off + k * 2, none⟩) hbB).trans ((hS0.2.2.1.cell (p := ⟨b, off + k * 2, none⟩) hbB).symm.trans hS0.1)
          · exact (b2.cell (p := ⟨b, off + m * 2 + 1, none⟩) hbB).trans ((hS0.2.2.1.cell (p := ⟨b, off + m * 2 + 1, none⟩) hbB).symm.trans hS0.2.1)
          clear hK K hown2 hgrow2 hblk2 o1 b1 n1
          try simp only [Act.put, List.setIfInBounds_toArray, List.set_cons_zero, List.set_cons_succ]
          refine plan_w (v := ?_) rfl (by rfl) ?_ ?_
          rotate_left
          · intro wx hSx
            try dsimp only at hSx
            go_simp
            try (with_reducible rfl)
          try simp only [Act.put, List.setIfInBounds_toArray, List.set_cons_zero, List.set_cons_succ]
          refine plan_end ?_
          go_wp2
          go_roundw
          case rel => exact ⟨m + 1, by omega, by go_num, o2, b2⟩
          case measure => simp [intOf]; omega
        · obtain rfl : m = ps.length := by omega
          go_wp2
          go_roundw
          case rel => exact ⟨k + 1, by omega, by go_num, by rw [← HRow.out]; exact hown, hb⟩
          case measure => simp [intOf]; omega
    · obtain rfl : k = ps.length := by omega
      rw [hanL_end] at hown
      obtain ⟨A', c', rfl, hO⟩ := own3_of hown
      have hAl := hanA_len hl
      go_wp2_with fail
      refine (l01Sorted_any _ _ _ _ hO.pts (by omega)).mono ?_
      rintro e w2 ⟨v, L, rfl, ho, hI, hb2⟩
      have b2 := bl_trans hb hb2
      have hz2 := hb.size
      go_wp2
      go_ret
      exact ⟨_, L, rfl, OwnL.lower ho hz2, hI, b2⟩
end Go.Proofs.Ytepamhdopmfkfaa
