/-
  Contracts: the model's points in order.
-/
import Derived.Test.YtepamhdopmfkfaaSortA
import Derived.Test.YtepamhdopmfkfaaHarn
import Derived.Maps.AppendAt
import Derived.Deep.AppendLies
namespace Go.Proofs.Ytepamhdopmfkfaa
set_option linter.unusedSimpArgs false
set_option linter.unusedVariables false
open Go.ChangeShapes Go.WideShapes Go.ChangeAt Go.RowKit

section
variable {P : Program} {w : World}
theorem step_append_at {ops : Array Oper} {o : Oper} {a : Act} {K : Act → World → Prop} {Q : Exit → Act → World → Prop} {E : Prop} (hgd : o.guard = none) (s x : Operand) (t : TypeId)
    (ho : o.op = .call { callee := .builtin .append, args := #[s, x], argTypes := #[t, t] })
    (base : Nat) (e : TypeId) (i : TypeInfo) (z : Value) (size bytes : Nat) (ht : P.underlying t = some (.slice e)) (hi : P.info? e = some i) (hz : i.zero = some z)
    (hsize : i.size = size) (hby : i.bytes = bytes) (hzs : z.cells.size = size) (hsz : 0 < size)
    (v : Value) (n : Nat) (xs : List Value) (hs : a.eval s = v) (hown : w.ownsRow base e size v n xs)
    (ad : Addr) (m c : Nat) (news : List Value) (hx : a.eval x = .slice (some ad) m c) (hl : news.length = m * size) (hnews : ∀ j u, news[j]? = some u → w.cell? (ad.add j) = some u) (h1 : ∀ u ∈ news, u.oneCell' = true)
    (h63 : n + m ≤ maxLen) (hbytes : (n + m) * bytes ≤ 140737488355328) (hbase : base ≤ w.heap.size)
    (h : ∀ v' w', w'.ownsRow base e size v' (n + m) (xs ++ news) → w.grownBy w' v.ownBlock → (v'.ownBlock = v.ownBlock ∨ v'.ownBlock = some w.heap.size) → K (a.put o.dst v') w') :
    if Region.wanted o (yielded ops a.tmps) = true then Oper.wp P o a w K Q else E := by
  have hw : Region.wanted o (yielded ops a.tmps) = true := by simp [Region.wanted, hgd]
  rw [if_pos hw]
  obtain ⟨v', w', hr, h2, h3, _, h5⟩ := run_append_own_at (P := P) w base t o.type e i z size bytes ht hi hz hsize hby hzs hsz v n xs hown ad m c news hl hnews h1 h63 hbytes hbase
  unfold Oper.wp execOp
  simp only [ho, resolve, invoke, builtin, Sem.run_bind, Sem.run_pure, Result.andThen_ok, List.map_toArray, List.map_cons, List.map_nil, hs, hx, hr]
  exact h v' w' h2 h3 h5
end

theorem cellsP_one (L : List Pt) : ∀ u ∈ cellsP L, u.oneCell' = true := by
  intro u hu
  unfold cellsP at hu
  obtain ⟨p, _, hp⟩ := List.mem_flatMap.1 hu
  simp at hp
  rcases hp with rfl | rfl <;> rfl
theorem cellsP_get {L : List Pt} {j : Nat} {u : Value} (h : (cellsP L)[j]? = some u) : ∃ i, i < L.length ∧ ((j = i * 2 ∧ u = .int .i64 (L.getD i (0, 0)).1) ∨ (j = i * 2 + 1 ∧ u = .int .i64 (L.getD i (0, 0)).2)) := by
  have hj : j < L.length * 2 := by
    rcases Nat.lt_or_ge j (cellsP L).length with hh | hh
    · rwa [cellsP_len] at hh
    · rw [List.getElem?_eq_none hh] at h; cases h
  have hi : j / 2 < L.length := by omega
  obtain ⟨e0, e1⟩ := cellsP_at L (j / 2) hi
  refine ⟨j / 2, hi, ?_⟩
  rcases Nat.mod_two_eq_zero_or_one j with hm | hm
  · left
    have e : j = j / 2 * 2 := by omega
    refine ⟨e, ?_⟩
    rw [← e, h] at e0
    exact Option.some.inj e0
  · right
    have e : j = j / 2 * 2 + 1 := by omega
    refine ⟨e, ?_⟩
    rw [← e, h] at e1
    exact Option.some.inj e1
/-- The cells of a row of points, at an address. -/
theorem OwnL.cellsAt {w : World} {base g c : Nat} {L : List Pt} (h : OwnL w base (.slice (some ⟨g, 0, none⟩) L.length c) L) {i : Nat} (hi : i < L.length) :
    w.cell? ⟨g, i * 2, none⟩ = some (.int .i64 (L.getD i (0, 0)).1) ∧ w.cell? ⟨g, i * 2 + 1, none⟩ = some (.int .i64 (L.getD i (0, 0)).2) := by
  obtain ⟨A', c', e, ho⟩ := own3_of h
  injection e with e1 e2 e3
  obtain ⟨g', e', hg, hP⟩ := ho (by omega)
  rw [← e1] at e'
  injection e' with e'; injection e' with e'
  subst e'
  exact hP.at_ hi hi
theorem OwnL.gLt {w : World} {base g c : Nat} {L : List Pt} (h : OwnL w base (.slice (some ⟨g, 0, none⟩) L.length c) L) : base ≤ g ∧ g < w.heap.size := by
  have := World.ownsRow.lt h g rfl
  exact this
theorem add_pl (g o k : Nat) : (⟨g, o, none⟩ : Addr).add k = ⟨g, o + k, none⟩ := by unfold Addr.add; split <;> simp_all
theorem OwnL.newsFrom {w : World} {base g c : Nat} {L : List Pt} (h : OwnL w base (.slice (some ⟨g, 0, none⟩) L.length c) L) {k : Nat} (hk : k ≤ L.length) :
    ∀ j u, (cellsP (L.drop k))[j]? = some u → w.cell? ((⟨g, k * 2, none⟩ : Addr).add j) = some u := by
  intro j u hu
  obtain ⟨i, hi, hor⟩ := cellsP_get hu
  rw [List.length_drop] at hi
  obtain ⟨d0, d1⟩ := h.cellsAt (i := k + i) (by omega)
  have e : (L.drop k).getD i (0, 0) = L.getD (k + i) (0, 0) := by simp [List.getD_eq_getElem?_getD]
  rw [add_pl]
  rcases hor with ⟨rfl, rfl⟩ | ⟨rfl, rfl⟩
  · rw [e, ← d0]; congr 2; omega
  · rw [e, ← d1]; congr 2; omega
theorem cellsP_app (a b : List Pt) : cellsP (a ++ b) = cellsP a ++ cellsP b := by unfold cellsP; rw [List.flatMap_append]
/-- A row of points cut. -/
theorem OwnL.cut {w : World} {base g c : Nat} {L : List Pt} (h : OwnL w base (.slice (some ⟨g, 0, none⟩) L.length c) L) {k : Nat} (hk : k ≤ L.length) :
    w.ownsRow base 33 2 (.slice (some ⟨g, 0, none⟩) k c) k (cellsP (L.take k)) := by
  rcases h.2 with ⟨e, _⟩ | ⟨g', cap, cur, e, hB, hh, hn, hm, hs, ht⟩
  · cases e
  · injection e with e1 e2 e3
    injection e1 with e1; injection e1 with e1
    subst e1; subst e3
    refine ⟨by rw [cellsP_len, List.length_take]; omega, .inr ⟨g, c, cur, rfl, hB, hh, by omega, hm, hs, ?_⟩⟩
    have : cellsP (L.take k) = (cellsP L).take (k * 2) := by
      have e : cellsP L = cellsP (L.take k) ++ cellsP (L.drop k) := by rw [← cellsP_app, List.take_append_drop]
      have hlen : (cellsP (L.take k)).length = k * 2 := by rw [cellsP_len, List.length_take, Nat.min_eq_left hk]
      rw [e, List.take_append_of_le_length (Nat.le_of_eq hlen.symm), List.take_of_length_le (Nat.le_of_eq hlen)]
    rw [this, ← ht, List.take_take]
    congr 1
    omega
theorem OwnL.mk {w : World} {base : Nat} {v : Value} {L : List Pt} {n : Nat} {xs : List Value} (h : w.ownsRow base 33 2 v n xs) (hn : n = L.length) (hx : xs = cellsP L) : OwnL w base v L := by
  subst hn; subst hx; exact h
theorem OwnL.some_ {w : World} {base : Nat} {v : Value} {L : List Pt} (h : OwnL w base v L) (hb : v.ownBlock ≠ none) : ∃ g c, v = .slice (some ⟨g, 0, none⟩) L.length c ∧ v.ownBlock = some g ∧ L.length ≤ c := by
  rcases h.2 with ⟨rfl, h0⟩ | ⟨g, cap, cur, rfl, hB, hh, hn, _⟩
  · exact absurd rfl hb
  · exact ⟨g, cap, rfl, rfl, hn⟩

theorem OwnL.grown {w w' : World} {base : Nat} {v : Value} {L : List Pt} {row : Option Nat} (h : OwnL w base v L) (hg : w.grownBy w' row) (hoff : v.ownBlock ≠ row) : OwnL w' base v L :=
  World.ownsRow.kept (row := row) h hg (.inr hoff)

def SortPost (ps : List Pt) (w : World) (e : Ending) (w' : World) : Prop := ∃ v L, e = .returned v ∧ OwnL w' w.heap.size v L ∧ Ins ps ps.length L ∧ Below w.heap.size w w'

set_option maxRecDepth 100000 in
set_option maxHeartbeats 3200000 in
theorem l01Sorted_any (A : Option Addr) (ps : List Pt) (c0 : Nat) (w : World) (hp : PtsAt w w.heap.size A ps) (hl : ps.length ≤ 1000) :
    Calls Try.prog 88 #[.slice A ps.length c0] w (SortPost ps w) := by
  have hlI : (ps.length : Int) ≤ 1000 := by omega
  obtain ⟨i0, hi0, hiz, his, hib⟩ := info_parts infoPtO
  have ho0 : OwnL (w.alloc (.cells #[] 33)) w.heap.size (.slice (some ⟨w.heap.size, 0, none⟩) 0 0) [] := ⟨rfl, .inr ⟨w.heap.size, 0, #[], rfl, Nat.le_refl _, heap_alloc_new w _, Nat.le_refl _, Nat.zero_le _, rfl, rfl⟩⟩
  go_enter Try.func88, Try.ntmps88
  go_wp2
  go_loopw [3, 4, 5, 6] (fun v i _ _ wr => ∃ (k g c : Nat) (L : List Pt), k ≤ ps.length ∧ i = .int .i64 k ∧ v = .slice (some ⟨g, 0, none⟩) L.length c ∧ OwnL wr w.heap.size v L ∧ Hid (Ins ps k L) ∧ L.length ≤ k ∧ L.length ≤ c ∧ Below w.heap.size w wr) (fun _ i _ _ _ => ps.length - (intOf i).toNat)
  case atStart => exact ⟨0, w.heap.size, 0, [], Nat.zero_le _, rfl, rfl, ho0, Ins.zero ps, Nat.le_refl _, Nat.le_refl _, by (repeat (first | assumption | exact Below.refl _ _ | (refine bl_alloc ?_ _) | (refine Below.drew ?_) | (refine bl_drewN ?_ _) | (refine bl_set ?_ (by first | (simp; done) | omega | (simp; omega)) _) | (refine bl_trans ?_ (by assumption)) | (refine bl_step ?_ (by assumption) (by first | omega | exact Below.size (by assumption) | (simp; omega) | (simp; exact Below.size (by assumption))))))⟩
  case round =>
    clear ho0
    obtain ⟨k, g, c, L, hk, rfl, rfl, hown, HI, hLk, hLc, hb⟩ := hrel
    have hk0 : 0 ≤ (k : Int) := by omega
    by_cases hlt : k < ps.length
    · obtain ⟨b, off, rfl, hbB, hc⟩ := hp (by omega)
      obtain ⟨c1, c2⟩ := hc k hlt
      have d0 := (hb.cell (p := ⟨b, off + k * 2, none⟩) hbB).trans c1
      have d1 := (hb.cell (p := ⟨b, off + k * 2 + 1, none⟩) hbB).trans c2
      have hltI : (k : Int) < (ps.length : Int) := by omega
      have hzr := hb.size
      have hLl : L.length ≤ 1048576 := by omega
      have HSK := fun hm => Lib.hid (HI.out.skip hlt hm)
      have HPT := fun hm a ha h1 h2 => Lib.hid (HI.out.put (a := a) hlt hm ha h1 h2)
      obtain ⟨p, hpk⟩ : ∃ p, ps.getD k (0, 0) = p := ⟨_, rfl⟩
      rw [hpk] at d0 d1 HSK HPT
      have HPK := Lib.hid hpk
      have hpts : PtsAt wr wr.heap.size (some ⟨g, 0, none⟩) L := by
        obtain ⟨A', c', e, ho⟩ := own3_of hown
        injection e with e1 e2 e3
        subst e1
        exact ho.pts
      clear hpk c1 c2
      go_wp2_with fail
      refine (l01Index_any _ L _ _ _ _ hpts hLl).mono ?_
      rintro e w1 ⟨hin, hout, hb1⟩
      have o1 := own_to hown hb1
      have b1 := bl_trans hb hb1
      have e0 := (hb1.cell (p := ⟨b, off + k * 2, none⟩) (by omega : b < wr.heap.size)).trans d0
      have e1 := (hb1.cell (p := ⟨b, off + k * 2 + 1, none⟩) (by omega : b < wr.heap.size)).trans d1
      have hz1 := b1.size
      clear hown hb hb1 hpts d0 d1 hzr
      by_cases hm : (p.1, p.2) ∈ L
      · obtain ⟨j, rfl, hj⟩ := hin hm
        have hj0 : 0 ≤ (j : Int) := by omega
        have HS := HSK hm
        clear hin hout HSK HPT hm
        go_wp2
        go_roundw
        case rel => exact ⟨k + 1, g, c, L, by omega, by go_num, rfl, o1, HS, by omega, hLc, b1⟩
        case measure => simp [intOf]; omega
      · obtain rfl := hout hm
        have HPT2 := fun a ha h1 h2 => HPT hm a ha h1 h2
        clear hin hout HSK HPT hm
        go_wp2_with fail
        go_loopw [5] (fun i wr2 => ∃ a : Nat, a ≤ L.length ∧ i = .int .i64 a ∧ Hid (∀ i, i < a → ltB (L.getD i (0, 0)) p = true) ∧ OwnL wr2 w.heap.size (.slice (some ⟨g, 0, none⟩) L.length c) L ∧ Below w.heap.size w wr2) (fun i _ => L.length - (intOf i).toNat)
        case atStart => exact ⟨0, Nat.zero_le _, rfl, fun i hi => by omega, o1, b1⟩
        case round =>
          clear o1 b1 hz1 e0 e1
          obtain ⟨a, ha, rfl, HA, o1, b1⟩ := hrel
          have ha0 : 0 ≤ (a : Int) := by omega
          have haI : (a : Int) ≤ (L.length : Int) := by omega
          have hL24 : (L.length : Int) ≤ 1000 := by omega
          have hz1 := b1.size
          have e0 := (b1.cell (p := ⟨b, off + k * 2, none⟩) hbB).trans (hc k hlt).1
          have e1 := (b1.cell (p := ⟨b, off + k * 2 + 1, none⟩) hbB).trans (hc k hlt).2
          rw [HPK.out] at e0 e1
          by_cases hal : a < L.length
          · have halI : (a : Int) < (L.length : Int) := by omega
            obtain ⟨q0, q1⟩ := o1.cellsAt hal
            have hg := o1.gLt
            obtain ⟨q, hq⟩ : ∃ q, L.getD a (0, 0) = q := ⟨_, rfl⟩
            rw [hq] at q0 q1
            have HQ := Lib.hid hq
            clear hq
            obtain ⟨bb, hbb⟩ : ∃ bb, ltB q p = bb := ⟨_, rfl⟩
            have HBB := Lib.hid hbb
            have cB := fun w => l01Before_any q p w
            rw [hbb] at cB
            have CB := Lib.hid cB
            clear hbb cB
            go_wp2
            refine wp_region_plan (fun wx => wx.cell? ⟨g, a * 2, none⟩ = some (.int .i64 q.1) ∧ wx.cell? ⟨g, a * 2 + 1, none⟩ = some (.int .i64 q.2) ∧ wx.cell? ⟨b, off + k * 2, none⟩ = some (.int .i64 p.1) ∧ wx.cell? ⟨b, off + k * 2 + 1, none⟩ = some (.int .i64 p.2) ∧ Below w.heap.size w wx ∧ w.heap.size ≤ wx.heap.size) [(0, true), (1, true), (2, true), (3, true), (4, true), (5, true), (6, true), (7, true), (8, true), (9, true), (10, true), (11, true), (12, true), (13, false), (14, true)] (by kernel_rfl) (by kernel_rfl) (by kernel_rfl) (fun _ d _ _ _ h => by cases d <;> exact h) ⟨q0, q1, e0, e1, b1.drew, hz1⟩ (fun hS0 => ?_)
            refine plan_w (v := ?_) rfl (by rfl) ?_ ?_
            rotate_left
            · intro wx hSx
              try dsimp only at hSx
              go_simp
              try (with_reducible rfl)
            try simp only [Act.put, List.setIfInBounds_toArray, List.set_cons_zero, List.set_cons_succ]
            refine plan_w (v := ?_) rfl (by rfl) ?_ ?_
            rotate_left
            · intro wx hSx
              try dsimp only at hSx
              go_simp
              try (with_reducible rfl)
            try simp only [Act.put, List.setIfInBounds_toArray, List.set_cons_zero, List.set_cons_succ]
            refine plan_w (v := ?_) rfl (by rfl) ?_ ?_
            rotate_left
            · intro wx hSx
              try dsimp only at hSx
              go_simp
              try (with_reducible rfl)
            try simp only [Act.put, List.setIfInBounds_toArray, List.set_cons_zero, List.set_cons_succ]
            refine plan_w (v := ?_) rfl (by rfl) ?_ ?_
            rotate_left
            · intro wx hSx
              try dsimp only at hSx
              go_simp
              try (with_reducible rfl)
            try simp only [Act.put, List.setIfInBounds_toArray, List.set_cons_zero, List.set_cons_succ]
            refine plan_w (v := ?_) rfl (by rfl) ?_ ?_
            rotate_left
            · intro wx hSx
              try dsimp only at hSx
              go_simp
              try (with_reducible rfl)
            try simp only [Act.put, List.setIfInBounds_toArray, List.set_cons_zero, List.set_cons_succ]
            refine plan_w (v := ?_) rfl (by rfl) ?_ ?_
            rotate_left
            · intro wx hSx
              try dsimp only at hSx
              go_simp
              try (with_reducible rfl)
            try simp only [Act.put, List.setIfInBounds_toArray, List.set_cons_zero, List.set_cons_succ]
            refine plan_w (v := ?_) rfl (by rfl) ?_ ?_
            rotate_left
            · intro wx hSx
              try dsimp only at hSx
              go_simp
              try (with_reducible rfl)
            try simp only [Act.put, List.setIfInBounds_toArray, List.set_cons_zero, List.set_cons_succ]
            refine plan_w (v := ?_) rfl (by rfl) ?_ ?_
            rotate_left
            · intro wx hSx
              try dsimp only at hSx
              go_simp
              try (with_reducible rfl)
            try simp only [Act.put, List.setIfInBounds_toArray, List.set_cons_zero, List.set_cons_succ]
            refine plan_w (v := ?_) rfl (by rfl) ?_ ?_
            rotate_left
            · intro wx hSx
              try dsimp only at hSx
              go_simp
              try (with_reducible rfl)
            try simp only [Act.put, List.setIfInBounds_toArray, List.set_cons_zero, List.set_cons_succ]
            refine plan_w (v := ?_) rfl (by rfl) ?_ ?_
            rotate_left
            · intro wx hSx
              try dsimp only at hSx
              go_simp
              try (with_reducible rfl)
            try simp only [Act.put, List.setIfInBounds_toArray, List.set_cons_zero, List.set_cons_succ]
            refine plan_w (v := ?_) rfl (by rfl) ?_ ?_
            rotate_left
            · intro wx hSx
              try dsimp only at hSx
              go_simp
              try (with_reducible rfl)
            try simp only [Act.put, List.setIfInBounds_toArray, List.set_cons_zero, List.set_cons_succ]
            refine plan_w (v := ?_) rfl (by rfl) ?_ ?_
            rotate_left
            · intro wx hSx
              try dsimp only at hSx
              go_simp
              try (with_reducible rfl)
            try simp only [Act.put, List.setIfInBounds_toArray, List.set_cons_zero, List.set_cons_succ]
            refine plan_w (v := ?_) rfl (by rfl) ?_ ?_
            rotate_left
            · intro wx hSx
              try dsimp only at hSx
              go_simp
              try (with_reducible rfl)
            try simp only [Act.put, List.setIfInBounds_toArray, List.set_cons_zero, List.set_cons_succ]
            refine plan_b rfl (fun K hK => ?_)
            go_simp
            refine (CB.out _).mono ?_
            rintro e w2 ⟨rfl, hb2⟩
            have hS1 := keep4 hS0 hb2
            refine hK _ _ ⟨hS1, ?_⟩
            clear hK K
            try simp only [Act.put, List.setIfInBounds_toArray, List.set_cons_zero, List.set_cons_succ]
            refine plan_w (v := ?_) rfl (by rfl) ?_ ?_
            rotate_left
            · intro wx hSx
              try dsimp only at hSx
              go_simp
              try (with_reducible rfl)
            try simp only [Act.put, List.setIfInBounds_toArray, List.set_cons_zero, List.set_cons_succ]
            refine plan_end ?_
            have o2 : OwnL w2 w.heap.size (.slice (some ⟨g, 0, none⟩) L.length c) L := own_to (w := wr.drew) o1 hb2
            have b2 := hS1.2.2.2.2.1
            clear hS0 hb2 q0 q1 e0 e1 o1 b1
            cases bb
            · have HEnd : Hid (a = L.length ∨ ltB (L.getD a (0, 0)) p = false) := .inr (by rw [HQ.out]; exact HBB.out)
              clear hS1
              have HI2 := HPT2 a ha HA.out HEnd.out
              clear HPT2 HA HEnd
              have hz2 := b2.size
              have hg2 := o2.gLt
              have HG := Lib.hid hg2
              clear hg2
              have hoE : (w2.alloc (.cells #[] 33)).ownsRow w.heap.size 33 2 (.slice (some ⟨w2.heap.size, 0, none⟩) 0 0) 0 [] := ⟨rfl, .inr ⟨w2.heap.size, 0, #[], rfl, hz2, heap_alloc_new w2 _, Nat.le_refl _, Nat.zero_le _, rfl, rfl⟩⟩
              have o3 : OwnL (w2.alloc (.cells #[] 33)) w.heap.size (.slice (some ⟨g, 0, none⟩) L.length c) L := own_to o2 ((Below.refl _ _).alloc (Nat.le_refl _) _)
              have b3 : Below w.heap.size w (w2.alloc (.cells #[] 33)) := by (repeat (first | assumption | exact Below.refl _ _ | (refine bl_alloc ?_ _) | (refine Below.drew ?_) | (refine bl_drewN ?_ _) | (refine bl_set ?_ (by first | (simp; done) | omega | (simp; omega)) _) | (refine bl_trans ?_ (by assumption)) | (refine bl_step ?_ (by assumption) (by first | omega | exact Below.size (by assumption) | (simp; omega) | (simp; exact Below.size (by assumption))))))
              have hz3 : (w2.alloc (.cells #[] 33)).heap.size = w2.heap.size + 1 := by simp
              have haL : (a : Int) ≤ (c : Int) := by omega
              have hcL : (L.length : Int) ≤ (c : Int) := by omega
              clear o2 b2
              go_wp2_with (at_builtin; refine Hid.out ?_)
              refine Lib.hid ?_
              refine wpList_append_own_at _ (by rfl) (.tmp 38) (.tmp 41) 25 (by rfl) w.heap.size 33 i0 _ 2 16 Try.underlying25 hi0 hiz his hib rfl (by decide) (.slice (some ⟨w2.heap.size, 0, none⟩) 0 0) 0 [] (by rfl) hoE ⟨g, a * 2, none⟩ (L.length - a) (c - a) (cellsP (L.drop a)) (by rfl) (by rw [cellsP_len, List.length_drop]) (o3.newsFrom ha) (cellsP_one _) (by unfold maxLen; omega) (by omega) (by omega) ?_
              intro v6 w6 hown6 hgrow6 _ hblk6
              have r6 : OwnL w6 w.heap.size v6 (L.drop a) := OwnL.mk hown6 (by rw [List.length_drop]; omega) rfl
              have hne6 : v6.ownBlock ≠ none := by rcases hblk6 with h | h <;> rw [h] <;> simp [Value.ownBlock]
              obtain ⟨g6, c6, rfl, hv6, hc6⟩ := r6.some_ hne6
              have hg6 : w2.heap.size ≤ g6 := by
                rcases hblk6 with h | h <;> rw [hv6] at h
                · have : g6 = w2.heap.size := by simpa [Value.ownBlock] using h
                  omega
                · have : g6 = (w2.alloc (.cells #[] 33)).heap.size := by simpa using h
                  omega
              have hgg : g6 ≠ g := by have := HG.out; omega
              have hgw : g ≠ w2.heap.size := by have := HG.out; omega
              have o6 : OwnL w6 w.heap.size (.slice (some ⟨g, 0, none⟩) L.length c) L := o3.grown hgrow6 (by simp [Value.ownBlock]; exact hgw)
              have b6 : Below w.heap.size w w6 := Below.grown b3 hgrow6 (by omega) (fun k e => by simp [Value.ownBlock] at e; omega)
              have hz6 := b6.size
              clear hown6 hgrow6 hblk6 hne6 o3 b3 hz3 hoE
              have mkS : ∀ wx, Below w.heap.size w wx → wx.cell? ⟨b, off + k * 2, none⟩ = some (.int .i64 p.1) ∧ wx.cell? ⟨b, off + k * 2 + 1, none⟩ = some (.int .i64 p.2) ∧ Below w.heap.size w wx ∧ w.heap.size ≤ wx.heap.size := fun wx hbx =>
                ⟨by rw [(hbx.cell (p := ⟨b, off + k * 2, none⟩) hbB).trans (hc k hlt).1, HPK.out], by rw [(hbx.cell (p := ⟨b, off + k * 2 + 1, none⟩) hbB).trans (hc k hlt).2, HPK.out], hbx, hbx.size⟩
              have MKS := Lib.hid mkS
              clear mkS
              go_wp2_with fail
              refine wp_region_plan (fun wx => wx.cell? ⟨b, off + k * 2, none⟩ = some (.int .i64 p.1) ∧ wx.cell? ⟨b, off + k * 2 + 1, none⟩ = some (.int .i64 p.2) ∧ Below w.heap.size w wx ∧ w.heap.size ≤ wx.heap.size) [(0, true), (1, true), (2, true), (3, true), (4, true), (5, true), (6, true), (9, true), (7, false), (8, false), (10, false), (11, true)] (by kernel_rfl) (by kernel_rfl) (by kernel_rfl) (fun _ d _ _ _ h => by cases d <;> exact h) (MKS.out _ b6.drew) (fun hS0 => ?_)
              refine plan_w (v := ?_) rfl (by rfl) ?_ ?_
              rotate_left
              · intro wx hSx
                try dsimp only at hSx
                go_simp
                try (with_reducible rfl)
              try simp only [Act.put, List.setIfInBounds_toArray, List.set_cons_zero, List.set_cons_succ]
              refine plan_w (v := ?_) rfl (by rfl) ?_ ?_
              rotate_left
              · intro wx hSx
                try dsimp only at hSx
                go_simp
                try (with_reducible rfl)
              try simp only [Act.put, List.setIfInBounds_toArray, List.set_cons_zero, List.set_cons_succ]
              refine plan_w (v := ?_) rfl (by rfl) ?_ ?_
              rotate_left
              · intro wx hSx
                try dsimp only at hSx
                go_simp
                try (with_reducible rfl)
              try simp only [Act.put, List.setIfInBounds_toArray, List.set_cons_zero, List.set_cons_succ]
              refine plan_w (v := ?_) rfl (by rfl) ?_ ?_
              rotate_left
              · intro wx hSx
                try dsimp only at hSx
                go_simp
                try (with_reducible rfl)
              try simp only [Act.put, List.setIfInBounds_toArray, List.set_cons_zero, List.set_cons_succ]
              refine plan_w (v := ?_) rfl (by rfl) ?_ ?_
              rotate_left
              · intro wx hSx
                try dsimp only at hSx
                go_simp
                try (with_reducible rfl)
              try simp only [Act.put, List.setIfInBounds_toArray, List.set_cons_zero, List.set_cons_succ]
              refine plan_w (v := ?_) rfl (by rfl) ?_ ?_
              rotate_left
              · intro wx hSx
                try dsimp only at hSx
                go_simp
                try (with_reducible rfl)
              try simp only [Act.put, List.setIfInBounds_toArray, List.set_cons_zero, List.set_cons_succ]
              refine plan_w (v := ?_) rfl (by rfl) ?_ ?_
              rotate_left
              · intro wx hSx
                try dsimp only at hSx
                go_simp
                try (with_reducible rfl)
              try simp only [Act.put, List.setIfInBounds_toArray, List.set_cons_zero, List.set_cons_succ]
              refine plan_w (v := ?_) rfl (by rfl) ?_ ?_
              rotate_left
              · intro wx hSx
                try dsimp only at hSx
                go_simp
                try (with_reducible rfl)
              try simp only [Act.put, List.setIfInBounds_toArray, List.set_cons_zero, List.set_cons_succ]
              refine plan_b rfl (fun K hK => ?_)
              go_simp
              have b7 : Below w.heap.size w (World.drew (w6.alloc (.cells #[.int .i64 p.1, .int .i64 p.2] 33))) := by (repeat (first | assumption | exact Below.refl _ _ | (refine bl_alloc ?_ _) | (refine Below.drew ?_) | (refine bl_drewN ?_ _) | (refine bl_set ?_ (by first | (simp; done) | omega | (simp; omega)) _) | (refine bl_trans ?_ (by assumption)) | (refine bl_step ?_ (by assumption) (by first | omega | exact Below.size (by assumption) | (simp; omega) | (simp; exact Below.size (by assumption))))))
              have o7 : OwnL (World.drew (w6.alloc (.cells #[.int .i64 p.1, .int .i64 p.2] 33))) w.heap.size (.slice (some ⟨g, 0, none⟩) L.length c) L := own_to (w1 := w6.alloc (.cells #[.int .i64 p.1, .int .i64 p.2] 33)) o6 ((Below.refl _ _).alloc (Nat.le_refl _) _)
              have r7 : OwnL (World.drew (w6.alloc (.cells #[.int .i64 p.1, .int .i64 p.2] 33))) w.heap.size (.slice (some ⟨g6, 0, none⟩) (L.drop a).length c6) (L.drop a) := own_to (w1 := w6.alloc (.cells #[.int .i64 p.1, .int .i64 p.2] 33)) r6 ((Below.refl _ _).alloc (Nat.le_refl _) _)
              have n7 : (World.drew (w6.alloc (.cells #[.int .i64 p.1, .int .i64 p.2] 33))).heap[w6.heap.size]? = some (.cells #[.int .i64 p.1, .int .i64 p.2] 33 (0, 0)) := heap_alloc_new w6 _
              refine hK _ _ ⟨MKS.out _ b7, ?_⟩
              clear hK K hS0 o6 r6 b6
              try simp only [Act.put, List.setIfInBounds_toArray, List.set_cons_zero, List.set_cons_succ]
              generalize World.drew (w6.alloc (.cells #[.int .i64 p.1, .int .i64 p.2] 33)) = w7 at *
              refine plan_b rfl (fun K hK => ?_)
              refine step_append_at (by rfl) (.tmp 45) (.tmp 50) 25 (by rfl) w.heap.size 33 i0 _ 2 16 Try.underlying25 hi0 hiz his hib rfl (by decide) (.slice (some ⟨g, 0, none⟩) a c) a (cellsP (L.take a)) (by rfl) (o7.cut ha) ⟨w6.heap.size, 0, none⟩ 1 1 [.int .i64 p.1, .int .i64 p.2] (by rfl) rfl (World.news_of_block n7) (by intro u hu; simp at hu; rcases hu with rfl | rfl <;> rfl) (by unfold maxLen; omega) (by omega) (b7.size) ?_
              intro v8 w8 hown8 hgrow8 hblk8
              have b8 : Below w.heap.size w w8 := Below.grown b7 hgrow8 b7.size (fun k e => by simp [Value.ownBlock] at e; have := HG.out; omega)
              have r8 : OwnL w8 w.heap.size (.slice (some ⟨g6, 0, none⟩) (L.drop a).length c6) (L.drop a) := r7.grown hgrow8 (by simp [Value.ownBlock]; exact hgg)
              have hne8 : v8.ownBlock ≠ none := by rcases hblk8 with h | h <;> rw [h] <;> simp [Value.ownBlock]
              have hld : (L.drop a).length = L.length - a := List.length_drop
              refine hK _ _ ⟨MKS.out _ b8, ?_⟩
              clear hK K hgrow8 hblk8 o7 r7 b7 n7
              try simp only [Act.put, List.setIfInBounds_toArray, List.set_cons_zero, List.set_cons_succ]
              refine plan_b rfl (fun K hK => ?_)
              refine step_append_at (by rfl) (.tmp 51) (.tmp 52) 25 (by rfl) w.heap.size 33 i0 _ 2 16 Try.underlying25 hi0 hiz his hib rfl (by decide) v8 (a + 1) (cellsP (L.take a) ++ [.int .i64 p.1, .int .i64 p.2]) (by rfl) hown8 ⟨g6, 0, none⟩ (L.length - a) c6 (cellsP (L.drop a)) (by rfl) (by rw [cellsP_len, List.length_drop]) (by have := r8.newsFrom (k := 0) (Nat.zero_le _); simpa using this) (cellsP_one _) (by unfold maxLen; omega) (by omega) (b8.size) ?_
              intro v10 w10 hown10 hgrow10 hblk10
              have b10 : Below w.heap.size w w10 := Below.grown b8 hgrow10 b8.size (fun k e => (World.ownsRow.lt hown8 k e).1)
              have o10 : OwnL w10 w.heap.size v10 (insAt L p a) := OwnL.mk hown10 (by unfold insAt; simp; omega) (by unfold insAt; rw [cellsP_app, show p :: L.drop a = [p] ++ L.drop a from rfl, cellsP_app]; simp [cellsP])
              have hne10 : v10.ownBlock ≠ none := by
                rcases hblk10 with h | h
                · rw [h]; exact hne8
                · rw [h]; simp
              obtain ⟨g10, c10, rfl, _, hc10⟩ := o10.some_ hne10
              have HLI : Hid ((insAt L p a).length = L.length + 1) := by show _ = _; unfold insAt; simp; omega
              refine hK _ _ ⟨MKS.out _ b10, ?_⟩
              clear hK K hgrow10 hblk10 hown10 r8 b8 hown8 hne8 hne10
              try simp only [Act.put, List.setIfInBounds_toArray, List.set_cons_zero, List.set_cons_succ]
              refine plan_w (v := ?_) rfl (by rfl) ?_ ?_
              rotate_left
              · intro wx hSx
                try dsimp only at hSx
                go_simp
                try (with_reducible rfl)
              try simp only [Act.put, List.setIfInBounds_toArray, List.set_cons_zero, List.set_cons_succ]
              refine plan_end ?_
              go_wp2
              go_roundw
              case rel => exact ⟨k + 1, g10, c10, insAt L p a, by omega, by go_num, rfl, o10, HI2, by rw [HLI.out]; omega, hc10, b10⟩
              case measure => simp [intOf]; omega
            · have HA2 : Hid (∀ i, i < a + 1 → ltB (L.getD i (0, 0)) p = true) := by
                intro i hi
                by_cases e : i = a
                · subst e; rw [HQ.out]; exact HBB.out
                · exact HA.out i (by omega)
              go_wp2
              go_roundw
              case rel => exact ⟨a + 1, by omega, by go_num, HA2, o2, b2⟩
              case measure => simp [intOf]; omega
          · have HEnd : Hid (a = L.length ∨ ltB (L.getD a (0, 0)) p = false) := .inl (by omega)
            have halI : ¬ (a : Int) < (L.length : Int) := by omega
            have hald : decide (a < L.length) = false := decide_eq_false hal
            go_wp2
            refine wp_region_plan (fun wx => wx.cell? ⟨b, off + k * 2, none⟩ = some (.int .i64 p.1) ∧ wx.cell? ⟨b, off + k * 2 + 1, none⟩ = some (.int .i64 p.2) ∧ Below w.heap.size w wx ∧ w.heap.size ≤ wx.heap.size) [(0, true), (1, true), (2, true), (3, true), (4, true), (5, true), (6, true), (7, true), (8, true), (9, true), (10, true), (11, true), (12, true), (13, false), (14, true)] (by kernel_rfl) (by kernel_rfl) (by kernel_rfl) (fun _ d _ _ _ h => by cases d <;> exact h) ⟨e0, e1, b1.drew, hz1⟩ (fun hS0 => ?_)
            refine plan_w (v := ?_) rfl (by rfl) ?_ ?_
            rotate_left
            · intro wx hSx
              try dsimp only at hSx
              go_simp
              try (with_reducible rfl)
            try simp only [Act.put, List.setIfInBounds_toArray, List.set_cons_zero, List.set_cons_succ]
            refine plan_w (v := ?_) rfl (by rfl) ?_ ?_
            rotate_left
            · intro wx hSx
              try dsimp only at hSx
              go_simp
              try (with_reducible rfl)
            try simp only [Act.put, List.setIfInBounds_toArray, List.set_cons_zero, List.set_cons_succ]
            refine plan_w (v := ?_) rfl (by rfl) ?_ ?_
            rotate_left
            · intro wx hSx
              try dsimp only at hSx
              go_simp
              try (with_reducible rfl)
            try simp only [Act.put, List.setIfInBounds_toArray, List.set_cons_zero, List.set_cons_succ]
            refine plan_w (v := ?_) rfl (by rfl) ?_ ?_
            rotate_left
            · intro wx hSx
              try dsimp only at hSx
              go_simp
              try (with_reducible rfl)
            try simp only [Act.put, List.setIfInBounds_toArray, List.set_cons_zero, List.set_cons_succ]
            refine plan_w (v := ?_) rfl (by rfl) ?_ ?_
            rotate_left
            · intro wx hSx
              try dsimp only at hSx
              go_simp
              try (with_reducible rfl)
            try simp only [Act.put, List.setIfInBounds_toArray, List.set_cons_zero, List.set_cons_succ]
            refine plan_u rfl (by rfl) ?_
            try simp only [Act.put, List.setIfInBounds_toArray, List.set_cons_zero, List.set_cons_succ]
            refine plan_u rfl (by rfl) ?_
            try simp only [Act.put, List.setIfInBounds_toArray, List.set_cons_zero, List.set_cons_succ]
            refine plan_u rfl (by rfl) ?_
            try simp only [Act.put, List.setIfInBounds_toArray, List.set_cons_zero, List.set_cons_succ]
            refine plan_u rfl (by rfl) ?_
            try simp only [Act.put, List.setIfInBounds_toArray, List.set_cons_zero, List.set_cons_succ]
            refine plan_u rfl (by rfl) ?_
            try simp only [Act.put, List.setIfInBounds_toArray, List.set_cons_zero, List.set_cons_succ]
            refine plan_u rfl (by rfl) ?_
            try simp only [Act.put, List.setIfInBounds_toArray, List.set_cons_zero, List.set_cons_succ]
            refine plan_u rfl (by rfl) ?_
            try simp only [Act.put, List.setIfInBounds_toArray, List.set_cons_zero, List.set_cons_succ]
            refine plan_u rfl (by rfl) ?_
            try simp only [Act.put, List.setIfInBounds_toArray, List.set_cons_zero, List.set_cons_succ]
            refine plan_bu rfl (by rfl) (by assumption) ?_
            try simp only [Act.put, List.setIfInBounds_toArray, List.set_cons_zero, List.set_cons_succ]
            refine plan_w (v := ?_) rfl (by rfl) ?_ ?_
            rotate_left
            · intro wx hSx
              try dsimp only at hSx
              go_simp
              try (with_reducible rfl)
            try simp only [Act.put, List.setIfInBounds_toArray, List.set_cons_zero, List.set_cons_succ]
            refine plan_end ?_
            have o2 : OwnL wr.drew w.heap.size (.slice (some ⟨g, 0, none⟩) L.length c) L := o1
            have b2 := hS0.2.2.1
            clear hS0 o1 b1 e0 e1
            generalize wr.drew = w2 at *
            by_cases hca : c = a
            · obtain rfl : a = c := hca.symm
              have HI2 := HPT2 a ha HA.out HEnd.out
              clear HPT2 HA HEnd
              have hz2 := b2.size
              have hg2 := o2.gLt
              have HG := Lib.hid hg2
              clear hg2
              have hoE : (w2.alloc (.cells #[] 33)).ownsRow w.heap.size 33 2 (.slice (some ⟨w2.heap.size, 0, none⟩) 0 0) 0 [] := ⟨rfl, .inr ⟨w2.heap.size, 0, #[], rfl, hz2, heap_alloc_new w2 _, Nat.le_refl _, Nat.zero_le _, rfl, rfl⟩⟩
              have o3 : OwnL (w2.alloc (.cells #[] 33)) w.heap.size (.slice (some ⟨g, 0, none⟩) L.length a) L := own_to o2 ((Below.refl _ _).alloc (Nat.le_refl _) _)
              have b3 : Below w.heap.size w (w2.alloc (.cells #[] 33)) := by (repeat (first | assumption | exact Below.refl _ _ | (refine bl_alloc ?_ _) | (refine Below.drew ?_) | (refine bl_drewN ?_ _) | (refine bl_set ?_ (by first | (simp; done) | omega | (simp; omega)) _) | (refine bl_trans ?_ (by assumption)) | (refine bl_step ?_ (by assumption) (by first | omega | exact Below.size (by assumption) | (simp; omega) | (simp; exact Below.size (by assumption))))))
              have hz3 : (w2.alloc (.cells #[] 33)).heap.size = w2.heap.size + 1 := by simp
              have haL : (a : Int) ≤ (a : Int) := by omega
              have hcL : (L.length : Int) ≤ (a : Int) := by omega
              clear o2 b2
              go_wp2_with (at_builtin; refine Hid.out ?_)
              refine Lib.hid ?_
              refine wpList_append_own_at _ (by rfl) (.tmp 38) (.tmp 41) 25 (by rfl) w.heap.size 33 i0 _ 2 16 Try.underlying25 hi0 hiz his hib rfl (by decide) (.slice (some ⟨w2.heap.size, 0, none⟩) 0 0) 0 [] (by rfl) hoE _ _ _ (cellsP (L.drop a)) (by rfl) (by rw [cellsP_len, List.length_drop]; try omega) (by rw [List.drop_of_length_le (by omega)]; intro j u hu; simp [cellsP] at hu) (cellsP_one _) (by unfold maxLen; omega) (by omega) (by omega) ?_
              intro v6 w6 hown6 hgrow6 _ hblk6
              have r6 : OwnL w6 w.heap.size v6 (L.drop a) := OwnL.mk hown6 (by rw [List.length_drop]; omega) rfl
              have hne6 : v6.ownBlock ≠ none := by rcases hblk6 with h | h <;> rw [h] <;> simp [Value.ownBlock]
              obtain ⟨g6, c6, rfl, hv6, hc6⟩ := r6.some_ hne6
              have hg6 : w2.heap.size ≤ g6 := by
                rcases hblk6 with h | h <;> rw [hv6] at h
                · have : g6 = w2.heap.size := by simpa [Value.ownBlock] using h
                  omega
                · have : g6 = (w2.alloc (.cells #[] 33)).heap.size := by simpa using h
                  omega
              have hgg : g6 ≠ g := by have := HG.out; omega
              have hgw : g ≠ w2.heap.size := by have := HG.out; omega
              have o6 : OwnL w6 w.heap.size (.slice (some ⟨g, 0, none⟩) L.length a) L := o3.grown hgrow6 (by simp [Value.ownBlock]; exact hgw)
              have b6 : Below w.heap.size w w6 := Below.grown b3 hgrow6 (by omega) (fun k e => by simp [Value.ownBlock] at e; omega)
              have hz6 := b6.size
              clear hown6 hgrow6 hblk6 hne6 o3 b3 hz3 hoE
              have mkS : ∀ wx, Below w.heap.size w wx → wx.cell? ⟨b, off + k * 2, none⟩ = some (.int .i64 p.1) ∧ wx.cell? ⟨b, off + k * 2 + 1, none⟩ = some (.int .i64 p.2) ∧ Below w.heap.size w wx ∧ w.heap.size ≤ wx.heap.size := fun wx hbx =>
                ⟨by rw [(hbx.cell (p := ⟨b, off + k * 2, none⟩) hbB).trans (hc k hlt).1, HPK.out], by rw [(hbx.cell (p := ⟨b, off + k * 2 + 1, none⟩) hbB).trans (hc k hlt).2, HPK.out], hbx, hbx.size⟩
              have MKS := Lib.hid mkS
              clear mkS
              go_wp2_with fail
              refine wp_region_plan (fun wx => wx.cell? ⟨b, off + k * 2, none⟩ = some (.int .i64 p.1) ∧ wx.cell? ⟨b, off + k * 2 + 1, none⟩ = some (.int .i64 p.2) ∧ Below w.heap.size w wx ∧ w.heap.size ≤ wx.heap.size) [(0, true), (1, true), (2, true), (3, true), (4, true), (5, true), (6, true), (9, true), (7, false), (8, false), (10, false), (11, true)] (by kernel_rfl) (by kernel_rfl) (by kernel_rfl) (fun _ d _ _ _ h => by cases d <;> exact h) (MKS.out _ b6.drew) (fun hS0 => ?_)
              refine plan_w (v := ?_) rfl (by rfl) ?_ ?_
              rotate_left
              · intro wx hSx
                try dsimp only at hSx
                go_simp
                try (with_reducible rfl)
              try simp only [Act.put, List.setIfInBounds_toArray, List.set_cons_zero, List.set_cons_succ]
              refine plan_w (v := ?_) rfl (by rfl) ?_ ?_
              rotate_left
              · intro wx hSx
                try dsimp only at hSx
                go_simp
                try (with_reducible rfl)
              try simp only [Act.put, List.setIfInBounds_toArray, List.set_cons_zero, List.set_cons_succ]
              refine plan_w (v := ?_) rfl (by rfl) ?_ ?_
              rotate_left
              · intro wx hSx
                try dsimp only at hSx
                go_simp
                try (with_reducible rfl)
              try simp only [Act.put, List.setIfInBounds_toArray, List.set_cons_zero, List.set_cons_succ]
              refine plan_w (v := ?_) rfl (by rfl) ?_ ?_
              rotate_left
              · intro wx hSx
                try dsimp only at hSx
                go_simp
                try (with_reducible rfl)
              try simp only [Act.put, List.setIfInBounds_toArray, List.set_cons_zero, List.set_cons_succ]
              refine plan_w (v := ?_) rfl (by rfl) ?_ ?_
              rotate_left
              · intro wx hSx
                try dsimp only at hSx
                go_simp
                try (with_reducible rfl)
              try simp only [Act.put, List.setIfInBounds_toArray, List.set_cons_zero, List.set_cons_succ]
              refine plan_w (v := ?_) rfl (by rfl) ?_ ?_
              rotate_left
              · intro wx hSx
                try dsimp only at hSx
                go_simp
                try (with_reducible rfl)
              try simp only [Act.put, List.setIfInBounds_toArray, List.set_cons_zero, List.set_cons_succ]
              refine plan_w (v := ?_) rfl (by rfl) ?_ ?_
              rotate_left
              · intro wx hSx
                try dsimp only at hSx
                go_simp
                try (with_reducible rfl)
              try simp only [Act.put, List.setIfInBounds_toArray, List.set_cons_zero, List.set_cons_succ]
              refine plan_w (v := ?_) rfl (by rfl) ?_ ?_
              rotate_left
              · intro wx hSx
                try dsimp only at hSx
                go_simp
                try (with_reducible rfl)
              try simp only [Act.put, List.setIfInBounds_toArray, List.set_cons_zero, List.set_cons_succ]
              refine plan_b rfl (fun K hK => ?_)
              go_simp
              have b7 : Below w.heap.size w (World.drew (w6.alloc (.cells #[.int .i64 p.1, .int .i64 p.2] 33))) := by (repeat (first | assumption | exact Below.refl _ _ | (refine bl_alloc ?_ _) | (refine Below.drew ?_) | (refine bl_drewN ?_ _) | (refine bl_set ?_ (by first | (simp; done) | omega | (simp; omega)) _) | (refine bl_trans ?_ (by assumption)) | (refine bl_step ?_ (by assumption) (by first | omega | exact Below.size (by assumption) | (simp; omega) | (simp; exact Below.size (by assumption))))))
              have o7 : OwnL (World.drew (w6.alloc (.cells #[.int .i64 p.1, .int .i64 p.2] 33))) w.heap.size (.slice (some ⟨g, 0, none⟩) L.length a) L := own_to (w1 := w6.alloc (.cells #[.int .i64 p.1, .int .i64 p.2] 33)) o6 ((Below.refl _ _).alloc (Nat.le_refl _) _)
              have r7 : OwnL (World.drew (w6.alloc (.cells #[.int .i64 p.1, .int .i64 p.2] 33))) w.heap.size (.slice (some ⟨g6, 0, none⟩) (L.drop a).length c6) (L.drop a) := own_to (w1 := w6.alloc (.cells #[.int .i64 p.1, .int .i64 p.2] 33)) r6 ((Below.refl _ _).alloc (Nat.le_refl _) _)
              have n7 : (World.drew (w6.alloc (.cells #[.int .i64 p.1, .int .i64 p.2] 33))).heap[w6.heap.size]? = some (.cells #[.int .i64 p.1, .int .i64 p.2] 33 (0, 0)) := heap_alloc_new w6 _
              refine hK _ _ ⟨MKS.out _ b7, ?_⟩
              clear hK K hS0 o6 r6 b6
              try simp only [Act.put, List.setIfInBounds_toArray, List.set_cons_zero, List.set_cons_succ]
              generalize World.drew (w6.alloc (.cells #[.int .i64 p.1, .int .i64 p.2] 33)) = w7 at *
              refine plan_b rfl (fun K hK => ?_)
              refine step_append_at (by rfl) (.tmp 45) (.tmp 50) 25 (by rfl) w.heap.size 33 i0 _ 2 16 Try.underlying25 hi0 hiz his hib rfl (by decide) (.slice (some ⟨g, 0, none⟩) a a) a (cellsP (L.take a)) (by rfl) (o7.cut ha) ⟨w6.heap.size, 0, none⟩ 1 1 [.int .i64 p.1, .int .i64 p.2] (by rfl) rfl (World.news_of_block n7) (by intro u hu; simp at hu; rcases hu with rfl | rfl <;> rfl) (by unfold maxLen; omega) (by omega) (b7.size) ?_
              intro v8 w8 hown8 hgrow8 hblk8
              have b8 : Below w.heap.size w w8 := Below.grown b7 hgrow8 b7.size (fun k e => by simp [Value.ownBlock] at e; have := HG.out; omega)
              have r8 : OwnL w8 w.heap.size (.slice (some ⟨g6, 0, none⟩) (L.drop a).length c6) (L.drop a) := r7.grown hgrow8 (by simp [Value.ownBlock]; exact hgg)
              have hne8 : v8.ownBlock ≠ none := by rcases hblk8 with h | h <;> rw [h] <;> simp [Value.ownBlock]
              have hld : (L.drop a).length = L.length - a := List.length_drop
              refine hK _ _ ⟨MKS.out _ b8, ?_⟩
              clear hK K hgrow8 hblk8 o7 r7 b7 n7
              try simp only [Act.put, List.setIfInBounds_toArray, List.set_cons_zero, List.set_cons_succ]
              refine plan_b rfl (fun K hK => ?_)
              refine step_append_at (by rfl) (.tmp 51) (.tmp 52) 25 (by rfl) w.heap.size 33 i0 _ 2 16 Try.underlying25 hi0 hiz his hib rfl (by decide) v8 (a + 1) (cellsP (L.take a) ++ [.int .i64 p.1, .int .i64 p.2]) (by rfl) hown8 ⟨g6, 0, none⟩ 0 c6 (cellsP (L.drop a)) (by rfl) (by rw [cellsP_len, List.length_drop]; omega) (by have := r8.newsFrom (k := 0) (Nat.zero_le _); simpa using this) (cellsP_one _) (by unfold maxLen; omega) (by omega) (b8.size) ?_
              intro v10 w10 hown10 hgrow10 hblk10
              have b10 : Below w.heap.size w w10 := Below.grown b8 hgrow10 b8.size (fun k e => (World.ownsRow.lt hown8 k e).1)
              have o10 : OwnL w10 w.heap.size v10 (insAt L p a) := OwnL.mk hown10 (by unfold insAt; simp; omega) (by unfold insAt; rw [cellsP_app, show p :: L.drop a = [p] ++ L.drop a from rfl, cellsP_app]; simp [cellsP])
              have hne10 : v10.ownBlock ≠ none := by
                rcases hblk10 with h | h
                · rw [h]; exact hne8
                · rw [h]; simp
              obtain ⟨g10, c10, rfl, _, hc10⟩ := o10.some_ hne10
              have HLI : Hid ((insAt L p a).length = L.length + 1) := by show _ = _; unfold insAt; simp; omega
              refine hK _ _ ⟨MKS.out _ b10, ?_⟩
              clear hK K hgrow10 hblk10 hown10 r8 b8 hown8 hne8 hne10
              try simp only [Act.put, List.setIfInBounds_toArray, List.set_cons_zero, List.set_cons_succ]
              refine plan_w (v := ?_) rfl (by rfl) ?_ ?_
              rotate_left
              · intro wx hSx
                try dsimp only at hSx
                go_simp
                try (with_reducible rfl)
              try simp only [Act.put, List.setIfInBounds_toArray, List.set_cons_zero, List.set_cons_succ]
              refine plan_end ?_
              go_wp2
              go_roundw
              case rel => exact ⟨k + 1, g10, c10, insAt L p a, by omega, by go_num, rfl, o10, HI2, by rw [HLI.out]; omega, hc10, b10⟩
              case measure => simp [intOf]; omega
            · have hcad : (a == c) = false := by simp; omega
              have HI2 := HPT2 a ha HA.out HEnd.out
              clear HPT2 HA HEnd
              have hz2 := b2.size
              have hg2 := o2.gLt
              have HG := Lib.hid hg2
              clear hg2
              have hoE : (w2.alloc (.cells #[] 33)).ownsRow w.heap.size 33 2 (.slice (some ⟨w2.heap.size, 0, none⟩) 0 0) 0 [] := ⟨rfl, .inr ⟨w2.heap.size, 0, #[], rfl, hz2, heap_alloc_new w2 _, Nat.le_refl _, Nat.zero_le _, rfl, rfl⟩⟩
              have o3 : OwnL (w2.alloc (.cells #[] 33)) w.heap.size (.slice (some ⟨g, 0, none⟩) L.length c) L := own_to o2 ((Below.refl _ _).alloc (Nat.le_refl _) _)
              have b3 : Below w.heap.size w (w2.alloc (.cells #[] 33)) := by (repeat (first | assumption | exact Below.refl _ _ | (refine bl_alloc ?_ _) | (refine Below.drew ?_) | (refine bl_drewN ?_ _) | (refine bl_set ?_ (by first | (simp; done) | omega | (simp; omega)) _) | (refine bl_trans ?_ (by assumption)) | (refine bl_step ?_ (by assumption) (by first | omega | exact Below.size (by assumption) | (simp; omega) | (simp; exact Below.size (by assumption))))))
              have hz3 : (w2.alloc (.cells #[] 33)).heap.size = w2.heap.size + 1 := by simp
              have haL : (a : Int) ≤ (c : Int) := by omega
              have hcL : (L.length : Int) ≤ (c : Int) := by omega
              clear o2 b2
              go_wp2_with (at_builtin; refine Hid.out ?_)
              refine Lib.hid ?_
              refine wpList_append_own_at _ (by rfl) (.tmp 38) (.tmp 41) 25 (by rfl) w.heap.size 33 i0 _ 2 16 Try.underlying25 hi0 hiz his hib rfl (by decide) (.slice (some ⟨w2.heap.size, 0, none⟩) 0 0) 0 [] (by rfl) hoE _ _ _ (cellsP (L.drop a)) (by rfl) (by rw [cellsP_len, List.length_drop]; try omega) (by rw [List.drop_of_length_le (by omega)]; intro j u hu; simp [cellsP] at hu) (cellsP_one _) (by unfold maxLen; omega) (by omega) (by omega) ?_
              intro v6 w6 hown6 hgrow6 _ hblk6
              have r6 : OwnL w6 w.heap.size v6 (L.drop a) := OwnL.mk hown6 (by rw [List.length_drop]; omega) rfl
              have hne6 : v6.ownBlock ≠ none := by rcases hblk6 with h | h <;> rw [h] <;> simp [Value.ownBlock]
              obtain ⟨g6, c6, rfl, hv6, hc6⟩ := r6.some_ hne6
              have hg6 : w2.heap.size ≤ g6 := by
                rcases hblk6 with h | h <;> rw [hv6] at h
                · have : g6 = w2.heap.size := by simpa [Value.ownBlock] using h
                  omega
                · have : g6 = (w2.alloc (.cells #[] 33)).heap.size := by simpa using h
                  omega
              have hgg : g6 ≠ g := by have := HG.out; omega
              have hgw : g ≠ w2.heap.size := by have := HG.out; omega
              have o6 : OwnL w6 w.heap.size (.slice (some ⟨g, 0, none⟩) L.length c) L := o3.grown hgrow6 (by simp [Value.ownBlock]; exact hgw)
              have b6 : Below w.heap.size w w6 := Below.grown b3 hgrow6 (by omega) (fun k e => by simp [Value.ownBlock] at e; omega)
              have hz6 := b6.size
              clear hown6 hgrow6 hblk6 hne6 o3 b3 hz3 hoE
              have mkS : ∀ wx, Below w.heap.size w wx → wx.cell? ⟨b, off + k * 2, none⟩ = some (.int .i64 p.1) ∧ wx.cell? ⟨b, off + k * 2 + 1, none⟩ = some (.int .i64 p.2) ∧ Below w.heap.size w wx ∧ w.heap.size ≤ wx.heap.size := fun wx hbx =>
                ⟨by rw [(hbx.cell (p := ⟨b, off + k * 2, none⟩) hbB).trans (hc k hlt).1, HPK.out], by rw [(hbx.cell (p := ⟨b, off + k * 2 + 1, none⟩) hbB).trans (hc k hlt).2, HPK.out], hbx, hbx.size⟩
              have MKS := Lib.hid mkS
              clear mkS
              go_wp2_with fail
              refine wp_region_plan (fun wx => wx.cell? ⟨b, off + k * 2, none⟩ = some (.int .i64 p.1) ∧ wx.cell? ⟨b, off + k * 2 + 1, none⟩ = some (.int .i64 p.2) ∧ Below w.heap.size w wx ∧ w.heap.size ≤ wx.heap.size) [(0, true), (1, true), (2, true), (3, true), (4, true), (5, true), (6, true), (9, true), (7, false), (8, false), (10, false), (11, true)] (by kernel_rfl) (by kernel_rfl) (by kernel_rfl) (fun _ d _ _ _ h => by cases d <;> exact h) (MKS.out _ b6.drew) (fun hS0 => ?_)
              refine plan_w (v := ?_) rfl (by rfl) ?_ ?_
              rotate_left
              · intro wx hSx
                try dsimp only at hSx
                go_simp
                try (with_reducible rfl)
              try simp only [Act.put, List.setIfInBounds_toArray, List.set_cons_zero, List.set_cons_succ]
              refine plan_w (v := ?_) rfl (by rfl) ?_ ?_
              rotate_left
              · intro wx hSx
                try dsimp only at hSx
                go_simp
                try (with_reducible rfl)
              try simp only [Act.put, List.setIfInBounds_toArray, List.set_cons_zero, List.set_cons_succ]
              refine plan_w (v := ?_) rfl (by rfl) ?_ ?_
              rotate_left
              · intro wx hSx
                try dsimp only at hSx
                go_simp
                try (with_reducible rfl)
              try simp only [Act.put, List.setIfInBounds_toArray, List.set_cons_zero, List.set_cons_succ]
              refine plan_w (v := ?_) rfl (by rfl) ?_ ?_
              rotate_left
              · intro wx hSx
                try dsimp only at hSx
                go_simp
                try (with_reducible rfl)
              try simp only [Act.put, List.setIfInBounds_toArray, List.set_cons_zero, List.set_cons_succ]
              refine plan_w (v := ?_) rfl (by rfl) ?_ ?_
              rotate_left
              · intro wx hSx
                try dsimp only at hSx
                go_simp
                try (with_reducible rfl)
              try simp only [Act.put, List.setIfInBounds_toArray, List.set_cons_zero, List.set_cons_succ]
              refine plan_w (v := ?_) rfl (by rfl) ?_ ?_
              rotate_left
              · intro wx hSx
                try dsimp only at hSx
                go_simp
                try (with_reducible rfl)
              try simp only [Act.put, List.setIfInBounds_toArray, List.set_cons_zero, List.set_cons_succ]
              refine plan_w (v := ?_) rfl (by rfl) ?_ ?_
              rotate_left
              · intro wx hSx
                try dsimp only at hSx
                go_simp
                try (with_reducible rfl)
              try simp only [Act.put, List.setIfInBounds_toArray, List.set_cons_zero, List.set_cons_succ]
              refine plan_w (v := ?_) rfl (by rfl) ?_ ?_
              rotate_left
              · intro wx hSx
                try dsimp only at hSx
                go_simp
                try (with_reducible rfl)
              try simp only [Act.put, List.setIfInBounds_toArray, List.set_cons_zero, List.set_cons_succ]
              refine plan_b rfl (fun K hK => ?_)
              go_simp
              have b7 : Below w.heap.size w (World.drew (w6.alloc (.cells #[.int .i64 p.1, .int .i64 p.2] 33))) := by (repeat (first | assumption | exact Below.refl _ _ | (refine bl_alloc ?_ _) | (refine Below.drew ?_) | (refine bl_drewN ?_ _) | (refine bl_set ?_ (by first | (simp; done) | omega | (simp; omega)) _) | (refine bl_trans ?_ (by assumption)) | (refine bl_step ?_ (by assumption) (by first | omega | exact Below.size (by assumption) | (simp; omega) | (simp; exact Below.size (by assumption))))))
              have o7 : OwnL (World.drew (w6.alloc (.cells #[.int .i64 p.1, .int .i64 p.2] 33))) w.heap.size (.slice (some ⟨g, 0, none⟩) L.length c) L := own_to (w1 := w6.alloc (.cells #[.int .i64 p.1, .int .i64 p.2] 33)) o6 ((Below.refl _ _).alloc (Nat.le_refl _) _)
              have r7 : OwnL (World.drew (w6.alloc (.cells #[.int .i64 p.1, .int .i64 p.2] 33))) w.heap.size (.slice (some ⟨g6, 0, none⟩) (L.drop a).length c6) (L.drop a) := own_to (w1 := w6.alloc (.cells #[.int .i64 p.1, .int .i64 p.2] 33)) r6 ((Below.refl _ _).alloc (Nat.le_refl _) _)
              have n7 : (World.drew (w6.alloc (.cells #[.int .i64 p.1, .int .i64 p.2] 33))).heap[w6.heap.size]? = some (.cells #[.int .i64 p.1, .int .i64 p.2] 33 (0, 0)) := heap_alloc_new w6 _
              refine hK _ _ ⟨MKS.out _ b7, ?_⟩
              clear hK K hS0 o6 r6 b6
              try simp only [Act.put, List.setIfInBounds_toArray, List.set_cons_zero, List.set_cons_succ]
              generalize World.drew (w6.alloc (.cells #[.int .i64 p.1, .int .i64 p.2] 33)) = w7 at *
              refine plan_b rfl (fun K hK => ?_)
              refine step_append_at (by rfl) (.tmp 45) (.tmp 50) 25 (by rfl) w.heap.size 33 i0 _ 2 16 Try.underlying25 hi0 hiz his hib rfl (by decide) (.slice (some ⟨g, 0, none⟩) a c) a (cellsP (L.take a)) (by rfl) (o7.cut ha) ⟨w6.heap.size, 0, none⟩ 1 1 [.int .i64 p.1, .int .i64 p.2] (by rfl) rfl (World.news_of_block n7) (by intro u hu; simp at hu; rcases hu with rfl | rfl <;> rfl) (by unfold maxLen; omega) (by omega) (b7.size) ?_
              intro v8 w8 hown8 hgrow8 hblk8
              have b8 : Below w.heap.size w w8 := Below.grown b7 hgrow8 b7.size (fun k e => by simp [Value.ownBlock] at e; have := HG.out; omega)
              have r8 : OwnL w8 w.heap.size (.slice (some ⟨g6, 0, none⟩) (L.drop a).length c6) (L.drop a) := r7.grown hgrow8 (by simp [Value.ownBlock]; exact hgg)
              have hne8 : v8.ownBlock ≠ none := by rcases hblk8 with h | h <;> rw [h] <;> simp [Value.ownBlock]
              have hld : (L.drop a).length = L.length - a := List.length_drop
              refine hK _ _ ⟨MKS.out _ b8, ?_⟩
              clear hK K hgrow8 hblk8 o7 r7 b7 n7
              try simp only [Act.put, List.setIfInBounds_toArray, List.set_cons_zero, List.set_cons_succ]
              refine plan_b rfl (fun K hK => ?_)
              refine step_append_at (by rfl) (.tmp 51) (.tmp 52) 25 (by rfl) w.heap.size 33 i0 _ 2 16 Try.underlying25 hi0 hiz his hib rfl (by decide) v8 (a + 1) (cellsP (L.take a) ++ [.int .i64 p.1, .int .i64 p.2]) (by rfl) hown8 ⟨g6, 0, none⟩ (L.length - a) c6 (cellsP (L.drop a)) (by rfl) (by rw [cellsP_len, List.length_drop]) (by have := r8.newsFrom (k := 0) (Nat.zero_le _); simpa using this) (cellsP_one _) (by unfold maxLen; omega) (by omega) (b8.size) ?_
              intro v10 w10 hown10 hgrow10 hblk10
              have b10 : Below w.heap.size w w10 := Below.grown b8 hgrow10 b8.size (fun k e => (World.ownsRow.lt hown8 k e).1)
              have o10 : OwnL w10 w.heap.size v10 (insAt L p a) := OwnL.mk hown10 (by unfold insAt; simp; omega) (by unfold insAt; rw [cellsP_app, show p :: L.drop a = [p] ++ L.drop a from rfl, cellsP_app]; simp [cellsP])
              have hne10 : v10.ownBlock ≠ none := by
                rcases hblk10 with h | h
                · rw [h]; exact hne8
                · rw [h]; simp
              obtain ⟨g10, c10, rfl, _, hc10⟩ := o10.some_ hne10
              have HLI : Hid ((insAt L p a).length = L.length + 1) := by show _ = _; unfold insAt; simp; omega
              refine hK _ _ ⟨MKS.out _ b10, ?_⟩
              clear hK K hgrow10 hblk10 hown10 r8 b8 hown8 hne8 hne10
              try simp only [Act.put, List.setIfInBounds_toArray, List.set_cons_zero, List.set_cons_succ]
              refine plan_w (v := ?_) rfl (by rfl) ?_ ?_
              rotate_left
              · intro wx hSx
                try dsimp only at hSx
                go_simp
                try (with_reducible rfl)
              try simp only [Act.put, List.setIfInBounds_toArray, List.set_cons_zero, List.set_cons_succ]
              refine plan_end ?_
              go_wp2
              go_roundw
              case rel => exact ⟨k + 1, g10, c10, insAt L p a, by omega, by go_num, rfl, o10, HI2, by rw [HLI.out]; omega, hc10, b10⟩
              case measure => simp [intOf]; omega
    · obtain rfl : k = ps.length := by omega
      go_wp2
      go_ret
      exact ⟨_, L, rfl, hown, HI.out, hb⟩
end Go.Proofs.Ytepamhdopmfkfaa
