/-
  Contract: a mirrored row.
-/
import Derived.Test.YtdpamieheefhdaaRightP
import Derived.Test.YtdpamieheefhdaaShRev
import Derived.Laws.CopyRow
namespace Go.Proofs.Ytdpamieheefhdaa
set_option linter.unusedSimpArgs false
set_option linter.unusedVariables false
open Go.ChangeShapes Go.WideShapes Go.ChangeAt Go.RowKit Go.Shelf Go.Sort

theorem addM (g o k : Nat) : (⟨g, o, none⟩ : Addr).add k = ⟨g, o + k, none⟩ := by unfold Addr.add; split <;> simp_all
/-- The row R, its first k numbers mirrored. -/
def mx (R : List Int) : Nat → List Int
  | 0 => R
  | k + 1 => (mx R k).set k (99 - (mx R k).getD k 0)
theorem mx_len (R : List Int) : ∀ k, (mx R k).length = R.length
  | 0 => rfl
  | k + 1 => by unfold mx; rw [List.length_set, mx_len R k]
theorem mx_at (R : List Int) : ∀ k j, j < R.length → (mx R k).getD j 0 = if j < k then 99 - R.getD j 0 else R.getD j 0
  | 0, j, _ => by rw [if_neg (by omega)]; rfl
  | k + 1, j, hj => by
    have h := mx_at R k j hj
    unfold mx
    rcases Nat.lt_trichotomy j k with e | e | e
    · rw [List.getD_eq_getElem?_getD, List.getElem?_set_ne (by omega), ← List.getD_eq_getElem?_getD, h, if_pos e, if_pos (by omega)]
    · subst e
      rw [List.getD_eq_getElem?_getD, List.getElem?_set_self (by rw [mx_len]; exact hj), Option.getD_some, h, if_neg (by omega), if_pos (by omega)]
    · rw [List.getD_eq_getElem?_getD, List.getElem?_set_ne (by omega), ← List.getD_eq_getElem?_getD, h, if_neg (by omega), if_neg (by omega)]
def mirL (T : List Int) : List Int := mx T.reverse T.length
theorem mirL_len (T : List Int) : (mirL T).length = T.length := by unfold mirL; rw [mx_len, List.length_reverse]
theorem mirL_row (T : List Int) : MirRow T (mirL T) T.length := fun j hj => by
  unfold mirL
  rw [mx_at _ _ _ (by rw [List.length_reverse]; exact hj), if_pos hj, List.getD_eq_getElem?_getD, List.getElem?_reverse hj, ← List.getD_eq_getElem?_getD]
theorem NBlk.put {w : World} {g n : Nat} {ns : List Int} (h : NBlk w g ns n) (hn : ns.length = n) {k : Nat} (hk : k < n) (x : Int) :
    NBlk (w.setCell ⟨g, k, none⟩ (.int .i64 x)) g (ns.set k x) n := by
  obtain ⟨cs, h0, h1, h2⟩ := h
  refine ⟨cs.setIfInBounds k (.int .i64 x), ?_, by simpa using h1, ?_⟩
  · simp [World.setCell, Array.getElem?_modify, h0]
  · intro i hi hl
    by_cases e : i = k
    · subst e
      simp only [Array.getElem?_setIfInBounds_self, h1]
      rw [if_pos (by omega), List.getD_eq_getElem?_getD, List.getElem?_set_self (by omega), Option.getD_some]
    · rw [Array.getElem?_setIfInBounds_ne (fun e' => e e'.symm), List.getD_eq_getElem?_getD, List.getElem?_set_ne (fun e' => e e'.symm), ← List.getD_eq_getElem?_getD]
      exact h2 i hi (by simpa using hl)
theorem getBang (L : List Int) (j : Nat) : L.toArray[j]! = L.getD j 0 := by
  rw [List.getD_eq_getElem?_getD]
  rcases Nat.lt_or_ge j L.length with h | h
  · rw [getElem!_pos _ j (by simpa using h)]; simp [h]
  · rw [getElem!_neg _ j (by simpa using h)]; simp [h]
theorem NBlk.holds {w : World} {g : Nat} {ns : List Int} (h : NBlk w g ns ns.length) : Holds (Value.int .i64) w g 0 ns.toArray := fun j hj => by
  have hj' : j < ns.length := by simpa using hj
  rw [getBang, Nat.zero_add]
  exact ⟨h.at_ hj' hj', h.frozen j⟩
theorem NBlk.put_row {w : World} {g : Nat} {ns ms : List Int} (h : NBlk w g ns ns.length) (hl : ms.length = ns.length) (q : Nat) :
    NBlk (putRow (Value.int .i64) (Sort.ahead w q) g 0 ms.toArray) g ms ms.length := by
  have hH : Holds (Value.int .i64) (Sort.ahead w q) g 0 ns.toArray := h.holds
  have hH2 := holds_putRow (Value.int .i64) (Sort.ahead w q) g 0 ns.toArray ms.toArray hH (by simpa using hl)
  obtain ⟨cs, h0, h1, h2⟩ := h
  obtain ⟨cs', e', hs'⟩ : ∃ cs', (putRow (Value.int .i64) (Sort.ahead w q) g 0 ms.toArray).heap[g]? = some (.cells cs' 2 (0, 0)) ∧ cs'.size = cs.size := by
    have h0' : (Sort.ahead w q).heap[g]? = some (.cells cs 2 (0, 0)) := h0
    refine ⟨putCells (Value.int .i64) 0 ms.toArray cs, ?_, ?_⟩
    · simp [putRow, mapBlock, Array.getElem?_modify]
      exact ⟨_, h0', rfl⟩
    · simp [putCells]
  refine ⟨cs', e', by omega, fun i hi hl' => ?_⟩
  have h3 := (hH2 i (by simpa using hl')).1
  rw [getBang, Nat.zero_add, cell_of_row _ g _ cs' _ _ e'] at h3
  exact h3
theorem below_putRow {B g : Nat} {w : World} (hB : B ≤ g) (q : Nat) (ms : List Int) : Below B w (putRow (Value.int .i64) (Sort.ahead w q) g 0 ms.toArray) :=
  ⟨rfl, rfl, rfl, by simp [Sort.ahead], fun k hk => by simp [putRow, mapBlock, Array.getElem?_modify, Sort.ahead]; omega⟩
/-- A new slice that holds the numbers. -/
def NewNums (ns : List Int) (w : World) (e : Ending) (w' : World) : Prop :=
  ∃ g, e = .returned (.slice (some ⟨g, 0, none⟩) ns.length ns.length) ∧ NBlk w' g ns ns.length ∧ Below w.heap.size w w' ∧ w.heap.size ≤ g
theorem infoI1 : (Try.prog.info? 2).map (·.size) = some 1 := by kernel_rfl
set_option maxRecDepth 100000 in
set_option maxHeartbeats 800000 in
theorem mirroredRow_any (A : Option Addr) (T : List Int) (n c : Nat) (w : World) (hp : IntsAt w w.heap.size A T) (HT : Hid (T.length = n)) (h1 : 1 ≤ n) (hn : n ≤ 20) (hbT : ∀ j, 0 ≤ T.getD j 0 ∧ T.getD j 0 ≤ 99) :
    Calls Try.prog 96 #[.slice A n c] w (NewNums (mirL T) w) := by
  obtain ⟨b, off, rfl, hbB, hc⟩ := hp (by have := HT.out; omega)
  have hmk := run_mknums n (by omega) w
  have hTn := HT.out
  obtain ⟨w2, hcp, hB2, hb2⟩ : ∃ w2, (Builtin.copy_ #[25, 25] 3 #[.slice (some ⟨w.heap.size, 0, none⟩) n n, .slice (some ⟨b, off, none⟩) n c]).run Try.prog (w.alloc (.cells (blankN n) 2)) = .ok (goInt n) w2 ∧ NBlk w2 w.heap.size T n ∧ Below w.heap.size w w2 := by
    have h := run_copy_row (P := Try.prog) (w.alloc (.cells (blankN n) 2)) 25 25 3 2 w.heap.size 0 n n ⟨b, off, none⟩ n c (blankN n) 2 (T.map (.int .i64)) Try.underlying25 infoI1 (heap_alloc_new w _) (by simp [hTn]) (by
      intro j v hv
      have hj : j < T.length := by
        rcases Nat.lt_or_ge j T.length with h | h
        · exact h
        · rw [List.getElem?_eq_none (by simpa using h)] at hv; cases hv
      have e : v = .int .i64 (T.getD j 0) := by
        rw [List.getElem?_map, List.getElem?_eq_getElem hj] at hv
        simp only [Option.map_some, Option.some.injEq] at hv
        rw [← hv, List.getD_eq_getElem?_getD, List.getElem?_eq_getElem hj, Option.getD_some]
      rw [e, addM]
      exact (((Below.refl w.heap.size w).alloc (Nat.le_refl _) _).cell (p := ⟨b, off + j, none⟩) hbB).trans (hc j hj)) (by simp [blankN, size_madeCells, hTn]) (by
      intro v hv
      obtain ⟨x, _, rfl⟩ := List.mem_map.1 hv
      rfl)
    rw [List.length_map, hTn] at h
    refine ⟨_, h, ?_, ?_⟩
    · refine ⟨_, setRow_heap _ _ _ _ _ _ (heap_alloc_new w _), by simp [blankN, size_madeCells, hTn], fun i hi hl => ?_⟩
      simp [List.getElem?_append, hl, List.getD_eq_getElem?_getD]
    · exact ((Below.refl w.heap.size w).alloc (Nat.le_refl _) _).trans ⟨rfl, rfl, rfl, by simp [World.setRow], fun k hk => setRow_other _ _ k _ (by omega)⟩
  have hRl : T.reverse.length = n := by rw [List.length_reverse, hTn]
  have hxb : ∀ k, k < n → 0 ≤ (mx T.reverse k).getD k 0 ∧ (mx T.reverse k).getD k 0 ≤ 99 := fun k hk => by
    rw [mx_at _ _ _ (by omega), if_neg (by omega), List.getD_eq_getElem?_getD, List.getElem?_reverse (by omega), ← List.getD_eq_getElem?_getD]
    exact hbT _
  have hB2' : NBlk w2 w.heap.size T T.length := by rw [hTn]; exact hB2
  have hrev := AnyE.slices_Reverse Try.revI (Value.int .i64) (fun _ => rfl) w.heap.size 0 n T w2 hB2'.holds (by omega)
  rw [hTn] at hrev
  have hB3 : ∀ q, NBlk (putRow (Value.int .i64) (Sort.ahead w2 q) w.heap.size 0 T.reverse.toArray) w.heap.size T.reverse n := fun q => by
    have h := hB2'.put_row (ms := T.reverse) (by simp) q
    rw [hRl] at h; exact h
  have hb3 : ∀ q, Below w.heap.size w (putRow (Value.int .i64) (Sort.ahead w2 q) w.heap.size 0 T.reverse.toArray) := fun q => hb2.trans (below_putRow (Nat.le_refl _) q T.reverse)
  have HB3 := Lib.hid hB3
  have Hb3 := Lib.hid hb3
  have HXB := Lib.hid hxb
  have HRL := Lib.hid hRl
  have hML : (mirL T).length = n := by rw [mirL_len, hTn]
  have HM : Hid (mirL T = mx T.reverse n) := by show mirL T = _; unfold mirL; rw [hTn]
  have HML := Lib.hid hML
  change Calls Try.prog 107 _ _ _ at hrev
  clear hB3 hb3 hxb hRl hML hB2 hB2' hb2 hTn hbT hp hc
  go_enter Try.func96, Try.ntmps96
  go_wp2_with fail
  clear hmk hcp
  refine hrev.mono ?_
  rintro e w3 ⟨rfl, q, e3⟩
  have hB3 := HB3.out q
  have hb3 := Hb3.out q
  rw [← e3] at hB3 hb3
  clear e3 hrev
  go_wp2
  go_loopw [4, 15] (fun _ i wr => ∃ k : Nat, k ≤ n ∧ i = .int .i64 k ∧ NBlk wr w.heap.size (mx T.reverse k) n ∧ Below w.heap.size w wr) (fun _ i _ => n - (intOf i).toNat)
  case atStart => exact ⟨0, Nat.zero_le _, rfl, hB3, hb3⟩
  case round =>
    obtain ⟨k, hk, rfl, hB, hb⟩ := hrel
    clear hB3 hb3
    by_cases hlt : k < n
    · have hl : (mx T.reverse k).length = n := by rw [mx_len]; exact HRL.out
      have c0 := hB.at_ hlt (by omega)
      have f0 := hB.frozen k
      obtain ⟨x0, x1⟩ := HXB.out k hlt
      have hS := hB.put hl hlt (99 - (mx T.reverse k).getD k 0)
      have HS : Hid (NBlk (wr.setCell ⟨w.heap.size, k, none⟩ (.int .i64 (99 - (mx T.reverse k).getD k 0))) w.heap.size (mx T.reverse (k + 1)) n) := hS
      clear hS
      generalize (mx T.reverse k).getD k 0 = y at *
      have hlt' : (k : Int) < (n : Int) := by omega
      have hk0 : 0 ≤ (k : Int) := by omega
      have e1 : IntKind.i64.wrap (99 - y) = 99 - y := IntWalk.i64_in _ (by omega)
      go_wp2
      go_roundw
      case rel => exact ⟨k + 1, by omega, by go_num, HS.out, by (repeat (first | assumption | exact Below.refl _ _ | (refine bl_alloc ?_ _) | (refine Below.drew ?_) | (refine bl_drewN ?_ _) | (refine bl_set ?_ (by first | (simp; done) | omega | (simp; omega)) _) | (refine bl_trans ?_ (by assumption)) | (refine bl_step ?_ (by assumption) (by first | omega | exact Below.size (by assumption) | (simp; omega) | (simp; exact Below.size (by assumption))))))⟩
      case measure => simp [intOf]; omega
    · obtain rfl : k = n := by omega
      go_wp2
      rw [← HM.out] at hB
      exact ⟨rfl, _, results_tmp rfl _ _ _, w.heap.size, by rw [HML.out]; rfl, by rw [HML.out]; exact hB, hb, Nat.le_refl _⟩
end Go.Proofs.Ytdpamieheefhdaa
