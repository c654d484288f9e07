/-
  Contract: impl's columnsOf: the columns of a channel, and whether it is valid.
-/
import Derived.Test.YtpcilpcinbamcaaDoorChanS
import Derived.StillTailTactics
namespace Go.Proofs.YtpcilpcinbamcaaDoor
set_option linter.unusedSimpArgs false
set_option linter.unusedVariables false
open Go.ChangeShapes Go.WideShapes Go.ChangeAt Go.RowKit

/-- An index, or less than 0 where there is none. -/
def IdxOk (i : Int) (ns : List Int) (v : Int) : Prop := 0 ≤ i ↔ v ∈ ns
set_option maxHeartbeats 400000 in
theorem indexI_any (A : Option Addr) (ns : List Int) (c : Nat) (v : Int) (w : World) (hp : IntsAt w w.heap.size A ns) (hl : ns.length ≤ 1048576) :
    Calls Tryd.prog 30 #[.slice A ns.length c, .int .i64 v] w fun e w' => (∃ i : Int, e = .returned (.int .i64 i) ∧ IdxOk i ns v) ∧ w' = w := by
  have hl' : (ns.length : Int) ≤ 1048576 := by omega
  go_enter Tryd.func30, Tryd.ntmps30
  go_wp2
  go_loop [5, 8] (fun _ i => ∃ k : Nat, k ≤ ns.length ∧ i = .int .i64 k ∧ Hid (∀ j, j < k → ns.getD j 0 ≠ v)) (fun _ i => ns.length - (intOf i).toNat)
  case atStart => exact ⟨0, Nat.zero_le _, rfl, fun j hj => by omega⟩
  case round =>
    obtain ⟨k, hk, rfl, HA⟩ := hrel
    by_cases hlt : k < ns.length
    · obtain ⟨b, off, rfl, hbB, hc⟩ := hp (by omega)
      have d0 := hc k hlt
      have hltI : (k : Int) < (ns.length : Int) := by omega
      by_cases hv : ns.getD k 0 = v
      · have HR : Hid (v ∈ ns) := by
          rw [List.getD_eq_getElem?_getD, List.getElem?_eq_getElem hlt] at hv
          exact hv ▸ List.getElem_mem hlt
        rw [hv] at d0
        clear hc hp hv
        go_wp2
        go_ret
        exact ⟨⟨_, rfl, ⟨fun _ => HR.out, fun _ => by omega⟩⟩, rfl⟩
      · have HN : Hid (∀ j, j < k + 1 → ns.getD j 0 ≠ v) := fun j hj => by
          by_cases e : j = k
          · rw [e]; exact hv
          · exact HA.out j (by omega)
        have hne : (v == ns.getD k 0) = false := by simpa using fun e : v = ns.getD k 0 => hv e.symm
        have hne2 : ¬ v = ns.getD k 0 := fun e => hv e.symm
        generalize ns.getD k 0 = x at *
        clear hc hp hv
        go_wp2
        go_round
        case rel => exact ⟨k + 1, by omega, by go_num, HN⟩
        case measure => simp [intOf]; omega
    · have HR : Hid (¬ v ∈ ns) := by
        intro hm
        obtain ⟨j, hj, e⟩ := List.getElem_of_mem hm
        exact HA.out j (by omega) (by rw [List.getD_eq_getElem?_getD, List.getElem?_eq_getElem hj]; exact e)
      go_wp2
      go_ret
      exact ⟨⟨_, rfl, ⟨fun h => by omega, fun h => absurd h HR.out⟩⟩, rfl⟩
theorem containsI_any (A : Option Addr) (ns : List Int) (c : Nat) (v : Int) (w : World) (hp : IntsAt w w.heap.size A ns) (hl : ns.length ≤ 1048576) :
    Calls Tryd.prog 24 #[.slice A ns.length c, .int .i64 v] w fun e w' => e = .returned (.bool (ns.contains v)) ∧ w' = w := by
  go_enter Tryd.func24, Tryd.ntmps24
  go_wp2_with fail
  refine (indexI_any _ _ _ _ _ hp hl).mono ?_
  rintro e w1 ⟨⟨i, rfl, HI⟩, rfl⟩
  by_cases h : 0 ≤ i
  · have HR : Hid (ns.contains v = true) := List.contains_iff_mem.2 (HI.1 h)
    go_wp2
    go_ret
    exact ⟨retB (by rw [HR.out]), rfl⟩
  · have HR : Hid (ns.contains v = false) := by show _ = _; rw [Bool.eq_false_iff, ne_eq, List.contains_iff_mem]; exact fun hm => h (HI.2 hm)
    have hd : decide (0 ≤ i) = false := decide_eq_false h
    go_wp2
    go_ret
    exact ⟨retB (by rw [HR.out]), rfl⟩

/-- Block g holds the first k columns. -/
def ColBlk (w : World) (g : Nat) (T B : List Int) (n k : Nat) : Prop :=
  ∃ cs, w.heap[g]? = some (.cells cs 56 (0, 0)) ∧ cs.size = n * 2 ∧ ∀ i, i < k → cs[i * 2]? = some (.int .i64 (T.getD i 0)) ∧ cs[i * 2 + 1]? = some (.int .i64 (B.getD i 0))
theorem ColBlk.lt {w : World} {g n k : Nat} {T B : List Int} (h : ColBlk w g T B n k) : g < w.heap.size := by
  obtain ⟨cs, h, _⟩ := h
  rcases Nat.lt_or_ge g w.heap.size with hlt | hge
  · exact hlt
  · rw [Array.getElem?_eq_none hge] at h; cases h
theorem ColBlk.keep {w w' : World} {g n k : Nat} {T B : List Int} (h : ColBlk w g T B n k) (hk : w'.heap[g]? = w.heap[g]?) : ColBlk w' g T B n k := by
  obtain ⟨cs, h0, h1⟩ := h
  exact ⟨cs, hk.trans h0, h1⟩
theorem ColBlk.to {w w1 : World} {g n k : Nat} {T B : List Int} (h : ColBlk w g T B n k) (hb : Below w.heap.size w w1) : ColBlk w1 g T B n k := h.keep (hb.block g h.lt)
theorem ColBlk.at_ {w : World} {g n k : Nat} {T B : List Int} (h : ColBlk w g T B n k) {i : Nat} (hi : i < k) :
    w.cell? ⟨g, i * 2, none⟩ = some (.int .i64 (T.getD i 0)) ∧ w.cell? ⟨g, i * 2 + 1, none⟩ = some (.int .i64 (B.getD i 0)) := by
  obtain ⟨cs, h0, _, h2⟩ := h
  rw [cell_of_row w g _ cs _ _ h0, cell_of_row w g _ cs _ _ h0]
  exact h2 i hi
theorem ColBlk.frozen {w : World} {g n k : Nat} {T B : List Int} (h : ColBlk w g T B n k) (i : Nat) : w.frozen? ⟨g, i, none⟩ = false := by
  obtain ⟨cs, h0, _⟩ := h
  simp [World.frozen?, h0]
theorem ColBlk.there {w : World} {g n k : Nat} {T B : List Int} (h : ColBlk w g T B n k) {i : Nat} (hi : i < n * 2) : ∃ v, w.cell? ⟨g, i, none⟩ = some v := by
  obtain ⟨cs, h0, h1, _⟩ := h
  rw [cell_of_row w g _ cs _ _ h0]
  exact ⟨cs[i], by simp [h1, hi]⟩
theorem ColBlk.set_ {w : World} {g n k : Nat} {T B : List Int} (h : ColBlk w g T B n k) (hk : k < n) :
    ColBlk ((w.setCell ⟨g, k * 2, none⟩ (.int .i64 (T.getD k 0))).setCell ⟨g, k * 2 + 1, none⟩ (.int .i64 (B.getD k 0))) g T B n (k + 1) := by
  obtain ⟨cs, h0, h1, h2⟩ := h
  refine ⟨(cs.setIfInBounds (k * 2) (.int .i64 (T.getD k 0))).setIfInBounds (k * 2 + 1) (.int .i64 (B.getD k 0)), ?_, by simpa using h1, ?_⟩
  · simp [World.setCell, Array.getElem?_modify, h0]
  · intro i hi
    rcases Nat.lt_or_ge i k with hlt | hge
    · obtain ⟨a, b⟩ := h2 i hlt
      rw [Array.getElem?_setIfInBounds_ne (by omega), Array.getElem?_setIfInBounds_ne (by omega), Array.getElem?_setIfInBounds_ne (by omega), Array.getElem?_setIfInBounds_ne (by omega)]
      exact ⟨a, b⟩
    · obtain rfl : i = k := by omega
      rw [Array.getElem?_setIfInBounds_ne (by omega)]
      simp only [Array.getElem?_setIfInBounds_self, h1, Array.size_setIfInBounds]
      rw [if_pos (by omega), if_pos (by omega)]
      exact ⟨rfl, rfl⟩
def blankC (n : Nat) : Array Value := madeCells #[.int .i64 0, .int .i64 0] (n * 2)
theorem infoC : (Tryd.prog.info? 56).map (fun i => (i.zero, i.size, i.bytes)) = some (some (.agg #[.int .i64 0, .int .i64 0]), 2, 16) := by kernel_rfl
theorem run_mkcols (n : Nat) (h : n ≤ 1048576) (w : World) :
    (Instr.makeSlice 42 (.int .i64 (n : Int)) (.int .i64 (n : Int))).run Tryd.prog w = .ok (.slice (some ⟨w.heap.size, 0, none⟩) n n) (w.alloc (.cells (blankC n) 56)) := by
  obtain ⟨i, hi, hzz⟩ := Option.map_eq_some_iff.1 infoC
  simp only [Prod.mk.injEq] at hzz
  obtain ⟨hz, hs, hb⟩ := hzz
  have := run_make (P := Tryd.prog) w 42 56 i _ Tryd.underlying42 hi hz .i64 .i64 n n (by omega) (by omega) (by rw [hb]; omega) (by omega)
  rw [this, hs]
  rfl
theorem ColBlk.new (w : World) (T B : List Int) (n : Nat) : ColBlk (w.alloc (.cells (blankC n) 56)) w.heap.size T B n 0 :=
  ⟨blankC n, heap_alloc_new w _, by simp [blankC, size_madeCells], fun i hi => by omega⟩

/-- The answer of columnsOf. -/
def ColRes (T B : List Int) (w : World) (e : Ending) (w' : World) : Prop :=
  Below w.heap.size w w' ∧ ((chanB T B = true ∧ ∃ g, e = .returned (.tuple #[.slice (some ⟨g, 0, none⟩) T.length T.length, .bool true]) ∧ ColBlk w' g T B T.length T.length ∧ w.heap.size ≤ g) ∨
    (chanB T B = false ∧ ∃ v, e = .returned (.tuple #[v, .bool false])))
/-- How often each of the numbers 1 to 12 is in L. -/
def cnts (L : List Int) : List Int := (List.range 12).map fun k => (L.count ((k + 1 : Nat) : Int) : Int)
theorem cnts_one (L : List Int) : (cnts L).contains 1 = single L := by
  unfold cnts single
  rw [Bool.eq_iff_iff, List.contains_iff_mem, List.mem_map, List.any_eq_true]
  constructor
  · rintro ⟨k, hk, e⟩
    exact ⟨k, hk, by rw [beq_iff_eq]; omega⟩
  · rintro ⟨k, hk, e⟩
    rw [beq_iff_eq] at e
    exact ⟨k, hk, by omega⟩
theorem CntAt.tail {w : World} {g : Nat} {t : TypeId} {L : List Int} (h : CntAt w g t L) : IntsAt w w.heap.size (some ⟨g, 1, none⟩) (cnts L) := fun _ =>
  ⟨g, 1, rfl, h.lt, fun i hi => by
    have hi' : i < 12 := by simpa [cnts] using hi
    rw [h.at_ (j := 1 + i) (by omega)]
    simp [cnts, List.getD_eq_getElem?_getD, hi', Nat.add_comm]⟩

theorem contains_cnts (g c : Nat) (L : List Int) (w : World) (h : IntsAt w w.heap.size (some ⟨g, 1, none⟩) (cnts L)) :
    Calls Tryd.prog 24 #[.slice (some ⟨g, 1, none⟩) 12 c, .int .i64 1] w fun e w' => e = .returned (.bool (single L)) ∧ w' = w := by
  have hl : (cnts L).length = 12 := by simp [cnts]
  have := containsI_any (some ⟨g, 1, none⟩) (cnts L) c 1 w h (by omega)
  rw [cnts_one, hl] at this
  exact this
theorem ChAt.keep {w w1 : World} {b : Nat} {A A' : Option Addr} {n n' c c' : Nat} (h : ChAt w b A A' n n' c c') (hk : w1.heap[b]? = w.heap[b]?) (hz : w.heap.size ≤ w1.heap.size) : ChAt w1 b A A' n n' c c' :=
  ⟨Nat.lt_of_lt_of_le h.lt hz, (World.cell?_of_block (a := ⟨b, 0, none⟩) hk).trans h.c0, (World.cell?_of_block (a := ⟨b, 1, none⟩) hk).trans h.c1⟩
theorem ChAt.new (w : World) (A A' : Option Addr) (n n' c c' : Nat) (t : TypeId) : ChAt (w.alloc (.cells #[.slice A n c, .slice A' n' c'] t)) w.heap.size A A' n n' c c' :=
  ⟨by simp, by simp, by simp⟩
/-- A new box of two numbers. -/
structure TwoAt (w : World) (g : Nat) (x y : Int) : Prop where
  lt : g < w.heap.size
  c0 : w.cell? ⟨g, 0, none⟩ = some (.int .i64 x)
  c1 : w.cell? ⟨g, 1, none⟩ = some (.int .i64 y)
theorem TwoAt.new (w : World) (x y : Int) (t : TypeId) : TwoAt (w.alloc (.cells #[.int .i64 x, .int .i64 y] t)) w.heap.size x y :=
  ⟨by simp, by simp, by simp⟩
theorem TwoAt.keep {w w1 : World} {g : Nat} {x y : Int} (h : TwoAt w g x y) (hk : w1.heap[g]? = w.heap[g]?) (hz : w.heap.size ≤ w1.heap.size) : TwoAt w1 g x y :=
  ⟨Nat.lt_of_lt_of_le h.lt hz, (World.cell?_of_block (a := ⟨g, 0, none⟩) hk).trans h.c0, (World.cell?_of_block (a := ⟨g, 1, none⟩) hk).trans h.c1⟩
/-- What the loop over the columns holds. -/
structure ColInv (w wr : World) (A A' : Option Addr) (T B : List Int) (n c c' : Nat) (L : List Int) (k : Nat) : Prop where
  ch : ChAt wr w.heap.size A A' n n c c'
  cn : CntAt wr (w.heap.size + 1) 54 L
  co : ColBlk wr (w.heap.size + 1 + 1) T B n k
  be : Below w.heap.size w wr
theorem ColInv.drew {w wr : World} {A A' : Option Addr} {T B : List Int} {n c c' : Nat} {L : List Int} {k : Nat} (h : ColInv w wr A A' T B n c c' L k) : ColInv w wr.drew A A' T B n c c' L k :=
  ⟨h.ch.keep rfl (Nat.le_refl _), h.cn.keep rfl, h.co.keep rfl, h.be.drew⟩
theorem ColInv.col {w wr : World} {A A' : Option Addr} {T B : List Int} {n c c' : Nat} {L : List Int} {k : Nat} (h : ColInv w wr A A' T B n c c' L k) (hk : k < n) :
    ColInv w ((wr.setCell ⟨w.heap.size + 1 + 1, k * 2, none⟩ (.int .i64 (T.getD k 0))).setCell ⟨w.heap.size + 1 + 1, k * 2 + 1, none⟩ (.int .i64 (B.getD k 0))) A A' T B n c c' L (k + 1) := by
  have hh : ∀ i, i ≠ w.heap.size + 1 + 1 → ((wr.setCell ⟨w.heap.size + 1 + 1, k * 2, none⟩ (.int .i64 (T.getD k 0))).setCell ⟨w.heap.size + 1 + 1, k * 2 + 1, none⟩ (.int .i64 (B.getD k 0))).heap[i]? = wr.heap[i]? := fun i hi =>
    (Below.heap_setCell _ _ _ i (by simpa using hi)).trans (Below.heap_setCell _ _ _ i (by simpa using hi))
  exact ⟨h.ch.keep (hh _ (by omega)) (by simp [World.setCell]), h.cn.keep (hh _ (by omega)), h.co.set_ hk, (h.be.setCell (p := ⟨w.heap.size + 1 + 1, k * 2, none⟩) (by simp; omega) _).setCell (p := ⟨w.heap.size + 1 + 1, k * 2 + 1, none⟩) (by simp; omega) _⟩
theorem ColInv.alloc {w wr : World} {A A' : Option Addr} {T B : List Int} {n c c' : Nat} {L : List Int} {k : Nat} (h : ColInv w wr A A' T B n c c' L k) (o : Obj) : ColInv w (wr.alloc o) A A' T B n c c' L k := by
  have hb : Below wr.heap.size wr (wr.alloc o) := (Below.refl _ _).alloc (Nat.le_refl _) _
  exact ⟨h.ch.to hb, h.cn.to hb, h.co.to hb, h.be.alloc h.be.size _⟩
theorem ColInv.inc {w wr : World} {A A' : Option Addr} {T B : List Int} {n c c' : Nat} {L : List Int} {k : Nat} (h : ColInv w wr A A' T B n c c' L k) {j : Nat} (hj : j < 13) :
    ColInv w (wr.setCell ⟨w.heap.size + 1, j, none⟩ (.int .i64 ((L.count (j : Int) : Int) + 1))) A A' T B n c c' (L ++ [(j : Int)]) k := by
  have hh : ∀ i, i ≠ w.heap.size + 1 → (wr.setCell ⟨w.heap.size + 1, j, none⟩ (.int .i64 ((L.count (j : Int) : Int) + 1))).heap[i]? = wr.heap[i]? := fun i hi =>
    Below.heap_setCell _ _ _ i (by simpa using hi)
  exact ⟨h.ch.keep (hh _ (by omega)) (by simp [World.setCell]), h.cn.inc hj, h.co.keep (hh _ (by omega)), h.be.setCell (p := ⟨w.heap.size + 1, j, none⟩) (by simp) _⟩
/-- The first j of two numbers. -/
def two (x y : Int) : Nat → List Int
  | 0 => []
  | 1 => [x]
  | _ => [x, y]

set_option maxRecDepth 100000 in
set_option maxHeartbeats 1600000 in
theorem columnsOf_any (A A' : Option Addr) (T B : List Int) (c c' : Nat) (w : World) (hp : IntsAt w w.heap.size A T) (hq : IntsAt w w.heap.size A' B) :
    Calls Tryd.prog 17 #[.agg #[.slice A T.length c, .slice A' B.length c']] w (ColRes T B w) := by
  by_cases hF : 1 ≤ T.length ∧ T.length ≤ 24 ∧ B.length = T.length
  · have HF := Lib.hid hF
    obtain ⟨h1, h24, hBT⟩ := hF
    have HBT := Lib.hid hBT
    rw [hBT]
    obtain ⟨n, hn⟩ : ∃ n, T.length = n := ⟨_, rfl⟩
    have HN := Lib.hid hn
    rw [hn] at h1 h24
    rw [hn]
    clear hn hBT
    have h1I : ¬ (n : Int) < 1 := by omega
    have h24I : ¬ (24 : Int) < n := by omega
    have h0n : ¬ n = 0 := by omega
    have h24d : decide (24 < n) = false := decide_eq_false (by omega)
    have hmk := run_mkcols n (by omega)
    go_enter Tryd.func17, Tryd.ntmps17
    go_wp2
    clear hmk
    go_loopw [6, 8, 34] (fun _ _ i wr => ∃ k : Nat, k ≤ n ∧ i = .int .i64 k ∧ ColInv w wr A A' T B n c c' (pinsTo T B k) k ∧ Hid ((pinsTo T B k).all inNet = true)) (fun _ _ i _ => n - (intOf i).toNat)
    case atStart =>
      refine ⟨0, Nat.zero_le _, rfl, ⟨(ChAt.new w A A' n n c c' 29).to (((Below.refl _ _).alloc (Nat.le_refl _) _).alloc (by simp) _), ?_, ?_, by (repeat (first | assumption | exact Below.refl _ _ | (refine bl_alloc ?_ _) | (refine Below.drew ?_) | (refine bl_drewN ?_ _) | (refine bl_set ?_ (by first | (simp; done) | omega | (simp; omega)) _) | (refine bl_trans ?_ (by assumption)) | (refine bl_step ?_ (by assumption) (by first | omega | exact Below.size (by assumption) | (simp; omega) | (simp; exact Below.size (by assumption))))))⟩, rfl⟩
      · refine CntAt.to (w := ((w.alloc _).alloc _)) ?_ ((Below.refl _ _).alloc (Nat.le_refl _) _)
        have := CntAt.new (w.alloc (.cells #[.slice A n c, .slice A' n c'] 29)) #[.int .i64 0, .int .i64 0, .int .i64 0, .int .i64 0, .int .i64 0, .int .i64 0, .int .i64 0, .int .i64 0, .int .i64 0, .int .i64 0, .int .i64 0, .int .i64 0, .int .i64 0] 54 rfl (by
          intro j hj
          rcases j with _ | _ | _ | _ | _ | _ | _ | _ | _ | _ | _ | _ | _ | j <;> first | rfl | omega)
        simpa [pinsTo] using this
      · have := ColBlk.new ((w.alloc (.cells #[.slice A n c, .slice A' n c'] 29)).alloc (.cells #[.int .i64 0, .int .i64 0, .int .i64 0, .int .i64 0, .int .i64 0, .int .i64 0, .int .i64 0, .int .i64 0, .int .i64 0, .int .i64 0, .int .i64 0, .int .i64 0, .int .i64 0] 54)) T B n
        simpa using this
    case round =>
      obtain ⟨k, hk, rfl, hI, HA⟩ := hrel
      by_cases hkn : k < n
      · obtain ⟨b1, o1, rfl, z1, k1⟩ := hp (by rw [HN.out]; omega)
        obtain ⟨b2, o2, rfl, z2, k2⟩ := hq (by rw [HBT.out, HN.out]; omega)
        have D1 : ∀ w1, Below w.heap.size w w1 → w1.cell? ⟨b1, o1 + k, none⟩ = some (.int .i64 (T.getD k 0)) := fun w1 h1 => (h1.cell (p := ⟨b1, o1 + k, none⟩) z1).trans (k1 k (by rw [HN.out]; exact hkn))
        have D2 : ∀ w1, Below w.heap.size w w1 → w1.cell? ⟨b2, o2 + k, none⟩ = some (.int .i64 (B.getD k 0)) := fun w1 h1 => (h1.cell (p := ⟨b2, o2 + k, none⟩) z2).trans (k2 k (by rw [HBT.out, HN.out]; exact hkn))
        have hknI : (k : Int) < n := by omega
        have hk0 : (0 : Int) ≤ k := by omega
        have HS : Hid (pinsTo T B (k + 1) = pinsTo T B k ++ [T.getD k 0, B.getD k 0]) := rfl
        have HL : Hid ((pinsTo T B (k + 1)).all inNet = (inNet (T.getD k 0) && inNet (B.getD k 0))) := by show _ = _; rw [HS.out, all_snoc2 HA.out]
        have HBad : (pinsTo T B (k + 1)).all inNet = false → Hid (chanB T B = false) := fun h => chanB_in (pinsTo_bad (i := k + 1) (by rw [HN.out]; omega) h)
        have hP48 : (pinsTo T B k).length ≤ 46 := by rw [pinsTo_len]; omega
        have HC := Lib.hid (hI.drew.col hkn)
        obtain ⟨_, e0, e1⟩ := hI.ch
        have d1 := D1 wr hI.be
        have d2 := D2 wr hI.be
        have f0 := hI.co.frozen (k * 2)
        have f1 := hI.co.frozen (k * 2 + 1)
        obtain ⟨v0, t0⟩ := hI.co.there (i := k * 2) (by omega)
        obtain ⟨v1, t1⟩ := hI.co.there (i := k * 2 + 1) (by omega)
        generalize T.getD k 0 = x at *
        generalize B.getD k 0 = y at *
        clear k1 k2 hp hq
        go_wp2
        go_still_tail 14, (by kernel_rfl)
        change wpList _ _ _ _ _ wr.drew
        replace f0 : wr.drew.frozen? _ = false := f0
        replace f1 : wr.drew.frozen? _ = false := f1
        replace t0 : wr.drew.cell? _ = some v0 := t0
        replace t1 : wr.drew.cell? _ = some v1 := t1
        generalize wr.drew = wy at *
        clear e0 e1 d1 d2 hI
        go_wp2
        generalize (wy.setCell ⟨w.heap.size + 1 + 1, k * 2, none⟩ (.int .i64 x)).setCell ⟨w.heap.size + 1 + 1, k * 2 + 1, none⟩ (.int .i64 y) = w2 at *
        have hI := HC.out
        clear f0 f1 t0 t1 HC
        obtain ⟨_, e0, e1⟩ := hI.ch
        have d1 := D1 w2 hI.be
        have d2 := D2 w2 hI.be
        go_region
        have hI4 := (hI.alloc (.cells #[.int .i64 x, .int .i64 y] 2)).drew
        have hT4 : TwoAt (World.drew (w2.alloc (.cells #[.int .i64 x, .int .i64 y] 2))) w2.heap.size x y := (TwoAt.new w2 x y 2).keep rfl (Nat.le_refl _)
        have hgz : w.heap.size + 1 + 1 < w2.heap.size := hI.co.lt
        generalize World.drew (w2.alloc (.cells #[.int .i64 x, .int .i64 y] 2)) = w3 at *
        generalize w2.heap.size = g at *
        clear e0 e1 d1 d2 hI D1 D2
        go_wp2
        go_loopw [8, 63] (fun _ i wr => ∃ j : Nat, j ≤ 2 ∧ i = .int .i64 j ∧ ColInv w wr (some ⟨b1, o1, none⟩) (some ⟨b2, o2, none⟩) T B n c c' (pinsTo T B k ++ two x y j) (k + 1) ∧ TwoAt wr g x y ∧ Hid ((two x y j).all inNet = true)) (fun _ i _ => 2 - (intOf i).toNat)
        case atStart => exact ⟨0, by omega, rfl, by simpa [two] using hI4, hT4, rfl⟩
        case round =>
          clear hI4 hT4
          obtain ⟨j, hj, rfl, hI, hT, HJ⟩ := hrel
          by_cases hj2 : j < 2
          · obtain ⟨z, hz, HZ, hzI⟩ : ∃ z, wr.cell? ⟨g, j, none⟩ = some (.int .i64 z) ∧ Hid (two x y (j + 1) = two x y j ++ [z]) ∧ Hid (inNet z = false → (inNet x && inNet y) = false) := by
              rcases j with _ | _ | j
              · exact ⟨x, hT.c0, rfl, fun h => by rw [h]; rfl⟩
              · exact ⟨y, hT.c1, rfl, fun h => by rw [h]; simp⟩
              · omega
            have hjI : (j : Int) < 2 := by omega
            have hj0 : (0 : Int) ≤ j := by omega
            cases hn : inNet z
            · have HR := HBad (by rw [HL.out, hzI.out hn])
              by_cases hneg : z < 0
              · have hbe := hI.be
                clear hn HBad hI
                go_wp2
                go_ret2
                exact ⟨hbe, .inr ⟨HR.out, _, rfl⟩⟩
              · have hbig : 12 < z := by
                  unfold inNet inB at hn
                  have := of_decide_eq_false hn
                  omega
                have hbe := hI.be
                clear hn HBad hI
                go_wp2
                go_ret2
                exact ⟨hbe, .inr ⟨HR.out, _, rfl⟩⟩
            · obtain ⟨jz, hjz, rfl⟩ := inNet_nat hn
              have HJ' : Hid ((two x y (j + 1)).all inNet = true) := by show _ = _; rw [HZ.out, List.all_append, HJ.out]; simpa using hn
              have HN' : Hid (pinsTo T B k ++ two x y j ++ [(jz : Int)] = pinsTo T B k ++ two x y (j + 1)) := by show _ = _; rw [HZ.out]; simp
              have h48 : (pinsTo T B k ++ two x y j).length ≤ 48 := by
                have : (two x y j).length ≤ 2 := by rcases j with _ | _ | j <;> simp [two]
                simp; omega
              have c1 := hI.cn.at_ hjz
              have f1 := hI.cn.frozen jz
              obtain ⟨m0, m48⟩ := cnt_le (pinsTo T B k ++ two x y j) (jz : Int) h48
              have hjzI : (jz : Int) < 13 := by omega
              have hjz0 : (0 : Int) ≤ jz := by omega
              have hnI : ¬ (jz : Int) < 0 := by omega
              have hnI2 : ¬ (12 : Int) < (jz : Int) := by omega
              have hI' := hI.inc hjz
              have hT' : TwoAt (wr.setCell ⟨w.heap.size + 1, jz, none⟩ (.int .i64 (((pinsTo T B k ++ two x y j).count (jz : Int) : Int) + 1))) g x y := hT.keep (Below.heap_setCell _ _ _ g (by simp; omega)) (by simp [World.setCell])
              rw [HN'.out] at hI'
              generalize ((pinsTo T B k ++ two x y j).count (jz : Int) : Int) = cx at *
              have HI' := Lib.hid hI'
              have HT' := Lib.hid hT'
              clear hn HBad hI hT hI' hT'
              go_wp2
              go_roundw
              case rel => exact ⟨j + 1, by omega, by go_num, HI'.out, HT'.out, HJ'⟩
              case measure => simp [intOf]; omega
          · obtain rfl : j = 2 := by omega
            have HA' : Hid ((pinsTo T B (k + 1)).all inNet = true) := by show _ = _; rw [HS.out, List.all_append, HA.out]; exact HJ.out
            have HI' : Hid (ColInv w wr (some ⟨b1, o1, none⟩) (some ⟨b2, o2, none⟩) T B n c c' (pinsTo T B (k + 1)) (k + 1)) := by
              show ColInv _ _ _ _ _ _ _ _ _ _ _
              rw [HS.out]; exact hI
            clear hI hT HBad
            go_wp2
            go_roundw
            case rel => exact ⟨k + 1, by omega, by go_num, HI'.out, HA'⟩
            case measure => simp [intOf]; omega
      · obtain rfl : k = n := by omega
        have HA' : Hid ((pinsTo T B T.length).all inNet = true) := by show _ = _; rw [HN.out]; exact HA.out
        have HP : Hid (pinsTo T B T.length = pinsTo T B k) := by show _ = _; rw [HN.out]
        have hct := contains_cnts (w.heap.size + 1) 12 (pinsTo T B k) wr hI.cn.tail
        cases hs : single (pinsTo T B k)
        · have HR : Hid (chanB T B = true) := chanB_t HF.out HA'.out (by rw [HP.out]; exact hs)
          rw [hs] at hct
          have HI := Lib.hid hI
          clear hs hI hp hq
          go_wp2_with (go_at_call 24; refine hct.mono ?_; rintro e w' ⟨rfl, rfl⟩)
          go_ret2
          exact ⟨HI.out.be, .inl ⟨HR.out, w.heap.size + 1 + 1, (by rw [HN.out]; rfl), (by rw [HN.out]; exact HI.out.co), by omega⟩⟩
        · have HR : Hid (chanB T B = false) := chanB_one (by rw [HP.out]; exact hs)
          rw [hs] at hct
          have HI := Lib.hid hI
          clear hs hI hp hq
          go_wp2_with (go_at_call 24; refine hct.mono ?_; rintro e w' ⟨rfl, rfl⟩)
          go_ret2
          exact ⟨HI.out.be, .inr ⟨HR.out, _, rfl⟩⟩
  · have HR : Hid (chanB T B = false) := formB_f hF
    by_cases h1 : T.length < 1
    · have h1I : (T.length : Int) < 1 := by omega
      have h0n : T.length = 0 := by omega
      have h0d : decide (T.length < 1) = true := decide_eq_true h1
      clear hF
      go_enter Tryd.func17, Tryd.ntmps17
      go_wp2
      go_ret2
      exact ⟨by (repeat (first | assumption | exact Below.refl _ _ | (refine bl_alloc ?_ _) | (refine Below.drew ?_) | (refine bl_drewN ?_ _) | (refine bl_set ?_ (by first | (simp; done) | omega | (simp; omega)) _) | (refine bl_trans ?_ (by assumption)) | (refine bl_step ?_ (by assumption) (by first | omega | exact Below.size (by assumption) | (simp; omega) | (simp; exact Below.size (by assumption)))))), .inr ⟨HR.out, _, rfl⟩⟩
    · have h1I : ¬ (T.length : Int) < 1 := by omega
      have h0n : ¬ T.length = 0 := by omega
      by_cases h24 : 24 < T.length
      · have h24I : (24 : Int) < T.length := by omega
        have h24d : decide (24 < T.length) = true := decide_eq_true h24
        clear hF
        go_enter Tryd.func17, Tryd.ntmps17
        go_wp2
        go_ret2
        exact ⟨by (repeat (first | assumption | exact Below.refl _ _ | (refine bl_alloc ?_ _) | (refine Below.drew ?_) | (refine bl_drewN ?_ _) | (refine bl_set ?_ (by first | (simp; done) | omega | (simp; omega)) _) | (refine bl_trans ?_ (by assumption)) | (refine bl_step ?_ (by assumption) (by first | omega | exact Below.size (by assumption) | (simp; omega) | (simp; exact Below.size (by assumption)))))), .inr ⟨HR.out, _, rfl⟩⟩
      · have h24I : ¬ (24 : Int) < T.length := by omega
        have h24d : decide (24 < T.length) = false := decide_eq_false h24
        have hne : ((B.length : Int) == (T.length : Int)) = false := by simp; omega
        have hne2 : ¬ B.length = T.length := by omega
        clear hF
        go_enter Tryd.func17, Tryd.ntmps17
        go_wp2
        go_ret2
        exact ⟨by (repeat (first | assumption | exact Below.refl _ _ | (refine bl_alloc ?_ _) | (refine Below.drew ?_) | (refine bl_drewN ?_ _) | (refine bl_set ?_ (by first | (simp; done) | omega | (simp; omega)) _) | (refine bl_trans ?_ (by assumption)) | (refine bl_step ?_ (by assumption) (by first | omega | exact Below.size (by assumption) | (simp; omega) | (simp; exact Below.size (by assumption)))))), .inr ⟨HR.out, _, rfl⟩⟩
end Go.Proofs.YtpcilpcinbamcaaDoor
