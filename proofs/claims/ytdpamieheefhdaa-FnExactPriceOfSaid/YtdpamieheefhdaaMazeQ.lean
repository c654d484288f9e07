/-
  Ways: the points to which steps lead; the model's list of them.
-/
import Derived.Test.YtdpamieheefhdaaMazeS
namespace Go.Proofs.Ytdpamieheefhdaa
set_option linter.unusedSimpArgs false
set_option linter.unusedVariables false
open Go.ChangeShapes Go.WideShapes Go.ChangeAt Go.RowKit

/-- A text's byte. -/
def ltr (s : ByteArray) (k : Nat) : Int := if h : k < s.size then (s[k].toNat : Int) else 0
theorem ltr_at {s : ByteArray} {k : Nat} (h : k < s.size) : ltr s k = (s[k].toNat : Int) := by unfold ltr; rw [dif_pos h]
/-- Where a step by a letter leads from an open cell, if to one. -/
def goOn (M : Mz) (q : Int × Int) (c : Int) : Option (Int × Int) :=
  if wayI c < 0 then none else if openB M (stepW q.1 q.2 (wayI c)).1 (stepW q.1 q.2 (wayI c)).2 = true then some (stepW q.1 q.2 (wayI c)) else none
/-- Where the first steps lead. -/
def posTo (M : Mz) (p : Int × Int) (s : ByteArray) : Nat → Option (Int × Int)
  | 0 => some p
  | k + 1 => match posTo M p s k with
    | none => none
    | some q => goOn M q (ltr s k)
theorem posTo_none {M : Mz} {p : Int × Int} {s : ByteArray} {k n : Nat} (h : posTo M p s k = none) (hk : k ≤ n) : posTo M p s n = none := by
  induction n with
  | zero => obtain rfl : k = 0 := by omega
            exact h
  | succ n ih =>
    by_cases e : k = n + 1
    · subst e; exact h
    · unfold posTo; rw [ih (by omega)]
theorem posTo_step {M : Mz} {p q : Int × Int} {s : ByteArray} {k : Nat} (h : posTo M p s k = some q) : posTo M p s (k + 1) = goOn M q (ltr s k) := by
  unfold posTo; rw [h]
theorem goOn_bad {M : Mz} {q : Int × Int} {c : Int} (h : wayI c < 0) : goOn M q c = none := by unfold goOn; rw [if_pos h]
theorem goOn_shut {M : Mz} {q : Int × Int} {c : Int} (h : ¬ wayI c < 0) (ho : openB M (stepW q.1 q.2 (wayI c)).1 (stepW q.1 q.2 (wayI c)).2 = false) : goOn M q c = none := by unfold goOn; rw [if_neg h, ho]; rfl
theorem goOn_yes {M : Mz} {q : Int × Int} {c : Int} (h : ¬ wayI c < 0) (ho : openB M (stepW q.1 q.2 (wayI c)).1 (stepW q.1 q.2 (wayI c)).2 = true) : goOn M q c = some (stepW q.1 q.2 (wayI c)) := by unfold goOn; rw [if_neg h, if_pos ho]
theorem goOn_open {M : Mz} {q r : Int × Int} {c : Int} (h : goOn M q c = some r) : openB M r.1 r.2 = true := by
  unfold goOn at h
  split at h
  · cases h
  · split at h
    · next ho => injection h with h; subst h; exact ho
    · cases h
theorem posTo_open {M : Mz} {p q : Int × Int} {s : ByteArray} (hp : openB M p.1 p.2 = true) : ∀ {k : Nat}, posTo M p s k = some q → openB M q.1 q.2 = true
  | 0, h => by injection h with h; subst h; exact hp
  | k + 1, h => by
    unfold posTo at h
    cases hk : posTo M p s k with
    | none => rw [hk] at h; cases h
    | some r => rw [hk] at h; exact goOn_open h
theorem posTo_le {M : Mz} {p q : Int × Int} {s : ByteArray} {n : Nat} (h : posTo M p s n = some q) {k : Nat} (hk : k ≤ n) : ∃ r, posTo M p s k = some r := by
  cases e : posTo M p s k with
  | none => rw [posTo_none e hk] at h; cases h
  | some r => exact ⟨r, rfl⟩
theorem open_lo {M : Mz} (hM : MzOk M) {x y : Int} (h : openB M x y = true) : (0 ≤ x ∧ x ≤ 11) ∧ (0 ≤ y ∧ y ≤ 11) := by
  obtain ⟨i, j, rfl, rfl, hi, hj, _⟩ := openB_pt h
  have := hM.h12; have := hM.w12
  omega
/-- The points of the first steps, the first point among them. -/
def posD (M : Mz) (p : Int × Int) (s : ByteArray) (i : Nat) : Int × Int := (posTo M p s i).getD (0, 0)
def cellsL (M : Mz) (p : Int × Int) (s : ByteArray) (k : Nat) : List (Int × Int) := (List.range (k + 1)).map (posD M p s)
theorem cellsL_len (M : Mz) (p : Int × Int) (s : ByteArray) (k : Nat) : (cellsL M p s k).length = k + 1 := by simp [cellsL]
theorem cellsL_at {M : Mz} {p : Int × Int} {s : ByteArray} {k i : Nat} (h : i ≤ k) : (cellsL M p s k).getD i (0, 0) = posD M p s i := by
  simp [cellsL, List.getD_eq_getElem?_getD, show i < k + 1 by omega]
theorem cellsL_snoc {M : Mz} {p q : Int × Int} {s : ByteArray} {k : Nat} (h : posTo M p s (k + 1) = some q) : cellsL M p s (k + 1) = cellsL M p s k ++ [q] := by
  unfold cellsL
  rw [List.range_succ, List.map_append]
  simp [posD, h]

/-- A variable that holds a point. -/
def PtBox (w : World) (G : Nat) (p : Int × Int) : Prop := w.heap[G]? = some (.cells #[.int .i64 p.1, .int .i64 p.2] 37 (0, 0))
theorem PtBox.lt {w : World} {G : Nat} {p : Int × Int} (h : PtBox w G p) : G < w.heap.size := (Array.getElem?_eq_some_iff.1 h).1
theorem PtBox.c0 {w : World} {G : Nat} {p : Int × Int} (h : PtBox w G p) : w.cell? ⟨G, 0, none⟩ = some (.int .i64 p.1) := by simp [World.cell?, show w.heap[G]? = _ from h]
theorem PtBox.c1 {w : World} {G : Nat} {p : Int × Int} (h : PtBox w G p) : w.cell? ⟨G, 1, none⟩ = some (.int .i64 p.2) := by simp [World.cell?, show w.heap[G]? = _ from h]
theorem PtBox.fr {w : World} {G : Nat} {p : Int × Int} (h : PtBox w G p) (o : Nat) : w.frozen? ⟨G, o, none⟩ = false := by simp [World.frozen?, show w.heap[G]? = _ from h]
theorem PtBox.keep {w w' : World} {G : Nat} {p : Int × Int} (h : PtBox w G p) (hk : w'.heap[G]? = w.heap[G]?) : PtBox w' G p := hk.trans h
theorem PtBox.to {w w1 : World} {G : Nat} {p : Int × Int} (h : PtBox w G p) (hb : Below w.heap.size w w1) : PtBox w1 G p := h.keep (hb.block G h.lt)
theorem PtBox.new (w : World) (x y : Int) : PtBox (w.alloc (.cells #[.int .i64 x, .int .i64 y] 37)) w.heap.size (x, y) := heap_alloc_new w _
theorem PtBox.set_ {w : World} {G : Nat} {p : Int × Int} (h : PtBox w G p) (x y : Int) : PtBox ((w.setCell ⟨G, 0, none⟩ (.int .i64 x)).setCell ⟨G, 1, none⟩ (.int .i64 y)) G (x, y) := by
  unfold PtBox at h ⊢
  simp [World.setCell, Array.getElem?_modify, h]
theorem OwnQ.far {w : World} {base G : Nat} {v : Value} {L : List (Int × Int)} (h : OwnQ w base v L) (hne : v.ownBlock ≠ some G) (o : Nat) (u : Value) : OwnQ (w.setCell ⟨G, o, none⟩ u) base v L := by
  refine ⟨h.1, ?_⟩
  rcases h.2 with hn | ⟨g, cap, cur, rfl, hb, hgg, rest⟩
  · exact .inl hn
  · refine .inr ⟨g, cap, cur, rfl, hb, ?_, rest⟩
    rw [Below.heap_setCell w ⟨G, o, none⟩ u g (fun e => hne (by simp [Value.ownBlock]; exact e))]
    exact hgg

theorem OwnQ.one (w : World) (base : Nat) (x y : Int) (hB : base ≤ w.heap.size) : OwnQ (w.alloc (.cells #[.int .i64 x, .int .i64 y] 37)) base (.slice (some ⟨w.heap.size, 0, none⟩) 1 1) [(x, y)] :=
  ⟨rfl, .inr ⟨w.heap.size, 1, #[.int .i64 x, .int .i64 y], rfl, hB, heap_alloc_new w _, Nat.le_refl _, by unfold maxLen; omega, rfl, rfl⟩⟩
theorem OwnQ.alloc {w : World} {base : Nat} {v : Value} {L : List (Int × Int)} (h : OwnQ w base v L) (o : Obj) : OwnQ (w.alloc o) base v L := World.ownsRow.alloc h o
/-- What the model's list of a way's points comes to. -/
def CellsRes (M : Mz) (p : Int × Int) (s : ByteArray) (w : World) (e : Ending) (w' : World) : Prop :=
  ((∃ q v, posTo M p s s.size = some q ∧ e = .returned (.tuple #[v, .bool true]) ∧ OwnQ w' w.heap.size v (cellsL M p s s.size)) ∨ (posTo M p s s.size = none ∧ ∃ v, e = .returned (.tuple #[v, .bool false]))) ∧ Below w.heap.size w w'
theorem stepW_lo {x y k : Int} (hx : 0 ≤ x ∧ x ≤ 11) (hy : 0 ≤ y ∧ y ≤ 11) : (-1 ≤ (stepW x y k).1 ∧ (stepW x y k).1 ≤ 12) ∧ (-1 ≤ (stepW x y k).2 ∧ (stepW x y k).2 ≤ 12) := by
  unfold stepW; split <;> (try split) <;> (try split) <;> (simp only []; omega)
set_option maxRecDepth 100000 in
set_option maxHeartbeats 3200000 in
theorem l04Cells_any (g : Nat) (A : Option Addr) (Ls : List SlI) (c : Nat) (x y : Int) (s : ByteArray) (w : World) (hm : MzAt w g A Ls c) (hv : MzOk (heldI Ls)) (ho : openB (heldI Ls) x y = true) (hs : s.size ≤ 1048576) :
    Calls Try.prog 57 #[.pointer (some ⟨g, 0, none⟩), .agg #[.int .i64 x, .int .i64 y], .string s] w (CellsRes (heldI Ls) (x, y) s w) := by
  obtain ⟨M, hM⟩ : ∃ M, heldI Ls = M := ⟨_, rfl⟩
  rw [hM] at ho hv ⊢
  have HMM := Lib.hid hM
  have HV := Lib.hid hv
  have HO := Lib.hid ho
  have hsI : (s.size : Int) ≤ 1048576 := by omega
  have hL0 : Hid (cellsL M (x, y) s 0 = [(x, y)]) := rfl
  have q0 : OwnQ (((w.alloc (.cells #[.int .i64 x, .int .i64 y] 37)).alloc (.cells #[.int .i64 x, .int .i64 y] 37)).alloc (.cells #[.int .i64 x, .int .i64 y] 37)) w.heap.size (.slice (some ⟨w.heap.size + 1, 0, none⟩) 1 1) (cellsL M (x, y) s 0) := by
    have := (OwnQ.one (w.alloc (.cells #[.int .i64 x, .int .i64 y] 37)) w.heap.size x y (by simp)).alloc (.cells #[.int .i64 x, .int .i64 y] 37)
    simpa [hL0.out] using this
  have q1 : PtBox (((w.alloc (.cells #[.int .i64 x, .int .i64 y] 37)).alloc (.cells #[.int .i64 x, .int .i64 y] 37)).alloc (.cells #[.int .i64 x, .int .i64 y] 37)) (w.heap.size + 1 + 1) (x, y) := by
    have := PtBox.new ((w.alloc (.cells #[.int .i64 x, .int .i64 y] 37)).alloc (.cells #[.int .i64 x, .int .i64 y] 37)) x y
    simpa using this
  have q2 : Below w.heap.size w (((w.alloc (.cells #[.int .i64 x, .int .i64 y] 37)).alloc (.cells #[.int .i64 x, .int .i64 y] 37)).alloc (.cells #[.int .i64 x, .int .i64 y] 37)) := by (repeat (first | assumption | exact Below.refl _ _ | (refine bl_alloc ?_ _) | (refine Below.drew ?_) | (refine bl_drewN ?_ _) | (refine bl_set ?_ (by first | (simp; done) | omega | (simp; omega)) _) | (refine bl_trans ?_ (by assumption)) | (refine bl_step ?_ (by assumption) (by first | omega | exact Below.size (by assumption) | (simp; omega) | (simp; exact Below.size (by assumption))))))
  have q3 : Hid ((Value.slice (some ⟨w.heap.size + 1, 0, none⟩) 1 1).ownBlock ≠ some (w.heap.size + 1 + 1)) := by show _ ≠ _; simp [Value.ownBlock]
  have hGw : w.heap.size ≤ w.heap.size + 1 + 1 := by omega
  clear hM hv ho
  go_enter Try.func57, Try.ntmps57
  go_wp2
  go_loopw [8, 10, 11] (fun v i _ wr => ∃ (k : Nat) (q : Int × Int), k ≤ s.size ∧ i = .int .i64 k ∧ Hid (posTo M (x, y) s k = some q) ∧ OwnQ wr w.heap.size v (cellsL M (x, y) s k) ∧ PtBox wr (w.heap.size + 1 + 1) q ∧ Hid (v.ownBlock ≠ some (w.heap.size + 1 + 1)) ∧ Below w.heap.size w wr) (fun _ i _ _ => s.size - (intOf i).toNat)
  case atStart => exact ⟨0, (x, y), Nat.zero_le _, rfl, rfl, q0, q1, q3, q2⟩
  case round =>
    clear q0 q1 q2 q3
    generalize hG : w.heap.size + 1 + 1 = G at *
    clear hG
    obtain ⟨k, ⟨a, b⟩, hk, rfl, HP, hO, hB, HN, hb⟩ := hrel
    have hk0 : (0 : Int) ≤ (k : Int) := by omega
    by_cases hlt : k < s.size
    · have hltI : (k : Int) < (s.size : Int) := by omega
      have HLT : Hid (ltr s k = (s[k].toNat : Int)) := ltr_at hlt
      have HST := Lib.hid (posTo_step HP.out)
      have hop := posTo_open (M := M) (p := (x, y)) HO.out HP.out
      obtain ⟨ha, hb'⟩ := open_lo HV.out hop
      have HA := Lib.hid ha
      have HB' := Lib.hid hb'
      have HSW := Lib.hid (fun k => stepW_lo (k := k) ha hb')
      clear hop ha hb'
      by_cases hw : wayI (ltr s k) < 0
      · have HF : Hid (posTo M (x, y) s s.size = none) := posTo_none (k := k + 1) (by rw [HST.out]; exact goOn_bad hw) (by omega)
        go_wp2_with (go_at_call 85; refine (l04Way_any _ _).mono ?_; rintro e w1 ⟨rfl, rfl⟩; rw [← HLT.out])
        go_ret2
        exact ⟨.inr ⟨HF.out, _, rfl⟩, hb⟩
      · have hwl := wayI_lo (ltr s k)
        have hd0 : 0 ≤ wayI (ltr s k) := by omega
        have hd3 : wayI (ltr s k) ≤ 3 := hwl.2
        have HY : Hid (openB M (stepW a b (wayI (ltr s k))).1 (stepW a b (wayI (ltr s k))).2 = true → posTo M (x, y) s (k + 1) = some (stepW a b (wayI (ltr s k)))) := fun ho => by rw [HST.out]; exact goOn_yes hw ho
        have HNo : Hid (openB M (stepW a b (wayI (ltr s k))).1 (stepW a b (wayI (ltr s k))).2 = false → posTo M (x, y) s s.size = none) := fun ho => posTo_none (k := k + 1) (by rw [HST.out]; exact goOn_shut hw ho) (by omega)
        clear hw hwl HST
        go_wp2_with fail
        refine (l04Way_any _ _).mono ?_
        rintro e w1 ⟨rfl, rfl⟩
        rw [← HLT.out]
        generalize wayI (ltr s k) = d at *
        have hdn : ¬ d < 0 := by omega
        have cst := fun w1 => l04Step_any a b d w1 (by have := HA.out; omega) (by have := HB'.out; omega) (by omega)
        have hc0 := hB.c0
        have hc1 := hB.c1
        simp only at hc0 hc1
        go_wp2_with fail
        refine (cst _).mono ?_
        rintro e w2 ⟨rfl, hb2⟩
        clear hc0 hc1 cst
        obtain ⟨sx, hsx⟩ : ∃ sx, (stepW a b d).1 = sx := ⟨_, rfl⟩
        obtain ⟨sy, hsy⟩ : ∃ sy, (stepW a b d).2 = sy := ⟨_, rfl⟩
        have HST : Hid (stepW a b d = (sx, sy)) := by show _ = _; rw [← hsx, ← hsy]
        rw [hsx, hsy] at HY HNo
        rw [HST.out] at HY ⊢
        clear hsx hsy
        have hB2 := hB.to hb2
        have hO2 := hO.to hb2
        have b2 := bl_step hb hb2 hb.size
        have hc0 := hB2.c0
        have hc1 := hB2.c1
        have hf0 := hB2.fr 0
        have hf1 := hB2.fr 1
        have hB3 := hB2.set_ sx sy
        have hO3 := (hO2.far HN.out 0 (.int .i64 sx)).far HN.out 1 (.int .i64 sy)
        have b3 : Below w.heap.size w ((w2.setCell ⟨G, 0, none⟩ (.int .i64 sx)).setCell ⟨G, 1, none⟩ (.int .i64 sy)) := by (repeat (first | assumption | exact Below.refl _ _ | (refine bl_alloc ?_ _) | (refine Below.drew ?_) | (refine bl_drewN ?_ _) | (refine bl_set ?_ (by first | (simp; done) | omega | (simp; omega)) _) | (refine bl_trans ?_ (by assumption)) | (refine bl_step ?_ (by assumption) (by first | omega | exact Below.size (by assumption) | (simp; omega) | (simp; exact Below.size (by assumption))))))
        have hm3 := hm.to b3
        clear hB hO hb hb2 hB2 hO2 b2
        go_wp2_with fail
        refine (l04Open_any g A Ls c sx sy _ hm3 (by rw [HMM.out]; exact HV.out)).mono ?_
        rintro e w4 ⟨rfl, hb4⟩
        rw [HMM.out]
        have hB4 := hB3.to hb4
        have hO4 := hO3.to hb4
        have b4 := bl_step b3 hb4 b3.size
        clear hc0 hc1 hf0 hf1 hB3 hO3 b3 hm3 hb4
        have hc0 := hB4.c0
        have hc1 := hB4.c1
        have hf0 := hB4.fr 0
        have hf1 := hB4.fr 1
        simp only at hc0 hc1
        have hzz := b4.size
        cases hop : openB M sx sy
        · have HF := Lib.hid (HNo.out hop)
          clear hop
          go_wp2
          go_ret2
          exact ⟨.inr ⟨HF.out, _, rfl⟩, b4⟩
        · have HPn := Lib.hid (HY.out hop)
          have hL : (cellsL M (x, y) s k).length ≤ 4000000 := by rw [cellsL_len]; omega
          have HC : Hid (cellsL M (x, y) s (k + 1) = cellsL M (x, y) s k ++ [(sx, sy)]) := cellsL_snoc HPn.out
          have hGz := hB4.lt
          clear hop
          go_wp2_with (at_builtin; refine append_ptq rfl (.tmp 36) (.tmp 38) rfl _ w.heap.size _ _ sx sy rfl hO4 _ rfl rfl hL b4.size ?_; intro v' w5 hO5 hbel hblk hown hz5; refine Hid.out ?_)
          have b5 := hbel _ b4
          have hB5 : PtBox w5 G (sx, sy) := hB4.keep (hblk G hGz HN.out)
          have HN5 : Hid (v'.ownBlock ≠ some G) := by
            rcases hown with h | ⟨g', h, hg⟩
            · show _ ≠ _; rw [h]; exact HN.out
            · show _ ≠ _; rw [h]; intro e; injection e with e; omega
          rw [← HC.out] at hO5
          clear hB4 hO4 b4 hc0 hc1 hf0 hf1 hbel hblk hown hL
          refine Lib.hid ?_
          go_wp2
          go_roundw
          case rel => exact ⟨k + 1, (sx, sy), by omega, by go_num, HPn, hO5, hB5, HN5, b5⟩
          case measure => simp [intOf]; omega
    · obtain rfl : k = s.size := by omega
      have HP2 := HP
      go_wp2
      go_ret2
      exact ⟨.inl ⟨_, _, HP2.out, rfl, hO⟩, hb⟩
end Go.Proofs.Ytdpamieheefhdaa
