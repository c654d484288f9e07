/-
  Contracts: the corners of a path, both.
-/
import Derived.Test.YtdpamieheefhdaaBendFns
import Derived.OwnWalk
import Derived.Laws.OwnMore
namespace Go.Proofs.Ytdpamieheefhdaa
set_option linter.unusedSimpArgs false
set_option linter.unusedVariables false
open Go.ChangeShapes Go.WideShapes Go.ChangeAt Go.RowKit

/-- The cells of points. -/
def cellsP (l : List (Int × Int)) : List Value := l.flatMap fun p => [.int .i64 p.1, .int .i64 p.2]
theorem cellsP_snoc (l : List (Int × Int)) (p : Int × Int) : cellsP (l ++ [p]) = cellsP l ++ [.int .i64 p.1, .int .i64 p.2] := by simp [cellsP]
theorem cellsP_len (l : List (Int × Int)) : (cellsP l).length = l.length * 2 := by
  induction l with
  | nil => rfl
  | cons p l ih => simp only [cellsP, List.flatMap_cons, List.length_append, List.length_cons, List.length_nil] at ih ⊢; omega

/-- The list has a corner at i. -/
def cornB (ps : List (Int × Int)) (i : Nat) : Bool := decide (i = 0) || (decide (i + 1 = ps.length) || bendB ps i)
def cornL (ps : List (Int × Int)) : Nat → List (Int × Int)
  | 0 => []
  | k + 1 => cornL ps k ++ (if cornB ps k = true then [ps.getD k (0, 0)] else [])
theorem cornL_le (ps : List (Int × Int)) : ∀ k, (cornL ps k).length ≤ k
  | 0 => Nat.le_refl _
  | k + 1 => by have := cornL_le ps k; unfold cornL; split <;> simp <;> omega
theorem cornL_t {ps : List (Int × Int)} {k : Nat} (h : cornB ps k = true) : cornL ps (k + 1) = cornL ps k ++ [ps.getD k (0, 0)] := by show cornL ps k ++ (if cornB ps k = true then [ps.getD k (0, 0)] else []) = _; rw [h]; rfl
theorem cornL_f {ps : List (Int × Int)} {k : Nat} (h : cornB ps k = false) : cornL ps (k + 1) = cornL ps k := by show cornL ps k ++ (if cornB ps k = true then [ps.getD k (0, 0)] else []) = _; rw [h]; simp

theorem infoPtO : (Try.prog.info? 37).map (fun i => (i.zero, i.size, i.bytes)) = some (some (.agg #[.int .i64 0, .int .i64 0]), 2, 16) := infoPt

theorem bl_alloc' {a b : World} {B : Nat} (h : Below B a b) (hB : B ≤ b.heap.size) {o : Obj} : Below B a (b.alloc o) := h.alloc hB o
/-- A slice of the call's own holds the points L. -/
def OwnL (w : World) (base : Nat) (v : Value) (L : List (Int × Int)) : Prop := w.ownsRow base 37 2 v L.length (cellsP L)
def OwnPost (L : List (Int × Int)) (w : World) (e : Ending) (w' : World) : Prop := ∃ v, e = .returned v ∧ OwnL w' w.heap.size v L ∧ Below w.heap.size w w'
theorem OwnL.snoc {w : World} {base : Nat} {v : Value} {L : List (Int × Int)} {x y : Int} (h : w.ownsRow base 37 2 v (L.length + 1) (cellsP L ++ [.int .i64 x, .int .i64 y])) : OwnL w base v (L ++ [(x, y)]) := by
  unfold OwnL; rw [cellsP_snoc]; simpa using h
theorem below_own {a w w' : World} {base : Nat} {e : TypeId} {size n : Nat} {v : Value} {xs : List Value} (hb : Below base a w) (ho : w.ownsRow base e size v n xs) (hg : w.grownBy w' v.ownBlock) (hB : base ≤ w.heap.size) : Below base a w' :=
  Below.grown hb hg hB fun k hk => (ho.lt k hk).1

theorem own_to {w w1 : World} {base : Nat} {v : Value} {L : List (Int × Int)} (h : OwnL w base v L) (hb : Below w.heap.size w w1) : OwnL w1 base v L :=
  World.ownsRow.kept (row := none) h ⟨hb.os, hb.tape, hb.output, hb.size, fun i hi _ => hb.block i hi⟩ (by
    rcases h.2 with ⟨rfl, _⟩ | ⟨g, cap, cur, rfl, _⟩
    · exact .inl rfl
    · exact .inr (by simp [Value.ownBlock]))

theorem append_pt {ops : Array Oper} {rest : List Oper} {o : Oper} {a : Act} {Q : Exit → Act → World → Prop} (hgd : o.guard = none) (s x : Operand)
    (ho : o.op = .call { callee := .builtin .append, args := #[s, x], argTypes := #[32, 32] }) (w : World) (base : Nat) (v : Value) (L : List (Int × Int)) (X Y : Int)
    (hs : a.eval s = v) (hown : OwnL w base v L) (B0 : Nat) (hB0 : B0 = w.heap.size) (hx : a.eval x = .slice (some ⟨B0, 0, none⟩) 1 1) (hL : L.length ≤ 1000000) (hbase : base ≤ w.heap.size)
    (h : ∀ v' w', OwnL w' base v' (L ++ [(X, Y)]) → (∀ a0, Below base a0 w → Below base a0 w') → wpList Try.prog ops Q rest (a.put o.dst v') w') :
    wpList Try.prog ops Q (o :: rest) a (w.alloc (.cells #[.int .i64 X, .int .i64 Y] 37)) := by
  subst hB0
  obtain ⟨i0, hi0, hz0, hz1, hz2⟩ := info_parts infoPtO
  have hown' : (w.alloc (.cells #[.int .i64 X, .int .i64 Y] 37)).ownsRow base 37 2 v L.length (cellsP L) := World.ownsRow.alloc hown _
  refine wpList_append_own _ hgd s x _ ho base 37 i0 _ 2 16 Try.underlying32 hi0 hz0 hz1 hz2 rfl (by decide) v L.length (cellsP L) hs hown' ⟨w.heap.size, 0, none⟩ 1 1 [.int .i64 X, .int .i64 Y] hx rfl ?_ ?_ ?_ ?_ ?_ ?_
  · intro j u hu
    rcases j with _ | _ | j
    · simp at hu; subst hu; simp [Addr.add]
    · simp at hu; subst hu; simp [Addr.add]
    · simp at hu
  · intro u hu
    simp at hu
    rcases hu with rfl | rfl <;> rfl
  · unfold maxLen; omega
  · omega
  · simp; omega
  · intro v' w' h1 h2 _
    exact h v' w' (OwnL.snoc h1) fun a0 hb => below_own (bl_alloc' hb hbase) hown' h2 (by simp; omega)

set_option maxRecDepth 100000 in
set_option maxHeartbeats 1600000 in
theorem l01Corners_own4 (A : Option Addr) (ps : List (Int × Int)) (c : Nat) (w : World) (hp : PtsAt w w.heap.size A ps) (hl : ps.length ≤ 4096) :
    Calls Try.prog 51 #[.slice A ps.length c] w (OwnPost (cornL ps ps.length) w) := by
  have hl2 : ps.length ≤ 1048576 := by omega
  go_enter Try.func51, Try.ntmps51
  go_wp2
  go_loopw [3, 4] (fun v i wr => ∃ k : Nat, k ≤ ps.length ∧ i = .int .i64 k ∧ OwnL wr w.heap.size v (cornL ps k) ∧ Below w.heap.size w wr) (fun _ i _ => ps.length - (intOf i).toNat)
  case atStart => exact ⟨0, Nat.zero_le _, rfl, ⟨rfl, .inr ⟨w.heap.size, 0, #[], rfl, Nat.le_refl _, heap_alloc_new w _, Nat.le_refl _, Nat.zero_le _, rfl, rfl⟩⟩, by (repeat (first | assumption | exact Below.refl _ _ | (refine bl_alloc ?_ _) | (refine Below.drew ?_) | (refine bl_drewN ?_ _) | (refine bl_set ?_ (by first | (simp; done) | omega | (simp; omega)) _) | (refine bl_trans ?_ (by assumption)) | (refine bl_step ?_ (by assumption) (by first | omega | exact Below.size (by assumption) | (simp; omega) | (simp; exact Below.size (by assumption))))))⟩
  case round =>
    obtain ⟨k, hk, rfl, hown, hb⟩ := hrel
    by_cases hlt : k < ps.length
    · obtain ⟨b, off, hA, hbB, hc⟩ := hp (by omega)
      obtain ⟨c0, c1⟩ := hc k hlt
      have d0 := (hb.cell (p := ⟨b, off + k * 2, none⟩) hbB).trans c0
      have d1 := (hb.cell (p := ⟨b, off + k * 2 + 1, none⟩) hbB).trans c1
      have hkI : (k : Int) ≤ 4096 := by omega
      have hk0' : (0 : Int) ≤ (k : Int) := by omega
      have hlI : (ps.length : Int) ≤ 4096 := by omega
      have hltI : (k : Int) < (ps.length : Int) := by omega
      have hzle : w.heap.size ≤ wr.heap.size := hb.size
      have hbw : b < wr.heap.size := Nat.lt_of_lt_of_le hbB hzle
      have hbw1 : b < wr.heap.size + 1 := by omega
      have hLle := cornL_le ps k
      have HT := fun h => Lib.hid (cornL_t (ps := ps) (k := k) h)
      have HFl := fun h => Lib.hid (cornL_f (ps := ps) (k := k) h)
      obtain ⟨pk, hpk⟩ : ∃ pk, ps.getD k (0, 0) = pk := ⟨_, rfl⟩
      rw [hpk] at d0 d1 HT
      obtain ⟨xk, yk⟩ := pk
      clear hpk hc c0 c1
      subst hA
      by_cases e1 : k = 0
      · have q1 : ((k : Int) == 0) = true := by simp [e1]
        have q2 : decide (k = 0) = true := decide_eq_true e1
        have HL := HT (by simp [cornB, e1])
        have HK := Lib.hid e1
        clear e1 HT HFl
        go_wp2_with (at_builtin; refine append_pt rfl (.tmp 26) (.tmp 31) rfl wr w.heap.size _ _ xk yk rfl hown _ rfl rfl (by omega) (by first | omega | (simp; omega)) ?_; intro v6 w6 hown6 hbel6)
        go_roundw
        case rel => exact ⟨k + 1, by omega, by go_num, by rw [HL.out]; exact hown6, hbel6 _ hb⟩
        case measure => simp [intOf]; omega
      have q1 : ((k : Int) == 0) = false := by simp [e1]
      have q2 : decide (k = 0) = false := decide_eq_false e1
      by_cases e2 : k + 1 = ps.length
      · have r1 : ((k : Int) == (ps.length : Int) - 1) = true := by simp; omega
        have r2 : decide ((k : Int) = (ps.length : Int) - 1) = true := decide_eq_true (by omega)
        have HL := HT (by simp [cornB, e2])
        have HK := Lib.hid e1
        have HK2 := Lib.hid e2
        clear e1 e2 HT HFl
        go_wp2_with (at_builtin; refine append_pt rfl (.tmp 26) (.tmp 31) rfl wr w.heap.size _ _ xk yk rfl hown _ rfl rfl (by omega) (by first | omega | (simp; omega)) ?_; intro v6 w6 hown6 hbel6)
        go_roundw
        case rel => exact ⟨k + 1, by omega, by go_num, by rw [HL.out]; exact hown6, hbel6 _ hb⟩
        case measure => simp [intOf]; omega
      have r1 : ((k : Int) == (ps.length : Int) - 1) = false := by simp; omega
      have r2 : decide ((k : Int) = (ps.length : Int) - 1) = false := decide_eq_false (by omega)
      have hpw : PtsAt wr wr.heap.size (some ⟨b, off, none⟩) ps := hp.to hb
      cases hB : bendB ps k
      · have HL := HFl (by simp [cornB, e1, e2, hB])
        have HB := Lib.hid hB
        have HK := Lib.hid e1
        have HK2 := Lib.hid e2
        clear hB e1 e2 HT HFl
        go_wp2_with (go_at_call 78; refine (l01Bend_any _ _ _ _ _ hpw hl2 hlt).mono ?_; rintro e w5 ⟨rfl, hb5⟩; rw [HB.out])
        go_roundw
        case rel => exact ⟨k + 1, by omega, by go_num, by rw [HL.out]; exact own_to hown hb5, bl_trans hb hb5⟩
        case measure => simp [intOf]; omega
      · have HL := HT (by simp [cornB, hB])
        have HB := Lib.hid hB
        have HK := Lib.hid e1
        have HK2 := Lib.hid e2
        clear hB e1 e2 HT HFl
        go_wp2_with fail
        refine (l01Bend_any _ _ _ _ _ hpw hl2 hlt).mono ?_
        rintro e w5 ⟨rfl, hb5⟩
        rw [HB.out]
        have hown5 := own_to hown hb5
        have hb5' := bl_trans hb hb5
        have hzle5 : w.heap.size ≤ w5.heap.size := hb5'.size
        have d50 := (hb5.cell (p := ⟨b, off + k * 2, none⟩) hbw).trans d0
        have d51 := (hb5.cell (p := ⟨b, off + k * 2 + 1, none⟩) hbw).trans d1
        go_wp2_with (at_builtin; refine append_pt rfl (.tmp 26) (.tmp 31) rfl w5 w.heap.size _ _ xk yk rfl hown5 _ rfl rfl (by omega) hzle5 ?_; intro v6 w6 hown6 hbel6)
        go_roundw
        case rel => exact ⟨k + 1, by omega, by go_num, by rw [HL.out]; exact hown6, hbel6 _ hb5'⟩
        case measure => simp [intOf]; omega
    · obtain rfl : k = ps.length := by omega
      go_wp2
      go_ret
      exact ⟨_, rfl, hown, hb⟩

set_option maxRecDepth 100000 in
set_option maxHeartbeats 1600000 in
theorem corners_own4 (A : Option Addr) (ps : List (Int × Int)) (c : Nat) (w : World) (hp : PtsAt w w.heap.size A ps) (hl : ps.length ≤ 4096) :
    Calls Try.prog 40 #[.slice A ps.length c] w (OwnPost (cornL ps ps.length) w) := by
  have hl2 : ps.length ≤ 1048576 := by omega
  go_enter Try.func40, Try.ntmps40
  go_wp2
  go_loopw [3, 4, 5, 8] (fun v _ _ i wr => ∃ k : Nat, k ≤ ps.length ∧ i = .int .i64 k ∧ OwnL wr w.heap.size v (cornL ps k) ∧ Below w.heap.size w wr) (fun _ _ _ i _ => ps.length - (intOf i).toNat)
  case atStart => exact ⟨0, Nat.zero_le _, rfl, ⟨rfl, .inl ⟨rfl, rfl⟩⟩, Below.refl _ _⟩
  case round =>
    obtain ⟨k, hk, rfl, hown, hb⟩ := hrel
    by_cases hlt : k < ps.length
    · obtain ⟨b, off, hA, hbB, hc⟩ := hp (by omega)
      obtain ⟨c0, c1⟩ := hc k hlt
      have d0 := (hb.cell (p := ⟨b, off + k * 2, none⟩) hbB).trans c0
      have d1 := (hb.cell (p := ⟨b, off + k * 2 + 1, none⟩) hbB).trans c1
      have hkI : (k : Int) ≤ 4096 := by omega
      have hk0' : (0 : Int) ≤ (k : Int) := by omega
      have hlI : (ps.length : Int) ≤ 4096 := by omega
      have hltI : (k : Int) < (ps.length : Int) := by omega
      have hzle : w.heap.size ≤ wr.heap.size := hb.size
      have hbw : b < wr.heap.size := Nat.lt_of_lt_of_le hbB hzle
      have hbw1 : b < wr.heap.size + 1 := by omega
      have hLle := cornL_le ps k
      have HT := fun h => Lib.hid (cornL_t (ps := ps) (k := k) h)
      have HFl := fun h => Lib.hid (cornL_f (ps := ps) (k := k) h)
      obtain ⟨pk, hpk⟩ : ∃ pk, ps.getD k (0, 0) = pk := ⟨_, rfl⟩
      rw [hpk] at d0 d1 HT
      obtain ⟨xk, yk⟩ := pk
      clear hpk hc c0 c1
      subst hA
      by_cases e1 : k = 0
      · have q1 : ((k : Int) == 0) = true := by simp [e1]
        have q2 : decide (k = 0) = true := decide_eq_true e1
        have HL := HT (by simp [cornB, e1])
        have HK := Lib.hid e1
        clear e1 HT HFl
        go_wp2_with (at_builtin; refine append_pt rfl (.tmp 27) (.tmp 29) rfl (wr.alloc (.cells #[.int .i64 xk, .int .i64 yk] 37)) w.heap.size _ _ xk yk rfl (World.ownsRow.alloc hown _) _ (by simp) rfl (by omega) (by first | omega | (simp; omega)) ?_; intro v6 w6 hown6 hbel6)
        go_roundw
        case rel => exact ⟨k + 1, by omega, by go_num, by rw [HL.out]; exact hown6, hbel6 _ (bl_alloc hb _)⟩
        case measure => simp [intOf]; omega
      have q1 : ((k : Int) == 0) = false := by simp [e1]
      have q2 : decide (k = 0) = false := decide_eq_false e1
      by_cases e2 : k + 1 = ps.length
      · have r1 : ((k : Int) == (ps.length : Int) - 1) = true := by simp; omega
        have r2 : decide ((k : Int) = (ps.length : Int) - 1) = true := decide_eq_true (by omega)
        have HL := HT (by simp [cornB, e2])
        have HK := Lib.hid e1
        have HK2 := Lib.hid e2
        clear e1 e2 HT HFl
        go_wp2_with (at_builtin; refine append_pt rfl (.tmp 27) (.tmp 29) rfl (wr.alloc (.cells #[.int .i64 xk, .int .i64 yk] 37)) w.heap.size _ _ xk yk rfl (World.ownsRow.alloc hown _) _ (by simp) rfl (by omega) (by first | omega | (simp; omega)) ?_; intro v6 w6 hown6 hbel6)
        go_roundw
        case rel => exact ⟨k + 1, by omega, by go_num, by rw [HL.out]; exact hown6, hbel6 _ (bl_alloc hb _)⟩
        case measure => simp [intOf]; omega
      have r1 : ((k : Int) == (ps.length : Int) - 1) = false := by simp; omega
      have r2 : decide ((k : Int) = (ps.length : Int) - 1) = false := decide_eq_false (by omega)
      have hpw : PtsAt (wr.alloc (.cells #[.int .i64 xk, .int .i64 yk] 37)) (wr.alloc (.cells #[.int .i64 xk, .int .i64 yk] 37)).heap.size (some ⟨b, off, none⟩) ps := hp.to (bl_alloc hb _)
      cases hB : bendB ps k
      · have HL := HFl (by simp [cornB, e1, e2, hB])
        have HB := Lib.hid hB
        have HK := Lib.hid e1
        have HK2 := Lib.hid e2
        clear hB e1 e2 HT HFl
        go_wp2_with (go_at_call 71; refine (bendsAt_any _ _ _ _ _ hpw hl2 hlt).mono ?_; rintro e w5 ⟨rfl, hb5⟩; rw [HB.out])
        go_roundw
        case rel => exact ⟨k + 1, by omega, by go_num, by rw [HL.out]; exact own_to (World.ownsRow.alloc hown _) hb5, bl_trans (bl_alloc hb _) hb5⟩
        case measure => simp [intOf]; omega
      · have HL := HT (by simp [cornB, hB])
        have HB := Lib.hid hB
        have HK := Lib.hid e1
        have HK2 := Lib.hid e2
        clear hB e1 e2 HT HFl
        go_wp2_with fail
        refine (bendsAt_any _ _ _ _ _ hpw hl2 hlt).mono ?_
        rintro e w5 ⟨rfl, hb5⟩
        rw [HB.out]
        have hown5 := own_to (World.ownsRow.alloc hown _) hb5
        have hb5' := bl_trans (bl_alloc hb _) hb5
        have hzle5 : w.heap.size ≤ w5.heap.size := hb5'.size
        have d50 := ((hb5.cell (p := ⟨wr.heap.size, 0, none⟩) (by simp)).trans (by simp) : w5.cell? ⟨wr.heap.size, 0, none⟩ = some (.int .i64 xk))
        have d51 := ((hb5.cell (p := ⟨wr.heap.size, 1, none⟩) (by simp)).trans (by simp) : w5.cell? ⟨wr.heap.size, 1, none⟩ = some (.int .i64 yk))
        go_wp2_with (at_builtin; refine append_pt rfl (.tmp 27) (.tmp 29) rfl w5 w.heap.size _ _ xk yk rfl hown5 _ rfl rfl (by omega) hzle5 ?_; intro v6 w6 hown6 hbel6)
        go_roundw
        case rel => exact ⟨k + 1, by omega, by go_num, by rw [HL.out]; exact hown6, hbel6 _ hb5'⟩
        case measure => simp [intOf]; omega
    · obtain rfl : k = ps.length := by omega
      go_wp2
      go_ret
      exact ⟨_, rfl, hown, hb⟩
theorem l01Corners_own (A : Option Addr) (ps : List (Int × Int)) (c : Nat) (w : World) (hp : PtsAt w w.heap.size A ps) (hl : ps.length ≤ 576) :
    Calls Try.prog 51 #[.slice A ps.length c] w (OwnPost (cornL ps ps.length) w) := l01Corners_own4 A ps c w hp (by omega)
theorem corners_own (A : Option Addr) (ps : List (Int × Int)) (c : Nat) (w : World) (hp : PtsAt w w.heap.size A ps) (hl : ps.length ≤ 576) :
    Calls Try.prog 40 #[.slice A ps.length c] w (OwnPost (cornL ps ps.length) w) := corners_own4 A ps c w hp (by omega)
end Go.Proofs.Ytdpamieheefhdaa
