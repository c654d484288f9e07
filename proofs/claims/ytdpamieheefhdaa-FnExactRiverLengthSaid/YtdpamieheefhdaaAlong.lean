/-
  Contracts: a step, the points along corners as the program lists them.
-/
import Derived.Test.YtdpamieheefhdaaAlongM
import Derived.StillTailTactics
import Derived.Maps.AppendAt
namespace Go.Proofs.Ytdpamieheefhdaa
set_option linter.unusedSimpArgs false
set_option linter.unusedVariables false
open Go.ChangeShapes Go.WideShapes Go.ChangeAt Go.RowKit

theorem isNaN_any (n : Int) (w : World) :
    Calls Try.prog 108 #[.int .i64 n] w fun e w' => e = .returned (.bool false) ∧ w = w' := by
  go_enter Try.func108, Try.ntmps108
  go_wp2
  go_ret
  exact ⟨retB (by simp), rfl⟩
theorem compare_any (a b : Int) (w : World) :
    Calls Try.prog 97 #[.int .i64 a, .int .i64 b] w fun e w' => e = .returned (.int .i64 (sg b a)) ∧ w = w' := by
  rcases sg_cases b a with ⟨h, f⟩ | ⟨h, f⟩ | ⟨h, f⟩
  all_goals
    have F := Lib.hid f
    clear f
  · have h1 : ¬ a < b := by omega
    go_enter Try.func97, Try.ntmps97
    go_wp2_with (go_at_call 108; refine (isNaN_any _ _).mono ?_; rintro e w' ⟨rfl, rfl⟩)
    go_ret
    exact ⟨retI F.out.symm, rfl⟩
  · go_enter Try.func97, Try.ntmps97
    go_wp2_with (go_at_call 108; refine (isNaN_any _ _).mono ?_; rintro e w' ⟨rfl, rfl⟩)
    go_ret
    exact ⟨retI F.out.symm, rfl⟩
  · subst h
    go_enter Try.func97, Try.ntmps97
    go_wp2_with (go_at_call 108; refine (isNaN_any _ _).mono ?_; rintro e w' ⟨rfl, rfl⟩)
    go_ret
    exact ⟨retI F.out.symm, rfl⟩
theorem stepTo_any (n m : Int) (w : World) (h1 : 0 ≤ n) (h2 : n ≤ 99) :
    Calls Try.prog 73 #[.int .i64 n, .int .i64 m] w fun e w' => e = .returned (.int .i64 (n + sg n m)) ∧ w = w' := by
  have hs : -1 ≤ sg n m ∧ sg n m ≤ 1 := by rcases sg_cases n m with ⟨_, f⟩ | ⟨_, f⟩ | ⟨_, f⟩ <;> rw [f] <;> omega
  obtain ⟨s1, s2⟩ := hs
  go_enter Try.func73, Try.ntmps73
  go_wp2_with (go_at_call 97; refine (compare_any _ _ _).mono ?_; rintro e w' ⟨rfl, rfl⟩)
  go_ret
  exact ⟨rfl, rfl⟩

/-- Block g is a variable that holds the point p. -/
def PtB (w : World) (g : Nat) (p : Pt) : Prop := w.heap[g]? = some (.cells #[.int .i64 p.1, .int .i64 p.2] 37 (0, 0))
theorem PtB.lt {w : World} {g : Nat} {p : Pt} (h : PtB w g p) : g < w.heap.size := by
  rcases Nat.lt_or_ge g w.heap.size with hlt | hge
  · exact hlt
  · unfold PtB at h; rw [Array.getElem?_eq_none hge] at h; cases h
theorem PtB.cells {w : World} {g : Nat} {p : Pt} (h : PtB w g p) : w.cell? ⟨g, 0, none⟩ = some (.int .i64 p.1) ∧ w.cell? ⟨g, 0 + 1, none⟩ = some (.int .i64 p.2) ∧ w.frozen? ⟨g, 0, none⟩ = false ∧ w.frozen? ⟨g, 0 + 1, none⟩ = false := by
  refine ⟨?_, ?_, ?_, ?_⟩
  · rw [cell_of_row w g _ _ _ _ h]; rfl
  · rw [cell_of_row w g _ _ _ _ h]; rfl
  · unfold PtB at h; simp [World.frozen?, h]
  · unfold PtB at h; simp [World.frozen?, h]
theorem PtB.keep {w w' : World} {g : Nat} {p : Pt} (h : PtB w g p) (hk : w'.heap[g]? = w.heap[g]?) : PtB w' g p := hk.trans h
theorem PtB.to {w w1 : World} {g : Nat} {p : Pt} (h : PtB w g p) (hb : Below w.heap.size w w1) : PtB w1 g p := h.keep (hb.block g h.lt)
theorem PtB.new (w : World) (p : Pt) : PtB (w.alloc (.cells #[.int .i64 p.1, .int .i64 p.2] 37)) w.heap.size p := heap_alloc_new w _
theorem PtB.set_ {w : World} {g : Nat} {p : Pt} (h : PtB w g p) (x y : Int) : PtB ((w.setCell ⟨g, 0, none⟩ (.int .i64 x)).setCell ⟨g, 0 + 1, none⟩ (.int .i64 y)) g (x, y) := by
  unfold PtB at h ⊢
  simp [World.setCell, Array.getElem?_modify, h]
theorem PtB.far {w : World} {g g' : Nat} {p : Pt} (h : PtB w g p) (hg : g ≠ g') (x y : Int) : PtB ((w.setCell ⟨g', 0, none⟩ (.int .i64 x)).setCell ⟨g', 0 + 1, none⟩ (.int .i64 y)) g p :=
  h.keep ((Below.heap_setCell _ ⟨g', 0 + 1, none⟩ _ g hg).trans (Below.heap_setCell _ ⟨g', 0, none⟩ _ g hg))

theorem run_neq_pt (p q : Int × Int) (w : World) : (binOp .neq 37 (.agg #[.int .i64 p.1, .int .i64 p.2]) (.agg #[.int .i64 q.1, .int .i64 q.2])).run Try.prog w = .ok (.bool (!decide (p = q))) w := by
  have h := run_equal_pt p q w
  unfold Op.equal ptV at h
  rw [run_neq_struct, show (10000 : Nat) = Op.maxDepth from rfl, h]
  rfl

/-- A list's block is another one than g. -/
def Off (v : Value) (g : Nat) : Prop := v.ownBlock ≠ some g
theorem append_at {ops : Array Oper} {rest : List Oper} {o : Oper} {a : Act} {Q : Exit → Act → World → Prop} (hgd : o.guard = none) (s x : Operand)
    (ho : o.op = .call { callee := .builtin .append, args := #[s, x], argTypes := #[32, 32] }) (w : World) (base : Nat) (v : Value) (L : List (Int × Int)) (X Y : Int)
    (hs : a.eval s = v) (hown : OwnL w base v L) (B0 : Nat) (hB0 : B0 = w.heap.size) (hx : a.eval x = .slice (some ⟨B0, 0, none⟩) 1 1) (hL : L.length ≤ 1000000) (hbase : base ≤ w.heap.size)
    (h : ∀ v' w', OwnL w' base v' (L ++ [(X, Y)]) → (∀ a0 B, B ≤ base → Below B a0 w → Below B a0 w') → (∀ g p, PtB w g p → Off v g → PtB w' g p ∧ Off v' g) → wpList Try.prog ops Q rest (a.put o.dst v') w') :
    wpList Try.prog ops Q (o :: rest) a (w.alloc (.cells #[.int .i64 X, .int .i64 Y] 37)) := by
  subst hB0
  obtain ⟨i0, hi0, hz0, hz1, hz2⟩ := info_parts infoPtO
  have hown' : (w.alloc (.cells #[.int .i64 X, .int .i64 Y] 37)).ownsRow base 37 2 v L.length (cellsP L) := World.ownsRow.alloc hown _
  refine wpList_append_own_at _ hgd s x _ ho base 37 i0 _ 2 16 Try.underlying32 hi0 hz0 hz1 hz2 rfl (by decide) v L.length (cellsP L) hs hown' ⟨w.heap.size, 0, none⟩ 1 1 [.int .i64 X, .int .i64 Y] hx rfl ?_ ?_ ?_ ?_ ?_ ?_
  · intro j u hu
    rcases j with _ | _ | j
    · simp at hu; subst hu; simp [Addr.add]
    · simp at hu; subst hu; simp [Addr.add]
    · simp at hu
  · intro u hu
    simp at hu
    rcases hu with rfl | rfl <;> rfl
  · unfold maxLen; omega
  · omega
  · simp; omega
  · intro v' w' h1 h2 _ h4
    refine h v' w' (OwnL.snoc h1) (fun a0 B hB hb => Below.grown (bl_alloc' hb (by omega)) h2 (by simp; omega) fun k hk => Nat.le_trans hB (hown'.lt k hk).1) fun g p hg hoff => ?_
    have hlt := hg.lt
    refine ⟨hg.keep ((h2.block g (by simp; omega) (fun e => hoff e.symm)).trans (Below.heap_alloc w _ g hlt)), ?_⟩
    unfold Off at hoff ⊢
    rcases h4 with e | e
    · rw [e]; exact hoff
    · rw [e]; simp; omega

theorem OwnL.one (w : World) (base : Nat) (p : Pt) (hB : base ≤ w.heap.size) : OwnL (w.alloc (.cells #[.int .i64 p.1, .int .i64 p.2] 37)) base (.slice (some ⟨w.heap.size, 0, none⟩) 1 1) [p] :=
  ⟨rfl, .inr ⟨w.heap.size, 1, _, rfl, hB, heap_alloc_new w _, Nat.le_refl _, by unfold maxLen; omega, rfl, rfl⟩⟩
theorem OwnL.len {w : World} {base : Nat} {v : Value} {L : List Pt} (h : OwnL w base v L) : ∃ A c, v = .slice A L.length c := by
  obtain ⟨A, c, e, _⟩ := own3_of h
  exact ⟨A, c, e⟩
theorem OwnL.off {w : World} {base : Nat} {v : Value} {L : List Pt} (h : OwnL w base v L) {g : Nat} (hg : w.heap.size ≤ g) : Off v g := by
  intro e
  have := (World.ownsRow.lt h g e).2
  omega
theorem OwnL.off_low {w : World} {base : Nat} {v : Value} {L : List Pt} (h : OwnL w base v L) {g : Nat} (hg : g < base) : Off v g := by
  intro e
  have := (World.ownsRow.lt h g e).1
  omega
def lenOf : Value → Nat
  | .slice _ n _ => n
  | _ => 0
theorem OwnL.lenOf_ {w : World} {base : Nat} {v : Value} {L : List Pt} (h : OwnL w base v L) : lenOf v = L.length := by
  obtain ⟨A, c, rfl⟩ := h.len; rfl
theorem OwnL.setB {w : World} {base : Nat} {v : Value} {L : List Pt} (h : OwnL w base v L) {g : Nat} (hg : Off v g) (x y : Int) : OwnL ((w.setCell ⟨g, 0, none⟩ (.int .i64 x)).setCell ⟨g, 0 + 1, none⟩ (.int .i64 y)) base v L :=
  World.ownsRow.kept (row := some g) h ⟨rfl, rfl, rfl, by simp, fun i hi hne => (Below.heap_setCell _ ⟨g, 0 + 1, none⟩ _ i (fun e => hne (by rw [e]))).trans (Below.heap_setCell _ ⟨g, 0, none⟩ _ i (fun e => hne (by rw [e])))⟩ (by
    rcases h.2 with ⟨rfl, _⟩ | ⟨g', cap, cur, rfl, _⟩
    · exact .inl rfl
    · exact .inr hg)
end Go.Proofs.Ytdpamieheefhdaa
