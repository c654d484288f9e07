/-
  Contract: spec's l01Numbers: the numbers with a text.
-/
import Derived.Test.YtpcilpcinbamcaaDoorSplitI
import Derived.Test.YtpcilpcinbamcaaDoorCutS
import Derived.Maps.AppendAt
namespace Go.Proofs.YtpcilpcinbamcaaDoor
set_option linter.unusedSimpArgs false
set_option linter.unusedVariables false
open Go.ChangeShapes Go.WideShapes Go.ChangeAt Go.RowKit

theorem append_int_at {ops : Array Oper} {rest : List Oper} {o : Oper} {a : Act} {Q : Exit → Act → World → Prop} (hgd : o.guard = none) (s x : Operand)
    (ho : o.op = .call { callee := .builtin .append, args := #[s, x], argTypes := #[22, 22] }) (w : World) (base : Nat) (v : Value) (L : List Int) (X : Int)
    (hs : a.eval s = v) (hown : OwnI w base v L) (B0 : Nat) (hB0 : B0 = w.heap.size) (hx : a.eval x = .slice (some ⟨B0, 0, none⟩) 1 1) (hL : L.length ≤ 1000000) (hbase : base ≤ w.heap.size)
    (h : ∀ v' w', OwnI w' base v' (L ++ [X]) → (∀ a0, Below base a0 w → Below base a0 w') → (∀ i, i < w.heap.size → v.ownBlock ≠ some i → w'.heap[i]? = w.heap[i]?) → (v'.ownBlock = v.ownBlock ∨ ∃ g, v'.ownBlock = some g ∧ w.heap.size ≤ g) → w.heap.size ≤ w'.heap.size → wpList Tryd.prog ops Q rest (a.put o.dst v') w') :
    wpList Tryd.prog ops Q (o :: rest) a (w.alloc (.cells #[.int .i64 X] 2)) := by
  subst hB0
  obtain ⟨i0, hi0, hz0, hz1, hz2⟩ := info_parts infoIO
  have hown' : (w.alloc (.cells #[.int .i64 X] 2)).ownsRow base 2 1 v L.length (cellsI L) := World.ownsRow.alloc hown _
  refine wpList_append_own_at _ hgd s x _ ho base 2 i0 _ 1 8 Tryd.underlying22 hi0 hz0 hz1 hz2 rfl (by decide) v L.length (cellsI L) hs hown' ⟨w.heap.size, 0, none⟩ 1 1 [.int .i64 X] hx rfl ?_ ?_ ?_ ?_ ?_ ?_
  · intro j u hu
    rcases j with _ | j
    · simp at hu; subst hu; simp [Addr.add]
    · simp at hu
  · intro u hu
    simp at hu
    subst hu; rfl
  · unfold maxLen; omega
  · omega
  · simp; omega
  · intro v' w' h1 h2 _ h5
    refine h v' w' (OwnI.snoc h1) (fun a0 hb => Below.grown (belowAlloc hb hbase) h2 (by simp; omega) fun k hk => (hown'.lt k hk).1) (fun i hi hne => ?_) ?_ ?_
    · have := h2.block i (by simp; omega) (Ne.symm hne)
      rw [this, World.alloc]
      simp [Array.getElem?_push, Nat.ne_of_lt hi]
    · rcases h5 with h5 | h5
      · exact .inl h5
      · exact .inr ⟨_, h5, by simp⟩
    · have := h2.size
      simp at this; omega

/-- The texts O lie in block b. -/
def TxtIn (w : World) (b off : Nat) (O : List ByteArray) : Prop := b < w.heap.size ∧ ∀ i x, O[i]? = some x → w.cell? ⟨b, off + i, none⟩ = some (.string x)
theorem TxtIn.to {w w1 : World} {b off : Nat} {O : List ByteArray} (h : TxtIn w b off O) (hb : Below w.heap.size w w1) : TxtIn w1 b off O :=
  ⟨Nat.lt_of_lt_of_le h.1 hb.size, fun i x hi => (hb.cell (p := ⟨b, off + i, none⟩) h.1).trans (h.2 i x hi)⟩
theorem TxtIn.keep {w w1 : World} {b off : Nat} {O : List ByteArray} (h : TxtIn w b off O) (hk : w1.heap[b]? = w.heap[b]?) (hz : w.heap.size ≤ w1.heap.size) : TxtIn w1 b off O :=
  ⟨Nat.lt_of_lt_of_le h.1 hz, fun i x hi => (World.cell?_of_block (a := ⟨b, off + i, none⟩) hk).trans (h.2 i x hi)⟩
theorem parts_mem (m : UInt8) : ∀ l : List UInt8, ∀ p ∈ parts m l, p.length ≤ l.length
  | [], p, h => by simp [parts] at h; subst h; simp
  | c :: r, p, h => by
    have ih := parts_mem m r
    unfold parts at h
    split at h
    · rcases List.mem_cons.1 h with h | h
      · subst h; simp
      · have := ih p h; simp; omega
    · cases hp : parts m r with
      | nil => exact absurd hp (parts_ne m r)
      | cons a t =>
        rw [hp] at h ih
        simp only [addH] at h
        rcases List.mem_cons.1 h with h | h
        · subst h
          have := ih a (by simp)
          simp; omega
        · have := ih p (by simp [h])
          simp; omega

/-- A function's answer: numbers in memory of its own, and whether it succeeds. -/
def LRes (L : List Int) (ok : Bool) (w : World) (e : Ending) (w' : World) : Prop :=
  ∃ v, e = .returned (.tuple #[v, .bool ok]) ∧ OwnI w' w.heap.size v L ∧ Below w.heap.size w w'
/-- What a reader of lists answers. -/
def ReadRes (s : ByteArray) (w : World) (e : Ending) (w' : World) : Prop :=
  (∃ ns, IsList s ns ∧ LRes ns true w e w') ∨ ((∀ ns, ¬ IsList s ns) ∧ LRes [] false w e w')

theorem lst_long {s : ByteArray} {O : List ByteArray} (hs : s ≠ ⟨#[110, 111, 110, 101]⟩) (h : byts O = parts 44 s.data.toList) (hl : 60 < O.length) : ∀ ms, ¬ IsList s ms := by
  rintro ms (⟨e, _⟩ | ⟨_, h60, hp, _⟩)
  · exact hs e
  · have := congrArg List.length (h.trans hp)
    simp [byts] at this
    omega

end Go.Proofs.YtpcilpcinbamcaaDoor
