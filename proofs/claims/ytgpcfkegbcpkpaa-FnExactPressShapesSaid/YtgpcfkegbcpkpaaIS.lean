/-
  Slices of slices of numbers: opened; their size, copied, compared.
-/
import Derived.Test.YtgpcfkegbcpkpaaChan
import Derived.Test.YtgpcfkegbcpkpaaMarkI
import Derived.Deep.Slices
namespace Go.Proofs.Ytgpcfkegbcpkpaa
set_option linter.unusedSimpArgs false
set_option linter.unusedVariables false
open Go.ChangeShapes Go.WideShapes Go.ChangeAt Go.RowKit

/-- A slice of numbers: its address, what it holds, its room. -/
abbrev SlI := Option Addr × List Int × Nat
def si0 : SlI := (none, [], 0)
/-- The slice with the address A holds the slices Ls, all below block B. -/
def ISAt (w : World) (B : Nat) (A : Option Addr) (Ls : List SlI) : Prop :=
  0 < Ls.length → ∃ b off, A = some ⟨b, off, none⟩ ∧ b < B ∧ ∀ i, i < Ls.length →
    w.cell? ⟨b, off + i, none⟩ = some (.slice (Ls.getD i si0).1 (Ls.getD i si0).2.1.length (Ls.getD i si0).2.2) ∧ IntsAt w B (Ls.getD i si0).1 (Ls.getD i si0).2.1 ∧ (Ls.getD i si0).2.1.length ≤ (Ls.getD i si0).2.2 ∧ (Ls.getD i si0).2.2 ≤ maxLen
theorem ISAt.keepB {w w1 : World} {B : Nat} {A : Option Addr} {Ls : List SlI} (h : ISAt w B A Ls) (hb : Below B w w1) : ISAt w1 B A Ls := fun h0 => by
  obtain ⟨b, off, e, hlt, hc⟩ := h h0
  exact ⟨b, off, e, hlt, fun i hi => ⟨(hb.cell (p := ⟨b, _, none⟩) hlt).trans (hc i hi).1, (hc i hi).2.1.keepB hb, (hc i hi).2.2⟩⟩
theorem ISAt.mono {w : World} {B B' : Nat} {A : Option Addr} {Ls : List SlI} (h : ISAt w B A Ls) (hB : B ≤ B') : ISAt w B' A Ls := fun h0 => by
  obtain ⟨b, off, e, hlt, hc⟩ := h h0
  exact ⟨b, off, e, by omega, fun i hi => ⟨(hc i hi).1, (hc i hi).2.1.mono hB, (hc i hi).2.2⟩⟩
theorem ISAt.to {w w1 : World} {A : Option Addr} {Ls : List SlI} (h : ISAt w w.heap.size A Ls) (hb : Below w.heap.size w w1) : ISAt w1 w1.heap.size A Ls := (h.keepB hb).mono hb.size

/-- Rows as an argument brings them. -/
def RowsIn (w : World) (A : Option Addr) (Ls : List SlI) (c : Nat) : Prop := ISAt w w.heap.size A Ls ∧ (∀ i, i < Ls.length → ∀ n ∈ (Ls.getD i si0).2.1, Fits n) ∧ Ls.length ≤ c ∧ c ≤ maxLen
/-- One slice of numbers, read. -/
theorem open_ints_z {H : Type} {enc : TypeId × Value → H} {w : World} {v : Value} {n : Nat} {y : DataW H × List MemPlace} (hf : DataW.trod enc Try.prog w 0 (fun _ => true) true n 33 [v] = some y) :
    ∃ z : SlI, v = .slice z.1 z.2.1.length z.2.2 ∧ (IntsAt w w.heap.size z.1 z.2.1 ∧ (∀ n ∈ z.2.1, Fits n)) ∧ z.2.1.length ≤ z.2.2 ∧ z.2.2 ≤ maxLen := by
  obtain ⟨A, ns, c, e, h1, h2, h3, h4⟩ := open_nums_trod hf
  exact ⟨(A, ns, c), e, ⟨h1, h2⟩, h3, h4⟩
variable {H : Type} {enc : TypeId × Value → H}
def SzIPost (Ls : List SlI) (w : World) (e : Ending) (w' : World) : Prop :=
  ∃ r : Int, e = .returned (.int .i64 r) ∧ w = w' ∧ -1 ≤ r ∧ r ≤ 1048576 ∧ (0 ≤ r → Ls.length ≤ 1048576 ∧ ∀ i, i < Ls.length → (Ls.getD i si0).2.1.length ≤ 1048576)
/-- Block g holds the first k of the slices Ms, and has places for n. -/
def ZI (w : World) (g n : Nat) (Ms : List SlI) : Prop :=
  ∃ cs, w.heap[g]? = some (.cells cs 33 (0, 0)) ∧ cs.size = n ∧ ∀ i, i < Ms.length → cs[i]? = some (.slice (Ms.getD i si0).1 (Ms.getD i si0).2.1.length (Ms.getD i si0).2.2)
theorem ZI.lt {w : World} {g n : Nat} {Ms : List SlI} (h : ZI w g n Ms) : g < w.heap.size := by
  obtain ⟨cs, h, _⟩ := h
  rcases Nat.lt_or_ge g w.heap.size with hlt | hge
  · exact hlt
  · rw [Array.getElem?_eq_none hge] at h; cases h
theorem ZI.to {w w1 : World} {g n : Nat} {Ms : List SlI} (h : ZI w g n Ms) (hb : Below w.heap.size w w1) : ZI w1 g n Ms := by
  have hl := h.lt
  obtain ⟨cs, h0, h1⟩ := h
  exact ⟨cs, (hb.block g hl).trans h0, h1⟩
theorem ZI.frozen {w : World} {g n : Nat} {Ms : List SlI} (h : ZI w g n Ms) (i : Nat) : w.frozen? ⟨g, i, none⟩ = false := by
  obtain ⟨cs, h0, _⟩ := h
  simp [World.frozen?, h0]
theorem ZI.there {w : World} {g n : Nat} {Ms : List SlI} (h : ZI w g n Ms) {i : Nat} (hi : i < n) : ∃ v, w.cell? ⟨g, i, none⟩ = some v := by
  obtain ⟨cs, h0, h1, _⟩ := h
  rw [cell_of_row w g _ cs _ _ h0]
  exact ⟨cs[i], by simp [h1, hi]⟩
theorem ZI.put {w : World} {g n : Nat} {Ms : List SlI} (h : ZI w g n Ms) (z : SlI) (hk : Ms.length < n) :
    ZI (w.setCell ⟨g, Ms.length, none⟩ (.slice z.1 z.2.1.length z.2.2)) g n (Ms ++ [z]) := by
  obtain ⟨cs, h0, h1, h2⟩ := h
  refine ⟨cs.setIfInBounds Ms.length (.slice z.1 z.2.1.length z.2.2), by simp [World.setCell, Array.getElem?_modify, h0], by simpa using h1, fun i hi => ?_⟩
  rw [List.length_append] at hi
  simp only [List.length_singleton] at hi
  by_cases e : i = Ms.length
  · subst e
    simp only [Array.getElem?_setIfInBounds_self, h1]
    rw [if_pos hk]
    simp [List.getD_eq_getElem?_getD]
  · rw [Array.getElem?_setIfInBounds_ne (by omega)]
    have := h2 i (by omega)
    simpa [List.getD_eq_getElem?_getD, List.getElem?_append_left (show i < Ms.length by omega)] using this
theorem infoZI : (Try.prog.info? 33).map (fun i => (i.zero, i.size, i.bytes)) = some (some (.slice none 0 0), 1, 24) := by kernel_rfl
def blankZI (n : Nat) : Array Value := madeCells #[.slice none 0 0] n
/-- What slices hold. -/
def heldI (Ls : List SlI) : List (List Int) := Ls.map (·.2.1)
theorem heldI_at {Ls : List SlI} {i : Nat} : (heldI Ls).getD i [] = (Ls.getD i si0).2.1 := by
  simp only [heldI, List.getD_eq_getElem?_getD, List.getElem?_map]
  cases Ls[i]? <;> rfl
theorem heldI_len (Ls : List SlI) : (heldI Ls).length = Ls.length := by simp [heldI]
/-- New slices that hold the same. -/
def NewIS (Ls : List SlI) (w : World) (e : Ending) (w' : World) : Prop :=
  ∃ g Ms, e = .returned (.slice (some ⟨g, 0, none⟩) Ls.length Ls.length) ∧ Ms.length = Ls.length ∧ heldI Ms = heldI Ls ∧ ISAt w' w'.heap.size (some ⟨g, 0, none⟩) Ms ∧ Below w.heap.size w w'
/-- Each of the slices lies in a block of its own beyond B. -/
def NewIAll (w : World) (B : Nat) (Ms : List SlI) : Prop :=
  ∀ i, i < Ms.length → ∃ gi, (Ms.getD i si0).1 = some ⟨gi, 0, none⟩ ∧ B < gi ∧ NBlk w gi (Ms.getD i si0).2.1 (Ms.getD i si0).2.1.length ∧ (Ms.getD i si0).2.2 = (Ms.getD i si0).2.1.length ∧ (Ms.getD i si0).2.1.length ≤ 1048576
theorem NewIAll.snoc {w : World} {B : Nat} {Ms : List SlI} (h : NewIAll w B Ms) {z : SlI} {gi : Nat} (h1 : z.1 = some ⟨gi, 0, none⟩) (h2 : B < gi) (h3 : NBlk w gi z.2.1 z.2.1.length) (h4 : z.2.2 = z.2.1.length) (h5 : z.2.1.length ≤ 1048576) : NewIAll w B (Ms ++ [z]) := by
  intro i hi
  rw [List.length_append] at hi
  simp only [List.length_singleton] at hi
  by_cases e : i = Ms.length
  · subst e
    have e2 : (Ms ++ [z]).getD Ms.length si0 = z := by simp [List.getD_eq_getElem?_getD]
    rw [e2]
    exact ⟨gi, h1, h2, h3, h4, h5⟩
  · have e2 : (Ms ++ [z]).getD i si0 = Ms.getD i si0 := by simp [List.getD_eq_getElem?_getD, List.getElem?_append_left (show i < Ms.length by omega)]
    rw [e2]
    exact h i (by omega)
theorem NewIAll.to {w w1 : World} {B : Nat} {Ms : List SlI} (h : NewIAll w B Ms) (hb : Below w.heap.size w w1) : NewIAll w1 B Ms := fun i hi => by
  obtain ⟨gi, h1, h2, h3, h4⟩ := h i hi
  exact ⟨gi, h1, h2, h3.to hb, h4⟩
theorem NewIAll.set_ {w : World} {B : Nat} {Ms : List SlI} (h : NewIAll w B Ms) (k : Nat) (v : Value) : NewIAll (w.setCell ⟨B, k, none⟩ v) B Ms := fun i hi => by
  obtain ⟨gi, h1, h2, h3, h4⟩ := h i hi
  exact ⟨gi, h1, h2, h3.keep (Below.heap_setCell _ ⟨B, k, none⟩ _ gi (by simp; omega)), h4⟩
theorem ZI.isat {w : World} {g n : Nat} {Ms : List SlI} (h : ZI w g n Ms) (hN : NewIAll w g Ms) : ISAt w w.heap.size (some ⟨g, 0, none⟩) Ms := fun _ => by
  have hl := h.lt
  obtain ⟨cs, h0, h1, h2⟩ := h
  refine ⟨g, 0, rfl, hl, fun i hi => ?_⟩
  obtain ⟨gi, k1, k2, k3, k4, k5⟩ := hN i hi
  refine ⟨?_, ?_, by omega, by unfold maxLen; omega⟩
  · rw [Nat.zero_add, cell_of_row w g _ cs _ _ h0]; exact h2 i hi
  · rw [k1]; exact k3.nums
/-- .. each in a block of its own. -/
def NewIS2 (Ls : List SlI) (w : World) (e : Ending) (w' : World) : Prop :=
  ∃ g Ms, e = .returned (.slice (some ⟨g, 0, none⟩) Ls.length Ls.length) ∧ Ms.length = Ls.length ∧ heldI Ms = heldI Ls ∧ ZI w' g Ls.length Ms ∧ NewIAll w' g Ms ∧ w.heap.size ≤ g ∧ Below w.heap.size w w'
theorem is_hold {N b o b' o' : Nat} {w wx wx' : World} {X Y : Value}
    (h : wx.cell? ⟨b, o, none⟩ = some X ∧ wx.cell? ⟨b', o', none⟩ = some Y ∧ Below N w wx ∧ N ≤ wx.heap.size ∧ b < wx.heap.size ∧ b' < wx.heap.size) (hb : Below wx.heap.size wx wx') :
    wx'.cell? ⟨b, o, none⟩ = some X ∧ wx'.cell? ⟨b', o', none⟩ = some Y ∧ Below N w wx' ∧ N ≤ wx'.heap.size ∧ b < wx'.heap.size ∧ b' < wx'.heap.size := by
  obtain ⟨h1, h2, h3, h4, h5, h6⟩ := h
  exact ⟨(hb.cell (p := ⟨b, _, none⟩) h5).trans h1, (hb.cell (p := ⟨b', _, none⟩) h6).trans h2, h3.trans (hb.mono h4), Nat.le_trans h4 hb.size, Nat.lt_of_lt_of_le h5 hb.size, Nat.lt_of_lt_of_le h6 hb.size⟩
theorem is_pts {a b d e : Prop} {w wx : World} {A : Option Addr} {P : List Int} (hp : IntsAt w w.heap.size A P) (h : a ∧ b ∧ Below w.heap.size w wx ∧ w.heap.size ≤ wx.heap.size ∧ d ∧ e) : IntsAt wx wx.heap.size A P := (hp.keepB h.2.2.1).mono h.2.2.2.1
theorem is_b {a b d : Prop} {N : Nat} {w wx : World} (h : a ∧ b ∧ Below N w wx ∧ d) : Below N w wx := h.2.2.1
end Go.Proofs.Ytgpcfkegbcpkpaa
