/-
  Cells kept behind calls that only make memory.
-/
import Derived.Test.YtifenbamookmiaaDoorPts
namespace Go.Proofs.YtifenbamookmiaaDoor
set_option linter.unusedSimpArgs false
set_option linter.unusedVariables false
open Go.ChangeShapes Go.WideShapes Go.ChangeAt Go.RowKit
theorem kp1 {w0 wr wr' : World} {b0 o0 : Nat} {X0 : Value} (h : wr.cell? ⟨b0, o0, none⟩ = some X0 ∧ Below w0.heap.size w0 wr ∧ w0.heap.size ≤ wr.heap.size) (hs : Below wr.heap.size wr wr') :
    wr'.cell? ⟨b0, o0, none⟩ = some X0 ∧ Below w0.heap.size w0 wr' ∧ w0.heap.size ≤ wr'.heap.size := by
  obtain ⟨h0, hb, hz⟩ := h
  exact ⟨(hs.cell (p := ⟨b0, o0, none⟩) (World.block_lt_of_cell? wr _ h0)).trans h0, hb.trans (hs.mono hz), Nat.le_trans hz hs.size⟩
theorem kd1 {w0 wr : World} {b0 o0 : Nat} {X0 : Value} (h : wr.cell? ⟨b0, o0, none⟩ = some X0 ∧ Below w0.heap.size w0 wr ∧ w0.heap.size ≤ wr.heap.size) :
    wr.drew.cell? ⟨b0, o0, none⟩ = some X0 ∧ Below w0.heap.size w0 wr.drew ∧ w0.heap.size ≤ wr.drew.heap.size := by
  obtain ⟨h0, hb, hz⟩ := h
  exact ⟨h0, hb.drew, hz⟩
theorem bl1 {w0 wr : World} {a0 : Prop} (h : a0 ∧ Below w0.heap.size w0 wr ∧ w0.heap.size ≤ wr.heap.size) : Below w0.heap.size w0 wr := h.2.1
theorem sz1 {w0 wr : World} {a0 : Prop} (h : a0 ∧ Below w0.heap.size w0 wr ∧ w0.heap.size ≤ wr.heap.size) : w0.heap.size ≤ wr.heap.size := h.2.2
theorem kp2 {w0 wr wr' : World} {b0 b1 o0 o1 : Nat} {X0 X1 : Value} (h : wr.cell? ⟨b0, o0, none⟩ = some X0 ∧ wr.cell? ⟨b1, o1, none⟩ = some X1 ∧ Below w0.heap.size w0 wr ∧ w0.heap.size ≤ wr.heap.size) (hs : Below wr.heap.size wr wr') :
    wr'.cell? ⟨b0, o0, none⟩ = some X0 ∧ wr'.cell? ⟨b1, o1, none⟩ = some X1 ∧ Below w0.heap.size w0 wr' ∧ w0.heap.size ≤ wr'.heap.size := by
  obtain ⟨h0, h1, hb, hz⟩ := h
  exact ⟨(hs.cell (p := ⟨b0, o0, none⟩) (World.block_lt_of_cell? wr _ h0)).trans h0, (hs.cell (p := ⟨b1, o1, none⟩) (World.block_lt_of_cell? wr _ h1)).trans h1, hb.trans (hs.mono hz), Nat.le_trans hz hs.size⟩
theorem kd2 {w0 wr : World} {b0 b1 o0 o1 : Nat} {X0 X1 : Value} (h : wr.cell? ⟨b0, o0, none⟩ = some X0 ∧ wr.cell? ⟨b1, o1, none⟩ = some X1 ∧ Below w0.heap.size w0 wr ∧ w0.heap.size ≤ wr.heap.size) :
    wr.drew.cell? ⟨b0, o0, none⟩ = some X0 ∧ wr.drew.cell? ⟨b1, o1, none⟩ = some X1 ∧ Below w0.heap.size w0 wr.drew ∧ w0.heap.size ≤ wr.drew.heap.size := by
  obtain ⟨h0, h1, hb, hz⟩ := h
  exact ⟨h0, h1, hb.drew, hz⟩
theorem bl2 {w0 wr : World} {a0 a1 : Prop} (h : a0 ∧ a1 ∧ Below w0.heap.size w0 wr ∧ w0.heap.size ≤ wr.heap.size) : Below w0.heap.size w0 wr := h.2.2.1
theorem sz2 {w0 wr : World} {a0 a1 : Prop} (h : a0 ∧ a1 ∧ Below w0.heap.size w0 wr ∧ w0.heap.size ≤ wr.heap.size) : w0.heap.size ≤ wr.heap.size := h.2.2.2
theorem kp3 {w0 wr wr' : World} {b0 b1 b2 o0 o1 o2 : Nat} {X0 X1 X2 : Value} (h : wr.cell? ⟨b0, o0, none⟩ = some X0 ∧ wr.cell? ⟨b1, o1, none⟩ = some X1 ∧ wr.cell? ⟨b2, o2, none⟩ = some X2 ∧ Below w0.heap.size w0 wr ∧ w0.heap.size ≤ wr.heap.size) (hs : Below wr.heap.size wr wr') :
    wr'.cell? ⟨b0, o0, none⟩ = some X0 ∧ wr'.cell? ⟨b1, o1, none⟩ = some X1 ∧ wr'.cell? ⟨b2, o2, none⟩ = some X2 ∧ Below w0.heap.size w0 wr' ∧ w0.heap.size ≤ wr'.heap.size := by
  obtain ⟨h0, h1, h2, hb, hz⟩ := h
  exact ⟨(hs.cell (p := ⟨b0, o0, none⟩) (World.block_lt_of_cell? wr _ h0)).trans h0, (hs.cell (p := ⟨b1, o1, none⟩) (World.block_lt_of_cell? wr _ h1)).trans h1, (hs.cell (p := ⟨b2, o2, none⟩) (World.block_lt_of_cell? wr _ h2)).trans h2, hb.trans (hs.mono hz), Nat.le_trans hz hs.size⟩
theorem kd3 {w0 wr : World} {b0 b1 b2 o0 o1 o2 : Nat} {X0 X1 X2 : Value} (h : wr.cell? ⟨b0, o0, none⟩ = some X0 ∧ wr.cell? ⟨b1, o1, none⟩ = some X1 ∧ wr.cell? ⟨b2, o2, none⟩ = some X2 ∧ Below w0.heap.size w0 wr ∧ w0.heap.size ≤ wr.heap.size) :
    wr.drew.cell? ⟨b0, o0, none⟩ = some X0 ∧ wr.drew.cell? ⟨b1, o1, none⟩ = some X1 ∧ wr.drew.cell? ⟨b2, o2, none⟩ = some X2 ∧ Below w0.heap.size w0 wr.drew ∧ w0.heap.size ≤ wr.drew.heap.size := by
  obtain ⟨h0, h1, h2, hb, hz⟩ := h
  exact ⟨h0, h1, h2, hb.drew, hz⟩
theorem bl3 {w0 wr : World} {a0 a1 a2 : Prop} (h : a0 ∧ a1 ∧ a2 ∧ Below w0.heap.size w0 wr ∧ w0.heap.size ≤ wr.heap.size) : Below w0.heap.size w0 wr := h.2.2.2.1
theorem sz3 {w0 wr : World} {a0 a1 a2 : Prop} (h : a0 ∧ a1 ∧ a2 ∧ Below w0.heap.size w0 wr ∧ w0.heap.size ≤ wr.heap.size) : w0.heap.size ≤ wr.heap.size := h.2.2.2.2
theorem kp4 {w0 wr wr' : World} {b0 b1 b2 b3 o0 o1 o2 o3 : Nat} {X0 X1 X2 X3 : Value} (h : wr.cell? ⟨b0, o0, none⟩ = some X0 ∧ wr.cell? ⟨b1, o1, none⟩ = some X1 ∧ wr.cell? ⟨b2, o2, none⟩ = some X2 ∧ wr.cell? ⟨b3, o3, none⟩ = some X3 ∧ Below w0.heap.size w0 wr ∧ w0.heap.size ≤ wr.heap.size) (hs : Below wr.heap.size wr wr') :
    wr'.cell? ⟨b0, o0, none⟩ = some X0 ∧ wr'.cell? ⟨b1, o1, none⟩ = some X1 ∧ wr'.cell? ⟨b2, o2, none⟩ = some X2 ∧ wr'.cell? ⟨b3, o3, none⟩ = some X3 ∧ Below w0.heap.size w0 wr' ∧ w0.heap.size ≤ wr'.heap.size := by
  obtain ⟨h0, h1, h2, h3, hb, hz⟩ := h
  exact ⟨(hs.cell (p := ⟨b0, o0, none⟩) (World.block_lt_of_cell? wr _ h0)).trans h0, (hs.cell (p := ⟨b1, o1, none⟩) (World.block_lt_of_cell? wr _ h1)).trans h1, (hs.cell (p := ⟨b2, o2, none⟩) (World.block_lt_of_cell? wr _ h2)).trans h2, (hs.cell (p := ⟨b3, o3, none⟩) (World.block_lt_of_cell? wr _ h3)).trans h3, hb.trans (hs.mono hz), Nat.le_trans hz hs.size⟩
theorem kd4 {w0 wr : World} {b0 b1 b2 b3 o0 o1 o2 o3 : Nat} {X0 X1 X2 X3 : Value} (h : wr.cell? ⟨b0, o0, none⟩ = some X0 ∧ wr.cell? ⟨b1, o1, none⟩ = some X1 ∧ wr.cell? ⟨b2, o2, none⟩ = some X2 ∧ wr.cell? ⟨b3, o3, none⟩ = some X3 ∧ Below w0.heap.size w0 wr ∧ w0.heap.size ≤ wr.heap.size) :
    wr.drew.cell? ⟨b0, o0, none⟩ = some X0 ∧ wr.drew.cell? ⟨b1, o1, none⟩ = some X1 ∧ wr.drew.cell? ⟨b2, o2, none⟩ = some X2 ∧ wr.drew.cell? ⟨b3, o3, none⟩ = some X3 ∧ Below w0.heap.size w0 wr.drew ∧ w0.heap.size ≤ wr.drew.heap.size := by
  obtain ⟨h0, h1, h2, h3, hb, hz⟩ := h
  exact ⟨h0, h1, h2, h3, hb.drew, hz⟩
theorem bl4 {w0 wr : World} {a0 a1 a2 a3 : Prop} (h : a0 ∧ a1 ∧ a2 ∧ a3 ∧ Below w0.heap.size w0 wr ∧ w0.heap.size ≤ wr.heap.size) : Below w0.heap.size w0 wr := h.2.2.2.2.1
theorem sz4 {w0 wr : World} {a0 a1 a2 a3 : Prop} (h : a0 ∧ a1 ∧ a2 ∧ a3 ∧ Below w0.heap.size w0 wr ∧ w0.heap.size ≤ wr.heap.size) : w0.heap.size ≤ wr.heap.size := h.2.2.2.2.2
theorem kp5 {w0 wr wr' : World} {b0 b1 b2 b3 b4 o0 o1 o2 o3 o4 : Nat} {X0 X1 X2 X3 X4 : Value} (h : wr.cell? ⟨b0, o0, none⟩ = some X0 ∧ wr.cell? ⟨b1, o1, none⟩ = some X1 ∧ wr.cell? ⟨b2, o2, none⟩ = some X2 ∧ wr.cell? ⟨b3, o3, none⟩ = some X3 ∧ wr.cell? ⟨b4, o4, none⟩ = some X4 ∧ Below w0.heap.size w0 wr ∧ w0.heap.size ≤ wr.heap.size) (hs : Below wr.heap.size wr wr') :
    wr'.cell? ⟨b0, o0, none⟩ = some X0 ∧ wr'.cell? ⟨b1, o1, none⟩ = some X1 ∧ wr'.cell? ⟨b2, o2, none⟩ = some X2 ∧ wr'.cell? ⟨b3, o3, none⟩ = some X3 ∧ wr'.cell? ⟨b4, o4, none⟩ = some X4 ∧ Below w0.heap.size w0 wr' ∧ w0.heap.size ≤ wr'.heap.size := by
  obtain ⟨h0, h1, h2, h3, h4, hb, hz⟩ := h
  exact ⟨(hs.cell (p := ⟨b0, o0, none⟩) (World.block_lt_of_cell? wr _ h0)).trans h0, (hs.cell (p := ⟨b1, o1, none⟩) (World.block_lt_of_cell? wr _ h1)).trans h1, (hs.cell (p := ⟨b2, o2, none⟩) (World.block_lt_of_cell? wr _ h2)).trans h2, (hs.cell (p := ⟨b3, o3, none⟩) (World.block_lt_of_cell? wr _ h3)).trans h3, (hs.cell (p := ⟨b4, o4, none⟩) (World.block_lt_of_cell? wr _ h4)).trans h4, hb.trans (hs.mono hz), Nat.le_trans hz hs.size⟩
theorem kd5 {w0 wr : World} {b0 b1 b2 b3 b4 o0 o1 o2 o3 o4 : Nat} {X0 X1 X2 X3 X4 : Value} (h : wr.cell? ⟨b0, o0, none⟩ = some X0 ∧ wr.cell? ⟨b1, o1, none⟩ = some X1 ∧ wr.cell? ⟨b2, o2, none⟩ = some X2 ∧ wr.cell? ⟨b3, o3, none⟩ = some X3 ∧ wr.cell? ⟨b4, o4, none⟩ = some X4 ∧ Below w0.heap.size w0 wr ∧ w0.heap.size ≤ wr.heap.size) :
    wr.drew.cell? ⟨b0, o0, none⟩ = some X0 ∧ wr.drew.cell? ⟨b1, o1, none⟩ = some X1 ∧ wr.drew.cell? ⟨b2, o2, none⟩ = some X2 ∧ wr.drew.cell? ⟨b3, o3, none⟩ = some X3 ∧ wr.drew.cell? ⟨b4, o4, none⟩ = some X4 ∧ Below w0.heap.size w0 wr.drew ∧ w0.heap.size ≤ wr.drew.heap.size := by
  obtain ⟨h0, h1, h2, h3, h4, hb, hz⟩ := h
  exact ⟨h0, h1, h2, h3, h4, hb.drew, hz⟩
theorem bl5 {w0 wr : World} {a0 a1 a2 a3 a4 : Prop} (h : a0 ∧ a1 ∧ a2 ∧ a3 ∧ a4 ∧ Below w0.heap.size w0 wr ∧ w0.heap.size ≤ wr.heap.size) : Below w0.heap.size w0 wr := h.2.2.2.2.2.1
theorem sz5 {w0 wr : World} {a0 a1 a2 a3 a4 : Prop} (h : a0 ∧ a1 ∧ a2 ∧ a3 ∧ a4 ∧ Below w0.heap.size w0 wr ∧ w0.heap.size ≤ wr.heap.size) : w0.heap.size ≤ wr.heap.size := h.2.2.2.2.2.2
theorem kp6 {w0 wr wr' : World} {b0 b1 b2 b3 b4 b5 o0 o1 o2 o3 o4 o5 : Nat} {X0 X1 X2 X3 X4 X5 : Value} (h : wr.cell? ⟨b0, o0, none⟩ = some X0 ∧ wr.cell? ⟨b1, o1, none⟩ = some X1 ∧ wr.cell? ⟨b2, o2, none⟩ = some X2 ∧ wr.cell? ⟨b3, o3, none⟩ = some X3 ∧ wr.cell? ⟨b4, o4, none⟩ = some X4 ∧ wr.cell? ⟨b5, o5, none⟩ = some X5 ∧ Below w0.heap.size w0 wr ∧ w0.heap.size ≤ wr.heap.size) (hs : Below wr.heap.size wr wr') :
    wr'.cell? ⟨b0, o0, none⟩ = some X0 ∧ wr'.cell? ⟨b1, o1, none⟩ = some X1 ∧ wr'.cell? ⟨b2, o2, none⟩ = some X2 ∧ wr'.cell? ⟨b3, o3, none⟩ = some X3 ∧ wr'.cell? ⟨b4, o4, none⟩ = some X4 ∧ wr'.cell? ⟨b5, o5, none⟩ = some X5 ∧ Below w0.heap.size w0 wr' ∧ w0.heap.size ≤ wr'.heap.size := by
  obtain ⟨h0, h1, h2, h3, h4, h5, hb, hz⟩ := h
  exact ⟨(hs.cell (p := ⟨b0, o0, none⟩) (World.block_lt_of_cell? wr _ h0)).trans h0, (hs.cell (p := ⟨b1, o1, none⟩) (World.block_lt_of_cell? wr _ h1)).trans h1, (hs.cell (p := ⟨b2, o2, none⟩) (World.block_lt_of_cell? wr _ h2)).trans h2, (hs.cell (p := ⟨b3, o3, none⟩) (World.block_lt_of_cell? wr _ h3)).trans h3, (hs.cell (p := ⟨b4, o4, none⟩) (World.block_lt_of_cell? wr _ h4)).trans h4, (hs.cell (p := ⟨b5, o5, none⟩) (World.block_lt_of_cell? wr _ h5)).trans h5, hb.trans (hs.mono hz), Nat.le_trans hz hs.size⟩
theorem kd6 {w0 wr : World} {b0 b1 b2 b3 b4 b5 o0 o1 o2 o3 o4 o5 : Nat} {X0 X1 X2 X3 X4 X5 : Value} (h : wr.cell? ⟨b0, o0, none⟩ = some X0 ∧ wr.cell? ⟨b1, o1, none⟩ = some X1 ∧ wr.cell? ⟨b2, o2, none⟩ = some X2 ∧ wr.cell? ⟨b3, o3, none⟩ = some X3 ∧ wr.cell? ⟨b4, o4, none⟩ = some X4 ∧ wr.cell? ⟨b5, o5, none⟩ = some X5 ∧ Below w0.heap.size w0 wr ∧ w0.heap.size ≤ wr.heap.size) :
    wr.drew.cell? ⟨b0, o0, none⟩ = some X0 ∧ wr.drew.cell? ⟨b1, o1, none⟩ = some X1 ∧ wr.drew.cell? ⟨b2, o2, none⟩ = some X2 ∧ wr.drew.cell? ⟨b3, o3, none⟩ = some X3 ∧ wr.drew.cell? ⟨b4, o4, none⟩ = some X4 ∧ wr.drew.cell? ⟨b5, o5, none⟩ = some X5 ∧ Below w0.heap.size w0 wr.drew ∧ w0.heap.size ≤ wr.drew.heap.size := by
  obtain ⟨h0, h1, h2, h3, h4, h5, hb, hz⟩ := h
  exact ⟨h0, h1, h2, h3, h4, h5, hb.drew, hz⟩
theorem bl6 {w0 wr : World} {a0 a1 a2 a3 a4 a5 : Prop} (h : a0 ∧ a1 ∧ a2 ∧ a3 ∧ a4 ∧ a5 ∧ Below w0.heap.size w0 wr ∧ w0.heap.size ≤ wr.heap.size) : Below w0.heap.size w0 wr := h.2.2.2.2.2.2.1
theorem sz6 {w0 wr : World} {a0 a1 a2 a3 a4 a5 : Prop} (h : a0 ∧ a1 ∧ a2 ∧ a3 ∧ a4 ∧ a5 ∧ Below w0.heap.size w0 wr ∧ w0.heap.size ≤ wr.heap.size) : w0.heap.size ≤ wr.heap.size := h.2.2.2.2.2.2.2
theorem kp7 {w0 wr wr' : World} {b0 b1 b2 b3 b4 b5 b6 o0 o1 o2 o3 o4 o5 o6 : Nat} {X0 X1 X2 X3 X4 X5 X6 : Value} (h : wr.cell? ⟨b0, o0, none⟩ = some X0 ∧ wr.cell? ⟨b1, o1, none⟩ = some X1 ∧ wr.cell? ⟨b2, o2, none⟩ = some X2 ∧ wr.cell? ⟨b3, o3, none⟩ = some X3 ∧ wr.cell? ⟨b4, o4, none⟩ = some X4 ∧ wr.cell? ⟨b5, o5, none⟩ = some X5 ∧ wr.cell? ⟨b6, o6, none⟩ = some X6 ∧ Below w0.heap.size w0 wr ∧ w0.heap.size ≤ wr.heap.size) (hs : Below wr.heap.size wr wr') :
    wr'.cell? ⟨b0, o0, none⟩ = some X0 ∧ wr'.cell? ⟨b1, o1, none⟩ = some X1 ∧ wr'.cell? ⟨b2, o2, none⟩ = some X2 ∧ wr'.cell? ⟨b3, o3, none⟩ = some X3 ∧ wr'.cell? ⟨b4, o4, none⟩ = some X4 ∧ wr'.cell? ⟨b5, o5, none⟩ = some X5 ∧ wr'.cell? ⟨b6, o6, none⟩ = some X6 ∧ Below w0.heap.size w0 wr' ∧ w0.heap.size ≤ wr'.heap.size := by
  obtain ⟨h0, h1, h2, h3, h4, h5, h6, hb, hz⟩ := h
  exact ⟨(hs.cell (p := ⟨b0, o0, none⟩) (World.block_lt_of_cell? wr _ h0)).trans h0, (hs.cell (p := ⟨b1, o1, none⟩) (World.block_lt_of_cell? wr _ h1)).trans h1, (hs.cell (p := ⟨b2, o2, none⟩) (World.block_lt_of_cell? wr _ h2)).trans h2, (hs.cell (p := ⟨b3, o3, none⟩) (World.block_lt_of_cell? wr _ h3)).trans h3, (hs.cell (p := ⟨b4, o4, none⟩) (World.block_lt_of_cell? wr _ h4)).trans h4, (hs.cell (p := ⟨b5, o5, none⟩) (World.block_lt_of_cell? wr _ h5)).trans h5, (hs.cell (p := ⟨b6, o6, none⟩) (World.block_lt_of_cell? wr _ h6)).trans h6, hb.trans (hs.mono hz), Nat.le_trans hz hs.size⟩
theorem kd7 {w0 wr : World} {b0 b1 b2 b3 b4 b5 b6 o0 o1 o2 o3 o4 o5 o6 : Nat} {X0 X1 X2 X3 X4 X5 X6 : Value} (h : wr.cell? ⟨b0, o0, none⟩ = some X0 ∧ wr.cell? ⟨b1, o1, none⟩ = some X1 ∧ wr.cell? ⟨b2, o2, none⟩ = some X2 ∧ wr.cell? ⟨b3, o3, none⟩ = some X3 ∧ wr.cell? ⟨b4, o4, none⟩ = some X4 ∧ wr.cell? ⟨b5, o5, none⟩ = some X5 ∧ wr.cell? ⟨b6, o6, none⟩ = some X6 ∧ Below w0.heap.size w0 wr ∧ w0.heap.size ≤ wr.heap.size) :
    wr.drew.cell? ⟨b0, o0, none⟩ = some X0 ∧ wr.drew.cell? ⟨b1, o1, none⟩ = some X1 ∧ wr.drew.cell? ⟨b2, o2, none⟩ = some X2 ∧ wr.drew.cell? ⟨b3, o3, none⟩ = some X3 ∧ wr.drew.cell? ⟨b4, o4, none⟩ = some X4 ∧ wr.drew.cell? ⟨b5, o5, none⟩ = some X5 ∧ wr.drew.cell? ⟨b6, o6, none⟩ = some X6 ∧ Below w0.heap.size w0 wr.drew ∧ w0.heap.size ≤ wr.drew.heap.size := by
  obtain ⟨h0, h1, h2, h3, h4, h5, h6, hb, hz⟩ := h
  exact ⟨h0, h1, h2, h3, h4, h5, h6, hb.drew, hz⟩
theorem bl7 {w0 wr : World} {a0 a1 a2 a3 a4 a5 a6 : Prop} (h : a0 ∧ a1 ∧ a2 ∧ a3 ∧ a4 ∧ a5 ∧ a6 ∧ Below w0.heap.size w0 wr ∧ w0.heap.size ≤ wr.heap.size) : Below w0.heap.size w0 wr := h.2.2.2.2.2.2.2.1
theorem sz7 {w0 wr : World} {a0 a1 a2 a3 a4 a5 a6 : Prop} (h : a0 ∧ a1 ∧ a2 ∧ a3 ∧ a4 ∧ a5 ∧ a6 ∧ Below w0.heap.size w0 wr ∧ w0.heap.size ≤ wr.heap.size) : w0.heap.size ≤ wr.heap.size := h.2.2.2.2.2.2.2.2
theorem kp8 {w0 wr wr' : World} {b0 b1 b2 b3 b4 b5 b6 b7 o0 o1 o2 o3 o4 o5 o6 o7 : Nat} {X0 X1 X2 X3 X4 X5 X6 X7 : Value} (h : wr.cell? ⟨b0, o0, none⟩ = some X0 ∧ wr.cell? ⟨b1, o1, none⟩ = some X1 ∧ wr.cell? ⟨b2, o2, none⟩ = some X2 ∧ wr.cell? ⟨b3, o3, none⟩ = some X3 ∧ wr.cell? ⟨b4, o4, none⟩ = some X4 ∧ wr.cell? ⟨b5, o5, none⟩ = some X5 ∧ wr.cell? ⟨b6, o6, none⟩ = some X6 ∧ wr.cell? ⟨b7, o7, none⟩ = some X7 ∧ Below w0.heap.size w0 wr ∧ w0.heap.size ≤ wr.heap.size) (hs : Below wr.heap.size wr wr') :
    wr'.cell? ⟨b0, o0, none⟩ = some X0 ∧ wr'.cell? ⟨b1, o1, none⟩ = some X1 ∧ wr'.cell? ⟨b2, o2, none⟩ = some X2 ∧ wr'.cell? ⟨b3, o3, none⟩ = some X3 ∧ wr'.cell? ⟨b4, o4, none⟩ = some X4 ∧ wr'.cell? ⟨b5, o5, none⟩ = some X5 ∧ wr'.cell? ⟨b6, o6, none⟩ = some X6 ∧ wr'.cell? ⟨b7, o7, none⟩ = some X7 ∧ Below w0.heap.size w0 wr' ∧ w0.heap.size ≤ wr'.heap.size := by
  obtain ⟨h0, h1, h2, h3, h4, h5, h6, h7, hb, hz⟩ := h
  exact ⟨(hs.cell (p := ⟨b0, o0, none⟩) (World.block_lt_of_cell? wr _ h0)).trans h0, (hs.cell (p := ⟨b1, o1, none⟩) (World.block_lt_of_cell? wr _ h1)).trans h1, (hs.cell (p := ⟨b2, o2, none⟩) (World.block_lt_of_cell? wr _ h2)).trans h2, (hs.cell (p := ⟨b3, o3, none⟩) (World.block_lt_of_cell? wr _ h3)).trans h3, (hs.cell (p := ⟨b4, o4, none⟩) (World.block_lt_of_cell? wr _ h4)).trans h4, (hs.cell (p := ⟨b5, o5, none⟩) (World.block_lt_of_cell? wr _ h5)).trans h5, (hs.cell (p := ⟨b6, o6, none⟩) (World.block_lt_of_cell? wr _ h6)).trans h6, (hs.cell (p := ⟨b7, o7, none⟩) (World.block_lt_of_cell? wr _ h7)).trans h7, hb.trans (hs.mono hz), Nat.le_trans hz hs.size⟩
theorem kd8 {w0 wr : World} {b0 b1 b2 b3 b4 b5 b6 b7 o0 o1 o2 o3 o4 o5 o6 o7 : Nat} {X0 X1 X2 X3 X4 X5 X6 X7 : Value} (h : wr.cell? ⟨b0, o0, none⟩ = some X0 ∧ wr.cell? ⟨b1, o1, none⟩ = some X1 ∧ wr.cell? ⟨b2, o2, none⟩ = some X2 ∧ wr.cell? ⟨b3, o3, none⟩ = some X3 ∧ wr.cell? ⟨b4, o4, none⟩ = some X4 ∧ wr.cell? ⟨b5, o5, none⟩ = some X5 ∧ wr.cell? ⟨b6, o6, none⟩ = some X6 ∧ wr.cell? ⟨b7, o7, none⟩ = some X7 ∧ Below w0.heap.size w0 wr ∧ w0.heap.size ≤ wr.heap.size) :
    wr.drew.cell? ⟨b0, o0, none⟩ = some X0 ∧ wr.drew.cell? ⟨b1, o1, none⟩ = some X1 ∧ wr.drew.cell? ⟨b2, o2, none⟩ = some X2 ∧ wr.drew.cell? ⟨b3, o3, none⟩ = some X3 ∧ wr.drew.cell? ⟨b4, o4, none⟩ = some X4 ∧ wr.drew.cell? ⟨b5, o5, none⟩ = some X5 ∧ wr.drew.cell? ⟨b6, o6, none⟩ = some X6 ∧ wr.drew.cell? ⟨b7, o7, none⟩ = some X7 ∧ Below w0.heap.size w0 wr.drew ∧ w0.heap.size ≤ wr.drew.heap.size := by
  obtain ⟨h0, h1, h2, h3, h4, h5, h6, h7, hb, hz⟩ := h
  exact ⟨h0, h1, h2, h3, h4, h5, h6, h7, hb.drew, hz⟩
theorem bl8 {w0 wr : World} {a0 a1 a2 a3 a4 a5 a6 a7 : Prop} (h : a0 ∧ a1 ∧ a2 ∧ a3 ∧ a4 ∧ a5 ∧ a6 ∧ a7 ∧ Below w0.heap.size w0 wr ∧ w0.heap.size ≤ wr.heap.size) : Below w0.heap.size w0 wr := h.2.2.2.2.2.2.2.2.1
theorem sz8 {w0 wr : World} {a0 a1 a2 a3 a4 a5 a6 a7 : Prop} (h : a0 ∧ a1 ∧ a2 ∧ a3 ∧ a4 ∧ a5 ∧ a6 ∧ a7 ∧ Below w0.heap.size w0 wr ∧ w0.heap.size ≤ wr.heap.size) : w0.heap.size ≤ wr.heap.size := h.2.2.2.2.2.2.2.2.2
end Go.Proofs.YtifenbamookmiaaDoor
