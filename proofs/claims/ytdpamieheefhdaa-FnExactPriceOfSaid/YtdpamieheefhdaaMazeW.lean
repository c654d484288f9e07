/-
  Mazes in a law, said over what they hold.
-/
import Derived.Test.YtdpamieheefhdaaMazeI
namespace Go.Proofs.Ytdpamieheefhdaa
set_option linter.unusedSimpArgs false
set_option linter.unusedVariables false
open Go.ChangeShapes Go.WideShapes Go.ChangeAt Go.RowKit

/-- The slice with the address A and n rows holds the maze M. -/
def MzIn (w : World) (A : Option Addr) (n : Nat) (M : Mz) : Prop := ∃ Ms : List SlI, Ms.length = n ∧ heldI Ms = M ∧ ISAt w w.heap.size A Ms ∧ Short Ms
theorem MzIn.to {w w1 : World} {A : Option Addr} {n : Nat} {M : Mz} (h : MzIn w A n M) (hb : Below w.heap.size w w1) : MzIn w1 A n M := by
  obtain ⟨Ms, h1, h2, h3, h4⟩ := h
  exact ⟨Ms, h1, h2, h3.to hb, h4⟩
theorem MzIn.size {w : World} {A : Option Addr} {n : Nat} {M : Mz} (h : MzIn w A n M) : n ≤ 1048576 := by
  obtain ⟨Ms, h1, _, _, h4⟩ := h
  have := h4.1; omega
/-- .. in blocks of its own, the first of which is g. -/
def MzOwn (w : World) (g n : Nat) (M : Mz) : Prop := ∃ Ms : List SlI, Ms.length = n ∧ heldI Ms = M ∧ ZI w g n Ms ∧ NewIAll w g Ms ∧ n ≤ 1048576
theorem MzOwn.in_ {w : World} {g n : Nat} {M : Mz} (h : MzOwn w g n M) : MzIn w (some ⟨g, 0, none⟩) n M := by
  obtain ⟨Ms, h1, h2, h3, h4, h5⟩ := h
  exact ⟨Ms, h1, h2, h3.isat h4, by omega, fun i hi => h4.nsz hi⟩
theorem MzOwn.to {w w1 : World} {g n : Nat} {M : Mz} (h : MzOwn w g n M) (hb : Below w.heap.size w w1) : MzOwn w1 g n M := by
  obtain ⟨Ms, h1, h2, h3, h4, h5⟩ := h
  exact ⟨Ms, h1, h2, h3.to hb, h4.to hb, h5⟩
def NewMzI (n : Nat) (M : Mz) (w : World) (e : Ending) (w' : World) : Prop :=
  ∃ g, e = .returned (mzV g n) ∧ MzOwn w' g n M ∧ w.heap.size ≤ g ∧ Below w.heap.size w w'
theorem toMaze_in (A : Option Addr) (n c : Nat) (M : Mz) (w : World) (h : MzIn w A n M) :
    Calls Try.prog 30 #[.agg #[.slice A n c]] w (NewMzI n M w) := by
  have hz := h.size
  obtain ⟨Ms, rfl, rfl, h3, h4⟩ := h
  exact (toMaze_new A Ms c w h3 h4.1 h4.2).mono fun e w' ⟨g, Ns, he, hl, hh, hZ, hN, hg, hb⟩ => ⟨g, he, ⟨Ns, hl, hh, hZ, hN, hz⟩, hg, hb⟩
theorem eqMaze_in (A B : Option Addr) (n c d : Nat) (M : Mz) (w : World) (h : MzIn w A n M) (k : MzIn w B n M) :
    Calls Try.prog 33 #[.agg #[.slice A n c], .agg #[.slice B n d]] w fun e w' => e = .returned (.bool true) ∧ Below w.heap.size w w' := by
  obtain ⟨Ls, h1, h2, h3, h4⟩ := h
  obtain ⟨Ms, k1, k2, k3, k4⟩ := k
  exact eqMaze_same A B Ls Ms n c d w h3 k3 h1 k1 (h2.trans k2.symm) (by have := h4.1; omega) (fun i hi => h4.2 i (by omega))
theorem szMaze_in (A : Option Addr) (Ls : List SlI) (c : Nat) (w w0 : World) (h : RowsIn w0 A Ls c) (hb : Below w0.heap.size w0 w) :
    Calls Try.prog 28 #[.agg #[.slice A Ls.length c], .int .i64 1048576] w fun e w' => (∃ r : Int, e = .returned (.int .i64 r) ∧ -1 ≤ r ∧ r ≤ 1048576 ∧ (0 ≤ r → MzIn w0 A Ls.length (heldI Ls))) ∧ Below w.heap.size w w' := by
  obtain ⟨hp, _, hlc, hc⟩ := h
  exact (szMaze_any A Ls c w (hp.to hb) (by omega)).mono fun e w' ⟨⟨r, he, h1, h2, h3⟩, hb'⟩ => ⟨⟨r, he, h1, h2, fun h0 => ⟨Ls, rfl, rfl, hp, h3 h0⟩⟩, hb'⟩

end Go.Proofs.Ytdpamieheefhdaa
