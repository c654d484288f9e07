/-
  Bundles in a law, said over what they hold.
-/
import Derived.Test.YtifenbamookmiaaDoorBunL
namespace Go.Proofs.YtifenbamookmiaaDoor
set_option linter.unusedSimpArgs false
set_option linter.unusedVariables false
open Go.ChangeShapes Go.WideShapes Go.ChangeAt Go.RowKit

/-- Rows of a size that a law takes. -/
def BnSh (Ls : List SlI) : Prop := Ls.length ≤ 1048576 ∧ ∀ i, i < Ls.length → (Ls.getD i si0).2.1.length ≤ 1048576
/-- The slice with the address A and n rows holds the bundle M. -/
def BnIn (w : World) (A : Option Addr) (n : Nat) (M : Mz) : Prop := ∃ Ms : List SlI, Ms.length = n ∧ heldI Ms = M ∧ ISAt w w.heap.size A Ms ∧ BnSh Ms
theorem BnIn.to {w w1 : World} {A : Option Addr} {n : Nat} {M : Mz} (h : BnIn w A n M) (hb : Below w.heap.size w w1) : BnIn w1 A n M := by
  obtain ⟨Ms, h1, h2, h3, h4⟩ := h
  exact ⟨Ms, h1, h2, h3.to hb, h4⟩
theorem BnIn.size {w : World} {A : Option Addr} {n : Nat} {M : Mz} (h : BnIn w A n M) : n ≤ 1048576 := by
  obtain ⟨Ms, h1, _, _, h4⟩ := h
  have := h4.1; omega
/-- .. in blocks of its own, the first of which is g. -/
def BnOwn (w : World) (g n : Nat) (M : Mz) : Prop := ∃ Ms : List SlI, Ms.length = n ∧ heldI Ms = M ∧ ZI w g n Ms ∧ NewIAll w g Ms ∧ n ≤ 1048576
theorem BnOwn.in_ {w : World} {g n : Nat} {M : Mz} (h : BnOwn w g n M) : BnIn w (some ⟨g, 0, none⟩) n M := by
  obtain ⟨Ms, h1, h2, h3, h4, h5⟩ := h
  exact ⟨Ms, h1, h2, h3.isat h4, by omega, fun i hi => h4.nsz hi⟩
theorem BnOwn.to {w w1 : World} {g n : Nat} {M : Mz} (h : BnOwn w g n M) (hb : Below w.heap.size w w1) : BnOwn w1 g n M := by
  obtain ⟨Ms, h1, h2, h3, h4, h5⟩ := h
  exact ⟨Ms, h1, h2, h3.to hb, h4.to hb, h5⟩
def NewBnI (n : Nat) (M : Mz) (w : World) (e : Ending) (w' : World) : Prop :=
  ∃ g, e = .returned (bnV g n) ∧ BnOwn w' g n M ∧ w.heap.size ≤ g ∧ Below w.heap.size w w'
theorem toBundle_in (A : Option Addr) (n c : Nat) (M : Mz) (w : World) (h : BnIn w A n M) :
    Calls Tryd.prog 10 #[.agg #[.slice A n c]] w (NewBnI n M w) := by
  have hz := h.size
  obtain ⟨Ms, rfl, rfl, h3, h4⟩ := h
  exact (toBundle_new A Ms c w h3 h4.1 h4.2).mono fun e w' ⟨g, Ns, he, hl, hh, hZ, hN, hg, hb⟩ => ⟨g, he, ⟨Ns, hl, hh, hZ, hN, hz⟩, hg, hb⟩
theorem eqBundle_in (A B : Option Addr) (n c d : Nat) (M : Mz) (w : World) (h : BnIn w A n M) (k : BnIn w B n M) :
    Calls Tryd.prog 13 #[.agg #[.slice A n c], .agg #[.slice B n d]] w fun e w' => e = .returned (.bool true) ∧ Below w.heap.size w w' := by
  obtain ⟨Ls, h1, h2, h3, h4⟩ := h
  obtain ⟨Ms, k1, k2, k3, k4⟩ := k
  exact eqBundle_same A B Ls Ms n c d w h3 k3 h1 k1 (h2.trans k2.symm) (by have := h4.1; omega) (fun i hi => h4.2 i (by omega))
theorem szBundle_in (A : Option Addr) (Ls : List SlI) (c : Nat) (w w0 : World) (h : RowsIn w0 A Ls c) (hb : Below w0.heap.size w0 w) :
    Calls Tryd.prog 8 #[.agg #[.slice A Ls.length c], .int .i64 1048576] w fun e w' => (∃ r : Int, e = .returned (.int .i64 r) ∧ -1 ≤ r ∧ r ≤ 1048576 ∧ (0 ≤ r → BnIn w0 A Ls.length (heldI Ls))) ∧ Below w.heap.size w w' := by
  obtain ⟨hp, _, hlc, hc⟩ := h
  exact (szBundle_any A Ls c w (hp.to hb) (by omega)).mono fun e w' ⟨⟨r, he, h1, h2, h3⟩, hb'⟩ => ⟨⟨r, he, h1, h2, fun h0 => ⟨Ls, rfl, rfl, hp, h3 h0⟩⟩, hb'⟩

end Go.Proofs.YtifenbamookmiaaDoor
