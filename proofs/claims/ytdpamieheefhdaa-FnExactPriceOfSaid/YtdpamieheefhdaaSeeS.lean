/-
  Contracts: the price of a cell added to a sum.
-/
import Derived.Test.YtdpamieheefhdaaWalkE
import Derived.RangeFuncBox
namespace Go.Proofs.Ytdpamieheefhdaa
set_option linter.unusedSimpArgs false
set_option linter.unusedVariables false
open Go.ChangeShapes Go.WideShapes Go.ChangeAt Go.RowKit

/-- Only block g and new blocks have turned. -/
structure But (g : Nat) (w w' : World) : Prop where
  os : w'.os = w.os
  tape : w'.tape = w.tape
  output : w'.output = w.output
  size : w.heap.size ≤ w'.heap.size
  block : ∀ i, i < w.heap.size → i ≠ g → w'.heap[i]? = w.heap[i]?
theorem But.refl (g : Nat) (w : World) : But g w w := ⟨rfl, rfl, rfl, Nat.le_refl _, fun _ _ _ => rfl⟩
theorem But.of {g : Nat} {w w' : World} (h : Below w.heap.size w w') : But g w w' := ⟨h.os, h.tape, h.output, h.size, fun i hi _ => h.block i hi⟩
theorem But.trans {g : Nat} {a b c : World} (h : But g a b) (k : But g b c) : But g a c :=
  ⟨k.os.trans h.os, k.tape.trans h.tape, k.output.trans h.output, Nat.le_trans h.size k.size, fun i hi hne => (k.block i (Nat.lt_of_lt_of_le hi h.size) hne).trans (h.block i hi hne)⟩
theorem But.set_ {g : Nat} {a b : World} (h : But g a b) (o : Nat) (v : Value) : But g a (b.setCell ⟨g, o, none⟩ v) :=
  ⟨h.os, h.tape, h.output, by simpa [World.setCell] using h.size, fun i hi hne => (Below.heap_setCell b ⟨g, o, none⟩ v i hne).trans (h.block i hi hne)⟩
theorem But.below {g B : Nat} {a w w' : World} (h : But g w w') (hb : Below B a w) (hB : B ≤ g) (hBw : B ≤ w.heap.size) : Below B a w' :=
  ⟨h.os.trans hb.os, h.tape.trans hb.tape, h.output.trans hb.output, Nat.le_trans hb.size h.size, fun k hk => (h.block k (by omega) (by omega)).trans (hb.block k hk)⟩

theorem But.far {g : Nat} {a b : World} (h : But g a b) {p : Addr} (hp : a.heap.size ≤ p.block) (v : Value) : But g a (b.setCell p v) :=
  ⟨h.os, h.tape, h.output, by simpa [World.setCell] using h.size, fun i hi hne => (Below.heap_setCell b p v i (by omega)).trans (h.block i hi hne)⟩
theorem boxed_far {w : World} {g : Nat} {t : TypeId} {v : Value} (h : Boxed w g t v) {p : Addr} (hp : g ≠ p.block) (u : Value) : Boxed (w.setCell p u) g t v := (Below.heap_setCell w p u g hp).trans h
/-- What tells the prices, all of it below block B. -/
structure PrB (w : World) (B gw gh gc : Nat) (A : Option Addr) (Ls : List SlI) (c : Nat) : Prop where
  cw : w.cell? ⟨gw, 0, none⟩ = some (.int .i64 (wid (heldI Ls) : Int))
  ch : w.cell? ⟨gh, 0, none⟩ = some (.int .i64 (Ls.length : Int))
  cc : w.cell? ⟨gc, 0, none⟩ = some (.slice A Ls.length c)
  lw : gw < B
  lh : gh < B
  lc : gc < B
  rows : ISAt w B A Ls
theorem PrB.at_ {w w1 : World} {B gw gh gc : Nat} {A : Option Addr} {Ls : List SlI} {c : Nat} (h : PrB w B gw gh gc A Ls c) (hb : Below B w w1) (hB : B ≤ w1.heap.size) : PrAt w1 gw gh gc A Ls c :=
  ⟨(hb.cell (p := ⟨gw, 0, none⟩) h.lw).trans h.cw, (hb.cell (p := ⟨gh, 0, none⟩) h.lh).trans h.ch, (hb.cell (p := ⟨gc, 0, none⟩) h.lc).trans h.cc, by have := h.lw; omega, by have := h.lh; omega, by have := h.lc; omega, (h.rows.keepB hb).mono hB⟩
theorem PrAt.prB {w : World} {gw gh gc : Nat} {A : Option Addr} {Ls : List SlI} {c : Nat} (h : PrAt w gw gh gc A Ls c) : PrB w w.heap.size gw gh gc A Ls c := ⟨h.cw, h.ch, h.cc, h.lw, h.lh, h.lc, h.rows⟩

theorem boxed_to {w w1 : World} {g : Nat} {t : TypeId} {v : Value} (h : Boxed w g t v) (hb : Below w.heap.size w w1) : Boxed w1 g t v := (hb.block g h.lt).trans h
theorem priceI_lo {M : Mz} (hM : MzOk M) (x y : Int) : -1 ≤ priceI M x y ∧ priceI M x y ≤ 9 := by
  by_cases h : x < 0 ∨ (wid M : Int) ≤ x ∨ y < 0 ∨ (M.length : Int) ≤ y
  · rw [priceI_out h]; omega
  · obtain ⟨i, rfl⟩ : ∃ i : Nat, x = i := ⟨x.toNat, by omega⟩
    obtain ⟨j, rfl⟩ : ∃ j : Nat, y = j := ⟨y.toNat, by omega⟩
    rw [priceI_in (by omega) (by omega)]
    have := hM.cell j i (by omega) (by omega)
    omega
set_option maxRecDepth 100000 in
set_option maxHeartbeats 1600000 in
theorem seeSum_any (gs gp gw gh gc : Nat) (A : Option Addr) (Ls : List SlI) (c : Nat) (x y S : Int) (w : World) (hm : PrAt w gw gh gc A Ls c) (hv : MzOk (heldI Ls)) (hS : Boxed w gs 2 (.int .i64 S)) (hp : w.cell? ⟨gp, 0, none⟩ = some (prV gw gh gc)) (h0 : -100000 ≤ S) (h1 : S ≤ 100000) :
    Calls Try.prog 63 #[.agg #[.int .i64 x, .int .i64 y], .pointer (some ⟨gs, 0, none⟩), .pointer (some ⟨gp, 0, none⟩)] w fun e w' => e = .returned (.tuple #[]) ∧ Boxed w' gs 2 (.int .i64 (S + priceI (heldI Ls) x y)) ∧ But gs w w' := by
  have hpr := priceI_lo hv x y
  have hx0 : Below w.heap.size w (w.alloc (.cells #[.int .i64 x, .int .i64 y] 37)) := by (repeat (first | assumption | exact Below.refl _ _ | (refine bl_alloc ?_ _) | (refine Below.drew ?_) | (refine bl_drewN ?_ _) | (refine bl_set ?_ (by first | (simp; done) | omega | (simp; omega)) _) | (refine bl_trans ?_ (by assumption)) | (refine bl_step ?_ (by assumption) (by first | omega | exact Below.size (by assumption) | (simp; omega) | (simp; exact Below.size (by assumption))))))
  have cp := fun w1 (h : PrAt w1 gw gh gc A Ls c) => price_any gw gh gc A Ls c x y w1 h hv
  have hgl := hS.lt
  have hpl : gp < w.heap.size := World.block_lt_of_cell? w _ hp
  have hsc := hS.cell
  have hsf := hS.frozen
  obtain ⟨v, hvv⟩ : ∃ v, priceI (heldI Ls) x y = v := ⟨_, rfl⟩
  rw [hvv] at cp hpr ⊢
  obtain ⟨hp0, hp1⟩ := hpr
  have e1 : IntKind.i64.wrap (S + v) = S + v := IntWalk.i64_in _ (by omega)
  have HM := Lib.hid hm
  clear hvv
  have HS := Lib.hid hS
  clear hS hm
  go_enter Try.func63, Try.ntmps63
  go_wp2
  go_region_with (go_at_call 105; refine (cp _ (HM.out.to (by (repeat (first | assumption | exact Below.refl _ _ | (refine bl_alloc ?_ _) | (refine Below.drew ?_) | (refine bl_drewN ?_ _) | (refine bl_set ?_ (by first | (simp; done) | omega | (simp; omega)) _) | (refine bl_trans ?_ (by assumption)) | (refine bl_step ?_ (by assumption) (by first | omega | exact Below.size (by assumption) | (simp; omega) | (simp; exact Below.size (by assumption))))))))).mono ?_; rintro e w1 ⟨rfl, hb1⟩; obtain ⟨hc', hf', hz'⟩ := bcell hb1)
  all_goals
    have bb := (step_b hb1).1
    go_wp2
    go_end0
    exact ⟨rfl, Boxed.set _ (boxed_to HS.out bb), (But.of bb).set_ 0 _⟩
end Go.Proofs.Ytdpamieheefhdaa
