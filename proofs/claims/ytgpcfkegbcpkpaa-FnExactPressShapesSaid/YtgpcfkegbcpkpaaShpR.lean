/-
  Contracts: ShapeRules, as the program has it and as the model has it.
-/
import Derived.Test.YtgpcfkegbcpkpaaShpS
import Derived.Test.YtgpcfkegbcpkpaaAttemptPr
import Derived.Test.YtgpcfkegbcpkpaaPresH
namespace Go.Proofs.Ytgpcfkegbcpkpaa
set_option linter.unusedSimpArgs false
set_option linter.unusedVariables false
open Go.ChangeShapes Go.WideShapes Go.ChangeAt Go.RowKit Go.BigFrame

/-- A press in memory of its own, and whether there is one. -/
def PRes (L : List R3) (m : Int) (ok : Bool) (w : World) (e : Ending) (w' : World) : Prop :=
  ∃ A c, e = .returned (.tuple #[.agg #[.int .i64 m, .slice A L.length c], .bool ok]) ∧ Own5 w' w.heap.size A L ∧ Below w.heap.size w w'
def shL (ss : List R4) (a : Int) : List R3 := (shpO ss a).getD []
def shM (ss : List R4) (a : Int) : Int := if (shpO ss a).isSome = true then (ss.length : Int) else 0
theorem shL_len (ss : List R4) (a : Int) : (shL ss a).length ≤ 1048576 := by
  unfold shL shpO
  split
  · rename_i h
    have := (arS_facts h.1).1.2
    have h2 := allR_len ss a ss.length
    have h3 : ss.length * ss.length ≤ 12 * 12 := Nat.mul_le_mul this this
    simp only [Option.getD_some]
    omega
  · simp
theorem OwnR.twin {w w1 : World} {B base : Nat} {v : Value} {L : List R3} (h : OwnR w base v L) (ht : Twin B w w1) (hb : B + 1 < base) : OwnR w1 base v L :=
  h.keep fun i hi => by
    have := h.ge hi
    exact ht.2 i (by omega) (by omega)
set_option maxRecDepth 100000 in
set_option maxHeartbeats 1600000 in
theorem shapeClo_any (A : Option Addr) (ss : List R4) (c Z Y : Nat) (a : Int) (w : World) (c0 : w.cell? ⟨Z, 0, none⟩ = some (.slice A ss.length c)) (c1 : w.cell? ⟨Y, 0, none⟩ = some (.int .i64 a)) (hp : ShpAt w w.heap.size A ss) (hl : ss.length ≤ 1048576) (hlc : ss.length ≤ c) :
    Calls Try.prog 75 #[.pointer (some ⟨Z, 0, none⟩), .pointer (some ⟨Y, 0, none⟩)] w (PrOwn (shpO ss a) (ss.length : Int) w) := by
  have hZ : Z < w.heap.size := World.block_lt_of_cell? w _ c0
  have hY : Y < w.heap.size := World.block_lt_of_cell? w _ c1
  have hx : Below w.heap.size w (w.alloc (.cells #[.int .i64 0, .slice none 0 0] 29)) := by (repeat (first | assumption | exact Below.refl _ _ | (refine bl_alloc ?_ _) | (refine Below.drew ?_) | (refine bl_drewN ?_ _) | (refine bl_set ?_ (by first | (simp; done) | omega | (simp; omega)) _) | (refine bl_trans ?_ (by assumption)) | (refine bl_step ?_ (by assumption) (by first | omega | exact Below.size (by assumption) | (simp; omega) | (simp; exact Below.size (by assumption))))))
  have kr := Blk.new w #[.int .i64 0, .slice none 0 0] 29
  have cp := Lib.hid (pressOf_any A ss c a _ (hp.to hx) hl hlc)
  have hzA : w.heap.size < (w.alloc (.cells #[.int .i64 0, .slice none 0 0] 29)).heap.size := kr.lt
  clear hp
  generalize shpO ss a = R at *
  go_enter Try.func75, Try.ntmps75
  go_wp2_with fail
  refine cp.out.mono ?_
  rintro e w1 ⟨⟨L, v, hR, rfl, ho⟩ | ⟨hR, u, pv, rfl⟩, hb1⟩
  · obtain ⟨A4, c4, rfl, _⟩ := ho.rul
    have HR := Lib.hid hR
    have kR := kr.to hb1
    have t0 := kR.cell 0 rfl
    have t1 := kR.cell 1 rfl
    have q0 := kR.frozen 0
    have q1 := kR.frozen 1
    have ke := (kR.set 0 (.int .i64 (ss.length : Int))).set 1 (.slice A4 L.length c4)
    have xF := ((bl_step hx hb1 hx.size).setCell (p := ⟨w.heap.size, 0, none⟩) (Nat.le_refl _) (.int .i64 (ss.length : Int))).setCell (p := ⟨w.heap.size, 1, none⟩) (Nat.le_refl _) (.slice A4 L.length c4)
    have hoF : OwnR ((w1.setCell ⟨w.heap.size, 0, none⟩ (.int .i64 (ss.length : Int))).setCell ⟨w.heap.size, 1, none⟩ (.slice A4 L.length c4)) w.heap.size (.slice A4 L.length c4) L := (ho.keep fun g hg => by
      have := ho.ge hg
      rw [Below.heap_setCell _ _ _ g (by show g ≠ w.heap.size; omega), Below.heap_setCell _ _ _ g (by show g ≠ w.heap.size; omega)]).mono (by omega)
    clear hR kR ho
    go_wp2
    generalize ((w1.setCell ⟨w.heap.size, 0, none⟩ (.int .i64 (ss.length : Int))).setCell ⟨w.heap.size, 1, none⟩ (.slice A4 L.length c4)) = wE at *
    have z0 := ke.cell 0 (v := .int .i64 (ss.length : Int)) (by simp)
    have z1 := ke.cell 1 (v := .slice A4 L.length c4) (by simp)
    refine bodyPost_ret_by (v := .agg #[.int .i64 (ss.length : Int), .slice A4 L.length c4]) ?_ rfl ⟨.inl ⟨L, _, HR.out, rfl, hoF⟩, xF⟩
    simp [results, Try.results75, go_sem, z0, z1]
  · have HR := Lib.hid hR
    clear hR
    go_wp2
    exact ⟨rfl, .inr ⟨HR.out, ⟨_, _, rfl⟩⟩, bl_step hx hb1 hx.size⟩
end Go.Proofs.Ytgpcfkegbcpkpaa
