/-
  The edges of a whole grid, handed on one after another.
-/
import Derived.Test.YtijnjcamfbnmgaaNumIn
namespace Go.Proofs.Ytijnjcamfbnmgaa
set_option linter.unusedSimpArgs false
set_option linter.unusedVariables false
open Go.ChangeShapes Go.WideShapes Go.ChangeAt Go.RowKit Go.Shelf

theorem roundIn_wide {m k : Nat} {P : Program} {l : Nat} {f : FuncId} {tmps : Array Value} {assign body : Code} {w : World} {R : Ending → World → Prop} (h : RoundIn Fence.wide m P l f tmps assign body w R) : RoundIn Fence.wide k P l f tmps assign body w R :=
  ⟨h.1, fun c cs _ => h.2 c cs (room_wide _)⟩
theorem yieldAt_wide {m k : Nat} {P : Program} {l : Nat} {args : Array Value} {W : World} {R : Ending → World → Prop} (h : YieldAt Fence.wide m P l args W R) : YieldAt Fence.wide k P l args W R := by
  obtain ⟨fn, tmps, assign, body, h1, h2⟩ := h
  exact ⟨fn, tmps, assign, body, h1, roundIn_wide h2⟩
/-- What is handed on k-th. -/
def edgeK (H m mU : Nat) (PA PU : Nat → Option Addr) (k : Nat) : Array Value :=
  if k < H * m then edgeV 114 PA (k / m) (k % m) else edgeV 117 PU ((k - H * m) / mU) ((k - H * m) % mU)
theorem edgeK_size (H m mU : Nat) (PA PU : Nat → Option Addr) (k : Nat) : (edgeK H m mU PA PU k).size = 2 := by unfold edgeK; split <;> rfl
theorem div_in {y x m : Nat} (hx : x < m) : (y * m + x) / m = y := by
  rw [Nat.mul_comm, Nat.mul_add_div (by omega), Nat.div_eq_of_lt hx]; omega
theorem mod_in {y x m : Nat} (hx : x < m) : (y * m + x) % m = x := by
  rw [Nat.mul_comm, Nat.mul_add_mod, Nat.mod_eq_of_lt hx]
theorem mul_in {y x m H : Nat} (hy : y < H) (hx : x < m) : y * m + x < H * m := by
  have h : (y + 1) * m ≤ H * m := Nat.mul_le_mul_right _ hy
  rw [Nat.succ_mul] at h
  omega
theorem edgeK_a {H m mU : Nat} {PA PU : Nat → Option Addr} {y x : Nat} (hy : y < H) (hx : x < m) : edgeK H m mU PA PU (y * m + x) = edgeV 114 PA y x := by
  unfold edgeK; rw [if_pos (mul_in hy hx), div_in hx, mod_in hx]
theorem edgeK_u {H m mU : Nat} {PA PU : Nat → Option Addr} {y x : Nat} (hx : x < mU) : edgeK H m mU PA PU (H * m + y * mU + x) = edgeV 117 PU y x := by
  unfold edgeK
  rw [if_neg (by omega), show H * m + y * mU + x - H * m = y * mU + x by omega, div_in hx, mod_in hx]
attribute [local go_sem] Oper.semAt_some
set_option maxRecDepth 100000 in
set_option maxHeartbeats 1600000 in
theorem numbers_gives (n H m U mU cA cU : Nat) (AA AU : Option Addr) (PA PU : Nat → Option Addr) (cpA cpU : Nat → Nat) (hH : H ≤ 8) (hm : m ≤ 8) (hU : U ≤ 8) (hmU : mU ≤ 8) :
    GivesB n 82 #[.agg #[.slice AA H cA, .slice AU U cU]] #[] (H * m + U * mU) (edgeK H m mU PA PU) (fun W => RowsAt AA H m PA cpA W ∧ RowsAt AU U mU PU cpU W) := fun l B J W hBW hK hB hY h0 => by
  show CallsIn _ _ _ _ #[.agg #[.slice AA H cA, .slice AU U cU], .func (.yield l) #[] #[]] W _
  have hx : Below W.heap.size W (W.alloc (.cells #[.slice AA H cA, .slice AU U cU] 53)) := by (repeat (first | assumption | exact Below.refl _ _ | (refine bl_alloc ?_ _) | (refine Below.drew ?_) | (refine bl_drewN ?_ _) | (refine bl_set ?_ (by first | (simp; done) | omega | (simp; omega)) _) | (refine bl_trans ?_ (by assumption)) | (refine bl_step ?_ (by assumption) (by first | omega | exact Below.size (by assumption) | (simp; omega) | (simp; exact Below.size (by assumption))))))
  have h1 := hB 0 _ _ h0 hx
  have kg := Blk.new W #[.slice AA H cA, .slice AU U cU] 53
  obtain ⟨W1, hE⟩ : ∃ W1, (W.alloc (.cells #[.slice AA H cA, .slice AU U cU] 53)) = W1 := ⟨_, rfl⟩
  rw [hE] at h1 kg hx
  have HJB : Hid (∀ k Wa Wb, (J k Wa ∧ KeepC B W1 Wa) → Below Wa.heap.size Wa Wb → (J k Wb ∧ KeepC B W1 Wb)) := fun k Wa Wb h hb => ⟨hB k Wa Wb h.1 hb, h.2.trans (KeepC.of hb)⟩
  have CA := Lib.hid (fun (W2 : World) (h : J 0 W2 ∧ KeepC B W1 W2) => callsIn_wide.1 (numbersIn_in 0 l 0 H m cA AA PA cpA 114 (fun k Wx => J k Wx ∧ KeepC B W1 Wx) W2 (Or.inl rfl) hH hm (fun k Wx h => (hK k Wx h.1).1) HJB.out (fun y x Wx hy hx hj => by
    rw [Nat.zero_add] at hj ⊢
    have hlt := mul_in hy hx
    have := hY (y * m + x) Wx (by omega) hj.1
    rw [edgeK_a hy hx] at this
    exact yieldAt_wide (this.mono fun e w' h => ⟨h.1, h.2.1, hj.2.trans h.2.2⟩)) h))
  have CU := Lib.hid (fun (W2 : World) (h : J (H * m) W2 ∧ KeepC B W1 W2) => callsIn_wide.1 (numbersIn_in 0 l (H * m) U mU cU AU PU cpU 117 (fun k Wx => J k Wx ∧ KeepC B W1 Wx) W2 (Or.inr rfl) hU hmU (fun k Wx h => (hK k Wx h.1).2) HJB.out (fun y x Wx hy hx hj => by
    have hlt := mul_in hy hx
    have := hY (H * m + y * mU + x) Wx (by omega) hj.1
    rw [edgeK_u hx] at this
    exact yieldAt_wide (this.mono fun e w' h => ⟨h.1, h.2.1, hj.2.trans h.2.2⟩)) h))
  have g0 := kg.cell 0 (v := .slice AA H cA) rfl
  have g1 := kg.cell 1 (v := .slice AU U cU) rfl
  have lg := kg.lt
  have C1 := Lib.hid (CA.out W1 ⟨h1, KeepC.refl _ _⟩)
  have C2 := Lib.hid (fun (W2 : World) (h : J (H * m) W2 ∧ KeepC B W1 W2) => CU.out W2 h)
  have HE := Lib.hid hE
  have HG1 := Lib.hid g1
  clear hK hB hY h0 CA CU kg h1 HJB hE hx
  refine callsIn_of_wp Try.func82 rfl trivial ?_ rfl
  simp only [Try.ntmps82, List.size_toArray, List.length_cons, List.length_nil, Nat.reduceAdd, Nat.reduceSub, Array.replicate_succ, Array.replicate_zero, List.push_toArray, List.append_toArray, List.nil_append, List.cons_append]
  gi_wp2
  rw [HE.out]
  refine ⟨trivial, fun h => (by cases h), (callsIn_wide.2 C1.out).mono ?_⟩
  rintro e W2 ⟨rfl, hj, hkc⟩
  rw [Nat.zero_add] at hj
  have f1 := hkc.cell (p := ⟨W.heap.size, 1, none⟩) hBW HG1.out
  have HJ : Hid (J (H * m) W2 ∧ KeepC B W1 W2) := ⟨hj, hkc⟩
  clear hj hkc g0 g1
  gi_wp2
  refine ⟨trivial, fun h => (by cases h), (callsIn_wide.2 (C2.out W2 HJ.out)).mono ?_⟩
  rintro e W3 ⟨rfl, hj3, _⟩
  have HJ3 := Lib.hid hj3
  clear hj3
  gi_wp2
  go_end0
  exact ⟨⟨_, rfl⟩, HJ3.out⟩
end Go.Proofs.Ytijnjcamfbnmgaa
