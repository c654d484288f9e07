/-
  Contracts: the layers that a group can have.
-/
import Derived.Test.YtdoheipnfdbioaaDoorGrps
import Derived.Lib.SliceRun
namespace Go.Proofs.YtdoheipnfdbioaaDoor
set_option linter.unusedSimpArgs false
set_option linter.unusedVariables false
open Go.ChangeShapes Go.WideShapes Go.ChangeAt Go.RowKit

/-- Is one side of a group, as layer 1, against what is fixed? -/
def delB (n : Nat) (p0 p1 a b c : Nat → Bool) : Bool := !decide (∀ j, j < n → (c j && p0 j) = false) || !decide (∀ j, j < n → (((a j || b j) && !c j) && p1 j) = false)
set_option maxRecDepth 100000 in
set_option maxHeartbeats 1600000 in
theorem del_any (n gX : Nat) (AJ : Option Addr) (j cJ : Nat) (p0 p1 a b c : Nat → Bool) (x3 x2 : Nat) (w : World) (hn : n ≤ 14) (k3 : Blk w x3 #[.int .u64 (maskTo a n : Int), .int .u64 (maskTo b n : Int)] 74) (k2 : Blk w x2 #[.int .i64 (n : Int), .slice (some ⟨gX, 0, none⟩) n n, .slice AJ j cJ, .int .u64 (maskTo p0 n : Int), .int .u64 (maskTo p1 n : Int)] 62) :
    Calls Tryd.prog 94 #[.int .u64 (maskTo c n : Int), .pointer (some ⟨x3, 0, none⟩), .pointer (some ⟨x2, 0, none⟩)] w fun e w' => e = .returned (.bool (delB n p0 p1 a b c)) ∧ Below w.heap.size w w' := by
  have CA := Lib.hid (fun wx => gall_any a b n hn wx)
  have e0 := k3.cell 0 (v := .int .u64 (maskTo a n : Int)) rfl
  have e1 := k3.cell 1 (v := .int .u64 (maskTo b n : Int)) rfl
  have f0 := k2.cell 3 (v := .int .u64 (maskTo p0 n : Int)) rfl
  have f1 := k2.cell 4 (v := .int .u64 (maskTo p1 n : Int)) rfl
  have l2 := k2.lt
  have r1 := mask_and c p0 (k := n) (by omega)
  have r2 := mask_less (fun k => a k || b k) c (k := n) (by omega)
  have r3 := mask_and (fun k => (a k || b k) && !c k) p1 (k := n) (by omega)
  have z1 := mask_zero_eq (p := fun j => c j && p0 j) (k := n)
  have z2 := mask_zero_eq (p := fun j => ((a j || b j) && !c j) && p1 j) (k := n)
  obtain ⟨d1, hd1⟩ : ∃ d, decide (∀ j, j < n → (c j && p0 j) = false) = d := ⟨_, rfl⟩
  obtain ⟨d2, hd2⟩ : ∃ d, decide (∀ j, j < n → (((a j || b j) && !c j) && p1 j) = false) = d := ⟨_, rfl⟩
  have HR : Hid (delB n p0 p1 a b c = (!d1 || !d2)) := by show _ = _; unfold delB; rw [hd1, hd2]
  have hd1' : decide (∀ j, j < n → (fun j => c j && p0 j) j = false) = d1 := hd1
  have hd2' : decide (∀ j, j < n → (fun j => ((a j || b j) && !c j) && p1 j) j = false) = d2 := hd2
  rw [hd1'] at z1
  rw [hd2'] at z2
  clear hd1 hd2 hd1' hd2' k3 k2
  generalize maskTo (fun j => ((a j || b j) && !c j) && p1 j) n = m5 at *
  generalize maskTo (fun j => (a j || b j) && !c j) n = m4 at *
  generalize maskTo (fun j => a j || b j) n = m3 at *
  generalize maskTo (fun j => c j && p0 j) n = m2 at *
  generalize maskTo a n = ma at *
  generalize maskTo b n = mb at *
  generalize maskTo c n = mc at *
  generalize maskTo p0 n = q0 at *
  generalize maskTo p1 n = q1 at *
  cases d1
  · have y1 : ((m2 : Int) != 0) = true := by rw [bne, z1]; rfl
    have y2 : ¬ (m2 : Int) = 0 := by simpa using z1
    clear z1
    go_enter Tryd.func94, Tryd.ntmps94
    go_wp2_with fail
    refine (CA.out _).mono ?_
    rintro e w1 ⟨rfl, hb1⟩
    have g0 := (hb1.cell (p := ⟨x2, 3, none⟩) l2).trans f0
    clear e0 e1 f0 f1
    go_wp2
    go_ret
    exact ⟨retB (by rw [HR.out]; rfl), hb1⟩
  · have y1 : ((m2 : Int) != 0) = false := by rw [bne, z1]; rfl
    have y2 : m2 = 0 := by simpa using z1
    subst y2
    clear z1 y1
    cases d2
    · have y1 : ((m5 : Int) != 0) = true := by rw [bne, z2]; rfl
      have y2 : ¬ m5 = 0 := by simpa using z2
      clear z2
      go_enter Tryd.func94, Tryd.ntmps94
      go_wp2_with fail
      refine (CA.out _).mono ?_
      rintro e w1 ⟨rfl, hb1⟩
      have g0 := (hb1.cell (p := ⟨x2, 3, none⟩) l2).trans f0
      have g1 := (hb1.cell (p := ⟨x2, 4, none⟩) l2).trans f1
      clear e0 e1 f0 f1
      go_wp2
      go_ret
      exact ⟨retB (by rw [HR.out]; simp [y2]), hb1⟩
    · have y2 : m5 = 0 := by simpa using z2
      subst y2
      clear z2
      go_enter Tryd.func94, Tryd.ntmps94
      go_wp2_with fail
      refine (CA.out _).mono ?_
      rintro e w1 ⟨rfl, hb1⟩
      have g0 := (hb1.cell (p := ⟨x2, 3, none⟩) l2).trans f0
      have g1 := (hb1.cell (p := ⟨x2, 4, none⟩) l2).trans f1
      clear e0 e1 f0 f1
      go_wp2
      go_ret
      exact ⟨retB (by rw [HR.out]; simp), hb1⟩

/-- The first of two that is to go. -/
def fstDel (d0 d1 : Bool) : Int := if d0 then 0 else if d1 then 1 else -1
abbrev clo2 (x3 x2 : Nat) : Value := .func (.func 94) #[] #[.pointer (some ⟨x3, 0, none⟩), .pointer (some ⟨x2, 0, none⟩)]
set_option maxRecDepth 100000 in
set_option maxHeartbeats 1600000 in
theorem indexDel_any (g x3 x2 v0 v1 : Nat) (d0 d1 : Bool) (w : World) (kg : Blk w g #[.int .u64 (v0 : Int), .int .u64 (v1 : Int)] 54)
    (C0 : ∀ wx, Below w.heap.size w wx → Calls Tryd.prog 94 #[.int .u64 (v0 : Int), .pointer (some ⟨x3, 0, none⟩), .pointer (some ⟨x2, 0, none⟩)] wx fun e w' => e = .returned (.bool d0) ∧ Below wx.heap.size wx w')
    (C1 : ∀ wx, Below w.heap.size w wx → Calls Tryd.prog 94 #[.int .u64 (v1 : Int), .pointer (some ⟨x3, 0, none⟩), .pointer (some ⟨x2, 0, none⟩)] wx fun e w' => e = .returned (.bool d1) ∧ Below wx.heap.size wx w') :
    Calls Tryd.prog 104 #[.slice (some ⟨g, 0, none⟩) 2 2, .func (.func 94) #[] #[.pointer (some ⟨x3, 0, none⟩), .pointer (some ⟨x2, 0, none⟩)]] w fun e w' => e = .returned (.int .i64 (fstDel d0 d1)) ∧ Below w.heap.size w w' := by
  have CC0 := Lib.hid C0
  have CC1 := Lib.hid C1
  clear C0 C1
  go_enter Tryd.func104, Tryd.ntmps104
  go_wp2
  go_loopw [5, 8] (fun _ i wr => ∃ k : Nat, i = .int .i64 k ∧ Hid (k ≤ 2 ∧ (1 ≤ k → d0 = false) ∧ (2 ≤ k → d1 = false)) ∧ Below w.heap.size w wr) (fun _ i _ => 2 - (intOf i).toNat)
  case atStart => exact ⟨0, rfl, ⟨by omega, fun h => by omega, fun h => by omega⟩, Below.refl _ _⟩
  case round =>
    obtain ⟨k, rfl, HX, hb⟩ := hrel
    have kg' := kg.keep (hb.block g kg.lt)
    have e0 := kg'.cell 0 (v := .int .u64 (v0 : Int)) rfl
    have e1 := kg'.cell 1 (v := .int .u64 (v1 : Int)) rfl
    have h3 : k = 0 ∨ k = 1 ∨ k = 2 := by have := HX.out.1; omega
    clear kg'
    rcases h3 with rfl | rfl | rfl
    · cases d0
      · go_wp2_with (go_at_call 94; refine (CC0.out _ hb).mono ?_; rintro e w' ⟨rfl, hb'⟩)
        go_roundw
        case rel => exact ⟨1, by go_num, ⟨by omega, fun _ => (by first | rfl | trivial), fun h => by omega⟩, hb.trans (hb'.mono hb.size)⟩
        case measure => simp [intOf]
      · go_wp2_with (go_at_call 94; refine (CC0.out _ hb).mono ?_; rintro e w' ⟨rfl, hb'⟩)
        go_ret
        exact ⟨rfl, hb.trans (hb'.mono hb.size)⟩
    · obtain rfl : d0 = false := HX.out.2.1 (by omega)
      cases d1
      · go_wp2_with (go_at_call 94; refine (CC1.out _ hb).mono ?_; rintro e w' ⟨rfl, hb'⟩)
        go_roundw
        case rel => exact ⟨2, by go_num, ⟨by omega, fun _ => (by first | rfl | trivial), fun h => (by first | rfl | trivial)⟩, hb.trans (hb'.mono hb.size)⟩
        case measure => simp [intOf]
      · go_wp2_with (go_at_call 94; refine (CC1.out _ hb).mono ?_; rintro e w' ⟨rfl, hb'⟩)
        go_ret
        exact ⟨rfl, hb.trans (hb'.mono hb.size)⟩
    · obtain rfl : d0 = false := HX.out.2.1 (by omega)
      obtain rfl : d1 = false := HX.out.2.2 (by omega)
      go_wp2
      go_ret
      exact ⟨rfl, hb⟩
end Go.Proofs.YtdoheipnfdbioaaDoor
