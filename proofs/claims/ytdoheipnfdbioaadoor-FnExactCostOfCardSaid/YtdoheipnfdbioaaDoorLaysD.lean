/-
  Contract: the layers that a group can have: what is deleted, and the whole.
-/
import Derived.Test.YtdoheipnfdbioaaDoorLays
namespace Go.Proofs.YtdoheipnfdbioaaDoor
set_option linter.unusedSimpArgs false
set_option linter.unusedVariables false
open Go.ChangeShapes Go.WideShapes Go.ChangeAt Go.RowKit

/-- What stays of two. -/
def kept2 (v0 v1 : Nat) (d0 d1 : Bool) : List Int := (if d0 then [] else [(v0 : Int)]) ++ (if d1 then [] else [(v1 : Int)])
def DelRes (g : Nat) (L : List Int) (w : World) (e : Ending) (w' : World) : Prop := e = .returned (.slice (some ⟨g, 0, none⟩) L.length 2) ∧ NumsAt .u64 w' w'.heap.size (some ⟨g, 0, none⟩) L ∧ Below g w w'
theorem blk_nums {w : World} {g : Nat} {a b : Nat} (h : Blk w g #[.int .u64 (a : Int), .int .u64 (b : Int)] 54) : NumsAt .u64 w w.heap.size (some ⟨g, 0, none⟩) [(a : Int), (b : Int)] := fun _ => by
  refine ⟨g, 0, rfl, h.lt, fun i hi => ?_⟩
  have h2 : i = 0 ∨ i = 1 := by simp at hi; omega
  rcases h2 with rfl | rfl
  · exact h.cell 0 rfl
  · exact h.cell 1 rfl
theorem blk_num1 {w : World} {g : Nat} {a : Nat} {v : Value} (h : Blk w g #[.int .u64 (a : Int), v] 54) : NumsAt .u64 w w.heap.size (some ⟨g, 0, none⟩) [(a : Int)] := fun _ => by
  refine ⟨g, 0, rfl, h.lt, fun i hi => ?_⟩
  have h2 : i = 0 := by simp at hi; omega
  subst h2
  exact h.cell 0 rfl
theorem nums_nil {w : World} {A : Option Addr} : NumsAt .u64 w w.heap.size A [] := fun h => by simp at h
theorem clear_bits (w : World) (g o n c : Nat) (hn : 0 < n) (hc : ∀ j, j < n → ∃ v, w.cell? ⟨g, o + j, none⟩ = some v) (hf : ∀ j, j < n → w.frozen? ⟨g, o + j, none⟩ = false) (ty : TypeId) :
    (Builtin.clear_ #[57] ty #[.slice (some ⟨g, o, none⟩) n c]).run Tryd.prog w = .ok (.tuple #[]) (w.setCells g o (List.replicate n (.int .u64 0))) :=
  Lib.run_clear_slice w _ _ ty _ Tryd.underlying57 Tryd.zeroValue54 rfl rfl g o n c hn (fun j hj => by obtain ⟨v, hv⟩ := hc j hj; rw [hv]; rfl) hf
set_option maxRecDepth 100000 in
set_option maxHeartbeats 3200000 in
theorem deleteDel_any (g x3 x2 v0 v1 : Nat) (d0 d1 : Bool) (w : World) (kg : Blk w g #[.int .u64 (v0 : Int), .int .u64 (v1 : Int)] 54)
    (C0 : ∀ wx, Below w.heap.size w wx → Calls Tryd.prog 94 #[.int .u64 (v0 : Int), .pointer (some ⟨x3, 0, none⟩), .pointer (some ⟨x2, 0, none⟩)] wx fun e w' => e = .returned (.bool d0) ∧ Below wx.heap.size wx w')
    (C1 : ∀ wx, Below w.heap.size w wx → Calls Tryd.prog 94 #[.int .u64 (v1 : Int), .pointer (some ⟨x3, 0, none⟩), .pointer (some ⟨x2, 0, none⟩)] wx fun e w' => e = .returned (.bool d1) ∧ Below wx.heap.size wx w') :
    Calls Tryd.prog 93 #[.slice (some ⟨g, 0, none⟩) 2 2, .func (.func 94) #[] #[.pointer (some ⟨x3, 0, none⟩), .pointer (some ⟨x2, 0, none⟩)]] w (DelRes g (kept2 v0 v1 d0 d1) w) := by
  have ci := indexDel_any g x3 x2 v0 v1 d0 d1 w kg C0 C1
  have CC1 := Lib.hid C1
  have hgl := kg.lt
  clear C0 C1
  cases d0
  · cases d1
    · have ci' : Calls Tryd.prog 104 #[.slice (some ⟨g, 0, none⟩) 2 2, .func (.func 94) #[] #[.pointer (some ⟨x3, 0, none⟩), .pointer (some ⟨x2, 0, none⟩)]] w fun e w' => e = .returned (.int .i64 (-1)) ∧ Below w.heap.size w w' := ci
      go_enter Tryd.func93, Tryd.ntmps93
      go_wp2_with fail
      refine ci'.mono ?_
      rintro e w1 ⟨rfl, hb1⟩
      have k1 := kg.to hb1
      go_wp2
      go_ret
      exact ⟨rfl, blk_nums k1, hb1.mono (by omega)⟩
    · have ci' : Calls Tryd.prog 104 #[.slice (some ⟨g, 0, none⟩) 2 2, .func (.func 94) #[] #[.pointer (some ⟨x3, 0, none⟩), .pointer (some ⟨x2, 0, none⟩)]] w fun e w' => e = .returned (.int .i64 1) ∧ Below w.heap.size w w' := ci
      go_enter Tryd.func93, Tryd.ntmps93
      go_wp2_with fail
      refine ci'.mono ?_
      rintro e w1 ⟨rfl, hb1⟩
      have k1 := kg.to hb1
      have z0 := k1.cell 0 (v := .int .u64 (v0 : Int)) rfl
      have z1 := k1.cell 1 (v := .int .u64 (v1 : Int)) rfl
      have zf := k1.frozen 1
      have hcl := clear_bits w1 g 1 1 1 (by omega) (fun j hj => ⟨_, by rw [show 1 + j = 1 by omega]; exact z1⟩) (fun j hj => by rw [show 1 + j = 1 by omega]; exact zf)
      go_wp2
      go_loopw [5, 6, 7] (fun i j _ wr => i = .int .i64 1 ∧ j = .int .i64 2 ∧ wr = w1) (fun _ _ _ _ => 0)
      case atStart => exact ⟨rfl, rfl, rfl⟩
      case round =>
        obtain ⟨rfl, rfl, rfl⟩ := hrel
        go_wp2
        have ke := k1.set 1 (.int .u64 0)
        go_ret
        exact ⟨rfl, blk_num1 ke, (hb1.mono (show g ≤ w.heap.size by omega)).setCell (p := ⟨g, 1, none⟩) (Nat.le_refl _) _⟩
  · have ci' : Calls Tryd.prog 104 #[.slice (some ⟨g, 0, none⟩) 2 2, .func (.func 94) #[] #[.pointer (some ⟨x3, 0, none⟩), .pointer (some ⟨x2, 0, none⟩)]] w fun e w' => e = .returned (.int .i64 0) ∧ Below w.heap.size w w' := ci
    clear ci
    go_enter Tryd.func93, Tryd.ntmps93
    go_wp2_with fail
    refine ci'.mono ?_
    rintro e w1 ⟨rfl, hb1⟩
    have k1 := kg.to hb1
    go_wp2
    go_loopw [5, 6, 7] (fun i j _ wr => ((i = .int .i64 0 ∧ j = .int .i64 1 ∧ wr = w1) ∨ (d1 = true ∧ i = .int .i64 0 ∧ j = .int .i64 2 ∧ Blk wr g #[.int .u64 (v0 : Int), .int .u64 (v1 : Int)] 54 ∧ Below g w wr) ∨ (d1 = false ∧ i = .int .i64 1 ∧ j = .int .i64 2 ∧ Blk wr g #[.int .u64 (v1 : Int), .int .u64 (v1 : Int)] 54 ∧ Below g w wr))) (fun _ j _ _ => 2 - (intOf j).toNat)
    case atStart => exact .inl ⟨rfl, rfl, rfl⟩
    case round =>
      rcases hrel with ⟨rfl, rfl, rfl⟩ | ⟨rfl, rfl, rfl, kb, hbw⟩ | ⟨rfl, rfl, rfl, kb, hbw⟩
      · have z1 := k1.cell 1 (v := .int .u64 (v1 : Int)) rfl
        cases d1
        · go_wp2_with fail
          refine (CC1.out _ hb1).mono ?_
          rintro e w2 ⟨rfl, hb2⟩
          have k2 := k1.to hb2
          have y0 := k2.cell 0 (v := .int .u64 (v0 : Int)) rfl
          have y1 := k2.cell 1 (v := .int .u64 (v1 : Int)) rfl
          have yf := k2.frozen
          have k3 := k2.set 0 (.int .u64 (v1 : Int))
          have b3 := ((bl_trans hb1 hb2).mono (show g ≤ w.heap.size by omega)).setCell (p := ⟨g, 0, none⟩) (Nat.le_refl _) (.int .u64 (v1 : Int))
          go_wp2
          go_roundw
          case rel => exact .inr (.inr ⟨(by first | rfl | trivial), rfl, rfl, k3, b3⟩)
          case measure => simp [intOf]
        · go_wp2_with fail
          refine (CC1.out _ hb1).mono ?_
          rintro e w2 ⟨rfl, hb2⟩
          have k2 := k1.to hb2
          go_wp2
          go_roundw
          case rel => exact .inr (.inl ⟨(by first | rfl | trivial), rfl, rfl, k2, (bl_trans hb1 hb2).mono (by omega)⟩)
          case measure => simp [intOf]
      · have z0 := kb.cell 0 (v := .int .u64 (v0 : Int)) rfl
        have z1 := kb.cell 1 (v := .int .u64 (v1 : Int)) rfl
        have zf := kb.frozen
        have hcl := clear_bits wr g 0 2 2 (by omega) (fun j hj => by
          have h2 : j = 0 ∨ j = 1 := by omega
          rcases h2 with rfl | rfl
          · exact ⟨_, z0⟩
          · exact ⟨_, z1⟩) (fun j _ => zf _)
        go_wp2
        go_ret
        exact ⟨rfl, nums_nil, (hbw.setCell (p := ⟨g, 0, none⟩) (Nat.le_refl _) (.int .u64 0)).setCell (p := ⟨g, 1, none⟩) (Nat.le_refl _) (.int .u64 0)⟩
      · have z1 := kb.cell 1 (v := .int .u64 (v1 : Int)) rfl
        have zf := kb.frozen
        have hcl := clear_bits wr g 1 1 1 (by omega) (fun j hj => ⟨_, by rw [show 1 + j = 1 by omega]; exact z1⟩) (fun j hj => zf _)
        have ke := kb.set 1 (.int .u64 0)
        go_wp2
        go_ret
        exact ⟨rfl, blk_num1 ke, hbw.setCell (p := ⟨g, 1, none⟩) (Nat.le_refl _) _⟩
end Go.Proofs.YtdoheipnfdbioaaDoor
