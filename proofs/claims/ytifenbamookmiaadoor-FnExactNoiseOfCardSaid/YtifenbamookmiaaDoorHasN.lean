/-
  Contract: has a list a number, as the model has it.
-/
import Derived.Test.YtifenbamookmiaaDoorNums
namespace Go.Proofs.YtifenbamookmiaaDoor
set_option linter.unusedSimpArgs false
set_option linter.unusedVariables false
open Go.ChangeShapes Go.WideShapes Go.ChangeAt Go.RowKit

set_option maxHeartbeats 400000 in
theorem l00Has_at (A : Option Addr) (ns : List Int) (c : Nat) (v : Int) (b : Bool) (HI : Hid (ns.contains v = b)) (w : World) (hp : IntsAt w w.heap.size A ns) (hl : ns.length ≤ 1048576) :
    Calls Tryd.prog 62 #[.slice A ns.length c, .int .i64 v] w fun e w' => e = .returned (.bool b) ∧ w' = w := by
  have hl' : (ns.length : Int) ≤ 1048576 := by omega
  go_enter Tryd.func62, Tryd.ntmps62
  go_wp2
  go_loop [5] (fun i => ∃ k : Nat, k ≤ ns.length ∧ i = .int .i64 k ∧ Hid (∀ j, j < k → ns.getD j 0 ≠ v)) (fun i => ns.length - (intOf i).toNat)
  case atStart => exact ⟨0, Nat.zero_le _, rfl, fun j hj => by omega⟩
  case round =>
    obtain ⟨k, hk, rfl, HA⟩ := hrel
    by_cases hlt : k < ns.length
    · obtain ⟨b, off, rfl, hbB, hc⟩ := hp (by omega)
      have d0 := hc k hlt
      have hltI : (k : Int) < (ns.length : Int) := by omega
      by_cases hv : ns.getD k 0 = v
      · have hR : ns.contains v = true := by
          rw [List.contains_iff_mem]
          rw [List.getD_eq_getElem?_getD, List.getElem?_eq_getElem hlt] at hv
          exact hv ▸ List.getElem_mem hlt
        have HR := Lib.hid (HI.out.symm.trans hR)
        rw [hv] at d0
        clear hc hp hv hR
        go_wp2
        go_ret
        exact ⟨retB (by rw [HR.out]), rfl⟩
      · have HN : Hid (∀ j, j < k + 1 → ns.getD j 0 ≠ v) := fun j hj => by
          by_cases e : j = k
          · rw [e]; exact hv
          · exact HA.out j (by omega)
        have hne : (ns.getD k 0 == v) = false := by simpa using hv
        generalize ns.getD k 0 = x at *
        clear hc hp
        go_wp2
        go_round
        case rel => exact ⟨k + 1, by omega, by go_num, HN⟩
        case measure => simp [intOf]; omega
    · have hR : ns.contains v = false := by
        rw [Bool.eq_false_iff, ne_eq, List.contains_iff_mem]
        intro hm
        obtain ⟨j, hj, e⟩ := List.getElem_of_mem hm
        exact HA.out j (by omega) (by rw [List.getD_eq_getElem?_getD, List.getElem?_eq_getElem hj]; exact e)
      have HR := Lib.hid (HI.out.symm.trans hR)
      clear hR
      go_wp2
      go_ret
      exact ⟨retB (by rw [HR.out]), rfl⟩

end Go.Proofs.YtifenbamookmiaaDoor
