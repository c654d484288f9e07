/-
  Contracts: the source from which a law draws its inputs.
-/
import Derived.Test.YtdpamieheefhdaaMark
import Derived.Test.YtdpamieheefhdaaNums
import Derived.Laws.Bits64
import Derived.Laws.Bits64b
namespace Go.Proofs.Ytdpamieheefhdaa
set_option linter.unusedSimpArgs false
set_option linter.unusedVariables false
open Go.ChangeShapes Go.WideShapes Go.ChangeAt Go.RowKit

variable {H : Type} {enc : TypeId × Value → H}
set_option maxRecDepth 100000 in
theorem open_octets {w : World} {v : Value} {d : DataW H} {p : List MemPlace} {r : Reach} {b0 : Nat} (hv : Value.okWide Try.prog w r b0 22 v) (h : DataW.Trod enc Try.prog w 0 (fun _ => true) true 22 v d p) :
    ∃ (A : Option Addr) (ns : List Int) (c : Nat), v = .slice A ns.length c ∧ NumsAt .u8 w w.heap.size A ns ∧ (∀ n ∈ ns, (Lit.int .u8 n).wf = true) ∧ ns.length ≤ c ∧ c ≤ maxLen :=
  open_nums_any .u8 Try.underlying22 Try.underlying5 (by kernel_rfl) hv h

/-- Block g is a source over the bytes cs, of which k have been asked for. -/
def Src (w : World) (g : Nat) (A : Option Addr) (cs : List Int) (c k : Nat) : Prop :=
  ∃ sd : Int, w.heap[g]? = some (.cells #[.slice A cs.length c, .int .i64 (k : Int), .int .u64 sd] 95 (0, 0)) ∧ Hid (0 ≤ sd ∧ sd < 18446744073709551616)
theorem Src.lt {w : World} {g c k : Nat} {A : Option Addr} {cs : List Int} (h : Src w g A cs c k) : g < w.heap.size := by
  obtain ⟨sd, h, _⟩ := h
  rcases Nat.lt_or_ge g w.heap.size with hlt | hge
  · exact hlt
  · rw [Array.getElem?_eq_none hge] at h; cases h
theorem Src.to {w w1 : World} {g c k : Nat} {A : Option Addr} {cs : List Int} (h : Src w g A cs c k) (hb : Below w.heap.size w w1) : Src w1 g A cs c k := by
  have hl := h.lt
  obtain ⟨sd, h, hs⟩ := h
  exact ⟨sd, (hb.block g hl).trans h, hs⟩

theorem from_any (A : Option Addr) (cs : List Int) (c : Nat) (w : World) :
    Calls Try.prog 34 #[.slice A cs.length c] w fun e w' => e = .returned (.pointer (some ⟨w.heap.size, 0, none⟩)) ∧ Src w' w.heap.size A cs c 0 ∧ Below w.heap.size w w' ∧ w'.heap.size = w.heap.size + 1 := by
  go_enter Try.func34, Try.ntmps34
  go_wp2
  go_ret
  refine ⟨rfl, ⟨0, ?_, ⟨by omega, by omega⟩⟩, by (repeat (first | assumption | exact Below.refl _ _ | (refine bl_alloc ?_ _) | (refine Below.drew ?_) | (refine bl_drewN ?_ _) | (refine bl_set ?_ (by first | (simp; done) | omega | (simp; omega)) _) | (refine bl_trans ?_ (by assumption)) | (refine bl_step ?_ (by assumption) (by first | omega | exact Below.size (by assumption) | (simp; omega) | (simp; exact Below.size (by assumption)))))), by simp⟩
  exact heap_alloc_new w _

def NextPost (g : Nat) (A : Option Addr) (cs : List Int) (c k : Nat) (w : World) (e : Ending) (w' : World) : Prop :=
  ∃ x : Int, (0 ≤ x ∧ x ≤ 255) ∧ e = .returned (.int .i64 x) ∧ Src w' g A cs c (k + 1) ∧ Only g w w'

theorem Only.drew {g : Nat} {w w' : World} (h : Only g w w') (n : Nat) : Only g w (w'.drewN n) := h
theorem Src.step {w : World} {g c k : Nat} {A : Option Addr} {cs : List Int} {sd sd' : Int} (hh : w.heap[g]? = some (.cells #[.slice A cs.length c, .int .i64 (k : Int), .int .u64 sd] 95 (0, 0)))
    (hs : 0 ≤ sd' ∧ sd' < 18446744073709551616) (n m : Nat) :
    Src (((((w.drewN n).setCell ⟨g, 1, none⟩ (.int .i64 ((k : Int) + 1))).setCell ⟨g, 2, none⟩ (.int .u64 sd'))).drewN m) g A cs c (k + 1) := by
  refine ⟨sd', ?_, hs⟩
  have h0 : (w.drewN n).heap[g]? = some (.cells #[.slice A cs.length c, .int .i64 (k : Int), .int .u64 sd] 95 (0, 0)) := hh
  show ((((w.drewN n).setCell ⟨g, 1, none⟩ (.int .i64 ((k : Int) + 1))).setCell ⟨g, 2, none⟩ (.int .u64 sd'))).heap[g]? = _
  simp [World.setCell, Array.getElem?_modify, hh]
theorem wrapU_in (n : Int) : 0 ≤ IntKind.u64.wrap n ∧ IntKind.u64.wrap n < 18446744073709551616 := by rw [IntKind.wrap_u64]; omega
theorem low8 (n : Int) : 0 ≤ wrap64 (bits .and .u64 (IntKind.u64.wrap n / 1099511627776) 255) ∧ wrap64 (bits .and .u64 (IntKind.u64.wrap n / 1099511627776) 255) ≤ 255 := by
  obtain ⟨h0, h1⟩ := wrapU_in n
  generalize IntKind.u64.wrap n = y at *
  have e : y / 1099511627776 = (((y / 1099511627776).toNat : Nat) : Int) := by omega
  rw [e, show (255 : Int) = ((255 : Nat) : Int) from rfl, bits_and_u64_nat _ _ (by omega) (by omega)]
  have h2 : (y / 1099511627776).toNat &&& 255 ≤ 255 := Nat.and_le_right
  generalize (y / 1099511627776).toNat &&& 255 = z at *
  unfold wrap64
  omega

set_option maxRecDepth 100000 in
set_option maxHeartbeats 1600000 in
theorem next_any (g c k B : Nat) (A : Option Addr) (cs : List Int) (w : World) (hS : Src w g A cs c k) (hp : NumsAt .u8 w B A cs) (hB : B ≤ g) (hw : ∀ n ∈ cs, (Lit.int .u8 n).wf = true) (hl : cs.length ≤ 1048576) (hk : k ≤ 1048576) :
    Calls Try.prog 65 #[.pointer (some ⟨g, 0, none⟩)] w (NextPost g A cs c k w) := by
  obtain ⟨sd, hh, hs⟩ := hS
  have q0 : w.cell? ⟨g, 0, none⟩ = some (.slice A cs.length c) := by rw [cell_of_row w g _ _ _ _ hh]; rfl
  have q1 : w.cell? ⟨g, 0 + 1, none⟩ = some (.int .i64 (k : Int)) := by rw [cell_of_row w g _ _ _ _ hh]; rfl
  have q2 : w.cell? ⟨g, 0 + 2, none⟩ = some (.int .u64 sd) := by rw [cell_of_row w g _ _ _ _ hh]; rfl
  have f1 : w.frozen? ⟨g, 1, none⟩ = false := by simp [World.frozen?, hh]
  have f2 : w.frozen? ⟨g, 2, none⟩ = false := by simp [World.frozen?, hh]
  have hkI : (k : Int) ≤ 1048576 := by omega
  have hk0 : 0 ≤ (k : Int) := by omega
  have hlI : (cs.length : Int) ≤ 1048576 := by omega
  by_cases hlt : k < cs.length
  · obtain ⟨b, off, rfl, hbB, hc⟩ := hp (by omega)
    have d0 := hc k hlt
    have hwf : (Lit.int .u8 (cs.getD k 0)).wf = true := hw _ (by simp [List.getD_eq_getElem?_getD, hlt])
    have hx : 0 ≤ cs.getD k 0 ∧ cs.getD k 0 ≤ 255 := by
      simp [Lit.wf, IntKind.min, IntKind.max, IntKind.signed, IntKind.bits] at hwf
      simp [List.getD_eq_getElem?_getD]
      omega
    obtain ⟨x0, x1⟩ := hx
    have hbg : b ≠ g := by omega
    have hltI : (k : Int) < (cs.length : Int) := by omega
    have hd : decide (k < cs.length) = true := decide_eq_true hlt
    have hltJ : (k : Int) + 1 ≤ (cs.length : Int) := by omega
    generalize cs.getD k 0 = x at *
    clear hc hp hwf hw hbB
    go_enter Try.func65, Try.ntmps65
    go_wp2
    go_quiet (fail)
    go_wp2
    go_quiet (fail)
    go_wp2
    go_quiet (fail)
    go_wp2
    go_ret
    exact ⟨x, ⟨x0, x1⟩, rfl, Src.step hh (wrapU_in _) _ _, (((Only.refl _ _).drew _).set_ _ _).set_ _ _⟩
  · have hltI : ¬ (k : Int) < (cs.length : Int) := by omega
    have hd : decide (k < cs.length) = false := decide_eq_false hlt
    have hltJ : ¬ (k : Int) + 1 ≤ (cs.length : Int) := by omega
    go_enter Try.func65, Try.ntmps65
    go_wp2
    go_quiet (fail)
    go_wp2
    go_quiet (fail)
    go_wp2
    go_ret
    exact ⟨_, low8 _, rfl, Src.step hh (wrapU_in _) _ _, (((Only.refl _ _).drew _).set_ _ _).set_ _ _⟩

def PickPost (g : Nat) (A : Option Addr) (cs : List Int) (c k : Nat) (m : Int) (w : World) (e : Ending) (w' : World) : Prop :=
  ∃ x : Int, (0 ≤ x ∧ x < m) ∧ e = .returned (.int .i64 x) ∧ Src w' g A cs c (k + 1) ∧ Only g w w'
theorem pick_any (g c k B : Nat) (A : Option Addr) (cs : List Int) (m : Int) (w : World) (hS : Src w g A cs c k) (hp : NumsAt .u8 w B A cs) (hB : B ≤ g) (hw : ∀ n ∈ cs, (Lit.int .u8 n).wf = true) (hl : cs.length ≤ 1048576) (hk : k ≤ 1048576) (hm : 1 < m) (hm2 : m ≤ 200) :
    Calls Try.prog 35 #[.pointer (some ⟨g, 0, none⟩), .int .i64 m] w (PickPost g A cs c k m w) := by
  have h1 : ¬ m ≤ 1 := by omega
  have h2 : ¬ 200 < m := by omega
  have h3 : m ≠ 0 := by omega
  go_enter Try.func35, Try.ntmps35
  go_wp2_with fail
  refine (next_any _ _ _ _ _ _ _ hS hp hB hw hl hk).mono ?_
  rintro e w1 ⟨x, ⟨x0, x1⟩, rfl, hS1, hO⟩
  go_wp2
  go_ret
  have e : x.tmod m = x % m := Int.tmod_eq_emod_of_nonneg x0
  have r0 : 0 ≤ x % m := Int.emod_nonneg _ h3
  have r1 : x % m < m := Int.emod_lt_of_pos _ (by omega)
  refine ⟨x % m, ⟨r0, r1⟩, ?_, hS1, hO⟩
  try rw [← e]
  try rfl
end Go.Proofs.Ytdpamieheefhdaa
