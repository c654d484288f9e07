/-
  Contracts: spec's MustBeAbove at every channel and two numbers.
-/
import Derived.Test.YtefcfpagbjflbaaDoorStackA
import Derived.Test.YtefcfpagbjflbaaDoorChanE
namespace Go.Proofs.YtefcfpagbjflbaaDoor
set_option linter.unusedSimpArgs false
set_option linter.unusedVariables false
open Go.ChangeShapes Go.WideShapes Go.ChangeAt Go.RowKit

set_option maxHeartbeats 400000 in
theorem l00Has_at (A : Option Addr) (ns : List Int) (c : Nat) (v : Int) (b : Bool) (HI : Hid (ns.contains v = b)) (w : World) (hp : IntsAt w w.heap.size A ns) (hl : ns.length ≤ 1048576) :
    Calls Tryd.prog 99 #[.slice A ns.length c, .int .i64 v] w fun e w' => e = .returned (.bool b) ∧ w' = w := by
  have hl' : (ns.length : Int) ≤ 1048576 := by omega
  go_enter Tryd.func99, Tryd.ntmps99
  go_wp2
  go_loop [5] (fun i => ∃ k : Nat, k ≤ ns.length ∧ i = .int .i64 k ∧ Hid (∀ j, j < k → ns.getD j 0 ≠ v)) (fun i => ns.length - (intOf i).toNat)
  case atStart => exact ⟨0, Nat.zero_le _, rfl, fun j hj => by omega⟩
  case round =>
    obtain ⟨k, hk, rfl, HA⟩ := hrel
    by_cases hlt : k < ns.length
    · obtain ⟨b, off, rfl, hbB, hc⟩ := hp (by omega)
      have d0 := hc k hlt
      have hltI : (k : Int) < (ns.length : Int) := by omega
      by_cases hv : ns.getD k 0 = v
      · have hR : ns.contains v = true := by
          rw [List.contains_iff_mem]
          rw [List.getD_eq_getElem?_getD, List.getElem?_eq_getElem hlt] at hv
          exact hv ▸ List.getElem_mem hlt
        have HR := Lib.hid (HI.out.symm.trans hR)
        rw [hv] at d0
        clear hc hp hv hR
        go_wp2
        go_ret
        exact ⟨retB (by rw [HR.out]), rfl⟩
      · have HN : Hid (∀ j, j < k + 1 → ns.getD j 0 ≠ v) := fun j hj => by
          by_cases e : j = k
          · rw [e]; exact hv
          · exact HA.out j (by omega)
        have hne : (ns.getD k 0 == v) = false := by simpa using hv
        generalize ns.getD k 0 = x at *
        clear hc hp
        go_wp2
        go_round
        case rel => exact ⟨k + 1, by omega, by go_num, HN⟩
        case measure => simp [intOf]; omega
    · have hR : ns.contains v = false := by
        rw [Bool.eq_false_iff, ne_eq, List.contains_iff_mem]
        intro hm
        obtain ⟨j, hj, e⟩ := List.getElem_of_mem hm
        exact HA.out j (by omega) (by rw [List.getD_eq_getElem?_getD, List.getElem?_eq_getElem hj]; exact e)
      have HR := Lib.hid (HI.out.symm.trans hR)
      clear hR
      go_wp2
      go_ret
      exact ⟨retB (by rw [HR.out]), rfl⟩

/-- Is the number one of a net? -/
def isNetI (T B : List Int) (n : Nat) (x : Int) : Bool := (natI (netsL T B n)).contains x
/-- Must the first net be above the second one? -/
def aboveV (T B : List Int) (n : Nat) (x y : Int) : Bool := decide (x ≠ y) && (isNetI T B n x && (isNetI T B n y && colIn T B x y 0 n))
theorem isNetI_nat {T B : List Int} {n : Nat} {x : Int} (h : isNetI T B n x = true) : ∃ k : Nat, x = k ∧ k ∈ netsL T B n ∧ 1 ≤ k ∧ k < 13 := by
  unfold isNetI natI at h
  rw [List.contains_iff_mem, List.mem_map] at h
  obtain ⟨k, hk, rfl⟩ := h
  obtain ⟨a, b⟩ := memL_lt hk
  refine ⟨k, rfl, hk, ?_, a⟩
  rcases Nat.eq_zero_or_pos k with e | e
  · subst e; rw [isNetB_zero] at b; cases b
  · exact e
theorem isNetI_of {T B : List Int} {n k : Nat} (h : k ∈ netsL T B n) : isNetI T B n (k : Int) = true := by
  unfold isNetI natI
  rw [List.contains_iff_mem]
  exact List.mem_map_of_mem h
theorem isNetI_zero (T B : List Int) (n : Nat) : isNetI T B n 0 = false := by
  cases h : isNetI T B n 0
  · rfl
  · obtain ⟨k, e, _, h1, _⟩ := isNetI_nat h
    omega
theorem above_eq (T B : List Int) (n : Nat) (x : Int) : aboveV T B n x x = false := by unfold aboveV; simp
theorem above_fx {T B : List Int} {n : Nat} {x y : Int} (h : isNetI T B n x = false) : aboveV T B n x y = false := by unfold aboveV; rw [h]; simp
theorem above_fy {T B : List Int} {n : Nat} {x y : Int} (h : isNetI T B n y = false) : aboveV T B n x y = false := by unfold aboveV; rw [h]; simp
theorem above_is {T B : List Int} {n : Nat} {x y : Int} (h : x ≠ y) (hx : isNetI T B n x = true) (hy : isNetI T B n y = true) : aboveV T B n x y = colIn T B x y 0 n := by
  unfold aboveV; rw [hx, hy, decide_eq_true h]; simp

set_option maxRecDepth 100000 in
set_option maxHeartbeats 1600000 in
theorem l03Above_nets (b : Nat) (A A' : Option Addr) (T B : List Int) (n n' c c' : Nat) (x y : Int) (w : World) (hb : ChAt w b A A' n n' c c') (hp : IntsAt w w.heap.size A T) (hq : IntsAt w w.heap.size A' B) (HT : Hid (T.length = n)) (HB : Hid (B.length = n')) (hn : n ≤ 24) (HN : Hid (n' = n))
    (e1 : ¬ x = y) (n1 : (x == y) = false) (n2 : (x == 0) = false) (n3 : (y == 0) = false) (hx : isNetI T B n x = true) (hy : isNetI T B n y = true) :
    Calls Tryd.prog 65 #[.pointer (some ⟨b, 0, none⟩), .int .i64 x, .int .i64 y] w fun e w' => e = .returned (.bool (aboveV T B n x y)) ∧ Below w.heap.size w w' := by
  have hcn := l03Nets_any b A A' T B n n' c c' w hb hp hq HT HB hn HN
  have h13 := memL_len (isNetB T B n) 0 13
  have hlen := natI_len (netsL T B n)
  have hL13 : (natI (netsL T B n)).length ≤ 13 := by rw [hlen]; exact h13
  have HE := Lib.hid e1
  clear h13 hlen
  have R := Lib.hid (above_is e1 hx hy)
  have HX := Lib.hid hx
  have HY := Lib.hid hy
  clear hx hy
  go_enter Tryd.func65, Tryd.ntmps65
  go_wp2_with fail
  refine hcn.mono ?_
  rintro e w1 ⟨⟨v, rfl, hown⟩, hb1⟩
  obtain ⟨A1, c1, rfl, h4⟩ := own4_of hown
  have hin := h4.ints
  have hax := l00Has_at A1 (natI (netsL T B n)) c1 x true HX w1 hin (by omega)
  have hay := l00Has_at A1 (natI (netsL T B n)) c1 y true HY w1 hin (by omega)
  have hb' := hb.to hb1
  have hp' := hp.to hb1
  have hq' := hq.to hb1
  clear hown h4 hin HX HY hcn hb hp hq
  generalize natI (netsL T B n) = L at *
  obtain rfl : n = n' := HN.out.symm
  obtain ⟨_, e0, e1'⟩ := hb'
  go_wp2_with fail
  refine hax.mono ?_
  rintro e w2 ⟨rfl, rfl⟩
  go_wp2_with fail
  refine hay.mono ?_
  rintro e w2 ⟨rfl, rfl⟩
  clear hax hay
  go_wp2
  go_loop [8] (fun i => ∃ k : Nat, k ≤ n ∧ i = .int .i64 k ∧ Hid (colIn T B x y 0 k = false)) (fun i => n - (intOf i).toNat)
  case atStart => exact ⟨0, Nat.zero_le _, rfl, rfl⟩
  case round =>
    obtain ⟨k, hk, rfl, HA⟩ := hrel
    by_cases hlt : k < n
    · have hltI : (k : Int) < n := by omega
      have hk0 : (0 : Int) ≤ k := by omega
      obtain ⟨b1, o1, rfl, z1, k1⟩ := hp' (by rw [HT.out]; omega)
      obtain ⟨b2, o2, rfl, z2, k2⟩ := hq' (by rw [HB.out]; omega)
      have d1 := k1 k (by rw [HT.out]; exact hlt)
      have d2 := k2 k (by rw [HB.out]; exact hlt)
      by_cases hx : T.getD k 0 = x
      · by_cases hy : B.getD k 0 = y
        · have HR : Hid (colIn T B x y 0 n = true) := by show _ = _; exact colIn_iff.2 ⟨k, hlt, by rw [Nat.zero_add]; exact hx, by rw [Nat.zero_add]; exact hy⟩
          rw [hx] at d1
          rw [hy] at d2
          clear hx hy k1 k2 hp' hq'
          go_wp2
          go_ret
          exact ⟨retB (by rw [R.out, HR.out]), hb1⟩
        · have HM := Lib.hid (colIn_more HA.out fun h => hy (by have := h.2; rwa [Nat.zero_add] at this))
          rw [hx] at d1
          have hne : (B.getD k 0 == y) = false := by simpa using hy
          generalize B.getD k 0 = z at *
          clear hx HA k1 k2 hp' hq'
          go_wp2
          go_round
          case rel => exact ⟨k + 1, by omega, by go_num, HM⟩
          case measure => simp [intOf]; omega
      · have HM := Lib.hid (colIn_more HA.out fun h => hx (by have := h.1; rwa [Nat.zero_add] at this))
        have hne : (T.getD k 0 == x) = false := by simpa using hx
        generalize T.getD k 0 = z at *
        clear HA k1 k2 hp' hq'
        go_wp2
        go_round
        case rel => exact ⟨k + 1, by omega, by go_num, HM⟩
        case measure => simp [intOf]; omega
    · obtain rfl : k = n := by omega
      go_wp2
      go_ret
      exact ⟨retB (by rw [R.out, HA.out]), hb1⟩
set_option maxRecDepth 100000 in
set_option maxHeartbeats 1600000 in
theorem l03Above_x (b : Nat) (A A' : Option Addr) (T B : List Int) (n n' c c' : Nat) (x y : Int) (w : World) (hb : ChAt w b A A' n n' c c') (hp : IntsAt w w.heap.size A T) (hq : IntsAt w w.heap.size A' B) (HT : Hid (T.length = n)) (HB : Hid (B.length = n')) (hn : n ≤ 24) (HN : Hid (n' = n))
    (n1 : (x == y) = false) (n2 : (x == 0) = false) (n3 : (y == 0) = false) (hx : isNetI T B n x = false) :
    Calls Tryd.prog 65 #[.pointer (some ⟨b, 0, none⟩), .int .i64 x, .int .i64 y] w fun e w' => e = .returned (.bool (aboveV T B n x y)) ∧ Below w.heap.size w w' := by
  have hcn := l03Nets_any b A A' T B n n' c c' w hb hp hq HT HB hn HN
  have h13 := memL_len (isNetB T B n) 0 13
  have hlen := natI_len (netsL T B n)
  have hL13 : (natI (netsL T B n)).length ≤ 13 := by rw [hlen]; exact h13
  clear h13 hlen
  have R := Lib.hid (above_fx (y := y) hx)
  have HX := Lib.hid hx
  clear hx
  go_enter Tryd.func65, Tryd.ntmps65
  go_wp2_with fail
  refine hcn.mono ?_
  rintro e w1 ⟨⟨v, rfl, hown⟩, hb1⟩
  obtain ⟨A1, c1, rfl, h4⟩ := own4_of hown
  have hin := h4.ints
  have hax := l00Has_at A1 (natI (netsL T B n)) c1 x false HX w1 hin (by omega)
  clear hown h4 hin HX hcn
  generalize natI (netsL T B n) = L at *
  go_wp2_with (go_at_call 99; refine hax.mono ?_; rintro e w2 ⟨rfl, rfl⟩)
  go_ret
  exact ⟨retB (by rw [R.out]), hb1⟩
set_option maxRecDepth 100000 in
set_option maxHeartbeats 1600000 in
theorem l03Above_y (b : Nat) (A A' : Option Addr) (T B : List Int) (n n' c c' : Nat) (x y : Int) (w : World) (hb : ChAt w b A A' n n' c c') (hp : IntsAt w w.heap.size A T) (hq : IntsAt w w.heap.size A' B) (HT : Hid (T.length = n)) (HB : Hid (B.length = n')) (hn : n ≤ 24) (HN : Hid (n' = n))
    (n1 : (x == y) = false) (n2 : (x == 0) = false) (n3 : (y == 0) = false) (hx : isNetI T B n x = true) (hy : isNetI T B n y = false) :
    Calls Tryd.prog 65 #[.pointer (some ⟨b, 0, none⟩), .int .i64 x, .int .i64 y] w fun e w' => e = .returned (.bool (aboveV T B n x y)) ∧ Below w.heap.size w w' := by
  have hcn := l03Nets_any b A A' T B n n' c c' w hb hp hq HT HB hn HN
  have h13 := memL_len (isNetB T B n) 0 13
  have hlen := natI_len (netsL T B n)
  have hL13 : (natI (netsL T B n)).length ≤ 13 := by rw [hlen]; exact h13
  clear h13 hlen
  have R := Lib.hid (above_fy (x := x) hy)
  have HX := Lib.hid hx
  have HY := Lib.hid hy
  clear hx hy
  go_enter Tryd.func65, Tryd.ntmps65
  go_wp2_with fail
  refine hcn.mono ?_
  rintro e w1 ⟨⟨v, rfl, hown⟩, hb1⟩
  obtain ⟨A1, c1, rfl, h4⟩ := own4_of hown
  have hin := h4.ints
  have hax := l00Has_at A1 (natI (netsL T B n)) c1 x true HX w1 hin (by omega)
  have hay := l00Has_at A1 (natI (netsL T B n)) c1 y false HY w1 hin (by omega)
  clear hown h4 hin HX HY hcn
  generalize natI (netsL T B n) = L at *
  go_wp2_with fail
  refine hax.mono ?_
  rintro e w2 ⟨rfl, rfl⟩
  go_wp2_with fail
  refine hay.mono ?_
  rintro e w2 ⟨rfl, rfl⟩
  go_wp2
  go_ret
  exact ⟨retB (by rw [R.out]), hb1⟩
set_option maxRecDepth 100000 in
set_option maxHeartbeats 800000 in
theorem l03Above_any (b : Nat) (A A' : Option Addr) (T B : List Int) (n n' c c' : Nat) (x y : Int) (w : World) (hb : ChAt w b A A' n n' c c') (hp : IntsAt w w.heap.size A T) (hq : IntsAt w w.heap.size A' B) (HT : Hid (T.length = n)) (HB : Hid (B.length = n')) (hn : n ≤ 24) (HN : Hid (n' = n)) :
    Calls Tryd.prog 65 #[.pointer (some ⟨b, 0, none⟩), .int .i64 x, .int .i64 y] w fun e w' => e = .returned (.bool (aboveV T B n x y)) ∧ Below w.heap.size w w' := by
  by_cases e1 : x = y
  · subst e1
    have R := Lib.hid (above_eq T B n x)
    go_enter Tryd.func65, Tryd.ntmps65
    go_wp2
    go_ret
    exact ⟨retB (by rw [R.out]), by (repeat (first | assumption | exact Below.refl _ _ | (refine bl_alloc ?_ _) | (refine Below.drew ?_) | (refine bl_drewN ?_ _) | (refine bl_set ?_ (by first | (simp; done) | omega | (simp; omega)) _) | (refine bl_trans ?_ (by assumption)) | (refine bl_step ?_ (by assumption) (by first | omega | exact Below.size (by assumption) | (simp; omega) | (simp; exact Below.size (by assumption))))))⟩
  · have n1 : (x == y) = false := by simpa using e1
    by_cases e2 : x = 0
    · have R := Lib.hid (above_fx (T := T) (B := B) (n := n) (x := x) (y := y) (by rw [e2]; exact isNetI_zero _ _ _))
      have t2 : (x == 0) = true := by simpa using e2
      go_enter Tryd.func65, Tryd.ntmps65
      go_wp2
      go_ret
      exact ⟨retB (by rw [R.out]), by (repeat (first | assumption | exact Below.refl _ _ | (refine bl_alloc ?_ _) | (refine Below.drew ?_) | (refine bl_drewN ?_ _) | (refine bl_set ?_ (by first | (simp; done) | omega | (simp; omega)) _) | (refine bl_trans ?_ (by assumption)) | (refine bl_step ?_ (by assumption) (by first | omega | exact Below.size (by assumption) | (simp; omega) | (simp; exact Below.size (by assumption))))))⟩
    · have n2 : (x == 0) = false := by simpa using e2
      by_cases e3 : y = 0
      · have R := Lib.hid (above_fy (T := T) (B := B) (n := n) (x := x) (y := y) (by rw [e3]; exact isNetI_zero _ _ _))
        have t3 : (y == 0) = true := by simpa using e3
        go_enter Tryd.func65, Tryd.ntmps65
        go_wp2
        go_ret
        exact ⟨retB (by rw [R.out]), by (repeat (first | assumption | exact Below.refl _ _ | (refine bl_alloc ?_ _) | (refine Below.drew ?_) | (refine bl_drewN ?_ _) | (refine bl_set ?_ (by first | (simp; done) | omega | (simp; omega)) _) | (refine bl_trans ?_ (by assumption)) | (refine bl_step ?_ (by assumption) (by first | omega | exact Below.size (by assumption) | (simp; omega) | (simp; exact Below.size (by assumption))))))⟩
      · have n3 : (y == 0) = false := by simpa using e3
        cases hx : isNetI T B n x
        · exact l03Above_x b A A' T B n n' c c' x y w hb hp hq HT HB hn HN n1 n2 n3 hx
        · cases hy : isNetI T B n y
          · exact l03Above_y b A A' T B n n' c c' x y w hb hp hq HT HB hn HN n1 n2 n3 hx hy
          · exact l03Above_nets b A A' T B n n' c c' x y w hb hp hq HT HB hn HN e1 n1 n2 n3 hx hy

/-- What MustBeAbove answers. -/
def mbaV (T B : List Int) (x y : Int) : Bool := chanB T B && aboveV T B T.length x y
theorem mbaV_f {T B : List Int} {x y : Int} (h : chanB T B = false) : mbaV T B x y = false := by unfold mbaV; rw [h]; rfl
theorem mbaV_t {T B : List Int} {x y : Int} (h : chanB T B = true) : mbaV T B x y = aboveV T B T.length x y := by unfold mbaV; rw [h]; rfl
set_option maxHeartbeats 800000 in
theorem MustBeAboveS_any (A A' : Option Addr) (T B : List Int) (c c' : Nat) (x y : Int) (w : World) (hp : IntsAt w w.heap.size A T) (hq : IntsAt w w.heap.size A' B) :
    Calls Tryd.prog 29 #[.agg #[.slice A T.length c, .slice A' B.length c'], .int .i64 x, .int .i64 y] w fun e w' => e = .returned (.bool (mbaV T B x y)) ∧ Below w.heap.size w w' := by
  have hb0 : Below w.heap.size w (w.alloc (.cells #[.slice A T.length c, .slice A' B.length c'] 49)) := by (repeat (first | assumption | exact Below.refl _ _ | (refine bl_alloc ?_ _) | (refine Below.drew ?_) | (refine bl_drewN ?_ _) | (refine bl_set ?_ (by first | (simp; done) | omega | (simp; omega)) _) | (refine bl_trans ?_ (by assumption)) | (refine bl_step ?_ (by assumption) (by first | omega | exact Below.size (by assumption) | (simp; omega) | (simp; exact Below.size (by assumption))))))
  have hca := ChAt.new w A A' T.length B.length c c' 49
  have hc := l03Is_any w.heap.size A A' T B c c' _ hca (hp.to hb0) (hq.to hb0)
  cases hv : chanB T B
  · have R := Lib.hid (mbaV_f (x := x) (y := y) hv)
    rw [hv] at hc
    clear hv
    go_enter Tryd.func29, Tryd.ntmps29
    go_wp2_with (go_at_call 60; refine hc.mono ?_; rintro e w1 ⟨rfl, hb1⟩)
    go_ret
    exact ⟨retB (by rw [R.out]), by (repeat (first | assumption | exact Below.refl _ _ | (refine bl_alloc ?_ _) | (refine Below.drew ?_) | (refine bl_drewN ?_ _) | (refine bl_set ?_ (by first | (simp; done) | omega | (simp; omega)) _) | (refine bl_trans ?_ (by assumption)) | (refine bl_step ?_ (by assumption) (by first | omega | exact Below.size (by assumption) | (simp; omega) | (simp; exact Below.size (by assumption))))))⟩
  · have R := Lib.hid (mbaV_t (x := x) (y := y) hv)
    rw [hv] at hc
    obtain ⟨h1, h24, hBT⟩ := chanB_form hv
    have HBT := Lib.hid hBT
    clear hv hBT
    go_enter Tryd.func29, Tryd.ntmps29
    go_wp2_with fail
    refine hc.mono ?_
    rintro e w1 ⟨rfl, hb1⟩
    have hca1 := hca.to hb1
    have b1 := bl_step hb0 hb1 hb0.size
    have hab := l03Above_any w.heap.size A A' T B T.length B.length c c' x y _ hca1 (hp.to b1) (hq.to b1) rfl rfl h24 HBT.out
    generalize aboveV T B T.length x y = r at *
    go_wp2_with (go_at_call 65; refine hab.mono ?_; rintro e w2 ⟨rfl, hb2⟩)
    go_ret
    exact ⟨retB (by rw [R.out]), bl_step b1 hb2 b1.size⟩
end Go.Proofs.YtefcfpagbjflbaaDoor
