/-
  Contracts: WidthOf, as the program has it and as the model has it.
-/
import Derived.Test.YtgpcfkegbcpkpaaLstI
import Derived.Test.YtgpcfkegbcpkpaaAttemptI
namespace Go.Proofs.Ytgpcfkegbcpkpaa
set_option linter.unusedSimpArgs false
set_option linter.unusedVariables false
open Go.ChangeShapes Go.WideShapes Go.ChangeAt Go.RowKit Go.BigFrame

/-- The greatest of the first k numbers, none below 0. -/
def mxA (ds : List Int) : Nat → Int
  | 0 => 0
  | k + 1 => max (mxA ds k) (ds.getD k 0)
theorem mxA_nn (ds : List Int) : ∀ k, 0 ≤ mxA ds k
  | 0 => Int.le_refl _
  | k + 1 => by have := mxA_nn ds k; simp only [mxA]; omega
theorem l09Width_any (A : Option Addr) (ds : List Int) (c : Nat) (w : World) (hp : IntsAt w w.heap.size A ds) (hl : ds.length ≤ 1048576) :
    Calls Try.prog 82 #[.slice A ds.length c] w fun e w' => e = .returned (.int .i64 (mxA ds ds.length)) ∧ w = w' := by
  have hlI : (ds.length : Int) ≤ 1048576 := by omega
  go_enter Try.func82, Try.ntmps82
  go_wp2
  go_loop [3, 4] (fun a i => ∃ k : Nat, k ≤ ds.length ∧ i = .int .i64 k ∧ a = .int .i64 (mxA ds k)) (fun _ i => ds.length - (intOf i).toNat)
  case atStart => exact ⟨0, Nat.zero_le _, rfl, rfl⟩
  case round =>
    obtain ⟨k, hk, rfl, rfl⟩ := hrel
    have hk0 : (0 : Int) ≤ (k : Int) := by omega
    by_cases hlt : k < ds.length
    · obtain ⟨b, off, rfl, hbB, hc⟩ := hp (by omega)
      have e0 := hc k hlt
      have hltI : (k : Int) < (ds.length : Int) := by omega
      have MX : Hid (mxA ds (k + 1) = max (mxA ds k) (ds.getD k 0)) := rfl
      generalize mxA ds k = m at *
      generalize ds.getD k 0 = x at *
      clear hc hp
      go_wp2_with (go_at_call 113; refine (l00Max_any _ _ _).mono ?_; rintro e w' ⟨rfl, rfl⟩)
      go_round
      case rel => exact ⟨k + 1, by omega, by go_num, by rw [MX.out]⟩
      case measure => simp [intOf]; omega
    · obtain rfl : k = ds.length := by omega
      go_wp2
      go_ret
      exact ⟨rfl, rfl⟩
set_option maxHeartbeats 1600000 in
theorem sliceMax_any (A : Option Addr) (ds : List Int) (c : Nat) (w : World) (hp : IntsAt w w.heap.size A ds) (hl : ds.length ≤ 1048576) (h1 : 1 ≤ ds.length) (hn : ∀ i, 0 ≤ ds.getD i 0) :
    Calls Try.prog 115 #[.slice A ds.length c] w fun e w' => e = .returned (.int .i64 (mxA ds ds.length)) ∧ w = w' := by
  obtain ⟨b, off, rfl, hbB, hc⟩ := hp (by omega)
  have z0 := hc 0 (by omega)
  rw [Nat.add_zero] at z0
  have hkI : (1 : Int) ≤ (ds.length : Int) := by omega
  have hk0I : (0 : Int) < (ds.length : Int) := by omega
  have hkm : (ds.length : Int) ≤ 1048576 := by omega
  have hmax : ∀ x y : Int, (if x < y then y else x) = max x y := fun x y => by omega
  have M1 : Hid (ds.getD 0 0 = mxA ds 1) := by
    have := hn 0
    show _ = max 0 (ds.getD 0 0)
    omega
  generalize ds.getD 0 0 = d0 at z0 M1
  go_enter Try.func115, Try.ntmps115
  go_wp2
  go_loop [3, 4] (fun a i => ∃ j : Nat, 1 ≤ j ∧ j ≤ ds.length ∧ i = .int .i64 j ∧ a = .int .i64 (mxA ds j)) (fun _ i => ds.length - (intOf i).toNat)
  case atStart => exact ⟨1, Nat.le_refl _, by omega, rfl, by rw [← M1.out]⟩
  case round =>
    obtain ⟨j, h1j, hj, rfl, rfl⟩ := hrel
    have hj0 : (0 : Int) ≤ (j : Int) := by omega
    by_cases hlt : j < ds.length
    · have z := hc j hlt
      have hjI : (j : Int) < (ds.length : Int) := by omega
      have MX : Hid (mxA ds (j + 1) = max (mxA ds j) (ds.getD j 0)) := rfl
      generalize mxA ds j = m at *
      generalize ds.getD j 0 = y at z MX
      clear hc hp hn
      go_wp2
      go_round
      case rel => exact ⟨j + 1, by omega, by omega, by go_num, by rw [MX.out, ← hmax]⟩
      case measure => simp [intOf]; omega
    · obtain rfl : j = ds.length := by omega
      go_wp2
      go_ret
      exact ⟨rfl, rfl⟩
/-- The width, if there is one. -/
def widO (R : Option (List Int)) : Int := match R with
  | some ds => mxA ds ds.length
  | none => 0
/-- A number, or an end. -/
def WidRes (R : Option (List Int)) (w : World) (e : Ending) (w' : World) : Prop := ((R.isSome = true ∧ e = .returned (.int .i64 (widO R))) ∨ (R.isSome = false ∧ Pan e)) ∧ Below w.heap.size w w'
theorem run_nn {rs : List R3} {k n : Nat} {ds : List Int} (h : runR rs k (zer n) = some ds) : ds.length = n ∧ ∀ i, 0 ≤ ds.getD i 0 := by
  obtain ⟨h1, _, h3⟩ := run_fix _ _ _ h
  refine ⟨by rw [h1]; simp [zer], fun i => ?_⟩
  have := h3 i
  rw [zer_at] at this
  exact this
set_option maxRecDepth 100000 in
set_option maxHeartbeats 800000 in
theorem width_any (N : Nat) (A : Option Addr) (rs : List R3) (c : Nat) (w : World) (hp : RulAt w w.heap.size A rs) (hv : prB (N : Int) rs = true) :
    Calls Try.prog 85 #[.agg #[.int .i64 (N : Int), .slice A rs.length c]] w (WidRes (runR rs (N + 1) (zer N)) w) := by
  obtain ⟨⟨n1, n16⟩, _, _⟩ := pr_facts hv
  have hx : Below w.heap.size w (w.alloc (.cells #[.int .i64 (N : Int), .slice A rs.length c] 29)) := by (repeat (first | assumption | exact Below.refl _ _ | (refine bl_alloc ?_ _) | (refine Below.drew ?_) | (refine bl_drewN ?_ _) | (refine bl_set ?_ (by first | (simp; done) | omega | (simp; omega)) _) | (refine bl_trans ?_ (by assumption)) | (refine bl_step ?_ (by assumption) (by first | omega | exact Below.size (by assumption) | (simp; omega) | (simp; exact Below.size (by assumption))))))
  have cl := Lib.hid (leastPlaces_any N A rs c _ (hp.to hx) hv)
  have HNN := Lib.hid (fun ds h => run_nn (rs := rs) (k := N + 1) (n := N) (ds := ds) h)
  clear hp hv
  generalize runR rs (N + 1) (zer N) = R at *
  go_enter Try.func85, Try.ntmps85
  go_wp2_with fail
  refine cl.out.mono ?_
  rintro e w1 ⟨h, hb1⟩
  rcases h with ⟨ds, H, hR, rfl, hD, hH⟩ | ⟨hR, u, pv, rfl⟩
  · obtain ⟨hl, hn⟩ := HNN.out ds hR
    have HR := Lib.hid hR
    have l1 : 1 ≤ ds.length := by omega
    have l2 : ds.length ≤ 1048576 := by omega
    clear hR cl hl
    go_wp2_with fail
    refine (sliceMax_any (some ⟨H, 0, none⟩) ds ds.length w1 hD.nums l2 l1 hn).mono ?_
    rintro e w2 ⟨rfl, rfl⟩
    go_wp2
    go_ret
    exact ⟨.inl ⟨by rw [HR.out]; rfl, by rw [HR.out]; rfl⟩, bl_step hx hb1 hx.size⟩
  · have HR := Lib.hid hR
    clear hR cl
    go_wp2
    exact ⟨rfl, .inr ⟨by rw [HR.out]; rfl, ⟨_, _, rfl⟩⟩, bl_step hx hb1 hx.size⟩
theorem widthClo_any (n : Int) (A : Option Addr) (rs : List R3) (c Z : Nat) (w : World) (c0 : w.cell? ⟨Z, 0, none⟩ = some (.int .i64 n)) (c1 : w.cell? ⟨Z, 1, none⟩ = some (.slice A rs.length c)) (hp : RulAt w w.heap.size A rs) (hl : rs.length ≤ 1048576) :
    Calls Try.prog 84 #[.pointer (some ⟨Z, 0, none⟩)] w (WidRes (lstP n rs) w) := by
  have cr := Lib.hid (requirePress_any n A rs c w hp hl)
  cases hv : prB n rs
  · have R : Hid (lstP n rs = none) := by show _ = _; unfold lstP; rw [hv]; rfl
    have HV := Lib.hid hv
    clear hp hv
    rw [R.out]
    go_enter Try.func84, Try.ntmps84
    go_wp2_with fail
    refine cr.out.mono ?_
    rintro e w1 ⟨⟨h, rfl⟩ | ⟨_, u, pv, rfl⟩, hb1⟩
    · rw [HV.out] at h; cases h
    · go_wp2
      exact ⟨rfl, .inr ⟨rfl, ⟨_, _, rfl⟩⟩, hb1⟩
  · obtain ⟨⟨n1, n16⟩, _, _⟩ := pr_facts hv
    obtain ⟨N, rfl⟩ : ∃ N : Nat, n = (N : Int) := ⟨n.toNat, by omega⟩
    have R : Hid (lstP (N : Int) rs = runR rs (N + 1) (zer N)) := by show _ = _; unfold lstP; rw [if_pos hv]; rfl
    have cl := Lib.hid (fun (wx : World) (hb : Below w.heap.size w wx) => width_any N A rs c wx (hp.to hb) hv)
    have HV := Lib.hid hv
    clear hp hv
    rw [R.out]
    generalize runR rs (N + 1) (zer N) = R' at *
    go_enter Try.func84, Try.ntmps84
    go_wp2_with fail
    refine cr.out.mono ?_
    rintro e w1 ⟨⟨_, rfl⟩ | ⟨h, u, pv, rfl⟩, hb1⟩
    · go_wp2_with fail
      refine (cl.out _ hb1).mono ?_
      rintro e w2 ⟨h, hb2⟩
      rcases h with ⟨hR, rfl⟩ | ⟨hR, u, pv, rfl⟩
      · have HR := Lib.hid hR
        clear hR
        go_wp2
        go_ret
        exact ⟨.inl ⟨HR.out, rfl⟩, bl_trans hb1 hb2⟩
      · have HR := Lib.hid hR
        clear hR
        go_wp2
        exact ⟨rfl, .inr ⟨HR.out, ⟨_, _, rfl⟩⟩, bl_trans hb1 hb2⟩
    · rw [HV.out] at h; cases h
/-- A number and whether it succeeds. -/
def IRes (v : Int) (ok : Bool) (w : World) (e : Ending) (w' : World) : Prop := e = .returned (.tuple #[.int .i64 v, .bool ok]) ∧ Below w.heap.size w w'
set_option maxRecDepth 100000 in
set_option maxHeartbeats 800000 in
theorem WidthOfI_any (n : Int) (A : Option Addr) (rs : List R3) (c : Nat) (w : World) (hp : RulAt w w.heap.size A rs) (hl : rs.length ≤ 1048576) :
    Calls Try.prog 40 #[.agg #[.int .i64 n, .slice A rs.length c]] w (IRes (widO (lstP n rs)) (lstP n rs).isSome w) := by
  have hx : Below w.heap.size w (w.alloc (.cells #[.int .i64 n, .slice A rs.length c] 29)) := by (repeat (first | assumption | exact Below.refl _ _ | (refine bl_alloc ?_ _) | (refine Below.drew ?_) | (refine bl_drewN ?_ _) | (refine bl_set ?_ (by first | (simp; done) | omega | (simp; omega)) _) | (refine bl_trans ?_ (by assumption)) | (refine bl_step ?_ (by assumption) (by first | omega | exact Below.size (by assumption) | (simp; omega) | (simp; exact Below.size (by assumption))))))
  have kp := Blk.new w #[.int .i64 n, .slice A rs.length c] 29
  have cc := Lib.hid (fun (wx : World) (hb : Below (w.alloc (.cells #[.int .i64 n, .slice A rs.length c] 29)).heap.size (w.alloc (.cells #[.int .i64 n, .slice A rs.length c] 29)) wx) => widthClo_any n A rs c w.heap.size wx ((kp.to hb).cell 0 rfl) ((kp.to hb).cell 1 rfl) ((hp.to hx).to hb) hl)
  clear hp kp
  generalize lstP n rs = R at *
  have HNO : Hid (R.isSome = false → widO R = 0) := fun h => by cases R with
    | none => rfl
    | some _ => cases h
  go_enter Try.func40, Try.ntmps40
  go_wp2_with fail
  generalize (w.alloc (.cells #[.int .i64 n, .slice A rs.length c] 29)) = w1 at *
  have hx1 : Below w1.heap.size w1 (w1.alloc (.cells #[.bool false] 4)) := by (repeat (first | assumption | exact Below.refl _ _ | (refine bl_alloc ?_ _) | (refine Below.drew ?_) | (refine bl_drewN ?_ _) | (refine bl_set ?_ (by first | (simp; done) | omega | (simp; omega)) _) | (refine bl_trans ?_ (by assumption)) | (refine bl_step ?_ (by assumption) (by first | omega | exact Below.size (by assumption) | (simp; omega) | (simp; exact Below.size (by assumption))))))
  refine (attemptInt_any 84 _ w1 (fun u _ => u = .int .i64 (widO R) ∧ R.isSome = true) (R.isSome = false) (fun _ _ => by first | rfl | (simp [go_sem]; done)) ((cc.out _ hx1).mono ?_)).mono ?_
  · rintro e w2 ⟨h, hb⟩
    refine ⟨?_, hb⟩
    rcases h with ⟨h1, rfl⟩ | ⟨h1, h2⟩
    · exact .inl ⟨_, rfl, rfl, h1⟩
    · exact .inr ⟨h2, h1⟩
  rintro e w2 ⟨h, hb2⟩
  rcases h with ⟨v, w3, rfl, ⟨rfl, hok⟩, rfl⟩ | ⟨rfl, hno⟩
  · have HOK := Lib.hid hok
    clear hok
    go_wp2
    go_ret2
    exact ⟨by rw [HOK.out]; rfl, bl_step hx hb2 hx.size⟩
  · have HN := Lib.hid (HNO.out hno)
    have HN2 := Lib.hid hno
    clear hno
    go_wp2
    go_ret2
    exact ⟨by rw [HN.out, HN2.out]; rfl, bl_step hx hb2 hx.size⟩
set_option maxHeartbeats 800000 in
theorem WidthOfS_any (n : Int) (A : Option Addr) (rs : List R3) (c : Nat) (w : World) (hp : RulAt w w.heap.size A rs) (hl : rs.length ≤ 1048576) :
    Calls Try.prog 39 #[.agg #[.int .i64 n, .slice A rs.length c]] w (IRes (widO (lstP n rs)) (lstP n rs).isSome w) := by
  have hx : Below w.heap.size w (w.alloc (.cells #[.int .i64 n, .slice A rs.length c] 29)) := by (repeat (first | assumption | exact Below.refl _ _ | (refine bl_alloc ?_ _) | (refine Below.drew ?_) | (refine bl_drewN ?_ _) | (refine bl_set ?_ (by first | (simp; done) | omega | (simp; omega)) _) | (refine bl_trans ?_ (by assumption)) | (refine bl_step ?_ (by assumption) (by first | omega | exact Below.size (by assumption) | (simp; omega) | (simp; exact Below.size (by assumption))))))
  have kp := Blk.new w #[.int .i64 n, .slice A rs.length c] 29
  have c1 := Lib.hid (l09Is_any w.heap.size n A rs c _ (kp.cell 0 rfl) (kp.cell 1 rfl) (hp.to hx) hl)
  cases hv : prB n rs
  · have R : Hid (lstP n rs = none) := by show _ = _; unfold lstP; rw [hv]; rfl
    rw [hv] at c1
    rw [R.out]
    clear hp hv
    go_enter Try.func39, Try.ntmps39
    go_wp2_with fail
    refine c1.out.mono ?_
    rintro e w1 ⟨rfl, hb1⟩
    go_wp2
    go_ret2
    exact ⟨rfl, bl_step hx hb1 hx.size⟩
  · have R : Hid (lstP n rs = runR rs (n.toNat + 1) (zer n.toNat)) := by show _ = _; unfold lstP; rw [if_pos hv]
    have c2 := Lib.hid (fun (wx : World) (hb : Below (w.alloc (.cells #[.int .i64 n, .slice A rs.length c] 29)).heap.size (w.alloc (.cells #[.int .i64 n, .slice A rs.length c] 29)) wx) => l09Least_any w.heap.size n A rs c wx ((kp.to hb).cell 0 rfl) ((kp.to hb).cell 1 rfl) ((hp.to hx).to hb) hv)
    have HLL := Lib.hid (lstP_len (n := n) (rs := rs))
    rw [hv] at c1
    rw [R.out] at HLL ⊢
    clear hp hv
    generalize runR rs (n.toNat + 1) (zer n.toNat) = R' at *
    go_enter Try.func39, Try.ntmps39
    go_wp2_with fail
    refine c1.out.mono ?_
    rintro e w1 ⟨rfl, hb1⟩
    have x1 := bl_step hx hb1 hx.size
    go_wp2_with fail
    refine (c2.out _ hb1).mono ?_
    rintro e w2 ⟨h, hb2⟩
    rcases h with ⟨ds, H, hR, rfl, hD, hH⟩ | ⟨hR, rfl⟩
    · have hl2 : ds.length ≤ 1048576 := by have := HLL.out; rw [hR] at this; exact this
      have HR := Lib.hid hR
      clear hR
      go_wp2_with fail
      refine (l09Width_any _ _ _ _ hD.nums hl2).mono ?_
      rintro e w3 ⟨rfl, rfl⟩
      go_wp2
      go_ret2
      exact ⟨by rw [HR.out]; rfl, bl_trans x1 hb2⟩
    · have HR := Lib.hid hR
      clear hR
      go_wp2
      go_ret2
      exact ⟨by rw [HR.out]; rfl, bl_trans x1 hb2⟩
end Go.Proofs.Ytgpcfkegbcpkpaa
