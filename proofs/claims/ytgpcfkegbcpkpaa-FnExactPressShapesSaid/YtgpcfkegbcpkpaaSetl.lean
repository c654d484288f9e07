/-
  Contracts: how far all parts are pushed, and the least places, as the program has them.
-/
import Derived.Test.YtgpcfkegbcpkpaaPushA
import Derived.Test.YtgpcfkegbcpkpaaGrafI
import Derived.Test.YtgpcfkegbcpkpaaAttemptN
namespace Go.Proofs.Ytgpcfkegbcpkpaa
set_option linter.unusedSimpArgs false
set_option linter.unusedVariables false
open Go.ChangeShapes Go.WideShapes Go.ChangeAt Go.RowKit Go.BigFrame

theorem GraphAt.keepB {w w1 : World} {B : Nat} {A : Option Addr} {F : List (List R3)} (h : GraphAt w B A F) (hb : Below B w w1) : GraphAt w1 B A F := fun h0 => by
  obtain ⟨G, e, hlt, hc⟩ := h h0
  refine ⟨G, e, hlt, fun u hu => ?_⟩
  obtain ⟨Au, cu, h1, h2⟩ := hc u hu
  exact ⟨Au, cu, (hb.cell (p := ⟨G, _, none⟩) hlt).trans h1, h2.keepB hb⟩
theorem Bd.pass {K : Int} (hK : 0 ≤ K) : ∀ (qs : List R3) (ds : List Int) (M : Int), 0 ≤ M → (∀ r ∈ qs, r.2.2 ≤ 1000) → Bd ds M → Bd (passR qs ds) (M + 1000 * (qs.length : Int))
  | [], _, M, _, _, h => h.mono (by simp)
  | q :: qs, ds, M, hM, hq, h => by
    have := Bd.pass hK qs (Go.Proofs.Ytgpcfkegbcpkpaa.rlx ds q) (M + 1000) (by omega) (fun r hr => hq r (by simp [hr])) (h.rlx q (hq q (by simp)) hM)
    rw [passR]
    exact this.mono (by rw [List.length_cons]; push_cast; omega)
theorem byF_len {F : List (List R3)} {N : Nat} (h : ∀ u, u < N → (F.getD u []).length ≤ 40) : (byF F N).length ≤ 40 * N := by
  induction N with
  | zero => simp [byF]
  | succ N ih =>
    have := ih fun u hu => h u (by omega)
    have := h N (by omega)
    rw [byF_succ, List.length_append, List.length_map]
    omega
theorem byF_w {F : List (List R3)} {N : Nat} (h : ∀ u, u < N → ∀ p ∈ F.getD u [], p.2.2 ≤ 1000) : ∀ r ∈ byF F N, r.2.2 ≤ 1000 := fun r hr => by
  simp only [byF, List.mem_flatMap, List.mem_range, List.mem_map] at hr
  obtain ⟨u, hu, p, hp, rfl⟩ := hr
  exact h u hu p hp
/-- Places in a block of their own, or an error. -/
def SetRes (R : Option (List Int)) (w : World) (e : Ending) (w' : World) : Prop :=
  ((∃ (ds : List Int) (G : Nat), R = some ds ∧ e = .returned (.tuple #[.slice (some ⟨G, 0, none⟩) ds.length ds.length, .nilIface]) ∧ NBlk w' G ds ds.length ∧ w.heap.size ≤ G) ∨ (R = none ∧ ∃ u pv, e = .returned (.tuple #[.slice none 0 0, .iface u pv]))) ∧ Below w.heap.size w w'
set_option maxRecDepth 100000 in
set_option maxHeartbeats 3200000 in
theorem settle_any (G N : Nat) (F : List (List R3)) (w : World) (hF : F.length = N) (hg : GraphAt w w.heap.size (some ⟨G, 0, none⟩) F) (hn1 : 1 ≤ N) (hn : N ≤ 16)
    (hok : ∀ u, u < N → (F.getD u []).length ≤ 40 ∧ ∀ j, j < (F.getD u []).length → (∃ V : Nat, ((F.getD u []).getD j r30).2.1 = (V : Int) ∧ V < N) ∧ -1000 ≤ ((F.getD u []).getD j r30).2.2 ∧ ((F.getD u []).getD j r30).2.2 ≤ 1000) :
    Calls Try.prog 123 #[.slice (some ⟨G, 0, none⟩) N N] w (SetRes (runR (byF F N) N (zer N)) w) := by
  have hnI : (N : Int) ≤ 16 := by omega
  have hmk := run_mknums N (by omega) w
  obtain ⟨R, hR⟩ : ∃ R, runR (byF F N) N (zer N) = R := ⟨_, rfl⟩
  have HR0 : Hid (runR (byF F N) (N - 0) (zer N) = R) := hR
  rw [hR]
  have hG0 := NBlk.zer w N
  have hb0 : Below w.heap.size w (w.alloc (.cells (blankN N) 2)) := by (repeat (first | assumption | exact Below.refl _ _ | (refine bl_alloc ?_ _) | (refine Below.drew ?_) | (refine bl_drewN ?_ _) | (refine bl_set ?_ (by first | (simp; done) | omega | (simp; omega)) _) | (refine bl_trans ?_ (by assumption)) | (refine bl_step ?_ (by assumption) (by first | omega | exact Below.size (by assumption) | (simp; omega) | (simp; exact Below.size (by assumption))))))
  have hzl : (zer N).length = N := by simp [zer]
  have CP := Lib.hid (fun (wx : World) (ds : List Int) (M : Int) (hb : Below w.heap.size w wx) (hD : NBlk wx w.heap.size ds ds.length) (hl : ds.length = N) (hM : Bd ds M) (h0 : 0 ≤ M) (h1 : M ≤ 100000000) =>
    pushAll_any G w.heap.size w.heap.size N F ds M wx hF (hg.keepB hb) (Nat.le_refl _) hb.size hD hl hn1 hn hok hM h0 h1)
  have HB : Hid (∀ ds M, 0 ≤ M → Bd ds M → Bd (passR (byF F N) ds) (M + 640000)) := fun ds M h0 h => by
    have hl := byF_len (F := F) (N := N) fun u hu => (hok u hu).1
    have := Bd.pass (K := 0) (by omega) (byF F N) ds M h0 (byF_w fun u hu p hp => by
      obtain ⟨j, hj, rfl⟩ := List.mem_iff_getElem.1 hp
      have := ((hok u hu).2 j hj).2.2
      rwa [show (F.getD u []).getD j r30 = (F.getD u [])[j] from by rw [List.getD_eq_getElem?_getD, List.getElem?_eq_getElem hj]; rfl] at this) h
    exact this.mono (by omega)
  clear hR hg hok hF
  go_enter Try.func123, Try.ntmps123
  go_wp2
  clear hmk
  go_loopw [5, 11] (fun pv i wr => ∃ (k : Nat) (ds : List Int) (q : Int), k ≤ N ∧ i = .int .i64 k ∧ pv = .int .u64 q ∧ ds.length = N ∧ NBlk wr w.heap.size ds ds.length ∧ Hid (runR (byF F N) (N - k) ds = R) ∧ Hid (Bd ds (640000 * (k : Int))) ∧ Below w.heap.size w wr) (fun _ i _ => N - (intOf i).toNat)
  case atStart => exact ⟨0, zer N, 0, by omega, rfl, rfl, hzl, hG0, HR0, Bd.zer N, hb0⟩
  case round =>
    clear hG0 hb0 HR0 hzl
    obtain ⟨k, ds, q, hk, rfl, rfl, hdl, hD, HR, HBD, hb⟩ := hrel
    have hk0 : (0 : Int) ≤ (k : Int) := by omega
    by_cases hlt : k < N
    case neg =>
      obtain rfl : k = N := by omega
      have hR : R = none := by have := HR.out; rw [show k - k = 0 by omega] at this; rw [← this]; rfl
      have HRN := Lib.hid hR
      clear hR HR
      go_wp2
      go_ret2
      exact ⟨.inr ⟨HRN.out, _, _, rfl⟩, by (repeat (first | assumption | exact Below.refl _ _ | (refine bl_alloc ?_ _) | (refine Below.drew ?_) | (refine bl_drewN ?_ _) | (refine bl_set ?_ (by first | (simp; done) | omega | (simp; omega)) _) | (refine bl_trans ?_ (by assumption)) | (refine bl_step ?_ (by assumption) (by first | omega | exact Below.size (by assumption) | (simp; omega) | (simp; exact Below.size (by assumption))))))⟩
    have hltI : (k : Int) < (N : Int) := by omega
    have cp := Lib.hid (CP.out wr ds (640000 * (k : Int)) hb hD hdl HBD.out (by omega) (by omega))
    have HB2 := Lib.hid (HB.out ds (640000 * (k : Int)) (by omega) HBD.out)
    have HR1 : Hid (runR (byF F N) (N - (k + 1) + 1) ds = R) := by
      have := HR.out
      rwa [show N - k = N - (k + 1) + 1 by omega] at this
    go_wp2_with fail
    refine cp.out.mono ?_
    rintro e w1 ⟨⟨m, rfl, hfl⟩, hD1, hO⟩
    have hb1 := hO.below hb (Nat.le_refl _) hb.size
    have HFL := Lib.hid hfl
    clear hfl cp hD hb hO
    by_cases hm : m = 0
    · have HS : Hid (R = some (passR (byF F N) ds)) := by show _ = _; rw [← HR1.out, run_stop (HFL.out.2.1 hm)]
      have HL : Hid ((passR (byF F N) ds).length = N) := by show _ = _; rw [passR_len, hdl]
      subst hm
      go_wp2
      go_ret2
      exact ⟨.inl ⟨passR (byF F N) ds, w.heap.size, HS.out, by rw [HL.out]; rfl, hD1, Nat.le_refl _⟩, hb1⟩
    · have HS : Hid (runR (byF F N) (N - (k + 1)) (passR (byF F N) ds) = R) := by
        show _ = _
        rw [← HR1.out, run_more]
        cases hgr : grew (byF F N) ds
        · exact absurd (HFL.out.2.2 hgr) hm
        · rfl
      have hmd : ((m : Int) == 0) = false := by simpa using hm
      have hml : (m : Int) < 65536 := by have := HFL.out.1; omega
      have HBX : Hid (Bd (passR (byF F N) ds) (640000 * ((k + 1 : Nat) : Int))) := HB2.out.mono (by push_cast; omega)
      go_wp2
      go_roundw
      case rel => exact ⟨k + 1, passR (byF F N) ds, (m : Int), by omega, by go_num, rfl, by rw [passR_len, hdl], hD1, HS, HBX, hb1⟩
      case measure => simp [intOf]; omega
/-- The head of the pushes: upward or downward. -/
def isHead (P Q : Nat) (up : Bool) : Prop := (∀ args w, (callFunc P args).run Try.prog w = .ok (.enter P args) w) ∧ (∀ args w, (callFunc Q args).run Try.prog w = .ok (.enter Q args) w) ∧
  (∀ x y z wx, Calls Try.prog P #[.agg #[.int .i64 x, .int .i64 y, .int .i64 z]] wx fun e w' => e = .returned (.int .i64 (fromH up (x, y, z))) ∧ Below wx.heap.size wx w') ∧
  ∀ x y z wx, Calls Try.prog Q #[.agg #[.int .i64 x, .int .i64 y, .int .i64 z]] wx fun e w' => e = .returned (.int .i64 (toH up (x, y, z))) ∧ Below wx.heap.size wx w'
set_option maxRecDepth 100000 in
theorem head_up : isHead 124 125 true := ⟨fun _ _ => by first | rfl | (simp [go_sem]; done), fun _ _ => by first | rfl | (simp [go_sem]; done), fun x y z w => ruleFrom_any x y z w, fun x y z w => ruleTo_any x y z w⟩
set_option maxRecDepth 100000 in
theorem head_down : isHead 125 124 false := ⟨fun _ _ => by first | rfl | (simp [go_sem]; done), fun _ _ => by first | rfl | (simp [go_sem]; done), fun x y z w => ruleTo_any x y z w, fun x y z w => ruleFrom_any x y z w⟩
/-- How far all parts are pushed, or an end. -/
def GoRes (R : Option (List Int)) (w : World) (e : Ending) (w' : World) : Prop :=
  ((∃ (ds : List Int) (G : Nat), R = some ds ∧ e = .returned (.slice (some ⟨G, 0, none⟩) ds.length ds.length) ∧ NBlk w' G ds ds.length ∧ w.heap.size ≤ G) ∨ (R = none ∧ Pan e)) ∧ Below w.heap.size w w'
theorem ru_heads {up : Bool} {N : Nat} {rs : List R3} (hv : prB (N : Int) rs = true) : ∀ k, k < rs.length → ∃ U V : Nat, fromH up (rs.getD k r30) = (U : Int) ∧ toH up (rs.getD k r30) = (V : Int) ∧ U < N ∧ V < N ∧ -1000 ≤ (rs.getD k r30).2.2 ∧ (rs.getD k r30).2.2 ≤ 1000 := fun k hk => by
  obtain ⟨⟨n1, n16⟩, h40, hru⟩ := pr_facts hv
  obtain ⟨X, Y, hX, hY, hXn, hYn, hXY, z1, z2⟩ := ru_facts (hru k hk) n16
  cases up
  · exact ⟨Y, X, by unfold fromH; rw [if_neg (by decide)]; exact hY, by unfold toH; rw [if_neg (by decide)]; exact hX, by omega, by omega, z1, z2⟩
  · exact ⟨X, Y, by unfold fromH; rw [if_pos rfl]; exact hX, by unfold toH; rw [if_pos rfl]; exact hY, by omega, by omega, z1, z2⟩
/-- The places that the rules push to, as the model goes through them. -/
theorem settled_is {up : Bool} {N : Nat} {rs : List R3} (hv : prB (N : Int) rs = true) : runR (byG up rs N) N (zer N) = runR (rs.map (turnR up)) (N + 1) (zer N) := by
  obtain ⟨⟨n1, n16⟩, h40, _⟩ := pr_facts hv
  have hmem : ∀ r ∈ rs, 0 ≤ fromH up r ∧ fromH up r < (N : Int) := fun r hr => by
    obtain ⟨j, hj, rfl⟩ := List.mem_iff_getElem.1 hr
    obtain ⟨U, V, h1, _, h3, _⟩ := ru_heads (up := up) hv j hj
    rw [show rs.getD j r30 = rs[j] from by simp [List.getD_eq_getElem?_getD, hj]] at h1
    omega
  refine (run_same (fun r => byG_mem hmem r) (fun r hr => ?_) (by omega) (by omega) (Nat.le_refl _)).symm
  obtain ⟨q, hq, rfl⟩ := List.mem_map.1 hr
  obtain ⟨j, hj, rfl⟩ := List.mem_iff_getElem.1 hq
  obtain ⟨U, V, h1, h2, h3, h4, _⟩ := ru_heads (up := up) hv j hj
  rw [show rs.getD j r30 = rs[j] from by simp [List.getD_eq_getElem?_getD, hj]] at h1 h2
  simp only [turnR]
  omega
set_option maxRecDepth 100000 in
set_option maxHeartbeats 3200000 in
theorem settled_any (P Q : Nat) (up : Bool) (N : Nat) (A : Option Addr) (rs : List R3) (c : Nat) (w : World) (hh : isHead P Q up) (hp : RulAt w w.heap.size A rs) (hv : prB (N : Int) rs = true) :
    Calls Try.prog 111 #[.agg #[.int .i64 (N : Int), .slice A rs.length c], .agg #[.func (.func P) #[] #[], .func (.func Q) #[] #[]]] w (GoRes (runR (rs.map (turnR up)) (N + 1) (zer N)) w) := by
  obtain ⟨⟨n1, n16⟩, h40, _⟩ := pr_facts hv
  have hx : Below w.heap.size w ((w.alloc (.cells #[.int .i64 (N : Int), .slice A rs.length c] 29)).alloc (.cells #[.func (.func P) #[] #[], .func (.func Q) #[] #[]] 124)) := by (repeat (first | assumption | exact Below.refl _ _ | (refine bl_alloc ?_ _) | (refine Below.drew ?_) | (refine bl_drewN ?_ _) | (refine bl_set ?_ (by first | (simp; done) | omega | (simp; omega)) _) | (refine bl_trans ?_ (by assumption)) | (refine bl_step ?_ (by assumption) (by first | omega | exact Below.size (by assumption) | (simp; omega) | (simp; exact Below.size (by assumption))))))
  have cg := Lib.hid (graph_any P Q up N A rs c _ hh.1 hh.2.1 hh.2.2.1 hh.2.2.2 (hp.to hx) hv)
  have HRU := Lib.hid (ru_heads (up := up) hv)
  have cs := Lib.hid (fun (G : Nat) (wx : World) (hg : GraphAt wx wx.heap.size (some ⟨G, 0, none⟩) (gRows up rs N rs.length)) => settle_any G N (gRows up rs N rs.length) wx (gRows_len _ _ _ _) hg (by omega) (by omega) (fun u hu => by
    rw [gRows_at hu]
    refine ⟨Nat.le_trans (gRow_len up rs rs.length u) h40, fun j hj => ?_⟩
    have hm : (gRow up rs rs.length u).getD j r30 ∈ gRow up rs rs.length u := by
      rw [List.getD_eq_getElem?_getD, List.getElem?_eq_getElem hj]; simp
    obtain ⟨i, hi, _, he⟩ := gRow_mem.1 hm
    obtain ⟨U, V, h1, h2, h3, h4, h5, h6⟩ := HRU.out i hi
    rw [he]
    exact ⟨⟨V, h2, h4⟩, h5, h6⟩))
  rw [byF_gRows, settled_is hv] at cs
  clear hp hh hv
  generalize runR (rs.map (turnR up)) (N + 1) (zer N) = R at *
  go_enter Try.func111, Try.ntmps111
  go_wp2_with fail
  refine cg.out.mono ?_
  rintro e w1 ⟨⟨G, rfl, hG, _⟩, hb1⟩
  have x1 := bl_step hx hb1 hx.size
  go_wp2_with fail
  refine (cs.out G w1 hG.graph).mono ?_
  rintro e w2 ⟨h, hb2⟩
  have x2 := bl_trans x1 hb2
  rcases h with ⟨ds, H, hR, rfl, hD, hH⟩ | ⟨hR, u, pv, rfl⟩
  · have HR := Lib.hid hR
    clear hR cs cg
    go_wp2_with fail
    refine (require_yes _).mono ?_
    rintro e w3 ⟨rfl, rfl⟩
    go_wp2
    go_ret
    exact ⟨.inl ⟨ds, H, HR.out, rfl, hD, Nat.le_trans x1.size hH⟩, x2⟩
  · have HR := Lib.hid hR
    clear hR cs cg
    go_wp2_with fail
    refine (require_no _).mono ?_
    rintro e w3 ⟨⟨u, pv, rfl⟩, rfl⟩
    go_wp2
    exact ⟨rfl, .inr ⟨HR.out, ⟨_, _, rfl⟩⟩, x2⟩
end Go.Proofs.Ytgpcfkegbcpkpaa
