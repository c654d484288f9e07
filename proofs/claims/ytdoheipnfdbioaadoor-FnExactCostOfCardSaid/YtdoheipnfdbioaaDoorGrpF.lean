/-
  Contract: the group of a segment, coloured breadth-first.
-/
import Derived.Test.YtdoheipnfdbioaaDoorAllB
import Derived.Test.YtdoheipnfdbioaaDoorColP
import Derived.Test.YtdoheipnfdbioaaDoorQuietA
import Derived.Test.YtdoheipnfdbioaaDoorPan
namespace Go.Proofs.YtdoheipnfdbioaaDoor
set_option linter.unusedSimpArgs false
set_option linter.unusedVariables false
open Go.ChangeShapes Go.WideShapes Go.ChangeAt Go.RowKit

/-- What lies next to a side. -/
theorem bef_iff {F : Nat → Nat → Bool} {p : Nat → Bool} {n j : Nat} : befB F (memL p 0 n) j = true ↔ ∃ i, i < n ∧ p i = true ∧ F i j = true := by
  unfold befB
  rw [List.any_eq_true]
  constructor
  · rintro ⟨i, h1, h2⟩
    obtain ⟨a, b⟩ := memL_lt h1
    exact ⟨i, a, b, h2⟩
  · rintro ⟨i, a, b, h2⟩
    refine ⟨i, ?_, h2⟩
    rw [memL_zero, List.mem_filter]
    exact ⟨by simpa using a, b⟩
/-- The two sides so far. -/
def SideInv (A : Nat → Nat → Bool) (n s : Nat) (e o : Nat → Bool) : Prop := e s = true ∧ (∀ k, k < n → e k = true → evB A s k = true) ∧ ∀ k, k < n → o k = true → odB A s k = true
def nxE (A : Nat → Nat → Bool) (n : Nat) (e o : Nat → Bool) (j : Nat) : Bool := e j || befB A (memL o 0 n) j
theorem SideInv.start {A : Nat → Nat → Bool} {n s : Nat} : SideInv A n s (fun j => decide (j = s)) (fun _ => false) :=
  ⟨by simp, fun k _ h => by simp at h; subst h; exact (col_closed k).1, fun k _ h => by cases h⟩
theorem SideInv.next {A : Nat → Nat → Bool} {n s : Nat} {e o : Nat → Bool} (h : SideInv A n s e o) : SideInv A n s (nxE A n e o) (nxE A n o e) := by
  obtain ⟨h0, h1, h2⟩ := h
  refine ⟨by unfold nxE; rw [h0]; rfl, fun k hk hh => ?_, fun k hk hh => ?_⟩
  · unfold nxE at hh
    rw [Bool.or_eq_true, bef_iff] at hh
    rcases hh with hh | ⟨i, hi, ho, hik⟩
    · exact h1 k hk hh
    · exact ((col_closed s).2 i k hik).2 (h2 i hi ho)
  · unfold nxE at hh
    rw [Bool.or_eq_true, bef_iff] at hh
    rcases hh with hh | ⟨i, hi, ho, hik⟩
    · exact h2 k hk hh
    · exact ((col_closed s).2 i k hik).1 (h1 i hi ho)
theorem SideInv.done {A : Nat → Nat → Bool} {n s : Nat} {e o : Nat → Bool} (h : SideInv A n s e o) (hA : Adj n A) (hs : s < n)
    (he : ∀ j, j < n → nxE A n e o j = e j) (ho : ∀ j, j < n → nxE A n o e j = o j) : maskTo e n = maskTo (evB A s) n ∧ maskTo o n = maskTo (odB A s) n := by
  obtain ⟨h0, h1, h2⟩ := h
  have hc : Clo2 A s (fun k => decide (k < n) && e k) (fun k => decide (k < n) && o k) := by
    refine ⟨by simp [hs, h0], fun i k hik => ⟨fun hi => ?_, fun hi => ?_⟩⟩
    · obtain ⟨a, b⟩ := hA.lt i k hik
      simp at hi ⊢
      refine ⟨b, ?_⟩
      rw [← ho k b]; unfold nxE
      rw [Bool.or_eq_true, bef_iff]
      exact .inr ⟨i, a, hi.2, hik⟩
    · obtain ⟨a, b⟩ := hA.lt i k hik
      simp at hi ⊢
      refine ⟨b, ?_⟩
      rw [← he k b]; unfold nxE
      rw [Bool.or_eq_true, bef_iff]
      exact .inr ⟨i, a, hi.2, hik⟩
  refine ⟨mask_congr fun k hk => ?_, mask_congr fun k hk => ?_⟩
  · rw [Bool.eq_iff_iff]
    exact ⟨h1 k hk, fun hh => by have := evB_iff.1 hh _ _ hc; simp at this; exact this.2⟩
  · rw [Bool.eq_iff_iff]
    exact ⟨h2 k hk, fun hh => by have := odB_iff.1 hh _ _ hc; simp at this; exact this.2⟩
/-- How much may still come. -/
def cellNat (w : World) (g i : Nat) : Nat := match w.cell? ⟨g, i, none⟩ with | some (.int _ v) => v.toNat | _ => 0
theorem cellNat_is {w : World} {g i : Nat} {K : IntKind} {v : Nat} (h : w.cell? ⟨g, i, none⟩ = some (.int K (v : Int))) : cellNat w g i = v := by unfold cellNat; rw [h]; simp
def grpM (w : World) (g n : Nat) : Nat := (2 ^ n - cellNat w g 0) + (2 ^ n - cellNat w g 1)
theorem grpM_less {A : Nat → Nat → Bool} {n : Nat} {e o : Nat → Bool} (h : ¬ ((∀ j, j < n → nxE A n e o j = e j) ∧ ∀ j, j < n → nxE A n o e j = o j)) :
    (2 ^ n - maskTo (nxE A n e o) n) + (2 ^ n - maskTo (nxE A n o e) n) < (2 ^ n - maskTo e n) + (2 ^ n - maskTo o n) := by
  have a1 : maskTo e n ≤ maskTo (nxE A n e o) n := mask_mono fun j _ h => by unfold nxE; rw [h]; rfl
  have a2 : maskTo o n ≤ maskTo (nxE A n o e) n := mask_mono fun j _ h => by unfold nxE; rw [h]; rfl
  have b1 := maskTo_lt (nxE A n e o) n
  have b2 := maskTo_lt (nxE A n o e) n
  have : ¬ (maskTo (nxE A n e o) n = maskTo e n ∧ maskTo (nxE A n o e) n = maskTo o n) := fun ⟨c1, c2⟩ => h ⟨mask_inj c1, mask_inj c2⟩
  omega
/-- A wiring's value, as the program has it inside. -/
abbrev winV (n gX : Nat) (AJ : Option Addr) (j cJ : Nat) (f0 f1 : Int) : Value := .agg #[.int .i64 (n : Int), .slice (some ⟨gX, 0, none⟩) n n, .slice AJ j cJ, .int .u64 f0, .int .u64 f1]
set_option maxRecDepth 100000 in
set_option maxHeartbeats 3200000 in
theorem groupFrom_any (n gX : Nat) (A : Nat → Nat → Bool) (AJ : Option Addr) (j cJ : Nat) (f0 f1 : Int) (s : Nat) (w : World) (hG : BitBlk w gX n A) (hA : Adj n A) (hn : n ≤ 14) (hs : s < n) (hL : BruAt w) :
    Calls Tryd.prog 78 #[.agg #[.int .i64 (n : Int), .slice (some ⟨gX, 0, none⟩) n n, .slice AJ j cJ, .int .u64 f0, .int .u64 f1], .int .i64 s] w fun e w' => e = .returned (.agg #[.int .u64 (maskTo (evB A s) n), .int .u64 (maskTo (odB A s) n)]) ∧ Below w.heap.size w w' := by
  have CB := Lib.hid (fun w => bitsetOf_any s (by omega) w)
  have hone : (2 ^ s : Nat) = maskTo (fun j => decide (j = s)) n := (mask_one hs).symm
  rw [hone] at CB
  have hb0 : Below w.heap.size w ((w.alloc (.cells #[.int .i64 (n : Int), .slice (some ⟨gX, 0, none⟩) n n, .slice AJ j cJ, .int .u64 f0, .int .u64 f1] 62)).alloc (.cells #[.int .u64 0, .int .u64 0] 74)) := by (repeat (first | assumption | exact Below.refl _ _ | (refine bl_alloc ?_ _) | (refine Below.drew ?_) | (refine bl_drewN ?_ _) | (refine bl_set ?_ (by first | (simp; done) | omega | (simp; omega)) _) | (refine bl_trans ?_ (by assumption)) | (refine bl_step ?_ (by assumption) (by first | omega | exact Below.size (by assumption) | (simp; omega) | (simp; exact Below.size (by assumption))))))
  have k0 : Blk ((w.alloc (.cells #[.int .i64 (n : Int), .slice (some ⟨gX, 0, none⟩) n n, .slice AJ j cJ, .int .u64 f0, .int .u64 f1] 62)).alloc (.cells #[.int .u64 0, .int .u64 0] 74)) w.heap.size #[.int .i64 (n : Int), .slice (some ⟨gX, 0, none⟩) n n, .slice AJ j cJ, .int .u64 f0, .int .u64 f1] 62 := (Blk.new _ _ _).alloc _
  have k1 : Blk ((w.alloc (.cells #[.int .i64 (n : Int), .slice (some ⟨gX, 0, none⟩) n n, .slice AJ j cJ, .int .u64 f0, .int .u64 f1] 62)).alloc (.cells #[.int .u64 0, .int .u64 0] 74)) (w.heap.size + 1) #[.int .u64 0, .int .u64 0] 74 := by
    have := Blk.new (w.alloc (.cells #[.int .i64 (n : Int), .slice (some ⟨gX, 0, none⟩) n n, .slice AJ j cJ, .int .u64 f0, .int .u64 f1] 62)) #[.int .u64 0, .int .u64 0] 74
    rwa [World.size_alloc] at this
  go_enter Tryd.func78, Tryd.ntmps78
  go_wp2_with fail
  refine (CB.out _).mono ?_
  rintro e w1 ⟨rfl, rfl⟩
  go_wp2
  have k2 := Blk.new ((w.alloc (.cells #[.int .i64 (n : Int), .slice (some ⟨gX, 0, none⟩) n n, .slice AJ j cJ, .int .u64 f0, .int .u64 f1] 62)).alloc (.cells #[.int .u64 0, .int .u64 0] 74)) #[.int .u64 (maskTo (fun j => decide (j = s)) n : Int), .int .u64 0] 74
  rw [World.size_alloc, World.size_alloc] at k2
  replace k0 := k0.alloc (.cells #[.int .u64 (maskTo (fun j => decide (j = s)) n : Int), .int .u64 0] 74)
  replace k1 := k1.alloc (.cells #[.int .u64 (maskTo (fun j => decide (j = s)) n : Int), .int .u64 0] 74)
  replace hb0 := bl_alloc hb0 (.cells #[.int .u64 (maskTo (fun j => decide (j = s)) n : Int), .int .u64 0] 74)
  have hz0 : maskTo (fun _ => false) n = 0 := mask_zero (fun _ _ => rfl)
  generalize (((w.alloc (.cells #[.int .i64 (n : Int), .slice (some ⟨gX, 0, none⟩) n n, .slice AJ j cJ, .int .u64 f0, .int .u64 f1] 62)).alloc (.cells #[.int .u64 0, .int .u64 0] 74)).alloc (.cells #[.int .u64 (maskTo (fun j => decide (j = s)) n : Int), .int .u64 0] 74)) = w1 at *
  have hgZ : gX < w.heap.size := hG.lt
  go_loopw [6] (fun _ wr => ∃ e o : Nat → Bool, Blk wr w.heap.size #[.int .i64 (n : Int), .slice (some ⟨gX, 0, none⟩) n n, .slice AJ j cJ, .int .u64 f0, .int .u64 f1] 62 ∧ Blk wr (w.heap.size + 1) #[.int .u64 0, .int .u64 0] 74 ∧ Blk wr (w.heap.size + 1 + 1) #[.int .u64 (maskTo e n : Int), .int .u64 (maskTo o n : Int)] 74 ∧ Hid (SideInv A n s e o) ∧ Below w.heap.size w wr) (fun _ wr => grpM wr (w.heap.size + 1 + 1) n)
  case atStart => exact ⟨fun j => decide (j = s), fun _ => false, k0, k1, by rw [hz0]; exact k2, SideInv.start, hb0⟩
  case round =>
    clear k0 k1 k2 hb0 hz0 hone
    obtain ⟨e, o, k0, k1, k2, HI, hb⟩ := hrel
    have c1 := k0.cell 1 (v := .slice (some ⟨gX, 0, none⟩) n n) rfl
    have e0 := k2.cell 0 (v := .int .u64 (maskTo e n : Int)) rfl
    have e1 := k2.cell 1 (v := .int .u64 (maskTo o n : Int)) rfl
    have l0 := k0.lt
    have l2 := k2.lt
    have CE := Lib.hid (fun (wx : World) (h : Below w.heap.size w wx) => allBefore_any gX n n A e wx (hG.to h) (by omega) (by omega) (fun i hi _ => hi) (fun i j _ h => (hA.lt i j h).2) (hL.to h))
    have CO := Lib.hid (fun (wx : World) (h : Below w.heap.size w wx) => allBefore_any gX n n A o wx (hG.to h) (by omega) (by omega) (fun i hi _ => hi) (fun i j _ h => (hA.lt i j h).2) (hL.to h))
    have r1 : bits .or .u64 (maskTo e n : Int) (maskTo (befB A (memL o 0 n)) n : Int) = (maskTo (nxE A n e o) n : Int) := mask_or _ _ (by omega)
    have r2 : bits .or .u64 (maskTo o n : Int) (maskTo (befB A (memL e 0 n)) n : Int) = (maskTo (nxE A n o e) n : Int) := mask_or _ _ (by omega)
    go_wp2
    refine wp_region_alloc (i0 := 17) (m := 18) (ks := [(0, true), (1, false), (2, true), (3, false), (4, true), (5, false), (6, false), (7, true), (8, true), (9, false), (10, true), (11, false), (12, true), (13, false), (14, false), (15, true), (16, true)]) (.alone 18 .done) (by kernel_rfl) (by kernel_rfl) (by kernel_rfl) (fun _ d _ _ _ h => by cases d <;> exact h) rfl rfl (fun a w => by go_simp <;> rfl) ?_
    refine g_p (v := ?_) (by rfl) ?_ ?_
    rotate_left
    · intro wx
      go_simp
      try (with_reducible rfl)
    try simp only [Act.put, List.setIfInBounds_toArray, List.set_cons_zero, List.set_cons_succ]
    refine g_w (v := ?_) (by rfl) ?_ ?_
    rotate_left
    · intro wx hSx
      obtain ⟨hcx, hfx, hzx⟩ := bcell hSx
      go_simp
      try (with_reducible rfl)
    try simp only [Act.put, List.setIfInBounds_toArray, List.set_cons_zero, List.set_cons_succ]
    refine g_p (v := ?_) (by rfl) ?_ ?_
    rotate_left
    · intro wx
      go_simp
      try (with_reducible rfl)
    try simp only [Act.put, List.setIfInBounds_toArray, List.set_cons_zero, List.set_cons_succ]
    refine g_w (v := ?_) (by rfl) ?_ ?_
    rotate_left
    · intro wx hSx
      obtain ⟨hcx, hfx, hzx⟩ := bcell hSx
      go_simp
      try (with_reducible rfl)
    try simp only [Act.put, List.setIfInBounds_toArray, List.set_cons_zero, List.set_cons_succ]
    refine g_p (v := ?_) (by rfl) ?_ ?_
    rotate_left
    · intro wx
      go_simp
      try (with_reducible rfl)
    try simp only [Act.put, List.setIfInBounds_toArray, List.set_cons_zero, List.set_cons_succ]
    refine g_w (v := ?_) (by rfl) ?_ ?_
    rotate_left
    · intro wx hSx
      obtain ⟨hcx, hfx, hzx⟩ := bcell hSx
      go_simp
      try (with_reducible rfl)
    try simp only [Act.put, List.setIfInBounds_toArray, List.set_cons_zero, List.set_cons_succ]
    refine g_c (by rfl) (fun wx hSx => CO.out _ (hb.trans (hSx.mono hb.size))) (fun wx hSx => by go_simp <;> (repeat' (first | rfl | apply And.intro))) ?_
    try simp only [Act.put, List.setIfInBounds_toArray, List.set_cons_zero, List.set_cons_succ]
    refine g_p (v := ?_) (by rfl) ?_ ?_
    rotate_left
    · intro wx
      go_simp
      try (with_reducible rfl)
    try simp only [Act.put, List.setIfInBounds_toArray, List.set_cons_zero, List.set_cons_succ]
    refine g_p (v := ?_) (by rfl) ?_ ?_
    rotate_left
    · intro wx
      go_simp
      try (with_reducible rfl)
    try simp only [Act.put, List.setIfInBounds_toArray, List.set_cons_zero, List.set_cons_succ]
    refine g_w (v := ?_) (by rfl) ?_ ?_
    rotate_left
    · intro wx hSx
      obtain ⟨hcx, hfx, hzx⟩ := bcell hSx
      go_simp
      try (with_reducible rfl)
    try simp only [Act.put, List.setIfInBounds_toArray, List.set_cons_zero, List.set_cons_succ]
    refine g_p (v := ?_) (by rfl) ?_ ?_
    rotate_left
    · intro wx
      go_simp
      try (with_reducible rfl)
    try simp only [Act.put, List.setIfInBounds_toArray, List.set_cons_zero, List.set_cons_succ]
    refine g_w (v := ?_) (by rfl) ?_ ?_
    rotate_left
    · intro wx hSx
      obtain ⟨hcx, hfx, hzx⟩ := bcell hSx
      go_simp
      try (with_reducible rfl)
    try simp only [Act.put, List.setIfInBounds_toArray, List.set_cons_zero, List.set_cons_succ]
    refine g_p (v := ?_) (by rfl) ?_ ?_
    rotate_left
    · intro wx
      go_simp
      try (with_reducible rfl)
    try simp only [Act.put, List.setIfInBounds_toArray, List.set_cons_zero, List.set_cons_succ]
    refine g_w (v := ?_) (by rfl) ?_ ?_
    rotate_left
    · intro wx hSx
      obtain ⟨hcx, hfx, hzx⟩ := bcell hSx
      go_simp
      try (with_reducible rfl)
    try simp only [Act.put, List.setIfInBounds_toArray, List.set_cons_zero, List.set_cons_succ]
    refine g_c (by rfl) (fun wx hSx => CE.out _ (hb.trans (hSx.mono hb.size))) (fun wx hSx => by go_simp <;> (repeat' (first | rfl | apply And.intro))) ?_
    try simp only [Act.put, List.setIfInBounds_toArray, List.set_cons_zero, List.set_cons_succ]
    refine g_p (v := ?_) (by rfl) ?_ ?_
    rotate_left
    · intro wx
      go_simp
      try (with_reducible rfl)
    try simp only [Act.put, List.setIfInBounds_toArray, List.set_cons_zero, List.set_cons_succ]
    refine g_p (v := ?_) (by rfl) ?_ ?_
    rotate_left
    · intro wx
      go_simp
      try (with_reducible rfl)
    try simp only [Act.put, List.setIfInBounds_toArray, List.set_cons_zero, List.set_cons_succ]
    refine g_nil (fun G w2 hb2 hG2 hNG => ?_)
    try simp only [Act.put, List.setIfInBounds_toArray, List.set_cons_zero, List.set_cons_succ]
    have g0 := hG2.cell 0 rfl
    have g1 := hG2.cell 1 rfl
    have gf := hG2.frozen
    refine tplan_b rfl (fun K hK => ?_)
    go_simp
    refine hK _ _ ⟨trivial, ?_⟩
    clear hK K
    try simp only [Act.put, List.setIfInBounds_toArray, List.set_cons_zero, List.set_cons_succ]
    refine tplan_endQ ?_
    have hGv := (hG2.set 0 (.int .u64 (maskTo (nxE A n e o) n : Int))).set 1 (.int .u64 (maskTo (nxE A n o e) n : Int))
    have hbv : Below wr.heap.size wr ((w2.setCell ⟨G, 0, none⟩ (.int .u64 (maskTo (nxE A n e o) n : Int))).setCell ⟨G, 1, none⟩ (.int .u64 (maskTo (nxE A n o e) n : Int))) := (hb2.setCell (p := ⟨G, 0, none⟩) hNG _).setCell (p := ⟨G, 1, none⟩) hNG _
    generalize ((w2.setCell ⟨G, 0, none⟩ (.int .u64 (maskTo (nxE A n e o) n : Int))).setCell ⟨G, 1, none⟩ (.int .u64 (maskTo (nxE A n o e) n : Int))) = w3 at *
    have HM : Hid (grpM wr (w.heap.size + 1 + 1) n = (2 ^ n - maskTo e n) + (2 ^ n - maskTo o n)) := by show _ = _; unfold grpM; rw [cellNat_is e0, cellNat_is e1]
    have HLS := Lib.hid (grpM_less (A := A) (n := n) (e := e) (o := o))
    have HDN := Lib.hid (fun h1 h2 => HI.out.done hA hs h1 h2)
    have HNX := Lib.hid HI.out.next
    have q1 := mask_eq_iff (p := nxE A n e o) (q := e) (k := n)
    have q2 := mask_eq_iff (p := nxE A n o e) (q := o) (k := n)
    clear hG2 g0 g1 gf hb2 r1 r2 CE CO e0 e1 c1 HI
    replace k0 := k0.to hbv
    replace k1 := k1.to hbv
    replace k2 := k2.to hbv
    have b3 := hb.trans (hbv.mono hb.size)
    have lG := hGv.lt
    have u0 := hGv.cell 0 (v := .int .u64 (maskTo (nxE A n e o) n : Int)) rfl
    have u1 := hGv.cell 1 (v := .int .u64 (maskTo (nxE A n o e) n : Int)) rfl
    have v0 := k2.cell 0 (v := .int .u64 (maskTo e n : Int)) rfl
    have v1 := k2.cell 1 (v := .int .u64 (maskTo o n : Int)) rfl
    have vf := k2.frozen
    have t0 := k1.cell 0 (v := .int .u64 0) rfl
    have t1 := k1.cell 1 (v := .int .u64 0) rfl
    have tf := k1.frozen
    have hGZ : G ≠ w.heap.size ∧ G ≠ w.heap.size + 1 ∧ G ≠ w.heap.size + 1 + 1 := by omega
    by_cases hd : (∀ j, j < n → nxE A n e o j = e j) ∧ ∀ j, j < n → nxE A n o e j = o j
    · obtain ⟨d1, d2⟩ := hd
      rw [decide_eq_true d1] at q1
      rw [decide_eq_true d2] at q2
      have HE := Lib.hid (HDN.out d1 d2)
      clear d1 d2 HDN HLS HM HNX hA
      generalize maskTo (nxE A n e o) n = a1 at *
      generalize maskTo (nxE A n o e) n = a2 at *
      generalize maskTo e n = a3 at *
      generalize maskTo o n = a4 at *
      have q3 : (a1 : Int) = a3 := by simpa using q1
      have q4 : (a2 : Int) = a4 := by simpa using q2
      have ke := (k1.set 0 (.int .u64 a3)).set 1 (.int .u64 a4)
      have bE : Below w.heap.size w ((w3.setCell ⟨w.heap.size + 1, 0, none⟩ (.int .u64 a3)).setCell ⟨w.heap.size + 1, 1, none⟩ (.int .u64 a4)) := (b3.setCell (p := ⟨w.heap.size + 1, 0, none⟩) (by simp) _).setCell (p := ⟨w.heap.size + 1, 1, none⟩) (by simp) _
      go_wp2
      generalize ((w3.setCell ⟨w.heap.size + 1, 0, none⟩ (.int .u64 a3)).setCell ⟨w.heap.size + 1, 1, none⟩ (.int .u64 a4)) = wE at *
      have z0 := ke.cell 0 (v := .int .u64 a3) (by simp)
      have z1 := ke.cell 1 (v := .int .u64 a4) (by simp)
      refine bodyPost_ret_by (v := .agg #[.int .u64 a3, .int .u64 a4]) ?_ rfl ⟨by rw [HE.out.1, HE.out.2], bE⟩
      simp [results, Tryd.results78, go_sem, z0, z1]
    · have HD := Lib.hid (HLS.out hd)
      have q3 : ¬ ((maskTo (nxE A n e o) n : Int) = maskTo e n ∧ (maskTo (nxE A n o e) n : Int) = maskTo o n) := by
        rintro ⟨h1, h2⟩
        exact hd ⟨mask_inj (by omega), mask_inj (by omega)⟩
      have q4 : (((maskTo (nxE A n e o) n : Int) == maskTo e n) && ((maskTo (nxE A n o e) n : Int) == maskTo o n)) = false := by
        rw [Bool.eq_false_iff]; intro h; rw [Bool.and_eq_true, beq_iff_eq, beq_iff_eq] at h; exact q3 h
      have HQ := Lib.hid q3
      clear hd q1 q2 q3 HDN HLS hA
      have ke := (k2.set 0 (.int .u64 (maskTo (nxE A n e o) n : Int))).set 1 (.int .u64 (maskTo (nxE A n o e) n : Int))
      have bE : Below w.heap.size w ((w3.setCell ⟨w.heap.size + 1 + 1, 0, none⟩ (.int .u64 (maskTo (nxE A n e o) n : Int))).setCell ⟨w.heap.size + 1 + 1, 1, none⟩ (.int .u64 (maskTo (nxE A n o e) n : Int))) := (b3.setCell (p := ⟨w.heap.size + 1 + 1, 0, none⟩) (by simp; omega) _).setCell (p := ⟨w.heap.size + 1 + 1, 1, none⟩) (by simp; omega) _
      have j0 := (k0.far (p := ⟨w.heap.size + 1 + 1, 0, none⟩) (by simp; omega) (.int .u64 (maskTo (nxE A n e o) n : Int))).far (p := ⟨w.heap.size + 1 + 1, 1, none⟩) (by simp; omega) (.int .u64 (maskTo (nxE A n o e) n : Int))
      have j1 := (k1.far (p := ⟨w.heap.size + 1 + 1, 0, none⟩) (by simp) (.int .u64 (maskTo (nxE A n e o) n : Int))).far (p := ⟨w.heap.size + 1 + 1, 1, none⟩) (by simp) (.int .u64 (maskTo (nxE A n o e) n : Int))
      have HM2 : Hid (grpM ((w3.setCell ⟨w.heap.size + 1 + 1, 0, none⟩ (.int .u64 (maskTo (nxE A n e o) n : Int))).setCell ⟨w.heap.size + 1 + 1, 1, none⟩ (.int .u64 (maskTo (nxE A n o e) n : Int))) (w.heap.size + 1 + 1) n < grpM wr (w.heap.size + 1 + 1) n) := by
        show _ < _
        rw [HM.out]
        unfold grpM
        rw [cellNat_is (ke.cell 0 (v := .int .u64 (maskTo (nxE A n e o) n : Int)) (by simp)), cellNat_is (ke.cell 1 (v := .int .u64 (maskTo (nxE A n o e) n : Int)) (by simp))]
        exact HD.out
      have ke2 : Blk ((w3.setCell ⟨w.heap.size + 1 + 1, 0, none⟩ (.int .u64 (maskTo (nxE A n e o) n : Int))).setCell ⟨w.heap.size + 1 + 1, 1, none⟩ (.int .u64 (maskTo (nxE A n o e) n : Int))) (w.heap.size + 1 + 1) #[.int .u64 (maskTo (nxE A n e o) n : Int), .int .u64 (maskTo (nxE A n o e) n : Int)] 74 := ke
      have HR := Lib.hid (And.intro (show ∃ e' o' : Nat → Bool, Blk ((w3.setCell ⟨w.heap.size + 1 + 1, 0, none⟩ (.int .u64 (maskTo (nxE A n e o) n : Int))).setCell ⟨w.heap.size + 1 + 1, 1, none⟩ (.int .u64 (maskTo (nxE A n o e) n : Int))) w.heap.size #[.int .i64 (n : Int), .slice (some ⟨gX, 0, none⟩) n n, .slice AJ j cJ, .int .u64 f0, .int .u64 f1] 62 ∧ Blk ((w3.setCell ⟨w.heap.size + 1 + 1, 0, none⟩ (.int .u64 (maskTo (nxE A n e o) n : Int))).setCell ⟨w.heap.size + 1 + 1, 1, none⟩ (.int .u64 (maskTo (nxE A n o e) n : Int))) (w.heap.size + 1) #[.int .u64 0, .int .u64 0] 74 ∧ Blk ((w3.setCell ⟨w.heap.size + 1 + 1, 0, none⟩ (.int .u64 (maskTo (nxE A n e o) n : Int))).setCell ⟨w.heap.size + 1 + 1, 1, none⟩ (.int .u64 (maskTo (nxE A n o e) n : Int))) (w.heap.size + 1 + 1) #[.int .u64 (maskTo e' n : Int), .int .u64 (maskTo o' n : Int)] 74 ∧ Hid (SideInv A n s e' o') ∧ Below w.heap.size w ((w3.setCell ⟨w.heap.size + 1 + 1, 0, none⟩ (.int .u64 (maskTo (nxE A n e o) n : Int))).setCell ⟨w.heap.size + 1 + 1, 1, none⟩ (.int .u64 (maskTo (nxE A n o e) n : Int))) from ⟨_, _, j0, j1, ke2, HNX.out, bE⟩) HM2.out)
      clear HM HD j0 j1 ke ke2 bE HNX HM2
      generalize maskTo (nxE A n e o) n = a1 at *
      generalize maskTo (nxE A n o e) n = a2 at *
      generalize maskTo e n = a3 at *
      generalize maskTo o n = a4 at *
      by_cases h1 : a1 = a3
      · subst h1
        have h2 : ¬ (a2 : Int) = a4 := fun h => HQ.out ⟨rfl, h⟩
        clear q4
        go_wp2
        exact HR.out
      · have h2 : ¬ (a1 : Int) = a3 := by omega
        clear q4 h1
        go_wp2
        exact HR.out
end Go.Proofs.YtdoheipnfdbioaaDoor
