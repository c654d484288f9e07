/-
  Proved: for every channel, the program's ChannelText answers as the model's and leaves the channel alone (strconv's tables laid). No condition beyond the row's laid tables.
-/
import Derived.Test.YtiadoekhhmcokaaDoorChanE
import Derived.Test.YtiadoekhhmcokaaDoorJoin
namespace Go.Proofs.YtiadoekhhmcokaaDoor
set_option linter.unusedSimpArgs false
set_option linter.unusedVariables false
open Go.ChangeShapes Go.WideShapes Go.ChangeAt Go.RowKit

/-- strconv's table lies as it is laid. -/
def PowAt (w : World) : Prop := Lib.TabIs Tryd.prog w "internal/strconv.uint64pow10" .u64 Lib.pow10Tab
theorem PowAt.to {w w1 : World} (h : PowAt w) (hb : Below w.heap.size w w1) : PowAt w1 := Go.Joins.tab_stays fnExactDecimal.gPow h hb (Nat.le_refl _)

theorem chan_pins {T B : List Int} (h : chanB T B = true) : (pinsTo T B T.length).all inNet = true := by
  unfold chanB at h
  simp only [Bool.and_eq_true] at h
  exact h.1.2
theorem pins_at {T B : List Int} {n : Nat} (h : (pinsTo T B n).all inNet = true) {i : Nat} (hi : i < n) : inNet (T.getD i 0) = true ∧ inNet (B.getD i 0) = true := by
  induction n with
  | zero => omega
  | succ n ih =>
    simp only [pinsTo, List.all_append, List.all_cons, List.all_nil, Bool.and_true, Bool.and_eq_true] at h
    by_cases e : i = n
    · subst e; exact h.2
    · exact ih h.1 (by omega)
theorem itm_of {ns : List Int} {n : Nat} (h : ∀ i, i < n → inNet (ns.getD i 0) = true) : itmTo ns n = true := by
  induction n with
  | zero => rfl
  | succ n ih =>
    unfold itmTo
    rw [ih (fun i hi => h i (by omega))]
    have := h n (by omega)
    unfold inNet inB at this
    have := of_decide_eq_true this
    rw [Bool.true_and]
    exact inB_t (by omega) (by omega)
theorem chan_items {T B : List Int} (h : chanB T B = true) : itmTo T T.length = true ∧ itmTo B B.length = true := by
  obtain ⟨_, _, hb⟩ := chanB_form h
  have hp := chan_pins h
  rw [hb]
  exact ⟨itm_of fun i hi => (pins_at hp hi).1, itm_of fun i hi => (pins_at hp hi).2⟩
/-- The bytes of a list's text. -/
def lstB (ns : List Int) : List UInt8 := if ns.length = 0 then [110, 111, 110, 101] else cmm (wrds ns) ns.length
theorem lstT_eq (ns : List Int) : lstT ns = ⟨(lstB ns).toArray⟩ := by
  unfold lstT lstB
  split <;> rfl
theorem lstB_len {ns : List Int} (h : ns.length ≤ 60) (hi : itmTo ns ns.length = true) : (lstB ns).length ≤ 1400 := by
  unfold lstB
  split
  · simp
  · have hl := cmm_len (wrds_len hi) ns.length (by simp [wrds])
    have : ns.length * (21 + 1) ≤ 60 * 22 := Nat.mul_le_mul h (Nat.le_refl _)
    omega
/-- The text of a channel. -/
def chTx (T B : List Int) : ByteArray := ⟨(lstB T ++ 47 :: lstB B).toArray⟩
def chTxV (T B : List Int) : Value := if chanB T B = true then .tuple #[.string (chTx T B), .bool true] else .tuple #[.string ⟨#[]⟩, .bool false]
theorem chTxV_f {T B : List Int} (h : chanB T B = false) : chTxV T B = .tuple #[.string ⟨#[]⟩, .bool false] := by unfold chTxV; rw [h]; rfl
theorem chTxV_t {T B : List Int} (h : chanB T B = true) : chTxV T B = .tuple #[.string (chTx T B), .bool true] := by unfold chTxV; rw [h]; rfl
theorem chTxV_parts (T B : List Int) : ∃ s b, chTxV T B = .tuple #[.string s, .bool b] := by
  cases h : chanB T B
  · exact ⟨_, _, chTxV_f h⟩
  · exact ⟨_, _, chTxV_t h⟩
/-- One box of two cells, and nothing has turned below. -/
theorem keepC {w0 wr wr' : World} {b : Nat} {X Y : Value} (h : wr.cell? ⟨b, 0, none⟩ = some X ∧ wr.cell? ⟨b, 1, none⟩ = some Y ∧ Below w0.heap.size w0 wr ∧ w0.heap.size ≤ wr.heap.size) (hs : Below wr.heap.size wr wr') :
    wr'.cell? ⟨b, 0, none⟩ = some X ∧ wr'.cell? ⟨b, 1, none⟩ = some Y ∧ Below w0.heap.size w0 wr' ∧ w0.heap.size ≤ wr'.heap.size := by
  obtain ⟨h0, h1, hb, hz⟩ := h
  have l1 : b < wr.heap.size := World.block_lt_of_cell? wr _ h0
  exact ⟨(hs.cell (p := ⟨b, 0, none⟩) l1).trans h0, (hs.cell (p := ⟨b, 1, none⟩) l1).trans h1, hb.trans (hs.mono hz), Nat.le_trans hz hs.size⟩
theorem drewC {w0 wr : World} {b : Nat} {X Y : Value} (h : wr.cell? ⟨b, 0, none⟩ = some X ∧ wr.cell? ⟨b, 1, none⟩ = some Y ∧ Below w0.heap.size w0 wr ∧ w0.heap.size ≤ wr.heap.size) :
    wr.drew.cell? ⟨b, 0, none⟩ = some X ∧ wr.drew.cell? ⟨b, 1, none⟩ = some Y ∧ Below w0.heap.size w0 wr.drew ∧ w0.heap.size ≤ wr.drew.heap.size := by
  obtain ⟨h0, h1, hb, hz⟩ := h
  exact ⟨h0, h1, hb.drew, hz⟩
theorem thirdC {a b e : Prop} {w0 wr : World} (h : a ∧ b ∧ Below w0.heap.size w0 wr ∧ e) : Below w0.heap.size w0 wr := h.2.2.1

set_option maxHeartbeats 1600000 in
theorem l03Text_any (b : Nat) (A A' : Option Addr) (T B : List Int) (c c' : Nat) (w : World) (hb : ChAt w b A A' T.length B.length c c') (hp : IntsAt w w.heap.size A T) (hq : IntsAt w w.heap.size A' B) (hv : chanB T B = true) :
    Calls Tryd.prog 82 #[.pointer (some ⟨b, 0, none⟩)] w fun e w' => e = .returned (.string (chTx T B)) ∧ Below w.heap.size w w' := by
  obtain ⟨h1, h24, hBT⟩ := chanB_form hv
  obtain ⟨hi1, hi2⟩ := chan_items hv
  have F : Hid (chTx T B = ⟨(lstB T ++ 47 :: lstB B).toArray⟩) := rfl
  have cT := fun w1 (h : Below w.heap.size w w1) => l01Text_any A T c w1 (hp.to h) (by omega) hi1
  have cB := fun w1 (h : Below w.heap.size w w1) => l01Text_any A' B c' w1 (hq.to h) (by omega) hi2
  have l1 := lstB_len (by omega) hi1
  have l2 := lstB_len (by omega) hi2
  rw [lstT_eq] at cT cB
  generalize lstB T = lx at *
  generalize lstB B = ly at *
  obtain ⟨n, hn⟩ : ∃ n, T.length = n := ⟨_, rfl⟩
  obtain ⟨n', hn'⟩ : ∃ n, B.length = n := ⟨_, rfl⟩
  rw [hn] at cT hb
  rw [hn'] at cB hb
  have CT := Lib.hid cT
  have CB := Lib.hid cB
  obtain ⟨hlt, e0, e1⟩ := hb
  have s1 : ∀ w, (Op.stringOp .add ⟨lx.toArray⟩ ⟨#[47]⟩).run Tryd.prog w = .ok (.string ⟨(lx ++ [47]).toArray⟩) w := fun w => run_string_add_lists w lx [47] (by omega) (by simp)
  have s2 : ∀ w, (Op.stringOp .add ⟨(lx ++ [47]).toArray⟩ ⟨ly.toArray⟩).run Tryd.prog w = .ok (.string ⟨(lx ++ 47 :: ly).toArray⟩) w := fun w => by
      have := run_string_add_lists (P := Tryd.prog) w (lx ++ [47]) ly (by simp; omega) (by omega)
      rwa [List.append_assoc] at this
  clear cT cB l1 l2 hi1 hi2 hv h1 h24 hBT hn hn' hp hq
  go_enter Tryd.func82, Tryd.ntmps82
  go_wp2
  go_region_held3 (fun wx => wx.cell? ⟨b, 0, none⟩ = some (.slice A n c) ∧ wx.cell? ⟨b, 1, none⟩ = some (.slice A' n' c') ∧ Below w.heap.size w wx ∧ w.heap.size ≤ wx.heap.size)
    (first | exact drewC (by assumption) | exact keepC (by assumption) (by assumption) | exact ⟨e0, e1, (Below.refl _ _).drew, Nat.le_refl _⟩ | exact ⟨e0, e1, Below.refl _ _, Nat.le_refl _⟩)
    (first
      | (go_at_call_of 109 (Value.slice A n c); refine (CT.out _ (thirdC (by assumption))).mono ?_; rintro e w' ⟨rfl, hb'⟩)
      | (go_at_call_of 109 (Value.slice A' n' c'); refine (CB.out _ (thirdC (by assumption))).mono ?_; rintro e w' ⟨rfl, hb'⟩))
  go_wp2
  go_ret
  exact ⟨by rw [F.out]; rfl, thirdC (by assumption)⟩

theorem ChannelTextS_any (A A' : Option Addr) (T B : List Int) (c c' : Nat) (w : World) (hp : IntsAt w w.heap.size A T) (hq : IntsAt w w.heap.size A' B) :
    Calls Tryd.prog 47 #[.agg #[.slice A T.length c, .slice A' B.length c']] w fun e w' => e = .returned (chTxV T B) ∧ Below w.heap.size w w' := by
  have hb0 : Below w.heap.size w (w.alloc (.cells #[.slice A T.length c, .slice A' B.length c'] 34)) := by (repeat (first | assumption | exact Below.refl _ _ | (refine bl_alloc ?_ _) | (refine Below.drew ?_) | (refine bl_drewN ?_ _) | (refine bl_set ?_ (by first | (simp; done) | omega | (simp; omega)) _) | (refine bl_trans ?_ (by assumption)) | (refine bl_step ?_ (by assumption) (by first | omega | exact Below.size (by assumption) | (simp; omega) | (simp; exact Below.size (by assumption))))))
  have hca := ChAt.new w A A' T.length B.length c c' 34
  have hc := l03Is_any w.heap.size A A' T B c c' _ hca (hp.to hb0) (hq.to hb0)
  cases hv : chanB T B
  · have R := Lib.hid (chTxV_f hv)
    rw [hv] at hc
    clear hv
    go_enter Tryd.func47, Tryd.ntmps47
    go_wp2_with (go_at_call 58; refine hc.mono ?_; rintro e w1 ⟨rfl, hb1⟩)
    go_ret2
    exact ⟨by rw [R.out]; rfl, by (repeat (first | assumption | exact Below.refl _ _ | (refine bl_alloc ?_ _) | (refine Below.drew ?_) | (refine bl_drewN ?_ _) | (refine bl_set ?_ (by first | (simp; done) | omega | (simp; omega)) _) | (refine bl_trans ?_ (by assumption)) | (refine bl_step ?_ (by assumption) (by first | omega | exact Below.size (by assumption) | (simp; omega) | (simp; exact Below.size (by assumption))))))⟩
  · have R := Lib.hid (chTxV_t hv)
    have HV := Lib.hid hv
    rw [hv] at hc
    clear hv
    go_enter Tryd.func47, Tryd.ntmps47
    go_wp2_with fail
    refine hc.mono ?_
    rintro e w1 ⟨rfl, hb1⟩
    have b1 := bl_step hb0 hb1 hb0.size
    have hca1 := hca.to hb1
    go_wp2_with fail
    refine (l03Text_any _ _ _ _ _ _ _ _ hca1 (hp.to b1) (hq.to b1) HV.out).mono ?_
    rintro e w2 ⟨rfl, hb2⟩
    go_wp2
    go_ret2
    exact ⟨by rw [R.out]; rfl, by (repeat (first | assumption | exact Below.refl _ _ | (refine bl_alloc ?_ _) | (refine Below.drew ?_) | (refine bl_drewN ?_ _) | (refine bl_set ?_ (by first | (simp; done) | omega | (simp; omega)) _) | (refine bl_trans ?_ (by assumption)) | (refine bl_step ?_ (by assumption) (by first | omega | exact Below.size (by assumption) | (simp; omega) | (simp; exact Below.size (by assumption))))))⟩
set_option maxHeartbeats 1600000 in
theorem ChannelTextI_any (A A' : Option Addr) (T B : List Int) (c c' : Nat) (w : World) (hp : IntsAt w w.heap.size A T) (hq : IntsAt w w.heap.size A' B) (hL : PowAt w) :
    Calls Tryd.prog 48 #[.agg #[.slice A T.length c, .slice A' B.length c']] w fun e w' => e = .returned (chTxV T B) ∧ Below w.heap.size w w' := by
  have hb0 : Below w.heap.size w (w.alloc (.cells #[.slice A T.length c, .slice A' B.length c'] 34)) := by (repeat (first | assumption | exact Below.refl _ _ | (refine bl_alloc ?_ _) | (refine Below.drew ?_) | (refine bl_drewN ?_ _) | (refine bl_set ?_ (by first | (simp; done) | omega | (simp; omega)) _) | (refine bl_trans ?_ (by assumption)) | (refine bl_step ?_ (by assumption) (by first | omega | exact Below.size (by assumption) | (simp; omega) | (simp; exact Below.size (by assumption))))))
  have hca := ChAt.new w A A' T.length B.length c c' 34
  have hc := ValidChannelI_any A A' T B c c' (w.alloc (.cells #[.slice A T.length c, .slice A' B.length c'] 34)) (hp.to hb0) (hq.to hb0)
  cases hv : chanB T B
  · have R := Lib.hid (chTxV_f hv)
    rw [hv] at hc
    clear hv
    go_enter Tryd.func48, Tryd.ntmps48
    go_wp2_with (go_at_call 83; refine hc.mono ?_; rintro e w1 ⟨rfl, hb1⟩)
    go_ret2
    exact ⟨by rw [R.out]; rfl, by (repeat (first | assumption | exact Below.refl _ _ | (refine bl_alloc ?_ _) | (refine Below.drew ?_) | (refine bl_drewN ?_ _) | (refine bl_set ?_ (by first | (simp; done) | omega | (simp; omega)) _) | (refine bl_trans ?_ (by assumption)) | (refine bl_step ?_ (by assumption) (by first | omega | exact Below.size (by assumption) | (simp; omega) | (simp; exact Below.size (by assumption))))))⟩
  · have R := Lib.hid (chTxV_t hv)
    obtain ⟨h1, h24, hBT⟩ := chanB_form hv
    obtain ⟨hi1, hi2⟩ := chan_items hv
    rw [hv] at hc
    have F : Hid (chTx T B = ⟨(lstB T ++ 47 :: lstB B).toArray⟩) := rfl
    have cT := fun w1 (h : Below w.heap.size w w1) => joinInts_any A T c w1 (hp.to h) (by omega) hi1 (hL.to h)
    have cB := fun w1 (h : Below w.heap.size w w1) => joinInts_any A' B c' w1 (hq.to h) (by omega) hi2 (hL.to h)
    have l1 := lstB_len (by omega) hi1
    have l2 := lstB_len (by omega) hi2
    rw [lstT_eq] at cT cB
    generalize lstB T = lx at *
    generalize lstB B = ly at *
    obtain ⟨n, hn⟩ : ∃ n, T.length = n := ⟨_, rfl⟩
    obtain ⟨n', hn'⟩ : ∃ n, B.length = n := ⟨_, rfl⟩
    rw [hn, hn'] at hca hc hb0
    rw [hn] at cT
    rw [hn'] at cB
    rw [hn, hn']
    have CT := Lib.hid cT
    have CB := Lib.hid cB
    have s1 : ∀ w, (Op.stringOp .add ⟨lx.toArray⟩ ⟨#[47]⟩).run Tryd.prog w = .ok (.string ⟨(lx ++ [47]).toArray⟩) w := fun w => run_string_add_lists w lx [47] (by omega) (by simp)
    have s2 : ∀ w, (Op.stringOp .add ⟨(lx ++ [47]).toArray⟩ ⟨ly.toArray⟩).run Tryd.prog w = .ok (.string ⟨(lx ++ 47 :: ly).toArray⟩) w := fun w => by
      have := run_string_add_lists (P := Tryd.prog) w (lx ++ [47]) ly (by simp; omega) (by omega)
      rwa [List.append_assoc] at this
    clear cT cB l1 l2 hi1 hi2 hv h1 h24 hBT hn hn'
    go_enter Tryd.func48, Tryd.ntmps48
    go_wp2_with fail
    refine hc.mono ?_
    rintro e w1 ⟨rfl, hb1⟩
    have b1 := bl_step hb0 hb1 hb0.size
    obtain ⟨_, e0, e1⟩ := hca.to hb1
    have B1 := Lib.hid b1
    clear hca hc hp hq hb0 hb1 hL
    go_wp2
    go_region_held3 (fun wx => wx.cell? ⟨w.heap.size, 0, none⟩ = some (.slice A n c) ∧ wx.cell? ⟨w.heap.size, 1, none⟩ = some (.slice A' n' c') ∧ Below w.heap.size w wx ∧ w.heap.size ≤ wx.heap.size)
      (first | exact drewC (by assumption) | exact keepC (by assumption) (by assumption) | exact ⟨e0, e1, b1.drew, b1.size⟩ | exact ⟨e0, e1, b1, b1.size⟩)
      (first
        | (go_at_call_of 84 (Value.slice A n c); refine (CT.out _ (thirdC (by assumption))).mono ?_; rintro e w' ⟨rfl, hb'⟩)
        | (go_at_call_of 84 (Value.slice A' n' c'); refine (CB.out _ (thirdC (by assumption))).mono ?_; rintro e w' ⟨rfl, hb'⟩))
    go_wp2
    go_ret2
    exact ⟨by rw [R.out, F.out]; rfl, thirdC (by assumption)⟩
end Go.Proofs.YtiadoekhhmcokaaDoor
namespace Go.Proofs.YtiadoekhhmcokaaDoor.fnExactChannelText
open Go.ChangeShapes Go.WideShapes Go.ChangeAt Go.RowKit

set_option maxRecDepth 100000 in
set_option maxHeartbeats 800000 in
theorem walk (A : Option Addr) (T : List Int) (c : Nat) (A' : Option Addr) (B : List Int) (c' : Nat) (w : World) (h : RowIn w A T c) (h' : RowIn w A' B c') (hL : PowAt w) :
    Calls Tryd.prog 12 #[.agg #[.slice A T.length c, .slice A' B.length c']] w fun e w' => e = .returned (.bool true) ∧ Below w.heap.size w w' := by
  obtain ⟨hp, _, hlc, hc⟩ := h
  obtain ⟨hq, _, hlc', hc'⟩ := h'
  have hb0 : Below w.heap.size w (w.alloc (.cells #[.slice A T.length c, .slice A' B.length c'] 30)) := by (repeat (first | assumption | exact Below.refl _ _ | (refine bl_alloc ?_ _) | (refine Below.drew ?_) | (refine bl_drewN ?_ _) | (refine bl_set ?_ (by first | (simp; done) | omega | (simp; omega)) _) | (refine bl_trans ?_ (by assumption)) | (refine bl_step ?_ (by assumption) (by first | omega | exact Below.size (by assumption) | (simp; omega) | (simp; exact Below.size (by assumption))))))
  by_cases hs : T.length + B.length ≤ 1048576
  · obtain ⟨tx, b, hv⟩ : ∃ tx b, chTxV T B = .tuple #[.string tx, .bool b] := chTxV_parts _ _
    have H := Lib.hid hv
    have hl : T.length ≤ 1048576 := by omega
    have hl' : B.length ≤ 1048576 := by omega
    clear hv
    go_enter Tryd.func12, Tryd.ntmps12
    go_wp2_with fail
    refine (szChannel_fits _ _ _ _ _ _ _ hs).mono ?_
    rintro e w1 ⟨⟨k, hk, rfl⟩, hb1⟩
    have hkI : ¬ k < 0 := by omega
    have hca := (ChAt.new w A A' T.length B.length c c' 30).to hb1
    have b1 : Below w.heap.size w w1 := bl_step hb0 hb1 (by simp)
    have hca1 := hca
    obtain ⟨_, e0, e1⟩ := hca1
    clear hb1 hb0
    go_wp2_with fail
    refine (toChannel_new _ _ _ _ _ _ _ (hp.to b1) (hq.to b1) hl hl').mono ?_
    rintro e w2 ⟨g1, g2, rfl, hB1, hB2, hb2, hg1, hg2⟩
    have b2 := bl_step b1 hb2 b1.size
    go_wp2_with fail
    refine (ChannelTextS_any _ _ _ _ _ _ _ hB1.nums hB2.nums).mono ?_
    rintro e w3 ⟨rfl, hb3⟩
    rw [H.out]
    have hca3 := (hca.to hb2).to hb3
    have b3 := bl_step b2 hb3 b2.size
    clear e0 e1 hca b1 hB1 hB2 hb2 hb3 b2 hg1 hg2
    have hca3' := hca3
    obtain ⟨_, e0, e1⟩ := hca3'
    go_wp2_with fail
    refine (toChannel_new _ _ _ _ _ _ _ (hp.to b3) (hq.to b3) hl hl').mono ?_
    rintro e w4 ⟨g3, g4, rfl, hB3, hB4, hb4, hg3, hg4⟩
    have b4 := bl_step b3 hb4 b3.size
    have hca4 := hca3.to hb4
    clear e0 e1 b3 hca3 hb4
    have hx4 : Below w4.heap.size w4 (w4.alloc (.cells #[.slice (some ⟨g3, 0, none⟩) T.length T.length, .slice (some ⟨g4, 0, none⟩) B.length B.length] 34)) := (Below.refl _ _).alloc (Nat.le_refl _) _
    have b4' := bl_step b4 hx4 b4.size
    have hcx := ChAt.new w4 (some ⟨g3, 0, none⟩) (some ⟨g4, 0, none⟩) T.length B.length T.length B.length 34
    have hB3' := hB3.to hx4
    have hB4' := hB4.to hx4
    have hca4' := hca4.to hx4
    clear hB3 hB4 hca4 hx4
    go_wp2_with fail
    refine (ChannelTextI_any _ _ _ _ _ _ _ hB3'.nums hB4'.nums (hL.to b4')).mono ?_
    rintro e w5 ⟨rfl, hb5⟩
    rw [H.out]
    have b5 := bl_step b4' hb5 b4'.size
    have hB3 := hB3'.to hb5
    have hB4 := hB4'.to hb5
    have hca5 := hca4'.to hb5
    have hcx5 := hcx.to hb5
    clear hB3' hB4' hca4' hcx hb5 b4 b4' hg3 hg4
    obtain ⟨_, e0, e1⟩ := hca5
    obtain ⟨_, e2, e3⟩ := hcx5
    generalize w4.heap.size = X at *
    go_wp2
    go_region_held3 (fun wx => wx.cell? ⟨X, 0, none⟩ = some (.slice (some ⟨g3, 0, none⟩) T.length T.length) ∧ wx.cell? ⟨X, 1, none⟩ = some (.slice (some ⟨g4, 0, none⟩) B.length B.length) ∧ wx.cell? ⟨w.heap.size, 0, none⟩ = some (.slice A T.length c) ∧ wx.cell? ⟨w.heap.size, 1, none⟩ = some (.slice A' B.length c') ∧ Below w5.heap.size w5 wx ∧ w5.heap.size ≤ wx.heap.size)
      (first | exact drewE (by assumption) | exact keepE (by assumption) (by assumption) | exact ⟨e2, e3, e0, e1, (Below.refl _ _).drew, Nat.le_refl _⟩ | exact ⟨e2, e3, e0, e1, Below.refl _ _, Nat.le_refl _⟩)
      (first
        | (go_at_call 21; refine (toChannel_new _ _ _ _ _ _ _ (hp.to (bl_step b5 (fifthE (by assumption)) b5.size)) (hq.to (bl_step b5 (fifthE (by assumption)) b5.size)) hl hl').mono ?_; rintro e w6 ⟨g5, g6, rfl, hB5, hB6, hb6, _, _⟩)
        | (go_at_call 24; refine (eqChannel_same _ _ _ _ _ _ _ _ _ _ _ (hB3.nums.to (fifthE (by assumption))) (hB4.nums.to (fifthE (by assumption))) hB5.nums hB6.nums hl hl').mono ?_; rintro e w7 ⟨rfl, hb7⟩))
    go_wp2
    go_ret
    exact ⟨rfl, bl_step b5 (fifthE (by assumption)) b5.size⟩
  · have hbig : 1048576 < T.length + B.length := by omega
    go_enter Tryd.func12, Tryd.ntmps12
    go_wp2_with fail
    refine (szChannel_big _ _ _ _ _ _ _ hbig (by omega) (by omega)).mono ?_
    rintro e w1 ⟨rfl, hb1⟩
    go_wp2
    go_ret
    exact ⟨rfl, by (repeat (first | assumption | exact Below.refl _ _ | (refine bl_alloc ?_ _) | (refine Below.drew ?_) | (refine bl_drewN ?_ _) | (refine bl_set ?_ (by first | (simp; done) | omega | (simp; omega)) _) | (refine bl_trans ?_ (by assumption)) | (refine bl_step ?_ (by assumption) (by first | omega | exact Below.size (by assumption) | (simp; omega) | (simp; exact Below.size (by assumption))))))⟩
end Go.Proofs.YtiadoekhhmcokaaDoor.fnExactChannelText
