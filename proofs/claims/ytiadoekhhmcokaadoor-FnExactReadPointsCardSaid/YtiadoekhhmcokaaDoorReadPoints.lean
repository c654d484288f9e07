/-
  Proved: for every text, the program's ReadPoints answers as the model's, and its answer owns its memory (strconv's table and errors and package errors' type laid). No condition beyond the row's laid variables.
-/
import Derived.Test.YtiadoekhhmcokaaDoorPRead
import Derived.Test.YtiadoekhhmcokaaDoorMarkQ
import Derived.Test.YtiadoekhhmcokaaDoorAsW
namespace Go.Proofs.YtiadoekhhmcokaaDoor.fnExactReadPoints
set_option linter.unusedSimpArgs false
set_option linter.unusedVariables false
open Go.ChangeShapes Go.WideShapes Go.ChangeAt Go.RowKit

set_option maxHeartbeats 800000 in
theorem isForm_wrap (e : Addr) (pb : Nat) (w : World) (hg : TypeLaid w) (hw : w.cell? ⟨pb, 1, none⟩ = some (.iface 125 (.pointer (some e)))) :
    Calls Tryd.prog 55 #[.iface 124 (.pointer (some ⟨pb, 0, none⟩))] w fun e w' => e = .returned (.bool true) ∧ Below w.heap.size w w' := by
  unfold TypeLaid at hg
  have h0 : 0 < w.heap.size := cell_lt hg
  have h1 : pb < w.heap.size := cell_lt hw
  have hc := as_wrap e ⟨w.heap.size, 0, none⟩ pb (.pointer none) (w.alloc (.cells #[.pointer none] 125)) (by rw [World.cell?_alloc_lt _ _ ⟨pb, 1, none⟩ h1]; exact hw) (by rw [World.cell?_alloc_lt _ _ ⟨0, 0, none⟩ h0]; exact hg) (by simp) (by simp)
  go_enter Tryd.func55, Tryd.ntmps55
  go_wp2_with (go_at_call 94; refine hc.mono ?_; rintro e w' ⟨rfl, rfl⟩)
  go_ret
  exact ⟨rfl, by (repeat (first | assumption | exact Below.refl _ _ | (refine bl_alloc ?_ _) | (refine Below.drew ?_) | (refine bl_drewN ?_ _) | (refine bl_set ?_ (by simp) _) | (refine bl_trans ?_ (by assumption)) | (refine bl_step ?_ (by assumption) (by first | omega | exact Below.size (by assumption) | (simp; omega) | (simp; exact Below.size (by assumption))))))⟩

theorem itoa_inj {a b : Int} (h1 : -1000000000 ≤ a ∧ a ≤ 1000000000) (h2 : -1000000000 ≤ b ∧ b ≤ 1000000000) (h : Lib.itoa a = Lib.itoa b) : a = b := by
  have e1 := itoa_parse a h1.1 h1.2
  have e2 := itoa_parse b h2.1 h2.2
  rw [h, e2] at e1
  injection e1 with e1
  exact e1.symm
theorem ptTx_inj {p q : Int × Int} (h1 : isPt p.1 p.2 = true) (h2 : isPt q.1 q.2 = true) (h : ptTx p = ptTx q) : p = q := by
  have e := congrArg (parts 46) h
  rw [parts_pt, parts_pt] at e
  injection e with e1 e2
  injection e2 with e2 _
  obtain ⟨a1, a2⟩ := isPt_bd h1
  obtain ⟨b1, b2⟩ := isPt_bd h2
  exact Prod.ext (itoa_inj a1 b1 e1) (itoa_inj a2 b2 e2)
theorem map_inj : ∀ {l m : List (Int × Int)}, (∀ n ∈ l, isPt n.1 n.2 = true) → (∀ n ∈ m, isPt n.1 n.2 = true) → l.map ptTx = m.map ptTx → l = m
  | [], [], _, _, _ => rfl
  | [], _ :: _, _, _, h => by simp at h
  | _ :: _, [], _, _, h => by simp at h
  | a :: l, b :: m, h1, h2, h => by
    simp only [List.map_cons, List.cons.injEq] at h
    rw [ptTx_inj (h1 a (by simp)) (h2 b (by simp)) h.1, map_inj (fun n hn => h1 n (by simp [hn])) (fun n hn => h2 n (by simp [hn])) h.2]
theorem list_uniq {s : ByteArray} {l m : List (Int × Int)} (h1 : IsPts s l) (h2 : IsPts s m) : l = m := by
  rcases h1 with ⟨e, h1⟩ | ⟨e, _, p1, b1⟩
  · rcases h2 with ⟨_, h2⟩ | ⟨e2, _⟩
    · rw [h1, h2]
    · exact absurd e e2
  · rcases h2 with ⟨e2, _⟩ | ⟨_, _, p2, b2⟩
    · exact absurd e2 e
    · exact map_inj b1 b2 (p1.symm.trans p2)
theorem list_len {s : ByteArray} {l : List (Int × Int)} (h : IsPts s l) : l.length ≤ 60 := by
  rcases h with ⟨_, rfl⟩ | ⟨_, h, _⟩
  · simp
  · omega

/-- The answer: numbers in memory of its own, and whether it succeeds. -/
def PRes4 (L : List (Int × Int)) (ok : Bool) (w : World) (e : Ending) (w' : World) : Prop :=
  ∃ A c, e = .returned (.tuple #[.slice A L.length c, .bool ok]) ∧ Own4Q w' w.heap.size A L ∧ Below w.heap.size w w'
theorem pres4 {L : List (Int × Int)} {ok : Bool} {w : World} {e : Ending} {w' : World} (h : PRes L ok w e w') : PRes4 L ok w e w' := by
  obtain ⟨v, rfl, ho, hb⟩ := h
  obtain ⟨A, c, rfl, h4⟩ := own4q_of ho
  exact ⟨A, c, rfl, h4, hb⟩

set_option maxHeartbeats 800000 in
theorem readLS_any (s : ByteArray) (w : World) (hs : s.size ≤ 1048576) :
    Calls Tryd.prog 14 #[.string s] w (ReadResP s w) := by
  go_enter Tryd.func14, Tryd.ntmps14
  go_wp2_with fail
  refine (pread_any s _ hs).mono ?_
  rintro e w1 (⟨ns, hL, v, rfl, ho, hb⟩ | ⟨hL, v, rfl, ho, hb⟩)
  · have HL := Lib.hid hL
    clear hL
    go_wp2
    go_ret2
    exact .inl ⟨ns, HL.out, v, rfl, ho, hb⟩
  · have HL := Lib.hid hL
    clear hL
    go_wp2
    go_ret2
    exact .inr ⟨HL.out, v, rfl, ho, hb⟩

set_option maxHeartbeats 800000 in
theorem readLI_any (s : ByteArray) (w : World) (hs : s.size ≤ 1048576) (hl : ParseLaid w) :
    Calls Tryd.prog 15 #[.string s] w (ReadResP s w) := by
  go_enter Tryd.func15, Tryd.ntmps15
  go_wp2_with fail
  refine (splitP_any s _ hs hl).mono ?_
  rintro e w1 ⟨hb, ⟨v, ns, rfl, ho, hL⟩ | ⟨pb, a, rfl, hw, hL⟩⟩
  · have HL := Lib.hid hL
    clear hL
    go_wp2_with fail
    refine (isForm_nil _).mono ?_
    rintro e w2 ⟨rfl, hb2⟩
    have ho2 := ho.to hb2
    have b2 : Below w.heap.size w w2 := bl_step hb hb2 hb.size
    clear ho hb hb2
    go_wp2
    go_ret2
    exact .inl ⟨ns, HL.out, v, rfl, ho2, b2⟩
  · have HL := Lib.hid hL
    clear hL
    go_wp2_with fail
    refine (isForm_wrap a pb _ (hl.stays hb (Nat.le_refl _)).ty hw).mono ?_
    rintro e w2 ⟨rfl, hb2⟩
    have b2 : Below w.heap.size w w2 := bl_step hb hb2 hb.size
    clear hw hb hb2
    go_wp2
    go_ret2
    exact .inr ⟨HL.out, _, rfl, OwnQ.nil_ _ _, b2⟩

theorem both (s : ByteArray) (hs : s.size ≤ 1048576) : ∃ (L : List (Int × Int)) (ok : Bool), L.length ≤ 60 ∧
    (∀ w, Calls Tryd.prog 14 #[.string s] w (PRes4 L ok w)) ∧ (∀ w, ParseLaid w → Calls Tryd.prog 15 #[.string s] w (PRes4 L ok w)) := by
  by_cases h : ∃ ns, IsPts s ns
  · obtain ⟨ns, h⟩ := h
    have key : ∀ (w : World) e w', ReadResP s w e w' → PRes4 ns true w e w' := fun w e w' hr => by
      rcases hr with ⟨ms, hm, hr⟩ | ⟨hm, _⟩
      · rw [list_uniq h hm]; exact pres4 hr
      · exact absurd h (hm ns)
    exact ⟨ns, true, list_len h, fun w => (readLS_any s w hs).mono (key w), fun w hl => (readLI_any s w hs hl).mono (key w)⟩
  · have key : ∀ (w : World) e w', ReadResP s w e w' → PRes4 [] false w e w' := fun w e w' hr => by
      rcases hr with ⟨ms, hm, hr⟩ | ⟨hm, hr⟩
      · exact absurd ⟨ms, hm⟩ h
      · exact pres4 hr
    exact ⟨[], false, by simp, fun w => (readLS_any s w hs).mono (key w), fun w hl => (readLI_any s w hs hl).mono (key w)⟩

set_option maxRecDepth 100000 in
set_option maxHeartbeats 1600000 in
theorem walk (s : ByteArray) (w : World) (hs : s.size ≤ maxLen) (hl : ParseLaid w) :
    Calls Tryd.prog 3 #[.string s] w fun e w' => e = .returned (.bool true) ∧ Below w.heap.size w w' := by
  unfold maxLen at hs
  by_cases h : s.size ≤ 1048576
  · obtain ⟨L, ok, hLl, cS, cI⟩ := both s h
    have hLm : L.length ≤ 1048576 := by omega
    have hI : ¬ 1048576 < (s.size : Int) := by omega
    have hm1 : ¬ (1 + 2 * (L.length : Int)) < 0 := by omega
    cases ok
    all_goals
      go_enter Tryd.func3, Tryd.ntmps3
      go_wp2_with fail
      refine (cS _).mono ?_
      rintro e w1 ⟨A0, c0, rfl, o0, b1⟩
      have p1 : PtsAt w1 w1.heap.size A0 L := o0.pts
      clear o0
      go_wp2_with fail
      refine (cI _ (hl.stays b1 (Nat.le_refl _))).mono ?_
      rintro e w2 ⟨A1, c1, rfl, o2, hb2⟩
      have b2 : Below w.heap.size w w2 := bl_step b1 hb2 b1.size
      have p2 : PtsAt w2 w1.heap.size A0 L := ptq_keep p1 (hb2)
      have z2 : w1.heap.size ≤ w2.heap.size := hb2.size
      clear p1 hb2
      go_wp2_with fail
      refine (eqPointS_same _ _ _ _ _ _ o2.pts (ptq_mono p2 z2) hLm).mono ?_
      rintro e w3 ⟨rfl, hb3⟩
      have b3 : Below w.heap.size w w3 := bl_step b2 hb3 b2.size
      have p3 : PtsAt w3 w1.heap.size A0 L := ptq_keep p2 (hb3.mono z2)
      have o3 := o2.to hb3
      have z3 : w1.heap.size ≤ w3.heap.size := Nat.le_trans z2 hb3.size
      clear p2 o2 hb3
      go_wp2_with fail
      refine (markQ_opt _ L _ w1.heap.size _ o3 hLm).mono ?_
      rintro e w4 ⟨rfl, m4, hO, hnw⟩
      have hA4 : ∀ g, A1 = some ⟨g, 0, none⟩ → 0 < L.length → w1.heap.size ≤ g := fun g e h0 => by obtain ⟨g', e', hg', _⟩ := o3 h0; rw [e'] at e; injection e with e; injection e with e; omega
      have p4 : PtsAt w4 w1.heap.size A0 L := by
        rcases hnw with h0 | rfl
        · exact ptq_only p3 hO (fun g e => hA4 g e h0)
        · exact p3
      have b4 : Below w.heap.size w w4 := by
        rcases hnw with h0 | rfl
        · exact hO.below b3 (fun g e => by have := hA4 g e h0; have := b1.size; omega)
        · exact b3
      have z4 : w1.heap.size ≤ w4.heap.size := by rw [hO.2.2.2.1]; exact z3
      clear p3 o3 hO hnw hA4 b3 z3
      go_wp2_with fail
      refine (heldQ_opt _ L.length _ w1.heap.size _ m4 hLm).mono ?_
      rintro e w5 ⟨rfl, rfl⟩
      go_wp2_with fail
      refine (cI _ (hl.stays b4 (Nat.le_refl _))).mono ?_
      rintro e w6 ⟨A2, c2, rfl, o6, hb6⟩
      have b6 : Below w.heap.size w w6 := bl_step b4 hb6 b4.size
      have p6 : PtsAt w6 w1.heap.size A0 L := ptq_keep p4 (hb6.mono z4)
      have m6 := m4.to hb6
      have z6 : w1.heap.size ≤ w6.heap.size := Nat.le_trans z4 hb6.size
      clear p4 m4 hb6 b4 z4
      go_wp2_with fail
      refine (eqPointS_same _ _ _ _ _ _ o6.pts (ptq_mono p6 z6) hLm).mono ?_
      rintro e w7 ⟨rfl, hb7⟩
      have b7 : Below w.heap.size w w7 := bl_step b6 hb7 b6.size
      have m7 := m6.to hb7
      clear p6 o6 m6 hb7 b6 z6
      go_wp2_with fail
      refine (heldQ_opt _ L.length _ w1.heap.size _ m7 hLm).mono ?_
      rintro e w8 ⟨rfl, rfl⟩
      go_wp2
      go_ret
      exact ⟨rfl, b7⟩
  · have hI : 1048576 < (s.size : Int) := by omega
    go_enter Tryd.func3, Tryd.ntmps3
    go_wp2
    go_ret
    exact ⟨rfl, Below.refl _ _⟩
end Go.Proofs.YtiadoekhhmcokaaDoor.fnExactReadPoints
