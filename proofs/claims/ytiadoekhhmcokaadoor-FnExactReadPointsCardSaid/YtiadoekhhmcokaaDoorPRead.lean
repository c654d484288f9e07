/-
  Contract: spec's l01PRead: the points with a text.
-/
import Derived.Test.YtiadoekhhmcokaaDoorSplitP
import Derived.Test.YtiadoekhhmcokaaDoorNumbers
namespace Go.Proofs.YtiadoekhhmcokaaDoor
set_option linter.unusedSimpArgs false
set_option linter.unusedVariables false
open Go.ChangeShapes Go.WideShapes Go.ChangeAt Go.RowKit

/-- A function's answer: points in memory of its own, and whether it succeeds. -/
def PRes (L : List (Int × Int)) (ok : Bool) (w : World) (e : Ending) (w' : World) : Prop :=
  ∃ v, e = .returned (.tuple #[v, .bool ok]) ∧ OwnQ w' w.heap.size v L ∧ Below w.heap.size w w'
/-- What a reader of points answers. -/
def ReadResP (s : ByteArray) (w : World) (e : Ending) (w' : World) : Prop :=
  (∃ ns, IsPts s ns ∧ PRes ns true w e w') ∨ ((∀ ns, ¬ IsPts s ns) ∧ PRes [] false w e w')

theorem pts_long {s : ByteArray} {O : List ByteArray} (hs : s ≠ ⟨#[110, 111, 110, 101]⟩) (h : byts O = parts 44 s.data.toList) (hl : 24 < O.length) : ∀ ms, ¬ IsPts s ms := by
  rintro ms (⟨e, _⟩ | ⟨_, h60, hp, _⟩)
  · exact hs e
  · have := congrArg List.length (h.trans hp)
    simp [byts] at this
    omega

/-- A text's number, or none. -/
theorem value_or (s : ByteArray) (hs : s.size ≤ 1048576) : ∃ (m : Int) (ok : Bool), (∀ w, Calls Tryd.prog 90 #[.string s] w fun e w' => e = .returned (.tuple #[.int .i64 m, .bool ok]) ∧ Below w.heap.size w w') ∧
    Hid ((ok = true ∧ IsNum s m) ∨ (ok = false ∧ ∀ m, ¬ IsNum s m)) := by
  by_cases h : ∃ m, IsNum s m
  · obtain ⟨m, h⟩ := h
    exact ⟨m, true, fun w => l01Value_num s m w h, .inl ⟨rfl, h⟩⟩
  · have hno : ∀ m, ¬ IsNum s m := fun m hm => h ⟨m, hm⟩
    exact ⟨0, false, fun w => l01Value_bad s w hs (bad_of_none hno _), .inr ⟨rfl, hno⟩⟩
theorem pt_is (x : Int) (y : Int) (b : Bool) (h : Hid (isPt x y = b)) (w : World) :
    Calls Tryd.prog 91 #[.agg #[.int .i64 x, .int .i64 y]] w fun e w' => e = .returned (.bool b) ∧ Below w.heap.size w w' :=
  (l01Point_any x y w).mono fun _ _ ⟨he, hb⟩ => ⟨by rw [he, h.out], hb⟩
theorem parts_two {x a b : ByteArray} {O : List ByteArray} (h : byts O = parts 46 x.data.toList) (e : O = [a, b]) : parts 46 x.data.toList = [a.data.toList, b.data.toList] := by
  rw [← h, e]; rfl
theorem pt_of_two {x a b : ByteArray} {m n : Int} (h : parts 46 x.data.toList = [a.data.toList, b.data.toList]) (ha : IsNum a m) (hb : IsNum b n) (hp : isPt m n = true) : IsPtTx x m n :=
  ⟨by rw [h, ha.2.2, hb.2.2], hp⟩
theorem num_of_pt {x a b : ByteArray} {m n : Int} (h : parts 46 x.data.toList = [a.data.toList, b.data.toList]) (hp : IsPtTx x m n) : IsNum a m ∧ IsNum b n := by
  obtain ⟨e, hpt⟩ := hp
  rw [h] at e
  injection e with e1 e2
  injection e2 with e2 _
  obtain ⟨b1, b2⟩ := isPt_bd hpt
  exact ⟨⟨b1.1, b1.2, e1⟩, ⟨b2.1, b2.2, e2⟩⟩
theorem num_uniq {a : ByteArray} {m n : Int} (h : IsNum a m) (h' : IsNum a n) : m = n := by
  have e1 := itoa_parse m h.1 h.2.1
  have e2 := itoa_parse n h'.1 h'.2.1
  rw [← h.2.2, h'.2.2, e2] at e1
  injection e1 with e1
  exact e1.symm
theorem tail_pts {s x : ByteArray} {O : List ByteArray} {ns : List (Int × Int)} {k : Nat} (hs : s ≠ ⟨#[110, 111, 110, 101]⟩) (hO : byts O = parts 44 s.data.toList) (hM : ns.map ptTx = (byts O).take k) (hk : k < O.length) (hX : (byts O)[k]? = some x.data.toList) (hno : ∀ m n, ¬ IsPtTx x m n) : ∀ ms, ¬ IsPts s ms := by
  refine none_badP (wd := x) (ns := ns) (X := (byts O).drop (k + 1)) hs ?_ hno
  rw [hM, ← hO]
  have hk2 : k < (byts O).length := by simp [byts]; exact hk
  have hg : (byts O)[k] = x.data.toList := Option.some.inj ((List.getElem?_eq_getElem hk2).symm.trans hX)
  rw [← hg, ← List.drop_eq_getElem_cons hk2, List.take_append_drop]

set_option maxHeartbeats 3200000 in
theorem pread_any (s : ByteArray) (w : World) (hs : s.size ≤ 1048576) :
    Calls Tryd.prog 52 #[.string s] w (ReadResP s w) := by
  have ho := OwnQ.empty w w.heap.size (Nat.le_refl _)
  have hb0 : Below w.heap.size w (w.alloc (.cells #[] 66)) := by (repeat (first | assumption | exact Below.refl _ _ | (refine bl_alloc ?_ _) | (refine Below.drew ?_) | (refine bl_drewN ?_ _) | (refine bl_set ?_ (by simp) _) | (refine bl_trans ?_ (by assumption)) | (refine bl_step ?_ (by assumption) (by first | omega | exact Below.size (by assumption) | (simp; omega) | (simp; exact Below.size (by assumption))))))
  by_cases hnone : s = ⟨#[110, 111, 110, 101]⟩
  · subst hnone
    go_enter Tryd.func52, Tryd.ntmps52
    go_wp2
    go_ret2
    exact .inl ⟨[], .inl ⟨rfl, rfl⟩, _, rfl, ho, hb0⟩
  · have hne := tx_ne hnone
    have HNO := Lib.hid hnone
    have hne1 : (s.toList == [110, 111, 110, 101]) = false := by simpa using hne
    have hc := fun w1 => l01Cut_any s 44 w1 hs
    clear hnone hne
    go_enter Tryd.func52, Tryd.ntmps52
    go_wp2_with fail
    refine (hc _).mono ?_
    rintro e w2 ⟨vs, O, rfl, hownS, hO, hb2⟩
    have HO := Lib.hid hO
    obtain ⟨AS, cS, rfl, htx⟩ := hownS.txts
    have ho2 := ho.to hb2
    have hbb : Below w.heap.size w w2 := bl_step hb0 hb2 hb0.size
    have hOpos : 0 < O.length := by
      have h1 := congrArg List.length hO
      have h2 := List.length_pos_iff.2 (parts_ne 44 s.data.toList)
      simp [byts] at h1; omega
    obtain ⟨b, off, rfl, htin⟩ : ∃ b off, AS = some ⟨b, off, none⟩ ∧ TxtIn w2 b off O := by
      obtain ⟨b, off, e, h1, h2⟩ := htx hOpos
      exact ⟨b, off, e, h1, h2⟩
    have hdis : w.heap.size ≠ b := by
      rcases hownS.2 with ⟨e, _⟩ | ⟨g, cap, cur, e, hB, _⟩
      · cases e
      · injection e with e1
        injection e1 with e2
        injection e2 with e3
        simp at hB; omega
    clear hO hownS htx hb2 ho hb0 hOpos hc
    by_cases h60 : O.length ≤ 24
    · have hI : ¬ 24 < (O.length : Int) := by omega
      have hd : decide (24 < O.length) = false := decide_eq_false (by omega)
      go_wp2
      go_loopw [4, 6] (fun v i wr => ∃ (ns : List (Int × Int)) (k : Nat), k ≤ O.length ∧ i = .int .i64 k ∧ OwnQ wr w.heap.size v ns ∧ Hid (ns.length = k) ∧ Hid (ns.map ptTx = (byts O).take k) ∧ Hid (∀ n ∈ ns, isPt n.1 n.2 = true) ∧ TxtIn wr b off O ∧ v.ownBlock ≠ some b ∧ Below w.heap.size w wr) (fun _ i _ => O.length - (intOf i).toNat)
      case atStart => exact ⟨[], 0, Nat.zero_le _, rfl, ho2, rfl, by show _ = _; simp, fun n hn => by simp at hn, htin, by simpa [Value.ownBlock] using hdis, hbb⟩
      case round =>
        clear ho2 hbb htin hdis
        obtain ⟨ns, k, hk, rfl, hown, HL, HM, HB, htin, hdv, hb⟩ := hrel
        by_cases hlt : k < O.length
        · have hltI : (k : Int) < O.length := by omega
          obtain ⟨x, hx⟩ : ∃ x, O[k]? = some x := ⟨O[k], List.getElem?_eq_getElem hlt⟩
          have d0 := htin.2 k x hx
          have HX : Hid ((byts O)[k]? = some x.data.toList) := by show _ = _; simp [byts, hx]
          have hxs : x.size ≤ 1048576 := by
            have h1 := HX.out
            rw [HO.out] at h1
            have h2 := parts_mem 44 _ _ (List.mem_of_getElem? h1)
            have h3 : s.data.toList.length = s.size := by rw [Array.length_toList]; rfl
            have h4 : x.data.toList.length = x.size := by rw [Array.length_toList]; rfl
            omega
          have HZ : Hid ((∀ m n, ¬ IsPtTx x m n) → ∀ ms, ¬ IsPts s ms) := fun hno => tail_pts HNO.out HO.out HM.out hlt HX.out hno
          clear hx
          have hc2 := fun w1 => l01Cut_any x 46 w1 hxs
          go_wp2_with fail
          refine (hc2 _).mono ?_
          rintro e w3 ⟨vs2, O2, rfl, hown2, hO2, hb3⟩
          have HO2 := Lib.hid hO2
          obtain ⟨A2, c2, rfl, htx2⟩ := hown2.txts
          have hown3 := hown.to hb3
          have htin3 := htin.to hb3
          have hbb3 : Below w.heap.size w w3 := bl_step hb hb3 hb.size
          clear hc2 hO2 hown2 hown htin hb hb3 d0
          by_cases h2 : O2.length = 2
          · obtain ⟨p, q, rfl⟩ : ∃ p q, O2 = [p, q] := by
              match O2, h2 with
              | [p, q], _ => exact ⟨p, q, rfl⟩
            obtain ⟨b2, off2, rfl, hlt2, hc2⟩ := htx2 (by simp)
            have d0 := hc2 0 p rfl
            have d1 := hc2 1 q rfl
            have HP := Lib.hid (parts_two HO2.out rfl)
            have hps : p.size ≤ 1048576 ∧ q.size ≤ 1048576 := by
              have h3 : x.data.toList.length = x.size := by rw [Array.length_toList]; rfl
              have h4 : p.data.toList.length = p.size := by rw [Array.length_toList]; rfl
              have h5 : q.data.toList.length = q.size := by rw [Array.length_toList]; rfl
              have h6 := parts_mem 46 x.data.toList p.data.toList (by rw [HP.out]; simp)
              have h7 := parts_mem 46 x.data.toList q.data.toList (by rw [HP.out]; simp)
              omega
            obtain ⟨m, ok1, hv1, HV1⟩ := value_or p hps.1
            obtain ⟨n, ok2, hv2, HV2⟩ := value_or q hps.2
            clear hc2 htx2 h2
            simp only [Nat.add_zero] at d0
            go_wp2_with fail
            refine (hv1 _).mono ?_
            rintro e w4 ⟨rfl, hb4⟩
            have hown4 := hown3.to hb4
            have htin4 := htin3.to hb4
            have hbb4 : Below w.heap.size w w4 := bl_step hbb3 hb4 hbb3.size
            have e1 := (hb4.cell (p := ⟨b2, off2 + 1, none⟩) hlt2).trans d1
            clear hown3 htin3 hbb3 d0 d1 hv1
            go_wp2_with fail
            refine (hv2 _).mono ?_
            rintro e w5 ⟨rfl, hb5⟩
            have hown5 := hown4.to hb5
            have htin5 := htin4.to hb5
            have hbb5 : Below w.heap.size w w5 := bl_step hbb4 hb5 hbb4.size
            clear hown4 htin4 hbb4 hb4 hb5 e1 hv2
            cases ok1
            · have HZZ : Hid (∀ ms, ¬ IsPts s ms) := HZ.out fun m' n' hp' => by
                rcases HV1.out with ⟨e, _⟩ | ⟨_, hno⟩
                · cases e
                · exact hno m' (num_of_pt HP.out hp').1
              clear HV1 HV2 HZ
              go_wp2
              go_ret2
              exact .inr ⟨HZZ.out, _, rfl, OwnQ.nil_ _ _, by (repeat (first | assumption | exact Below.refl _ _ | (refine bl_alloc ?_ _) | (refine Below.drew ?_) | (refine bl_drewN ?_ _) | (refine bl_set ?_ (by simp) _) | (refine bl_trans ?_ (by assumption)) | (refine bl_step ?_ (by assumption) (by first | omega | exact Below.size (by assumption) | (simp; omega) | (simp; exact Below.size (by assumption))))))⟩
            · cases ok2
              · have HZZ : Hid (∀ ms, ¬ IsPts s ms) := HZ.out fun m' n' hp' => by
                  rcases HV2.out with ⟨e, _⟩ | ⟨_, hno⟩
                  · cases e
                  · exact hno n' (num_of_pt HP.out hp').2
                clear HV1 HV2 HZ
                go_wp2
                go_ret2
                exact .inr ⟨HZZ.out, _, rfl, OwnQ.nil_ _ _, by (repeat (first | assumption | exact Below.refl _ _ | (refine bl_alloc ?_ _) | (refine Below.drew ?_) | (refine bl_drewN ?_ _) | (refine bl_set ?_ (by simp) _) | (refine bl_trans ?_ (by assumption)) | (refine bl_step ?_ (by assumption) (by first | omega | exact Below.size (by assumption) | (simp; omega) | (simp; exact Below.size (by assumption))))))⟩
              · have HA : Hid (IsNum p m) := by
                  rcases HV1.out with ⟨_, h⟩ | ⟨e, _⟩
                  · exact h
                  · cases e
                have HB2 : Hid (IsNum q n) := by
                  rcases HV2.out with ⟨_, h⟩ | ⟨e, _⟩
                  · exact h
                  · cases e
                cases hpt : isPt m n
                · have HPT := Lib.hid hpt
                  have HZZ : Hid (∀ ms, ¬ IsPts s ms) := HZ.out fun m' n' hp' => by
                    obtain ⟨h1, h2⟩ := num_of_pt HP.out hp'
                    have e1 := num_uniq HA.out h1
                    have e2 := num_uniq HB2.out h2
                    subst e1; subst e2
                    exact absurd hp'.2 (by simp [HPT.out])
                  clear HV1 HV2 HZ hpt
                  go_wp2_with (go_at_call 91; refine (pt_is _ _ _ HPT _).mono ?_; rintro e w6 ⟨rfl, hb6⟩; obtain ⟨hc6, hf6, hz6⟩ := bcell hb6)
                  go_ret2
                  exact .inr ⟨HZZ.out, _, rfl, OwnQ.nil_ _ _, by (repeat (first | assumption | exact Below.refl _ _ | (refine bl_alloc ?_ _) | (refine Below.drew ?_) | (refine bl_drewN ?_ _) | (refine bl_set ?_ (by simp) _) | (refine bl_trans ?_ (by assumption)) | (refine bl_step ?_ (by assumption) (by first | omega | exact Below.size (by assumption) | (simp; omega) | (simp; exact Below.size (by assumption))))))⟩
                · have HPT := Lib.hid hpt
                  have HBN : Hid (∀ r ∈ ns ++ [(m, n)], isPt r.1 r.2 = true) := by
                    intro r hr
                    rcases List.mem_append.1 hr with h | h
                    · exact HB.out r h
                    · rw [List.mem_singleton.1 h]; exact hpt
                  have HMN : Hid ((ns ++ [(m, n)]).map ptTx = (byts O).take (k + 1)) := by
                    show _ = _
                    have hx1 := (isPtTx_iff x (m, n)).1 (pt_of_two HP.out HA.out HB2.out hpt)
                    rw [List.take_add_one, ← HM.out, HX.out, hx1.1]; simp
                  have hL : ns.length ≤ 1000000 := by rw [HL.out]; omega
                  clear HV1 HV2 HZ hpt
                  go_wp2_with (first
                    | (go_at_call 91; go_loud (refine (pt_is _ _ _ HPT _).mono ?_; rintro e w6 ⟨rfl, hb6⟩; obtain ⟨hc6, hf6, hz6⟩ := bcell hb6; have hz7 : w5.heap.size < w6.heap.size := (by (first | (simp at hz6; omega) | omega)); have hown6 := OwnQ.to (hown5.to (by (repeat (first | assumption | exact Below.refl _ _ | (refine bl_alloc ?_ _) | (refine Below.drew ?_) | (refine bl_drewN ?_ _) | (refine bl_set ?_ (by simp) _) | (refine bl_trans ?_ (by assumption)) | (refine bl_step ?_ (by assumption) (by first | omega | exact Below.size (by assumption) | (simp; omega) | (simp; exact Below.size (by assumption)))))))) hb6; have htin6 := TxtIn.to (htin5.to (by (repeat (first | assumption | exact Below.refl _ _ | (refine bl_alloc ?_ _) | (refine Below.drew ?_) | (refine bl_drewN ?_ _) | (refine bl_set ?_ (by simp) _) | (refine bl_trans ?_ (by assumption)) | (refine bl_step ?_ (by assumption) (by first | omega | exact Below.size (by assumption) | (simp; omega) | (simp; exact Below.size (by assumption)))))))) hb6; have hbb6 : Below w.heap.size w w6 := (by (repeat (first | assumption | exact Below.refl _ _ | (refine bl_alloc ?_ _) | (refine Below.drew ?_) | (refine bl_drewN ?_ _) | (refine bl_set ?_ (by simp) _) | (refine bl_trans ?_ (by assumption)) | (refine bl_step ?_ (by assumption) (by first | omega | exact Below.size (by assumption) | (simp; omega) | (simp; exact Below.size (by assumption)))))))))
                    | (at_builtin; refine append_ptq rfl (.tmp 64) (.tmp 66) rfl _ w.heap.size _ _ m n rfl hown6 _ rfl rfl hL hbb6.size ?_; intro v7 w7 hown7 hbel7 hkp7 hob7 hz8; refine Hid.out ?_))
                  have b7 := hbel7 _ hbb6
                  have htin7 := htin6.keep (hkp7 b htin6.1 hdv) hz8
                  have hdv7 : v7.ownBlock ≠ some b := by
                    rcases hob7 with h | ⟨g, h, hg⟩
                    · rw [h]; exact hdv
                    · rw [h]; intro e; injection e with e; have := htin6.1; omega
                  clear hown5 htin5 hbb5 hbel7 hb6 hown6 hbb6 htin6 hkp7 hob7 hdv hc6 hf6 hz6 hz7
                  refine Lib.hid ?_
                  go_wp2
                  go_roundw
                  case rel => exact ⟨ns ++ [(m, n)], k + 1, by omega, by go_num, hown7, by show _ = _; simp [HL.out], HMN, HBN, htin7, hdv7, b7⟩
                  case measure => simp [intOf]; omega
          · have hno : ∀ m n, ¬ IsPtTx x m n := fun m n h => h2 (by
              have := congrArg List.length (HO2.out.trans h.1)
              simpa [byts] using this)
            have HZZ := Lib.hid (HZ.out hno)
            have h2I : ¬ (O2.length : Int) = 2 := by omega
            have h2b : ((O2.length : Int) == 2) = false := by simpa using h2I
            clear hno h2
            go_wp2
            go_ret2
            exact .inr ⟨HZZ.out, _, rfl, OwnQ.nil_ _ _, hbb3⟩
        · obtain rfl : k = O.length := by omega
          have HG : Hid (IsPts s ns) := by
            refine .inr ⟨HNO.out, by rw [HL.out]; exact h60, ?_, HB.out⟩
            rw [← HO.out, HM.out, List.take_of_length_le (by simp [byts])]
          go_wp2
          go_ret2
          exact .inl ⟨ns, HG.out, _, rfl, hown, hb⟩
    · have hI : 24 < (O.length : Int) := by omega
      have hd : decide (24 < O.length) = true := decide_eq_true (by omega)
      have HZ : Hid (∀ ms, ¬ IsPts s ms) := pts_long HNO.out HO.out (by omega)
      go_wp2
      go_ret2
      exact .inr ⟨HZ.out, _, rfl, OwnQ.nil_ _ _, hbb⟩
end Go.Proofs.YtiadoekhhmcokaaDoor
