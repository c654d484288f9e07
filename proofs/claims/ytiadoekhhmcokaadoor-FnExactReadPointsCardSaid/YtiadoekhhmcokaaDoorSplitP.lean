/-
  Contract: impl's splitItems at points.
-/
import Derived.Test.YtiadoekhhmcokaaDoorPointJ
namespace Go.Proofs.YtiadoekhhmcokaaDoor
set_option linter.unusedSimpArgs false
set_option linter.unusedVariables false
open Go.ChangeShapes Go.WideShapes Go.ChangeAt Go.RowKit

/-- s is the text of the points ns. -/
def IsPts (s : ByteArray) (ns : List (Int × Int)) : Prop :=
  (s = ⟨#[110, 111, 110, 101]⟩ ∧ ns = []) ∨ (s ≠ ⟨#[110, 111, 110, 101]⟩ ∧ ns.length ≤ 24 ∧ parts 44 s.data.toList = ns.map ptTx ∧ ∀ n ∈ ns, isPt n.1 n.2 = true)

theorem none_longP {s : ByteArray} {ns : List (Int × Int)} {X : List (List UInt8)} (hs : s ≠ ⟨#[110, 111, 110, 101]⟩) (h : parts 44 s.data.toList = ns.map ptTx ++ X) (hX : X ≠ []) (hl : ns.length = 24) : ∀ ms, ¬ IsPts s ms := by
  rintro ms (⟨e, _⟩ | ⟨_, h24, hp, _⟩)
  · exact hs e
  · have := congrArg List.length (h.symm.trans hp)
    have := List.length_pos_iff.2 hX
    simp at *
    omega
theorem none_badP {s wd : ByteArray} {ns : List (Int × Int)} {X : List (List UInt8)} (hs : s ≠ ⟨#[110, 111, 110, 101]⟩) (h : parts 44 s.data.toList = ns.map ptTx ++ wd.data.toList :: X) (hw : ∀ x y, ¬ IsPtTx wd x y) : ∀ ms, ¬ IsPts s ms := by
  rintro ms (⟨e, _⟩ | ⟨_, _, hp, hb⟩)
  · exact hs e
  · have e := h.symm.trans hp
    have g : (ms.map ptTx)[ns.length]? = some wd.data.toList := by
      rw [← e, List.getElem?_append_right (by simp)]
      simp
    rw [List.getElem?_map] at g
    cases hm : ms[ns.length]? with
    | none => rw [hm] at g; cases g
    | some m =>
      rw [hm] at g
      exact hw m.1 m.2 ((isPtTx_iff wd m).2 ⟨(Option.some.inj g).symm, hb m (List.mem_of_getElem? hm)⟩)

/-- What splitItems answers. -/
def SplitResP (s : ByteArray) (w : World) (e : Ending) (w' : World) : Prop :=
  Below w.heap.size w w' ∧
  ((∃ v ns, e = .returned (.tuple #[v, .nilIface]) ∧ OwnQ w' w.heap.size v ns ∧ IsPts s ns) ∨
   (∃ pb a, e = .returned (.tuple #[.slice none 0 0, .iface 124 (.pointer (some ⟨pb, 0, none⟩))]) ∧ w'.cell? ⟨pb, 1, none⟩ = some (.iface 125 (.pointer (some a))) ∧ ∀ ns, ¬ IsPts s ns))
theorem OwnQ.len {w : World} {B : Nat} {v : Value} {L : List (Int × Int)} (h : OwnQ w B v L) : ∃ A c, v = .slice A L.length c := by
  rcases h.2 with ⟨rfl, h0⟩ | ⟨g, cap, cur, rfl, _⟩
  · exact ⟨none, 0, by rw [h0]⟩
  · exact ⟨_, _, rfl⟩

set_option maxHeartbeats 1600000 in
theorem splitP_any (s : ByteArray) (w : World) (hs : s.size ≤ 1048576) (hl : ParseLaid w) :
    Calls Tryd.prog 53 #[.string s, .int .i64 24, .func (.func 54) #[] #[]] w (SplitResP s w) := by
  by_cases hnone : s = ⟨#[110, 111, 110, 101]⟩
  · subst hnone
    go_enter Tryd.func53, Tryd.ntmps53
    go_wp2
    go_ret2
    exact ⟨Below.refl _ _, .inl ⟨_, [], rfl, OwnQ.nil_ _ _, .inl ⟨rfl, rfl⟩⟩⟩
  · have hne := tx_ne hnone
    have HNO := Lib.hid hnone
    have hne1 : (s.toList == [110, 111, 110, 101]) = false := by simpa using hne
    clear hnone hne
    go_enter Tryd.func53, Tryd.ntmps53
    go_wp2
    go_loopw [8, 10, 11] (fun v rr mr wr => ∃ (ns : List (Int × Int)) (r : ByteArray) (b : Bool), rr = .string r ∧ mr = .bool b ∧ OwnQ wr w.heap.size v ns ∧ Below w.heap.size w wr ∧ ns.length ≤ 24 ∧ r.size ≤ 1048576 ∧ Hid (∀ n ∈ ns, isPt n.1 n.2 = true) ∧ Hid ((b = true ∧ parts 44 s.data.toList = ns.map ptTx ++ parts 44 r.data.toList) ∨ (b = false ∧ parts 44 s.data.toList = ns.map ptTx))) (fun v _ _ _ => 25 - lenV v)
    case atStart => exact ⟨[], s, true, rfl, rfl, OwnQ.nil_ _ _, Below.refl _ _, by simp, hs, fun n hn => by simp at hn, .inl ⟨rfl, by simp⟩⟩
    case round =>
      obtain ⟨ns, r, b, rfl, rfl, hown, hb, h24, hr, HB, HP⟩ := hrel
      obtain ⟨A, c, rfl⟩ := hown.len
      cases b with
      | false =>
        have hp : parts 44 s.data.toList = ns.map ptTx := or_f HP.out
        go_wp2
        go_ret2
        exact ⟨hb, .inl ⟨_, ns, rfl, hown, .inr ⟨HNO.out, h24, hp, HB.out⟩⟩⟩
      | true =>
        have HPP : Hid (parts 44 s.data.toList = ns.map ptTx ++ parts 44 r.data.toList) := or_t HP.out
        clear HP
        by_cases hlim : ns.length = 24
        · have hI : (ns.length : Int) = 24 := by omega
          have HZ : Hid (∀ ms, ¬ IsPts s ms) := none_longP HNO.out HPP.out (parts_ne _ _) hlim
          go_wp2
          go_ret2
          exact ⟨by (repeat (first | assumption | exact Below.refl _ _ | (refine bl_alloc ?_ _) | (refine Below.drew ?_) | (refine bl_drewN ?_ _) | (refine bl_set ?_ (by simp) _) | (refine bl_trans ?_ (by assumption)) | (refine bl_step ?_ (by assumption) (by first | omega | exact Below.size (by assumption) | (simp; omega) | (simp; exact Below.size (by assumption)))))), .inr ⟨_, ⟨wr.heap.size, 0, none⟩, rfl, by simp, HZ.out⟩⟩
        · have hI : ((ns.length : Int) == 24) = false := by simp; omega
          have hI2 : ¬ (ns.length : Int) = 24 := by omega
          obtain ⟨wd, rs, b2, hc, hp2, hwd, hrs⟩ := cut_step r hr
          have HP2 := Lib.hid hp2
          by_cases hn : ∃ m : Int × Int, IsPtTx wd m.1 m.2
          · obtain ⟨m, hm⟩ := hn
            have hpar := fun (w1 : World) (hb1 : Below w.heap.size w w1) => point_yes wd m.1 m.2 w1 hwd hm (hl.stays hb1 (Nat.le_refl _))
            have HBN : Hid (∀ n ∈ ns ++ [m], isPt n.1 n.2 = true) := by
              intro n hn
              rcases List.mem_append.1 hn with h | h
              · exact HB.out n h
              · rw [List.mem_singleton.1 h]; exact hm.2
            have HPN : Hid ((b2 = true ∧ parts 44 s.data.toList = (ns ++ [m]).map ptTx ++ parts 44 rs.data.toList) ∨ (b2 = false ∧ parts 44 s.data.toList = (ns ++ [m]).map ptTx)) := by
              have e := HPP.out
              rcases HP2.out with ⟨hb2, h⟩ | ⟨hb2, h⟩
              · exact .inl ⟨hb2, by rw [e, h, ((isPtTx_iff wd m).1 hm).1]; simp⟩
              · exact .inr ⟨hb2, by rw [e, h, ((isPtTx_iff wd m).1 hm).1]; simp⟩
            have hL : ns.length ≤ 1000000 := by omega
            clear hp2 hm
            go_wp2_with (first
              | (go_at_call 87; refine (hc _).mono ?_; rintro e w2 ⟨rfl, hb2⟩)
              | (go_at_call 54; refine (hpar _ (bl_step hb hb2 hb.size)).mono ?_; rintro e w3 ⟨rfl, hb3⟩; have hown3 := (hown.to hb2).to hb3; have hbb3 : Below w.heap.size w w3 := bl_step (bl_step hb hb2 hb.size) hb3 (bl_step hb hb2 hb.size).size; have hown4 := hown3.to ((Below.refl _ _).alloc (Nat.le_refl _) (.cells #[.int .i64 m.1, .int .i64 m.2] 66)); have hbb4 := hbb3.alloc hbb3.size (.cells #[.int .i64 m.1, .int .i64 m.2] 66))
              | (at_builtin; refine append_ptq rfl (.tmp 50) (.tmp 52) rfl _ w.heap.size _ _ m.1 m.2 rfl hown4 (w3.heap.size + 1) (by simp) rfl hL hbb4.size ?_; intro v6 w6 hown6 hbel6 _ _ _; refine Hid.out ?_))
            have b6 := hbel6 _ hbb4
            have hl6 := Lib.hid hown6.len
            clear hown hbel6 hb hb2 hb3 hown3 hbb3 hown4 hbb4
            refine Lib.hid ?_
            go_wp2
            go_roundw
            case rel => exact ⟨ns ++ [m], rs, b2, rfl, rfl, hown6, b6, by simp; omega, hrs, HBN, HPN⟩
            case measure => obtain ⟨A6, c6, e6⟩ := hl6.out; subst e6; simp [lenV]; omega
          · have HZ : Hid (∀ ms, ¬ IsPts s ms) := by
              have hw : ∀ x y, ¬ IsPtTx wd x y := fun x y h => hn ⟨(x, y), h⟩
              have e := HPP.out
              rcases HP2.out with ⟨_, h⟩ | ⟨_, h⟩
              · rw [h] at e; exact none_badP HNO.out e hw
              · rw [h] at e; exact none_badP HNO.out e hw
            have hpar := fun (w1 : World) (hb1 : Below w.heap.size w w1) => point_no wd w1 hwd (fun x y h => hn ⟨(x, y), h⟩) (hl.stays hb1 (Nat.le_refl _))
            clear hp2 hn
            go_wp2_with (first
              | (go_at_call 87; refine (hc _).mono ?_; rintro e w2 ⟨rfl, hb2⟩)
              | (go_at_call 54; refine (hpar _ (bl_step hb hb2 hb.size)).mono ?_; rintro e w3 ⟨⟨a, rfl⟩, hb3⟩))
            go_ret2
            exact ⟨by (repeat (first | assumption | exact Below.refl _ _ | (refine bl_alloc ?_ _) | (refine Below.drew ?_) | (refine bl_drewN ?_ _) | (refine bl_set ?_ (by simp) _) | (refine bl_trans ?_ (by assumption)) | (refine bl_step ?_ (by assumption) (by first | omega | exact Below.size (by assumption) | (simp; omega) | (simp; exact Below.size (by assumption)))))), .inr ⟨_, a, rfl, by simp, HZ.out⟩⟩
end Go.Proofs.YtiadoekhhmcokaaDoor
