/-
  Contract: impl's splitItems at numbers.
-/
import Derived.Test.YtiadoekhhmcokaaDoorSplit
import Derived.Test.YtiadoekhhmcokaaDoorCut
import Derived.Test.YtiadoekhhmcokaaDoorOwnI
import Derived.Test.YtiadoekhhmcokaaDoorReadI
namespace Go.Proofs.YtiadoekhhmcokaaDoor
set_option linter.unusedSimpArgs false
set_option linter.unusedVariables false
open Go.ChangeShapes Go.WideShapes Go.ChangeAt Go.RowKit

/-- s is the text of the numbers ns. -/
def IsList (s : ByteArray) (ns : List Int) : Prop :=
  (s = ⟨#[110, 111, 110, 101]⟩ ∧ ns = []) ∨ (s ≠ ⟨#[110, 111, 110, 101]⟩ ∧ ns.length ≤ 60 ∧ parts 44 s.data.toList = ns.map Lib.itoa ∧ ∀ n ∈ ns, -1000000000 ≤ n ∧ n ≤ 1000000000)

theorem cut_step (r : ByteArray) (hs : r.size ≤ 1048576) : ∃ (wd rs : ByteArray) (b : Bool),
    (∀ w, Calls Tryd.prog 87 #[.string r, .string ⟨#[44]⟩] w fun e w' => e = .returned (.tuple #[.string wd, .string rs, .bool b]) ∧ Below w.heap.size w w') ∧
    ((b = true ∧ parts 44 r.data.toList = wd.data.toList :: parts 44 rs.data.toList) ∨ (b = false ∧ parts 44 r.data.toList = [wd.data.toList])) ∧ wd.size ≤ 1048576 ∧ rs.size ≤ 1048576 := by
  have hsz : r.data.toList.length = r.size := by rw [Array.length_toList]; rfl
  rcases indexByte_or r.data.toList 44 with h | ⟨i, h⟩
  · exact ⟨r, ⟨#[]⟩, false, fun w => (cut_miss r 44 w h).mono fun _ _ ⟨he, hw⟩ => ⟨he, by rw [hw]; exact Below.refl _ _⟩, .inr ⟨rfl, parts_miss 44 _ h⟩, hs, by decide⟩
  · obtain ⟨hp, hi⟩ := parts_hit 44 _ i h
    have e1 : (r.extract 0 i).data.toList = r.data.toList.take i := by rw [Lib.extract_data]; simp
    have e2 : (r.extract (i + 1) r.size).data.toList = r.data.toList.drop (i + 1) := by
      rw [Lib.extract_data]; exact List.take_of_length_le (by rw [List.length_drop]; omega)
    have z1 : (r.extract 0 i).size ≤ 1048576 := by
      have : (r.extract 0 i).size = (r.extract 0 i).data.toList.length := by rw [Array.length_toList]; rfl
      rw [this, e1, List.length_take]; omega
    have z2 : (r.extract (i + 1) r.size).size ≤ 1048576 := by
      have : (r.extract (i + 1) r.size).size = (r.extract (i + 1) r.size).data.toList.length := by rw [Array.length_toList]; rfl
      rw [this, e2, List.length_drop]; omega
    exact ⟨r.extract 0 i, r.extract (i + 1) r.size, true, fun w => cut_hit r 44 i w hs h (by omega), .inl ⟨rfl, by rw [hp, e1, e2]⟩, z1, z2⟩

theorem none_long {s : ByteArray} {ns : List Int} {X : List (List UInt8)} (hs : s ≠ ⟨#[110, 111, 110, 101]⟩) (h : parts 44 s.data.toList = ns.map Lib.itoa ++ X) (hX : X ≠ []) (hl : ns.length = 60) : ∀ ms, ¬ IsList s ms := by
  rintro ms (⟨e, _⟩ | ⟨_, h60, hp, _⟩)
  · exact hs e
  · have := congrArg List.length (h.symm.trans hp)
    have := List.length_pos_iff.2 hX
    simp at *
    omega
theorem none_bad {s wd : ByteArray} {ns : List Int} {X : List (List UInt8)} (hs : s ≠ ⟨#[110, 111, 110, 101]⟩) (h : parts 44 s.data.toList = ns.map Lib.itoa ++ wd.data.toList :: X) (hw : ∀ m, ¬ IsNum wd m) : ∀ ms, ¬ IsList s ms := by
  rintro ms (⟨e, _⟩ | ⟨_, _, hp, hb⟩)
  · exact hs e
  · have e := h.symm.trans hp
    have g : (ms.map Lib.itoa)[ns.length]? = some wd.data.toList := by
      rw [← e, List.getElem?_append_right (by simp)]
      simp
    rw [List.getElem?_map] at g
    cases hm : ms[ns.length]? with
    | none => rw [hm] at g; cases g
    | some m =>
      rw [hm] at g
      obtain ⟨b1, b2⟩ := hb m (List.mem_of_getElem? hm)
      exact hw m ⟨b1, b2, (Option.some.inj g).symm⟩

/-- What splitItems answers. -/
def SplitRes (s : ByteArray) (w : World) (e : Ending) (w' : World) : Prop :=
  Below w.heap.size w w' ∧
  ((∃ v ns, e = .returned (.tuple #[v, .nilIface]) ∧ OwnI w' w.heap.size v ns ∧ IsList s ns) ∨
   (∃ pb a, e = .returned (.tuple #[.slice none 0 0, .iface 124 (.pointer (some ⟨pb, 0, none⟩))]) ∧ w'.cell? ⟨pb, 1, none⟩ = some (.iface 125 (.pointer (some a))) ∧ ∀ ns, ¬ IsList s ns))
def lenV : Value → Nat
  | .slice _ n _ => n
  | _ => 0
theorem OwnI.nil_ (w : World) (base : Nat) : OwnI w base (.slice none 0 0) [] := ⟨rfl, .inl ⟨rfl, rfl⟩⟩
theorem OwnI.len {w : World} {B : Nat} {v : Value} {L : List Int} (h : OwnI w B v L) : ∃ A c, v = .slice A L.length c := by
  obtain ⟨A, c, e, _⟩ := h.ints
  exact ⟨A, c, e⟩

theorem or_f {P Q : Prop} (h : (false = true ∧ P) ∨ (false = false ∧ Q)) : Q := h.elim (fun h => nomatch h.1) (fun h => h.2)
theorem or_t {P Q : Prop} (h : (true = true ∧ P) ∨ (true = false ∧ Q)) : P := h.elim (fun h => h.2) (fun h => nomatch h.1)

set_option maxHeartbeats 1600000 in
theorem split_any (s : ByteArray) (w : World) (hs : s.size ≤ 1048576) (hl : ParseLaid w) :
    Calls Tryd.prog 114 #[.string s, .int .i64 60, .func (.func 92) #[] #[]] w (SplitRes s w) := by
  by_cases hnone : s = ⟨#[110, 111, 110, 101]⟩
  · subst hnone
    go_enter Tryd.func114, Tryd.ntmps114
    go_wp2
    go_ret2
    exact ⟨Below.refl _ _, .inl ⟨_, [], rfl, OwnI.nil_ _ _, .inl ⟨rfl, rfl⟩⟩⟩
  · have hne := tx_ne hnone
    have HNO := Lib.hid hnone
    have hne1 : (s.toList == [110, 111, 110, 101]) = false := by simpa using hne
    clear hnone hne
    go_enter Tryd.func114, Tryd.ntmps114
    go_wp2
    go_loopw [8, 10, 11] (fun v rr mr wr => ∃ (ns : List Int) (r : ByteArray) (b : Bool), rr = .string r ∧ mr = .bool b ∧ OwnI wr w.heap.size v ns ∧ Below w.heap.size w wr ∧ ns.length ≤ 60 ∧ r.size ≤ 1048576 ∧ Hid (∀ n ∈ ns, -1000000000 ≤ n ∧ n ≤ 1000000000) ∧ Hid ((b = true ∧ parts 44 s.data.toList = ns.map Lib.itoa ++ parts 44 r.data.toList) ∨ (b = false ∧ parts 44 s.data.toList = ns.map Lib.itoa))) (fun v _ _ _ => 61 - lenV v)
    case atStart => exact ⟨[], s, true, rfl, rfl, OwnI.nil_ _ _, Below.refl _ _, by simp, hs, fun n hn => by simp at hn, .inl ⟨rfl, by simp⟩⟩
    case round =>
      obtain ⟨ns, r, b, rfl, rfl, hown, hb, h60, hr, HB, HP⟩ := hrel
      obtain ⟨A, c, rfl⟩ := hown.len
      cases b with
      | false =>
        have hp : parts 44 s.data.toList = ns.map Lib.itoa := or_f HP.out
        go_wp2
        go_ret2
        exact ⟨hb, .inl ⟨_, ns, rfl, hown, .inr ⟨HNO.out, h60, hp, HB.out⟩⟩⟩
      | true =>
        have HPP : Hid (parts 44 s.data.toList = ns.map Lib.itoa ++ parts 44 r.data.toList) := or_t HP.out
        clear HP
        by_cases hlim : ns.length = 60
        · have hI : (ns.length : Int) = 60 := by omega
          have HZ : Hid (∀ ms, ¬ IsList s ms) := none_long HNO.out HPP.out (parts_ne _ _) hlim
          go_wp2
          go_ret2
          exact ⟨by (repeat (first | assumption | exact Below.refl _ _ | (refine bl_alloc ?_ _) | (refine Below.drew ?_) | (refine bl_drewN ?_ _) | (refine bl_set ?_ (by first | (simp; done) | omega | (simp; omega)) _) | (refine bl_trans ?_ (by assumption)) | (refine bl_step ?_ (by assumption) (by first | omega | exact Below.size (by assumption) | (simp; omega) | (simp; exact Below.size (by assumption)))))), .inr ⟨_, ⟨wr.heap.size, 0, none⟩, rfl, by simp, HZ.out⟩⟩
        · have hI : ((ns.length : Int) == 60) = false := by simp; omega
          have hI2 : ¬ (ns.length : Int) = 60 := by omega
          obtain ⟨wd, rs, b2, hc, hp2, hwd, hrs⟩ := cut_step r hr
          have HP2 := Lib.hid hp2
          by_cases hn : ∃ m, IsNum wd m
          · obtain ⟨m, hm⟩ := hn
            have hpar := fun (w1 : World) (hb1 : Below w.heap.size w w1) => parse_num wd m w1 hwd hm (hl.stays hb1 (Nat.le_refl _))
            have HBN : Hid (∀ n ∈ ns ++ [m], -1000000000 ≤ n ∧ n ≤ 1000000000) := by
              intro n hn
              rcases List.mem_append.1 hn with h | h
              · exact HB.out n h
              · rw [List.mem_singleton.1 h]; exact ⟨hm.1, hm.2.1⟩
            have HPN : Hid ((b2 = true ∧ parts 44 s.data.toList = (ns ++ [m]).map Lib.itoa ++ parts 44 rs.data.toList) ∨ (b2 = false ∧ parts 44 s.data.toList = (ns ++ [m]).map Lib.itoa)) := by
              have e := HPP.out
              rcases HP2.out with ⟨hb2, h⟩ | ⟨hb2, h⟩
              · exact .inl ⟨hb2, by rw [e, h, hm.2.2]; simp⟩
              · exact .inr ⟨hb2, by rw [e, h, hm.2.2]; simp⟩
            have hL : ns.length ≤ 1000000 := by omega
            clear hp2 hm
            go_wp2_with (first
              | (go_at_call 87; refine (hc _).mono ?_; rintro e w2 ⟨rfl, hb2⟩)
              | (go_at_call 92; refine (hpar _ (bl_step hb hb2 hb.size)).mono ?_; rintro e w3 ⟨rfl, hb3⟩; have hown3 := (hown.to hb2).to hb3; have hbb3 : Below w.heap.size w w3 := bl_step (bl_step hb hb2 hb.size) hb3 (bl_step hb hb2 hb.size).size)
              | (at_builtin; refine append_int rfl (.tmp 50) (.tmp 52) rfl _ w.heap.size _ _ m rfl hown3 _ rfl rfl hL hbb3.size ?_; intro v6 w6 hown6 hbel6; refine Hid.out ?_))
            have b6 := hbel6 _ hbb3
            have hl6 := Lib.hid hown6.len
            clear hown hbel6 hb hb2 hb3 hown3 hbb3
            refine Lib.hid ?_
            go_wp2
            go_roundw
            case rel => exact ⟨ns ++ [m], rs, b2, rfl, rfl, hown6, b6, by simp; omega, hrs, HBN, HPN⟩
            case measure => obtain ⟨A6, c6, e6⟩ := hl6.out; subst e6; simp [lenV]; omega
          · have HZ : Hid (∀ ms, ¬ IsList s ms) := by
              have hw : ∀ m, ¬ IsNum wd m := fun m h => hn ⟨m, h⟩
              have e := HPP.out
              rcases HP2.out with ⟨_, h⟩ | ⟨_, h⟩
              · rw [h] at e; exact none_bad HNO.out e hw
              · rw [h] at e; exact none_bad HNO.out e hw
            have hpar := fun (w1 : World) (hb1 : Below w.heap.size w w1) => parse_bad wd w1 hwd (fun m h => hn ⟨m, h⟩) (hl.stays hb1 (Nat.le_refl _))
            clear hp2 hn
            go_wp2_with (first
              | (go_at_call 87; refine (hc _).mono ?_; rintro e w2 ⟨rfl, hb2⟩)
              | (go_at_call 92; refine (hpar _ (bl_step hb hb2 hb.size)).mono ?_; rintro e w3 ⟨⟨a, rfl⟩, hb3⟩))
            go_ret2
            exact ⟨by (repeat (first | assumption | exact Below.refl _ _ | (refine bl_alloc ?_ _) | (refine Below.drew ?_) | (refine bl_drewN ?_ _) | (refine bl_set ?_ (by first | (simp; done) | omega | (simp; omega)) _) | (refine bl_trans ?_ (by assumption)) | (refine bl_step ?_ (by assumption) (by first | omega | exact Below.size (by assumption) | (simp; omega) | (simp; exact Below.size (by assumption)))))), .inr ⟨_, a, rfl, by simp, HZ.out⟩⟩
end Go.Proofs.YtiadoekhhmcokaaDoor
