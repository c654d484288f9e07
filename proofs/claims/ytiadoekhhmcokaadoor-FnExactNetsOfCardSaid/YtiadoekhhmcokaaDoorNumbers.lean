/-
  Contract: spec's l01Numbers: the numbers with a text.
-/
import Derived.Test.YtiadoekhhmcokaaDoorSplitI
import Derived.Test.YtiadoekhhmcokaaDoorCutS
import Derived.Maps.AppendAt
namespace Go.Proofs.YtiadoekhhmcokaaDoor
set_option linter.unusedSimpArgs false
set_option linter.unusedVariables false
open Go.ChangeShapes Go.WideShapes Go.ChangeAt Go.RowKit

theorem append_int_at {ops : Array Oper} {rest : List Oper} {o : Oper} {a : Act} {Q : Exit → Act → World → Prop} (hgd : o.guard = none) (s x : Operand)
    (ho : o.op = .call { callee := .builtin .append, args := #[s, x], argTypes := #[28, 28] }) (w : World) (base : Nat) (v : Value) (L : List Int) (X : Int)
    (hs : a.eval s = v) (hown : OwnI w base v L) (B0 : Nat) (hB0 : B0 = w.heap.size) (hx : a.eval x = .slice (some ⟨B0, 0, none⟩) 1 1) (hL : L.length ≤ 1000000) (hbase : base ≤ w.heap.size)
    (h : ∀ v' w', OwnI w' base v' (L ++ [X]) → (∀ a0, Below base a0 w → Below base a0 w') → (∀ i, i < w.heap.size → v.ownBlock ≠ some i → w'.heap[i]? = w.heap[i]?) → (v'.ownBlock = v.ownBlock ∨ ∃ g, v'.ownBlock = some g ∧ w.heap.size ≤ g) → w.heap.size ≤ w'.heap.size → wpList Tryd.prog ops Q rest (a.put o.dst v') w') :
    wpList Tryd.prog ops Q (o :: rest) a (w.alloc (.cells #[.int .i64 X] 2)) := by
  subst hB0
  obtain ⟨i0, hi0, hz0, hz1, hz2⟩ := info_parts infoIO
  have hown' : (w.alloc (.cells #[.int .i64 X] 2)).ownsRow base 2 1 v L.length (cellsI L) := World.ownsRow.alloc hown _
  refine wpList_append_own_at _ hgd s x _ ho base 2 i0 _ 1 8 Tryd.underlying28 hi0 hz0 hz1 hz2 rfl (by decide) v L.length (cellsI L) hs hown' ⟨w.heap.size, 0, none⟩ 1 1 [.int .i64 X] hx rfl ?_ ?_ ?_ ?_ ?_ ?_
  · intro j u hu
    rcases j with _ | j
    · simp at hu; subst hu; simp [Addr.add]
    · simp at hu
  · intro u hu
    simp at hu
    subst hu; rfl
  · unfold maxLen; omega
  · omega
  · simp; omega
  · intro v' w' h1 h2 _ h5
    refine h v' w' (OwnI.snoc h1) (fun a0 hb => Below.grown (belowAlloc hb hbase) h2 (by simp; omega) fun k hk => (hown'.lt k hk).1) (fun i hi hne => ?_) ?_ ?_
    · have := h2.block i (by simp; omega) (Ne.symm hne)
      rw [this, World.alloc]
      simp [Array.getElem?_push, Nat.ne_of_lt hi]
    · rcases h5 with h5 | h5
      · exact .inl h5
      · exact .inr ⟨_, h5, by simp⟩
    · have := h2.size
      simp at this; omega

/-- The texts O lie in block b. -/
def TxtIn (w : World) (b off : Nat) (O : List ByteArray) : Prop := b < w.heap.size ∧ ∀ i x, O[i]? = some x → w.cell? ⟨b, off + i, none⟩ = some (.string x)
theorem TxtIn.to {w w1 : World} {b off : Nat} {O : List ByteArray} (h : TxtIn w b off O) (hb : Below w.heap.size w w1) : TxtIn w1 b off O :=
  ⟨Nat.lt_of_lt_of_le h.1 hb.size, fun i x hi => (hb.cell (p := ⟨b, off + i, none⟩) h.1).trans (h.2 i x hi)⟩
theorem TxtIn.keep {w w1 : World} {b off : Nat} {O : List ByteArray} (h : TxtIn w b off O) (hk : w1.heap[b]? = w.heap[b]?) (hz : w.heap.size ≤ w1.heap.size) : TxtIn w1 b off O :=
  ⟨Nat.lt_of_lt_of_le h.1 hz, fun i x hi => (World.cell?_of_block (a := ⟨b, off + i, none⟩) hk).trans (h.2 i x hi)⟩
theorem parts_mem (m : UInt8) : ∀ l : List UInt8, ∀ p ∈ parts m l, p.length ≤ l.length
  | [], p, h => by simp [parts] at h; subst h; simp
  | c :: r, p, h => by
    have ih := parts_mem m r
    unfold parts at h
    split at h
    · rcases List.mem_cons.1 h with h | h
      · subst h; simp
      · have := ih p h; simp; omega
    · cases hp : parts m r with
      | nil => exact absurd hp (parts_ne m r)
      | cons a t =>
        rw [hp] at h ih
        simp only [addH] at h
        rcases List.mem_cons.1 h with h | h
        · subst h
          have := ih a (by simp)
          simp; omega
        · have := ih p (by simp [h])
          simp; omega

/-- A function's answer: numbers in memory of its own, and whether it succeeds. -/
def LRes (L : List Int) (ok : Bool) (w : World) (e : Ending) (w' : World) : Prop :=
  ∃ v, e = .returned (.tuple #[v, .bool ok]) ∧ OwnI w' w.heap.size v L ∧ Below w.heap.size w w'
/-- What a reader of lists answers. -/
def ReadRes (s : ByteArray) (w : World) (e : Ending) (w' : World) : Prop :=
  (∃ ns, IsList s ns ∧ LRes ns true w e w') ∨ ((∀ ns, ¬ IsList s ns) ∧ LRes [] false w e w')

theorem lst_long {s : ByteArray} {O : List ByteArray} (hs : s ≠ ⟨#[110, 111, 110, 101]⟩) (h : byts O = parts 44 s.data.toList) (hl : 60 < O.length) : ∀ ms, ¬ IsList s ms := by
  rintro ms (⟨e, _⟩ | ⟨_, h60, hp, _⟩)
  · exact hs e
  · have := congrArg List.length (h.trans hp)
    simp [byts] at this
    omega

set_option maxHeartbeats 1600000 in
theorem numbers_any (s : ByteArray) (w : World) (hs : s.size ≤ 1048576) :
    Calls Tryd.prog 112 #[.string s] w (ReadRes s w) := by
  have ho := OwnI.empty w w.heap.size (Nat.le_refl _)
  have hb0 : Below w.heap.size w (w.alloc (.cells #[] 2)) := by (repeat (first | assumption | exact Below.refl _ _ | (refine bl_alloc ?_ _) | (refine Below.drew ?_) | (refine bl_drewN ?_ _) | (refine bl_set ?_ (by first | (simp; done) | omega | (simp; omega)) _) | (refine bl_trans ?_ (by assumption)) | (refine bl_step ?_ (by assumption) (by first | omega | exact Below.size (by assumption) | (simp; omega) | (simp; exact Below.size (by assumption))))))
  by_cases hnone : s = ⟨#[110, 111, 110, 101]⟩
  · subst hnone
    go_enter Tryd.func112, Tryd.ntmps112
    go_wp2
    go_ret2
    exact .inl ⟨[], .inl ⟨rfl, rfl⟩, _, rfl, ho, hb0⟩
  · have hne := tx_ne hnone
    have HNO := Lib.hid hnone
    have hne1 : (s.toList == [110, 111, 110, 101]) = false := by simpa using hne
    have hc := fun w1 => l01Cut_any s 44 w1 hs
    clear hnone hne
    go_enter Tryd.func112, Tryd.ntmps112
    go_wp2_with fail
    refine (hc _).mono ?_
    rintro e w2 ⟨vs, O, rfl, hownS, hO, hb2⟩
    have HO := Lib.hid hO
    obtain ⟨AS, cS, rfl, htx⟩ := hownS.txts
    have ho2 := ho.to hb2
    have hbb : Below w.heap.size w w2 := bl_step hb0 hb2 hb0.size
    have hOpos : 0 < O.length := by
      have h1 := congrArg List.length hO
      have h2 := List.length_pos_iff.2 (parts_ne 44 s.data.toList)
      simp [byts] at h1; omega
    obtain ⟨b, off, rfl, htin⟩ : ∃ b off, AS = some ⟨b, off, none⟩ ∧ TxtIn w2 b off O := by
      obtain ⟨b, off, e, h1, h2⟩ := htx hOpos
      exact ⟨b, off, e, h1, h2⟩
    have hdis : w.heap.size ≠ b := by
      rcases hownS.2 with ⟨e, _⟩ | ⟨g, cap, cur, e, hB, _⟩
      · cases e
      · injection e with e1
        injection e1 with e2
        injection e2 with e3
        simp at hB; omega
    clear hO hownS htx hb2 ho hb0 hOpos
    by_cases h60 : O.length ≤ 60
    · have hI : ¬ 60 < (O.length : Int) := by omega
      have hd : decide (60 < O.length) = false := decide_eq_false (by omega)
      go_wp2
      go_loopw [4, 6] (fun v i wr => ∃ (ns : List Int) (k : Nat), k ≤ O.length ∧ i = .int .i64 k ∧ OwnI wr w.heap.size v ns ∧ Hid (ns.length = k) ∧ Hid (ns.map Lib.itoa = (byts O).take k) ∧ Hid (∀ n ∈ ns, -1000000000 ≤ n ∧ n ≤ 1000000000) ∧ TxtIn wr b off O ∧ v.ownBlock ≠ some b ∧ Below w.heap.size w wr) (fun _ i _ => O.length - (intOf i).toNat)
      case atStart => exact ⟨[], 0, Nat.zero_le _, rfl, ho2, rfl, by show _ = _; simp, fun n hn => by simp at hn, htin, by simpa [Value.ownBlock] using hdis, hbb⟩
      case round =>
        clear ho2 hbb htin hdis
        obtain ⟨ns, k, hk, rfl, hown, HL, HM, HB, htin, hdv, hb⟩ := hrel
        by_cases hlt : k < O.length
        · have hltI : (k : Int) < O.length := by omega
          obtain ⟨x, hx⟩ : ∃ x, O[k]? = some x := ⟨O[k], List.getElem?_eq_getElem hlt⟩
          have d0 := htin.2 k x hx
          have HX : Hid ((byts O)[k]? = some x.data.toList) := by show _ = _; simp [byts, hx]
          have hxs : x.size ≤ 1048576 := by
            have h1 := HX.out
            rw [HO.out] at h1
            have h2 := parts_mem 44 _ _ (List.mem_of_getElem? h1)
            have h3 : s.data.toList.length = s.size := by rw [Array.length_toList]; rfl
            have h4 : x.data.toList.length = x.size := by rw [Array.length_toList]; rfl
            omega
          clear hx
          by_cases hn : ∃ m, IsNum x m
          · obtain ⟨m, hm⟩ := hn
            have hv := fun w1 => l01Value_num x m w1 hm
            have HBN : Hid (∀ n ∈ ns ++ [m], -1000000000 ≤ n ∧ n ≤ 1000000000) := by
              intro n hn
              rcases List.mem_append.1 hn with h | h
              · exact HB.out n h
              · rw [List.mem_singleton.1 h]; exact ⟨hm.1, hm.2.1⟩
            have HMN : Hid ((ns ++ [m]).map Lib.itoa = (byts O).take (k + 1)) := by
              show _ = _
              rw [List.take_add_one, ← HM.out, HX.out, hm.2.2]; simp
            have hL : ns.length ≤ 1000000 := by rw [HL.out]; omega
            clear hm
            go_wp2_with (first
              | (go_at_call 90; refine (hv _).mono ?_; rintro e w3 ⟨rfl, hb3⟩; have hown3 := hown.to hb3; have htin3 := htin.to hb3; have hbb3 : Below w.heap.size w w3 := bl_step hb hb3 hb.size)
              | (at_builtin; refine append_int_at rfl (.tmp 34) (.tmp 36) rfl _ w.heap.size _ _ m rfl hown3 _ rfl rfl hL hbb3.size ?_; intro v6 w6 hown6 hbel6 hkp6 hob6 hz6; refine Hid.out ?_))
            have b6 := hbel6 _ hbb3
            have htin6 := htin3.keep (hkp6 b htin3.1 hdv) hz6
            have hdv6 : v6.ownBlock ≠ some b := by
              rcases hob6 with h | ⟨g, h, hg⟩
              · rw [h]; exact hdv
              · rw [h]; intro e; injection e with e; have := htin3.1; omega
            clear hown hbel6 hb hb3 hown3 hbb3 htin htin3 hkp6 hob6 hdv
            refine Lib.hid ?_
            go_wp2
            go_roundw
            case rel => exact ⟨ns ++ [m], k + 1, by omega, by go_num, hown6, by show _ = _; simp [HL.out], HMN, HBN, htin6, hdv6, b6⟩
            case measure => simp [intOf]; omega
          · have hno : ∀ m, ¬ IsNum x m := fun m h => hn ⟨m, h⟩
            have hv := fun w1 => l01Value_bad x w1 hxs (bad_of_none hno _)
            have HZ : Hid (∀ ms, ¬ IsList s ms) := by
              refine none_bad (wd := x) (ns := ns) (X := (byts O).drop (k + 1)) HNO.out ?_ hno
              rw [HM.out, ← HO.out]
              have hk2 : k < (byts O).length := by simp [byts]; exact hlt
              have hg : (byts O)[k] = x.data.toList := Option.some.inj ((List.getElem?_eq_getElem hk2).symm.trans HX.out)
              rw [← hg, ← List.drop_eq_getElem_cons hk2, List.take_append_drop]
            clear hn hno
            go_wp2_with (go_at_call 90; refine (hv _).mono ?_; rintro e w3 ⟨rfl, hb3⟩)
            go_ret2
            exact .inr ⟨HZ.out, _, rfl, OwnI.nil_ _ _, bl_step hb hb3 hb.size⟩
        · obtain rfl : k = O.length := by omega
          have HG : Hid (IsList s ns) := by
            refine .inr ⟨HNO.out, by rw [HL.out]; exact h60, ?_, HB.out⟩
            rw [← HO.out, HM.out, List.take_of_length_le (by simp [byts])]
          go_wp2
          go_ret2
          exact .inl ⟨ns, HG.out, _, rfl, hown, hb⟩
    · have hI : 60 < (O.length : Int) := by omega
      have hd : decide (60 < O.length) = true := decide_eq_true (by omega)
      have HZ : Hid (∀ ms, ¬ IsList s ms) := lst_long HNO.out HO.out (by omega)
      go_wp2
      go_ret2
      exact .inr ⟨HZ.out, _, rfl, OwnI.nil_ _ _, hbb⟩
end Go.Proofs.YtiadoekhhmcokaaDoor
