/-
  Contracts: the channel with a text: spec's l03Read, impl's ReadChannel.
-/
import Derived.Test.YtiadoekhhmcokaaDoorReadList
import Derived.Test.YtiadoekhhmcokaaDoorOwnQ
import Derived.Test.YtiadoekhhmcokaaDoorChanE
namespace Go.Proofs.YtiadoekhhmcokaaDoor
set_option linter.unusedSimpArgs false
set_option linter.unusedVariables false
open Go.ChangeShapes Go.WideShapes Go.ChangeAt Go.RowKit

theorem itoa_no47 (n : Int) : ∀ b ∈ Lib.itoa n, b ≠ 47 := by
  intro b hb e
  subst e
  unfold Lib.itoa at hb
  split at hb
  · rcases List.mem_cons.1 hb with h | h
    · exact absurd h (by decide)
    · exact absurd (decDigits_mem _ _ h).1 (by decide)
  · exact absurd (decDigits_mem _ _ hb).1 (by decide)
theorem mem_joinM (m : UInt8) : ∀ (x : List (List UInt8)) (b : UInt8), b ∈ joinM m x → b = m ∨ ∃ a ∈ x, b ∈ a
  | [], b, h => by simp [joinM] at h
  | [a], b, h => .inr ⟨a, by simp, h⟩
  | a :: c :: t, b, h => by
    rw [joinM] at h
    rcases List.mem_append.1 h with h | h
    · exact .inr ⟨a, by simp, h⟩
    · rcases List.mem_cons.1 h with h | h
      · exact .inl h
      · rcases mem_joinM m (c :: t) b h with h | ⟨d, hd, h⟩
        · exact .inl h
        · exact .inr ⟨d, by simp only [List.mem_cons] at hd ⊢; exact .inr hd, h⟩
theorem isList_no {s : ByteArray} {ns : List Int} (h : IsList s ns) : ∀ b ∈ s.data.toList, b ≠ 47 := by
  rcases h with ⟨rfl, _⟩ | ⟨_, _, hp, _⟩
  · intro b hb
    simp at hb
    rcases hb with rfl | rfl | rfl | rfl <;> decide
  · intro b hb
    rw [← joinM_parts 44 s.data.toList, hp] at hb
    rcases mem_joinM 44 _ b hb with rfl | ⟨a, ha, hb⟩
    · decide
    · obtain ⟨n, _, rfl⟩ := List.mem_map.1 ha
      exact itoa_no47 n b hb
theorem cut_step47 (r : ByteArray) (hs : r.size ≤ 1048576) : ∃ (wd rs : ByteArray) (b : Bool),
    (∀ w, Calls Tryd.prog 87 #[.string r, .string ⟨#[47]⟩] w fun e w' => e = .returned (.tuple #[.string wd, .string rs, .bool b]) ∧ Below w.heap.size w w') ∧
    Hid ((b = true ∧ parts 47 r.data.toList = wd.data.toList :: parts 47 rs.data.toList) ∨ (b = false ∧ parts 47 r.data.toList = [wd.data.toList] ∧ rs = ⟨#[]⟩)) ∧ wd.size ≤ 1048576 ∧ rs.size ≤ 1048576 := by
  have hsz : r.data.toList.length = r.size := by rw [Array.length_toList]; rfl
  rcases indexByte_or r.data.toList 47 with h | ⟨i, h⟩
  · exact ⟨r, ⟨#[]⟩, false, fun w => (cut_miss r 47 w h).mono fun _ _ ⟨he, hw⟩ => ⟨he, by rw [hw]; exact Below.refl _ _⟩, .inr ⟨rfl, parts_miss 47 _ h, rfl⟩, hs, by decide⟩
  · obtain ⟨hp, hi⟩ := parts_hit 47 _ i h
    have e1 : (r.extract 0 i).data.toList = r.data.toList.take i := by rw [Lib.extract_data]; simp
    have e2 : (r.extract (i + 1) r.size).data.toList = r.data.toList.drop (i + 1) := by
      rw [Lib.extract_data]; exact List.take_of_length_le (by rw [List.length_drop]; omega)
    have z1 : (r.extract 0 i).size ≤ 1048576 := by
      have : (r.extract 0 i).size = (r.extract 0 i).data.toList.length := by rw [Array.length_toList]; rfl
      rw [this, e1, List.length_take]; omega
    have z2 : (r.extract (i + 1) r.size).size ≤ 1048576 := by
      have : (r.extract (i + 1) r.size).size = (r.extract (i + 1) r.size).data.toList.length := by rw [Array.length_toList]; rfl
      rw [this, e2, List.length_drop]; omega
    exact ⟨r.extract 0 i, r.extract (i + 1) r.size, true, fun w => cut_hit r 47 i w hs h (by omega), .inl ⟨rfl, by rw [hp, e1, e2]⟩, z1, z2⟩

/-- s is the text of the channel with the rows T and B. -/
def IsCh (s : ByteArray) (T B : List Int) : Prop := ∃ p q : ByteArray, parts 47 s.data.toList = [p.data.toList, q.data.toList] ∧ IsList p T ∧ IsList q B ∧ chanB T B = true
theorem byt_ext {p q : ByteArray} (h : p.data.toList = q.data.toList) : p = q := by
  cases p; cases q
  congr 1
  exact Array.toList_inj.1 h
theorem isCh_uniq {s : ByteArray} {T B T' B' : List Int} (h : IsCh s T B) (h' : IsCh s T' B') : T = T' ∧ B = B' := by
  obtain ⟨p, q, e, h1, h2, _⟩ := h
  obtain ⟨p', q', e', h1', h2', _⟩ := h'
  rw [e] at e'
  injection e' with e1 e2
  injection e2 with e2 _
  rw [byt_ext e1] at h1
  rw [byt_ext e2] at h2
  exact ⟨fnExactReadList.list_uniq h1 h1', fnExactReadList.list_uniq h2 h2'⟩
theorem no_empty (ms : List Int) : ¬ IsList ⟨#[]⟩ ms := by
  rintro (⟨e, _⟩ | ⟨_, _, hp, _⟩)
  · exact absurd (congrArg ByteArray.size e) (by decide)
  · have e : parts 44 (⟨#[]⟩ : ByteArray).data.toList = [[]] := rfl
    rw [e] at hp
    cases ms with
    | nil => simp at hp
    | cons m r =>
      rw [List.map_cons] at hp
      injection hp with h _
      exact itoa_ne m h.symm
/-- A text's list, or none: for the two readers. -/
theorem lists_or (s : ByteArray) (hs : s.size ≤ 1048576) : ∃ (ns : List Int) (ok : Bool), Hid ((ok = true ∧ IsList s ns) ∨ (ok = false ∧ ∀ ms, ¬ IsList s ms)) ∧ ns.length ≤ 60 ∧
    (∀ w, Calls Tryd.prog 112 #[.string s] w (LRes ns ok w)) ∧ (∀ w, ParseLaid w → Calls Tryd.prog 88 #[.string s] w (LRes ns ok w)) := by
  by_cases h : ∃ ns, IsList s ns
  · obtain ⟨ns, h⟩ := h
    have key : ∀ (w : World) e w', ReadRes s w e w' → LRes ns true w e w' := fun w e w' hr => by
      rcases hr with ⟨ms, hm, hr⟩ | ⟨hm, _⟩
      · rw [fnExactReadList.list_uniq h hm]; exact hr
      · exact absurd h (hm ns)
    exact ⟨ns, true, .inl ⟨rfl, h⟩, fnExactReadList.list_len h, fun w => (numbers_any s w hs).mono (key w), fun w hl => (fnExactReadList.readLI_any s w hs hl).mono (key w)⟩
  · have hno : ∀ ms, ¬ IsList s ms := fun ms hm => h ⟨ms, hm⟩
    have key : ∀ (w : World) e w', ReadRes s w e w' → LRes [] false w e w' := fun w e w' hr => by
      rcases hr with ⟨ms, hm, hr⟩ | ⟨hm, hr⟩
      · exact absurd hm (hno ms)
      · exact hr
    exact ⟨[], false, .inr ⟨rfl, hno⟩, by simp, fun w => (numbers_any s w hs).mono (key w), fun w hl => (fnExactReadList.readLI_any s w hs hl).mono (key w)⟩
theorem isCh_no1 {s p q : ByteArray} (e : parts 47 s.data.toList = [p.data.toList, q.data.toList]) (h : ∀ ms, ¬ IsList p ms) : ∀ T B, ¬ IsCh s T B := by
  rintro T B ⟨p', q', e', h1, _⟩
  rw [e] at e'
  injection e' with e1 _
  rw [← byt_ext e1] at h1
  exact h T h1
theorem isCh_no2 {s p q : ByteArray} (e : parts 47 s.data.toList = [p.data.toList, q.data.toList]) (h : ∀ ms, ¬ IsList q ms) : ∀ T B, ¬ IsCh s T B := by
  rintro T B ⟨p', q', e', _, h2, _⟩
  rw [e] at e'
  injection e' with _ e2
  injection e2 with e2 _
  rw [← byt_ext e2] at h2
  exact h B h2
theorem isCh_no3 {s p q : ByteArray} {T B : List Int} (e : parts 47 s.data.toList = [p.data.toList, q.data.toList]) (h1 : IsList p T) (h2 : IsList q B) (hv : chanB T B = false) : ∀ T B, ¬ IsCh s T B := by
  rintro T' B' ⟨p', q', e', h1', h2', hv'⟩
  rw [e] at e'
  injection e' with e1 e2
  injection e2 with e2 _
  rw [← byt_ext e1] at h1'
  rw [← byt_ext e2] at h2'
  rw [fnExactReadList.list_uniq h1' h1, fnExactReadList.list_uniq h2' h2, hv] at hv'
  cases hv'

/-- The slice with the address A holds L in a block of its own, from block B on and below block M. -/
def Own5 (w : World) (B M : Nat) (A : Option Addr) (L : List Int) : Prop := 0 < L.length → ∃ g, A = some ⟨g, 0, none⟩ ∧ B ≤ g ∧ g < M ∧ IBlk w g L L.length
theorem Own5.to {w w1 : World} {B M : Nat} {A : Option Addr} {L : List Int} (h : Own5 w B M A L) (hb : Below w.heap.size w w1) : Own5 w1 B M A L := fun h0 => by
  obtain ⟨g, e, hg, hm, hP⟩ := h h0
  exact ⟨g, e, hg, hm, hP.to hb⟩
theorem Own5.of {w : World} {B : Nat} {A : Option Addr} {L : List Int} (h : Own4 w B A L) : Own5 w B w.heap.size A L := fun h0 => by
  obtain ⟨g, e, hg, hP⟩ := h h0
  exact ⟨g, e, hg, hP.lt, hP⟩
theorem Own5.four {w : World} {B M : Nat} {A : Option Addr} {L : List Int} (h : Own5 w B M A L) : Own4 w B A L := fun h0 => by
  obtain ⟨g, e, hg, _, hP⟩ := h h0
  exact ⟨g, e, hg, hP⟩
theorem Own5.ints {w : World} {B M : Nat} {A : Option Addr} {L : List Int} (h : Own5 w B M A L) : IntsAt w w.heap.size A L := h.four.ints
theorem Own5.mono {w : World} {B B' M : Nat} {A : Option Addr} {L : List Int} (h : Own5 w B M A L) (hB : B' ≤ B) : Own5 w B' M A L := fun h0 => by
  obtain ⟨g, e, hg, hm, hP⟩ := h h0
  exact ⟨g, e, by omega, hm, hP⟩
theorem Own5.set_ {w : World} {B M : Nat} {A : Option Addr} {L : List Int} (h : Own5 w B M A L) (a : Addr) (v : Value) (ha : a.block < B) : Own5 (w.setCell a v) B M A L := fun h0 => by
  obtain ⟨g, e, hg, hm, hP⟩ := h h0
  exact ⟨g, e, hg, hm, hP.keep (Below.heap_setCell _ _ _ g (by omega))⟩

/-- What a reader of channels answers. -/
def ChRes (s : ByteArray) (w : World) (e : Ending) (w' : World) : Prop :=
  Below w.heap.size w w' ∧ ((∃ T B A A' c c' M, IsCh s T B ∧ e = .returned (.tuple #[.agg #[.slice A T.length c, .slice A' B.length c'], .bool true]) ∧ Own5 w' w.heap.size M A T ∧ Own5 w' M w'.heap.size A' B) ∨
    ((∀ T B, ¬ IsCh s T B) ∧ e = .returned (.tuple #[.agg #[.slice none 0 0, .slice none 0 0], .bool false])))
/-- The cell of the result. -/
structure ResC (w : World) (r : Nat) : Prop where
  lt : r < w.heap.size
  c0 : w.cell? ⟨r, 0, none⟩ = some (.slice none 0 0)
  c1 : w.cell? ⟨r, 1, none⟩ = some (.slice none 0 0)
  f0 : w.frozen? ⟨r, 0, none⟩ = false
  f1 : w.frozen? ⟨r, 1, none⟩ = false
theorem ResC.to {w w1 : World} {r : Nat} (h : ResC w r) (hb : Below w.heap.size w w1) : ResC w1 r :=
  ⟨Nat.lt_of_lt_of_le h.lt hb.size, (hb.cell (p := ⟨r, 0, none⟩) h.lt).trans h.c0, (hb.cell (p := ⟨r, 1, none⟩) h.lt).trans h.c1, (hb.frozen (p := ⟨r, 0, none⟩) h.lt).trans h.f0, (hb.frozen (p := ⟨r, 1, none⟩) h.lt).trans h.f1⟩
theorem ResC.new (w : World) : ResC (w.alloc (.cells #[.slice none 0 0, .slice none 0 0] 34)) w.heap.size :=
  ⟨by simp, by simp, by simp, by simp, by simp⟩
theorem noCh {v v' : Value} {b : Bool} (h1 : v = .slice none 0 0) (h2 : v' = .slice none 0 0) (h3 : b = false) : Ending.returned (.tuple #[.agg #[v, v'], .bool b]) = .returned (.tuple #[.agg #[.slice none 0 0, .slice none 0 0], .bool false]) := by rw [h1, h2, h3]

set_option maxRecDepth 100000 in
set_option maxHeartbeats 1600000 in
theorem l03Read_any (s : ByteArray) (w : World) (hs : s.size ≤ 1048576) :
    Calls Tryd.prog 86 #[.string s] w (ChRes s w) := by
  have hr := ResC.new w
  have hb0 : Below w.heap.size w (w.alloc (.cells #[.slice none 0 0, .slice none 0 0] 34)) := by (repeat (first | assumption | exact Below.refl _ _ | (refine bl_alloc ?_ _) | (refine Below.drew ?_) | (refine bl_drewN ?_ _) | (refine bl_set ?_ (by first | (simp; done) | omega | (simp; omega)) _) | (refine bl_trans ?_ (by assumption)) | (refine bl_step ?_ (by assumption) (by first | omega | exact Below.size (by assumption) | (simp; omega) | (simp; exact Below.size (by assumption))))))
  have hc := fun w1 => l01Cut_any s 47 w1 hs
  go_enter Tryd.func86, Tryd.ntmps86
  go_wp2_with fail
  refine (hc _).mono ?_
  rintro e w2 ⟨vs, O, rfl, hownS, hO, hb2⟩
  have HO := Lib.hid hO
  obtain ⟨AS, cS, rfl, htx⟩ := hownS.txts
  have r2 := hr.to hb2
  have b2 := bl_step hb0 hb2 hb0.size
  clear hr hb0 hb2 hc hO hownS
  by_cases h2 : O.length = 2
  · obtain ⟨p, q, rfl⟩ : ∃ p q, O = [p, q] := by
      match O, h2 with
      | [p, q], _ => exact ⟨p, q, rfl⟩
    obtain ⟨b, off, rfl, hlt2, hc2⟩ := htx (by simp)
    have d0 := hc2 0 p rfl
    have d1 := hc2 1 q rfl
    have HP : Hid (parts 47 s.data.toList = [p.data.toList, q.data.toList]) := HO.out.symm
    have hps : p.size ≤ 1048576 ∧ q.size ≤ 1048576 := by
      have h3 : s.data.toList.length = s.size := by rw [Array.length_toList]; rfl
      have h4 : p.data.toList.length = p.size := by rw [Array.length_toList]; rfl
      have h5 : q.data.toList.length = q.size := by rw [Array.length_toList]; rfl
      have h6 := parts_mem 47 s.data.toList p.data.toList (by rw [HP.out]; simp)
      have h7 := parts_mem 47 s.data.toList q.data.toList (by rw [HP.out]; simp)
      omega
    obtain ⟨T, ok1, HV1, hl1, cS1, _⟩ := lists_or p hps.1
    obtain ⟨B, ok2, HV2, hl2, cS2, _⟩ := lists_or q hps.2
    clear hc2 htx h2
    simp only [Nat.add_zero] at d0
    go_wp2_with fail
    refine (cS1 _).mono ?_
    rintro e w3 ⟨v1, rfl, ho1, hb3⟩
    obtain ⟨A1, c1, rfl, o1⟩ := own4_of ho1
    have o13 := (Own5.of o1).mono (B' := w.heap.size + 1) (by have := r2.lt; omega)
    have r3 := r2.to hb3
    have b3 := bl_step b2 hb3 b2.size
    have d13 := (hb3.cell (p := ⟨b, off + 1, none⟩) hlt2).trans d1
    clear d0 d1 ho1 o1 r2 cS1 hb3 b2
    go_wp2_with fail
    refine (cS2 _).mono ?_
    rintro e w4 ⟨v2, rfl, ho2, hb4⟩
    obtain ⟨A2, c2, rfl, o2⟩ := own4_of ho2
    have o14 := o13.to hb4
    have o24 := Own5.of o2
    have r4 := r3.to hb4
    have b4 := bl_step b3 hb4 b3.size
    have z3 := r3.lt
    generalize w3.heap.size = M at *
    clear d13 o13 ho2 o2 r3 cS2 hb4 b3
    cases ok1
    · have HZ : Hid (∀ T B, ¬ IsCh s T B) := by
        rcases HV1.out with ⟨e, _⟩ | ⟨_, h⟩
        · cases e
        · exact isCh_no1 HP.out h
      obtain ⟨_, c0, c1', f0, f1⟩ := r4
      clear HV1 HV2 o14 o24
      go_wp2
      refine bodyPost_ret_by (v := .tuple #[.agg #[.slice none 0 0, .slice none 0 0], .bool false]) ?_ rfl ⟨by (repeat (first | assumption | exact Below.refl _ _ | (refine bl_alloc ?_ _) | (refine Below.drew ?_) | (refine bl_drewN ?_ _) | (refine bl_set ?_ (by first | (simp; done) | omega | (simp; omega)) _) | (refine bl_trans ?_ (by assumption)) | (refine bl_step ?_ (by assumption) (by first | omega | exact Below.size (by assumption) | (simp; omega) | (simp; exact Below.size (by assumption)))))), .inr ⟨HZ.out, rfl⟩⟩
      rw [results_cell_tmp rfl]
      go_simp
    cases ok2
    · have HZ : Hid (∀ T B, ¬ IsCh s T B) := by
        rcases HV2.out with ⟨e, _⟩ | ⟨_, h⟩
        · cases e
        · exact isCh_no2 HP.out h
      obtain ⟨_, c0, c1', f0, f1⟩ := r4
      clear HV1 HV2 o14 o24
      go_wp2
      refine bodyPost_ret_by (v := .tuple #[.agg #[.slice none 0 0, .slice none 0 0], .bool false]) ?_ rfl ⟨by (repeat (first | assumption | exact Below.refl _ _ | (refine bl_alloc ?_ _) | (refine Below.drew ?_) | (refine bl_drewN ?_ _) | (refine bl_set ?_ (by first | (simp; done) | omega | (simp; omega)) _) | (refine bl_trans ?_ (by assumption)) | (refine bl_step ?_ (by assumption) (by first | omega | exact Below.size (by assumption) | (simp; omega) | (simp; exact Below.size (by assumption)))))), .inr ⟨HZ.out, rfl⟩⟩
      rw [results_cell_tmp rfl]
      go_simp
    have HL1 : Hid (IsList p T) := by
      rcases HV1.out with ⟨_, h⟩ | ⟨e, _⟩
      · exact h
      · cases e
    have HL2 : Hid (IsList q B) := by
      rcases HV2.out with ⟨_, h⟩ | ⟨e, _⟩
      · exact h
      · cases e
    have hx : Below w4.heap.size w4 (w4.alloc (.cells #[.slice A1 T.length c1, .slice A2 B.length c2] 34)) := (Below.refl _ _).alloc (Nat.le_refl _) _
    have hch := ChAt.new w4 A1 A2 T.length B.length c1 c2 34
    have hv := l03Is_any w4.heap.size A1 A2 T B c1 c2 _ hch (o14.to hx).ints (o24.to hx).ints
    have r5 := r4.to hx
    have o15 := o14.to hx
    have o25 := o24.to hx
    have b5 := bl_step b4 hx b4.size
    clear HV1 HV2 o14 o24 hx r4
    cases hval : chanB T B
    · have HZ : Hid (∀ T B, ¬ IsCh s T B) := isCh_no3 HP.out HL1.out HL2.out hval
      rw [hval] at hv
      clear hval
      go_wp2_with fail
      refine hv.mono ?_
      rintro e w6 ⟨rfl, hb6⟩
      have b6 := bl_step b5 hb6 b5.size
      obtain ⟨_, c0, c1', f0, f1⟩ := r5.to hb6
      clear o15 o25 hch
      go_wp2
      refine bodyPost_ret_by (v := .tuple #[.agg #[.slice none 0 0, .slice none 0 0], .bool false]) ?_ rfl ⟨by (repeat (first | assumption | exact Below.refl _ _ | (refine bl_alloc ?_ _) | (refine Below.drew ?_) | (refine bl_drewN ?_ _) | (refine bl_set ?_ (by first | (simp; done) | omega | (simp; omega)) _) | (refine bl_trans ?_ (by assumption)) | (refine bl_step ?_ (by assumption) (by first | omega | exact Below.size (by assumption) | (simp; omega) | (simp; exact Below.size (by assumption)))))), .inr ⟨HZ.out, rfl⟩⟩
      rw [results_cell_tmp rfl]
      go_simp
    · have HCH : Hid (IsCh s T B) := ⟨p, q, HP.out, HL1.out, HL2.out, hval⟩
      rw [hval] at hv
      clear hval
      go_wp2_with fail
      refine hv.mono ?_
      rintro e w6 ⟨rfl, hb6⟩
      have b6 := bl_step b5 hb6 b5.size
      obtain ⟨_, c0, c1', f0, f1⟩ := r5.to hb6
      obtain ⟨_, e0, e1⟩ := hch.to hb6
      have o16 := ((o15.to hb6).set_ ⟨w.heap.size, 0, none⟩ (.slice A1 T.length c1) (by simp)).set_ ⟨w.heap.size, 1, none⟩ (.slice A2 B.length c2) (by simp)
      have o26 := ((o25.to hb6).set_ ⟨w.heap.size, 0, none⟩ (.slice A1 T.length c1) z3).set_ ⟨w.heap.size, 1, none⟩ (.slice A2 B.length c2) z3
      have O16 := Lib.hid o16
      have O26 := Lib.hid o26
      have z6 := hb6.size
      clear o15 o25 hch o16 o26 r5
      go_wp2
      refine bodyPost_ret_by (v := .tuple #[.agg #[.slice A1 T.length c1, .slice A2 B.length c2], .bool true]) ?_ rfl ⟨by (repeat (first | assumption | exact Below.refl _ _ | (refine bl_alloc ?_ _) | (refine Below.drew ?_) | (refine bl_drewN ?_ _) | (refine bl_set ?_ (by first | (simp; done) | omega | (simp; omega)) _) | (refine bl_trans ?_ (by assumption)) | (refine bl_step ?_ (by assumption) (by first | omega | exact Below.size (by assumption) | (simp; omega) | (simp; exact Below.size (by assumption)))))), .inl ⟨T, B, A1, A2, c1, c2, M, HCH.out, rfl, (O16.out).mono (by omega), fun h0 => ?_⟩⟩
      · rw [results_cell_tmp rfl]
        go_simp
      · obtain ⟨g, e, hg, hm, hP⟩ := O26.out h0
        exact ⟨g, e, hg, by have := hP.lt; simpa using this, hP⟩
  · have HZ : Hid (∀ T B, ¬ IsCh s T B) := fun T B ⟨p, q, e, _⟩ => h2 (by
      have := congrArg List.length (HO.out.trans e)
      simpa [byts] using this)
    have h2I : ¬ (O.length : Int) = 2 := by omega
    have h2b : ((O.length : Int) == 2) = false := by simpa using h2I
    obtain ⟨_, c0, c1, f0, f1⟩ := r2
    clear h2 htx
    go_wp2
    refine bodyPost_ret_by (v := .tuple #[.agg #[.slice none 0 0, .slice none 0 0], .bool false]) ?_ rfl ⟨by (repeat (first | assumption | exact Below.refl _ _ | (refine bl_alloc ?_ _) | (refine Below.drew ?_) | (refine bl_drewN ?_ _) | (refine bl_set ?_ (by first | (simp; done) | omega | (simp; omega)) _) | (refine bl_trans ?_ (by assumption)) | (refine bl_step ?_ (by assumption) (by first | omega | exact Below.size (by assumption) | (simp; omega) | (simp; exact Below.size (by assumption)))))), .inr ⟨HZ.out, rfl⟩⟩
    rw [results_cell_tmp rfl]
    go_simp

set_option maxRecDepth 100000 in
set_option maxHeartbeats 1600000 in
theorem readChI_any (s : ByteArray) (w : World) (hs : s.size ≤ 1048576) (hl : ParseLaid w) :
    Calls Tryd.prog 50 #[.string s] w (ChRes s w) := by
  have hr := ResC.new w
  have hb0 : Below w.heap.size w (w.alloc (.cells #[.slice none 0 0, .slice none 0 0] 34)) := by (repeat (first | assumption | exact Below.refl _ _ | (refine bl_alloc ?_ _) | (refine Below.drew ?_) | (refine bl_drewN ?_ _) | (refine bl_set ?_ (by first | (simp; done) | omega | (simp; omega)) _) | (refine bl_trans ?_ (by assumption)) | (refine bl_step ?_ (by assumption) (by first | omega | exact Below.size (by assumption) | (simp; omega) | (simp; exact Below.size (by assumption))))))
  obtain ⟨p, q, bb, hc, hcut, hps⟩ := cut_step47 s hs
  obtain ⟨T, ok1, HV1, hl1, _, cI1⟩ := lists_or p hps.1
  obtain ⟨B, ok2, HV2, hl2, _, cI2⟩ := lists_or q hps.2
  have HP : Hid (∀ ms, IsList q ms → parts 47 s.data.toList = [p.data.toList, q.data.toList]) := fun ms hm => by
    rcases hcut.out with ⟨_, e⟩ | ⟨_, e, hq⟩
    · rw [e, parts_no 47 _ (isList_no hm)]
    · subst hq
      exact absurd hm (no_empty ms)
  have HN : Hid ((∀ ms, ¬ IsList q ms) → ∀ T B, ¬ IsCh s T B) := fun hno => by
    rintro T' B' ⟨p', q', e', h1', h2', hv'⟩
    rcases hcut.out with ⟨_, e⟩ | ⟨_, e, _⟩
    · rw [e] at e'
      injection e' with e1 e2
      have e3 : q.data.toList = q'.data.toList := by
        rw [← joinM_parts 47 q.data.toList, e2]; rfl
      rw [← byt_ext e3] at h2'
      exact hno _ h2'
    · rw [e] at e'
      simp at e'
  clear hcut
  go_enter Tryd.func50, Tryd.ntmps50
  go_wp2_with fail
  refine (hc _).mono ?_
  rintro e w2 ⟨rfl, hb2⟩
  have r2 := hr.to hb2
  have b2 := bl_step hb0 hb2 hb0.size
  clear hr hb0 hb2 hc
  go_wp2_with fail
  refine (cI1 _ (hl.stays b2 (Nat.le_refl _))).mono ?_
  rintro e w3 ⟨v1, rfl, ho1, hb3⟩
  obtain ⟨A1, c1, rfl, o1⟩ := own4_of ho1
  have o13 := (Own5.of o1).mono (B' := w.heap.size + 1) (by have := r2.lt; omega)
  have r3 := r2.to hb3
  have b3 := bl_step b2 hb3 b2.size
  clear ho1 o1 r2 cI1 hb3 b2
  go_wp2_with fail
  refine (cI2 _ (hl.stays b3 (Nat.le_refl _))).mono ?_
  rintro e w4 ⟨v2, rfl, ho2, hb4⟩
  obtain ⟨A2, c2, rfl, o2⟩ := own4_of ho2
  have o14 := o13.to hb4
  have o24 := Own5.of o2
  have r4 := r3.to hb4
  have b4 := bl_step b3 hb4 b3.size
  have z3 := r3.lt
  generalize w3.heap.size = M at *
  clear o13 ho2 o2 r3 cI2 hb4 b3
  cases ok1
  · have HZ : Hid (∀ T B, ¬ IsCh s T B) := by
      rcases HV1.out with ⟨e, _⟩ | ⟨_, h⟩
      · cases e
      · rintro T' B' ⟨p', q', e', h1', h2', hv'⟩
        by_cases hq : ∃ ms, IsList q ms
        · obtain ⟨ms, hq⟩ := hq
          exact isCh_no1 (HP.out ms hq) h T' B' ⟨p', q', e', h1', h2', hv'⟩
        · exact HN.out (fun ms hm => hq ⟨ms, hm⟩) T' B' ⟨p', q', e', h1', h2', hv'⟩
    obtain ⟨_, c0, c1', f0, f1⟩ := r4
    clear HV1 HV2 o14 o24
    go_wp2
    refine bodyPost_ret_by (v := .tuple #[.agg #[.slice none 0 0, .slice none 0 0], .bool false]) ?_ rfl ⟨by (repeat (first | assumption | exact Below.refl _ _ | (refine bl_alloc ?_ _) | (refine Below.drew ?_) | (refine bl_drewN ?_ _) | (refine bl_set ?_ (by first | (simp; done) | omega | (simp; omega)) _) | (refine bl_trans ?_ (by assumption)) | (refine bl_step ?_ (by assumption) (by first | omega | exact Below.size (by assumption) | (simp; omega) | (simp; exact Below.size (by assumption)))))), .inr ⟨HZ.out, rfl⟩⟩
    rw [results_cell_tmp rfl]
    go_simp
  cases ok2
  · have HZ : Hid (∀ T B, ¬ IsCh s T B) := by
      rcases HV2.out with ⟨e, _⟩ | ⟨_, h⟩
      · cases e
      · exact HN.out h
    obtain ⟨_, c0, c1', f0, f1⟩ := r4
    clear HV1 HV2 o14 o24
    go_wp2
    refine bodyPost_ret_by (v := .tuple #[.agg #[.slice none 0 0, .slice none 0 0], .bool false]) ?_ rfl ⟨by (repeat (first | assumption | exact Below.refl _ _ | (refine bl_alloc ?_ _) | (refine Below.drew ?_) | (refine bl_drewN ?_ _) | (refine bl_set ?_ (by first | (simp; done) | omega | (simp; omega)) _) | (refine bl_trans ?_ (by assumption)) | (refine bl_step ?_ (by assumption) (by first | omega | exact Below.size (by assumption) | (simp; omega) | (simp; exact Below.size (by assumption)))))), .inr ⟨HZ.out, rfl⟩⟩
    rw [results_cell_tmp rfl]
    go_simp
  have HL1 : Hid (IsList p T) := by
    rcases HV1.out with ⟨_, h⟩ | ⟨e, _⟩
    · exact h
    · cases e
  have HL2 : Hid (IsList q B) := by
    rcases HV2.out with ⟨_, h⟩ | ⟨e, _⟩
    · exact h
    · cases e
  have hx : Below w4.heap.size w4 (w4.alloc (.cells #[.slice A1 T.length c1, .slice A2 B.length c2] 34)) := (Below.refl _ _).alloc (Nat.le_refl _) _
  have hch := ChAt.new w4 A1 A2 T.length B.length c1 c2 34
  have hv := ValidChannelI_any A1 A2 T B c1 c2 _ (o14.to hx).ints (o24.to hx).ints
  have r5 := r4.to hx
  have o15 := o14.to hx
  have o25 := o24.to hx
  have b5 := bl_step b4 hx b4.size
  clear HV1 HV2 o14 o24 hx r4
  cases hval : chanB T B
  · have HZ : Hid (∀ T B, ¬ IsCh s T B) := isCh_no3 (HP.out B HL2.out) HL1.out HL2.out hval
    rw [hval] at hv
    clear hval
    go_wp2_with fail
    refine hv.mono ?_
    rintro e w6 ⟨rfl, hb6⟩
    have b6 := bl_step b5 hb6 b5.size
    obtain ⟨_, c0, c1', f0, f1⟩ := r5.to hb6
    clear o15 o25 hch
    go_wp2
    refine bodyPost_ret_by (v := .tuple #[.agg #[.slice none 0 0, .slice none 0 0], .bool false]) ?_ rfl ⟨by (repeat (first | assumption | exact Below.refl _ _ | (refine bl_alloc ?_ _) | (refine Below.drew ?_) | (refine bl_drewN ?_ _) | (refine bl_set ?_ (by first | (simp; done) | omega | (simp; omega)) _) | (refine bl_trans ?_ (by assumption)) | (refine bl_step ?_ (by assumption) (by first | omega | exact Below.size (by assumption) | (simp; omega) | (simp; exact Below.size (by assumption)))))), .inr ⟨HZ.out, rfl⟩⟩
    rw [results_cell_tmp rfl]
    go_simp
  · have HCH : Hid (IsCh s T B) := ⟨p, q, HP.out B HL2.out, HL1.out, HL2.out, hval⟩
    rw [hval] at hv
    clear hval
    go_wp2_with fail
    refine hv.mono ?_
    rintro e w6 ⟨rfl, hb6⟩
    have b6 := bl_step b5 hb6 b5.size
    obtain ⟨_, c0, c1', f0, f1⟩ := r5.to hb6
    obtain ⟨_, e0, e1⟩ := hch.to hb6
    have o16 := ((o15.to hb6).set_ ⟨w.heap.size, 0, none⟩ (.slice A1 T.length c1) (by simp)).set_ ⟨w.heap.size, 1, none⟩ (.slice A2 B.length c2) (by simp)
    have o26 := ((o25.to hb6).set_ ⟨w.heap.size, 0, none⟩ (.slice A1 T.length c1) z3).set_ ⟨w.heap.size, 1, none⟩ (.slice A2 B.length c2) z3
    have O16 := Lib.hid o16
    have O26 := Lib.hid o26
    have z6 := hb6.size
    clear o15 o25 hch o16 o26 r5
    go_wp2
    refine bodyPost_ret_by (v := .tuple #[.agg #[.slice A1 T.length c1, .slice A2 B.length c2], .bool true]) ?_ rfl ⟨by (repeat (first | assumption | exact Below.refl _ _ | (refine bl_alloc ?_ _) | (refine Below.drew ?_) | (refine bl_drewN ?_ _) | (refine bl_set ?_ (by first | (simp; done) | omega | (simp; omega)) _) | (refine bl_trans ?_ (by assumption)) | (refine bl_step ?_ (by assumption) (by first | omega | exact Below.size (by assumption) | (simp; omega) | (simp; exact Below.size (by assumption)))))), .inl ⟨T, B, A1, A2, c1, c2, M, HCH.out, rfl, (O16.out).mono (by omega), fun h0 => ?_⟩⟩
    · rw [results_cell_tmp rfl]
      go_simp
    · obtain ⟨g, e, hg, hm, hP⟩ := O26.out h0
      exact ⟨g, e, hg, by have := hP.lt; simpa using this, hP⟩
end Go.Proofs.YtiadoekhhmcokaaDoor
