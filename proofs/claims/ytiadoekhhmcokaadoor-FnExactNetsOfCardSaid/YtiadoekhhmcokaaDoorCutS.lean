/-
  A slice of texts of the call's own, appended to; spec's l01Cut.
-/
import Derived.Test.YtiadoekhhmcokaaDoorSplit
import Derived.Test.YtiadoekhhmcokaaDoorText
import Derived.Lib.Strings
namespace Go.Proofs.YtiadoekhhmcokaaDoor
set_option linter.unusedSimpArgs false
set_option linter.unusedVariables false
open Go.ChangeShapes Go.WideShapes Go.ChangeAt Go.RowKit

/-- The cells of texts. -/
def cellsS (l : List ByteArray) : List Value := l.map fun n => .string n
theorem cellsS_snoc (l : List ByteArray) (n : ByteArray) : cellsS (l ++ [n]) = cellsS l ++ [.string n] := by simp [cellsS]
theorem cellsS_at {l : List ByteArray} {i : Nat} {x : ByteArray} (h : l[i]? = some x) : (cellsS l)[i]? = some (.string x) := by
  simp [cellsS, h]
/-- A slice of the call's own holds the texts L. -/
def OwnS (w : World) (base : Nat) (v : Value) (L : List ByteArray) : Prop := w.ownsRow base 9 1 v L.length (cellsS L)
theorem OwnS.snoc {w : World} {base : Nat} {v : Value} {L : List ByteArray} {x : ByteArray} (h : w.ownsRow base 9 1 v (L.length + 1) (cellsS L ++ [.string x])) : OwnS w base v (L ++ [x]) := by
  unfold OwnS; rw [cellsS_snoc]; simpa using h
theorem OwnS.to {w w1 : World} {base : Nat} {v : Value} {L : List ByteArray} (h : OwnS w base v L) (hb : Below w.heap.size w w1) : OwnS w1 base v L :=
  World.ownsRow.kept (row := none) h ⟨hb.os, hb.tape, hb.output, hb.size, fun i hi _ => hb.block i hi⟩ (by
    rcases h.2 with ⟨rfl, _⟩ | ⟨g, cap, cur, rfl, _⟩
    · exact .inl rfl
    · exact .inr (by simp [Value.ownBlock]))
theorem OwnS.empty (w : World) (base : Nat) (hB : base ≤ w.heap.size) : OwnS (w.alloc (.cells #[] 9)) base (.slice (some ⟨w.heap.size, 0, none⟩) 0 0) [] :=
  ⟨rfl, .inr ⟨w.heap.size, 0, #[], rfl, hB, heap_alloc_new w _, Nat.le_refl _, Nat.zero_le _, rfl, rfl⟩⟩
/-- .. what it is to a reader. -/
def TxtAt (w : World) (B : Nat) (A : Option Addr) (L : List ByteArray) : Prop := 0 < L.length → ∃ b off, A = some ⟨b, off, none⟩ ∧ b < B ∧ ∀ i x, L[i]? = some x → w.cell? ⟨b, off + i, none⟩ = some (.string x)
theorem OwnS.txts {w : World} {B : Nat} {v : Value} {L : List ByteArray} (h : OwnS w B v L) : ∃ A c, v = .slice A L.length c ∧ TxtAt w w.heap.size A L := by
  rcases h.2 with ⟨rfl, h0⟩ | ⟨g, cap, cur, rfl, hB, hh, hn, _, hs, ht⟩
  · exact ⟨none, 0, by rw [h0], fun h1 => by omega⟩
  · refine ⟨_, _, rfl, fun _ => ⟨g, 0, rfl, ?_, fun i x hi => ?_⟩⟩
    · rcases Nat.lt_or_ge g w.heap.size with hlt | hge
      · exact hlt
      · rw [Array.getElem?_eq_none hge] at hh; cases hh
    · rw [cell_of_row w g _ cur _ _ hh, Nat.zero_add]
      have hi' : i < L.length := by
        rcases Nat.lt_or_ge i L.length with h | h
        · exact h
        · rw [List.getElem?_eq_none h] at hi; cases hi
      have key : cur[i]? = (cellsS L)[i]? := by
        rw [← ht, List.getElem?_take, if_pos (by omega), Array.getElem?_toList]
      rw [key]; exact cellsS_at hi
theorem infoS : (Tryd.prog.info? 9).map (fun i => (i.zero, i.size, i.bytes)) = some (some (.string ⟨#[]⟩), 1, 16) := by kernel_rfl
theorem append_text {ops : Array Oper} {rest : List Oper} {o : Oper} {a : Act} {Q : Exit → Act → World → Prop} (hgd : o.guard = none) (s x : Operand)
    (ho : o.op = .call { callee := .builtin .append, args := #[s, x], argTypes := #[120, 120] }) (w : World) (base : Nat) (v : Value) (L : List ByteArray) (X : ByteArray)
    (hs : a.eval s = v) (hown : OwnS w base v L) (B0 : Nat) (hB0 : B0 = w.heap.size) (hx : a.eval x = .slice (some ⟨B0, 0, none⟩) 1 1) (hL : L.length ≤ 1100000) (hbase : base ≤ w.heap.size)
    (h : ∀ v' w', OwnS w' base v' (L ++ [X]) → (∀ a0, Below base a0 w → Below base a0 w') → wpList Tryd.prog ops Q rest (a.put o.dst v') w') :
    wpList Tryd.prog ops Q (o :: rest) a (w.alloc (.cells #[.string X] 9)) := by
  subst hB0
  obtain ⟨i0, hi0, hz0, hz1, hz2⟩ := info_parts infoS
  have hown' : (w.alloc (.cells #[.string X] 9)).ownsRow base 9 1 v L.length (cellsS L) := World.ownsRow.alloc hown _
  refine wpList_append_own _ hgd s x _ ho base 9 i0 _ 1 16 Tryd.underlying120 hi0 hz0 hz1 hz2 rfl (by decide) v L.length (cellsS L) hs hown' ⟨w.heap.size, 0, none⟩ 1 1 [.string X] hx rfl ?_ ?_ ?_ ?_ ?_ ?_
  · intro j u hu
    rcases j with _ | j
    · simp at hu; subst hu; simp [Addr.add]
    · simp at hu
  · intro u hu
    simp at hu
    subst hu; rfl
  · unfold maxLen; omega
  · omega
  · simp; omega
  · intro v' w' h1 h2 _
    exact h v' w' (OwnS.snoc h1) fun a0 hb => Below.grown (hb.alloc hbase _) h2 (by simp; omega) fun k hk => (hown'.lt k hk).1

/-- The texts' bytes. -/
def byts (O : List ByteArray) : List (List UInt8) := O.map fun s => s.data.toList
theorem byts_snoc (O : List ByteArray) (s : ByteArray) : byts (O ++ [s]) = byts O ++ [s.data.toList] := by simp [byts]
theorem SplitAt.lens {m : UInt8} {l : List UInt8} {O : List ByteArray} {f k : Nat} (h : SplitAt m l (byts O) f k) : O.length ≤ l.length + 1 := by
  have h1 := congrArg List.length h
  have h2 := parts_len m l
  simp [byts] at h1
  omega
/-- The answer: the pieces, in a slice of the call's own. -/
def CutRes (m : UInt8) (s : ByteArray) (w : World) (e : Ending) (w' : World) : Prop :=
  ∃ v O, e = .returned v ∧ OwnS w' w.heap.size v O ∧ byts O = parts m s.data.toList ∧ Below w.heap.size w w'

set_option maxHeartbeats 1600000 in
theorem l01Cut_any (s : ByteArray) (m : UInt8) (w : World) (hs : s.size ≤ 1048576) :
    Calls Tryd.prog 89 #[.string s, .int .u8 (m.toNat : Int)] w (CutRes m s w) := by
  have hsI : (s.size : Int) ≤ 1048576 := by omega
  have hsz : s.data.toList.length = s.size := by rw [Array.length_toList]; rfl
  have ho := OwnS.empty w w.heap.size (Nat.le_refl _)
  have hb0 : Below w.heap.size w (w.alloc (.cells #[] 9)) := by (repeat (first | assumption | exact Below.refl _ _ | (refine bl_alloc ?_ _) | (refine Below.drew ?_) | (refine bl_drewN ?_ _) | (refine bl_set ?_ (by first | (simp; done) | omega | (simp; omega)) _) | (refine bl_trans ?_ (by assumption)) | (refine bl_step ?_ (by assumption) (by first | omega | exact Below.size (by assumption) | (simp; omega) | (simp; exact Below.size (by assumption))))))
  go_enter Tryd.func89, Tryd.ntmps89
  go_wp2
  go_loopw [5, 6, 7] (fun v f i wr => ∃ (O : List ByteArray) (fr k : Nat), f = .int .i64 fr ∧ i = .int .i64 k ∧ fr ≤ k ∧ OwnS wr w.heap.size v O ∧ Below w.heap.size w wr ∧ ((k ≤ s.size ∧ Hid (SplitAt m s.data.toList (byts O) fr k)) ∨ (k = s.size + 1 ∧ Hid (byts O = parts m s.data.toList)))) (fun _ _ i _ => s.size + 1 - (intOf i).toNat)
  case atStart => exact ⟨[], 0, 0, rfl, rfl, Nat.le_refl _, ho, hb0, .inl ⟨Nat.zero_le _, SplitAt.start _ _⟩⟩
  case round =>
    clear ho hb0
    obtain ⟨O, fr, k, rfl, rfl, hfk, hown, hb, hor⟩ := hrel
    rcases hor with ⟨hk, HS⟩ | ⟨rfl, HE⟩
    · have hOl : O.length ≤ 1100000 := by have := HS.out.lens; omega
      have hf1 : (fr : Int) ≤ (k : Int) := by omega
      by_cases hlt : k < s.size
      · have hltI : (k : Int) < s.size := by omega
        have HGK : Hid (s[k] = s.data.toList[k]'(by omega)) := rfl
        by_cases hc : (s[k].toNat : Int) = (m.toNat : Int)
        · have HN : Hid (SplitAt m s.data.toList (byts (O ++ [s.extract fr k])) (k + 1) (k + 1)) := by
            show SplitAt _ _ _ _ _
            rw [byts_snoc, Lib.extract_data]
            exact HS.out.mark (by omega) (by rw [← HGK.out]; exact UInt8.toNat_inj.1 (by omega))
          have hc1 : ((s[k].toNat : Int) == (m.toNat : Int)) = true := by simp [hc]
          go_wp2_with (at_builtin; refine append_text rfl (.tmp 26) (.tmp 31) rfl wr w.heap.size _ _ _ rfl hown _ rfl rfl hOl hb.size ?_; intro v6 w6 hown6 hbel6; refine Hid.out ?_)
          have b6 := hbel6 _ hb
          clear hown hbel6 hb
          refine Lib.hid ?_
          go_wp2
          go_roundw
          case rel => exact ⟨O ++ [s.extract fr k], k + 1, k + 1, by go_num, by go_num, Nat.le_refl _, hown6, b6, .inl ⟨by omega, HN⟩⟩
          case measure => simp [intOf]; omega
        · have HN : Hid (SplitAt m s.data.toList (byts O) fr (k + 1)) := HS.out.other hfk (by omega) (by rw [← HGK.out]; exact fun e => hc (by rw [e]))
          have hc1 : ((s[k].toNat : Int) == (m.toNat : Int)) = false := by simpa using hc
          have hk1 : ((k : Int) == (s.size : Int)) = false := by simp; omega
          go_wp2
          go_roundw
          case rel => exact ⟨O, fr, k + 1, rfl, by go_num, by omega, hown, hb, .inl ⟨by omega, HN⟩⟩
          case measure => simp [intOf]; omega
      · obtain rfl : k = s.size := by omega
        have HN : Hid (byts (O ++ [s.extract fr s.size]) = parts m s.data.toList) := by
          show _ = _
          rw [byts_snoc, Lib.extract_data]
          have := HS.out
          rw [← hsz] at this ⊢
          exact this.last
        go_wp2_with (at_builtin; refine append_text rfl (.tmp 26) (.tmp 31) rfl wr w.heap.size _ _ _ rfl hown _ rfl rfl hOl hb.size ?_; intro v6 w6 hown6 hbel6; refine Hid.out ?_)
        have b6 := hbel6 _ hb
        clear hown hbel6 hb
        refine Lib.hid ?_
        go_wp2
        go_roundw
        case rel => exact ⟨O ++ [s.extract fr s.size], s.size + 1, s.size + 1, by go_num, by go_num, Nat.le_refl _, hown6, b6, .inr ⟨rfl, HN⟩⟩
        case measure => simp [intOf]
    · go_wp2
      go_ret
      exact ⟨_, O, rfl, hown, HE.out, hb⟩
end Go.Proofs.YtiadoekhhmcokaaDoor
