/-
  The text of a maze: the program's, and both contracts.
-/
import Derived.Test.YtdndkknkkgialaaMazeX
import Derived.Test.YtdndkknkkgialaaWords
namespace Go.Proofs.Ytdndkknkkgialaa
set_option linter.unusedSimpArgs false
set_option linter.unusedVariables false
open Go.ChangeShapes Go.WideShapes Go.ChangeAt Go.RowKit

/-- Block g holds the first k of the bytes L, and has places for all of them. -/
def BBlk (w : World) (g : Nat) (L : List Int) (k : Nat) : Prop :=
  ∃ cs, w.heap[g]? = some (.cells cs 5 (0, 0)) ∧ cs.size = L.length ∧ ∀ i, i < k → i < L.length → cs[i]? = some (.int .u8 (L.getD i 0))
theorem BBlk.lt {w : World} {g k : Nat} {L : List Int} (h : BBlk w g L k) : g < w.heap.size := by
  obtain ⟨cs, h, _⟩ := h
  rcases Nat.lt_or_ge g w.heap.size with hlt | hge
  · exact hlt
  · rw [Array.getElem?_eq_none hge] at h; cases h
theorem BBlk.frozen {w : World} {g k : Nat} {L : List Int} (h : BBlk w g L k) (i : Nat) : w.frozen? ⟨g, i, none⟩ = false := by
  obtain ⟨cs, h0, _⟩ := h
  simp [World.frozen?, h0]
theorem BBlk.there {w : World} {g k : Nat} {L : List Int} (h : BBlk w g L k) {i : Nat} (hi : i < L.length) : ∃ v, w.cell? ⟨g, i, none⟩ = some v := by
  obtain ⟨cs, h0, h1, _⟩ := h
  rw [cell_of_row w g _ cs _ _ h0]
  exact ⟨cs[i], by simp [h1, hi]⟩
theorem BBlk.set_ {w : World} {g k : Nat} {L : List Int} (h : BBlk w g L k) (hk : k < L.length) : BBlk (w.setCell ⟨g, k, none⟩ (.int .u8 (L.getD k 0))) g L (k + 1) := by
  obtain ⟨cs, h0, h1, h2⟩ := h
  refine ⟨cs.setIfInBounds k (.int .u8 (L.getD k 0)), ?_, by simpa using h1, ?_⟩
  · simp [World.setCell, Array.getElem?_modify, h0]
  · intro i hi hl
    rcases Nat.lt_or_ge i k with hlt | hge
    · rw [Array.getElem?_setIfInBounds_ne (by omega)]
      exact h2 i hlt hl
    · obtain rfl : i = k := by omega
      simp only [Array.getElem?_setIfInBounds_self, h1]
      rw [if_pos (by omega)]
def blankB (n : Nat) : Array Value := madeCells #[.int .u8 0] n
theorem run_mkbytes (n : Nat) (h : n ≤ 1048576) (w : World) :
    (Instr.makeSlice 88 (.int .i64 (n : Int)) (.int .i64 (n : Int))).run Try.prog w = .ok (.slice (some ⟨w.heap.size, 0, none⟩) n n) (w.alloc (.cells (blankB n) 5)) := by
  obtain ⟨i, hi, hzz⟩ := Option.map_eq_some_iff.1 infoB
  simp only [Prod.mk.injEq] at hzz
  obtain ⟨hz, hs, hb⟩ := hzz
  have := run_make (P := Try.prog) w 88 5 i _ Try.underlying88 hi hz .i64 .i64 n n (by omega) (by omega) (by rw [hb]; omega) (by omega)
  rw [this, hs, Nat.mul_one]
  rfl
theorem BBlk.new (w : World) (L : List Int) : BBlk (w.alloc (.cells (blankB L.length) 5)) w.heap.size L 0 :=
  ⟨blankB L.length, heap_alloc_new w _, by simp [blankB, size_madeCells], fun i hi => by omega⟩
theorem BBlk.text {w : World} {g : Nat} {L : List Int} {l : List UInt8} (h : BBlk w g L L.length) (hl : l.map (fun b => (b.toNat : Int)) = L) :
    ∀ k (hk : k < l.length), w.cell? ((⟨g, 0, none⟩ : Addr).add k) = some (.int .u8 (l[k].toNat : Int)) := fun k hk => by
  have hlen : l.length = L.length := by rw [← hl]; simp
  obtain ⟨cs, h0, h1, h2⟩ := h
  rw [add_plain, Nat.zero_add, cell_of_row w g _ cs _ _ h0, h2 k (by omega) (by omega)]
  rw [← hl]
  simp [List.getD_eq_getElem?_getD, hk]
theorem marks_at {k : Nat} (h : k < 10) : ((({ data := #[35, 49, 50, 51, 52, 53, 54, 55, 56, 57] } : ByteArray)[k]'h).toNat : Int) = mark (k : Int) := by
  match k, h with
  | 0, _ => rfl
  | 1, _ => rfl
  | 2, _ => rfl
  | 3, _ => rfl
  | 4, _ => rfl
  | 5, _ => rfl
  | 6, _ => rfl
  | 7, _ => rfl
  | 8, _ => rfl
  | 9, _ => rfl

/-- The rows' texts. -/
def wordsM (M : Mz) : List (List UInt8) := M.map fun r => byt (rowTx r)
theorem wordsM_len (M : Mz) : (wordsM M).length = M.length := by simp [wordsM]
theorem wordsM_at (M : Mz) (y : Nat) : (wordsM M).getD y [] = byt (rowTx (M.getD y [])) := by
  simp only [wordsM, List.getD_eq_getElem?_getD, List.getElem?_map]
  cases M[y]? <;> rfl
theorem byt_app (a b : List Int) : byt (a ++ b) = byt a ++ byt b := by simp [byt]
theorem mzTo_jn (M : Mz) : ∀ y, byt (mzTo M y) = jn 47 (wordsM M) y
  | 0 => rfl
  | y + 1 => by
    have ih := mzTo_jn M y
    by_cases h : y = 0
    · subst h
      rw [jn_one, wordsM_at]
      simp [mzTo, sepTx]
    · rw [jn_next (by omega), wordsM_at, ← ih]
      simp only [mzTo, sepTx, if_neg h, byt_app]
      simp [byt]
theorem rowTx_by {M : Mz} (hM : MzOk M) {y : Nat} (hy : y < M.length) : ∀ n ∈ rowTx (M.getD y []), 0 ≤ n ∧ n ≤ 255 := fun n hn => by
  have := mzTo_by hM (y + 1) (by omega) n (by simp only [mzTo, List.mem_append]; exact .inr hn)
  exact this
def mzTxV (M : Mz) : Value := if mzB M = true then .tuple #[.string (mzTx M), .bool true] else .tuple #[.string ⟨#[]⟩, .bool false]
theorem mzTxV_parts (M : Mz) : ∃ tx ok, mzTxV M = .tuple #[.string tx, .bool ok] := by
  unfold mzTxV; split
  · exact ⟨_, _, rfl⟩
  · exact ⟨_, _, rfl⟩
theorem mzTxV_t {M : Mz} (h : mzB M = true) : mzTxV M = .tuple #[.string (mzTx M), .bool true] := by unfold mzTxV; rw [if_pos h]
theorem mzTxV_f {M : Mz} (h : mzB M = false) : mzTxV M = .tuple #[.string ⟨#[]⟩, .bool false] := by unfold mzTxV; rw [h]; rfl

set_option maxRecDepth 100000 in
set_option maxHeartbeats 800000 in
theorem MazeTextS_any (A : Option Addr) (Ls : List SlI) (c : Nat) (w : World) (hp : ISAt w w.heap.size A Ls) (hs : Short Ls) :
    Calls Try.prog 35 #[.agg #[.slice A Ls.length c]] w fun e w' => e = .returned (mzTxV (heldI Ls)) ∧ Below w.heap.size w w' := by
  have q1 : (w.alloc (.cells #[.slice A Ls.length c] 27)).cell? ⟨w.heap.size, 0, none⟩ = some (.slice A Ls.length c) := by go_simp
  have q2 : Below w.heap.size w (w.alloc (.cells #[.slice A Ls.length c] 27)) := by (repeat (first | assumption | exact Below.refl _ _ | (refine bl_alloc ?_ _) | (refine Below.drew ?_) | (refine bl_drewN ?_ _) | (refine bl_set ?_ (by first | (simp; done) | omega | (simp; omega)) _) | (refine bl_trans ?_ (by assumption)) | (refine bl_step ?_ (by assumption) (by first | omega | exact Below.size (by assumption) | (simp; omega) | (simp; exact Below.size (by assumption))))))
  have hm := MzAt.new hp q2 q1 (by simp)
  obtain ⟨hn, hl⟩ := hs
  have HL := Lib.hid hl
  clear q1 hl
  cases hv : mzB (heldI Ls)
  · have HF := Lib.hid (mzTxV_f hv)
    have HV := Lib.hid hv
    clear hv
    go_enter Try.func35, Try.ntmps35
    go_wp2_with fail
    refine (l04Is_any w.heap.size A Ls c _ hm.cell hm.lt hm.rows hn HL.out).mono ?_
    rintro e w1 ⟨rfl, hb1⟩
    rw [HV.out]
    go_wp2
    go_ret2
    exact ⟨by rw [HF.out]; rfl, bl_step q2 hb1 q2.size⟩
  · have HF := Lib.hid (mzTxV_t hv)
    have HV := Lib.hid hv
    clear hv
    go_enter Try.func35, Try.ntmps35
    go_wp2_with fail
    refine (l04Is_any w.heap.size A Ls c _ hm.cell hm.lt hm.rows hn HL.out).mono ?_
    rintro e w1 ⟨rfl, hb1⟩
    rw [HV.out]
    have b1 := bl_step q2 hb1 q2.size
    go_wp2_with fail
    refine (l04Text_any w.heap.size A Ls c _ (hm.to hb1) (mzOk_of HV.out)).mono ?_
    rintro e w2 ⟨rfl, hb2⟩
    go_wp2
    go_ret2
    exact ⟨by rw [HF.out]; rfl, bl_step b1 hb2 b1.size⟩
set_option maxRecDepth 100000 in
set_option maxHeartbeats 3200000 in
theorem MazeTextI_any (A : Option Addr) (Ls : List SlI) (c : Nat) (w : World) (hp : ISAt w w.heap.size A Ls) (hs : Short Ls) :
    Calls Try.prog 36 #[.agg #[.slice A Ls.length c]] w fun e w' => e = .returned (mzTxV (heldI Ls)) ∧ Below w.heap.size w w' := by
  have q2 : Below w.heap.size w (w.alloc (.cells #[.slice A Ls.length c] 27)) := by (repeat (first | assumption | exact Below.refl _ _ | (refine bl_alloc ?_ _) | (refine Below.drew ?_) | (refine bl_drewN ?_ _) | (refine bl_set ?_ (by first | (simp; done) | omega | (simp; omega)) _) | (refine bl_trans ?_ (by assumption)) | (refine bl_step ?_ (by assumption) (by first | omega | exact Below.size (by assumption) | (simp; omega) | (simp; exact Below.size (by assumption))))))
  obtain ⟨hn, hl⟩ := hs
  have HL := Lib.hid hl
  clear hl
  cases hv : mzB (heldI Ls)
  · have HF := Lib.hid (mzTxV_f hv)
    have HV := Lib.hid hv
    clear hv
    go_enter Try.func36, Try.ntmps36
    go_wp2_with fail
    refine (ValidMazeI_any A Ls c _ (hp.to q2) hn HL.out).mono ?_
    rintro e w1 ⟨rfl, hb1⟩
    rw [HV.out]
    go_wp2
    go_ret2
    exact ⟨by rw [HF.out]; rfl, bl_step q2 hb1 q2.size⟩
  · have HF := Lib.hid (mzTxV_t hv)
    obtain ⟨M, hM⟩ : ∃ M, heldI Ls = M := ⟨_, rfl⟩
    have hlen := heldI_len Ls
    have hrows := heldI_row Ls
    have hmk := mzOk_of hv
    rw [hM] at hlen hrows hmk HF
    rw [hM]
    have HLen := Lib.hid hlen
    have HRow := Lib.hid hrows
    have HM := Lib.hid hmk
    have HV := Lib.hid hv
    have HP := Lib.hid hp
    have HMM := Lib.hid hM
    have h12 : Ls.length ≤ 12 := by have := hmk.h12; omega
    have h1 : 1 ≤ Ls.length := by have := hmk.h1; omega
    obtain ⟨n, hLn⟩ : ∃ n, Ls.length = n := ⟨_, rfl⟩
    have HN := Lib.hid hLn
    have HLe := Lib.hid hLn
    rw [hLn] at h12 h1
    have cV := fun w1 h => ValidMazeI_any A Ls c w1 h hn HL.out
    rw [hM] at cV
    rw [hM] at hv
    have HV2 := Lib.hid hv
    rw [hLn] at cV q2
    rw [hLn]
    have hmks := run_mkstrs n (by omega)
    have HWl : Hid ((wordsM M).length = n) := by show _ = _; rw [wordsM_len, hlen, hLn]
    clear hv hM hlen hrows hmk hLn hp
    go_enter Try.func36, Try.ntmps36
    go_wp2_with fail
    refine (cV _ (HP.out.to q2)).mono ?_
    rintro e w1 ⟨rfl, hb1⟩
    rw [HV2.out]
    obtain ⟨hc1, hf1, hz1⟩ := bcell hb1
    have hz1' : w.heap.size < w1.heap.size := by (simp at hz1; omega)
    have b1 := bl_step q2 hb1 q2.size
    have hw0 := WBlk.new w1 (wordsM M)
    rw [HWl.out] at hw0
    have hgw : w.heap.size ≤ w1.heap.size := b1.size
    clear hz1 cV
    go_wp2
    clear hmks hc1 hf1
    have b10 : Below w.heap.size w (w1.alloc (.cells (blankS n) 9)) := bl_alloc b1 _
    generalize hG : w1.heap.size = G at *
    clear hG b1 hb1
    go_loopw [5, 6, 7, 8, 9, 20] (fun _ _ _ _ _ i wr => ∃ y : Nat, y ≤ n ∧ i = .int .i64 y ∧ WBlk wr G (wordsM M) y ∧ Below w.heap.size w wr) (fun _ _ _ _ _ i _ => n - (intOf i).toNat)
    case atStart => exact ⟨0, Nat.zero_le _, rfl, hw0, b10⟩
    case round =>
      clear hw0 b10
      obtain ⟨y, hy, rfl, hB, hb⟩ := hrel
      have hy0 : (0 : Int) ≤ (y : Int) := by omega
      by_cases hlt : y < n
      · have hltI : (y : Int) < (n : Int) := by omega
        obtain ⟨b, off, rfl, hbB, hc⟩ := HP.out (by rw [HN.out]; omega)
        obtain ⟨cy, py, _, _⟩ := hc y (by rw [HN.out]; exact hlt)
        have ey := (hb.cell (p := ⟨b, off + y, none⟩) hbB).trans cy
        have hry := HM.out.row y (by rw [HLen.out, HN.out]; exact hlt)
        have hcell := fun x => HM.out.cell y x (by rw [HLen.out, HN.out]; exact hlt)
        have hw12 := HM.out.w12
        have hw := wordsM_at M y
        have hby := rowTx_by HM.out (y := y) (by rw [HLen.out, HN.out]; exact hlt)
        rw [HRow.out] at hry hcell hw hby
        rw [← hry] at hw12 hcell
        have HWy := Lib.hid hw
        have HBY := Lib.hid hby
        have HCE := Lib.hid hcell
        obtain ⟨wo, hwo⟩ : ∃ wo : World, wo = wr := ⟨_, rfl⟩
        subst hwo
        have hbo := hb
        clear hc hcell hry hw hby cy
        generalize (Ls.getD y si0).2.1 = R at *
        generalize (Ls.getD y si0).1 = Ay at *
        generalize (Ls.getD y si0).2.2 = ky at *
        have hmkb := run_mkbytes R.length (by omega)
        have hRl : (rowTx R).length = R.length := by simp [rowTx]
        have hB0 := BBlk.new wo (rowTx R)
        rw [hRl] at hB0
        have HRl := Lib.hid hRl
        have hGl := hB.lt
        have b11 : Below w.heap.size w (wo.alloc (.cells (blankB R.length) 5)) := bl_alloc hb _
        have b12 : Below wo.heap.size wo (wo.alloc (.cells (blankB R.length) 5)) := by (repeat (first | assumption | exact Below.refl _ _ | (refine bl_alloc ?_ _) | (refine Below.drew ?_) | (refine bl_drewN ?_ _) | (refine bl_set ?_ (by first | (simp; done) | omega | (simp; omega)) _) | (refine bl_trans ?_ (by assumption)) | (refine bl_step ?_ (by assumption) (by first | omega | exact Below.size (by assumption) | (simp; omega) | (simp; exact Below.size (by assumption))))))
        clear hRl
        go_wp2
        clear hmkb
        generalize hg : wo.heap.size = gb at *
        clear hg
        go_loopw [8, 9, 30] (fun _ _ i wr => ∃ x : Nat, x ≤ R.length ∧ i = .int .i64 x ∧ BBlk wr gb (rowTx R) x ∧ Below gb wo wr ∧ Below w.heap.size w wr) (fun _ _ i _ => R.length - (intOf i).toNat)
        case atStart => exact ⟨0, Nat.zero_le _, rfl, hB0, b12, b11⟩
        case round =>
          clear hB0 b11 b12
          obtain ⟨x, hx, rfl, hBB, hbi, hb2⟩ := hrel
          have hx0 : (0 : Int) ≤ (x : Int) := by omega
          by_cases hxl : x < R.length
          · obtain ⟨b', off', rfl, hbB', hc'⟩ := py (by omega)
            have ex := (hb2.cell (p := ⟨b', off' + x, none⟩) hbB').trans (hc' x hxl)
            have hce := HCE.out x hxl
            have hxI : (x : Int) < (R.length : Int) := by omega
            have hT : (rowTx R).getD x 0 = mark (R.getD x 0) := by simp [rowTx, List.getD_eq_getElem?_getD, hxl]
            have HS := hBB.set_ (k := x) (by rw [HRl.out]; exact hxl)
            rw [hT] at HS
            obtain ⟨k, hk⟩ : ∃ k : Nat, R.getD x 0 = (k : Int) := ⟨(R.getD x 0).toNat, by omega⟩
            rw [hk] at ex HS hce
            have hk10 : k < 10 := by omega
            have hk10I : (k : Int) < 10 := by omega
            have hk0 : (0 : Int) ≤ (k : Int) := by omega
            rw [← marks_at hk10] at HS
            have HS2 := Lib.hid HS
            have f0 := hBB.frozen x
            obtain ⟨v0, t0⟩ := hBB.there (i := x) (by rw [HRl.out]; exact hxl)
            have hgbl := hBB.lt
            have hgw2 : w.heap.size ≤ gb := by omega
            have bi2 := hbi.setCell (p := ⟨gb, x, none⟩) (Nat.le_refl _) (.int .u8 ((({ data := #[35, 49, 50, 51, 52, 53, 54, 55, 56, 57] } : ByteArray)[k]'hk10).toNat : Int))
            have b22 := hb2.setCell (p := ⟨gb, x, none⟩) hgw2 (.int .u8 ((({ data := #[35, 49, 50, 51, 52, 53, 54, 55, 56, 57] } : ByteArray)[k]'hk10).toNat : Int))
            have BI2 := Lib.hid bi2
            have B22 := Lib.hid b22
            clear hc' hce hT hk HS bi2 b22
            go_wp2
            go_roundw
            case rel => exact ⟨x + 1, by omega, by go_num, HS2.out, BI2.out, B22.out⟩
            case measure => simp [intOf]; omega
          · obtain rfl : x = R.length := by omega
            have hbl : (byt (rowTx R)).length = R.length := by rw [byt_len, HRl.out]
            have hcell := BBlk.text (by rw [HRl.out]; exact hBB) (byt_back HBY.out)
            have hcv := run_convert_bytes_back (P := Try.prog) wr 88 9 5 ⟨gb, 0, none⟩ R.length (byt (rowTx R)) Try.underlying88 Try.underlying5 Try.underlying9 hcell
            rw [hbl] at hcv
            have hB2 := hB.keep (hbi.block G hGl)
            have HS := hB2.set_ (k := y) (by rw [HWl.out]; exact hlt)
            rw [HWy.out] at HS
            have HS2 := Lib.hid HS
            have f0 := hB2.frozen y
            obtain ⟨v0, t0⟩ := hB2.there (i := y) (by rw [HWl.out]; exact hlt)
            have b22 := hb2.setCell (p := ⟨G, y, none⟩) hgw (.string ⟨(byt (rowTx R)).toArray⟩)
            have B22 := Lib.hid b22
            clear hcell HS hbl b22
            generalize byt (rowTx R) = l at *
            go_wp2
            go_roundw
            case rel => exact ⟨y + 1, by omega, by go_num, HS2.out, B22.out⟩
            case measure => simp [intOf]; omega
      · obtain rfl : y = n := by omega
        have hml := mzTo_len HM.out y (by rw [HLen.out, HN.out]; exact Nat.le_refl _)
        have HJ : Hid (mzTx M = ⟨(jn 47 (wordsM M) y).toArray⟩) := by show _ = _; unfold mzTx; rw [mzTo_jn, HLen.out, HN.out]
        have cJ := WBlk.joinBy 47 (by rw [HWl.out]; exact hB) y HWl.out h1 (by omega) (by rw [← mzTo_jn, byt_len]; omega)
        go_wp2_with fail
        refine cJ.mono ?_
        rintro e w2 ⟨rfl, hb2⟩
        have b2 := bl_step hb hb2 hb.size
        go_wp2
        go_ret2
        exact ⟨by rw [HF.out, HJ.out]; rfl, b2⟩
theorem MazeTextS_in (A : Option Addr) (n c : Nat) (M : Mz) (w : World) (h : MzIn w A n M) :
    Calls Try.prog 35 #[.agg #[.slice A n c]] w fun e w' => e = .returned (mzTxV M) ∧ Below w.heap.size w w' := by
  obtain ⟨Ms, rfl, rfl, h3, h4⟩ := h
  exact MazeTextS_any A Ms c w h3 h4
theorem MazeTextI_in (A : Option Addr) (n c : Nat) (M : Mz) (w : World) (h : MzIn w A n M) :
    Calls Try.prog 36 #[.agg #[.slice A n c]] w fun e w' => e = .returned (mzTxV M) ∧ Below w.heap.size w w' := by
  obtain ⟨Ms, rfl, rfl, h3, h4⟩ := h
  exact MazeTextI_any A Ms c w h3 h4
end Go.Proofs.Ytdndkknkkgialaa
