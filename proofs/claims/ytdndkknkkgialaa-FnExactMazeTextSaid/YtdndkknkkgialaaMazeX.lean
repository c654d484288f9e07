/-
  The text of a maze, said over lists; the model's.
-/
import Derived.Test.YtdndkknkkgialaaMazeW
import Derived.Test.YtdndkknkkgialaaDec
import Derived.Lib.Join
namespace Go.Proofs.Ytdndkknkkgialaa
set_option linter.unusedSimpArgs false
set_option linter.unusedVariables false
open Go.ChangeShapes Go.WideShapes Go.ChangeAt Go.RowKit

/-- The mark of a price, its byte's number. -/
def mark (n : Int) : Int := if n = 0 then 35 else 48 + n
def rowTx (r : List Int) : List Int := r.map mark
theorem rowTx_take {r : List Int} {x : Nat} (h : x < r.length) : rowTx (r.take (x + 1)) = rowTx (r.take x) ++ [mark (r.getD x 0)] := by
  unfold rowTx
  rw [List.take_succ_eq_append_getElem h, List.map_append]
  congr 1
  simp [List.getD_eq_getElem?_getD, h]
def sepTx (y : Nat) : List Int := if y = 0 then [] else [47]
/-- The text of the first rows. -/
def mzTo (M : Mz) : Nat → List Int
  | 0 => []
  | y + 1 => mzTo M y ++ sepTx y ++ rowTx (M.getD y [])
theorem mzTo_len {M : Mz} (hM : MzOk M) : ∀ y, y ≤ M.length → (mzTo M y).length ≤ 13 * y
  | 0, _ => by simp [mzTo]
  | y + 1, h => by
    have ih := mzTo_len hM y (by omega)
    have h1 := hM.row y (by omega)
    have h2 := hM.w12
    have hs : (sepTx y).length ≤ 1 := by unfold sepTx; split <;> simp
    simp only [mzTo, List.length_append, rowTx, List.length_map]
    omega
/-- Bytes' numbers, as bytes. -/
def byt (l : List Int) : List UInt8 := l.map fun n => UInt8.ofNat n.toNat
theorem byt_len (l : List Int) : (byt l).length = l.length := by simp [byt]
theorem mark_lo {n : Int} (h : 0 ≤ n ∧ n ≤ 9) : 35 ≤ mark n ∧ mark n ≤ 57 := by unfold mark; split <;> omega
def mzTx (M : Mz) : ByteArray := ⟨(byt (mzTo M M.length)).toArray⟩
theorem mzTo_by {M : Mz} (hM : MzOk M) : ∀ y, y ≤ M.length → ∀ n ∈ mzTo M y, 0 ≤ n ∧ n ≤ 255
  | 0, _, n, hn => by simp [mzTo] at hn
  | y + 1, h, n, hn => by
    simp only [mzTo, List.mem_append] at hn
    rcases hn with (hn | hn) | hn
    · exact mzTo_by hM y (by omega) n hn
    · unfold sepTx at hn; split at hn
      · simp at hn
      · simp at hn; omega
    · simp only [rowTx, List.mem_map] at hn
      obtain ⟨v, hv, rfl⟩ := hn
      obtain ⟨x, hx, hxv⟩ := List.getElem_of_mem hv
      have h1 := hM.row y (by omega)
      have h2 := hM.cell y x (by omega) (by omega)
      have e : (M.getD y []).getD x 0 = v := by
        generalize M.getD y [] = r at *
        simp [List.getD_eq_getElem?_getD, hx, hxv]
      rw [e] at h2
      have := mark_lo h2; omega
theorem byt_back {l : List Int} (h : ∀ n ∈ l, 0 ≤ n ∧ n ≤ 255) : (byt l).map (fun b => (b.toNat : Int)) = l := by
  unfold byt
  rw [List.map_map]
  conv => rhs; rw [← List.map_id l]
  refine List.map_congr_left fun n hn => ?_
  have := h n hn
  simp [UInt8.toNat_ofNat']
  omega
theorem OwnB.to {w w1 : World} {base : Nat} {v : Value} {L : List Int} (h : OwnB w base v L) (hb : Below w.heap.size w w1) : OwnB w1 base v L :=
  World.ownsRow.kept (row := none) h ⟨hb.os, hb.tape, hb.output, hb.size, fun i hi _ => hb.block i hi⟩ (by
    rcases h.2 with ⟨rfl, _⟩ | ⟨g, cap, cur, rfl, _⟩
    · exact .inl rfl
    · exact .inr (by simp [Value.ownBlock]))
theorem OwnB.text {w : World} {B : Nat} {v : Value} {L : List Int} {l : List UInt8} (h : OwnB w B v L) (h0 : 0 < L.length) (hl : l.map (fun b => (b.toNat : Int)) = L) :
    ∃ g c, v = .slice (some ⟨g, 0, none⟩) l.length c ∧ ∀ k (hk : k < l.length), w.cell? ((⟨g, 0, none⟩ : Addr).add k) = some (.int .u8 (l[k].toNat : Int)) := by
  have hlen : l.length = L.length := by rw [← hl]; simp
  rcases h.2 with ⟨rfl, h1⟩ | ⟨g, cap, cur, rfl, hB, hh, hn, _, hs, ht⟩
  · omega
  · refine ⟨g, cap, by rw [hlen], fun k hk => ?_⟩
    have key : cur[k]? = (cellsB L)[k]? := by
      rw [← ht, List.getElem?_take, if_pos (by omega), Array.getElem?_toList]
    rw [add_plain, Nat.zero_add, cell_of_row w g _ cur _ _ hh, key, cellsB_at (by omega)]
    rw [← hl]
    simp [List.getD_eq_getElem?_getD, hk]
theorem mzTo_pos {M : Mz} (hM : MzOk M) : 0 < (mzTo M M.length).length := by
  obtain ⟨y, hy⟩ : ∃ y, M.length = y + 1 := ⟨M.length - 1, by have := hM.h1; omega⟩
  have h1 := hM.row y (by omega)
  have h2 := hM.w1
  rw [hy]
  simp only [mzTo, List.length_append, rowTx, List.length_map]
  omega
set_option maxRecDepth 100000 in
set_option maxHeartbeats 3200000 in
theorem l04Text_any (g : Nat) (A : Option Addr) (Ls : List SlI) (c : Nat) (w : World) (hm : MzAt w g A Ls c) (hv : MzOk (heldI Ls)) :
    Calls Try.prog 70 #[.pointer (some ⟨g, 0, none⟩)] w fun e w' => e = .returned (.string (mzTx (heldI Ls))) ∧ Below w.heap.size w w' := by
  obtain ⟨hg, hgl, hp⟩ := hm
  obtain ⟨M, hM⟩ : ∃ M, heldI Ls = M := ⟨_, rfl⟩
  have hlen := heldI_len Ls
  have hrows := heldI_row Ls
  rw [hM] at hv hlen hrows ⊢
  have HV := Lib.hid hv
  have HLen := Lib.hid hlen
  have HRow := Lib.hid hrows
  have HIS := Lib.hid hp
  have ho := OwnB.empty w w.heap.size (Nat.le_refl _)
  have hb0 : Below w.heap.size w (w.alloc (.cells #[] 5)) := by (repeat (first | assumption | exact Below.refl _ _ | (refine bl_alloc ?_ _) | (refine Below.drew ?_) | (refine bl_drewN ?_ _) | (refine bl_set ?_ (by first | (simp; done) | omega | (simp; omega)) _) | (refine bl_trans ?_ (by assumption)) | (refine bl_step ?_ (by assumption) (by first | omega | exact Below.size (by assumption) | (simp; omega) | (simp; exact Below.size (by assumption))))))
  have h12 : Ls.length ≤ 12 := by have := hv.h12; omega
  have hL0 : Hid (mzTo M 0 = []) := rfl
  rw [← hL0.out] at ho
  obtain ⟨n, hLn⟩ : ∃ n, Ls.length = n := ⟨_, rfl⟩
  rw [hLn] at hg HLen h12
  have HN := Lib.hid hLn
  clear hM hv hlen hrows hp hLn
  go_enter Try.func70, Try.ntmps70
  go_wp2
  go_loopw [3, 4, 5] (fun v i _ wr => ∃ y : Nat, y ≤ n ∧ i = .int .i64 y ∧ OwnB wr w.heap.size v (mzTo M y) ∧ Below w.heap.size w wr) (fun _ i _ _ => n - (intOf i).toNat)
  case atStart => exact ⟨0, Nat.zero_le _, rfl, ho, hb0⟩
  case round =>
    clear ho hb0
    obtain ⟨y, hy, rfl, hown, hb⟩ := hrel
    have hy0 : (0 : Int) ≤ (y : Int) := by omega
    have dg := (hb.cell (p := ⟨g, 0, none⟩) hgl).trans hg
    by_cases hlt : y < n
    · have hltI : (y : Int) < (n : Int) := by omega
      obtain ⟨b, off, rfl, hbB, hc⟩ := HIS.out (by rw [HN.out]; omega)
      obtain ⟨cy, py, _, _⟩ := hc y (by rw [HN.out]; exact hlt)
      have hry := HV.out.row y (by rw [HLen.out]; exact hlt)
      have hcell := fun x => HV.out.cell y x (by rw [HLen.out]; exact hlt)
      have hw12 := HV.out.w12
      have hnxt : mzTo M (y + 1) = mzTo M y ++ sepTx y ++ rowTx (M.getD y []) := rfl
      have hml := mzTo_len HV.out y (by rw [HLen.out]; omega)
      rw [HRow.out] at hry hcell hnxt
      rw [← hry] at hw12 hcell
      obtain ⟨wo, hwo⟩ : ∃ wo : World, wo = wr := ⟨_, rfl⟩
      subst hwo
      have HNX := Lib.hid hnxt
      have HCE := Lib.hid hcell
      have HRY := Lib.hid hry
      have hyy : y ≤ 12 := by omega
      clear hc hnxt hcell hry
      generalize (Ls.getD y si0).2.1 = R at *
      generalize (Ls.getD y si0).1 = Ay at *
      generalize (Ls.getD y si0).2.2 = ky at *
      have key : ∀ (v : Value) (L0 : List Int) (wz : World), OwnB wz w.heap.size v L0 → Below w.heap.size w wz → Hid (L0 = mzTo M y ++ sepTx y) → L0.length ≤ 170 → True := fun _ _ _ _ _ _ _ => trivial
      clear key
      by_cases hyz : y = 0
      · have HS1 : Hid (mzTo M y = mzTo M y ++ sepTx y) := by show _ = _; rw [hyz]; simp [sepTx]
        have hyd : ¬ (0 : Int) < (y : Int) := by omega
        have hydd : decide (0 < y) = false := decide_eq_false (by omega)
        have HYZ := Lib.hid hyz
        clear hyz
        go_wp2
        obtain ⟨L0, hL0⟩ : ∃ L0, mzTo M y = L0 := ⟨_, rfl⟩
        have HS0 : Hid (L0 = mzTo M y ++ sepTx y) := by show _ = _; rw [← hL0]; exact HS1.out
        rw [hL0] at hown hml
        clear hL0
        go_loopw [3, 5] (fun v i wr => ∃ x : Nat, x ≤ R.length ∧ i = .int .i64 x ∧ OwnB wr w.heap.size v (L0 ++ rowTx (R.take x)) ∧ Below w.heap.size w wr) (fun _ i _ => R.length - (intOf i).toNat)
        case atStart => exact ⟨0, Nat.zero_le _, rfl, by simpa [rowTx] using hown, hb⟩
        case round =>
          clear hown dg
          obtain ⟨x, hx, rfl, hown2, hb2⟩ := hrel
          have hx0 : (0 : Int) ≤ (x : Int) := by omega
          have eg := (hb2.cell (p := ⟨g, 0, none⟩) hgl).trans hg
          have ey := (hb2.cell (p := ⟨b, off + y, none⟩) hbB).trans cy
          by_cases hxl : x < R.length
          · obtain ⟨b', off', rfl, hbB', hc'⟩ := py (by omega)
            have ex := (hb2.cell (p := ⟨b', off' + x, none⟩) hbB').trans (hc' x hxl)
            have hce := HCE.out x hxl
            have HT := Lib.hid (rowTx_take hxl)
            have hxI : (x : Int) < (R.length : Int) := by omega
            have hlen2 : (L0 ++ rowTx (R.take x)).length ≤ 1000 := by simp [rowTx]; omega
            clear hc'
            generalize R.getD x 0 = v at *
            obtain ⟨hv0, hv9⟩ := hce
            have hzz := hb2.size
            by_cases hvz : v = 0
            · have HMk : Hid (mark v = 35) := by show _ = _; simp [mark, hvz]
              have hvb : (v == 0) = true := by simpa using hvz
              clear hvz
              go_wp2_with (at_builtin; refine append_byte rfl (.tmp 44) (.tmp 45) rfl _ w.heap.size _ _ 35 rfl hown2 _ rfl rfl (by omega) hzz ?_; intro v6 w6 hown6 hbel6; refine Hid.out ?_)
              have b6 := hbel6 _ hb2
              rw [List.append_assoc, ← HMk.out, ← HT.out] at hown6
              clear hown2 hbel6 hb2 eg ey ex
              refine Lib.hid ?_
              go_wp2
              go_roundw
              case rel => exact ⟨x + 1, by omega, by go_num, hown6, b6⟩
              case measure => simp [intOf]; omega
            · have HMk : Hid (mark v = 48 + v) := by show _ = _; simp [mark, hvz]
              have hvb : (v == 0) = false := by simpa using hvz
              have hwr8 : IntKind.u8.wrap (48 + v) = 48 + v := by unfold IntKind.wrap; simp [IntKind.bits, IntKind.signed]; omega
              have hvI : ¬ v = 0 := hvz
              have HVZ := Lib.hid hvz
              clear hvz
              go_wp2_with (at_builtin; refine append_byte rfl (.tmp 47) (.tmp 60) rfl _ w.heap.size _ _ (48 + v) rfl hown2 _ rfl rfl (by omega) hzz ?_; intro v6 w6 hown6 hbel6; refine Hid.out ?_)
              have b6 := hbel6 _ hb2
              rw [List.append_assoc, ← HMk.out, ← HT.out] at hown6
              clear hown2 hbel6 hb2 eg ey ex hwr8
              refine Lib.hid ?_
              go_wp2
              go_roundw
              case rel => exact ⟨x + 1, by omega, by go_num, hown6, b6⟩
              case measure => simp [intOf]; omega
          · obtain rfl : x = R.length := by omega
            rw [List.take_length] at hown2
            have HE : Hid (L0 ++ rowTx R = mzTo M (y + 1)) := by show _ = _; rw [HNX.out, HS0.out]
            rw [HE.out] at hown2
            go_wp2
            go_roundw
            case rel => exact ⟨y + 1, by omega, by go_num, hown2, hb2⟩
            case measure => simp [intOf]; omega
      · have hyd : (0 : Int) < (y : Int) := by omega
        have hydd : decide (0 < y) = true := decide_eq_true (by omega)
        have HS1 : Hid (mzTo M y ++ [47] = mzTo M y ++ sepTx y) := by show _ = _; simp [sepTx, hyz]
        have hzz0 := hb.size
        have hll : (mzTo M y).length ≤ 1000000 := by omega
        have HYZ := Lib.hid hyz
        clear hyz
        go_wp2_with (at_builtin; refine append_byte rfl (.tmp 18) (.tmp 19) rfl _ w.heap.size _ _ 47 rfl hown _ rfl rfl hll hzz0 ?_; intro v5 w5 hown5 hbel5; refine Hid.out ?_)
        have b5 := hbel5 _ hb
        have d5 := (b5.cell (p := ⟨g, 0, none⟩) hgl).trans hg
        have hml5 : (mzTo M y ++ [47]).length ≤ 13 * y + 1 := by simp; omega
        clear hown hbel5 hb dg hml hll
        have hown := hown5
        have hb := b5
        have dg := d5
        have hml := hml5
        clear hown5 b5 d5 hml5
        refine Lib.hid ?_
        go_wp2
        obtain ⟨L0, hL0⟩ : ∃ L0, mzTo M y ++ [47] = L0 := ⟨_, rfl⟩
        have HS0 : Hid (L0 = mzTo M y ++ sepTx y) := by show _ = _; rw [← hL0]; exact HS1.out
        rw [hL0] at hown hml
        clear hL0
        go_loopw [3, 5] (fun v i wr => ∃ x : Nat, x ≤ R.length ∧ i = .int .i64 x ∧ OwnB wr w.heap.size v (L0 ++ rowTx (R.take x)) ∧ Below w.heap.size w wr) (fun _ i _ => R.length - (intOf i).toNat)
        case atStart => exact ⟨0, Nat.zero_le _, rfl, by simpa [rowTx] using hown, hb⟩
        case round =>
          clear hown dg
          obtain ⟨x, hx, rfl, hown2, hb2⟩ := hrel
          have hx0 : (0 : Int) ≤ (x : Int) := by omega
          have eg := (hb2.cell (p := ⟨g, 0, none⟩) hgl).trans hg
          have ey := (hb2.cell (p := ⟨b, off + y, none⟩) hbB).trans cy
          by_cases hxl : x < R.length
          · obtain ⟨b', off', rfl, hbB', hc'⟩ := py (by omega)
            have ex := (hb2.cell (p := ⟨b', off' + x, none⟩) hbB').trans (hc' x hxl)
            have hce := HCE.out x hxl
            have HT := Lib.hid (rowTx_take hxl)
            have hxI : (x : Int) < (R.length : Int) := by omega
            have hlen2 : (L0 ++ rowTx (R.take x)).length ≤ 1000 := by simp [rowTx]; omega
            clear hc'
            generalize R.getD x 0 = v at *
            obtain ⟨hv0, hv9⟩ := hce
            have hzz := hb2.size
            by_cases hvz : v = 0
            · have HMk : Hid (mark v = 35) := by show _ = _; simp [mark, hvz]
              have hvb : (v == 0) = true := by simpa using hvz
              clear hvz
              go_wp2_with (at_builtin; refine append_byte rfl (.tmp 44) (.tmp 45) rfl _ w.heap.size _ _ 35 rfl hown2 _ rfl rfl (by omega) hzz ?_; intro v6 w6 hown6 hbel6; refine Hid.out ?_)
              have b6 := hbel6 _ hb2
              rw [List.append_assoc, ← HMk.out, ← HT.out] at hown6
              clear hown2 hbel6 hb2 eg ey ex
              refine Lib.hid ?_
              go_wp2
              go_roundw
              case rel => exact ⟨x + 1, by omega, by go_num, hown6, b6⟩
              case measure => simp [intOf]; omega
            · have HMk : Hid (mark v = 48 + v) := by show _ = _; simp [mark, hvz]
              have hvb : (v == 0) = false := by simpa using hvz
              have hwr8 : IntKind.u8.wrap (48 + v) = 48 + v := by unfold IntKind.wrap; simp [IntKind.bits, IntKind.signed]; omega
              have hvI : ¬ v = 0 := hvz
              have HVZ := Lib.hid hvz
              clear hvz
              go_wp2_with (at_builtin; refine append_byte rfl (.tmp 47) (.tmp 60) rfl _ w.heap.size _ _ (48 + v) rfl hown2 _ rfl rfl (by omega) hzz ?_; intro v6 w6 hown6 hbel6; refine Hid.out ?_)
              have b6 := hbel6 _ hb2
              rw [List.append_assoc, ← HMk.out, ← HT.out] at hown6
              clear hown2 hbel6 hb2 eg ey ex hwr8
              refine Lib.hid ?_
              go_wp2
              go_roundw
              case rel => exact ⟨x + 1, by omega, by go_num, hown6, b6⟩
              case measure => simp [intOf]; omega
          · obtain rfl : x = R.length := by omega
            rw [List.take_length] at hown2
            have HE : Hid (L0 ++ rowTx R = mzTo M (y + 1)) := by show _ = _; rw [HNX.out, HS0.out]
            rw [HE.out] at hown2
            go_wp2
            go_roundw
            case rel => exact ⟨y + 1, by omega, by go_num, hown2, hb2⟩
            case measure => simp [intOf]; omega
    · obtain rfl : y = n := by omega
      have hml := mzTo_len HV.out y (by rw [HLen.out]; exact Nat.le_refl _)
      have HI : Hid ((byt (mzTo M y)).map (fun b => (b.toNat : Int)) = mzTo M y) := byt_back (mzTo_by HV.out y (by rw [HLen.out]; exact Nat.le_refl _))
      have HF : Hid (mzTx M = ⟨(byt (mzTo M y)).toArray⟩) := by show _ = _; unfold mzTx; rw [HLen.out]
      have hpos := mzTo_pos HV.out
      rw [HLen.out] at hpos
      obtain ⟨gt, cap, rfl, hcell⟩ := hown.text hpos HI.out
      have hbl : (byt (mzTo M y)).length ≤ 1000 := by rw [byt_len]; omega
      generalize byt (mzTo M y) = l at *
      have hcv := run_convert_bytes_back (P := Try.prog) wr 88 9 5 ⟨gt, 0, none⟩ cap l Try.underlying88 Try.underlying5 Try.underlying9 hcell
      clear hcell hown
      go_wp2
      go_ret
      exact ⟨by rw [HF.out]; rfl, hb⟩
end Go.Proofs.Ytdndkknkkgialaa
