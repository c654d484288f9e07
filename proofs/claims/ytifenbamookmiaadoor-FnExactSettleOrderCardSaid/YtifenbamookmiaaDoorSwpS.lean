/-
  Contracts: a list's own copy, two neighbours exchanged, and what that gains, as the model has them.
-/
import Derived.Test.YtifenbamookmiaaDoorSwpP
import Derived.Test.YtifenbamookmiaaDoorCplS
namespace Go.Proofs.YtifenbamookmiaaDoor
set_option linter.unusedSimpArgs false
set_option linter.unusedVariables false
open Go.ChangeShapes Go.WideShapes Go.ChangeAt Go.RowKit Go.BigFrame

set_option maxRecDepth 100000 in
set_option maxHeartbeats 1600000 in
theorem l00Own_any (A : Option Addr) (L : List Int) (c : Nat) (w : World) (hp : IntsAt w w.heap.size A L) (h0 : 0 < L.length) (hl : L.length ≤ 1048576) :
    Calls Tryd.prog 50 #[.slice A L.length c] w (OwnB L w) := by
  obtain ⟨b, off, rfl, hb, hc⟩ := hp h0
  have b4 : Below w.heap.size w (w.alloc (.cells #[] 2)) := (Below.refl _ _).alloc (Nat.le_refl _) _
  have hoE : (w.alloc (.cells #[] 2)).ownsRow w.heap.size 2 1 (.slice (some ⟨w.heap.size, 0, none⟩) 0 0) 0 [] := ⟨rfl, .inr ⟨w.heap.size, 0, #[], rfl, Nat.le_refl _, heap_alloc_new w _, Nat.le_refl _, Nat.zero_le _, rfl, rfl⟩⟩
  have HN4 := Lib.hid (news_int (w := w.alloc (.cells #[] 2)) (b := b) (off := off) (L := L) fun i hi => (b4.cell (p := ⟨b, off + i, none⟩) hb).trans (hc i hi))
  obtain ⟨i0, hi0, hiz, his, hib⟩ := info_parts infoIO
  have H0 := Lib.hid h0
  clear hc hp
  go_enter Tryd.func50, Tryd.ntmps50
  go_wp2_with (at_builtin; refine Hid.out ?_)
  refine Lib.hid ?_
  refine wpList_append_own_at _ (by rfl) (.tmp 3) (.tmp 4) 25 (by rfl) w.heap.size 2 i0 _ 1 8 Tryd.underlying25 hi0 hiz his hib rfl (by decide) (.slice (some ⟨w.heap.size, 0, none⟩) 0 0) 0 [] (by rfl) hoE ⟨b, off, none⟩ L.length c (cellsI L) (by rfl) (cellsI_len L) (fun j u hu => by rw [addI]; exact HN4.out j u hu) (cellsI_one _) (by unfold maxLen; omega) (by omega) (by simp) ?_
  intro v6 w6 hown6 hgrow6 _ hblk6
  have hO : OwnI w6 w.heap.size v6 L := by unfold OwnI; simpa using hown6
  obtain ⟨g, d6, rfl, hg, hI, _⟩ := hO.iblk H0.out
  have b6 : Below w.heap.size w w6 := Below.grown b4 hgrow6 (by simp) (fun k e => by simp [Value.ownBlock] at e; omega)
  clear hown6 hgrow6 hblk6 b4 hoE HN4
  go_wp2
  go_ret
  exact ⟨g, d6, rfl, hg, hI, hO, b6⟩
set_option maxRecDepth 100000 in
set_option maxHeartbeats 1600000 in
theorem l10Swapped_any (A : Option Addr) (L : List Int) (c p : Nat) (w : World) (hA : IntsAt w w.heap.size A L) (hp : p + 1 < L.length) (hl : L.length ≤ 1048576) :
    Calls Tryd.prog 51 #[.slice A L.length c, .int .i64 (p : Int)] w fun e w' => ∃ g d, e = .returned (.slice (some ⟨g, 0, none⟩) L.length d) ∧ w.heap.size ≤ g ∧ IBlk w' g (swpL L p) L.length ∧ Below w.heap.size w w' := by
  have CO := Lib.hid (l00Own_any A L c w hA (by omega) hl)
  obtain ⟨b, off, rfl, hb, hc⟩ := hA (by omega)
  have q0 := hc p (by omega)
  have q1 := hc (p + 1) hp
  have hlI : (L.length : Int) ≤ 1048576 := by omega
  have hpI : (p : Int) + 1 < (L.length : Int) := by omega
  have hp0 : (0 : Int) ≤ (p : Int) := by omega
  have hp1 : (0 : Int) ≤ (p : Int) + 1 := by omega
  have hpL : (p : Int) < (L.length : Int) := by omega
  have et : ((p : Int) + 1).toNat = p + 1 := by omega
  have HS : Hid ((L.set p (L.getD (p + 1) 0)).set (p + 1) (L.getD p 0) = swpL L p) := rfl
  obtain ⟨x, hx⟩ : ∃ x, L.getD p 0 = x := ⟨_, rfl⟩
  obtain ⟨y, hy⟩ : ∃ y, L.getD (p + 1) 0 = y := ⟨_, rfl⟩
  rw [hx] at q0 HS
  rw [hy] at q1 HS
  clear hc hx hy
  go_enter Tryd.func51, Tryd.ntmps51
  go_wp2_with fail
  refine CO.out.mono ?_
  rintro e w1 ⟨g, d, rfl, hg, hI, _, hb1⟩
  have q0' := (hb1.cell (p := ⟨b, off + p, none⟩) hb).trans q0
  have q1' := (hb1.cell (p := ⟨b, off + (p + 1), none⟩) hb).trans q1
  have s0 := hI.at_ (i := p) (by omega) (by omega)
  have s1 := hI.at_ (i := p + 1) hp hp
  have f0 := hI.frozen p
  have f1 := hI.frozen (p + 1)
  have hne : b ≠ g := by omega
  have hI2 := hI.put (k := p) (by omega) y
  have hI3 := hI2.put (k := p + 1) (by simpa using hp) x
  rw [HS.out] at hI3
  have b3 := (hb1.setCell (p := ⟨g, p, none⟩) hg (.int .i64 y)).setCell (p := ⟨g, p + 1, none⟩) hg (.int .i64 x)
  have t1 := hI2.at_ (i := p + 1) (by simpa using hp) (by simpa using hp)
  have tf := hI2.frozen (p + 1)
  have u0 : (w1.setCell ⟨g, p, none⟩ (.int .i64 y)).cell? ⟨b, off + p, none⟩ = some (.int .i64 x) := (World.cell?_of_block (a := ⟨b, off + p, none⟩) (Below.heap_setCell _ _ _ _ (by simpa using hne))).trans q0'
  have HI3 : Hid (IBlk ((w1.setCell ⟨g, p, none⟩ (.int .i64 y)).setCell ⟨g, p + 1, none⟩ (.int .i64 x)) g (swpL L p) L.length) := by
    have := hI3
    rw [swp_len] at this
    exact this
  generalize (L.set p y).getD (p + 1) 0 = z at *
  generalize L.getD p 0 = z0 at *
  generalize L.getD (p + 1) 0 = z1 at *
  clear hI hI2 hI3 HS q0 q1 hb1 CO
  go_wp2
  go_ret
  exact ⟨g, d, rfl, hg, HI3.out, b3⟩
set_option maxRecDepth 100000 in
set_option maxHeartbeats 1600000 in
theorem l10Gain_any (g : Nat) (A : Option Addr) (n c : Nat) (B : Mz) (AO : Option Addr) (L : List Int) (cO p : Nat) (w : World) (hg : w.cell? ⟨g, 0, none⟩ = some (.slice A n c)) (hgl : g < w.heap.size) (h : LoAt w A AO n B L) (hp : p + 1 < n) :
    Calls Tryd.prog 44 #[.pointer (some ⟨g, 0, none⟩), .slice AO n cO, .int .i64 (p : Int)] w fun e w' => e = .returned (.int .i64 (gainI B L p)) ∧ Below w.heap.size w w' := by
  have h9 := h.n9
  have hlen := h.ok.len
  have CC := Lib.hid (fun (AQ AS : Option Addr) (Q : List Int) (cQ : Nat) (wx : World) (hb : Below w.heap.size w wx) (hq : LoAt wx A AQ n B Q) => by
    have := l10Coupling_any g A n c B AQ Q cQ AS [] 0 wx ((hb.cell (p := ⟨g, 0, none⟩) hgl).trans hg) (Nat.lt_of_lt_of_le hgl hb.size) hq (ints_nil _ _ _) (by simp)
    simp only [List.length_nil] at this
    exact this)
  have CW := Lib.hid (fun (wx : World) (hb : Below w.heap.size w wx) => by
    have := l10Swapped_any AO L cO p wx (h.ord.to hb) (by rw [hlen]; exact hp) (by omega)
    rw [hlen] at this
    exact this)
  have hGI : gainI B L p = cplTo B L [] n - cplTo B (swpL L p) [] n := by unfold gainI; rw [hlen]
  obtain ⟨a0, a1⟩ := cplTo_ge (S := []) h.bn h.len h.ok n (Nat.le_refl _)
  obtain ⟨b0, b1⟩ := cplTo_ge (S := []) h.bn h.len (h.ok.swp hp) n (Nat.le_refl _)
  have h9I : (n : Int) ≤ 9 := by omega
  have HLo := Lib.hid h
  rw [hGI]
  have hx : Below w.heap.size w (w.alloc (.cells #[] 2)) := by (repeat (first | assumption | exact Below.refl _ _ | (refine bl_alloc ?_ _) | (refine Below.drew ?_) | (refine bl_drewN ?_ _) | (refine bl_set ?_ (by first | (simp; done) | omega | (simp; omega)) _) | (refine bl_trans ?_ (by assumption)) | (refine bl_step ?_ (by assumption) (by first | omega | exact Below.size (by assumption) | (simp; omega) | (simp; exact Below.size (by assumption))))))
  have a2 : cplTo B L [] n ≤ 9000 := by omega
  have b2 : cplTo B (swpL L p) [] n ≤ 9000 := by omega
  clear h hGI a1 b1 hlen
  obtain ⟨sx, hsx⟩ : ∃ s, cplTo B L [] n = s := ⟨_, rfl⟩
  obtain ⟨sy, hsy⟩ : ∃ s, cplTo B (swpL L p) [] n = s := ⟨_, rfl⟩
  rw [hsx] at a0 a2 ⊢
  rw [hsy] at b0 b2 ⊢
  have HSX := Lib.hid hsx
  have HSY := Lib.hid hsy
  clear hsx hsy
  go_enter Tryd.func44, Tryd.ntmps44
  go_wp2_with fail
  refine (CC.out AO _ L cO _ hx (HLo.out.to hx)).mono ?_
  rintro e w1 ⟨rfl, hb1⟩
  have x1 := bl_step hx hb1 hx.size
  clear hb1 hx
  rw [HSX.out]
  go_wp2_with fail
  refine (CW.out _ x1).mono ?_
  rintro e w2 ⟨g2, d2, rfl, hg2, hI, hb2⟩
  have x2 := bl_trans x1 hb2
  have hb3 : Below w2.heap.size w2 (w2.alloc (.cells #[] 2)) := (Below.refl _ _).alloc (Nat.le_refl _) _
  have x3 := bl_trans x2 hb3
  have hI3 := hI.to hb3
  have hLo3 : LoAt (w2.alloc (.cells #[] 2)) A (some ⟨g2, 0, none⟩) n B (swpL L p) := by
    have o := HLo.out.ok.swp hp
    exact ⟨(HLo.out.sq.to x3), by have := hI3; rw [show n = (swpL L p).length from o.len.symm] at this; exact this.ints, o, HLo.out.bn, HLo.out.len⟩
  have C3 := Lib.hid (CC.out (some ⟨g2, 0, none⟩) (some ⟨w2.heap.size, 0, none⟩) (swpL L p) d2 _ x3 hLo3)
  rw [HSY.out] at C3
  clear hb2 hI hI3 hLo3 x1 x2 hb3 CC CW
  go_wp2_with fail
  refine C3.out.mono ?_
  rintro e w4 ⟨rfl, hb4⟩
  go_wp2
  go_ret
  exact ⟨by go_num, bl_trans x3 hb4⟩
end Go.Proofs.YtifenbamookmiaaDoor
