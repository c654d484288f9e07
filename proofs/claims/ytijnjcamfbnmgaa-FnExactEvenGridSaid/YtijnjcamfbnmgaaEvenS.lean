/-
  Contract: EvenGrid, as the model has it.
-/
import Derived.Test.YtijnjcamfbnmgaaOwnSS
import Derived.Test.YtijnjcamfbnmgaaGridS
import Derived.Laws.ResultCell
namespace Go.Proofs.Ytijnjcamfbnmgaa
set_option linter.unusedSimpArgs false
set_option linter.unusedVariables false
open Go.ChangeShapes Go.WideShapes Go.ChangeAt Go.RowKit

def evOkS (wI hI room : Int) : Bool := inB wI 1 8 && (inB hI 1 8 && inB room 0 20)
/-- h rows of m equal numbers. -/
def eqRows (h m : Nat) (room : Int) : List (List Int) := List.replicate h (List.replicate m room)
theorem eqRows_succ (h m : Nat) (room : Int) : eqRows (h + 1) m room = eqRows h m room ++ [List.replicate m room] := by
  unfold eqRows; rw [List.replicate_succ']
theorem rep_succ (k : Nat) (room : Int) : List.replicate (k + 1) room = List.replicate k room ++ [room] := List.replicate_succ'
theorem spStart (w : World) : SpG ((((w.alloc (.cells #[.slice none 0 0, .slice none 0 0] 53)).alloc (.cells #[] 38)).alloc (.cells #[] 38)).alloc (.cells #[.slice (some ⟨w.heap.size + 1, 0, none⟩) 0 0, .slice (some ⟨w.heap.size + 1 + 1, 0, none⟩) 0 0] 53)) (w.heap.size + 1) (w.heap.size + 1 + 1 + 1) (.slice (some ⟨w.heap.size + 1, 0, none⟩) 0 0) (.slice (some ⟨w.heap.size + 1 + 1, 0, none⟩) 0 0) [] [] ∧ Blk ((((w.alloc (.cells #[.slice none 0 0, .slice none 0 0] 53)).alloc (.cells #[] 38)).alloc (.cells #[] 38)).alloc (.cells #[.slice (some ⟨w.heap.size + 1, 0, none⟩) 0 0, .slice (some ⟨w.heap.size + 1 + 1, 0, none⟩) 0 0] 53)) w.heap.size #[.slice none 0 0, .slice none 0 0] 53 ∧ Below w.heap.size w ((((w.alloc (.cells #[.slice none 0 0, .slice none 0 0] 53)).alloc (.cells #[] 38)).alloc (.cells #[] 38)).alloc (.cells #[.slice (some ⟨w.heap.size + 1, 0, none⟩) 0 0, .slice (some ⟨w.heap.size + 1 + 1, 0, none⟩) 0 0] 53)) ∧ w.heap.size + 1 ≤ (((((w.alloc (.cells #[.slice none 0 0, .slice none 0 0] 53)).alloc (.cells #[] 38)).alloc (.cells #[] 38)).alloc (.cells #[.slice (some ⟨w.heap.size + 1, 0, none⟩) 0 0, .slice (some ⟨w.heap.size + 1 + 1, 0, none⟩) 0 0] 53))).heap.size := by
  have a1 := OwnSS.empty (w.alloc (.cells #[.slice none 0 0, .slice none 0 0] 53)) (w.heap.size + 1) (by simp)
  have a2 := OwnSS.empty ((w.alloc (.cells #[.slice none 0 0, .slice none 0 0] 53)).alloc (.cells #[] 38)) (w.heap.size + 1) (by simp)
  rw [World.size_alloc] at a1 a2
  rw [World.size_alloc] at a2
  have k4 := Blk.new (((w.alloc (.cells #[.slice none 0 0, .slice none 0 0] 53)).alloc (.cells #[] 38)).alloc (.cells #[] 38)) #[.slice (some ⟨w.heap.size + 1, 0, none⟩) 0 0, .slice (some ⟨w.heap.size + 1 + 1, 0, none⟩) 0 0] 53
  rw [World.size_alloc, World.size_alloc, World.size_alloc] at k4
  refine ⟨⟨k4, ?_, ?_, fun i e k => ?_, fun k => ?_, fun k => ?_, fun z hz => by simp at hz, fun z hz => by simp at hz⟩, ((((Blk.new _ _ _).alloc _).alloc _).alloc _), by (repeat (first | assumption | exact Below.refl _ _ | (refine bl_alloc ?_ _) | (refine Below.drew ?_) | (refine bl_drewN ?_ _) | (refine bl_set ?_ (by first | (simp; done) | omega | (simp; omega)) _) | (refine bl_trans ?_ (by assumption)) | (refine bl_step ?_ (by assumption) (by first | omega | exact Below.size (by assumption) | (simp; omega) | (simp; exact Below.size (by assumption)))))), by simp⟩
  · exact (a1.to ((Below.refl _ _).alloc (Nat.le_refl _) _)).to ((Below.refl _ _).alloc (Nat.le_refl _) _)
  · exact a2.to ((Below.refl _ _).alloc (Nat.le_refl _) _)
  · simp [Value.ownBlock] at e k; omega
  · simp [Value.ownBlock] at k
  · simp [Value.ownBlock] at k
def EvSRes (m H : Nat) (room : Int) (w : World) (e : Ending) (w' : World) : Prop :=
  ∃ A0 c0 Ms A1 c1 Us, e = .returned (.agg #[.slice A0 H c0, .slice A1 (H - 1) c1]) ∧ (Ms.length = H ∧ heldI Ms = eqRows H m room ∧ ISAt w' w'.heap.size A0 Ms ∧ AbvI (w.heap.size + 1) A0 Ms) ∧ (Us.length = H - 1 ∧ heldI Us = eqRows (H - 1) (m + 1) room ∧ ISAt w' w'.heap.size A1 Us ∧ AbvI (w.heap.size + 1) A1 Us) ∧ Below w.heap.size w w'
theorem heldI_snoc (Ms : List SlI) (z : SlI) : heldI (Ms ++ [z]) = heldI Ms ++ [z.2.1] := by simp [heldI]
set_option maxRecDepth 100000 in
set_option maxHeartbeats 6400000 in
theorem l08Even_any (m H : Nat) (room : Int) (w : World) (hm : m ≤ 7) (hH1 : 1 ≤ H) (hH : H ≤ 8) :
    Calls Try.prog 77 #[.int .i64 ((m : Int) + 1), .int .i64 (H : Int), .int .i64 room] w (EvSRes m H room w) := by
  have hmI : (m : Int) ≤ 7 := by omega
  have hHI : (H : Int) ≤ 8 := by omega
  have hH1I : (1 : Int) ≤ (H : Int) := by omega
  obtain ⟨hSp0, hR0, hb0, hz0⟩ := spStart w
  go_enter Try.func77, Try.ntmps77
  go_wp2
  generalize ((((w.alloc (.cells #[.slice none 0 0, .slice none 0 0] 53)).alloc (.cells #[] 38)).alloc (.cells #[] 38)).alloc (.cells #[.slice (some ⟨w.heap.size + 1, 0, none⟩) 0 0, .slice (some ⟨w.heap.size + 1 + 1, 0, none⟩) 0 0] 53)) = W0 at *
  go_loopw [8, 9, 10, 11] (fun y _ _ _ wr => ∃ (k : Nat) (vA vU : Value) (Ms Us : List SlI), k ≤ H ∧ y = .int .i64 k ∧ SpG wr (w.heap.size + 1) (w.heap.size + 1 + 1 + 1) vA vU Ms Us ∧ Hid (Ms.length = k ∧ heldI Ms = eqRows k m room ∧ Us.length = min k (H - 1) ∧ heldI Us = eqRows (min k (H - 1)) (m + 1) room) ∧ Blk wr w.heap.size #[.slice none 0 0, .slice none 0 0] 53 ∧ Below w.heap.size w wr) (fun y _ _ _ _ => H - (intOf y).toNat)
  case atStart => exact ⟨0, _, _, [], [], Nat.zero_le _, rfl, hSp0, ⟨rfl, rfl, by simp, by simp [heldI, eqRows]⟩, hR0, hb0⟩
  case round =>
    clear hSp0 hR0 hb0 hz0
    obtain ⟨k, vA, vU, Ms, Us, hk, rfl, hSp, HL, hR, hb⟩ := hrel
    have hk0 : (0 : Int) ≤ (k : Int) := by omega
    by_cases hlt : k < H
    case neg =>
      obtain rfl : k = H := by omega
      obtain ⟨AA, cA, rfl, hIA⟩ := hSp.isat_a
      obtain ⟨AU, cU, rfl, hIU⟩ := hSp.isat_u
      obtain ⟨a1, a2, a3, a4⟩ := HL.out
      have hm : min k (k - 1) = k - 1 := by omega
      rw [hm] at a3 a4
      have c0 := hSp.kg.cell 0 rfl
      have c1 := hSp.kg.cell 1 rfl
      have t0 := hR.cell 0 rfl
      have t1 := hR.cell 1 rfl
      have q0 := hR.frozen 0
      have q1 := hR.frozen 1
      rw [a1] at c0
      rw [a3] at c1
      have ke := (hR.set 0 (.slice AA k cA)).set 1 (.slice AU (k - 1) cU)
      have hbE := (hb.setCell (p := ⟨w.heap.size, 0, none⟩) (Nat.le_refl _) (.slice AA k cA)).setCell (p := ⟨w.heap.size, 1, none⟩) (Nat.le_refl _) (.slice AU (k - 1) cU)
      have hSE := (hSp.low (p := ⟨w.heap.size, 0, none⟩) (by dsimp only; omega) (by dsimp only; omega) (.slice AA k cA)).low (p := ⟨w.heap.size, 1, none⟩) (by dsimp only; omega) (by dsimp only; omega) (.slice AU (k - 1) cU)
      obtain ⟨AA2, cA2, eA, hIA2⟩ := hSE.isat_a
      obtain ⟨AU2, cU2, eU, hIU2⟩ := hSE.isat_u
      obtain ⟨rfl, rfl⟩ : AA = AA2 ∧ cA = cA2 := by simpa using eA
      obtain ⟨rfl, rfl⟩ : AU = AU2 ∧ cU = cU2 := by simpa using eU
      have hVA := hSE.abv_a (by omega)
      have hVU := hSE.abv_u (by omega)
      have H1 := Lib.hid a1
      have H2 := Lib.hid a2
      have H3 := Lib.hid a3
      have H4 := Lib.hid a4
      clear a1 a2 a3 a4 hm hSp hR hb hSE hIA hIU eA eU
      go_wp2
      generalize ((wr.setCell ⟨w.heap.size, 0, none⟩ (.slice AA k cA)).setCell ⟨w.heap.size, 1, none⟩ (.slice AU (k - 1) cU)) = wE at *
      have z0 := ke.cell 0 (v := .slice AA k cA) (by simp)
      have z1 := ke.cell 1 (v := .slice AU (k - 1) cU) (by simp)
      refine bodyPost_ret_by (v := .agg #[.slice AA k cA, .slice AU (k - 1) cU]) ?_ rfl ⟨AA, cA, Ms, AU, cU, Us, rfl, ⟨H1.out, H2.out, hIA2, hVA⟩, ⟨H3.out, H4.out, hIU2, hVU⟩, hbE⟩
      simp [results, Try.results77, go_sem, z0, z1]
    have hkI : (k : Int) < (H : Int) := by omega
    have hgl := hSp.kg.lt
    have oe := OwnI.empty wr wr.heap.size (Nat.le_refl _)
    have ou := OwnI.empty (wr.alloc (.cells #[] 2)) wr.heap.size (by simp)
    rw [World.size_alloc] at ou
    have hx1 : Below wr.heap.size wr (wr.alloc (.cells #[] 2)) := (Below.refl _ _).alloc (Nat.le_refl _) _
    have hx2 : Below wr.heap.size wr ((wr.alloc (.cells #[] 2)).alloc (.cells #[] 2)) := by (repeat (first | assumption | exact Below.refl _ _ | (refine bl_alloc ?_ _) | (refine Below.drew ?_) | (refine bl_drewN ?_ _) | (refine bl_set ?_ (by first | (simp; done) | omega | (simp; omega)) _) | (refine bl_trans ?_ (by assumption)) | (refine bl_step ?_ (by assumption) (by first | omega | exact Below.size (by assumption) | (simp; omega) | (simp; exact Below.size (by assumption))))))
    have oe2 := oe.to ((Below.refl _ _).alloc (Nat.le_refl _) (.cells #[] 2))
    have HAp : Hid (ApartV (.slice (some ⟨wr.heap.size, 0, none⟩) 0 0) (.slice (some ⟨wr.heap.size + 1, 0, none⟩) 0 0)) := fun i e k => by simp [Value.ownBlock] at e k; omega
    clear oe hx1
    go_wp2
    generalize ((wr.alloc (.cells #[] 2)).alloc (.cells #[] 2)) = W1 at *
    obtain ⟨wo, hwo⟩ : ∃ wo, wo = wr := ⟨_, rfl⟩
    subst hwo
    go_loopw [9, 10, 11] (fun va vu x wr => ∃ (j : Nat) (La Lu : List Int), j ≤ m + 1 ∧ x = .int .i64 j ∧ OwnI wr wo.heap.size va La ∧ OwnI wr wo.heap.size vu Lu ∧ Hid (La = List.replicate (min j m) room ∧ Lu = List.replicate j room) ∧ Hid (ApartV va vu) ∧ Below wo.heap.size wo wr) (fun _ _ x _ => m + 1 - (intOf x).toNat)
    case atStart => exact ⟨0, [], [], Nat.zero_le _, rfl, oe2, ou, ⟨by simp, rfl⟩, HAp, hx2⟩
    case round =>
      clear ou oe2 HAp hx2
      obtain ⟨j, La, Lu, hj, rfl, hA, hU, HLL, HAp, hbq⟩ := hrel
      have hj0 : (0 : Int) ≤ (j : Int) := by omega
      have hz := hbq.size
      have hla : La.length ≤ 1000000 := by rw [HLL.out.1, List.length_replicate]; omega
      have hlu : Lu.length ≤ 1000000 := by rw [HLL.out.2, List.length_replicate]; omega
      by_cases hlj : j < m + 1
      · have hjI : (j : Int) < (m : Int) + 1 := by omega
        by_cases hjm : j < m
        · have hjmI : (j : Int) + 1 < (m : Int) + 1 := by omega
          have HN : Hid (La ++ [room] = List.replicate (min (j + 1) m) room ∧ Lu ++ [room] = List.replicate (j + 1) room) := ⟨by rw [HLL.out.1, show min j m = j by omega, show min (j + 1) m = j + 1 by omega, rep_succ], by rw [HLL.out.2, rep_succ]⟩
          clear HLL
          go_wp2_with (at_builtin; refine append_int_j rfl (.tmp 31) (.tmp 33) rfl _ wo.heap.size _ _ room rfl hA _ rfl rfl hla hz ?_; intro v6 w6 hown6 hbel6 hkp6 hob6 hz6; refine Hid.out ?_)
          have b6 := hbel6 _ hbq
          have hu6 := hU.beside HAp.out hkp6
          have HAp6 : Hid (ApartV v6 _) := HAp.out.next hU hob6
          have hz6' := b6.size
          clear hbel6 hkp6 hob6 hA hU HAp hz6 hbq hz
          refine Lib.hid ?_
          go_wp2_with (at_builtin; refine append_int_j rfl (.tmp 35) (.tmp 37) rfl _ wo.heap.size _ _ room rfl hu6 _ rfl rfl hlu hz6' ?_; intro v7 w7 hown7 hbel7 hkp7 hob7 hz7; refine Hid.out ?_)
          have b7 := hbel7 _ b6
          have ha7 := hown6.beside HAp6.out.symm hkp7
          have HAp7 : Hid (ApartV v6 v7) := (HAp6.out.symm.next hown6 hob7).symm
          clear hbel7 hkp7 hob7 hown6 hu6 b6 HAp6 hz7
          refine Lib.hid ?_
          go_wp2
          go_roundw
          case rel => exact ⟨j + 1, _, _, by omega, by go_num, ha7, hown7, HN, HAp7, b7⟩
          case measure => simp [intOf]; omega
        · obtain rfl : j = m := by omega
          have HN : Hid (La = List.replicate (min (j + 1) j) room ∧ Lu ++ [room] = List.replicate (j + 1) room) := ⟨by rw [HLL.out.1, show min j j = min (j + 1) j by omega], by rw [HLL.out.2, rep_succ]⟩
          clear HLL hjm
          go_wp2_with (at_builtin; refine append_int_j rfl (.tmp 35) (.tmp 37) rfl _ wo.heap.size _ _ room rfl hU _ rfl rfl hlu hz ?_; intro v7 w7 hown7 hbel7 hkp7 hob7 hz7; refine Hid.out ?_)
          have b7 := hbel7 _ hbq
          have ha7 := hA.beside HAp.out.symm hkp7
          have HAp7 : Hid (ApartV _ v7) := (HAp.out.symm.next hA hob7).symm
          clear hbel7 hkp7 hob7 hA hU hbq HAp hz7
          refine Lib.hid ?_
          go_wp2
          go_roundw
          case rel => exact ⟨j + 1, _, _, by omega, by go_num, ha7, hown7, HN, HAp7, b7⟩
          case measure => simp [intOf]
      · obtain rfl : j = m + 1 := by omega
        have hLa : Hid (La = List.replicate m room ∧ Lu = List.replicate (m + 1) room) := ⟨by rw [HLL.out.1, show min (m + 1) m = m by omega], HLL.out.2⟩
        have hSq := hSp.to hbq
        have hRq := hR.to hbq
        have hbw := bl_step hb hbq hb.size
        obtain ⟨Aa, ca, rfl, hRa⟩ := hA.rowW (vA := vA) (vU := vU) (G := w.heap.size + 1 + 1 + 1) (fun i e => hSp.oa.lt e) (fun i e => hSp.ou.lt e) hgl
        obtain ⟨Au, cu, rfl, hRu⟩ := hU.rowW (vA := vA) (vU := vU) (G := w.heap.size + 1 + 1 + 1) (fun i e => hSp.oa.lt e) (fun i e => hSp.ou.lt e) hgl
        have hMl : Ms.length ≤ 1000000 := by rw [HL.out.1]; omega
        have hUl : Us.length ≤ 1000000 := by rw [HL.out.2.2.1]; omega
        have c0 := hSq.kg.cell 0 (v := vA) rfl
        have c1 := hSq.kg.cell 1 (v := vU) rfl
        have hgq := hSq.kg.lt
        have hzq : w.heap.size + 1 ≤ wr.heap.size := by omega
        clear hA hU HLL HAp hz hla hlu hSp hR hb hbq hgl
        go_wp2_with (at_builtin; refine append_ss rfl (.tmp 40) (.tmp 42) rfl _ (w.heap.size + 1) vA Ms (Aa, La, ca) rfl hSq.oa _ rfl rfl hMl hzq ?_; intro v6 w6 ho6 hbel6 hk6 hob6 hz6; refine Hid.out ?_)
        obtain ⟨A6, n6, c6, rfl⟩ : ∃ A n c, v6 = .slice A n c := by obtain ⟨A, c, e, _⟩ := ho6.outer; exact ⟨A, _, c, e⟩
        have hS6 := hSq.app_a hRa ho6 hk6 hob6 hz6
        have hRu6 := hRu.next (o := 0) hk6 hob6 hz6
        have kg6 := hSq.kg.keep (hk6 _ hgq hSq.ga)
        have d0 := kg6.cell 0 (v := vA) rfl
        have d1 := kg6.cell 1 (v := vU) rfl
        have f0 := kg6.frozen 0
        have hB6 := hbel6 _ (Below.refl _ _)
        have hR6 := (hRq.keep (hB6.block _ (by omega))).far (p := ⟨w.heap.size + 1 + 1 + 1, 0, none⟩) (by dsimp only; omega) (.slice A6 n6 c6)
        have hb6 := (hbw.trans (hB6.mono (by omega))).setCell (p := ⟨w.heap.size + 1 + 1 + 1, 0, none⟩) (by dsimp only; omega) (.slice A6 n6 c6)
        have hzs : (w6.setCell ⟨w.heap.size + 1 + 1 + 1, 0, none⟩ (.slice A6 n6 c6)).heap.size = w6.heap.size := by simp [World.setCell]
        have hz6' : w.heap.size + 1 ≤ (w6.setCell ⟨w.heap.size + 1 + 1 + 1, 0, none⟩ (.slice A6 n6 c6)).heap.size := by rw [hzs]; omega
        clear hzs c0 c1 hRa hRu ho6 hbel6 hk6 hob6 hz6 hB6 hbw hRq hSq hgq hzq kg6
        refine Lib.hid ?_
        by_cases hk1 : k + 1 < H
        · have hk1I : (k : Int) + 1 < (H : Int) := by omega
          have HN : Hid ((Ms ++ [(Aa, La, ca)]).length = k + 1 ∧ heldI (Ms ++ [(Aa, La, ca)]) = eqRows (k + 1) m room ∧ (Us ++ [(Au, Lu, cu)]).length = min (k + 1) (H - 1) ∧ heldI (Us ++ [(Au, Lu, cu)]) = eqRows (min (k + 1) (H - 1)) (m + 1) room) := by
            obtain ⟨a1, a2, a3, a4⟩ := HL.out
            refine ⟨by simp [a1], by rw [heldI_snoc, a2, eqRows_succ, hLa.out.1], by simp [a3]; omega, ?_⟩
            rw [heldI_snoc, a4, show min (k + 1) (H - 1) = min k (H - 1) + 1 by omega, eqRows_succ, hLa.out.2]
          have c1 := hS6.kg.cell 1 (v := vU) rfl
          have hgq := hS6.kg.lt
          clear HL hLa
          go_wp2_with (at_builtin; refine append_ss rfl (.tmp 50) (.tmp 52) rfl _ (w.heap.size + 1) vU Us (Au, Lu, cu) rfl hS6.ou w6.heap.size (by simp [World.setCell]) rfl hUl hz6' ?_; intro v7 w7 ho7 hbel7 hk7 hob7 hz7; refine Hid.out ?_)
          obtain ⟨A7, n7, c7, rfl⟩ : ∃ A n c, v7 = .slice A n c := by obtain ⟨A, c, e, _⟩ := ho7.outer; exact ⟨A, _, c, e⟩
          have hS7 := hS6.app_u hRu6 ho7 hk7 hob7 hz7
          have kg7 := hS6.kg.keep (hk7 _ hgq hS6.gu)
          have e0 := kg7.cell 0 rfl
          have e1 := kg7.cell 1 (v := vU) rfl
          have f1 := kg7.frozen 1
          have hB7 := hbel7 _ (Below.refl _ _)
          have hR7 := (hR6.keep (hB7.block _ (by omega))).far (p := ⟨w.heap.size + 1 + 1 + 1, 1, none⟩) (by dsimp only; omega) (.slice A7 n7 c7)
          have hb7 := (hb6.trans (hB7.mono (by omega))).setCell (p := ⟨w.heap.size + 1 + 1 + 1, 1, none⟩) (by dsimp only; omega) (.slice A7 n7 c7)
          clear hS6 hRu6 ho7 hbel7 hk7 hob7 hz7 hB7 hR6 hb6 kg7 hz6' d0 d1 f0 c1 hgq
          refine Lib.hid ?_
          go_wp2
          go_roundw
          case rel => exact ⟨k + 1, _, _, _, _, by omega, by go_num, hS7, HN, hR7, hb7⟩
          case measure => simp [intOf]; omega
        · obtain rfl : H = k + 1 := by omega
          have HN : Hid ((Ms ++ [(Aa, La, ca)]).length = k + 1 ∧ heldI (Ms ++ [(Aa, La, ca)]) = eqRows (k + 1) m room ∧ Us.length = min (k + 1) (k + 1 - 1) ∧ heldI Us = eqRows (min (k + 1) (k + 1 - 1)) (m + 1) room) := by
            obtain ⟨a1, a2, a3, a4⟩ := HL.out
            refine ⟨by simp [a1], by rw [heldI_snoc, a2, eqRows_succ, hLa.out.1], by rw [a3]; omega, ?_⟩
            rw [a4, show min k (k + 1 - 1) = min (k + 1) (k + 1 - 1) by omega]
          clear HL hLa
          go_wp2
          go_roundw
          case rel => exact ⟨k + 1, _, _, _, _, by omega, by go_num, hS6, HN, hR6, hb6⟩
          case measure => simp [intOf]
def EvSPost (wI hI room : Int) (w : World) (e : Ending) (w' : World) : Prop :=
  ((evOkS wI hI room = true ∧ ∃ (m H : Nat) (A0 : Option Addr) (c0 : Nat) (Ms : List SlI) (A1 : Option Addr) (c1 : Nat) (Us : List SlI), wI = (m : Int) + 1 ∧ hI = (H : Int) ∧ 1 ≤ H ∧ H ≤ 8 ∧ m ≤ 7 ∧ e = .returned (.tuple #[.agg #[.slice A0 H c0, .slice A1 (H - 1) c1], .bool true]) ∧ (Ms.length = H ∧ heldI Ms = eqRows H m room ∧ ISAt w' w'.heap.size A0 Ms) ∧ (Us.length = H - 1 ∧ heldI Us = eqRows (H - 1) (m + 1) room ∧ ISAt w' w'.heap.size A1 Us)) ∨
    (evOkS wI hI room = false ∧ e = .returned (.tuple #[.agg #[.slice none 0 0, .slice none 0 0], .bool false]))) ∧ Below w.heap.size w w'
theorem ISAt.off {w : World} {B : Nat} {A : Option Addr} {Ls : List SlI} (h : ISAt w B A Ls) {B' : Nat} (hB : B ≤ B') : ISAt w B' A Ls := h.mono hB
set_option maxRecDepth 100000 in
set_option maxHeartbeats 3200000 in
theorem EvenGridS_any (wI hI room : Int) (w : World) : Calls Try.prog 39 #[.int .i64 wI, .int .i64 hI, .int .i64 room] w (EvSPost wI hI room w) := by
  have hx : Below w.heap.size w (w.alloc (.cells #[.slice none 0 0, .slice none 0 0] 53)) := by (repeat (first | assumption | exact Below.refl _ _ | (refine bl_alloc ?_ _) | (refine Below.drew ?_) | (refine bl_drewN ?_ _) | (refine bl_set ?_ (by first | (simp; done) | omega | (simp; omega)) _) | (refine bl_trans ?_ (by assumption)) | (refine bl_step ?_ (by assumption) (by first | omega | exact Below.size (by assumption) | (simp; omega) | (simp; exact Below.size (by assumption))))))
  have kR := Blk.new w #[.slice none 0 0, .slice none 0 0] 53
  cases h1 : inB wI 1 8
  case false =>
    have HI := Lib.hid h1
    have R : Hid (evOkS wI hI room = false) := by show _ = _; unfold evOkS; rw [h1]; rfl
    have t0 := kR.cell 0 rfl
    have t1 := kR.cell 1 rfl
    have q0 := kR.frozen 0
    have q1 := kR.frozen 1
    have ke := (kR.set 0 (.slice none 0 0)).set 1 (.slice none 0 0)
    have hbE := (hx.setCell (p := ⟨w.heap.size, 0, none⟩) (Nat.le_refl _) (.slice none 0 0)).setCell (p := ⟨w.heap.size, 1, none⟩) (Nat.le_refl _) (.slice none 0 0)
    clear h1 kR hx
    go_enter Try.func39, Try.ntmps39
    go_wp2_with fail
    generalize (w.alloc (.cells #[.slice none 0 0, .slice none 0 0] 53)) = w0 at *
    refine (l00In_g HI _).mono ?_
    rintro e w' ⟨rfl, rfl⟩
    go_wp2
    generalize ((w0.setCell ⟨w.heap.size, 0, none⟩ (.slice none 0 0)).setCell ⟨w.heap.size, 1, none⟩ (.slice none 0 0)) = wE at *
    have z0 := ke.cell 0 (v := .slice none 0 0) (by simp)
    have z1 := ke.cell 1 (v := .slice none 0 0) (by simp)
    refine bodyPost_ret_by (v := .tuple #[.agg #[.slice none 0 0, .slice none 0 0], .bool false]) ?_ rfl ⟨.inr ⟨R.out, rfl⟩, hbE⟩
    simp [results, Try.results39, go_sem, z0, z1]
  cases h2 : inB hI 1 8
  case false =>
    have HI := Lib.hid h1
    have HI2 := Lib.hid h2
    have R : Hid (evOkS wI hI room = false) := by show _ = _; unfold evOkS; rw [h1, h2]; rfl
    have t0 := kR.cell 0 rfl
    have t1 := kR.cell 1 rfl
    have q0 := kR.frozen 0
    have q1 := kR.frozen 1
    have ke := (kR.set 0 (.slice none 0 0)).set 1 (.slice none 0 0)
    have hbE := (hx.setCell (p := ⟨w.heap.size, 0, none⟩) (Nat.le_refl _) (.slice none 0 0)).setCell (p := ⟨w.heap.size, 1, none⟩) (Nat.le_refl _) (.slice none 0 0)
    clear h1 h2 kR hx
    go_enter Try.func39, Try.ntmps39
    go_wp2_with fail
    generalize (w.alloc (.cells #[.slice none 0 0, .slice none 0 0] 53)) = w0 at *
    refine (l00In_g HI _).mono ?_
    rintro e w' ⟨rfl, rfl⟩
    go_wp2_with fail
    refine (l00In_g HI2 _).mono ?_
    rintro e w' ⟨rfl, rfl⟩
    go_wp2
    generalize ((w0.setCell ⟨w.heap.size, 0, none⟩ (.slice none 0 0)).setCell ⟨w.heap.size, 1, none⟩ (.slice none 0 0)) = wE at *
    have z0 := ke.cell 0 (v := .slice none 0 0) (by simp)
    have z1 := ke.cell 1 (v := .slice none 0 0) (by simp)
    refine bodyPost_ret_by (v := .tuple #[.agg #[.slice none 0 0, .slice none 0 0], .bool false]) ?_ rfl ⟨.inr ⟨R.out, rfl⟩, hbE⟩
    simp [results, Try.results39, go_sem, z0, z1]
  cases h3 : inB room 0 20
  case false =>
    have HI := Lib.hid h1
    have HI2 := Lib.hid h2
    have HI3 := Lib.hid h3
    have R : Hid (evOkS wI hI room = false) := by show _ = _; unfold evOkS; rw [h1, h2, h3]; rfl
    have t0 := kR.cell 0 rfl
    have t1 := kR.cell 1 rfl
    have q0 := kR.frozen 0
    have q1 := kR.frozen 1
    have ke := (kR.set 0 (.slice none 0 0)).set 1 (.slice none 0 0)
    have hbE := (hx.setCell (p := ⟨w.heap.size, 0, none⟩) (Nat.le_refl _) (.slice none 0 0)).setCell (p := ⟨w.heap.size, 1, none⟩) (Nat.le_refl _) (.slice none 0 0)
    clear h1 h2 h3 kR hx
    go_enter Try.func39, Try.ntmps39
    go_wp2_with fail
    generalize (w.alloc (.cells #[.slice none 0 0, .slice none 0 0] 53)) = w0 at *
    refine (l00In_g HI _).mono ?_
    rintro e w' ⟨rfl, rfl⟩
    go_wp2_with fail
    refine (l00In_g HI2 _).mono ?_
    rintro e w' ⟨rfl, rfl⟩
    go_wp2_with fail
    refine (l00In_g HI3 _).mono ?_
    rintro e w' ⟨rfl, rfl⟩
    go_wp2
    generalize ((w0.setCell ⟨w.heap.size, 0, none⟩ (.slice none 0 0)).setCell ⟨w.heap.size, 1, none⟩ (.slice none 0 0)) = wE at *
    have z0 := ke.cell 0 (v := .slice none 0 0) (by simp)
    have z1 := ke.cell 1 (v := .slice none 0 0) (by simp)
    refine bodyPost_ret_by (v := .tuple #[.agg #[.slice none 0 0, .slice none 0 0], .bool false]) ?_ rfl ⟨.inr ⟨R.out, rfl⟩, hbE⟩
    simp [results, Try.results39, go_sem, z0, z1]
  have R : Hid (evOkS wI hI room = true) := by show _ = _; unfold evOkS; rw [h1, h2, h3]; rfl
  have b1 : 1 ≤ wI ∧ wI ≤ 8 := of_decide_eq_true h1
  have b2 : 1 ≤ hI ∧ hI ≤ 8 := of_decide_eq_true h2
  obtain ⟨m, rfl⟩ : ∃ m : Nat, wI = (m : Int) + 1 := ⟨(wI - 1).toNat, by omega⟩
  obtain ⟨H, rfl⟩ : ∃ H : Nat, hI = (H : Int) := ⟨hI.toNat, by omega⟩
  have HI := Lib.hid h1
  have HI2 := Lib.hid h2
  have HI3 := Lib.hid h3
  have HB : Hid (1 ≤ H ∧ H ≤ 8 ∧ m ≤ 7) := ⟨by omega, by omega, by omega⟩
  have CE := Lib.hid (fun wx => l08Even_any m H room wx (by omega) (by omega) (by omega))
  clear h1 h2 h3 b1 b2
  go_enter Try.func39, Try.ntmps39
  go_wp2_with fail
  generalize (w.alloc (.cells #[.slice none 0 0, .slice none 0 0] 53)) = w0 at *
  refine (l00In_g HI _).mono ?_
  rintro e w' ⟨rfl, rfl⟩
  go_wp2_with fail
  refine (l00In_g HI2 _).mono ?_
  rintro e w' ⟨rfl, rfl⟩
  go_wp2_with fail
  refine (l00In_g HI3 _).mono ?_
  rintro e w' ⟨rfl, rfl⟩
  go_wp2_with fail
  refine (CE.out _).mono ?_
  rintro e w2 ⟨A0, c0, Ms, A1, c1, Us, rfl, ⟨a1, a2, a3, a4⟩, ⟨u1, u2, u3, u4⟩, hb2⟩
  have kR2 := kR.to hb2
  have bb := bl_step hx hb2 hx.size
  have t0 := kR2.cell 0 rfl
  have t1 := kR2.cell 1 rfl
  have q0 := kR2.frozen 0
  have q1 := kR2.frozen 1
  have ke := (kR2.set 0 (.slice A0 H c0)).set 1 (.slice A1 (H - 1) c1)
  have hbE := (bb.setCell (p := ⟨w.heap.size, 0, none⟩) (Nat.le_refl _) (.slice A0 H c0)).setCell (p := ⟨w.heap.size, 1, none⟩) (Nat.le_refl _) (.slice A1 (H - 1) c1)
  have hlR := kR.lt
  have j1 := (a3.low a4 (p := ⟨w.heap.size, 0, none⟩) (by dsimp only; omega) (.slice A0 H c0)).low a4 (p := ⟨w.heap.size, 1, none⟩) (by dsimp only; omega) (.slice A1 (H - 1) c1)
  have j2 := (u3.low u4 (p := ⟨w.heap.size, 0, none⟩) (by dsimp only; omega) (.slice A0 H c0)).low u4 (p := ⟨w.heap.size, 1, none⟩) (by dsimp only; omega) (.slice A1 (H - 1) c1)
  have hs2 : ((w2.setCell ⟨w.heap.size, 0, none⟩ (.slice A0 H c0)).setCell ⟨w.heap.size, 1, none⟩ (.slice A1 (H - 1) c1)).heap.size = w2.heap.size := by simp [World.setCell]
  rw [← hs2] at j1 j2
  have H1 := Lib.hid a1
  have H2 := Lib.hid a2
  have H3 := Lib.hid u1
  have H4 := Lib.hid u2
  clear a1 a2 a3 a4 u1 u2 u3 u4 hs2 bb kR
  go_wp2
  generalize ((w2.setCell ⟨w.heap.size, 0, none⟩ (.slice A0 H c0)).setCell ⟨w.heap.size, 1, none⟩ (.slice A1 (H - 1) c1)) = wE at *
  have z0 := ke.cell 0 (v := .slice A0 H c0) (by simp)
  have z1 := ke.cell 1 (v := .slice A1 (H - 1) c1) (by simp)
  refine bodyPost_ret_by (v := .tuple #[.agg #[.slice A0 H c0, .slice A1 (H - 1) c1], .bool true]) ?_ rfl ⟨.inl ⟨R.out, m, H, A0, c0, Ms, A1, c1, Us, rfl, rfl, HB.out.1, HB.out.2.1, HB.out.2.2, rfl, ⟨H1.out, H2.out, j1⟩, ⟨H3.out, H4.out, j2⟩⟩, hbE⟩
  simp [results, Try.results39, go_sem, z0, z1]
end Go.Proofs.Ytijnjcamfbnmgaa
