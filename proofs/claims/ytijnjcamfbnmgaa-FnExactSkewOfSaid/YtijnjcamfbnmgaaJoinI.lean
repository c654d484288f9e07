/-
  Contract: IsJoins, as the program has it.
-/
import Derived.Test.YtijnjcamfbnmgaaJoinP
import Derived.Test.YtijnjcamfbnmgaaReg
namespace Go.Proofs.Ytijnjcamfbnmgaa
set_option linter.unusedSimpArgs false
set_option linter.unusedVariables false
open Go.ChangeShapes Go.WideShapes Go.ChangeAt Go.RowKit

theorem keepE {N : Nat} {w0 wx : World} {f : FuncId} {args : Array Value} {v : Value} (hS : Below N w0 wx) (h : Calls Try.prog f args wx fun e w' => e = .returned v ∧ w' = wx) :
    Calls Try.prog f args wx fun e w' => e = .returned v ∧ Below N w0 w' := h.mono fun _ _ ⟨he, hw⟩ => ⟨he, hw ▸ hS⟩
theorem bitsetOf_int (x : Int) (X p : Nat) (hx : x = (X : Int)) (hX : X < 64) (hp : 2 ^ X = p) (w : World) :
    Calls Try.prog 103 #[.int .i64 x] w fun e w' => e = .returned (.int .u64 (p : Int)) ∧ w' = w := by
  subst hx; subst hp; exact bitsetOf_any X hX w

set_option maxRecDepth 100000 in
set_option maxHeartbeats 6400000 in
theorem IsJoinsI_any (A : Option Addr) (Ls : List SlI) (c : Nat) (cnt : Int) (w : World) (hp : ISAt w w.heap.size A Ls) (hl : Ls.length ≤ 1048576) :
    Calls Try.prog 69 #[.int .i64 cnt, .slice A Ls.length c] w fun e w' => e = .returned (.bool (isJ cnt (heldI Ls))) ∧ Below w.heap.size w w' := by
  have hlI : (Ls.length : Int) ≤ 1048576 := by omega
  have hJl := heldI_len Ls
  by_cases h2 : cnt < 2
  · have R : Hid (isJ cnt (heldI Ls) = false) := isJ_lo (by omega)
    rw [R.out]
    clear hJl hp
    go_enter Try.func69, Try.ntmps69
    go_wp2
    go_ret
    exact ⟨rfl, Below.refl _ _⟩
  by_cases h12 : 12 < cnt
  · have R : Hid (isJ cnt (heldI Ls) = false) := isJ_lo (by omega)
    rw [R.out]
    clear hJl hp
    go_enter Try.func69, Try.ntmps69
    go_wp2
    go_ret
    exact ⟨rfl, Below.refl _ _⟩
  by_cases hL : (Ls.length : Int) = cnt - 1
  case neg =>
    have R : Hid (isJ cnt (heldI Ls) = false) := isJ_len (by rw [hJl]; exact hL)
    rw [R.out]
    have hne : ((Ls.length : Int) == cnt - 1) = false := by simpa using hL
    clear hJl hp
    go_enter Try.func69, Try.ntmps69
    go_wp2
    go_ret
    exact ⟨rfl, Below.refl _ _⟩
  obtain ⟨L, hLL⟩ : ∃ L, Ls.length = L := ⟨_, rfl⟩
  rw [hLL] at hL hlI hl hJl
  obtain rfl : cnt = (L : Int) + 1 := by omega
  have h1 : 1 ≤ L := by omega
  have h11 : L ≤ 11 := by omega
  have h11I : (L : Int) ≤ 11 := by omega
  have h1I : (1 : Int) ≤ (L : Int) := by omega
  rw [hLL]
  rw [isJ_at h1 h11 hJl]
  obtain ⟨b, off, rfl, hbB, hc⟩ := hp (by omega)
  rw [hLL] at hc
  obtain ⟨J, hJ⟩ : ∃ J, heldI Ls = J := ⟨_, rfl⟩
  have hrow : ∀ k, J.getD k [] = (Ls.getD k si0).2.1 := fun k => by rw [← hJ]; exact heldI_at
  rw [hJ]
  obtain ⟨p0, hp0⟩ : ∃ p0, 2 ^ (L + 1) = p0 := ⟨_, rfl⟩
  have hp64 : p0 < 18446744073709551616 := by rw [← hp0]; exact pow_lt64 (by omega)
  have hp1 : 1 ≤ p0 := by rw [← hp0]; exact Nat.one_le_two_pow
  have HF0 : Hid (FreeB (L + 1) J 0 (p0 - 1)) := by have := FreeB.start (n := L + 1) J (by omega); rw [hp0] at this; exact this
  have hsub : IntKind.u64.wrap ((p0 : Int) - 1) = ((p0 - 1 : Nat) : Int) := by rw [IntKind.wrap_u64]; omega
  have CB0 := Lib.hid (fun w => bitsetOf_int ((L : Int) + 1) (L + 1) p0 (by omega) (by omega) hp0 w)
  have HR := Lib.hid hrow
  have HC := Lib.hid hc
  have HJl := Lib.hid (show J.length = L by rw [← hJ]; exact hJl)
  have HH2 := Lib.hid h2
  have HH12 := Lib.hid h12
  clear hL hJl hLL hJ hp0 hrow hc hl h2 h12 hp
  have h2 : ¬ (L : Int) + 1 < 2 := HH2.out
  have h12 : ¬ 12 < (L : Int) + 1 := HH12.out
  go_enter Try.func69, Try.ntmps69
  go_wp2_with fail
  refine (CB0.out _).mono ?_
  rintro e w1 ⟨rfl, rfl⟩
  go_wp2
  clear hsub hp64 hp1 h2 h12
  go_loopw [5, 26] (fun f i wr => ∃ k v : Nat, k ≤ L ∧ i = .int .i64 k ∧ f = .int .u64 (v : Int) ∧ Hid (FreeB (L + 1) J k v ∧ jTo (L + 1) J k = true) ∧ Below w1.heap.size w1 wr) (fun _ i _ => L - (intOf i).toNat)
  case atStart => exact ⟨0, p0 - 1, Nat.zero_le _, rfl, rfl, ⟨HF0.out, rfl⟩, Below.refl _ _⟩
  case round =>
    obtain ⟨k, v, hk, rfl, rfl, HFJ, hb⟩ := hrel
    by_cases hlt : k < L
    case neg =>
      obtain rfl : k = L := by omega
      have R := HFJ.out.2
      go_wp2
      go_ret
      exact ⟨retB R.symm, hb⟩
    have hkI : (k : Int) < (L : Int) := by omega
    have hk0 : (0 : Int) ≤ (k : Int) := by omega
    obtain ⟨ck, ik, lk, _⟩ := HC.out k hlt
    have hRk := HR.out k
    obtain ⟨⟨Ak, Lk, cc⟩, hz⟩ : ∃ z, Ls.getD k si0 = z := ⟨_, rfl⟩
    rw [hz] at ck ik lk hRk
    dsimp only at ck ik lk hRk
    have d := (hb.cell (p := ⟨b, off + k, none⟩) hbB).trans ck
    clear ck hz
    obtain ⟨m, hm⟩ : ∃ m, Lk.length = m := ⟨_, rfl⟩
    by_cases hm2 : m = 2
    case neg =>
      have R : Hid (jTo (L + 1) J L = false) := jTo_bad (show jAt (L + 1) J k = false by unfold jAt; rw [hRk, hm, decide_eq_false hm2]; rfl) L hlt
      rw [hm] at d
      have hne : ((m : Int) == 2) = false := by simp; omega
      have hne2 : ((m : Int) != 2) = true := by simp; omega
      have hlkI : (m : Int) ≤ (cc : Int) := by omega
      clear ik hRk hm2 lk hm
      go_wp2
      refine wp_region_quietA (by kernel_rfl) (by kernel_rfl) ?_
      refine q_w (v := ?_) (by rfl) ?_ ?_
      rotate_left
      · intro wx hSx
        obtain ⟨hcx, hfx, hzx⟩ := bcell hSx
        go_simp
        try (with_reducible rfl)
      try simp only [Act.put, List.setIfInBounds_toArray, List.set_cons_zero, List.set_cons_succ]
      refine q_w (v := ?_) (by rfl) ?_ ?_
      rotate_left
      · intro wx hSx
        obtain ⟨hcx, hfx, hzx⟩ := bcell hSx
        go_simp
        try (with_reducible rfl)
      try simp only [Act.put, List.setIfInBounds_toArray, List.set_cons_zero, List.set_cons_succ]
      refine q_w (v := ?_) (by rfl) ?_ ?_
      rotate_left
      · intro wx hSx
        obtain ⟨hcx, hfx, hzx⟩ := bcell hSx
        go_simp
        try (with_reducible rfl)
      try simp only [Act.put, List.setIfInBounds_toArray, List.set_cons_zero, List.set_cons_succ]
      refine q_w (v := ?_) (by rfl) ?_ ?_
      rotate_left
      · intro wx hSx
        obtain ⟨hcx, hfx, hzx⟩ := bcell hSx
        go_simp
        try (with_reducible rfl)
      try simp only [Act.put, List.setIfInBounds_toArray, List.set_cons_zero, List.set_cons_succ]
      refine q_u (by rfl) ?_
      try simp only [Act.put, List.setIfInBounds_toArray, List.set_cons_zero, List.set_cons_succ]
      refine q_u (by rfl) ?_
      try simp only [Act.put, List.setIfInBounds_toArray, List.set_cons_zero, List.set_cons_succ]
      refine q_u (by rfl) ?_
      try simp only [Act.put, List.setIfInBounds_toArray, List.set_cons_zero, List.set_cons_succ]
      refine q_u (by rfl) ?_
      try simp only [Act.put, List.setIfInBounds_toArray, List.set_cons_zero, List.set_cons_succ]
      refine q_u (by rfl) ?_
      try simp only [Act.put, List.setIfInBounds_toArray, List.set_cons_zero, List.set_cons_succ]
      refine q_u (by rfl) ?_
      try simp only [Act.put, List.setIfInBounds_toArray, List.set_cons_zero, List.set_cons_succ]
      refine q_u (by rfl) ?_
      try simp only [Act.put, List.setIfInBounds_toArray, List.set_cons_zero, List.set_cons_succ]
      refine q_w (v := ?_) (by rfl) ?_ ?_
      rotate_left
      · intro wx hSx
        obtain ⟨hcx, hfx, hzx⟩ := bcell hSx
        go_simp
        try (with_reducible rfl)
      try simp only [Act.put, List.setIfInBounds_toArray, List.set_cons_zero, List.set_cons_succ]
      refine q_w (v := ?_) (by rfl) ?_ ?_
      rotate_left
      · intro wx hSx
        obtain ⟨hcx, hfx, hzx⟩ := bcell hSx
        go_simp
        try (with_reducible rfl)
      try simp only [Act.put, List.setIfInBounds_toArray, List.set_cons_zero, List.set_cons_succ]
      refine q_u (by rfl) ?_
      try simp only [Act.put, List.setIfInBounds_toArray, List.set_cons_zero, List.set_cons_succ]
      refine q_u (by rfl) ?_
      try simp only [Act.put, List.setIfInBounds_toArray, List.set_cons_zero, List.set_cons_succ]
      refine q_u (by rfl) ?_
      try simp only [Act.put, List.setIfInBounds_toArray, List.set_cons_zero, List.set_cons_succ]
      refine q_u (by rfl) ?_
      try simp only [Act.put, List.setIfInBounds_toArray, List.set_cons_zero, List.set_cons_succ]
      refine q_u (by rfl) ?_
      try simp only [Act.put, List.setIfInBounds_toArray, List.set_cons_zero, List.set_cons_succ]
      refine q_u (by rfl) ?_
      try simp only [Act.put, List.setIfInBounds_toArray, List.set_cons_zero, List.set_cons_succ]
      refine q_w (v := ?_) (by rfl) ?_ ?_
      rotate_left
      · intro wx hSx
        obtain ⟨hcx, hfx, hzx⟩ := bcell hSx
        go_simp
        try (with_reducible rfl)
      try simp only [Act.put, List.setIfInBounds_toArray, List.set_cons_zero, List.set_cons_succ]
      refine q_w (v := ?_) (by rfl) ?_ ?_
      rotate_left
      · intro wx hSx
        obtain ⟨hcx, hfx, hzx⟩ := bcell hSx
        go_simp
        try (with_reducible rfl)
      try simp only [Act.put, List.setIfInBounds_toArray, List.set_cons_zero, List.set_cons_succ]
      refine q_u (by rfl) ?_
      try simp only [Act.put, List.setIfInBounds_toArray, List.set_cons_zero, List.set_cons_succ]
      refine q_u (by rfl) ?_
      try simp only [Act.put, List.setIfInBounds_toArray, List.set_cons_zero, List.set_cons_succ]
      refine q_u (by rfl) ?_
      try simp only [Act.put, List.setIfInBounds_toArray, List.set_cons_zero, List.set_cons_succ]
      refine q_u (by rfl) ?_
      try simp only [Act.put, List.setIfInBounds_toArray, List.set_cons_zero, List.set_cons_succ]
      refine q_u (by rfl) ?_
      try simp only [Act.put, List.setIfInBounds_toArray, List.set_cons_zero, List.set_cons_succ]
      refine q_u (by rfl) ?_
      try simp only [Act.put, List.setIfInBounds_toArray, List.set_cons_zero, List.set_cons_succ]
      refine q_w (v := ?_) (by rfl) ?_ ?_
      rotate_left
      · intro wx hSx
        obtain ⟨hcx, hfx, hzx⟩ := bcell hSx
        go_simp
        try (with_reducible rfl)
      try simp only [Act.put, List.setIfInBounds_toArray, List.set_cons_zero, List.set_cons_succ]
      refine q_nil (fun w2 hb2 => ?_)
      obtain ⟨hc2, hf2, hz2⟩ := bcell hb2
      go_wp2
      go_ret
      exact ⟨retB R.out.symm, hb.trans (hb2.mono hb.size)⟩
    subst hm2
    rw [hm] at d
    obtain ⟨bk, ok, rfl, hbk, hik⟩ := ik (by omega)
    rw [hm] at hik
    have e0 := (hb.cell (p := ⟨bk, ok + 0, none⟩) hbk).trans (hik 0 (by omega))
    have e1 := (hb.cell (p := ⟨bk, ok + 1, none⟩) hbk).trans (hik 1 (by omega))
    rw [Nat.add_zero] at e0
    have hx' : jx J k = Lk.getD 0 0 := by unfold jx; rw [hRk]
    have hy' : jy J k = Lk.getD 1 0 := by unfold jy; rw [hRk]
    have hl2 : (J.getD k []).length = 2 := by rw [hRk]; exact hm
    obtain ⟨x, hx⟩ : ∃ x, Lk.getD 0 0 = x := ⟨_, rfl⟩
    obtain ⟨y, hy⟩ : ∃ y, Lk.getD 1 0 = y := ⟨_, rfl⟩
    rw [hx] at e0 hx'
    rw [hy] at e1 hy'
    have hzw := hb.size
    have hbk' : bk < wr.heap.size := Nat.lt_of_lt_of_le hbk hb.size
    have hbb' : b < wr.heap.size := Nat.lt_of_lt_of_le hbB hb.size
    have hfr := HFJ.out.1
    have hxB := hfr.has x
    have hyB := hfr.has y
    have hv64 := hfr.1
    have HX' := Lib.hid hx'
    have HY' := Lib.hid hy'
    have HL2 := Lib.hid hl2
    have hnk : (((L + 1 : Nat) : Int) + (k : Int) - 1) = (L : Int) + (k : Int) := by omega
    rw [hnk] at hxB hyB
    clear hik hx hy hRk hm lk hzw hx' hy' hl2 hfr
    by_cases hxy : x < y
    case neg =>
      have R : Hid (jTo (L + 1) J L = false) := jTo_bad (show jAt (L + 1) J k = false by
        cases h : jAt (L + 1) J k
        · rfl
        · obtain ⟨_, _, ⟨q, _⟩, _⟩ := jAt_iff.1 h
          rw [HX'.out, HY'.out] at q
          omega) L hlt
      have hyx : y ≤ x := by omega
      clear hxB hyB hxy
      go_wp2
      refine wp_region_quietA (by kernel_rfl) (by kernel_rfl) ?_
      refine q_w (v := ?_) (by rfl) ?_ ?_
      rotate_left
      · intro wx hSx
        obtain ⟨hcx, hfx, hzx⟩ := bcell hSx
        go_simp
        try (with_reducible rfl)
      try simp only [Act.put, List.setIfInBounds_toArray, List.set_cons_zero, List.set_cons_succ]
      refine q_w (v := ?_) (by rfl) ?_ ?_
      rotate_left
      · intro wx hSx
        obtain ⟨hcx, hfx, hzx⟩ := bcell hSx
        go_simp
        try (with_reducible rfl)
      try simp only [Act.put, List.setIfInBounds_toArray, List.set_cons_zero, List.set_cons_succ]
      refine q_w (v := ?_) (by rfl) ?_ ?_
      rotate_left
      · intro wx hSx
        obtain ⟨hcx, hfx, hzx⟩ := bcell hSx
        go_simp
        try (with_reducible rfl)
      try simp only [Act.put, List.setIfInBounds_toArray, List.set_cons_zero, List.set_cons_succ]
      refine q_w (v := ?_) (by rfl) ?_ ?_
      rotate_left
      · intro wx hSx
        obtain ⟨hcx, hfx, hzx⟩ := bcell hSx
        go_simp
        try (with_reducible rfl)
      try simp only [Act.put, List.setIfInBounds_toArray, List.set_cons_zero, List.set_cons_succ]
      refine q_w (v := ?_) (by rfl) ?_ ?_
      rotate_left
      · intro wx hSx
        obtain ⟨hcx, hfx, hzx⟩ := bcell hSx
        go_simp
        try (with_reducible rfl)
      try simp only [Act.put, List.setIfInBounds_toArray, List.set_cons_zero, List.set_cons_succ]
      refine q_w (v := ?_) (by rfl) ?_ ?_
      rotate_left
      · intro wx hSx
        obtain ⟨hcx, hfx, hzx⟩ := bcell hSx
        go_simp
        try (with_reducible rfl)
      try simp only [Act.put, List.setIfInBounds_toArray, List.set_cons_zero, List.set_cons_succ]
      refine q_w (v := ?_) (by rfl) ?_ ?_
      rotate_left
      · intro wx hSx
        obtain ⟨hcx, hfx, hzx⟩ := bcell hSx
        go_simp
        try (with_reducible rfl)
      try simp only [Act.put, List.setIfInBounds_toArray, List.set_cons_zero, List.set_cons_succ]
      refine q_w (v := ?_) (by rfl) ?_ ?_
      rotate_left
      · intro wx hSx
        obtain ⟨hcx, hfx, hzx⟩ := bcell hSx
        go_simp
        try (with_reducible rfl)
      try simp only [Act.put, List.setIfInBounds_toArray, List.set_cons_zero, List.set_cons_succ]
      refine q_w (v := ?_) (by rfl) ?_ ?_
      rotate_left
      · intro wx hSx
        obtain ⟨hcx, hfx, hzx⟩ := bcell hSx
        go_simp
        try (with_reducible rfl)
      try simp only [Act.put, List.setIfInBounds_toArray, List.set_cons_zero, List.set_cons_succ]
      refine q_w (v := ?_) (by rfl) ?_ ?_
      rotate_left
      · intro wx hSx
        obtain ⟨hcx, hfx, hzx⟩ := bcell hSx
        go_simp
        try (with_reducible rfl)
      try simp only [Act.put, List.setIfInBounds_toArray, List.set_cons_zero, List.set_cons_succ]
      refine q_w (v := ?_) (by rfl) ?_ ?_
      rotate_left
      · intro wx hSx
        obtain ⟨hcx, hfx, hzx⟩ := bcell hSx
        go_simp
        try (with_reducible rfl)
      try simp only [Act.put, List.setIfInBounds_toArray, List.set_cons_zero, List.set_cons_succ]
      refine q_w (v := ?_) (by rfl) ?_ ?_
      rotate_left
      · intro wx hSx
        obtain ⟨hcx, hfx, hzx⟩ := bcell hSx
        go_simp
        try (with_reducible rfl)
      try simp only [Act.put, List.setIfInBounds_toArray, List.set_cons_zero, List.set_cons_succ]
      refine q_w (v := ?_) (by rfl) ?_ ?_
      rotate_left
      · intro wx hSx
        obtain ⟨hcx, hfx, hzx⟩ := bcell hSx
        go_simp
        try (with_reducible rfl)
      try simp only [Act.put, List.setIfInBounds_toArray, List.set_cons_zero, List.set_cons_succ]
      refine q_u (by rfl) ?_
      try simp only [Act.put, List.setIfInBounds_toArray, List.set_cons_zero, List.set_cons_succ]
      refine q_u (by rfl) ?_
      try simp only [Act.put, List.setIfInBounds_toArray, List.set_cons_zero, List.set_cons_succ]
      refine q_u (by rfl) ?_
      try simp only [Act.put, List.setIfInBounds_toArray, List.set_cons_zero, List.set_cons_succ]
      refine q_u (by rfl) ?_
      try simp only [Act.put, List.setIfInBounds_toArray, List.set_cons_zero, List.set_cons_succ]
      refine q_u (by rfl) ?_
      try simp only [Act.put, List.setIfInBounds_toArray, List.set_cons_zero, List.set_cons_succ]
      refine q_u (by rfl) ?_
      try simp only [Act.put, List.setIfInBounds_toArray, List.set_cons_zero, List.set_cons_succ]
      refine q_w (v := ?_) (by rfl) ?_ ?_
      rotate_left
      · intro wx hSx
        obtain ⟨hcx, hfx, hzx⟩ := bcell hSx
        go_simp
        try (with_reducible rfl)
      try simp only [Act.put, List.setIfInBounds_toArray, List.set_cons_zero, List.set_cons_succ]
      refine q_w (v := ?_) (by rfl) ?_ ?_
      rotate_left
      · intro wx hSx
        obtain ⟨hcx, hfx, hzx⟩ := bcell hSx
        go_simp
        try (with_reducible rfl)
      try simp only [Act.put, List.setIfInBounds_toArray, List.set_cons_zero, List.set_cons_succ]
      refine q_u (by rfl) ?_
      try simp only [Act.put, List.setIfInBounds_toArray, List.set_cons_zero, List.set_cons_succ]
      refine q_u (by rfl) ?_
      try simp only [Act.put, List.setIfInBounds_toArray, List.set_cons_zero, List.set_cons_succ]
      refine q_u (by rfl) ?_
      try simp only [Act.put, List.setIfInBounds_toArray, List.set_cons_zero, List.set_cons_succ]
      refine q_u (by rfl) ?_
      try simp only [Act.put, List.setIfInBounds_toArray, List.set_cons_zero, List.set_cons_succ]
      refine q_u (by rfl) ?_
      try simp only [Act.put, List.setIfInBounds_toArray, List.set_cons_zero, List.set_cons_succ]
      refine q_u (by rfl) ?_
      try simp only [Act.put, List.setIfInBounds_toArray, List.set_cons_zero, List.set_cons_succ]
      refine q_w (v := ?_) (by rfl) ?_ ?_
      rotate_left
      · intro wx hSx
        obtain ⟨hcx, hfx, hzx⟩ := bcell hSx
        go_simp
        try (with_reducible rfl)
      try simp only [Act.put, List.setIfInBounds_toArray, List.set_cons_zero, List.set_cons_succ]
      refine q_nil (fun w2 hb2 => ?_)
      obtain ⟨hc2, hf2, hz2⟩ := bcell hb2
      go_wp2
      go_ret
      exact ⟨retB R.out.symm, hb.trans (hb2.mono hb.size)⟩
    have hyx : decide (y ≤ x) = false := decide_eq_false (by omega)
    cases hbx : (decide (0 ≤ x) && v.testBit x.toNat)
    case false =>
      have R : Hid (jTo (L + 1) J L = false) := jTo_bad (show jAt (L + 1) J k = false by
        rw [hbx] at hxB
        cases h : jAt (L + 1) J k
        · rfl
        · obtain ⟨_, ⟨q0, q1⟩, _, q2, _⟩ := jAt_iff.1 h
          rw [HX'.out] at q0 q1 q2
          rw [inB_t q0 (by omega), q2] at hxB
          cases hxB) L hlt
      have HBX := Lib.hid hbx
      clear hxB hyB hxy hbx
      go_wp2
      refine wp_region_quietA (by kernel_rfl) (by kernel_rfl) ?_
      refine q_w (v := ?_) (by rfl) ?_ ?_
      rotate_left
      · intro wx hSx
        obtain ⟨hcx, hfx, hzx⟩ := bcell hSx
        go_simp
        try (with_reducible rfl)
      try simp only [Act.put, List.setIfInBounds_toArray, List.set_cons_zero, List.set_cons_succ]
      refine q_w (v := ?_) (by rfl) ?_ ?_
      rotate_left
      · intro wx hSx
        obtain ⟨hcx, hfx, hzx⟩ := bcell hSx
        go_simp
        try (with_reducible rfl)
      try simp only [Act.put, List.setIfInBounds_toArray, List.set_cons_zero, List.set_cons_succ]
      refine q_w (v := ?_) (by rfl) ?_ ?_
      rotate_left
      · intro wx hSx
        obtain ⟨hcx, hfx, hzx⟩ := bcell hSx
        go_simp
        try (with_reducible rfl)
      try simp only [Act.put, List.setIfInBounds_toArray, List.set_cons_zero, List.set_cons_succ]
      refine q_w (v := ?_) (by rfl) ?_ ?_
      rotate_left
      · intro wx hSx
        obtain ⟨hcx, hfx, hzx⟩ := bcell hSx
        go_simp
        try (with_reducible rfl)
      try simp only [Act.put, List.setIfInBounds_toArray, List.set_cons_zero, List.set_cons_succ]
      refine q_w (v := ?_) (by rfl) ?_ ?_
      rotate_left
      · intro wx hSx
        obtain ⟨hcx, hfx, hzx⟩ := bcell hSx
        go_simp
        try (with_reducible rfl)
      try simp only [Act.put, List.setIfInBounds_toArray, List.set_cons_zero, List.set_cons_succ]
      refine q_w (v := ?_) (by rfl) ?_ ?_
      rotate_left
      · intro wx hSx
        obtain ⟨hcx, hfx, hzx⟩ := bcell hSx
        go_simp
        try (with_reducible rfl)
      try simp only [Act.put, List.setIfInBounds_toArray, List.set_cons_zero, List.set_cons_succ]
      refine q_w (v := ?_) (by rfl) ?_ ?_
      rotate_left
      · intro wx hSx
        obtain ⟨hcx, hfx, hzx⟩ := bcell hSx
        go_simp
        try (with_reducible rfl)
      try simp only [Act.put, List.setIfInBounds_toArray, List.set_cons_zero, List.set_cons_succ]
      refine q_w (v := ?_) (by rfl) ?_ ?_
      rotate_left
      · intro wx hSx
        obtain ⟨hcx, hfx, hzx⟩ := bcell hSx
        go_simp
        try (with_reducible rfl)
      try simp only [Act.put, List.setIfInBounds_toArray, List.set_cons_zero, List.set_cons_succ]
      refine q_w (v := ?_) (by rfl) ?_ ?_
      rotate_left
      · intro wx hSx
        obtain ⟨hcx, hfx, hzx⟩ := bcell hSx
        go_simp
        try (with_reducible rfl)
      try simp only [Act.put, List.setIfInBounds_toArray, List.set_cons_zero, List.set_cons_succ]
      refine q_w (v := ?_) (by rfl) ?_ ?_
      rotate_left
      · intro wx hSx
        obtain ⟨hcx, hfx, hzx⟩ := bcell hSx
        go_simp
        try (with_reducible rfl)
      try simp only [Act.put, List.setIfInBounds_toArray, List.set_cons_zero, List.set_cons_succ]
      refine q_w (v := ?_) (by rfl) ?_ ?_
      rotate_left
      · intro wx hSx
        obtain ⟨hcx, hfx, hzx⟩ := bcell hSx
        go_simp
        try (with_reducible rfl)
      try simp only [Act.put, List.setIfInBounds_toArray, List.set_cons_zero, List.set_cons_succ]
      refine q_w (v := ?_) (by rfl) ?_ ?_
      rotate_left
      · intro wx hSx
        obtain ⟨hcx, hfx, hzx⟩ := bcell hSx
        go_simp
        try (with_reducible rfl)
      try simp only [Act.put, List.setIfInBounds_toArray, List.set_cons_zero, List.set_cons_succ]
      refine q_w (v := ?_) (by rfl) ?_ ?_
      rotate_left
      · intro wx hSx
        obtain ⟨hcx, hfx, hzx⟩ := bcell hSx
        go_simp
        try (with_reducible rfl)
      try simp only [Act.put, List.setIfInBounds_toArray, List.set_cons_zero, List.set_cons_succ]
      refine q_w (v := ?_) (by rfl) ?_ ?_
      rotate_left
      · intro wx hSx
        obtain ⟨hcx, hfx, hzx⟩ := bcell hSx
        go_simp
        try (with_reducible rfl)
      try simp only [Act.put, List.setIfInBounds_toArray, List.set_cons_zero, List.set_cons_succ]
      refine q_w (v := ?_) (by rfl) ?_ ?_
      rotate_left
      · intro wx hSx
        obtain ⟨hcx, hfx, hzx⟩ := bcell hSx
        go_simp
        try (with_reducible rfl)
      try simp only [Act.put, List.setIfInBounds_toArray, List.set_cons_zero, List.set_cons_succ]
      refine q_w (v := ?_) (by rfl) ?_ ?_
      rotate_left
      · intro wx hSx
        obtain ⟨hcx, hfx, hzx⟩ := bcell hSx
        go_simp
        try (with_reducible rfl)
      try simp only [Act.put, List.setIfInBounds_toArray, List.set_cons_zero, List.set_cons_succ]
      refine q_w (v := ?_) (by rfl) ?_ ?_
      rotate_left
      · intro wx hSx
        obtain ⟨hcx, hfx, hzx⟩ := bcell hSx
        go_simp
        try (with_reducible rfl)
      try simp only [Act.put, List.setIfInBounds_toArray, List.set_cons_zero, List.set_cons_succ]
      refine q_c (by rfl) (fun wx hSx => keepE hSx (bhas_any v hv64 x _ HBX _)) (fun wx hSx => by go_simp <;> (repeat' (first | rfl | apply And.intro))) ?_
      try simp only [Act.put, List.setIfInBounds_toArray, List.set_cons_zero, List.set_cons_succ]
      refine q_w (v := ?_) (by rfl) ?_ ?_
      rotate_left
      · intro wx hSx
        obtain ⟨hcx, hfx, hzx⟩ := bcell hSx
        go_simp
        try (with_reducible rfl)
      try simp only [Act.put, List.setIfInBounds_toArray, List.set_cons_zero, List.set_cons_succ]
      refine q_w (v := ?_) (by rfl) ?_ ?_
      rotate_left
      · intro wx hSx
        obtain ⟨hcx, hfx, hzx⟩ := bcell hSx
        go_simp
        try (with_reducible rfl)
      try simp only [Act.put, List.setIfInBounds_toArray, List.set_cons_zero, List.set_cons_succ]
      refine q_w (v := ?_) (by rfl) ?_ ?_
      rotate_left
      · intro wx hSx
        obtain ⟨hcx, hfx, hzx⟩ := bcell hSx
        go_simp
        try (with_reducible rfl)
      try simp only [Act.put, List.setIfInBounds_toArray, List.set_cons_zero, List.set_cons_succ]
      refine q_u (by rfl) ?_
      try simp only [Act.put, List.setIfInBounds_toArray, List.set_cons_zero, List.set_cons_succ]
      refine q_u (by rfl) ?_
      try simp only [Act.put, List.setIfInBounds_toArray, List.set_cons_zero, List.set_cons_succ]
      refine q_u (by rfl) ?_
      try simp only [Act.put, List.setIfInBounds_toArray, List.set_cons_zero, List.set_cons_succ]
      refine q_u (by rfl) ?_
      try simp only [Act.put, List.setIfInBounds_toArray, List.set_cons_zero, List.set_cons_succ]
      refine q_u (by rfl) ?_
      try simp only [Act.put, List.setIfInBounds_toArray, List.set_cons_zero, List.set_cons_succ]
      refine q_u (by rfl) ?_
      try simp only [Act.put, List.setIfInBounds_toArray, List.set_cons_zero, List.set_cons_succ]
      refine q_w (v := ?_) (by rfl) ?_ ?_
      rotate_left
      · intro wx hSx
        obtain ⟨hcx, hfx, hzx⟩ := bcell hSx
        go_simp
        try (with_reducible rfl)
      try simp only [Act.put, List.setIfInBounds_toArray, List.set_cons_zero, List.set_cons_succ]
      refine q_nil (fun w2 hb2 => ?_)
      obtain ⟨hc2, hf2, hz2⟩ := bcell hb2
      go_wp2
      go_ret
      exact ⟨retB R.out.symm, hb.trans (hb2.mono hb.size)⟩
    cases hby : (decide (0 ≤ y) && v.testBit y.toNat)
    case false =>
      have R : Hid (jTo (L + 1) J L = false) := jTo_bad (show jAt (L + 1) J k = false by
        rw [hby] at hyB
        cases h : jAt (L + 1) J k
        · rfl
        · obtain ⟨_, ⟨q0, q1⟩, ⟨r0, r1⟩, _, q2⟩ := jAt_iff.1 h
          rw [HX'.out] at q0 q1 r0
          rw [HY'.out] at r0 r1 q2
          rw [inB_t (by omega) (by omega), q2] at hyB
          cases hyB) L hlt
      have HBX := Lib.hid hbx
      have HBY := Lib.hid hby
      clear hxB hyB hxy hbx hby
      go_wp2
      refine wp_region_quietA (by kernel_rfl) (by kernel_rfl) ?_
      refine q_w (v := ?_) (by rfl) ?_ ?_
      rotate_left
      · intro wx hSx
        obtain ⟨hcx, hfx, hzx⟩ := bcell hSx
        go_simp
        try (with_reducible rfl)
      try simp only [Act.put, List.setIfInBounds_toArray, List.set_cons_zero, List.set_cons_succ]
      refine q_w (v := ?_) (by rfl) ?_ ?_
      rotate_left
      · intro wx hSx
        obtain ⟨hcx, hfx, hzx⟩ := bcell hSx
        go_simp
        try (with_reducible rfl)
      try simp only [Act.put, List.setIfInBounds_toArray, List.set_cons_zero, List.set_cons_succ]
      refine q_w (v := ?_) (by rfl) ?_ ?_
      rotate_left
      · intro wx hSx
        obtain ⟨hcx, hfx, hzx⟩ := bcell hSx
        go_simp
        try (with_reducible rfl)
      try simp only [Act.put, List.setIfInBounds_toArray, List.set_cons_zero, List.set_cons_succ]
      refine q_w (v := ?_) (by rfl) ?_ ?_
      rotate_left
      · intro wx hSx
        obtain ⟨hcx, hfx, hzx⟩ := bcell hSx
        go_simp
        try (with_reducible rfl)
      try simp only [Act.put, List.setIfInBounds_toArray, List.set_cons_zero, List.set_cons_succ]
      refine q_w (v := ?_) (by rfl) ?_ ?_
      rotate_left
      · intro wx hSx
        obtain ⟨hcx, hfx, hzx⟩ := bcell hSx
        go_simp
        try (with_reducible rfl)
      try simp only [Act.put, List.setIfInBounds_toArray, List.set_cons_zero, List.set_cons_succ]
      refine q_w (v := ?_) (by rfl) ?_ ?_
      rotate_left
      · intro wx hSx
        obtain ⟨hcx, hfx, hzx⟩ := bcell hSx
        go_simp
        try (with_reducible rfl)
      try simp only [Act.put, List.setIfInBounds_toArray, List.set_cons_zero, List.set_cons_succ]
      refine q_w (v := ?_) (by rfl) ?_ ?_
      rotate_left
      · intro wx hSx
        obtain ⟨hcx, hfx, hzx⟩ := bcell hSx
        go_simp
        try (with_reducible rfl)
      try simp only [Act.put, List.setIfInBounds_toArray, List.set_cons_zero, List.set_cons_succ]
      refine q_w (v := ?_) (by rfl) ?_ ?_
      rotate_left
      · intro wx hSx
        obtain ⟨hcx, hfx, hzx⟩ := bcell hSx
        go_simp
        try (with_reducible rfl)
      try simp only [Act.put, List.setIfInBounds_toArray, List.set_cons_zero, List.set_cons_succ]
      refine q_w (v := ?_) (by rfl) ?_ ?_
      rotate_left
      · intro wx hSx
        obtain ⟨hcx, hfx, hzx⟩ := bcell hSx
        go_simp
        try (with_reducible rfl)
      try simp only [Act.put, List.setIfInBounds_toArray, List.set_cons_zero, List.set_cons_succ]
      refine q_w (v := ?_) (by rfl) ?_ ?_
      rotate_left
      · intro wx hSx
        obtain ⟨hcx, hfx, hzx⟩ := bcell hSx
        go_simp
        try (with_reducible rfl)
      try simp only [Act.put, List.setIfInBounds_toArray, List.set_cons_zero, List.set_cons_succ]
      refine q_w (v := ?_) (by rfl) ?_ ?_
      rotate_left
      · intro wx hSx
        obtain ⟨hcx, hfx, hzx⟩ := bcell hSx
        go_simp
        try (with_reducible rfl)
      try simp only [Act.put, List.setIfInBounds_toArray, List.set_cons_zero, List.set_cons_succ]
      refine q_w (v := ?_) (by rfl) ?_ ?_
      rotate_left
      · intro wx hSx
        obtain ⟨hcx, hfx, hzx⟩ := bcell hSx
        go_simp
        try (with_reducible rfl)
      try simp only [Act.put, List.setIfInBounds_toArray, List.set_cons_zero, List.set_cons_succ]
      refine q_w (v := ?_) (by rfl) ?_ ?_
      rotate_left
      · intro wx hSx
        obtain ⟨hcx, hfx, hzx⟩ := bcell hSx
        go_simp
        try (with_reducible rfl)
      try simp only [Act.put, List.setIfInBounds_toArray, List.set_cons_zero, List.set_cons_succ]
      refine q_w (v := ?_) (by rfl) ?_ ?_
      rotate_left
      · intro wx hSx
        obtain ⟨hcx, hfx, hzx⟩ := bcell hSx
        go_simp
        try (with_reducible rfl)
      try simp only [Act.put, List.setIfInBounds_toArray, List.set_cons_zero, List.set_cons_succ]
      refine q_w (v := ?_) (by rfl) ?_ ?_
      rotate_left
      · intro wx hSx
        obtain ⟨hcx, hfx, hzx⟩ := bcell hSx
        go_simp
        try (with_reducible rfl)
      try simp only [Act.put, List.setIfInBounds_toArray, List.set_cons_zero, List.set_cons_succ]
      refine q_w (v := ?_) (by rfl) ?_ ?_
      rotate_left
      · intro wx hSx
        obtain ⟨hcx, hfx, hzx⟩ := bcell hSx
        go_simp
        try (with_reducible rfl)
      try simp only [Act.put, List.setIfInBounds_toArray, List.set_cons_zero, List.set_cons_succ]
      refine q_w (v := ?_) (by rfl) ?_ ?_
      rotate_left
      · intro wx hSx
        obtain ⟨hcx, hfx, hzx⟩ := bcell hSx
        go_simp
        try (with_reducible rfl)
      try simp only [Act.put, List.setIfInBounds_toArray, List.set_cons_zero, List.set_cons_succ]
      refine q_c (by rfl) (fun wx hSx => keepE hSx (bhas_any v hv64 x _ HBX _)) (fun wx hSx => by go_simp <;> (repeat' (first | rfl | apply And.intro))) ?_
      try simp only [Act.put, List.setIfInBounds_toArray, List.set_cons_zero, List.set_cons_succ]
      refine q_w (v := ?_) (by rfl) ?_ ?_
      rotate_left
      · intro wx hSx
        obtain ⟨hcx, hfx, hzx⟩ := bcell hSx
        go_simp
        try (with_reducible rfl)
      try simp only [Act.put, List.setIfInBounds_toArray, List.set_cons_zero, List.set_cons_succ]
      refine q_w (v := ?_) (by rfl) ?_ ?_
      rotate_left
      · intro wx hSx
        obtain ⟨hcx, hfx, hzx⟩ := bcell hSx
        go_simp
        try (with_reducible rfl)
      try simp only [Act.put, List.setIfInBounds_toArray, List.set_cons_zero, List.set_cons_succ]
      refine q_w (v := ?_) (by rfl) ?_ ?_
      rotate_left
      · intro wx hSx
        obtain ⟨hcx, hfx, hzx⟩ := bcell hSx
        go_simp
        try (with_reducible rfl)
      try simp only [Act.put, List.setIfInBounds_toArray, List.set_cons_zero, List.set_cons_succ]
      refine q_w (v := ?_) (by rfl) ?_ ?_
      rotate_left
      · intro wx hSx
        obtain ⟨hcx, hfx, hzx⟩ := bcell hSx
        go_simp
        try (with_reducible rfl)
      try simp only [Act.put, List.setIfInBounds_toArray, List.set_cons_zero, List.set_cons_succ]
      refine q_w (v := ?_) (by rfl) ?_ ?_
      rotate_left
      · intro wx hSx
        obtain ⟨hcx, hfx, hzx⟩ := bcell hSx
        go_simp
        try (with_reducible rfl)
      try simp only [Act.put, List.setIfInBounds_toArray, List.set_cons_zero, List.set_cons_succ]
      refine q_w (v := ?_) (by rfl) ?_ ?_
      rotate_left
      · intro wx hSx
        obtain ⟨hcx, hfx, hzx⟩ := bcell hSx
        go_simp
        try (with_reducible rfl)
      try simp only [Act.put, List.setIfInBounds_toArray, List.set_cons_zero, List.set_cons_succ]
      refine q_w (v := ?_) (by rfl) ?_ ?_
      rotate_left
      · intro wx hSx
        obtain ⟨hcx, hfx, hzx⟩ := bcell hSx
        go_simp
        try (with_reducible rfl)
      try simp only [Act.put, List.setIfInBounds_toArray, List.set_cons_zero, List.set_cons_succ]
      refine q_c (by rfl) (fun wx hSx => keepE hSx (bhas_any v hv64 y _ HBY _)) (fun wx hSx => by go_simp <;> (repeat' (first | rfl | apply And.intro))) ?_
      try simp only [Act.put, List.setIfInBounds_toArray, List.set_cons_zero, List.set_cons_succ]
      refine q_w (v := ?_) (by rfl) ?_ ?_
      rotate_left
      · intro wx hSx
        obtain ⟨hcx, hfx, hzx⟩ := bcell hSx
        go_simp
        try (with_reducible rfl)
      try simp only [Act.put, List.setIfInBounds_toArray, List.set_cons_zero, List.set_cons_succ]
      refine q_w (v := ?_) (by rfl) ?_ ?_
      rotate_left
      · intro wx hSx
        obtain ⟨hcx, hfx, hzx⟩ := bcell hSx
        go_simp
        try (with_reducible rfl)
      try simp only [Act.put, List.setIfInBounds_toArray, List.set_cons_zero, List.set_cons_succ]
      refine q_nil (fun w2 hb2 => ?_)
      obtain ⟨hc2, hf2, hz2⟩ := bcell hb2
      go_wp2
      go_ret
      exact ⟨retB R.out.symm, hb.trans (hb2.mono hb.size)⟩
    rw [hbx] at hxB
    rw [hby] at hyB
    have hxB' := hxB.symm
    have hyB' := hyB.symm
    rw [Bool.and_eq_true] at hxB' hyB'
    have hxi : 0 ≤ x ∧ x ≤ (L : Int) + k := of_decide_eq_true hxB'.1
    have hyi : 0 ≤ y ∧ y ≤ (L : Int) + k := of_decide_eq_true hyB'.1
    have hj : jAt (L + 1) J k = true := jAt_iff.2 ⟨HL2.out, by rw [HX'.out]; omega, by rw [HX'.out, HY'.out]; omega, by rw [HX'.out]; simpa using hxB'.2, by rw [HY'.out]; simpa using hyB'.2⟩
    obtain ⟨X, rfl⟩ := Int.eq_ofNat_of_zero_le hxi.1
    obtain ⟨Y, rfl⟩ := Int.eq_ofNat_of_zero_le hyi.1
    obtain ⟨px, hpx⟩ : ∃ p, 2 ^ X = p := ⟨_, rfl⟩
    obtain ⟨py, hpy⟩ : ∃ p, 2 ^ Y = p := ⟨_, rfl⟩
    obtain ⟨pn, hpn⟩ : ∃ p, 2 ^ (L + 1 + k) = p := ⟨_, rfl⟩
    have hpx64 : px < 18446744073709551616 := by rw [← hpx]; exact pow_lt64 (by omega)
    have hpy64 : py < 18446744073709551616 := by rw [← hpy]; exact pow_lt64 (by omega)
    have hpn64 : pn < 18446744073709551616 := by rw [← hpn]; exact pow_lt64 (by omega)
    obtain ⟨bo, hbo, hbo64, hboT⟩ := bits_join px py hpx64 hpy64
    obtain ⟨v1, hv1, hv164, hv1T⟩ := bits_less v bo hv64 hbo64
    obtain ⟨v2, hv2, hv264, hv2T⟩ := bits_join v1 pn hv164 hpn64
    have HNX : Hid (FreeB (L + 1) J (k + 1) v2 ∧ jTo (L + 1) J (k + 1) = true) :=
      ⟨HFJ.out.1.step hj (fun m => by rw [hboT, HX'.out, HY'.out, Int.toNat_natCast, Int.toNat_natCast, hpx, hpy]) hv1T hv264 (fun m => by rw [hv2T, hpn]) (fun m hm => usd_out k HFJ.out.2 m (by omega)), by unfold jTo; rw [HFJ.out.2, hj]; rfl⟩
    have CX := Lib.hid (fun w => bitsetOf_int (X : Int) X px rfl (by omega) hpx w)
    have CY := Lib.hid (fun w => bitsetOf_int (Y : Int) Y py rfl (by omega) hpy w)
    have CN := Lib.hid (fun w => bitsetOf_int ((L : Int) + 1 + (k : Int)) (L + 1 + k) pn (by omega) (by omega) hpn w)
    have hyx2 : decide (Y ≤ X) = false := decide_eq_false (by have := of_decide_eq_false hyx; omega)
    have HBX := Lib.hid hbx
    have HBY := Lib.hid hby
    have hX0 : (0 : Int) ≤ (X : Int) := by omega
    have hY0 : (0 : Int) ≤ (Y : Int) := by omega
    have HO := Lib.hid hbo
    have H1 := Lib.hid hv1
    have H2 := Lib.hid hv2
    clear hbx hby hxB hyB hxB' hyB' hxi hyi hj hpx hpy hpn hboT hv1T hv2T hbo hv1 hv2 hpx64 hpy64 hpn64 hbo64 hv164 hv264 hxy
    go_wp2
    refine wp_region_quietA (by kernel_rfl) (by kernel_rfl) ?_
    refine q_w (v := ?_) (by rfl) ?_ ?_
    rotate_left
    · intro wx hSx
      obtain ⟨hcx, hfx, hzx⟩ := bcell hSx
      go_simp
      try (with_reducible rfl)
    try simp only [Act.put, List.setIfInBounds_toArray, List.set_cons_zero, List.set_cons_succ]
    refine q_w (v := ?_) (by rfl) ?_ ?_
    rotate_left
    · intro wx hSx
      obtain ⟨hcx, hfx, hzx⟩ := bcell hSx
      go_simp
      try (with_reducible rfl)
    try simp only [Act.put, List.setIfInBounds_toArray, List.set_cons_zero, List.set_cons_succ]
    refine q_w (v := ?_) (by rfl) ?_ ?_
    rotate_left
    · intro wx hSx
      obtain ⟨hcx, hfx, hzx⟩ := bcell hSx
      go_simp
      try (with_reducible rfl)
    try simp only [Act.put, List.setIfInBounds_toArray, List.set_cons_zero, List.set_cons_succ]
    refine q_w (v := ?_) (by rfl) ?_ ?_
    rotate_left
    · intro wx hSx
      obtain ⟨hcx, hfx, hzx⟩ := bcell hSx
      go_simp
      try (with_reducible rfl)
    try simp only [Act.put, List.setIfInBounds_toArray, List.set_cons_zero, List.set_cons_succ]
    refine q_w (v := ?_) (by rfl) ?_ ?_
    rotate_left
    · intro wx hSx
      obtain ⟨hcx, hfx, hzx⟩ := bcell hSx
      go_simp
      try (with_reducible rfl)
    try simp only [Act.put, List.setIfInBounds_toArray, List.set_cons_zero, List.set_cons_succ]
    refine q_w (v := ?_) (by rfl) ?_ ?_
    rotate_left
    · intro wx hSx
      obtain ⟨hcx, hfx, hzx⟩ := bcell hSx
      go_simp
      try (with_reducible rfl)
    try simp only [Act.put, List.setIfInBounds_toArray, List.set_cons_zero, List.set_cons_succ]
    refine q_w (v := ?_) (by rfl) ?_ ?_
    rotate_left
    · intro wx hSx
      obtain ⟨hcx, hfx, hzx⟩ := bcell hSx
      go_simp
      try (with_reducible rfl)
    try simp only [Act.put, List.setIfInBounds_toArray, List.set_cons_zero, List.set_cons_succ]
    refine q_w (v := ?_) (by rfl) ?_ ?_
    rotate_left
    · intro wx hSx
      obtain ⟨hcx, hfx, hzx⟩ := bcell hSx
      go_simp
      try (with_reducible rfl)
    try simp only [Act.put, List.setIfInBounds_toArray, List.set_cons_zero, List.set_cons_succ]
    refine q_w (v := ?_) (by rfl) ?_ ?_
    rotate_left
    · intro wx hSx
      obtain ⟨hcx, hfx, hzx⟩ := bcell hSx
      go_simp
      try (with_reducible rfl)
    try simp only [Act.put, List.setIfInBounds_toArray, List.set_cons_zero, List.set_cons_succ]
    refine q_w (v := ?_) (by rfl) ?_ ?_
    rotate_left
    · intro wx hSx
      obtain ⟨hcx, hfx, hzx⟩ := bcell hSx
      go_simp
      try (with_reducible rfl)
    try simp only [Act.put, List.setIfInBounds_toArray, List.set_cons_zero, List.set_cons_succ]
    refine q_w (v := ?_) (by rfl) ?_ ?_
    rotate_left
    · intro wx hSx
      obtain ⟨hcx, hfx, hzx⟩ := bcell hSx
      go_simp
      try (with_reducible rfl)
    try simp only [Act.put, List.setIfInBounds_toArray, List.set_cons_zero, List.set_cons_succ]
    refine q_w (v := ?_) (by rfl) ?_ ?_
    rotate_left
    · intro wx hSx
      obtain ⟨hcx, hfx, hzx⟩ := bcell hSx
      go_simp
      try (with_reducible rfl)
    try simp only [Act.put, List.setIfInBounds_toArray, List.set_cons_zero, List.set_cons_succ]
    refine q_w (v := ?_) (by rfl) ?_ ?_
    rotate_left
    · intro wx hSx
      obtain ⟨hcx, hfx, hzx⟩ := bcell hSx
      go_simp
      try (with_reducible rfl)
    try simp only [Act.put, List.setIfInBounds_toArray, List.set_cons_zero, List.set_cons_succ]
    refine q_w (v := ?_) (by rfl) ?_ ?_
    rotate_left
    · intro wx hSx
      obtain ⟨hcx, hfx, hzx⟩ := bcell hSx
      go_simp
      try (with_reducible rfl)
    try simp only [Act.put, List.setIfInBounds_toArray, List.set_cons_zero, List.set_cons_succ]
    refine q_w (v := ?_) (by rfl) ?_ ?_
    rotate_left
    · intro wx hSx
      obtain ⟨hcx, hfx, hzx⟩ := bcell hSx
      go_simp
      try (with_reducible rfl)
    try simp only [Act.put, List.setIfInBounds_toArray, List.set_cons_zero, List.set_cons_succ]
    refine q_w (v := ?_) (by rfl) ?_ ?_
    rotate_left
    · intro wx hSx
      obtain ⟨hcx, hfx, hzx⟩ := bcell hSx
      go_simp
      try (with_reducible rfl)
    try simp only [Act.put, List.setIfInBounds_toArray, List.set_cons_zero, List.set_cons_succ]
    refine q_w (v := ?_) (by rfl) ?_ ?_
    rotate_left
    · intro wx hSx
      obtain ⟨hcx, hfx, hzx⟩ := bcell hSx
      go_simp
      try (with_reducible rfl)
    try simp only [Act.put, List.setIfInBounds_toArray, List.set_cons_zero, List.set_cons_succ]
    refine q_c (by rfl) (fun wx hSx => keepE hSx (bhas_any v hv64 (X : Int) _ HBX _)) (fun wx hSx => by go_simp <;> (repeat' (first | rfl | apply And.intro))) ?_
    try simp only [Act.put, List.setIfInBounds_toArray, List.set_cons_zero, List.set_cons_succ]
    refine q_w (v := ?_) (by rfl) ?_ ?_
    rotate_left
    · intro wx hSx
      obtain ⟨hcx, hfx, hzx⟩ := bcell hSx
      go_simp
      try (with_reducible rfl)
    try simp only [Act.put, List.setIfInBounds_toArray, List.set_cons_zero, List.set_cons_succ]
    refine q_w (v := ?_) (by rfl) ?_ ?_
    rotate_left
    · intro wx hSx
      obtain ⟨hcx, hfx, hzx⟩ := bcell hSx
      go_simp
      try (with_reducible rfl)
    try simp only [Act.put, List.setIfInBounds_toArray, List.set_cons_zero, List.set_cons_succ]
    refine q_w (v := ?_) (by rfl) ?_ ?_
    rotate_left
    · intro wx hSx
      obtain ⟨hcx, hfx, hzx⟩ := bcell hSx
      go_simp
      try (with_reducible rfl)
    try simp only [Act.put, List.setIfInBounds_toArray, List.set_cons_zero, List.set_cons_succ]
    refine q_w (v := ?_) (by rfl) ?_ ?_
    rotate_left
    · intro wx hSx
      obtain ⟨hcx, hfx, hzx⟩ := bcell hSx
      go_simp
      try (with_reducible rfl)
    try simp only [Act.put, List.setIfInBounds_toArray, List.set_cons_zero, List.set_cons_succ]
    refine q_w (v := ?_) (by rfl) ?_ ?_
    rotate_left
    · intro wx hSx
      obtain ⟨hcx, hfx, hzx⟩ := bcell hSx
      go_simp
      try (with_reducible rfl)
    try simp only [Act.put, List.setIfInBounds_toArray, List.set_cons_zero, List.set_cons_succ]
    refine q_w (v := ?_) (by rfl) ?_ ?_
    rotate_left
    · intro wx hSx
      obtain ⟨hcx, hfx, hzx⟩ := bcell hSx
      go_simp
      try (with_reducible rfl)
    try simp only [Act.put, List.setIfInBounds_toArray, List.set_cons_zero, List.set_cons_succ]
    refine q_w (v := ?_) (by rfl) ?_ ?_
    rotate_left
    · intro wx hSx
      obtain ⟨hcx, hfx, hzx⟩ := bcell hSx
      go_simp
      try (with_reducible rfl)
    try simp only [Act.put, List.setIfInBounds_toArray, List.set_cons_zero, List.set_cons_succ]
    refine q_c (by rfl) (fun wx hSx => keepE hSx (bhas_any v hv64 (Y : Int) _ HBY _)) (fun wx hSx => by go_simp <;> (repeat' (first | rfl | apply And.intro))) ?_
    try simp only [Act.put, List.setIfInBounds_toArray, List.set_cons_zero, List.set_cons_succ]
    refine q_w (v := ?_) (by rfl) ?_ ?_
    rotate_left
    · intro wx hSx
      obtain ⟨hcx, hfx, hzx⟩ := bcell hSx
      go_simp
      try (with_reducible rfl)
    try simp only [Act.put, List.setIfInBounds_toArray, List.set_cons_zero, List.set_cons_succ]
    refine q_w (v := ?_) (by rfl) ?_ ?_
    rotate_left
    · intro wx hSx
      obtain ⟨hcx, hfx, hzx⟩ := bcell hSx
      go_simp
      try (with_reducible rfl)
    try simp only [Act.put, List.setIfInBounds_toArray, List.set_cons_zero, List.set_cons_succ]
    refine q_nil (fun w2 hb2 => ?_)
    obtain ⟨hc2, hf2, hz2⟩ := bcell hb2
    have hz1b : b < w2.heap.size := by omega
    have hz1k : bk < w2.heap.size := by omega
    have bb := hb.trans (hb2.mono hb.size)
    have hbo := HO.out
    have hv1 := H1.out
    have hv2 := H2.out
    have e02 := (hb2.cell (p := ⟨bk, ok, none⟩) hbk').trans e0
    have e12 := (hb2.cell (p := ⟨bk, ok + 1, none⟩) hbk').trans e1
    have bz := bb.size
    clear hb2 e0 e1 hc2 hf2 hz2
    go_wp2
    refine wp_region_quietA (by kernel_rfl) (by kernel_rfl) ?_
    refine q_w (v := ?_) (by rfl) ?_ ?_
    rotate_left
    · intro wx hSx
      obtain ⟨hcx, hfx, hzx⟩ := bcell hSx
      go_simp
      try (with_reducible rfl)
    try simp only [Act.put, List.setIfInBounds_toArray, List.set_cons_zero, List.set_cons_succ]
    refine q_w (v := ?_) (by rfl) ?_ ?_
    rotate_left
    · intro wx hSx
      obtain ⟨hcx, hfx, hzx⟩ := bcell hSx
      go_simp
      try (with_reducible rfl)
    try simp only [Act.put, List.setIfInBounds_toArray, List.set_cons_zero, List.set_cons_succ]
    refine q_w (v := ?_) (by rfl) ?_ ?_
    rotate_left
    · intro wx hSx
      obtain ⟨hcx, hfx, hzx⟩ := bcell hSx
      go_simp
      try (with_reducible rfl)
    try simp only [Act.put, List.setIfInBounds_toArray, List.set_cons_zero, List.set_cons_succ]
    refine q_w (v := ?_) (by rfl) ?_ ?_
    rotate_left
    · intro wx hSx
      obtain ⟨hcx, hfx, hzx⟩ := bcell hSx
      go_simp
      try (with_reducible rfl)
    try simp only [Act.put, List.setIfInBounds_toArray, List.set_cons_zero, List.set_cons_succ]
    refine q_c (by rfl) (fun wx hSx => keepE hSx (CX.out _)) (fun wx hSx => by go_simp <;> (repeat' (first | rfl | apply And.intro))) ?_
    try simp only [Act.put, List.setIfInBounds_toArray, List.set_cons_zero, List.set_cons_succ]
    refine q_w (v := ?_) (by rfl) ?_ ?_
    rotate_left
    · intro wx hSx
      obtain ⟨hcx, hfx, hzx⟩ := bcell hSx
      go_simp
      try (with_reducible rfl)
    try simp only [Act.put, List.setIfInBounds_toArray, List.set_cons_zero, List.set_cons_succ]
    refine q_w (v := ?_) (by rfl) ?_ ?_
    rotate_left
    · intro wx hSx
      obtain ⟨hcx, hfx, hzx⟩ := bcell hSx
      go_simp
      try (with_reducible rfl)
    try simp only [Act.put, List.setIfInBounds_toArray, List.set_cons_zero, List.set_cons_succ]
    refine q_w (v := ?_) (by rfl) ?_ ?_
    rotate_left
    · intro wx hSx
      obtain ⟨hcx, hfx, hzx⟩ := bcell hSx
      go_simp
      try (with_reducible rfl)
    try simp only [Act.put, List.setIfInBounds_toArray, List.set_cons_zero, List.set_cons_succ]
    refine q_c (by rfl) (fun wx hSx => keepE hSx (CY.out _)) (fun wx hSx => by go_simp <;> (repeat' (first | rfl | apply And.intro))) ?_
    try simp only [Act.put, List.setIfInBounds_toArray, List.set_cons_zero, List.set_cons_succ]
    refine q_w (v := ?_) (by rfl) ?_ ?_
    rotate_left
    · intro wx hSx
      obtain ⟨hcx, hfx, hzx⟩ := bcell hSx
      go_simp
      try (with_reducible rfl)
    try simp only [Act.put, List.setIfInBounds_toArray, List.set_cons_zero, List.set_cons_succ]
    refine q_w (v := ?_) (by rfl) ?_ ?_
    rotate_left
    · intro wx hSx
      obtain ⟨hcx, hfx, hzx⟩ := bcell hSx
      go_simp
      try (with_reducible rfl)
    try simp only [Act.put, List.setIfInBounds_toArray, List.set_cons_zero, List.set_cons_succ]
    refine q_w (v := ?_) (by rfl) ?_ ?_
    rotate_left
    · intro wx hSx
      obtain ⟨hcx, hfx, hzx⟩ := bcell hSx
      go_simp
      try (with_reducible rfl)
    try simp only [Act.put, List.setIfInBounds_toArray, List.set_cons_zero, List.set_cons_succ]
    refine q_nil (fun w3 hb3 => ?_)
    have bb3 := bb.trans (hb3.mono bb.size)
    clear hb3
    go_wp2_with fail
    refine (CN.out _).mono ?_
    rintro e w5 ⟨rfl, rfl⟩
    go_wp2
    go_roundw
    case rel => exact ⟨k + 1, v2, by omega, by go_num, by first | rfl | (rw [hv2]), HNX, bb3⟩
    case measure => simp [intOf]; omega
end Go.Proofs.Ytijnjcamfbnmgaa
