/-
  A slice of slices of numbers of the call's own, appended to; two of them in a struct variable.
-/
import Derived.Test.YtijnjcamfbnmgaaOwnJ
import Derived.Test.YtijnjcamfbnmgaaIS
import Derived.Test.YtijnjcamfbnmgaaPan
namespace Go.Proofs.Ytijnjcamfbnmgaa
set_option linter.unusedSimpArgs false
set_option linter.unusedVariables false
open Go.ChangeShapes Go.WideShapes Go.ChangeAt Go.RowKit

def slV (z : SlI) : Value := .slice z.1 z.2.1.length z.2.2
/-- A slice of the call's own holds these slices. -/
def OwnSS (w : World) (base : Nat) (v : Value) (Ms : List SlI) : Prop := w.ownsRow base 38 1 v Ms.length (Ms.map slV)
theorem OwnSS.snoc {w : World} {base : Nat} {v : Value} {Ms : List SlI} {z : SlI} (h : w.ownsRow base 38 1 v (Ms.length + 1) (Ms.map slV ++ [slV z])) : OwnSS w base v (Ms ++ [z]) := by
  unfold OwnSS; rw [List.map_append]; simpa using h
theorem OwnSS.empty (w : World) (base : Nat) (hB : base ≤ w.heap.size) : OwnSS (w.alloc (.cells #[] 38)) base (.slice (some ⟨w.heap.size, 0, none⟩) 0 0) [] :=
  ⟨rfl, .inr ⟨w.heap.size, 0, #[], rfl, hB, heap_alloc_new w _, Nat.le_refl _, Nat.zero_le _, rfl, rfl⟩⟩
theorem OwnSS.lt {w : World} {B : Nat} {v : Value} {L : List SlI} (h : OwnSS w B v L) {i : Nat} (e : v.ownBlock = some i) : i < w.heap.size := by
  rcases h.2 with ⟨rfl, _⟩ | ⟨g, cap, cur, rfl, hB, hh, _⟩
  · simp [Value.ownBlock] at e
  · simp [Value.ownBlock] at e
    subst e
    rcases Nat.lt_or_ge g w.heap.size with hlt | hge
    · exact hlt
    · rw [Array.getElem?_eq_none hge] at hh; cases hh
theorem OwnSS.keep {w w' : World} {B : Nat} {v : Value} {L : List SlI} (h : OwnSS w B v L) (hk : ∀ i, v.ownBlock = some i → w'.heap[i]? = w.heap[i]?) : OwnSS w' B v L := by
  refine ⟨h.1, ?_⟩
  rcases h.2 with h0 | ⟨g, cap, cur, rfl, hB, hh, r⟩
  · exact .inl h0
  · exact .inr ⟨g, cap, cur, rfl, hB, (hk g (by simp [Value.ownBlock])).trans hh, r⟩
theorem OwnSS.to {w w1 : World} {base : Nat} {v : Value} {L : List SlI} (h : OwnSS w base v L) (hb : Below w.heap.size w w1) : OwnSS w1 base v L := h.keep fun i e => hb.block i (h.lt e)
theorem OwnSS.outer {w : World} {B : Nat} {v : Value} {Ms : List SlI} (h : OwnSS w B v Ms) : ∃ A c, v = .slice A Ms.length c ∧ (0 < Ms.length → ∃ g, A = some ⟨g, 0, none⟩ ∧ g < w.heap.size ∧ ∀ i, i < Ms.length → w.cell? ⟨g, i, none⟩ = some (slV (Ms.getD i si0))) := by
  have hlt := fun i e => h.lt (i := i) e
  rcases h.2 with ⟨rfl, h0⟩ | ⟨g, cap, cur, rfl, hB, hh, hn, _, hs, ht⟩
  · exact ⟨none, 0, by rw [h0], fun h1 => by omega⟩
  · refine ⟨_, _, rfl, fun _ => ⟨g, rfl, hlt g (by simp [Value.ownBlock]), fun i hi => ?_⟩⟩
    rw [cell_of_row w g _ cur _ _ hh]
    have key : cur[i]? = (Ms.map slV)[i]? := by
      rw [← ht, List.getElem?_take, if_pos (by omega), Array.getElem?_toList]
    rw [key, List.getElem?_map, List.getD_eq_getElem?_getD, List.getElem?_eq_getElem hi]; rfl
theorem append_ss {ops : Array Oper} {rest : List Oper} {o : Oper} {a : Act} {Q : Exit → Act → World → Prop} (hgd : o.guard = none) (s x : Operand)
    (ho : o.op = .call { callee := .builtin .append, args := #[s, x], argTypes := #[23, 23] }) (w : World) (base : Nat) (v : Value) (L : List SlI) (z : SlI)
    (hs : a.eval s = v) (hown : OwnSS w base v L) (B0 : Nat) (hB0 : B0 = w.heap.size) (hx : a.eval x = .slice (some ⟨B0, 0, none⟩) 1 1) (hL : L.length ≤ 1000000) (hbase : base ≤ w.heap.size)
    (h : ∀ v' w', OwnSS w' base v' (L ++ [z]) → (∀ a0, Below base a0 w → Below base a0 w') → (∀ i, i < w.heap.size → v.ownBlock ≠ some i → w'.heap[i]? = w.heap[i]?) → (v'.ownBlock = v.ownBlock ∨ ∃ g, v'.ownBlock = some g ∧ w.heap.size ≤ g) → w.heap.size ≤ w'.heap.size → wpList Try.prog ops Q rest (a.put o.dst v') w') :
    wpList Try.prog ops Q (o :: rest) a (w.alloc (.cells #[.slice z.1 z.2.1.length z.2.2] 38)) := by
  subst hB0
  obtain ⟨i0, hi0, hz0, hz1, hz2⟩ := info_parts infoZI
  have hown' : (w.alloc (.cells #[slV z] 38)).ownsRow base 38 1 v L.length (L.map slV) := World.ownsRow.alloc hown _
  refine wpList_append_own_at _ hgd s x _ ho base 38 i0 _ 1 24 Try.underlying23 hi0 hz0 hz1 hz2 rfl (by decide) v L.length (L.map slV) hs hown' ⟨w.heap.size, 0, none⟩ 1 1 [slV z] hx rfl ?_ ?_ ?_ ?_ ?_ ?_
  · intro j u hu
    rcases j with _ | j
    · simp at hu; subst hu; simp [Addr.add, slV]
    · simp at hu
  · intro u hu
    simp at hu
    subst hu; rfl
  · unfold maxLen; omega
  · omega
  · simp; omega
  · intro v' w' h1 h2 _ h5
    refine h v' w' (OwnSS.snoc h1) (fun a0 hb => Below.grown (hb.alloc hbase _) h2 (by simp; omega) fun k hk => (hown'.lt k hk).1) (fun i hi hne => ?_) ?_ ?_
    · have := h2.block i (by simp; omega) (Ne.symm hne)
      rw [this, World.alloc]
      simp [Array.getElem?_push, Nat.ne_of_lt hi]
    · rcases h5 with h5 | h5
      · exact .inl h5
      · exact .inr ⟨_, h5, by simp⟩
    · have := h2.size
      simp at this; omega
/-- A row that lies apart from two slices and a block. -/
structure RowW (W : World) (z : SlI) (vA vU : Value) (G : Nat) : Prop where
  nums : IntsAt W W.heap.size z.1 z.2.1
  off : ∀ b o, z.1 = some ⟨b, o, none⟩ → vA.ownBlock ≠ some b ∧ vU.ownBlock ≠ some b ∧ G < b ∧ b < W.heap.size
  cap1 : z.2.1.length ≤ z.2.2
  cap2 : z.2.2 ≤ maxLen
theorem RowW.swap {W : World} {z : SlI} {vA vU : Value} {G : Nat} (h : RowW W z vA vU G) : RowW W z vU vA G := ⟨h.nums, fun b o e => by obtain ⟨h1, h2, h3, h4⟩ := h.off b o e; exact ⟨h2, h1, h3, h4⟩, h.cap1, h.cap2⟩
theorem RowW.to {W W1 : World} {z : SlI} {vA vU : Value} {G : Nat} (h : RowW W z vA vU G) (hb : Below W.heap.size W W1) : RowW W1 z vA vU G :=
  ⟨h.nums.to hb, fun b o e => by obtain ⟨h1, h2, h3, h4⟩ := h.off b o e; exact ⟨h1, h2, h3, Nat.lt_of_lt_of_le h4 hb.size⟩, h.cap1, h.cap2⟩
/-- What an append to the first one and its store leave of a row. -/
theorem RowW.next {W w' : World} {z : SlI} {vA vU v' : Value} {G o : Nat} (h : RowW W z vA vU G) (hk : ∀ i, i < W.heap.size → vA.ownBlock ≠ some i → w'.heap[i]? = W.heap[i]?) (hob : v'.ownBlock = vA.ownBlock ∨ ∃ g, v'.ownBlock = some g ∧ W.heap.size ≤ g) (hz : W.heap.size ≤ w'.heap.size) :
    RowW (w'.setCell ⟨G, o, none⟩ v') z v' vU G := by
  have hs : (w'.setCell ⟨G, o, none⟩ v').heap.size = w'.heap.size := by simp [World.setCell]
  refine ⟨fun h0 => ?_, fun b o2 e => ?_, h.cap1, h.cap2⟩
  · obtain ⟨b, o2, e, hb, hc⟩ := h.nums h0
    obtain ⟨h1, h2, h3, h4⟩ := h.off b o2 e
    refine ⟨b, o2, e, by rw [hs]; omega, fun i hi => ?_⟩
    have hh : (w'.setCell ⟨G, o, none⟩ v').heap[b]? = W.heap[b]? := (Below.heap_setCell _ _ _ _ (by dsimp only; omega)).trans (hk b h4 h1)
    exact (World.cell?_of_block (a := ⟨b, o2 + i, none⟩) hh).trans (hc i hi)
  · obtain ⟨h1, h2, h3, h4⟩ := h.off b o2 e
    refine ⟨fun k => ?_, h2, h3, by rw [hs]; omega⟩
    rcases hob with hob | ⟨g, hg, hgz⟩
    · exact h1 (hob ▸ k)
    · rw [hg] at k; injection k with k; omega
/-- Two slices of rows, in a struct variable in block G. -/
structure SpG (W : World) (base G : Nat) (vA vU : Value) (Ms Us : List SlI) : Prop where
  kg : Blk W G #[vA, vU] 53
  oa : OwnSS W base vA Ms
  ou : OwnSS W base vU Us
  au : ApartV vA vU
  ga : vA.ownBlock ≠ some G
  gu : vU.ownBlock ≠ some G
  rm : ∀ z, z ∈ Ms → RowW W z vA vU G
  ru : ∀ z, z ∈ Us → RowW W z vA vU G
theorem SpG.to {W W1 : World} {base G : Nat} {vA vU : Value} {Ms Us : List SlI} (h : SpG W base G vA vU Ms Us) (hb : Below W.heap.size W W1) : SpG W1 base G vA vU Ms Us :=
  ⟨h.kg.to hb, h.oa.to hb, h.ou.to hb, h.au, h.ga, h.gu, fun z hz => (h.rm z hz).to hb, fun z hz => (h.ru z hz).to hb⟩
theorem blk_none {v v' : Value} {W : World} {b : Nat} (h : v.ownBlock ≠ some b) (hb : b < W.heap.size) (hob : v'.ownBlock = v.ownBlock ∨ ∃ g, v'.ownBlock = some g ∧ W.heap.size ≤ g) : v'.ownBlock ≠ some b := fun k => by
  rcases hob with hob | ⟨g, hg, hgz⟩
  · exact h (hob ▸ k)
  · rw [hg] at k; injection k with k; omega
theorem SpG.app_a {W w' : World} {base G : Nat} {vA vU v' : Value} {Ms Us : List SlI} {z : SlI} (h : SpG W base G vA vU Ms Us) (hz : RowW W z vA vU G) (ho : OwnSS w' base v' (Ms ++ [z])) (hk : ∀ i, i < W.heap.size → vA.ownBlock ≠ some i → w'.heap[i]? = W.heap[i]?) (hob : v'.ownBlock = vA.ownBlock ∨ ∃ g, v'.ownBlock = some g ∧ W.heap.size ≤ g) (hsz : W.heap.size ≤ w'.heap.size) :
    SpG (w'.setCell ⟨G, 0, none⟩ v') base G v' vU (Ms ++ [z]) Us := by
  have hgl := h.kg.lt
  have hga' := blk_none h.ga hgl hob
  refine ⟨?_, ?_, ?_, fun i e => ?_, hga', h.gu, fun x hx => ?_, fun x hx => (h.ru x hx).next hk hob hsz⟩
  · have := (h.kg.keep (hk G hgl h.ga)).set 0 v'
    simpa using this
  · exact ho.keep fun i e => Below.heap_setCell _ _ _ _ (fun e2 => hga' (by rw [e]; exact congrArg some e2))
  · exact h.ou.keep fun i e => (Below.heap_setCell _ _ _ _ (fun e2 => h.gu (by rw [e]; exact congrArg some e2))).trans (hk i (h.ou.lt e) (fun k => h.au i k e))
  · rcases hob with hob | ⟨g, hg, hgz⟩
    · exact h.au i (hob ▸ e)
    · intro k
      rw [hg] at e; injection e with e
      have := h.ou.lt k
      omega
  · rcases List.mem_append.1 hx with hx | hx
    · exact (h.rm x hx).next hk hob hsz
    · obtain rfl : x = z := by simpa using hx
      exact hz.next hk hob hsz
theorem SpG.app_u {W w' : World} {base G : Nat} {vA vU v' : Value} {Ms Us : List SlI} {z : SlI} (h : SpG W base G vA vU Ms Us) (hz : RowW W z vA vU G) (ho : OwnSS w' base v' (Us ++ [z])) (hk : ∀ i, i < W.heap.size → vU.ownBlock ≠ some i → w'.heap[i]? = W.heap[i]?) (hob : v'.ownBlock = vU.ownBlock ∨ ∃ g, v'.ownBlock = some g ∧ W.heap.size ≤ g) (hsz : W.heap.size ≤ w'.heap.size) :
    SpG (w'.setCell ⟨G, 1, none⟩ v') base G vA v' Ms (Us ++ [z]) := by
  have hgl := h.kg.lt
  have hgu' := blk_none h.gu hgl hob
  refine ⟨?_, ?_, ?_, fun i e k => ?_, h.ga, hgu', fun x hx => ((h.rm x hx).swap.next hk hob hsz).swap, fun x hx => ?_⟩
  · have := (h.kg.keep (hk G hgl h.gu)).set 1 v'
    simpa using this
  · exact h.oa.keep fun i e => (Below.heap_setCell _ _ _ _ (fun e2 => h.ga (by rw [e]; exact congrArg some e2))).trans (hk i (h.oa.lt e) (fun k => h.au i e k))
  · exact ho.keep fun i e => Below.heap_setCell _ _ _ _ (fun e2 => hgu' (by rw [e]; exact congrArg some e2))
  · rcases hob with hob | ⟨g, hg, hgz⟩
    · exact h.au i e (hob ▸ k)
    · rw [hg] at k; injection k with k
      have := h.oa.lt e
      omega
  · rcases List.mem_append.1 hx with hx | hx
    · exact ((h.ru x hx).swap.next hk hob hsz).swap
    · obtain rfl : x = z := by simpa using hx
      exact (hz.swap.next hk hob hsz).swap
theorem OwnSS.ge {w : World} {B : Nat} {v : Value} {L : List SlI} (h : OwnSS w B v L) {i : Nat} (e : v.ownBlock = some i) : B ≤ i := by
  rcases h.2 with ⟨rfl, _⟩ | ⟨g, cap, cur, rfl, hB, hh, _⟩
  · simp [Value.ownBlock] at e
  · simp [Value.ownBlock] at e
    omega
theorem SpG.low {W : World} {base G : Nat} {vA vU : Value} {Ms Us : List SlI} (h : SpG W base G vA vU Ms Us) {p : Addr} (h1 : p.block < base) (h2 : p.block < G) (v : Value) : SpG (W.setCell p v) base G vA vU Ms Us := by
  have hs : (W.setCell p v).heap.size = W.heap.size := by simp [World.setCell]
  have hrow : ∀ z, RowW W z vA vU G → RowW (W.setCell p v) z vA vU G := fun z hz => ⟨fun h0 => by
    obtain ⟨b, o2, e, hb, hc⟩ := hz.nums h0
    obtain ⟨_, _, h3, _⟩ := hz.off b o2 e
    exact ⟨b, o2, e, by rw [hs]; exact hb, fun i hi => (World.cell?_of_block (a := ⟨b, o2 + i, none⟩) (Below.heap_setCell _ _ _ _ (by dsimp only; omega))).trans (hc i hi)⟩, fun b o e => by rw [hs]; exact hz.off b o e, hz.cap1, hz.cap2⟩
  exact ⟨h.kg.far (by omega) _, h.oa.keep fun i e => Below.heap_setCell _ _ _ _ (by have := h.oa.ge e; omega), h.ou.keep fun i e => Below.heap_setCell _ _ _ _ (by have := h.ou.ge e; omega), h.au, h.ga, h.gu, fun z hz => hrow z (h.rm z hz), fun z hz => hrow z (h.ru z hz)⟩
/-- What is read of them. -/
theorem SpG.isat_a {W : World} {base G : Nat} {vA vU : Value} {Ms Us : List SlI} (h : SpG W base G vA vU Ms Us) : ∃ A c, vA = .slice A Ms.length c ∧ ISAt W W.heap.size A Ms := by
  obtain ⟨A, c, e, ho⟩ := h.oa.outer
  refine ⟨A, c, e, fun h0 => ?_⟩
  obtain ⟨g, eg, hg, hc⟩ := ho h0
  refine ⟨g, 0, eg, hg, fun i hi => ?_⟩
  have hr := h.rm (Ms.getD i si0) (by rw [List.getD_eq_getElem?_getD, List.getElem?_eq_getElem hi]; exact List.getElem_mem hi)
  exact ⟨by rw [Nat.zero_add]; exact hc i hi, hr.nums, hr.cap1, hr.cap2⟩
theorem SpG.isat_u {W : World} {base G : Nat} {vA vU : Value} {Ms Us : List SlI} (h : SpG W base G vA vU Ms Us) : ∃ A c, vU = .slice A Us.length c ∧ ISAt W W.heap.size A Us := by
  obtain ⟨A, c, e, ho⟩ := h.ou.outer
  refine ⟨A, c, e, fun h0 => ?_⟩
  obtain ⟨g, eg, hg, hc⟩ := ho h0
  refine ⟨g, 0, eg, hg, fun i hi => ?_⟩
  have hr := h.ru (Us.getD i si0) (by rw [List.getD_eq_getElem?_getD, List.getElem?_eq_getElem hi]; exact List.getElem_mem hi)
  exact ⟨by rw [Nat.zero_add]; exact hc i hi, hr.nums, hr.cap1, hr.cap2⟩
/-- All of it lies from N on. -/
def AbvI (N : Nat) (A : Option Addr) (Ls : List SlI) : Prop := (∀ b o, A = some ⟨b, o, none⟩ → N ≤ b) ∧ ∀ i, i < Ls.length → ∀ b o, (Ls.getD i si0).1 = some ⟨b, o, none⟩ → N ≤ b
theorem AbvI.mono {N N' : Nat} {A : Option Addr} {Ls : List SlI} (h : AbvI N A Ls) (hN : N' ≤ N) : AbvI N' A Ls := ⟨fun b o e => Nat.le_trans hN (h.1 b o e), fun i hi b o e => Nat.le_trans hN (h.2 i hi b o e)⟩
theorem SpG.abv_a {W : World} {base G n c : Nat} {A : Option Addr} {vU : Value} {Ms Us : List SlI} (h : SpG W base G (.slice A n c) vU Ms Us) (hG : base ≤ G) : AbvI base A Ms :=
  ⟨fun b o e => h.oa.ge (by rw [e]; rfl), fun i hi b o e => by
    have hr := h.rm (Ms.getD i si0) (by rw [List.getD_eq_getElem?_getD, List.getElem?_eq_getElem hi]; exact List.getElem_mem hi)
    obtain ⟨_, _, h3, _⟩ := hr.off b o e
    omega⟩
theorem SpG.abv_u {W : World} {base G n c : Nat} {A : Option Addr} {vA : Value} {Ms Us : List SlI} (h : SpG W base G vA (.slice A n c) Ms Us) (hG : base ≤ G) : AbvI base A Us :=
  ⟨fun b o e => h.ou.ge (by rw [e]; rfl), fun i hi b o e => by
    have hr := h.ru (Us.getD i si0) (by rw [List.getD_eq_getElem?_getD, List.getElem?_eq_getElem hi]; exact List.getElem_mem hi)
    obtain ⟨_, _, h3, _⟩ := hr.off b o e
    omega⟩
theorem ISAt.low {W : World} {B N : Nat} {A : Option Addr} {Ls : List SlI} (h : ISAt W B A Ls) (ha : AbvI N A Ls) {p : Addr} (hp : p.block < N) (v : Value) : ISAt (W.setCell p v) B A Ls := fun h0 => by
  obtain ⟨b, off, e, hb, hc⟩ := h h0
  have hbN := ha.1 b off e
  refine ⟨b, off, e, hb, fun i hi => ?_⟩
  obtain ⟨c1, c2, c3, c4⟩ := hc i hi
  refine ⟨(World.cell?_of_block (a := ⟨b, off + i, none⟩) (Below.heap_setCell _ _ _ _ (by dsimp only; omega))).trans c1, fun h1 => ?_, c3, c4⟩
  obtain ⟨b2, o2, e2, hb2, hc2⟩ := c2 h1
  have := ha.2 i hi b2 o2 e2
  exact ⟨b2, o2, e2, hb2, fun j hj => (World.cell?_of_block (a := ⟨b2, o2 + j, none⟩) (Below.heap_setCell _ _ _ _ (by dsimp only; omega))).trans (hc2 j hj)⟩
/-- A slice of numbers that was made from S on is such a row. -/
theorem OwnI.rowW {W : World} {S : Nat} {v : Value} {L : List Int} {vA vU : Value} {G : Nat} (h : OwnI W S v L) (hA : ∀ i, vA.ownBlock = some i → i < S) (hU : ∀ i, vU.ownBlock = some i → i < S) (hG : G < S) : ∃ A c, v = .slice A L.length c ∧ RowW W (A, L, c) vA vU G := by
  have hlt := fun i e => h.lt (i := i) e
  obtain ⟨A, c, e, hI, hc⟩ := h.ints
  refine ⟨A, c, e, hI, fun b o eb => ?_, hc, ?_⟩
  · rcases h.2 with ⟨e2, _⟩ | ⟨g, cap, cur, e2, hB, _⟩
    · rw [e] at e2; injection e2 with e2; dsimp only at eb; rw [e2] at eb; cases eb
    · have e3 := e2
      rw [e] at e2; injection e2 with e2
      dsimp only at eb
      rw [e2] at eb; injection eb with eb; injection eb with eb
      subst eb
      exact ⟨fun k => by have := hA g k; omega, fun k => by have := hU g k; omega, by omega, hlt g (by rw [e3]; simp [Value.ownBlock])⟩
  · rcases h.2 with ⟨e2, _⟩ | ⟨g, cap, cur, e2, _, _, _, hm, _⟩
    · rw [e] at e2; injection e2 with _ _ e2; dsimp only; unfold maxLen; omega
    · rw [e] at e2; injection e2 with _ _ e2; dsimp only; omega
end Go.Proofs.Ytijnjcamfbnmgaa
