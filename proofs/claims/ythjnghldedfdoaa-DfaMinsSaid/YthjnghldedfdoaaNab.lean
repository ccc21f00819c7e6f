/- Lemmas of the proofs of this seat, of the parts Rwsm, Reachp, Dstp, Bisp, Dstq, Cmpw, Dsto, Gsr, Reachm, Boxd, Ddis, Dbol, OwnX. Conditions: none. -/
import Derived.Test.YthjnghldedfdoaaNaa
import Derived.Test.YthjnghldedfdoaaProg
import Derived.WalkSpells
import Derived.WalkLawsBesides
import Derived.Outline
import Derived.Deep.QuietTactic
import Derived.BigQuiet
import Derived.Deep.RegionLaw
import Derived.Maps.AppendAt
section
/- Rows of structs: each element some cells. -/
namespace Go.Proofs.Ythjnghldedfdoaa
open Go.RowKit

/-- The slice value v is a row of elements of s cells each, of type e, which the call owns. -/
def Rws (w : World) (base : Nat) (e : TypeId) (s : Nat) (v : Value) (L : List (List Value)) : Prop := (∀ l, l ∈ L → l.length = s) ∧ w.ownsRow base e s v L.length L.flatten
theorem flat_at {s : Nat} : ∀ {L : List (List Value)}, (∀ l, l ∈ L → l.length = s) → ∀ {k r : Nat}, r < s → k < L.length → L.flatten[k * s + r]? = (L.getD k [])[r]?
  | [], _, k, r, _, h => absurd h (by simp)
  | l :: L, hl, 0, r, hr, _ => by
    have h1 := hl l (List.mem_cons_self ..)
    rw [List.flatten_cons, Nat.zero_mul, Nat.zero_add, List.getElem?_append_left (by omega)]
    rfl
  | l :: L, hl, k + 1, r, hr, h => by
    have h1 := hl l (List.mem_cons_self ..)
    have h2 : (k + 1) * s = k * s + s := Nat.succ_mul k s
    rw [List.flatten_cons, List.getElem?_append_right (by omega), h1, show (k + 1) * s + r - s = k * s + r by omega]
    exact flat_at (fun x hx => hl x (List.mem_cons_of_mem _ hx)) hr (by simpa using h)
section
variable {w w' : World} {base s : Nat} {e : TypeId} {v : Value} {L : List (List Value)}
theorem Rws.form (h : Rws w base e s v L) : ∃ A c, v = .slice A L.length c := by
  rcases h.2.2 with ⟨rfl, h0⟩ | ⟨g, cap, cur, rfl, _⟩
  · exact ⟨none, 0, by rw [h0]⟩
  · exact ⟨_, _, rfl⟩
theorem Rws.at_ (h : Rws w base e s v L) (hL : 0 < L.length) : ∃ g c, v = .slice (some ⟨g, 0, none⟩) L.length c ∧ base ≤ g ∧ g < w.heap.size ∧ L.length ≤ c ∧ ∀ k r, k < L.length → r < s → w.cell? ⟨g, k * s + r, none⟩ = (L.getD k [])[r]? := by
  rcases h.2.2 with ⟨_, h0⟩ | ⟨g, cap, cur, rfl, hbg, hg, hn, hm, hs, ht⟩
  · omega
  · refine ⟨g, cap, rfl, hbg, heap_lt hg, hn, fun k r hk hr => ?_⟩
    rw [cell_of_row w g (k * s + r) _ _ (0, 0) hg, ← flat_at h.1 hr hk, ← ht]
    have h3 : (k + 1) * s ≤ L.length * s := Nat.mul_le_mul_right s hk
    rw [Nat.succ_mul] at h3
    rw [List.getElem?_take_of_lt (by omega)]
    simp
theorem Rws.keptT (h : Rws w base e s v L) (hk : KeptT e w w') : Rws w' base e s v L := by
  refine ⟨h.1, h.2.1, ?_⟩
  rcases h.2.2 with h0 | ⟨g, cap, cur, rfl, hbg, hg, r⟩
  · exact .inl h0
  · exact .inr ⟨g, cap, cur, rfl, hbg, hk g _ hg, r⟩
theorem Rws.kept (h : Rws w base e s v L) (hb : Below w.heap.size w w') : Rws w' base e s v L := h.keptT (KeptT.of_below hb)
theorem Rws.nil (w : World) (base s : Nat) (e : TypeId) : Rws w base e s (.slice none 0 0) [] := ⟨fun _ h => absurd h (by simp), World.ownsRow_nil _ _ _ _⟩
/-- A literal of one element. -/
theorem Rws.one (w : World) (base : Nat) (e : TypeId) (l : List Value) (hb : base ≤ w.heap.size) : Rws (w.alloc (.cells l.toArray e)) base e l.length (.slice (some ⟨w.heap.size, 0, none⟩) 1 1) [l] := by
  refine ⟨fun x hx => by simp at hx; rw [hx], by simp, .inr ⟨w.heap.size, 1, l.toArray, rfl, hb, heap_alloc_new w _, by simp, by decide, by simp, by simp⟩⟩
/-- append of one element. -/
theorem run_append_rws {t bytes : Nat} {i : TypeInfo} {z : Value} (ht : Try.prog.underlying t = some (.slice e)) (hi : Try.prog.info? e = some i) (hz0 : i.zero = some z) (hz1 : i.size = s) (hz2 : i.bytes = bytes) (hzc : z.cells.size = s) (hs : 0 < s) (hby : bytes ≤ 64)
    (h : Rws w base e s v L) (l : List Value) (hl : l.length = s) (h1 : ∀ u, u ∈ l → u.oneCell' = true) (hbase : base ≤ w.heap.size) (hn : L.length < 1099511627776) :
    ∃ A c w1, (Builtin.append_ #[t, t] t #[v, .slice (some ⟨w.heap.size, 0, none⟩) 1 1]).run Try.prog (w.alloc (.cells l.toArray e)) = .ok (.slice A (L.length + 1) c) w1 ∧
      Rws w1 base e s (.slice A (L.length + 1) c) (L ++ [l]) ∧ Below base w w1 ∧ ∀ t', t' ≠ e → KeptT t' w w1 := by
  have hbz := alloc_below w (.cells l.toArray e)
  have ho1 := (h.kept hbz).2
  obtain ⟨v1, w1, hr, h2, h3, _⟩ := run_append_own (P := Try.prog) (w.alloc (.cells l.toArray e)) base t t e i z s bytes ht hi hz0 hz1 hz2 hzc hs v _ _ ho1 ⟨w.heap.size, 0, none⟩ 1 1 l (by omega)
    (by
      intro j u hu
      have hg := heap_alloc_new w (.cells l.toArray e)
      have ha : (⟨w.heap.size, 0, none⟩ : Addr).add j = ⟨w.heap.size, 0 + j, none⟩ := by simp [Addr.add]; omega
      rw [ha, cell_of_row _ _ (0 + j) _ _ (0, 0) hg, Nat.zero_add]
      simpa using hu)
    h1 (by unfold maxLen; omega) (Nat.le_trans (Nat.mul_le_mul_left _ hby) (by omega)) (Nat.le_trans hbase hbz.size)
  have hform : ∃ A c, v1 = .slice A (L.length + 1) c := by
    rcases h2.2 with ⟨rfl, h0⟩ | ⟨g, cap, cur, rfl, _⟩
    · omega
    · exact ⟨_, _, rfl⟩
  obtain ⟨A, c, rfl⟩ := hform
  refine ⟨A, c, w1, hr, ⟨fun x hx => ?_, ?_⟩, (hbz.mono hbase).trans ((Below.refl _ _).grown h3 (Nat.le_trans hbase hbz.size) (fun k hk => (World.ownsRow.lt ho1 k hk).1)), fun t' ht' => (KeptT.of_below hbz).trans (KeptT.grown h3 ho1 ht')⟩
  · rcases List.mem_append.1 hx with hx | hx
    · exact h.1 x hx
    · simp at hx; rw [hx]; exact hl
  · rw [List.length_append, List.flatten_append]
    simpa using h2
end
end Go.Proofs.Ythjnghldedfdoaa
end

section
/- The search, step by step. -/
namespace Go.Proofs.Ythjnghldedfdoaa

/-- Which states a search has seen. -/
def seenOf (n : Nat) (l : List Nat) : List Bool := (List.range n).map fun x => decide (x ∈ l)
theorem seenOf_len (n : Nat) (l : List Nat) : (seenOf n l).length = n := by simp [seenOf]
theorem seenOf_at {n : Nat} {l : List Nat} {x : Nat} (hx : x < n) : (seenOf n l).getD x false = decide (x ∈ l) := by
  unfold seenOf; simp [List.getD, hx]
theorem seenOf_set {n : Nat} {l : List Nat} {x : Nat} : (seenOf n l).set x true = seenOf n (l ++ [x]) := by
  apply List.ext_getElem
  · simp [seenOf]
  · intro m h1 h2
    have hm : m < n := by simpa [seenOf] using h2
    rw [List.getElem_set]
    by_cases e : x = m
    · subst e; simp [seenOf]
    · rw [if_neg e]; simp [seenOf, show ¬ m = x from fun h => e h.symm]
theorem seenOf_nil (n : Nat) : seenOf n [] = List.replicate n false := by
  apply List.ext_getElem
  · simp [seenOf]
  · intro m h1 h2; simp [seenOf]

/-- A list of states as numbers. -/
def zs (l : List Nat) : List Int := l.map fun x : Nat => (x : Int)
theorem zs_len (l : List Nat) : (zs l).length = l.length := by simp [zs]
theorem zs_at (l : List Nat) (j : Nat) : (zs l).getD j 0 = ((l.getD j 0 : Nat) : Int) := by
  unfold zs
  rw [List.getD_eq_getElem?_getD, List.getD_eq_getElem?_getD, List.getElem?_map]
  cases l[j]? <;> rfl
theorem zs_append (l t : List Nat) : zs (l ++ t) = zs l ++ zs t := by simp [zs]
theorem zs_one (x : Nat) : zs [x] = [(x : Int)] := rfl
theorem zs_inj {l t : List Nat} (h : zs l = zs t) : l = t := by
  induction l generalizing t with
  | nil => cases t with
    | nil => rfl
    | cons => simp [zs] at h
  | cons x l ih => cases t with
    | nil => simp [zs] at h
    | cons y t =>
      simp only [zs, List.map_cons, List.cons.injEq] at h
      rw [ih (by simpa [zs] using h.2), show x = y by omega]
theorem mem_zs {l : List Nat} {x : Nat} : ((x : Int) ∈ zs l) ↔ x ∈ l := by
  simp only [zs, List.mem_map]
  exact ⟨fun ⟨a, h, e⟩ => by rw [show x = a by omega]; exact h, fun h => ⟨x, h, rfl⟩⟩

theorem addR_in {nx : List (List Int)} {s a : Nat} {l : List Nat} (h : nN nx s a ∈ addR nx s l a) : addR nx s l (a + 1) = addR nx s l a := by
  show addN _ _ = _; unfold addN; rw [if_pos h]
theorem addR_out {nx : List (List Int)} {s a : Nat} {l : List Nat} (h : ¬ nN nx s a ∈ addR nx s l a) : addR nx s l (a + 1) = addR nx s l a ++ [nN nx s a] := by
  show addN _ _ = _; unfold addN; rw [if_neg h]
theorem Stt.one {n s : Nat} (h : s < n) : Stt n [s] := ⟨by simp, fun x hx => by simp at hx; omega⟩
theorem addR_at {nx : List (List Int)} {s : Nat} {l : List Nat} {j : Nat} (h : j < l.length) (a : Nat) : (addR nx s l a).getD j 0 = l.getD j 0 := by
  obtain ⟨t, ht⟩ := addR_pre nx s l a
  rw [ht]; exact getD_pre h
theorem addR_len {nx : List (List Int)} {s : Nat} {l : List Nat} (a : Nat) : l.length ≤ (addR nx s l a).length := by
  obtain ⟨t, ht⟩ := addR_pre nx s l a
  rw [ht, List.length_append]; omega
end Go.Proofs.Ythjnghldedfdoaa
end

section
/- The search for a distinguishing word: pairs of states in the order of the words that reach them. -/
namespace Go.Proofs.Ythjnghldedfdoaa

/-- A pair that was found: the pair, the place of the one before it, the input from there, and the word. -/
structure Ent where
  p : Nat
  q : Nat
  j : Nat
  x : Nat
  w : List Int
instance : Inhabited Ent := ⟨⟨0, 0, 0, 0, []⟩⟩
def Ent.zero : Ent := ⟨0, 0, 0, 0, []⟩
def Ent.pr (e : Ent) : Nat × Nat := (e.p, e.q)
/-- Is a pair among those that were found? -/
def hasE (E : List Ent) (p q : Nat) : Prop := (p, q) ∈ E.map Ent.pr
instance (E : List Ent) (p q : Nat) : Decidable (hasE E p q) := inferInstanceAs (Decidable ((p, q) ∈ E.map Ent.pr))
def addE (E : List Ent) (e : Ent) : List Ent := if hasE E e.p e.q then E else E ++ [e]
section
variable (nx1 nx2 ot1 ot2 : List (List Int))
/-- The pair behind an entry and an input. -/
def nxE (j : Nat) (e : Ent) (x : Nat) : Ent := ⟨nN nx1 e.p x, nN nx2 e.q x, j, x, e.w ++ [(x : Int)]⟩
def addS (j : Nat) (e : Ent) (E : List Ent) : Nat → List Ent
  | 0 => E
  | x + 1 => addE (addS j e E x) (nxE nx1 nx2 j e x)
/-- Do the outputs of a pair differ at an input below the given one? The first such input. -/
def fD (e : Ent) : Nat → Option Nat
  | 0 => none
  | x + 1 => match fD e x with
    | some y => some y
    | none => if oN ot1 e.p x = oN ot2 e.q x then none else some x
def srch (i : Nat) : Nat → List Ent → Nat → Option (List Int)
  | 0, _, _ => none
  | k + 1, E, j => if j < E.length then
      match fD ot1 ot2 (E.getD j Ent.zero) i with
      | some x => some ((E.getD j Ent.zero).w ++ [(x : Int)])
      | none => srch i k (addS nx1 nx2 j (E.getD j Ent.zero) E i) (j + 1)
    else none
end
/-- The first distinguishing word of two states. -/
def dst (nx1 ot1 nx2 ot2 : List (List Int)) (i n m s t : Nat) : Option (List Int) := srch nx1 nx2 ot1 ot2 i (n * m) [⟨s, t, 0, 0, []⟩] 0

/-- What the entries keep. -/
structure Ens (n m s t : Nat) (E : List Ent) : Prop where
  lt : ∀ e, e ∈ E → e.p < n ∧ e.q < m
  nd : (E.map Ent.pr).Nodup
  ne : 0 < E.length
  z : (E.getD 0 Ent.zero).p = s ∧ (E.getD 0 Ent.zero).q = t ∧ (E.getD 0 Ent.zero).w = []
  bk : ∀ k, 0 < k → k < E.length → (E.getD k Ent.zero).j < k ∧ (E.getD k Ent.zero).w = (E.getD (E.getD k Ent.zero).j Ent.zero).w ++ [((E.getD k Ent.zero).x : Int)]
  wl : ∀ k, k < E.length → (E.getD k Ent.zero).w.length ≤ k

theorem getDE_mem {E : List Ent} {k : Nat} (h : k < E.length) : E.getD k Ent.zero ∈ E := by
  rw [List.getD_eq_getElem?_getD, List.getElem?_eq_getElem h]; exact List.getElem_mem h
theorem getDE_pre {E T : List Ent} {k : Nat} (h : k < E.length) : (E ++ T).getD k Ent.zero = E.getD k Ent.zero := by
  rw [List.getD_eq_getElem?_getD, List.getD_eq_getElem?_getD, List.getElem?_append_left h]
theorem getDE_last {E : List Ent} {e : Ent} : (E ++ [e]).getD E.length Ent.zero = e := by
  rw [List.getD_eq_getElem?_getD, List.getElem?_append_right (Nat.le_refl _)]; simp
theorem nodup_pairs {m : Nat} : ∀ {L : List (Nat × Nat)}, L.Nodup → (∀ x, x ∈ L → x.2 < m) → (L.map fun x => x.1 * m + x.2).Nodup
  | [], _, _ => by simp
  | x :: L, h, hb => by
    rw [List.nodup_cons] at h
    simp only [List.map_cons, List.nodup_cons]
    refine ⟨fun hm => ?_, nodup_pairs h.2 fun y hy => hb y (List.mem_cons_of_mem _ hy)⟩
    obtain ⟨y, hy, e⟩ := List.mem_map.1 hm
    have h1 := hb x (List.mem_cons_self ..)
    have h2 := hb y (List.mem_cons_of_mem _ hy)
    have e1 : x.2 = y.2 := by
      have := congrArg (· % m) e
      simp only [Nat.mul_add_mod_self_right, Nat.mod_eq_of_lt h1, Nat.mod_eq_of_lt h2] at this
      exact this.symm
    have e2 : x.1 = y.1 := by
      have hm : 0 < m := by omega
      have h3 : y.1 * m = x.1 * m := by omega
      exact (Nat.eq_of_mul_eq_mul_right hm h3).symm
    exact h.1 (by rw [show x = y from Prod.ext e2 e1]; exact hy)
section
variable {n m s t : Nat} {E : List Ent}
theorem Ens.len (h : Ens n m s t E) : E.length ≤ n * m := by
  have h1 := nodup_pairs (m := m) h.nd fun x hx => by
    obtain ⟨e, he, rfl⟩ := List.mem_map.1 hx
    exact (h.lt e he).2
  have h2 : Stt (n * m) ((E.map Ent.pr).map fun x => x.1 * m + x.2) := ⟨h1, fun y hy => by
    obtain ⟨x, hx, rfl⟩ := List.mem_map.1 hy
    obtain ⟨e, he, rfl⟩ := List.mem_map.1 hx
    obtain ⟨h3, h4⟩ := h.lt e he
    show e.p * m + e.q < n * m
    have : (e.p + 1) * m ≤ n * m := Nat.mul_le_mul_right m h3
    rw [Nat.add_mul, Nat.one_mul] at this
    omega⟩
  have := h2.len
  simpa using this
theorem Ens.one (hs : s < n) (ht : t < m) : Ens n m s t [⟨s, t, 0, 0, []⟩] where
  lt := fun e he => by simp at he; subst he; exact ⟨hs, ht⟩
  nd := by simp
  ne := by simp
  z := ⟨rfl, rfl, rfl⟩
  bk := fun k h1 h2 => by simp at h2; omega
  wl := fun k h => by simp at h; subst h; exact Nat.zero_le _
theorem Ens.add (h : Ens n m s t E) {e : Ent} (he : e.p < n ∧ e.q < m) (hj : e.j < E.length) (hw : e.w = (E.getD e.j Ent.zero).w ++ [(e.x : Int)]) (hn : ¬ hasE E e.p e.q) : Ens n m s t (E ++ [e]) where
  lt := fun x hx => by
    rcases List.mem_append.1 hx with hx | hx
    · exact h.lt x hx
    · simp at hx; subst hx; exact he
  nd := by
    rw [List.map_append, List.nodup_append]
    refine ⟨h.nd, by simp, fun a ha b hb e2 => ?_⟩
    simp at hb
    subst hb
    subst e2
    exact hn ha
  ne := by simp
  z := by rw [getDE_pre h.ne]; exact h.z
  bk := fun k h1 h2 => by
    rw [List.length_append] at h2
    have h2 : k < E.length + 1 := h2
    by_cases hk : k < E.length
    · rw [getDE_pre hk]
      obtain ⟨a, b⟩ := h.bk k h1 hk
      exact ⟨a, by rw [getDE_pre (by omega)]; exact b⟩
    · obtain rfl : k = E.length := by omega
      rw [getDE_last]
      exact ⟨hj, by rw [getDE_pre hj]; exact hw⟩
  wl := fun k h2 => by
    rw [List.length_append] at h2
    have h2 : k < E.length + 1 := h2
    by_cases hk : k < E.length
    · rw [getDE_pre hk]; exact h.wl k hk
    · obtain rfl : k = E.length := by omega
      have h3 := h.wl e.j hj
      rw [getDE_last, hw, List.length_append]
      show _ + 1 ≤ _
      omega
end
section
variable {nx1 nx2 ot1 ot2 : List (List Int)} {i n m s t j : Nat} {E : List Ent} {e : Ent}
theorem addE_in {E : List Ent} {e : Ent} (h : hasE E e.p e.q) : addE E e = E := by unfold addE; rw [if_pos h]
theorem addE_out {E : List Ent} {e : Ent} (h : ¬ hasE E e.p e.q) : addE E e = E ++ [e] := by unfold addE; rw [if_neg h]
theorem addS_pre {nx1 nx2 : List (List Int)} (j : Nat) (e : Ent) (E : List Ent) : ∀ x, ∃ T, addS nx1 nx2 j e E x = E ++ T
  | 0 => ⟨[], by simp [addS]⟩
  | x + 1 => by
    obtain ⟨T, hT⟩ := addS_pre (nx1 := nx1) (nx2 := nx2) j e E x
    show ∃ T, addE (addS nx1 nx2 j e E x) _ = E ++ T
    unfold addE
    split
    · exact ⟨T, hT⟩
    · exact ⟨T ++ [nxE nx1 nx2 j e x], by rw [hT, List.append_assoc]⟩
/-- One step of the inner loop. -/
theorem addS_ens {st1 st2 : Nat} (hM : Mok i st1 n nx1 ot1) (hN : Mok i st2 m nx2 ot2) (h : Ens n m s t E) (hj : j < E.length) :
    ∀ x, x ≤ i → Ens n m s t (addS nx1 nx2 j (E.getD j Ent.zero) E x)
  | 0, _ => h
  | x + 1, hx => by
    have ih := addS_ens hM hN h hj x (by omega)
    obtain ⟨T, hT⟩ := addS_pre (nx1 := nx1) (nx2 := nx2) j (E.getD j Ent.zero) E x
    obtain ⟨h1, h2⟩ := h.lt _ (getDE_mem hj)
    show Ens n m s t (addE (addS nx1 nx2 j (E.getD j Ent.zero) E x) _)
    by_cases hh : hasE (addS nx1 nx2 j (E.getD j Ent.zero) E x) (nxE nx1 nx2 j (E.getD j Ent.zero) x).p (nxE nx1 nx2 j (E.getD j Ent.zero) x).q
    · rw [addE_in hh]; exact ih
    · rw [addE_out hh]
      refine ih.add ⟨hM.nN_lt h1 (by omega), hN.nN_lt h2 (by omega)⟩ ?_ ?_ hh
      · rw [hT, List.length_append]; show j < _; omega
      · show _ = ((addS nx1 nx2 j (E.getD j Ent.zero) E x).getD j Ent.zero).w ++ _
        rw [hT, getDE_pre hj]; rfl
theorem srch_fuel {st1 st2 : Nat} (hM : Mok i st1 n nx1 ot1) (hN : Mok i st2 m nx2 ot2) : ∀ (k : Nat) (E : List Ent) (j : Nat), Ens n m s t E → n * m ≤ k + j → srch nx1 nx2 ot1 ot2 i (k + 1) E j = srch nx1 nx2 ot1 ot2 i k E j
  | 0, E, j, h, hk => by
    have := h.len
    unfold srch
    rw [if_neg (by omega)]
  | k + 1, E, j, h, hk => by
    rw [srch]
    conv => rhs; rw [srch]
    by_cases hj : j < E.length
    · rw [if_pos hj, if_pos hj]
      cases fD ot1 ot2 (E.getD j Ent.zero) i with
      | some x => rfl
      | none => exact srch_fuel hM hN k _ _ (addS_ens hM hN h hj i (Nat.le_refl _)) (by omega)
    · rw [if_neg hj, if_neg hj]
/-- The search stands at place j. -/
theorem srch_on {st1 st2 : Nat} (hM : Mok i st1 n nx1 ot1) (hN : Mok i st2 m nx2 ot2) (h : Ens n m s t E) (hj : j < E.length) (hd : fD ot1 ot2 (E.getD j Ent.zero) i = none) :
    srch nx1 nx2 ot1 ot2 i (n * m) (addS nx1 nx2 j (E.getD j Ent.zero) E i) (j + 1) = srch nx1 nx2 ot1 ot2 i (n * m) E j := by
  have h1 := h.len
  obtain ⟨k, hk⟩ : ∃ k, n * m = k + 1 := ⟨n * m - 1, by omega⟩
  rw [hk]
  conv => rhs; rw [srch]
  rw [if_pos hj, hd]
  exact srch_fuel hM hN k _ _ (addS_ens hM hN h hj i (Nat.le_refl _)) (by omega)
theorem srch_hit {st1 st2 : Nat} (_hM : Mok i st1 n nx1 ot1) (_hN : Mok i st2 m nx2 ot2) (h : Ens n m s t E) (hj : j < E.length) {x : Nat} (hd : fD ot1 ot2 (E.getD j Ent.zero) i = some x) :
    srch nx1 nx2 ot1 ot2 i (n * m) E j = some ((E.getD j Ent.zero).w ++ [(x : Int)]) := by
  have h1 := h.len
  obtain ⟨k, hk⟩ : ∃ k, n * m = k + 1 := ⟨n * m - 1, by omega⟩
  rw [hk, srch, if_pos hj, hd]
theorem srch_end {k : Nat} (hj : ¬ j < E.length) : srch nx1 nx2 ot1 ot2 i k E j = none := by
  cases k with
  | zero => rfl
  | succ k => rw [srch, if_neg hj]
theorem fD_none : ∀ {x : Nat}, fD ot1 ot2 e x = none → ∀ a, a < x → oN ot1 e.p a = oN ot2 e.q a
  | 0, _, a, ha => absurd ha (by omega)
  | x + 1, h, a, ha => by
    rw [fD] at h
    cases h1 : fD ot1 ot2 e x with
    | some y => rw [h1] at h; exact absurd h (by simp)
    | none =>
      rw [h1] at h
      by_cases h2 : oN ot1 e.p x = oN ot2 e.q x
      · by_cases h3 : a = x
        · subst h3; exact h2
        · exact fD_none h1 a (by omega)
      · simp [h2] at h
theorem fD_step (h : fD ot1 ot2 e j = none) (ho : oN ot1 e.p j = oN ot2 e.q j) : fD ot1 ot2 e (j + 1) = none := by rw [fD, h]; simp [ho]
theorem fD_mono {y : Nat} : ∀ {x : Nat} (d : Nat), fD ot1 ot2 e x = some y → fD ot1 ot2 e (x + d) = some y
  | x, 0, h => h
  | x, d + 1, h => by
    have := fD_mono d h
    show fD ot1 ot2 e (x + d + 1) = _
    rw [fD, this]
theorem fD_hit (h : fD ot1 ot2 e j = none) (ho : ¬ oN ot1 e.p j = oN ot2 e.q j) (hj : j < i) : fD ot1 ot2 e i = some j := by
  have h1 : fD ot1 ot2 e (j + 1) = some j := by rw [fD, h]; simp [ho]
  have := fD_mono (i - (j + 1)) h1
  rwa [show j + 1 + (i - (j + 1)) = i by omega] at this
end
end Go.Proofs.Ythjnghldedfdoaa
end

section
/- States with the same outputs. -/
namespace Go.Proofs.Ythjnghldedfdoaa

/-- A word over i symbols. -/
def Wd (i : Nat) (u : List Int) : Prop := ∀ x, x ∈ u → 0 ≤ x ∧ x < i
theorem Wd.nil (i : Nat) : Wd i [] := fun x h => by simp at h
theorem Wd.cons {i a : Nat} {u : List Int} (ha : a < i) (h : Wd i u) : Wd i ((a : Int) :: u) := fun x hx => by
  rcases List.mem_cons.1 hx with rfl | hx
  · omega
  · exact h x hx
theorem Wd.tail {i : Nat} {x : Int} {u : List Int} (h : Wd i (x :: u)) : Wd i u := fun y hy => h y (by simp [hy])
theorem Wd.head {i : Nat} {x : Int} {u : List Int} (h : Wd i (x :: u)) : ∃ a : Nat, x = a ∧ a < i := ⟨x.toNat, by have := h x (by simp); omega, by have := h x (by simp); omega⟩

/-- Two states have the same outputs for all words. -/
def Bis (i : Nat) (nx ot : List (List Int)) (s : Nat) (mx mt : List (List Int)) (t : Nat) : Prop := ∀ u, Wd i u → runO nx ot s u = runO mx mt t u
section
variable {i : Nat} {nx ot mx mt lx lt : List (List Int)} {s t r a : Nat}
theorem Bis.refl (i : Nat) (nx ot : List (List Int)) (s : Nat) : Bis i nx ot s nx ot s := fun _ _ => rfl
theorem Bis.symm (h : Bis i nx ot s mx mt t) : Bis i mx mt t nx ot s := fun u hu => (h u hu).symm
theorem Bis.trans (h : Bis i nx ot s mx mt t) (k : Bis i mx mt t lx lt r) : Bis i nx ot s lx lt r := fun u hu => (h u hu).trans (k u hu)
theorem Bis.out (h : Bis i nx ot s mx mt t) (ha : a < i) : oN ot s a = oN mt t a := by
  have := h [(a : Int)] ((Wd.nil i).cons ha)
  simpa [runO] using this
theorem Bis.next (h : Bis i nx ot s mx mt t) (ha : a < i) : Bis i nx ot (nN nx s a) mx mt (nN mx t a) := fun u hu => by
  have := h ((a : Int) :: u) (hu.cons ha)
  simp only [runO, Int.toNat_natCast, List.cons.injEq] at this
  exact this.2
end

end Go.Proofs.Ythjnghldedfdoaa
end

section
/- A distinguishing word is found just if the outputs differ. -/
namespace Go.Proofs.Ythjnghldedfdoaa

theorem fD_some {ot1 ot2 : List (List Int)} {e : Ent} {y : Nat} : ∀ {x : Nat}, fD ot1 ot2 e x = some y → y < x ∧ ¬ oN ot1 e.p y = oN ot2 e.q y ∧ ∀ a, a < y → oN ot1 e.p a = oN ot2 e.q a
  | 0, h => by simp [fD] at h
  | x + 1, h => by
    rw [fD] at h
    cases h1 : fD ot1 ot2 e x with
    | some z =>
      rw [h1] at h
      injection h with h
      subst h
      obtain ⟨a, b, c⟩ := fD_some h1
      exact ⟨by omega, b, c⟩
    | none =>
      rw [h1] at h
      by_cases h2 : oN ot1 e.p x = oN ot2 e.q x
      · simp [h2] at h
      · simp [h2] at h
        subst h
        exact ⟨by omega, h2, fD_none h1⟩
theorem runS_app (nx : List (List Int)) : ∀ (u v : List Int) (s : Nat), runS nx s (u ++ v) = runS nx (runS nx s u) v
  | [], _, _ => rfl
  | x :: u, v, s => by
    show runS nx (nN nx s x.toNat) (u ++ v) = _
    rw [runS_app nx u v]; rfl
theorem runO_app (nx ot : List (List Int)) : ∀ (u v : List Int) (s : Nat), runO nx ot s (u ++ v) = runO nx ot s u ++ runO nx ot (runS nx s u) v
  | [], _, _ => rfl
  | x :: u, v, s => by
    show oN ot s x.toNat :: runO nx ot (nN nx s x.toNat) (u ++ v) = _
    rw [runO_app nx ot u v]; rfl
theorem Wd.app {i : Nat} {u v : List Int} (h : Wd i u) (k : Wd i v) : Wd i (u ++ v) := fun x hx => (List.mem_append.1 hx).elim (h x) (k x)
theorem Wd.one {i a : Nat} (h : a < i) : Wd i [(a : Int)] := (Wd.nil i).cons h
/-- What the words of the entries do. -/
def Gd (nx1 nx2 ot1 ot2 : List (List Int)) (i s t : Nat) (e : Ent) : Prop := Wd i e.w ∧ runS nx1 s e.w = e.p ∧ runS nx2 t e.w = e.q ∧ runO nx1 ot1 s e.w = runO nx2 ot2 t e.w
section
variable {nx1 nx2 ot1 ot2 : List (List Int)} {i n m s t j : Nat} {E : List Ent} {e : Ent}
theorem Gd.next (h : Gd nx1 nx2 ot1 ot2 i s t e) {x : Nat} (hx : x < i) (ho : oN ot1 e.p x = oN ot2 e.q x) : Gd nx1 nx2 ot1 ot2 i s t (nxE nx1 nx2 j e x) := by
  obtain ⟨h1, h2, h3, h4⟩ := h
  refine ⟨h1.app (Wd.one hx), ?_, ?_, ?_⟩
  · show runS nx1 s (e.w ++ [(x : Int)]) = _
    rw [runS_app, h2]; rfl
  · show runS nx2 t (e.w ++ [(x : Int)]) = _
    rw [runS_app, h3]; rfl
  · show runO nx1 ot1 s (e.w ++ [(x : Int)]) = runO nx2 ot2 t (e.w ++ [(x : Int)])
    rw [runO_app, runO_app, h4, h2, h3]
    show _ ++ [oN ot1 e.p x] = _ ++ [oN ot2 e.q x]
    rw [ho]
theorem mem_addE {x : Ent} (h : x ∈ addE E e) : x ∈ E ∨ x = e := by
  unfold addE at h
  split at h
  · exact .inl h
  · rcases List.mem_append.1 h with h | h
    · exact .inl h
    · simp at h; exact .inr h
theorem Gd.addS (hE : ∀ x, x ∈ E → Gd nx1 nx2 ot1 ot2 i s t x) (he : Gd nx1 nx2 ot1 ot2 i s t e) : ∀ x, x ≤ i → (∀ a, a < x → oN ot1 e.p a = oN ot2 e.q a) → ∀ y, y ∈ _root_.Go.Proofs.Ythjnghldedfdoaa.addS nx1 nx2 j e E x → Gd nx1 nx2 ot1 ot2 i s t y
  | 0, _, _, y, hy => hE y hy
  | x + 1, hx, ho, y, hy => by
    rcases mem_addE hy with hy | rfl
    · exact Gd.addS hE he x (by omega) (fun a ha => ho a (by omega)) y hy
    · exact he.next (by omega) (ho x (by omega))
theorem srch_sound {v : List Int} : ∀ (k : Nat) (E : List Ent) (j : Nat), (∀ x, x ∈ E → Gd nx1 nx2 ot1 ot2 i s t x) → srch nx1 nx2 ot1 ot2 i k E j = some v →
    ∃ w x, v = w ++ [((x : Nat) : Int)] ∧ x < i ∧ Wd i w ∧ runO nx1 ot1 s w = runO nx2 ot2 t w ∧ ¬ oN ot1 (runS nx1 s w) x = oN ot2 (runS nx2 t w) x
  | 0, _, _, _, h => by simp [srch] at h
  | k + 1, E, j, hE, h => by
    rw [srch] at h
    by_cases hj : j < E.length
    · rw [if_pos hj] at h
      have he := hE _ (getDE_mem hj)
      cases hd : fD ot1 ot2 (E.getD j Ent.zero) i with
      | some x =>
        rw [hd] at h
        injection h with h
        obtain ⟨h1, h2, _⟩ := fD_some hd
        obtain ⟨g1, g2, g3, g4⟩ := he
        exact ⟨_, x, h.symm, h1, g1, g4, by rw [g2, g3]; exact h2⟩
      | none =>
        rw [hd] at h
        exact srch_sound k _ _ (fun y hy => Gd.addS hE he i (Nat.le_refl _) (fD_none hd) y hy) h
    · rw [if_neg hj] at h; exact absurd h (by simp)
theorem dst_sound {v : List Int} (h : dst nx1 ot1 nx2 ot2 i n m s t = some v) :
    ∃ w x, v = w ++ [((x : Nat) : Int)] ∧ x < i ∧ Wd i w ∧ runO nx1 ot1 s w = runO nx2 ot2 t w ∧ ¬ oN ot1 (runS nx1 s w) x = oN ot2 (runS nx2 t w) x := by
  refine srch_sound _ _ _ (fun x hx => ?_) h
  simp at hx
  subst hx
  exact ⟨Wd.nil i, rfl, rfl, rfl⟩
theorem dst_not {v : List Int} (h : dst nx1 ot1 nx2 ot2 i n m s t = some v) : ¬ Bis i nx1 ot1 s nx2 ot2 t := fun hb => by
  obtain ⟨w, x, _, hx, hw, _, hd⟩ := dst_sound h
  have h1 := hb (w ++ [(x : Int)]) (hw.app (Wd.one hx))
  rw [runO_app, runO_app, hb w hw] at h1
  have h2 := List.append_cancel_left h1
  simp only [runO, Int.toNat_natCast, List.cons.injEq] at h2
  exact hd h2.1
theorem hasE_mono {E T : List Ent} {p q : Nat} (h : hasE E p q) : hasE (E ++ T) p q := by unfold hasE at h ⊢; rw [List.map_append]; exact List.mem_append.2 (.inl h)
theorem addS_has (j : Nat) (e : Ent) (E : List Ent) : ∀ x y, y < x → hasE (_root_.Go.Proofs.Ythjnghldedfdoaa.addS nx1 nx2 j e E x) (nN nx1 e.p y) (nN nx2 e.q y)
  | 0, y, h => absurd h (by omega)
  | x + 1, y, h => by
    show hasE (addE (_root_.Go.Proofs.Ythjnghldedfdoaa.addS nx1 nx2 j e E x) (nxE nx1 nx2 j e x)) _ _
    by_cases e1 : y = x
    · subst e1
      by_cases h2 : hasE (_root_.Go.Proofs.Ythjnghldedfdoaa.addS nx1 nx2 j e E y) (nN nx1 e.p y) (nN nx2 e.q y)
      · rw [addE_in h2]; exact h2
      · rw [addE_out (e := nxE nx1 nx2 j e y) h2]
        unfold hasE
        rw [List.map_append]
        exact List.mem_append.2 (.inr (by simp [Ent.pr, nxE]))
    · have ih := addS_has j e E x y (by omega)
      unfold addE
      split
      · exact ih
      · exact hasE_mono ih
/-- An entry whose pairs behind have been found, and whose outputs are equal. -/
def Cl (nx1 nx2 ot1 ot2 : List (List Int)) (i : Nat) (E : List Ent) (e : Ent) : Prop := ∀ x, x < i → oN ot1 e.p x = oN ot2 e.q x ∧ hasE E (nN nx1 e.p x) (nN nx2 e.q x)
theorem srch_closed {st1 st2 : Nat} (hM : Mok i st1 n nx1 ot1) (hN : Mok i st2 m nx2 ot2) : ∀ (k : Nat) (E : List Ent) (j : Nat), Ens n m s t E → j ≤ E.length → n * m ≤ k + j → (∀ a, a < j → Cl nx1 nx2 ot1 ot2 i E (E.getD a Ent.zero)) → srch nx1 nx2 ot1 ot2 i k E j = none →
    ∃ F, Ens n m s t F ∧ ∀ a, a < F.length → Cl nx1 nx2 ot1 ot2 i F (F.getD a Ent.zero)
  | 0, E, j, hE, hj, hk, hc, _ => by
    have := hE.len
    exact ⟨E, hE, fun a ha => hc a (by omega)⟩
  | k + 1, E, j, hE, hj, hk, hc, h => by
    rw [srch] at h
    by_cases hl : j < E.length
    · rw [if_pos hl] at h
      cases hd : fD ot1 ot2 (E.getD j Ent.zero) i with
      | some x => rw [hd] at h; exact absurd h (by simp)
      | none =>
        rw [hd] at h
        have hE2 := addS_ens hM hN hE hl i (Nat.le_refl _)
        obtain ⟨T, hT⟩ := addS_pre (nx1 := nx1) (nx2 := nx2) j (E.getD j Ent.zero) E i
        have hle : E.length ≤ (_root_.Go.Proofs.Ythjnghldedfdoaa.addS nx1 nx2 j (E.getD j Ent.zero) E i).length := by rw [hT, List.length_append]; omega
        refine srch_closed hM hN k _ _ hE2 (by omega) (by omega) (fun a ha => ?_) h
        have hg : (_root_.Go.Proofs.Ythjnghldedfdoaa.addS nx1 nx2 j (E.getD j Ent.zero) E i).getD a Ent.zero = E.getD a Ent.zero := by rw [hT, getDE_pre (by omega)]
        rw [hg]
        by_cases ha2 : a = j
        · subst ha2
          exact fun x hx => ⟨fD_none hd x hx, addS_has a _ E i x hx⟩
        · intro x hx
          obtain ⟨c1, c2⟩ := hc a (by omega) x hx
          exact ⟨c1, by rw [hT]; exact hasE_mono c2⟩
    · exact ⟨E, hE, fun a ha => hc a (by omega)⟩
theorem hasE_get {E : List Ent} {p q : Nat} (h : hasE E p q) : ∃ a, a < E.length ∧ (E.getD a Ent.zero).p = p ∧ (E.getD a Ent.zero).q = q := by
  unfold hasE at h
  obtain ⟨e, he, e2⟩ := List.mem_map.1 h
  obtain ⟨a, ha, rfl⟩ := List.getElem_of_mem he
  refine ⟨a, ha, ?_⟩
  rw [List.getD_eq_getElem?_getD, List.getElem?_eq_getElem ha]
  unfold Ent.pr at e2
  injection e2 with e3 e4
  exact ⟨e3, e4⟩
theorem closed_bis {F : List Ent} (h : ∀ a, a < F.length → Cl nx1 nx2 ot1 ot2 i F (F.getD a Ent.zero)) : ∀ (u : List Int) (a : Nat), a < F.length → Wd i u → runO nx1 ot1 (F.getD a Ent.zero).p u = runO nx2 ot2 (F.getD a Ent.zero).q u
  | [], _, _, _ => rfl
  | x :: u, a, ha, hu => by
    obtain ⟨y, rfl, hy⟩ := hu.head
    obtain ⟨c1, c2⟩ := h a ha y hy
    obtain ⟨b, hb, e1, e2⟩ := hasE_get c2
    have ih := closed_bis h u b hb hu.tail
    rw [e1, e2] at ih
    simp only [runO, Int.toNat_natCast]
    rw [c1, ih]
theorem dst_none {st1 st2 : Nat} (hM : Mok i st1 n nx1 ot1) (hN : Mok i st2 m nx2 ot2) (hs : s < n) (ht : t < m) : dst nx1 ot1 nx2 ot2 i n m s t = none ↔ Bis i nx1 ot1 s nx2 ot2 t := by
  constructor
  · intro h
    obtain ⟨F, hF, hc⟩ := srch_closed hM hN _ _ 0 (Ens.one hs ht) (Nat.zero_le _) (by omega) (fun a ha => absurd ha (by omega)) h
    intro u hu
    have h1 := closed_bis hc u 0 hF.ne hu
    rw [hF.z.1, hF.z.2.1] at h1
    exact h1
  · intro hb
    cases h : dst nx1 ot1 nx2 ot2 i n m s t with
    | none => rfl
    | some v => exact absurd hb (dst_not h)
end
end Go.Proofs.Ythjnghldedfdoaa
end

section
/- word.Lex and word.Compare. -/
namespace Go.Proofs.Ythjnghldedfdoaa
open Go.RowKit

theorem isnan (k : Int) (w : World) : Calls Try.prog 111 #[.int .i64 k] w fun e w' => e = .returned (.bool false) ∧ w = w' := by
  go_enter Try.func111, Try.ntmps111
  go_wp2
  go_ret
  exact ⟨rfl, rfl⟩

theorem cmpI_zero {a b : Int} (h : a = b) : cmpI a b = 0 := by unfold cmpI; rw [if_neg (by omega), if_neg (by omega)]
theorem cmpI_ne {a b : Int} (h : a ≠ b) : cmpI a b ≠ 0 := by unfold cmpI; split; decide; split; decide; omega

theorem shlex_lt {xs ys : List Int} (h : xs.length < ys.length) : shlex xs ys = -1 := by unfold shlex; rw [if_pos h]
theorem shlex_gt {xs ys : List Int} (h : ys.length < xs.length) : shlex xs ys = 1 := by unfold shlex; rw [if_neg (by omega), if_pos h]
theorem shlex_eq {xs ys : List Int} (h : xs.length = ys.length) : shlex xs ys = lexi xs ys := by unfold shlex; rw [if_neg (by omega), if_neg (by omega)]

end Go.Proofs.Ythjnghldedfdoaa
end

section
/- The word that is found is the first one. -/
namespace Go.Proofs.Ythjnghldedfdoaa

/-- Dictionary order of words of the same length, and shortlex order. -/
def Lx : List Int → List Int → Prop
  | a :: u, b :: v => a < b ∨ (a = b ∧ Lx u v)
  | _, _ => False
def SL (u v : List Int) : Prop := u.length < v.length ∨ (u.length = v.length ∧ Lx u v)
theorem Lx_snoc : ∀ {u w : List Int} {x y : Int}, u.length = w.length → (Lx (u ++ [y]) (w ++ [x]) ↔ Lx u w ∨ (u = w ∧ y < x))
  | [], [], x, y, _ => by simp [Lx]
  | a :: u, b :: w, x, y, h => by
    have ih := Lx_snoc (u := u) (w := w) (x := x) (y := y) (by simpa using h)
    simp only [List.cons_append, Lx, ih, List.cons.injEq]
    constructor
    · rintro (h1 | ⟨h1, h2 | ⟨h2, h3⟩⟩)
      · exact .inl (.inl h1)
      · exact .inl (.inr ⟨h1, h2⟩)
      · exact .inr ⟨⟨h1, h2⟩, h3⟩
    · rintro ((h1 | ⟨h1, h2⟩) | ⟨⟨h1, h2⟩, h3⟩)
      · exact .inl h1
      · exact .inr ⟨h1, .inl h2⟩
      · exact .inr ⟨h1, .inr ⟨h2, h3⟩⟩
  | [], _ :: _, _, _, h => by simp at h
  | _ :: _, [], _, _, h => by simp at h
theorem SL_snoc {u w : List Int} {x y : Int} (h : SL (u ++ [y]) (w ++ [x])) : SL u w ∨ (u = w ∧ y < x) := by
  rcases h with h | ⟨h, h2⟩
  · simp only [List.length_append, List.length_singleton] at h
    exact .inl (.inl (by omega))
  · have hl : u.length = w.length := by simpa using h
    rcases (Lx_snoc hl).1 h2 with h3 | h3
    · exact .inl (.inr ⟨hl, h3⟩)
    · exact .inr h3
theorem Lx_tri : ∀ {u v : List Int}, u.length = v.length → Lx u v ∨ u = v ∨ Lx v u
  | [], [], _ => .inr (.inl rfl)
  | a :: u, b :: v, h => by
    have ih := Lx_tri (u := u) (v := v) (by simpa using h)
    simp only [Lx, List.cons.injEq]
    rcases Int.lt_trichotomy a b with h1 | h1 | h1
    · exact .inl (.inl h1)
    · rcases ih with h2 | h2 | h2
      · exact .inl (.inr ⟨h1, h2⟩)
      · exact .inr (.inl ⟨h1, h2⟩)
      · exact .inr (.inr (.inr ⟨h1.symm, h2⟩))
    · exact .inr (.inr (.inl h1))
  | [], _ :: _, h => by simp at h
  | _ :: _, [], h => by simp at h
theorem SL_tri {u v : List Int} : SL u v ∨ u = v ∨ SL v u := by
  rcases Nat.lt_trichotomy u.length v.length with h | h | h
  · exact .inl (.inl h)
  · rcases Lx_tri h with h2 | h2 | h2
    · exact .inl (.inr ⟨h, h2⟩)
    · exact .inr (.inl h2)
    · exact .inr (.inr (.inr ⟨h.symm, h2⟩))
  · exact .inr (.inr (.inl h))
theorem lexi_cons (a : Int) (u v : List Int) : lexi (a :: u) (a :: v) = lexi u v := by
  unfold lexi
  simp [cmn]
theorem lexi_ne {a b : Int} {u v : List Int} (h : ¬ a = b) : lexi (a :: u) (b :: v) = if a < b then -1 else 1 := by
  unfold lexi
  simp [cmn, h]
theorem lexi_neg : ∀ {u v : List Int}, u.length = v.length → lexi u v < 0 → Lx u v
  | [], [], _, h => by simp [lexi, cmn] at h
  | a :: u, b :: v, hl, h => by
    by_cases e : a = b
    · subst e
      rw [lexi_cons] at h
      exact .inr ⟨rfl, lexi_neg (by simpa using hl) h⟩
    · rw [lexi_ne e] at h
      by_cases e2 : a < b
      · exact .inl e2
      · rw [if_neg e2] at h; omega
  | [], _ :: _, h, _ => by simp at h
  | _ :: _, [], h, _ => by simp at h
theorem shlex_sl {u v : List Int} (h : shlex u v < 0) : SL u v := by
  rcases Nat.lt_trichotomy u.length v.length with h1 | h1 | h1
  · exact .inl h1
  · rw [shlex_eq h1] at h
    exact .inr ⟨h1, lexi_neg h1 h⟩
  · rw [shlex_gt h1] at h; omega

/-- What the search has done before its step T. -/
structure Ord_ (nx1 nx2 ot1 ot2 : List (List Int)) (i s t T : Nat) (E : List Ent) : Prop where
  ne : 0 < E.length
  z : (E.getD 0 Ent.zero).w = []
  zp : (E.getD 0 Ent.zero).p = s ∧ (E.getD 0 Ent.zero).q = t
  bk : ∀ k, 0 < k → k < E.length → (E.getD k Ent.zero).j < k ∧ (E.getD k Ent.zero).w = (E.getD (E.getD k Ent.zero).j Ent.zero).w ++ [((E.getD k Ent.zero).x : Int)]
  mono : ∀ k l, 0 < k → k < l → l < E.length → (E.getD k Ent.zero).j * i + (E.getD k Ent.zero).x < (E.getD l Ent.zero).j * i + (E.getD l Ent.zero).x
  xs : ∀ k, 0 < k → k < E.length → (E.getD k Ent.zero).x < i ∧ (E.getD k Ent.zero).j * i + (E.getD k Ent.zero).x < T
  cl : ∀ a y, a < E.length → y < i → a * i + y < T → ∃ c, c < E.length ∧ (E.getD c Ent.zero).p = nN nx1 (E.getD a Ent.zero).p y ∧ (E.getD c Ent.zero).q = nN nx2 (E.getD a Ent.zero).q y ∧ (c = 0 ∨ (E.getD c Ent.zero).j * i + (E.getD c Ent.zero).x ≤ a * i + y)
  ou : ∀ a y, a < E.length → y < i → a * i + y < T → oN ot1 (E.getD a Ent.zero).p y = oN ot2 (E.getD a Ent.zero).q y
  gd : ∀ e, e ∈ E → Gd nx1 nx2 ot1 ot2 i s t e
section
variable {nx1 nx2 ot1 ot2 : List (List Int)} {i n m s t T j x : Nat} {E : List Ent}
theorem pos_uniq {a y j x : Nat} (hy : y < i) (hx : x < i) (h : a * i + y = j * i + x) : a = j ∧ y = x := by
  have h1 : (a * i + y) / i = a := by rw [Nat.mul_comm, Nat.mul_add_div (by omega)]; rw [Nat.div_eq_of_lt hy]; rfl
  have h2 : (j * i + x) / i = j := by rw [Nat.mul_comm, Nat.mul_add_div (by omega)]; rw [Nat.div_eq_of_lt hx]; rfl
  have : a = j := by rw [← h1, ← h2, h]
  subst this
  exact ⟨rfl, by omega⟩
theorem Ord_.one (i s t : Nat) : Ord_ nx1 nx2 ot1 ot2 i s t 0 [⟨s, t, 0, 0, []⟩] where
  ne := by simp
  z := rfl
  zp := ⟨rfl, rfl⟩
  bk := fun k h1 h2 => by simp at h2; omega
  mono := fun k l h1 h2 h3 => by simp at h3; omega
  xs := fun k h1 h2 => by simp at h2; omega
  cl := fun a y _ _ h => absurd h (by omega)
  ou := fun a y _ _ h => absurd h (by omega)
  gd := fun e he => by simp at he; subst he; exact ⟨Wd.nil i, rfl, rfl, rfl⟩
theorem Ord_.step (h : Ord_ nx1 nx2 ot1 ot2 i s t (j * i + x) E) (hj : j < E.length) (hx : x < i) (ho : oN ot1 (E.getD j Ent.zero).p x = oN ot2 (E.getD j Ent.zero).q x) :
    Ord_ nx1 nx2 ot1 ot2 i s t (j * i + x + 1) (addE E (nxE nx1 nx2 j (E.getD j Ent.zero) x)) := by
  have hout : ∀ a y, a < E.length → y < i → a * i + y < j * i + x + 1 → oN ot1 (E.getD a Ent.zero).p y = oN ot2 (E.getD a Ent.zero).q y := fun a y ha hy hl => by
    by_cases e : a * i + y = j * i + x
    · obtain ⟨rfl, rfl⟩ := pos_uniq hy hx e; exact ho
    · exact h.ou a y ha hy (by omega)
  by_cases hh : hasE E (nxE nx1 nx2 j (E.getD j Ent.zero) x).p (nxE nx1 nx2 j (E.getD j Ent.zero) x).q
  · rw [addE_in hh]
    refine ⟨h.ne, h.z, h.zp, h.bk, h.mono, fun k h1 h2 => ⟨(h.xs k h1 h2).1, by have := (h.xs k h1 h2).2; omega⟩, fun a y ha hy hl => ?_, hout, h.gd⟩
    by_cases e : a * i + y = j * i + x
    · obtain ⟨rfl, rfl⟩ := pos_uniq hy hx e
      obtain ⟨c, hc, e1, e2⟩ := hasE_get hh
      refine ⟨c, hc, e1, e2, ?_⟩
      by_cases h0 : c = 0
      · exact .inl h0
      · exact .inr (by have := (h.xs c (by omega) hc).2; omega)
    · exact h.cl a y ha hy (by omega)
  · rw [addE_out hh]
    have hL : (E ++ [nxE nx1 nx2 j (E.getD j Ent.zero) x]).length = E.length + 1 := by simp
    have hp : ∀ k, k < E.length → (E ++ [nxE nx1 nx2 j (E.getD j Ent.zero) x]).getD k Ent.zero = E.getD k Ent.zero := fun k hk => getDE_pre hk
    have hl : (E ++ [nxE nx1 nx2 j (E.getD j Ent.zero) x]).getD E.length Ent.zero = nxE nx1 nx2 j (E.getD j Ent.zero) x := getDE_last
    refine ⟨by omega, by rw [hp 0 h.ne]; exact h.z, by rw [hp 0 h.ne]; exact h.zp, fun k h1 h2 => ?_, fun k l h1 h2 h3 => ?_, fun k h1 h2 => ?_, fun a y ha hy hl2 => ?_, fun a y ha hy hl2 => ?_, fun e he => ?_⟩
    · by_cases hk : k < E.length
      · rw [hp k hk]
        obtain ⟨b1, b2⟩ := h.bk k h1 hk
        exact ⟨b1, by rw [hp _ (by omega)]; exact b2⟩
      · obtain rfl : k = E.length := by omega
        rw [hl]
        exact ⟨hj, by show _ = ((E ++ [nxE nx1 nx2 j (E.getD j Ent.zero) x]).getD j Ent.zero).w ++ _; rw [hp j hj]; rfl⟩
    · by_cases hk : l < E.length
      · rw [hp k (by omega), hp l hk]; exact h.mono k l h1 h2 hk
      · obtain rfl : l = E.length := by omega
        rw [hp k (by omega), hl]
        exact (h.xs k h1 (by omega)).2
    · by_cases hk : k < E.length
      · rw [hp k hk]
        exact ⟨(h.xs k h1 hk).1, by have := (h.xs k h1 hk).2; omega⟩
      · obtain rfl : k = E.length := by omega
        rw [hl]
        exact ⟨hx, by show j * i + x < _; omega⟩
    · have ha2 : a < E.length := by
        by_cases h3 : a < E.length
        · exact h3
        · have : (j + 1) * i ≤ a * i := Nat.mul_le_mul_right i (by omega)
          rw [Nat.succ_mul] at this
          omega
      rw [hp a ha2]
      by_cases e : a * i + y = j * i + x
      · obtain ⟨rfl, rfl⟩ := pos_uniq hy hx e
        exact ⟨E.length, by omega, by rw [hl]; rfl, by rw [hl]; rfl, .inr (by rw [hl]; exact Nat.le_refl _)⟩
      · obtain ⟨c, hc, e1, e2, e3⟩ := h.cl a y ha2 hy (by omega)
        exact ⟨c, by omega, by rw [hp c hc]; exact e1, by rw [hp c hc]; exact e2, by rw [hp c hc]; exact e3⟩
    · have ha2 : a < E.length := by
        by_cases h3 : a < E.length
        · exact h3
        · have : (j + 1) * i ≤ a * i := Nat.mul_le_mul_right i (by omega)
          rw [Nat.succ_mul] at this
          omega
      rw [hp a ha2]
      exact hout a y ha2 hy hl2
    · rcases List.mem_append.1 he with he | he
      · exact h.gd e he
      · simp at he
        subst he
        exact (h.gd _ (getDE_mem hj)).next hx ho
theorem Ord_.round (h : Ord_ nx1 nx2 ot1 ot2 i s t (j * i) E) (hj : j < E.length) : ∀ x, x ≤ i → (∀ a, a < x → oN ot1 (E.getD j Ent.zero).p a = oN ot2 (E.getD j Ent.zero).q a) →
    Ord_ nx1 nx2 ot1 ot2 i s t (j * i + x) (addS nx1 nx2 j (E.getD j Ent.zero) E x)
  | 0, _, _ => h
  | x + 1, hx, ho => by
    have ih := Ord_.round h hj x (by omega) (fun a ha => ho a (by omega))
    obtain ⟨S, hS⟩ := addS_pre (nx1 := nx1) (nx2 := nx2) j (E.getD j Ent.zero) E x
    have hg : (addS nx1 nx2 j (E.getD j Ent.zero) E x).getD j Ent.zero = E.getD j Ent.zero := by rw [hS, getDE_pre hj]
    have h2 := ih.step (by rw [hS, List.length_append]; omega) (by omega) (by rw [hg]; exact ho x (by omega))
    rw [hg] at h2
    exact h2
/-- Words before an entry's word lead to entries before it. -/
theorem Ord_.before (h : Ord_ nx1 nx2 ot1 ot2 i s t T E) : ∀ (N : Nat) (u : List Int) (k : Nat), u.length ≤ N → k < E.length → Wd i u → SL u (E.getD k Ent.zero).w → ∃ c, c < k ∧ (E.getD c Ent.zero).p = runS nx1 s u ∧ (E.getD c Ent.zero).q = runS nx2 t u := by
  intro N
  induction N with
  | zero =>
    intro u k hN hk hu hsl
    obtain rfl : u = [] := List.eq_nil_of_length_eq_zero (by omega)
    by_cases h0 : k = 0
    · subst h0; rw [h.z] at hsl; rcases hsl with h1 | ⟨_, h1⟩ <;> simp [Lx] at h1
    · exact ⟨0, by omega, h.zp.1, h.zp.2⟩
  | succ N ih =>
    intro u k hN hk hu hsl
    by_cases h0 : k = 0
    · subst h0
      rw [h.z] at hsl
      rcases hsl with h1 | ⟨h1, h2⟩
      · simp at h1
      · obtain rfl : u = [] := List.eq_nil_of_length_eq_zero (by simpa using h1)
        simp [Lx] at h2
    · rcases List.eq_nil_or_concat u with rfl | ⟨u', y, rfl⟩
      · exact ⟨0, by omega, h.zp.1, h.zp.2⟩
      · rw [List.concat_eq_append] at hN hu hsl ⊢
        have hu1 : Wd i u' := fun z hz => hu z (List.mem_append.2 (.inl hz))
        obtain ⟨y', rfl, hy⟩ : ∃ y' : Nat, y = y' ∧ y' < i := by have := hu y (List.mem_append.2 (.inr (by simp))); exact ⟨y.toNat, by omega, by omega⟩
        rw [List.length_append] at hN
        have hN : u'.length + 1 ≤ N + 1 := hN
        obtain ⟨b1, b2⟩ := h.bk k (by omega) hk
        obtain ⟨x1, x2⟩ := h.xs k (by omega) hk
        rw [b2] at hsl
        have hfin : ∀ a, a < E.length → a * i + y' < (E.getD k Ent.zero).j * i + (E.getD k Ent.zero).x → (E.getD a Ent.zero).p = runS nx1 s u' → (E.getD a Ent.zero).q = runS nx2 t u' → ∃ c, c < k ∧ (E.getD c Ent.zero).p = runS nx1 s (u' ++ [(y' : Int)]) ∧ (E.getD c Ent.zero).q = runS nx2 t (u' ++ [(y' : Int)]) := fun a ha hlt e1 e2 => by
          obtain ⟨c, hc, c1, c2, c3⟩ := h.cl a y' ha hy (by omega)
          refine ⟨c, ?_, by rw [c1, e1, runS_app]; rfl, by rw [c2, e2, runS_app]; rfl⟩
          rcases c3 with c3 | c3
          · omega
          · rcases Nat.lt_trichotomy c k with h3 | h3 | h3
            · exact h3
            · subst h3; omega
            · have := h.mono k c (by omega) h3 hc; omega
        rcases SL_snoc hsl with h3 | ⟨h3, h4⟩
        · obtain ⟨a, ha, e1, e2⟩ := ih u' _ (by omega) (by omega) hu1 h3
          refine hfin a (by omega) ?_ e1 e2
          have : (a + 1) * i ≤ (E.getD k Ent.zero).j * i := Nat.mul_le_mul_right i ha
          rw [Nat.succ_mul] at this
          omega
        · obtain ⟨_, g2, g3, _⟩ := h.gd _ (getDE_mem (E := E) (k := (E.getD k Ent.zero).j) (by omega))
          rw [← h3] at g2 g3
          exact hfin _ (by omega) (by omega) g2.symm g3.symm
/-- Words before the word of a hit have the same outputs. -/
theorem Ord_.first (h : Ord_ nx1 nx2 ot1 ot2 i s t (j * i) E) (hj : j < E.length) (hd : ∀ a, a < x → oN ot1 (E.getD j Ent.zero).p a = oN ot2 (E.getD j Ent.zero).q a) :
    ∀ (N : Nat) (u : List Int), u.length ≤ N → Wd i u → SL u ((E.getD j Ent.zero).w ++ [(x : Int)]) → runO nx1 ot1 s u = runO nx2 ot2 t u := by
  intro N
  induction N with
  | zero =>
    intro u hN _ _
    obtain rfl : u = [] := List.eq_nil_of_length_eq_zero (by omega)
    rfl
  | succ N ih =>
    intro u hN hu hsl
    rcases List.eq_nil_or_concat u with rfl | ⟨u', y, rfl⟩
    · rfl
    · rw [List.concat_eq_append] at hN hu hsl ⊢
      have hu1 : Wd i u' := fun z hz => hu z (List.mem_append.2 (.inl hz))
      obtain ⟨y', rfl, hy⟩ : ∃ y' : Nat, y = y' ∧ y' < i := by have := hu y (List.mem_append.2 (.inr (by simp))); exact ⟨y.toNat, by omega, by omega⟩
      rw [List.length_append] at hN
      have hN : u'.length + 1 ≤ N + 1 := hN
      have hlen : u'.length < ((E.getD j Ent.zero).w ++ [(x : Int)]).length := by
        rcases hsl with h1 | ⟨h1, _⟩ <;> rw [List.length_append] at h1 <;> simp at h1 ⊢ <;> omega
      have ihu := ih u' (by omega) hu1 (.inl hlen)
      rw [runO_app, runO_app, ihu]
      have key : oN ot1 (runS nx1 s u') y' = oN ot2 (runS nx2 t u') y' := by
        rcases SL_snoc hsl with h3 | ⟨h3, h4⟩
        · obtain ⟨a, ha, e1, e2⟩ := h.before _ u' j (Nat.le_refl _) hj hu1 h3
          have : (a + 1) * i ≤ j * i := Nat.mul_le_mul_right i ha
          rw [Nat.succ_mul] at this
          have := h.ou a y' (by omega) hy (by omega)
          rw [e1, e2] at this
          exact this
        · obtain ⟨_, g2, g3, _⟩ := h.gd _ (getDE_mem hj)
          rw [h3, g2, g3]
          exact hd y' (by omega)
      show _ ++ [oN ot1 (runS nx1 s u') y'] = _ ++ [oN ot2 (runS nx2 t u') y']
      rw [key]
theorem srch_first {v : List Int} : ∀ (k : Nat) (E : List Ent) (j : Nat), Ord_ nx1 nx2 ot1 ot2 i s t (j * i) E → srch nx1 nx2 ot1 ot2 i k E j = some v → ∀ u, Wd i u → SL u v → runO nx1 ot1 s u = runO nx2 ot2 t u
  | 0, _, _, _, h => by simp [srch] at h
  | k + 1, E, j, hE, h => by
    rw [srch] at h
    by_cases hj : j < E.length
    · rw [if_pos hj] at h
      cases hd : fD ot1 ot2 (E.getD j Ent.zero) i with
      | some x =>
        rw [hd] at h
        injection h with h
        subst h
        obtain ⟨_, _, h3⟩ := fD_some hd
        exact fun u hu hs => hE.first hj h3 _ u (Nat.le_refl _) hu hs
      | none =>
        rw [hd] at h
        have h2 := hE.round hj i (Nat.le_refl _) (fD_none hd)
        rw [← Nat.succ_mul] at h2
        exact srch_first k _ _ h2 h
    · rw [if_neg hj] at h; exact absurd h (by simp)
theorem dst_first {v : List Int} (h : dst nx1 ot1 nx2 ot2 i n m s t = some v) : ∀ u, Wd i u → SL u v → runO nx1 ot1 s u = runO nx2 ot2 t u :=
  srch_first _ _ 0 (by rw [Nat.zero_mul]; exact Ord_.one i s t) h
theorem dst_wd {v : List Int} (h : dst nx1 ot1 nx2 ot2 i n m s t = some v) : Wd i v ∧ ¬ runO nx1 ot1 s v = runO nx2 ot2 t v := by
  obtain ⟨w, x, rfl, hx, hw, h1, h2⟩ := dst_sound h
  refine ⟨hw.app (Wd.one hx), fun e => ?_⟩
  rw [runO_app, runO_app, h1] at e
  have h3 := List.append_cancel_left e
  simp only [runO, Int.toNat_natCast, List.cons.injEq] at h3
  exact h2 h3.1
theorem dst_comm {s1 s2 : Nat} (hM : Mok i s1 n nx1 ot1) (hN : Mok i s2 m nx2 ot2) (hs : s < n) (ht : t < m) : dst nx2 ot2 nx1 ot1 i m n t s = dst nx1 ot1 nx2 ot2 i n m s t := by
  cases h1 : dst nx1 ot1 nx2 ot2 i n m s t with
  | none => exact (dst_none hN hM ht hs).2 ((dst_none hM hN hs ht).1 h1).symm
  | some v =>
    cases h2 : dst nx2 ot2 nx1 ot1 i m n t s with
    | none => exact absurd ((dst_none hN hM ht hs).1 h2).symm (dst_not h1)
    | some v' =>
      obtain ⟨w1, d1⟩ := dst_wd h1
      obtain ⟨w2, d2⟩ := dst_wd h2
      rcases SL_tri (u := v) (v := v') with h3 | h3 | h3
      · exact absurd (dst_first h2 v w1 h3).symm d1
      · rw [h3]
      · exact absurd (dst_first h1 v' w2 h3).symm d2
end
end Go.Proofs.Ythjnghldedfdoaa
end

section
/- A search over pairs by any step: what is found, in the order of the first words that lead to it. -/
namespace Go.Proofs.Ythjnghldedfdoaa

/-- The pair behind a word. -/
def runF (F : Nat × Nat → Nat → Nat × Nat) : Nat × Nat → List Int → Nat × Nat
  | p, [] => p
  | p, x :: u => runF F (F p x.toNat) u
theorem runF_app (F : Nat × Nat → Nat → Nat × Nat) : ∀ (u v : List Int) (p : Nat × Nat), runF F p (u ++ v) = runF F (runF F p u) v
  | [], _, _ => rfl
  | _ :: u, v, _ => runF_app F u v _
section
variable (F : Nat × Nat → Nat → Nat × Nat)
def nxG (j : Nat) (e : Ent) (x : Nat) : Ent := ⟨(F e.pr x).1, (F e.pr x).2, j, x, e.w ++ [(x : Int)]⟩
def adG (j : Nat) (e : Ent) (E : List Ent) : Nat → List Ent
  | 0 => E
  | x + 1 => addE (adG j e E x) (nxG F j e x)
def exG (i : Nat) : Nat → List Ent → Nat → List Ent
  | 0, E, _ => E
  | k + 1, E, j => if j < E.length then exG i k (adG F j (E.getD j Ent.zero) E i) (j + 1) else E
/-- All that is found from a pair. -/
def fdG (i n m s t : Nat) : List Ent := exG F i (n * m) [⟨s, t, 0, 0, []⟩] 0
end
/-- The step stays within n times m pairs. -/
def Stp (F : Nat × Nat → Nat → Nat × Nat) (i n m : Nat) : Prop := ∀ p q x, p < n → q < m → x < i → (F (p, q) x).1 < n ∧ (F (p, q) x).2 < m
section
variable {F : Nat × Nat → Nat → Nat × Nat} {i n m s t j x T : Nat} {E : List Ent} {e : Ent}
theorem adG_pre (F : Nat × Nat → Nat → Nat × Nat) (j : Nat) (e : Ent) (E : List Ent) : ∀ x, ∃ T, adG F j e E x = E ++ T
  | 0 => ⟨[], by simp [adG]⟩
  | x + 1 => by
    obtain ⟨T, hT⟩ := adG_pre F j e E x
    show ∃ T, addE (adG F j e E x) _ = E ++ T
    unfold addE
    split
    · exact ⟨T, hT⟩
    · exact ⟨T ++ [nxG F j e x], by rw [hT, List.append_assoc]⟩
theorem adG_ens (hF : Stp F i n m) (h : Ens n m s t E) (hj : j < E.length) : ∀ x, x ≤ i → Ens n m s t (adG F j (E.getD j Ent.zero) E x)
  | 0, _ => h
  | x + 1, hx => by
    have ih := adG_ens hF h hj x (by omega)
    obtain ⟨T, hT⟩ := adG_pre F j (E.getD j Ent.zero) E x
    obtain ⟨h1, h2⟩ := h.lt _ (getDE_mem hj)
    show Ens n m s t (addE (adG F j (E.getD j Ent.zero) E x) _)
    by_cases hh : hasE (adG F j (E.getD j Ent.zero) E x) (nxG F j (E.getD j Ent.zero) x).p (nxG F j (E.getD j Ent.zero) x).q
    · rw [addE_in hh]; exact ih
    · rw [addE_out hh]
      refine ih.add (hF _ _ x h1 h2 (by omega)) ?_ ?_ hh
      · rw [hT, List.length_append]; show j < _; omega
      · show _ = ((adG F j (E.getD j Ent.zero) E x).getD j Ent.zero).w ++ _
        rw [hT, getDE_pre hj]; rfl
theorem exG_fuel (hF : Stp F i n m) : ∀ (k : Nat) (E : List Ent) (j : Nat), Ens n m s t E → n * m ≤ k + j → exG F i (k + 1) E j = exG F i k E j
  | 0, E, j, h, hk => by
    have := h.len
    unfold exG
    rw [if_neg (by omega)]
  | k + 1, E, j, h, hk => by
    rw [exG]
    conv => rhs; rw [exG]
    by_cases hj : j < E.length
    · rw [if_pos hj, if_pos hj]
      exact exG_fuel hF k _ _ (adG_ens hF h hj i (Nat.le_refl _)) (by omega)
    · rw [if_neg hj, if_neg hj]
theorem exG_on (hF : Stp F i n m) (h : Ens n m s t E) (hj : j < E.length) : exG F i (n * m) (adG F j (E.getD j Ent.zero) E i) (j + 1) = exG F i (n * m) E j := by
  have h1 := h.len
  obtain ⟨k, hk⟩ : ∃ k, n * m = k + 1 := ⟨n * m - 1, by omega⟩
  have h2 : exG F i (k + 1) E j = exG F i k (adG F j (E.getD j Ent.zero) E i) (j + 1) := by rw [exG, if_pos hj]
  rw [hk, h2]
  exact exG_fuel hF k _ _ (adG_ens hF h hj i (Nat.le_refl _)) (by omega)
theorem exG_end {k : Nat} (hj : ¬ j < E.length) : exG F i k E j = E := by
  cases k with
  | zero => rfl
  | succ k => rw [exG, if_neg hj]
theorem exG_ens (hF : Stp F i n m) : ∀ (k : Nat) (E : List Ent) (j : Nat), Ens n m s t E → Ens n m s t (exG F i k E j)
  | 0, _, _, h => h
  | k + 1, E, j, h => by
    rw [exG]
    by_cases hj : j < E.length
    · rw [if_pos hj]; exact exG_ens hF k _ _ (adG_ens hF h hj i (Nat.le_refl _))
    · rw [if_neg hj]; exact h
theorem exG_pre (F : Nat × Nat → Nat → Nat × Nat) (i : Nat) : ∀ (k : Nat) (E : List Ent) (j : Nat), ∃ T, exG F i k E j = E ++ T
  | 0, E, _ => ⟨[], by simp [exG]⟩
  | k + 1, E, j => by
    rw [exG]
    by_cases hj : j < E.length
    · rw [if_pos hj]
      obtain ⟨T, hT⟩ := adG_pre F j (E.getD j Ent.zero) E i
      obtain ⟨U, hU⟩ := exG_pre F i k (adG F j (E.getD j Ent.zero) E i) (j + 1)
      exact ⟨T ++ U, by rw [hU, hT, List.append_assoc]⟩
    · rw [if_neg hj]; exact ⟨[], by simp⟩
theorem fdG_ens (hF : Stp F i n m) (hs : s < n) (ht : t < m) : Ens n m s t (fdG F i n m s t) := exG_ens hF _ _ _ (Ens.one hs ht)
/-- What the search has done before its step T. -/
structure OrdG (F : Nat × Nat → Nat → Nat × Nat) (i s t T : Nat) (E : List Ent) : Prop where
  ne : 0 < E.length
  z : (E.getD 0 Ent.zero).w = []
  zp : (E.getD 0 Ent.zero).p = s ∧ (E.getD 0 Ent.zero).q = t
  bk : ∀ k, 0 < k → k < E.length → (E.getD k Ent.zero).j < k ∧ (E.getD k Ent.zero).w = (E.getD (E.getD k Ent.zero).j Ent.zero).w ++ [((E.getD k Ent.zero).x : Int)]
  mono : ∀ k l, 0 < k → k < l → l < E.length → (E.getD k Ent.zero).j * i + (E.getD k Ent.zero).x < (E.getD l Ent.zero).j * i + (E.getD l Ent.zero).x
  xs : ∀ k, 0 < k → k < E.length → (E.getD k Ent.zero).x < i ∧ (E.getD k Ent.zero).j * i + (E.getD k Ent.zero).x < T
  cl : ∀ a y, a < E.length → y < i → a * i + y < T → ∃ c, c < E.length ∧ (E.getD c Ent.zero).pr = F (E.getD a Ent.zero).pr y ∧ (c = 0 ∨ (E.getD c Ent.zero).j * i + (E.getD c Ent.zero).x ≤ a * i + y)
  gd : ∀ e, e ∈ E → Wd i e.w ∧ runF F (s, t) e.w = e.pr
theorem OrdG.one (i s t : Nat) : OrdG F i s t 0 [⟨s, t, 0, 0, []⟩] where
  ne := by simp
  z := rfl
  zp := ⟨rfl, rfl⟩
  bk := fun k h1 h2 => by simp at h2; omega
  mono := fun k l h1 h2 h3 => by simp at h3; omega
  xs := fun k h1 h2 => by simp at h2; omega
  cl := fun a y _ _ h => absurd h (by omega)
  gd := fun e he => by simp at he; subst he; exact ⟨Wd.nil i, rfl⟩
theorem OrdG.step (h : OrdG F i s t (j * i + x) E) (hj : j < E.length) (hx : x < i) : OrdG F i s t (j * i + x + 1) (addE E (nxG F j (E.getD j Ent.zero) x)) := by
  by_cases hh : hasE E (nxG F j (E.getD j Ent.zero) x).p (nxG F j (E.getD j Ent.zero) x).q
  · rw [addE_in hh]
    refine ⟨h.ne, h.z, h.zp, h.bk, h.mono, fun k h1 h2 => ⟨(h.xs k h1 h2).1, by have := (h.xs k h1 h2).2; omega⟩, fun a y ha hy hl => ?_, h.gd⟩
    by_cases e : a * i + y = j * i + x
    · obtain ⟨rfl, rfl⟩ := pos_uniq hy hx e
      obtain ⟨c, hc, e1, e2⟩ := hasE_get hh
      refine ⟨c, hc, Prod.ext e1 e2, ?_⟩
      by_cases h0 : c = 0
      · exact .inl h0
      · exact .inr (by have := (h.xs c (by omega) hc).2; omega)
    · exact h.cl a y ha hy (by omega)
  · rw [addE_out hh]
    have hL : (E ++ [nxG F j (E.getD j Ent.zero) x]).length = E.length + 1 := by simp
    have hp : ∀ k, k < E.length → (E ++ [nxG F j (E.getD j Ent.zero) x]).getD k Ent.zero = E.getD k Ent.zero := fun k hk => getDE_pre hk
    have hl : (E ++ [nxG F j (E.getD j Ent.zero) x]).getD E.length Ent.zero = nxG F j (E.getD j Ent.zero) x := getDE_last
    refine ⟨by omega, by rw [hp 0 h.ne]; exact h.z, by rw [hp 0 h.ne]; exact h.zp, fun k h1 h2 => ?_, fun k l h1 h2 h3 => ?_, fun k h1 h2 => ?_, fun a y ha hy hl2 => ?_, fun e he => ?_⟩
    · by_cases hk : k < E.length
      · rw [hp k hk]
        obtain ⟨b1, b2⟩ := h.bk k h1 hk
        exact ⟨b1, by rw [hp _ (by omega)]; exact b2⟩
      · obtain rfl : k = E.length := by omega
        rw [hl]
        exact ⟨hj, by show _ = ((E ++ [nxG F j (E.getD j Ent.zero) x]).getD j Ent.zero).w ++ _; rw [hp j hj]; rfl⟩
    · by_cases hk : l < E.length
      · rw [hp k (by omega), hp l hk]; exact h.mono k l h1 h2 hk
      · obtain rfl : l = E.length := by omega
        rw [hp k (by omega), hl]
        exact (h.xs k h1 (by omega)).2
    · by_cases hk : k < E.length
      · rw [hp k hk]
        exact ⟨(h.xs k h1 hk).1, by have := (h.xs k h1 hk).2; omega⟩
      · obtain rfl : k = E.length := by omega
        rw [hl]
        exact ⟨hx, by show j * i + x < _; omega⟩
    · have ha2 : a < E.length := by
        by_cases h3 : a < E.length
        · exact h3
        · have : (j + 1) * i ≤ a * i := Nat.mul_le_mul_right i (by omega)
          rw [Nat.succ_mul] at this
          omega
      rw [hp a ha2]
      by_cases e : a * i + y = j * i + x
      · obtain ⟨rfl, rfl⟩ := pos_uniq hy hx e
        exact ⟨E.length, by omega, by rw [hl]; rfl, .inr (by rw [hl]; exact Nat.le_refl _)⟩
      · obtain ⟨c, hc, e1, e3⟩ := h.cl a y ha2 hy (by omega)
        exact ⟨c, by omega, by rw [hp c hc]; exact e1, by rw [hp c hc]; exact e3⟩
    · rcases List.mem_append.1 he with he | he
      · exact h.gd e he
      · simp at he
        subst he
        obtain ⟨g1, g2⟩ := h.gd _ (getDE_mem hj)
        refine ⟨g1.app (Wd.one hx), ?_⟩
        show runF F (s, t) ((E.getD j Ent.zero).w ++ [(x : Int)]) = _
        rw [runF_app, g2]
        rfl
theorem OrdG.round (h : OrdG F i s t (j * i) E) (hj : j < E.length) : ∀ x, x ≤ i → OrdG F i s t (j * i + x) (adG F j (E.getD j Ent.zero) E x)
  | 0, _ => h
  | x + 1, hx => by
    have ih := OrdG.round h hj x (by omega)
    obtain ⟨S, hS⟩ := adG_pre F j (E.getD j Ent.zero) E x
    have hg : (adG F j (E.getD j Ent.zero) E x).getD j Ent.zero = E.getD j Ent.zero := by rw [hS, getDE_pre hj]
    have h2 := ih.step (by rw [hS, List.length_append]; omega) (show x < i by omega)
    rw [hg] at h2
    exact h2
theorem exG_ord (hF : Stp F i n m) : ∀ (k : Nat) (E : List Ent) (j : Nat), Ens n m s t E → OrdG F i s t (j * i) E → n * m ≤ k + j → j ≤ E.length → OrdG F i s t ((exG F i k E j).length * i) (exG F i k E j)
  | 0, E, j, hE, hO, hk, hj => by
    have := hE.len
    obtain rfl : j = E.length := by omega
    exact hO
  | k + 1, E, j, hE, hO, hk, hj => by
    rw [exG]
    by_cases h1 : j < E.length
    · rw [if_pos h1]
      have h2 := hO.round h1 i (Nat.le_refl _)
      rw [← Nat.succ_mul] at h2
      obtain ⟨T, hT⟩ := adG_pre F j (E.getD j Ent.zero) E i
      exact exG_ord hF k _ _ (adG_ens hF hE h1 i (Nat.le_refl _)) h2 (by omega) (by rw [hT, List.length_append]; omega)
    · rw [if_neg h1]
      obtain rfl : j = E.length := by omega
      exact hO
theorem fdG_ord (hF : Stp F i n m) (hs : s < n) (ht : t < m) : OrdG F i s t ((fdG F i n m s t).length * i) (fdG F i n m s t) :=
  exG_ord hF _ _ 0 (Ens.one hs ht) (by rw [Nat.zero_mul]; exact OrdG.one i s t) (by omega) (by simp)
/-- Words before an entry's word lead to entries before it. -/
theorem OrdG.before (h : OrdG F i s t T E) : ∀ (N : Nat) (u : List Int) (k : Nat), u.length ≤ N → k < E.length → Wd i u → SL u (E.getD k Ent.zero).w → ∃ c, c < k ∧ (E.getD c Ent.zero).pr = runF F (s, t) u := by
  intro N
  induction N with
  | zero =>
    intro u k hN hk hu hsl
    obtain rfl : u = [] := List.eq_nil_of_length_eq_zero (by omega)
    by_cases h0 : k = 0
    · subst h0; rw [h.z] at hsl; rcases hsl with h1 | ⟨_, h1⟩ <;> simp [Lx] at h1
    · exact ⟨0, by omega, Prod.ext h.zp.1 h.zp.2⟩
  | succ N ih =>
    intro u k hN hk hu hsl
    by_cases h0 : k = 0
    · subst h0
      rw [h.z] at hsl
      rcases hsl with h1 | ⟨h1, h2⟩
      · simp at h1
      · obtain rfl : u = [] := List.eq_nil_of_length_eq_zero (by simpa using h1)
        simp [Lx] at h2
    · rcases List.eq_nil_or_concat u with rfl | ⟨u', y, rfl⟩
      · exact ⟨0, by omega, Prod.ext h.zp.1 h.zp.2⟩
      · rw [List.concat_eq_append] at hN hu hsl ⊢
        have hu1 : Wd i u' := fun z hz => hu z (List.mem_append.2 (.inl hz))
        obtain ⟨y', rfl, hy⟩ : ∃ y' : Nat, y = y' ∧ y' < i := by have := hu y (List.mem_append.2 (.inr (by simp))); exact ⟨y.toNat, by omega, by omega⟩
        rw [List.length_append] at hN
        have hN : u'.length + 1 ≤ N + 1 := hN
        obtain ⟨b1, b2⟩ := h.bk k (by omega) hk
        obtain ⟨x1, x2⟩ := h.xs k (by omega) hk
        rw [b2] at hsl
        have hfin : ∀ a, a < E.length → a * i + y' < (E.getD k Ent.zero).j * i + (E.getD k Ent.zero).x → (E.getD a Ent.zero).pr = runF F (s, t) u' → ∃ c, c < k ∧ (E.getD c Ent.zero).pr = runF F (s, t) (u' ++ [(y' : Int)]) := fun a ha hlt e1 => by
          obtain ⟨c, hc, c1, c3⟩ := h.cl a y' ha hy (by omega)
          refine ⟨c, ?_, by rw [c1, e1, runF_app]; rfl⟩
          rcases c3 with c3 | c3
          · omega
          · rcases Nat.lt_trichotomy c k with h3 | h3 | h3
            · exact h3
            · subst h3; omega
            · have := h.mono k c (by omega) h3 hc; omega
        rcases SL_snoc hsl with h3 | ⟨h3, h4⟩
        · obtain ⟨a, ha, e1⟩ := ih u' _ (by omega) (by omega) hu1 h3
          refine hfin a (by omega) ?_ e1
          have : (a + 1) * i ≤ (E.getD k Ent.zero).j * i := Nat.mul_le_mul_right i ha
          rw [Nat.succ_mul] at this
          omega
        · obtain ⟨_, g2⟩ := h.gd _ (getDE_mem (E := E) (k := (E.getD k Ent.zero).j) (by omega))
          rw [← h3] at g2
          exact hfin _ (by omega) (by omega) g2.symm
/-- Every word leads to a pair that is found. -/
theorem OrdG.all (h : OrdG F i s t (E.length * i) E) : ∀ (N : Nat) (u : List Int), u.length ≤ N → Wd i u → ∃ c, c < E.length ∧ (E.getD c Ent.zero).pr = runF F (s, t) u := by
  intro N
  induction N with
  | zero =>
    intro u hN _
    obtain rfl : u = [] := List.eq_nil_of_length_eq_zero (by omega)
    exact ⟨0, h.ne, Prod.ext h.zp.1 h.zp.2⟩
  | succ N ih =>
    intro u hN hu
    rcases List.eq_nil_or_concat u with rfl | ⟨u', y, rfl⟩
    · exact ⟨0, h.ne, Prod.ext h.zp.1 h.zp.2⟩
    · rw [List.concat_eq_append] at hN hu ⊢
      rw [List.length_append] at hN
      have hN : u'.length + 1 ≤ N + 1 := hN
      have hu1 : Wd i u' := fun z hz => hu z (List.mem_append.2 (.inl hz))
      obtain ⟨y', rfl, hy⟩ : ∃ y' : Nat, y = y' ∧ y' < i := by have := hu y (List.mem_append.2 (.inr (by simp))); exact ⟨y.toNat, by omega, by omega⟩
      obtain ⟨a, ha, e⟩ := ih u' (by omega) hu1
      have hlt : a * i + y' < E.length * i := by
        have : (a + 1) * i ≤ E.length * i := Nat.mul_le_mul_right i ha
        rw [Nat.succ_mul] at this
        omega
      obtain ⟨c, hc, c1, _⟩ := h.cl a y' ha hy hlt
      exact ⟨c, hc, by rw [c1, e, runF_app]; rfl⟩
theorem getDE_at {E : List Ent} {k : Nat} (h : k < E.length) : E[k] = E.getD k Ent.zero := by
  rw [List.getD_eq_getElem?_getD, List.getElem?_eq_getElem h]; rfl
/-- The place of a pair. -/
def plE (E : List Ent) (y : Nat × Nat) : Nat := (E.map Ent.pr).idxOf y
theorem plE_pre {E T : List Ent} {y : Nat × Nat} (h : y ∈ E.map Ent.pr) : plE (E ++ T) y = plE E y := by
  unfold plE
  rw [List.map_append, List.idxOf_append, if_pos h]
theorem plE_new {E : List Ent} {e : Ent} (h : ¬ e.pr ∈ E.map Ent.pr) : plE (E ++ [e]) e.pr = E.length := by
  unfold plE
  rw [List.map_append, List.idxOf_append, if_neg h]
  simp
theorem plE_lt {E : List Ent} {y : Nat × Nat} (h : y ∈ E.map Ent.pr) : plE E y < E.length := by
  have := List.idxOf_lt_length_of_mem h
  simpa [plE] using this
theorem plE_at {E : List Ent} {y : Nat × Nat} (h : y ∈ E.map Ent.pr) : (E.getD (plE E y) Ent.zero).pr = y := by
  have h1 := plE_lt h
  have h2 : (E.map Ent.pr)[plE E y]'(by simpa using h1) = y := List.getElem_idxOf (by simpa [plE] using h1)
  rw [List.getElem_map, getDE_at h1] at h2
  exact h2
end
end Go.Proofs.Ythjnghldedfdoaa
end

section
/- Reach of a machine. -/
namespace Go.Proofs.Ythjnghldedfdoaa
open Go.RowKit

theorem infob : (Try.prog.info? 4).map (fun i => (i.zero, i.size, i.bytes)) = some (some (.bool false), 1, 1) := by kernel_rfl

/-- The row of the seen states. -/
def Seen (w : World) (g : Nat) (bs : List Bool) : Prop := w.heap[g]? = some (.cells (bs.map Value.bool).toArray 4 (0, 0))
theorem Seen.at_ {w : World} {g : Nat} {bs : List Bool} (h : Seen w g bs) {x : Nat} (hx : x < bs.length) : w.cell? ⟨g, x, none⟩ = some (.bool (bs.getD x false)) ∧ w.frozen? ⟨g, x, none⟩ = false := by
  refine ⟨?_, frozen_of_row w g x _ _ h⟩
  rw [cell_of_row w g x _ _ (0, 0) h]
  simp [List.getD, hx]
theorem Seen.set {w : World} {g : Nat} {bs : List Bool} (h : Seen w g bs) (x : Nat) (b : Bool) : Seen (w.setCell ⟨g, x, none⟩ (.bool b)) g (bs.set x b) := by
  have := heap_setCell_same w g x _ _ (Value.bool b) h
  unfold Seen
  rw [this]
  simp [List.map_set]
theorem Seen.of_below {w w' : World} {g : Nat} {bs : List Bool} (h : Seen w g bs) {b : Nat} (hb : Below b w w') (hg : g < b) : Seen w' g bs := (hb.block g hg).trans h

theorem made_bools (n : Nat) : madeCells (Value.bool false).cells (n * 1) = ((List.replicate n false).map Value.bool).toArray := by
  apply Array.ext'
  rw [show (Value.bool false).cells = #[Value.bool false] from rfl, Nat.mul_one, toList_madeCells_one, List.map_replicate]

/-- make([]bool, n). -/
theorem wpList_make_bools {ops : Array Oper} {rest : List Oper} {o : Oper} {a : Act} {Q : Exit → Act → World → Prop} (w : World) (hg : o.guard = none) (l c : Operand) (hop : o.op = Op.makeSlice 23 l c)
    (kl kc : IntKind) (n : Nat) (hl : a.eval l = .int kl n) (hc : a.eval c = .int kc n) (hn : n ≤ 17592186044416)
    (hK : ∀ w', Seen w' w.heap.size (List.replicate n false) → Below w.heap.size w w' → wpList Try.prog ops Q rest (a.put o.dst (.slice (some ⟨w.heap.size, 0, none⟩) n n)) w') :
    wpList Try.prog ops Q (o :: rest) a w := by
  obtain ⟨i, hi, hz0, hz1, hz2⟩ := info_parts infob
  refine wpList_plain hg fun K hK' => ?_
  have hr := run_make (P := Try.prog) w 23 4 i (.bool false) Try.underlying23 hi hz0 kl kc n n (by omega) (by omega) (by rw [hz2]; omega) (by omega)
  rw [hz1, Int.toNat_natCast, made_bools] at hr
  have hS : Seen (w.alloc (.cells ((List.replicate n false).map Value.bool).toArray 4)) w.heap.size (List.replicate n false) := heap_alloc_new w _
  have hB := alloc_below w (.cells ((List.replicate n false).map Value.bool).toArray 4)
  generalize w.alloc (.cells ((List.replicate n false).map Value.bool).toArray 4) = w' at hr hS hB
  unfold Oper.wp
  simp [execOp, hop, hl, hc, hr, Result.andThen]
  exact hK' _ _ (hK w' hS hB)

end Go.Proofs.Ythjnghldedfdoaa
end

section
/- The box of an automaton; lists of truth values. -/
namespace Go.Proofs.Ythjnghldedfdoaa
open Go.RowKit

/-- The block of an automaton. -/
def Dblk (w : World) (g : Nat) (a b c d : Value) : Prop := w.heap[g]? = some (.cells #[a, b, c, d] 25 (0, 0))
theorem dfa_box (w : World) (a b c d : Value) : Dblk (w.alloc (.cells #[a, b, c, d] 25)) w.heap.size a b c d := heap_alloc_new _ _
theorem Dblk.cells {w : World} {g : Nat} {a b c d : Value} (h : Dblk w g a b c d) :
    w.cell? ⟨g, 0, none⟩ = some a ∧ w.cell? ⟨g, 1, none⟩ = some b ∧ w.cell? ⟨g, 2, none⟩ = some c ∧ w.cell? ⟨g, 3, none⟩ = some d ∧ w.frozen? ⟨g, 0, none⟩ = false ∧ w.frozen? ⟨g, 1, none⟩ = false ∧ w.frozen? ⟨g, 2, none⟩ = false ∧ w.frozen? ⟨g, 3, none⟩ = false :=
  ⟨cell_of_row w g 0 _ _ (0, 0) h, cell_of_row w g 1 _ _ (0, 0) h, cell_of_row w g 2 _ _ (0, 0) h, cell_of_row w g 3 _ _ (0, 0) h, frozen_of_row w g 0 _ _ h, frozen_of_row w g 1 _ _ h, frozen_of_row w g 2 _ _ h, frozen_of_row w g 3 _ _ h⟩
theorem Dblk.kept {w w' : World} {g : Nat} {a b c d : Value} (h : Dblk w g a b c d) {k : Nat} (hb : Below k w w') (hg : g < k) : Dblk w' g a b c d := (hb.block g hg).trans h
theorem Dblk.on9 {w w' : World} {g : Nat} {a b c d : Value} (h : Dblk w g a b c d) (hb : Below w.heap.size w w') : Dblk w' g a b c d := h.kept hb (heap_lt h)
/-- A list of truth values in memory. -/
def Bools (w : World) (A : Option Addr) (n : Nat) (bs : List Bool) : Prop :=
  bs.length = n ∧ n ≤ 17592186044416 ∧ (0 < n → ∃ b off, A = some ⟨b, off, none⟩ ∧ b < w.heap.size ∧ ∀ j, j < n → w.cell? ⟨b, off + j, none⟩ = some (.bool (bs.getD j false)))
theorem Bools.below {w w' : World} {A : Option Addr} {n : Nat} {bs : List Bool} (h : Bools w A n bs) (hb : Below w.heap.size w w') : Bools w' A n bs :=
  ⟨h.1, h.2.1, fun h0 => by
    obtain ⟨b, off, e, hlt, hc⟩ := h.2.2 h0
    exact ⟨b, off, e, Nat.lt_of_lt_of_le hlt hb.size, fun j hj => (hb.cell (p := ⟨b, off + j, none⟩) hlt).trans (hc j hj)⟩⟩
theorem Bools.at_ {w : World} {A : Option Addr} {n : Nat} {bs : List Bool} (h : Bools w A n bs) {k : Nat} (hk : k < n) :
    ∃ b off, A = some ⟨b, off, none⟩ ∧ b < w.heap.size ∧ w.cell? ⟨b, off + k, none⟩ = some (.bool (bs.getD k false)) := by
  obtain ⟨b, off, e, hlt, hc⟩ := h.2.2 (by omega)
  exact ⟨b, off, e, hlt, hc k hk⟩
end Go.Proofs.Ythjnghldedfdoaa
end

section
/- The pairs that are found, in memory. -/
namespace Go.Proofs.Ythjnghldedfdoaa
open Go.RowKit

theorem keyT_pair : KeyT 117 82 := ⟨Try.underlying117, Go.Maps.Keyed.of_law (deep_law_laid laidOutB_ (m := 3) (by omega) (of_decide_eq_true (by kernel_rfl)) (by kernel_rfl) (by rw [Try.underlying82]))⟩
theorem cells_pair : Try.prog.cellsOf 82 = 2 := by kernel_rfl
theorem isK_pair {a b : Nat} (ha : a ≤ 4611686018427387904) (hb : b ≤ 4611686018427387904) : IsK 82 [(a : Int), (b : Int)] := by
  refine keyOf_arr Try.underlying82 (fun x hl hx => ?_) (by kernel_rfl) (by rw [cells_pair]; rfl) ?_
  · obtain ⟨D, hD⟩ : ∃ D, Try.prog.types.size + 1 = D + 2 := ⟨Try.prog.types.size - 1, by
      have h0 : decide (0 < Try.prog.types.size) = true := by kernel_rfl
      have h1 := of_decide_eq_true h0
      omega⟩
    rw [hD]
    exact keyLits_row Try.underlying82 cells_pair (by rw [hl, cells_pair]) hx
  · intro x hx
    simp at hx
    rcases hx with rfl | rfl <;> exact I64.mk (by omega) (by omega)

def cellsL (e : Ent) : List Value := [.int .i64 e.p, .int .i64 e.q]
def cellsO (e : Ent) : List Value := [.int .i64 e.j, .int .i64 e.x]
def keyE (e : Ent) : List Int := [(e.p : Int), (e.q : Int)]
theorem keyE_inj {E : List Ent} {e : Ent} : keyE e ∈ E.map keyE ↔ hasE E e.p e.q := by
  unfold hasE
  simp only [List.mem_map, keyE, Ent.pr]
  constructor
  · rintro ⟨f, hf, h⟩
    simp at h
    exact ⟨f, hf, by simp; omega⟩
  · rintro ⟨f, hf, h⟩
    simp at h
    exact ⟨f, hf, by simp; omega⟩
/-- The place of a pair. -/
def plcE (E : List Ent) (p q : Nat) : Nat := (E.map Ent.pr).idxOf (p, q)
theorem keyE_idx {e : Ent} : ∀ {E : List Ent}, (E.map keyE).idxOf (keyE e) = plcE E e.p e.q
  | [] => rfl
  | f :: E => by
    have ih := keyE_idx (e := e) (E := E)
    unfold plcE at ih ⊢
    rw [List.map_cons, List.map_cons, List.idxOf_cons, List.idxOf_cons, ih]
    by_cases h : f.p = e.p ∧ f.q = e.q
    · have h1 : (keyE f == keyE e) = true := by simp [keyE, h.1, h.2]
      have h2 : (Ent.pr f == (e.p, e.q)) = true := by simp [Ent.pr, h.1, h.2]
      rw [h1, h2]
    · have h1 : (keyE f == keyE e) = false := by
        rw [beq_eq_false_iff_ne]
        intro H
        simp [keyE] at H
        exact h (by omega)
      have h2 : (Ent.pr f == (e.p, e.q)) = false := by
        rw [beq_eq_false_iff_ne]
        intro H
        simp [Ent.pr] at H
        exact h H
      rw [h1, h2]
/-- The discovery E at block g, its rows and its map above base. -/
structure Disc (w : World) (base g : Nat) (E : List Ent) (A B : Option Addr) (c d gm : Nat) : Prop where
  blk : w.heap[g]? = some (.cells #[.slice A E.length c, .slice B E.length d, .map (some gm)] 119 (0, 0))
  lst : Rws w base 82 2 (.slice A E.length c) (E.map cellsL)
  org : Rws w base 124 2 (.slice B E.length d) (E.map cellsO)
  num : NumIs 82 w gm (E.map keyE)
  hm : base ≤ gm
section
variable {w w' : World} {base g : Nat} {E : List Ent} {A B : Option Addr} {c d gm : Nat}
theorem Disc.cells (h : Disc w base g E A B c d gm) : w.cell? ⟨g, 0, none⟩ = some (.slice A E.length c) ∧ w.cell? ⟨g, 1, none⟩ = some (.slice B E.length d) ∧ w.cell? ⟨g, 2, none⟩ = some (.map (some gm)) ∧ w.frozen? ⟨g, 0, none⟩ = false ∧ w.frozen? ⟨g, 1, none⟩ = false ∧ w.frozen? ⟨g, 2, none⟩ = false :=
  ⟨cell_of_row w g 0 _ _ (0, 0) h.blk, cell_of_row w g 1 _ _ (0, 0) h.blk, cell_of_row w g 2 _ _ (0, 0) h.blk, frozen_of_row w g 0 _ _ h.blk, frozen_of_row w g 1 _ _ h.blk, frozen_of_row w g 2 _ _ h.blk⟩
theorem Disc.kept (h : Disc w base g E A B c d gm) (hb : Below w.heap.size w w') : Disc w' base g E A B c d gm :=
  ⟨(hb.block g (heap_lt h.blk)).trans h.blk, h.lst.kept hb, h.org.kept hb, h.num.below hb h.num.lt, h.hm⟩
end
/-- An append leaves the blocks but that of the row; the new row lies there or in a new block. -/
def RowMv (w w1 : World) (v v1 : Value) : Prop := (∀ b, b < w.heap.size → Value.ownBlock v ≠ some b → w1.heap[b]? = w.heap[b]?) ∧ (Value.ownBlock v1 = Value.ownBlock v ∨ ∃ k, Value.ownBlock v1 = some k ∧ w.heap.size ≤ k)
/-- append of one element. -/
theorem run_append_rwsM {w : World} {base s : Nat} {e : TypeId} {v : Value} {L : List (List Value)} {t bytes : Nat} {i : TypeInfo} {z : Value} (ht : Try.prog.underlying t = some (.slice e)) (hi : Try.prog.info? e = some i) (hz0 : i.zero = some z) (hz1 : i.size = s) (hz2 : i.bytes = bytes) (hzc : z.cells.size = s) (hs : 0 < s) (hby : bytes ≤ 64)
    (h : Rws w base e s v L) (l : List Value) (hl : l.length = s) (h1 : ∀ u, u ∈ l → u.oneCell' = true) (hbase : base ≤ w.heap.size) (hn : L.length < 1099511627776) :
    ∃ A c w1, (Builtin.append_ #[t, t] t #[v, .slice (some ⟨w.heap.size, 0, none⟩) 1 1]).run Try.prog (w.alloc (.cells l.toArray e)) = .ok (.slice A (L.length + 1) c) w1 ∧
      Rws w1 base e s (.slice A (L.length + 1) c) (L ++ [l]) ∧ Below base w w1 ∧ (∀ t', t' ≠ e → KeptT t' w w1) ∧ (∀ (g : Nat) (es : Array MapEntry) (ck : _), w.heap[g]? = some (.map es ck) → w1.heap[g]? = some (.map es ck)) ∧ RowMv w w1 v (.slice A (L.length + 1) c) := by
  have hbz := alloc_below w (.cells l.toArray e)
  have ho1 := (h.kept hbz).2
  obtain ⟨v1, w1, hr, h2, h3, _, h5⟩ := run_append_own_at (P := Try.prog) (w.alloc (.cells l.toArray e)) base t t e i z s bytes ht hi hz0 hz1 hz2 hzc hs v _ _ ho1 ⟨w.heap.size, 0, none⟩ 1 1 l (by omega)
    (by
      intro j u hu
      have hg := heap_alloc_new w (.cells l.toArray e)
      have ha : (⟨w.heap.size, 0, none⟩ : Addr).add j = ⟨w.heap.size, 0 + j, none⟩ := by simp [Addr.add]; omega
      rw [ha, cell_of_row _ _ (0 + j) _ _ (0, 0) hg, Nat.zero_add]
      simpa using hu)
    h1 (by unfold maxLen; omega) (Nat.le_trans (Nat.mul_le_mul_left _ hby) (by omega)) (Nat.le_trans hbase hbz.size)
  have hform : ∃ A c, v1 = .slice A (L.length + 1) c := by
    rcases h2.2 with ⟨rfl, h0⟩ | ⟨g, cap, cur, rfl, _⟩
    · omega
    · exact ⟨_, _, rfl⟩
  obtain ⟨A, c, rfl⟩ := hform
  refine ⟨A, c, w1, hr, ⟨fun x hx => ?_, ?_⟩, (hbz.mono hbase).trans ((Below.refl _ _).grown h3 (Nat.le_trans hbase hbz.size) (fun k hk => (World.ownsRow.lt ho1 k hk).1)), fun t' ht' => (KeptT.of_below hbz).trans (KeptT.grown h3 ho1 ht'), fun g es ck hg => (h3.block g (Nat.lt_of_lt_of_le (heap_lt hg) hbz.size) fun e2 => ?_).trans ((hbz.block g (heap_lt hg)).trans hg), ⟨fun b hb hn => (h3.block b (Nat.lt_of_lt_of_le hb hbz.size) (Ne.symm hn)).trans (hbz.block b hb), h5.imp id fun h => ⟨_, h, hbz.size⟩⟩⟩
  · rcases List.mem_append.1 hx with hx | hx
    · exact h.1 x hx
    · simp at hx; rw [hx]; exact hl
  · rw [List.length_append, List.flatten_append]
    simpa using h2
  · rcases h.2.2 with ⟨rfl, _⟩ | ⟨g', cap, cur, rfl, _, hh, _⟩
    · cases e2
    · have : g = g' := by simpa [Value.ownBlock] using e2
      subst this
      rw [hg] at hh
      cases hh
theorem infoP : (Try.prog.info? 82).map (fun i => (i.zero, i.size, i.bytes)) = some (some (.agg #[.int .i64 0, .int .i64 0]), 2, 16) := by kernel_rfl
theorem infoO : (Try.prog.info? 124).map (fun i => (i.zero, i.size, i.bytes)) = some (some (.agg #[.int .i64 0, .int .i64 0]), 2, 16) := by kernel_rfl
/-- append of one pair. -/
theorem run_append_pr {w : World} {base : Nat} {v : Value} {E : List Ent} (h : Rws w base 82 2 v (E.map cellsL)) (e : Ent) (hbase : base ≤ w.heap.size) (hn : E.length < 1099511627776) :
    ∃ A c w1, (Builtin.append_ #[115, 115] 115 #[v, .slice (some ⟨w.heap.size, 0, none⟩) 1 1]).run Try.prog (w.alloc (.cells #[.int .i64 e.p, .int .i64 e.q] 82)) = .ok (.slice A (E.length + 1) c) w1 ∧
      Rws w1 base 82 2 (.slice A (E.length + 1) c) ((E ++ [e]).map cellsL) ∧ Below base w w1 ∧ (∀ t', t' ≠ 82 → KeptT t' w w1) ∧ (∀ (g : Nat) (ks : List (List Int)) (k : TypeId), NumIs k w g ks → NumIs k w1 g ks) ∧ RowMv w w1 v (.slice A (E.length + 1) c) := by
  obtain ⟨i, hi, hz0, hz1, hz2⟩ := info_parts infoP
  have hl : (E.map cellsL).length = E.length := List.length_map _
  obtain ⟨A, c, w1, h1, h2, h3, h4, h5, h6⟩ := run_append_rwsM Try.underlying115 hi hz0 hz1 hz2 rfl (by decide) (by decide) h (cellsL e) rfl (fun u hu => by simp [cellsL] at hu; rcases hu with rfl | rfl <;> rfl) hbase (by rw [hl]; exact hn)
  rw [hl] at h1 h2 h6
  exact ⟨A, c, w1, h1, by rw [List.map_append]; exact h2, h3, h4, fun g ks k hN => by
    obtain ⟨es, ck, hg⟩ := hN.block
    exact hN.at_ ((h5 g es ck hg).trans hg.symm), h6⟩
/-- append of one origin. -/
theorem run_append_or {w : World} {base : Nat} {v : Value} {E : List Ent} (h : Rws w base 124 2 v (E.map cellsO)) (e : Ent) (hbase : base ≤ w.heap.size) (hn : E.length < 1099511627776) :
    ∃ A c w1, (Builtin.append_ #[116, 116] 116 #[v, .slice (some ⟨w.heap.size, 0, none⟩) 1 1]).run Try.prog (w.alloc (.cells #[.int .i64 e.j, .int .i64 e.x] 124)) = .ok (.slice A (E.length + 1) c) w1 ∧
      Rws w1 base 124 2 (.slice A (E.length + 1) c) ((E ++ [e]).map cellsO) ∧ Below base w w1 ∧ (∀ t', t' ≠ 124 → KeptT t' w w1) ∧ (∀ (g : Nat) (ks : List (List Int)) (k : TypeId), NumIs k w g ks → NumIs k w1 g ks) ∧ RowMv w w1 v (.slice A (E.length + 1) c) := by
  obtain ⟨i, hi, hz0, hz1, hz2⟩ := info_parts infoO
  have hl : (E.map cellsO).length = E.length := List.length_map _
  obtain ⟨A, c, w1, h1, h2, h3, h4, h5, h6⟩ := run_append_rwsM Try.underlying116 hi hz0 hz1 hz2 rfl (by decide) (by decide) h (cellsO e) rfl (fun u hu => by simp [cellsO] at hu; rcases hu with rfl | rfl <;> rfl) hbase (by rw [hl]; exact hn)
  rw [hl] at h1 h2 h6
  exact ⟨A, c, w1, h1, by rw [List.map_append]; exact h2, h3, h4, fun g ks k hN => by
    obtain ⟨es, ck, hg⟩ := hN.block
    exact hN.at_ ((h5 g es ck hg).trans hg.symm), h6⟩
theorem Rws.apartMap {w w' : World} {base s gm : Nat} {e : TypeId} {v : Value} {L : List (List Value)} {k : TypeId} {ks : List (List Int)} (h : Rws w base e s v L) (hN : NumIs k w gm ks) (hg : w.grownBy w' (some gm)) : Rws w' base e s v L := by
  obtain ⟨es, ck, hm⟩ := hN.block
  refine ⟨h.1, h.2.1, ?_⟩
  rcases h.2.2 with h0 | ⟨g, cap, cur, rfl, hbg, hh, r⟩
  · exact .inl h0
  · refine .inr ⟨g, cap, cur, rfl, hbg, (hg.block g (heap_lt hh) fun e2 => ?_).trans hh, r⟩
    have : gm = g := by first | (injection e2 with e2; exact e2.symm) | (injection e2)
    subst this
    rw [hm] at hh
    cases hh
/-- append at a step of a region that draws. -/
theorem step_app {P : Program} {ops : Array Oper} {o : Oper} {a : Act} {w : World} {K : Act → World → Prop} {Q : Exit → Act → World → Prop} {E : Prop} (hgd : o.guard = none) (s x : Operand) (t tn : TypeId)
    (ho : o.op = .call { callee := .builtin .append, args := #[s, x], argTypes := #[t, tn] }) (vs vx : Value) (hs : a.eval s = vs) (hx : a.eval x = vx)
    (v' : Value) (w' : World) (hr : (Builtin.append_ #[t, tn] o.type #[vs, vx]).run P w = .ok v' w') (h : K (a.put o.dst v') w') :
    if Region.wanted o (yielded ops a.tmps) = true then Oper.wp P o a w K Q else E := by
  have hw : Region.wanted o (yielded ops a.tmps) = true := by simp [Region.wanted, hgd]
  rw [if_pos hw]
  exact Lib.wp_append_run w s x t tn ho vs vx hs hx v' w' hr h

/-- A block apart from a discovery. -/
def ShD (w : World) (pb : Nat) (o : Obj) (g gm : Nat) (A B : Option Addr) : Prop := w.heap[pb]? = some o ∧ pb ≠ g ∧ pb ≠ gm ∧ Value.ownBlock (.slice A 0 0) ≠ some pb ∧ Value.ownBlock (.slice B 0 0) ≠ some pb
theorem own_any (A : Option Addr) (a b c d : Nat) : Value.ownBlock (.slice A a b) = Value.ownBlock (.slice A c d) := by cases A <;> rfl
theorem RowMv.ne {w w1 : World} {A A' : Option Addr} {a b c d pb : Nat} (h : RowMv w w1 (.slice A a b) (.slice A' c d)) (hb : pb < w.heap.size) (hn : Value.ownBlock (.slice A 0 0) ≠ some pb) : Value.ownBlock (.slice A' 0 0) ≠ some pb := fun e => by
  rcases h.2 with h2 | ⟨k, h2, h3⟩
  · rw [own_any A' c d 0 0, own_any A a b 0 0] at h2
    exact hn (h2.symm.trans e)
  · rw [own_any A' c d 0 0] at h2
    rw [h2] at e
    injection e with e
    omega
set_option maxRecDepth 100000 in
/-- What a new pair does. -/
theorem Disc.grow {w : World} {base g : Nat} {E : List Ent} {A B : Option Addr} {c d gm : Nat} (h : Disc w base g E A B c d gm) (hg : base ≤ g) (e : Ent) (hne : ¬ hasE E e.p e.q) (hp : e.p ≤ 4611686018427387904) (hq : e.q ≤ 4611686018427387904) (hz : base ≤ w.heap.size) (hn : E.length < 1099511627776) :
    ∃ w1 A1 c1 w2 B1 d1 w3, (Instr.mapUpdate 117 (.map (some gm)) (.agg #[.int .i64 e.p, .int .i64 e.q]) (.int .i64 (E.length : Nat))).run Try.prog w = .ok () w1 ∧
      (Builtin.append_ #[115, 115] 115 #[.slice A E.length c, .slice (some ⟨w1.heap.size, 0, none⟩) 1 1]).run Try.prog (w1.alloc (.cells #[.int .i64 e.p, .int .i64 e.q] 82)).drew = .ok (.slice A1 (E.length + 1) c1) w2 ∧
      (Builtin.append_ #[116, 116] 116 #[.slice B E.length d, .slice (some ⟨w2.heap.size, 0, none⟩) 1 1]).run Try.prog ((w2.setCell ⟨g, 0, none⟩ (.slice A1 (E.length + 1) c1)).alloc (.cells #[.int .i64 e.j, .int .i64 e.x] 124)).drew = .ok (.slice B1 (E.length + 1) d1) w3 ∧
      w1.heap[g]? = some (.cells #[.slice A E.length c, .slice B E.length d, .map (some gm)] 119 (0, 0)) ∧
      w2.heap[g]? = some (.cells #[.slice A E.length c, .slice B E.length d, .map (some gm)] 119 (0, 0)) ∧
      w3.heap[g]? = some (.cells #[.slice A1 (E.length + 1) c1, .slice B E.length d, .map (some gm)] 119 (0, 0)) ∧
      Disc (w3.setCell ⟨g, 1, none⟩ (.slice B1 (E.length + 1) d1)) base g (E ++ [e]) A1 B1 c1 d1 gm ∧ Below base w w1 ∧ Below base w w2 ∧ Below base w w3 ∧ KeptT 82 w w1 ∧ KeptT 124 w w1 ∧ KeptT 124 w w2 ∧ Below base w (w3.setCell ⟨g, 1, none⟩ (.slice B1 (E.length + 1) d1)) ∧ (∀ t, t ≠ 82 → t ≠ 124 → t ≠ 119 → KeptT t w (w3.setCell ⟨g, 1, none⟩ (.slice B1 (E.length + 1) d1))) ∧
      ∀ pb o, ShD w pb o g gm A B → ShD (w3.setCell ⟨g, 1, none⟩ (.slice B1 (E.length + 1) d1)) pb o g gm A1 B1 := by
  have hk : IsK 82 (keyE e) := isK_pair hp hq
  have hv : ¬ keyE e ∈ E.map keyE := fun H => hne (keyE_inj.1 H)
  obtain ⟨w1, r1, n1, g1⟩ := h.num.put keyT_pair hk hv (by rw [List.length_map]; omega)
  rw [List.length_map] at r1
  obtain ⟨es, ck, hmb⟩ := h.num.block
  have kk : ∀ t, KeptT t w w1 := fun t g' cs hh => by
    refine (g1.block g' (heap_lt hh) fun e2 => ?_).trans hh
    have : gm = g' := by injection e2 with e2; exact e2.symm
    subst this
    rw [hmb] at hh
    cases hh
  have b1 : Below base w w1 := (Below.refl _ _).grown g1 hz (fun k hk => by cases hk; exact h.hm)
  have l1 := h.lst.keptT (kk _)
  have o1 := h.org.keptT (kk _)
  have k1 := kk _ g _ h.blk
  have l1 : Rws w1.drew base 82 2 (.slice A E.length c) (E.map cellsL) := l1.keptT (KeptT.drewN _ _ 1)
  have z1 : base ≤ w1.heap.size := Nat.le_trans hz b1.size
  obtain ⟨A1, c1, w2, r2, l2, b2, t2, m2, v2⟩ := run_append_pr l1 e z1 hn
  have o2 : Rws w2 base 124 2 (.slice B E.length d) (E.map cellsO) := o1.keptT (t2 _ (by decide))
  have n2 := m2 _ _ _ (n1.drewN 1)
  have k2 := t2 119 (by decide) g _ k1
  have hs := heap_setCell_same w2 g 0 _ _ (Value.slice A1 (E.length + 1) c1) k2
  have l3 : Rws (w2.setCell ⟨g, 0, none⟩ (.slice A1 (E.length + 1) c1)) base 82 2 (.slice A1 (E.length + 1) c1) ((E ++ [e]).map cellsL) := l2.keptT (KeptT.off k2 (by decide) _)
  have o3 : Rws (w2.setCell ⟨g, 0, none⟩ (.slice A1 (E.length + 1) c1)) base 124 2 (.slice B E.length d) (E.map cellsO) := o2.keptT (KeptT.off k2 (by decide) _)
  have ngm : gm ≠ g := fun e2 => by
    subst e2
    have := h.blk
    rw [hmb] at this
    cases this
  have n3 := n2.setCell (a := ⟨g, 0, none⟩) ngm (.slice A1 (E.length + 1) c1)
  have bb2 : Below base w w2 := (below_drewN b1 1).trans b2
  have bs := bb2.setCell (p := ⟨g, 0, none⟩) hg (.slice A1 (E.length + 1) c1)
  have zs2 : (w2.setCell ⟨g, 0, none⟩ (.slice A1 (E.length + 1) c1)).heap.size = w2.heap.size := by simp
  have o3 : Rws (w2.setCell ⟨g, 0, none⟩ (.slice A1 (E.length + 1) c1)).drew base 124 2 (.slice B E.length d) (E.map cellsO) := o3.keptT (KeptT.drewN _ _ 1)
  obtain ⟨B1, d1, w3, r3, o4, b3, t3, m3, v3⟩ := run_append_or o3 e (show base ≤ (w2.setCell ⟨g, 0, none⟩ (.slice A1 (E.length + 1) c1)).heap.size by rw [zs2]; exact Nat.le_trans z1 b2.size) hn
  have l4 := l3.keptT (t3 _ (by decide))
  have n4 := m3 _ _ _ (n3.drewN 1)
  have k4 := t3 119 (by decide) g _ hs
  have bb3 : Below base w w3 := (below_drewN bs 1).trans b3
  have r3 := show _ from r3
  rw [show (w2.setCell ⟨g, 0, none⟩ (.slice A1 (E.length + 1) c1)).drew.heap.size = w2.heap.size from zs2] at r3
  refine ⟨w1, A1, c1, w2, B1, d1, w3, r1, r2, r3, k1, k2, k4, ⟨?_, ?_, ?_, ?_, h.hm⟩, b1, bb2, bb3, kk _, kk _, (kk _).trans (t2 _ (by decide)), bb3.setCell (p := ⟨g, 1, none⟩) hg _, fun t n1 n2 n3 => ((((kk _).trans (t2 _ n1)).trans (KeptT.off k2 n3 _)).trans (t3 _ n2)).trans (KeptT.off k4 n3 _), fun pb o hs => ?_⟩
  · have := heap_setCell_same w3 g 1 _ _ (Value.slice B1 (E.length + 1) d1) k4
    rw [List.length_append]
    exact this
  · rw [List.length_append]; exact l4.keptT (KeptT.off k4 (by decide) _)
  · rw [List.length_append]; exact o4.keptT (KeptT.off k4 (by decide) _)
  · rw [List.map_append]; exact n4.setCell (a := ⟨g, 1, none⟩) ngm _
  · obtain ⟨q1, q2, q3, q4, q5⟩ := hs
    have hlt := heap_lt q1
    have z1' : w.heap.size ≤ w1.heap.size := g1.size
    have y1 : w1.heap[pb]? = some o := (g1.block pb hlt fun e2 => q3 (by injection e2)).trans q1
    have y2 : w2.heap[pb]? = some o := (v2.1 pb (show pb < w1.heap.size by omega) (own_any A _ _ 0 0 ▸ q4)).trans y1
    have y3 : (w2.setCell ⟨g, 0, none⟩ (.slice A1 (E.length + 1) c1)).heap[pb]? = some o := (heap_setCell_other w2 ⟨g, 0, none⟩ pb _ q2).trans y2
    have y4 : w3.heap[pb]? = some o := (v3.1 pb (show pb < (w2.setCell ⟨g, 0, none⟩ (.slice A1 (E.length + 1) c1)).heap.size from heap_lt y3) (own_any B _ _ 0 0 ▸ q5)).trans y3
    exact ⟨(heap_setCell_other w3 ⟨g, 1, none⟩ pb _ q2).trans y4, q2, q3, v2.ne (show pb < w1.heap.size by omega) q4, v3.ne (show pb < (w2.setCell ⟨g, 0, none⟩ (.slice A1 (E.length + 1) c1)).heap.size from heap_lt y3) q5⟩
end Go.Proofs.Ythjnghldedfdoaa
end

section
/- Rows of truth values of the call's own. -/
namespace Go.Proofs.Ythjnghldedfdoaa
open Go.RowKit

def cellsB (b : Bool) : List Value := [.bool b]
theorem infoB : (Try.prog.info? 4).map (fun i => (i.zero, i.size, i.bytes)) = some (some (.bool false), 1, 1) := by kernel_rfl
/-- append of one truth value. -/
theorem run_append_b {w : World} {base : Nat} {v : Value} {bs : List Bool} (h : Rws w base 4 1 v (bs.map cellsB)) (b : Bool) (hbase : base ≤ w.heap.size) (hn : bs.length < 1099511627776) :
    ∃ A c w1, (Builtin.append_ #[23, 23] 23 #[v, .slice (some ⟨w.heap.size, 0, none⟩) 1 1]).run Try.prog (w.alloc (.cells #[.bool b] 4)) = .ok (.slice A (bs.length + 1) c) w1 ∧
      Rws w1 base 4 1 (.slice A (bs.length + 1) c) ((bs ++ [b]).map cellsB) ∧ Below base w w1 ∧ ∀ t', t' ≠ 4 → KeptT t' w w1 := by
  obtain ⟨i, hi, hz0, hz1, hz2⟩ := info_parts infoB
  have hl : (bs.map cellsB).length = bs.length := List.length_map _
  obtain ⟨A, c, w1, h1, h2, h3, h4⟩ := run_append_rws Try.underlying23 hi hz0 hz1 hz2 rfl (by decide) (by decide) h (cellsB b) rfl (fun u hu => by simp [cellsB] at hu; subst hu; rfl) hbase (by rw [hl]; exact hn)
  rw [hl] at h1 h2
  exact ⟨A, c, w1, h1, by rw [List.map_append]; exact h2, h3, h4⟩
theorem Rws.bools {w : World} {base : Nat} {A : Option Addr} {n c : Nat} {bs : List Bool} (h : Rws w base 4 1 (.slice A n c) (bs.map cellsB)) (hl : bs.length = n) (hn : n ≤ 17592186044416) : Bools w A n bs := by
  refine ⟨hl, hn, fun h0 => ?_⟩
  obtain ⟨g, c', e, _, hg, _, hat⟩ := h.at_ (by rw [List.length_map]; omega)
  injection e with e1 _ _
  subst e1
  refine ⟨g, 0, rfl, hg, fun j hj => ?_⟩
  have hjl : j < bs.length := by omega
  have := hat j 0 (by rw [List.length_map]; exact hjl) (by decide)
  rw [show j * 1 + 0 = 0 + j by omega] at this
  rw [this, List.getD_eq_getElem?_getD, List.getD_eq_getElem?_getD, List.getElem?_map, List.getElem?_eq_getElem hjl]
  rfl
end Go.Proofs.Ythjnghldedfdoaa
end

section
/- A row of numbers that grows beside a row of lists. -/
namespace Go.Proofs.Ythjnghldedfdoaa
open Go.RowKit

/-- A row of lists, whose lists lie apart from the block of s. -/
def OwnedX (w : World) (base : Nat) (s v : Value) (xss : List (List Int)) : Prop :=
  ∃ vs : List Value, w.ownsRow base 26 1 v xss.length vs ∧ ∀ j, j < xss.length → ∃ A c, vs[j]? = some (.slice A (xss.getD j []).length c) ∧ Owned w base (.slice A (xss.getD j []).length c) (xss.getD j []) ∧ Apart s (.slice A (xss.getD j []).length c)
theorem OwnedX.toL {w : World} {base : Nat} {s v : Value} {xss : List (List Int)} (h : OwnedX w base s v xss) : OwnedL w base v xss := by
  obtain ⟨vs, ho, hr⟩ := h
  refine ⟨vs, ho, fun j hj => ?_⟩
  obtain ⟨A, c, h1, h2, _⟩ := hr j hj
  exact ⟨A, c, h1, h2⟩
theorem Owned.lt {w : World} {base : Nat} {v : Value} {xs : List Int} (h : Owned w base v xs) : ∀ k, v.ownBlock = some k → base ≤ k ∧ k < w.heap.size := World.ownsRow.lt h
theorem Owned.keptB {w w' : World} {base : Nat} {u v : Value} {xs : List Int} (h : Owned w base v xs) (hk : KeptB u.ownBlock w w') (ha : Apart u v) : Owned w' base v xs := by
  refine ⟨h.1, ?_⟩
  rcases h.2 with e | ⟨g, cap, cur, hv, hbg, hg, r⟩
  · exact .inl e
  · exact .inr ⟨g, cap, cur, hv, hbg, hk g _ hg (fun e => ha g e (by rw [hv]; rfl)), r⟩
theorem OwnedX.grow {w w' : World} {base : Nat} {s s' v : Value} {xss : List (List Int)} (h : OwnedX w base s v xss) (hk : KeptB s.ownBlock w w') (hl : KeptT 26 w w') (hm : Moved w s s') : OwnedX w' base s' v xss := by
  obtain ⟨vs, ho, hr⟩ := h
  refine ⟨vs, ⟨ho.1, ?_⟩, fun j hj => ?_⟩
  · rcases ho.2 with e | ⟨g, cap, cur, hv, hbg, hg, r⟩
    · exact .inl e
    · exact .inr ⟨g, cap, cur, hv, hbg, hl g cur hg, r⟩
  · obtain ⟨A, c, h1, h2, h3⟩ := hr j hj
    refine ⟨A, c, h1, h2.keptB hk h3, fun k h4 h5 => ?_⟩
    rcases hm with e | ⟨g, hg, e⟩
    · rw [e] at h4; exact h3 k h4 h5
    · rw [e] at h4
      injection h4 with h4
      have := (h2.lt k h5).2
      omega
theorem OwnedX.kept {w w' : World} {base : Nat} {s v : Value} {xss : List (List Int)} (h : OwnedX w base s v xss) (hb : Below w.heap.size w w') : OwnedX w' base s v xss :=
  h.grow (fun g _ e _ => (hb.block g (heap_lt e)).trans e) (KeptT.of_below hb) (.inl rfl)
theorem OwnedX.lists {w : World} {base : Nat} {s : Value} {A : Option Addr} {n c : Nat} {xss : List (List Int)} (h : OwnedX w base s (.slice A n c) xss) (hm : xss.length ≤ 17592186044416) (hr : ∀ xs, xs ∈ xss → xs.length ≤ 17592186044416) : Lists w A n xss := h.toL.lists hm hr
/-- append of one number. -/
theorem run_append_oneB {w : World} {base : Nat} {v : Value} {xs : List Int} (h : Owned w base v xs) (x : Int) (hbase : base ≤ w.heap.size) (hl : xs.length < 1759218604441) :
    ∃ A c w', (Builtin.append_ #[26, 26] 26 #[v, .slice (some ⟨w.heap.size, 0, none⟩) 1 1]).run Try.prog (w.alloc (.cells #[.int .i64 x] 3)) = .ok (.slice A (xs.length + 1) c) w' ∧
      Owned w' base (.slice A (xs.length + 1) c) (xs ++ [x]) ∧ Below base w w' ∧ (∀ t, t ≠ 3 → KeptT t w w') ∧ KeptB v.ownBlock w w' ∧ Moved w v (.slice A (xs.length + 1) c) := by
  obtain ⟨i, hi, hz0, hz1, hz2⟩ := info_parts info3
  have hbz := alloc_below w (.cells #[.int .i64 x] 3)
  have ho1 := h.kept hbz
  obtain ⟨v', w', hr, h1, h2, _, hmv⟩ := run_append_own_at (P := Try.prog) (w.alloc (.cells #[.int .i64 x] 3)) base 26 26 3 i (.int .i64 0) 1 8 Try.underlying26 hi hz0 hz1 hz2 rfl (by decide) v _ _ ho1 ⟨w.heap.size, 0, none⟩ 1 1 [.int .i64 x] (by simp)
    (by
      intro j u hu
      cases j with
      | zero =>
        simp at hu
        subst hu
        simp [Addr.add]
      | succ j => simp at hu)
    (by intro u hu; simp at hu; subst hu; rfl) (by unfold maxLen; omega) (by omega) (Nat.le_trans hbase hbz.size)
  have hs : ∀ t, t ≠ 3 → KeptT t w w' := fun t ht => (KeptT.of_below hbz).trans (KeptT.grown h2 ho1 ht)
  have hform : ∃ A c, v' = .slice A (xs.length + 1) c := by
    rcases h1.2 with ⟨rfl, h0⟩ | ⟨g, cap, cur, rfl, _⟩
    · have := h1.1; rw [h0] at this; simp at this
    · exact ⟨_, _, rfl⟩
  obtain ⟨A, c, rfl⟩ := hform
  have hkb : KeptB v.ownBlock w w' := fun g o e hne => (h2.block g (Nat.lt_of_lt_of_le (heap_lt e) hbz.size) (fun e2 => hne e2.symm)).trans ((hbz.block g (heap_lt e)).trans e)
  have hmoved : Moved w v (.slice A (xs.length + 1) c) := by
    rcases hmv with e | e
    · exact .inl e
    · exact .inr ⟨_, by simp, e⟩
  refine ⟨A, c, w', hr, ?_, (hbz.mono hbase).trans ((Below.refl _ _).grown h2 (Nat.le_trans hbase hbz.size) (fun k hk => (World.ownsRow.lt ho1 k hk).1)), hs, hkb, hmoved⟩
  unfold Owned
  rw [List.length_append, List.map_append]
  exact h1
/-- append of one list. -/
theorem run_append_listX {w : World} {base : Nat} {s v : Value} {xss : List (List Int)} {B : Option Addr} {m d : Nat} {xs : List Int} (h : OwnedX w base s v xss) (hx : Owned w base (.slice B m d) xs) (ha : Apart s (.slice B m d)) (hbase : base ≤ w.heap.size) (hl : xss.length < 1759218604441) :
    ∃ A c w', (Builtin.append_ #[22, 22] 22 #[v, .slice (some ⟨w.heap.size, 0, none⟩) 1 1]).run Try.prog (w.alloc (.cells #[.slice B m d] 26)) = .ok (.slice A (xss.length + 1) c) w' ∧
      OwnedX w' base s (.slice A (xss.length + 1) c) (xss ++ [xs]) ∧ Below base w w' ∧ (∀ t, t ≠ 26 → KeptT t w w') := by
  obtain ⟨i, hi, hz0, hz1, hz2⟩ := info_parts infol
  obtain ⟨vs, ho, hv⟩ := h
  have hbz := alloc_below w (.cells #[.slice B m d] 26)
  have ho1 : (w.alloc (.cells #[.slice B m d] 26)).ownsRow base 26 1 v xss.length vs := by
    refine ⟨ho.1, ?_⟩
    rcases ho.2 with e | ⟨g, cap, cur, hv, hbg, hg, r⟩
    · exact .inl e
    · exact .inr ⟨g, cap, cur, hv, hbg, (hbz.block g (heap_lt hg)).trans hg, r⟩
  obtain ⟨v', w', hr, h1, h2, _, hmv⟩ := run_append_own_at (P := Try.prog) (w.alloc (.cells #[.slice B m d] 26)) base 22 22 26 i (.slice none 0 0) 1 24 Try.underlying22 hi hz0 hz1 hz2 rfl (by decide) v _ _ ho1 ⟨w.heap.size, 0, none⟩ 1 1 [.slice B m d] (by simp)
    (by
      intro j u hu
      cases j with
      | zero =>
        simp at hu
        subst hu
        simp [Addr.add]
      | succ j => simp at hu)
    (by intro u hu; simp at hu; subst hu; rfl) (by unfold maxLen; omega) (by omega) (Nat.le_trans hbase hbz.size)
  have hs : ∀ t, t ≠ 26 → KeptT t w w' := fun t ht => (KeptT.of_below hbz).trans (KeptT.grown h2 ho1 ht)
  have hform : ∃ A c, v' = .slice A (xss.length + 1) c := by
    rcases h1.2 with ⟨rfl, h0⟩ | ⟨g, cap, cur, rfl, _⟩
    · have := h1.1; rw [h0] at this; simp at this
    · exact ⟨_, _, rfl⟩
  obtain ⟨A, c, rfl⟩ := hform
  have hn : m = xs.length := by obtain ⟨A', c', e⟩ := hx.form; cases e; rfl
  subst hn
  refine ⟨A, c, w', hr, ⟨vs ++ [.slice B xs.length d], by rw [List.length_append]; exact h1, fun j hj => ?_⟩, (hbz.mono hbase).trans ((Below.refl _ _).grown h2 (Nat.le_trans hbase hbz.size) (fun k hk => (World.ownsRow.lt ho1 k hk).1)), hs⟩
  have hvl : vs.length = xss.length := by have := ho.1; omega
  by_cases e : j < xss.length
  · obtain ⟨A2, c2, h3, h4, h5⟩ := hv j e
    have hg : (xss ++ [xs]).getD j [] = xss.getD j [] := by rw [List.getD_eq_getElem?_getD, List.getD_eq_getElem?_getD, List.getElem?_append_left e]
    rw [hg]
    exact ⟨A2, c2, by rw [List.getElem?_append_left (by omega)]; exact h3, h4.keptT (hs _ (by decide)), h5⟩
  · have hjl : j = xss.length := by simp at hj; omega
    subst hjl
    have hg : (xss ++ [xs]).getD xss.length [] = xs := by simp
    rw [hg]
    exact ⟨B, d, by rw [List.getElem?_append_right (by omega), hvl]; simp, hx.keptT (hs _ (by decide)), ha⟩
/-- A list of one list. -/
theorem OwnedX.one (w : World) (base : Nat) (s : Value) (B : Option Addr) (m d : Nat) (xs : List Int) (hx : Owned w base (.slice B m d) xs) (ha : Apart s (.slice B m d)) (hb : base ≤ w.heap.size) :
    OwnedX (w.alloc (.cells #[.slice B m d] 26)) base s (.slice (some ⟨w.heap.size, 0, none⟩) 1 1) [xs] := by
  have hn : m = xs.length := by obtain ⟨A', c', e⟩ := hx.form; cases e; rfl
  subst hn
  have := World.ownsRow_lit (e := 26) (size := 1) w #[.slice B xs.length d] 1 hb (by unfold maxLen; omega) (by simp)
  refine ⟨[.slice B xs.length d], this, fun j hj => ?_⟩
  obtain rfl : j = 0 := by simp at hj; omega
  exact ⟨B, d, rfl, hx.kept (alloc_below _ _), ha⟩
end Go.Proofs.Ythjnghldedfdoaa
end
