/- Lemmas of the proofs of this seat, of the parts Setp, Setl, Setw. Conditions: none. -/
import Derived.Test.YtakhphhpjcpphaaDoorMb
import Derived.Test.YtakhphhpjcpphaaDoorMg
section
/- Plain: what the lists of prefixes, suffixes and maximal words depend on. -/
namespace Go.Proofs.YtakhphhpjcpphaaDoor

theorem preS_same {l m : List (List Int)} (h : ∀ x, x ∈ l ↔ x ∈ m) : sw (preS l) = sw (preS m) := sw_same fun x => by
  rw [preS_mem, preS_mem]
  exact ⟨fun ⟨y, h1, h2⟩ => ⟨y, (h y).1 h1, h2⟩, fun ⟨y, h1, h2⟩ => ⟨y, (h y).2 h1, h2⟩⟩
theorem sufS_same {l m : List (List Int)} (h : ∀ x, x ∈ l ↔ x ∈ m) : sw (sufS l) = sw (sufS m) := sw_same fun x => by
  rw [sufS_mem, sufS_mem]
  exact ⟨fun ⟨y, h1, h2⟩ => ⟨y, (h y).1 h1, h2⟩, fun ⟨y, h1, h2⟩ => ⟨y, (h y).2 h1, h2⟩⟩
theorem maxS_same {l m : List (List Int)} (h : ∀ x, x ∈ l ↔ x ∈ m) : sw (maxS l) = sw (maxS m) := sw_same fun x => by
  rw [maxS_mem, maxS_mem]
  exact Mx.same h x
theorem pre_again (l : List (List Int)) : sw (preS (sw (preS l))) = sw (preS l) := sw_same fun x => by
  rw [preS_mem]
  constructor
  · rintro ⟨y, h1, h2⟩
    rw [sw_mem, preS_mem] at h1
    obtain ⟨z, h3, h4⟩ := h1
    rw [preS_mem]
    exact ⟨z, h3, h2.trans h4⟩
  · intro h
    exact ⟨x, (sw_mem _ x).2 h, List.prefix_refl x⟩
theorem suf_again (l : List (List Int)) : sw (sufS (sw (sufS l))) = sw (sufS l) := sw_same fun x => by
  rw [sufS_mem]
  constructor
  · rintro ⟨y, h1, h2⟩
    rw [sw_mem, sufS_mem] at h1
    obtain ⟨z, h3, h4⟩ := h1
    rw [sufS_mem]
    exact ⟨z, h3, h2.trans h4⟩
  · intro h
    exact ⟨x, (sw_mem _ x).2 h, List.suffix_refl x⟩
theorem max_again (l : List (List Int)) : sw (maxS (sw (maxS l))) = sw (maxS l) := sw_same fun x => by
  rw [maxS_mem]
  constructor
  · rintro ⟨h, _⟩
    exact (sw_mem _ x).1 h
  · intro h
    refine ⟨(sw_mem _ x).2 h, fun y hy hp => ?_⟩
    rw [sw_mem, maxS_mem] at hy
    rw [maxS_mem] at h
    exact h.2 y hy.1 hp
/-- Every word is a prefix of a maximal one. -/
theorem max_over {l : List (List Int)} {L : Nat} (hL : ∀ x, x ∈ l → x.length ≤ L) : ∀ (n : Nat) (y : List Int), y ∈ l → L - y.length ≤ n → ∃ z, Mx l z ∧ y <+: z := by
  intro n
  induction n with
  | zero =>
    intro y hy hn
    refine ⟨y, ⟨hy, fun z hz hp => ?_⟩, List.prefix_refl y⟩
    have h1 := hL z hz
    have h2 := hp.length_le
    exact hp.eq_of_length (by omega)
  | succ n ih =>
    intro y hy hn
    by_cases h : Mx l y
    · exact ⟨y, h, List.prefix_refl y⟩
    · have : ∃ z, z ∈ l ∧ y <+: z ∧ y ≠ z := by
        refine Classical.byContradiction fun k => h ⟨hy, fun z hz hp => ?_⟩
        exact Classical.byContradiction fun e => k ⟨z, hz, hp, e⟩
      obtain ⟨z, hz, hp, hne⟩ := this
      have h2 := hp.length_le
      have h3 : y.length ≠ z.length := fun e => hne (hp.eq_of_length e)
      have h4 := hL z hz
      obtain ⟨u, hu, hzu⟩ := ih z hz (by omega)
      exact ⟨u, hu, hp.trans hzu⟩
theorem pre_max {l : List (List Int)} {L : Nat} (hL : ∀ x, x ∈ l → x.length ≤ L) : sw (preS (sw (maxS l))) = sw (preS l) := sw_same fun x => by
  rw [preS_mem, preS_mem]
  constructor
  · rintro ⟨y, h1, h2⟩
    rw [sw_mem, maxS_mem] at h1
    exact ⟨y, h1.1, h2⟩
  · rintro ⟨y, h1, h2⟩
    obtain ⟨z, hz, hp⟩ := max_over hL L y h1 (Nat.sub_le _ _)
    exact ⟨z, by rw [sw_mem, maxS_mem]; exact hz, h2.trans hp⟩
theorem max_pre (l : List (List Int)) : sw (maxS (sw (preS l))) = sw (maxS l) := sw_same fun x => by
  have hs : ∀ y, y ∈ sw (preS l) ↔ ∃ z, z ∈ l ∧ y <+: z := fun y => by rw [sw_mem, preS_mem]
  rw [maxS_mem, maxS_mem]
  constructor
  · rintro ⟨h1, h2⟩
    obtain ⟨y, hy, hp⟩ := (hs x).1 h1
    have e := h2 y ((hs y).2 ⟨y, hy, List.prefix_refl y⟩) hp
    subst e
    exact ⟨hy, fun z hz hp => h2 z ((hs z).2 ⟨z, hz, List.prefix_refl z⟩) hp⟩
  · rintro ⟨h1, h2⟩
    refine ⟨(hs x).2 ⟨x, h1, List.prefix_refl x⟩, fun y hy hp => ?_⟩
    obtain ⟨z, hz, hq⟩ := (hs y).1 hy
    have e := h2 z hz (hp.trans hq)
    subst e
    exact hp.eq_of_length (Nat.le_antisymm hp.length_le hq.length_le)

theorem flatM_len {f : List Int → List (List Int)} {M : Nat} {l : List (List Int)} (h : ∀ x, x ∈ l → (f x).length ≤ M) : (l.flatMap f).length ≤ l.length * M := by
  induction l with
  | nil => simp
  | cons x l ih =>
    have h1 := ih fun y hy => h y (List.mem_cons_of_mem _ hy)
    have h2 := h x List.mem_cons_self
    rw [List.flatMap_cons, List.length_append, List.length_cons, Nat.succ_mul]
    omega
theorem preS_len {l : List (List Int)} {L : Nat} (hL : ∀ x, x ∈ l → x.length ≤ L) : (preS l).length ≤ l.length * (L + 1) := flatM_len fun x hx => by have := hL x hx; simp; omega
theorem sufS_len {l : List (List Int)} {L : Nat} (hL : ∀ x, x ∈ l → x.length ≤ L) : (sufS l).length ≤ l.length * (L + 1) := flatM_len fun x hx => by have := hL x hx; simp; omega
theorem maxS_len (l : List (List Int)) : (maxS l).length ≤ l.length := List.length_filter_le _ _
theorem preS_small {l : List (List Int)} {L : Nat} (hL : ∀ x, x ∈ l → x.length ≤ L) : ∀ x, x ∈ sw (preS l) → x.length ≤ L := fun x hx => by
  rw [sw_mem, preS_mem] at hx
  obtain ⟨y, hy, hp⟩ := hx
  exact Nat.le_trans hp.length_le (hL y hy)
theorem sufS_small {l : List (List Int)} {L : Nat} (hL : ∀ x, x ∈ l → x.length ≤ L) : ∀ x, x ∈ sw (sufS l) → x.length ≤ L := fun x hx => by
  rw [sw_mem, sufS_mem] at hx
  obtain ⟨y, hy, hp⟩ := hx
  exact Nat.le_trans hp.length_le (hL y hy)
theorem maxS_small {l : List (List Int)} {L : Nat} (hL : ∀ x, x ∈ l → x.length ≤ L) : ∀ x, x ∈ sw (maxS l) → x.length ≤ L := fun x hx => by
  rw [sw_mem, maxS_mem] at hx
  exact hL x hx.1
theorem sw_small {l : List (List Int)} {L : Nat} (hL : ∀ x, x ∈ l → x.length ≤ L) : ∀ x, x ∈ sw l → x.length ≤ L := fun x hx => hL x ((sw_mem _ x).1 hx)
end Go.Proofs.YtakhphhpjcpphaaDoor
end

section
/- The laws' walks: Sets: the list that has every word twice. -/
namespace Go.Proofs.YtakhphhpjcpphaaDoor
open Go.RowKit Go.Shelf

/-- append at a step of a region that draws, where its result is known by a fact. -/
theorem step_app_x {P : Program} {ops : Array Oper} {o : Oper} {a : Act} {w : World} {K : Act → World → Prop} {Q : Exit → Act → World → Prop} {E : Prop} (hgd : o.guard = none) (s x : Operand) (t tn : TypeId)
    (ho : o.op = .call { callee := .builtin .append, args := #[s, x], argTypes := #[t, tn] }) (vs vx : Value) (hs : a.eval s = vs) (hx : a.eval x = vx) {R : Value → World → Prop}
    (hr : ∃ v' w', (Builtin.append_ #[t, tn] o.type #[vs, vx]).run P w = .ok v' w' ∧ R v' w') (h : ∀ v' w', R v' w' → K (a.put o.dst v') w') :
    if Region.wanted o (yielded ops a.tmps) = true then Oper.wp P o a w K Q else E := by
  obtain ⟨v', w', h1, h2⟩ := hr
  exact step_app_w hgd s x t tn ho vs vx hs hx v' w' h1 (h v' w' h2)

theorem Hds.two (W : World) (A B : Option Addr) (n c m d : Nat) (xs ys : List Int) :
    Hds (W.alloc (.cells #[.slice A n c, .slice B m d] 38)) (some ⟨W.heap.size, 0, none⟩) 2 [(.slice A n c, xs), (.slice B m d, ys)] := by
  refine ⟨rfl, by omega, fun _ => ⟨W.heap.size, 0, rfl, by simp, fun j p hp => ?_⟩, fun p hp => ?_⟩
  · have hc := cell_of_row (W.alloc (.cells #[.slice A n c, .slice B m d] 38)) W.heap.size j #[.slice A n c, .slice B m d] 38 (0, 0) (heap_alloc_new W _)
    rw [Nat.zero_add, hc]
    match j, hp with
    | 0, hp => simp at hp; subst hp; rfl
    | 1, hp => simp at hp; subst hp; rfl
    | j + 2, hp => simp at hp
  · simp at hp
    rcases hp with rfl | rfl
    · exact ⟨_, _, _, rfl⟩
    · exact ⟨_, _, _, rfl⟩

/-- The headers after k rounds. -/
def MWs (w : World) (l : List (List Int)) (k : Nat) (qs : List HL) : Prop := qs.length = 2 * k ∧ (∀ q, q ∈ qs → q.2 ∈ l ∧ InAt w w.heap.size q) ∧ ∀ j, j < k → l.getD j [] ∈ qs.map Prod.snd
theorem MWs.nil (w : World) (l : List (List Int)) : MWs w l 0 [] := ⟨rfl, fun q h => absurd h (by simp), fun j h => absurd h (Nat.not_lt_zero _)⟩
theorem MWs.step {w : World} {l : List (List Int)} {k : Nat} {qs : List HL} (h : MWs w l k qs) {u v : Value} {x : List Int} (hk : k < l.length) (hx : x ∈ l) (h1 : InAt w w.heap.size (u, x)) (h2 : InAt w w.heap.size (v, l.getD k [])) :
    MWs w l (k + 1) (qs ++ [(u, x), (v, l.getD k [])]) := by
  refine ⟨by simp [h.1]; omega, fun q hq => ?_, fun j hj => ?_⟩
  · rcases List.mem_append.1 hq with hq | hq
    · exact h.2.1 q hq
    · simp only [List.mem_cons, List.not_mem_nil, or_false] at hq
      rcases hq with rfl | rfl
      · exact ⟨hx, h1⟩
      · exact ⟨by rw [List.getD_eq_getElem?_getD, List.getElem?_eq_getElem hk]; exact List.getElem_mem _, h2⟩
  · rw [List.map_append, List.mem_append]
    by_cases e : j = k
    · subst e; right; simp
    · left; exact h.2.2 j (by omega)
theorem MWs.mem {w : World} {l : List (List Int)} {qs : List HL} (h : MWs w l l.length qs) (x : List Int) : x ∈ qs.map Prod.snd ↔ x ∈ l := by
  constructor
  · intro hx
    obtain ⟨q, hq, rfl⟩ := List.mem_map.1 hx
    exact (h.2.1 q hq).1
  · intro hx
    obtain ⟨j, hj, rfl⟩ := List.mem_iff_getElem.1 hx
    have := h.2.2 j hj
    rw [List.getD_eq_getElem?_getD, List.getElem?_eq_getElem hj] at this
    exact this
theorem ListsC.look {w : World} {A : Option Addr} {n : Nat} {xss : List (List Int)} (h : ListsC w A n xss) {k : Nat} (hk : k < n) :
    ∃ b off Aj nj cj, A = some ⟨b, off, none⟩ ∧ b < w.heap.size ∧ w.cell? ⟨b, off + k, none⟩ = some (.slice Aj nj cj) ∧ InAt w w.heap.size (.slice Aj nj cj, xss.getD k []) := by
  obtain ⟨b, off, Aj, nj, cj, e, hlt, hc, hn, hi⟩ := h.at_ hk
  refine ⟨b, off, Aj, nj, cj, e, hlt, hc, Aj, nj, cj, rfl, hi, hn, fun a ha h0 => ?_⟩
  obtain ⟨b', o', e', hlt', _⟩ := hi.2.2 h0
  rw [ha] at e'
  cases e'
  exact hlt'

theorem app_two (w wr : World) (v : Value) (qs : List HL) (A B : Option Addr) (n c m d : Nat) (xs ys : List Int) (h : HRow wr w.heap.size v qs) (hb : w.heap.size ≤ wr.heap.size) (hl : qs.length ≤ 1000000) (q : Nat) :
    ∃ v' w', (Builtin.append_ #[25, 25] 25 #[v, .slice (some ⟨wr.heap.size, 0, none⟩) 2 2]).run Tryd.prog ((wr.drewN q).alloc (.cells #[.slice A n c, .slice B m d] 38)) = .ok v' w' ∧
      HRow w' w.heap.size v' (qs ++ [(.slice A n c, xs), (.slice B m d, ys)]) ∧ Below w.heap.size wr w' := by
  have h1 : HRow (wr.drewN q) w.heap.size v qs := h
  have hd := Hds.two (wr.drewN q) A B n c m d xs ys
  obtain ⟨v', w', hr, ho, _, hbel⟩ := run_append_heads (c := 2) (h1.kept (alloc_below _ _)) hd (by simp; omega) (by rw [List.length_append]; simp; omega)
  refine ⟨v', w', hr, ho, ?_⟩
  have h2 : Below w.heap.size wr ((wr.drewN q).alloc (.cells #[.slice A n c, .slice B m d] 38)) := (below_drewN (Below.refl _ _) q).alloc hb _
  exact h2.trans hbel

end Go.Proofs.YtakhphhpjcpphaaDoor
end

section
/- The laws' walks: Sets. -/
namespace Go.Proofs.YtakhphhpjcpphaaDoor
open Go.RowKit Go.Shelf

theorem fsort (W : World) (A : Option Addr) (n c : Nat) (xs ys : List (List Int)) (z : Nat) (h : ListsC W A n xs) (hn : n ≤ 1000) (hL : ∀ x, x ∈ xs → x.length ≤ 20) (e : sw xs = ys) (hz : ys.length = z) (hz2 : z ≤ 500) :
    Calls Tryd.prog 17 #[.slice A n c] W fun e w' => ∃ A' c', e = .returned (.slice A' z c') ∧ ListsC w' A' z ys ∧ Below W.heap.size W w' := by
  refine (psorted W A n c xs h (by omega)).mono ?_
  rintro e1 w1 ⟨v, rfl, o, b⟩
  rw [e] at o
  obtain ⟨A', c', rfl⟩ := o.form
  have := o.lists (by omega) (fun x hx => by rw [← e] at hx; have := sw_small hL x hx; omega)
  rw [hz] at this ⊢
  exact ⟨A', c', rfl, this, b⟩
theorem fpre (W : World) (A : Option Addr) (n c : Nat) (xs ys : List (List Int)) (z : Nat) (h : ListsC W A n xs) (hn : n ≤ 1000) (hL : ∀ x, x ∈ xs → x.length ≤ 20) (e : sw (preS xs) = ys) (hz : ys.length = z) (hz2 : z ≤ 500) :
    Calls Tryd.prog 18 #[.slice A n c] W fun e w' => ∃ A' c', e = .returned (.slice A' z c') ∧ ListsC w' A' z ys ∧ Below W.heap.size W w' := by
  refine (pPrefixes W A n c 20 xs h hL (by omega)).mono ?_
  rintro e1 w1 ⟨v, rfl, o, b⟩
  rw [e] at o
  obtain ⟨A', c', rfl⟩ := o.form
  have := o.lists (by omega) (fun x hx => by rw [← e] at hx; have := preS_small hL x hx; omega)
  rw [hz] at this ⊢
  exact ⟨A', c', rfl, this, b⟩
theorem fsuf (W : World) (A : Option Addr) (n c : Nat) (xs ys : List (List Int)) (z : Nat) (h : ListsC W A n xs) (hn : n ≤ 1000) (hL : ∀ x, x ∈ xs → x.length ≤ 20) (e : sw (sufS xs) = ys) (hz : ys.length = z) (hz2 : z ≤ 500) :
    Calls Tryd.prog 19 #[.slice A n c] W fun e w' => ∃ A' c', e = .returned (.slice A' z c') ∧ ListsC w' A' z ys ∧ Below W.heap.size W w' := by
  refine (pSuffixes W A n c 20 xs h hL (by omega) (by omega)).mono ?_
  rintro e1 w1 ⟨v, rfl, o, b⟩
  rw [e] at o
  obtain ⟨A', c', rfl⟩ := o.form
  have := o.lists (by omega) (fun x hx => by rw [← e] at hx; have := sufS_small hL x hx; omega)
  rw [hz] at this ⊢
  exact ⟨A', c', rfl, this, b⟩
theorem fmax (W : World) (A : Option Addr) (n c : Nat) (xs ys : List (List Int)) (z : Nat) (h : ListsC W A n xs) (hn : n ≤ 1000) (hL : ∀ x, x ∈ xs → x.length ≤ 20) (e : sw (maxS xs) = ys) (hz : ys.length = z) (hz2 : z ≤ 500) :
    Calls Tryd.prog 20 #[.slice A n c] W fun e w' => ∃ A' c', e = .returned (.slice A' z c') ∧ ListsC w' A' z ys ∧ Below W.heap.size W w' := by
  refine (pMaximal W A n c xs h (by omega)).mono ?_
  rintro e1 w1 ⟨v, rfl, o, b⟩
  rw [e] at o
  obtain ⟨A', c', rfl⟩ := o.form
  have := o.lists (by omega) (fun x hx => by rw [← e] at hx; have := maxS_small hL x hx; omega)
  rw [hz] at this ⊢
  exact ⟨A', c', rfl, this, b⟩

set_option maxHeartbeats 8000000 in
set_option maxRecDepth 100000 in
theorem setsX (A : Option Addr) (n c : Nat) (u : Nat) (l : List (List Int)) (w : World) (h : ListsC w A n l) (hs : Small l 20 20) (u1 : u ≤ 255) (T : Tab w) :
    Calls Tryd.prog 6 #[.slice A n c, .int .u8 u] w fun e w' => e = .returned (.bool true) ∧ Below w.heap.size w w' := by
  have TT := Lib.hid T
  have HA := Lib.hid h
  have LL := Lib.hid h.1
  have n1 : n ≤ 20 := by rw [← h.1]; exact hs.1
  have SL := Lib.hid hs.2
  have G1 := Lib.hid (rgreatw w A n c 20 20 l false h.lists (by rw [decide_eq_true hs]; rfl) (by omega))
  clear T h hs
  go_enter Tryd.func6, Tryd.ntmps6
  go_wp2_with fail
  refine G1.out.mono ?_
  rintro e w' ⟨rfl, rfl⟩
  go_wp2
  go_loopw [5, 6] (fun v i wr => ∃ (k : Nat) (qs : List HL), k ≤ n ∧ i = .int .i64 k ∧ HRow wr w.heap.size v qs ∧ Below w.heap.size w wr ∧ Hid (MWs w l k qs)) (fun _ i _ => n - (intOf i).toNat)
  case atStart => exact ⟨0, [], Nat.zero_le _, rfl, HRow.nil _ _, Below.refl _ _, Lib.hid (MWs.nil _ _)⟩
  case round =>
    obtain ⟨k, qs, hk, rfl, hrow, hbr, hmw⟩ := hrel
    by_cases hlt : k < n
    · obtain ⟨b, off, Aj, nj, cj, rfl, hlb, hc1, hi1⟩ := HA.out.look hlt
      obtain ⟨p1, hp1⟩ : ∃ p, p = n - 1 := ⟨_, rfl⟩
      obtain ⟨p2, hp2⟩ : ∃ p, p = p1 - k := ⟨_, rfl⟩
      obtain ⟨p3, hp3⟩ : ∃ p, p = p2 + u := ⟨_, rfl⟩
      obtain ⟨r, hr⟩ : ∃ r, r = p3 % n := ⟨_, rfl⟩
      have hrn : r < n := by rw [hr]; exact Nat.mod_lt _ (by omega)
      obtain ⟨b2, off2, Ar, nr, cr, e2, _, hc2, hi2⟩ := HA.out.look hrn
      cases e2
      have hd1 := (hbr.cell (p := ⟨b, off + k, none⟩) hlb).trans hc1
      have hd2 := (hbr.cell (p := ⟨b, off + r, none⟩) hlb).trans hc2
      have APP := Lib.hid (app_two w wr _ qs Ar Aj nr cr nj cj (l.getD r []) (l.getD k []) hrow hbr.size (by have := hmw.out.1; omega))
      have HB := Lib.hid hbr
      obtain ⟨Av, cv, ev⟩ := hrow.form
      have MS := Lib.hid (hmw.out.step (by rw [LL.out]; exact hlt) (show l.getD r [] ∈ l from by rw [List.getD_eq_getElem?_getD, List.getElem?_eq_getElem (by rw [LL.out]; exact hrn)]; exact List.getElem_mem _) hi2 hi1)
      subst ev
      have w1 : IntKind.i64.wrap ((n : Int) - 1) = (p1 : Int) := by rw [IntKind.wrap_i64]; omega
      have w2 : IntKind.i64.wrap ((p1 : Int) - (k : Int)) = (p2 : Int) := by rw [IntKind.wrap_i64]; omega
      have w0 : IntKind.i64.wrap (u : Int) = (u : Int) := by rw [IntKind.wrap_i64]; omega
      have w3 : IntKind.i64.wrap ((p2 : Int) + (u : Int)) = (p3 : Int) := by rw [IntKind.wrap_i64]; omega
      have w4 : (p3 : Int).tmod (n : Int) = (r : Int) := by rw [hr]; simp [Int.tmod]
      have n0 : ¬ n = 0 := by omega
      clear hp1 hp2 hp3 hr
      clear hc1 hc2 hi1 hi2 hrow hbr hmw
      go_wp2
      go_region_law (refine step_app_x rfl _ _ _ _ rfl _ _ rfl rfl (APP.out _) ?_; rintro v' w' HST0; have HST := Lib.hid HST0; clear HST0)
      all_goals
        go_wp2
        go_roundw
        case rel => exact ⟨k + 1, _, by omega, by go_num, HST.out.1, HB.out.trans HST.out.2, MS⟩
        case measure => simp [intOf]; omega
    · obtain rfl : k = n := by omega
      obtain ⟨A1, c1, e1⟩ := hrow.form
      subst e1
      obtain ⟨zm, hzm⟩ : ∃ z, z = qs.length := ⟨_, rfl⟩
      have ZM : zm ≤ 40 := by have := hmw.out.1; omega
      have hmem : ∀ x, x ∈ qs.map Prod.snd ↔ x ∈ l := by have h1 := hmw.out; rw [← LL.out] at h1; exact h1.mem
      have l1 := (hrow.hds (by rw [← hzm]; omega)).lists (top := wr.heap.size) (fun p hp => ((hmw.out.2.1 p hp).2.on hbr).mono hbr.size)
      rw [← hzm] at l1 ⊢
      obtain ⟨m, hm⟩ : ∃ m, m = qs.map Prod.snd := ⟨_, rfl⟩
      rw [← hm] at l1 hmem
      have hmem2 : ∀ x, x ∈ m → x.length ≤ 20 := fun x hx => SL.out x ((hmem x).1 hx)
      obtain ⟨s, hs⟩ : ∃ s, s = sw l := ⟨_, rfl⟩
      obtain ⟨p, hp⟩ : ∃ p, p = sw (preS l) := ⟨_, rfl⟩
      obtain ⟨q, hq⟩ : ∃ q, q = sw (sufS l) := ⟨_, rfl⟩
      obtain ⟨t, ht⟩ : ∃ t, t = sw (maxS l) := ⟨_, rfl⟩
      obtain ⟨zs, hzs⟩ : ∃ z, s.length = z := ⟨_, rfl⟩
      obtain ⟨zp, hzp⟩ : ∃ z, p.length = z := ⟨_, rfl⟩
      obtain ⟨zq, hzq⟩ : ∃ z, q.length = z := ⟨_, rfl⟩
      obtain ⟨zt, hzt⟩ : ∃ z, t.length = z := ⟨_, rfl⟩
      have ZS : zs ≤ 500 := by rw [← hzs, hs]; have := sw_len l; rw [LL.out] at this; omega
      have ZT : zt ≤ 500 := by rw [← hzt, ht]; have := sw_len (maxS l); have h2 := maxS_len l; rw [LL.out] at h2; omega
      have ZP : zp ≤ 500 := by rw [← hzp, hp]; have := sw_len (preS l); have h2 := preS_len SL.out; rw [LL.out] at h2; omega
      have ZQ : zq ≤ 500 := by rw [← hzq, hq]; have := sw_len (sufS l); have h2 := sufS_len SL.out; rw [LL.out] at h2; omega
      have NS := Lib.hid hzs
      have NP := Lib.hid hzp
      have NQ := Lib.hid hzq
      have NT := Lib.hid hzt
      have WS := Lib.hid (show ∀ x, x ∈ s → x.length ≤ 20 by rw [hs]; exact sw_small SL.out)
      have WP := Lib.hid (show ∀ x, x ∈ p → x.length ≤ 20 by rw [hp]; exact preS_small SL.out)
      have WQ := Lib.hid (show ∀ x, x ∈ q → x.length ≤ 20 by rw [hq]; exact sufS_small SL.out)
      have WT := Lib.hid (show ∀ x, x ∈ t → x.length ≤ 20 by rw [ht]; exact maxS_small SL.out)
      have WM := Lib.hid hmem2
      have AS := Lib.hid (show AscW s by rw [hs]; exact sw_asc _)
      have AP := Lib.hid (show AscW p by rw [hp]; exact sw_asc _)
      have AQ := Lib.hid (show AscW q by rw [hq]; exact sw_asc _)
      have AT := Lib.hid (show AscW t by rw [ht]; exact sw_asc _)
      have ES0 := Lib.hid hs.symm
      have EP0 := Lib.hid hp.symm
      have EQ0 := Lib.hid hq.symm
      have ET0 := Lib.hid ht.symm
      have ES1 := Lib.hid (show sw m = s by rw [hs]; exact sw_same hmem)
      have EP1 := Lib.hid (show sw (preS m) = p by rw [hp]; exact preS_same hmem)
      have EQ1 := Lib.hid (show sw (sufS m) = q by rw [hq]; exact sufS_same hmem)
      have ET1 := Lib.hid (show sw (maxS m) = t by rw [ht]; exact maxS_same hmem)
      have ES2 := Lib.hid (show sw s = s by rw [hs]; exact sw_sw _)
      have EP2 := Lib.hid (show sw (preS p) = p by rw [hp]; exact pre_again _)
      have EQ2 := Lib.hid (show sw (sufS q) = q by rw [hq]; exact suf_again _)
      have ET2 := Lib.hid (show sw (maxS t) = t by rw [ht]; exact max_again _)
      have E3 := Lib.hid (show sw (preS t) = p by rw [ht, hp]; exact pre_max SL.out)
      have E4 := Lib.hid (show sw (maxS p) = t by rw [hp, ht]; exact max_pre _)
      have ME := Lib.hid (show ∀ x, x ∈ l → x ∈ s ∧ x ∈ p ∧ x ∈ q from fun x hx => ⟨by rw [hs, sw_mem]; exact hx, by rw [hp, sw_mem, preS_mem]; exact ⟨x, hx, List.prefix_refl x⟩, by rw [hq, sw_mem, sufS_mem]; exact ⟨x, hx, List.suffix_refl x⟩⟩)
      have M0 := Lib.hid l1
      have L0 := Lib.hid (HA.out.below hbr)
      have B0 := Lib.hid hbr
      clear hzm hmem hmem2 l1 hm hs hp hq ht hzs hzp hzq hzt hrow hbr hmw
      go_wp2_with fail
      refine (fsort wr A k c l s zs L0.out (by omega) SL.out ES0.out NS.out ZS).mono ?_
      rintro e w1 ⟨SA, Sc, rfl, ln, b⟩
      have B1 := Lib.hid (bt B0.out b)
      have L1 := Lib.hid (L0.out.below b)
      have M1 := Lib.hid (M0.out.below b)
      clear L0 M0 B0
      have S1 := Lib.hid ln
      clear b ln
      go_wp2_with fail
      refine (fpre w1 A k c l p zp L1.out (by omega) SL.out EP0.out NP.out ZP).mono ?_
      rintro e w2 ⟨PA, Pc, rfl, ln, b⟩
      have B2 := Lib.hid (bt B1.out b)
      have L2 := Lib.hid (L1.out.below b)
      have M2 := Lib.hid (M1.out.below b)
      have S2 := Lib.hid (S1.out.below b)
      clear L1 M1 S1 B1
      have P2 := Lib.hid ln
      clear b ln
      go_wp2_with fail
      refine (fsuf w2 A k c l q zq L2.out (by omega) SL.out EQ0.out NQ.out ZQ).mono ?_
      rintro e w3 ⟨QA, Qc, rfl, ln, b⟩
      have B3 := Lib.hid (bt B2.out b)
      have L3 := Lib.hid (L2.out.below b)
      have M3 := Lib.hid (M2.out.below b)
      have S3 := Lib.hid (S2.out.below b)
      have P3 := Lib.hid (P2.out.below b)
      clear L2 M2 S2 P2 B2
      have Q3 := Lib.hid ln
      clear b ln
      go_wp2_with fail
      refine (fmax w3 A k c l t zt L3.out (by omega) SL.out ET0.out NT.out ZT).mono ?_
      rintro e w4 ⟨TA, Tc, rfl, ln, b⟩
      have B4 := Lib.hid (bt B3.out b)
      have L4 := Lib.hid (L3.out.below b)
      have M4 := Lib.hid (M3.out.below b)
      have S4 := Lib.hid (S3.out.below b)
      have P4 := Lib.hid (P3.out.below b)
      have Q4 := Lib.hid (Q3.out.below b)
      clear L3 M3 S3 P3 Q3 B3
      have T4 := Lib.hid ln
      clear b ln
      go_wp2_with fail
      refine (rascending w4 SA zs Sc s S4.out.lists AS.out).mono ?_
      rintro e w5 ⟨rfl, b0⟩
      have b := rd_below b0
      have B5 := Lib.hid (bt B4.out b)
      have L5 := Lib.hid (L4.out.below b)
      have M5 := Lib.hid (M4.out.below b)
      have S5 := Lib.hid (S4.out.below b)
      have P5 := Lib.hid (P4.out.below b)
      have Q5 := Lib.hid (Q4.out.below b)
      have T5 := Lib.hid (T4.out.below b)
      clear L4 M4 S4 P4 Q4 T4 B4
      clear b b0
      go_wp2_with fail
      refine (rascending w5 PA zp Pc p P5.out.lists AP.out).mono ?_
      rintro e w6 ⟨rfl, b0⟩
      have b := rd_below b0
      have B6 := Lib.hid (bt B5.out b)
      have L6 := Lib.hid (L5.out.below b)
      have M6 := Lib.hid (M5.out.below b)
      have S6 := Lib.hid (S5.out.below b)
      have P6 := Lib.hid (P5.out.below b)
      have Q6 := Lib.hid (Q5.out.below b)
      have T6 := Lib.hid (T5.out.below b)
      clear L5 M5 S5 P5 Q5 T5 B5
      clear b b0
      go_wp2_with fail
      refine (rascending w6 QA zq Qc q Q6.out.lists AQ.out).mono ?_
      rintro e w7 ⟨rfl, b0⟩
      have b := rd_below b0
      have B7 := Lib.hid (bt B6.out b)
      have L7 := Lib.hid (L6.out.below b)
      have M7 := Lib.hid (M6.out.below b)
      have S7 := Lib.hid (S6.out.below b)
      have P7 := Lib.hid (P6.out.below b)
      have Q7 := Lib.hid (Q6.out.below b)
      have T7 := Lib.hid (T6.out.below b)
      clear L6 M6 S6 P6 Q6 T6 B6
      clear b b0
      go_wp2_with fail
      refine (rascending w7 TA zt Tc t T7.out.lists AT.out).mono ?_
      rintro e w8 ⟨rfl, b0⟩
      have b := rd_below b0
      have B8 := Lib.hid (bt B7.out b)
      have L8 := Lib.hid (L7.out.below b)
      have M8 := Lib.hid (M7.out.below b)
      have S8 := Lib.hid (S7.out.below b)
      have P8 := Lib.hid (P7.out.below b)
      have Q8 := Lib.hid (Q7.out.below b)
      have T8 := Lib.hid (T7.out.below b)
      clear L7 M7 S7 P7 Q7 T7 B7
      clear b b0
      go_wp2_with fail
      refine (fsort w8 A1 zm c1 m s zs M8.out (by omega) WM.out ES1.out NS.out ZS).mono ?_
      rintro e w9 ⟨NA, Nc, rfl, ln, b⟩
      have B9 := Lib.hid (bt B8.out b)
      have L9 := Lib.hid (L8.out.below b)
      have M9 := Lib.hid (M8.out.below b)
      have S9 := Lib.hid (S8.out.below b)
      have P9 := Lib.hid (P8.out.below b)
      have Q9 := Lib.hid (Q8.out.below b)
      have T9 := Lib.hid (T8.out.below b)
      clear L8 M8 S8 P8 Q8 T8 B8
      have N9 := Lib.hid ln
      clear b ln
      go_wp2_with fail
      refine (rsameWords NA SA zs Nc zs Sc s s true w9 N9.out.lists S9.out.lists (by simp)).mono ?_
      rintro e w10 ⟨rfl, b0⟩
      have b := rd_below b0
      clear N9
      have B10 := Lib.hid (bt B9.out b)
      have L10 := Lib.hid (L9.out.below b)
      have M10 := Lib.hid (M9.out.below b)
      have S10 := Lib.hid (S9.out.below b)
      have P10 := Lib.hid (P9.out.below b)
      have Q10 := Lib.hid (Q9.out.below b)
      have T10 := Lib.hid (T9.out.below b)
      clear L9 M9 S9 P9 Q9 T9 B9
      clear b b0
      go_wp2_with fail
      refine (fpre w10 A1 zm c1 m p zp M10.out (by omega) WM.out EP1.out NP.out ZP).mono ?_
      rintro e w11 ⟨NA, Nc, rfl, ln, b⟩
      have B11 := Lib.hid (bt B10.out b)
      have L11 := Lib.hid (L10.out.below b)
      have M11 := Lib.hid (M10.out.below b)
      have S11 := Lib.hid (S10.out.below b)
      have P11 := Lib.hid (P10.out.below b)
      have Q11 := Lib.hid (Q10.out.below b)
      have T11 := Lib.hid (T10.out.below b)
      clear L10 M10 S10 P10 Q10 T10 B10
      have N11 := Lib.hid ln
      clear b ln
      go_wp2_with fail
      refine (rsameWords NA PA zp Nc zp Pc p p true w11 N11.out.lists P11.out.lists (by simp)).mono ?_
      rintro e w12 ⟨rfl, b0⟩
      have b := rd_below b0
      clear N11
      have B12 := Lib.hid (bt B11.out b)
      have L12 := Lib.hid (L11.out.below b)
      have M12 := Lib.hid (M11.out.below b)
      have S12 := Lib.hid (S11.out.below b)
      have P12 := Lib.hid (P11.out.below b)
      have Q12 := Lib.hid (Q11.out.below b)
      have T12 := Lib.hid (T11.out.below b)
      clear L11 M11 S11 P11 Q11 T11 B11
      clear b b0
      go_wp2_with fail
      refine (fsuf w12 A1 zm c1 m q zq M12.out (by omega) WM.out EQ1.out NQ.out ZQ).mono ?_
      rintro e w13 ⟨NA, Nc, rfl, ln, b⟩
      have B13 := Lib.hid (bt B12.out b)
      have L13 := Lib.hid (L12.out.below b)
      have M13 := Lib.hid (M12.out.below b)
      have S13 := Lib.hid (S12.out.below b)
      have P13 := Lib.hid (P12.out.below b)
      have Q13 := Lib.hid (Q12.out.below b)
      have T13 := Lib.hid (T12.out.below b)
      clear L12 M12 S12 P12 Q12 T12 B12
      have N13 := Lib.hid ln
      clear b ln
      go_wp2_with fail
      refine (rsameWords NA QA zq Nc zq Qc q q true w13 N13.out.lists Q13.out.lists (by simp)).mono ?_
      rintro e w14 ⟨rfl, b0⟩
      have b := rd_below b0
      clear N13
      have B14 := Lib.hid (bt B13.out b)
      have L14 := Lib.hid (L13.out.below b)
      have M14 := Lib.hid (M13.out.below b)
      have S14 := Lib.hid (S13.out.below b)
      have P14 := Lib.hid (P13.out.below b)
      have Q14 := Lib.hid (Q13.out.below b)
      have T14 := Lib.hid (T13.out.below b)
      clear L13 M13 S13 P13 Q13 T13 B13
      clear b b0
      go_wp2_with fail
      refine (fmax w14 A1 zm c1 m t zt M14.out (by omega) WM.out ET1.out NT.out ZT).mono ?_
      rintro e w15 ⟨NA, Nc, rfl, ln, b⟩
      have B15 := Lib.hid (bt B14.out b)
      have L15 := Lib.hid (L14.out.below b)
      have M15 := Lib.hid (M14.out.below b)
      have S15 := Lib.hid (S14.out.below b)
      have P15 := Lib.hid (P14.out.below b)
      have Q15 := Lib.hid (Q14.out.below b)
      have T15 := Lib.hid (T14.out.below b)
      clear L14 M14 S14 P14 Q14 T14 B14
      have N15 := Lib.hid ln
      clear b ln
      go_wp2_with fail
      refine (rsameWords NA TA zt Nc zt Tc t t true w15 N15.out.lists T15.out.lists (by simp)).mono ?_
      rintro e w16 ⟨rfl, b0⟩
      have b := rd_below b0
      clear N15
      have B16 := Lib.hid (bt B15.out b)
      have L16 := Lib.hid (L15.out.below b)
      have M16 := Lib.hid (M15.out.below b)
      have S16 := Lib.hid (S15.out.below b)
      have P16 := Lib.hid (P15.out.below b)
      have Q16 := Lib.hid (Q15.out.below b)
      have T16 := Lib.hid (T15.out.below b)
      clear L15 M15 S15 P15 Q15 T15 B15
      clear b b0
      clear M16
      go_wp2_with fail
      refine (fsort w16 SA zs Sc s s zs S16.out (by omega) WS.out ES2.out NS.out ZS).mono ?_
      rintro e w17 ⟨NA, Nc, rfl, ln, b⟩
      have B17 := Lib.hid (bt B16.out b)
      have L17 := Lib.hid (L16.out.below b)
      have S17 := Lib.hid (S16.out.below b)
      have P17 := Lib.hid (P16.out.below b)
      have Q17 := Lib.hid (Q16.out.below b)
      have T17 := Lib.hid (T16.out.below b)
      clear L16 S16 P16 Q16 T16 B16
      have N17 := Lib.hid ln
      clear b ln
      go_wp2_with fail
      refine (rsameWords NA SA zs Nc zs Sc s s true w17 N17.out.lists S17.out.lists (by simp)).mono ?_
      rintro e w18 ⟨rfl, b0⟩
      have b := rd_below b0
      clear N17
      have B18 := Lib.hid (bt B17.out b)
      have L18 := Lib.hid (L17.out.below b)
      have S18 := Lib.hid (S17.out.below b)
      have P18 := Lib.hid (P17.out.below b)
      have Q18 := Lib.hid (Q17.out.below b)
      have T18 := Lib.hid (T17.out.below b)
      clear L17 S17 P17 Q17 T17 B17
      clear b b0
      go_wp2_with fail
      refine (fpre w18 PA zp Pc p p zp P18.out (by omega) WP.out EP2.out NP.out ZP).mono ?_
      rintro e w19 ⟨NA, Nc, rfl, ln, b⟩
      have B19 := Lib.hid (bt B18.out b)
      have L19 := Lib.hid (L18.out.below b)
      have S19 := Lib.hid (S18.out.below b)
      have P19 := Lib.hid (P18.out.below b)
      have Q19 := Lib.hid (Q18.out.below b)
      have T19 := Lib.hid (T18.out.below b)
      clear L18 S18 P18 Q18 T18 B18
      have N19 := Lib.hid ln
      clear b ln
      go_wp2_with fail
      refine (rsameWords NA PA zp Nc zp Pc p p true w19 N19.out.lists P19.out.lists (by simp)).mono ?_
      rintro e w20 ⟨rfl, b0⟩
      have b := rd_below b0
      clear N19
      have B20 := Lib.hid (bt B19.out b)
      have L20 := Lib.hid (L19.out.below b)
      have S20 := Lib.hid (S19.out.below b)
      have P20 := Lib.hid (P19.out.below b)
      have Q20 := Lib.hid (Q19.out.below b)
      have T20 := Lib.hid (T19.out.below b)
      clear L19 S19 P19 Q19 T19 B19
      clear b b0
      go_wp2_with fail
      refine (fsuf w20 QA zq Qc q q zq Q20.out (by omega) WQ.out EQ2.out NQ.out ZQ).mono ?_
      rintro e w21 ⟨NA, Nc, rfl, ln, b⟩
      have B21 := Lib.hid (bt B20.out b)
      have L21 := Lib.hid (L20.out.below b)
      have S21 := Lib.hid (S20.out.below b)
      have P21 := Lib.hid (P20.out.below b)
      have Q21 := Lib.hid (Q20.out.below b)
      have T21 := Lib.hid (T20.out.below b)
      clear L20 S20 P20 Q20 T20 B20
      have N21 := Lib.hid ln
      clear b ln
      go_wp2_with fail
      refine (rsameWords NA QA zq Nc zq Qc q q true w21 N21.out.lists Q21.out.lists (by simp)).mono ?_
      rintro e w22 ⟨rfl, b0⟩
      have b := rd_below b0
      clear N21
      have B22 := Lib.hid (bt B21.out b)
      have L22 := Lib.hid (L21.out.below b)
      have S22 := Lib.hid (S21.out.below b)
      have P22 := Lib.hid (P21.out.below b)
      have Q22 := Lib.hid (Q21.out.below b)
      have T22 := Lib.hid (T21.out.below b)
      clear L21 S21 P21 Q21 T21 B21
      clear b b0
      go_wp2_with fail
      refine (fmax w22 TA zt Tc t t zt T22.out (by omega) WT.out ET2.out NT.out ZT).mono ?_
      rintro e w23 ⟨NA, Nc, rfl, ln, b⟩
      have B23 := Lib.hid (bt B22.out b)
      have L23 := Lib.hid (L22.out.below b)
      have S23 := Lib.hid (S22.out.below b)
      have P23 := Lib.hid (P22.out.below b)
      have Q23 := Lib.hid (Q22.out.below b)
      have T23 := Lib.hid (T22.out.below b)
      clear L22 S22 P22 Q22 T22 B22
      have N23 := Lib.hid ln
      clear b ln
      go_wp2_with fail
      refine (rsameWords NA TA zt Nc zt Tc t t true w23 N23.out.lists T23.out.lists (by simp)).mono ?_
      rintro e w24 ⟨rfl, b0⟩
      have b := rd_below b0
      clear N23
      have B24 := Lib.hid (bt B23.out b)
      have L24 := Lib.hid (L23.out.below b)
      have S24 := Lib.hid (S23.out.below b)
      have P24 := Lib.hid (P23.out.below b)
      have Q24 := Lib.hid (Q23.out.below b)
      have T24 := Lib.hid (T23.out.below b)
      clear L23 S23 P23 Q23 T23 B23
      clear b b0
      go_wp2
      obtain ⟨W, hW⟩ : ∃ W, W = w24 := ⟨_, rfl⟩
      rw [← hW] at B24 L24 S24 P24 Q24 T24 ⊢
      clear hW
      go_loopw [11] (fun i wr => ∃ k0 : Nat, k0 ≤ k ∧ i = .int .i64 k0 ∧ Below W.heap.size W wr) (fun i _ => k - (intOf i).toNat)
      case atStart => exact ⟨0, Nat.zero_le _, rfl, Below.refl _ _⟩
      case round =>
        obtain ⟨j, hj, rfl, hbr⟩ := hrel
        by_cases hlt : j < k
        · obtain ⟨b, off, Aj, nj, cj, rfl, hlb, hc1, hi1⟩ := L24.out.at_ hlt
          have hi := hi1.2
          have ML := Lib.hid (ME.out (l.getD j []) (by rw [List.getD_eq_getElem?_getD, List.getElem?_eq_getElem (by rw [LL.out]; exact hlt)]; exact List.getElem_mem _))
          have d1 := (hbr.cell (p := ⟨b, off + j, none⟩) hlb).trans hc1
          have BR := Lib.hid hbr
          have HI := Lib.hid hi
          clear hbr hi1 hi
          go_wp2_with fail
          refine (pHas wr SA Aj zs Sc nj cj s (l.getD j []) true (S24.out.below BR.out).lists (HI.out.below BR.out) (decide_eq_true ML.out.1).symm).mono ?_
          rintro e x0 ⟨rfl, bb⟩
          have BR0 := Lib.hid (bt BR.out bb)
          have dd0 := (BR0.out.cell (p := ⟨b, off + j, none⟩) hlb).trans hc1
          clear bb
          go_wp2_with fail
          refine (pHas x0 PA Aj zp Pc nj cj p (l.getD j []) true (P24.out.below BR0.out).lists (HI.out.below BR0.out) (decide_eq_true ML.out.2.1).symm).mono ?_
          rintro e x1 ⟨rfl, bb⟩
          have BR1 := Lib.hid (bt BR0.out bb)
          have dd1 := (BR1.out.cell (p := ⟨b, off + j, none⟩) hlb).trans hc1
          clear bb
          go_wp2_with fail
          refine (pHas x1 QA Aj zq Qc nj cj q (l.getD j []) true (Q24.out.below BR1.out).lists (HI.out.below BR1.out) (decide_eq_true ML.out.2.2).symm).mono ?_
          rintro e x2 ⟨rfl, bb⟩
          have BR2 := Lib.hid (bt BR1.out bb)
          have dd2 := (BR2.out.cell (p := ⟨b, off + j, none⟩) hlb).trans hc1
          clear bb
          go_wp2
          go_roundw
          case rel => exact ⟨j + 1, by omega, by go_num, BR2.out⟩
          case measure => simp [intOf]; omega
        · obtain rfl : j = k := by omega
          have b := hbr
          have B25 := Lib.hid (bt B24.out b)
          have L25 := Lib.hid (L24.out.below b)
          have S25 := Lib.hid (S24.out.below b)
          have P25 := Lib.hid (P24.out.below b)
          have Q25 := Lib.hid (Q24.out.below b)
          have T25 := Lib.hid (T24.out.below b)
          clear L24 S24 P24 Q24 T24 B24
          clear b hbr
          go_wp2_with fail
          refine (fpre wr TA zt Tc t p zp T25.out (by omega) WT.out E3.out NP.out ZP).mono ?_
          rintro e w26 ⟨NA, Nc, rfl, ln, b⟩
          have B26 := Lib.hid (bt B25.out b)
          have L26 := Lib.hid (L25.out.below b)
          have S26 := Lib.hid (S25.out.below b)
          have P26 := Lib.hid (P25.out.below b)
          have Q26 := Lib.hid (Q25.out.below b)
          have T26 := Lib.hid (T25.out.below b)
          clear L25 S25 P25 Q25 T25 B25
          have N26 := Lib.hid ln
          clear b ln
          go_wp2_with fail
          refine (rsameWords NA PA zp Nc zp Pc p p true w26 N26.out.lists P26.out.lists (by simp)).mono ?_
          rintro e w27 ⟨rfl, b0⟩
          have b := rd_below b0
          clear N26
          have B27 := Lib.hid (bt B26.out b)
          have L27 := Lib.hid (L26.out.below b)
          have S27 := Lib.hid (S26.out.below b)
          have P27 := Lib.hid (P26.out.below b)
          have Q27 := Lib.hid (Q26.out.below b)
          have T27 := Lib.hid (T26.out.below b)
          clear L26 S26 P26 Q26 T26 B26
          clear b b0
          go_wp2_with fail
          refine (fmax w27 PA zp Pc p t zt P27.out (by omega) WP.out E4.out NT.out ZT).mono ?_
          rintro e w28 ⟨NA, Nc, rfl, ln, b⟩
          have B28 := Lib.hid (bt B27.out b)
          have L28 := Lib.hid (L27.out.below b)
          have S28 := Lib.hid (S27.out.below b)
          have P28 := Lib.hid (P27.out.below b)
          have Q28 := Lib.hid (Q27.out.below b)
          have T28 := Lib.hid (T27.out.below b)
          clear L27 S27 P27 Q27 T27 B27
          have N28 := Lib.hid ln
          clear b ln
          go_wp2_with fail
          refine (rsameWords NA TA zt Nc zt Tc t t true w28 N28.out.lists T28.out.lists (by simp)).mono ?_
          rintro e w29 ⟨rfl, b0⟩
          have b := rd_below b0
          clear N28
          have B29 := Lib.hid (bt B28.out b)
          have L29 := Lib.hid (L28.out.below b)
          have S29 := Lib.hid (S28.out.below b)
          have P29 := Lib.hid (P28.out.below b)
          have Q29 := Lib.hid (Q28.out.below b)
          have T29 := Lib.hid (T28.out.below b)
          clear L28 S28 P28 Q28 T28 B28
          clear b b0
          go_wp2_with fail
          refine (awake w29 (tab_at TT.out B29.out)).mono ?_
          rintro e wz ⟨rfl, b⟩
          have BZ := Lib.hid (bt B29.out b)
          clear b
          go_wp2
          go_ret
          exact ⟨rfl, BZ.out⟩

set_option maxHeartbeats 2000000 in
set_option maxRecDepth 100000 in
theorem sets_in (A : Option Addr) (n c : Nat) (l : List (List Int)) (t : Int) (w : World) (_ : n ≤ c) (h : ListsC w A n l) (_ : ∀ x, x ∈ l → In64 x) (ht : (Lit.int .u8 t).wf = true) (T : Tab w) :
    Calls Tryd.prog 6 #[.slice A n c, .int .u8 t] w fun e w' => e = .returned (.bool true) ∧ Below w.heap.size w w' := by
  by_cases hs : Small l 20 20
  · obtain ⟨t0, t1⟩ : 0 ≤ t ∧ t ≤ 255 := by
      have h8 : IntKind.u8.min ≤ t ∧ t ≤ IntKind.u8.max := by simpa [Lit.wf] using ht
      have e1 : IntKind.u8.min = 0 := by decide
      have e2 : IntKind.u8.max = 255 := by decide
      omega
    obtain ⟨u, rfl⟩ : ∃ u : Nat, t = u := ⟨t.toNat, by omega⟩
    exact setsX A n c u l w h hs (by omega) T
  · have G1 := Lib.hid (rgreatw w A n c 20 20 l true h.lists (by rw [decide_eq_false hs]; rfl) (by omega))
    have TT := Lib.hid T
    clear hs h T
    go_enter Tryd.func6, Tryd.ntmps6
    go_wp2_with fail
    refine G1.out.mono ?_
    rintro e w' ⟨rfl, rfl⟩
    go_wp2_with fail
    refine (awake w TT.out).mono ?_
    rintro e w4 ⟨rfl, b4⟩
    go_wp2
    go_ret
    exact ⟨rfl, b4⟩
end Go.Proofs.YtakhphhpjcpphaaDoor
end
