/- Lemmas of the proofs of this seat, of the parts Opena, Bisp, Dstq, Isoq, Nmbp, Ptp, Qtp, Mnp, Canp, Rmnp, Isom, Numk, Sgnm, Sgn, Rfn, Rfnw, Ptnw, Qtw, Pmn, Pmm. Conditions: none. -/
import Derived.Test.YtdedgpgdmnfijaaNba
import Derived.Test.YtdedgpgdmnfijaaNbc
import Derived.Test.YtdedgpgdmnfijaaNbb
import Derived.Maps.OwnSet
import Derived.Maps.Views
import Derived.DeepKeys4
import Derived.Deep.MidRow
import Derived.Deep.RegionHeld3
section
/- Opening an array of two bytes. -/
namespace Go.Proofs.Ytdedgpgdmnfijaa
open Go.RowKit Go.Joins

theorem cells_arr2 : Try.prog.cellsOf 54 = 2 := by kernel_rfl
theorem cells_u8 : Try.prog.cellsOf 5 = 1 := by kernel_rfl
theorem okWide_arr {P : Program} {w : World} {r : Reach} {b0 n : Nat} {t e : TypeId} {v : Value} (ht : P.underlying t = some (.array n e)) (hv : Value.okWide P w r b0 t v) : ∃ cs, v = .agg cs ∧ cs.size = P.cellsOf t := by
  unfold Value.okWide at hv
  rw [ht] at hv
  obtain ⟨cs, h1, h2, _⟩ := hv
  exact ⟨cs, h1, h2⟩
set_option maxRecDepth 100000 in
theorem open_arr2 {H : Type} {enc : TypeId × Value → H} {w : World} {base : Nat} {spare : Nat → Bool} {held : Bool} {r : Reach} {b0 : Nat} {v : Value} {d : DataW H} {p : List MemPlace} (hv : Value.okWide Try.prog w r b0 54 v) (h : DataW.Trod enc Try.prog w base spare held 54 v d p) :
    ∃ a b, v = .agg #[.int .u8 a, .int .u8 b] ∧ (Lit.int .u8 a).wf = true ∧ (Lit.int .u8 b).wf = true := by
  obtain ⟨cs, rfl, hsz⟩ := okWide_arr Try.underlying54 hv
  rw [cells_arr2] at hsz
  obtain ⟨c0, c1, rfl⟩ : ∃ c0 c1, cs = #[c0, c1] := by
    obtain ⟨l⟩ := cs
    match l, hsz with
    | [x, y], _ => exact ⟨x, y, rfl⟩
  obtain ⟨fuel, hf⟩ := h
  obtain ⟨xs, m, _, _, _, hl, hx⟩ := DataW.trod_array Try.underlying54 hf
  have h0 := hx 0 (by decide)
  have h1 := hx 1 (by decide)
  rw [cells_u8, List.getElem?_eq_getElem (by omega)] at h0 h1
  have h0 : DataW.trod enc Try.prog w base spare held m 5 [c0] = _ := h0
  have h1 : DataW.trod enc Try.prog w base spare held m 5 [c1] = _ := h1
  obtain ⟨a, e0, _, w0⟩ := DataW.trod_int Try.underlying5 h0
  obtain ⟨b, e1, _, w1⟩ := DataW.trod_int Try.underlying5 h1
  simp at e0 e1
  subst e0 e1
  exact ⟨a, b, rfl, w0, w1⟩
end Go.Proofs.Ytdedgpgdmnfijaa
end

section
/- States with the same outputs. -/
namespace Go.Proofs.Ytdedgpgdmnfijaa

/-- A word over i symbols. -/
def Wd (i : Nat) (u : List Int) : Prop := ∀ x, x ∈ u → 0 ≤ x ∧ x < i
theorem Wd.nil (i : Nat) : Wd i [] := fun x h => by simp at h
theorem Wd.cons {i a : Nat} {u : List Int} (ha : a < i) (h : Wd i u) : Wd i ((a : Int) :: u) := fun x hx => by
  rcases List.mem_cons.1 hx with rfl | hx
  · omega
  · exact h x hx
theorem Wd.tail {i : Nat} {x : Int} {u : List Int} (h : Wd i (x :: u)) : Wd i u := fun y hy => h y (by simp [hy])
theorem Wd.head {i : Nat} {x : Int} {u : List Int} (h : Wd i (x :: u)) : ∃ a : Nat, x = a ∧ a < i := ⟨x.toNat, by have := h x (by simp); omega, by have := h x (by simp); omega⟩

/-- Two states have the same outputs for all words. -/
def Bis (i : Nat) (nx ot : List (List Int)) (s : Nat) (mx mt : List (List Int)) (t : Nat) : Prop := ∀ u, Wd i u → runO nx ot s u = runO mx mt t u
section
variable {i : Nat} {nx ot mx mt lx lt : List (List Int)} {s t r a : Nat}
theorem Bis.refl (i : Nat) (nx ot : List (List Int)) (s : Nat) : Bis i nx ot s nx ot s := fun _ _ => rfl
theorem Bis.symm (h : Bis i nx ot s mx mt t) : Bis i mx mt t nx ot s := fun u hu => (h u hu).symm
theorem Bis.trans (h : Bis i nx ot s mx mt t) (k : Bis i mx mt t lx lt r) : Bis i nx ot s lx lt r := fun u hu => (h u hu).trans (k u hu)
theorem Bis.out (h : Bis i nx ot s mx mt t) (ha : a < i) : oN ot s a = oN mt t a := by
  have := h [(a : Int)] ((Wd.nil i).cons ha)
  simpa [runO] using this
theorem Bis.next (h : Bis i nx ot s mx mt t) (ha : a < i) : Bis i nx ot (nN nx s a) mx mt (nN mx t a) := fun u hu => by
  have := h ((a : Int) :: u) (hu.cons ha)
  simp only [runO, Int.toNat_natCast, List.cons.injEq] at this
  exact this.2
end

end Go.Proofs.Ytdedgpgdmnfijaa
end

section
/- A distinguishing word is found just if the outputs differ. -/
namespace Go.Proofs.Ytdedgpgdmnfijaa

theorem fD_some {ot1 ot2 : List (List Int)} {e : Ent} {y : Nat} : ∀ {x : Nat}, fD ot1 ot2 e x = some y → y < x ∧ ¬ oN ot1 e.p y = oN ot2 e.q y ∧ ∀ a, a < y → oN ot1 e.p a = oN ot2 e.q a
  | 0, h => by simp [fD] at h
  | x + 1, h => by
    rw [fD] at h
    cases h1 : fD ot1 ot2 e x with
    | some z =>
      rw [h1] at h
      injection h with h
      subst h
      obtain ⟨a, b, c⟩ := fD_some h1
      exact ⟨by omega, b, c⟩
    | none =>
      rw [h1] at h
      by_cases h2 : oN ot1 e.p x = oN ot2 e.q x
      · simp [h2] at h
      · simp [h2] at h
        subst h
        exact ⟨by omega, h2, fD_none h1⟩
theorem runS_app (nx : List (List Int)) : ∀ (u v : List Int) (s : Nat), runS nx s (u ++ v) = runS nx (runS nx s u) v
  | [], _, _ => rfl
  | x :: u, v, s => by
    show runS nx (nN nx s x.toNat) (u ++ v) = _
    rw [runS_app nx u v]; rfl
theorem runO_app (nx ot : List (List Int)) : ∀ (u v : List Int) (s : Nat), runO nx ot s (u ++ v) = runO nx ot s u ++ runO nx ot (runS nx s u) v
  | [], _, _ => rfl
  | x :: u, v, s => by
    show oN ot s x.toNat :: runO nx ot (nN nx s x.toNat) (u ++ v) = _
    rw [runO_app nx ot u v]; rfl
theorem Wd.app {i : Nat} {u v : List Int} (h : Wd i u) (k : Wd i v) : Wd i (u ++ v) := fun x hx => (List.mem_append.1 hx).elim (h x) (k x)
theorem Wd.one {i a : Nat} (h : a < i) : Wd i [(a : Int)] := (Wd.nil i).cons h
/-- What the words of the entries do. -/
def Gd (nx1 nx2 ot1 ot2 : List (List Int)) (i s t : Nat) (e : Ent) : Prop := Wd i e.w ∧ runS nx1 s e.w = e.p ∧ runS nx2 t e.w = e.q ∧ runO nx1 ot1 s e.w = runO nx2 ot2 t e.w
section
variable {nx1 nx2 ot1 ot2 : List (List Int)} {i n m s t j : Nat} {E : List Ent} {e : Ent}
theorem Gd.next (h : Gd nx1 nx2 ot1 ot2 i s t e) {x : Nat} (hx : x < i) (ho : oN ot1 e.p x = oN ot2 e.q x) : Gd nx1 nx2 ot1 ot2 i s t (nxE nx1 nx2 j e x) := by
  obtain ⟨h1, h2, h3, h4⟩ := h
  refine ⟨h1.app (Wd.one hx), ?_, ?_, ?_⟩
  · show runS nx1 s (e.w ++ [(x : Int)]) = _
    rw [runS_app, h2]; rfl
  · show runS nx2 t (e.w ++ [(x : Int)]) = _
    rw [runS_app, h3]; rfl
  · show runO nx1 ot1 s (e.w ++ [(x : Int)]) = runO nx2 ot2 t (e.w ++ [(x : Int)])
    rw [runO_app, runO_app, h4, h2, h3]
    show _ ++ [oN ot1 e.p x] = _ ++ [oN ot2 e.q x]
    rw [ho]
theorem mem_addE {x : Ent} (h : x ∈ addE E e) : x ∈ E ∨ x = e := by
  unfold addE at h
  split at h
  · exact .inl h
  · rcases List.mem_append.1 h with h | h
    · exact .inl h
    · simp at h; exact .inr h
theorem Gd.addS (hE : ∀ x, x ∈ E → Gd nx1 nx2 ot1 ot2 i s t x) (he : Gd nx1 nx2 ot1 ot2 i s t e) : ∀ x, x ≤ i → (∀ a, a < x → oN ot1 e.p a = oN ot2 e.q a) → ∀ y, y ∈ _root_.Go.Proofs.Ytdedgpgdmnfijaa.addS nx1 nx2 j e E x → Gd nx1 nx2 ot1 ot2 i s t y
  | 0, _, _, y, hy => hE y hy
  | x + 1, hx, ho, y, hy => by
    rcases mem_addE hy with hy | rfl
    · exact Gd.addS hE he x (by omega) (fun a ha => ho a (by omega)) y hy
    · exact he.next (by omega) (ho x (by omega))
theorem srch_sound {v : List Int} : ∀ (k : Nat) (E : List Ent) (j : Nat), (∀ x, x ∈ E → Gd nx1 nx2 ot1 ot2 i s t x) → srch nx1 nx2 ot1 ot2 i k E j = some v →
    ∃ w x, v = w ++ [((x : Nat) : Int)] ∧ x < i ∧ Wd i w ∧ runO nx1 ot1 s w = runO nx2 ot2 t w ∧ ¬ oN ot1 (runS nx1 s w) x = oN ot2 (runS nx2 t w) x
  | 0, _, _, _, h => by simp [srch] at h
  | k + 1, E, j, hE, h => by
    rw [srch] at h
    by_cases hj : j < E.length
    · rw [if_pos hj] at h
      have he := hE _ (getDE_mem hj)
      cases hd : fD ot1 ot2 (E.getD j Ent.zero) i with
      | some x =>
        rw [hd] at h
        injection h with h
        obtain ⟨h1, h2, _⟩ := fD_some hd
        obtain ⟨g1, g2, g3, g4⟩ := he
        exact ⟨_, x, h.symm, h1, g1, g4, by rw [g2, g3]; exact h2⟩
      | none =>
        rw [hd] at h
        exact srch_sound k _ _ (fun y hy => Gd.addS hE he i (Nat.le_refl _) (fD_none hd) y hy) h
    · rw [if_neg hj] at h; exact absurd h (by simp)
theorem dst_sound {v : List Int} (h : dst nx1 ot1 nx2 ot2 i n m s t = some v) :
    ∃ w x, v = w ++ [((x : Nat) : Int)] ∧ x < i ∧ Wd i w ∧ runO nx1 ot1 s w = runO nx2 ot2 t w ∧ ¬ oN ot1 (runS nx1 s w) x = oN ot2 (runS nx2 t w) x := by
  refine srch_sound _ _ _ (fun x hx => ?_) h
  simp at hx
  subst hx
  exact ⟨Wd.nil i, rfl, rfl, rfl⟩
theorem dst_not {v : List Int} (h : dst nx1 ot1 nx2 ot2 i n m s t = some v) : ¬ Bis i nx1 ot1 s nx2 ot2 t := fun hb => by
  obtain ⟨w, x, _, hx, hw, _, hd⟩ := dst_sound h
  have h1 := hb (w ++ [(x : Int)]) (hw.app (Wd.one hx))
  rw [runO_app, runO_app, hb w hw] at h1
  have h2 := List.append_cancel_left h1
  simp only [runO, Int.toNat_natCast, List.cons.injEq] at h2
  exact hd h2.1
theorem hasE_mono {E T : List Ent} {p q : Nat} (h : hasE E p q) : hasE (E ++ T) p q := by unfold hasE at h ⊢; rw [List.map_append]; exact List.mem_append.2 (.inl h)
theorem addS_has (j : Nat) (e : Ent) (E : List Ent) : ∀ x y, y < x → hasE (_root_.Go.Proofs.Ytdedgpgdmnfijaa.addS nx1 nx2 j e E x) (nN nx1 e.p y) (nN nx2 e.q y)
  | 0, y, h => absurd h (by omega)
  | x + 1, y, h => by
    show hasE (addE (_root_.Go.Proofs.Ytdedgpgdmnfijaa.addS nx1 nx2 j e E x) (nxE nx1 nx2 j e x)) _ _
    by_cases e1 : y = x
    · subst e1
      by_cases h2 : hasE (_root_.Go.Proofs.Ytdedgpgdmnfijaa.addS nx1 nx2 j e E y) (nN nx1 e.p y) (nN nx2 e.q y)
      · rw [addE_in h2]; exact h2
      · rw [addE_out (e := nxE nx1 nx2 j e y) h2]
        unfold hasE
        rw [List.map_append]
        exact List.mem_append.2 (.inr (by simp [Ent.pr, nxE]))
    · have ih := addS_has j e E x y (by omega)
      unfold addE
      split
      · exact ih
      · exact hasE_mono ih
/-- An entry whose pairs behind have been found, and whose outputs are equal. -/
def Cl (nx1 nx2 ot1 ot2 : List (List Int)) (i : Nat) (E : List Ent) (e : Ent) : Prop := ∀ x, x < i → oN ot1 e.p x = oN ot2 e.q x ∧ hasE E (nN nx1 e.p x) (nN nx2 e.q x)
theorem srch_closed {st1 st2 : Nat} (hM : Mok i st1 n nx1 ot1) (hN : Mok i st2 m nx2 ot2) : ∀ (k : Nat) (E : List Ent) (j : Nat), Ens n m s t E → j ≤ E.length → n * m ≤ k + j → (∀ a, a < j → Cl nx1 nx2 ot1 ot2 i E (E.getD a Ent.zero)) → srch nx1 nx2 ot1 ot2 i k E j = none →
    ∃ F, Ens n m s t F ∧ ∀ a, a < F.length → Cl nx1 nx2 ot1 ot2 i F (F.getD a Ent.zero)
  | 0, E, j, hE, hj, hk, hc, _ => by
    have := hE.len
    exact ⟨E, hE, fun a ha => hc a (by omega)⟩
  | k + 1, E, j, hE, hj, hk, hc, h => by
    rw [srch] at h
    by_cases hl : j < E.length
    · rw [if_pos hl] at h
      cases hd : fD ot1 ot2 (E.getD j Ent.zero) i with
      | some x => rw [hd] at h; exact absurd h (by simp)
      | none =>
        rw [hd] at h
        have hE2 := addS_ens hM hN hE hl i (Nat.le_refl _)
        obtain ⟨T, hT⟩ := addS_pre (nx1 := nx1) (nx2 := nx2) j (E.getD j Ent.zero) E i
        have hle : E.length ≤ (_root_.Go.Proofs.Ytdedgpgdmnfijaa.addS nx1 nx2 j (E.getD j Ent.zero) E i).length := by rw [hT, List.length_append]; omega
        refine srch_closed hM hN k _ _ hE2 (by omega) (by omega) (fun a ha => ?_) h
        have hg : (_root_.Go.Proofs.Ytdedgpgdmnfijaa.addS nx1 nx2 j (E.getD j Ent.zero) E i).getD a Ent.zero = E.getD a Ent.zero := by rw [hT, getDE_pre (by omega)]
        rw [hg]
        by_cases ha2 : a = j
        · subst ha2
          exact fun x hx => ⟨fD_none hd x hx, addS_has a _ E i x hx⟩
        · intro x hx
          obtain ⟨c1, c2⟩ := hc a (by omega) x hx
          exact ⟨c1, by rw [hT]; exact hasE_mono c2⟩
    · exact ⟨E, hE, fun a ha => hc a (by omega)⟩
theorem hasE_get {E : List Ent} {p q : Nat} (h : hasE E p q) : ∃ a, a < E.length ∧ (E.getD a Ent.zero).p = p ∧ (E.getD a Ent.zero).q = q := by
  unfold hasE at h
  obtain ⟨e, he, e2⟩ := List.mem_map.1 h
  obtain ⟨a, ha, rfl⟩ := List.getElem_of_mem he
  refine ⟨a, ha, ?_⟩
  rw [List.getD_eq_getElem?_getD, List.getElem?_eq_getElem ha]
  unfold Ent.pr at e2
  injection e2 with e3 e4
  exact ⟨e3, e4⟩
theorem closed_bis {F : List Ent} (h : ∀ a, a < F.length → Cl nx1 nx2 ot1 ot2 i F (F.getD a Ent.zero)) : ∀ (u : List Int) (a : Nat), a < F.length → Wd i u → runO nx1 ot1 (F.getD a Ent.zero).p u = runO nx2 ot2 (F.getD a Ent.zero).q u
  | [], _, _, _ => rfl
  | x :: u, a, ha, hu => by
    obtain ⟨y, rfl, hy⟩ := hu.head
    obtain ⟨c1, c2⟩ := h a ha y hy
    obtain ⟨b, hb, e1, e2⟩ := hasE_get c2
    have ih := closed_bis h u b hb hu.tail
    rw [e1, e2] at ih
    simp only [runO, Int.toNat_natCast]
    rw [c1, ih]
theorem dst_none {st1 st2 : Nat} (hM : Mok i st1 n nx1 ot1) (hN : Mok i st2 m nx2 ot2) (hs : s < n) (ht : t < m) : dst nx1 ot1 nx2 ot2 i n m s t = none ↔ Bis i nx1 ot1 s nx2 ot2 t := by
  constructor
  · intro h
    obtain ⟨F, hF, hc⟩ := srch_closed hM hN _ _ 0 (Ens.one hs ht) (Nat.zero_le _) (by omega) (fun a ha => absurd ha (by omega)) h
    intro u hu
    have h1 := closed_bis hc u 0 hF.ne hu
    rw [hF.z.1, hF.z.2.1] at h1
    exact h1
  · intro hb
    cases h : dst nx1 ot1 nx2 ot2 i n m s t with
    | none => rfl
    | some v => exact absurd hb (dst_not h)
end
end Go.Proofs.Ytdedgpgdmnfijaa
end

section
/- What Iso says, and what it says of minimal machines. -/
namespace Go.Proofs.Ytdedgpgdmnfijaa

section
variable {i s1 s2 n m : Nat} {nx1 ot1 nx2 ot2 : List (List Int)}
theorem isoC_bis (hM : Mok i s1 n nx1 ot1) (hN : Mok i s2 m nx2 ot2) (h : isoC i nx1 ot1 s1 n nx2 ot2 s2 m) : Bis i nx1 ot1 s1 nx2 ot2 s2 := fun u hu => by
  have r1 := tr_run hM u s1 (st_mem nx1 i s1) hu
  have r2 := tr_run hN u s2 (st_mem nx2 i s2) hu
  rw [ixN_st] at r1 r2
  rw [← r1, ← r2, h.2.2.1, h.2.2.2]
/-- A truth value for 'the outputs are the same'. -/
theorem bis_bool (i : Nat) (nx1 ot1 : List (List Int)) (s : Nat) (nx2 ot2 : List (List Int)) (t : Nat) : ∃ b : Bool, b = true ↔ Bis i nx1 ot1 s nx2 ot2 t := ⟨@decide (Bis i nx1 ot1 s nx2 ot2 t) (Classical.propDecidable _), @decide_eq_true_iff _ (Classical.propDecidable _)⟩
theorem dst_val {s t : Nat} (hM : Mok i s1 n nx1 ot1) (hN : Mok i s2 m nx2 ot2) (hs : s < n) (ht : t < m) {b : Bool} (hb : b = true ↔ Bis i nx1 ot1 s nx2 ot2 t) : (dst nx1 ot1 nx2 ot2 i n m s t).isSome = !b := by
  have h := dst_none hM hN hs ht
  cases hd : dst nx1 ot1 nx2 ot2 i n m s t with
  | none => rw [hb.2 (h.1 hd)]; rfl
  | some v =>
    cases b with
    | false => rfl
    | true => rw [h.2 (hb.1 rfl)] at hd; exact absurd hd (by simp)
theorem dst_pos {s t : Nat} {v : List Int} (h : dst nx1 ot1 nx2 ot2 i n m s t = some v) : 0 < v.length := by
  obtain ⟨w, x, rfl, _⟩ := dst_sound h
  rw [List.length_append]
  show 0 < _ + 1
  omega
theorem dres_ok (hM : Mok i s1 n nx1 ot1) (hN : Mok i s2 m nx2 ot2) : dres i s1 nx1 ot1 i s2 nx2 ot2 = (dst nx1 ot1 nx2 ot2 i n m s1 s2, 0) := by
  have hc : chk2 i s1 nx1 ot1 i s2 nx2 ot2 = 0 := by unfold chk2; rw [if_neg (by simp [hM.vld]), if_neg (by simp [hN.vld]), if_pos rfl]
  unfold dres
  rw [if_pos hc, hM.nxl, hN.nxl]
  rfl
theorem ires_ok (hM : Mok i s1 n nx1 ot1) (hN : Mok i s2 m nx2 ot2) : ires i s1 nx1 ot1 i s2 nx2 ot2 = (if isoC i nx1 ot1 s1 n nx2 ot2 s2 m then some (isoL (rch nx1 i s1) (rch nx2 i s2) n) else none, 0) := by
  have hc : chk2 i s1 nx1 ot1 i s2 nx2 ot2 = 0 := by unfold chk2; rw [if_neg (by simp [hM.vld]), if_neg (by simp [hN.vld]), if_pos rfl]
  unfold ires
  rw [if_pos hc, hM.nxl, hN.nxl]
  rfl
theorem sres_ok {s t : Nat} (hM : Mok i s1 n nx1 ot1) (hs : s < n) (ht : t < n) : sres i s1 nx1 ot1 s t = (dst nx1 ot1 nx1 ot1 i n n s t, 0) := by
  unfold sres
  rw [if_neg (by simp [hM.vld]), if_pos (by rw [hM.nxl]; omega), hM.nxl]
  rfl
end
end Go.Proofs.Ytdedgpgdmnfijaa
end

section
/- Numbering by first occurrence; the classes of states that words of k symbols do not separate. -/
namespace Go.Proofs.Ytdedgpgdmnfijaa

section
variable {κ : Type} [BEq κ] [LawfulBEq κ]
/-- What is new is added at the end. -/
def addK (l : List κ) (x : κ) : List κ := if x ∈ l then l else l ++ [x]
/-- The different keys among the first n. -/
def grp (f : Nat → κ) : Nat → List κ
  | 0 => []
  | k + 1 => addK (grp f k) (f k)
theorem addK_pre (l : List κ) (x : κ) : ∃ t, addK l x = l ++ t := by
  unfold addK; split
  · exact ⟨[], by simp⟩
  · exact ⟨[x], rfl⟩
theorem addK_in {l : List κ} {x : κ} (h : x ∈ l) : addK l x = l := by unfold addK; rw [if_pos h]
theorem addK_out {l : List κ} {x : κ} (h : ¬ x ∈ l) : addK l x = l ++ [x] := by unfold addK; rw [if_neg h]
theorem mem_addK (l : List κ) (x : κ) : x ∈ addK l x := by
  unfold addK; split
  · assumption
  · simp
theorem grp_pre (f : Nat → κ) (m : Nat) : ∀ d, ∃ t, grp f (m + d) = grp f m ++ t
  | 0 => ⟨[], by simp⟩
  | d + 1 => by
    obtain ⟨t, ht⟩ := grp_pre f m d
    obtain ⟨u, hu⟩ := addK_pre (grp f (m + d)) (f (m + d))
    exact ⟨t ++ u, by show addK (grp f (m + d)) (f (m + d)) = _; rw [hu, ht, List.append_assoc]⟩
theorem grp_has (f : Nat → κ) {n s : Nat} (h : s < n) : f s ∈ grp f n := by
  obtain ⟨t, ht⟩ := grp_pre f (s + 1) (n - (s + 1))
  rw [show s + 1 + (n - (s + 1)) = n by omega] at ht
  rw [ht]
  exact List.mem_append_left _ (mem_addK _ _)
theorem grp_mem (f : Nat → κ) : ∀ {n : Nat} {x : κ}, x ∈ grp f n → ∃ s, s < n ∧ f s = x
  | 0, x, h => by simp [grp] at h
  | n + 1, x, h => by
    by_cases e : f n ∈ grp f n
    · rw [show grp f (n + 1) = grp f n from addK_in e] at h
      obtain ⟨s, hs, e2⟩ := grp_mem f h
      exact ⟨s, by omega, e2⟩
    · rw [show grp f (n + 1) = grp f n ++ [f n] from addK_out e] at h
      rcases List.mem_append.1 h with h | h
      · obtain ⟨s, hs, e2⟩ := grp_mem f h
        exact ⟨s, by omega, e2⟩
      · simp at h
        exact ⟨n, by omega, h.symm⟩
theorem grp_nodup (f : Nat → κ) : ∀ n, (grp f n).Nodup
  | 0 => by simp [grp]
  | n + 1 => by
    by_cases e : f n ∈ grp f n
    · rw [show grp f (n + 1) = grp f n from addK_in e]; exact grp_nodup f n
    · rw [show grp f (n + 1) = grp f n ++ [f n] from addK_out e]
      refine List.nodup_append.2 ⟨grp_nodup f n, by simp, fun a ha b hb => ?_⟩
      simp at hb; subst hb; intro e2; subst e2; exact e ha
theorem grp_len (f : Nat → κ) : ∀ n, (grp f n).length ≤ n
  | 0 => Nat.le_refl _
  | n + 1 => by
    have := grp_len f n
    obtain ⟨t, ht⟩ := addK_pre (grp f n) (f n)
    show (addK _ _).length ≤ _
    unfold addK
    split
    · omega
    · rw [List.length_append]; simp; omega
theorem idxOf_pre {l t : List κ} {x : κ} (h : x ∈ l) : (l ++ t).idxOf x = l.idxOf x := by rw [List.idxOf_append, if_pos h]
theorem idxOf_new {l : List κ} {x : κ} (h : ¬ x ∈ l) : (l ++ [x]).idxOf x = l.length := by
  rw [List.idxOf_append, if_neg h]; simp
theorem getD_idxOf {l : List κ} {x d : κ} (h : x ∈ l) : l.getD (l.idxOf x) d = x := by
  have := List.idxOf_lt_length_of_mem h
  rw [List.getD_eq_getElem?_getD, List.getElem?_eq_getElem this]
  exact List.getElem_idxOf this
theorem idxOf_inj2 {l : List κ} {x y : κ} (hx : x ∈ l) (hy : y ∈ l) (h : l.idxOf x = l.idxOf y) : x = y := by
  have h1 := getD_idxOf (d := x) hx
  have h2 := getD_idxOf (d := x) hy
  rw [h] at h1
  exact h1.symm.trans h2

/-- The number of s: that of its key among the different keys. -/
def nmb (f : Nat → κ) (s : Nat) : Nat := (grp f (s + 1)).idxOf (f s)
def num (f : Nat → κ) (n : Nat) : List Nat := (List.range n).map (nmb f)
theorem num_len (f : Nat → κ) (n : Nat) : (num f n).length = n := by simp [num]
theorem num_at (f : Nat → κ) {n s : Nat} (h : s < n) : (num f n).getD s 0 = nmb f s := by unfold num; simp [List.getD, h]
theorem nmb_in (f : Nat → κ) {n s : Nat} (h : s < n) : nmb f s = (grp f n).idxOf (f s) := by
  obtain ⟨t, ht⟩ := grp_pre f (s + 1) (n - (s + 1))
  rw [show s + 1 + (n - (s + 1)) = n by omega] at ht
  unfold nmb
  rw [ht, idxOf_pre (grp_has f (Nat.lt_succ_self s))]
theorem nmb_eq (f : Nat → κ) {s t : Nat} : nmb f s = nmb f t ↔ f s = f t := by
  have hs : s < s + t + 1 := by omega
  have ht : t < s + t + 1 := by omega
  rw [nmb_in f hs, nmb_in f ht]
  exact ⟨fun h => idxOf_inj2 (grp_has f hs) (grp_has f ht) h, fun h => by rw [h]⟩
theorem nmb_old (f : Nat → κ) {s : Nat} (h : f s ∈ grp f s) : nmb f s = (grp f s).idxOf (f s) := by
  unfold nmb; rw [show grp f (s + 1) = grp f s from addK_in h]
theorem nmb_new (f : Nat → κ) {s : Nat} (h : ¬ f s ∈ grp f s) : nmb f s = (grp f s).length := by
  unfold nmb; rw [show grp f (s + 1) = grp f s ++ [f s] from addK_out h, idxOf_new h]
theorem nmb_lt (f : Nat → κ) {n s : Nat} (h : s < n) : nmb f s < (grp f n).length := by
  rw [nmb_in f h]; exact List.idxOf_lt_length_of_mem (grp_has f h)
theorem nmb_le (f : Nat → κ) (s : Nat) : nmb f s ≤ s := by
  have h1 := nmb_lt f (show s < s + 1 by omega)
  have h2 := grp_len f (s + 1)
  omega
end

theorem num_congr {κ μ : Type} [BEq κ] [LawfulBEq κ] [BEq μ] [LawfulBEq μ] {f : Nat → κ} {g : Nat → μ} {n : Nat} (h : ∀ s t, s < n → t < n → (f s = f t ↔ g s = g t)) : num f n = num g n := by
  have key : ∀ m, m ≤ n → (grp f m).length = (grp g m).length ∧ ∀ s, s < m → nmb f s = nmb g s := by
    intro m
    induction m with
    | zero => intro _; exact ⟨rfl, fun s hs => absurd hs (by omega)⟩
    | succ m ih =>
      intro hm
      obtain ⟨h1, h2⟩ := ih (by omega)
      by_cases e : f m ∈ grp f m
      · obtain ⟨s, hs, e2⟩ := grp_mem f e
        have e3 : g s = g m := (h s m (by omega) (by omega)).1 e2
        have e4 : g m ∈ grp g m := e3 ▸ grp_has g hs
        refine ⟨?_, fun t ht => ?_⟩
        · rw [show grp f (m + 1) = grp f m from addK_in e, show grp g (m + 1) = grp g m from addK_in e4, h1]
        · by_cases et : t = m
          · subst et
            rw [← (nmb_eq f).2 e2, ← (nmb_eq g).2 e3]; exact h2 s hs
          · exact h2 t (by omega)
      · have e4 : ¬ g m ∈ grp g m := fun H => by
          obtain ⟨s, hs, e2⟩ := grp_mem g H
          exact e ((h s m (by omega) (by omega)).2 e2 ▸ grp_has f hs)
        refine ⟨?_, fun t ht => ?_⟩
        · rw [show grp f (m + 1) = grp f m ++ [f m] from addK_out e, show grp g (m + 1) = grp g m ++ [g m] from addK_out e4, List.length_append, List.length_append, h1]; rfl
        · by_cases et : t = m
          · subst et
            rw [nmb_new f e, nmb_new g e4, h1]
          · exact h2 t (by omega)
  unfold num
  refine List.map_congr_left fun s hs => ?_
  rw [List.mem_range] at hs
  exact (key n (Nat.le_refl _)).2 s hs

/-- The signature of a state, as far as a inputs are told: output and class, input by input. -/
def sgm (nx ot : List (List Int)) (cl : List Nat) (s a : Nat) : List Int := (List.range 128).map fun j => if j / 2 < a then (if j % 2 = 0 then oN ot s (j / 2) else ((cl.getD (nN nx s (j / 2)) 0 : Nat) : Int)) else 0
theorem sgm_len (nx ot : List (List Int)) (cl : List Nat) (s a : Nat) : (sgm nx ot cl s a).length = 128 := by simp [sgm]
theorem sgm_get (nx ot : List (List Int)) (cl : List Nat) (s a j : Nat) (h : j < 128) : (sgm nx ot cl s a)[j]? = some (if j / 2 < a then (if j % 2 = 0 then oN ot s (j / 2) else ((cl.getD (nN nx s (j / 2)) 0 : Nat) : Int)) else 0) := by
  unfold sgm; rw [List.getElem?_map, List.getElem?_range h]; rfl
theorem sgm_zero (nx ot : List (List Int)) (cl : List Nat) (s : Nat) : sgm nx ot cl s 0 = List.replicate 128 0 := by
  apply List.ext_getElem?
  intro j
  by_cases h : j < 128
  · rw [sgm_get _ _ _ _ _ _ h, if_neg (by omega), List.getElem?_replicate, if_pos h]
  · rw [List.getElem?_eq_none (by rw [sgm_len]; omega), List.getElem?_eq_none (by simp; omega)]
theorem sgm_succ (nx ot : List (List Int)) (cl : List Nat) (s a : Nat) : ((sgm nx ot cl s a).set (2 * a) (oN ot s a)).set (2 * a + 1) ((cl.getD (nN nx s a) 0 : Nat) : Int) = sgm nx ot cl s (a + 1) := by
  apply List.ext_getElem?
  intro j
  by_cases hj : j < 128
  · rw [sgm_get _ _ _ _ _ _ hj, List.getElem?_set, List.length_set, sgm_len]
    by_cases e : 2 * a + 1 = j
    · subst e
      rw [if_pos rfl, if_pos hj, if_pos (by omega), if_neg (by omega), show (2 * a + 1) / 2 = a by omega]
    · rw [if_neg e, List.getElem?_set, sgm_len]
      by_cases e2 : 2 * a = j
      · subst e2
        rw [if_pos rfl, if_pos hj, if_pos (by omega), if_pos (by omega), show 2 * a / 2 = a by omega]
      · rw [if_neg e2, sgm_get _ _ _ _ _ _ hj]
        by_cases e3 : j / 2 < a
        · rw [if_pos e3, if_pos (show j / 2 < a + 1 by omega)]
        · rw [if_neg e3, if_neg (show ¬ j / 2 < a + 1 by omega)]
  · rw [List.getElem?_eq_none (by simp [sgm_len]; omega), List.getElem?_eq_none (by rw [sgm_len]; omega)]
theorem sgm_eq {nx ot : List (List Int)} {cl : List Nat} {s t i : Nat} (h : i ≤ 64) : sgm nx ot cl s i = sgm nx ot cl t i ↔ ∀ a, a < i → oN ot s a = oN ot t a ∧ cl.getD (nN nx s a) 0 = cl.getD (nN nx t a) 0 := by
  constructor
  · intro e a ha
    have h1 : (sgm nx ot cl s i)[2 * a]? = (sgm nx ot cl t i)[2 * a]? := by rw [e]
    have h2 : (sgm nx ot cl s i)[2 * a + 1]? = (sgm nx ot cl t i)[2 * a + 1]? := by rw [e]
    rw [sgm_get _ _ _ _ _ _ (by omega), sgm_get _ _ _ _ _ _ (by omega), show 2 * a / 2 = a by omega, if_pos ha, if_pos ha, if_pos (show 2 * a % 2 = 0 by omega), if_pos (show 2 * a % 2 = 0 by omega)] at h1
    rw [sgm_get _ _ _ _ _ _ (by omega), sgm_get _ _ _ _ _ _ (by omega), show (2 * a + 1) / 2 = a by omega, if_pos ha, if_pos ha, if_neg (show ¬ (2 * a + 1) % 2 = 0 by omega), if_neg (show ¬ (2 * a + 1) % 2 = 0 by omega)] at h2
    simp only [Option.some.injEq] at h1 h2
    exact ⟨h1, by omega⟩
  · intro H
    apply List.ext_getElem?
    intro j
    by_cases hj : j < 128
    · rw [sgm_get _ _ _ _ _ _ hj, sgm_get _ _ _ _ _ _ hj]
      by_cases e : j / 2 < i
      · rw [if_pos e, if_pos e]
        obtain ⟨h1, h2⟩ := H _ e
        by_cases e2 : j % 2 = 0
        · rw [if_pos e2, if_pos e2, h1]
        · rw [if_neg e2, if_neg e2, h2]
      · rw [if_neg e, if_neg e]
    · rw [List.getElem?_eq_none (by rw [sgm_len]; omega), List.getElem?_eq_none (by rw [sgm_len]; omega)]

/-- The classes of states that no word of k symbols separates. -/
def pt (nx ot : List (List Int)) (i n : Nat) : Nat → List Nat
  | 0 => List.replicate n 0
  | k + 1 => num (fun s => sgm nx ot (pt nx ot i n k) s i) n
theorem pt_len (nx ot : List (List Int)) (i n : Nat) : ∀ k, (pt nx ot i n k).length = n
  | 0 => by simp [pt]
  | k + 1 => num_len _ _
/-- The class of a state. -/
def cN (nx ot : List (List Int)) (i n k s : Nat) : Nat := (pt nx ot i n k).getD s 0
theorem cN_zero {nx ot : List (List Int)} {i n s : Nat} (h : s < n) : cN nx ot i n 0 s = 0 := by unfold cN pt; simp [List.getD, h]
theorem cN_le {nx ot : List (List Int)} {i n k s : Nat} (h : s < n) : cN nx ot i n k s ≤ s := by
  cases k with
  | zero => rw [cN_zero h]; omega
  | succ k => unfold cN pt; rw [num_at _ h]; exact nmb_le _ _
theorem Mok.cN_succ {i st n : Nat} {nx ot : List (List Int)} (hM : Mok i st n nx ot) {k s t : Nat} (hs : s < n) (ht : t < n) :
    cN nx ot i n (k + 1) s = cN nx ot i n (k + 1) t ↔ ∀ a, a < i → oN ot s a = oN ot t a ∧ cN nx ot i n k (nN nx s a) = cN nx ot i n k (nN nx t a) := by
  unfold cN
  show (num _ n).getD s 0 = (num _ n).getD t 0 ↔ _
  rw [num_at _ hs, num_at _ ht, nmb_eq, sgm_eq hM.i2]
theorem Mok.cN_fine {i st n : Nat} {nx ot : List (List Int)} (hM : Mok i st n nx ot) : ∀ {k s t : Nat}, s < n → t < n → cN nx ot i n (k + 1) s = cN nx ot i n (k + 1) t → cN nx ot i n k s = cN nx ot i n k t
  | 0, s, t, hs, ht, _ => by rw [cN_zero hs, cN_zero ht]
  | k + 1, s, t, hs, ht, h => by
    rw [hM.cN_succ hs ht] at h ⊢
    exact fun a ha => ⟨(h a ha).1, hM.cN_fine (hM.nN_lt hs ha) (hM.nN_lt ht ha) (h a ha).2⟩
theorem pt_stay {nx ot : List (List Int)} {i n k : Nat} (h : pt nx ot i n (k + 1) = pt nx ot i n k) : ∀ d, pt nx ot i n (k + d) = pt nx ot i n k
  | 0 => rfl
  | d + 1 => by
    show num (fun s => sgm nx ot (pt nx ot i n (k + d)) s i) n = _
    rw [pt_stay h d]
    exact h
theorem list_ext0 {l t : List Nat} {n : Nat} (h1 : l.length = n) (h2 : t.length = n) (h : ∀ s, s < n → l.getD s 0 = t.getD s 0) : l = t := by
  apply List.ext_getElem (by omega)
  intro s hs ht
  have := h s (by omega)
  rw [List.getD_eq_getElem?_getD, List.getD_eq_getElem?_getD, List.getElem?_eq_getElem hs, List.getElem?_eq_getElem ht] at this
  exact this
/-- A partition by numbers of first occurrence is determined by its classes. -/
theorem pt_num {i st n : Nat} {nx ot : List (List Int)} (_ : Mok i st n nx ot) : ∀ k, pt nx ot i n k = num (cN nx ot i n k) n
  | 0 => by
    apply list_ext0 (pt_len _ _ _ _ _) (num_len _ _)
    intro s hs
    rw [num_at _ hs]
    have h0 : (pt nx ot i n 0).getD s 0 = 0 := cN_zero hs
    have e : ∀ m, m ≤ n → ∀ t, t ∈ grp (cN nx ot i n 0) m → t = 0 := fun m hm t ht => by
      obtain ⟨u, hu, rfl⟩ := grp_mem _ ht
      exact cN_zero (by omega)
    rw [h0]
    have h1 : nmb (cN nx ot i n 0) s = nmb (cN nx ot i n 0) 0 := (nmb_eq _).2 (by rw [cN_zero hs, cN_zero (by omega)])
    have := nmb_le (cN nx ot i n 0) 0
    omega
  | k + 1 => by
    refine num_congr fun s t hs ht => ?_
    have h1 := num_at (fun s => sgm nx ot (pt nx ot i n k) s i) hs
    have h2 := num_at (fun s => sgm nx ot (pt nx ot i n k) s i) ht
    show _ ↔ (num _ n).getD s 0 = (num _ n).getD t 0
    rw [h1, h2]
    exact (nmb_eq (fun s => sgm nx ot (pt nx ot i n k) s i)).symm
end Go.Proofs.Ytdedgpgdmnfijaa
end

section
/- Partitions become finer until they stay: the depth. -/
namespace Go.Proofs.Ytdedgpgdmnfijaa

/-- The least of its class. -/
def fst_ (c : Nat → Nat) (s : Nat) : Bool := (List.range s).all fun t => c t != c s
theorem fst_iff {c : Nat → Nat} {s : Nat} : fst_ c s = true ↔ ∀ t, t < s → c t ≠ c s := by
  unfold fst_
  simp [List.all_eq_true]
theorem fst_ex (c : Nat → Nat) : ∀ s, ∃ r, r ≤ s ∧ c r = c s ∧ fst_ c r = true := by
  intro s
  induction s using Nat.strongRecOn with
  | _ s ih =>
    by_cases h : fst_ c s = true
    · exact ⟨s, Nat.le_refl _, rfl, h⟩
    · have h2 : ∃ t, t < s ∧ c t = c s := by
        rw [fst_iff] at h
        exact Classical.byContradiction fun H => h fun t ht e => H ⟨t, ht, e⟩
      obtain ⟨t, ht, e⟩ := h2
      obtain ⟨r, h3, h4, h5⟩ := ih t ht
      exact ⟨r, by omega, h4.trans e, h5⟩
def cnt (c : Nat → Nat) (n : Nat) : Nat := ((List.range n).filter (fst_ c)).length
theorem cnt_le (c : Nat → Nat) (n : Nat) : cnt c n ≤ n := by
  unfold cnt
  have := List.length_filter_le (fst_ c) (List.range n)
  simpa using this
theorem cnt_pos (c : Nat → Nat) {n : Nat} (h : 0 < n) : 0 < cnt c n := by
  unfold cnt
  have : 0 ∈ (List.range n).filter (fst_ c) := by
    rw [List.mem_filter]
    exact ⟨by simpa using h, by rw [fst_iff]; intro t ht; omega⟩
  exact List.length_pos_of_mem this
theorem filter_le {p q : Nat → Bool} : ∀ {l : List Nat}, (∀ x, x ∈ l → p x = true → q x = true) → (l.filter p).length ≤ (l.filter q).length
  | [], _ => Nat.le_refl _
  | x :: l, h => by
    have ih := filter_le (l := l) fun y hy => h y (by simp [hy])
    rw [List.filter_cons, List.filter_cons]
    by_cases hp : p x = true
    · rw [if_pos hp, if_pos (h x (by simp) hp)]; simp; exact ih
    · rw [if_neg hp]
      split
      · simp; omega
      · exact ih
theorem filter_eq_of_len {p q : Nat → Bool} : ∀ {l : List Nat}, (∀ x, x ∈ l → p x = true → q x = true) → (l.filter q).length ≤ (l.filter p).length → ∀ x, x ∈ l → q x = true → p x = true
  | [], _, _, x, hx => by simp at hx
  | y :: l, h, hl, x, hx => by
    intro hq
    have hle := filter_le (p := p) (q := q) (l := l) fun z hz => h z (by simp [hz])
    rw [List.filter_cons, List.filter_cons] at hl
    by_cases hp : p y = true
    · rw [if_pos hp, if_pos (h y (by simp) hp)] at hl
      rcases List.mem_cons.1 hx with rfl | hx
      · exact hp
      · exact filter_eq_of_len (fun z hz => h z (by simp [hz])) (by simpa using hl) x hx hq
    · rw [if_neg hp] at hl
      by_cases hqy : q y = true
      · rw [if_pos hqy] at hl; simp at hl; omega
      · rw [if_neg hqy] at hl
        rcases List.mem_cons.1 hx with rfl | hx
        · exact absurd hq hqy
        · exact filter_eq_of_len (fun z hz => h z (by simp [hz])) hl x hx hq
/-- A finer partition with as many classes is the same one. -/
theorem cnt_same {c d : Nat → Nat} {n : Nat} (h : ∀ s t, s < n → t < n → d s = d t → c s = c t) (hc : cnt d n ≤ cnt c n) : ∀ s t, s < n → t < n → c s = c t → d s = d t := by
  have h1 : ∀ x, x ∈ List.range n → fst_ c x = true → fst_ d x = true := fun x hx hf => by
    rw [fst_iff] at hf ⊢
    rw [List.mem_range] at hx
    exact fun t ht e => hf t ht (h t x (by omega) hx e)
  have h2 := filter_eq_of_len h1 hc
  intro s t hs ht e
  obtain ⟨r, r1, r2, r3⟩ := fst_ex d s
  obtain ⟨u, u1, u2, u3⟩ := fst_ex d t
  have f1 := h2 r (by simp; omega) r3
  have f2 := h2 u (by simp; omega) u3
  rw [fst_iff] at f1 f2
  have e3 : c r = c u := (h r s (by omega) hs r2).trans (e.trans (h u t (by omega) ht u2).symm)
  have e4 : r = u := by
    rcases Nat.lt_trichotomy r u with hlt | he | hgt
    · exact absurd e3 (f2 r hlt)
    · exact he
    · exact absurd e3.symm (f1 u hgt)
  subst e4
  exact r2.symm.trans u2
theorem cnt_lt {c d : Nat → Nat} {n : Nat} (h : ∀ s t, s < n → t < n → d s = d t → c s = c t) (hne : ¬ ∀ s t, s < n → t < n → c s = c t → d s = d t) : cnt c n < cnt d n := by
  rcases Nat.lt_or_ge (cnt c n) (cnt d n) with h1 | h1
  · exact h1
  · exact absurd (cnt_same h h1) hne

/-- The first number, among the given ones, from which on the classes stay. -/
def depF (nx ot : List (List Int)) (i n : Nat) : Nat → Nat → Nat
  | 0, j => j
  | f + 1, j => if pt nx ot i n (j + 1) = pt nx ot i n j then j else depF nx ot i n f (j + 1)
def dep (nx ot : List (List Int)) (i n : Nat) : Nat := depF nx ot i n n 0
theorem pt_same {i st n : Nat} {nx ot : List (List Int)} (hM : Mok i st n nx ot) {j k : Nat} (h : ∀ s t, s < n → t < n → (cN nx ot i n j s = cN nx ot i n j t ↔ cN nx ot i n k s = cN nx ot i n k t)) : pt nx ot i n j = pt nx ot i n k := by
  rw [pt_num hM j, pt_num hM k]; exact num_congr h
theorem Mok.cnt_succ {i st n : Nat} {nx ot : List (List Int)} (hM : Mok i st n nx ot) {j : Nat} (h : pt nx ot i n (j + 1) ≠ pt nx ot i n j) : cnt (cN nx ot i n j) n < cnt (cN nx ot i n (j + 1)) n :=
  cnt_lt (fun _ _ hs ht e => hM.cN_fine hs ht e) fun H => h (pt_same hM fun s t hs ht => ⟨hM.cN_fine hs ht, H s t hs ht⟩)
theorem Mok.cnt_ge {i st n : Nat} {nx ot : List (List Int)} (hM : Mok i st n nx ot) : ∀ {j : Nat}, (∀ m, m < j → pt nx ot i n (m + 1) ≠ pt nx ot i n m) → j + 1 ≤ cnt (cN nx ot i n j) n
  | 0, _ => cnt_pos _ hM.n1
  | j + 1, h => by
    have h1 := hM.cnt_ge (j := j) fun m hm => h m (by omega)
    have h2 := hM.cnt_succ (h j (by omega))
    omega
theorem depF_spec {i st n : Nat} {nx ot : List (List Int)} (hM : Mok i st n nx ot) : ∀ (f j : Nat), n ≤ f + j → (∀ m, m < j → pt nx ot i n (m + 1) ≠ pt nx ot i n m) →
    pt nx ot i n (depF nx ot i n f j + 1) = pt nx ot i n (depF nx ot i n f j) ∧ ∀ m, m < depF nx ot i n f j → pt nx ot i n (m + 1) ≠ pt nx ot i n m
  | 0, j, hf, h => by
    have h1 := hM.cnt_ge h
    have h2 := cnt_le (cN nx ot i n j) n
    omega
  | f + 1, j, hf, h => by
    unfold depF
    by_cases e : pt nx ot i n (j + 1) = pt nx ot i n j
    · rw [if_pos e]; exact ⟨e, h⟩
    · rw [if_neg e]
      refine depF_spec hM f (j + 1) (by omega) fun m hm => ?_
      by_cases e2 : m = j
      · subst e2; exact e
      · exact h m (by omega)
theorem Mok.dep_stay {i st n : Nat} {nx ot : List (List Int)} (hM : Mok i st n nx ot) : pt nx ot i n (dep nx ot i n + 1) = pt nx ot i n (dep nx ot i n) := (depF_spec hM n 0 (by omega) fun m hm => absurd hm (by omega)).1
theorem Mok.dep_min {i st n : Nat} {nx ot : List (List Int)} (hM : Mok i st n nx ot) {m : Nat} (h : m < dep nx ot i n) : pt nx ot i n (m + 1) ≠ pt nx ot i n m := (depF_spec hM n 0 (by omega) fun m hm => absurd hm (by omega)).2 m h
theorem Mok.dep_lt {i st n : Nat} {nx ot : List (List Int)} (hM : Mok i st n nx ot) : dep nx ot i n < n := by
  have h1 := hM.cnt_ge (j := dep nx ot i n) fun m hm => hM.dep_min hm
  have h2 := cnt_le (cN nx ot i n (dep nx ot i n)) n
  omega
theorem Mok.dep_le {i st n : Nat} {nx ot : List (List Int)} (hM : Mok i st n nx ot) {j : Nat} (h : ∀ m, m < j → pt nx ot i n (m + 1) ≠ pt nx ot i n m) : j ≤ dep nx ot i n := by
  rcases Nat.lt_or_ge (dep nx ot i n) j with h1 | h1
  · exact absurd hM.dep_stay (h _ h1)
  · exact h1
theorem Mok.dep_eq {i st n : Nat} {nx ot : List (List Int)} (hM : Mok i st n nx ot) {j : Nat} (h : ∀ m, m < j → pt nx ot i n (m + 1) ≠ pt nx ot i n m) (hj : pt nx ot i n (j + 1) = pt nx ot i n j) : j = dep nx ot i n := by
  have h1 := hM.dep_le h
  rcases Nat.lt_or_ge j (dep nx ot i n) with h2 | h2
  · exact absurd hj (hM.dep_min h2)
  · omega
theorem Mok.pt_all {i st n : Nat} {nx ot : List (List Int)} (hM : Mok i st n nx ot) {k : Nat} (h : dep nx ot i n ≤ k) : pt nx ot i n k = pt nx ot i n (dep nx ot i n) := by
  obtain ⟨d, rfl⟩ := Nat.le.dest h
  exact pt_stay hM.dep_stay d
/-- The classes for k are all classes just if k is not below the depth. -/
theorem Mok.pt_eq_all {i st n : Nat} {nx ot : List (List Int)} (hM : Mok i st n nx ot) {k : Nat} : pt nx ot i n k = pt nx ot i n (dep nx ot i n) ↔ dep nx ot i n ≤ k := by
  refine ⟨fun h => ?_, hM.pt_all⟩
  rcases Nat.lt_or_ge k (dep nx ot i n) with h1 | h1
  · refine absurd ?_ (hM.dep_min h1)
    have h2 := hM.dep_stay
    show num (fun s => sgm nx ot (pt nx ot i n k) s i) n = _
    rw [h]
    exact h2
  · exact h1
end Go.Proofs.Ytdedgpgdmnfijaa
end

section
/- The machine of classes: which rows it has. -/
namespace Go.Proofs.Ytdedgpgdmnfijaa

/-- The least states of the classes among the first s. -/
def reps (f : Nat → Nat) : Nat → List Nat
  | 0 => []
  | s + 1 => if f s ∈ grp f s then reps f s else reps f s ++ [s]
theorem reps_in {f : Nat → Nat} {s : Nat} (h : f s ∈ grp f s) : reps f (s + 1) = reps f s := by
  show (if _ then _ else _) = _; rw [if_pos h]
theorem reps_out {f : Nat → Nat} {s : Nat} (h : ¬ f s ∈ grp f s) : reps f (s + 1) = reps f s ++ [s] := by
  show (if _ then _ else _) = _; rw [if_neg h]
theorem reps_map (f : Nat → Nat) : ∀ s, (reps f s).map f = grp f s
  | 0 => rfl
  | s + 1 => by
    by_cases h : f s ∈ grp f s
    · rw [reps_in h, show grp f (s + 1) = grp f s from addK_in h]; exact reps_map f s
    · rw [reps_out h, show grp f (s + 1) = grp f s ++ [f s] from addK_out h, List.map_append, reps_map f s]; rfl
theorem reps_len (f : Nat → Nat) (s : Nat) : (reps f s).length = (grp f s).length := by rw [← reps_map, List.length_map]
theorem reps_lt (f : Nat → Nat) : ∀ (n : Nat) {r : Nat}, r ∈ reps f n → r < n
  | 0, r, h => by simp [reps] at h
  | n + 1, r, h => by
    by_cases e : f n ∈ grp f n
    · rw [reps_in e] at h; have := reps_lt f n h; omega
    · rw [reps_out e] at h
      rcases List.mem_append.1 h with h | h
      · have := reps_lt f n h; omega
      · simp at h; omega
/-- A class that is not there yet has the next number. -/
theorem nmb_skip (f : Nat → Nat) (s : Nat) : nmb f s < (reps f s).length ↔ f s ∈ grp f s := by
  rw [reps_len]
  constructor
  · intro h
    exact Classical.byContradiction fun H => by rw [nmb_new f H] at h; omega
  · intro h
    rw [nmb_old f h]
    exact List.idxOf_lt_length_of_mem h
theorem reps_at (f : Nat → Nat) {n s : Nat} (h : s < n) : f ((reps f n).getD (nmb f s) 0) = f s := by
  have h1 := nmb_lt f h
  rw [← reps_len] at h1
  have h2 : ((reps f n).map f).getD (nmb f s) (f 0) = f s := by
    rw [reps_map, nmb_in f h]; exact getD_idxOf (grp_has f h)
  rw [List.getD_eq_getElem?_getD, List.getElem?_map, List.getElem?_eq_getElem h1] at h2
  rw [List.getD_eq_getElem?_getD, List.getElem?_eq_getElem h1]
  exact h2
theorem nmb_reps (f : Nat → Nat) {n j : Nat} (h : j < (reps f n).length) : nmb f ((reps f n).getD j 0) = j := by
  have hm : (reps f n).getD j 0 ∈ reps f n := getD_mem h
  rw [nmb_in f (reps_lt f n hm)]
  have hj : j < (grp f n).length := by rw [← reps_len]; exact h
  have h2 : (grp f n)[j] = f ((reps f n).getD j 0) := by
    have h3 : (grp f n)[j]? = some (f ((reps f n).getD j 0)) := by
      rw [← reps_map, List.getElem?_map, List.getD_eq_getElem?_getD, List.getElem?_eq_getElem h]; rfl
    rw [List.getElem?_eq_getElem hj] at h3
    exact Option.some.inj h3
  rw [← h2]
  have h4 := List.getElem_idxOf (x := (grp f n)[j]) (xs := grp f n) (List.idxOf_lt_length_of_mem (List.getElem_mem hj))
  exact (List.getElem_inj (grp_nodup f n)).1 h4

/-- The rows of the machine of classes. -/
def qR (nx : List (List Int)) (i : Nat) (f : Nat → Nat) (s : Nat) : List Int := (List.range i).map fun a => ((nmb f (nN nx s a) : Nat) : Int)
theorem qR_len (nx : List (List Int)) (i : Nat) (f : Nat → Nat) (s : Nat) : (qR nx i f s).length = i := by simp [qR]
theorem qR_at {nx : List (List Int)} {i : Nat} {f : Nat → Nat} {s a : Nat} (ha : a < i) : (qR nx i f s).getD a 0 = ((nmb f (nN nx s a) : Nat) : Int) := by
  unfold qR; simp [List.getD, ha]
/-- A row while it is renumbered. -/
def qmid (nx : List (List Int)) (i : Nat) (f : Nat → Nat) (s a : Nat) : List Int := (qR nx i f s).take a ++ (nx.getD s []).drop a
theorem qmid_zero (nx : List (List Int)) (i : Nat) (f : Nat → Nat) (s : Nat) : qmid nx i f s 0 = nx.getD s [] := by simp [qmid]
theorem qmid_all {nx : List (List Int)} {i : Nat} {f : Nat → Nat} {s : Nat} (h : (nx.getD s []).length = i) : qmid nx i f s i = qR nx i f s := by
  unfold qmid; rw [List.take_of_length_le (by rw [qR_len]; exact Nat.le_refl _), List.drop_eq_nil_of_le (by omega), List.append_nil]
theorem qmid_len {nx : List (List Int)} {i : Nat} {f : Nat → Nat} {s a : Nat} (h : (nx.getD s []).length = i) (ha : a ≤ i) : (qmid nx i f s a).length = i := by
  unfold qmid; rw [List.length_append, List.length_take, List.length_drop, qR_len, h]; omega
theorem qmid_get {nx : List (List Int)} {i : Nat} {f : Nat → Nat} {s a m : Nat} (ha : a ≤ i) : (qmid nx i f s a)[m]? = if m < a then (qR nx i f s)[m]? else (nx.getD s [])[m]? := by
  unfold qmid
  have hl : ((qR nx i f s).take a).length = a := by rw [List.length_take, qR_len]; omega
  by_cases h : m < a
  · rw [if_pos h, List.getElem?_append_left (by omega), List.getElem?_take, if_pos h]
  · rw [if_neg h, List.getElem?_append_right (by omega), List.getElem?_drop, hl, show a + (m - a) = m by omega]
theorem qmid_at {nx : List (List Int)} {i : Nat} {f : Nat → Nat} {s a : Nat} (ha : a < i) : (qmid nx i f s a).getD a 0 = (nx.getD s []).getD a 0 := by
  rw [List.getD_eq_getElem?_getD, qmid_get (by omega), if_neg (by omega), ← List.getD_eq_getElem?_getD]
theorem qmid_set {nx : List (List Int)} {i : Nat} {f : Nat → Nat} {s a : Nat} (h : (nx.getD s []).length = i) (ha : a < i) : (qmid nx i f s a).set a ((nmb f (nN nx s a) : Nat) : Int) = qmid nx i f s (a + 1) := by
  apply List.ext_getElem?
  intro m
  have ht : (qR nx i f s)[a]? = some ((nmb f (nN nx s a) : Nat) : Int) := by
    have := qR_at (nx := nx) (f := f) (s := s) ha
    rw [List.getD_eq_getElem?_getD, List.getElem?_eq_getElem (by rw [qR_len]; exact ha)] at this
    rw [List.getElem?_eq_getElem (by rw [qR_len]; exact ha)]
    exact congrArg some this
  rw [List.getElem?_set, qmid_get (by omega), qmid_get (by omega), qmid_len h (by omega)]
  by_cases e : a = m
  · subst e
    rw [if_pos rfl, if_pos ha, if_pos (by omega), ht]
  · rw [if_neg e]
    by_cases e2 : m < a
    · rw [if_pos e2, if_pos (by omega)]
    · rw [if_neg e2, if_neg (by omega)]
/-- The tables of the machine of classes. -/
def qN (nx : List (List Int)) (i : Nat) (f : Nat → Nat) (s : Nat) : List (List Int) := (reps f s).map (qR nx i f)
def qO (ot : List (List Int)) (f : Nat → Nat) (s : Nat) : List (List Int) := (reps f s).map fun s => ot.getD s []
theorem qN_in {nx : List (List Int)} {i : Nat} {f : Nat → Nat} {s : Nat} (h : f s ∈ grp f s) : qN nx i f (s + 1) = qN nx i f s := by unfold qN; rw [reps_in h]
theorem qO_in {ot : List (List Int)} {f : Nat → Nat} {s : Nat} (h : f s ∈ grp f s) : qO ot f (s + 1) = qO ot f s := by unfold qO; rw [reps_in h]
theorem qN_out {nx : List (List Int)} {i : Nat} {f : Nat → Nat} {s : Nat} (h : ¬ f s ∈ grp f s) : qN nx i f (s + 1) = qN nx i f s ++ [qR nx i f s] := by unfold qN; rw [reps_out h, List.map_append]; rfl
theorem qO_out {ot : List (List Int)} {f : Nat → Nat} {s : Nat} (h : ¬ f s ∈ grp f s) : qO ot f (s + 1) = qO ot f s ++ [ot.getD s []] := by unfold qO; rw [reps_out h, List.map_append]; rfl
theorem qN_len (nx : List (List Int)) (i : Nat) (f : Nat → Nat) (s : Nat) : (qN nx i f s).length = (reps f s).length := by simp [qN]
theorem qO_len (ot : List (List Int)) (f : Nat → Nat) (s : Nat) : (qO ot f s).length = (reps f s).length := by simp [qO]
theorem reps_le (f : Nat → Nat) (s : Nat) : (reps f s).length ≤ s := by rw [reps_len]; exact grp_len f s
end Go.Proofs.Ytdedgpgdmnfijaa
end

section
/- The minimal machine. -/
namespace Go.Proofs.Ytdedgpgdmnfijaa

theorem getD_map {α β : Type} (g : α → β) (l : List α) (d : α) (e : β) {j : Nat} (h : j < l.length) : (l.map g).getD j e = g (l.getD j d) := by
  rw [List.getD_eq_getElem?_getD, List.getElem?_map, List.getD_eq_getElem?_getD, List.getElem?_eq_getElem h]; rfl
theorem qN_row (nx : List (List Int)) (i : Nat) (f : Nat → Nat) {n j : Nat} (h : j < (reps f n).length) : (qN nx i f n).getD j [] = qR nx i f ((reps f n).getD j 0) := getD_map _ _ 0 _ h
theorem qO_row (ot : List (List Int)) (f : Nat → Nat) {n j : Nat} (h : j < (reps f n).length) : (qO ot f n).getD j [] = ot.getD ((reps f n).getD j 0) [] := by unfold qO; exact getD_map _ _ 0 _ h
theorem reps_get_lt (f : Nat → Nat) {n j : Nat} (h : j < (reps f n).length) : (reps f n).getD j 0 < n := reps_lt f n (getD_mem h)
theorem nmb_lt_reps (f : Nat → Nat) {n s : Nat} (h : s < n) : nmb f s < (reps f n).length := by rw [reps_len]; exact nmb_lt f h
theorem Mok.quot {i st n : Nat} {nx ot : List (List Int)} (hM : Mok i st n nx ot) (f : Nat → Nat) : Mok i (nmb f st) (reps f n).length (qN nx i f n) (qO ot f n) where
  i1 := hM.i1
  i2 := hM.i2
  n1 := by have := nmb_lt_reps f hM.st; omega
  n2 := by have := reps_le f n; have := hM.n2; omega
  st := nmb_lt_reps f hM.st
  nxl := qN_len _ _ _ _
  otl := qO_len _ _ _
  row := fun s hs => by
    have hr := reps_get_lt f hs
    rw [qN_row _ _ _ hs, qO_row _ _ hs]
    obtain ⟨h1, h2, h3⟩ := hM.row _ hr
    refine ⟨qR_len _ _ _ _, h2, fun a ha => ?_⟩
    rw [qR_at ha]
    have h4 := nmb_lt_reps f (hM.nN_lt hr ha)
    have h5 := h3 a ha
    exact ⟨by omega, by omega, h5.2.2.1, h5.2.2.2⟩
/-- The classes of equivalent states. -/
def eqc (nx ot : List (List Int)) (i n : Nat) : Nat → Nat := cN nx ot i n (dep nx ot i n)
/-- The tables of the minimal machine, and the states of the machine of classes that it has. -/
def mnR (nx ot : List (List Int)) (i st n : Nat) : List Nat := rch (qN nx i (eqc nx ot i n) n) i (nmb (eqc nx ot i n) st)
def mnN (nx ot : List (List Int)) (i st n : Nat) : List (List Int) := trN (qN nx i (eqc nx ot i n) n) i (mnR nx ot i st n)
def mnO (nx ot : List (List Int)) (i st n : Nat) : List (List Int) := trO (qO ot (eqc nx ot i n) n) (mnR nx ot i st n)
theorem Mok.mnR_len {i st n : Nat} {nx ot : List (List Int)} (hM : Mok i st n nx ot) : (mnR nx ot i st n).length ≤ n := by
  have h1 := (hM.quot (eqc nx ot i n)).rch_stt.len
  have h2 := reps_le (eqc nx ot i n) n
  unfold mnR
  omega
end Go.Proofs.Ytdedgpgdmnfijaa
end

section
/- The minimal machine is the same for machines with the same outputs. -/
namespace Go.Proofs.Ytdedgpgdmnfijaa

theorem Mok.bis_cN {i st n : Nat} {nx ot : List (List Int)} (hM : Mok i st n nx ot) : ∀ (k : Nat) {s t : Nat}, s < n → t < n → Bis i nx ot s nx ot t → cN nx ot i n k s = cN nx ot i n k t
  | 0, s, t, hs, ht, _ => by rw [cN_zero hs, cN_zero ht]
  | k + 1, s, t, hs, ht, h => (hM.cN_succ hs ht).2 fun a ha => ⟨h.out ha, hM.bis_cN k (hM.nN_lt hs ha) (hM.nN_lt ht ha) (h.next ha)⟩
theorem Mok.eqc_step {i st n : Nat} {nx ot : List (List Int)} (hM : Mok i st n nx ot) {s t : Nat} (hs : s < n) (ht : t < n) (h : eqc nx ot i n s = eqc nx ot i n t) {a : Nat} (ha : a < i) :
    oN ot s a = oN ot t a ∧ eqc nx ot i n (nN nx s a) = eqc nx ot i n (nN nx t a) := by
  refine (hM.cN_succ hs ht).1 ?_ a ha
  unfold cN
  rw [hM.dep_stay]
  exact h
theorem Mok.eqc_bis {i st n : Nat} {nx ot : List (List Int)} (hM : Mok i st n nx ot) {s t : Nat} (hs : s < n) (ht : t < n) : eqc nx ot i n s = eqc nx ot i n t ↔ Bis i nx ot s nx ot t := by
  constructor
  · intro h u
    induction u generalizing s t with
    | nil => intro _; rfl
    | cons x u ih =>
      intro hu
      obtain ⟨a, rfl, ha⟩ := hu.head
      obtain ⟨h1, h2⟩ := hM.eqc_step hs ht h ha
      simp only [runO, Int.toNat_natCast]
      rw [h1, ih (hM.nN_lt hs ha) (hM.nN_lt ht ha) h2 hu.tail]
  · intro h
    exact hM.bis_cN _ hs ht h

/-- The machine of classes: its states have the outputs of those of the machine. -/
theorem Mok.quot_bis {i st n : Nat} {nx ot : List (List Int)} (hM : Mok i st n nx ot) {s : Nat} (hs : s < n) :
    Bis i (qN nx i (eqc nx ot i n) n) (qO ot (eqc nx ot i n) n) (nmb (eqc nx ot i n) s) nx ot s := by
  intro u
  induction u generalizing s with
  | nil => intro _; rfl
  | cons x u ih =>
    intro hu
    obtain ⟨a, rfl, ha⟩ := hu.head
    have hl := nmb_lt_reps (eqc nx ot i n) hs
    have hr := reps_get_lt (eqc nx ot i n) hl
    have hf := reps_at (eqc nx ot i n) hs
    obtain ⟨h1, h2⟩ := hM.eqc_step hr hs hf ha
    have e1 : oN (qO ot (eqc nx ot i n) n) (nmb (eqc nx ot i n) s) a = oN ot s a := by
      rw [← h1]; unfold oN; rw [qO_row _ _ hl]
    have e2 : nN (qN nx i (eqc nx ot i n) n) (nmb (eqc nx ot i n) s) a = nmb (eqc nx ot i n) (nN nx s a) := by
      have h3 := (nmb_eq (eqc nx ot i n)).2 h2
      rw [← h3]
      show (((qN nx i (eqc nx ot i n) n).getD _ []).getD a 0).toNat = _
      rw [qN_row _ _ _ hl, qR_at ha]
      exact Int.toNat_natCast _
    simp only [runO, Int.toNat_natCast]
    rw [e1, e2, ih (hM.nN_lt hs ha) hu.tail]
/-- Different states of the machine of classes have different outputs for a word. -/
theorem Mok.quot_red {i st n : Nat} {nx ot : List (List Int)} (hM : Mok i st n nx ot) {p q : Nat} (hp : p < (reps (eqc nx ot i n) n).length) (hq : q < (reps (eqc nx ot i n) n).length)
    (h : Bis i (qN nx i (eqc nx ot i n) n) (qO ot (eqc nx ot i n) n) p (qN nx i (eqc nx ot i n) n) (qO ot (eqc nx ot i n) n) q) : p = q := by
  have e1 := nmb_reps (eqc nx ot i n) hp
  have e2 := nmb_reps (eqc nx ot i n) hq
  have hr := reps_get_lt (eqc nx ot i n) hp
  have hs := reps_get_lt (eqc nx ot i n) hq
  have b1 := hM.quot_bis hr
  have b2 := hM.quot_bis hs
  rw [e1] at b1
  rw [e2] at b2
  have h2 := (hM.eqc_bis hr hs).2 ((b1.symm.trans h).trans b2)
  have h3 := (nmb_eq (eqc nx ot i n)).2 h2
  rw [e1, e2] at h3
  exact h3

/-- Lists of states of two machines, place by place with the same outputs. -/
def Par (i : Nat) (nx ot mx mt : List (List Int)) (l k : List Nat) : Prop := l.length = k.length ∧ ∀ j, j < l.length → Bis i nx ot (l.getD j 0) mx mt (k.getD j 0)
section
variable {i s1 s2 n m : Nat} {nx ot mx mt : List (List Int)}
theorem par_mem {l k : List Nat} (h : Par i nx ot mx mt l k) (hk : ∀ y, y ∈ k → y < m) (hR : ∀ p q, p < m → q < m → Bis i mx mt p mx mt q → p = q) {x y : Nat} (hb : Bis i nx ot x mx mt y) (hy : y < m) (hx : x ∈ l) : ∃ j, j < l.length ∧ l.getD j 0 = x ∧ k.getD j 0 = y := by
  obtain ⟨j, hj, rfl⟩ := List.getElem_of_mem hx
  have e : l.getD j 0 = l[j] := by rw [List.getD_eq_getElem?_getD, List.getElem?_eq_getElem hj]; rfl
  have h1 := h.2 j hj
  rw [e] at h1
  have hkj : k.getD j 0 ∈ k := getD_mem (by rw [← h.1]; exact hj)
  exact ⟨j, hj, e, hR _ _ (hk _ hkj) hy (h1.symm.trans hb)⟩
theorem Par.symm {l k : List Nat} (h : Par i nx ot mx mt l k) : Par i mx mt nx ot k l := ⟨h.1.symm, fun j hj => (h.2 j (by rw [h.1]; exact hj)).symm⟩
theorem par_addN (hR1 : ∀ p q, p < n → q < n → Bis i nx ot p nx ot q → p = q) (hR2 : ∀ p q, p < m → q < m → Bis i mx mt p mx mt q → p = q) {l k : List Nat} (h : Par i nx ot mx mt l k) (hl : ∀ y, y ∈ l → y < n) (hk : ∀ y, y ∈ k → y < m) {x y : Nat} (hx : x < n) (hy : y < m) (hb : Bis i nx ot x mx mt y) :
    Par i nx ot mx mt (addN l x) (addN k y) := by
  have hin : x ∈ l ↔ y ∈ k := by
    constructor
    · intro h1
      obtain ⟨j, hj, _, e⟩ := par_mem h hk hR2 hb hy h1
      rw [← e]; exact getD_mem (by rw [← h.1]; exact hj)
    · intro h1
      obtain ⟨j, hj, _, e⟩ := par_mem h.symm hl hR1 hb.symm hx h1
      rw [← e]; exact getD_mem (by rw [h.1]; exact hj)
  unfold addN
  by_cases h1 : x ∈ l
  · rw [if_pos h1, if_pos (hin.1 h1)]; exact h
  · rw [if_neg h1, if_neg (fun H => h1 (hin.2 H))]
    refine ⟨by rw [List.length_append, List.length_append, h.1]; rfl, fun j hj => ?_⟩
    rw [List.length_append] at hj
    by_cases e : j < l.length
    · rw [getD_pre e, getD_pre (by rw [← h.1]; exact e)]; exact h.2 j e
    · have ej : j = l.length := by simp at hj; omega
      subst ej
      have g1 : (l ++ [x]).getD l.length 0 = x := by simp [List.getD]
      have g2 : (k ++ [y]).getD l.length 0 = y := by rw [h.1]; simp [List.getD]
      rw [g1, g2]; exact hb
theorem par_addR (hM : Mok i s1 n nx ot) (hN : Mok i s2 m mx mt) (hR1 : ∀ p q, p < n → q < n → Bis i nx ot p nx ot q → p = q) (hR2 : ∀ p q, p < m → q < m → Bis i mx mt p mx mt q → p = q) {l k : List Nat} (h : Par i nx ot mx mt l k) (hl : Stt n l) (hk : Stt m k) {x y : Nat} (hx : x < n) (hy : y < m) (hb : Bis i nx ot x mx mt y) :
    ∀ a, a ≤ i → Par i nx ot mx mt (addR nx x l a) (addR mx y k a)
  | 0, _ => h
  | a + 1, ha => par_addN hR1 hR2 (par_addR hM hN hR1 hR2 h hl hk hx hy hb a (by omega)) (addR_stt hM hl hx a (by omega)).2 (addR_stt hN hk hy a (by omega)).2 (hM.nN_lt hx (by omega)) (hN.nN_lt hy (by omega)) (hb.next (by omega))
theorem par_bfs (hM : Mok i s1 n nx ot) (hN : Mok i s2 m mx mt) (hR1 : ∀ p q, p < n → q < n → Bis i nx ot p nx ot q → p = q) (hR2 : ∀ p q, p < m → q < m → Bis i mx mt p mx mt q → p = q) : ∀ (f : Nat) (l k : List Nat) (j : Nat), Par i nx ot mx mt l k → Stt n l → Stt m k →
    Par i nx ot mx mt (bfs nx i f l j) (bfs mx i f k j)
  | 0, _, _, _, h, _, _ => h
  | f + 1, l, k, j, h, hl, hk => by
    unfold bfs
    by_cases hj : j < l.length
    · rw [if_pos hj, if_pos (by rw [← h.1]; exact hj)]
      have hx := hl.2 _ (getD_mem hj)
      have hy := hk.2 _ (getD_mem (show j < k.length by rw [← h.1]; exact hj))
      exact par_bfs hM hN hR1 hR2 f _ _ (j + 1) (par_addR hM hN hR1 hR2 h hl hk hx hy (h.2 j hj) i (Nat.le_refl _)) (addR_stt hM hl hx i (Nat.le_refl _)) (addR_stt hN hk hy i (Nat.le_refl _))
    · rw [if_neg hj, if_neg (by rw [← h.1]; exact hj)]; exact h
theorem par_rch (hM : Mok i s1 n nx ot) (hN : Mok i s2 m mx mt) (hR1 : ∀ p q, p < n → q < n → Bis i nx ot p nx ot q → p = q) (hR2 : ∀ p q, p < m → q < m → Bis i mx mt p mx mt q → p = q) (hb : Bis i nx ot s1 mx mt s2) : Par i nx ot mx mt (rch nx i s1) (rch mx i s2) := by
  unfold rch
  rw [hM.nxl, hN.nxl, ← bfs_more hM (Stt.one hM.st) m, ← bfs_more hN (Stt.one hN.st) n, Nat.add_comm m n]
  refine par_bfs hM hN hR1 hR2 _ _ _ _ ⟨rfl, fun j hj => ?_⟩ (Stt.one hM.st) (Stt.one hN.st)
  have : j = 0 := by simp at hj; omega
  subst this; exact hb
theorem par_ix (hR2 : ∀ p q, p < m → q < m → Bis i mx mt p mx mt q → p = q) {l k : List Nat} (h : Par i nx ot mx mt l k) (hl : Stt n l) (hk : Stt m k) {x y : Nat} (hx : x ∈ l) (hy : y < m) (hb : Bis i nx ot x mx mt y) : ixN l x = ixN k y := by
  obtain ⟨j, hj, e1, e2⟩ := par_mem h hk.2 hR2 hb hy hx
  rw [← e1, ← e2, ixN_of hl.1 hj, ixN_of hk.1 (by rw [← h.1]; exact hj)]
theorem list_ext_rows {β : Type} {l k : List β} (d : β) (h1 : l.length = k.length) (h : ∀ s, s < l.length → l.getD s d = k.getD s d) : l = k := by
  apply List.ext_getElem h1
  intro s hs ht
  have := h s hs
  rw [List.getD_eq_getElem?_getD, List.getD_eq_getElem?_getD, List.getElem?_eq_getElem hs, List.getElem?_eq_getElem ht] at this
  exact this
/-- Reduced machines with the same outputs have the same trimmed machine. -/
theorem par_tr (hM : Mok i s1 n nx ot) (hN : Mok i s2 m mx mt) (hR1 : ∀ p q, p < n → q < n → Bis i nx ot p nx ot q → p = q) (hR2 : ∀ p q, p < m → q < m → Bis i mx mt p mx mt q → p = q) (hb : Bis i nx ot s1 mx mt s2) :
    trN nx i (rch nx i s1) = trN mx i (rch mx i s2) ∧ trO ot (rch nx i s1) = trO mt (rch mx i s2) := by
  have hP := par_rch hM hN hR1 hR2 hb
  have hl := hM.rch_stt
  have hk := hN.rch_stt
  constructor
  · refine list_ext_rows [] (by simp [trN, hP.1]) fun j hj => ?_
    have hj1 : j < (rch nx i s1).length := by simpa [trN] using hj
    have hj2 : j < (rch mx i s2).length := by rw [← hP.1]; exact hj1
    rw [tr_row hj1, tr_row hj2]
    unfold trR
    refine List.map_congr_left fun a ha => ?_
    rw [List.mem_range] at ha
    have m1 := hl.2 _ (getD_mem hj1)
    have m2 := hk.2 _ (getD_mem hj2)
    rw [par_ix hR2 hP hl hk (hM.rch_in (getD_mem hj1) ha) (hN.nN_lt m2 ha) ((hP.2 j hj1).next ha)]
  · refine list_ext_rows [] (by simp [trO, hP.1]) fun j hj => ?_
    have hj1 : j < (rch nx i s1).length := by simpa [trO] using hj
    have hj2 : j < (rch mx i s2).length := by rw [← hP.1]; exact hj1
    rw [tr_out hj1, tr_out hj2]
    have m1 := hM.row _ (hl.2 _ (getD_mem hj1))
    have m2 := hN.row _ (hk.2 _ (getD_mem hj2))
    refine list_ext_rows 0 (by rw [m1.2.1, m2.2.1]) fun a ha => ?_
    exact (hP.2 j hj1).out (by rw [← m1.2.1]; exact ha)
end

/-- The minimal machine is valid. -/
theorem Mok.mn {i st n : Nat} {nx ot : List (List Int)} (hM : Mok i st n nx ot) : Mok i 0 (mnR nx ot i st n).length (mnN nx ot i st n) (mnO nx ot i st n) := (hM.quot (eqc nx ot i n)).tr
/-- The minimal machine has the outputs of the machine. -/
theorem Mok.mn_bis {i st n : Nat} {nx ot : List (List Int)} (hM : Mok i st n nx ot) : Bis i (mnN nx ot i st n) (mnO nx ot i st n) 0 nx ot st := by
  intro u hu
  have hQ := hM.quot (eqc nx ot i n)
  have h1 := tr_run hQ u _ (st_mem _ _ _) hu
  rw [ixN_st] at h1
  exact h1.trans (hM.quot_bis hM.st u hu)
/-- Machines with the same outputs have the same minimal machine. -/
theorem mn_same {i s1 s2 n m : Nat} {nx ot mx mt : List (List Int)} (hM : Mok i s1 n nx ot) (hN : Mok i s2 m mx mt) (hb : Bis i nx ot s1 mx mt s2) : mnN nx ot i s1 n = mnN mx mt i s2 m ∧ mnO nx ot i s1 n = mnO mx mt i s2 m :=
  par_tr (hM.quot _) (hN.quot _) (fun _ _ hp hq h => hM.quot_red hp hq h) (fun _ _ hp hq h => hN.quot_red hp hq h) ((hM.quot_bis hM.st).trans (hb.trans (hN.quot_bis hN.st).symm))
theorem mnN_len (nx ot : List (List Int)) (i st n : Nat) : (mnN nx ot i st n).length = (mnR nx ot i st n).length := by unfold mnN trN; rw [List.length_map]
theorem mn_same_len {i s1 s2 n m : Nat} {nx ot mx mt : List (List Int)} (hM : Mok i s1 n nx ot) (hN : Mok i s2 m mx mt) (hb : Bis i nx ot s1 mx mt s2) : (mnR nx ot i s1 n).length = (mnR mx mt i s2 m).length := by
  rw [← mnN_len, ← mnN_len, (mn_same hM hN hb).1]
end Go.Proofs.Ytdedgpgdmnfijaa
end

section
/- The reference's minimal machine: a search over states whose classes are numbered. -/
namespace Go.Proofs.Ytdedgpgdmnfijaa

/-- The class of a state. -/
def clq (nx ot : List (List Int)) (i n s : Nat) : Nat := nmb (eqc nx ot i n) s
theorem Mok.clq_at {i st n : Nat} {nx ot : List (List Int)} (hM : Mok i st n nx ot) {s : Nat} (hs : s < n) : (pt nx ot i n (dep nx ot i n)).getD s 0 = clq nx ot i n s := by
  rw [pt_num hM, num_at _ hs]; rfl
theorem clq_lt (nx ot : List (List Int)) (i : Nat) {n s : Nat} (hs : s < n) : clq nx ot i n s < (reps (eqc nx ot i n) n).length := nmb_lt_reps _ hs
theorem clq_ltn (nx ot : List (List Int)) (i : Nat) {n s : Nat} (hs : s < n) : clq nx ot i n s < n := by have := clq_lt nx ot i hs; have := reps_le (eqc nx ot i n) n; omega
theorem Mok.quot_step {i st n : Nat} {nx ot : List (List Int)} (hM : Mok i st n nx ot) {s a : Nat} (hs : s < n) (ha : a < i) :
    oN (qO ot (eqc nx ot i n) n) (clq nx ot i n s) a = oN ot s a ∧ nN (qN nx i (eqc nx ot i n) n) (clq nx ot i n s) a = clq nx ot i n (nN nx s a) := by
  have hl := clq_lt nx ot i hs
  have hr := reps_get_lt (eqc nx ot i n) hl
  have hf := reps_at (eqc nx ot i n) hs
  obtain ⟨h1, h2⟩ := hM.eqc_step hr hs hf ha
  constructor
  · rw [← h1]; unfold oN; rw [qO_row _ _ hl]
  · have h3 := (nmb_eq (eqc nx ot i n)).2 h2
    show _ = nmb (eqc nx ot i n) (nN nx s a)
    rw [← h3]
    show (((qN nx i (eqc nx ot i n) n).getD _ []).getD a 0).toNat = _
    rw [qN_row _ _ _ hl, qR_at ha]
    exact Int.toNat_natCast _
/-- The states that are found behind s, as far as a inputs are tried. -/
def oA (nx ot : List (List Int)) (i n s : Nat) (l : List Nat) : Nat → List Nat
  | 0 => l
  | a + 1 => if clq nx ot i n (nN nx s a) ∈ (oA nx ot i n s l a).map (clq nx ot i n) then oA nx ot i n s l a else oA nx ot i n s l a ++ [nN nx s a]
theorem oA_in {nx ot : List (List Int)} {i n s a : Nat} {l : List Nat} (h : clq nx ot i n (nN nx s a) ∈ (oA nx ot i n s l a).map (clq nx ot i n)) : oA nx ot i n s l (a + 1) = oA nx ot i n s l a := by
  show (if _ then _ else _) = _; rw [if_pos h]
theorem oA_out {nx ot : List (List Int)} {i n s a : Nat} {l : List Nat} (h : ¬ clq nx ot i n (nN nx s a) ∈ (oA nx ot i n s l a).map (clq nx ot i n)) : oA nx ot i n s l (a + 1) = oA nx ot i n s l a ++ [nN nx s a] := by
  show (if _ then _ else _) = _; rw [if_neg h]
theorem Mok.oA_map {i st n : Nat} {nx ot : List (List Int)} (hM : Mok i st n nx ot) {s : Nat} (hs : s < n) {l : List Nat} : ∀ {a : Nat}, a ≤ i → (oA nx ot i n s l a).map (clq nx ot i n) = addR (qN nx i (eqc nx ot i n) n) (clq nx ot i n s) (l.map (clq nx ot i n)) a
  | 0, _ => rfl
  | a + 1, ha => by
    have ih := hM.oA_map hs (l := l) (a := a) (by omega)
    have h2 := (hM.quot_step hs (show a < i by omega)).2
    show _ = addN (addR _ _ _ a) (nN _ _ a)
    rw [h2, ← ih]
    unfold addN
    by_cases h : clq nx ot i n (nN nx s a) ∈ (oA nx ot i n s l a).map (clq nx ot i n)
    · rw [oA_in h, if_pos h]
    · rw [oA_out h, if_neg h, List.map_append]; rfl
theorem Mok.oA_lt {i st n : Nat} {nx ot : List (List Int)} (hM : Mok i st n nx ot) {s : Nat} (hs : s < n) {l : List Nat} (hl : ∀ x, x ∈ l → x < n) : ∀ {a : Nat}, a ≤ i → ∀ x, x ∈ oA nx ot i n s l a → x < n
  | 0, _, x, hx => hl x hx
  | a + 1, ha, x, hx => by
    by_cases h : clq nx ot i n (nN nx s a) ∈ (oA nx ot i n s l a).map (clq nx ot i n)
    · rw [oA_in h] at hx; exact hM.oA_lt hs hl (by omega) x hx
    · rw [oA_out h] at hx
      rcases List.mem_append.1 hx with hx | hx
      · exact hM.oA_lt hs hl (by omega) x hx
      · simp at hx; subst hx; exact hM.nN_lt hs (by omega)
theorem oA_pre (nx ot : List (List Int)) (i n s : Nat) (l : List Nat) : ∀ a, ∃ t, oA nx ot i n s l a = l ++ t
  | 0 => ⟨[], by simp [oA]⟩
  | a + 1 => by
    obtain ⟨t, ht⟩ := oA_pre nx ot i n s l a
    by_cases h : clq nx ot i n (nN nx s a) ∈ (oA nx ot i n s l a).map (clq nx ot i n)
    · exact ⟨t, by rw [oA_in h, ht]⟩
    · exact ⟨t ++ [nN nx s a], by rw [oA_out h, ht, List.append_assoc]⟩
/-- The numbers of classes, -1 for those that are not found yet. -/
def nbr (n : Nat) (L : List Nat) : List Int := (List.range n).map fun c => if c ∈ L then ((ixN L c : Nat) : Int) else -1
theorem nbr_len (n : Nat) (L : List Nat) : (nbr n L).length = n := by simp [nbr]
theorem nbr_at {n c : Nat} {L : List Nat} (h : c < n) : (nbr n L).getD c 0 = if c ∈ L then ((ixN L c : Nat) : Int) else -1 := by unfold nbr; simp [List.getD, h]
theorem nbr_nil (n : Nat) : nbr n [] = List.replicate n (-1) := by
  apply List.ext_getElem
  · simp [nbr]
  · intro c h1 h2; simp [nbr]
theorem nbr_set {n c : Nat} {L : List Nat} (hc : ¬ c ∈ L) : (nbr n L).set c ((L.length : Nat) : Int) = nbr n (L ++ [c]) := by
  apply List.ext_getElem
  · simp [nbr]
  · intro m h1 h2
    have hm : m < n := by simpa [nbr] using h2
    rw [List.getElem_set]
    by_cases e : c = m
    · subst e
      have h3 : ixN (L ++ [c]) c = L.length := by unfold ixN; exact idxOf_new hc
      rw [if_pos rfl]
      simp [nbr, h3]
    · rw [if_neg e]
      by_cases hin : m ∈ L
      · have h3 : ixN (L ++ [c]) m = ixN L m := by unfold ixN; exact idxOf_pre hin
        simp [nbr, hin, h3]
      · simp [nbr, hin, show ¬ m = c from fun h => e h.symm]
theorem ixN_pre {L t : List Nat} {x : Nat} (h : x ∈ L) : ixN (L ++ t) x = ixN L x := by unfold ixN; exact idxOf_pre h
/-- The rows of the minimal machine, by a state of the class. -/
theorem Mok.mn_rowN {i st n : Nat} {nx ot : List (List Int)} (hM : Mok i st n nx ot) {j s : Nat} (hj : j < (mnR nx ot i st n).length) (hs : s < n) (h : (mnR nx ot i st n).getD j 0 = clq nx ot i n s) :
    (mnN nx ot i st n).getD j [] = (List.range i).map fun a => ((ixN (mnR nx ot i st n) (clq nx ot i n (nN nx s a)) : Nat) : Int) := by
  unfold mnN
  rw [tr_row hj, h]
  unfold trR
  refine List.map_congr_left fun a ha => ?_
  rw [List.mem_range] at ha
  rw [(hM.quot_step hs ha).2]
theorem Mok.mn_rowO {i st n : Nat} {nx ot : List (List Int)} (hM : Mok i st n nx ot) {j s : Nat} (hj : j < (mnR nx ot i st n).length) (hs : s < n) (h : (mnR nx ot i st n).getD j 0 = clq nx ot i n s) :
    (mnO nx ot i st n).getD j [] = (List.range i).map fun a => oN ot s a := by
  unfold mnO
  rw [tr_out hj, h]
  have hl := clq_lt nx ot i hs
  have hlen := ((hM.quot (eqc nx ot i n)).row _ hl).2.1
  refine list_ext_rows 0 (by rw [hlen]; simp) fun a ha => ?_
  rw [hlen] at ha
  have h1 := (hM.quot_step hs ha).1
  unfold oN at h1
  rw [h1]
  simp [List.getD, ha, oN]

/-- The search stands at place j of the states l. -/
structure Srch (nx ot : List (List Int)) (i st n j : Nat) (l : List Nat) : Prop where
  run : bfs (qN nx i (eqc nx ot i n) n) i (reps (eqc nx ot i n) n).length (l.map (clq nx ot i n)) j = mnR nx ot i st n
  stt : Stt (reps (eqc nx ot i n) n).length (l.map (clq nx ot i n))
  lt : ∀ x, x ∈ l → x < n
  le : j ≤ l.length
section
variable {nx ot : List (List Int)} {i st n j : Nat} {l : List Nat}
theorem Srch.start (hM : Mok i st n nx ot) : Srch nx ot i st n 0 [st] := by
  have hQ := hM.quot (eqc nx ot i n)
  refine ⟨?_, Stt.one (clq_lt nx ot i hM.st), fun x hx => by simp at hx; subst hx; exact hM.st, Nat.zero_le _⟩
  show bfs _ i _ [nmb (eqc nx ot i n) st] 0 = rch _ i _
  unfold rch
  rw [hQ.nxl]
theorem Srch.pre (h : Srch nx ot i st n j l) : ∃ t, mnR nx ot i st n = l.map (clq nx ot i n) ++ t := by
  obtain ⟨t, ht⟩ := bfs_pre (qN nx i (eqc nx ot i n) n) i (reps (eqc nx ot i n) n).length (l.map (clq nx ot i n)) j
  exact ⟨t, by rw [← h.run]; exact ht⟩
theorem getD_map0 (f : Nat → Nat) (l : List Nat) {j : Nat} (h : j < l.length) : (l.map f).getD j 0 = f (l.getD j 0) := getD_map f l 0 0 h
theorem Srch.at_ (h : Srch nx ot i st n j l) (hj : j < l.length) : j < (mnR nx ot i st n).length ∧ (mnR nx ot i st n).getD j 0 = clq nx ot i n (l.getD j 0) := by
  obtain ⟨t, ht⟩ := h.pre
  have hl : j < (l.map (clq nx ot i n)).length := by rw [List.length_map]; exact hj
  rw [ht]
  exact ⟨by rw [List.length_append]; omega, by rw [getD_pre hl, getD_map0 _ _ hj]⟩
theorem Srch.step (hM : Mok i st n nx ot) (h : Srch nx ot i st n j l) (hj : j < l.length) : Srch nx ot i st n (j + 1) (oA nx ot i n (l.getD j 0) l i) := by
  have hQ := hM.quot (eqc nx ot i n)
  have hs := h.lt _ (getD_mem hj)
  have hmap := hM.oA_map hs (l := l) (Nat.le_refl i)
  have hjl : j < (l.map (clq nx ot i n)).length := by rw [List.length_map]; exact hj
  have hg := getD_map0 (clq nx ot i n) l hj
  obtain ⟨t, ht⟩ := oA_pre nx ot i n (l.getD j 0) l i
  refine ⟨?_, ?_, hM.oA_lt hs h.lt (Nat.le_refl i), ?_⟩
  · rw [hmap, ← hg, bfs_on hQ h.stt hjl]; exact h.run
  · rw [hmap]; exact addR_stt hQ h.stt (clq_lt nx ot i hs) i (Nat.le_refl i)
  · rw [ht, List.length_append]; omega
theorem Srch.end_ (h : Srch nx ot i st n j l) (hj : ¬ j < l.length) : l.map (clq nx ot i n) = mnR nx ot i st n := by
  rw [← h.run, bfs_end _ _ _ (by rw [List.length_map]; exact hj)]
theorem Srch.len (h : Srch nx ot i st n j l) : l.length ≤ n := by
  have h1 := h.stt.len
  have h2 := reps_le (eqc nx ot i n) n
  rw [List.length_map] at h1
  omega
theorem oA_mono (nx ot : List (List Int)) (i n s : Nat) (l : List Nat) (a : Nat) : ∀ d, ∃ t, oA nx ot i n s l (a + d) = oA nx ot i n s l a ++ t
  | 0 => ⟨[], by simp⟩
  | d + 1 => by
    obtain ⟨t, ht⟩ := oA_mono nx ot i n s l a d
    by_cases h : clq nx ot i n (nN nx s (a + d)) ∈ (oA nx ot i n s l (a + d)).map (clq nx ot i n)
    · exact ⟨t, by rw [show a + (d + 1) = (a + d) + 1 by omega, oA_in h, ht]⟩
    · exact ⟨t ++ [nN nx s (a + d)], by rw [show a + (d + 1) = (a + d) + 1 by omega, oA_out h, ht, List.append_assoc]⟩
theorem oA_has {s a : Nat} : clq nx ot i n (nN nx s a) ∈ (oA nx ot i n s l (a + 1)).map (clq nx ot i n) := by
  by_cases h : clq nx ot i n (nN nx s a) ∈ (oA nx ot i n s l a).map (clq nx ot i n)
  · rw [oA_in h]; exact h
  · rw [oA_out h]; simp
theorem Srch.rowN (hM : Mok i st n nx ot) (h : Srch nx ot i st n j l) (hj : j < l.length) {a : Nat} (ha : a < i) :
    ((mnN nx ot i st n).getD j []).take (a + 1) = ((mnN nx ot i st n).getD j []).take a ++ [((ixN ((oA nx ot i n (l.getD j 0) l (a + 1)).map (clq nx ot i n)) (clq nx ot i n (nN nx (l.getD j 0) a)) : Nat) : Int)] := by
  obtain ⟨h1, h2⟩ := h.at_ hj
  have hs := h.lt _ (getD_mem hj)
  rw [hM.mn_rowN h1 hs h2, take_next (by simpa using ha)]
  obtain ⟨t, ht⟩ := (h.step hM hj).pre
  obtain ⟨u, hu⟩ := oA_mono nx ot i n (l.getD j 0) l (a + 1) (i - (a + 1))
  rw [show a + 1 + (i - (a + 1)) = i by omega] at hu
  have e : ixN (mnR nx ot i st n) (clq nx ot i n (nN nx (l.getD j 0) a)) = ixN ((oA nx ot i n (l.getD j 0) l (a + 1)).map (clq nx ot i n)) (clq nx ot i n (nN nx (l.getD j 0) a)) := by
    rw [ht, hu, List.map_append, List.append_assoc]
    exact ixN_pre oA_has
  rw [← e]
  simp [ha]
theorem Srch.rowO (hM : Mok i st n nx ot) (h : Srch nx ot i st n j l) (hj : j < l.length) {a : Nat} (ha : a < i) :
    ((mnO nx ot i st n).getD j []).take (a + 1) = ((mnO nx ot i st n).getD j []).take a ++ [oN ot (l.getD j 0) a] := by
  obtain ⟨h1, h2⟩ := h.at_ hj
  have hs := h.lt _ (getD_mem hj)
  rw [hM.mn_rowO h1 hs h2, take_next (by simpa using ha)]
  simp [ha]
theorem Srch.lens (hM : Mok i st n nx ot) (h : Srch nx ot i st n j l) (hj : j < l.length) : ((mnN nx ot i st n).getD j []).length = i ∧ ((mnO nx ot i st n).getD j []).length = i := by
  obtain ⟨h1, h2⟩ := h.at_ hj
  have hs := h.lt _ (getD_mem hj)
  rw [hM.mn_rowN h1 hs h2, hM.mn_rowO h1 hs h2]
  exact ⟨by simp, by simp⟩
end
end Go.Proofs.Ytdedgpgdmnfijaa
end

section
/- Minimal machines, Iso and classes. -/
namespace Go.Proofs.Ytdedgpgdmnfijaa

section
variable {i s1 s2 n m : Nat} {nx1 ot1 nx2 ot2 : List (List Int)}
theorem mn_eq_iff (hM : Mok i s1 n nx1 ot1) (hN : Mok i s2 m nx2 ot2) : (mnN nx1 ot1 i s1 n = mnN nx2 ot2 i s2 m ∧ mnO nx1 ot1 i s1 n = mnO nx2 ot2 i s2 m) ↔ Bis i nx1 ot1 s1 nx2 ot2 s2 := by
  constructor
  · rintro ⟨e1, e2⟩
    have h1 := hM.mn_bis
    have h2 := hN.mn_bis
    rw [e1, e2] at h1
    exact h1.symm.trans h2
  · exact mn_same hM hN
theorem mn_bis_iff (hM : Mok i s1 n nx1 ot1) (hN : Mok i s2 m nx2 ot2) : Bis i (mnN nx1 ot1 i s1 n) (mnO nx1 ot1 i s1 n) 0 (mnN nx2 ot2 i s2 m) (mnO nx2 ot2 i s2 m) 0 ↔ Bis i nx1 ot1 s1 nx2 ot2 s2 :=
  ⟨fun h => hM.mn_bis.symm.trans (h.trans hN.mn_bis), fun h => hM.mn_bis.trans (h.trans hN.mn_bis.symm)⟩
theorem mn_rch (hM : Mok i s1 n nx1 ot1) : rch (mnN nx1 ot1 i s1 n) i 0 = List.range (mnR nx1 ot1 i s1 n).length := tr_rch (hM.quot (eqc nx1 ot1 i n))
theorem mn_iso (hM : Mok i s1 n nx1 ot1) (hN : Mok i s2 m nx2 ot2) : isoC i (mnN nx1 ot1 i s1 n) (mnO nx1 ot1 i s1 n) 0 (mnR nx1 ot1 i s1 n).length (mnN nx2 ot2 i s2 m) (mnO nx2 ot2 i s2 m) 0 (mnR nx2 ot2 i s2 m).length ↔ Bis i nx1 ot1 s1 nx2 ot2 s2 := by
  constructor
  · intro h
    exact (mn_bis_iff hM hN).1 (isoC_bis hM.mn hN.mn h)
  · intro h
    have h1 := mn_rch hM
    have h2 := mn_rch hN
    obtain ⟨e1, e2⟩ := mn_same hM hN h
    refine ⟨by rw [h1, List.length_range], by rw [h2, List.length_range], ?_, ?_⟩
    · rw [e1]
    · rw [e1, e2]
theorem clq_iff {s t : Nat} (hM : Mok i s1 n nx1 ot1) (hs : s < n) (ht : t < n) : clq nx1 ot1 i n s = clq nx1 ot1 i n t ↔ Bis i nx1 ot1 s nx1 ot1 t := by
  rw [← hM.eqc_bis hs ht]
  exact nmb_eq _
end
end Go.Proofs.Ytdedgpgdmnfijaa
end

section
/- A map of the call's own that numbers keys: the numbers are the places in a list of different keys. -/
namespace Go.Proofs.Ytdedgpgdmnfijaa
open Go.RowKit
open Go.Maps (Keyed)

theorem laidOutB_ : laidOutB Try.prog = true := by kernel_rfl

/-- What a type of maps from keys to ints asks. -/
structure KeyT (t k : TypeId) : Prop where
  und : Try.prog.underlying t = some (.map k 3)
  law : Keyed Try.prog k

/-- A key: ints in a row. -/
def kv (x : List Int) : Value := .agg (x.map (Value.int .i64)).toArray
theorem map_int_inj : ∀ {x y : List Int}, x.map (Value.int .i64) = y.map (Value.int .i64) → x = y
  | [], [], _ => rfl
  | [], _ :: _, h => by simp at h
  | _ :: _, [], h => by simp at h
  | a :: x, b :: y, h => by
    simp only [List.map_cons, List.cons.injEq, Value.int.injEq, true_and] at h
    rw [h.1, map_int_inj h.2]
theorem kv_inj {x y : List Int} (h : kv x = kv y) : x = y := by
  unfold kv at h
  simp only [Value.agg.injEq] at h
  exact map_int_inj (by simpa using congrArg Array.toList h)
/-- What is a key. -/
def IsK (k : TypeId) (x : List Int) : Prop := ∃ l, keyOf Try.prog k (kv x) = some l

/-- Block b of w is a map from the keys ks to their places in ks. -/
def NumIs (k : TypeId) (w : World) (b : Nat) (ks : List (List Int)) : Prop :=
  ks.Nodup ∧ (∀ v, v ∈ ks → IsK k v) ∧ ks.length ≤ 17592186044416 ∧ ∃ D : DataW Unit, w.ownsMap Try.prog k (plainElem Try.prog 3) b ks.length D ∧ Maps.Tidy D ∧ Maps.size D = ks.length ∧
    ∀ v l, keyOf Try.prog k (kv v) = some l → Maps.has D l = decide (v ∈ ks) ∧ (v ∈ ks → ∀ z, D.atKey l z = .lit (.int .i64 (ks.idxOf v : Nat)))
theorem plainElem_i64 {a : Nat} (h : a ≤ 17592186044416) : plainElem (H := Unit) Try.prog 3 (.int .i64 a) = some (.lit (.int .i64 a), []) :=
  plainElem_int Try.underlying3 (by unfold Lit.wf; simp; have h1 : IntKind.i64.min = -9223372036854775808 := by decide
                                    have h2 : IntKind.i64.max = 9223372036854775807 := by decide
                                    omega)
theorem NumIs.made (k : TypeId) (w : World) : NumIs k (w.alloc (.map #[] 0)) w.heap.size [] := by
  refine ⟨by simp, by simp, by simp, .map [], World.ownsMap_made (H := Unit) w Try.prog k _, Maps.tidy_empty, rfl, fun v l h => ⟨rfl, by simp⟩⟩
theorem NumIs.kept {k : TypeId} {w w' : World} {b : Nat} {ks : List (List Int)} {r : Option Nat} (h : NumIs k w b ks) (hg : w.grownBy w' r) (hne : some b ≠ r) : NumIs k w' b ks := by
  obtain ⟨h1, h2, h3, D, h4, h5⟩ := h
  exact ⟨h1, h2, h3, D, h4.kept hg hne, h5⟩
theorem NumIs.lt {k : TypeId} {w : World} {b : Nat} {ks : List (List Int)} (h : NumIs k w b ks) : b < w.heap.size := by
  obtain ⟨h1, h2, h3, D, h4, h5⟩ := h
  exact h4.lt
theorem NumIs.block {k : TypeId} {w : World} {b : Nat} {ks : List (List Int)} (h : NumIs k w b ks) : ∃ es ck, w.heap[b]? = some (.map es ck) := by
  obtain ⟨_, _, _, D, ⟨es, ck, h1, _⟩, _⟩ := h
  exact ⟨es, ck, h1⟩
theorem NumIs.at_ {k : TypeId} {w w' : World} {b : Nat} {ks : List (List Int)} (h : NumIs k w b ks) (hb : w'.heap[b]? = w.heap[b]?) : NumIs k w' b ks := by
  obtain ⟨h1, h2, h3, D, ⟨es, ck, h4, h6⟩, h5⟩ := h
  exact ⟨h1, h2, h3, D, ⟨es, ck, hb.trans h4, h6⟩, h5⟩
theorem NumIs.below {k : TypeId} {w w' : World} {b B : Nat} {ks : List (List Int)} (h : NumIs k w b ks) (hb : Below B w w') (hB : b < B) : NumIs k w' b ks := h.at_ (hb.block b hB)
theorem NumIs.drewN {k : TypeId} {w : World} {b : Nat} {ks : List (List Int)} (h : NumIs k w b ks) (q : Nat) : NumIs k (w.drewN q) b ks := h.at_ rfl
theorem NumIs.setCell {k : TypeId} {w : World} {b : Nat} {ks : List (List Int)} (h : NumIs k w b ks) {a : Addr} (ha : b ≠ a.block) (u : Value) : NumIs k (w.setCell a u) b ks := by
  obtain ⟨h1, h2, h3, D, h4, h5⟩ := h
  exact ⟨h1, h2, h3, D, h4.setCell ha u, h5⟩
theorem NumIs.key {k : TypeId} {w : World} {b : Nat} {ks : List (List Int)} (h : NumIs k w b ks) {v : List Int} (hv : v ∈ ks) : IsK k v := h.2.1 v hv

/-- v, ok := m[key] at a key that is there, or not. -/
theorem NumIs.look_in {t k : TypeId} {w : World} {b : Nat} {ks : List (List Int)} (h : NumIs k w b ks) (T : KeyT t k) {v : List Int} (hv : v ∈ ks) :
    (Instr.lookup t (.map (some b)) (kv v) true).run Try.prog w = .ok (.tuple #[.int .i64 (ks.idxOf v : Nat), .bool true]) w := by
  obtain ⟨l, hl⟩ := h.key hv
  obtain ⟨h1, h2, h3, D, h4, h5, h6, h7⟩ := h
  obtain ⟨h8, h9⟩ := h7 v l hl
  obtain ⟨u, ps, hrun, hu⟩ := h4.look_ok T.law T.und (Try.zeroValue3 w) (plainElem_i64 (a := 0) (by omega)) hl
  rw [h9 hv] at hu
  obtain ⟨c, rfl, hc, _⟩ := plainElem_int_inv Try.underlying3 hu
  simp only [Prod.mk.injEq, DataW.lit.injEq, Lit.int.injEq, true_and] at hc
  rw [hrun, h8, decide_eq_true hv, ← hc.1]
theorem NumIs.look_out {t k : TypeId} {w : World} {b : Nat} {ks : List (List Int)} (h : NumIs k w b ks) (T : KeyT t k) {v : List Int} (hk : IsK k v) (hv : ¬ v ∈ ks) :
    (Instr.lookup t (.map (some b)) (kv v) true).run Try.prog w = .ok (.tuple #[.int .i64 0, .bool false]) w := by
  obtain ⟨l, hl⟩ := hk
  obtain ⟨h1, h2, h3, D, h4, h5, h6, h7⟩ := h
  obtain ⟨h8, h9⟩ := h7 v l hl
  obtain ⟨u, ps, hrun, hu⟩ := h4.look_ok T.law T.und (Try.zeroValue3 w) (plainElem_i64 (a := 0) (by omega)) hl
  rw [decide_eq_false hv] at h8
  rw [Maps.atKey_of_not_has h8] at hu
  obtain ⟨c, rfl, hc, _⟩ := plainElem_int_inv Try.underlying3 hu
  simp only [Prod.mk.injEq, DataW.lit.injEq, Lit.int.injEq, true_and] at hc
  rw [hrun, h8, ← hc.1]; rfl
theorem NumIs.len {t k : TypeId} {w : World} {b : Nat} {ks : List (List Int)} (h : NumIs k w b ks) (T : KeyT t k) (ty : TypeId) : (Builtin.len_ #[t] ty #[.map (some b)]).run Try.prog w = .ok (.int .i64 (ks.length : Nat)) w := by
  obtain ⟨h1, h2, h3, D, h4, h5, h6, h7⟩ := h
  rw [h4.len T.und ty, h6]
/-- m[key] = len(m) at a key that is not there. -/
theorem NumIs.put {t k : TypeId} {w : World} {b : Nat} {ks : List (List Int)} (h : NumIs k w b ks) (T : KeyT t k) {v : List Int} (hk : IsK k v) (hv : ¬ v ∈ ks) (hn : ks.length < 17592186044416) :
    ∃ w', (Instr.mapUpdate t (.map (some b)) (kv v) (.int .i64 (ks.length : Nat))).run Try.prog w = .ok () w' ∧ NumIs k w' b (ks ++ [v]) ∧ w.grownBy w' (some b) := by
  obtain ⟨l, hl⟩ := hk
  obtain ⟨h1, h2, h3, D, h4, h5, h6, h7⟩ := h
  obtain ⟨h8, _⟩ := h7 v l hl
  rw [decide_eq_false hv] at h8
  obtain ⟨w', hrun, h9, h10⟩ := h4.update T.law T.und (by unfold maxLen; omega) hl (plainElem_i64 (a := ks.length) (by omega))
  refine ⟨w', hrun, ⟨?_, ?_, ?_, _, by rw [List.length_append]; exact h9, h5.put (T.law.key hl) _, ?_, fun u lu hu => ?_⟩, h10⟩
  · refine List.nodup_append.2 ⟨h1, by simp, fun a ha c hc => ?_⟩
    simp at hc; subst hc; intro e; subst e; exact hv ha
  · intro u hu
    rcases List.mem_append.1 hu with hu | hu
    · exact h2 u hu
    · simp at hu; subst hu; exact ⟨l, hl⟩
  · rw [List.length_append]; simp; omega
  · rw [Maps.size_put h5, h8, h6, List.length_append]; rfl
  · by_cases e : u = v
    · subst e
      have : lu = l := by rw [hl] at hu; exact (Option.some.inj hu).symm
      subst this
      refine ⟨by rw [Maps.has_put_same h5.isMap (T.law.key hl)]; simp, fun _ z => ?_⟩
      rw [Maps.atKey_put_same h5.isMap (T.law.key hl), List.idxOf_append, if_neg hv]
      simp
    · have hne : lu ≠ l := fun H => e (kv_inj (T.law.inj hu (H ▸ hl)))
      obtain ⟨h11, h12⟩ := h7 u lu hu
      refine ⟨by rw [Maps.has_put_other hne, h11]; simp [e], fun hm z => ?_⟩
      have hm : u ∈ ks := by
        rcases List.mem_append.1 hm with hm | hm
        · exact hm
        · simp at hm; exact absurd hm e
      rw [Maps.atKey_put_other hne, h12 hm, List.idxOf_append, if_pos hm]

theorem mapM_some {α β : Type} {f : α → Option β} : ∀ {l : List α}, (∀ x, x ∈ l → ∃ y, f x = some y) → ∃ ys, l.mapM f = some ys
  | [], _ => ⟨[], rfl⟩
  | x :: l, h => by
    obtain ⟨y, hy⟩ := h x (by simp)
    obtain ⟨ys, hys⟩ := mapM_some (l := l) fun z hz => h z (by simp [hz])
    exact ⟨y :: ys, by rw [List.mapM_cons, hy, hys]; rfl⟩
theorem keyLits_arr {t e : TypeId} {n D : Nat} {cs : List Value} (hu : Try.prog.underlying t = some (.array n e)) (hl : cs.length = Try.prog.cellsOf t)
    (h : ∀ i, i < n → ∃ l, Try.prog.keyLits D e ((cs.drop (i * Try.prog.cellsOf e)).take (Try.prog.cellsOf e)) = some l) : ∃ l, Try.prog.keyLits (D + 1) t cs = some l := by
  obtain ⟨ys, hys⟩ := mapM_some (f := fun i => Try.prog.keyLits D e ((cs.drop (i * Try.prog.cellsOf e)).take (Try.prog.cellsOf e))) (l := List.range n) fun i hi => h i (by simpa using hi)
  refine ⟨ys.flatten, ?_⟩
  unfold Program.keyLits
  rw [hu]
  simp only [if_pos hl]
  rw [hys]; rfl
/-- A number that an int holds. -/
def I64 (a : Int) : Prop := (Lit.int .i64 a).wf = true
theorem I64.mk {a : Int} (h1 : -9223372036854775808 ≤ a) (h2 : a ≤ 9223372036854775807) : I64 a := by
  unfold I64 Lit.wf
  have h3 : IntKind.i64.min = -9223372036854775808 := by decide
  have h4 : IntKind.i64.max = 9223372036854775807 := by decide
  simp
  omega
theorem keyLits_int {D : Nat} {a : Int} (h : I64 a) : ∃ l, Try.prog.keyLits (D + 1) 3 [.int .i64 a] = some l := by
  refine ⟨[.int .i64 a], ?_⟩
  unfold Program.keyLits
  rw [Try.underlying3]
  have h : (Lit.int .i64 a).wf = true := h
  simp [h]
/-- An array of n pairs of ints. -/
theorem keyOf_arr {t e : TypeId} {n : Nat} (hu : Try.prog.underlying t = some (.array n e)) (hc : ∀ x : List Int, x.length = Try.prog.cellsOf t → (∀ a, a ∈ x → I64 a) → ∃ l, Try.prog.keyLits (Try.prog.types.size + 1) t (x.map (Value.int .i64)) = some l)
    (hk : Try.prog.keyType t = true) {x : List Int} (hl : x.length = Try.prog.cellsOf t) (hx : ∀ a, a ∈ x → I64 a) : IsK t x := by
  obtain ⟨l, h⟩ := hc x hl hx
  refine ⟨.string (keyBytes l), ?_⟩
  unfold keyOf kv
  rw [hu]
  have hf : (Value.agg ((x.map (Value.int .i64)).toArray)).formed Try.prog t = true := by
    unfold Value.formed
    rw [hu]
    simp [hl]
  simp only [hk, hf, Bool.and_self, if_true]
  have e : (Value.agg ((x.map (Value.int .i64)).toArray)).cells.toList = x.map (Value.int .i64) := by simp [Value.cells]
  rw [e, h]; rfl
theorem keyLits_row {t : TypeId} {n D : Nat} (hu : Try.prog.underlying t = some (.array n 3)) (hc : Try.prog.cellsOf t = n) {x : List Int} (hl : x.length = n) (hx : ∀ a, a ∈ x → I64 a) : ∃ l, Try.prog.keyLits (D + 2) t (x.map (Value.int .i64)) = some l := by
  refine keyLits_arr hu (by simp [hl, hc]) fun j hj => ?_
  have h1 : Try.prog.cellsOf 3 = 1 := by kernel_rfl
  rw [h1, Nat.mul_one]
  have hj : j < x.length := by omega
  have e : ((x.map (Value.int .i64)).drop j).take 1 = [.int .i64 x[j]] := by
    rw [← List.map_drop, List.drop_eq_getElem_cons hj]; rfl
  rw [e]
  exact keyLits_int (hx _ (List.getElem_mem hj))
end Go.Proofs.Ytdedgpgdmnfijaa
end

section
/- The signature of a state. -/
namespace Go.Proofs.Ytdedgpgdmnfijaa
open Go.RowKit

/-- A block that holds ints. -/
def Zblk (w : World) (g : Nat) (t : TypeId) (xs : List Int) : Prop := w.heap[g]? = some (.cells (xs.map (Value.int .i64)).toArray t (0, 0))
theorem Zblk.at_ {w : World} {g : Nat} {t : TypeId} {xs : List Int} (h : Zblk w g t xs) {j : Nat} (hj : j < xs.length) : w.cell? ⟨g, j, none⟩ = some (.int .i64 (xs.getD j 0)) ∧ w.frozen? ⟨g, j, none⟩ = false := by
  refine ⟨?_, frozen_of_row w g j _ _ h⟩
  rw [cell_of_row w g j _ _ (0, 0) h]
  simp [List.getD, hj]
theorem Zblk.set {w : World} {g : Nat} {t : TypeId} {xs : List Int} (h : Zblk w g t xs) (j : Nat) (x : Int) : Zblk (w.setCell ⟨g, j, none⟩ (.int .i64 x)) g t (xs.set j x) := by
  have := heap_setCell_same w g j _ _ (.int .i64 x) h
  unfold Zblk
  rw [this, List.map_set]
  simp
theorem Zblk.kept {w w' : World} {g : Nat} {t : TypeId} {xs : List Int} (h : Zblk w g t xs) {k : Nat} (hb : Below k w w') (hg : g < k) : Zblk w' g t xs := (hb.block g hg).trans h
theorem zero128 : Try.zeroCells106 = ((List.replicate 128 (0 : Int)).map (Value.int .i64)).toArray := by kernel_rfl
theorem Zblk.cells_ (g : Nat) (t : TypeId) : ∀ (ys xs pre : List Int) (w : World), Zblk w g t (pre ++ xs) → xs.length = ys.length → Zblk (w.setCells g pre.length (ys.map (Value.int .i64))) g t (pre ++ ys)
  | [], xs, pre, w, h, hl => by
    obtain rfl : xs = [] := List.eq_nil_of_length_eq_zero hl
    exact h
  | y :: ys, [], pre, w, h, hl => by simp at hl
  | y :: ys, x :: xs, pre, w, h, hl => by
    have h1 := h.set pre.length y
    rw [List.set_append_right _ _ (Nat.le_refl _), Nat.sub_self, List.set_cons_zero] at h1
    have h2 := Zblk.cells_ g t ys xs (pre ++ [y]) _ (by simpa using h1) (by simpa using hl)
    rw [List.length_append, List.append_assoc] at h2
    exact h2
theorem Zblk.whole {w : World} {g : Nat} {t : TypeId} {xs : List Int} (h : Zblk w g t xs) (ys : List Int) (hl : xs.length = ys.length) : Zblk (w.setCells g 0 (ys.map (Value.int .i64))) g t ys := Zblk.cells_ g t ys xs [] w h hl
theorem below_setCells (B g : Nat) (hB : B ≤ g) : ∀ (vs : List Value) (o : Nat) (w : World), Below B w (w.setCells g o vs)
  | [], _, _ => Below.refl _ _
  | v :: vs, o, w => ((Below.refl B w).setCell (p := ⟨g, o, none⟩) hB v).trans (below_setCells B g hB vs (o + 1) _)
theorem Zblk.there {w : World} {g : Nat} {t : TypeId} {xs : List Int} (h : Zblk w g t xs) (n : Nat) (hn : xs.length = n) : w.there g 0 n := fun j hj => by
  obtain ⟨h1, h2⟩ := h.at_ (j := j) (by omega)
  rw [Nat.zero_add, h1]
  exact ⟨rfl, h2⟩
end Go.Proofs.Ytdedgpgdmnfijaa
end

section
/- The signature of a state: the walk. -/
namespace Go.Proofs.Ytdedgpgdmnfijaa
open Go.RowKit

set_option maxHeartbeats 4000000 in
set_option maxRecDepth 100000 in
theorem psign (i st n s : Nat) (A B C : Option Addr) (c d cc : Nat) (nx ot : List (List Int)) (cl : List Nat) (w : World) (hx : Lists w A n nx) (ho : Lists w B n ot) (hM : Mok i st n nx ot) (hc : Ints w C n (zs cl)) (hs : s < n) :
    Calls Try.prog 78 #[.agg #[.int .i64 i, .int .i64 st, .slice A n c, .slice B n d], .slice C n cc, .int .i64 s] w fun e w' => e = .returned (kv (sgm nx ot cl s i)) ∧ Below w.heap.size w w' := by
  have hn := hx.2.1
  have hn2 := hM.n2
  have hi64 := hM.i2
  obtain ⟨g1, o1, A1, n1, c1, rfl, hg1, hd1, hr1⟩ := hx.at_ hs
  obtain ⟨g2, o2, A2, n2, c2, rfl, hg2, hd2, hr2⟩ := ho.at_ hs
  have hl1 := hr1.1
  have hl2 := hr2.1
  have hi1 := (hM.row s hs).1
  have hi2 := (hM.row s hs).2.1
  obtain rfl : n1 = i := by omega
  obtain rfl : n1 = n2 := by omega
  clear hl1 hl2 hi1 hi2
  obtain ⟨g, hg⟩ : ∃ g, g = w.heap.size := ⟨_, rfl⟩
  obtain ⟨w1, hw1⟩ : ∃ w1, w1 = w.alloc (.cells #[.int .i64 n1, .int .i64 st, .slice (some ⟨g1, o1, none⟩) n c, .slice (some ⟨g2, o2, none⟩) n d] 24) := ⟨_, rfl⟩
  have hb1 : Below w.heap.size w w1 := by rw [hw1]; exact alloc_below _ _
  have hz1 : w1.heap.size = g + 1 := by rw [hw1, hg]; simp
  have hB1 : Mblk w1 g (.int .i64 n1) (.int .i64 st) (.slice (some ⟨g1, o1, none⟩) n c) (.slice (some ⟨g2, o2, none⟩) n d) := by rw [hw1, hg]; exact heap_alloc_new _ _
  obtain ⟨w2, hw2⟩ : ∃ w2, w2 = w1.alloc (.cells Try.zeroCells106 106) := ⟨_, rfl⟩
  have hb2 : Below w1.heap.size w1 w2 := by rw [hw2]; exact alloc_below _ _
  have hz2 : w2.heap.size = g + 2 := by rw [hw2]; simp; omega
  have hR2 : Zblk w2 (g + 1) 106 (List.replicate 128 0) := by rw [hw2, ← hz1, zero128]; exact heap_alloc_new _ _
  obtain ⟨w3, hw3⟩ : ∃ w3, w3 = w2.alloc (.cells Try.zeroCells106 106) := ⟨_, rfl⟩
  have hb3 : Below w2.heap.size w2 w3 := by rw [hw3]; exact alloc_below _ _
  have hz3 : w3.heap.size = g + 3 := by rw [hw3]; simp; omega
  have hS3 : Zblk w3 (g + 2) 106 (List.replicate 128 0) := by rw [hw3, ← hz2, zero128]; exact heap_alloc_new _ _
  have hbw3 : Below w.heap.size w w3 := bt hb1 (hb2.trans (hb3.mono (by omega)))
  have hB3 := hB1.kept (hb2.trans (hb3.mono (by omega))) (show g < w1.heap.size by omega)
  have hR3 := hR2.kept hb3 (by omega)
  have e1 := (hbw3.cell (p := ⟨g1, o1 + s, none⟩) hg1).trans hd1
  have HW : Hid (w3 = ((w.alloc (.cells #[.int .i64 n1, .int .i64 st, .slice (some ⟨g1, o1, none⟩) n c, .slice (some ⟨g2, o2, none⟩) n d] 24)).alloc (.cells Try.zeroCells106 106)).alloc (.cells Try.zeroCells106 106)) := Lib.hid (by rw [hw3, hw2, hw1])
  have HG := Lib.hid hg
  rw [hw3, hw2, hw1] at e1
  have HZ3 := Lib.hid hz3
  have HR3 := Lib.hid hR3
  have HB3 := Lib.hid hB3
  have HS3 := Lib.hid hS3
  have hs0 : (0 : Int) ≤ (s : Int) := by omega
  clear hw1 hw2 hw3 hz1 hz2 hz3 hb1 hb2 hb3 hB1 hR2 hg hB3 hR3 hS3
  go_enter Try.func78, Try.ntmps78
  go_wp2
  rw [← HW.out]
  try rw [← HG.out]
  clear e1
  go_loopw [16] (fun kv wr => ∃ a : Nat, a ≤ n1 ∧ kv = .int .i64 a ∧ Zblk wr (g + 2) 106 (sgm nx ot cl s a) ∧ Below (g + 2) w3 wr) (fun kv _ => n1 - (intOf kv).toNat)
  case atStart => exact ⟨0, Nat.zero_le _, rfl, by rw [sgm_zero]; exact HS3.out, Below.refl _ _⟩
  case round =>
    obtain ⟨a, ha, rfl, hS, hbr⟩ := hrel
    have hbW : Below w.heap.size w wr := hbw3.trans (hbr.mono (by have := hg1; rw [← HG.out]; omega))
    have hbox := HB3.out.kept hbr (show g < g + 2 by omega)
    obtain ⟨k0, k1, k2, k3, _⟩ := hbox.cells
    have hzr := hbr.size
    have hzr3 : g + 2 < wr.heap.size := by rw [HZ3.out] at hzr; omega
    by_cases hlt : a < n1
    · obtain ⟨b1, p1, rfl, hb1, hc1⟩ := hr1.at_ hlt
      have hc1 := (hbW.cell (p := ⟨b1, p1 + a, none⟩) hb1).trans hc1
      obtain ⟨b2, p2, rfl, hb2, hc2⟩ := hr2.at_ hlt
      have hc2 := (hbW.cell (p := ⟨b2, p2 + a, none⟩) hb2).trans hc2
      have e2 := (hbW.cell (p := ⟨g2, o2 + s, none⟩) hg2).trans hd2
      rw [hM.nN_eq hs hlt] at hc1
      have ht := hM.nN_lt hs hlt
      obtain ⟨b3, p3, rfl, hb3, hc3⟩ := hc.at_ ht
      have hc3 := (hbW.cell (p := ⟨b3, _, none⟩) hb3).trans hc3
      rw [zs_at] at hc3
      have lb : b2 < g + 2 ∧ b3 < g + 2 ∧ g2 < g + 2 := by have := HG.out; omega
      obtain ⟨lb2, lb3, lg2⟩ := lb
      have hnx := Lib.hid (sgm_succ nx ot cl s a)
      have hy : (ot.getD s []).getD a 0 = oN ot s a := rfl
      rw [hy] at hc2
      obtain ⟨q1, f1⟩ := hS.at_ (j := 2 * a) (by rw [sgm_len]; omega)
      obtain ⟨q2, f2⟩ := hS.at_ (j := 2 * a + 1) (by rw [sgm_len]; omega)
      have HS := Lib.hid hS
      generalize (sgm nx ot cl s a).getD (2 * a) 0 = u1 at q1
      generalize (sgm nx ot cl s a).getD (2 * a + 1) 0 = u2 at q2
      generalize oN ot s a = y at hc2 hnx
      generalize nN nx s a = t at hc1 ht hc3 hnx
      generalize cl.getD t 0 = z at hc3 hnx
      rw [Nat.mul_comm] at q1 f1 q2 f2
      have HY := Lib.hid hy
      clear hy hS hd1 hd2
      have j0 : (0 : Int) ≤ (a : Int) := by omega
      have j1 : (0 : Int) ≤ (t : Int) := by omega
      have j2 : (t : Int) < (n : Int) := by omega
      have j3 : (s : Int) < (n : Int) := by omega
      have j4 : (a : Int) < (n1 : Int) := by omega
      have j5 : (a : Int) < 64 := by omega
      have HK : Hid (∀ u v, ((wr.setCell ⟨g + 1 + 1, a * 2, none⟩ u).setCell ⟨g + 1 + 1, a * 2 + 1, none⟩ v).drew.cell? ⟨g, 3, none⟩ = some (.slice (some ⟨g2, o2, none⟩) n d) ∧ ((wr.setCell ⟨g + 1 + 1, a * 2, none⟩ u).setCell ⟨g + 1 + 1, a * 2 + 1, none⟩ v).drew.cell? ⟨g2, o2 + s, none⟩ = some (.slice (some ⟨b2, p2, none⟩) n1 c2) ∧ ((wr.setCell ⟨g + 1 + 1, a * 2, none⟩ u).setCell ⟨g + 1 + 1, a * 2 + 1, none⟩ v).drew.cell? ⟨b2, p2 + a, none⟩ = some (.int .i64 y) ∧ ((wr.setCell ⟨g + 1 + 1, a * 2, none⟩ u).setCell ⟨g + 1 + 1, a * 2 + 1, none⟩ v).drew.cell? ⟨b3, p3 + t, none⟩ = some (.int .i64 z)) := Lib.hid fun u v => by
        have h1 : Below (g + 2) wr (wr.setCell ⟨g + 1 + 1, a * 2, none⟩ u) := (Below.refl (g + 2) wr).setCell (p := ⟨g + 1 + 1, a * 2, none⟩) (Nat.le_refl (g + 2)) u
        have h2 : Below (g + 2) wr ((wr.setCell ⟨g + 1 + 1, a * 2, none⟩ u).setCell ⟨g + 1 + 1, a * 2 + 1, none⟩ v) := h1.setCell (p := ⟨g + 1 + 1, a * 2 + 1, none⟩) (Nat.le_refl (g + 2)) v
        have hk : Below (g + 2) wr (((wr.setCell ⟨g + 1 + 1, a * 2, none⟩ u).setCell ⟨g + 1 + 1, a * 2 + 1, none⟩ v).drew) := below_drewN h2 1
        exact ⟨(hk.cell (p := ⟨g, 3, none⟩) (show g < g + 2 by omega)).trans k3, (hk.cell (p := ⟨g2, o2 + s, none⟩) lg2).trans e2, (hk.cell (p := ⟨b2, p2 + a, none⟩) lb2).trans hc2, (hk.cell (p := ⟨b3, p3 + t, none⟩) lb3).trans hc3⟩
      go_wp2
      go_region_held3 (fun w' => w'.cell? ⟨g, 3, none⟩ = some (.slice (some ⟨g2, o2, none⟩) n d) ∧ w'.cell? ⟨g2, o2 + s, none⟩ = some (.slice (some ⟨b2, p2, none⟩) n1 c2) ∧ w'.cell? ⟨b2, p2 + a, none⟩ = some (.int .i64 y) ∧ w'.cell? ⟨b3, p3 + t, none⟩ = some (.int .i64 z)) (first | exact HK.out _ _ | exact ⟨k3, e2, hc2, hc3⟩ | go_keep) (fail)
      have hq1 := (HS.out.set (2 * a) y).set (2 * a + 1) (z : Int)
      rw [hnx.out] at hq1
      have hq2 : Below (g + 2) w3 ((wr.setCell ⟨g + 2, 2 * a, none⟩ (.int .i64 y)).setCell ⟨g + 2, 2 * a + 1, none⟩ (.int .i64 z)) := (hbr.setCell (p := ⟨g + 2, 2 * a, none⟩) (Nat.le_refl (g + 2)) _).setCell (p := ⟨g + 2, 2 * a + 1, none⟩) (Nat.le_refl (g + 2)) _
      rw [Nat.mul_comm 2 a] at hq1 hq2
      have HQ := Lib.hid (And.intro hq1 hq2)
      clear hq1 hq2
      go_wp2
      go_roundw
      case rel => exact ⟨a + 1, by omega, by go_num, HQ.out.1, below_drewN HQ.out.2 1⟩
      case measure => simp [intOf]; omega
    · obtain rfl : a = n1 := by omega
      have hR := HR3.out.kept hbr (show g + 1 < g + 2 by omega)
      have HS := Lib.hid hS
      have HR := Lib.hid hR
      have hWS := Lib.hid ((HR.out.whole (sgm nx ot cl s a) (by rw [sgm_len]; simp)))
      have hT := Lib.hid (HR.out.there 128 (by simp))
      have hBW := Lib.hid (hbW.trans (below_setCells w.heap.size (g + 1) (by rw [← HG.out]; omega) ((sgm nx ot cl s a).map (Value.int .i64)) 0 wr))
      have hsz : ((sgm nx ot cl s a).map (Value.int .i64)).toArray.size = 128 := by simp [sgm_len]
      have hone : ((sgm nx ot cl s a).map (Value.int .i64)).toArray.all (·.oneCell') = true := all_oneCell_toArray (fun v hv => by obtain ⟨x, _, rfl⟩ := List.mem_map.1 hv; rfl)
      have HSZ := Lib.hid hsz
      have HONE := Lib.hid hone
      clear hS hR hsz hone
      generalize hL : ((sgm nx ot cl s a).map (Value.int .i64)).toArray = cs at HSZ HONE
      have hS9 : wr.heap[g + 2]? = some (.cells cs 106 (0, 0)) := by rw [← hL]; exact HS.out
      have hL2 : cs.toList = (sgm nx ot cl s a).map (Value.int .i64) := by rw [← hL]
      have HL := Lib.hid hL
      have HL2 := Lib.hid hL2
      have HS9 := Lib.hid hS9
      clear hL hL2 hS9 k0 k1 k2 k3
      go_wp2_with (first
        | (refine wpList_load_row rfl 106 _ rfl (g + 2) rfl 106 cs (0, 0) _ HS9.out Try.underlying106 rfl (by rw [HSZ.out]; kernel_rfl) ?_)
        | (refine wpList_store_mid rfl 106 _ _ rfl (g + 1) 0 cs rfl rfl (by rw [HSZ.out]; exact hT.out) (by rw [HSZ.out]; kernel_rfl) HONE.out ?_))
      rw [HL2.out]
      refine bodyPost_ret (results_cell_row (by rfl) _ _ (g + 1) 106 _ (0, 0) _ rfl hWS.out Try.underlying106 rfl (by rw [List.size_toArray, List.length_map, sgm_len]; kernel_rfl)) rfl ⟨rfl, hBW.out⟩
end Go.Proofs.Ytdedgpgdmnfijaa
end

section
/- One refinement of classes: the walk. -/
namespace Go.Proofs.Ytdedgpgdmnfijaa
open Go.RowKit

theorem sigT : KeyT 103 106 := ⟨Try.underlying103, Go.Maps.Keyed.of_law (deep_law_laid laidOutB_ (m := 3) (by omega) (of_decide_eq_true (by kernel_rfl)) (by kernel_rfl) (by rw [Try.underlying106]))⟩

theorem sigK {x : List Int} (hl : x.length = 128) (hx : ∀ a, a ∈ x → I64 a) : IsK 106 x := by
  have c1 : Try.prog.cellsOf 106 = 128 := by kernel_rfl
  have c2 : Try.prog.cellsOf 104 = 2 := by kernel_rfl
  refine keyOf_arr Try.underlying106 (fun x hl hx => ?_) (by kernel_rfl) (by rw [c1, hl]) hx
  refine keyLits_arr Try.underlying106 (by simp [hl]) fun j hj => ?_
  rw [c2, ← List.map_drop, ← List.map_take]
  have e : Try.prog.types.size = (Try.prog.types.size - 2) + 2 := by kernel_rfl
  rw [e]
  refine keyLits_row Try.underlying104 c2 ?_ fun a ha => hx a (List.mem_of_mem_drop (List.mem_of_mem_take ha))
  rw [List.length_take, List.length_drop, hl, c1]; omega
theorem sgmK {i st n : Nat} {nx ot : List (List Int)} (hM : Mok i st n nx ot) {cl : List Nat} (hcl : ∀ t, t < n → cl.getD t 0 ≤ n) {s : Nat} (hs : s < n) : IsK 106 (sgm nx ot cl s i) := by
  refine sigK (sgm_len _ _ _ _ _) fun a ha => ?_
  obtain ⟨j, hj, rfl⟩ := List.getElem_of_mem ha
  rw [sgm_len] at hj
  have h := sgm_get nx ot cl s i j hj
  rw [List.getElem?_eq_getElem (by rw [sgm_len]; exact hj)] at h
  simp only [Option.some.injEq] at h
  rw [h]
  have hn := hM.n2
  by_cases e : j / 2 < i
  · rw [if_pos e]
    by_cases e2 : j % 2 = 0
    · rw [if_pos e2]
      have := (hM.row s hs).2.2 _ e
      unfold oN
      exact I64.mk (by omega) (by omega)
    · rw [if_neg e2]
      have := hcl _ (hM.nN_lt hs e)
      exact I64.mk (by omega) (by omega)
  · rw [if_neg e]; exact I64.mk (by omega) (by omega)
end Go.Proofs.Ytdedgpgdmnfijaa
end

section
/- One refinement of classes: the walk. -/
namespace Go.Proofs.Ytdedgpgdmnfijaa
open Go.RowKit

theorem Owned.apartMap {w w' : World} {base g n c b : Nat} {xs : List Int} (h : Owned w base (.slice (some ⟨g, 0, none⟩) n c) xs) (hg : w.grownBy w' (some b)) (hne : b ≠ g) : Owned w' base (.slice (some ⟨g, 0, none⟩) n c) xs :=
  World.ownsRow.kept h hg (.inr (by simp [Value.ownBlock]; exact fun e => hne e.symm))
/-- The key laid in a new block. -/
theorem sig_laid (w : World) (xs : List Int) (hl : xs.length = 128) (W : World) (hW : W = (w.alloc (.cells Try.zeroCells106 106)).setCells w.heap.size 0 (xs.map (Value.int .i64))) :
    Zblk W w.heap.size 106 xs ∧ Below w.heap.size w W ∧ w.heap.size < W.heap.size ∧ (w.alloc (.cells Try.zeroCells106 106)).there w.heap.size 0 128 := by
  have h1 : Zblk (w.alloc (.cells Try.zeroCells106 106)) w.heap.size 106 (List.replicate 128 0) := by rw [zero128]; exact heap_alloc_new _ _
  have h2 := h1.whole xs (by simp [hl])
  have h3 := below_setCells w.heap.size w.heap.size (Nat.le_refl _) (xs.map (Value.int .i64)) 0 (w.alloc (.cells Try.zeroCells106 106))
  rw [← hW] at h2 h3
  have h4 := h3.size
  simp at h4
  exact ⟨h2, (alloc_below _ _).trans h3, h4, h1.there 128 (by simp)⟩
theorem mid_set (l : List Int) (n k : Nat) (x : Int) (hl : l.length = n) (hk : k < n) (hx : l[k]? = some x) : (l.take k ++ List.replicate (n - k) 0).set k x = l.take (k + 1) ++ List.replicate (n - (k + 1)) 0 := by
  apply List.ext_getElem?
  intro j
  have h1 : (l.take k).length = k := by rw [List.length_take]; omega
  have h2 : (l.take (k + 1)).length = k + 1 := by rw [List.length_take]; omega
  rw [List.getElem?_set, List.length_append, h1, List.length_replicate]
  by_cases e : k = j
  · subst e
    rw [if_pos rfl, if_pos (by omega), List.getElem?_append_left (by omega), List.getElem?_take, if_pos (by omega), hx]
  · rw [if_neg e]
    by_cases e2 : j < k
    · rw [List.getElem?_append_left (by omega), List.getElem?_append_left (by omega), List.getElem?_take, List.getElem?_take, if_pos e2, if_pos (by omega)]
    · rw [List.getElem?_append_right (by omega), List.getElem?_append_right (by omega), h1, h2, List.getElem?_replicate, List.getElem?_replicate]
      by_cases e3 : j < n
      · rw [if_pos (by omega), if_pos (by omega)]
      · rw [if_neg (by omega), if_neg (by omega)]
theorem mid_len (l : List Int) (n k : Nat) (hl : l.length = n) (hk : k ≤ n) : (l.take k ++ List.replicate (n - k) 0).length = n := by
  rw [List.length_append, List.length_take, List.length_replicate]; omega

set_option maxHeartbeats 4000000 in
set_option maxRecDepth 100000 in
theorem prefine (i st n : Nat) (A B C : Option Addr) (c d cc : Nat) (nx ot : List (List Int)) (cl : List Nat) (w : World) (hx : Lists w A n nx) (ho : Lists w B n ot) (hM : Mok i st n nx ot) (hc : Ints w C n (zs cl)) (hcl : ∀ t, t < n → cl.getD t 0 ≤ n) :
    Calls Try.prog 73 #[.agg #[.int .i64 i, .int .i64 st, .slice A n c, .slice B n d], .slice C n cc] w fun e w' => ∃ A' c', e = .returned (.slice A' n c') ∧ Owned w' w.heap.size (.slice A' n c') (zs (num (fun s => sgm nx ot cl s i) n)) ∧ Below w.heap.size w w' := by
  have hn := hx.2.1
  have hn2 := hM.n2
  have hn1 := hM.n1
  have hlo := Lib.hid ho
  obtain ⟨g, hg⟩ : ∃ g, g = w.heap.size := ⟨_, rfl⟩
  obtain ⟨w1, hw1⟩ : ∃ w1, w1 = w.alloc (.cells #[.int .i64 i, .int .i64 st, .slice A n c, .slice B n d] 24) := ⟨_, rfl⟩
  have hb1 : Below w.heap.size w w1 := by rw [hw1]; exact alloc_below _ _
  have hz1 : w1.heap.size = g + 1 := by rw [hw1, hg]; simp
  have hB1 : Mblk w1 g (.int .i64 i) (.int .i64 st) (.slice A n c) (.slice B n d) := by rw [hw1, hg]; exact heap_alloc_new _ _
  obtain ⟨w2, hw2⟩ : ∃ w2, w2 = w1.alloc (.map #[] 0) := ⟨_, rfl⟩
  have hb2 : Below w1.heap.size w1 w2 := by rw [hw2]; exact alloc_below _ _
  have hz2 : w2.heap.size = g + 2 := by rw [hw2]; simp; omega
  have hN2 : NumIs 106 w2 (g + 1) [] := by rw [hw2, ← hz1]; exact NumIs.made _ _
  have hbw2 : Below w.heap.size w w2 := bt hb1 hb2
  have hB2 := hB1.kept hb2 (show g < w1.heap.size by omega)
  have HW : Hid (w2 = (w.alloc (.cells #[.int .i64 i, .int .i64 st, .slice A n c, .slice B n d] 24)).alloc (.map #[] 0)) := Lib.hid (by rw [hw2, hw1])
  have HG := Lib.hid hg
  have HB2 := Lib.hid hB2
  have HN2 := Lib.hid hN2
  have HZ2 := Lib.hid hz2
  have hmm := @run_makeMap Try.prog
  obtain ⟨f, hf⟩ : ∃ f : Nat → List Int, f = fun s => sgm nx ot cl s i := ⟨_, rfl⟩
  have HK := Lib.hid (show ∀ s, s < n → IsK 106 (f s) from fun s hs => by rw [hf]; exact sgmK hM hcl hs)
  have HL := Lib.hid (show ∀ s, (f s).length = 128 from fun s => by rw [hf]; exact sgm_len _ _ _ _ _)
  have HF := Lib.hid (show ∀ s, sgm nx ot cl s i = f s from fun s => by rw [hf])
  rw [← hf]
  clear hf
  clear hw1 hw2 hz1 hb1 hb2 hB1 hg hB2 hN2 hz2
  go_enter Try.func73, Try.ntmps73
  go_wp2_with (refine wpList_make_ints _ rfl _ _ rfl .i64 .i64 n rfl rfl hn ?_; intro w3 ho3 b3)
  clear hmm
  rw [← HW.out] at ho3 b3
  rw [HZ2.out] at ho3 b3
  try rw [← HW.out]
  try rw [HZ2.out]
  go_wp2
  try rw [← HG.out]
  have hB3 := (HB2.out.kept b3 (by omega))
  have hN3 := (HN2.out.below b3 (by omega))
  have HB3 := Lib.hid hB3
  have HN3 := Lib.hid hN3
  have HO3 := Lib.hid ho3
  have hz3 := b3.size
  rw [HZ2.out] at hz3
  have hbw3 : Below w.heap.size w w3 := hbw2.trans (b3.mono (by rw [← HG.out]; omega))
  clear hB3 hN3 ho3 HB2 HN2 b3
  go_loopw [17] (fun kv wr => ∃ s : Nat, s ≤ n ∧ kv = .int .i64 s ∧ NumIs 106 wr (g + 1) (grp f s) ∧ Owned wr (g + 2) (.slice (some ⟨g + 2, 0, none⟩) n n) (zs ((num f n).take s) ++ List.replicate (n - s) 0) ∧ Below (g + 1) w3 wr ∧ w3.heap.size ≤ wr.heap.size) (fun kv _ => n - (intOf kv).toNat)
  case atStart => exact ⟨0, Nat.zero_le _, rfl, HN3.out, by simpa [zs] using HO3.out, Below.refl _ _, Nat.le_refl _⟩
  case round =>
    obtain ⟨s, hs, rfl, hN, hO, hbr, hzr⟩ := hrel
    have hbW : Below w.heap.size w wr := hbw3.trans (hbr.mono (by rw [← HG.out]; omega))
    have hbox := HB3.out.kept hbr (show g < g + 1 by omega)
    obtain ⟨k0, k1, k2, k3, _⟩ := hbox.cells
    have HN := Lib.hid hN
    have HO := Lib.hid hO
    have HBR := Lib.hid hbr
    clear hN hO hbr
    by_cases hlt : s < n
    · go_wp2_with fail
      refine (psign _ _ _ _ _ _ _ _ _ _ _ _ cl _ (hx.below hbW) (hlo.out.below hbW) hM (hc.below hbW) hlt).mono ?_
      rintro e w4 ⟨rfl, b4⟩
      have hz4 := b4.size
      obtain ⟨W, hW⟩ : ∃ W, W = (w4.alloc (.cells Try.zeroCells106 106)).setCells w4.heap.size 0 ((sgm nx ot cl s i).map (Value.int .i64)) := ⟨_, rfl⟩
      obtain ⟨hZ, bW, hzW, hth⟩ := sig_laid w4 _ (sgm_len nx ot cl s i) W hW
      rw [HF.out s] at hZ hW ⊢
      have hK := HK.out s hlt
      have hl := HL.out s
      have hone : ((f s).map (Value.int .i64)).toArray.all (·.oneCell') = true := all_oneCell_toArray (fun v hv => by obtain ⟨x, _, rfl⟩ := List.mem_map.1 hv; rfl)
      have hsz : ((f s).map (Value.int .i64)).toArray.size = 128 := by simp [hl]
      have hbw4 : Below wr.heap.size wr W := bt b4 bW
      have hNW := HN.out.below hbw4 HN.out.lt
      have hOW := HO.out.kept hbw4
      have hkv : kv (f s) = .agg ((f s).map (Value.int .i64)).toArray := rfl
      rw [hkv]
      obtain ⟨cs, hcs⟩ : ∃ cs, cs = ((f s).map (Value.int .i64)).toArray := ⟨_, rfl⟩
      have hZ : W.heap[w4.heap.size]? = some (.cells cs 106 (0, 0)) := by rw [hcs]; exact hZ
      have hW2 : W = (w4.alloc (.cells Try.zeroCells106 106)).setCells w4.heap.size 0 cs.toList := by rw [hW, hcs]
      rw [← hcs] at hone hsz hkv ⊢
      have HKV := Lib.hid hkv
      have HZ := Lib.hid hZ
      have HW2 := Lib.hid hW2
      have HONE := Lib.hid hone
      have HSZ := Lib.hid hsz
      have HTH := Lib.hid hth
      have HCS := Lib.hid hcs
      have HNW := Lib.hid hNW
      have HOW := Lib.hid hOW
      have HBW := Lib.hid hbw4
      have hzW := bW.size
      have hbW9 : Below (g + 1) w3 W := HBR.out.trans (hbw4.mono (by omega))
      have hwl : (zs (num f n)).length = n := by rw [zs_len, num_len]
      have hnm : (zs (num f n))[s]? = some ((nmb f s : Nat) : Int) := by
        have := zs_at (num f n) s
        rw [num_at f hlt, List.getD_eq_getElem?_getD, List.getElem?_eq_getElem (by rw [hwl]; exact hlt)] at this
        rw [List.getElem?_eq_getElem (by rw [hwl]; exact hlt)]
        exact congrArg some this
      have htk : zs ((num f n).take s) = (zs (num f n)).take s := by simp [zs]
      have htk1 : zs ((num f n).take (s + 1)) = (zs (num f n)).take (s + 1) := by simp [zs]
      rw [htk] at hOW
      have hst := mid_set (zs (num f n)) n s _ hwl hlt hnm
      have hml := mid_len (zs (num f n)) n s hwl (by omega)
      have HST := Lib.hid hst
      have HML := Lib.hid hml
      have HTK := Lib.hid htk1
      generalize (zs (num f n)).take s ++ List.replicate (n - s) 0 = mid at hOW HST HML
      have HNW := Lib.hid hNW
      have HOW := Lib.hid hOW
      have HBW9 := Lib.hid hbW9
      clear hZ hW hW2 hone hsz hth hcs hkv hNW hOW hbw4 b4 k0 k1 k2 k3 hl hst hml htk1 htk hnm hwl hbW9 bW
      have hs0 : (0 : Int) ≤ (s : Int) := by omega
      have hz5 : wr.heap.size ≤ W.heap.size := by omega
      by_cases hin : f s ∈ grp f s
      · have hrun := HNW.out.look_in sigT hin
        rw [HKV.out, ← nmb_old f hin] at hrun
        have hg1 : grp f (s + 1) = grp f s := addK_in hin
        have HG1 := Lib.hid hg1
        have hO2 := HOW.out.stored s ((nmb f s : Nat) : Int)
        obtain ⟨bq, oq, eq, hbq, hcq⟩ := (HOW.out.ints (by rw [HML.out]; omega)).at_ hlt
        cases eq
        obtain ⟨gq, eg, _, _, hfz⟩ := HOW.out.head (by omega)
        cases eg
        have hfz := hfz s
        rw [Nat.zero_add] at hcq
        have hN2 := HNW.out.setCell (a := ⟨g + 2, s, none⟩) (by simp) (.int .i64 ((nmb f s : Nat) : Int))
        have hB2 := HBW9.out.setCell (p := ⟨g + 2, s, none⟩) (by simp) (.int .i64 ((nmb f s : Nat) : Int))
        have HR := Lib.hid (And.intro hO2 (And.intro hN2 hB2))
        clear hO2 hN2 hB2 hg1 hin hbq
        generalize nmb f s = v at hrun HR HST
        go_wp2_with (first
          | (refine wpList_store_mid rfl 106 _ _ rfl w4.heap.size 0 cs rfl rfl (by rw [HSZ.out]; exact HTH.out) (by rw [HSZ.out]; kernel_rfl) HONE.out ?_; rw [← HW2.out])
          | (refine wpList_load_row rfl 106 _ rfl w4.heap.size rfl 106 cs (0, 0) _ HZ.out Try.underlying106 rfl (by rw [HSZ.out]; kernel_rfl) ?_))
        go_roundw
        case rel => exact ⟨s + 1, by omega, by go_num, by rw [HG1.out]; exact HR.out.2.1, by rw [HTK.out, ← HST.out]; exact HR.out.1, HR.out.2.2, by simp; omega⟩
        case measure => simp [intOf]; omega
      · have hrun := HNW.out.look_out sigT hK hin
        have hlen := HNW.out.len sigT 3
        obtain ⟨w6, hup, hN6, hgr⟩ := HNW.out.put sigT hK hin (by have := grp_len f s; omega)
        rw [HKV.out] at hrun hup
        rw [← nmb_new f hin] at hlen hup
        have hg1 : grp f (s + 1) = grp f s ++ [f s] := addK_out hin
        have HG1 := Lib.hid hg1
        have hO6 := HOW.out.apartMap hgr (by omega)
        have hO2 := hO6.stored s ((nmb f s : Nat) : Int)
        obtain ⟨bq, oq, eq, hbq, hcq⟩ := (hO6.ints (by rw [HML.out]; omega)).at_ hlt
        cases eq
        obtain ⟨gq, eg, _, _, hfz⟩ := hO6.head (by omega)
        cases eg
        have hfz := hfz s
        rw [Nat.zero_add] at hcq
        have hN2 := hN6.setCell (a := ⟨g + 2, s, none⟩) (by simp) (.int .i64 ((nmb f s : Nat) : Int))
        have hB6 := HBW9.out.grown hgr (by omega) (fun k hk => by cases hk; omega)
        have hB2 := hB6.setCell (p := ⟨g + 2, s, none⟩) (by simp) (.int .i64 ((nmb f s : Nat) : Int))
        have HR := Lib.hid (And.intro hO2 (And.intro hN2 hB2))
        have hz6 := hgr.size
        clear hO2 hN2 hB2 hg1 hin hbq hO6 hN6 hgr hB6
        generalize nmb f s = v at hlen hup HR HST
        go_wp2_with (first
          | (refine wpList_store_mid rfl 106 _ _ rfl w4.heap.size 0 cs rfl rfl (by rw [HSZ.out]; exact HTH.out) (by rw [HSZ.out]; kernel_rfl) HONE.out ?_; rw [← HW2.out])
          | (refine wpList_load_row rfl 106 _ rfl w4.heap.size rfl 106 cs (0, 0) _ HZ.out Try.underlying106 rfl (by rw [HSZ.out]; kernel_rfl) ?_))
        go_roundw
        case rel => exact ⟨s + 1, by omega, by go_num, by rw [HG1.out]; exact HR.out.2.1, by rw [HTK.out, ← HST.out]; exact HR.out.1, HR.out.2.2, by simp; omega⟩
        case measure => simp [intOf]; omega
    · obtain rfl : s = n := by omega
      have hO := HO.out
      rw [List.take_of_length_le (by rw [num_len]; exact Nat.le_refl _), Nat.sub_self, List.replicate_zero, List.append_nil] at hO
      have HO2 := Lib.hid (hO.lower (base' := w.heap.size) (by rw [← HG.out]; omega))
      clear hO
      go_wp2
      go_ret
      exact ⟨_, _, rfl, HO2.out, hbW⟩
end Go.Proofs.Ytdedgpgdmnfijaa
end

section
/- The classes for k: the walk. -/
namespace Go.Proofs.Ytdedgpgdmnfijaa
open Go.RowKit

theorem Mok.pt_bd {i st n : Nat} {nx ot : List (List Int)} (_ : Mok i st n nx ot) (k : Nat) : ∀ t, t < n → (pt nx ot i n k).getD t 0 ≤ n := fun t ht => by
  have := cN_le (nx := nx) (ot := ot) (i := i) (k := k) ht
  unfold cN at this
  omega
/-- After how many rounds the program stops. -/
def rounds_ (nx ot : List (List Int)) (i n : Nat) (k : Int) : Nat := if k ≤ (dep nx ot i n : Int) then k.toNat else dep nx ot i n

set_option maxHeartbeats 4000000 in
set_option maxRecDepth 100000 in
theorem ppartn (i st n : Nat) (A B : Option Addr) (c d : Nat) (nx ot : List (List Int)) (k : Int) (w : World) (hx : Lists w A n nx) (ho : Lists w B n ot) (hM : Mok i st n nx ot) (hk : k ≤ 9223372036854775807) :
    Calls Try.prog 58 #[.agg #[.int .i64 i, .int .i64 st, .slice A n c, .slice B n d], .int .i64 k] w fun e w' => ∃ A' c', e = .returned (.tuple #[.slice A' n c', .int .i64 (rounds_ nx ot i n k : Nat)]) ∧ Owned w' w.heap.size (.slice A' n c') (zs (pt nx ot i n (rounds_ nx ot i n k))) ∧ Below w.heap.size w w' := by
  have hn := hx.2.1
  have hn2 := hM.n2
  have hn1 := hM.n1
  have hlo := Lib.hid ho
  obtain ⟨g, hg⟩ : ∃ g, g = w.heap.size := ⟨_, rfl⟩
  obtain ⟨w1, hw1⟩ : ∃ w1, w1 = w.alloc (.cells #[.int .i64 i, .int .i64 st, .slice A n c, .slice B n d] 24) := ⟨_, rfl⟩
  have hb1 : Below w.heap.size w w1 := by rw [hw1]; exact alloc_below _ _
  have hz1 : w1.heap.size = g + 1 := by rw [hw1, hg]; simp
  have hB1 : Mblk w1 g (.int .i64 i) (.int .i64 st) (.slice A n c) (.slice B n d) := by rw [hw1, hg]; exact heap_alloc_new _ _
  have HW := Lib.hid hw1
  have HG := Lib.hid hg
  have HB1 := Lib.hid hB1
  have HZ1 := Lib.hid hz1
  obtain ⟨R, hR⟩ : ∃ R, R = rounds_ nx ot i n k := ⟨_, rfl⟩
  have HR := Lib.hid hR
  have HS := Lib.hid (show ∀ j : Nat, (∀ m, m < j → pt nx ot i n (m + 1) ≠ pt nx ot i n m) → (j : Int) < k → pt nx ot i n (j + 1) = pt nx ot i n j → j = R from fun j h1 h2 h3 => by
    have h4 := hM.dep_eq h1 h3
    rw [hR]; unfold rounds_
    split
    · omega
    · exact h4)
  have HE := Lib.hid (show ∀ j : Nat, (∀ m, m < j → pt nx ot i n (m + 1) ≠ pt nx ot i n m) → (j : Int) ≤ max k 0 → ¬ (j : Int) < k → j = R ∧ max k 0 = (R : Int) from fun j h1 h2 h3 => by
    have h4 := hM.dep_le h1
    rw [hR]; unfold rounds_
    rw [if_pos (by omega)]
    omega)
  have HD := Lib.hid (show ∀ j : Nat, (∀ m, m < j → pt nx ot i n (m + 1) ≠ pt nx ot i n m) → j < n from fun j h1 => by
    have h4 := hM.dep_le h1
    have := hM.dep_lt
    omega)
  rw [← hR]
  clear hw1 hz1 hg hB1 hR
  go_enter Try.func58, Try.ntmps58
  have k2 := HB1.out.cells.2.2.1
  rw [HW.out] at k2
  try rw [HG.out] at k2
  go_wp2_with (refine wpList_make_ints _ rfl _ _ rfl .i64 .i64 n rfl rfl hn ?_; intro w3 ho3 b3)
  clear k2
  rw [← HW.out] at ho3 b3
  rw [HZ1.out] at ho3 b3
  try rw [← HW.out]
  try rw [HZ1.out]
  try rw [← HG.out]
  have hB3 := (HB1.out.kept b3 (by omega))
  have HB3 := Lib.hid hB3
  have hbw3 : Below w.heap.size w w3 := hb1.trans (b3.mono (by rw [← HG.out]; omega))
  have hO3 := Lib.hid (ho3.lower (base' := g) (by omega))
  have hz3 := b3.size
  rw [HZ1.out] at hz3
  clear hB3 ho3 b3
  go_wp2
  go_loopw [6, 7] (fun v6 v7 wr => ∃ (j : Nat) (A' : Option Addr) (c' : Nat), v7 = .int .i64 j ∧ v6 = .slice A' n c' ∧ Owned wr g (.slice A' n c') (zs (pt nx ot i n j)) ∧ Below w3.heap.size w3 wr ∧ (∀ m, m < j → pt nx ot i n (m + 1) ≠ pt nx ot i n m) ∧ (j : Int) ≤ max k 0) (fun _ v7 _ => n - (intOf v7).toNat)
  case atStart => exact ⟨0, _, _, rfl, rfl, by show Owned _ _ _ (zs (List.replicate n 0)); simpa [zs] using hO3.out, Below.refl _ _, fun m hm => absurd hm (by omega), by omega⟩
  case round =>
    obtain ⟨j, C, cc, rfl, rfl, hO, hbr, hbef, hjk⟩ := hrel
    have hzr := hbr.size
    have hbW : Below w.heap.size w wr := hbw3.trans (hbr.mono (by rw [← HG.out]; omega))
    have hbox := HB3.out.kept hbr (show g < w3.heap.size by omega)
    obtain ⟨k0, k1, k2, k3, _⟩ := hbox.cells
    have hI := Owned.ints hO (by rw [zs_len, pt_len]; exact hn)
    have hjn := HD.out j hbef
    have HO := Lib.hid hO
    have HBR := Lib.hid hbr
    have HBF := Lib.hid hbef
    clear hO hbr
    by_cases hlt : (j : Int) < k
    · have HRF := prefine i st n A B C c d cc nx ot (pt nx ot i n j) wr (hx.below hbW) (hlo.out.below hbW) hM hI (hM.pt_bd j)
      have e1 : zs (num (fun s => sgm nx ot (pt nx ot i n j) s i) n) = zs (pt nx ot i n (j + 1)) := rfl
      rw [e1] at HRF
      have hRF := Lib.hid HRF
      have hS := Lib.hid (HS.out j hbef hlt)
      have hN := Lib.hid (fun H : pt nx ot i n (j + 1) ≠ pt nx ot i n j => show ∀ m, m < j + 1 → pt nx ot i n (m + 1) ≠ pt nx ot i n m from fun m hm => by
        by_cases e2 : m = j
        · subst e2; exact H
        · exact hbef m (by omega))
      clear HRF e1 hbef
      by_cases heq : pt nx ot i n (j + 1) = pt nx ot i n j
      · have hjR := Lib.hid (hS.out heq)
        have HQ := Lib.hid (show (true : Bool) = decide (zs (pt nx ot i n (j + 1)) = zs (pt nx ot i n j)) by rw [heq]; simp)
        clear heq
        go_wp2_with fail
        refine hRF.out.mono ?_
        rintro e w4 ⟨A4, c4, rfl, hO4, b4⟩
        have hI4 := Owned.ints hO4 (by rw [zs_len, pt_len]; exact hn)
        have hI9 := hI.below b4
        have HO4 := Lib.hid hO4
        clear hO4
        go_wp2_with fail
        refine (sequal _ _ _ _ _ _ _ _ _ _ hI4 hI9 HQ.out).mono ?_
        rintro e w5 ⟨rfl, q, rfl⟩
        have HO9 := Lib.hid (show Owned (w4.drewN q) w.heap.size (.slice C n cc) (zs (pt nx ot i n R)) by have h9 := HO.out.kept b4; rw [← hjR.out, ← HG.out]; exact h9)
        clear k0 k1 k2 k3 hI hI4 hI9
        go_wp2
        go_ret2
        exact ⟨_, _, by rw [hjR.out]; rfl, HO9.out, below_drewN (bt hbW b4) q⟩
      · have HQ := Lib.hid (show (false : Bool) = decide (zs (pt nx ot i n (j + 1)) = zs (pt nx ot i n j)) from (decide_eq_false fun H => heq (zs_inj H)).symm)
        have hN1 := Lib.hid (hN.out heq)
        clear heq
        go_wp2_with fail
        refine hRF.out.mono ?_
        rintro e w4 ⟨A4, c4, rfl, hO4, b4⟩
        have hI4 := Owned.ints hO4 (by rw [zs_len, pt_len]; exact hn)
        have hI9 := hI.below b4
        have HO4 := Lib.hid hO4
        clear hO4
        go_wp2_with fail
        refine (sequal _ _ _ _ _ _ _ _ _ _ hI4 hI9 HQ.out).mono ?_
        rintro e w5 ⟨rfl, q, rfl⟩
        have HO9 := Lib.hid (show Owned (w4.drewN q) g (.slice A4 n c4) (zs (pt nx ot i n (j + 1))) from HO4.out.lower (by omega))
        have HB9 := Lib.hid (show Below w3.heap.size w3 (w4.drewN q) from below_drewN (HBR.out.trans (b4.mono hzr)) q)
        clear k0 k1 k2 k3 hI hI4 hI9
        go_wp2
        go_roundw
        case rel => exact ⟨j + 1, A4, c4, by go_num, rfl, HO9.out, HB9.out, hN1.out, by omega⟩
        case measure => simp [intOf]; omega
    · obtain ⟨hjR, hmx⟩ := HE.out j hbef hjk (by omega)
      have HO9 := Lib.hid (show Owned wr w.heap.size (.slice C n cc) (zs (pt nx ot i n R)) by rw [← hjR, ← HG.out]; exact HO.out)
      have HMX := Lib.hid hmx
      clear hjR hmx k0 k1 k2 k3 hI hbef
      go_wp2
      all_goals
        go_ret2
        have hmx := HMX.out
        exact ⟨_, _, by simp; omega, HO9.out, hbW⟩
end Go.Proofs.Ytdedgpgdmnfijaa
end

section
/- The machine of classes: the walk. -/
namespace Go.Proofs.Ytdedgpgdmnfijaa
open Go.RowKit

set_option maxHeartbeats 4000000 in
set_option maxRecDepth 100000 in
theorem pquot (i st n : Nat) (A B C : Option Addr) (c d cc : Nat) (nx ot : List (List Int)) (f : Nat → Nat) (w : World) (hx : Lists w A n nx) (ho : Lists w B n ot) (hM : Mok i st n nx ot) (hc : Ints w C n (zs (num f n))) :
    Calls Try.prog 41 #[.agg #[.int .i64 i, .int .i64 st, .slice A n c, .slice B n d], .slice C n cc] w fun e w' => ∃ A' c' B' d',
      e = .returned (.agg #[.int .i64 i, .int .i64 (nmb f st : Nat), .slice A' (reps f n).length c', .slice B' (reps f n).length d']) ∧
      OwnedL w' w.heap.size (.slice A' (reps f n).length c') (qN nx i f n) ∧ OwnedL w' w.heap.size (.slice B' (reps f n).length d') (qO ot f n) ∧ Below w.heap.size w w' := by
  have hn := hx.2.1
  have hn128 := hM.n2
  have hst := hM.st
  have hlo := Lib.hid ho
  obtain ⟨g, hg⟩ : ∃ g, g = w.heap.size := ⟨_, rfl⟩
  obtain ⟨w1, hw1⟩ : ∃ w1, w1 = w.alloc (.cells #[.int .i64 i, .int .i64 st, .slice A n c, .slice B n d] 24) := ⟨_, rfl⟩
  have hb1 : Below w.heap.size w w1 := by rw [hw1]; exact alloc_below _ _
  have hz1 : w1.heap.size = g + 1 := by rw [hw1, hg]; simp
  have hB1 : Mblk w1 g (.int .i64 i) (.int .i64 st) (.slice A n c) (.slice B n d) := by rw [hw1, hg]; exact heap_alloc_new _ _
  obtain ⟨w2, hw2⟩ : ∃ w2, w2 = w1.alloc (.cells #[.int .i64 0, .int .i64 0, .slice none 0 0, .slice none 0 0] 24) := ⟨_, rfl⟩
  have hb2 : Below w1.heap.size w1 w2 := by rw [hw2]; exact alloc_below _ _
  have hz2 : w2.heap.size = g + 2 := by rw [hw2]; simp; omega
  have hR2 : Mblk w2 (g + 1) (.int .i64 0) (.int .i64 0) (.slice none 0 0) (.slice none 0 0) := by rw [hw2, ← hz1]; exact heap_alloc_new _ _
  have hB2 := hB1.kept hb2 (show g < w1.heap.size by omega)
  have hbw2 : Below w.heap.size w w2 := bt hb1 hb2
  have HW : Hid (w2 = (w.alloc (.cells #[.int .i64 i, .int .i64 st, .slice A n c, .slice B n d] 24)).alloc (.cells #[.int .i64 0, .int .i64 0, .slice none 0 0, .slice none 0 0] 24)) := Lib.hid (by rw [hw2, hw1])
  have HG := Lib.hid hg
  have HZ2 := Lib.hid hz2
  have HB2 := Lib.hid hB2
  have HR2 := Lib.hid hR2
  obtain ⟨bc, oc, rfl, hbc, hcc⟩ := hc.at_ hst
  rw [zs_at, num_at f hst] at hcc
  have hcs := (hbw2.cell (p := ⟨bc, oc + st, none⟩) hbc).trans hcc
  obtain ⟨k0, k1, k2, k3, _⟩ := hB2.cells
  have j0 : (0 : Int) ≤ (st : Int) := by omega
  have j1 : (st : Int) < (n : Int) := by omega
  clear hw1 hw2 hz1 hb1 hb2 hB1 hR2 hg hB2 hcc hz2
  go_enter Try.func41, Try.ntmps41
  go_wp2_with fail
  rw [← HW.out]
  try rw [← HG.out]
  have n1 := World.new_ne w2 _ k0
  have n2 := World.new_ne w2 _ hcs
  go_region_held3 (fun w' => w'.cell? ⟨g, 0, none⟩ = some (.int .i64 i) ∧ w'.cell? ⟨g, 1, none⟩ = some (.int .i64 st) ∧ w'.cell? ⟨bc, oc + st, none⟩ = some (.int .i64 (nmb f st : Nat))) (go_keep) (fail)
  go_wp2
  obtain ⟨gT, hgT⟩ : ∃ gT, gT = w2.heap.size := ⟨_, rfl⟩
  have HT0 := Lib.hid (show Mblk ((w2.alloc (.cells #[.int .i64 i, .int .i64 (nmb f st : Nat), .slice none 0 0, .slice none 0 0] 24)).drew) gT (.int .i64 i) (.int .i64 (nmb f st : Nat)) (.slice none 0 0) (.slice none 0 0) by rw [hgT]; exact heap_alloc_new w2 _)
  have HL0 := Lib.hid (show Below gT w2 ((w2.alloc (.cells #[.int .i64 i, .int .i64 (nmb f st : Nat), .slice none 0 0, .slice none 0 0] 24)).drew) by rw [hgT]; exact below_drewN (alloc_below w2 _) 1)
  have hgT2 : g + 2 ≤ gT := by rw [hgT, HZ2.out]; exact Nat.le_refl _
  rw [← hgT]
  have HT := Lib.hid hgT
  obtain ⟨y0, hy0⟩ : ∃ y : Int, y = (nmb f st : Nat) := ⟨_, rfl⟩
  have HY0 := Lib.hid hy0
  rw [← hy0] at HT0 HL0 ⊢
  clear hgT n1 n2 k0 k1 k2 k3 hcs hy0
  go_loopw [20] (fun kv wr => ∃ (s : Nat) (AN AO : Option Addr) (cN cO : Nat), s ≤ n ∧ kv = .int .i64 s ∧ Below gT w2 wr ∧ Mblk wr gT (.int .i64 i) (.int .i64 y0) (.slice AN (reps f s).length cN) (.slice AO (reps f s).length cO) ∧
    OwnedL wr gT (.slice AN (reps f s).length cN) (qN nx i f s) ∧ OwnedL wr gT (.slice AO (reps f s).length cO) (qO ot f s) ∧ Apart (.slice AN (reps f s).length cN) (.slice AO (reps f s).length cO)) (fun kv _ => n - (intOf kv).toNat)
  case atStart => exact ⟨0, none, none, 0, 0, Nat.zero_le _, rfl, HL0.out, HT0.out, OwnedL.nil _ _, OwnedL.nil _ _, Apart.nil _⟩
  case round =>
    obtain ⟨s, AN, AO, cN, cO, hs, rfl, hbr, hT, hLN, hLO, hap⟩ := hrel
    have hbW : Below w.heap.size w wr := hbw2.trans (hbr.mono (by rw [← HG.out]; omega))
    have hzo : gT + 1 ≤ wr.heap.size := heap_lt hT
    have hbox := HB2.out.kept hbr (show g < gT by omega)
    have hkl := reps_le f s
    have HTT := Lib.hid hT
    have HLN := Lib.hid hLN
    have HLO := Lib.hid hLO
    have HAP := Lib.hid hap
    have HBR := Lib.hid hbr
    have HBX := Lib.hid hbox
    clear hT hLN hLO hap hbr hbox
    by_cases hlt : s < n
    · have hcw := hc.at_ hlt
      obtain ⟨bc', oc', e, hbc', hcc⟩ := hcw
      cases e
      rw [zs_at, num_at f hlt] at hcc
      have hcs := (hbW.cell (p := ⟨bc, oc + s, none⟩) hbc).trans hcc
      obtain ⟨c0, c1', c2', c3', f0, f1, f2, f3⟩ := HTT.out.cells
      have hsk := nmb_skip f s
      by_cases hin : f s ∈ grp f s
      · have hlt2 := hsk.2 hin
        have HQ1 := Lib.hid (qN_in (nx := nx) (i := i) hin)
        have HQ2 := Lib.hid (qO_in (ot := ot) hin)
        have HQ3 := Lib.hid (reps_in hin)
        clear hsk hin hcc
        generalize nmb f s = v at hcs hlt2
        go_wp2
        go_roundw
        case rel => exact ⟨s + 1, AN, AO, cN, cO, by omega, by go_num, HBR.out, by rw [HQ3.out]; exact HTT.out, by rw [HQ3.out, HQ1.out]; exact HLN.out, by rw [HQ3.out, HQ2.out]; exact HLO.out, by rw [HQ3.out]; exact HAP.out⟩
        case measure => simp [intOf]; omega
      · have hlt2 : ¬ nmb f s < (reps f s).length := fun H => hin (hsk.1 H)
        have HQ1 := Lib.hid (qN_out (nx := nx) (i := i) hin)
        have HQ2 := Lib.hid (qO_out (ot := ot) hin)
        have HQ3 := Lib.hid (show (reps f (s + 1)).length = (reps f s).length + 1 by rw [reps_out hin, List.length_append]; rfl)
        clear hsk hin hcc
        generalize nmb f s = v at hcs hlt2
        have hm1 : (reps f s).length < 1759218604441 := by omega
        generalize hm0 : (reps f s).length = m at *
        have HM0 := Lib.hid hm0
        clear hm0
        obtain ⟨g1, p1, A3, n1, c3, rfl, hg1, hd1, hr1⟩ := hx.at_ hlt
        obtain ⟨g2, p2, A4, n2, c4, rfl, hg2, hd2, hr2⟩ := hlo.out.at_ hlt
        have hi1 := (hM.row s hlt).1
        have hi2 := (hM.row s hlt).2.1
        have hl1 := hr1.1
        have hl2 := hr2.1
        obtain rfl : n1 = i := by omega
        obtain rfl : n1 = n2 := by omega
        have e1 := (hbW.cell (p := ⟨g1, p1 + s, none⟩) hg1).trans hd1
        have hi64 := hM.i2
        obtain ⟨k0, k1, k2, k3, _⟩ := HBX.out.cells
        clear hl1 hl2 hi2 hd1
        have HI1 := Lib.hid hi1
        clear hi1
        go_wp2_with fail
        refine (sclone _ _ _ _ _ (hr1.below hbW)).mono ?_
        rintro e w5 ⟨A5, c5, rfl, ho5, b5⟩
        have HO5 := Lib.hid ho5
        have HB5 := Lib.hid b5
        clear ho5 b5
        go_wp2
        obtain ⟨wc, rfl⟩ : ∃ wc : World, wc = wr := ⟨_, rfl⟩
        clear k0 k1 k2 k3 e1 c0 c1' c2' c3' f0 f1 f2 f3 hcs
        go_loopw [38] (fun av wq => ∃ a : Nat, a ≤ n1 ∧ av = .int .i64 a ∧ Owned wq wc.heap.size (.slice A5 n1 c5) (qmid nx n1 f s a) ∧ Below wc.heap.size wc wq) (fun av _ => n1 - (intOf av).toNat)
        case atStart => exact ⟨0, Nat.zero_le _, rfl, by rw [qmid_zero]; exact HO5.out, HB5.out⟩
        case round =>
          obtain ⟨a, ha, rfl, ho6, b6⟩ := hrel
          by_cases hla : a < n1
          · have hset := Lib.hid (qmid_set (f := f) HI1.out hla)
            have hat := Lib.hid ((qmid_at (nx := nx) (f := f) (s := s) hla).trans (hM.nN_eq hlt hla))
            have hml := Lib.hid (qmid_len (nx := nx) (f := f) (s := s) HI1.out (Nat.le_of_lt hla))
            have hmi : (qmid nx n1 f s a).length ≤ 17592186044416 := by rw [hml.out]; omega
            obtain ⟨g5, e5, hg5, hg5', hfz5⟩ := ho6.head (by omega)
            subst e5
            obtain ⟨bq, oq, eq, hbq, hcq⟩ := (ho6.ints hmi).at_ hla
            cases eq
            rw [hat.out, Nat.zero_add] at hcq
            have ht := hM.nN_lt hlt hla
            obtain ⟨bn, on, en, hbn, hcn⟩ := hc.at_ ht
            cases en
            rw [zs_at, num_at f ht] at hcn
            have hcn := ((hbW.trans (b6.mono (by have := hbW.size; exact this))).cell (p := ⟨bc, oc + nN nx s a, none⟩) hbc).trans hcn
            have hst := ho6.stored a ((nmb f (nN nx s a) : Nat) : Int)
            rw [hset.out] at hst
            have hbs := Lib.hid (b6.setCell (p := ⟨g5, a, none⟩) hg5 (.int .i64 ((nmb f (nN nx s a) : Nat) : Int)))
            have HSTT := Lib.hid hst
            have hf := hfz5 a
            clear hst ho6 b6 hfz5
            generalize nN nx s a = t at hcq ht hcn hset hbs HSTT
            generalize ((nmb f t : Nat) : Int) = tv at hcn hbs HSTT
            go_wp2
            go_roundw
            case rel => exact ⟨a + 1, by omega, by go_num, HSTT.out, hbs.out⟩
            case measure => simp [intOf]; omega
          · obtain rfl : a = n1 := by omega
            rw [qmid_all HI1.out] at ho6
            have hTq := HTT.out.kept b6 (heap_lt HTT.out)
            obtain ⟨c0, c1', c2', c3', f0, f1, f2, f3⟩ := hTq.cells
            have hLq := HLN.out.kept b6
            have hLOq := HLO.out.kept b6
            have ho6 := ho6.lower (base' := gT) (by omega)
            have hzq := b6.size
            have hgq : gT ≤ wr.heap.size := by omega
            have hkN : (qN nx a f s).length = m := by rw [qN_len]; exact HM0.out
            have hkO : (qO ot f s).length = m := by rw [qO_len]; exact HM0.out
            obtain ⟨AN2, cN2, w7, hrn, hLN7, b7, hk7, hkb7, hmv7⟩ := run_append_list hLq ho6 hgq (by rw [hkN]; omega)
            rw [hkN] at hrn hLN7 hmv7
            rw [← HQ1.out] at hLN7
            have hT7 := hTq.keptT (hk7 _ (by decide))
            obtain ⟨y0, y1, y2, y3, z0, z1, z2, z3⟩ := hT7.cells
            have hLO7 := hLOq.keptB hkb7 HAP.out (hk7 _ (by decide))
            have hAP7 := HAP.out.moved hmv7 hLOq
            have hb7 : Below gT w2 w7 := HBR.out.trans ((b6.mono (by omega)).trans b7)
            have hw8 := fun (u : Value) => hb7.setCell (p := ⟨gT, 2, none⟩) (Nat.le_refl _) u
            have h81 := hT7.set2 (.slice AN2 (m + 1) cN2)
            have h82 := hLN7.offM (j := 2) hT7 (.slice AN2 (m + 1) cN2)
            have h83 := hLO7.offM (j := 2) hT7 (.slice AN2 (m + 1) cN2)
            have h84 := hw8 (.slice AN2 (m + 1) cN2)
            have e2 := (hbW.cell (p := ⟨g2, p2 + s, none⟩) hg2).trans hd2
            have HH := Lib.hid (And.intro h81 (And.intro h82 (And.intro h83 h84)))
            clear hT7 hLN7 hLO7 hb7 hw8 h81 h82 h83 h84 hTq hLq hLOq ho6 hk7 hkb7 hmv7 b7 b6 e2 hkN
            go_wp2_with (at_builtin; refine Lib.wpList_append_run _ rfl _ _ _ _ rfl _ _ rfl rfl _ _ hrn ?_)
            obtain ⟨h81, h82, h83, h84⟩ := HH.out
            generalize w7.setCell ⟨gT, 2, none⟩ (.slice AN2 (m + 1) cN2) = w8 at h81 h82 h83 h84 ⊢
            clear HH y0 y1 y2 y3 z0 z1 z2 z3 hrn c0 c1' c2' c3' f0 f1 f2 f3
            obtain ⟨c0, c1', c2', c3', f0, f1, f2, f3⟩ := h81.cells
            have hbox8 := HB2.out.kept h84 (show g < gT by omega)
            obtain ⟨k0, k1, k2, k3, _⟩ := hbox8.cells
            have hbW8 : Below w.heap.size w w8 := hbw2.trans (h84.mono (by rw [← HG.out]; omega))
            have e2 := (hbW8.cell (p := ⟨g2, p2 + s, none⟩) hg2).trans hd2
            have hg8 : gT < w8.heap.size := heap_lt h81
            have H81 := Lib.hid h81
            have H82 := Lib.hid h82
            have H83 := Lib.hid h83
            have H84 := Lib.hid h84
            have HAP7 := Lib.hid hAP7
            clear h81 h82 h83 h84 hAP7
            go_region_law (first
              | (refine step_append_run rfl _ _ _ _ rfl _ _ rfl rfl _ _ (HF.out 0).1 ?_)
              | (go_simp; go_at_call 59; refine (sclone _ _ _ _ _ (hr2.below (below_drewN hbW8 _))).mono ?_; rintro e w9 ⟨A9, c9, rfl, ho9, b9⟩; obtain ⟨hT9, F, hF⟩ := trim_step H84.out H81.out H82.out H83.out HAP7.out _ b9 ho9 (by omega) hg8; obtain ⟨c0, c1', c2', c3', f0, f1, f2, f3⟩ := hT9.cells; have ca := ((alloc_below w9 (.cells #[.slice A9 a c9] 33)).cell (p := ⟨gT, 3, none⟩) (heap_lt hT9)).trans c3'; have HF := Lib.hid hF; have cF := fun q => (hF q).2.1.cells.2.2.2.1; have fF := fun q => (hF q).2.1.cells.2.2.2.2.2.2.2; clear hT9 hF ho9 b9))
            all_goals
              go_wp2
              go_roundw
              case rel => exact ⟨s + 1, AN2, (F 0).1.1, cN2, (F 0).1.2, by omega, by go_num, (HF.out 0).2.2.2.2.2.setCell (p := ⟨gT, 3, none⟩) (Nat.le_refl _) _, by rw [HQ3.out]; exact (HF.out 0).2.1.set3 _, by rw [HQ3.out]; exact (HF.out 0).2.2.1.offM (HF.out 0).2.1 _, by rw [HQ2.out, HQ3.out]; exact (HF.out 0).2.2.2.1.offM (HF.out 0).2.1 _, by rw [HQ3.out]; exact (HF.out 0).2.2.2.2.1⟩
              case measure => simp [intOf]; omega
    · obtain rfl : s = n := by omega
      obtain ⟨c0, c1', c2', c3', _⟩ := HTT.out.cells
      have hRr := HR2.out.kept HBR.out (show g + 1 < gT by omega)
      obtain ⟨ya, y1, y2, y3, z0, z1, z2, z3⟩ := hRr.cells
      have hN9 := HLN.out
      have hO9 := HLO.out
      have hl : ∀ k, w.heap.size ≤ (⟨g + 1, k, none⟩ : Addr).block := fun k => by rw [← HG.out]; exact Nat.le_succ _
      have hfb := Lib.hid (((((hbW.setCell (hl 0) (.int .i64 i)).setCell (hl 1) (.int .i64 y0)).setCell (hl 2) (.slice AN (reps f s).length cN)).setCell (hl 3) (.slice AO (reps f s).length cO)))
      have hR4 := Lib.hid (hRr.set4 (.int .i64 i) (.int .i64 y0) (.slice AN (reps f s).length cN) (.slice AO (reps f s).length cO))
      have hq1 := hRr
      have hq2 : Mblk (wr.setCell ⟨g + 1, 0, none⟩ (.int .i64 i)) (g + 1) _ _ _ _ := heap_setCell_same wr _ 0 _ _ _ hq1
      have hq3 : Mblk ((wr.setCell ⟨g + 1, 0, none⟩ (.int .i64 i)).setCell ⟨g + 1, 1, none⟩ (.int .i64 y0)) (g + 1) _ _ _ _ := heap_setCell_same _ _ 1 _ _ _ hq2
      have hq4 : Mblk (((wr.setCell ⟨g + 1, 0, none⟩ (.int .i64 i)).setCell ⟨g + 1, 1, none⟩ (.int .i64 y0)).setCell ⟨g + 1, 2, none⟩ (.slice AN (reps f s).length cN)) (g + 1) _ _ _ _ := heap_setCell_same _ _ 2 _ _ _ hq3
      have hN10 := Lib.hid (((((hN9.offM hq1 (.int .i64 i) (j := 0)).offM hq2 (.int .i64 y0) (j := 1)).offM hq3 (.slice AN (reps f s).length cN) (j := 2)).offM hq4 (.slice AO (reps f s).length cO) (j := 3)).lower (base' := w.heap.size) (by rw [← HG.out]; omega))
      have hO10 := Lib.hid (((((hO9.offM hq1 (.int .i64 i) (j := 0)).offM hq2 (.int .i64 y0) (j := 1)).offM hq3 (.slice AN (reps f s).length cN) (j := 2)).offM hq4 (.slice AO (reps f s).length cO) (j := 3)).lower (base' := w.heap.size) (by rw [← HG.out]; omega))
      clear hRr hq1 hq2 hq3 hq4 hN9 hO9 hl hbW
      go_wp2
      (try simp only [Exit.inBlock, Exit.then])
      refine bodyPost_ret (results_cell_row (by rfl) _ _ (g + 1) 24 _ (0, 0) _ rfl hR4.out Try.underlying24 rfl (by kernel_rfl)) rfl ?_
      exact ⟨AN, cN, AO, cO, by rw [HY0.out], hN10.out, hO10.out, hfb.out⟩
end Go.Proofs.Ytdedgpgdmnfijaa
end

section
/- Partition, Classes, Depth. -/
namespace Go.Proofs.Ytdedgpgdmnfijaa
open Go.RowKit

theorem vld_i64 (i st : Int) (nx ot : List (List Int)) (_ : ¬ vld i st nx ot = 0) : (vld i st nx ot != 0) = true := by simpa
set_option maxHeartbeats 1000000 in
theorem ppart_bad (i st : Int) (A B : Option Addr) (n c m d : Nat) (nx ot : List (List Int)) (k : Int) (w : World) (hx : Lists w A n nx) (ho : Lists w B m ot) (hv : ¬ vld i st nx ot = 0) :
    Calls Try.prog 38 #[.agg #[.int .i64 i, .int .i64 st, .slice A n c, .slice B m d], .int .i64 k] w fun e w' => e = .returned (.tuple #[.slice none 0 0, .int .i64 (vld i st nx ot)]) ∧ Below w.heap.size w w' := by
  have hb0 := alloc_below w (.cells #[.int .i64 i, .int .i64 st, .slice A n c, .slice B m d] 24)
  have hne : (vld i st nx ot != 0) = true := by simpa using hv
  go_enter Try.func38, Try.ntmps38
  go_wp2_with fail
  refine (pvalid _ _ _ _ _ _ _ _ _ _ _ (hx.below hb0) (ho.below hb0)).mono ?_
  rintro e w1 ⟨rfl, b1⟩
  have b1 := bt hb0 b1
  generalize hE : vld i st nx ot = E at hne hv
  have HE := Lib.hid hE
  clear hv hE
  go_wp2
  go_ret2
  exact ⟨by rw [HE.out]; rfl, b1⟩
set_option maxHeartbeats 1000000 in
theorem pdep_bad (i st : Int) (A B : Option Addr) (n c m d : Nat) (nx ot : List (List Int)) (w : World) (hx : Lists w A n nx) (ho : Lists w B m ot) (hv : ¬ vld i st nx ot = 0) :
    Calls Try.prog 39 #[.agg #[.int .i64 i, .int .i64 st, .slice A n c, .slice B m d]] w fun e w' => e = .returned (.tuple #[.int .i64 0, .int .i64 (vld i st nx ot)]) ∧ Below w.heap.size w w' := by
  have hb0 := alloc_below w (.cells #[.int .i64 i, .int .i64 st, .slice A n c, .slice B m d] 24)
  have hne : (vld i st nx ot != 0) = true := by simpa using hv
  go_enter Try.func39, Try.ntmps39
  go_wp2_with fail
  refine (pvalid _ _ _ _ _ _ _ _ _ _ _ (hx.below hb0) (ho.below hb0)).mono ?_
  rintro e w1 ⟨rfl, b1⟩
  have b1 := bt hb0 b1
  generalize hE : vld i st nx ot = E at hne hv
  have HE := Lib.hid hE
  clear hv hE
  go_wp2
  go_ret2
  exact ⟨by rw [HE.out]; rfl, b1⟩
set_option maxHeartbeats 1000000 in
theorem ppart_ok (i st n : Nat) (A B : Option Addr) (c d : Nat) (nx ot : List (List Int)) (k : Int) (w : World) (hx : Lists w A n nx) (ho : Lists w B n ot) (hM : Mok i st n nx ot) (hk : k ≤ 9223372036854775807) :
    Calls Try.prog 38 #[.agg #[.int .i64 i, .int .i64 st, .slice A n c, .slice B n d], .int .i64 k] w fun e w' => ∃ A' c', e = .returned (.tuple #[.slice A' n c', .int .i64 0]) ∧ Owned w' w.heap.size (.slice A' n c') (zs (pt nx ot i n (rounds_ nx ot i n k))) ∧ Below w.heap.size w w' := by
  have hb0 := alloc_below w (.cells #[.int .i64 i, .int .i64 st, .slice A n c, .slice B n d] 24)
  have hB := mealy_box w (.int .i64 i) (.int .i64 st) (.slice A n c) (.slice B n d)
  have HB := Lib.hid hB
  have HV := Lib.hid hM.vld
  clear hB
  go_enter Try.func38, Try.ntmps38
  go_wp2_with fail
  refine (pvalid _ _ _ _ _ _ _ _ _ _ _ (hx.below hb0) (ho.below hb0)).mono ?_
  rintro e w1 ⟨rfl, b1⟩
  rw [HV.out]
  obtain ⟨k0, k1, k2, k3, _⟩ := (HB.out.kept b1 (by simp)).cells
  have b1 := bt hb0 b1
  go_wp2_with fail
  refine (ppartn i st n A B c d nx ot k _ (hx.below b1) (ho.below b1) hM hk).mono ?_
  rintro e w2 ⟨A', c', rfl, hO, b2⟩
  have HO := Lib.hid (hO.lower (base' := w.heap.size) b1.size)
  have b2 := bt b1 b2
  clear k0 k1 k2 k3 hO
  go_wp2
  go_ret2
  exact ⟨A', c', rfl, HO.out, b2⟩
theorem rounds_max {i st n : Nat} {nx ot : List (List Int)} (hM : Mok i st n nx ot) : rounds_ nx ot i n 9223372036854775807 = dep nx ot i n := by
  have h1 := hM.dep_lt
  have h2 := hM.n2
  unfold rounds_
  rw [if_neg (by omega)]
set_option maxHeartbeats 1000000 in
theorem pdep_ok (i st n : Nat) (A B : Option Addr) (c d : Nat) (nx ot : List (List Int)) (w : World) (hx : Lists w A n nx) (ho : Lists w B n ot) (hM : Mok i st n nx ot) :
    Calls Try.prog 39 #[.agg #[.int .i64 i, .int .i64 st, .slice A n c, .slice B n d]] w fun e w' => e = .returned (.tuple #[.int .i64 (dep nx ot i n : Nat), .int .i64 0]) ∧ Below w.heap.size w w' := by
  have hb0 := alloc_below w (.cells #[.int .i64 i, .int .i64 st, .slice A n c, .slice B n d] 24)
  have hB := mealy_box w (.int .i64 i) (.int .i64 st) (.slice A n c) (.slice B n d)
  have HB := Lib.hid hB
  have HV := Lib.hid hM.vld
  have HR := Lib.hid (rounds_max hM)
  clear hB
  go_enter Try.func39, Try.ntmps39
  go_wp2_with fail
  refine (pvalid _ _ _ _ _ _ _ _ _ _ _ (hx.below hb0) (ho.below hb0)).mono ?_
  rintro e w1 ⟨rfl, b1⟩
  rw [HV.out]
  obtain ⟨k0, k1, k2, k3, _⟩ := (HB.out.kept b1 (by simp)).cells
  have b1 := bt hb0 b1
  go_wp2_with fail
  refine (ppartn i st n A B c d nx ot _ _ (hx.below b1) (ho.below b1) hM (by omega)).mono ?_
  rintro e w2 ⟨A', c', rfl, hO, b2⟩
  rw [HR.out]
  have b2 := bt b1 b2
  clear k0 k1 k2 k3 hO
  go_wp2
  go_ret2
  exact ⟨rfl, b2⟩
set_option maxHeartbeats 1000000 in
theorem pcls_bad (i st : Int) (A B : Option Addr) (n c m d : Nat) (nx ot : List (List Int)) (w : World) (hx : Lists w A n nx) (ho : Lists w B m ot) (hv : ¬ vld i st nx ot = 0) :
    Calls Try.prog 34 #[.agg #[.int .i64 i, .int .i64 st, .slice A n c, .slice B m d]] w fun e w' => e = .returned (.tuple #[.slice none 0 0, .int .i64 (vld i st nx ot)]) ∧ Below w.heap.size w w' := by
  have hb0 := alloc_below w (.cells #[.int .i64 i, .int .i64 st, .slice A n c, .slice B m d] 24)
  go_enter Try.func34, Try.ntmps34
  go_wp2_with fail
  refine (ppart_bad _ _ _ _ _ _ _ _ _ _ _ _ (hx.below hb0) (ho.below hb0) hv).mono ?_
  rintro e w1 ⟨rfl, b1⟩
  have b1 := bt hb0 b1
  generalize hE : vld i st nx ot = E at hv
  have HE := Lib.hid hE
  clear hv hE
  go_wp2
  go_ret2
  exact ⟨by rw [HE.out]; rfl, b1⟩
set_option maxHeartbeats 1000000 in
theorem pcls_ok (i st n : Nat) (A B : Option Addr) (c d : Nat) (nx ot : List (List Int)) (w : World) (hx : Lists w A n nx) (ho : Lists w B n ot) (hM : Mok i st n nx ot) :
    Calls Try.prog 34 #[.agg #[.int .i64 i, .int .i64 st, .slice A n c, .slice B n d]] w fun e w' => ∃ A' c', e = .returned (.tuple #[.slice A' n c', .int .i64 0]) ∧ Owned w' w.heap.size (.slice A' n c') (zs (pt nx ot i n (dep nx ot i n))) ∧ Below w.heap.size w w' := by
  have hb0 := alloc_below w (.cells #[.int .i64 i, .int .i64 st, .slice A n c, .slice B n d] 24)
  have HR := Lib.hid (rounds_max hM)
  go_enter Try.func34, Try.ntmps34
  go_wp2_with fail
  refine (ppart_ok i st n A B c d nx ot _ _ (hx.below hb0) (ho.below hb0) hM (by omega)).mono ?_
  rintro e w1 ⟨A', c', rfl, hO, b1⟩
  rw [HR.out] at hO
  have HO := Lib.hid (hO.lower (base' := w.heap.size) hb0.size)
  have b1 := bt hb0 b1
  clear hO
  go_wp2
  go_ret2
  exact ⟨A', c', rfl, HO.out, b1⟩
end Go.Proofs.Ytdedgpgdmnfijaa
end

section
/- Min and Minimal. -/
namespace Go.Proofs.Ytdedgpgdmnfijaa
open Go.RowKit

set_option maxHeartbeats 2000000 in
theorem pmin_bad (i st : Int) (A B : Option Addr) (n c m d : Nat) (nx ot : List (List Int)) (w : World) (hx : Lists w A n nx) (ho : Lists w B m ot) (hv : ¬ vld i st nx ot = 0) :
    Calls Try.prog 14 #[.agg #[.int .i64 i, .int .i64 st, .slice A n c, .slice B m d]] w fun e w' => e = .returned (.tuple #[.agg #[.int .i64 0, .int .i64 0, .slice none 0 0, .slice none 0 0], .int .i64 (vld i st nx ot)]) ∧ Below w.heap.size w w' := by
  have hb0 := alloc_below w (.cells #[.int .i64 i, .int .i64 st, .slice A n c, .slice B m d] 24)
  have hb1 := bt hb0 (alloc_below (w.alloc (.cells #[.int .i64 i, .int .i64 st, .slice A n c, .slice B m d] 24)) (.cells #[.int .i64 0, .int .i64 0, .slice none 0 0, .slice none 0 0] 24))
  have hne : (vld i st nx ot != 0) = true := by simpa using hv
  go_enter Try.func14, Try.ntmps14
  go_wp2_with fail
  refine (pcls_bad _ _ _ _ _ _ _ _ _ _ _ (hx.below hb1) (ho.below hb1) hv).mono ?_
  rintro e w1 ⟨rfl, b1⟩
  have hR : Mblk w1 (w.heap.size + 1) (.int .i64 0) (.int .i64 0) (.slice none 0 0) (.slice none 0 0) := by
    refine Mblk.kept ?_ b1 (by simp)
    have := heap_alloc_new (w.alloc (.cells #[.int .i64 i, .int .i64 st, .slice A n c, .slice B m d] 24)) (.cells #[.int .i64 0, .int .i64 0, .slice none 0 0, .slice none 0 0] 24)
    simpa [Mblk] using this
  obtain ⟨c0, c1, c2, c3, f0, f1, f2, f3⟩ := hR.cells
  have HR := Lib.hid hR
  generalize hE : vld i st nx ot = E at hne hv
  have HE := Lib.hid hE
  clear hv hR hE
  go_wp2
  (try simp only [Exit.inBlock, Exit.then])
  refine bodyPost_ret (results_mealy rfl _ _ (w.heap.size + 1) (.int .i64 0) (.int .i64 0) (.slice none 0 0) (.slice none 0 0) rfl (HR.out.set4 _ _ _ _)) rfl ?_
  have hl : ∀ k, w.heap.size ≤ (⟨w.heap.size + 1, k, none⟩ : Addr).block := fun k => Nat.le_succ _
  exact ⟨by rw [HE.out]; rfl, (((((bt hb1 b1).setCell (hl 0) _).setCell (hl 1) _).setCell (hl 2) _).setCell (hl 3) _)⟩
set_option maxHeartbeats 2000000 in
theorem pmin_ok (i st n : Nat) (A B : Option Addr) (c d : Nat) (nx ot : List (List Int)) (w : World) (hx : Lists w A n nx) (ho : Lists w B n ot) (hM : Mok i st n nx ot) :
    Calls Try.prog 14 #[.agg #[.int .i64 i, .int .i64 st, .slice A n c, .slice B n d]] w fun e w' => ∃ A' c' B' d',
      e = .returned (.tuple #[.agg #[.int .i64 i, .int .i64 0, .slice A' (mnR nx ot i st n).length c', .slice B' (mnR nx ot i st n).length d'], .int .i64 0]) ∧
      OwnedL w' w.heap.size (.slice A' (mnR nx ot i st n).length c') (mnN nx ot i st n) ∧ OwnedL w' w.heap.size (.slice B' (mnR nx ot i st n).length d') (mnO nx ot i st n) ∧ Below w.heap.size w w' := by
  have hb0 := alloc_below w (.cells #[.int .i64 i, .int .i64 st, .slice A n c, .slice B n d] 24)
  have hb1 := bt hb0 (alloc_below (w.alloc (.cells #[.int .i64 i, .int .i64 st, .slice A n c, .slice B n d] 24)) (.cells #[.int .i64 0, .int .i64 0, .slice none 0 0, .slice none 0 0] 24))
  have hB := (mealy_box w (.int .i64 i) (.int .i64 st) (.slice A n c) (.slice B n d)).kept (alloc_below (w.alloc (.cells #[.int .i64 i, .int .i64 st, .slice A n c, .slice B n d] 24)) (.cells #[.int .i64 0, .int .i64 0, .slice none 0 0, .slice none 0 0] 24)) (by simp)
  have hR : Mblk ((w.alloc (.cells #[.int .i64 i, .int .i64 st, .slice A n c, .slice B n d] 24)).alloc (.cells #[.int .i64 0, .int .i64 0, .slice none 0 0, .slice none 0 0] 24)) (w.heap.size + 1) (.int .i64 0) (.int .i64 0) (.slice none 0 0) (.slice none 0 0) := by
    have := mealy_box (w.alloc (.cells #[.int .i64 i, .int .i64 st, .slice A n c, .slice B n d] 24)) (.int .i64 0) (.int .i64 0) (.slice none 0 0) (.slice none 0 0)
    simpa using this
  have HB := Lib.hid hB
  have HR := Lib.hid hR
  have HP := Lib.hid (show zs (pt nx ot i n (dep nx ot i n)) = zs (num (eqc nx ot i n) n) by rw [pt_num hM]; rfl)
  have hMq := hM.quot (eqc nx ot i n)
  have HE1 := Lib.hid (show mnR nx ot i st n = rch (qN nx i (eqc nx ot i n) n) i (nmb (eqc nx ot i n) st) from rfl)
  have HE2 := Lib.hid (show mnN nx ot i st n = trN (qN nx i (eqc nx ot i n) n) i (mnR nx ot i st n) from rfl)
  have HE3 := Lib.hid (show mnO nx ot i st n = trO (qO ot (eqc nx ot i n) n) (mnR nx ot i st n) from rfl)
  generalize eqc nx ot i n = f at HP hMq HE1 HE2 HE3
  clear hB hR
  go_enter Try.func14, Try.ntmps14
  go_wp2_with fail
  refine (pcls_ok _ _ _ _ _ _ _ _ _ _ (hx.below hb1) (ho.below hb1) hM).mono ?_
  rintro e w1 ⟨A1, c1, rfl, hO, b1⟩
  rw [HP.out] at hO
  have hI := Owned.ints hO (by rw [zs_len, num_len]; have := hM.n2; omega)
  obtain ⟨k0, k1, k2, k3, _⟩ := (HB.out.kept b1 (by simp; omega)).cells
  have HR1 := Lib.hid (HR.out.kept b1 (by simp))
  have b1 := bt hb1 b1
  clear hO
  go_wp2_with fail
  refine (pquot _ _ _ _ _ _ _ _ _ _ _ f _ (hx.below b1) (ho.below b1) hM hI).mono ?_
  rintro e w2 ⟨A2, c2, B2, d2, rfl, hN, hO, b2⟩
  have hLN := lists_ownedM hMq hN
  have hLO := lists_ownedO hMq hO
  have HR2 := Lib.hid (HR1.out.kept b2 (by have := b1.size; have h := heap_lt HR1.out; omega))
  have b2 := bt b1 b2
  clear k0 k1 k2 k3 hN hO hI
  go_wp2_with fail
  refine (ptrim_ok _ _ _ _ _ _ _ _ _ _ hLN hLO hMq).mono ?_
  rintro e w3 ⟨A3, c3, B3, d3, rfl, hN, hO, b3⟩
  rw [← HE1.out] at hN hO ⊢
  rw [← HE2.out] at hN
  rw [← HE3.out] at hO
  have hR3 := HR2.out.kept b3 (by have h := heap_lt HR2.out; omega)
  have hz2 := b2.size
  have b3 := bt b2 b3
  obtain ⟨y0, y1, y2, y3, z0, z1, z2, z3⟩ := hR3.cells
  have hl : ∀ k, w.heap.size ≤ (⟨w.heap.size + 1, k, none⟩ : Addr).block := fun k => Nat.le_succ _
  obtain ⟨L, hL⟩ : ∃ L, L = (mnR nx ot i st n).length := ⟨_, rfl⟩
  rw [← hL] at hN hO ⊢
  have HL := Lib.hid hL
  clear hL
  have hfb := Lib.hid (((((b3.setCell (hl 0) (.int .i64 i)).setCell (hl 1) (.int .i64 0)).setCell (hl 2) (.slice A3 L c3)).setCell (hl 3) (.slice B3 L d3)))
  have hR4 := Lib.hid (hR3.set4 (.int .i64 i) (.int .i64 0) (.slice A3 L c3) (.slice B3 L d3))
  have hq1 := hR3
  have hq2 : Mblk (w3.setCell ⟨w.heap.size + 1, 0, none⟩ (.int .i64 i)) (w.heap.size + 1) _ _ _ _ := heap_setCell_same w3 _ 0 _ _ _ hq1
  have hq3 : Mblk ((w3.setCell ⟨w.heap.size + 1, 0, none⟩ (.int .i64 i)).setCell ⟨w.heap.size + 1, 1, none⟩ (.int .i64 0)) (w.heap.size + 1) _ _ _ _ := heap_setCell_same _ _ 1 _ _ _ hq2
  have hq4 : Mblk (((w3.setCell ⟨w.heap.size + 1, 0, none⟩ (.int .i64 i)).setCell ⟨w.heap.size + 1, 1, none⟩ (.int .i64 0)).setCell ⟨w.heap.size + 1, 2, none⟩ (.slice A3 L c3)) (w.heap.size + 1) _ _ _ _ := heap_setCell_same _ _ 2 _ _ _ hq3
  have hN10 := Lib.hid (((((hN.offM hq1 (.int .i64 i) (j := 0)).offM hq2 (.int .i64 0) (j := 1)).offM hq3 (.slice A3 L c3) (j := 2)).offM hq4 (.slice B3 L d3) (j := 3)).lower (base' := w.heap.size) hz2)
  have hO10 := Lib.hid (((((hO.offM hq1 (.int .i64 i) (j := 0)).offM hq2 (.int .i64 0) (j := 1)).offM hq3 (.slice A3 L c3) (j := 2)).offM hq4 (.slice B3 L d3) (j := 3)).lower (base' := w.heap.size) hz2)
  clear hR3 hq1 hq2 hq3 hq4 hN hO hl
  go_wp2
  (try simp only [Exit.inBlock, Exit.then])
  refine bodyPost_ret (results_mealy rfl _ _ (w.heap.size + 1) _ _ _ _ rfl hR4.out) rfl ?_
  rw [← HL.out]
  exact ⟨A3, c3, B3, d3, rfl, hN10.out, hO10.out, hfb.out⟩
end Go.Proofs.Ytdedgpgdmnfijaa
end
