/- Lemmas of the proofs of this seat, of the parts Bisp, Dstq, Isoq, Reachr. Conditions: none. -/
import Derived.Test.YtdedgpgdmnfijaaNba
import Derived.Test.YtdedgpgdmnfijaaNbc
import Derived.Test.YtdedgpgdmnfijaaNbb
import Derived.Test.YtdedgpgdmnfijaaNbd
section
/- States with the same outputs. -/
namespace Go.Proofs.Ytdedgpgdmnfijaa

/-- A word over i symbols. -/
def Wd (i : Nat) (u : List Int) : Prop := ∀ x, x ∈ u → 0 ≤ x ∧ x < i
theorem Wd.nil (i : Nat) : Wd i [] := fun x h => by simp at h
theorem Wd.cons {i a : Nat} {u : List Int} (ha : a < i) (h : Wd i u) : Wd i ((a : Int) :: u) := fun x hx => by
  rcases List.mem_cons.1 hx with rfl | hx
  · omega
  · exact h x hx
theorem Wd.tail {i : Nat} {x : Int} {u : List Int} (h : Wd i (x :: u)) : Wd i u := fun y hy => h y (by simp [hy])
theorem Wd.head {i : Nat} {x : Int} {u : List Int} (h : Wd i (x :: u)) : ∃ a : Nat, x = a ∧ a < i := ⟨x.toNat, by have := h x (by simp); omega, by have := h x (by simp); omega⟩

/-- Two states have the same outputs for all words. -/
def Bis (i : Nat) (nx ot : List (List Int)) (s : Nat) (mx mt : List (List Int)) (t : Nat) : Prop := ∀ u, Wd i u → runO nx ot s u = runO mx mt t u
section
variable {i : Nat} {nx ot mx mt lx lt : List (List Int)} {s t r a : Nat}
theorem Bis.refl (i : Nat) (nx ot : List (List Int)) (s : Nat) : Bis i nx ot s nx ot s := fun _ _ => rfl
theorem Bis.symm (h : Bis i nx ot s mx mt t) : Bis i mx mt t nx ot s := fun u hu => (h u hu).symm
theorem Bis.trans (h : Bis i nx ot s mx mt t) (k : Bis i mx mt t lx lt r) : Bis i nx ot s lx lt r := fun u hu => (h u hu).trans (k u hu)
theorem Bis.out (h : Bis i nx ot s mx mt t) (ha : a < i) : oN ot s a = oN mt t a := by
  have := h [(a : Int)] ((Wd.nil i).cons ha)
  simpa [runO] using this
theorem Bis.next (h : Bis i nx ot s mx mt t) (ha : a < i) : Bis i nx ot (nN nx s a) mx mt (nN mx t a) := fun u hu => by
  have := h ((a : Int) :: u) (hu.cons ha)
  simp only [runO, Int.toNat_natCast, List.cons.injEq] at this
  exact this.2
end

end Go.Proofs.Ytdedgpgdmnfijaa
end

section
/- A distinguishing word is found just if the outputs differ. -/
namespace Go.Proofs.Ytdedgpgdmnfijaa

theorem fD_some {ot1 ot2 : List (List Int)} {e : Ent} {y : Nat} : ∀ {x : Nat}, fD ot1 ot2 e x = some y → y < x ∧ ¬ oN ot1 e.p y = oN ot2 e.q y ∧ ∀ a, a < y → oN ot1 e.p a = oN ot2 e.q a
  | 0, h => by simp [fD] at h
  | x + 1, h => by
    rw [fD] at h
    cases h1 : fD ot1 ot2 e x with
    | some z =>
      rw [h1] at h
      injection h with h
      subst h
      obtain ⟨a, b, c⟩ := fD_some h1
      exact ⟨by omega, b, c⟩
    | none =>
      rw [h1] at h
      by_cases h2 : oN ot1 e.p x = oN ot2 e.q x
      · simp [h2] at h
      · simp [h2] at h
        subst h
        exact ⟨by omega, h2, fD_none h1⟩
theorem runS_app (nx : List (List Int)) : ∀ (u v : List Int) (s : Nat), runS nx s (u ++ v) = runS nx (runS nx s u) v
  | [], _, _ => rfl
  | x :: u, v, s => by
    show runS nx (nN nx s x.toNat) (u ++ v) = _
    rw [runS_app nx u v]; rfl
theorem runO_app (nx ot : List (List Int)) : ∀ (u v : List Int) (s : Nat), runO nx ot s (u ++ v) = runO nx ot s u ++ runO nx ot (runS nx s u) v
  | [], _, _ => rfl
  | x :: u, v, s => by
    show oN ot s x.toNat :: runO nx ot (nN nx s x.toNat) (u ++ v) = _
    rw [runO_app nx ot u v]; rfl
theorem Wd.app {i : Nat} {u v : List Int} (h : Wd i u) (k : Wd i v) : Wd i (u ++ v) := fun x hx => (List.mem_append.1 hx).elim (h x) (k x)
theorem Wd.one {i a : Nat} (h : a < i) : Wd i [(a : Int)] := (Wd.nil i).cons h
/-- What the words of the entries do. -/
def Gd (nx1 nx2 ot1 ot2 : List (List Int)) (i s t : Nat) (e : Ent) : Prop := Wd i e.w ∧ runS nx1 s e.w = e.p ∧ runS nx2 t e.w = e.q ∧ runO nx1 ot1 s e.w = runO nx2 ot2 t e.w
section
variable {nx1 nx2 ot1 ot2 : List (List Int)} {i n m s t j : Nat} {E : List Ent} {e : Ent}
theorem Gd.next (h : Gd nx1 nx2 ot1 ot2 i s t e) {x : Nat} (hx : x < i) (ho : oN ot1 e.p x = oN ot2 e.q x) : Gd nx1 nx2 ot1 ot2 i s t (nxE nx1 nx2 j e x) := by
  obtain ⟨h1, h2, h3, h4⟩ := h
  refine ⟨h1.app (Wd.one hx), ?_, ?_, ?_⟩
  · show runS nx1 s (e.w ++ [(x : Int)]) = _
    rw [runS_app, h2]; rfl
  · show runS nx2 t (e.w ++ [(x : Int)]) = _
    rw [runS_app, h3]; rfl
  · show runO nx1 ot1 s (e.w ++ [(x : Int)]) = runO nx2 ot2 t (e.w ++ [(x : Int)])
    rw [runO_app, runO_app, h4, h2, h3]
    show _ ++ [oN ot1 e.p x] = _ ++ [oN ot2 e.q x]
    rw [ho]
theorem mem_addE {x : Ent} (h : x ∈ addE E e) : x ∈ E ∨ x = e := by
  unfold addE at h
  split at h
  · exact .inl h
  · rcases List.mem_append.1 h with h | h
    · exact .inl h
    · simp at h; exact .inr h
theorem Gd.addS (hE : ∀ x, x ∈ E → Gd nx1 nx2 ot1 ot2 i s t x) (he : Gd nx1 nx2 ot1 ot2 i s t e) : ∀ x, x ≤ i → (∀ a, a < x → oN ot1 e.p a = oN ot2 e.q a) → ∀ y, y ∈ _root_.Go.Proofs.Ytdedgpgdmnfijaa.addS nx1 nx2 j e E x → Gd nx1 nx2 ot1 ot2 i s t y
  | 0, _, _, y, hy => hE y hy
  | x + 1, hx, ho, y, hy => by
    rcases mem_addE hy with hy | rfl
    · exact Gd.addS hE he x (by omega) (fun a ha => ho a (by omega)) y hy
    · exact he.next (by omega) (ho x (by omega))
theorem srch_sound {v : List Int} : ∀ (k : Nat) (E : List Ent) (j : Nat), (∀ x, x ∈ E → Gd nx1 nx2 ot1 ot2 i s t x) → srch nx1 nx2 ot1 ot2 i k E j = some v →
    ∃ w x, v = w ++ [((x : Nat) : Int)] ∧ x < i ∧ Wd i w ∧ runO nx1 ot1 s w = runO nx2 ot2 t w ∧ ¬ oN ot1 (runS nx1 s w) x = oN ot2 (runS nx2 t w) x
  | 0, _, _, _, h => by simp [srch] at h
  | k + 1, E, j, hE, h => by
    rw [srch] at h
    by_cases hj : j < E.length
    · rw [if_pos hj] at h
      have he := hE _ (getDE_mem hj)
      cases hd : fD ot1 ot2 (E.getD j Ent.zero) i with
      | some x =>
        rw [hd] at h
        injection h with h
        obtain ⟨h1, h2, _⟩ := fD_some hd
        obtain ⟨g1, g2, g3, g4⟩ := he
        exact ⟨_, x, h.symm, h1, g1, g4, by rw [g2, g3]; exact h2⟩
      | none =>
        rw [hd] at h
        exact srch_sound k _ _ (fun y hy => Gd.addS hE he i (Nat.le_refl _) (fD_none hd) y hy) h
    · rw [if_neg hj] at h; exact absurd h (by simp)
theorem dst_sound {v : List Int} (h : dst nx1 ot1 nx2 ot2 i n m s t = some v) :
    ∃ w x, v = w ++ [((x : Nat) : Int)] ∧ x < i ∧ Wd i w ∧ runO nx1 ot1 s w = runO nx2 ot2 t w ∧ ¬ oN ot1 (runS nx1 s w) x = oN ot2 (runS nx2 t w) x := by
  refine srch_sound _ _ _ (fun x hx => ?_) h
  simp at hx
  subst hx
  exact ⟨Wd.nil i, rfl, rfl, rfl⟩
theorem dst_not {v : List Int} (h : dst nx1 ot1 nx2 ot2 i n m s t = some v) : ¬ Bis i nx1 ot1 s nx2 ot2 t := fun hb => by
  obtain ⟨w, x, _, hx, hw, _, hd⟩ := dst_sound h
  have h1 := hb (w ++ [(x : Int)]) (hw.app (Wd.one hx))
  rw [runO_app, runO_app, hb w hw] at h1
  have h2 := List.append_cancel_left h1
  simp only [runO, Int.toNat_natCast, List.cons.injEq] at h2
  exact hd h2.1
theorem hasE_mono {E T : List Ent} {p q : Nat} (h : hasE E p q) : hasE (E ++ T) p q := by unfold hasE at h ⊢; rw [List.map_append]; exact List.mem_append.2 (.inl h)
theorem addS_has (j : Nat) (e : Ent) (E : List Ent) : ∀ x y, y < x → hasE (_root_.Go.Proofs.Ytdedgpgdmnfijaa.addS nx1 nx2 j e E x) (nN nx1 e.p y) (nN nx2 e.q y)
  | 0, y, h => absurd h (by omega)
  | x + 1, y, h => by
    show hasE (addE (_root_.Go.Proofs.Ytdedgpgdmnfijaa.addS nx1 nx2 j e E x) (nxE nx1 nx2 j e x)) _ _
    by_cases e1 : y = x
    · subst e1
      by_cases h2 : hasE (_root_.Go.Proofs.Ytdedgpgdmnfijaa.addS nx1 nx2 j e E y) (nN nx1 e.p y) (nN nx2 e.q y)
      · rw [addE_in h2]; exact h2
      · rw [addE_out (e := nxE nx1 nx2 j e y) h2]
        unfold hasE
        rw [List.map_append]
        exact List.mem_append.2 (.inr (by simp [Ent.pr, nxE]))
    · have ih := addS_has j e E x y (by omega)
      unfold addE
      split
      · exact ih
      · exact hasE_mono ih
/-- An entry whose pairs behind have been found, and whose outputs are equal. -/
def Cl (nx1 nx2 ot1 ot2 : List (List Int)) (i : Nat) (E : List Ent) (e : Ent) : Prop := ∀ x, x < i → oN ot1 e.p x = oN ot2 e.q x ∧ hasE E (nN nx1 e.p x) (nN nx2 e.q x)
theorem srch_closed {st1 st2 : Nat} (hM : Mok i st1 n nx1 ot1) (hN : Mok i st2 m nx2 ot2) : ∀ (k : Nat) (E : List Ent) (j : Nat), Ens n m s t E → j ≤ E.length → n * m ≤ k + j → (∀ a, a < j → Cl nx1 nx2 ot1 ot2 i E (E.getD a Ent.zero)) → srch nx1 nx2 ot1 ot2 i k E j = none →
    ∃ F, Ens n m s t F ∧ ∀ a, a < F.length → Cl nx1 nx2 ot1 ot2 i F (F.getD a Ent.zero)
  | 0, E, j, hE, hj, hk, hc, _ => by
    have := hE.len
    exact ⟨E, hE, fun a ha => hc a (by omega)⟩
  | k + 1, E, j, hE, hj, hk, hc, h => by
    rw [srch] at h
    by_cases hl : j < E.length
    · rw [if_pos hl] at h
      cases hd : fD ot1 ot2 (E.getD j Ent.zero) i with
      | some x => rw [hd] at h; exact absurd h (by simp)
      | none =>
        rw [hd] at h
        have hE2 := addS_ens hM hN hE hl i (Nat.le_refl _)
        obtain ⟨T, hT⟩ := addS_pre (nx1 := nx1) (nx2 := nx2) j (E.getD j Ent.zero) E i
        have hle : E.length ≤ (_root_.Go.Proofs.Ytdedgpgdmnfijaa.addS nx1 nx2 j (E.getD j Ent.zero) E i).length := by rw [hT, List.length_append]; omega
        refine srch_closed hM hN k _ _ hE2 (by omega) (by omega) (fun a ha => ?_) h
        have hg : (_root_.Go.Proofs.Ytdedgpgdmnfijaa.addS nx1 nx2 j (E.getD j Ent.zero) E i).getD a Ent.zero = E.getD a Ent.zero := by rw [hT, getDE_pre (by omega)]
        rw [hg]
        by_cases ha2 : a = j
        · subst ha2
          exact fun x hx => ⟨fD_none hd x hx, addS_has a _ E i x hx⟩
        · intro x hx
          obtain ⟨c1, c2⟩ := hc a (by omega) x hx
          exact ⟨c1, by rw [hT]; exact hasE_mono c2⟩
    · exact ⟨E, hE, fun a ha => hc a (by omega)⟩
theorem hasE_get {E : List Ent} {p q : Nat} (h : hasE E p q) : ∃ a, a < E.length ∧ (E.getD a Ent.zero).p = p ∧ (E.getD a Ent.zero).q = q := by
  unfold hasE at h
  obtain ⟨e, he, e2⟩ := List.mem_map.1 h
  obtain ⟨a, ha, rfl⟩ := List.getElem_of_mem he
  refine ⟨a, ha, ?_⟩
  rw [List.getD_eq_getElem?_getD, List.getElem?_eq_getElem ha]
  unfold Ent.pr at e2
  injection e2 with e3 e4
  exact ⟨e3, e4⟩
theorem closed_bis {F : List Ent} (h : ∀ a, a < F.length → Cl nx1 nx2 ot1 ot2 i F (F.getD a Ent.zero)) : ∀ (u : List Int) (a : Nat), a < F.length → Wd i u → runO nx1 ot1 (F.getD a Ent.zero).p u = runO nx2 ot2 (F.getD a Ent.zero).q u
  | [], _, _, _ => rfl
  | x :: u, a, ha, hu => by
    obtain ⟨y, rfl, hy⟩ := hu.head
    obtain ⟨c1, c2⟩ := h a ha y hy
    obtain ⟨b, hb, e1, e2⟩ := hasE_get c2
    have ih := closed_bis h u b hb hu.tail
    rw [e1, e2] at ih
    simp only [runO, Int.toNat_natCast]
    rw [c1, ih]
theorem dst_none {st1 st2 : Nat} (hM : Mok i st1 n nx1 ot1) (hN : Mok i st2 m nx2 ot2) (hs : s < n) (ht : t < m) : dst nx1 ot1 nx2 ot2 i n m s t = none ↔ Bis i nx1 ot1 s nx2 ot2 t := by
  constructor
  · intro h
    obtain ⟨F, hF, hc⟩ := srch_closed hM hN _ _ 0 (Ens.one hs ht) (Nat.zero_le _) (by omega) (fun a ha => absurd ha (by omega)) h
    intro u hu
    have h1 := closed_bis hc u 0 hF.ne hu
    rw [hF.z.1, hF.z.2.1] at h1
    exact h1
  · intro hb
    cases h : dst nx1 ot1 nx2 ot2 i n m s t with
    | none => rfl
    | some v => exact absurd hb (dst_not h)
end
end Go.Proofs.Ytdedgpgdmnfijaa
end

section
/- What Iso says, and what it says of minimal machines. -/
namespace Go.Proofs.Ytdedgpgdmnfijaa

section
variable {i s1 s2 n m : Nat} {nx1 ot1 nx2 ot2 : List (List Int)}
theorem isoC_bis (hM : Mok i s1 n nx1 ot1) (hN : Mok i s2 m nx2 ot2) (h : isoC i nx1 ot1 s1 n nx2 ot2 s2 m) : Bis i nx1 ot1 s1 nx2 ot2 s2 := fun u hu => by
  have r1 := tr_run hM u s1 (st_mem nx1 i s1) hu
  have r2 := tr_run hN u s2 (st_mem nx2 i s2) hu
  rw [ixN_st] at r1 r2
  rw [← r1, ← r2, h.2.2.1, h.2.2.2]
/-- A truth value for 'the outputs are the same'. -/
theorem bis_bool (i : Nat) (nx1 ot1 : List (List Int)) (s : Nat) (nx2 ot2 : List (List Int)) (t : Nat) : ∃ b : Bool, b = true ↔ Bis i nx1 ot1 s nx2 ot2 t := ⟨@decide (Bis i nx1 ot1 s nx2 ot2 t) (Classical.propDecidable _), @decide_eq_true_iff _ (Classical.propDecidable _)⟩
theorem dst_val {s t : Nat} (hM : Mok i s1 n nx1 ot1) (hN : Mok i s2 m nx2 ot2) (hs : s < n) (ht : t < m) {b : Bool} (hb : b = true ↔ Bis i nx1 ot1 s nx2 ot2 t) : (dst nx1 ot1 nx2 ot2 i n m s t).isSome = !b := by
  have h := dst_none hM hN hs ht
  cases hd : dst nx1 ot1 nx2 ot2 i n m s t with
  | none => rw [hb.2 (h.1 hd)]; rfl
  | some v =>
    cases b with
    | false => rfl
    | true => rw [h.2 (hb.1 rfl)] at hd; exact absurd hd (by simp)
theorem dst_pos {s t : Nat} {v : List Int} (h : dst nx1 ot1 nx2 ot2 i n m s t = some v) : 0 < v.length := by
  obtain ⟨w, x, rfl, _⟩ := dst_sound h
  rw [List.length_append]
  show 0 < _ + 1
  omega
theorem dres_ok (hM : Mok i s1 n nx1 ot1) (hN : Mok i s2 m nx2 ot2) : dres i s1 nx1 ot1 i s2 nx2 ot2 = (dst nx1 ot1 nx2 ot2 i n m s1 s2, 0) := by
  have hc : chk2 i s1 nx1 ot1 i s2 nx2 ot2 = 0 := by unfold chk2; rw [if_neg (by simp [hM.vld]), if_neg (by simp [hN.vld]), if_pos rfl]
  unfold dres
  rw [if_pos hc, hM.nxl, hN.nxl]
  rfl
theorem ires_ok (hM : Mok i s1 n nx1 ot1) (hN : Mok i s2 m nx2 ot2) : ires i s1 nx1 ot1 i s2 nx2 ot2 = (if isoC i nx1 ot1 s1 n nx2 ot2 s2 m then some (isoL (rch nx1 i s1) (rch nx2 i s2) n) else none, 0) := by
  have hc : chk2 i s1 nx1 ot1 i s2 nx2 ot2 = 0 := by unfold chk2; rw [if_neg (by simp [hM.vld]), if_neg (by simp [hN.vld]), if_pos rfl]
  unfold ires
  rw [if_pos hc, hM.nxl, hN.nxl]
  rfl
theorem sres_ok {s t : Nat} (hM : Mok i s1 n nx1 ot1) (hs : s < n) (ht : t < n) : sres i s1 nx1 ot1 s t = (dst nx1 ot1 nx1 ot1 i n n s t, 0) := by
  unfold sres
  rw [if_neg (by simp [hM.vld]), if_pos (by rw [hM.nxl]; omega), hM.nxl]
  rfl
end
end Go.Proofs.Ytdedgpgdmnfijaa
end

section
/- The reference: has, index, Reach. -/
namespace Go.Proofs.Ytdedgpgdmnfijaa
open Go.RowKit

theorem mem_take_succ {xs : List Int} {j : Nat} {v : Int} (h : ∀ m, m < j → xs.getD m 0 ≠ v) (h2 : xs.getD j 0 ≠ v) : ∀ m, m < j + 1 → xs.getD m 0 ≠ v := fun m hm => by
  by_cases e : m = j
  · subst e; exact h2
  · exact h m (by omega)

set_option maxRecDepth 100000 in
theorem rhas (A : Option Addr) (n c : Nat) (xs : List Int) (v : Int) (b : Bool) (w : World) (hx : Ints w A n xs) (hb : b = decide (v ∈ xs)) :
    Calls Try.prog 55 #[.slice A n c, .int .i64 v] w fun e w' => e = .returned (.bool b) ∧ ∃ q, w' = w.drewN q := by
  have L := Lib.hid hx.1
  have hn := hx.2.1
  have HB := Lib.hid hb
  clear hb
  go_enter Try.func55, Try.ntmps55
  go_wp2
  go_loop [5] (fun jv => ∃ j : Nat, j ≤ n ∧ jv = .int .i64 j ∧ ∀ m, m < j → xs.getD m 0 ≠ v) (fun jv => n - (intOf jv).toNat)
  case atStart => exact ⟨0, Nat.zero_le _, rfl, fun m h => absurd h (by omega)⟩
  case round =>
    obtain ⟨j, hj, rfl, hall⟩ := hrel
    have HA := Lib.hid hall
    clear hall
    by_cases hlt : j < n
    · obtain ⟨g, o, rfl, _, hcell⟩ := hx.at_ (k := j) hlt
      by_cases he : xs.getD j 0 = v
      · have hfin := Lib.hid (HB.out.trans (decide_eq_true (show v ∈ xs by rw [← he, List.getD_eq_getElem?_getD, List.getElem?_eq_getElem (by rw [L.out]; exact hlt)]; exact List.getElem_mem _)))
        rw [he] at hcell
        clear he
        go_wp2
        go_ret
        exact ⟨ret_bool hfin.out.symm, 0, rfl⟩
      · have hnx := Lib.hid (mem_take_succ HA.out he)
        have hd : (xs.getD j 0 == v) = false := beq_false_of_ne he
        generalize xs.getD j 0 = x at hcell hd
        clear he
        go_wp2
        go_round
        case rel => exact ⟨j + 1, by omega, by go_num, hnx.out⟩
        case measure => simp [intOf]; omega
    · obtain rfl : j = n := by omega
      have hfin := Lib.hid (HB.out.trans (decide_eq_false (fun hm => by
        obtain ⟨m, hm, e⟩ := List.getElem_of_mem hm
        exact HA.out m (by rw [← L.out]; exact hm) (by rw [List.getD_eq_getElem?_getD, List.getElem?_eq_getElem hm]; exact e))))
      go_wp2
      go_ret
      exact ⟨ret_bool hfin.out.symm, 0, rfl⟩

theorem rreach_bad (i st : Int) (A B : Option Addr) (n c m d : Nat) (nx ot : List (List Int)) (w : World) (hx : Lists w A n nx) (ho : Lists w B m ot) (hv : ¬ vld i st nx ot = 0) :
    Calls Try.prog 36 #[.agg #[.int .i64 i, .int .i64 st, .slice A n c, .slice B m d]] w fun e w' => e = .returned (.slice none 0 0) ∧ Below w.heap.size w w' := by
  have hb0 := alloc_below w (.cells #[.int .i64 i, .int .i64 st, .slice A n c, .slice B m d] 24)
  have hne : (vld i st nx ot != 0) = true := by simpa using hv
  go_enter Try.func36, Try.ntmps36
  go_wp2_with fail
  refine (rvalid _ _ _ _ _ _ _ _ _ _ _ (hx.below hb0) (ho.below hb0)).mono ?_
  rintro e w1 ⟨rfl, b1⟩
  have hbb := bt hb0 b1
  generalize vld i st nx ot = V at hne
  clear hb0 b1
  go_wp2
  go_ret
  exact ⟨rfl, hbb⟩

set_option maxHeartbeats 4000000 in
set_option maxRecDepth 100000 in
theorem rreach_ok (i st n : Nat) (A B : Option Addr) (c d : Nat) (nx ot : List (List Int)) (w : World) (hx : Lists w A n nx) (ho : Lists w B n ot) (hM : Mok i st n nx ot) :
    Calls Try.prog 36 #[.agg #[.int .i64 i, .int .i64 st, .slice A n c, .slice B n d]] w fun e w' => ∃ A' c', e = .returned (.slice A' (rch nx i st).length c') ∧ Owned w' w.heap.size (.slice A' (rch nx i st).length c') (zs (rch nx i st)) ∧ Below w.heap.size w w' := by
  have HV := Lib.hid hM.vld
  have hn := hx.2.1
  have hst := hM.st
  have hn128 := hM.n2
  have hb0 := alloc_below w (.cells #[.int .i64 i, .int .i64 st, .slice A n c, .slice B n d] 24)
  have HZ := Lib.hid (show (w.alloc (.cells #[.int .i64 i, .int .i64 st, .slice A n c, .slice B n d] 24)).heap.size = w.heap.size + 1 by simp)
  obtain ⟨R, hR⟩ : ∃ R, R = rch nx i st := ⟨_, rfl⟩
  have HR := Lib.hid (hR.trans (show rch nx i st = bfs nx i n [st] 0 by unfold rch; rw [hM.nxl]))
  rw [← hR]
  clear hR
  go_enter Try.func36, Try.ntmps36
  go_wp2_with fail
  refine (rvalid _ _ _ _ _ _ _ _ _ _ _ (hx.below hb0) (ho.below hb0)).mono ?_
  rintro e w1 ⟨rfl, b1⟩
  rw [HZ.out] at b1
  rw [HV.out]
  obtain ⟨k0, k1, k2, k3⟩ := box4 b1
  have hl0 : Owned (w1.alloc (.cells #[.int .i64 st] 3)) (w.heap.size + 1) (.slice (some ⟨w1.heap.size, 0, none⟩) 1 1) (zs [st]) := Owned.literal w1 _ [(st : Int)] _ 1 (by have := b1.size; simpa using this) rfl rfl (by simp)
  have hz2 : w.heap.size + 1 ≤ w1.heap.size := by have := b1.size; simpa using this
  have bw1 := b1.trans ((alloc_below w1 (.cells #[.int .i64 st] 3)).mono hz2)
  have HL0 := Lib.hid hl0
  clear hl0 b1
  go_wp2
  clear k0 k1 k2 k3
  generalize w1.alloc (.cells #[.int .i64 st] 3) = w2 at HL0 bw1 ⊢
  go_loopw [3, 4] (fun v jv wr => ∃ (l : List Nat) (j : Nat) (A' : Option Addr) (c' : Nat), j ≤ l.length ∧ jv = .int .i64 j ∧ v = .slice A' l.length c' ∧ Stt n l ∧ R = bfs nx i n l j ∧ Owned wr (w.heap.size + 1) (.slice A' l.length c') (zs l) ∧ Below (w.heap.size + 1) (w.alloc (.cells #[.int .i64 i, .int .i64 st, .slice A n c, .slice B n d] 24)) wr) (fun _ jv _ => n - (intOf jv).toNat)
  case atStart => exact ⟨[st], 0, _, 1, Nat.zero_le _, rfl, rfl, Stt.one hst, HR.out, HL0.out, bw1⟩
  case round =>
    obtain ⟨l, j, A', c', hj, rfl, rfl, hS, hB, hown, hbr⟩ := hrel
    have HB := Lib.hid hB
    clear hB
    have hll := hS.len
    by_cases hlt : j < l.length
    · have hjn : j < n := by omega
      have hs : l.getD j 0 < n := hS.2 _ (getD_mem hlt)
      have HNX := Lib.hid (bfs_on hM hS hlt)
      have HAT := Lib.hid (fun a => addR_at (nx := nx) (s := l.getD j 0) hlt a)
      generalize l.getD j 0 = s at hs HNX HAT
      obtain ⟨g1, p1, A1, n1, c1, rfl, hg1, hd1, hr1⟩ := hx.at_ hs
      have hi1 := (hM.row s hs).1
      have hl1 := hr1.1
      obtain rfl : n1 = i := by omega
      have hi64 := hM.i2
      clear hl1 hi1
      have HOW := Lib.hid hown
      have HBR := Lib.hid hbr
      clear hown hbr
      go_wp2
      obtain ⟨wo, rfl⟩ : ∃ wo : World, wo = wr := ⟨_, rfl⟩
      go_loopw [3, 5] (fun v av wq => ∃ (a : Nat) (A2 : Option Addr) (c2 : Nat), a ≤ n1 ∧ av = .int .i64 a ∧ v = .slice A2 (addR nx s l a).length c2 ∧ Owned wq (w.heap.size + 1) (.slice A2 (addR nx s l a).length c2) (zs (addR nx s l a)) ∧ Below (w.heap.size + 1) (w.alloc (.cells #[.int .i64 n1, .int .i64 st, .slice (some ⟨g1, p1, none⟩) n c, .slice B n d] 24)) wq) (fun _ av _ => n1 - (intOf av).toNat)
      case atStart => exact ⟨0, _, _, Nat.zero_le _, rfl, rfl, HOW.out, HBR.out⟩
      case round =>
        obtain ⟨a, A2, c2, ha, rfl, rfl, hown, hbr⟩ := hrel
        have hSa := addR_stt hM hS hs a ha
        have hbw := hb0.trans (hbr.mono (Nat.le_succ _))
        have hal := addR_len (nx := nx) (s := s) (l := l) a
        obtain ⟨k0, k1, k2, k3⟩ := box4 hbr
        have hj2 := HAT.out a
        by_cases hla : a < n1
        · obtain ⟨g3, p3, rfl, hg3, hy1⟩ := hr1.at_ hla
          rw [hM.nN_eq hs hla] at hy1
          have ht := hM.nN_lt hs hla
          have hIn := Lib.hid (fun h => addR_in (nx := nx) (s := s) (a := a) (l := l) h)
          have hOut := Lib.hid (fun h => addR_out (nx := nx) (s := s) (a := a) (l := l) h)
          generalize nN nx s a = t at hy1 ht hIn hOut
          have e1 := (hbw.cell (p := ⟨g1, p1 + s, none⟩) hg1).trans hd1
          have e3 := (hbw.cell (p := ⟨g3, p3 + a, none⟩) hg3).trans hy1
          clear hy1
          generalize addR nx s l a = l' at hown hSa hIn hOut hal hj2
          have hll' := hSa.len
          have hint := hown.ints (by rw [zs_len]; omega)
          have hjl : j < l'.length := by omega
          have hjl2 : (j : Int) < (l'.length : Int) := by omega
          obtain ⟨b4, o4, rfl, hb4, hc4⟩ := hint.at_ (k := j) (by omega)
          rw [zs_at, hj2] at hc4
          have HOW := Lib.hid hown
          have HBR := Lib.hid hbr
          clear hown
          by_cases hm : t ∈ l'
          · have hnx := Lib.hid (hIn.out hm)
            have HH := Lib.hid (show true = decide ((t : Int) ∈ zs l') from (decide_eq_true (mem_zs.2 hm)).symm)
            clear hIn hOut hm hbr
            go_wp2
            go_quiet ((go_at_call 55; exact Calls.quiet_of (rhas _ _ _ _ _ _ _ hint HH.out)))
            go_wp2
            go_roundw
            case rel => exact ⟨a + 1, _, c2, by omega, by go_num, by rw [hnx.out], by rw [hnx.out]; exact HOW.out, below_drewN HBR.out _⟩
            case measure => simp [intOf]; omega
          · have hnx := Lib.hid (hOut.out hm)
            have HH := Lib.hid (show false = decide ((t : Int) ∈ zs l') from (decide_eq_false (fun h => hm (mem_zs.1 h))).symm)
            have hsz : w.heap.size + 1 ≤ wr.heap.size := by have := hbr.size; simpa using this
            obtain ⟨F, hF⟩ := app_all HOW.out (t : Int) hsz (by rw [zs_len]; omega)
            have hz : zs l' ++ [(t : Int)] = zs (l' ++ [t]) := by rw [zs_append, zs_one]
            rw [hz] at hF
            have HF := Lib.hid hF
            have HL := Lib.hid (show (l' ++ [t]).length = l'.length + 1 by simp)
            clear hIn hOut hm hbr hF hz
            go_wp2
            go_quiet ((go_at_call 55; exact Calls.quiet_of (rhas _ _ _ _ _ _ _ hint HH.out)))
            go_wp2
            go_region_law (refine step_append_run rfl _ _ _ _ rfl _ _ rfl rfl _ _ (HF.out _).1 ?_)
            all_goals
              go_wp2
              go_roundw
              case rel => exact ⟨a + 1, _, _, by omega, by go_num, by rw [hnx.out, HL.out], by rw [hnx.out, HL.out]; exact (HF.out _).2.1, HBR.out.trans (HF.out _).2.2⟩
              case measure => simp [intOf]; omega
        · obtain rfl : a = n1 := by omega
          have HX := Lib.hid (HB.out.trans HNX.out.symm)
          generalize addR nx s l a = l' at hown hSa hal hj2 HX
          have HOW := Lib.hid hown
          clear hown hj2
          go_wp2
          go_roundw
          case rel => exact ⟨l', j + 1, A2, c2, by omega, by go_num, rfl, hSa, HX.out, HOW.out, hbr⟩
          case measure => simp [intOf]; omega
    · have hfin := Lib.hid (HB.out.trans (bfs_end nx i n hlt))
      have HOW := Lib.hid hown
      have hbw := hb0.trans (hbr.mono (Nat.le_succ _))
      clear hown
      go_wp2
      go_ret
      exact ⟨A', c', by rw [hfin.out]; rfl, by rw [hfin.out]; exact Owned.lower HOW.out (Nat.le_succ _), hbw⟩
end Go.Proofs.Ytdedgpgdmnfijaa
end
