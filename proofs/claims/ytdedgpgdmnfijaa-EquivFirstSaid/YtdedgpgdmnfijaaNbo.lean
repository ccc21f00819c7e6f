/- Lemmas of the proofs of this seat, of the parts Gr9, Bisp, Dstq, Isoq, Cmpw, Dsto, Nmbp, Ptp, Qtp, Mnp, Canp, Dstl. Conditions: none. -/
import Derived.Test.YtdedgpgdmnfijaaNbb
import Derived.Test.YtdedgpgdmnfijaaNba
import Derived.Test.YtdedgpgdmnfijaaNbc
import Derived.Test.YtdedgpgdmnfijaaProg
import Derived.WalkSpells
import Derived.WalkLawsBesides
import Derived.Outline
import Derived.Deep.QuietTactic
import Derived.BigQuiet
section
/- Great of the laws of minimize, with what it says of the number of states. -/
namespace Go.Proofs.Ytdedgpgdmnfijaa
open Go.RowKit

def SomeN (n : Nat) (w : World) (e : Ending) (w' : World) : Prop := ∃ b : Bool, e = .returned (.bool b) ∧ (b = false → n ≤ 12) ∧ Below w.heap.size w w'
set_option maxHeartbeats 1000000 in
theorem rgreat9 (i st : Int) (A B : Option Addr) (n c m d : Nat) (nx ot : List (List Int)) (w : World) (hx : Lists w A n nx) (ho : Lists w B m ot) :
    Calls Try.prog 12 #[.agg #[.int .i64 i, .int .i64 st, .slice A n c, .slice B m d]] w (SomeN n w) := by
  have hb0 := alloc_below w (.cells #[.int .i64 i, .int .i64 st, .slice A n c, .slice B m d] 24)
  have hB := mealy_box w (.int .i64 i) (.int .i64 st) (.slice A n c) (.slice B m d)
  have hn := hx.2.1
  have hm := ho.2.1
  by_cases h1 : 12 < n
  · have d1 : decide ((12 : Int) < (n : Int)) = true := by simp; omega
    go_enter Try.func12, Try.ntmps12
    go_wp2
    go_ret
    exact ⟨true, rfl, (fun h => absurd h (by decide)), hb0⟩
  · have d1 : decide ((12 : Int) < (n : Int)) = false := by simp; omega
    have hn12 : n ≤ 12 := by omega
    by_cases h2 : 12 < m
    · have d2 : decide ((12 : Int) < (m : Int)) = true := by simp; omega
      go_enter Try.func12, Try.ntmps12
      go_wp2
      go_ret
      exact ⟨_, rfl, fun _ => hn12, hb0⟩
    · have d2 : decide ((12 : Int) < (m : Int)) = false := by simp; omega
      by_cases h3 : 6 < i
      · have d3 : decide ((6 : Int) < i) = true := by simpa using h3
        go_enter Try.func12, Try.ntmps12
        go_wp2
        go_ret
        exact ⟨_, rfl, fun _ => hn12, hb0⟩
      · have d3 : decide ((6 : Int) < i) = false := by simpa using h3
        go_enter Try.func12, Try.ntmps12
        go_wp2
        generalize w.alloc (.cells #[.int .i64 i, .int .i64 st, .slice A n c, .slice B m d] 24) = w1 at hb0 hB ⊢
        obtain ⟨k0, k1, k2, k3, _⟩ := hB.cells
        clear hB d1 d2 d3
        go_loop [23] (fun kv => ∃ k : Nat, k ≤ n ∧ kv = .int .i64 k) (fun kv => n - (intOf kv).toNat)
        case atStart => exact ⟨0, Nat.zero_le _, rfl⟩
        case round =>
          obtain ⟨k, hk, rfl⟩ := hrel
          by_cases hlt : k < n
          · obtain ⟨g1, o1, A1, n1, c1, rfl, hg1, hd1, hr1⟩ := hx.at_ hlt
            have e1 := (hb0.cell (p := ⟨g1, o1 + k, none⟩) hg1).trans hd1
            clear hd1
            go_wp2
            · go_ret
              exact ⟨_, rfl, fun _ => hn12, hb0⟩
            · go_round
              case rel => exact ⟨k + 1, by omega, by go_num⟩
              case measure => simp [intOf]; omega
          · go_wp2
            go_loop [37] (fun kv => ∃ k : Nat, k ≤ m ∧ kv = .int .i64 k) (fun kv => m - (intOf kv).toNat)
            case atStart => exact ⟨0, Nat.zero_le _, rfl⟩
            case round =>
              obtain ⟨k, hk, rfl⟩ := hrel
              by_cases hlt : k < m
              · obtain ⟨g1, o1, A1, n1, c1, rfl, hg1, hd1, hr1⟩ := ho.at_ hlt
                have e1 := (hb0.cell (p := ⟨g1, o1 + k, none⟩) hg1).trans hd1
                clear hd1
                go_wp2
                · go_ret
                  exact ⟨_, rfl, fun _ => hn12, hb0⟩
                · go_round
                  case rel => exact ⟨k + 1, by omega, by go_num⟩
                  case measure => simp [intOf]; omega
              · go_wp2
                go_ret
                exact ⟨_, rfl, fun _ => hn12, hb0⟩
end Go.Proofs.Ytdedgpgdmnfijaa
end

section
/- States with the same outputs. -/
namespace Go.Proofs.Ytdedgpgdmnfijaa

/-- A word over i symbols. -/
def Wd (i : Nat) (u : List Int) : Prop := ∀ x, x ∈ u → 0 ≤ x ∧ x < i
theorem Wd.nil (i : Nat) : Wd i [] := fun x h => by simp at h
theorem Wd.cons {i a : Nat} {u : List Int} (ha : a < i) (h : Wd i u) : Wd i ((a : Int) :: u) := fun x hx => by
  rcases List.mem_cons.1 hx with rfl | hx
  · omega
  · exact h x hx
theorem Wd.tail {i : Nat} {x : Int} {u : List Int} (h : Wd i (x :: u)) : Wd i u := fun y hy => h y (by simp [hy])
theorem Wd.head {i : Nat} {x : Int} {u : List Int} (h : Wd i (x :: u)) : ∃ a : Nat, x = a ∧ a < i := ⟨x.toNat, by have := h x (by simp); omega, by have := h x (by simp); omega⟩

/-- Two states have the same outputs for all words. -/
def Bis (i : Nat) (nx ot : List (List Int)) (s : Nat) (mx mt : List (List Int)) (t : Nat) : Prop := ∀ u, Wd i u → runO nx ot s u = runO mx mt t u
section
variable {i : Nat} {nx ot mx mt lx lt : List (List Int)} {s t r a : Nat}
theorem Bis.refl (i : Nat) (nx ot : List (List Int)) (s : Nat) : Bis i nx ot s nx ot s := fun _ _ => rfl
theorem Bis.symm (h : Bis i nx ot s mx mt t) : Bis i mx mt t nx ot s := fun u hu => (h u hu).symm
theorem Bis.trans (h : Bis i nx ot s mx mt t) (k : Bis i mx mt t lx lt r) : Bis i nx ot s lx lt r := fun u hu => (h u hu).trans (k u hu)
theorem Bis.out (h : Bis i nx ot s mx mt t) (ha : a < i) : oN ot s a = oN mt t a := by
  have := h [(a : Int)] ((Wd.nil i).cons ha)
  simpa [runO] using this
theorem Bis.next (h : Bis i nx ot s mx mt t) (ha : a < i) : Bis i nx ot (nN nx s a) mx mt (nN mx t a) := fun u hu => by
  have := h ((a : Int) :: u) (hu.cons ha)
  simp only [runO, Int.toNat_natCast, List.cons.injEq] at this
  exact this.2
end

end Go.Proofs.Ytdedgpgdmnfijaa
end

section
/- A distinguishing word is found just if the outputs differ. -/
namespace Go.Proofs.Ytdedgpgdmnfijaa

theorem fD_some {ot1 ot2 : List (List Int)} {e : Ent} {y : Nat} : ∀ {x : Nat}, fD ot1 ot2 e x = some y → y < x ∧ ¬ oN ot1 e.p y = oN ot2 e.q y ∧ ∀ a, a < y → oN ot1 e.p a = oN ot2 e.q a
  | 0, h => by simp [fD] at h
  | x + 1, h => by
    rw [fD] at h
    cases h1 : fD ot1 ot2 e x with
    | some z =>
      rw [h1] at h
      injection h with h
      subst h
      obtain ⟨a, b, c⟩ := fD_some h1
      exact ⟨by omega, b, c⟩
    | none =>
      rw [h1] at h
      by_cases h2 : oN ot1 e.p x = oN ot2 e.q x
      · simp [h2] at h
      · simp [h2] at h
        subst h
        exact ⟨by omega, h2, fD_none h1⟩
theorem runS_app (nx : List (List Int)) : ∀ (u v : List Int) (s : Nat), runS nx s (u ++ v) = runS nx (runS nx s u) v
  | [], _, _ => rfl
  | x :: u, v, s => by
    show runS nx (nN nx s x.toNat) (u ++ v) = _
    rw [runS_app nx u v]; rfl
theorem runO_app (nx ot : List (List Int)) : ∀ (u v : List Int) (s : Nat), runO nx ot s (u ++ v) = runO nx ot s u ++ runO nx ot (runS nx s u) v
  | [], _, _ => rfl
  | x :: u, v, s => by
    show oN ot s x.toNat :: runO nx ot (nN nx s x.toNat) (u ++ v) = _
    rw [runO_app nx ot u v]; rfl
theorem Wd.app {i : Nat} {u v : List Int} (h : Wd i u) (k : Wd i v) : Wd i (u ++ v) := fun x hx => (List.mem_append.1 hx).elim (h x) (k x)
theorem Wd.one {i a : Nat} (h : a < i) : Wd i [(a : Int)] := (Wd.nil i).cons h
/-- What the words of the entries do. -/
def Gd (nx1 nx2 ot1 ot2 : List (List Int)) (i s t : Nat) (e : Ent) : Prop := Wd i e.w ∧ runS nx1 s e.w = e.p ∧ runS nx2 t e.w = e.q ∧ runO nx1 ot1 s e.w = runO nx2 ot2 t e.w
section
variable {nx1 nx2 ot1 ot2 : List (List Int)} {i n m s t j : Nat} {E : List Ent} {e : Ent}
theorem Gd.next (h : Gd nx1 nx2 ot1 ot2 i s t e) {x : Nat} (hx : x < i) (ho : oN ot1 e.p x = oN ot2 e.q x) : Gd nx1 nx2 ot1 ot2 i s t (nxE nx1 nx2 j e x) := by
  obtain ⟨h1, h2, h3, h4⟩ := h
  refine ⟨h1.app (Wd.one hx), ?_, ?_, ?_⟩
  · show runS nx1 s (e.w ++ [(x : Int)]) = _
    rw [runS_app, h2]; rfl
  · show runS nx2 t (e.w ++ [(x : Int)]) = _
    rw [runS_app, h3]; rfl
  · show runO nx1 ot1 s (e.w ++ [(x : Int)]) = runO nx2 ot2 t (e.w ++ [(x : Int)])
    rw [runO_app, runO_app, h4, h2, h3]
    show _ ++ [oN ot1 e.p x] = _ ++ [oN ot2 e.q x]
    rw [ho]
theorem mem_addE {x : Ent} (h : x ∈ addE E e) : x ∈ E ∨ x = e := by
  unfold addE at h
  split at h
  · exact .inl h
  · rcases List.mem_append.1 h with h | h
    · exact .inl h
    · simp at h; exact .inr h
theorem Gd.addS (hE : ∀ x, x ∈ E → Gd nx1 nx2 ot1 ot2 i s t x) (he : Gd nx1 nx2 ot1 ot2 i s t e) : ∀ x, x ≤ i → (∀ a, a < x → oN ot1 e.p a = oN ot2 e.q a) → ∀ y, y ∈ _root_.Go.Proofs.Ytdedgpgdmnfijaa.addS nx1 nx2 j e E x → Gd nx1 nx2 ot1 ot2 i s t y
  | 0, _, _, y, hy => hE y hy
  | x + 1, hx, ho, y, hy => by
    rcases mem_addE hy with hy | rfl
    · exact Gd.addS hE he x (by omega) (fun a ha => ho a (by omega)) y hy
    · exact he.next (by omega) (ho x (by omega))
theorem srch_sound {v : List Int} : ∀ (k : Nat) (E : List Ent) (j : Nat), (∀ x, x ∈ E → Gd nx1 nx2 ot1 ot2 i s t x) → srch nx1 nx2 ot1 ot2 i k E j = some v →
    ∃ w x, v = w ++ [((x : Nat) : Int)] ∧ x < i ∧ Wd i w ∧ runO nx1 ot1 s w = runO nx2 ot2 t w ∧ ¬ oN ot1 (runS nx1 s w) x = oN ot2 (runS nx2 t w) x
  | 0, _, _, _, h => by simp [srch] at h
  | k + 1, E, j, hE, h => by
    rw [srch] at h
    by_cases hj : j < E.length
    · rw [if_pos hj] at h
      have he := hE _ (getDE_mem hj)
      cases hd : fD ot1 ot2 (E.getD j Ent.zero) i with
      | some x =>
        rw [hd] at h
        injection h with h
        obtain ⟨h1, h2, _⟩ := fD_some hd
        obtain ⟨g1, g2, g3, g4⟩ := he
        exact ⟨_, x, h.symm, h1, g1, g4, by rw [g2, g3]; exact h2⟩
      | none =>
        rw [hd] at h
        exact srch_sound k _ _ (fun y hy => Gd.addS hE he i (Nat.le_refl _) (fD_none hd) y hy) h
    · rw [if_neg hj] at h; exact absurd h (by simp)
theorem dst_sound {v : List Int} (h : dst nx1 ot1 nx2 ot2 i n m s t = some v) :
    ∃ w x, v = w ++ [((x : Nat) : Int)] ∧ x < i ∧ Wd i w ∧ runO nx1 ot1 s w = runO nx2 ot2 t w ∧ ¬ oN ot1 (runS nx1 s w) x = oN ot2 (runS nx2 t w) x := by
  refine srch_sound _ _ _ (fun x hx => ?_) h
  simp at hx
  subst hx
  exact ⟨Wd.nil i, rfl, rfl, rfl⟩
theorem dst_not {v : List Int} (h : dst nx1 ot1 nx2 ot2 i n m s t = some v) : ¬ Bis i nx1 ot1 s nx2 ot2 t := fun hb => by
  obtain ⟨w, x, _, hx, hw, _, hd⟩ := dst_sound h
  have h1 := hb (w ++ [(x : Int)]) (hw.app (Wd.one hx))
  rw [runO_app, runO_app, hb w hw] at h1
  have h2 := List.append_cancel_left h1
  simp only [runO, Int.toNat_natCast, List.cons.injEq] at h2
  exact hd h2.1
theorem hasE_mono {E T : List Ent} {p q : Nat} (h : hasE E p q) : hasE (E ++ T) p q := by unfold hasE at h ⊢; rw [List.map_append]; exact List.mem_append.2 (.inl h)
theorem addS_has (j : Nat) (e : Ent) (E : List Ent) : ∀ x y, y < x → hasE (_root_.Go.Proofs.Ytdedgpgdmnfijaa.addS nx1 nx2 j e E x) (nN nx1 e.p y) (nN nx2 e.q y)
  | 0, y, h => absurd h (by omega)
  | x + 1, y, h => by
    show hasE (addE (_root_.Go.Proofs.Ytdedgpgdmnfijaa.addS nx1 nx2 j e E x) (nxE nx1 nx2 j e x)) _ _
    by_cases e1 : y = x
    · subst e1
      by_cases h2 : hasE (_root_.Go.Proofs.Ytdedgpgdmnfijaa.addS nx1 nx2 j e E y) (nN nx1 e.p y) (nN nx2 e.q y)
      · rw [addE_in h2]; exact h2
      · rw [addE_out (e := nxE nx1 nx2 j e y) h2]
        unfold hasE
        rw [List.map_append]
        exact List.mem_append.2 (.inr (by simp [Ent.pr, nxE]))
    · have ih := addS_has j e E x y (by omega)
      unfold addE
      split
      · exact ih
      · exact hasE_mono ih
/-- An entry whose pairs behind have been found, and whose outputs are equal. -/
def Cl (nx1 nx2 ot1 ot2 : List (List Int)) (i : Nat) (E : List Ent) (e : Ent) : Prop := ∀ x, x < i → oN ot1 e.p x = oN ot2 e.q x ∧ hasE E (nN nx1 e.p x) (nN nx2 e.q x)
theorem srch_closed {st1 st2 : Nat} (hM : Mok i st1 n nx1 ot1) (hN : Mok i st2 m nx2 ot2) : ∀ (k : Nat) (E : List Ent) (j : Nat), Ens n m s t E → j ≤ E.length → n * m ≤ k + j → (∀ a, a < j → Cl nx1 nx2 ot1 ot2 i E (E.getD a Ent.zero)) → srch nx1 nx2 ot1 ot2 i k E j = none →
    ∃ F, Ens n m s t F ∧ ∀ a, a < F.length → Cl nx1 nx2 ot1 ot2 i F (F.getD a Ent.zero)
  | 0, E, j, hE, hj, hk, hc, _ => by
    have := hE.len
    exact ⟨E, hE, fun a ha => hc a (by omega)⟩
  | k + 1, E, j, hE, hj, hk, hc, h => by
    rw [srch] at h
    by_cases hl : j < E.length
    · rw [if_pos hl] at h
      cases hd : fD ot1 ot2 (E.getD j Ent.zero) i with
      | some x => rw [hd] at h; exact absurd h (by simp)
      | none =>
        rw [hd] at h
        have hE2 := addS_ens hM hN hE hl i (Nat.le_refl _)
        obtain ⟨T, hT⟩ := addS_pre (nx1 := nx1) (nx2 := nx2) j (E.getD j Ent.zero) E i
        have hle : E.length ≤ (_root_.Go.Proofs.Ytdedgpgdmnfijaa.addS nx1 nx2 j (E.getD j Ent.zero) E i).length := by rw [hT, List.length_append]; omega
        refine srch_closed hM hN k _ _ hE2 (by omega) (by omega) (fun a ha => ?_) h
        have hg : (_root_.Go.Proofs.Ytdedgpgdmnfijaa.addS nx1 nx2 j (E.getD j Ent.zero) E i).getD a Ent.zero = E.getD a Ent.zero := by rw [hT, getDE_pre (by omega)]
        rw [hg]
        by_cases ha2 : a = j
        · subst ha2
          exact fun x hx => ⟨fD_none hd x hx, addS_has a _ E i x hx⟩
        · intro x hx
          obtain ⟨c1, c2⟩ := hc a (by omega) x hx
          exact ⟨c1, by rw [hT]; exact hasE_mono c2⟩
    · exact ⟨E, hE, fun a ha => hc a (by omega)⟩
theorem hasE_get {E : List Ent} {p q : Nat} (h : hasE E p q) : ∃ a, a < E.length ∧ (E.getD a Ent.zero).p = p ∧ (E.getD a Ent.zero).q = q := by
  unfold hasE at h
  obtain ⟨e, he, e2⟩ := List.mem_map.1 h
  obtain ⟨a, ha, rfl⟩ := List.getElem_of_mem he
  refine ⟨a, ha, ?_⟩
  rw [List.getD_eq_getElem?_getD, List.getElem?_eq_getElem ha]
  unfold Ent.pr at e2
  injection e2 with e3 e4
  exact ⟨e3, e4⟩
theorem closed_bis {F : List Ent} (h : ∀ a, a < F.length → Cl nx1 nx2 ot1 ot2 i F (F.getD a Ent.zero)) : ∀ (u : List Int) (a : Nat), a < F.length → Wd i u → runO nx1 ot1 (F.getD a Ent.zero).p u = runO nx2 ot2 (F.getD a Ent.zero).q u
  | [], _, _, _ => rfl
  | x :: u, a, ha, hu => by
    obtain ⟨y, rfl, hy⟩ := hu.head
    obtain ⟨c1, c2⟩ := h a ha y hy
    obtain ⟨b, hb, e1, e2⟩ := hasE_get c2
    have ih := closed_bis h u b hb hu.tail
    rw [e1, e2] at ih
    simp only [runO, Int.toNat_natCast]
    rw [c1, ih]
theorem dst_none {st1 st2 : Nat} (hM : Mok i st1 n nx1 ot1) (hN : Mok i st2 m nx2 ot2) (hs : s < n) (ht : t < m) : dst nx1 ot1 nx2 ot2 i n m s t = none ↔ Bis i nx1 ot1 s nx2 ot2 t := by
  constructor
  · intro h
    obtain ⟨F, hF, hc⟩ := srch_closed hM hN _ _ 0 (Ens.one hs ht) (Nat.zero_le _) (by omega) (fun a ha => absurd ha (by omega)) h
    intro u hu
    have h1 := closed_bis hc u 0 hF.ne hu
    rw [hF.z.1, hF.z.2.1] at h1
    exact h1
  · intro hb
    cases h : dst nx1 ot1 nx2 ot2 i n m s t with
    | none => rfl
    | some v => exact absurd hb (dst_not h)
end
end Go.Proofs.Ytdedgpgdmnfijaa
end

section
/- What Iso says, and what it says of minimal machines. -/
namespace Go.Proofs.Ytdedgpgdmnfijaa

section
variable {i s1 s2 n m : Nat} {nx1 ot1 nx2 ot2 : List (List Int)}
theorem isoC_bis (hM : Mok i s1 n nx1 ot1) (hN : Mok i s2 m nx2 ot2) (h : isoC i nx1 ot1 s1 n nx2 ot2 s2 m) : Bis i nx1 ot1 s1 nx2 ot2 s2 := fun u hu => by
  have r1 := tr_run hM u s1 (st_mem nx1 i s1) hu
  have r2 := tr_run hN u s2 (st_mem nx2 i s2) hu
  rw [ixN_st] at r1 r2
  rw [← r1, ← r2, h.2.2.1, h.2.2.2]
/-- A truth value for 'the outputs are the same'. -/
theorem bis_bool (i : Nat) (nx1 ot1 : List (List Int)) (s : Nat) (nx2 ot2 : List (List Int)) (t : Nat) : ∃ b : Bool, b = true ↔ Bis i nx1 ot1 s nx2 ot2 t := ⟨@decide (Bis i nx1 ot1 s nx2 ot2 t) (Classical.propDecidable _), @decide_eq_true_iff _ (Classical.propDecidable _)⟩
theorem dst_val {s t : Nat} (hM : Mok i s1 n nx1 ot1) (hN : Mok i s2 m nx2 ot2) (hs : s < n) (ht : t < m) {b : Bool} (hb : b = true ↔ Bis i nx1 ot1 s nx2 ot2 t) : (dst nx1 ot1 nx2 ot2 i n m s t).isSome = !b := by
  have h := dst_none hM hN hs ht
  cases hd : dst nx1 ot1 nx2 ot2 i n m s t with
  | none => rw [hb.2 (h.1 hd)]; rfl
  | some v =>
    cases b with
    | false => rfl
    | true => rw [h.2 (hb.1 rfl)] at hd; exact absurd hd (by simp)
theorem dst_pos {s t : Nat} {v : List Int} (h : dst nx1 ot1 nx2 ot2 i n m s t = some v) : 0 < v.length := by
  obtain ⟨w, x, rfl, _⟩ := dst_sound h
  rw [List.length_append]
  show 0 < _ + 1
  omega
theorem dres_ok (hM : Mok i s1 n nx1 ot1) (hN : Mok i s2 m nx2 ot2) : dres i s1 nx1 ot1 i s2 nx2 ot2 = (dst nx1 ot1 nx2 ot2 i n m s1 s2, 0) := by
  have hc : chk2 i s1 nx1 ot1 i s2 nx2 ot2 = 0 := by unfold chk2; rw [if_neg (by simp [hM.vld]), if_neg (by simp [hN.vld]), if_pos rfl]
  unfold dres
  rw [if_pos hc, hM.nxl, hN.nxl]
  rfl
theorem ires_ok (hM : Mok i s1 n nx1 ot1) (hN : Mok i s2 m nx2 ot2) : ires i s1 nx1 ot1 i s2 nx2 ot2 = (if isoC i nx1 ot1 s1 n nx2 ot2 s2 m then some (isoL (rch nx1 i s1) (rch nx2 i s2) n) else none, 0) := by
  have hc : chk2 i s1 nx1 ot1 i s2 nx2 ot2 = 0 := by unfold chk2; rw [if_neg (by simp [hM.vld]), if_neg (by simp [hN.vld]), if_pos rfl]
  unfold ires
  rw [if_pos hc, hM.nxl, hN.nxl]
  rfl
theorem sres_ok {s t : Nat} (hM : Mok i s1 n nx1 ot1) (hs : s < n) (ht : t < n) : sres i s1 nx1 ot1 s t = (dst nx1 ot1 nx1 ot1 i n n s t, 0) := by
  unfold sres
  rw [if_neg (by simp [hM.vld]), if_pos (by rw [hM.nxl]; omega), hM.nxl]
  rfl
end
end Go.Proofs.Ytdedgpgdmnfijaa
end

section
/- word.Lex and word.Compare. -/
namespace Go.Proofs.Ytdedgpgdmnfijaa
open Go.RowKit

theorem isnan (k : Int) (w : World) : Calls Try.prog 69 #[.int .i64 k] w fun e w' => e = .returned (.bool false) ∧ w = w' := by
  go_enter Try.func69, Try.ntmps69
  go_wp2
  go_ret
  exact ⟨rfl, rfl⟩

theorem ccmp (a b : Int) (w : World) : Calls Try.prog 52 #[.int .i64 a, .int .i64 b] w fun e w' => e = .returned (.int .i64 (cmpI a b)) ∧ w = w' := by
  by_cases h : a < b
  · have H := Lib.hid (show cmpI a b = -1 by unfold cmpI; rw [if_pos h])
    go_enter Try.func52, Try.ntmps52
    go_wp2_with (go_at_call 69; refine (isnan _ _).mono ?_; rintro e w' ⟨rfl, rfl⟩)
    go_ret
    exact ⟨ret_int H.out.symm, rfl⟩
  · by_cases h' : b < a
    · have H := Lib.hid (show cmpI a b = 1 by unfold cmpI; rw [if_neg h, if_pos h'])
      go_enter Try.func52, Try.ntmps52
      go_wp2_with (go_at_call 69; refine (isnan _ _).mono ?_; rintro e w' ⟨rfl, rfl⟩)
      go_ret
      exact ⟨ret_int H.out.symm, rfl⟩
    · have H := Lib.hid (show cmpI a b = 0 by unfold cmpI; rw [if_neg h, if_neg h'])
      go_enter Try.func52, Try.ntmps52
      go_wp2_with (go_at_call 69; refine (isnan _ _).mono ?_; rintro e w' ⟨rfl, rfl⟩)
      go_ret
      exact ⟨ret_int H.out.symm, rfl⟩

theorem cmpI_zero {a b : Int} (h : a = b) : cmpI a b = 0 := by unfold cmpI; rw [if_neg (by omega), if_neg (by omega)]
theorem cmpI_ne {a b : Int} (h : a ≠ b) : cmpI a b ≠ 0 := by unfold cmpI; split; decide; split; decide; omega

set_option maxHeartbeats 400000 in
theorem scompare (A B : Option Addr) (n c m d : Nat) (xs ys : List Int) (w : World) (hx : Ints w A n xs) (hy : Ints w B m ys) :
    Calls Try.prog 70 #[.slice A n c, .slice B m d] w fun e w' => e = .returned (.int .i64 (lexi xs ys)) ∧ ∃ q, w' = w.drewN q := by
  have L1 := Lib.hid hx.1
  have L2 := Lib.hid hy.1
  have hn := hx.2.1
  have hm := hy.2.1
  go_enter Try.func70, Try.ntmps70
  go_wp2
  go_loopw [11] (fun i wr => ∃ j : Nat, j ≤ n ∧ j ≤ m ∧ i = .int .i64 j ∧ Agree xs ys j ∧ ∃ q, wr = w.drewN q) (fun i _ => n - (intOf i).toNat)
  case atStart => exact ⟨0, Nat.zero_le _, Nat.zero_le _, rfl, Agree.zero _ _, 0, rfl⟩
  case round =>
    obtain ⟨j, hj1, hj2, rfl, ha, q, rfl⟩ := hrel
    by_cases hl1 : j < n
    · obtain ⟨b1, o1, rfl, _, hc1⟩ := hx.at_ (k := j) (by omega)
      by_cases hl2 : j < m
      · obtain ⟨b2, o2, rfl, _, hc2⟩ := hy.at_ (k := j) (by omega)
        by_cases he : xs[j]?.getD 0 = ys[j]?.getD 0
        · have ha' := Lib.hid (ha.succ (by simpa using he))
          have hz := Lib.hid (cmpI_zero he)
          clear he ha
          go_wp2_with (go_at_call 52; refine (ccmp _ _ _).mono ?_; rintro e w' ⟨rfl, rfl⟩; rw [hz.out])
          go_roundw
          case rel => exact ⟨j + 1, by omega, by omega, by go_num, ha'.out, _, rfl⟩
          case measure => simp [intOf]; omega
        · have hfin := Lib.hid (lexi_of (j := j) (by rw [L1.out]; omega) (by rw [L2.out]; omega) ha (by simpa using he))
          have hz : (cmpI (xs[j]?.getD 0) (ys[j]?.getD 0) != 0) = true := by simpa using cmpI_ne he
          clear he ha
          go_wp2_with (go_at_call 52; refine (ccmp _ _ _).mono ?_; rintro e w' ⟨rfl, rfl⟩)
          go_ret
          exact ⟨ret_int (by rw [hfin.out]; simp), _, rfl⟩
      · have hfin := Lib.hid (lexi_long (xs := xs) (ys := ys) (by rw [L1.out, L2.out]; omega) (by rw [L2.out]; exact (by omega : j = m) ▸ ha))
        clear ha
        go_wp2
        go_ret
        exact ⟨ret_int (by rw [hfin.out]), _, rfl⟩
    · by_cases hl2 : n < m
      · have hfin := Lib.hid (lexi_short (xs := xs) (ys := ys) (by rw [L1.out, L2.out]; omega) (by rw [L1.out]; exact (by omega : j = n) ▸ ha))
        clear ha
        go_wp2
        go_ret
        exact ⟨ret_int (by rw [hfin.out]), _, rfl⟩
      · have hfin := Lib.hid (lexi_same (xs := xs) (ys := ys) (by rw [L1.out, L2.out]; omega) (by rw [L1.out]; exact (by omega : j = n) ▸ ha))
        clear ha
        go_wp2
        go_ret
        exact ⟨ret_int (by rw [hfin.out]), _, rfl⟩

theorem wlex (A B : Option Addr) (n c m d : Nat) (xs ys : List Int) (w : World) (hx : Ints w A n xs) (hy : Ints w B m ys) :
    Calls Try.prog 53 #[.slice A n c, .slice B m d] w fun e w' => e = .returned (.int .i64 (lexi xs ys)) ∧ ∃ q, w' = w.drewN q := by
  go_enter Try.func53, Try.ntmps53
  go_wp2_with (go_at_call 70; refine (scompare _ _ _ _ _ _ xs ys _ hx hy).mono ?_; rintro e w' ⟨rfl, q, rfl⟩)
  go_ret
  exact ⟨rfl, _, rfl⟩

theorem shlex_lt {xs ys : List Int} (h : xs.length < ys.length) : shlex xs ys = -1 := by unfold shlex; rw [if_pos h]
theorem shlex_gt {xs ys : List Int} (h : ys.length < xs.length) : shlex xs ys = 1 := by unfold shlex; rw [if_neg (by omega), if_pos h]
theorem shlex_eq {xs ys : List Int} (h : xs.length = ys.length) : shlex xs ys = lexi xs ys := by unfold shlex; rw [if_neg (by omega), if_neg (by omega)]

theorem wcompare (A B : Option Addr) (n c m d : Nat) (xs ys : List Int) (w : World) (hx : Ints w A n xs) (hy : Ints w B m ys) :
    Calls Try.prog 33 #[.slice A n c, .slice B m d] w fun e w' => e = .returned (.int .i64 (shlex xs ys)) ∧ ∃ q, w' = w.drewN q := by
  have L1 := Lib.hid hx.1
  have L2 := Lib.hid hy.1
  by_cases h : n = m
  · subst h
    have hfin := Lib.hid (shlex_eq (xs := xs) (ys := ys) (by rw [L1.out, L2.out]))
    go_enter Try.func33, Try.ntmps33
    go_wp2_with (go_at_call 53; refine (wlex _ _ _ _ _ _ xs ys _ hx hy).mono ?_; rintro e w' ⟨rfl, q, rfl⟩)
    go_ret
    exact ⟨ret_int (by rw [hfin.out]), _, rfl⟩
  · have hd : ((n : Int) != (m : Int)) = true := by simp; omega
    by_cases hlt : n < m
    · have hfin := Lib.hid (shlex_lt (xs := xs) (ys := ys) (by rw [L1.out, L2.out]; exact hlt))
      have hz := Lib.hid (show cmpI (n : Int) (m : Int) = -1 by unfold cmpI; rw [if_pos (by omega)])
      go_enter Try.func33, Try.ntmps33
      go_wp2_with (go_at_call 52; refine (ccmp _ _ _).mono ?_; rintro e w' ⟨rfl, rfl⟩; rw [hz.out])
      go_ret
      exact ⟨ret_int (by rw [hfin.out]), 0, rfl⟩
    · have hfin := Lib.hid (shlex_gt (xs := xs) (ys := ys) (by rw [L1.out, L2.out]; omega))
      have hz := Lib.hid (show cmpI (n : Int) (m : Int) = 1 by unfold cmpI; rw [if_neg (by omega), if_pos (by omega)])
      go_enter Try.func33, Try.ntmps33
      go_wp2_with (go_at_call 52; refine (ccmp _ _ _).mono ?_; rintro e w' ⟨rfl, rfl⟩; rw [hz.out])
      go_ret
      exact ⟨ret_int (by rw [hfin.out]), 0, rfl⟩
end Go.Proofs.Ytdedgpgdmnfijaa
end

section
/- The word that is found is the first one. -/
namespace Go.Proofs.Ytdedgpgdmnfijaa

/-- Dictionary order of words of the same length, and shortlex order. -/
def Lx : List Int → List Int → Prop
  | a :: u, b :: v => a < b ∨ (a = b ∧ Lx u v)
  | _, _ => False
def SL (u v : List Int) : Prop := u.length < v.length ∨ (u.length = v.length ∧ Lx u v)
theorem Lx_snoc : ∀ {u w : List Int} {x y : Int}, u.length = w.length → (Lx (u ++ [y]) (w ++ [x]) ↔ Lx u w ∨ (u = w ∧ y < x))
  | [], [], x, y, _ => by simp [Lx]
  | a :: u, b :: w, x, y, h => by
    have ih := Lx_snoc (u := u) (w := w) (x := x) (y := y) (by simpa using h)
    simp only [List.cons_append, Lx, ih, List.cons.injEq]
    constructor
    · rintro (h1 | ⟨h1, h2 | ⟨h2, h3⟩⟩)
      · exact .inl (.inl h1)
      · exact .inl (.inr ⟨h1, h2⟩)
      · exact .inr ⟨⟨h1, h2⟩, h3⟩
    · rintro ((h1 | ⟨h1, h2⟩) | ⟨⟨h1, h2⟩, h3⟩)
      · exact .inl h1
      · exact .inr ⟨h1, .inl h2⟩
      · exact .inr ⟨h1, .inr ⟨h2, h3⟩⟩
  | [], _ :: _, _, _, h => by simp at h
  | _ :: _, [], _, _, h => by simp at h
theorem SL_snoc {u w : List Int} {x y : Int} (h : SL (u ++ [y]) (w ++ [x])) : SL u w ∨ (u = w ∧ y < x) := by
  rcases h with h | ⟨h, h2⟩
  · simp only [List.length_append, List.length_singleton] at h
    exact .inl (.inl (by omega))
  · have hl : u.length = w.length := by simpa using h
    rcases (Lx_snoc hl).1 h2 with h3 | h3
    · exact .inl (.inr ⟨hl, h3⟩)
    · exact .inr h3
theorem Lx_tri : ∀ {u v : List Int}, u.length = v.length → Lx u v ∨ u = v ∨ Lx v u
  | [], [], _ => .inr (.inl rfl)
  | a :: u, b :: v, h => by
    have ih := Lx_tri (u := u) (v := v) (by simpa using h)
    simp only [Lx, List.cons.injEq]
    rcases Int.lt_trichotomy a b with h1 | h1 | h1
    · exact .inl (.inl h1)
    · rcases ih with h2 | h2 | h2
      · exact .inl (.inr ⟨h1, h2⟩)
      · exact .inr (.inl ⟨h1, h2⟩)
      · exact .inr (.inr (.inr ⟨h1.symm, h2⟩))
    · exact .inr (.inr (.inl h1))
  | [], _ :: _, h => by simp at h
  | _ :: _, [], h => by simp at h
theorem SL_tri {u v : List Int} : SL u v ∨ u = v ∨ SL v u := by
  rcases Nat.lt_trichotomy u.length v.length with h | h | h
  · exact .inl (.inl h)
  · rcases Lx_tri h with h2 | h2 | h2
    · exact .inl (.inr ⟨h, h2⟩)
    · exact .inr (.inl h2)
    · exact .inr (.inr (.inr ⟨h.symm, h2⟩))
  · exact .inr (.inr (.inl h))
theorem lexi_cons (a : Int) (u v : List Int) : lexi (a :: u) (a :: v) = lexi u v := by
  unfold lexi
  simp [cmn]
theorem lexi_ne {a b : Int} {u v : List Int} (h : ¬ a = b) : lexi (a :: u) (b :: v) = if a < b then -1 else 1 := by
  unfold lexi
  simp [cmn, h]
theorem lexi_neg : ∀ {u v : List Int}, u.length = v.length → lexi u v < 0 → Lx u v
  | [], [], _, h => by simp [lexi, cmn] at h
  | a :: u, b :: v, hl, h => by
    by_cases e : a = b
    · subst e
      rw [lexi_cons] at h
      exact .inr ⟨rfl, lexi_neg (by simpa using hl) h⟩
    · rw [lexi_ne e] at h
      by_cases e2 : a < b
      · exact .inl e2
      · rw [if_neg e2] at h; omega
  | [], _ :: _, h, _ => by simp at h
  | _ :: _, [], h, _ => by simp at h
theorem shlex_neg {u v : List Int} (h : shlex u v < 0) : SL u v := by
  rcases Nat.lt_trichotomy u.length v.length with h1 | h1 | h1
  · exact .inl h1
  · rw [shlex_eq h1] at h
    exact .inr ⟨h1, lexi_neg h1 h⟩
  · rw [shlex_gt h1] at h; omega

/-- What the search has done before its step T. -/
structure Ord_ (nx1 nx2 ot1 ot2 : List (List Int)) (i s t T : Nat) (E : List Ent) : Prop where
  ne : 0 < E.length
  z : (E.getD 0 Ent.zero).w = []
  zp : (E.getD 0 Ent.zero).p = s ∧ (E.getD 0 Ent.zero).q = t
  bk : ∀ k, 0 < k → k < E.length → (E.getD k Ent.zero).j < k ∧ (E.getD k Ent.zero).w = (E.getD (E.getD k Ent.zero).j Ent.zero).w ++ [((E.getD k Ent.zero).x : Int)]
  mono : ∀ k l, 0 < k → k < l → l < E.length → (E.getD k Ent.zero).j * i + (E.getD k Ent.zero).x < (E.getD l Ent.zero).j * i + (E.getD l Ent.zero).x
  xs : ∀ k, 0 < k → k < E.length → (E.getD k Ent.zero).x < i ∧ (E.getD k Ent.zero).j * i + (E.getD k Ent.zero).x < T
  cl : ∀ a y, a < E.length → y < i → a * i + y < T → ∃ c, c < E.length ∧ (E.getD c Ent.zero).p = nN nx1 (E.getD a Ent.zero).p y ∧ (E.getD c Ent.zero).q = nN nx2 (E.getD a Ent.zero).q y ∧ (c = 0 ∨ (E.getD c Ent.zero).j * i + (E.getD c Ent.zero).x ≤ a * i + y)
  ou : ∀ a y, a < E.length → y < i → a * i + y < T → oN ot1 (E.getD a Ent.zero).p y = oN ot2 (E.getD a Ent.zero).q y
  gd : ∀ e, e ∈ E → Gd nx1 nx2 ot1 ot2 i s t e
section
variable {nx1 nx2 ot1 ot2 : List (List Int)} {i n m s t T j x : Nat} {E : List Ent}
theorem pos_uniq {a y j x : Nat} (hy : y < i) (hx : x < i) (h : a * i + y = j * i + x) : a = j ∧ y = x := by
  have h1 : (a * i + y) / i = a := by rw [Nat.mul_comm, Nat.mul_add_div (by omega)]; rw [Nat.div_eq_of_lt hy]; rfl
  have h2 : (j * i + x) / i = j := by rw [Nat.mul_comm, Nat.mul_add_div (by omega)]; rw [Nat.div_eq_of_lt hx]; rfl
  have : a = j := by rw [← h1, ← h2, h]
  subst this
  exact ⟨rfl, by omega⟩
theorem Ord_.one (i s t : Nat) : Ord_ nx1 nx2 ot1 ot2 i s t 0 [⟨s, t, 0, 0, []⟩] where
  ne := by simp
  z := rfl
  zp := ⟨rfl, rfl⟩
  bk := fun k h1 h2 => by simp at h2; omega
  mono := fun k l h1 h2 h3 => by simp at h3; omega
  xs := fun k h1 h2 => by simp at h2; omega
  cl := fun a y _ _ h => absurd h (by omega)
  ou := fun a y _ _ h => absurd h (by omega)
  gd := fun e he => by simp at he; subst he; exact ⟨Wd.nil i, rfl, rfl, rfl⟩
theorem Ord_.step (h : Ord_ nx1 nx2 ot1 ot2 i s t (j * i + x) E) (hj : j < E.length) (hx : x < i) (ho : oN ot1 (E.getD j Ent.zero).p x = oN ot2 (E.getD j Ent.zero).q x) :
    Ord_ nx1 nx2 ot1 ot2 i s t (j * i + x + 1) (addE E (nxE nx1 nx2 j (E.getD j Ent.zero) x)) := by
  have hout : ∀ a y, a < E.length → y < i → a * i + y < j * i + x + 1 → oN ot1 (E.getD a Ent.zero).p y = oN ot2 (E.getD a Ent.zero).q y := fun a y ha hy hl => by
    by_cases e : a * i + y = j * i + x
    · obtain ⟨rfl, rfl⟩ := pos_uniq hy hx e; exact ho
    · exact h.ou a y ha hy (by omega)
  by_cases hh : hasE E (nxE nx1 nx2 j (E.getD j Ent.zero) x).p (nxE nx1 nx2 j (E.getD j Ent.zero) x).q
  · rw [addE_in hh]
    refine ⟨h.ne, h.z, h.zp, h.bk, h.mono, fun k h1 h2 => ⟨(h.xs k h1 h2).1, by have := (h.xs k h1 h2).2; omega⟩, fun a y ha hy hl => ?_, hout, h.gd⟩
    by_cases e : a * i + y = j * i + x
    · obtain ⟨rfl, rfl⟩ := pos_uniq hy hx e
      obtain ⟨c, hc, e1, e2⟩ := hasE_get hh
      refine ⟨c, hc, e1, e2, ?_⟩
      by_cases h0 : c = 0
      · exact .inl h0
      · exact .inr (by have := (h.xs c (by omega) hc).2; omega)
    · exact h.cl a y ha hy (by omega)
  · rw [addE_out hh]
    have hL : (E ++ [nxE nx1 nx2 j (E.getD j Ent.zero) x]).length = E.length + 1 := by simp
    have hp : ∀ k, k < E.length → (E ++ [nxE nx1 nx2 j (E.getD j Ent.zero) x]).getD k Ent.zero = E.getD k Ent.zero := fun k hk => getDE_pre hk
    have hl : (E ++ [nxE nx1 nx2 j (E.getD j Ent.zero) x]).getD E.length Ent.zero = nxE nx1 nx2 j (E.getD j Ent.zero) x := getDE_last
    refine ⟨by omega, by rw [hp 0 h.ne]; exact h.z, by rw [hp 0 h.ne]; exact h.zp, fun k h1 h2 => ?_, fun k l h1 h2 h3 => ?_, fun k h1 h2 => ?_, fun a y ha hy hl2 => ?_, fun a y ha hy hl2 => ?_, fun e he => ?_⟩
    · by_cases hk : k < E.length
      · rw [hp k hk]
        obtain ⟨b1, b2⟩ := h.bk k h1 hk
        exact ⟨b1, by rw [hp _ (by omega)]; exact b2⟩
      · obtain rfl : k = E.length := by omega
        rw [hl]
        exact ⟨hj, by show _ = ((E ++ [nxE nx1 nx2 j (E.getD j Ent.zero) x]).getD j Ent.zero).w ++ _; rw [hp j hj]; rfl⟩
    · by_cases hk : l < E.length
      · rw [hp k (by omega), hp l hk]; exact h.mono k l h1 h2 hk
      · obtain rfl : l = E.length := by omega
        rw [hp k (by omega), hl]
        exact (h.xs k h1 (by omega)).2
    · by_cases hk : k < E.length
      · rw [hp k hk]
        exact ⟨(h.xs k h1 hk).1, by have := (h.xs k h1 hk).2; omega⟩
      · obtain rfl : k = E.length := by omega
        rw [hl]
        exact ⟨hx, by show j * i + x < _; omega⟩
    · have ha2 : a < E.length := by
        by_cases h3 : a < E.length
        · exact h3
        · have : (j + 1) * i ≤ a * i := Nat.mul_le_mul_right i (by omega)
          rw [Nat.succ_mul] at this
          omega
      rw [hp a ha2]
      by_cases e : a * i + y = j * i + x
      · obtain ⟨rfl, rfl⟩ := pos_uniq hy hx e
        exact ⟨E.length, by omega, by rw [hl]; rfl, by rw [hl]; rfl, .inr (by rw [hl]; exact Nat.le_refl _)⟩
      · obtain ⟨c, hc, e1, e2, e3⟩ := h.cl a y ha2 hy (by omega)
        exact ⟨c, by omega, by rw [hp c hc]; exact e1, by rw [hp c hc]; exact e2, by rw [hp c hc]; exact e3⟩
    · have ha2 : a < E.length := by
        by_cases h3 : a < E.length
        · exact h3
        · have : (j + 1) * i ≤ a * i := Nat.mul_le_mul_right i (by omega)
          rw [Nat.succ_mul] at this
          omega
      rw [hp a ha2]
      exact hout a y ha2 hy hl2
    · rcases List.mem_append.1 he with he | he
      · exact h.gd e he
      · simp at he
        subst he
        exact (h.gd _ (getDE_mem hj)).next hx ho
theorem Ord_.round (h : Ord_ nx1 nx2 ot1 ot2 i s t (j * i) E) (hj : j < E.length) : ∀ x, x ≤ i → (∀ a, a < x → oN ot1 (E.getD j Ent.zero).p a = oN ot2 (E.getD j Ent.zero).q a) →
    Ord_ nx1 nx2 ot1 ot2 i s t (j * i + x) (addS nx1 nx2 j (E.getD j Ent.zero) E x)
  | 0, _, _ => h
  | x + 1, hx, ho => by
    have ih := Ord_.round h hj x (by omega) (fun a ha => ho a (by omega))
    obtain ⟨S, hS⟩ := addS_pre (nx1 := nx1) (nx2 := nx2) j (E.getD j Ent.zero) E x
    have hg : (addS nx1 nx2 j (E.getD j Ent.zero) E x).getD j Ent.zero = E.getD j Ent.zero := by rw [hS, getDE_pre hj]
    have h2 := ih.step (by rw [hS, List.length_append]; omega) (by omega) (by rw [hg]; exact ho x (by omega))
    rw [hg] at h2
    exact h2
/-- Words before an entry's word lead to entries before it. -/
theorem Ord_.before (h : Ord_ nx1 nx2 ot1 ot2 i s t T E) : ∀ (N : Nat) (u : List Int) (k : Nat), u.length ≤ N → k < E.length → Wd i u → SL u (E.getD k Ent.zero).w → ∃ c, c < k ∧ (E.getD c Ent.zero).p = runS nx1 s u ∧ (E.getD c Ent.zero).q = runS nx2 t u := by
  intro N
  induction N with
  | zero =>
    intro u k hN hk hu hsl
    obtain rfl : u = [] := List.eq_nil_of_length_eq_zero (by omega)
    by_cases h0 : k = 0
    · subst h0; rw [h.z] at hsl; rcases hsl with h1 | ⟨_, h1⟩ <;> simp [Lx] at h1
    · exact ⟨0, by omega, h.zp.1, h.zp.2⟩
  | succ N ih =>
    intro u k hN hk hu hsl
    by_cases h0 : k = 0
    · subst h0
      rw [h.z] at hsl
      rcases hsl with h1 | ⟨h1, h2⟩
      · simp at h1
      · obtain rfl : u = [] := List.eq_nil_of_length_eq_zero (by simpa using h1)
        simp [Lx] at h2
    · rcases List.eq_nil_or_concat u with rfl | ⟨u', y, rfl⟩
      · exact ⟨0, by omega, h.zp.1, h.zp.2⟩
      · rw [List.concat_eq_append] at hN hu hsl ⊢
        have hu1 : Wd i u' := fun z hz => hu z (List.mem_append.2 (.inl hz))
        obtain ⟨y', rfl, hy⟩ : ∃ y' : Nat, y = y' ∧ y' < i := by have := hu y (List.mem_append.2 (.inr (by simp))); exact ⟨y.toNat, by omega, by omega⟩
        rw [List.length_append] at hN
        have hN : u'.length + 1 ≤ N + 1 := hN
        obtain ⟨b1, b2⟩ := h.bk k (by omega) hk
        obtain ⟨x1, x2⟩ := h.xs k (by omega) hk
        rw [b2] at hsl
        have hfin : ∀ a, a < E.length → a * i + y' < (E.getD k Ent.zero).j * i + (E.getD k Ent.zero).x → (E.getD a Ent.zero).p = runS nx1 s u' → (E.getD a Ent.zero).q = runS nx2 t u' → ∃ c, c < k ∧ (E.getD c Ent.zero).p = runS nx1 s (u' ++ [(y' : Int)]) ∧ (E.getD c Ent.zero).q = runS nx2 t (u' ++ [(y' : Int)]) := fun a ha hlt e1 e2 => by
          obtain ⟨c, hc, c1, c2, c3⟩ := h.cl a y' ha hy (by omega)
          refine ⟨c, ?_, by rw [c1, e1, runS_app]; rfl, by rw [c2, e2, runS_app]; rfl⟩
          rcases c3 with c3 | c3
          · omega
          · rcases Nat.lt_trichotomy c k with h3 | h3 | h3
            · exact h3
            · subst h3; omega
            · have := h.mono k c (by omega) h3 hc; omega
        rcases SL_snoc hsl with h3 | ⟨h3, h4⟩
        · obtain ⟨a, ha, e1, e2⟩ := ih u' _ (by omega) (by omega) hu1 h3
          refine hfin a (by omega) ?_ e1 e2
          have : (a + 1) * i ≤ (E.getD k Ent.zero).j * i := Nat.mul_le_mul_right i ha
          rw [Nat.succ_mul] at this
          omega
        · obtain ⟨_, g2, g3, _⟩ := h.gd _ (getDE_mem (E := E) (k := (E.getD k Ent.zero).j) (by omega))
          rw [← h3] at g2 g3
          exact hfin _ (by omega) (by omega) g2.symm g3.symm
/-- Words before the word of a hit have the same outputs. -/
theorem Ord_.first (h : Ord_ nx1 nx2 ot1 ot2 i s t (j * i) E) (hj : j < E.length) (hd : ∀ a, a < x → oN ot1 (E.getD j Ent.zero).p a = oN ot2 (E.getD j Ent.zero).q a) :
    ∀ (N : Nat) (u : List Int), u.length ≤ N → Wd i u → SL u ((E.getD j Ent.zero).w ++ [(x : Int)]) → runO nx1 ot1 s u = runO nx2 ot2 t u := by
  intro N
  induction N with
  | zero =>
    intro u hN _ _
    obtain rfl : u = [] := List.eq_nil_of_length_eq_zero (by omega)
    rfl
  | succ N ih =>
    intro u hN hu hsl
    rcases List.eq_nil_or_concat u with rfl | ⟨u', y, rfl⟩
    · rfl
    · rw [List.concat_eq_append] at hN hu hsl ⊢
      have hu1 : Wd i u' := fun z hz => hu z (List.mem_append.2 (.inl hz))
      obtain ⟨y', rfl, hy⟩ : ∃ y' : Nat, y = y' ∧ y' < i := by have := hu y (List.mem_append.2 (.inr (by simp))); exact ⟨y.toNat, by omega, by omega⟩
      rw [List.length_append] at hN
      have hN : u'.length + 1 ≤ N + 1 := hN
      have hlen : u'.length < ((E.getD j Ent.zero).w ++ [(x : Int)]).length := by
        rcases hsl with h1 | ⟨h1, _⟩ <;> rw [List.length_append] at h1 <;> simp at h1 ⊢ <;> omega
      have ihu := ih u' (by omega) hu1 (.inl hlen)
      rw [runO_app, runO_app, ihu]
      have key : oN ot1 (runS nx1 s u') y' = oN ot2 (runS nx2 t u') y' := by
        rcases SL_snoc hsl with h3 | ⟨h3, h4⟩
        · obtain ⟨a, ha, e1, e2⟩ := h.before _ u' j (Nat.le_refl _) hj hu1 h3
          have : (a + 1) * i ≤ j * i := Nat.mul_le_mul_right i ha
          rw [Nat.succ_mul] at this
          have := h.ou a y' (by omega) hy (by omega)
          rw [e1, e2] at this
          exact this
        · obtain ⟨_, g2, g3, _⟩ := h.gd _ (getDE_mem hj)
          rw [h3, g2, g3]
          exact hd y' (by omega)
      show _ ++ [oN ot1 (runS nx1 s u') y'] = _ ++ [oN ot2 (runS nx2 t u') y']
      rw [key]
theorem srch_first {v : List Int} : ∀ (k : Nat) (E : List Ent) (j : Nat), Ord_ nx1 nx2 ot1 ot2 i s t (j * i) E → srch nx1 nx2 ot1 ot2 i k E j = some v → ∀ u, Wd i u → SL u v → runO nx1 ot1 s u = runO nx2 ot2 t u
  | 0, _, _, _, h => by simp [srch] at h
  | k + 1, E, j, hE, h => by
    rw [srch] at h
    by_cases hj : j < E.length
    · rw [if_pos hj] at h
      cases hd : fD ot1 ot2 (E.getD j Ent.zero) i with
      | some x =>
        rw [hd] at h
        injection h with h
        subst h
        obtain ⟨_, _, h3⟩ := fD_some hd
        exact fun u hu hs => hE.first hj h3 _ u (Nat.le_refl _) hu hs
      | none =>
        rw [hd] at h
        have h2 := hE.round hj i (Nat.le_refl _) (fD_none hd)
        rw [← Nat.succ_mul] at h2
        exact srch_first k _ _ h2 h
    · rw [if_neg hj] at h; exact absurd h (by simp)
theorem dst_first {v : List Int} (h : dst nx1 ot1 nx2 ot2 i n m s t = some v) : ∀ u, Wd i u → SL u v → runO nx1 ot1 s u = runO nx2 ot2 t u :=
  srch_first _ _ 0 (by rw [Nat.zero_mul]; exact Ord_.one i s t) h
theorem dst_wd {v : List Int} (h : dst nx1 ot1 nx2 ot2 i n m s t = some v) : Wd i v ∧ ¬ runO nx1 ot1 s v = runO nx2 ot2 t v := by
  obtain ⟨w, x, rfl, hx, hw, h1, h2⟩ := dst_sound h
  refine ⟨hw.app (Wd.one hx), fun e => ?_⟩
  rw [runO_app, runO_app, h1] at e
  have h3 := List.append_cancel_left e
  simp only [runO, Int.toNat_natCast, List.cons.injEq] at h3
  exact h2 h3.1
theorem dst_comm {s1 s2 : Nat} (hM : Mok i s1 n nx1 ot1) (hN : Mok i s2 m nx2 ot2) (hs : s < n) (ht : t < m) : dst nx2 ot2 nx1 ot1 i m n t s = dst nx1 ot1 nx2 ot2 i n m s t := by
  cases h1 : dst nx1 ot1 nx2 ot2 i n m s t with
  | none => exact (dst_none hN hM ht hs).2 ((dst_none hM hN hs ht).1 h1).symm
  | some v =>
    cases h2 : dst nx2 ot2 nx1 ot1 i m n t s with
    | none => exact absurd ((dst_none hN hM ht hs).1 h2).symm (dst_not h1)
    | some v' =>
      obtain ⟨w1, d1⟩ := dst_wd h1
      obtain ⟨w2, d2⟩ := dst_wd h2
      rcases SL_tri (u := v) (v := v') with h3 | h3 | h3
      · exact absurd (dst_first h2 v w1 h3).symm d1
      · rw [h3]
      · exact absurd (dst_first h1 v' w2 h3).symm d2
end
end Go.Proofs.Ytdedgpgdmnfijaa
end

section
/- Numbering by first occurrence; the classes of states that words of k symbols do not separate. -/
namespace Go.Proofs.Ytdedgpgdmnfijaa

section
variable {κ : Type} [BEq κ] [LawfulBEq κ]
/-- What is new is added at the end. -/
def addK (l : List κ) (x : κ) : List κ := if x ∈ l then l else l ++ [x]
/-- The different keys among the first n. -/
def grp (f : Nat → κ) : Nat → List κ
  | 0 => []
  | k + 1 => addK (grp f k) (f k)
theorem addK_pre (l : List κ) (x : κ) : ∃ t, addK l x = l ++ t := by
  unfold addK; split
  · exact ⟨[], by simp⟩
  · exact ⟨[x], rfl⟩
theorem addK_in {l : List κ} {x : κ} (h : x ∈ l) : addK l x = l := by unfold addK; rw [if_pos h]
theorem addK_out {l : List κ} {x : κ} (h : ¬ x ∈ l) : addK l x = l ++ [x] := by unfold addK; rw [if_neg h]
theorem mem_addK (l : List κ) (x : κ) : x ∈ addK l x := by
  unfold addK; split
  · assumption
  · simp
theorem grp_pre (f : Nat → κ) (m : Nat) : ∀ d, ∃ t, grp f (m + d) = grp f m ++ t
  | 0 => ⟨[], by simp⟩
  | d + 1 => by
    obtain ⟨t, ht⟩ := grp_pre f m d
    obtain ⟨u, hu⟩ := addK_pre (grp f (m + d)) (f (m + d))
    exact ⟨t ++ u, by show addK (grp f (m + d)) (f (m + d)) = _; rw [hu, ht, List.append_assoc]⟩
theorem grp_has (f : Nat → κ) {n s : Nat} (h : s < n) : f s ∈ grp f n := by
  obtain ⟨t, ht⟩ := grp_pre f (s + 1) (n - (s + 1))
  rw [show s + 1 + (n - (s + 1)) = n by omega] at ht
  rw [ht]
  exact List.mem_append_left _ (mem_addK _ _)
theorem grp_mem (f : Nat → κ) : ∀ {n : Nat} {x : κ}, x ∈ grp f n → ∃ s, s < n ∧ f s = x
  | 0, x, h => by simp [grp] at h
  | n + 1, x, h => by
    by_cases e : f n ∈ grp f n
    · rw [show grp f (n + 1) = grp f n from addK_in e] at h
      obtain ⟨s, hs, e2⟩ := grp_mem f h
      exact ⟨s, by omega, e2⟩
    · rw [show grp f (n + 1) = grp f n ++ [f n] from addK_out e] at h
      rcases List.mem_append.1 h with h | h
      · obtain ⟨s, hs, e2⟩ := grp_mem f h
        exact ⟨s, by omega, e2⟩
      · simp at h
        exact ⟨n, by omega, h.symm⟩
theorem grp_nodup (f : Nat → κ) : ∀ n, (grp f n).Nodup
  | 0 => by simp [grp]
  | n + 1 => by
    by_cases e : f n ∈ grp f n
    · rw [show grp f (n + 1) = grp f n from addK_in e]; exact grp_nodup f n
    · rw [show grp f (n + 1) = grp f n ++ [f n] from addK_out e]
      refine List.nodup_append.2 ⟨grp_nodup f n, by simp, fun a ha b hb => ?_⟩
      simp at hb; subst hb; intro e2; subst e2; exact e ha
theorem grp_len (f : Nat → κ) : ∀ n, (grp f n).length ≤ n
  | 0 => Nat.le_refl _
  | n + 1 => by
    have := grp_len f n
    obtain ⟨t, ht⟩ := addK_pre (grp f n) (f n)
    show (addK _ _).length ≤ _
    unfold addK
    split
    · omega
    · rw [List.length_append]; simp; omega
theorem idxOf_pre {l t : List κ} {x : κ} (h : x ∈ l) : (l ++ t).idxOf x = l.idxOf x := by rw [List.idxOf_append, if_pos h]
theorem idxOf_new {l : List κ} {x : κ} (h : ¬ x ∈ l) : (l ++ [x]).idxOf x = l.length := by
  rw [List.idxOf_append, if_neg h]; simp
theorem getD_idxOf {l : List κ} {x d : κ} (h : x ∈ l) : l.getD (l.idxOf x) d = x := by
  have := List.idxOf_lt_length_of_mem h
  rw [List.getD_eq_getElem?_getD, List.getElem?_eq_getElem this]
  exact List.getElem_idxOf this
theorem idxOf_inj2 {l : List κ} {x y : κ} (hx : x ∈ l) (hy : y ∈ l) (h : l.idxOf x = l.idxOf y) : x = y := by
  have h1 := getD_idxOf (d := x) hx
  have h2 := getD_idxOf (d := x) hy
  rw [h] at h1
  exact h1.symm.trans h2

/-- The number of s: that of its key among the different keys. -/
def nmb (f : Nat → κ) (s : Nat) : Nat := (grp f (s + 1)).idxOf (f s)
def num (f : Nat → κ) (n : Nat) : List Nat := (List.range n).map (nmb f)
theorem num_len (f : Nat → κ) (n : Nat) : (num f n).length = n := by simp [num]
theorem num_at (f : Nat → κ) {n s : Nat} (h : s < n) : (num f n).getD s 0 = nmb f s := by unfold num; simp [List.getD, h]
theorem nmb_in (f : Nat → κ) {n s : Nat} (h : s < n) : nmb f s = (grp f n).idxOf (f s) := by
  obtain ⟨t, ht⟩ := grp_pre f (s + 1) (n - (s + 1))
  rw [show s + 1 + (n - (s + 1)) = n by omega] at ht
  unfold nmb
  rw [ht, idxOf_pre (grp_has f (Nat.lt_succ_self s))]
theorem nmb_eq (f : Nat → κ) {s t : Nat} : nmb f s = nmb f t ↔ f s = f t := by
  have hs : s < s + t + 1 := by omega
  have ht : t < s + t + 1 := by omega
  rw [nmb_in f hs, nmb_in f ht]
  exact ⟨fun h => idxOf_inj2 (grp_has f hs) (grp_has f ht) h, fun h => by rw [h]⟩
theorem nmb_old (f : Nat → κ) {s : Nat} (h : f s ∈ grp f s) : nmb f s = (grp f s).idxOf (f s) := by
  unfold nmb; rw [show grp f (s + 1) = grp f s from addK_in h]
theorem nmb_new (f : Nat → κ) {s : Nat} (h : ¬ f s ∈ grp f s) : nmb f s = (grp f s).length := by
  unfold nmb; rw [show grp f (s + 1) = grp f s ++ [f s] from addK_out h, idxOf_new h]
theorem nmb_lt (f : Nat → κ) {n s : Nat} (h : s < n) : nmb f s < (grp f n).length := by
  rw [nmb_in f h]; exact List.idxOf_lt_length_of_mem (grp_has f h)
theorem nmb_le (f : Nat → κ) (s : Nat) : nmb f s ≤ s := by
  have h1 := nmb_lt f (show s < s + 1 by omega)
  have h2 := grp_len f (s + 1)
  omega
end

theorem num_congr {κ μ : Type} [BEq κ] [LawfulBEq κ] [BEq μ] [LawfulBEq μ] {f : Nat → κ} {g : Nat → μ} {n : Nat} (h : ∀ s t, s < n → t < n → (f s = f t ↔ g s = g t)) : num f n = num g n := by
  have key : ∀ m, m ≤ n → (grp f m).length = (grp g m).length ∧ ∀ s, s < m → nmb f s = nmb g s := by
    intro m
    induction m with
    | zero => intro _; exact ⟨rfl, fun s hs => absurd hs (by omega)⟩
    | succ m ih =>
      intro hm
      obtain ⟨h1, h2⟩ := ih (by omega)
      by_cases e : f m ∈ grp f m
      · obtain ⟨s, hs, e2⟩ := grp_mem f e
        have e3 : g s = g m := (h s m (by omega) (by omega)).1 e2
        have e4 : g m ∈ grp g m := e3 ▸ grp_has g hs
        refine ⟨?_, fun t ht => ?_⟩
        · rw [show grp f (m + 1) = grp f m from addK_in e, show grp g (m + 1) = grp g m from addK_in e4, h1]
        · by_cases et : t = m
          · subst et
            rw [← (nmb_eq f).2 e2, ← (nmb_eq g).2 e3]; exact h2 s hs
          · exact h2 t (by omega)
      · have e4 : ¬ g m ∈ grp g m := fun H => by
          obtain ⟨s, hs, e2⟩ := grp_mem g H
          exact e ((h s m (by omega) (by omega)).2 e2 ▸ grp_has f hs)
        refine ⟨?_, fun t ht => ?_⟩
        · rw [show grp f (m + 1) = grp f m ++ [f m] from addK_out e, show grp g (m + 1) = grp g m ++ [g m] from addK_out e4, List.length_append, List.length_append, h1]; rfl
        · by_cases et : t = m
          · subst et
            rw [nmb_new f e, nmb_new g e4, h1]
          · exact h2 t (by omega)
  unfold num
  refine List.map_congr_left fun s hs => ?_
  rw [List.mem_range] at hs
  exact (key n (Nat.le_refl _)).2 s hs

/-- The signature of a state, as far as a inputs are told: output and class, input by input. -/
def sgm (nx ot : List (List Int)) (cl : List Nat) (s a : Nat) : List Int := (List.range 128).map fun j => if j / 2 < a then (if j % 2 = 0 then oN ot s (j / 2) else ((cl.getD (nN nx s (j / 2)) 0 : Nat) : Int)) else 0
theorem sgm_len (nx ot : List (List Int)) (cl : List Nat) (s a : Nat) : (sgm nx ot cl s a).length = 128 := by simp [sgm]
theorem sgm_get (nx ot : List (List Int)) (cl : List Nat) (s a j : Nat) (h : j < 128) : (sgm nx ot cl s a)[j]? = some (if j / 2 < a then (if j % 2 = 0 then oN ot s (j / 2) else ((cl.getD (nN nx s (j / 2)) 0 : Nat) : Int)) else 0) := by
  unfold sgm; rw [List.getElem?_map, List.getElem?_range h]; rfl
theorem sgm_zero (nx ot : List (List Int)) (cl : List Nat) (s : Nat) : sgm nx ot cl s 0 = List.replicate 128 0 := by
  apply List.ext_getElem?
  intro j
  by_cases h : j < 128
  · rw [sgm_get _ _ _ _ _ _ h, if_neg (by omega), List.getElem?_replicate, if_pos h]
  · rw [List.getElem?_eq_none (by rw [sgm_len]; omega), List.getElem?_eq_none (by simp; omega)]
theorem sgm_succ (nx ot : List (List Int)) (cl : List Nat) (s a : Nat) : ((sgm nx ot cl s a).set (2 * a) (oN ot s a)).set (2 * a + 1) ((cl.getD (nN nx s a) 0 : Nat) : Int) = sgm nx ot cl s (a + 1) := by
  apply List.ext_getElem?
  intro j
  by_cases hj : j < 128
  · rw [sgm_get _ _ _ _ _ _ hj, List.getElem?_set, List.length_set, sgm_len]
    by_cases e : 2 * a + 1 = j
    · subst e
      rw [if_pos rfl, if_pos hj, if_pos (by omega), if_neg (by omega), show (2 * a + 1) / 2 = a by omega]
    · rw [if_neg e, List.getElem?_set, sgm_len]
      by_cases e2 : 2 * a = j
      · subst e2
        rw [if_pos rfl, if_pos hj, if_pos (by omega), if_pos (by omega), show 2 * a / 2 = a by omega]
      · rw [if_neg e2, sgm_get _ _ _ _ _ _ hj]
        by_cases e3 : j / 2 < a
        · rw [if_pos e3, if_pos (show j / 2 < a + 1 by omega)]
        · rw [if_neg e3, if_neg (show ¬ j / 2 < a + 1 by omega)]
  · rw [List.getElem?_eq_none (by simp [sgm_len]; omega), List.getElem?_eq_none (by rw [sgm_len]; omega)]
theorem sgm_eq {nx ot : List (List Int)} {cl : List Nat} {s t i : Nat} (h : i ≤ 64) : sgm nx ot cl s i = sgm nx ot cl t i ↔ ∀ a, a < i → oN ot s a = oN ot t a ∧ cl.getD (nN nx s a) 0 = cl.getD (nN nx t a) 0 := by
  constructor
  · intro e a ha
    have h1 : (sgm nx ot cl s i)[2 * a]? = (sgm nx ot cl t i)[2 * a]? := by rw [e]
    have h2 : (sgm nx ot cl s i)[2 * a + 1]? = (sgm nx ot cl t i)[2 * a + 1]? := by rw [e]
    rw [sgm_get _ _ _ _ _ _ (by omega), sgm_get _ _ _ _ _ _ (by omega), show 2 * a / 2 = a by omega, if_pos ha, if_pos ha, if_pos (show 2 * a % 2 = 0 by omega), if_pos (show 2 * a % 2 = 0 by omega)] at h1
    rw [sgm_get _ _ _ _ _ _ (by omega), sgm_get _ _ _ _ _ _ (by omega), show (2 * a + 1) / 2 = a by omega, if_pos ha, if_pos ha, if_neg (show ¬ (2 * a + 1) % 2 = 0 by omega), if_neg (show ¬ (2 * a + 1) % 2 = 0 by omega)] at h2
    simp only [Option.some.injEq] at h1 h2
    exact ⟨h1, by omega⟩
  · intro H
    apply List.ext_getElem?
    intro j
    by_cases hj : j < 128
    · rw [sgm_get _ _ _ _ _ _ hj, sgm_get _ _ _ _ _ _ hj]
      by_cases e : j / 2 < i
      · rw [if_pos e, if_pos e]
        obtain ⟨h1, h2⟩ := H _ e
        by_cases e2 : j % 2 = 0
        · rw [if_pos e2, if_pos e2, h1]
        · rw [if_neg e2, if_neg e2, h2]
      · rw [if_neg e, if_neg e]
    · rw [List.getElem?_eq_none (by rw [sgm_len]; omega), List.getElem?_eq_none (by rw [sgm_len]; omega)]

/-- The classes of states that no word of k symbols separates. -/
def pt (nx ot : List (List Int)) (i n : Nat) : Nat → List Nat
  | 0 => List.replicate n 0
  | k + 1 => num (fun s => sgm nx ot (pt nx ot i n k) s i) n
theorem pt_len (nx ot : List (List Int)) (i n : Nat) : ∀ k, (pt nx ot i n k).length = n
  | 0 => by simp [pt]
  | k + 1 => num_len _ _
/-- The class of a state. -/
def cN (nx ot : List (List Int)) (i n k s : Nat) : Nat := (pt nx ot i n k).getD s 0
theorem cN_zero {nx ot : List (List Int)} {i n s : Nat} (h : s < n) : cN nx ot i n 0 s = 0 := by unfold cN pt; simp [List.getD, h]
theorem cN_le {nx ot : List (List Int)} {i n k s : Nat} (h : s < n) : cN nx ot i n k s ≤ s := by
  cases k with
  | zero => rw [cN_zero h]; omega
  | succ k => unfold cN pt; rw [num_at _ h]; exact nmb_le _ _
theorem Mok.cN_succ {i st n : Nat} {nx ot : List (List Int)} (hM : Mok i st n nx ot) {k s t : Nat} (hs : s < n) (ht : t < n) :
    cN nx ot i n (k + 1) s = cN nx ot i n (k + 1) t ↔ ∀ a, a < i → oN ot s a = oN ot t a ∧ cN nx ot i n k (nN nx s a) = cN nx ot i n k (nN nx t a) := by
  unfold cN
  show (num _ n).getD s 0 = (num _ n).getD t 0 ↔ _
  rw [num_at _ hs, num_at _ ht, nmb_eq, sgm_eq hM.i2]
theorem Mok.cN_fine {i st n : Nat} {nx ot : List (List Int)} (hM : Mok i st n nx ot) : ∀ {k s t : Nat}, s < n → t < n → cN nx ot i n (k + 1) s = cN nx ot i n (k + 1) t → cN nx ot i n k s = cN nx ot i n k t
  | 0, s, t, hs, ht, _ => by rw [cN_zero hs, cN_zero ht]
  | k + 1, s, t, hs, ht, h => by
    rw [hM.cN_succ hs ht] at h ⊢
    exact fun a ha => ⟨(h a ha).1, hM.cN_fine (hM.nN_lt hs ha) (hM.nN_lt ht ha) (h a ha).2⟩
theorem pt_stay {nx ot : List (List Int)} {i n k : Nat} (h : pt nx ot i n (k + 1) = pt nx ot i n k) : ∀ d, pt nx ot i n (k + d) = pt nx ot i n k
  | 0 => rfl
  | d + 1 => by
    show num (fun s => sgm nx ot (pt nx ot i n (k + d)) s i) n = _
    rw [pt_stay h d]
    exact h
theorem list_ext0 {l t : List Nat} {n : Nat} (h1 : l.length = n) (h2 : t.length = n) (h : ∀ s, s < n → l.getD s 0 = t.getD s 0) : l = t := by
  apply List.ext_getElem (by omega)
  intro s hs ht
  have := h s (by omega)
  rw [List.getD_eq_getElem?_getD, List.getD_eq_getElem?_getD, List.getElem?_eq_getElem hs, List.getElem?_eq_getElem ht] at this
  exact this
/-- A partition by numbers of first occurrence is determined by its classes. -/
theorem pt_num {i st n : Nat} {nx ot : List (List Int)} (_ : Mok i st n nx ot) : ∀ k, pt nx ot i n k = num (cN nx ot i n k) n
  | 0 => by
    apply list_ext0 (pt_len _ _ _ _ _) (num_len _ _)
    intro s hs
    rw [num_at _ hs]
    have h0 : (pt nx ot i n 0).getD s 0 = 0 := cN_zero hs
    have e : ∀ m, m ≤ n → ∀ t, t ∈ grp (cN nx ot i n 0) m → t = 0 := fun m hm t ht => by
      obtain ⟨u, hu, rfl⟩ := grp_mem _ ht
      exact cN_zero (by omega)
    rw [h0]
    have h1 : nmb (cN nx ot i n 0) s = nmb (cN nx ot i n 0) 0 := (nmb_eq _).2 (by rw [cN_zero hs, cN_zero (by omega)])
    have := nmb_le (cN nx ot i n 0) 0
    omega
  | k + 1 => by
    refine num_congr fun s t hs ht => ?_
    have h1 := num_at (fun s => sgm nx ot (pt nx ot i n k) s i) hs
    have h2 := num_at (fun s => sgm nx ot (pt nx ot i n k) s i) ht
    show _ ↔ (num _ n).getD s 0 = (num _ n).getD t 0
    rw [h1, h2]
    exact (nmb_eq (fun s => sgm nx ot (pt nx ot i n k) s i)).symm
end Go.Proofs.Ytdedgpgdmnfijaa
end

section
/- Partitions become finer until they stay: the depth. -/
namespace Go.Proofs.Ytdedgpgdmnfijaa

/-- The least of its class. -/
def fst_ (c : Nat → Nat) (s : Nat) : Bool := (List.range s).all fun t => c t != c s
theorem fst_iff {c : Nat → Nat} {s : Nat} : fst_ c s = true ↔ ∀ t, t < s → c t ≠ c s := by
  unfold fst_
  simp [List.all_eq_true]
theorem fst_ex (c : Nat → Nat) : ∀ s, ∃ r, r ≤ s ∧ c r = c s ∧ fst_ c r = true := by
  intro s
  induction s using Nat.strongRecOn with
  | _ s ih =>
    by_cases h : fst_ c s = true
    · exact ⟨s, Nat.le_refl _, rfl, h⟩
    · have h2 : ∃ t, t < s ∧ c t = c s := by
        rw [fst_iff] at h
        exact Classical.byContradiction fun H => h fun t ht e => H ⟨t, ht, e⟩
      obtain ⟨t, ht, e⟩ := h2
      obtain ⟨r, h3, h4, h5⟩ := ih t ht
      exact ⟨r, by omega, h4.trans e, h5⟩
def cnt (c : Nat → Nat) (n : Nat) : Nat := ((List.range n).filter (fst_ c)).length
theorem cnt_le (c : Nat → Nat) (n : Nat) : cnt c n ≤ n := by
  unfold cnt
  have := List.length_filter_le (fst_ c) (List.range n)
  simpa using this
theorem cnt_pos (c : Nat → Nat) {n : Nat} (h : 0 < n) : 0 < cnt c n := by
  unfold cnt
  have : 0 ∈ (List.range n).filter (fst_ c) := by
    rw [List.mem_filter]
    exact ⟨by simpa using h, by rw [fst_iff]; intro t ht; omega⟩
  exact List.length_pos_of_mem this
theorem filter_le {p q : Nat → Bool} : ∀ {l : List Nat}, (∀ x, x ∈ l → p x = true → q x = true) → (l.filter p).length ≤ (l.filter q).length
  | [], _ => Nat.le_refl _
  | x :: l, h => by
    have ih := filter_le (l := l) fun y hy => h y (by simp [hy])
    rw [List.filter_cons, List.filter_cons]
    by_cases hp : p x = true
    · rw [if_pos hp, if_pos (h x (by simp) hp)]; simp; exact ih
    · rw [if_neg hp]
      split
      · simp; omega
      · exact ih
theorem filter_eq_of_len {p q : Nat → Bool} : ∀ {l : List Nat}, (∀ x, x ∈ l → p x = true → q x = true) → (l.filter q).length ≤ (l.filter p).length → ∀ x, x ∈ l → q x = true → p x = true
  | [], _, _, x, hx => by simp at hx
  | y :: l, h, hl, x, hx => by
    intro hq
    have hle := filter_le (p := p) (q := q) (l := l) fun z hz => h z (by simp [hz])
    rw [List.filter_cons, List.filter_cons] at hl
    by_cases hp : p y = true
    · rw [if_pos hp, if_pos (h y (by simp) hp)] at hl
      rcases List.mem_cons.1 hx with rfl | hx
      · exact hp
      · exact filter_eq_of_len (fun z hz => h z (by simp [hz])) (by simpa using hl) x hx hq
    · rw [if_neg hp] at hl
      by_cases hqy : q y = true
      · rw [if_pos hqy] at hl; simp at hl; omega
      · rw [if_neg hqy] at hl
        rcases List.mem_cons.1 hx with rfl | hx
        · exact absurd hq hqy
        · exact filter_eq_of_len (fun z hz => h z (by simp [hz])) hl x hx hq
/-- A finer partition with as many classes is the same one. -/
theorem cnt_same {c d : Nat → Nat} {n : Nat} (h : ∀ s t, s < n → t < n → d s = d t → c s = c t) (hc : cnt d n ≤ cnt c n) : ∀ s t, s < n → t < n → c s = c t → d s = d t := by
  have h1 : ∀ x, x ∈ List.range n → fst_ c x = true → fst_ d x = true := fun x hx hf => by
    rw [fst_iff] at hf ⊢
    rw [List.mem_range] at hx
    exact fun t ht e => hf t ht (h t x (by omega) hx e)
  have h2 := filter_eq_of_len h1 hc
  intro s t hs ht e
  obtain ⟨r, r1, r2, r3⟩ := fst_ex d s
  obtain ⟨u, u1, u2, u3⟩ := fst_ex d t
  have f1 := h2 r (by simp; omega) r3
  have f2 := h2 u (by simp; omega) u3
  rw [fst_iff] at f1 f2
  have e3 : c r = c u := (h r s (by omega) hs r2).trans (e.trans (h u t (by omega) ht u2).symm)
  have e4 : r = u := by
    rcases Nat.lt_trichotomy r u with hlt | he | hgt
    · exact absurd e3 (f2 r hlt)
    · exact he
    · exact absurd e3.symm (f1 u hgt)
  subst e4
  exact r2.symm.trans u2
theorem cnt_lt {c d : Nat → Nat} {n : Nat} (h : ∀ s t, s < n → t < n → d s = d t → c s = c t) (hne : ¬ ∀ s t, s < n → t < n → c s = c t → d s = d t) : cnt c n < cnt d n := by
  rcases Nat.lt_or_ge (cnt c n) (cnt d n) with h1 | h1
  · exact h1
  · exact absurd (cnt_same h h1) hne

/-- The first number, among the given ones, from which on the classes stay. -/
def depF (nx ot : List (List Int)) (i n : Nat) : Nat → Nat → Nat
  | 0, j => j
  | f + 1, j => if pt nx ot i n (j + 1) = pt nx ot i n j then j else depF nx ot i n f (j + 1)
def dep (nx ot : List (List Int)) (i n : Nat) : Nat := depF nx ot i n n 0
theorem pt_same {i st n : Nat} {nx ot : List (List Int)} (hM : Mok i st n nx ot) {j k : Nat} (h : ∀ s t, s < n → t < n → (cN nx ot i n j s = cN nx ot i n j t ↔ cN nx ot i n k s = cN nx ot i n k t)) : pt nx ot i n j = pt nx ot i n k := by
  rw [pt_num hM j, pt_num hM k]; exact num_congr h
theorem Mok.cnt_succ {i st n : Nat} {nx ot : List (List Int)} (hM : Mok i st n nx ot) {j : Nat} (h : pt nx ot i n (j + 1) ≠ pt nx ot i n j) : cnt (cN nx ot i n j) n < cnt (cN nx ot i n (j + 1)) n :=
  cnt_lt (fun _ _ hs ht e => hM.cN_fine hs ht e) fun H => h (pt_same hM fun s t hs ht => ⟨hM.cN_fine hs ht, H s t hs ht⟩)
theorem Mok.cnt_ge {i st n : Nat} {nx ot : List (List Int)} (hM : Mok i st n nx ot) : ∀ {j : Nat}, (∀ m, m < j → pt nx ot i n (m + 1) ≠ pt nx ot i n m) → j + 1 ≤ cnt (cN nx ot i n j) n
  | 0, _ => cnt_pos _ hM.n1
  | j + 1, h => by
    have h1 := hM.cnt_ge (j := j) fun m hm => h m (by omega)
    have h2 := hM.cnt_succ (h j (by omega))
    omega
theorem depF_spec {i st n : Nat} {nx ot : List (List Int)} (hM : Mok i st n nx ot) : ∀ (f j : Nat), n ≤ f + j → (∀ m, m < j → pt nx ot i n (m + 1) ≠ pt nx ot i n m) →
    pt nx ot i n (depF nx ot i n f j + 1) = pt nx ot i n (depF nx ot i n f j) ∧ ∀ m, m < depF nx ot i n f j → pt nx ot i n (m + 1) ≠ pt nx ot i n m
  | 0, j, hf, h => by
    have h1 := hM.cnt_ge h
    have h2 := cnt_le (cN nx ot i n j) n
    omega
  | f + 1, j, hf, h => by
    unfold depF
    by_cases e : pt nx ot i n (j + 1) = pt nx ot i n j
    · rw [if_pos e]; exact ⟨e, h⟩
    · rw [if_neg e]
      refine depF_spec hM f (j + 1) (by omega) fun m hm => ?_
      by_cases e2 : m = j
      · subst e2; exact e
      · exact h m (by omega)
theorem Mok.dep_stay {i st n : Nat} {nx ot : List (List Int)} (hM : Mok i st n nx ot) : pt nx ot i n (dep nx ot i n + 1) = pt nx ot i n (dep nx ot i n) := (depF_spec hM n 0 (by omega) fun m hm => absurd hm (by omega)).1
theorem Mok.dep_min {i st n : Nat} {nx ot : List (List Int)} (hM : Mok i st n nx ot) {m : Nat} (h : m < dep nx ot i n) : pt nx ot i n (m + 1) ≠ pt nx ot i n m := (depF_spec hM n 0 (by omega) fun m hm => absurd hm (by omega)).2 m h
theorem Mok.dep_lt {i st n : Nat} {nx ot : List (List Int)} (hM : Mok i st n nx ot) : dep nx ot i n < n := by
  have h1 := hM.cnt_ge (j := dep nx ot i n) fun m hm => hM.dep_min hm
  have h2 := cnt_le (cN nx ot i n (dep nx ot i n)) n
  omega
theorem Mok.dep_le {i st n : Nat} {nx ot : List (List Int)} (hM : Mok i st n nx ot) {j : Nat} (h : ∀ m, m < j → pt nx ot i n (m + 1) ≠ pt nx ot i n m) : j ≤ dep nx ot i n := by
  rcases Nat.lt_or_ge (dep nx ot i n) j with h1 | h1
  · exact absurd hM.dep_stay (h _ h1)
  · exact h1
theorem Mok.dep_eq {i st n : Nat} {nx ot : List (List Int)} (hM : Mok i st n nx ot) {j : Nat} (h : ∀ m, m < j → pt nx ot i n (m + 1) ≠ pt nx ot i n m) (hj : pt nx ot i n (j + 1) = pt nx ot i n j) : j = dep nx ot i n := by
  have h1 := hM.dep_le h
  rcases Nat.lt_or_ge j (dep nx ot i n) with h2 | h2
  · exact absurd hj (hM.dep_min h2)
  · omega
theorem Mok.pt_all {i st n : Nat} {nx ot : List (List Int)} (hM : Mok i st n nx ot) {k : Nat} (h : dep nx ot i n ≤ k) : pt nx ot i n k = pt nx ot i n (dep nx ot i n) := by
  obtain ⟨d, rfl⟩ := Nat.le.dest h
  exact pt_stay hM.dep_stay d
/-- The classes for k are all classes just if k is not below the depth. -/
theorem Mok.pt_eq_all {i st n : Nat} {nx ot : List (List Int)} (hM : Mok i st n nx ot) {k : Nat} : pt nx ot i n k = pt nx ot i n (dep nx ot i n) ↔ dep nx ot i n ≤ k := by
  refine ⟨fun h => ?_, hM.pt_all⟩
  rcases Nat.lt_or_ge k (dep nx ot i n) with h1 | h1
  · refine absurd ?_ (hM.dep_min h1)
    have h2 := hM.dep_stay
    show num (fun s => sgm nx ot (pt nx ot i n k) s i) n = _
    rw [h]
    exact h2
  · exact h1
end Go.Proofs.Ytdedgpgdmnfijaa
end

section
/- The machine of classes: which rows it has. -/
namespace Go.Proofs.Ytdedgpgdmnfijaa

/-- The least states of the classes among the first s. -/
def reps (f : Nat → Nat) : Nat → List Nat
  | 0 => []
  | s + 1 => if f s ∈ grp f s then reps f s else reps f s ++ [s]
theorem reps_in {f : Nat → Nat} {s : Nat} (h : f s ∈ grp f s) : reps f (s + 1) = reps f s := by
  show (if _ then _ else _) = _; rw [if_pos h]
theorem reps_out {f : Nat → Nat} {s : Nat} (h : ¬ f s ∈ grp f s) : reps f (s + 1) = reps f s ++ [s] := by
  show (if _ then _ else _) = _; rw [if_neg h]
theorem reps_map (f : Nat → Nat) : ∀ s, (reps f s).map f = grp f s
  | 0 => rfl
  | s + 1 => by
    by_cases h : f s ∈ grp f s
    · rw [reps_in h, show grp f (s + 1) = grp f s from addK_in h]; exact reps_map f s
    · rw [reps_out h, show grp f (s + 1) = grp f s ++ [f s] from addK_out h, List.map_append, reps_map f s]; rfl
theorem reps_len (f : Nat → Nat) (s : Nat) : (reps f s).length = (grp f s).length := by rw [← reps_map, List.length_map]
theorem reps_lt (f : Nat → Nat) : ∀ (n : Nat) {r : Nat}, r ∈ reps f n → r < n
  | 0, r, h => by simp [reps] at h
  | n + 1, r, h => by
    by_cases e : f n ∈ grp f n
    · rw [reps_in e] at h; have := reps_lt f n h; omega
    · rw [reps_out e] at h
      rcases List.mem_append.1 h with h | h
      · have := reps_lt f n h; omega
      · simp at h; omega
/-- A class that is not there yet has the next number. -/
theorem nmb_skip (f : Nat → Nat) (s : Nat) : nmb f s < (reps f s).length ↔ f s ∈ grp f s := by
  rw [reps_len]
  constructor
  · intro h
    exact Classical.byContradiction fun H => by rw [nmb_new f H] at h; omega
  · intro h
    rw [nmb_old f h]
    exact List.idxOf_lt_length_of_mem h
theorem reps_at (f : Nat → Nat) {n s : Nat} (h : s < n) : f ((reps f n).getD (nmb f s) 0) = f s := by
  have h1 := nmb_lt f h
  rw [← reps_len] at h1
  have h2 : ((reps f n).map f).getD (nmb f s) (f 0) = f s := by
    rw [reps_map, nmb_in f h]; exact getD_idxOf (grp_has f h)
  rw [List.getD_eq_getElem?_getD, List.getElem?_map, List.getElem?_eq_getElem h1] at h2
  rw [List.getD_eq_getElem?_getD, List.getElem?_eq_getElem h1]
  exact h2
theorem nmb_reps (f : Nat → Nat) {n j : Nat} (h : j < (reps f n).length) : nmb f ((reps f n).getD j 0) = j := by
  have hm : (reps f n).getD j 0 ∈ reps f n := getD_mem h
  rw [nmb_in f (reps_lt f n hm)]
  have hj : j < (grp f n).length := by rw [← reps_len]; exact h
  have h2 : (grp f n)[j] = f ((reps f n).getD j 0) := by
    have h3 : (grp f n)[j]? = some (f ((reps f n).getD j 0)) := by
      rw [← reps_map, List.getElem?_map, List.getD_eq_getElem?_getD, List.getElem?_eq_getElem h]; rfl
    rw [List.getElem?_eq_getElem hj] at h3
    exact Option.some.inj h3
  rw [← h2]
  have h4 := List.getElem_idxOf (x := (grp f n)[j]) (xs := grp f n) (List.idxOf_lt_length_of_mem (List.getElem_mem hj))
  exact (List.getElem_inj (grp_nodup f n)).1 h4

/-- The rows of the machine of classes. -/
def qR (nx : List (List Int)) (i : Nat) (f : Nat → Nat) (s : Nat) : List Int := (List.range i).map fun a => ((nmb f (nN nx s a) : Nat) : Int)
theorem qR_len (nx : List (List Int)) (i : Nat) (f : Nat → Nat) (s : Nat) : (qR nx i f s).length = i := by simp [qR]
theorem qR_at {nx : List (List Int)} {i : Nat} {f : Nat → Nat} {s a : Nat} (ha : a < i) : (qR nx i f s).getD a 0 = ((nmb f (nN nx s a) : Nat) : Int) := by
  unfold qR; simp [List.getD, ha]
/-- A row while it is renumbered. -/
def qmid (nx : List (List Int)) (i : Nat) (f : Nat → Nat) (s a : Nat) : List Int := (qR nx i f s).take a ++ (nx.getD s []).drop a
theorem qmid_zero (nx : List (List Int)) (i : Nat) (f : Nat → Nat) (s : Nat) : qmid nx i f s 0 = nx.getD s [] := by simp [qmid]
theorem qmid_all {nx : List (List Int)} {i : Nat} {f : Nat → Nat} {s : Nat} (h : (nx.getD s []).length = i) : qmid nx i f s i = qR nx i f s := by
  unfold qmid; rw [List.take_of_length_le (by rw [qR_len]; exact Nat.le_refl _), List.drop_eq_nil_of_le (by omega), List.append_nil]
theorem qmid_len {nx : List (List Int)} {i : Nat} {f : Nat → Nat} {s a : Nat} (h : (nx.getD s []).length = i) (ha : a ≤ i) : (qmid nx i f s a).length = i := by
  unfold qmid; rw [List.length_append, List.length_take, List.length_drop, qR_len, h]; omega
theorem qmid_get {nx : List (List Int)} {i : Nat} {f : Nat → Nat} {s a m : Nat} (ha : a ≤ i) : (qmid nx i f s a)[m]? = if m < a then (qR nx i f s)[m]? else (nx.getD s [])[m]? := by
  unfold qmid
  have hl : ((qR nx i f s).take a).length = a := by rw [List.length_take, qR_len]; omega
  by_cases h : m < a
  · rw [if_pos h, List.getElem?_append_left (by omega), List.getElem?_take, if_pos h]
  · rw [if_neg h, List.getElem?_append_right (by omega), List.getElem?_drop, hl, show a + (m - a) = m by omega]
theorem qmid_at {nx : List (List Int)} {i : Nat} {f : Nat → Nat} {s a : Nat} (ha : a < i) : (qmid nx i f s a).getD a 0 = (nx.getD s []).getD a 0 := by
  rw [List.getD_eq_getElem?_getD, qmid_get (by omega), if_neg (by omega), ← List.getD_eq_getElem?_getD]
theorem qmid_set {nx : List (List Int)} {i : Nat} {f : Nat → Nat} {s a : Nat} (h : (nx.getD s []).length = i) (ha : a < i) : (qmid nx i f s a).set a ((nmb f (nN nx s a) : Nat) : Int) = qmid nx i f s (a + 1) := by
  apply List.ext_getElem?
  intro m
  have ht : (qR nx i f s)[a]? = some ((nmb f (nN nx s a) : Nat) : Int) := by
    have := qR_at (nx := nx) (f := f) (s := s) ha
    rw [List.getD_eq_getElem?_getD, List.getElem?_eq_getElem (by rw [qR_len]; exact ha)] at this
    rw [List.getElem?_eq_getElem (by rw [qR_len]; exact ha)]
    exact congrArg some this
  rw [List.getElem?_set, qmid_get (by omega), qmid_get (by omega), qmid_len h (by omega)]
  by_cases e : a = m
  · subst e
    rw [if_pos rfl, if_pos ha, if_pos (by omega), ht]
  · rw [if_neg e]
    by_cases e2 : m < a
    · rw [if_pos e2, if_pos (by omega)]
    · rw [if_neg e2, if_neg (by omega)]
/-- The tables of the machine of classes. -/
def qN (nx : List (List Int)) (i : Nat) (f : Nat → Nat) (s : Nat) : List (List Int) := (reps f s).map (qR nx i f)
def qO (ot : List (List Int)) (f : Nat → Nat) (s : Nat) : List (List Int) := (reps f s).map fun s => ot.getD s []
theorem qN_in {nx : List (List Int)} {i : Nat} {f : Nat → Nat} {s : Nat} (h : f s ∈ grp f s) : qN nx i f (s + 1) = qN nx i f s := by unfold qN; rw [reps_in h]
theorem qO_in {ot : List (List Int)} {f : Nat → Nat} {s : Nat} (h : f s ∈ grp f s) : qO ot f (s + 1) = qO ot f s := by unfold qO; rw [reps_in h]
theorem qN_out {nx : List (List Int)} {i : Nat} {f : Nat → Nat} {s : Nat} (h : ¬ f s ∈ grp f s) : qN nx i f (s + 1) = qN nx i f s ++ [qR nx i f s] := by unfold qN; rw [reps_out h, List.map_append]; rfl
theorem qO_out {ot : List (List Int)} {f : Nat → Nat} {s : Nat} (h : ¬ f s ∈ grp f s) : qO ot f (s + 1) = qO ot f s ++ [ot.getD s []] := by unfold qO; rw [reps_out h, List.map_append]; rfl
theorem qN_len (nx : List (List Int)) (i : Nat) (f : Nat → Nat) (s : Nat) : (qN nx i f s).length = (reps f s).length := by simp [qN]
theorem qO_len (ot : List (List Int)) (f : Nat → Nat) (s : Nat) : (qO ot f s).length = (reps f s).length := by simp [qO]
theorem reps_le (f : Nat → Nat) (s : Nat) : (reps f s).length ≤ s := by rw [reps_len]; exact grp_len f s
end Go.Proofs.Ytdedgpgdmnfijaa
end

section
/- The minimal machine. -/
namespace Go.Proofs.Ytdedgpgdmnfijaa

theorem getD_map {α β : Type} (g : α → β) (l : List α) (d : α) (e : β) {j : Nat} (h : j < l.length) : (l.map g).getD j e = g (l.getD j d) := by
  rw [List.getD_eq_getElem?_getD, List.getElem?_map, List.getD_eq_getElem?_getD, List.getElem?_eq_getElem h]; rfl
theorem qN_row (nx : List (List Int)) (i : Nat) (f : Nat → Nat) {n j : Nat} (h : j < (reps f n).length) : (qN nx i f n).getD j [] = qR nx i f ((reps f n).getD j 0) := getD_map _ _ 0 _ h
theorem qO_row (ot : List (List Int)) (f : Nat → Nat) {n j : Nat} (h : j < (reps f n).length) : (qO ot f n).getD j [] = ot.getD ((reps f n).getD j 0) [] := by unfold qO; exact getD_map _ _ 0 _ h
theorem reps_get_lt (f : Nat → Nat) {n j : Nat} (h : j < (reps f n).length) : (reps f n).getD j 0 < n := reps_lt f n (getD_mem h)
theorem nmb_lt_reps (f : Nat → Nat) {n s : Nat} (h : s < n) : nmb f s < (reps f n).length := by rw [reps_len]; exact nmb_lt f h
theorem Mok.quot {i st n : Nat} {nx ot : List (List Int)} (hM : Mok i st n nx ot) (f : Nat → Nat) : Mok i (nmb f st) (reps f n).length (qN nx i f n) (qO ot f n) where
  i1 := hM.i1
  i2 := hM.i2
  n1 := by have := nmb_lt_reps f hM.st; omega
  n2 := by have := reps_le f n; have := hM.n2; omega
  st := nmb_lt_reps f hM.st
  nxl := qN_len _ _ _ _
  otl := qO_len _ _ _
  row := fun s hs => by
    have hr := reps_get_lt f hs
    rw [qN_row _ _ _ hs, qO_row _ _ hs]
    obtain ⟨h1, h2, h3⟩ := hM.row _ hr
    refine ⟨qR_len _ _ _ _, h2, fun a ha => ?_⟩
    rw [qR_at ha]
    have h4 := nmb_lt_reps f (hM.nN_lt hr ha)
    have h5 := h3 a ha
    exact ⟨by omega, by omega, h5.2.2.1, h5.2.2.2⟩
/-- The classes of equivalent states. -/
def eqc (nx ot : List (List Int)) (i n : Nat) : Nat → Nat := cN nx ot i n (dep nx ot i n)
/-- The tables of the minimal machine, and the states of the machine of classes that it has. -/
def mnR (nx ot : List (List Int)) (i st n : Nat) : List Nat := rch (qN nx i (eqc nx ot i n) n) i (nmb (eqc nx ot i n) st)
def mnN (nx ot : List (List Int)) (i st n : Nat) : List (List Int) := trN (qN nx i (eqc nx ot i n) n) i (mnR nx ot i st n)
def mnO (nx ot : List (List Int)) (i st n : Nat) : List (List Int) := trO (qO ot (eqc nx ot i n) n) (mnR nx ot i st n)
theorem Mok.mnR_len {i st n : Nat} {nx ot : List (List Int)} (hM : Mok i st n nx ot) : (mnR nx ot i st n).length ≤ n := by
  have h1 := (hM.quot (eqc nx ot i n)).rch_stt.len
  have h2 := reps_le (eqc nx ot i n) n
  unfold mnR
  omega
end Go.Proofs.Ytdedgpgdmnfijaa
end

section
/- The minimal machine is the same for machines with the same outputs. -/
namespace Go.Proofs.Ytdedgpgdmnfijaa

theorem Mok.bis_cN {i st n : Nat} {nx ot : List (List Int)} (hM : Mok i st n nx ot) : ∀ (k : Nat) {s t : Nat}, s < n → t < n → Bis i nx ot s nx ot t → cN nx ot i n k s = cN nx ot i n k t
  | 0, s, t, hs, ht, _ => by rw [cN_zero hs, cN_zero ht]
  | k + 1, s, t, hs, ht, h => (hM.cN_succ hs ht).2 fun a ha => ⟨h.out ha, hM.bis_cN k (hM.nN_lt hs ha) (hM.nN_lt ht ha) (h.next ha)⟩
theorem Mok.eqc_step {i st n : Nat} {nx ot : List (List Int)} (hM : Mok i st n nx ot) {s t : Nat} (hs : s < n) (ht : t < n) (h : eqc nx ot i n s = eqc nx ot i n t) {a : Nat} (ha : a < i) :
    oN ot s a = oN ot t a ∧ eqc nx ot i n (nN nx s a) = eqc nx ot i n (nN nx t a) := by
  refine (hM.cN_succ hs ht).1 ?_ a ha
  unfold cN
  rw [hM.dep_stay]
  exact h
theorem Mok.eqc_bis {i st n : Nat} {nx ot : List (List Int)} (hM : Mok i st n nx ot) {s t : Nat} (hs : s < n) (ht : t < n) : eqc nx ot i n s = eqc nx ot i n t ↔ Bis i nx ot s nx ot t := by
  constructor
  · intro h u
    induction u generalizing s t with
    | nil => intro _; rfl
    | cons x u ih =>
      intro hu
      obtain ⟨a, rfl, ha⟩ := hu.head
      obtain ⟨h1, h2⟩ := hM.eqc_step hs ht h ha
      simp only [runO, Int.toNat_natCast]
      rw [h1, ih (hM.nN_lt hs ha) (hM.nN_lt ht ha) h2 hu.tail]
  · intro h
    exact hM.bis_cN _ hs ht h

/-- The machine of classes: its states have the outputs of those of the machine. -/
theorem Mok.quot_bis {i st n : Nat} {nx ot : List (List Int)} (hM : Mok i st n nx ot) {s : Nat} (hs : s < n) :
    Bis i (qN nx i (eqc nx ot i n) n) (qO ot (eqc nx ot i n) n) (nmb (eqc nx ot i n) s) nx ot s := by
  intro u
  induction u generalizing s with
  | nil => intro _; rfl
  | cons x u ih =>
    intro hu
    obtain ⟨a, rfl, ha⟩ := hu.head
    have hl := nmb_lt_reps (eqc nx ot i n) hs
    have hr := reps_get_lt (eqc nx ot i n) hl
    have hf := reps_at (eqc nx ot i n) hs
    obtain ⟨h1, h2⟩ := hM.eqc_step hr hs hf ha
    have e1 : oN (qO ot (eqc nx ot i n) n) (nmb (eqc nx ot i n) s) a = oN ot s a := by
      rw [← h1]; unfold oN; rw [qO_row _ _ hl]
    have e2 : nN (qN nx i (eqc nx ot i n) n) (nmb (eqc nx ot i n) s) a = nmb (eqc nx ot i n) (nN nx s a) := by
      have h3 := (nmb_eq (eqc nx ot i n)).2 h2
      rw [← h3]
      show (((qN nx i (eqc nx ot i n) n).getD _ []).getD a 0).toNat = _
      rw [qN_row _ _ _ hl, qR_at ha]
      exact Int.toNat_natCast _
    simp only [runO, Int.toNat_natCast]
    rw [e1, e2, ih (hM.nN_lt hs ha) hu.tail]
/-- Different states of the machine of classes have different outputs for a word. -/
theorem Mok.quot_red {i st n : Nat} {nx ot : List (List Int)} (hM : Mok i st n nx ot) {p q : Nat} (hp : p < (reps (eqc nx ot i n) n).length) (hq : q < (reps (eqc nx ot i n) n).length)
    (h : Bis i (qN nx i (eqc nx ot i n) n) (qO ot (eqc nx ot i n) n) p (qN nx i (eqc nx ot i n) n) (qO ot (eqc nx ot i n) n) q) : p = q := by
  have e1 := nmb_reps (eqc nx ot i n) hp
  have e2 := nmb_reps (eqc nx ot i n) hq
  have hr := reps_get_lt (eqc nx ot i n) hp
  have hs := reps_get_lt (eqc nx ot i n) hq
  have b1 := hM.quot_bis hr
  have b2 := hM.quot_bis hs
  rw [e1] at b1
  rw [e2] at b2
  have h2 := (hM.eqc_bis hr hs).2 ((b1.symm.trans h).trans b2)
  have h3 := (nmb_eq (eqc nx ot i n)).2 h2
  rw [e1, e2] at h3
  exact h3

/-- Lists of states of two machines, place by place with the same outputs. -/
def Par (i : Nat) (nx ot mx mt : List (List Int)) (l k : List Nat) : Prop := l.length = k.length ∧ ∀ j, j < l.length → Bis i nx ot (l.getD j 0) mx mt (k.getD j 0)
section
variable {i s1 s2 n m : Nat} {nx ot mx mt : List (List Int)}
theorem par_mem {l k : List Nat} (h : Par i nx ot mx mt l k) (hk : ∀ y, y ∈ k → y < m) (hR : ∀ p q, p < m → q < m → Bis i mx mt p mx mt q → p = q) {x y : Nat} (hb : Bis i nx ot x mx mt y) (hy : y < m) (hx : x ∈ l) : ∃ j, j < l.length ∧ l.getD j 0 = x ∧ k.getD j 0 = y := by
  obtain ⟨j, hj, rfl⟩ := List.getElem_of_mem hx
  have e : l.getD j 0 = l[j] := by rw [List.getD_eq_getElem?_getD, List.getElem?_eq_getElem hj]; rfl
  have h1 := h.2 j hj
  rw [e] at h1
  have hkj : k.getD j 0 ∈ k := getD_mem (by rw [← h.1]; exact hj)
  exact ⟨j, hj, e, hR _ _ (hk _ hkj) hy (h1.symm.trans hb)⟩
theorem Par.symm {l k : List Nat} (h : Par i nx ot mx mt l k) : Par i mx mt nx ot k l := ⟨h.1.symm, fun j hj => (h.2 j (by rw [h.1]; exact hj)).symm⟩
theorem par_addN (hR1 : ∀ p q, p < n → q < n → Bis i nx ot p nx ot q → p = q) (hR2 : ∀ p q, p < m → q < m → Bis i mx mt p mx mt q → p = q) {l k : List Nat} (h : Par i nx ot mx mt l k) (hl : ∀ y, y ∈ l → y < n) (hk : ∀ y, y ∈ k → y < m) {x y : Nat} (hx : x < n) (hy : y < m) (hb : Bis i nx ot x mx mt y) :
    Par i nx ot mx mt (addN l x) (addN k y) := by
  have hin : x ∈ l ↔ y ∈ k := by
    constructor
    · intro h1
      obtain ⟨j, hj, _, e⟩ := par_mem h hk hR2 hb hy h1
      rw [← e]; exact getD_mem (by rw [← h.1]; exact hj)
    · intro h1
      obtain ⟨j, hj, _, e⟩ := par_mem h.symm hl hR1 hb.symm hx h1
      rw [← e]; exact getD_mem (by rw [h.1]; exact hj)
  unfold addN
  by_cases h1 : x ∈ l
  · rw [if_pos h1, if_pos (hin.1 h1)]; exact h
  · rw [if_neg h1, if_neg (fun H => h1 (hin.2 H))]
    refine ⟨by rw [List.length_append, List.length_append, h.1]; rfl, fun j hj => ?_⟩
    rw [List.length_append] at hj
    by_cases e : j < l.length
    · rw [getD_pre e, getD_pre (by rw [← h.1]; exact e)]; exact h.2 j e
    · have ej : j = l.length := by simp at hj; omega
      subst ej
      have g1 : (l ++ [x]).getD l.length 0 = x := by simp [List.getD]
      have g2 : (k ++ [y]).getD l.length 0 = y := by rw [h.1]; simp [List.getD]
      rw [g1, g2]; exact hb
theorem par_addR (hM : Mok i s1 n nx ot) (hN : Mok i s2 m mx mt) (hR1 : ∀ p q, p < n → q < n → Bis i nx ot p nx ot q → p = q) (hR2 : ∀ p q, p < m → q < m → Bis i mx mt p mx mt q → p = q) {l k : List Nat} (h : Par i nx ot mx mt l k) (hl : Stt n l) (hk : Stt m k) {x y : Nat} (hx : x < n) (hy : y < m) (hb : Bis i nx ot x mx mt y) :
    ∀ a, a ≤ i → Par i nx ot mx mt (addR nx x l a) (addR mx y k a)
  | 0, _ => h
  | a + 1, ha => par_addN hR1 hR2 (par_addR hM hN hR1 hR2 h hl hk hx hy hb a (by omega)) (addR_stt hM hl hx a (by omega)).2 (addR_stt hN hk hy a (by omega)).2 (hM.nN_lt hx (by omega)) (hN.nN_lt hy (by omega)) (hb.next (by omega))
theorem par_bfs (hM : Mok i s1 n nx ot) (hN : Mok i s2 m mx mt) (hR1 : ∀ p q, p < n → q < n → Bis i nx ot p nx ot q → p = q) (hR2 : ∀ p q, p < m → q < m → Bis i mx mt p mx mt q → p = q) : ∀ (f : Nat) (l k : List Nat) (j : Nat), Par i nx ot mx mt l k → Stt n l → Stt m k →
    Par i nx ot mx mt (bfs nx i f l j) (bfs mx i f k j)
  | 0, _, _, _, h, _, _ => h
  | f + 1, l, k, j, h, hl, hk => by
    unfold bfs
    by_cases hj : j < l.length
    · rw [if_pos hj, if_pos (by rw [← h.1]; exact hj)]
      have hx := hl.2 _ (getD_mem hj)
      have hy := hk.2 _ (getD_mem (show j < k.length by rw [← h.1]; exact hj))
      exact par_bfs hM hN hR1 hR2 f _ _ (j + 1) (par_addR hM hN hR1 hR2 h hl hk hx hy (h.2 j hj) i (Nat.le_refl _)) (addR_stt hM hl hx i (Nat.le_refl _)) (addR_stt hN hk hy i (Nat.le_refl _))
    · rw [if_neg hj, if_neg (by rw [← h.1]; exact hj)]; exact h
theorem par_rch (hM : Mok i s1 n nx ot) (hN : Mok i s2 m mx mt) (hR1 : ∀ p q, p < n → q < n → Bis i nx ot p nx ot q → p = q) (hR2 : ∀ p q, p < m → q < m → Bis i mx mt p mx mt q → p = q) (hb : Bis i nx ot s1 mx mt s2) : Par i nx ot mx mt (rch nx i s1) (rch mx i s2) := by
  unfold rch
  rw [hM.nxl, hN.nxl, ← bfs_more hM (Stt.one hM.st) m, ← bfs_more hN (Stt.one hN.st) n, Nat.add_comm m n]
  refine par_bfs hM hN hR1 hR2 _ _ _ _ ⟨rfl, fun j hj => ?_⟩ (Stt.one hM.st) (Stt.one hN.st)
  have : j = 0 := by simp at hj; omega
  subst this; exact hb
theorem par_ix (hR2 : ∀ p q, p < m → q < m → Bis i mx mt p mx mt q → p = q) {l k : List Nat} (h : Par i nx ot mx mt l k) (hl : Stt n l) (hk : Stt m k) {x y : Nat} (hx : x ∈ l) (hy : y < m) (hb : Bis i nx ot x mx mt y) : ixN l x = ixN k y := by
  obtain ⟨j, hj, e1, e2⟩ := par_mem h hk.2 hR2 hb hy hx
  rw [← e1, ← e2, ixN_of hl.1 hj, ixN_of hk.1 (by rw [← h.1]; exact hj)]
theorem list_ext_rows {β : Type} {l k : List β} (d : β) (h1 : l.length = k.length) (h : ∀ s, s < l.length → l.getD s d = k.getD s d) : l = k := by
  apply List.ext_getElem h1
  intro s hs ht
  have := h s hs
  rw [List.getD_eq_getElem?_getD, List.getD_eq_getElem?_getD, List.getElem?_eq_getElem hs, List.getElem?_eq_getElem ht] at this
  exact this
/-- Reduced machines with the same outputs have the same trimmed machine. -/
theorem par_tr (hM : Mok i s1 n nx ot) (hN : Mok i s2 m mx mt) (hR1 : ∀ p q, p < n → q < n → Bis i nx ot p nx ot q → p = q) (hR2 : ∀ p q, p < m → q < m → Bis i mx mt p mx mt q → p = q) (hb : Bis i nx ot s1 mx mt s2) :
    trN nx i (rch nx i s1) = trN mx i (rch mx i s2) ∧ trO ot (rch nx i s1) = trO mt (rch mx i s2) := by
  have hP := par_rch hM hN hR1 hR2 hb
  have hl := hM.rch_stt
  have hk := hN.rch_stt
  constructor
  · refine list_ext_rows [] (by simp [trN, hP.1]) fun j hj => ?_
    have hj1 : j < (rch nx i s1).length := by simpa [trN] using hj
    have hj2 : j < (rch mx i s2).length := by rw [← hP.1]; exact hj1
    rw [tr_row hj1, tr_row hj2]
    unfold trR
    refine List.map_congr_left fun a ha => ?_
    rw [List.mem_range] at ha
    have m1 := hl.2 _ (getD_mem hj1)
    have m2 := hk.2 _ (getD_mem hj2)
    rw [par_ix hR2 hP hl hk (hM.rch_in (getD_mem hj1) ha) (hN.nN_lt m2 ha) ((hP.2 j hj1).next ha)]
  · refine list_ext_rows [] (by simp [trO, hP.1]) fun j hj => ?_
    have hj1 : j < (rch nx i s1).length := by simpa [trO] using hj
    have hj2 : j < (rch mx i s2).length := by rw [← hP.1]; exact hj1
    rw [tr_out hj1, tr_out hj2]
    have m1 := hM.row _ (hl.2 _ (getD_mem hj1))
    have m2 := hN.row _ (hk.2 _ (getD_mem hj2))
    refine list_ext_rows 0 (by rw [m1.2.1, m2.2.1]) fun a ha => ?_
    exact (hP.2 j hj1).out (by rw [← m1.2.1]; exact ha)
end

/-- The minimal machine is valid. -/
theorem Mok.mn {i st n : Nat} {nx ot : List (List Int)} (hM : Mok i st n nx ot) : Mok i 0 (mnR nx ot i st n).length (mnN nx ot i st n) (mnO nx ot i st n) := (hM.quot (eqc nx ot i n)).tr
/-- The minimal machine has the outputs of the machine. -/
theorem Mok.mn_bis {i st n : Nat} {nx ot : List (List Int)} (hM : Mok i st n nx ot) : Bis i (mnN nx ot i st n) (mnO nx ot i st n) 0 nx ot st := by
  intro u hu
  have hQ := hM.quot (eqc nx ot i n)
  have h1 := tr_run hQ u _ (st_mem _ _ _) hu
  rw [ixN_st] at h1
  exact h1.trans (hM.quot_bis hM.st u hu)
/-- Machines with the same outputs have the same minimal machine. -/
theorem mn_same {i s1 s2 n m : Nat} {nx ot mx mt : List (List Int)} (hM : Mok i s1 n nx ot) (hN : Mok i s2 m mx mt) (hb : Bis i nx ot s1 mx mt s2) : mnN nx ot i s1 n = mnN mx mt i s2 m ∧ mnO nx ot i s1 n = mnO mx mt i s2 m :=
  par_tr (hM.quot _) (hN.quot _) (fun _ _ hp hq h => hM.quot_red hp hq h) (fun _ _ hp hq h => hN.quot_red hp hq h) ((hM.quot_bis hM.st).trans (hb.trans (hN.quot_bis hN.st).symm))
theorem mnN_len (nx ot : List (List Int)) (i st n : Nat) : (mnN nx ot i st n).length = (mnR nx ot i st n).length := by unfold mnN trN; rw [List.length_map]
theorem mn_same_len {i s1 s2 n m : Nat} {nx ot mx mt : List (List Int)} (hM : Mok i s1 n nx ot) (hN : Mok i s2 m mx mt) (hb : Bis i nx ot s1 mx mt s2) : (mnR nx ot i s1 n).length = (mnR mx mt i s2 m).length := by
  rw [← mnN_len, ← mnN_len, (mn_same hM hN hb).1]
end Go.Proofs.Ytdedgpgdmnfijaa
end

section
/- How long the first distinguishing word is at most. -/
namespace Go.Proofs.Ytdedgpgdmnfijaa

/-- The two machines beside each other. -/
def unN (n : Nat) (nx1 nx2 : List (List Int)) : List (List Int) := nx1 ++ nx2.map fun r => r.map fun v : Int => v + n
def unO (ot1 ot2 : List (List Int)) : List (List Int) := ot1 ++ ot2
theorem getD_left {α : Type} {l k : List α} {d : α} {s : Nat} (h : s < l.length) : (l ++ k).getD s d = l.getD s d := by
  rw [List.getD_eq_getElem?_getD, List.getD_eq_getElem?_getD, List.getElem?_append_left h]
theorem getD_right {α : Type} {l k : List α} {d : α} {r : Nat} : (l ++ k).getD (l.length + r) d = k.getD r d := by
  rw [List.getD_eq_getElem?_getD, List.getD_eq_getElem?_getD, List.getElem?_append_right (by omega), Nat.add_sub_cancel_left]
section
variable {i s1 s2 n m : Nat} {nx1 ot1 nx2 ot2 : List (List Int)}
theorem un_rowN (hM : Mok i s1 n nx1 ot1) (hN : Mok i s2 m nx2 ot2) {r : Nat} (hr : r < m) : (unN n nx1 nx2).getD (n + r) [] = (nx2.getD r []).map fun v : Int => v + n := by
  unfold unN
  have := hM.nxl
  conv => lhs; rw [← this]
  rw [getD_right]
  rw [List.getD_eq_getElem?_getD, List.getD_eq_getElem?_getD, List.getElem?_map, List.getElem?_eq_getElem (by rw [hN.nxl]; exact hr), hM.nxl]
  rfl
theorem un_rowO (hM : Mok i s1 n nx1 ot1) (r : Nat) : (unO ot1 ot2).getD (n + r) [] = ot2.getD r [] := by
  unfold unO
  have := hM.otl
  conv => lhs; rw [← this]
  rw [getD_right]
theorem un_leftN (hM : Mok i s1 n nx1 ot1) {s : Nat} (hs : s < n) : (unN n nx1 nx2).getD s [] = nx1.getD s [] := getD_left (by rw [hM.nxl]; exact hs)
theorem un_leftO (hM : Mok i s1 n nx1 ot1) {s : Nat} (hs : s < n) : (unO ot1 ot2).getD s [] = ot1.getD s [] := getD_left (by rw [hM.otl]; exact hs)
theorem map_add {l : List Int} {n a : Nat} (h : a < l.length) : (l.map fun v : Int => v + n).getD a 0 = l.getD a 0 + n := by
  rw [List.getD_eq_getElem?_getD, List.getD_eq_getElem?_getD, List.getElem?_map, List.getElem?_eq_getElem h]; rfl
theorem Mok.un (hM : Mok i s1 n nx1 ot1) (hN : Mok i s2 m nx2 ot2) (h : n + m ≤ 128) : Mok i s1 (n + m) (unN n nx1 nx2) (unO ot1 ot2) where
  i1 := hM.i1
  i2 := hM.i2
  n1 := by have := hM.n1; omega
  n2 := h
  st := by have := hM.st; omega
  nxl := by unfold unN; rw [List.length_append, List.length_map, hM.nxl, hN.nxl]
  otl := by unfold unO; rw [List.length_append, hM.otl, hN.otl]
  row := fun s hs => by
    by_cases h1 : s < n
    · rw [un_leftN hM h1, un_leftO hM h1]
      obtain ⟨a, b, c⟩ := hM.row s h1
      exact ⟨a, b, fun x hx => by have := c x hx; omega⟩
    · obtain ⟨r, rfl⟩ : ∃ r, s = n + r := ⟨s - n, by omega⟩
      have hr : r < m := by omega
      rw [un_rowN hM hN hr, un_rowO hM]
      obtain ⟨a, b, c⟩ := hN.row r hr
      refine ⟨by rw [List.length_map]; exact a, b, fun x hx => ?_⟩
      rw [map_add (by omega)]
      have := c x hx
      omega
theorem un_left (hM : Mok i s1 n nx1 ot1) : ∀ (u : List Int) (s : Nat), s < n → Wd i u → runO (unN n nx1 nx2) (unO ot1 ot2) s u = runO nx1 ot1 s u
  | [], _, _, _ => rfl
  | x :: u, s, hs, hu => by
    obtain ⟨a, rfl, ha⟩ := hu.head
    have e1 : nN (unN n nx1 nx2) s a = nN nx1 s a := by unfold nN; rw [un_leftN hM hs]
    have e2 : oN (unO ot1 ot2) s a = oN ot1 s a := by unfold oN; rw [un_leftO hM hs]
    simp only [runO, Int.toNat_natCast]
    rw [e1, e2, un_left hM u _ (hM.nN_lt hs ha) hu.tail]
theorem un_right (hM : Mok i s1 n nx1 ot1) (hN : Mok i s2 m nx2 ot2) : ∀ (u : List Int) (r : Nat), r < m → Wd i u → runO (unN n nx1 nx2) (unO ot1 ot2) (n + r) u = runO nx2 ot2 r u
  | [], _, _, _ => rfl
  | x :: u, r, hr, hu => by
    obtain ⟨a, rfl, ha⟩ := hu.head
    have w := (hN.row r hr).1
    have e0 := hN.nN_eq hr ha
    have e1 : nN (unN n nx1 nx2) (n + r) a = n + nN nx2 r a := by
      show (((unN n nx1 nx2).getD (n + r) []).getD a 0).toNat = _
      rw [un_rowN hM hN hr, map_add (by omega), e0]
      omega
    have e2 : oN (unO ot1 ot2) (n + r) a = oN ot2 r a := by unfold oN; rw [un_rowO hM]
    simp only [runO, Int.toNat_natCast]
    rw [e1, e2, un_right hM hN u _ (hN.nN_lt hr ha) hu.tail]
theorem Mok.cN_word (hM : Mok i s1 n nx1 ot1) : ∀ (k : Nat) {s t : Nat}, s < n → t < n → ¬ cN nx1 ot1 i n k s = cN nx1 ot1 i n k t → ∃ u, Wd i u ∧ u.length ≤ k ∧ ¬ runO nx1 ot1 s u = runO nx1 ot1 t u
  | 0, s, t, hs, ht, h => absurd (by rw [cN_zero hs, cN_zero ht]) h
  | k + 1, s, t, hs, ht, h => by
    have h1 : ¬ ∀ a, a < i → oN ot1 s a = oN ot1 t a ∧ cN nx1 ot1 i n k (nN nx1 s a) = cN nx1 ot1 i n k (nN nx1 t a) := fun H => h ((hM.cN_succ hs ht).2 H)
    obtain ⟨a, h2⟩ := Classical.not_forall.1 h1
    obtain ⟨ha, h3⟩ := Classical.not_imp.1 h2
    by_cases ho : oN ot1 s a = oN ot1 t a
    · obtain ⟨u, hu, hl, hd⟩ := hM.cN_word k (hM.nN_lt hs ha) (hM.nN_lt ht ha) (fun e => h3 ⟨ho, e⟩)
      refine ⟨(a : Int) :: u, hu.cons ha, by simpa using hl, fun e => ?_⟩
      simp only [runO, Int.toNat_natCast, List.cons.injEq] at e
      exact hd e.2
    · refine ⟨[(a : Int)], Wd.one ha, by simp, fun e => ?_⟩
      simp only [runO, Int.toNat_natCast, List.cons.injEq] at e
      exact ho e.1
theorem dst_short {s t : Nat} {v : List Int} (hM : Mok i s1 n nx1 ot1) (hN : Mok i s2 m nx2 ot2) (hnm : n + m ≤ 128) (hs : s < n) (ht : t < m) (h : dst nx1 ot1 nx2 ot2 i n m s t = some v) : v.length < n + m := by
  have hU := hM.un hN hnm
  have hnb : ¬ Bis i (unN n nx1 nx2) (unO ot1 ot2) s (unN n nx1 nx2) (unO ot1 ot2) (n + t) := fun hb => dst_not h fun u hu => by
    have := hb u hu
    rw [un_left hM u s hs hu, un_right hM hN u t ht hu] at this
    exact this
  have hne := fun e => hnb ((hU.eqc_bis (s := s) (t := n + t) (by omega) (by omega)).1 e)
  obtain ⟨u, hu, hl, hd⟩ := hU.cN_word (dep (unN n nx1 nx2) (unO ot1 ot2) i (n + m)) (s := s) (t := n + t) (by omega) (by omega) hne
  have hdl := hU.dep_lt
  rw [un_left hM u s hs hu, un_right hM hN u t ht hu] at hd
  rcases Nat.lt_or_ge u.length v.length with h1 | h1
  · exact absurd (dst_first h u hu (.inl h1)) hd
  · omega
end
end Go.Proofs.Ytdedgpgdmnfijaa
end
