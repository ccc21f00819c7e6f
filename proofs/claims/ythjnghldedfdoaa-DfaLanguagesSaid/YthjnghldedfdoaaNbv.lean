/- Lemmas of the proofs of this seat, of the parts Ordp, Swp, Cmpr, Dlnp. Conditions: none. -/
import Derived.Test.YthjnghldedfdoaaNaa
import Derived.Test.YthjnghldedfdoaaNab
import Derived.Test.YthjnghldedfdoaaNbw
section
/- Plain: both orders are total orders. No program. -/
namespace Go.Proofs.Ythjnghldedfdoaa

/-- Dictionary order, symbol by symbol. -/
def lexR : List Int → List Int → Int
  | [], [] => 0
  | [], _ :: _ => -1
  | _ :: _, [] => 1
  | a :: as1, b :: bs => if a < b then -1 else if b < a then 1 else lexR as1 bs

theorem lexi_lexR (xs ys : List Int) : lexi xs ys = lexR xs ys := by
  induction xs generalizing ys with
  | nil => cases ys <;> simp [lexi, lexR, cmn]
  | cons a as1 ih =>
    cases ys with
    | nil => simp [lexi, lexR, cmn]
    | cons b bs =>
      have h := ih bs
      unfold lexi at h ⊢
      rw [lexR, cmn]
      by_cases e : a = b
      · subst e
        rw [if_pos rfl, if_neg (Int.lt_irrefl a), if_neg (Int.lt_irrefl a), ← h]
        simp
      · rw [if_neg e]
        simp only [List.length_cons]
        rw [if_neg (by omega)]
        by_cases h1 : a < b
        · rw [if_pos h1, if_pos (by simp [h1])]
        · have h2 : b < a := by omega
          simp [h1, h2]

theorem lexR_bd (xs ys : List Int) : -1 ≤ lexR xs ys ∧ lexR xs ys ≤ 1 := by
  induction xs generalizing ys with
  | nil => cases ys <;> simp [lexR]
  | cons a as1 ih =>
    cases ys with
    | nil => simp [lexR]
    | cons b bs =>
      rw [lexR]
      split
      · omega
      · split
        · omega
        · exact ih bs

theorem lexR_neg (xs ys : List Int) : lexR ys xs = - lexR xs ys := by
  induction xs generalizing ys with
  | nil => cases ys <;> simp [lexR]
  | cons a as1 ih =>
    cases ys with
    | nil => simp [lexR]
    | cons b bs =>
      rw [lexR, lexR]
      by_cases h1 : a < b
      · rw [if_neg (by omega), if_pos h1, if_pos h1]; rfl
      · by_cases h2 : b < a
        · rw [if_pos h2, if_neg h1, if_pos h2]
        · rw [if_neg h2, if_neg h1, if_neg h1, if_neg h2, ih bs]

theorem lexR_zero (xs ys : List Int) : lexR xs ys = 0 ↔ xs = ys := by
  induction xs generalizing ys with
  | nil => cases ys <;> simp [lexR]
  | cons a as1 ih =>
    cases ys with
    | nil => simp [lexR]
    | cons b bs =>
      rw [lexR]
      by_cases h1 : a < b
      · rw [if_pos h1]; constructor; (intro h; omega); (intro h; cases h; omega)
      · by_cases h2 : b < a
        · rw [if_neg h1, if_pos h2]; constructor; (intro h; omega); (intro h; cases h; omega)
        · rw [if_neg h1, if_neg h2, ih bs]
          have : a = b := by omega
          simp [this]

theorem lexR_trans (xs ys zs : List Int) : (lexR xs ys ≤ 0 → lexR ys zs ≤ 0 → lexR xs zs ≤ 0) ∧ (lexR xs ys < 0 → lexR ys zs ≤ 0 → lexR xs zs < 0) := by
  induction xs generalizing ys zs with
  | nil => cases ys <;> cases zs <;> simp [lexR]
  | cons a as1 ih =>
    cases ys with
    | nil => simp [lexR]
    | cons b bs =>
      cases zs with
      | nil => simp [lexR]
      | cons c cs =>
        have := ih bs cs
        rw [lexR, lexR, lexR]
        repeat' split
        all_goals omega

theorem lexR_join (cs xs ys : List Int) : lexR (cs ++ xs) (cs ++ ys) = lexR xs ys := by
  induction cs with
  | nil => rfl
  | cons c cs ih => rw [List.cons_append, List.cons_append, lexR, if_neg (Int.lt_irrefl c), if_neg (Int.lt_irrefl c), ih]

theorem shlex_def (xs ys : List Int) : shlex xs ys = if xs.length < ys.length then -1 else if ys.length < xs.length then 1 else lexR xs ys := by
  unfold shlex; rw [lexi_lexR]

theorem shlex_bd (xs ys : List Int) : -1 ≤ shlex xs ys ∧ shlex xs ys ≤ 1 := by
  have := lexR_bd xs ys
  rw [shlex_def]; split; omega; split; omega; omega

theorem shlex_neg (xs ys : List Int) : shlex ys xs = - shlex xs ys := by
  rw [shlex_def, shlex_def, lexR_neg xs ys]
  by_cases h1 : xs.length < ys.length
  · rw [if_neg (by omega), if_pos h1, if_pos h1]; rfl
  · by_cases h2 : ys.length < xs.length
    · rw [if_pos h2, if_neg h1, if_pos h2]
    · rw [if_neg h2, if_neg h1, if_neg h1, if_neg h2]

theorem shlex_zero (xs ys : List Int) : shlex xs ys = 0 ↔ xs = ys := by
  rw [shlex_def]
  by_cases h1 : xs.length < ys.length
  · rw [if_pos h1]; constructor; (intro h; omega); (intro h; subst h; omega)
  · by_cases h2 : ys.length < xs.length
    · rw [if_neg h1, if_pos h2]; constructor; (intro h; omega); (intro h; subst h; omega)
    · rw [if_neg h1, if_neg h2, lexR_zero]

theorem shlex_trans (xs ys zs : List Int) : (shlex xs ys ≤ 0 → shlex ys zs ≤ 0 → shlex xs zs ≤ 0) ∧ (shlex xs ys < 0 → shlex ys zs ≤ 0 → shlex xs zs < 0) := by
  have := lexR_trans xs ys zs
  rw [shlex_def, shlex_def, shlex_def]
  repeat' split
  all_goals omega

theorem shlex_join (cs xs ys : List Int) : shlex (cs ++ xs) (cs ++ ys) = shlex xs ys := by
  rw [shlex_def, shlex_def, lexR_join, List.length_append, List.length_append]
  by_cases h1 : xs.length < ys.length
  · rw [if_pos (by omega), if_pos h1]
  · by_cases h2 : ys.length < xs.length
    · rw [if_neg (by omega), if_pos (by omega), if_neg h1, if_pos h2]
    · rw [if_neg (by omega), if_neg (by omega), if_neg h1, if_neg h2]

theorem lexR_prefix (xs ys : List Int) (h : cmn xs ys = ys.length) : 0 ≤ lexR xs ys := by
  rw [← lexi_lexR]
  have := cmn_le_left xs ys
  unfold lexi
  split
  · omega
  · rw [if_neg (by omega)]; omega

theorem shlex_prefix (xs ys : List Int) (h : cmn xs ys = ys.length) : 0 ≤ shlex xs ys := by
  have h1 := lexR_prefix xs ys h
  have := cmn_le_left xs ys
  rw [shlex_def, if_neg (by omega)]
  split <;> omega
end Go.Proofs.Ythjnghldedfdoaa
end

section
/- Sets of words: the sorted list of the different words of a list. No program. -/
namespace Go.Proofs.Ythjnghldedfdoaa

/-- Ascending by shortlex order. -/
def AscW (l : List (List Int)) : Prop := l.Pairwise fun x y => shlex x y < 0
theorem shlex_lt_trans {x y z : List Int} (h1 : shlex x y < 0) (h2 : shlex y z < 0) : shlex x z < 0 := (shlex_trans x y z).2 h1 (Int.le_of_lt h2)
theorem shlex_irr (x : List Int) : shlex x x = 0 := (shlex_zero x x).2 rfl
theorem shlex_gt' {x y : List Int} (h : ¬ shlex x y < 0) (hne : x ≠ y) : shlex y x < 0 := by
  have h1 := shlex_neg x y
  have h2 : shlex x y ≠ 0 := fun e => hne ((shlex_zero x y).1 e)
  omega

/-- Two ascending lists with the same words are one. -/
theorem ascW_eq {xs ys : List (List Int)} (hx : AscW xs) (hy : AscW ys) (h : ∀ x, x ∈ xs ↔ x ∈ ys) : xs = ys := by
  induction xs generalizing ys with
  | nil =>
    cases ys with
    | nil => rfl
    | cons y ys => exact absurd ((h y).2 List.mem_cons_self) (by simp)
  | cons x xs ih =>
    cases ys with
    | nil => exact absurd ((h x).1 List.mem_cons_self) (by simp)
    | cons y ys =>
      have hx' := List.pairwise_cons.1 hx
      have hy' := List.pairwise_cons.1 hy
      have irr : ∀ a b : List Int, shlex a b < 0 → shlex b a < 0 → False := fun a b h1 h2 => by have := shlex_neg a b; omega
      have irr0 : ∀ a : List Int, ¬ shlex a a < 0 := fun a h1 => by have := shlex_irr a; omega
      have e : x = y := by
        rcases List.mem_cons.1 ((h x).1 List.mem_cons_self) with e | e
        · exact e
        · rcases List.mem_cons.1 ((h y).2 List.mem_cons_self) with e2 | e2
          · exact e2.symm
          · exact (irr _ _ (hy'.1 x e) (hx'.1 y e2)).elim
      subst e
      congr 1
      refine ih hx'.2 hy'.2 fun z => ⟨fun k => ?_, fun k => ?_⟩
      · rcases List.mem_cons.1 ((h z).1 (List.mem_cons_of_mem _ k)) with e | e
        · exact (irr0 x (e ▸ hx'.1 z k)).elim
        · exact e
      · rcases List.mem_cons.1 ((h z).2 (List.mem_cons_of_mem _ k)) with e | e
        · exact (irr0 x (e ▸ hy'.1 z k)).elim
        · exact e

/-- A word put into a sorted list. -/
def wins : List (List Int) → List Int → List (List Int)
  | [], v => [v]
  | x :: l, v => if shlex x v < 0 then x :: wins l v else if x = v then x :: l else v :: x :: l
theorem wins_mem (l : List (List Int)) (v x : List Int) : x ∈ wins l v ↔ x = v ∨ x ∈ l := by
  induction l with
  | nil => simp [wins]
  | cons y l ih =>
    unfold wins
    split
    · rw [List.mem_cons, ih, List.mem_cons]; exact ⟨fun h => h.elim (fun h => .inr (.inl h)) (fun h => h.elim .inl fun h => .inr (.inr h)), fun h => h.elim (fun h => .inr (.inl h)) fun h => h.elim .inl fun h => .inr (.inr h)⟩
    · split
      · rename_i e
        subst e
        exact ⟨.inr, fun h => h.elim (fun h => h ▸ List.mem_cons_self) id⟩
      · simp
theorem wins_asc {l : List (List Int)} {v : List Int} (h : AscW l) : AscW (wins l v) := by
  induction l with
  | nil => simp [wins, AscW]
  | cons y l ih =>
    have h' := List.pairwise_cons.1 h
    unfold wins
    split
    · rename_i hlt
      refine List.pairwise_cons.2 ⟨fun x hx => ?_, ih h'.2⟩
      rcases (wins_mem l v x).1 hx with rfl | hx
      · exact hlt
      · exact h'.1 x hx
    · split
      · exact h
      · rename_i hlt hne
        have hlt2 := shlex_gt' hlt hne
        refine List.pairwise_cons.2 ⟨fun x hx => ?_, h⟩
        rcases List.mem_cons.1 hx with rfl | hx
        · exact hlt2
        · exact shlex_lt_trans hlt2 (h'.1 x hx)

/-- The sorted list of the different words. -/
def swA : List (List Int) → List (List Int) → List (List Int)
  | [], acc => acc
  | x :: r, acc => swA r (wins acc x)
def sw (l : List (List Int)) : List (List Int) := swA l []
theorem swA_asc {l acc : List (List Int)} (h : AscW acc) : AscW (swA l acc) := by
  induction l generalizing acc with
  | nil => exact h
  | cons x l ih => exact ih (wins_asc h)
theorem swA_mem (l acc : List (List Int)) (x : List Int) : x ∈ swA l acc ↔ x ∈ acc ∨ x ∈ l := by
  induction l generalizing acc with
  | nil => simp [swA]
  | cons y l ih =>
    show x ∈ swA l (wins acc y) ↔ _
    rw [ih, wins_mem, List.mem_cons]
    exact ⟨fun h => h.elim (fun h => h.elim (fun h => .inr (.inl h)) .inl) (fun h => .inr (.inr h)), fun h => h.elim (fun h => .inl (.inr h)) fun h => h.elim (fun h => .inl (.inl h)) .inr⟩
theorem sw_asc (l : List (List Int)) : AscW (sw l) := swA_asc List.Pairwise.nil
theorem sw_mem (l : List (List Int)) (x : List Int) : x ∈ sw l ↔ x ∈ l := by unfold sw; rw [swA_mem]; simp
theorem sw_eq {l out : List (List Int)} (h : AscW out) (hm : ∀ x, x ∈ out ↔ x ∈ l) : out = sw l := ascW_eq h (sw_asc l) fun x => (hm x).trans (sw_mem l x).symm
theorem sw_same {l m : List (List Int)} (h : ∀ x, x ∈ l ↔ x ∈ m) : sw l = sw m := sw_eq (sw_asc l) fun x => (sw_mem l x).trans (h x)
theorem sw_sw (l : List (List Int)) : sw (sw l) = sw l := sw_same (sw_mem l)
theorem sw_self {l : List (List Int)} (h : AscW l) : sw l = l := (sw_eq h fun _ => Iff.rfl).symm
theorem swA_drop {l : List (List Int)} {j : Nat} (h : j < l.length) (acc : List (List Int)) : swA (l.drop j) acc = swA (l.drop (j + 1)) (wins acc (l.getD j [])) := by
  rw [List.drop_eq_getElem_cons h, List.getD_eq_getElem?_getD, List.getElem?_eq_getElem h]; rfl
theorem wins_len (l : List (List Int)) (v : List Int) : (wins l v).length ≤ l.length + 1 := by
  induction l with
  | nil => simp [wins]
  | cons x l ih =>
    unfold wins
    split
    · simp; exact ih
    · split <;> simp
theorem swA_len (l acc : List (List Int)) : (swA l acc).length ≤ acc.length + l.length := by
  induction l generalizing acc with
  | nil => exact Nat.le_refl _
  | cons x l ih =>
    have h1 := ih (wins acc x)
    have h2 := wins_len acc x
    show (swA l (wins acc x)).length ≤ _
    rw [List.length_cons]; omega
theorem sw_len (l : List (List Int)) : (sw l).length ≤ l.length := by have := swA_len l []; simpa [sw] using this
end Go.Proofs.Ythjnghldedfdoaa
end

section
/- The reference: Lex and Compare. -/
namespace Go.Proofs.Ythjnghldedfdoaa
open Go.RowKit

set_option maxHeartbeats 400000 in
theorem rlex (A B : Option Addr) (n c m d : Nat) (xs ys : List Int) (w : World) (hx : Ints w A n xs) (hy : Ints w B m ys) :
    Calls Try.prog 73 #[.slice A n c, .slice B m d] w fun e w' => e = .returned (.int .i64 (lexi xs ys)) ∧ ∃ q, w' = w.drewN q := by
  have L1 := Lib.hid hx.1
  have L2 := Lib.hid hy.1
  have hn := hx.2.1
  have hm := hy.2.1
  have l1 : cmn xs ys ≤ n := by rw [← L1.out]; exact cmn_le_left _ _
  have l2 : cmn xs ys ≤ m := by rw [← L2.out]; exact cmn_le_right _ _
  have hag := Lib.hid (cmn_agree xs ys)
  obtain ⟨t, ht⟩ : ∃ t, t = cmn xs ys := ⟨_, rfl⟩
  rw [← ht] at l1 l2 hag
  have HT := Lib.hid ht
  have call : ∀ w0 : World, w0 = w → Calls Try.prog 51 #[.slice A n c, .slice B m d] w0 fun e w' => e = .returned (.int .i64 (t : Int)) ∧ ∃ q, w' = w0.drewN q := by
    intro w0 e0; subst e0; rw [ht]; exact rcommon _ _ _ _ _ _ xs ys _ hx hy
  have HC := Lib.hid call
  clear ht call
  by_cases h1 : t = n
  · by_cases h2 : t = m
    · have b1 : ((t : Int) == (n : Int)) = true := by simp; omega
      have b2 : ((t : Int) == (m : Int)) = true := by simp; omega
      have hfin := Lib.hid (lexi_same (xs := xs) (ys := ys) (by rw [L1.out, L2.out]; omega) (by rw [L1.out, ← h1]; exact hag.out))
      clear h1 h2
      go_enter Try.func73, Try.ntmps73
      go_wp2_with (go_at_call 51; refine (HC.out _ rfl).mono ?_; rintro e w' ⟨rfl, q, rfl⟩)
      go_ret
      exact ⟨ret_int (by rw [hfin.out]), _, rfl⟩
    · have b1 : ((t : Int) == (n : Int)) = true := by simp; omega
      have b2 : ((t : Int) == (m : Int)) = false := by simp; omega
      have hfin := Lib.hid (lexi_short (xs := xs) (ys := ys) (by rw [L1.out, L2.out]; omega) (by rw [L1.out, ← h1]; exact hag.out))
      clear h1 h2
      go_enter Try.func73, Try.ntmps73
      go_wp2_with (go_at_call 51; refine (HC.out _ rfl).mono ?_; rintro e w' ⟨rfl, q, rfl⟩)
      go_ret
      exact ⟨ret_int (by rw [hfin.out]), _, rfl⟩
  · have b1 : ((t : Int) == (n : Int)) = false := by simp; omega
    by_cases h2 : t < m
    · obtain ⟨b1', o1, rfl, _, hc1⟩ := hx.at_ (k := t) (by omega)
      obtain ⟨b2', o2, rfl, _, hc2⟩ := hy.at_ (k := t) (by omega)
      have hne : xs[t]?.getD 0 ≠ ys[t]?.getD 0 := by
        have := cmn_part xs ys (by rw [← HT.out, L1.out]; omega) (by rw [← HT.out, L2.out]; omega)
        rw [← HT.out] at this
        simpa using this
      have hfin := Lib.hid (lexi_of (xs := xs) (ys := ys) (j := t) (by rw [L1.out]; omega) (by rw [L2.out]; omega) hag.out (by simpa using hne))
      have d2 : decide ((t : Int) < (m : Int)) = true := by simp; omega
      have ht1 : t < n := by omega
      clear h1
      by_cases hlt : xs[t]?.getD 0 < ys[t]?.getD 0
      · have d3 : decide (xs[t]?.getD 0 < ys[t]?.getD 0) = true := by simpa using hlt
        have hz := Lib.hid (show cmpI (xs.getD t 0) (ys.getD t 0) = -1 by unfold cmpI; rw [if_pos (by simpa using hlt)])
        clear hne
        go_enter Try.func73, Try.ntmps73
        go_wp2_with (go_at_call 51; refine (HC.out _ rfl).mono ?_; rintro e w' ⟨rfl, q, rfl⟩)
        go_quiet (fail)
        go_wp2
        go_ret
        exact ⟨ret_int (by rw [hfin.out, hz.out]), by first | exact ⟨_, rfl⟩ | exact ⟨_, World.drewN_drewN _ _ _⟩⟩
      · have d3 : decide (xs[t]?.getD 0 < ys[t]?.getD 0) = false := by simpa using hlt
        have hgt : ys[t]?.getD 0 < xs[t]?.getD 0 := by omega
        have hz := Lib.hid (show cmpI (xs.getD t 0) (ys.getD t 0) = 1 by unfold cmpI; rw [if_neg (by simpa using hlt), if_pos (by simpa using hgt)])
        clear hne hlt
        go_enter Try.func73, Try.ntmps73
        go_wp2_with (go_at_call 51; refine (HC.out _ rfl).mono ?_; rintro e w' ⟨rfl, q, rfl⟩)
        go_quiet (fail)
        go_wp2
        go_ret
        exact ⟨ret_int (by rw [hfin.out, hz.out]), by first | exact ⟨_, rfl⟩ | exact ⟨_, World.drewN_drewN _ _ _⟩⟩
    · have d2 : decide (t < m) = false := by simp; omega
      have hfin := Lib.hid (lexi_long (xs := xs) (ys := ys) (by rw [L1.out, L2.out]; omega) (by rw [L2.out]; exact (by omega : t = m) ▸ hag.out))
      clear h1 h2
      go_enter Try.func73, Try.ntmps73
      go_wp2_with (go_at_call 51; refine (HC.out _ rfl).mono ?_; rintro e w' ⟨rfl, q, rfl⟩)
      go_quiet (fail)
      go_wp2
      go_ret
      exact ⟨ret_int (by rw [hfin.out]), by first | exact ⟨_, rfl⟩ | exact ⟨_, World.drewN_drewN _ _ _⟩⟩

theorem rcompare (A B : Option Addr) (n c m d : Nat) (xs ys : List Int) (w : World) (hx : Ints w A n xs) (hy : Ints w B m ys) :
    Calls Try.prog 37 #[.slice A n c, .slice B m d] w fun e w' => e = .returned (.int .i64 (shlex xs ys)) ∧ ∃ q, w' = w.drewN q := by
  have L1 := Lib.hid hx.1
  have L2 := Lib.hid hy.1
  by_cases h : n < m
  · have hfin := Lib.hid (shlex_lt (xs := xs) (ys := ys) (by rw [L1.out, L2.out]; exact h))
    go_enter Try.func37, Try.ntmps37
    go_wp2
    go_ret
    exact ⟨ret_int (by rw [hfin.out]), 0, rfl⟩
  · by_cases h' : m < n
    · have hfin := Lib.hid (shlex_gt (xs := xs) (ys := ys) (by rw [L1.out, L2.out]; omega))
      go_enter Try.func37, Try.ntmps37
      go_wp2
      go_ret
      exact ⟨ret_int (by rw [hfin.out]), 0, rfl⟩
    · have hfin := Lib.hid (shlex_eq (xs := xs) (ys := ys) (by rw [L1.out, L2.out]; omega))
      go_enter Try.func37, Try.ntmps37
      go_wp2_with (go_at_call 73; refine (rlex _ _ _ _ _ _ xs ys _ hx hy).mono ?_; rintro e w' ⟨rfl, q, rfl⟩)
      go_ret
      exact ⟨ret_int (by rw [hfin.out]), _, rfl⟩
end Go.Proofs.Ythjnghldedfdoaa
end

section
/- What the law DfaLanguages says of words. -/
namespace Go.Proofs.Ythjnghldedfdoaa

theorem SL_nil2 (u : List Int) : ¬ SL u [] := by
  intro h
  cases u <;> simp [SL, Lx] at h
/-- A minimal automaton accepts the words of its language. -/
theorem Mn.acc {L : List Int → Bool} {i : Nat} {N : List (List Int)} {A : List Bool} (h : Mn L i N A) {u : List Int} (hu : Wd i u) : aN A (runS N 0 u) = L u := by
  obtain ⟨κ, f, W, hc, hf⟩ := h
  have hW : ∀ k, k < W.length → Wd i (W.getD k []) := fun k hk => hc.cw.wd _ (by rw [List.getD_eq_getElem?_getD, List.getElem?_eq_getElem hk]; exact List.getElem_mem _)
  have hmem : [] ∈ W := by
    obtain ⟨v, hv, e⟩ := hc.cw.co [] (Wd.nil i)
    cases v with
    | nil => exact hv
    | cons x r => exact absurd e.symm (hc.cw.le _ hv [] (Wd.nil i) (.inl (by simp)))
  have h0 : 0 < W.length := List.length_pos_of_mem hmem
  have hz : W.getD 0 [] = [] := by
    cases hW0 : W with
    | nil => rfl
    | cons y r =>
      have hs := hc.cw.so
      rw [hW0] at hs hmem
      rcases List.mem_cons.mp hmem with e | e
      · rw [← e]; rfl
      · exact absurd ((List.pairwise_cons.mp hs).1 [] e) (SL_nil2 y)
  have cong : ∀ a b z, Wd i a → Wd i b → Wd i z → f a = f b → f (a ++ z) = f (b ++ z) := fun a b z ha hb hz e => by
    have := (hf a b ha hb).mp e
    refine (hf _ _ (ha.app hz) (hb.app hz)).mpr fun y hy => ?_
    rw [List.append_assoc, List.append_assoc]
    exact this (z ++ y) (hz.app hy)
  have run : ∀ (u : List Int) (k : Nat), k < W.length → Wd i u → runS N k u < W.length ∧ f (W.getD (runS N k u) []) = f (W.getD k [] ++ u) := by
    intro u
    induction u with
    | nil => intro k hk _; exact ⟨hk, by rw [List.append_nil]; rfl⟩
    | cons x u ih =>
      intro k hk hu
      obtain ⟨a, rfl, ha⟩ := hu.head
      obtain ⟨j, hj, e, ef⟩ := hc.rx k a hk ha
      have e2 : nN N k ((a : Int)).toNat = j := by unfold nN; rw [Int.toNat_natCast, e, Int.toNat_natCast]
      obtain ⟨h1, h2⟩ := ih j hj hu.tail
      have e3 : runS N k ((a : Int) :: u) = runS N j u := by show runS N (nN N k ((a : Int)).toNat) u = _; rw [e2]
      rw [e3]
      refine ⟨h1, h2.trans ?_⟩
      rw [cong _ _ u (hW j hj) ((hW k hk).app (Wd.one ha)) hu.tail ef, List.append_assoc]
      rfl
  obtain ⟨h1, h2⟩ := run u 0 h0 hu
  rw [hz, List.nil_append] at h2
  have h3 := (hf _ _ (hW _ h1) hu).mp h2 [] (Wd.nil i)
  rw [List.append_nil, List.append_nil] at h3
  rw [← h3]
  exact hc.ac _ h1
theorem shlex_not2 {u v : List Int} (h : ¬ SL v u) : shlex u v ≤ 0 := by
  by_cases h1 : shlex v u < 0
  · exact absurd (shlex_sl h1) h
  · by_cases e : v = u
    · subst e; rw [shlex_irr]; exact Int.le_refl _
    · exact Int.le_of_lt (shlex_gt' h1 e)
section
variable {i st n st' n' : Nat} {nx nx' : List (List Int)} {ac ac' : List Bool}
/-- A combination accepts what the operation says. -/
theorem cmb_acc (k : Nat) (h : Dok i st n nx ac) (h' : Dok i st' n' nx' ac') {u : List Int} (hu : Wd i u) :
    aN (autA (opA k ac ac') (cmE i st n st' n' nx nx')) (runS (autN (bothF nx nx') i (cmE i st n st' n' nx nx')) 0 u) = opB k (aN ac (runS nx st u)) (aN ac' (runS nx' st' u)) := by
  have := aut_acc (opA k ac ac') (both_stp h h') (cm_ens h h') (cm_ord h h') hu
  rw [both_run] at this
  exact this
/-- The two ways of Differ. -/
theorem diff_ways (h : Dok i st n nx ac) (h' : Dok i st' n' nx' ac') (hn : n ≤ 12) (hn' : n' ≤ 12) :
    (fwR (fun p => aN ac p.1 != aN ac' p.2) (cmE i st n st' n' nx nx') = ([], false) ∧ ∀ u, Wd i u → aN ac (runS nx st u) = aN ac' (runS nx' st' u)) ∨
    ∃ v, fwR (fun p => aN ac p.1 != aN ac' p.2) (cmE i st n st' n' nx nx') = (v, true) ∧ Wd i v ∧ v.length ≤ 144 ∧ aN ac' (runS nx' st' v) = (!aN ac (runS nx st v)) ∧
      ∀ u, Wd i u → aN ac (runS nx st u) ≠ aN ac' (runS nx' st' u) → shlex v u ≤ 0 := by
  have hlen := (cm_ens h h').len
  have hl2 : n * n' ≤ 12 * 12 := Nat.mul_le_mul hn hn'
  rcases fw_ways (cm_ord h h') (fun p => aN ac p.1 != aN ac' p.2) with ⟨h1, h2⟩ | ⟨v, h1, h2, h3, h4, h5⟩
  · refine .inl ⟨h1, fun u hu => ?_⟩
    have := h2 u hu
    rw [both_run] at this
    simpa using this
  · rw [both_run] at h4
    refine .inr ⟨v, h1, h2, by omega, ?_, fun u hu hne => shlex_not2 (h5 u hu (by rw [both_run]; simpa using hne))⟩
    revert h4
    cases aN ac (runS nx st v) <;> cases aN ac' (runS nx' st' v) <;> simp
end
end Go.Proofs.Ythjnghldedfdoaa
end
