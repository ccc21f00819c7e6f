/- Lemmas of the proofs of this seat, of the parts Ordp, Swp, Lexp, Cptp, Keyp, Cmpw, Cmpr, Commw, Pfw, Less. Conditions: none. -/
import Derived.Test.YtakhphhpjcpphaaGreatDoorMa
import Derived.Lib.ItoaLen
import Derived.Test.YtakhphhpjcpphaaGreatDoorProg
import Derived.WalkSpells
import Derived.WalkLawsBesides
import Derived.Outline
import Derived.Deep.QuietTactic
import Derived.BigQuiet
import Derived.Shelf.Abstract
section
/- Plain: both orders are total orders. No program. -/
namespace Go.Proofs.YtakhphhpjcpphaaGreatDoor

/-- Dictionary order, symbol by symbol. -/
def lexR : List Int → List Int → Int
  | [], [] => 0
  | [], _ :: _ => -1
  | _ :: _, [] => 1
  | a :: as1, b :: bs => if a < b then -1 else if b < a then 1 else lexR as1 bs

theorem lexi_lexR (xs ys : List Int) : lexi xs ys = lexR xs ys := by
  induction xs generalizing ys with
  | nil => cases ys <;> simp [lexi, lexR, cmn]
  | cons a as1 ih =>
    cases ys with
    | nil => simp [lexi, lexR, cmn]
    | cons b bs =>
      have h := ih bs
      unfold lexi at h ⊢
      rw [lexR, cmn]
      by_cases e : a = b
      · subst e
        rw [if_pos rfl, if_neg (Int.lt_irrefl a), if_neg (Int.lt_irrefl a), ← h]
        simp
      · rw [if_neg e]
        simp only [List.length_cons]
        rw [if_neg (by omega)]
        by_cases h1 : a < b
        · rw [if_pos h1, if_pos (by simp [h1])]
        · have h2 : b < a := by omega
          simp [h1, h2]

theorem lexR_bd (xs ys : List Int) : -1 ≤ lexR xs ys ∧ lexR xs ys ≤ 1 := by
  induction xs generalizing ys with
  | nil => cases ys <;> simp [lexR]
  | cons a as1 ih =>
    cases ys with
    | nil => simp [lexR]
    | cons b bs =>
      rw [lexR]
      split
      · omega
      · split
        · omega
        · exact ih bs

theorem lexR_neg (xs ys : List Int) : lexR ys xs = - lexR xs ys := by
  induction xs generalizing ys with
  | nil => cases ys <;> simp [lexR]
  | cons a as1 ih =>
    cases ys with
    | nil => simp [lexR]
    | cons b bs =>
      rw [lexR, lexR]
      by_cases h1 : a < b
      · rw [if_neg (by omega), if_pos h1, if_pos h1]; rfl
      · by_cases h2 : b < a
        · rw [if_pos h2, if_neg h1, if_pos h2]
        · rw [if_neg h2, if_neg h1, if_neg h1, if_neg h2, ih bs]

theorem lexR_zero (xs ys : List Int) : lexR xs ys = 0 ↔ xs = ys := by
  induction xs generalizing ys with
  | nil => cases ys <;> simp [lexR]
  | cons a as1 ih =>
    cases ys with
    | nil => simp [lexR]
    | cons b bs =>
      rw [lexR]
      by_cases h1 : a < b
      · rw [if_pos h1]; constructor; (intro h; omega); (intro h; cases h; omega)
      · by_cases h2 : b < a
        · rw [if_neg h1, if_pos h2]; constructor; (intro h; omega); (intro h; cases h; omega)
        · rw [if_neg h1, if_neg h2, ih bs]
          have : a = b := by omega
          simp [this]

theorem lexR_trans (xs ys zs : List Int) : (lexR xs ys ≤ 0 → lexR ys zs ≤ 0 → lexR xs zs ≤ 0) ∧ (lexR xs ys < 0 → lexR ys zs ≤ 0 → lexR xs zs < 0) := by
  induction xs generalizing ys zs with
  | nil => cases ys <;> cases zs <;> simp [lexR]
  | cons a as1 ih =>
    cases ys with
    | nil => simp [lexR]
    | cons b bs =>
      cases zs with
      | nil => simp [lexR]
      | cons c cs =>
        have := ih bs cs
        rw [lexR, lexR, lexR]
        repeat' split
        all_goals omega

theorem lexR_join (cs xs ys : List Int) : lexR (cs ++ xs) (cs ++ ys) = lexR xs ys := by
  induction cs with
  | nil => rfl
  | cons c cs ih => rw [List.cons_append, List.cons_append, lexR, if_neg (Int.lt_irrefl c), if_neg (Int.lt_irrefl c), ih]

theorem shlex_def (xs ys : List Int) : shlex xs ys = if xs.length < ys.length then -1 else if ys.length < xs.length then 1 else lexR xs ys := by
  unfold shlex; rw [lexi_lexR]

theorem shlex_bd (xs ys : List Int) : -1 ≤ shlex xs ys ∧ shlex xs ys ≤ 1 := by
  have := lexR_bd xs ys
  rw [shlex_def]; split; omega; split; omega; omega

theorem shlex_neg (xs ys : List Int) : shlex ys xs = - shlex xs ys := by
  rw [shlex_def, shlex_def, lexR_neg xs ys]
  by_cases h1 : xs.length < ys.length
  · rw [if_neg (by omega), if_pos h1, if_pos h1]; rfl
  · by_cases h2 : ys.length < xs.length
    · rw [if_pos h2, if_neg h1, if_pos h2]
    · rw [if_neg h2, if_neg h1, if_neg h1, if_neg h2]

theorem shlex_zero (xs ys : List Int) : shlex xs ys = 0 ↔ xs = ys := by
  rw [shlex_def]
  by_cases h1 : xs.length < ys.length
  · rw [if_pos h1]; constructor; (intro h; omega); (intro h; subst h; omega)
  · by_cases h2 : ys.length < xs.length
    · rw [if_neg h1, if_pos h2]; constructor; (intro h; omega); (intro h; subst h; omega)
    · rw [if_neg h1, if_neg h2, lexR_zero]

theorem shlex_trans (xs ys zs : List Int) : (shlex xs ys ≤ 0 → shlex ys zs ≤ 0 → shlex xs zs ≤ 0) ∧ (shlex xs ys < 0 → shlex ys zs ≤ 0 → shlex xs zs < 0) := by
  have := lexR_trans xs ys zs
  rw [shlex_def, shlex_def, shlex_def]
  repeat' split
  all_goals omega

theorem shlex_join (cs xs ys : List Int) : shlex (cs ++ xs) (cs ++ ys) = shlex xs ys := by
  rw [shlex_def, shlex_def, lexR_join, List.length_append, List.length_append]
  by_cases h1 : xs.length < ys.length
  · rw [if_pos (by omega), if_pos h1]
  · by_cases h2 : ys.length < xs.length
    · rw [if_neg (by omega), if_pos (by omega), if_neg h1, if_pos h2]
    · rw [if_neg (by omega), if_neg (by omega), if_neg h1, if_neg h2]

theorem lexR_prefix (xs ys : List Int) (h : cmn xs ys = ys.length) : 0 ≤ lexR xs ys := by
  rw [← lexi_lexR]
  have := cmn_le_left xs ys
  unfold lexi
  split
  · omega
  · rw [if_neg (by omega)]; omega

theorem shlex_prefix (xs ys : List Int) (h : cmn xs ys = ys.length) : 0 ≤ shlex xs ys := by
  have h1 := lexR_prefix xs ys h
  have := cmn_le_left xs ys
  rw [shlex_def, if_neg (by omega)]
  split <;> omega
end Go.Proofs.YtakhphhpjcpphaaGreatDoor
end

section
/- Sets of words: the sorted list of the different words of a list. No program. -/
namespace Go.Proofs.YtakhphhpjcpphaaGreatDoor

/-- Ascending by shortlex order. -/
def AscW (l : List (List Int)) : Prop := l.Pairwise fun x y => shlex x y < 0
theorem shlex_lt_trans {x y z : List Int} (h1 : shlex x y < 0) (h2 : shlex y z < 0) : shlex x z < 0 := (shlex_trans x y z).2 h1 (Int.le_of_lt h2)
theorem shlex_irr (x : List Int) : shlex x x = 0 := (shlex_zero x x).2 rfl
theorem shlex_gt' {x y : List Int} (h : ¬ shlex x y < 0) (hne : x ≠ y) : shlex y x < 0 := by
  have h1 := shlex_neg x y
  have h2 : shlex x y ≠ 0 := fun e => hne ((shlex_zero x y).1 e)
  omega

/-- Two ascending lists with the same words are one. -/
theorem ascW_eq {xs ys : List (List Int)} (hx : AscW xs) (hy : AscW ys) (h : ∀ x, x ∈ xs ↔ x ∈ ys) : xs = ys := by
  induction xs generalizing ys with
  | nil =>
    cases ys with
    | nil => rfl
    | cons y ys => exact absurd ((h y).2 List.mem_cons_self) (by simp)
  | cons x xs ih =>
    cases ys with
    | nil => exact absurd ((h x).1 List.mem_cons_self) (by simp)
    | cons y ys =>
      have hx' := List.pairwise_cons.1 hx
      have hy' := List.pairwise_cons.1 hy
      have irr : ∀ a b : List Int, shlex a b < 0 → shlex b a < 0 → False := fun a b h1 h2 => by have := shlex_neg a b; omega
      have irr0 : ∀ a : List Int, ¬ shlex a a < 0 := fun a h1 => by have := shlex_irr a; omega
      have e : x = y := by
        rcases List.mem_cons.1 ((h x).1 List.mem_cons_self) with e | e
        · exact e
        · rcases List.mem_cons.1 ((h y).2 List.mem_cons_self) with e2 | e2
          · exact e2.symm
          · exact (irr _ _ (hy'.1 x e) (hx'.1 y e2)).elim
      subst e
      congr 1
      refine ih hx'.2 hy'.2 fun z => ⟨fun k => ?_, fun k => ?_⟩
      · rcases List.mem_cons.1 ((h z).1 (List.mem_cons_of_mem _ k)) with e | e
        · exact (irr0 x (e ▸ hx'.1 z k)).elim
        · exact e
      · rcases List.mem_cons.1 ((h z).2 (List.mem_cons_of_mem _ k)) with e | e
        · exact (irr0 x (e ▸ hy'.1 z k)).elim
        · exact e

/-- A word put into a sorted list. -/
def wins : List (List Int) → List Int → List (List Int)
  | [], v => [v]
  | x :: l, v => if shlex x v < 0 then x :: wins l v else if x = v then x :: l else v :: x :: l
theorem wins_mem (l : List (List Int)) (v x : List Int) : x ∈ wins l v ↔ x = v ∨ x ∈ l := by
  induction l with
  | nil => simp [wins]
  | cons y l ih =>
    unfold wins
    split
    · rw [List.mem_cons, ih, List.mem_cons]; exact ⟨fun h => h.elim (fun h => .inr (.inl h)) (fun h => h.elim .inl fun h => .inr (.inr h)), fun h => h.elim (fun h => .inr (.inl h)) fun h => h.elim .inl fun h => .inr (.inr h)⟩
    · split
      · rename_i e
        subst e
        exact ⟨.inr, fun h => h.elim (fun h => h ▸ List.mem_cons_self) id⟩
      · simp
theorem wins_asc {l : List (List Int)} {v : List Int} (h : AscW l) : AscW (wins l v) := by
  induction l with
  | nil => simp [wins, AscW]
  | cons y l ih =>
    have h' := List.pairwise_cons.1 h
    unfold wins
    split
    · rename_i hlt
      refine List.pairwise_cons.2 ⟨fun x hx => ?_, ih h'.2⟩
      rcases (wins_mem l v x).1 hx with rfl | hx
      · exact hlt
      · exact h'.1 x hx
    · split
      · exact h
      · rename_i hlt hne
        have hlt2 := shlex_gt' hlt hne
        refine List.pairwise_cons.2 ⟨fun x hx => ?_, h⟩
        rcases List.mem_cons.1 hx with rfl | hx
        · exact hlt2
        · exact shlex_lt_trans hlt2 (h'.1 x hx)

/-- The sorted list of the different words. -/
def swA : List (List Int) → List (List Int) → List (List Int)
  | [], acc => acc
  | x :: r, acc => swA r (wins acc x)
def sw (l : List (List Int)) : List (List Int) := swA l []
theorem swA_asc {l acc : List (List Int)} (h : AscW acc) : AscW (swA l acc) := by
  induction l generalizing acc with
  | nil => exact h
  | cons x l ih => exact ih (wins_asc h)
theorem swA_mem (l acc : List (List Int)) (x : List Int) : x ∈ swA l acc ↔ x ∈ acc ∨ x ∈ l := by
  induction l generalizing acc with
  | nil => simp [swA]
  | cons y l ih =>
    show x ∈ swA l (wins acc y) ↔ _
    rw [ih, wins_mem, List.mem_cons]
    exact ⟨fun h => h.elim (fun h => h.elim (fun h => .inr (.inl h)) .inl) (fun h => .inr (.inr h)), fun h => h.elim (fun h => .inl (.inr h)) fun h => h.elim (fun h => .inl (.inl h)) .inr⟩
theorem sw_asc (l : List (List Int)) : AscW (sw l) := swA_asc List.Pairwise.nil
theorem sw_mem (l : List (List Int)) (x : List Int) : x ∈ sw l ↔ x ∈ l := by unfold sw; rw [swA_mem]; simp
theorem sw_eq {l out : List (List Int)} (h : AscW out) (hm : ∀ x, x ∈ out ↔ x ∈ l) : out = sw l := ascW_eq h (sw_asc l) fun x => (hm x).trans (sw_mem l x).symm
theorem sw_same {l m : List (List Int)} (h : ∀ x, x ∈ l ↔ x ∈ m) : sw l = sw m := sw_eq (sw_asc l) fun x => (sw_mem l x).trans (h x)
theorem sw_sw (l : List (List Int)) : sw (sw l) = sw l := sw_same (sw_mem l)
theorem sw_self {l : List (List Int)} (h : AscW l) : sw l = l := (sw_eq h fun _ => Iff.rfl).symm
theorem swA_drop {l : List (List Int)} {j : Nat} (h : j < l.length) (acc : List (List Int)) : swA (l.drop j) acc = swA (l.drop (j + 1)) (wins acc (l.getD j [])) := by
  rw [List.drop_eq_getElem_cons h, List.getD_eq_getElem?_getD, List.getElem?_eq_getElem h]; rfl
theorem wins_len (l : List (List Int)) (v : List Int) : (wins l v).length ≤ l.length + 1 := by
  induction l with
  | nil => simp [wins]
  | cons x l ih =>
    unfold wins
    split
    · simp; exact ih
    · split <;> simp
theorem swA_len (l acc : List (List Int)) : (swA l acc).length ≤ acc.length + l.length := by
  induction l generalizing acc with
  | nil => exact Nat.le_refl _
  | cons x l ih =>
    have h1 := ih (wins acc x)
    have h2 := wins_len acc x
    show (swA l (wins acc x)).length ≤ _
    rw [List.length_cons]; omega
theorem sw_len (l : List (List Int)) : (sw l).length ≤ l.length := by have := swA_len l []; simpa [sw] using this
end Go.Proofs.YtakhphhpjcpphaaGreatDoor
end

section
/- Sets of words in dictionary order: all prefixes, the maximal words. No program. -/
namespace Go.Proofs.YtakhphhpjcpphaaGreatDoor

theorem cmn_mono {a b c : List Int} (h1 : lexR a b ≤ 0) (h2 : lexR b c ≤ 0) : cmn a c ≤ cmn b c ∧ cmn a c ≤ cmn a b := by
  induction a generalizing b c with
  | nil => simp [cmn]
  | cons x as1 ih =>
    cases c with
    | nil => simp [cmn]
    | cons z cs =>
      cases b with
      | nil => simp [lexR] at h1
      | cons y bs =>
        rw [lexR] at h1 h2
        rw [cmn, cmn, cmn]
        by_cases hxz : x = z
        · subst hxz
          have hyx : ¬ y < x := by intro h; rw [if_neg (by omega), if_pos h] at h1; omega
          have hxy : ¬ x < y := by intro h; rw [if_neg (by omega), if_pos h] at h2; omega
          have e : x = y := by omega
          subst e
          rw [if_neg (Int.lt_irrefl _), if_neg (Int.lt_irrefl _)] at h1 h2
          have := ih h1 h2
          simp only [if_true]
          omega
        · rw [if_neg hxz]; omega

theorem pre_cmn {x y : List Int} : x <+: y ↔ cmn x y = x.length := by
  induction x generalizing y with
  | nil => simp [cmn]
  | cons a as1 ih =>
    cases y with
    | nil => simp [cmn]
    | cons b bs =>
      rw [cmn, List.cons_prefix_cons, ih]
      by_cases h : a = b
      · simp [h]
      · rw [if_neg h]; simp [h]
theorem pre_cmn' {x y : List Int} : x <+: y ↔ cmn y x = x.length := by rw [cmn_comm]; exact pre_cmn
theorem pre_lex {x y : List Int} (h : x <+: y) (hne : x ≠ y) : lexR x y < 0 := by
  induction x generalizing y with
  | nil =>
    cases y with
    | nil => exact absurd rfl hne
    | cons b bs => simp [lexR]
  | cons a as1 ih =>
    cases y with
    | nil => simp at h
    | cons b bs =>
      rw [List.cons_prefix_cons] at h
      obtain ⟨rfl, h⟩ := h
      rw [lexR, if_neg (Int.lt_irrefl _), if_neg (Int.lt_irrefl _)]
      exact ih h fun e => hne (by rw [e])
theorem pre_min {x a b : List Int} (h1 : x <+: a) (h2 : x <+: b) : x.length ≤ cmn a b := by
  induction x generalizing a b with
  | nil => simp
  | cons z zs ih =>
    cases a with
    | nil => simp at h1
    | cons p as1 =>
      cases b with
      | nil => simp at h2
      | cons q bs =>
        rw [List.cons_prefix_cons] at h1 h2
        obtain ⟨rfl, h1⟩ := h1
        obtain ⟨rfl, h2⟩ := h2
        rw [cmn, if_pos rfl]
        have := ih h1 h2
        simp; omega
theorem pre_take {x y : List Int} {n : Nat} (h : n ≤ cmn x y) : x.take n <+: y := by
  induction n generalizing x y with
  | zero => simp
  | succ n ih =>
    cases x with
    | nil => simp
    | cons a as1 =>
      cases y with
      | nil => simp [cmn] at h
      | cons b bs =>
        rw [cmn] at h
        by_cases e : a = b
        · subst e
          rw [if_pos rfl] at h
          rw [List.take_succ_cons, List.cons_prefix_cons]
          exact ⟨rfl, ih (by omega)⟩
        · rw [if_neg e] at h; omega

/-- Ascending in dictionary order. -/
def AscL (l : List (List Int)) : Prop := l.Pairwise fun x y => lexR x y < 0
theorem AscL.at_ {l : List (List Int)} (h : AscL l) {i j : Nat} (hij : i < j) (hj : j < l.length) : lexR (l.getD i []) (l.getD j []) < 0 := by
  have := List.pairwise_iff_getElem.1 h i j (by omega) hj hij
  simpa [List.getD, List.getElem?_eq_getElem hj, List.getElem?_eq_getElem (show i < l.length by omega)] using this
theorem lexR_irr (x : List Int) : lexR x x = 0 := (lexR_zero x x).2 rfl
theorem AscL.nodup {l : List (List Int)} (h : AscL l) : l.Nodup := List.Pairwise.imp (fun {a b} h e => by subst e; have := lexR_irr a; omega) h
theorem AscW.nodup {l : List (List Int)} (h : AscW l) : l.Nodup := List.Pairwise.imp (fun {a b} h e => by subst e; have := shlex_irr a; omega) h

/-- The prefixes of w with a to b - 1 symbols. -/
def tks (w : List Int) (a b : Nat) : List (List Int) := (List.range' a (b - a)).map fun n => w.take n
theorem tks_none (w : List Int) (a : Nat) : tks w a a = [] := by simp [tks]
theorem tks_succ (w : List Int) {a b : Nat} (h : a ≤ b) : tks w a (b + 1) = tks w a b ++ [w.take b] := by
  unfold tks
  rw [show b + 1 - a = (b - a) + 1 by omega, List.range'_concat, List.map_append]
  simp
  congr 1; omega
theorem tks_len (w : List Int) (a b : Nat) : (tks w a b).length = b - a := by simp [tks]
theorem tks_mem {w x : List Int} {a b : Nat} (hb : b ≤ w.length + 1) : x ∈ tks w a b ↔ x <+: w ∧ a ≤ x.length ∧ x.length < b := by
  unfold tks
  rw [List.mem_map]
  constructor
  · rintro ⟨n, hn, rfl⟩
    rw [List.mem_range'_1] at hn
    refine ⟨List.take_prefix _ _, ?_, ?_⟩ <;> rw [List.length_take] <;> omega
  · rintro ⟨h, h1, h2⟩
    exact ⟨x.length, by rw [List.mem_range'_1]; omega, (List.prefix_iff_eq_take.1 h).symm⟩
theorem tks_nodup {w : List Int} {a b : Nat} (hb : b ≤ w.length + 1) : (tks w a b).Nodup := by
  induction b with
  | zero => simp [tks]
  | succ b ih =>
    by_cases h : a ≤ b
    · rw [tks_succ w h]
      refine List.nodup_append.2 ⟨ih (by omega), by simp, fun x hx y hy e => ?_⟩
      rw [List.mem_singleton] at hy
      subst e
      rw [tks_mem (by omega)] at hx
      have : x.length = b := by rw [hy, List.length_take]; omega
      omega
    · have : tks w a (b + 1) = [] := by unfold tks; rw [show b + 1 - a = 0 by omega]; rfl
      rw [this]; simp

/-- The first length of a prefix of the word i that no earlier word has. -/
def pf (ws : List (List Int)) (i : Nat) : Nat := if i = 0 then 0 else cmn (ws.getD (i - 1) []) (ws.getD i []) + 1
/-- The prefixes that the first i words bring. -/
def prU (ws : List (List Int)) : Nat → List (List Int)
  | 0 => []
  | i + 1 => prU ws i ++ tks (ws.getD i []) (pf ws i) ((ws.getD i []).length + 1)
theorem pf_le (ws : List (List Int)) (i : Nat) : pf ws i ≤ (ws.getD i []).length + 1 := by
  unfold pf
  split
  · omega
  · have := cmn_le_right (ws.getD (i - 1) []) (ws.getD i []); omega
theorem prU_mem {ws : List (List Int)} (i : Nat) (x : List Int) : x ∈ prU ws i ↔ ∃ j, j < i ∧ x <+: ws.getD j [] := by
  induction i generalizing x with
  | zero => simp [prU]
  | succ i ih =>
    rw [prU, List.mem_append, ih, tks_mem (Nat.le_refl _)]
    constructor
    · rintro (⟨j, hj, h⟩ | ⟨h, _⟩)
      · exact ⟨j, by omega, h⟩
      · exact ⟨i, by omega, h⟩
    · rintro ⟨j, hj, h⟩
      by_cases e : j = i
      · subst e
        by_cases hl : pf ws j ≤ x.length
        · have := h.length_le
          exact .inr ⟨h, hl, by omega⟩
        · left
          unfold pf at hl
          split at hl
          · omega
          · rename_i h0
            refine ⟨j - 1, by omega, ?_⟩
            rw [List.prefix_iff_eq_take.1 h]
            refine pre_take ?_
            rw [cmn_comm]; omega
      · exact .inl ⟨j, by omega, h⟩
theorem prU_nodup {ws : List (List Int)} (h : AscL ws) : ∀ i, i ≤ ws.length → (prU ws i).Nodup
  | 0, _ => by simp [prU]
  | i + 1, hi => by
    rw [prU]
    refine List.nodup_append.2 ⟨prU_nodup h i (by omega), tks_nodup (Nat.le_refl _), fun x hx y hy e => ?_⟩
    subst e
    rw [prU_mem] at hx
    rw [tks_mem (Nat.le_refl _)] at hy
    obtain ⟨j, hj, hxj⟩ := hx
    have h1 := pre_min hxj hy.1
    have h2 : cmn (ws.getD j []) (ws.getD i []) ≤ cmn (ws.getD (i - 1) []) (ws.getD i []) := by
      by_cases e : j = i - 1
      · rw [e]; exact Nat.le_refl _
      · exact (cmn_mono (Int.le_of_lt (h.at_ (i := j) (j := i - 1) (by omega) (by omega))) (Int.le_of_lt (h.at_ (i := i - 1) (j := i) (by omega) (by omega)))).1
    have h3 := hy.2.1
    unfold pf at h3
    rw [if_neg (by omega)] at h3
    omega
theorem prU_all {ws : List (List Int)} (x : List Int) : x ∈ prU ws ws.length ↔ ∃ y, y ∈ ws ∧ x <+: y := by
  rw [prU_mem]
  constructor
  · rintro ⟨j, hj, h⟩
    exact ⟨_, by rw [List.getD_eq_getElem?_getD, List.getElem?_eq_getElem hj]; exact List.getElem_mem hj, h⟩
  · rintro ⟨y, hy, h⟩
    obtain ⟨j, hj, rfl⟩ := List.getElem_of_mem hy
    exact ⟨j, hj, by rw [List.getD_eq_getElem?_getD, List.getElem?_eq_getElem hj]; exact h⟩

/-- The words among the first i that are no prefix of the next one. -/
def mxU (ws : List (List Int)) : Nat → List (List Int)
  | 0 => []
  | i + 1 => if i + 1 = ws.length ∨ cmn (ws.getD (i + 1) []) (ws.getD i []) ≠ (ws.getD i []).length then mxU ws i ++ [ws.getD i []] else mxU ws i
/-- A word of l that is no proper prefix of another. -/
def Mx (l : List (List Int)) (x : List Int) : Prop := x ∈ l ∧ ∀ y, y ∈ l → x <+: y → x = y
theorem mxU_mem0 {ws : List (List Int)} (i : Nat) (x : List Int) : x ∈ mxU ws i ↔ ∃ j, j < i ∧ x = ws.getD j [] ∧ (j + 1 = ws.length ∨ ¬ ws.getD j [] <+: ws.getD (j + 1) []) := by
  induction i with
  | zero => simp [mxU]
  | succ i ih =>
    rw [mxU]
    by_cases hc : i + 1 = ws.length ∨ cmn (ws.getD (i + 1) []) (ws.getD i []) ≠ (ws.getD i []).length
    · rw [if_pos hc, List.mem_append, ih, List.mem_singleton]
      constructor
      · rintro (⟨j, hj, h⟩ | rfl)
        · exact ⟨j, by omega, h⟩
        · refine ⟨i, by omega, rfl, hc.imp id fun h => ?_⟩
          rw [pre_cmn']; exact h
      · rintro ⟨j, hj, h⟩
        by_cases e : j = i
        · subst e; exact .inr h.1
        · exact .inl ⟨j, by omega, h⟩
    · rw [if_neg hc, ih]
      constructor
      · rintro ⟨j, hj, h⟩; exact ⟨j, by omega, h⟩
      · rintro ⟨j, hj, h⟩
        by_cases e : j = i
        · subst e
          exact absurd (h.2.imp id fun h => by rw [pre_cmn'] at h; exact h) hc
        · exact ⟨j, by omega, h⟩
theorem mxU_mem {ws : List (List Int)} (h : AscL ws) (x : List Int) : x ∈ mxU ws ws.length ↔ Mx ws x := by
  rw [mxU_mem0]
  constructor
  · rintro ⟨j, hj, rfl, hc⟩
    refine ⟨by rw [List.getD_eq_getElem?_getD, List.getElem?_eq_getElem hj]; exact List.getElem_mem hj, fun y hy hp => ?_⟩
    obtain ⟨k, hk, rfl⟩ := List.getElem_of_mem hy
    have ek : ws[k] = ws.getD k [] := by rw [List.getD_eq_getElem?_getD, List.getElem?_eq_getElem hk]; rfl
    rw [ek] at hp ⊢
    rcases Nat.lt_trichotomy k j with hkj | hkj | hkj
    · have h1 := h.at_ hkj hj
      by_cases e : ws.getD j [] = ws.getD k []
      · exact e
      · have h2 := pre_lex hp e
        have h3 := lexR_neg (ws.getD j []) (ws.getD k [])
        omega
    · rw [hkj]
    · exfalso
      rcases hc with hc | hc
      · omega
      · apply hc
        by_cases e : k = j + 1
        · rw [e] at hp; exact hp
        · have h2 := (cmn_mono (Int.le_of_lt (h.at_ (i := j) (j := j + 1) (by omega) (by omega))) (Int.le_of_lt (h.at_ (i := j + 1) (j := k) (by omega) hk))).2
          rw [pre_cmn] at hp ⊢
          have h3 := cmn_le_left (ws.getD j []) (ws.getD (j + 1) [])
          omega
  · rintro ⟨hx, hm⟩
    obtain ⟨j, hj, rfl⟩ := List.getElem_of_mem hx
    have ej : ws[j] = ws.getD j [] := by rw [List.getD_eq_getElem?_getD, List.getElem?_eq_getElem hj]; rfl
    refine ⟨j, hj, ej, ?_⟩
    by_cases e : j + 1 = ws.length
    · exact .inl e
    · right
      intro hp
      have hj1 : j + 1 < ws.length := by omega
      have h1 := hm (ws.getD (j + 1) []) (by rw [List.getD_eq_getElem?_getD, List.getElem?_eq_getElem hj1]; exact List.getElem_mem hj1) (by rw [ej]; exact hp)
      have h2 := h.at_ (i := j) (j := j + 1) (by omega) hj1
      rw [← h1, ej, lexR_irr] at h2
      omega
theorem mxU_sub (ws : List (List Int)) (i : Nat) : (mxU ws i).Sublist (ws.take i) := by
  induction i with
  | zero => simp [mxU]
  | succ i ih =>
    have hs : (ws.take i).Sublist (ws.take (i + 1)) := by
      have : ws.take i = (ws.take (i + 1)).take i := by rw [List.take_take]; congr 1; omega
      rw [this]; exact List.take_sublist _ _
    rw [mxU]
    split
    · by_cases hi : i < ws.length
      · rw [List.take_succ_eq_append_getElem hi, List.getD_eq_getElem?_getD, List.getElem?_eq_getElem hi]
        exact ih.append (List.Sublist.refl _)
      · rename_i hc
        rcases hc with hc | hc
        · omega
        · exfalso
          apply hc
          rw [List.getD_eq_getElem?_getD, List.getD_eq_getElem?_getD, List.getElem?_eq_none (by omega), List.getElem?_eq_none (by omega)]
          simp [cmn]
    · exact ih.trans hs
theorem mxU_nodup {ws : List (List Int)} (h : AscL ws) : (mxU ws ws.length).Nodup := ((mxU_sub ws ws.length).trans (List.take_sublist _ _)).nodup h.nodup

/-- Lists with the same members and no repetition. -/
theorem perm_of {l m : List (List Int)} (h1 : l.Nodup) (h2 : m.Nodup) (h : ∀ x, x ∈ l ↔ x ∈ m) : l.Perm m := (List.perm_ext_iff_of_nodup h1 h2).2 h

/-- All prefixes, all suffixes, the maximal words. -/
def preS (l : List (List Int)) : List (List Int) := l.flatMap fun w => (List.range (w.length + 1)).map fun n => w.take n
def sufS (l : List (List Int)) : List (List Int) := l.flatMap fun w => (List.range (w.length + 1)).map fun n => w.drop n
def maxS (l : List (List Int)) : List (List Int) := l.filter fun x => l.all fun y => decide (cmn x y = x.length → x = y)
theorem preS_mem (l : List (List Int)) (x : List Int) : x ∈ preS l ↔ ∃ y, y ∈ l ∧ x <+: y := by
  unfold preS
  rw [List.mem_flatMap]
  constructor
  · rintro ⟨y, hy, h⟩
    rw [List.mem_map] at h
    obtain ⟨n, _, rfl⟩ := h
    exact ⟨y, hy, List.take_prefix _ _⟩
  · rintro ⟨y, hy, h⟩
    exact ⟨y, hy, List.mem_map.2 ⟨x.length, by have := h.length_le; simp; omega, (List.prefix_iff_eq_take.1 h).symm⟩⟩
theorem sufS_mem (l : List (List Int)) (x : List Int) : x ∈ sufS l ↔ ∃ y, y ∈ l ∧ x <:+ y := by
  unfold sufS
  rw [List.mem_flatMap]
  constructor
  · rintro ⟨y, hy, h⟩
    rw [List.mem_map] at h
    obtain ⟨n, _, rfl⟩ := h
    exact ⟨y, hy, List.drop_suffix _ _⟩
  · rintro ⟨y, hy, h⟩
    exact ⟨y, hy, List.mem_map.2 ⟨y.length - x.length, by simp; omega, (List.suffix_iff_eq_drop.1 h).symm⟩⟩
theorem maxS_mem (l : List (List Int)) (x : List Int) : x ∈ maxS l ↔ Mx l x := by
  unfold maxS Mx
  rw [List.mem_filter, List.all_eq_true]
  simp only [decide_eq_true_eq, pre_cmn]
theorem Mx.same {l m : List (List Int)} (h : ∀ x, x ∈ l ↔ x ∈ m) (x : List Int) : Mx l x ↔ Mx m x := by
  unfold Mx
  rw [h]
  exact and_congr_right fun _ => forall_congr' fun y => by rw [h]
end Go.Proofs.YtakhphhpjcpphaaGreatDoor
end

section
/- Rows of headers with what they read as: one of each run of equals; sorted rows. No program. -/
namespace Go.Proofs.YtakhphhpjcpphaaGreatDoor

/-- A total order of words, as1 a number. -/
structure TotO (o : List Int → List Int → Int) : Prop where
  neg : ∀ x y, o y x = - o x y
  zero : ∀ x y, o x y = 0 ↔ x = y
  trans : ∀ x y z, (o x y ≤ 0 → o y z ≤ 0 → o x z ≤ 0) ∧ (o x y < 0 → o y z ≤ 0 → o x z < 0)
theorem totL : TotO lexi where
  neg x y := by rw [lexi_lexR, lexi_lexR]; exact lexR_neg x y
  zero x y := by rw [lexi_lexR]; exact lexR_zero x y
  trans x y z := by rw [lexi_lexR, lexi_lexR, lexi_lexR]; exact lexR_trans x y z
theorem totS : TotO shlex := ⟨shlex_neg, shlex_zero, shlex_trans⟩

variable {α : Type}
/-- Of the first m of ps those whose word is not that of the one before. -/
def cpU (ps : List (α × List Int)) : Nat → List (α × List Int)
  | 0 => []
  | m + 1 => if m = 0 ∨ (ps[m]?.map Prod.snd) ≠ (ps[m - 1]?.map Prod.snd) then cpU ps m ++ (ps[m]?).toList else cpU ps m
theorem cpU_le (ps : List (α × List Int)) (m : Nat) : (cpU ps m).length ≤ m := by
  induction m with
  | zero => simp [cpU]
  | succ m ih =>
    unfold cpU
    split
    · rw [List.length_append]
      have : (ps[m]?).toList.length ≤ 1 := by cases ps[m]? <;> simp
      omega
    · omega
theorem cpU_lt {ps : List (α × List Int)} {m k : Nat} (h : (cpU ps m).length < m) (hk : m ≤ k) : (cpU ps k).length < k := by
  induction k with
  | zero => omega
  | succ k ih =>
    by_cases e : m = k + 1
    · rw [← e]; exact h
    · have := ih (by omega)
      unfold cpU
      split
      · rw [List.length_append]
        have : (ps[k]?).toList.length ≤ 1 := by cases ps[k]? <;> simp
        omega
      · omega
theorem cpU_keep {ps : List (α × List Int)} {m : Nat} (hm : m < ps.length) (h : m = 0 ∨ ps[m].2 ≠ (ps[m - 1]'(by omega)).2) : cpU ps (m + 1) = cpU ps m ++ [ps[m]] := by
  rw [cpU, List.getElem?_eq_getElem hm, List.getElem?_eq_getElem (show m - 1 < ps.length by omega), if_pos]
  · rfl
  · refine h.imp id fun h e => h ?_
    simpa using e
theorem cpU_drop {ps : List (α × List Int)} {m : Nat} (hm : m < ps.length) (h0 : m ≠ 0) (h : ps[m].2 = (ps[m - 1]'(by omega)).2) : cpU ps (m + 1) = cpU ps m := by
  rw [cpU, List.getElem?_eq_getElem hm, List.getElem?_eq_getElem (show m - 1 < ps.length by omega), if_neg]
  simp [h0, h]
theorem cpU_sub (ps : List (α × List Int)) (m : Nat) (p : α × List Int) (h : p ∈ cpU ps m) : p ∈ ps := by
  induction m with
  | zero => simp [cpU] at h
  | succ m ih =>
    unfold cpU at h
    split at h
    · rw [List.mem_append] at h
      rcases h with h | h
      · exact ih h
      · cases hg : ps[m]? with
        | none => rw [hg] at h; simp at h
        | some q => rw [hg] at h; simp at h; subst h; exact List.mem_of_getElem? hg
    · exact ih h
/-- Sorted (equals allowed). -/
def SrtP (o : List Int → List Int → Int) (ps : List (α × List Int)) : Prop := ps.Pairwise fun p q => o p.2 q.2 ≤ 0
theorem cpU_asc {o : List Int → List Int → Int} (O : TotO o) {ps : List (α × List Int)} (hs : SrtP o ps) : ∀ m, m ≤ ps.length →
    ((cpU ps m).map Prod.snd).Pairwise (fun x y => o x y < 0) ∧ ∀ x, x ∈ (cpU ps m).map Prod.snd ↔ ∃ j, ∃ h : j < ps.length, j < m ∧ ps[j].2 = x
  | 0, _ => ⟨by simp [cpU], fun x => by simp [cpU]⟩
  | m + 1, hm => by
    obtain ⟨h1, h2⟩ := cpU_asc O hs m (by omega)
    by_cases hk : m = 0 ∨ ps[m].2 ≠ (ps[m - 1]'(by omega)).2
    · rw [cpU_keep (by omega) hk, List.map_append, List.map_cons, List.map_nil]
      refine ⟨List.pairwise_append.2 ⟨h1, by simp, fun x hx y hy => ?_⟩, fun x => ?_⟩
      · rw [List.mem_singleton] at hy
        subst hy
        obtain ⟨j, hj, hjm, rfl⟩ := (h2 x).1 hx
        have hne : o (ps[m - 1]'(by omega)).2 ps[m].2 < 0 := by
          have hle := List.pairwise_iff_getElem.1 hs (m - 1) m (by omega) (by omega) (by omega)
          have : o (ps[m - 1]'(by omega)).2 ps[m].2 ≠ 0 := fun e => by
            rw [O.zero] at e
            rcases hk with hk | hk
            · omega
            · exact hk e.symm
          omega
        by_cases e : j = m - 1
        · subst e; exact hne
        · have h3 := List.pairwise_iff_getElem.1 hs j (m - 1) (by omega) (by omega) (by omega)
          have h4 := (O.trans ps[j].2 (ps[m - 1]'(by omega)).2 ps[m].2).1 h3 (Int.le_of_lt hne)
          have h5 : o ps[j].2 ps[m].2 ≠ 0 := fun e => by
            rw [O.zero] at e
            rw [e] at h3
            have := O.neg (ps[m - 1]'(by omega)).2 ps[m].2
            omega
          omega
      · rw [List.mem_append, List.mem_singleton, h2]
        constructor
        · rintro (⟨j, hj, hjm, e⟩ | e)
          · exact ⟨j, hj, by omega, e⟩
          · exact ⟨m, by omega, by omega, e.symm⟩
        · rintro ⟨j, hj, hjm, e⟩
          by_cases h : j = m
          · subst h; exact .inr e.symm
          · exact .inl ⟨j, hj, by omega, e⟩
    · have hk' : m ≠ 0 ∧ ps[m].2 = (ps[m - 1]'(by omega)).2 := by
        refine ⟨fun e => hk (.inl e), Classical.byContradiction fun e => hk (.inr e)⟩
      rw [cpU_drop (by omega) hk'.1 hk'.2]
      refine ⟨h1, fun x => (h2 x).trans ⟨fun ⟨j, hj, hjm, e⟩ => ⟨j, hj, by omega, e⟩, fun ⟨j, hj, hjm, e⟩ => ?_⟩⟩
      by_cases h : j = m
      · subst h
        exact ⟨j - 1, by omega, by omega, by rw [← hk'.2]; exact e⟩
      · exact ⟨j, hj, by omega, e⟩
theorem cpU_all {o : List Int → List Int → Int} (O : TotO o) {ps : List (α × List Int)} (hs : SrtP o ps) :
    ((cpU ps ps.length).map Prod.snd).Pairwise (fun x y => o x y < 0) ∧ ∀ x, x ∈ (cpU ps ps.length).map Prod.snd ↔ x ∈ ps.map Prod.snd := by
  obtain ⟨h1, h2⟩ := cpU_asc O hs ps.length (Nat.le_refl _)
  refine ⟨h1, fun x => (h2 x).trans ?_⟩
  constructor
  · rintro ⟨j, hj, _, rfl⟩
    exact List.mem_map_of_mem (List.getElem_mem hj)
  · intro h
    obtain ⟨p, hp, rfl⟩ := List.mem_map.1 h
    obtain ⟨j, hj, rfl⟩ := List.getElem_of_mem hp
    exact ⟨j, hj, hj, rfl⟩
theorem ascW_of {l : List (List Int)} (h : l.Pairwise fun x y => shlex x y < 0) : AscW l := h
theorem ascL_of {l : List (List Int)} (h : l.Pairwise fun x y => lexi x y < 0) : AscL l := h.imp fun h => by rw [lexi_lexR] at h; exact h
/-- A sorted row without repetition is ascending. -/
theorem srt_asc {o : List Int → List Int → Int} (O : TotO o) {l : List (List Int)} (hs : l.Pairwise fun x y => o x y ≤ 0) (hn : l.Nodup) : l.Pairwise fun x y => o x y < 0 :=
  (List.pairwise_and_iff.2 ⟨hs, hn⟩).imp fun {a b} ⟨h1, h2⟩ => by
    have : o a b ≠ 0 := fun e => h2 ((O.zero a b).1 e)
    omega

theorem cpU_keep' {ps : List (α × List Int)} {m : Nat} {p q : α × List Int} (hp : ps[m]? = some p) (hq : ps[m - 1]? = some q) (h : p.2 ≠ q.2) : cpU ps (m + 1) = cpU ps m ++ [p] := by
  rw [cpU, hp, hq, if_pos (.inr (by simpa using h))]; rfl
theorem cpU_drop' {ps : List (α × List Int)} {m : Nat} {p q : α × List Int} (hp : ps[m]? = some p) (hq : ps[m - 1]? = some q) (h0 : m ≠ 0) (h : p.2 = q.2) : cpU ps (m + 1) = cpU ps m := by
  rw [cpU, hp, hq, if_neg]
  simp [h0, h]
theorem cpU_one {ps : List (α × List Int)} (h : ps.length ≤ 1) : cpU ps ps.length = ps := by
  match ps, h with
  | [], _ => rfl
  | [p], _ => rfl
  | p :: q :: r, h => simp at h
theorem cpU_first {ps : List (α × List Int)} (h : 1 ≤ ps.length) : cpU ps 1 = ps.take 1 := by
  match ps, h with
  | p :: r, _ => simp [cpU]
end Go.Proofs.YtakhphhpjcpphaaGreatDoor
end

section
/- The text of a word: one text a word, joined words have joined texts. No program. -/
namespace Go.Proofs.YtakhphhpjcpphaaGreatDoor
open Go.Lib

/-- A number read back from its digits. -/
def rdD (l : List UInt8) : Nat := l.foldl (fun a c => a * 10 + (c.toNat - 48)) 0
theorem rdD_snoc (l : List UInt8) (c : UInt8) : rdD (l ++ [c]) = rdD l * 10 + (c.toNat - 48) := by unfold rdD; rw [List.foldl_append]; rfl
theorem toNat_dg {u : Nat} (h : u < 10) : (UInt8.ofNat (48 + u)).toNat = 48 + u := by
  rw [UInt8.toNat_ofNat']; omega
theorem rdD_dec (u : Nat) : rdD (decDigits u) = u := by
  induction u using Nat.strongRecOn with
  | _ u ih =>
    by_cases h : u < 10
    · rw [decDigits, dif_pos h]
      show 0 * 10 + ((UInt8.ofNat (48 + u)).toNat - 48) = u
      rw [toNat_dg h]; omega
    · rw [decDigits, dif_neg h, rdD_snoc, ih (u / 10) (by omega), toNat_dg (by omega)]; omega
theorem dec_mem (u : Nat) (c : UInt8) (h : c ∈ decDigits u) : 48 ≤ c.toNat ∧ c.toNat ≤ 57 := by
  induction u using Nat.strongRecOn with
  | _ u ih =>
    by_cases h' : u < 10
    · rw [decDigits, dif_pos h', List.mem_singleton] at h
      subst h
      rw [toNat_dg h']; omega
    · rw [decDigits, dif_neg h', List.mem_append, List.mem_singleton] at h
      rcases h with h | h
      · exact ih (u / 10) (by omega) h
      · subst h
        rw [toNat_dg (by omega)]; omega
theorem dec_ne (u : Nat) : decDigits u ≠ [] := by
  intro h
  have := decDigits_length u
  rw [h] at this
  have := nDigits_pos u
  simp at *; omega
theorem itoa_inj {a b : Int} (h : itoa a = itoa b) : a = b := by
  unfold itoa at h
  by_cases ha : a < 0 <;> by_cases hb : b < 0
  · rw [if_pos ha, if_pos hb] at h
    injection h with _ h
    have := congrArg rdD h
    rw [rdD_dec, rdD_dec] at this
    omega
  · rw [if_pos ha, if_neg hb] at h
    have := dec_mem b.toNat 45 (h ▸ List.mem_cons_self)
    simp at this
  · rw [if_neg ha, if_pos hb] at h
    have := dec_mem a.toNat 45 (h ▸ List.mem_cons_self)
    simp at this
  · rw [if_neg ha, if_neg hb] at h
    have := congrArg rdD h
    rw [rdD_dec, rdD_dec] at this
    omega
theorem itoa_space (a : Int) : (32 : UInt8) ∉ itoa a := by
  intro h
  unfold itoa at h
  by_cases ha : a < 0
  · rw [if_pos ha, List.mem_cons] at h
    rcases h with h | h
    · exact absurd h (by decide)
    · have := dec_mem _ _ h; simp at this
  · rw [if_neg ha] at h
    have := dec_mem _ _ h; simp at this

/-- The text of a word. -/
def kt (w : List Int) : List UInt8 := w.flatMap fun x => itoa x ++ [32]
theorem kt_nil : kt [] = [] := rfl
theorem kt_snoc (w : List Int) (x : Int) : kt (w ++ [x]) = kt w ++ (itoa x ++ [32]) := by unfold kt; rw [List.flatMap_append]; simp
theorem kt_app (a b : List Int) : kt (a ++ b) = kt a ++ kt b := by unfold kt; rw [List.flatMap_append]
theorem split_space {a b x y : List UInt8} (ha : (32 : UInt8) ∉ a) (hb : (32 : UInt8) ∉ b) (h : a ++ 32 :: x = b ++ 32 :: y) : a = b ∧ x = y := by
  induction a generalizing b with
  | nil =>
    cases b with
    | nil => simp at h; exact ⟨rfl, h⟩
    | cons c b => simp at h; exact absurd (h.1 ▸ List.mem_cons_self) hb
  | cons d a ih =>
    cases b with
    | nil => simp at h; exact absurd (h.1 ▸ List.mem_cons_self) ha
    | cons c b =>
      simp only [List.cons_append, List.cons.injEq] at h
      have := ih (fun k => ha (List.mem_cons_of_mem _ k)) (fun k => hb (List.mem_cons_of_mem _ k)) h.2
      exact ⟨by rw [h.1, this.1], this.2⟩
theorem kt_inj {a b : List Int} (h : kt a = kt b) : a = b := by
  induction a generalizing b with
  | nil =>
    cases b with
    | nil => rfl
    | cons y b => simp [kt] at h
  | cons x a ih =>
    cases b with
    | nil => simp [kt] at h
    | cons y b =>
      have h' : itoa x ++ 32 :: kt a = itoa y ++ 32 :: kt b := by simpa [kt] using h
      obtain ⟨h1, h2⟩ := split_space (itoa_space x) (itoa_space y) h'
      rw [itoa_inj h1, ih h2]
theorem kt_len {w : List Int} (h : ∀ x, x ∈ w → -9223372036854775808 ≤ x ∧ x ≤ 9223372036854775807) : (kt w).length ≤ 22 * w.length := by
  induction w with
  | nil => simp [kt]
  | cons x w ih =>
    have h1 := ih fun y hy => h y (List.mem_cons_of_mem _ hy)
    have h2 := itoa_length_le x (h x List.mem_cons_self).1 (h x List.mem_cons_self).2
    have : kt (x :: w) = itoa x ++ [32] ++ kt w := rfl
    rw [this]
    simp; omega
end Go.Proofs.YtakhphhpjcpphaaGreatDoor
end

section
/- word.Lex and word.Compare. -/
namespace Go.Proofs.YtakhphhpjcpphaaGreatDoor
open Go.RowKit

theorem isnan (k : Int) (w : World) : Calls Tryz.prog 56 #[.int .i64 k] w fun e w' => e = .returned (.bool false) ∧ w = w' := by
  go_enter Tryz.func56, Tryz.ntmps56
  go_wp2
  go_ret
  exact ⟨rfl, rfl⟩

theorem ccmp (a b : Int) (w : World) : Calls Tryz.prog 44 #[.int .i64 a, .int .i64 b] w fun e w' => e = .returned (.int .i64 (cmpI a b)) ∧ w = w' := by
  by_cases h : a < b
  · have H := Lib.hid (show cmpI a b = -1 by unfold cmpI; rw [if_pos h])
    go_enter Tryz.func44, Tryz.ntmps44
    go_wp2_with (go_at_call 56; refine (isnan _ _).mono ?_; rintro e w' ⟨rfl, rfl⟩)
    go_ret
    exact ⟨ret_int H.out.symm, rfl⟩
  · by_cases h' : b < a
    · have H := Lib.hid (show cmpI a b = 1 by unfold cmpI; rw [if_neg h, if_pos h'])
      go_enter Tryz.func44, Tryz.ntmps44
      go_wp2_with (go_at_call 56; refine (isnan _ _).mono ?_; rintro e w' ⟨rfl, rfl⟩)
      go_ret
      exact ⟨ret_int H.out.symm, rfl⟩
    · have H := Lib.hid (show cmpI a b = 0 by unfold cmpI; rw [if_neg h, if_neg h'])
      go_enter Tryz.func44, Tryz.ntmps44
      go_wp2_with (go_at_call 56; refine (isnan _ _).mono ?_; rintro e w' ⟨rfl, rfl⟩)
      go_ret
      exact ⟨ret_int H.out.symm, rfl⟩

theorem cmpI_zero {a b : Int} (h : a = b) : cmpI a b = 0 := by unfold cmpI; rw [if_neg (by omega), if_neg (by omega)]
theorem cmpI_ne {a b : Int} (h : a ≠ b) : cmpI a b ≠ 0 := by unfold cmpI; split; decide; split; decide; omega

set_option maxHeartbeats 400000 in
theorem scompare (A B : Option Addr) (n c m d : Nat) (xs ys : List Int) (w : World) (hx : Ints w A n xs) (hy : Ints w B m ys) :
    Calls Tryz.prog 55 #[.slice A n c, .slice B m d] w fun e w' => e = .returned (.int .i64 (lexi xs ys)) ∧ ∃ q, w' = w.drewN q := by
  have L1 := Lib.hid hx.1
  have L2 := Lib.hid hy.1
  have hn := hx.2.1
  have hm := hy.2.1
  go_enter Tryz.func55, Tryz.ntmps55
  go_wp2
  go_loopw [11] (fun i wr => ∃ j : Nat, j ≤ n ∧ j ≤ m ∧ i = .int .i64 j ∧ Agree xs ys j ∧ ∃ q, wr = w.drewN q) (fun i _ => n - (intOf i).toNat)
  case atStart => exact ⟨0, Nat.zero_le _, Nat.zero_le _, rfl, Agree.zero _ _, 0, rfl⟩
  case round =>
    obtain ⟨j, hj1, hj2, rfl, ha, q, rfl⟩ := hrel
    by_cases hl1 : j < n
    · obtain ⟨b1, o1, rfl, _, hc1⟩ := hx.at_ (k := j) (by omega)
      by_cases hl2 : j < m
      · obtain ⟨b2, o2, rfl, _, hc2⟩ := hy.at_ (k := j) (by omega)
        by_cases he : xs[j]?.getD 0 = ys[j]?.getD 0
        · have ha' := Lib.hid (ha.succ (by simpa using he))
          have hz := Lib.hid (cmpI_zero he)
          clear he ha
          go_wp2_with (go_at_call 44; refine (ccmp _ _ _).mono ?_; rintro e w' ⟨rfl, rfl⟩; rw [hz.out])
          go_roundw
          case rel => exact ⟨j + 1, by omega, by omega, by go_num, ha'.out, _, rfl⟩
          case measure => simp [intOf]; omega
        · have hfin := Lib.hid (lexi_of (j := j) (by rw [L1.out]; omega) (by rw [L2.out]; omega) ha (by simpa using he))
          have hz : (cmpI (xs[j]?.getD 0) (ys[j]?.getD 0) != 0) = true := by simpa using cmpI_ne he
          clear he ha
          go_wp2_with (go_at_call 44; refine (ccmp _ _ _).mono ?_; rintro e w' ⟨rfl, rfl⟩)
          go_ret
          exact ⟨ret_int (by rw [hfin.out]; simp), _, rfl⟩
      · have hfin := Lib.hid (lexi_long (xs := xs) (ys := ys) (by rw [L1.out, L2.out]; omega) (by rw [L2.out]; exact (by omega : j = m) ▸ ha))
        clear ha
        go_wp2
        go_ret
        exact ⟨ret_int (by rw [hfin.out]), _, rfl⟩
    · by_cases hl2 : n < m
      · have hfin := Lib.hid (lexi_short (xs := xs) (ys := ys) (by rw [L1.out, L2.out]; omega) (by rw [L1.out]; exact (by omega : j = n) ▸ ha))
        clear ha
        go_wp2
        go_ret
        exact ⟨ret_int (by rw [hfin.out]), _, rfl⟩
      · have hfin := Lib.hid (lexi_same (xs := xs) (ys := ys) (by rw [L1.out, L2.out]; omega) (by rw [L1.out]; exact (by omega : j = n) ▸ ha))
        clear ha
        go_wp2
        go_ret
        exact ⟨ret_int (by rw [hfin.out]), _, rfl⟩

theorem wlex (A B : Option Addr) (n c m d : Nat) (xs ys : List Int) (w : World) (hx : Ints w A n xs) (hy : Ints w B m ys) :
    Calls Tryz.prog 40 #[.slice A n c, .slice B m d] w fun e w' => e = .returned (.int .i64 (lexi xs ys)) ∧ ∃ q, w' = w.drewN q := by
  go_enter Tryz.func40, Tryz.ntmps40
  go_wp2_with (go_at_call 55; refine (scompare _ _ _ _ _ _ xs ys _ hx hy).mono ?_; rintro e w' ⟨rfl, q, rfl⟩)
  go_ret
  exact ⟨rfl, _, rfl⟩

theorem shlex_lt {xs ys : List Int} (h : xs.length < ys.length) : shlex xs ys = -1 := by unfold shlex; rw [if_pos h]
theorem shlex_gt {xs ys : List Int} (h : ys.length < xs.length) : shlex xs ys = 1 := by unfold shlex; rw [if_neg (by omega), if_pos h]
theorem shlex_eq {xs ys : List Int} (h : xs.length = ys.length) : shlex xs ys = lexi xs ys := by unfold shlex; rw [if_neg (by omega), if_neg (by omega)]

theorem wcompare (A B : Option Addr) (n c m d : Nat) (xs ys : List Int) (w : World) (hx : Ints w A n xs) (hy : Ints w B m ys) :
    Calls Tryz.prog 26 #[.slice A n c, .slice B m d] w fun e w' => e = .returned (.int .i64 (shlex xs ys)) ∧ ∃ q, w' = w.drewN q := by
  have L1 := Lib.hid hx.1
  have L2 := Lib.hid hy.1
  by_cases h : n = m
  · subst h
    have hfin := Lib.hid (shlex_eq (xs := xs) (ys := ys) (by rw [L1.out, L2.out]))
    go_enter Tryz.func26, Tryz.ntmps26
    go_wp2_with (go_at_call 40; refine (wlex _ _ _ _ _ _ xs ys _ hx hy).mono ?_; rintro e w' ⟨rfl, q, rfl⟩)
    go_ret
    exact ⟨ret_int (by rw [hfin.out]), _, rfl⟩
  · have hd : ((n : Int) != (m : Int)) = true := by simp; omega
    by_cases hlt : n < m
    · have hfin := Lib.hid (shlex_lt (xs := xs) (ys := ys) (by rw [L1.out, L2.out]; exact hlt))
      have hz := Lib.hid (show cmpI (n : Int) (m : Int) = -1 by unfold cmpI; rw [if_pos (by omega)])
      go_enter Tryz.func26, Tryz.ntmps26
      go_wp2_with (go_at_call 44; refine (ccmp _ _ _).mono ?_; rintro e w' ⟨rfl, rfl⟩; rw [hz.out])
      go_ret
      exact ⟨ret_int (by rw [hfin.out]), 0, rfl⟩
    · have hfin := Lib.hid (shlex_gt (xs := xs) (ys := ys) (by rw [L1.out, L2.out]; omega))
      have hz := Lib.hid (show cmpI (n : Int) (m : Int) = 1 by unfold cmpI; rw [if_neg (by omega), if_pos (by omega)])
      go_enter Tryz.func26, Tryz.ntmps26
      go_wp2_with (go_at_call 44; refine (ccmp _ _ _).mono ?_; rintro e w' ⟨rfl, rfl⟩; rw [hz.out])
      go_ret
      exact ⟨ret_int (by rw [hfin.out]), 0, rfl⟩
end Go.Proofs.YtakhphhpjcpphaaGreatDoor
end

section
/- The reference: Lex and Compare. -/
namespace Go.Proofs.YtakhphhpjcpphaaGreatDoor
open Go.RowKit

set_option maxHeartbeats 400000 in
theorem rlex (A B : Option Addr) (n c m d : Nat) (xs ys : List Int) (w : World) (hx : Ints w A n xs) (hy : Ints w B m ys) :
    Calls Tryz.prog 66 #[.slice A n c, .slice B m d] w fun e w' => e = .returned (.int .i64 (lexi xs ys)) ∧ ∃ q, w' = w.drewN q := by
  have L1 := Lib.hid hx.1
  have L2 := Lib.hid hy.1
  have hn := hx.2.1
  have hm := hy.2.1
  have l1 : cmn xs ys ≤ n := by rw [← L1.out]; exact cmn_le_left _ _
  have l2 : cmn xs ys ≤ m := by rw [← L2.out]; exact cmn_le_right _ _
  have hag := Lib.hid (cmn_agree xs ys)
  obtain ⟨t, ht⟩ : ∃ t, t = cmn xs ys := ⟨_, rfl⟩
  rw [← ht] at l1 l2 hag
  have HT := Lib.hid ht
  have call : ∀ w0 : World, w0 = w → Calls Tryz.prog 42 #[.slice A n c, .slice B m d] w0 fun e w' => e = .returned (.int .i64 (t : Int)) ∧ ∃ q, w' = w0.drewN q := by
    intro w0 e0; subst e0; rw [ht]; exact rcommon _ _ _ _ _ _ xs ys _ hx hy
  have HC := Lib.hid call
  clear ht call
  by_cases h1 : t = n
  · by_cases h2 : t = m
    · have b1 : ((t : Int) == (n : Int)) = true := by simp; omega
      have b2 : ((t : Int) == (m : Int)) = true := by simp; omega
      have hfin := Lib.hid (lexi_same (xs := xs) (ys := ys) (by rw [L1.out, L2.out]; omega) (by rw [L1.out, ← h1]; exact hag.out))
      clear h1 h2
      go_enter Tryz.func66, Tryz.ntmps66
      go_wp2_with (go_at_call 42; refine (HC.out _ rfl).mono ?_; rintro e w' ⟨rfl, q, rfl⟩)
      go_ret
      exact ⟨ret_int (by rw [hfin.out]), _, rfl⟩
    · have b1 : ((t : Int) == (n : Int)) = true := by simp; omega
      have b2 : ((t : Int) == (m : Int)) = false := by simp; omega
      have hfin := Lib.hid (lexi_short (xs := xs) (ys := ys) (by rw [L1.out, L2.out]; omega) (by rw [L1.out, ← h1]; exact hag.out))
      clear h1 h2
      go_enter Tryz.func66, Tryz.ntmps66
      go_wp2_with (go_at_call 42; refine (HC.out _ rfl).mono ?_; rintro e w' ⟨rfl, q, rfl⟩)
      go_ret
      exact ⟨ret_int (by rw [hfin.out]), _, rfl⟩
  · have b1 : ((t : Int) == (n : Int)) = false := by simp; omega
    by_cases h2 : t < m
    · obtain ⟨b1', o1, rfl, _, hc1⟩ := hx.at_ (k := t) (by omega)
      obtain ⟨b2', o2, rfl, _, hc2⟩ := hy.at_ (k := t) (by omega)
      have hne : xs[t]?.getD 0 ≠ ys[t]?.getD 0 := by
        have := cmn_part xs ys (by rw [← HT.out, L1.out]; omega) (by rw [← HT.out, L2.out]; omega)
        rw [← HT.out] at this
        simpa using this
      have hfin := Lib.hid (lexi_of (xs := xs) (ys := ys) (j := t) (by rw [L1.out]; omega) (by rw [L2.out]; omega) hag.out (by simpa using hne))
      have d2 : decide ((t : Int) < (m : Int)) = true := by simp; omega
      have ht1 : t < n := by omega
      clear h1
      by_cases hlt : xs[t]?.getD 0 < ys[t]?.getD 0
      · have d3 : decide (xs[t]?.getD 0 < ys[t]?.getD 0) = true := by simpa using hlt
        have hz := Lib.hid (show cmpI (xs.getD t 0) (ys.getD t 0) = -1 by unfold cmpI; rw [if_pos (by simpa using hlt)])
        clear hne
        go_enter Tryz.func66, Tryz.ntmps66
        go_wp2_with (go_at_call 42; refine (HC.out _ rfl).mono ?_; rintro e w' ⟨rfl, q, rfl⟩)
        go_quiet (fail)
        go_wp2
        go_ret
        exact ⟨ret_int (by rw [hfin.out, hz.out]), by first | exact ⟨_, rfl⟩ | exact ⟨_, World.drewN_drewN _ _ _⟩⟩
      · have d3 : decide (xs[t]?.getD 0 < ys[t]?.getD 0) = false := by simpa using hlt
        have hgt : ys[t]?.getD 0 < xs[t]?.getD 0 := by omega
        have hz := Lib.hid (show cmpI (xs.getD t 0) (ys.getD t 0) = 1 by unfold cmpI; rw [if_neg (by simpa using hlt), if_pos (by simpa using hgt)])
        clear hne hlt
        go_enter Tryz.func66, Tryz.ntmps66
        go_wp2_with (go_at_call 42; refine (HC.out _ rfl).mono ?_; rintro e w' ⟨rfl, q, rfl⟩)
        go_quiet (fail)
        go_wp2
        go_ret
        exact ⟨ret_int (by rw [hfin.out, hz.out]), by first | exact ⟨_, rfl⟩ | exact ⟨_, World.drewN_drewN _ _ _⟩⟩
    · have d2 : decide (t < m) = false := by simp; omega
      have hfin := Lib.hid (lexi_long (xs := xs) (ys := ys) (by rw [L1.out, L2.out]; omega) (by rw [L2.out]; exact (by omega : t = m) ▸ hag.out))
      clear h1 h2
      go_enter Tryz.func66, Tryz.ntmps66
      go_wp2_with (go_at_call 42; refine (HC.out _ rfl).mono ?_; rintro e w' ⟨rfl, q, rfl⟩)
      go_quiet (fail)
      go_wp2
      go_ret
      exact ⟨ret_int (by rw [hfin.out]), by first | exact ⟨_, rfl⟩ | exact ⟨_, World.drewN_drewN _ _ _⟩⟩

theorem rcompare (A B : Option Addr) (n c m d : Nat) (xs ys : List Int) (w : World) (hx : Ints w A n xs) (hy : Ints w B m ys) :
    Calls Tryz.prog 57 #[.slice A n c, .slice B m d] w fun e w' => e = .returned (.int .i64 (shlex xs ys)) ∧ ∃ q, w' = w.drewN q := by
  have L1 := Lib.hid hx.1
  have L2 := Lib.hid hy.1
  by_cases h : n < m
  · have hfin := Lib.hid (shlex_lt (xs := xs) (ys := ys) (by rw [L1.out, L2.out]; exact h))
    go_enter Tryz.func57, Tryz.ntmps57
    go_wp2
    go_ret
    exact ⟨ret_int (by rw [hfin.out]), 0, rfl⟩
  · by_cases h' : m < n
    · have hfin := Lib.hid (shlex_gt (xs := xs) (ys := ys) (by rw [L1.out, L2.out]; omega))
      go_enter Tryz.func57, Tryz.ntmps57
      go_wp2
      go_ret
      exact ⟨ret_int (by rw [hfin.out]), 0, rfl⟩
    · have hfin := Lib.hid (shlex_eq (xs := xs) (ys := ys) (by rw [L1.out, L2.out]; omega))
      go_enter Tryz.func57, Tryz.ntmps57
      go_wp2_with (go_at_call 66; refine (rlex _ _ _ _ _ _ xs ys _ hx hy).mono ?_; rintro e w' ⟨rfl, q, rfl⟩)
      go_ret
      exact ⟨ret_int (by rw [hfin.out]), _, rfl⟩
end Go.Proofs.YtakhphhpjcpphaaGreatDoor
end

section
/- word.Common. -/
namespace Go.Proofs.YtakhphhpjcpphaaGreatDoor
open Go.RowKit

set_option maxHeartbeats 400000 in
theorem wcommon (A B : Option Addr) (n c m d : Nat) (xs ys : List Int) (w : World) (hx : Ints w A n xs) (hy : Ints w B m ys) :
    Calls Tryz.prog 47 #[.slice A n c, .slice B m d] w fun e w' => e = .returned (.int .i64 (cmn xs ys)) ∧ ∃ q, w' = w.drewN q := by
  have L1 := Lib.hid hx.1
  have L2 := Lib.hid hy.1
  have hn := hx.2.1
  have hm := hy.2.1
  by_cases hnm : m < n
  · go_enter Tryz.func47, Tryz.ntmps47
    go_wp2
    go_loopw [13] (fun i wr => ∃ j : Nat, j ≤ m ∧ i = .int .i64 j ∧ Agree xs ys j ∧ ∃ q, wr = w.drewN q) (fun i _ => m - (intOf i).toNat)
    case atStart => exact ⟨0, Nat.zero_le _, rfl, Agree.zero _ _, 0, rfl⟩
    case round =>
      obtain ⟨j, hj, rfl, ha, q, rfl⟩ := hrel
      by_cases hlt : j < m
      · obtain ⟨b1, o1, rfl, _, hc1⟩ := hx.at_ (k := j) (by omega)
        obtain ⟨b2, o2, rfl, _, hc2⟩ := hy.at_ (k := j) (by omega)
        by_cases he : xs[j]?.getD 0 = ys[j]?.getD 0
        · have ha' := Lib.hid (ha.succ (by simpa using he))
          have hb : (xs[j]?.getD 0 != ys[j]?.getD 0) = false := by simp [he]
          have hE := Lib.hid he
          clear he ha
          go_wp2
          go_quiet (fail)
          go_wp2
          go_roundw
          case rel => exact ⟨j + 1, by omega, by go_num, ha'.out, by first | exact ⟨_, rfl⟩ | exact ⟨_, World.drewN_drewN _ _ _⟩⟩
          case measure => simp [intOf]; omega
        · have hfin := Lib.hid (cmn_eq (j := j) (by rw [L1.out]; omega) (by rw [L2.out]; omega) ha (.inr (.inr (by simpa using he))))
          have hb : (xs[j]?.getD 0 != ys[j]?.getD 0) = true := by simpa using he
          clear he ha
          go_wp2
          go_quiet (fail)
          go_wp2
          go_ret
          exact ⟨ret_int (by rw [hfin.out]), by first | exact ⟨_, rfl⟩ | exact ⟨_, World.drewN_drewN _ _ _⟩⟩
      · have hfin := Lib.hid (cmn_eq (j := m) (by rw [L1.out]; omega) (by rw [L2.out]; omega) ((by omega : j = m) ▸ ha) (by rw [L1.out, L2.out]; omega))
        go_wp2
        go_ret
        exact ⟨ret_int (by rw [hfin.out]), by first | exact ⟨_, rfl⟩ | exact ⟨_, World.drewN_drewN _ _ _⟩⟩
  · go_enter Tryz.func47, Tryz.ntmps47
    go_wp2
    go_loopw [13] (fun i wr => ∃ j : Nat, j ≤ n ∧ i = .int .i64 j ∧ Agree xs ys j ∧ ∃ q, wr = w.drewN q) (fun i _ => n - (intOf i).toNat)
    case atStart => exact ⟨0, Nat.zero_le _, rfl, Agree.zero _ _, 0, rfl⟩
    case round =>
      obtain ⟨j, hj, rfl, ha, q, rfl⟩ := hrel
      by_cases hlt : j < n
      · obtain ⟨b1, o1, rfl, _, hc1⟩ := hx.at_ (k := j) (by omega)
        obtain ⟨b2, o2, rfl, _, hc2⟩ := hy.at_ (k := j) (by omega)
        by_cases he : xs[j]?.getD 0 = ys[j]?.getD 0
        · have ha' := Lib.hid (ha.succ (by simpa using he))
          have hb : (xs[j]?.getD 0 != ys[j]?.getD 0) = false := by simp [he]
          have hE := Lib.hid he
          clear he ha
          go_wp2
          go_quiet (fail)
          go_wp2
          go_roundw
          case rel => exact ⟨j + 1, by omega, by go_num, ha'.out, by first | exact ⟨_, rfl⟩ | exact ⟨_, World.drewN_drewN _ _ _⟩⟩
          case measure => simp [intOf]; omega
        · have hfin := Lib.hid (cmn_eq (j := j) (by rw [L1.out]; omega) (by rw [L2.out]; omega) ha (.inr (.inr (by simpa using he))))
          have hb : (xs[j]?.getD 0 != ys[j]?.getD 0) = true := by simpa using he
          clear he ha
          go_wp2
          go_quiet (fail)
          go_wp2
          go_ret
          exact ⟨ret_int (by rw [hfin.out]), by first | exact ⟨_, rfl⟩ | exact ⟨_, World.drewN_drewN _ _ _⟩⟩
      · have hfin := Lib.hid (cmn_eq (j := n) (by rw [L1.out]; omega) (by rw [L2.out]; omega) ((by omega : j = n) ▸ ha) (by rw [L1.out, L2.out]; omega))
        go_wp2
        go_ret
        exact ⟨ret_int (by rw [hfin.out]), by first | exact ⟨_, rfl⟩ | exact ⟨_, World.drewN_drewN _ _ _⟩⟩
end Go.Proofs.YtakhphhpjcpphaaGreatDoor
end

section
/- HasPrefix of the program. -/
namespace Go.Proofs.YtakhphhpjcpphaaGreatDoor
open Go.RowKit

theorem whasprefix (A B : Option Addr) (n c m d : Nat) (xs ys : List Int) (w : World) (hx : Ints w A n xs) (hy : Ints w B m ys) :
    Calls Tryz.prog 41 #[.slice A n c, .slice B m d] w fun e w' => e = .returned (.bool (decide (cmn xs ys = ys.length))) ∧ ∃ q, w' = w.drewN q := by
  have L2 := Lib.hid hy.1
  have hq : ((cmn xs ys : Int) == (m : Int)) = decide (cmn xs ys = ys.length) := by rw [L2.out, Bool.eq_iff_iff]; simp; omega
  have HQ := Lib.hid hq
  clear hq
  go_enter Tryz.func41, Tryz.ntmps41
  go_wp2_with (go_at_call 47; refine (wcommon _ _ _ _ _ _ xs ys _ hx hy).mono ?_; rintro e w' ⟨rfl, q, rfl⟩)
  go_ret
  exact ⟨by rw [HQ.out]; rfl, _, rfl⟩
end Go.Proofs.YtakhphhpjcpphaaGreatDoor
end

section
/- The closure of arrange: it compares two words of the captured row by the captured order. -/
namespace Go.Proofs.YtakhphhpjcpphaaGreatDoor
open Go.RowKit Go.Shelf

/-- The function f orders lists by o, and only reads. -/
def OrdC (f : Nat) (o : List Int → List Int → Int) : Prop := ∀ (A B : Option Addr) (n c m d : Nat) (xs ys : List Int) (w : World), Ints w A n xs → Ints w B m ys →
  Calls Tryz.prog f #[.slice A n c, .slice B m d] w fun e w' => e = .returned (.int .i64 (o xs ys)) ∧ ∃ q, w' = w.drewN q
theorem ordS : OrdC 26 shlex := fun A B n c m d xs ys w h1 h2 => wcompare A B n c m d xs ys w h1 h2
theorem ordL : OrdC 40 lexi := fun A B n c m d xs ys w h1 h2 => wlex A B n c m d xs ys w h1 h2
theorem entS : ∀ args w, (callFunc 26 args).run Tryz.prog w = .ok (.enter 26 args) w := enters_of Tryz.func26 (by kernel_rfl) rfl
theorem entL : ∀ args w, (callFunc 40 args).run Tryz.prog w = .ok (.enter 40 args) w := enters_of Tryz.func40 (by kernel_rfl) rfl

set_option maxHeartbeats 2000000 in
theorem pless (f : Nat) (o : List Int → List Int → Int) (ef : ∀ args w, (callFunc f args).run Tryz.prog w = .ok (.enter f args) w) (hord : OrdC f o) (g n c Bo Bw i j : Nat) (W : World)
    (hco : W.cell? ⟨Bo, 0, none⟩ = some (.func (.func f) #[] #[])) (hcw : W.cell? ⟨Bw, 0, none⟩ = some (.slice (some ⟨g, 0, none⟩) n c)) (hi : i < n) (hj : j < n)
    (A B : Option Addr) (k1 c1 k2 c2 : Nat) (xs ys : List Int) (h1 : W.cell? ⟨g, 0 + i, none⟩ = some (.slice A k1 c1)) (h2 : W.cell? ⟨g, 0 + j, none⟩ = some (.slice B k2 c2)) (hx : Ints W A k1 xs) (hy : Ints W B k2 ys) :
    Calls Tryz.prog 48 #[.int .i64 i, .int .i64 j, .pointer (some ⟨Bo, 0, none⟩), .pointer (some ⟨Bw, 0, none⟩)] W fun e w' => e = .returned (.bool (decide (o xs ys < 0))) ∧ ∃ q, w' = W.drewN q := by
  rw [Nat.zero_add] at h1 h2
  have hcall : ∀ q, Calls Tryz.prog f #[.slice A k1 c1, .slice B k2 c2] (W.drewN q) fun e w' => e = .returned (.int .i64 (o xs ys)) ∧ ∃ m, w' = (W.drewN q).drewN m := fun q => hord A B k1 c1 k2 c2 xs ys _ (hx.drewN q) (hy.drewN q)
  have i0 : (0 : Int) ≤ (i : Int) := by omega
  have i1 : (i : Int) < (n : Int) := by omega
  have j1 : (j : Int) < (n : Int) := by omega
  generalize o xs ys = r at hcall
  clear hx hy hord
  go_enter Tryz.func48, Tryz.ntmps48
  go_wp2
  go_quiet ((go_at_fn f; exact Calls.quiet_of (hcall _)))
  go_wp2
  go_ret
  exact ⟨rfl, _, rfl⟩
end Go.Proofs.YtakhphhpjcpphaaGreatDoor
end
