/- Lemmas of the proofs of this seat, of the parts Plcp, Rplc, Rwit, Rsrt, Rprd, Rprx. Conditions: none. -/
import Derived.Test.YtakhphhpjcpphaaDoorMb
import Derived.Test.YtakhphhpjcpphaaDoorMc
import Derived.Test.YtakhphhpjcpphaaDoorMd
import Derived.Deep.LoopGhost
import Derived.Deep.AppendLies
import Derived.Deep.RegionLaw
import Derived.BigRegion
section
/- The place of a word in a sorted list; the list with the word. No program. -/
namespace Go.Proofs.YtakhphhpjcpphaaDoor

/-- Just the first k words of acc are before v. -/
def PlcIs (acc : List (List Int)) (v : List Int) (k : Nat) : Prop := (∀ j, j < k → shlex (acc.getD j []) v < 0) ∧ ∀ j, k ≤ j → j < acc.length → ¬ shlex (acc.getD j []) v < 0
theorem wins_at {acc : List (List Int)} {v : List Int} {k : Nat} (h : PlcIs acc v k) (hk : k ≤ acc.length) :
    (k < acc.length → acc.getD k [] = v → wins acc v = acc) ∧ (¬ (k < acc.length ∧ acc.getD k [] = v) → wins acc v = acc.take k ++ [v] ++ acc.drop k) := by
  induction acc generalizing k with
  | nil =>
    refine ⟨fun h0 => absurd h0 (by simp), fun _ => by simp [wins]⟩
  | cons x l ih =>
    cases k with
    | zero =>
      have h0 := h.2 0 (Nat.le_refl _) (by simp)
      simp only [List.getD_cons_zero] at h0
      refine ⟨fun _ e => ?_, fun hne => ?_⟩
      · simp only [List.getD_cons_zero] at e
        unfold wins
        rw [if_neg h0, if_pos e]
      · have hxv : x ≠ v := fun e => hne ⟨by simp, by simpa using e⟩
        unfold wins
        rw [if_neg h0, if_neg hxv]
        simp
    | succ k =>
      have h0 := h.1 0 (by omega)
      simp only [List.getD_cons_zero] at h0
      have h' : PlcIs l v k := by
        refine ⟨fun j hj => ?_, fun j hj hl => ?_⟩
        · have := h.1 (j + 1) (by omega)
          simpa using this
        · have := h.2 (j + 1) (by omega) (by simp; omega)
          simpa using this
      obtain ⟨i1, i2⟩ := ih h' (by simp at hk; omega)
      refine ⟨fun hl e => ?_, fun hne => ?_⟩
      · unfold wins
        rw [if_pos h0, i1 (by simp at hl; omega) (by simpa using e)]
      · unfold wins
        rw [if_pos h0, i2 (fun hc => hne ⟨by simp; omega, by simpa using hc.2⟩)]
        simp
/-- No word from hi on is before v. -/
def PlHi (acc : List (List Int)) (v : List Int) (hi : Nat) : Prop := ∀ j, hi ≤ j → j < acc.length → ¬ shlex (acc.getD j []) v < 0
/-- All words below lo are before v. -/
def PlLo (acc : List (List Int)) (v : List Int) (lo : Nat) : Prop := ∀ j, j < lo → shlex (acc.getD j []) v < 0
theorem AscW.at_ {l : List (List Int)} (h : AscW l) {i j : Nat} (hij : i < j) (hj : j < l.length) : shlex (l.getD i []) (l.getD j []) < 0 := by
  have := List.pairwise_iff_getElem.1 h i j (by omega) hj hij
  simpa [List.getD, List.getElem?_eq_getElem hj, List.getElem?_eq_getElem (show i < l.length by omega)] using this
theorem plc_up {acc : List (List Int)} {v : List Int} {k : Nat} (ha : AscW acc) (hk : k < acc.length) (h : shlex (acc.getD k []) v < 0) : PlLo acc v (k + 1) := fun j hj => by
  by_cases e : j = k
  · subst e; exact h
  · exact shlex_lt_trans (ha.at_ (by omega) hk) h
theorem plc_down {acc : List (List Int)} {v : List Int} {k : Nat} (ha : AscW acc) (h : ¬ shlex (acc.getD k []) v < 0) : PlHi acc v k := fun j hj hl h2 => by
  by_cases e : j = k
  · subst e; exact h h2
  · exact h (shlex_lt_trans (ha.at_ (by omega) hl) h2)

/-- The row when the cells behind i hold what was one place before. -/
def shf {α : Type} (qs : List α) (z : α) (i : Nat) : List α := (qs ++ [z]).take (i + 1) ++ qs.drop i
theorem shf_start {α : Type} (qs : List α) (z : α) : shf qs z qs.length = qs ++ [z] := by unfold shf; rw [List.take_of_length_le (by simp), List.drop_length, List.append_nil]
theorem shf_len {α : Type} {qs : List α} {z : α} {i : Nat} (h : i ≤ qs.length) : (shf qs z i).length = qs.length + 1 := by unfold shf; simp; omega
theorem shf_at {α : Type} {qs : List α} {z : α} {i m : Nat} (h : i ≤ qs.length) : (shf qs z i)[m]? = if m ≤ i then (qs ++ [z])[m]? else qs[m - 1]? := by
  unfold shf
  have hl : ((qs ++ [z]).take (i + 1)).length = i + 1 := by simp; omega
  by_cases hm : m ≤ i
  · rw [if_pos hm, List.getElem?_append_left (by omega), List.getElem?_take, if_pos (by omega)]
  · rw [if_neg hm, List.getElem?_append_right (by omega), List.getElem?_drop, hl]
    congr 1; omega
theorem shf_step {α : Type} {qs : List α} {z : α} {i : Nat} {p : α} (hi : i < qs.length) (hp : qs[i]? = some p) : (shf qs z (i + 1)).set (i + 1) p = shf qs z i := by
  apply List.ext_getElem?
  intro m
  rw [List.getElem?_set, shf_len (by omega), shf_at (by omega), shf_at (by omega)]
  by_cases e : i + 1 = m
  · subst e
    rw [if_pos rfl, if_pos (by omega), if_neg (by omega), Nat.add_sub_cancel, hp]
  · rw [if_neg e]
    by_cases h1 : m ≤ i
    · rw [if_pos h1, if_pos (by omega)]
    · rw [if_neg h1, if_neg (by omega)]
theorem shf_get {α : Type} {qs : List α} {z : α} {i : Nat} (hi : i < qs.length) : (shf qs z (i + 1))[i]? = qs[i]? := by
  rw [shf_at (by omega), if_pos (by omega), List.getElem?_append_left hi]
theorem shf_end {α : Type} {qs : List α} {z p : α} {k : Nat} (hk : k ≤ qs.length) : (shf qs z k).set k p = qs.take k ++ [p] ++ qs.drop k := by
  apply List.ext_getElem?
  intro m
  rw [List.getElem?_set, shf_len hk, shf_at hk, List.append_assoc]
  have hl : (qs.take k).length = k := by simp; omega
  by_cases e : k = m
  · subst e
    rw [if_pos rfl, if_pos (by omega), List.getElem?_append_right (by omega), hl]; simp
  · rw [if_neg e]
    by_cases h1 : m ≤ k
    · rw [if_pos h1, List.getElem?_append_left (by omega), List.getElem?_append_left (by omega), List.getElem?_take, if_pos (by omega)]
    · rw [if_neg h1, List.getElem?_append_right (by omega), hl, List.getElem?_append_right (by simp; omega), List.getElem?_drop]
      congr 1; simp; omega
end Go.Proofs.YtakhphhpjcpphaaDoor
end

section
/- The reference: place, with. -/
namespace Go.Proofs.YtakhphhpjcpphaaDoor
open Go.RowKit Go.Shelf

/-- Some number that is the place. -/
def PlaceRes (acc : List (List Int)) (v : List Int) (w : World) (e : Ending) (w' : World) : Prop := ∃ k : Nat, e = .returned (.int .i64 k) ∧ k ≤ acc.length ∧ PlcIs acc v k ∧ ∃ q, w' = w.drewN q

set_option maxHeartbeats 1000000 in
theorem rplace (w : World) (A B : Option Addr) (n c m d : Nat) (acc : List (List Int)) (v : List Int) (h : Lists w A n acc) (hv : Ints w B m v) (ha : AscW acc) :
    Calls Tryd.prog 56 #[.slice A n c, .slice B m d] w (PlaceRes acc v w) := by
  have L := Lib.hid h.1
  have hn := h.2.1
  have HL := Lib.hid h
  have HV := Lib.hid hv
  have HA := Lib.hid ha
  clear h hv ha
  go_enter Tryd.func56, Tryd.ntmps56
  go_wp2
  go_loopw [5, 6] (fun a b wr => ∃ lo hi q : Nat, a = .int .i64 lo ∧ b = .int .i64 hi ∧ lo ≤ hi ∧ hi ≤ n ∧ PlLo acc v lo ∧ PlHi acc v hi ∧ wr = w.drewN q) (fun a b _ => (intOf b).toNat - (intOf a).toNat)
  case atStart => exact ⟨0, n, 0, rfl, rfl, Nat.zero_le _, Nat.le_refl _, fun j hj => absurd hj (by omega), fun j h1 h2 => absurd h2 (by rw [L.out]; omega), rfl⟩
  case round =>
    obtain ⟨lo, hi, q, rfl, rfl, hle, hhi, H1, H2, rfl⟩ := hrel
    by_cases hlt : lo < hi
    · obtain ⟨K, hK⟩ : ∃ K, K = (lo + hi) / 2 := ⟨_, rfl⟩
      have k1 : lo ≤ K := by omega
      have k2 : K < hi := by omega
      have hdiv : ((lo : Int) + (hi : Int)) / 2 = (K : Int) := by omega
      have kn : K < n := by omega
      obtain ⟨b, off, Aj, nj, cj, rfl, _, hcell, hI⟩ := HL.out.at_ kn
      have hcall := rcompare Aj B nj cj m d _ v (w.drewN q) (hI.drewN q) (HV.out.drewN q)
      obtain ⟨r, hr⟩ : ∃ r, r = shlex (acc.getD K []) v := ⟨_, rfl⟩
      rw [← hr] at hcall
      have HC := Lib.hid hcall
      have HR := Lib.hid hr
      clear hK hI hcall hr
      by_cases hneg : r < 0
      · have U := Lib.hid (plc_up HA.out (by rw [L.out]; exact kn) (by rw [← HR.out]; exact hneg))
        go_wp2_with (go_at_call 43; refine HC.out.mono ?_; rintro e w' ⟨rfl, q', rfl⟩)
        clear hdiv
        go_roundw
        case rel => exact ⟨K + 1, hi, _, by go_num, rfl, by omega, hhi, U.out, H2, rfl⟩
        case measure => simp [intOf]; omega
      · have U := Lib.hid (plc_down HA.out (by rw [← HR.out]; exact hneg))
        have hpos : 0 ≤ r := by omega
        go_wp2_with (go_at_call 43; refine HC.out.mono ?_; rintro e w' ⟨rfl, q', rfl⟩)
        clear hdiv
        go_roundw
        case rel => exact ⟨lo, K, _, rfl, rfl, by omega, by omega, H1, U.out, rfl⟩
        case measure => simp [intOf]; omega
    · obtain rfl : lo = hi := by omega
      go_wp2
      go_ret
      exact ⟨lo, rfl, by rw [L.out]; exact hhi, ⟨H1, H2⟩, q, rfl⟩

/-- The slice value v is a row of the words xss, in blocks from base on, which the call may write. -/
def OwnV (w : World) (base : Nat) (v : Value) (xss : List (List Int)) : Prop := ∃ qs, HRow w base v qs ∧ (∀ q, q ∈ qs → Owned w base q.1 q.2) ∧ qs.map Prod.snd = xss
theorem OwnV.nil (w : World) (base : Nat) : OwnV w base (.slice none 0 0) [] := ⟨[], HRow.nil w base, fun q h => absurd h (by simp), rfl⟩
theorem OwnW.ownV {w : World} {base : Nat} {v : Value} {xss : List (List Int)} (h : OwnW w base v xss) : OwnV w base v xss := by
  obtain ⟨qs, h1, h2⟩ := h
  exact ⟨qs, h1.1, h1.2.1, h2⟩
theorem OwnV.kept {w w' : World} {base : Nat} {v : Value} {xss : List (List Int)} (h : OwnV w base v xss) (hb : Below w.heap.size w w') : OwnV w' base v xss := by
  obtain ⟨qs, h1, h2, e⟩ := h
  exact ⟨qs, h1.kept hb, fun q hq => (h2 q hq).kept hb, e⟩
theorem OwnV.lower {w : World} {base base' : Nat} {v : Value} {xss : List (List Int)} (h : OwnV w base v xss) (hb : base' ≤ base) : OwnV w base' v xss := by
  obtain ⟨qs, h1, h2, e⟩ := h
  exact ⟨qs, h1.lower hb, fun q hq => (h2 q hq).lower hb, e⟩
theorem OwnV.form {w : World} {base : Nat} {v : Value} {xss : List (List Int)} (h : OwnV w base v xss) : ∃ A c, v = .slice A xss.length c := by
  obtain ⟨qs, h1, _, e⟩ := h
  obtain ⟨A, c, e2⟩ := h1.form
  exact ⟨A, c, by rw [e2, ← e, List.length_map]⟩
theorem OwnV.lists {w : World} {base : Nat} {A : Option Addr} {n c : Nat} {xss : List (List Int)} (h : OwnV w base (.slice A n c) xss) (hm : xss.length ≤ 17592186044416) (hr : ∀ x, x ∈ xss → x.length ≤ 17592186044416) : ListsC w A n xss := by
  obtain ⟨qs, h1, h2, rfl⟩ := h
  refine (h1.hds (by rw [List.length_map] at hm; exact hm)).lists (top := w.heap.size) fun q hq => ?_
  have ho := h2 q hq
  obtain ⟨A, c, e, hc, hb⟩ := ho.bounds
  exact ⟨A, _, c, e, (by rw [e] at ho; exact ho.ints (hr _ (List.mem_map_of_mem hq))), hc, fun a ha _ => (hb a ha).1⟩

/-- append(v, nil): where the row lies then. -/
theorem run_append_nilh {w : World} {base : Nat} {v : Value} {ps : List HL} (h : HRow w base v ps) (hbase : base ≤ w.heap.size) (hl : ps.length < 1759218604441) :
    ∃ g c w', (Builtin.append_ #[25, 25] 25 #[v, .slice (some ⟨w.heap.size, 0, none⟩) 1 1]).run Tryd.prog (w.alloc (.cells #[.slice none 0 0] 38)) = .ok (.slice (some ⟨g, 0, none⟩) (ps.length + 1) c) w' ∧
      HRow w' base (.slice (some ⟨g, 0, none⟩) (ps.length + 1) c) (ps ++ [(.slice none 0 0, [])]) ∧ w.grownBy w' v.ownBlock ∧ Below base w w' ∧ (v.ownBlock = some g ∨ w.heap.size ≤ g) := by
  obtain ⟨i, hi, hz0, hz1, hz2⟩ := info_parts infol
  have hbz := alloc_below w (.cells #[.slice none 0 0] 38)
  have ho1 := (h.kept hbz).1
  obtain ⟨v', w', hr, h1, h2, _, hmv⟩ := run_append_own_at (P := Tryd.prog) (w.alloc (.cells #[.slice none 0 0] 38)) base 25 25 38 i (.slice none 0 0) 1 24 Tryd.underlying25 hi hz0 hz1 hz2 rfl (by decide) v _ _ ho1 ⟨w.heap.size, 0, none⟩ 1 1 [.slice none 0 0] (by simp)
    (by
      intro j u hu
      cases j with
      | zero =>
        simp at hu
        subst hu
        simp [Addr.add]
      | succ j => simp at hu)
    (by intro u hu; simp at hu; subst hu; rfl) (by unfold maxLen; omega) (by omega) (Nat.le_trans hbase hbz.size)
  have hgb : w.grownBy w' v.ownBlock := ⟨h2.os, h2.tape, h2.output, Nat.le_trans hbz.size h2.size, fun k hk hne => (h2.block k (Nat.lt_of_lt_of_le hk hbz.size) hne).trans (hbz.block k hk)⟩
  rcases h1.2 with ⟨rfl, h0⟩ | ⟨g, cap, cur, rfl, r⟩
  · have := h1.1; rw [h0] at this; simp at this
  · refine ⟨g, cap, w', hr, ⟨?_, fun p hp => ?_⟩, hgb, (hbz.mono hbase).trans ((Below.refl _ _).grown h2 (Nat.le_trans hbase hbz.size) (fun k hk => (World.ownsRow.lt ho1 k hk).1)), ?_⟩
    · rw [List.length_append, List.map_append]; exact h1
    · rcases List.mem_append.1 hp with hp | hp
      · exact h.2 p hp
      · rw [List.mem_singleton] at hp; subst hp; exact ⟨none, 0, 0, rfl⟩
    · rcases hmv with e | e
      · left; rw [← e]; rfl
      · right
        have : g = (w.alloc (.cells #[.slice none 0 0] 38)).heap.size := by simpa [Value.ownBlock] using e
        rw [this]; exact hbz.size
end Go.Proofs.YtakhphhpjcpphaaDoor
end

section
/- The reference: with. -/
namespace Go.Proofs.YtakhphhpjcpphaaDoor
open Go.RowKit Go.Shelf

theorem HRow.block {w : World} {base g n c : Nat} {ps : List HL} (h : HRow w base (.slice (some ⟨g, 0, none⟩) n c) ps) : ∃ cs, w.heap[g]? = some (.cells cs 38 (0, 0)) := by
  rcases h.1.2 with ⟨e1, _⟩ | ⟨g', cap, cur, e1, _, hg, _⟩
  · cases e1
  · cases e1; exact ⟨cur, hg⟩
theorem take_map_snd (qs : List HL) (k : Nat) : (qs.take k).map Prod.snd = (qs.map Prod.snd).take k := by rw [List.map_take]

set_option maxHeartbeats 4000000 in
set_option maxRecDepth 100000 in
theorem rwith (w : World) (base : Nat) (A B : Option Addr) (n c m d : Nat) (acc : List (List Int)) (v : List Int) (h : OwnV w base (.slice A n c) acc) (hx : InOff w (Value.ownBlock (.slice A n c)) (.slice B m d, v)) (ha : AscW acc) (hbase : base ≤ w.heap.size)
    (hl : acc.length < 1759218604441) (hr : ∀ x, x ∈ acc → x.length ≤ 17592186044416) :
    Calls Tryd.prog 35 #[.slice A n c, .slice B m d] w fun e w' => ∃ u, e = .returned u ∧ OwnV w' base u (wins acc v) ∧ Below base w w' := by
  have hls := h.lists (by omega) hr
  have hnl := hls.1
  obtain ⟨qs, hrow, hown, hqs⟩ := h
  obtain ⟨B', m', d', e', hi, hoff⟩ := hx
  cases e'
  have hn : n < 1759218604441 := by rw [← hnl]; exact hl
  have HP := Lib.hid (rplace w A B n c m d acc v hls.lists hi ha)
  have LS := Lib.hid hls
  have NL := Lib.hid hnl
  have HRW := Lib.hid hrow
  have HOW := Lib.hid hown
  have HQS := Lib.hid hqs
  have HI := Lib.hid hi
  have HOFF := Lib.hid hoff
  have QL := Lib.hid (show qs.length = n by rw [← hnl, ← hqs, List.length_map])
  clear hls hnl hrow hown hqs hi hoff hl hr ha
  go_enter Tryd.func35, Tryd.ntmps35
  go_wp2_with fail
  refine HP.out.mono ?_
  rintro e w1 ⟨k, rfl, hk, hpl, q, rfl⟩
  rw [NL.out] at hk
  have WA := Lib.hid (wins_at hpl (by rw [NL.out]; exact hk))
  clear hpl
  by_cases hkn : k < n
  · obtain ⟨b, off, Aj, nj, cj, eA, _, hcell, _, hI⟩ := LS.out.at_ hkn
    subst eA
    by_cases heq : acc.getD k [] = v
    · have HS := Lib.hid (rsameD Aj B nj cj m d _ v true (w.drewN q) (hI.drewN q) (HI.out.drewN q) (by rw [decide_eq_true heq]))
      have WI := Lib.hid (WA.out.1 (by rw [NL.out]; exact hkn) heq)
      clear heq hI
      go_wp2_with (go_at_call 24; refine HS.out.mono ?_; rintro e w' ⟨rfl, q', rfl⟩)
      go_ret
      exact ⟨_, rfl, by rw [WI.out]; exact ⟨qs, HRW.out, HOW.out, HQS.out⟩, below_drewN (Below.refl _ _) _⟩
    · have HS := Lib.hid (rsameD Aj B nj cj m d _ v false (w.drewN q) (hI.drewN q) (HI.out.drewN q) (by rw [decide_eq_false heq]))
      have WI := Lib.hid (WA.out.2 (fun hc => heq hc.2))
      clear heq hI
      go_wp2_with fail
      refine HS.out.mono ?_
      rintro e w' ⟨rfl, q', rfl⟩
      obtain ⟨W, hW⟩ : ∃ W : World, W = (w.drewN q).drewN q' := ⟨_, rfl⟩
      rw [← hW]
      have RW := Lib.hid (show HRow W base (.slice (some ⟨b, off, none⟩) n c) qs from by rw [hW]; exact HRW.out)
      have OW := Lib.hid (show ∀ q, q ∈ qs → Owned W base q.1 q.2 from by rw [hW]; exact HOW.out)
      have B0 := Lib.hid (show Below base w W from by rw [hW]; exact below_drewN (below_drewN (Below.refl _ _) q) q')
      have XI := Lib.hid (show InOff W (Value.ownBlock (.slice (some ⟨b, off, none⟩) n c)) (.slice B m d, v) from by rw [hW]; exact ⟨B, m, d, rfl, HI.out, HOFF.out⟩)
      clear hW
      obtain ⟨g, c2, w2, hr2, h2, g2, b2, hg⟩ := run_append_nilh RW.out (Nat.le_trans hbase B0.out.size) (by rw [QL.out]; exact hn)
      rw [QL.out] at hr2 h2
      have XG := Lib.hid (show InOff w2 (some g) (.slice B m d, v) from by
        obtain ⟨B', m', d', e', i1, o1⟩ := XI.out.grown g2
        cases e'
        refine ⟨B, m, d, rfl, i1, fun a ha h0 e2 => ?_⟩
        rcases hg with hg | hg
        · exact o1 a ha h0 (by rw [hg]; exact e2)
        · obtain ⟨B', m', d', e', i2, _⟩ := XI.out
          cases e'
          obtain ⟨b', o', e3, hlt3, _⟩ := i2.2.2 h0
          rw [ha] at e3
          cases e3
          have : b' = g := by simpa using e2
          omega)
      have O2 := Lib.hid (show ∀ q, q ∈ qs → Owned w2 base q.1 q.2 from fun q hq => (OW.out q hq).keptT (KeptT.grown g2 RW.out.1 (by decide)))
      have H2 := Lib.hid h2
      have B2 := Lib.hid (B0.out.trans b2)
      have S2 := Lib.hid (show shf qs ((.slice none 0 0, []) : HL) n = qs ++ [(.slice none 0 0, [])] by rw [← QL.out]; exact shf_start qs _)
      have GB := Lib.hid (show base ≤ g from h2.cap.2.1)
      clear h2 g2 b2 hg
      go_wp2_with (at_builtin; refine Lib.wpList_append_run _ rfl _ _ _ _ rfl _ _ rfl rfl _ _ hr2 ?_)
      go_loopw [6] (fun s wr => ∃ i : Nat, k ≤ i ∧ i ≤ n ∧ s = .int .i64 i ∧ HRow wr base (.slice (some ⟨g, 0, none⟩) (n + 1) c2) (shf qs ((.slice none 0 0, []) : HL) i) ∧ w2.grownBy wr (some g)) (fun s _ => (intOf s).toNat)
      case atStart => exact ⟨n, hk, Nat.le_refl _, by go_num, by rw [S2.out]; exact H2.out, World.grownBy.refl w2 _⟩
      case round =>
        obtain ⟨i, hki, hin, rfl, hrow, hgr⟩ := hrel
        have HRR := Lib.hid hrow
        have HGR := Lib.hid hgr
        have hcap := hrow.cap.1
        clear hrow hgr
        by_cases hlt : k < i
        · obtain ⟨j, hj⟩ : ∃ j, j = i - 1 := ⟨_, rfl⟩
          obtain rfl : i = j + 1 := by omega
          have hjn : j < qs.length := by rw [QL.out]; omega
          obtain ⟨p, hp⟩ : ∃ p, qs[j]? = some p := ⟨_, List.getElem?_eq_getElem hjn⟩
          obtain ⟨Bp, mp, dp, ep⟩ := RW.out.2 p (List.mem_of_getElem? hp)
          obtain ⟨p1, p2⟩ := p
          simp only at ep
          subst ep
          have cj := (HRR.out.cellOf ((shf_get hjn).trans hp)).1
          obtain ⟨po, hpo⟩ : ∃ po, (shf qs ((.slice none 0 0, []) : HL) (j + 1))[j + 1]? = some po := ⟨_, List.getElem?_eq_getElem (by rw [shf_len (by rw [QL.out]; omega), QL.out]; omega)⟩
          obtain ⟨co, fo⟩ := HRR.out.cellOf hpo
          have HST := Lib.hid (HRR.out.stored (j + 1) Bp mp dp p2)
          rw [shf_step hjn hp] at HST
          have HGB := Lib.hid (HRR.out.storedBy (j + 1) (.slice Bp mp dp))
          have W1 : IntKind.i64.wrap (((j + 1 : Nat) : Int) - 1) = (j : Int) := by rw [IntKind.wrap_i64]; omega
          simp only at cj
          generalize po.1 = old at co
          clear hj hp hpo
          go_wp2
          clear W1
          go_roundw
          case rel => exact ⟨j, by omega, by omega, by go_num, HST.out, grownBy_trans HGR.out HGB.out⟩
          case measure => simp [intOf]
        · obtain rfl : i = k := by omega
          have XR := Lib.hid ((XG.out).grown HGR.out)
          have hb0 := alloc_below wr (.cells #[] 3)
          have ho0 := Owned.literal wr wr.heap.size [] #[] 0 (Nat.le_refl _) rfl rfl (by simp)
          have hxi : Ints wr B m v := by obtain ⟨B', m', d', e', i1, _⟩ := XR.out; cases e'; exact i1
          obtain ⟨v3, w3, hr3, ho3, hg3, hb3⟩ := run_append_ints _ _ _ _ _ _ _ d ho0 (hxi.below hb0) hb0.size (by rw [List.nil_append, hxi.1]; exact hxi.2.1)
          obtain ⟨A3, c3, rfl⟩ := ho3.form
          rw [List.nil_append, hxi.1] at hr3 ho3
          have hB3 := hb0.trans hb3
          obtain ⟨po, hpo⟩ : ∃ po, (shf qs ((.slice none 0 0, []) : HL) i)[i]? = some po := ⟨_, List.getElem?_eq_getElem (by rw [shf_len (by rw [QL.out]; omega), QL.out]; omega)⟩
          have HR3 := HRR.out.kept hB3
          obtain ⟨co, fo⟩ := HR3.cellOf hpo
          obtain ⟨cs, hcs⟩ := HR3.block
          have FIN := Lib.hid (show OwnV (w3.setCell ⟨g, i, none⟩ (.slice A3 m c3)) base (.slice (some ⟨g, 0, none⟩) (n + 1) c2) (wins acc v) ∧ Below base w (w3.setCell ⟨g, i, none⟩ (.slice A3 m c3)) from by
            have hst := HR3.stored i A3 m c3 v
            rw [shf_end (by rw [QL.out]; exact hk)] at hst
            have hkk : KeptT 3 w3 (w3.setCell ⟨g, i, none⟩ (.slice A3 m c3)) := KeptT.off hcs (by decide) _
            have hgs : base ≤ wr.heap.size := Nat.le_trans hbase (Nat.le_trans B2.out.size HGR.out.size)
            refine ⟨⟨_, hst, fun q hq => ?_, ?_⟩, ?_⟩
            · have hold : ∀ q, q ∈ qs → Owned (w3.setCell ⟨g, i, none⟩ (.slice A3 m c3)) base q.1 q.2 := fun q hq =>
                ((((O2.out q hq).keptT (KeptT.grown HGR.out H2.out.1 (by decide))).kept hB3)).keptT hkk
              rcases List.mem_append.1 hq with hq | hq
              · rcases List.mem_append.1 hq with hq | hq
                · exact hold q (List.mem_of_mem_take hq)
                · rw [List.mem_singleton] at hq
                  subst hq
                  exact (ho3.lower hgs).keptT hkk
              · exact hold q (List.mem_of_mem_drop hq)
            · rw [List.map_append, List.map_append, List.map_take, List.map_drop, HQS.out, WI.out]; rfl
            · exact ((B2.out.trans ((Below.refl _ _).grown HGR.out (Nat.le_trans hbase B2.out.size) (fun k hk => by cases hk; exact GB.out))).trans (hB3.mono hgs)).setCell (by exact GB.out) _)
          have hki2 : i < n + 1 := by omega
          generalize po.1 = old at co
          clear hB3 hb3 hg3 ho3 ho0 hxi hb0 hpo HR3 hcs
          go_wp2_with (at_builtin; refine Lib.wpList_append_run _ rfl _ _ _ _ rfl _ _ rfl rfl _ _ hr3 ?_)
          go_ret
          exact ⟨_, rfl, FIN.out.1, FIN.out.2⟩
  · have WI := Lib.hid (WA.out.2 (fun hc => hkn (by rw [← NL.out]; exact hc.1)))
    obtain ⟨W, hW⟩ : ∃ W : World, W = w.drewN q := ⟨_, rfl⟩
    rw [← hW]
    have RW := Lib.hid (show HRow W base (.slice A n c) qs from by rw [hW]; exact HRW.out)
    have OW := Lib.hid (show ∀ q, q ∈ qs → Owned W base q.1 q.2 from by rw [hW]; exact HOW.out)
    have B0 := Lib.hid (show Below base w W from by rw [hW]; exact below_drewN (Below.refl _ _) q)
    have XI := Lib.hid (show InOff W (Value.ownBlock (.slice A n c)) (.slice B m d, v) from by rw [hW]; exact ⟨B, m, d, rfl, HI.out, HOFF.out⟩)
    clear hW
    obtain ⟨g, c2, w2, hr2, h2, g2, b2, hg⟩ := run_append_nilh RW.out (Nat.le_trans hbase B0.out.size) (by rw [QL.out]; exact hn)
    rw [QL.out] at hr2 h2
    have XG := Lib.hid (show InOff w2 (some g) (.slice B m d, v) from by
      obtain ⟨B', m', d', e', i1, o1⟩ := XI.out.grown g2
      cases e'
      refine ⟨B, m, d, rfl, i1, fun a ha h0 e2 => ?_⟩
      rcases hg with hg | hg
      · exact o1 a ha h0 (by rw [hg]; exact e2)
      · obtain ⟨B', m', d', e', i2, _⟩ := XI.out
        cases e'
        obtain ⟨b', o', e3, hlt3, _⟩ := i2.2.2 h0
        rw [ha] at e3
        cases e3
        have : b' = g := by simpa using e2
        omega)
    have O2 := Lib.hid (show ∀ q, q ∈ qs → Owned w2 base q.1 q.2 from fun q hq => (OW.out q hq).keptT (KeptT.grown g2 RW.out.1 (by decide)))
    have H2 := Lib.hid h2
    have B2 := Lib.hid (B0.out.trans b2)
    have S2 := Lib.hid (show shf qs ((.slice none 0 0, []) : HL) n = qs ++ [(.slice none 0 0, [])] by rw [← QL.out]; exact shf_start qs _)
    have GB := Lib.hid (show base ≤ g from h2.cap.2.1)
    clear h2 g2 b2 hg
    go_wp2_with (at_builtin; refine Lib.wpList_append_run _ rfl _ _ _ _ rfl _ _ rfl rfl _ _ hr2 ?_)
    go_loopw [6] (fun s wr => ∃ i : Nat, k ≤ i ∧ i ≤ n ∧ s = .int .i64 i ∧ HRow wr base (.slice (some ⟨g, 0, none⟩) (n + 1) c2) (shf qs ((.slice none 0 0, []) : HL) i) ∧ w2.grownBy wr (some g)) (fun s _ => (intOf s).toNat)
    case atStart => exact ⟨n, hk, Nat.le_refl _, by go_num, by rw [S2.out]; exact H2.out, World.grownBy.refl w2 _⟩
    case round =>
      obtain ⟨i, hki, hin, rfl, hrow, hgr⟩ := hrel
      have HRR := Lib.hid hrow
      have HGR := Lib.hid hgr
      have hcap := hrow.cap.1
      clear hrow hgr
      by_cases hlt : k < i
      · exact absurd hlt (by omega)
      · obtain rfl : i = k := by omega
        have XR := Lib.hid ((XG.out).grown HGR.out)
        have hb0 := alloc_below wr (.cells #[] 3)
        have ho0 := Owned.literal wr wr.heap.size [] #[] 0 (Nat.le_refl _) rfl rfl (by simp)
        have hxi : Ints wr B m v := by obtain ⟨B', m', d', e', i1, _⟩ := XR.out; cases e'; exact i1
        obtain ⟨v3, w3, hr3, ho3, hg3, hb3⟩ := run_append_ints _ _ _ _ _ _ _ d ho0 (hxi.below hb0) hb0.size (by rw [List.nil_append, hxi.1]; exact hxi.2.1)
        obtain ⟨A3, c3, rfl⟩ := ho3.form
        rw [List.nil_append, hxi.1] at hr3 ho3
        have hB3 := hb0.trans hb3
        obtain ⟨po, hpo⟩ : ∃ po, (shf qs ((.slice none 0 0, []) : HL) i)[i]? = some po := ⟨_, List.getElem?_eq_getElem (by rw [shf_len (by rw [QL.out]; omega), QL.out]; omega)⟩
        have HR3 := HRR.out.kept hB3
        obtain ⟨co, fo⟩ := HR3.cellOf hpo
        obtain ⟨cs, hcs⟩ := HR3.block
        have FIN := Lib.hid (show OwnV (w3.setCell ⟨g, i, none⟩ (.slice A3 m c3)) base (.slice (some ⟨g, 0, none⟩) (n + 1) c2) (wins acc v) ∧ Below base w (w3.setCell ⟨g, i, none⟩ (.slice A3 m c3)) from by
          have hst := HR3.stored i A3 m c3 v
          rw [shf_end (by rw [QL.out]; exact hk)] at hst
          have hkk : KeptT 3 w3 (w3.setCell ⟨g, i, none⟩ (.slice A3 m c3)) := KeptT.off hcs (by decide) _
          have hgs : base ≤ wr.heap.size := Nat.le_trans hbase (Nat.le_trans B2.out.size HGR.out.size)
          refine ⟨⟨_, hst, fun q hq => ?_, ?_⟩, ?_⟩
          · have hold : ∀ q, q ∈ qs → Owned (w3.setCell ⟨g, i, none⟩ (.slice A3 m c3)) base q.1 q.2 := fun q hq =>
              ((((O2.out q hq).keptT (KeptT.grown HGR.out H2.out.1 (by decide))).kept hB3)).keptT hkk
            rcases List.mem_append.1 hq with hq | hq
            · rcases List.mem_append.1 hq with hq | hq
              · exact hold q (List.mem_of_mem_take hq)
              · rw [List.mem_singleton] at hq
                subst hq
                exact (ho3.lower hgs).keptT hkk
            · exact hold q (List.mem_of_mem_drop hq)
          · rw [List.map_append, List.map_append, List.map_take, List.map_drop, HQS.out, WI.out]; rfl
          · exact ((B2.out.trans ((Below.refl _ _).grown HGR.out (Nat.le_trans hbase B2.out.size) (fun k hk => by cases hk; exact GB.out))).trans (hB3.mono hgs)).setCell (by exact GB.out) _)
        have hki2 : i < n + 1 := by omega
        generalize po.1 = old at co
        clear hB3 hb3 hg3 ho3 ho0 hxi hb0 hpo HR3 hcs
        go_wp2_with (at_builtin; refine Lib.wpList_append_run _ rfl _ _ _ _ rfl _ _ rfl rfl _ _ hr3 ?_)
        go_ret
        exact ⟨_, rfl, FIN.out.1, FIN.out.2⟩
end Go.Proofs.YtakhphhpjcpphaaDoor
end

section
/- The reference: Sorted, longest, Great, Union; ascending. -/
namespace Go.Proofs.YtakhphhpjcpphaaDoor
open Go.RowKit Go.Shelf

theorem swA_app (l m acc : List (List Int)) : swA (l ++ m) acc = swA m (swA l acc) := by
  induction l generalizing acc with
  | nil => rfl
  | cons x l ih => exact ih _
theorem sw_snoc (l : List (List Int)) (x : List Int) : sw (l ++ [x]) = wins (sw l) x := by unfold sw; rw [swA_app]; rfl
theorem sw_take {l : List (List Int)} {k : Nat} (h : k < l.length) : sw (l.take (k + 1)) = wins (sw (l.take k)) (l.getD k []) := by
  rw [List.take_succ_eq_append_getElem h, sw_snoc, List.getD_eq_getElem?_getD, List.getElem?_eq_getElem h]; rfl
theorem sw_all_len {l : List (List Int)} {L : Nat} (h : ∀ x, x ∈ l → x.length ≤ L) : ∀ x, x ∈ sw l → x.length ≤ L := fun x hx => h x ((sw_mem l x).1 hx)
/-- A word below the base of a row of one's own lies outside the row. -/
theorem OwnV.offAt {w : World} {base : Nat} {v : Value} {xss : List (List Int)} {p : HL} (h : OwnV w base v xss) (hp : InAt w base p) : InOff w v.ownBlock p := by
  obtain ⟨qs, h1, _, _⟩ := h
  exact hp.off h1 (Nat.le_refl _)
theorem OwnV.lt {w : World} {base : Nat} {v : Value} {xss : List (List Int)} (h : OwnV w base v xss) : ∀ k, v.ownBlock = some k → base ≤ k ∧ k < w.heap.size := by
  obtain ⟨qs, h1, _, _⟩ := h
  exact h1.lt
theorem ListsC.inAt {w : World} {A : Option Addr} {n : Nat} {xss : List (List Int)} (h : ListsC w A n xss) {k : Nat} (hk : k < n) {b off : Nat} (hA : A = some ⟨b, off, none⟩) {B : Option Addr} {m d : Nat} (hc : w.cell? ⟨b, off + k, none⟩ = some (.slice B m d)) : InAt w w.heap.size (.slice B m d, xss.getD k []) := by
  obtain ⟨b', off', B', m', d', e, _, hc', hmd, hI⟩ := h.at_ hk
  rw [hA] at e
  cases e
  rw [hc] at hc'
  cases hc'
  exact ⟨B, m, d, rfl, hI, hmd, fun a ha h0 => by
    obtain ⟨b2, o2, e2, hlt, _⟩ := hI.2.2 h0
    rw [ha] at e2
    cases e2
    exact hlt⟩

set_option maxHeartbeats 1000000 in
theorem rsorted (w : World) (A : Option Addr) (n c : Nat) (xss : List (List Int)) (h : ListsC w A n xss) (hn : n ≤ 1759218604441) :
    Calls Tryd.prog 27 #[.slice A n c] w fun e w' => ∃ v, e = .returned v ∧ OwnV w' w.heap.size v (sw xss) ∧ Below w.heap.size w w' := by
  have L := Lib.hid h.1
  have HL := Lib.hid h
  have LEN := Lib.hid h.len
  clear h
  go_enter Tryd.func27, Tryd.ntmps27
  go_wp2
  go_loopw [3, 4] (fun v i wr => ∃ k : Nat, k ≤ n ∧ i = .int .i64 k ∧ OwnV wr w.heap.size v (sw (xss.take k)) ∧ Below w.heap.size w wr) (fun _ i _ => n - (intOf i).toNat)
  case atStart => exact ⟨0, Nat.zero_le _, rfl, OwnV.nil _ _, Below.refl _ _⟩
  case round =>
    obtain ⟨k, hk, rfl, hown, hbr⟩ := hrel
    by_cases hlt : k < n
    · obtain ⟨b, off, B, m, d, eA, _, hcell0, _, _⟩ := HL.out.at_ hlt
      have hin := (HL.out.inAt hlt eA hcell0).on hbr
      have hcell := (hbr.cell (p := ⟨b, off + k, none⟩) (block_lt hcell0)).trans hcell0
      subst eA
      obtain ⟨Av, cv, ev⟩ := hown.form
      subst ev
      have hsl : (sw (xss.take k)).length ≤ k := by have := sw_len (xss.take k); rw [List.length_take] at this; omega
      obtain ⟨fl, hfl⟩ : ∃ fl, fl = (sw (xss.take k)).length := ⟨_, rfl⟩
      have hcall := rwith wr w.heap.size Av B fl cv m d (sw (xss.take k)) (xss.getD k []) (by rw [hfl]; exact hown) (by rw [hfl]; exact hown.offAt hin) (sw_asc _) hbr.size (by omega) (sw_all_len fun x hx => LEN.out x (List.mem_of_mem_take hx))
      rw [← sw_take (by rw [L.out]; exact hlt)] at hcall
      rw [← hfl]
      have HC := Lib.hid hcall
      have HB := Lib.hid hbr
      clear hcall hown hin hbr hsl hcell0 hfl
      go_wp2_with fail
      refine HC.out.mono ?_
      rintro e w2 ⟨u, rfl, o2, b2⟩
      have O2 := Lib.hid o2
      have B2 := Lib.hid (HB.out.trans b2)
      clear o2 b2
      go_wp2
      go_roundw
      case rel => exact ⟨k + 1, by omega, by go_num, O2.out, B2.out⟩
      case measure => simp [intOf]; omega
    · obtain rfl : k = n := by omega
      have HO := Lib.hid hown
      clear hown
      go_wp2
      go_ret
      exact ⟨_, rfl, by have := HO.out; rw [← L.out, List.take_length] at this; exact this, hbr⟩

set_option maxHeartbeats 1000000 in
theorem rlongest (w : World) (A : Option Addr) (n c : Nat) (xss : List (List Int)) (h : Lists w A n xss) :
    Calls Tryd.prog 34 #[.slice A n c] w fun e w' => e = .returned (.int .i64 (lonS xss)) ∧ w = w' := by
  have XL := Lib.hid h.1
  have hn := h.2.1
  have HL0 := Lib.hid h
  clear h
  go_enter Tryd.func34, Tryd.ntmps34
  go_wp2
  go_loop [3, 4] (fun s i => ∃ k : Nat, k ≤ n ∧ i = .int .i64 k ∧ s = .int .i64 (lonU xss k)) (fun _ i => n - (intOf i).toNat)
  case atStart => exact ⟨0, Nat.zero_le _, rfl, rfl⟩
  case round =>
    obtain ⟨k, hk, rfl, rfl⟩ := hrel
    by_cases hlt : k < n
    · obtain ⟨b, off, Aj, nj, cj, rfl, _, hcell, hI⟩ := HL0.out.at_ hlt
      have hs := Lib.hid (show (lonU xss (k + 1) : Int) = if lonU xss k ≤ nj then (nj : Int) else (lonU xss k : Int) by
        rw [lonU, hI.1]
        split <;> omega)
      obtain ⟨z, hz⟩ : ∃ z, z = lonU xss (k + 1) := ⟨_, rfl⟩
      have HZ := Lib.hid hz
      rw [← hz] at hs
      obtain ⟨a, ha⟩ : ∃ a, a = lonU xss k := ⟨_, rfl⟩
      rw [← ha] at hs ⊢
      clear hI hz ha
      by_cases hle : a ≤ nj
      · have e1 := Lib.hid (show (nj : Int) = (z : Int) by rw [hs.out, if_pos hle])
        go_wp2
        go_round
        case rel => exact ⟨k + 1, by omega, by go_num, by rw [← HZ.out, ← e1.out]; congr 1; omega⟩
        case measure => simp [intOf]; omega
      · have e1 := Lib.hid (show (a : Int) = (z : Int) by rw [hs.out, if_neg hle])
        go_wp2
        go_round
        case rel => exact ⟨k + 1, by omega, by go_num, by rw [← HZ.out, ← e1.out]; congr 1; omega⟩
        case measure => simp [intOf]; omega
    · obtain rfl : k = n := by omega
      have e1 := Lib.hid (show lonU xss k = lonS xss by unfold lonS; rw [XL.out])
      rw [e1.out]
      go_wp2
      go_ret
      exact ⟨rfl, rfl⟩

/-- At most W words, none with more than S symbols. -/
def Small (xss : List (List Int)) (W S : Nat) : Prop := xss.length ≤ W ∧ ∀ x, x ∈ xss → x.length ≤ S
instance (xss : List (List Int)) (W S : Nat) : Decidable (Small xss W S) := by unfold Small; exact inferInstance
set_option maxHeartbeats 1000000 in
theorem rgreatw (w : World) (A : Option Addr) (n c W S : Nat) (xss : List (List Int)) (b : Bool) (h : Lists w A n xss) (hb : b = !decide (Small xss W S)) (hW : W ≤ 1000000) :
    Calls Tryd.prog 9 #[.slice A n c, .int .i64 W, .int .i64 S] w fun e w' => e = .returned (.bool b) ∧ w = w' := by
  have XL := Lib.hid h.1
  have hn := h.2.1
  have HL0 := Lib.hid h
  have HB := Lib.hid hb
  clear h hb
  go_enter Tryd.func9, Tryd.ntmps9
  go_wp2
  go_loop [7] (fun i => ∃ k : Nat, k ≤ n ∧ i = .int .i64 k ∧ Hid (∀ j, j < k → (xss.getD j []).length ≤ S)) (fun i => n - (intOf i).toNat)
  case atStart => exact ⟨0, Nat.zero_le _, rfl, Lib.hid (fun j hj => absurd hj (by omega))⟩
  case round =>
    obtain ⟨k, hk, rfl, hall⟩ := hrel
    by_cases hlt : k < n
    · by_cases hkw : k ≤ W
      · obtain ⟨b1, off, Aj, nj, cj, rfl, _, hcell, hI⟩ := HL0.out.at_ hlt
        have JL := Lib.hid hI.1
        clear hI
        by_cases hs : S < nj
        · have F := Lib.hid (show b = true by
            rw [HB.out, Bool.not_eq_true', decide_eq_false_iff_not]
            rintro ⟨_, h2⟩
            have := h2 (xss.getD k []) (by rw [List.getD_eq_getElem?_getD, List.getElem?_eq_getElem (by rw [XL.out]; exact hlt)]; exact List.getElem_mem _)
            rw [JL.out] at this
            omega)
          go_wp2
          go_ret
          exact ⟨by rw [F.out]; rfl, rfl⟩
        · have H2 := Lib.hid (show ∀ j, j < k + 1 → (xss.getD j []).length ≤ S from fun j hj => by
            by_cases e : j = k
            · subst e; rw [JL.out]; omega
            · exact hall.out j (by omega))
          go_wp2
          go_round
          case rel => exact ⟨k + 1, by omega, by go_num, H2⟩
          case measure => simp [intOf]; omega
      · have F := Lib.hid (show b = true by
          rw [HB.out, Bool.not_eq_true', decide_eq_false_iff_not]
          rintro ⟨h1, _⟩
          rw [XL.out] at h1
          omega)
        have d1 : decide (W < n) = true := by simp; omega
        go_wp2
        go_ret
        exact ⟨by rw [F.out]; rfl, rfl⟩
    · obtain rfl : k = n := by omega
      have F := Lib.hid (show b = decide (W < k) by
        rw [HB.out]
        by_cases e : W < k
        · rw [decide_eq_true e, Bool.not_eq_true', decide_eq_false_iff_not]
          rintro ⟨h1, _⟩
          rw [XL.out] at h1
          omega
        · rw [decide_eq_false e, Bool.not_eq_false', decide_eq_true_eq]
          refine ⟨by rw [XL.out]; omega, fun x hx => ?_⟩
          obtain ⟨j, hj, rfl⟩ := List.getElem_of_mem hx
          have := hall.out j (by rw [← XL.out]; exact hj)
          rw [List.getD_eq_getElem?_getD, List.getElem?_eq_getElem hj] at this
          exact this)
      go_wp2
      go_ret
      exact ⟨by rw [F.out]; rfl, rfl⟩
end Go.Proofs.YtakhphhpjcpphaaDoor
end

section
/- The reference: Union, Product; ascending. -/
namespace Go.Proofs.YtakhphhpjcpphaaDoor
open Go.RowKit Go.Shelf

/-- Join of two words, by the reference. -/
theorem rjoin2 (A B : Option Addr) (n c m d : Nat) (xs ys : List Int) (w : World) (h : Ints w A n xs) (k : Ints w B m ys) (hl : n + m ≤ 17592186044416) :
    Calls Tryd.prog 23 #[.slice (some ⟨w.heap.size, 0, none⟩) 2 2] (w.alloc (.cells #[.slice A n c, .slice B m d] 38)) fun e w' => ∃ A' c', e = .returned (.slice A' (n + m) c') ∧ Owned w' w.heap.size (.slice A' (n + m) c') (xs ++ ys) ∧ Below w.heap.size w w' := by
  refine (rjoin _ _ _ [xs, ys] _ (Lists.two w A B n c m d xs ys h k) (by simp; rw [h.1, k.1]; exact hl)).mono ?_
  rintro e w' ⟨v, rfl, hv, hb⟩
  rw [show ([xs, ys] : List (List Int)).flatten = xs ++ ys by simp] at hv
  obtain ⟨A', c', e⟩ := hv.form
  rw [List.length_append, h.1, k.1] at e
  subst e
  exact ⟨A', c', rfl, hv.lower (by simp), (alloc_below w _).trans (hb.mono (by simp))⟩
/-- A row of numbers of one's own lies outside a row of headers. -/
theorem Owned.off {w : World} {b1 b2 : Nat} {v : Value} {xss : List (List Int)} {B : Option Addr} {m d : Nat} {xs : List Int} (h : Owned w b1 (.slice B m d) xs) (k : OwnV w b2 v xss) (hl : xs.length ≤ 17592186044416) : InOff w v.ownBlock (.slice B m d, xs) := by
  obtain ⟨qs, h1, _, _⟩ := k
  have hm : m = xs.length := by obtain ⟨A', c', e⟩ := h.form; cases e; rfl
  subst hm
  refine ⟨B, _, d, rfl, h.ints hl, fun a ha hn e2 => ?_⟩
  subst ha
  rcases h.2 with ⟨e3, _⟩ | ⟨g, cap, cur, e3, _, hg, _⟩
  · cases e3
  · cases e3
    rcases h1.1.2 with ⟨e4, _⟩ | ⟨g', cap', cur', e4, _, hg', _⟩
    · rw [e4] at e2; simp [Value.ownBlock] at e2
    · rw [e4] at e2
      have : g = g' := by simpa [Value.ownBlock] using e2
      subst this
      rw [hg] at hg'
      injection hg' with hg'
      injection hg' with _ h2 _
      exact absurd h2 (by decide)
theorem OwnV.drewN {w : World} {base : Nat} {v : Value} {xss : List (List Int)} (h : OwnV w base v xss) (q : Nat) : OwnV (w.drewN q) base v xss := h

set_option maxHeartbeats 1000000 in
theorem runion (w : World) (A : Option Addr) (n c : Nat) (ls : List (List (List Int))) (h : Lists3 w A n ls) (hn : ls.flatten.length ≤ 1759218604441) :
    Calls Tryd.prog 12 #[.slice A n c] w fun e w' => ∃ v, e = .returned v ∧ OwnV w' w.heap.size v (sw ls.flatten) ∧ Below w.heap.size w w' := by
  obtain ⟨pss, hps, hr, hin⟩ := h.rows
  have hfl : pss.flatten.length ≤ 1759218604441 := by rw [flat_len, hps]; exact hn
  have HSN := Lib.hid (show pss.flatten.map Prod.snd = ls.flatten by rw [flat_snd, hps])
  have PL := Lib.hid hr.1
  have hnn := hr.2.1
  have HR := Lib.hid hr
  have HIN := Lib.hid hin
  have HF := Lib.hid (fun k => Nat.le_trans (catH_len pss k) hfl)
  clear h hps hr hin hn hfl
  go_enter Tryd.func12, Tryd.ntmps12
  go_wp2
  go_loopw [3, 4] (fun v i wr => ∃ k : Nat, k ≤ n ∧ i = .int .i64 k ∧ HRow wr w.heap.size v (catH pss k) ∧ Below w.heap.size w wr) (fun _ i _ => n - (intOf i).toNat)
  case atStart => exact ⟨0, Nat.zero_le _, rfl, by rw [catH_zero]; exact HRow.nil _ _, Below.refl _ _⟩
  case round =>
    obtain ⟨k, hk, rfl, hrow, hbr⟩ := hrel
    by_cases hlt : k < n
    · obtain ⟨b, off, Aj, nj, cj, rfl, _, hcell, hH⟩ := (HR.out.below hbr).at_ hlt
      have hs := Lib.hid (catH_succ (xss := pss) (j := k) (by rw [PL.out]; exact hlt))
      have hb2 := HF.out (k + 1)
      rw [hs.out] at hb2
      obtain ⟨v', w', hr, ho', _, hbel'⟩ := run_append_heads (c := cj) hrow hH hbr.size hb2
      rw [← hs.out] at ho'
      have O2 := Lib.hid ho'
      have B2 := Lib.hid (hbr.trans hbel')
      clear hb2 hH hrow hbr ho' hbel'
      go_wp2_with (at_builtin; refine Lib.wpList_append_run _ rfl _ _ _ _ rfl _ _ rfl rfl _ _ hr ?_)
      go_roundw
      case rel => exact ⟨k + 1, by omega, by go_num, O2.out, B2.out⟩
      case measure => simp [intOf]; omega
    · obtain rfl : k = n := by omega
      have hf := HF.out k
      rw [show catH pss k = pss.flatten by rw [← PL.out, catH_all]] at hrow hf
      obtain ⟨A1, c1, e1⟩ := hrow.form
      subst e1
      obtain ⟨z, hz⟩ : ∃ z, z = pss.flatten.length := ⟨_, rfl⟩
      have hrow2 := hrow
      rw [← hz] at hrow hf ⊢
      have l1 := (hrow.hds (by rw [← hz]; omega)).lists (top := wr.heap.size) (fun p hp => by
        obtain ⟨ps, hps, hp2⟩ := List.mem_flatten.1 hp
        exact ((HIN.out ps hps p hp2).below hbr).mono hbr.size)
      rw [HSN.out] at l1
      have HC := Lib.hid (rsorted wr A1 z c1 _ l1 hf)
      have HB := Lib.hid hbr
      clear hrow hrow2 hbr l1 hz
      go_wp2_with fail
      refine HC.out.mono ?_
      rintro e w2 ⟨v, rfl, h2, b2⟩
      have H2 := Lib.hid h2
      have B2 := Lib.hid b2
      clear h2 b2
      go_wp2
      go_ret
      exact ⟨v, rfl, H2.out.lower HB.out.size, HB.out.trans (B2.out.mono HB.out.size)⟩

set_option maxHeartbeats 1000000 in
/-- A sorted list is ascending. -/
theorem rascending (w : World) (A : Option Addr) (n c : Nat) (xss : List (List Int)) (h : Lists w A n xss) (ha : AscW xss) :
    Calls Tryd.prog 21 #[.slice A n c] w fun e w' => e = .returned (.bool true) ∧ ∃ q, w' = w.drewN q := by
  have L := Lib.hid h.1
  have hn := h.2.1
  have HL := Lib.hid h
  have HA := Lib.hid ha
  clear h ha
  go_enter Tryd.func21, Tryd.ntmps21
  go_wp2
  go_loopw [3] (fun i wr => ∃ k : Nat, 1 ≤ k ∧ k ≤ n + 1 ∧ i = .int .i64 k ∧ ∃ q, wr = w.drewN q) (fun i _ => n + 1 - (intOf i).toNat)
  case atStart => exact ⟨1, Nat.le_refl _, by omega, rfl, 0, rfl⟩
  case round =>
    obtain ⟨k, hk1, hk, rfl, hw⟩ := hrel
    by_cases hlt : k < n
    · have hL : Lists wr A n xss := by obtain ⟨q, rfl⟩ := hw; exact HL.out
      obtain ⟨j, hj⟩ : ∃ j, j = k - 1 := ⟨_, rfl⟩
      obtain ⟨b, off, A1, n1, c1, rfl, _, hc1, h1⟩ := hL.at_ (k := j) (by omega)
      obtain ⟨b', off', A2, n2, c2, e', _, hc2, h2⟩ := hL.at_ hlt
      cases e'
      have hneg := HA.out.at_ (i := j) (j := k) (by omega) (by rw [L.out]; exact hlt)
      have hcall : ∀ q, Calls Tryd.prog 43 #[.slice A1 n1 c1, .slice A2 n2 c2] (wr.drewN q) fun e w' => e = .returned (.int .i64 (shlex (xss.getD j []) (xss.getD k []))) ∧ ∃ m, w' = (wr.drewN q).drewN m := fun q => rcompare _ _ _ _ _ _ _ _ _ (h1.drewN q) (h2.drewN q)
      generalize shlex (xss.getD j []) (xss.getD k []) = r at hcall hneg
      have W1 : IntKind.i64.wrap ((k : Int) - 1) = (j : Int) := by rw [IntKind.wrap_i64]; omega
      have i1 : (k : Int) < (n : Int) := by omega
      have i2 : (j : Int) < (n : Int) := by omega
      have d1 : decide (0 ≤ r) = false := by simp; omega
      have HW := Lib.hid hw
      clear h1 h2 hj hw hL
      go_wp2
      go_quiet ((go_at_call 43; exact Calls.quiet_of (hcall _)))
      clear W1
      go_wp2
      go_roundw
      case rel => exact ⟨k + 1, by omega, by omega, by go_num, drew_more HW.out _⟩
      case measure => simp [intOf]; omega
    · have HW := Lib.hid hw
      clear hw
      go_wp2
      go_ret
      exact ⟨rfl, HW.out⟩
end Go.Proofs.YtakhphhpjcpphaaDoor
end

section
/- The reference: Product. -/
namespace Go.Proofs.YtakhphhpjcpphaaDoor
open Go.RowKit Go.Shelf

theorem sw_le (l m : List (List Int)) : (sw l).length ≤ (sw (l ++ m)).length := by rw [← dd_len, ← dd_len]; exact dd_le l m
theorem pdV_sw {hs ts : List (List Int)} {k j : Nat} (h : j < ts.length) : sw (pdV hs ts k (j + 1)) = wins (sw (pdV hs ts k j)) (hs.getD k [] ++ ts.getD j []) := by rw [pdV_succ h, sw_snoc]
theorem pdV_len {hs ts : List (List Int)} {k j : Nat} (hk : k < hs.length) : (sw (pdV hs ts k j)).length ≤ (sw (prdS hs ts)).length := by
  obtain ⟨m, hm⟩ := pdV_pre (ts := ts) (j := j) hk
  rw [hm]; exact sw_le _ _
theorem pdV_words {hs ts : List (List Int)} {k j L M : Nat} (h1 : ∀ x, x ∈ hs → x.length ≤ L) (h2 : ∀ x, x ∈ ts → x.length ≤ M) (hk : k < hs.length) : ∀ x, x ∈ sw (pdV hs ts k j) → x.length ≤ L + M := fun x hx => by
  obtain ⟨m, hm⟩ := pdV_pre (ts := ts) (j := j) hk
  have : x ∈ prdS hs ts := by rw [hm]; exact List.mem_append_left _ ((sw_mem _ x).1 hx)
  rw [prdS_mem] at this
  obtain ⟨h, t, hh, ht, rfl⟩ := this
  have a := h1 h hh
  have b := h2 t ht
  rw [List.length_append]; omega

theorem prdS_nil {a b : List (List Int)} (h : a = [] ∨ b = []) : prdS a b = [] := by
  rcases h with rfl | rfl
  · rfl
  · exact List.eq_nil_iff_forall_not_mem.2 fun x hx => by
      rw [prdS_mem] at hx
      obtain ⟨_, t, _, ht, _⟩ := hx
      simp at ht
theorem prod_rest {a b : List (List Int)} (h : ¬ (¬ (a = [] ∨ b = []) ∧ 1024 < lonS a + lonS b)) :
    (¬ 10000 < (sw (prdS a b)).length → prodE a b = 0 ∧ prodW a b = sw (prdS a b)) ∧ (10000 < (sw (prdS a b)).length → prodE a b = 11 ∧ prodW a b = []) := by
  by_cases e : a = [] ∨ b = []
  · have h1 := prod_none e
    have h2 : sw (prdS a b) = [] := by rw [prdS_nil e]; rfl
    refine ⟨fun _ => ⟨h1.1, by rw [h1.2, h2]⟩, fun k => ?_⟩
    rw [h2] at k; simp at k
  · have hl : ¬ 1024 < lonS a + lonS b := fun k => h ⟨e, k⟩
    exact ⟨fun k => prod_ok e hl k, fun k => prod_many e hl k⟩

set_option maxHeartbeats 4000000 in
set_option maxRecDepth 100000 in
theorem rproduct (w : World) (A B : Option Addr) (n c m d : Nat) (a b : List (List Int)) (ha : ListsC w A n a) (hb : ListsC w B m b) (hn : n ≤ 68719476736) (hm : m ≤ 68719476736) :
    Calls Tryd.prog 14 #[.slice A n c, .slice B m d] w fun e w' => ∃ v, e = .returned (.tuple #[v, .int .i64 (prodE a b)]) ∧ OwnV w' w.heap.size v (prodW a b) ∧ Below w.heap.size w w' := by
  have AL := Lib.hid ha.1
  have BL := Lib.hid hb.1
  have HA := Lib.hid ha
  have HB := Lib.hid hb
  have N1 := Lib.hid (list_nil_iff ha.1)
  have N2 := Lib.hid (list_nil_iff hb.1)
  have la : lonS a ≤ 17592186044416 := lonS_le ha.len
  have lb : lonS b ≤ 17592186044416 := lonS_le hb.len
  obtain ⟨p, hp⟩ : ∃ p, p = lonS a := ⟨_, rfl⟩
  obtain ⟨q, hq⟩ : ∃ q, q = lonS b := ⟨_, rfl⟩
  have c1 := rlongest w A n c a ha.lists
  have c2 := rlongest w B m d b hb.lists
  rw [← hp] at la c1
  rw [← hq] at lb c2
  have C1 := Lib.hid c1
  have C2 := Lib.hid c2
  have HP := Lib.hid hp
  have HQ := Lib.hid hq
  have SM := Lib.hid (prod_same (hs := sw a) (ts := sw b) (sw_mem a) (sw_mem b))
  have NS1 := Lib.hid (nil_same (sw_mem a))
  have NS2 := Lib.hid (nil_same (sw_mem b))
  clear ha hb c1 c2 hp hq
  -- the loops, from the world in which both are sorted
  by_cases hlong : 0 < n ∧ 0 < m ∧ 1024 < p + q
  · obtain ⟨h1, h2, h3⟩ := hlong
    have PN := Lib.hid (prod_long (a := a) (b := b) (fun k => k.elim (fun e => by have := N1.out.1 e; omega) fun e => by have := N2.out.1 e; omega) (by rw [← HP.out, ← HQ.out]; exact h3))
    have d3 : (1024 : Int) < (p : Int) + (q : Int) := by omega
    clear h3
    go_enter Tryd.func14, Tryd.ntmps14
    go_wp2_with fail
    refine C1.out.mono ?_
    rintro e w' ⟨rfl, rfl⟩
    go_wp2_with fail
    refine C2.out.mono ?_
    rintro e w' ⟨rfl, rfl⟩
    go_wp2
    go_ret2
    exact ⟨_, by rw [PN.out.1]; rfl, by rw [PN.out.2]; exact OwnV.nil _ _, Below.refl _ _⟩
  · have REST := Lib.hid (show ¬ (¬ (a = [] ∨ b = []) ∧ 1024 < lonS a + lonS b) from by
      rintro ⟨h1, h2⟩
      refine hlong ⟨?_, ?_, by rw [HP.out, HQ.out]; exact h2⟩
      · rcases Nat.eq_zero_or_pos n with h | h
        · exact absurd (.inl (N1.out.2 h)) h1
        · exact h
      · rcases Nat.eq_zero_or_pos m with h | h
        · exact absurd (.inr (N2.out.2 h)) h1
        · exact h)
    by_cases hn0 : n = 0
    · have d0 : ¬ 0 < n := by omega
      clear hlong hn0
      go_enter Tryd.func14, Tryd.ntmps14
      go_wp2_with fail
      refine (rsorted w A n c a HA.out (by omega)).mono ?_
      rintro e w1 ⟨v1, rfl, o1, b1⟩
      obtain ⟨A1, c1, e1⟩ := o1.form
      subst e1
      obtain ⟨hs, hhs⟩ : ∃ hs, hs = sw a := ⟨_, rfl⟩
      have l1 := o1.lists (by have := sw_len a; rw [AL.out] at this; omega) (sw_all_len HA.out.len)
      obtain ⟨m1, hm1⟩ : ∃ m1, m1 = (sw a).length := ⟨_, rfl⟩
      rw [← hm1] at l1 ⊢
      rw [← hhs] at l1
      have HHS := Lib.hid hhs
      have L1 := Lib.hid l1
      have B1 := Lib.hid b1
      have M1 : m1 ≤ 68719476736 := by have := sw_len a; rw [AL.out] at this; omega
      clear o1 b1 l1 hm1 hhs
      go_wp2_with fail
      refine (rsorted w1 B m d b (HB.out.below B1.out) (by omega)).mono ?_
      rintro e w2 ⟨v2, rfl, o2, b2⟩
      obtain ⟨A2, c2, e2⟩ := o2.form
      subst e2
      obtain ⟨ts, hts⟩ : ∃ ts, ts = sw b := ⟨_, rfl⟩
      have l2 := o2.lists (by have := sw_len b; rw [BL.out] at this; omega) (sw_all_len HB.out.len)
      obtain ⟨m2, hm2⟩ : ∃ m2, m2 = (sw b).length := ⟨_, rfl⟩
      rw [← hm2] at l2 ⊢
      rw [← hts] at l2
      have HTS := Lib.hid hts
      have LT := Lib.hid l2
      have LH := Lib.hid (L1.out.below b2)
      have B2 := Lib.hid (B1.out.trans (b2.mono B1.out.size))
      have M2 : m2 ≤ 68719476736 := by have := sw_len b; rw [BL.out] at this; omega
      clear o2 b2 l2 hm2 hts
      have LB := Lib.hid (show ∀ x y, x ∈ hs → y ∈ ts → x.length ≤ 1024 ∧ y.length ≤ 1024 from fun x y hx hy => by
        rw [HHS.out, sw_mem] at hx
        rw [HTS.out, sw_mem] at hy
        have h1 := lonS_ge hx
        have h2 := lonS_ge hy
        have h3 : ¬ (a = [] ∨ b = []) := fun k => k.elim (fun e => by rw [e] at hx; simp at hx) fun e => by rw [e] at hy; simp at hy
        have h4 : ¬ 1024 < lonS a + lonS b := fun k => REST.out ⟨h3, k⟩
        omega)
      have PR := Lib.hid (show (¬ 10000 < (sw (prdS hs ts)).length → prodE a b = 0 ∧ prodW a b = sw (prdS hs ts)) ∧ (10000 < (sw (prdS hs ts)).length → prodE a b = 11 ∧ prodW a b = []) from by
        have h1 := prod_rest REST.out
        have h2 : sw (prdS hs ts) = sw (prdS a b) := by rw [HHS.out, HTS.out]; exact sw_same (prdS_same (sw_mem a) (sw_mem b))
        rw [h2]; exact h1)
      go_wp2
      go_loopw [8, 9] (fun v i wr => ∃ k : Nat, k ≤ m1 ∧ i = .int .i64 k ∧ OwnV wr w2.heap.size v (sw (pdU hs ts k)) ∧ Below w2.heap.size w2 wr ∧ Hid ((sw (pdU hs ts k)).length ≤ 10000)) (fun _ i _ => m1 - (intOf i).toNat)
      case atStart => exact ⟨0, Nat.zero_le _, rfl, OwnV.nil _ _, Below.refl _ _, Lib.hid (by rw [pdU_zero]; exact Nat.zero_le _)⟩
      case round =>
        obtain ⟨k, hk, rfl, hown, hbr, hle⟩ := hrel
        by_cases hlt : k < m1
        · have hkh : k < hs.length := by rw [LH.out.1]; exact hlt
          have HO := Lib.hid hown
          have HBr := Lib.hid hbr
          clear hown hbr
          go_wp2
          obtain ⟨wo, hwo⟩ : ∃ wo : World, wo = wr := ⟨_, rfl⟩
          rw [← hwo] at HO HBr ⊢
          clear hwo
          go_loopw [8, 10] (fun v i wr => ∃ j : Nat, j ≤ m2 ∧ i = .int .i64 j ∧ OwnV wr w2.heap.size v (sw (pdV hs ts k j)) ∧ Below w2.heap.size w2 wr ∧ Hid ((sw (pdV hs ts k j)).length ≤ 10000)) (fun _ i _ => m2 - (intOf i).toNat)
          case atStart => exact ⟨0, Nat.zero_le _, rfl, by rw [pdV_zero]; exact HO.out, HBr.out, Lib.hid (by rw [pdV_zero]; exact hle.out)⟩
          case round =>
            obtain ⟨j, hj, rfl, hown, hbr, hle2⟩ := hrel
            by_cases hlt2 : j < m2
            · have hjt : j < ts.length := by rw [LT.out.1]; exact hlt2
              obtain ⟨bh, oh, Bh, mh, dh, eh, _, ch, _, ih⟩ := (LH.out.below hbr).at_ hlt
              obtain ⟨bt, ot, Bt, mt, dt, et, _, ct, _, it⟩ := (LT.out.below hbr).at_ hlt2
              subst eh
              subst et
              have hm1 : hs.getD k [] ∈ hs := by rw [List.getD_eq_getElem?_getD, List.getElem?_eq_getElem hkh]; exact List.getElem_mem _
              have hm2 : ts.getD j [] ∈ ts := by rw [List.getD_eq_getElem?_getD, List.getElem?_eq_getElem hjt]; exact List.getElem_mem _
              have hlb := LB.out _ _ hm1 hm2
              rw [ih.1, it.1] at hlb
              have hml : mh + mt ≤ 17592186044416 := by omega
              have IH := Lib.hid ih
              have IT := Lib.hid it
              obtain ⟨Av, cv, ev⟩ := hown.form
              subst ev
              obtain ⟨x, hx⟩ : ∃ x, x = hs.getD k [] ++ ts.getD j [] := ⟨_, rfl⟩
              have XL := Lib.hid (show x.length ≤ 17592186044416 by rw [hx, List.length_append, ih.1, it.1]; exact hml)
              have HX := Lib.hid hx
              obtain ⟨acc, hacc⟩ : ∃ acc, acc = sw (pdV hs ts k j) := ⟨_, rfl⟩
              have PV := Lib.hid (show sw (pdV hs ts k (j + 1)) = wins acc x by rw [pdV_sw hjt, hacc, hx])
              have WL := Lib.hid (show ∀ y, y ∈ acc → y.length ≤ 17592186044416 from fun y hy => by
                rw [hacc] at hy
                have := pdV_words (L := 1024) (M := 1024) (fun z hz => (LB.out z _ hz hm2).1) (fun z hz => (LB.out _ z hm1 hz).2) hkh y hy
                omega)
              have AS := Lib.hid (show AscW acc by rw [hacc]; exact sw_asc _)
              rw [← hacc] at hown hle2 ⊢
              obtain ⟨fl, hfl⟩ : ∃ fl, fl = acc.length := ⟨_, rfl⟩
              rw [← hfl] at hown ⊢
              have FL := Lib.hid hfl
              have hfl2 : fl ≤ 10000 := by rw [hfl]; exact hle2.out
              obtain ⟨z, hz⟩ : ∃ z, z = (wins acc x).length := ⟨_, rfl⟩
              have HZ := Lib.hid hz
              have HO2 := Lib.hid hown
              have HB2 := Lib.hid hbr
              have ZL := Lib.hid (show z ≤ (sw (prdS hs ts)).length by rw [hz, ← PV.out]; exact pdV_len hkh)
              clear hown hbr hm1 hm2 hlb ih it hx hacc hfl hz
              by_cases h10 : 10000 < z
              · have P := Lib.hid (PR.out.2 (Nat.lt_of_lt_of_le h10 ZL.out))
                go_wp2
                go_region_law (first
                  | (go_simp; go_at_call 35; refine HW.out.mono ?_; rintro e w8 ⟨u8, rfl, o8, b8⟩
                     obtain ⟨A8, c8, e8⟩ := o8.form
                     subst e8
                     have HST := Lib.hid (And.intro o8 ((below_drewN (Below.refl _ _) _).trans (BW.out.trans b8)))
                     rw [← HZ.out] at HST ⊢
                     clear o8 b8)
                  | (go_simp; go_at_call 23; refine (rjoin2 Bh Bt mh dh mt dt _ _ _ (IH.out.drewN _) (IT.out.drewN _) hml).mono ?_; rintro e w7 ⟨A7, c7, rfl, o7, b7⟩
                     rw [← HX.out] at o7
                     have ov := (HO2.out.drewN _).kept b7
                     have BW := Lib.hid (b7.mono HB2.out.size)
                     have HW := Lib.hid (rwith w7 w2.heap.size Av A7 fl cv (mh + mt) c7 acc x ov (o7.off ov XL.out) AS.out (Nat.le_trans HB2.out.size b7.size) (by rw [← FL.out]; omega) WL.out)
                     clear o7 b7 ov))
                all_goals
                  go_wp2
                  go_ret2
                  exact ⟨_, by rw [P.out.1]; rfl, by rw [P.out.2]; exact OwnV.nil _ _, B2.out.trans ((HB2.out.trans HST.out.2).mono B2.out.size)⟩
              · go_wp2
                go_region_law (first
                  | (go_simp; go_at_call 35; refine HW.out.mono ?_; rintro e w8 ⟨u8, rfl, o8, b8⟩
                     obtain ⟨A8, c8, e8⟩ := o8.form
                     subst e8
                     have HST := Lib.hid (And.intro o8 ((below_drewN (Below.refl _ _) _).trans (BW.out.trans b8)))
                     rw [← HZ.out] at HST ⊢
                     clear o8 b8)
                  | (go_simp; go_at_call 23; refine (rjoin2 Bh Bt mh dh mt dt _ _ _ (IH.out.drewN _) (IT.out.drewN _) hml).mono ?_; rintro e w7 ⟨A7, c7, rfl, o7, b7⟩
                     rw [← HX.out] at o7
                     have ov := (HO2.out.drewN _).kept b7
                     have BW := Lib.hid (b7.mono HB2.out.size)
                     have HW := Lib.hid (rwith w7 w2.heap.size Av A7 fl cv (mh + mt) c7 acc x ov (o7.off ov XL.out) AS.out (Nat.le_trans HB2.out.size b7.size) (by rw [← FL.out]; omega) WL.out)
                     clear o7 b7 ov))
                all_goals
                  go_wp2
                  go_roundw
                  case rel => exact ⟨j + 1, by omega, by go_num, by rw [PV.out]; exact HST.out.1, HB2.out.trans HST.out.2, Lib.hid (by rw [PV.out, ← HZ.out]; omega)⟩
                  case measure => simp [intOf]; omega
            · obtain rfl : j = m2 := by omega
              have HO2 := Lib.hid hown
              clear hown
              go_wp2
              go_roundw
              case rel => exact ⟨k + 1, by omega, by go_num, by rw [pdU_succ hkh, LT.out.1]; exact HO2.out, hbr, Lib.hid (by rw [pdU_succ hkh, LT.out.1]; exact hle2.out)⟩
              case measure => simp [intOf]; omega
        · obtain rfl : k = m1 := by omega
          have hpu : pdU hs ts k = prdS hs ts := by rw [← pdU_all, LH.out.1]
          have P := Lib.hid (PR.out.1 (by have := hle.out; rw [hpu] at this; omega))
          rw [hpu] at hown
          have HO2 := Lib.hid hown
          have HB2 := Lib.hid hbr
          clear hown hbr hpu
          go_wp2
          go_ret2
          exact ⟨_, by rw [P.out.1]; rfl, by rw [P.out.2]; exact HO2.out.lower B2.out.size, B2.out.trans (HB2.out.mono B2.out.size)⟩
    · have dn : 0 < n := by omega
      by_cases hm0 : m = 0
      · have d0 : ¬ 0 < m := by omega
        clear hlong hn0 hm0
        go_enter Tryd.func14, Tryd.ntmps14
        go_wp2_with fail
        refine (rsorted w A n c a HA.out (by omega)).mono ?_
        rintro e w1 ⟨v1, rfl, o1, b1⟩
        obtain ⟨A1, c1, e1⟩ := o1.form
        subst e1
        obtain ⟨hs, hhs⟩ : ∃ hs, hs = sw a := ⟨_, rfl⟩
        have l1 := o1.lists (by have := sw_len a; rw [AL.out] at this; omega) (sw_all_len HA.out.len)
        obtain ⟨m1, hm1⟩ : ∃ m1, m1 = (sw a).length := ⟨_, rfl⟩
        rw [← hm1] at l1 ⊢
        rw [← hhs] at l1
        have HHS := Lib.hid hhs
        have L1 := Lib.hid l1
        have B1 := Lib.hid b1
        have M1 : m1 ≤ 68719476736 := by have := sw_len a; rw [AL.out] at this; omega
        clear o1 b1 l1 hm1 hhs
        go_wp2_with fail
        refine (rsorted w1 B m d b (HB.out.below B1.out) (by omega)).mono ?_
        rintro e w2 ⟨v2, rfl, o2, b2⟩
        obtain ⟨A2, c2, e2⟩ := o2.form
        subst e2
        obtain ⟨ts, hts⟩ : ∃ ts, ts = sw b := ⟨_, rfl⟩
        have l2 := o2.lists (by have := sw_len b; rw [BL.out] at this; omega) (sw_all_len HB.out.len)
        obtain ⟨m2, hm2⟩ : ∃ m2, m2 = (sw b).length := ⟨_, rfl⟩
        rw [← hm2] at l2 ⊢
        rw [← hts] at l2
        have HTS := Lib.hid hts
        have LT := Lib.hid l2
        have LH := Lib.hid (L1.out.below b2)
        have B2 := Lib.hid (B1.out.trans (b2.mono B1.out.size))
        have M2 : m2 ≤ 68719476736 := by have := sw_len b; rw [BL.out] at this; omega
        clear o2 b2 l2 hm2 hts
        have LB := Lib.hid (show ∀ x y, x ∈ hs → y ∈ ts → x.length ≤ 1024 ∧ y.length ≤ 1024 from fun x y hx hy => by
          rw [HHS.out, sw_mem] at hx
          rw [HTS.out, sw_mem] at hy
          have h1 := lonS_ge hx
          have h2 := lonS_ge hy
          have h3 : ¬ (a = [] ∨ b = []) := fun k => k.elim (fun e => by rw [e] at hx; simp at hx) fun e => by rw [e] at hy; simp at hy
          have h4 : ¬ 1024 < lonS a + lonS b := fun k => REST.out ⟨h3, k⟩
          omega)
        have PR := Lib.hid (show (¬ 10000 < (sw (prdS hs ts)).length → prodE a b = 0 ∧ prodW a b = sw (prdS hs ts)) ∧ (10000 < (sw (prdS hs ts)).length → prodE a b = 11 ∧ prodW a b = []) from by
          have h1 := prod_rest REST.out
          have h2 : sw (prdS hs ts) = sw (prdS a b) := by rw [HHS.out, HTS.out]; exact sw_same (prdS_same (sw_mem a) (sw_mem b))
          rw [h2]; exact h1)
        go_wp2
        go_loopw [8, 9] (fun v i wr => ∃ k : Nat, k ≤ m1 ∧ i = .int .i64 k ∧ OwnV wr w2.heap.size v (sw (pdU hs ts k)) ∧ Below w2.heap.size w2 wr ∧ Hid ((sw (pdU hs ts k)).length ≤ 10000)) (fun _ i _ => m1 - (intOf i).toNat)
        case atStart => exact ⟨0, Nat.zero_le _, rfl, OwnV.nil _ _, Below.refl _ _, Lib.hid (by rw [pdU_zero]; exact Nat.zero_le _)⟩
        case round =>
          obtain ⟨k, hk, rfl, hown, hbr, hle⟩ := hrel
          by_cases hlt : k < m1
          · have hkh : k < hs.length := by rw [LH.out.1]; exact hlt
            have HO := Lib.hid hown
            have HBr := Lib.hid hbr
            clear hown hbr
            go_wp2
            obtain ⟨wo, hwo⟩ : ∃ wo : World, wo = wr := ⟨_, rfl⟩
            rw [← hwo] at HO HBr ⊢
            clear hwo
            go_loopw [8, 10] (fun v i wr => ∃ j : Nat, j ≤ m2 ∧ i = .int .i64 j ∧ OwnV wr w2.heap.size v (sw (pdV hs ts k j)) ∧ Below w2.heap.size w2 wr ∧ Hid ((sw (pdV hs ts k j)).length ≤ 10000)) (fun _ i _ => m2 - (intOf i).toNat)
            case atStart => exact ⟨0, Nat.zero_le _, rfl, by rw [pdV_zero]; exact HO.out, HBr.out, Lib.hid (by rw [pdV_zero]; exact hle.out)⟩
            case round =>
              obtain ⟨j, hj, rfl, hown, hbr, hle2⟩ := hrel
              by_cases hlt2 : j < m2
              · have hjt : j < ts.length := by rw [LT.out.1]; exact hlt2
                obtain ⟨bh, oh, Bh, mh, dh, eh, _, ch, _, ih⟩ := (LH.out.below hbr).at_ hlt
                obtain ⟨bt, ot, Bt, mt, dt, et, _, ct, _, it⟩ := (LT.out.below hbr).at_ hlt2
                subst eh
                subst et
                have hm1 : hs.getD k [] ∈ hs := by rw [List.getD_eq_getElem?_getD, List.getElem?_eq_getElem hkh]; exact List.getElem_mem _
                have hm2 : ts.getD j [] ∈ ts := by rw [List.getD_eq_getElem?_getD, List.getElem?_eq_getElem hjt]; exact List.getElem_mem _
                have hlb := LB.out _ _ hm1 hm2
                rw [ih.1, it.1] at hlb
                have hml : mh + mt ≤ 17592186044416 := by omega
                have IH := Lib.hid ih
                have IT := Lib.hid it
                obtain ⟨Av, cv, ev⟩ := hown.form
                subst ev
                obtain ⟨x, hx⟩ : ∃ x, x = hs.getD k [] ++ ts.getD j [] := ⟨_, rfl⟩
                have XL := Lib.hid (show x.length ≤ 17592186044416 by rw [hx, List.length_append, ih.1, it.1]; exact hml)
                have HX := Lib.hid hx
                obtain ⟨acc, hacc⟩ : ∃ acc, acc = sw (pdV hs ts k j) := ⟨_, rfl⟩
                have PV := Lib.hid (show sw (pdV hs ts k (j + 1)) = wins acc x by rw [pdV_sw hjt, hacc, hx])
                have WL := Lib.hid (show ∀ y, y ∈ acc → y.length ≤ 17592186044416 from fun y hy => by
                  rw [hacc] at hy
                  have := pdV_words (L := 1024) (M := 1024) (fun z hz => (LB.out z _ hz hm2).1) (fun z hz => (LB.out _ z hm1 hz).2) hkh y hy
                  omega)
                have AS := Lib.hid (show AscW acc by rw [hacc]; exact sw_asc _)
                rw [← hacc] at hown hle2 ⊢
                obtain ⟨fl, hfl⟩ : ∃ fl, fl = acc.length := ⟨_, rfl⟩
                rw [← hfl] at hown ⊢
                have FL := Lib.hid hfl
                have hfl2 : fl ≤ 10000 := by rw [hfl]; exact hle2.out
                obtain ⟨z, hz⟩ : ∃ z, z = (wins acc x).length := ⟨_, rfl⟩
                have HZ := Lib.hid hz
                have HO2 := Lib.hid hown
                have HB2 := Lib.hid hbr
                have ZL := Lib.hid (show z ≤ (sw (prdS hs ts)).length by rw [hz, ← PV.out]; exact pdV_len hkh)
                clear hown hbr hm1 hm2 hlb ih it hx hacc hfl hz
                by_cases h10 : 10000 < z
                · have P := Lib.hid (PR.out.2 (Nat.lt_of_lt_of_le h10 ZL.out))
                  go_wp2
                  go_region_law (first
                    | (go_simp; go_at_call 35; refine HW.out.mono ?_; rintro e w8 ⟨u8, rfl, o8, b8⟩
                       obtain ⟨A8, c8, e8⟩ := o8.form
                       subst e8
                       have HST := Lib.hid (And.intro o8 ((below_drewN (Below.refl _ _) _).trans (BW.out.trans b8)))
                       rw [← HZ.out] at HST ⊢
                       clear o8 b8)
                    | (go_simp; go_at_call 23; refine (rjoin2 Bh Bt mh dh mt dt _ _ _ (IH.out.drewN _) (IT.out.drewN _) hml).mono ?_; rintro e w7 ⟨A7, c7, rfl, o7, b7⟩
                       rw [← HX.out] at o7
                       have ov := (HO2.out.drewN _).kept b7
                       have BW := Lib.hid (b7.mono HB2.out.size)
                       have HW := Lib.hid (rwith w7 w2.heap.size Av A7 fl cv (mh + mt) c7 acc x ov (o7.off ov XL.out) AS.out (Nat.le_trans HB2.out.size b7.size) (by rw [← FL.out]; omega) WL.out)
                       clear o7 b7 ov))
                  all_goals
                    go_wp2
                    go_ret2
                    exact ⟨_, by rw [P.out.1]; rfl, by rw [P.out.2]; exact OwnV.nil _ _, B2.out.trans ((HB2.out.trans HST.out.2).mono B2.out.size)⟩
                · go_wp2
                  go_region_law (first
                    | (go_simp; go_at_call 35; refine HW.out.mono ?_; rintro e w8 ⟨u8, rfl, o8, b8⟩
                       obtain ⟨A8, c8, e8⟩ := o8.form
                       subst e8
                       have HST := Lib.hid (And.intro o8 ((below_drewN (Below.refl _ _) _).trans (BW.out.trans b8)))
                       rw [← HZ.out] at HST ⊢
                       clear o8 b8)
                    | (go_simp; go_at_call 23; refine (rjoin2 Bh Bt mh dh mt dt _ _ _ (IH.out.drewN _) (IT.out.drewN _) hml).mono ?_; rintro e w7 ⟨A7, c7, rfl, o7, b7⟩
                       rw [← HX.out] at o7
                       have ov := (HO2.out.drewN _).kept b7
                       have BW := Lib.hid (b7.mono HB2.out.size)
                       have HW := Lib.hid (rwith w7 w2.heap.size Av A7 fl cv (mh + mt) c7 acc x ov (o7.off ov XL.out) AS.out (Nat.le_trans HB2.out.size b7.size) (by rw [← FL.out]; omega) WL.out)
                       clear o7 b7 ov))
                  all_goals
                    go_wp2
                    go_roundw
                    case rel => exact ⟨j + 1, by omega, by go_num, by rw [PV.out]; exact HST.out.1, HB2.out.trans HST.out.2, Lib.hid (by rw [PV.out, ← HZ.out]; omega)⟩
                    case measure => simp [intOf]; omega
              · obtain rfl : j = m2 := by omega
                have HO2 := Lib.hid hown
                clear hown
                go_wp2
                go_roundw
                case rel => exact ⟨k + 1, by omega, by go_num, by rw [pdU_succ hkh, LT.out.1]; exact HO2.out, hbr, Lib.hid (by rw [pdU_succ hkh, LT.out.1]; exact hle2.out)⟩
                case measure => simp [intOf]; omega
          · obtain rfl : k = m1 := by omega
            have hpu : pdU hs ts k = prdS hs ts := by rw [← pdU_all, LH.out.1]
            have P := Lib.hid (PR.out.1 (by have := hle.out; rw [hpu] at this; omega))
            rw [hpu] at hown
            have HO2 := Lib.hid hown
            have HB2 := Lib.hid hbr
            clear hown hbr hpu
            go_wp2
            go_ret2
            exact ⟨_, by rw [P.out.1]; rfl, by rw [P.out.2]; exact HO2.out.lower B2.out.size, B2.out.trans (HB2.out.mono B2.out.size)⟩
      · have dm : 0 < m := by omega
        have d3 : (p : Int) + (q : Int) ≤ 1024 := by omega
        clear hlong hn0 hm0
        go_enter Tryd.func14, Tryd.ntmps14
        go_wp2_with fail
        refine C1.out.mono ?_
        rintro e w' ⟨rfl, rfl⟩
        go_wp2_with fail
        refine C2.out.mono ?_
        rintro e w' ⟨rfl, rfl⟩
        go_wp2_with fail
        refine (rsorted w A n c a HA.out (by omega)).mono ?_
        rintro e w1 ⟨v1, rfl, o1, b1⟩
        obtain ⟨A1, c1, e1⟩ := o1.form
        subst e1
        obtain ⟨hs, hhs⟩ : ∃ hs, hs = sw a := ⟨_, rfl⟩
        have l1 := o1.lists (by have := sw_len a; rw [AL.out] at this; omega) (sw_all_len HA.out.len)
        obtain ⟨m1, hm1⟩ : ∃ m1, m1 = (sw a).length := ⟨_, rfl⟩
        rw [← hm1] at l1 ⊢
        rw [← hhs] at l1
        have HHS := Lib.hid hhs
        have L1 := Lib.hid l1
        have B1 := Lib.hid b1
        have M1 : m1 ≤ 68719476736 := by have := sw_len a; rw [AL.out] at this; omega
        clear o1 b1 l1 hm1 hhs
        go_wp2_with fail
        refine (rsorted w1 B m d b (HB.out.below B1.out) (by omega)).mono ?_
        rintro e w2 ⟨v2, rfl, o2, b2⟩
        obtain ⟨A2, c2, e2⟩ := o2.form
        subst e2
        obtain ⟨ts, hts⟩ : ∃ ts, ts = sw b := ⟨_, rfl⟩
        have l2 := o2.lists (by have := sw_len b; rw [BL.out] at this; omega) (sw_all_len HB.out.len)
        obtain ⟨m2, hm2⟩ : ∃ m2, m2 = (sw b).length := ⟨_, rfl⟩
        rw [← hm2] at l2 ⊢
        rw [← hts] at l2
        have HTS := Lib.hid hts
        have LT := Lib.hid l2
        have LH := Lib.hid (L1.out.below b2)
        have B2 := Lib.hid (B1.out.trans (b2.mono B1.out.size))
        have M2 : m2 ≤ 68719476736 := by have := sw_len b; rw [BL.out] at this; omega
        clear o2 b2 l2 hm2 hts
        have LB := Lib.hid (show ∀ x y, x ∈ hs → y ∈ ts → x.length ≤ 1024 ∧ y.length ≤ 1024 from fun x y hx hy => by
          rw [HHS.out, sw_mem] at hx
          rw [HTS.out, sw_mem] at hy
          have h1 := lonS_ge hx
          have h2 := lonS_ge hy
          have h3 : ¬ (a = [] ∨ b = []) := fun k => k.elim (fun e => by rw [e] at hx; simp at hx) fun e => by rw [e] at hy; simp at hy
          have h4 : ¬ 1024 < lonS a + lonS b := fun k => REST.out ⟨h3, k⟩
          omega)
        have PR := Lib.hid (show (¬ 10000 < (sw (prdS hs ts)).length → prodE a b = 0 ∧ prodW a b = sw (prdS hs ts)) ∧ (10000 < (sw (prdS hs ts)).length → prodE a b = 11 ∧ prodW a b = []) from by
          have h1 := prod_rest REST.out
          have h2 : sw (prdS hs ts) = sw (prdS a b) := by rw [HHS.out, HTS.out]; exact sw_same (prdS_same (sw_mem a) (sw_mem b))
          rw [h2]; exact h1)
        go_wp2
        go_loopw [8, 9] (fun v i wr => ∃ k : Nat, k ≤ m1 ∧ i = .int .i64 k ∧ OwnV wr w2.heap.size v (sw (pdU hs ts k)) ∧ Below w2.heap.size w2 wr ∧ Hid ((sw (pdU hs ts k)).length ≤ 10000)) (fun _ i _ => m1 - (intOf i).toNat)
        case atStart => exact ⟨0, Nat.zero_le _, rfl, OwnV.nil _ _, Below.refl _ _, Lib.hid (by rw [pdU_zero]; exact Nat.zero_le _)⟩
        case round =>
          obtain ⟨k, hk, rfl, hown, hbr, hle⟩ := hrel
          by_cases hlt : k < m1
          · have hkh : k < hs.length := by rw [LH.out.1]; exact hlt
            have HO := Lib.hid hown
            have HBr := Lib.hid hbr
            clear hown hbr
            go_wp2
            obtain ⟨wo, hwo⟩ : ∃ wo : World, wo = wr := ⟨_, rfl⟩
            rw [← hwo] at HO HBr ⊢
            clear hwo
            go_loopw [8, 10] (fun v i wr => ∃ j : Nat, j ≤ m2 ∧ i = .int .i64 j ∧ OwnV wr w2.heap.size v (sw (pdV hs ts k j)) ∧ Below w2.heap.size w2 wr ∧ Hid ((sw (pdV hs ts k j)).length ≤ 10000)) (fun _ i _ => m2 - (intOf i).toNat)
            case atStart => exact ⟨0, Nat.zero_le _, rfl, by rw [pdV_zero]; exact HO.out, HBr.out, Lib.hid (by rw [pdV_zero]; exact hle.out)⟩
            case round =>
              obtain ⟨j, hj, rfl, hown, hbr, hle2⟩ := hrel
              by_cases hlt2 : j < m2
              · have hjt : j < ts.length := by rw [LT.out.1]; exact hlt2
                obtain ⟨bh, oh, Bh, mh, dh, eh, _, ch, _, ih⟩ := (LH.out.below hbr).at_ hlt
                obtain ⟨bt, ot, Bt, mt, dt, et, _, ct, _, it⟩ := (LT.out.below hbr).at_ hlt2
                subst eh
                subst et
                have hm1 : hs.getD k [] ∈ hs := by rw [List.getD_eq_getElem?_getD, List.getElem?_eq_getElem hkh]; exact List.getElem_mem _
                have hm2 : ts.getD j [] ∈ ts := by rw [List.getD_eq_getElem?_getD, List.getElem?_eq_getElem hjt]; exact List.getElem_mem _
                have hlb := LB.out _ _ hm1 hm2
                rw [ih.1, it.1] at hlb
                have hml : mh + mt ≤ 17592186044416 := by omega
                have IH := Lib.hid ih
                have IT := Lib.hid it
                obtain ⟨Av, cv, ev⟩ := hown.form
                subst ev
                obtain ⟨x, hx⟩ : ∃ x, x = hs.getD k [] ++ ts.getD j [] := ⟨_, rfl⟩
                have XL := Lib.hid (show x.length ≤ 17592186044416 by rw [hx, List.length_append, ih.1, it.1]; exact hml)
                have HX := Lib.hid hx
                obtain ⟨acc, hacc⟩ : ∃ acc, acc = sw (pdV hs ts k j) := ⟨_, rfl⟩
                have PV := Lib.hid (show sw (pdV hs ts k (j + 1)) = wins acc x by rw [pdV_sw hjt, hacc, hx])
                have WL := Lib.hid (show ∀ y, y ∈ acc → y.length ≤ 17592186044416 from fun y hy => by
                  rw [hacc] at hy
                  have := pdV_words (L := 1024) (M := 1024) (fun z hz => (LB.out z _ hz hm2).1) (fun z hz => (LB.out _ z hm1 hz).2) hkh y hy
                  omega)
                have AS := Lib.hid (show AscW acc by rw [hacc]; exact sw_asc _)
                rw [← hacc] at hown hle2 ⊢
                obtain ⟨fl, hfl⟩ : ∃ fl, fl = acc.length := ⟨_, rfl⟩
                rw [← hfl] at hown ⊢
                have FL := Lib.hid hfl
                have hfl2 : fl ≤ 10000 := by rw [hfl]; exact hle2.out
                obtain ⟨z, hz⟩ : ∃ z, z = (wins acc x).length := ⟨_, rfl⟩
                have HZ := Lib.hid hz
                have HO2 := Lib.hid hown
                have HB2 := Lib.hid hbr
                have ZL := Lib.hid (show z ≤ (sw (prdS hs ts)).length by rw [hz, ← PV.out]; exact pdV_len hkh)
                clear hown hbr hm1 hm2 hlb ih it hx hacc hfl hz
                by_cases h10 : 10000 < z
                · have P := Lib.hid (PR.out.2 (Nat.lt_of_lt_of_le h10 ZL.out))
                  go_wp2
                  go_region_law (first
                    | (go_simp; go_at_call 35; refine HW.out.mono ?_; rintro e w8 ⟨u8, rfl, o8, b8⟩
                       obtain ⟨A8, c8, e8⟩ := o8.form
                       subst e8
                       have HST := Lib.hid (And.intro o8 ((below_drewN (Below.refl _ _) _).trans (BW.out.trans b8)))
                       rw [← HZ.out] at HST ⊢
                       clear o8 b8)
                    | (go_simp; go_at_call 23; refine (rjoin2 Bh Bt mh dh mt dt _ _ _ (IH.out.drewN _) (IT.out.drewN _) hml).mono ?_; rintro e w7 ⟨A7, c7, rfl, o7, b7⟩
                       rw [← HX.out] at o7
                       have ov := (HO2.out.drewN _).kept b7
                       have BW := Lib.hid (b7.mono HB2.out.size)
                       have HW := Lib.hid (rwith w7 w2.heap.size Av A7 fl cv (mh + mt) c7 acc x ov (o7.off ov XL.out) AS.out (Nat.le_trans HB2.out.size b7.size) (by rw [← FL.out]; omega) WL.out)
                       clear o7 b7 ov))
                  all_goals
                    go_wp2
                    go_ret2
                    exact ⟨_, by rw [P.out.1]; rfl, by rw [P.out.2]; exact OwnV.nil _ _, B2.out.trans ((HB2.out.trans HST.out.2).mono B2.out.size)⟩
                · go_wp2
                  go_region_law (first
                    | (go_simp; go_at_call 35; refine HW.out.mono ?_; rintro e w8 ⟨u8, rfl, o8, b8⟩
                       obtain ⟨A8, c8, e8⟩ := o8.form
                       subst e8
                       have HST := Lib.hid (And.intro o8 ((below_drewN (Below.refl _ _) _).trans (BW.out.trans b8)))
                       rw [← HZ.out] at HST ⊢
                       clear o8 b8)
                    | (go_simp; go_at_call 23; refine (rjoin2 Bh Bt mh dh mt dt _ _ _ (IH.out.drewN _) (IT.out.drewN _) hml).mono ?_; rintro e w7 ⟨A7, c7, rfl, o7, b7⟩
                       rw [← HX.out] at o7
                       have ov := (HO2.out.drewN _).kept b7
                       have BW := Lib.hid (b7.mono HB2.out.size)
                       have HW := Lib.hid (rwith w7 w2.heap.size Av A7 fl cv (mh + mt) c7 acc x ov (o7.off ov XL.out) AS.out (Nat.le_trans HB2.out.size b7.size) (by rw [← FL.out]; omega) WL.out)
                       clear o7 b7 ov))
                  all_goals
                    go_wp2
                    go_roundw
                    case rel => exact ⟨j + 1, by omega, by go_num, by rw [PV.out]; exact HST.out.1, HB2.out.trans HST.out.2, Lib.hid (by rw [PV.out, ← HZ.out]; omega)⟩
                    case measure => simp [intOf]; omega
              · obtain rfl : j = m2 := by omega
                have HO2 := Lib.hid hown
                clear hown
                go_wp2
                go_roundw
                case rel => exact ⟨k + 1, by omega, by go_num, by rw [pdU_succ hkh, LT.out.1]; exact HO2.out, hbr, Lib.hid (by rw [pdU_succ hkh, LT.out.1]; exact hle2.out)⟩
                case measure => simp [intOf]; omega
          · obtain rfl : k = m1 := by omega
            have hpu : pdU hs ts k = prdS hs ts := by rw [← pdU_all, LH.out.1]
            have P := Lib.hid (PR.out.1 (by have := hle.out; rw [hpu] at this; omega))
            rw [hpu] at hown
            have HO2 := Lib.hid hown
            have HB2 := Lib.hid hbr
            clear hown hbr hpu
            go_wp2
            go_ret2
            exact ⟨_, by rw [P.out.1]; rfl, by rw [P.out.2]; exact HO2.out.lower B2.out.size, B2.out.trans (HB2.out.mono B2.out.size)⟩
end Go.Proofs.YtakhphhpjcpphaaDoor
end
