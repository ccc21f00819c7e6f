/- Lemmas of the proofs of this seat, of the parts Plcp, Rplc, Rwit, Rsrt, Setp, Rlsp, Rlsw, Rlmx. Conditions: none. -/
import Derived.Test.YtakhphhpjcpphaaGreatDoorMb
import Derived.Test.YtakhphhpjcpphaaGreatDoorMc
import Derived.Test.YtakhphhpjcpphaaGreatDoorMd
import Derived.Deep.LoopGhost
section
/- The place of a word in a sorted list; the list with the word. No program. -/
namespace Go.Proofs.YtakhphhpjcpphaaGreatDoor

/-- Just the first k words of acc are before v. -/
def PlcIs (acc : List (List Int)) (v : List Int) (k : Nat) : Prop := (∀ j, j < k → shlex (acc.getD j []) v < 0) ∧ ∀ j, k ≤ j → j < acc.length → ¬ shlex (acc.getD j []) v < 0
theorem wins_at {acc : List (List Int)} {v : List Int} {k : Nat} (h : PlcIs acc v k) (hk : k ≤ acc.length) :
    (k < acc.length → acc.getD k [] = v → wins acc v = acc) ∧ (¬ (k < acc.length ∧ acc.getD k [] = v) → wins acc v = acc.take k ++ [v] ++ acc.drop k) := by
  induction acc generalizing k with
  | nil =>
    refine ⟨fun h0 => absurd h0 (by simp), fun _ => by simp [wins]⟩
  | cons x l ih =>
    cases k with
    | zero =>
      have h0 := h.2 0 (Nat.le_refl _) (by simp)
      simp only [List.getD_cons_zero] at h0
      refine ⟨fun _ e => ?_, fun hne => ?_⟩
      · simp only [List.getD_cons_zero] at e
        unfold wins
        rw [if_neg h0, if_pos e]
      · have hxv : x ≠ v := fun e => hne ⟨by simp, by simpa using e⟩
        unfold wins
        rw [if_neg h0, if_neg hxv]
        simp
    | succ k =>
      have h0 := h.1 0 (by omega)
      simp only [List.getD_cons_zero] at h0
      have h' : PlcIs l v k := by
        refine ⟨fun j hj => ?_, fun j hj hl => ?_⟩
        · have := h.1 (j + 1) (by omega)
          simpa using this
        · have := h.2 (j + 1) (by omega) (by simp; omega)
          simpa using this
      obtain ⟨i1, i2⟩ := ih h' (by simp at hk; omega)
      refine ⟨fun hl e => ?_, fun hne => ?_⟩
      · unfold wins
        rw [if_pos h0, i1 (by simp at hl; omega) (by simpa using e)]
      · unfold wins
        rw [if_pos h0, i2 (fun hc => hne ⟨by simp; omega, by simpa using hc.2⟩)]
        simp
/-- No word from hi on is before v. -/
def PlHi (acc : List (List Int)) (v : List Int) (hi : Nat) : Prop := ∀ j, hi ≤ j → j < acc.length → ¬ shlex (acc.getD j []) v < 0
/-- All words below lo are before v. -/
def PlLo (acc : List (List Int)) (v : List Int) (lo : Nat) : Prop := ∀ j, j < lo → shlex (acc.getD j []) v < 0
theorem AscW.at_ {l : List (List Int)} (h : AscW l) {i j : Nat} (hij : i < j) (hj : j < l.length) : shlex (l.getD i []) (l.getD j []) < 0 := by
  have := List.pairwise_iff_getElem.1 h i j (by omega) hj hij
  simpa [List.getD, List.getElem?_eq_getElem hj, List.getElem?_eq_getElem (show i < l.length by omega)] using this
theorem plc_up {acc : List (List Int)} {v : List Int} {k : Nat} (ha : AscW acc) (hk : k < acc.length) (h : shlex (acc.getD k []) v < 0) : PlLo acc v (k + 1) := fun j hj => by
  by_cases e : j = k
  · subst e; exact h
  · exact shlex_lt_trans (ha.at_ (by omega) hk) h
theorem plc_down {acc : List (List Int)} {v : List Int} {k : Nat} (ha : AscW acc) (h : ¬ shlex (acc.getD k []) v < 0) : PlHi acc v k := fun j hj hl h2 => by
  by_cases e : j = k
  · subst e; exact h h2
  · exact h (shlex_lt_trans (ha.at_ (by omega) hl) h2)

/-- The row when the cells behind i hold what was one place before. -/
def shf {α : Type} (qs : List α) (z : α) (i : Nat) : List α := (qs ++ [z]).take (i + 1) ++ qs.drop i
theorem shf_start {α : Type} (qs : List α) (z : α) : shf qs z qs.length = qs ++ [z] := by unfold shf; rw [List.take_of_length_le (by simp), List.drop_length, List.append_nil]
theorem shf_len {α : Type} {qs : List α} {z : α} {i : Nat} (h : i ≤ qs.length) : (shf qs z i).length = qs.length + 1 := by unfold shf; simp; omega
theorem shf_at {α : Type} {qs : List α} {z : α} {i m : Nat} (h : i ≤ qs.length) : (shf qs z i)[m]? = if m ≤ i then (qs ++ [z])[m]? else qs[m - 1]? := by
  unfold shf
  have hl : ((qs ++ [z]).take (i + 1)).length = i + 1 := by simp; omega
  by_cases hm : m ≤ i
  · rw [if_pos hm, List.getElem?_append_left (by omega), List.getElem?_take, if_pos (by omega)]
  · rw [if_neg hm, List.getElem?_append_right (by omega), List.getElem?_drop, hl]
    congr 1; omega
theorem shf_step {α : Type} {qs : List α} {z : α} {i : Nat} {p : α} (hi : i < qs.length) (hp : qs[i]? = some p) : (shf qs z (i + 1)).set (i + 1) p = shf qs z i := by
  apply List.ext_getElem?
  intro m
  rw [List.getElem?_set, shf_len (by omega), shf_at (by omega), shf_at (by omega)]
  by_cases e : i + 1 = m
  · subst e
    rw [if_pos rfl, if_pos (by omega), if_neg (by omega), Nat.add_sub_cancel, hp]
  · rw [if_neg e]
    by_cases h1 : m ≤ i
    · rw [if_pos h1, if_pos (by omega)]
    · rw [if_neg h1, if_neg (by omega)]
theorem shf_get {α : Type} {qs : List α} {z : α} {i : Nat} (hi : i < qs.length) : (shf qs z (i + 1))[i]? = qs[i]? := by
  rw [shf_at (by omega), if_pos (by omega), List.getElem?_append_left hi]
theorem shf_end {α : Type} {qs : List α} {z p : α} {k : Nat} (hk : k ≤ qs.length) : (shf qs z k).set k p = qs.take k ++ [p] ++ qs.drop k := by
  apply List.ext_getElem?
  intro m
  rw [List.getElem?_set, shf_len hk, shf_at hk, List.append_assoc]
  have hl : (qs.take k).length = k := by simp; omega
  by_cases e : k = m
  · subst e
    rw [if_pos rfl, if_pos (by omega), List.getElem?_append_right (by omega), hl]; simp
  · rw [if_neg e]
    by_cases h1 : m ≤ k
    · rw [if_pos h1, List.getElem?_append_left (by omega), List.getElem?_append_left (by omega), List.getElem?_take, if_pos (by omega)]
    · rw [if_neg h1, List.getElem?_append_right (by omega), hl, List.getElem?_append_right (by simp; omega), List.getElem?_drop]
      congr 1; simp; omega
end Go.Proofs.YtakhphhpjcpphaaGreatDoor
end

section
/- The reference: place, with. -/
namespace Go.Proofs.YtakhphhpjcpphaaGreatDoor
open Go.RowKit Go.Shelf

/-- Some number that is the place. -/
def PlaceRes (acc : List (List Int)) (v : List Int) (w : World) (e : Ending) (w' : World) : Prop := ∃ k : Nat, e = .returned (.int .i64 k) ∧ k ≤ acc.length ∧ PlcIs acc v k ∧ ∃ q, w' = w.drewN q

set_option maxHeartbeats 1000000 in
theorem rplace (w : World) (A B : Option Addr) (n c m d : Nat) (acc : List (List Int)) (v : List Int) (h : Lists w A n acc) (hv : Ints w B m v) (ha : AscW acc) :
    Calls Tryz.prog 45 #[.slice A n c, .slice B m d] w (PlaceRes acc v w) := by
  have L := Lib.hid h.1
  have hn := h.2.1
  have HL := Lib.hid h
  have HV := Lib.hid hv
  have HA := Lib.hid ha
  clear h hv ha
  go_enter Tryz.func45, Tryz.ntmps45
  go_wp2
  go_loopw [5, 6] (fun a b wr => ∃ lo hi q : Nat, a = .int .i64 lo ∧ b = .int .i64 hi ∧ lo ≤ hi ∧ hi ≤ n ∧ PlLo acc v lo ∧ PlHi acc v hi ∧ wr = w.drewN q) (fun a b _ => (intOf b).toNat - (intOf a).toNat)
  case atStart => exact ⟨0, n, 0, rfl, rfl, Nat.zero_le _, Nat.le_refl _, fun j hj => absurd hj (by omega), fun j h1 h2 => absurd h2 (by rw [L.out]; omega), rfl⟩
  case round =>
    obtain ⟨lo, hi, q, rfl, rfl, hle, hhi, H1, H2, rfl⟩ := hrel
    by_cases hlt : lo < hi
    · obtain ⟨K, hK⟩ : ∃ K, K = (lo + hi) / 2 := ⟨_, rfl⟩
      have k1 : lo ≤ K := by omega
      have k2 : K < hi := by omega
      have hdiv : ((lo : Int) + (hi : Int)) / 2 = (K : Int) := by omega
      have kn : K < n := by omega
      obtain ⟨b, off, Aj, nj, cj, rfl, _, hcell, hI⟩ := HL.out.at_ kn
      have hcall := rcompare Aj B nj cj m d _ v (w.drewN q) (hI.drewN q) (HV.out.drewN q)
      obtain ⟨r, hr⟩ : ∃ r, r = shlex (acc.getD K []) v := ⟨_, rfl⟩
      rw [← hr] at hcall
      have HC := Lib.hid hcall
      have HR := Lib.hid hr
      clear hK hI hcall hr
      by_cases hneg : r < 0
      · have U := Lib.hid (plc_up HA.out (by rw [L.out]; exact kn) (by rw [← HR.out]; exact hneg))
        go_wp2_with (go_at_call 57; refine HC.out.mono ?_; rintro e w' ⟨rfl, q', rfl⟩)
        clear hdiv
        go_roundw
        case rel => exact ⟨K + 1, hi, _, by go_num, rfl, by omega, hhi, U.out, H2, rfl⟩
        case measure => simp [intOf]; omega
      · have U := Lib.hid (plc_down HA.out (by rw [← HR.out]; exact hneg))
        have hpos : 0 ≤ r := by omega
        go_wp2_with (go_at_call 57; refine HC.out.mono ?_; rintro e w' ⟨rfl, q', rfl⟩)
        clear hdiv
        go_roundw
        case rel => exact ⟨lo, K, _, rfl, rfl, by omega, by omega, H1, U.out, rfl⟩
        case measure => simp [intOf]; omega
    · obtain rfl : lo = hi := by omega
      go_wp2
      go_ret
      exact ⟨lo, rfl, by rw [L.out]; exact hhi, ⟨H1, H2⟩, q, rfl⟩

/-- The slice value v is a row of the words xss, in blocks from base on, which the call may write. -/
def OwnV (w : World) (base : Nat) (v : Value) (xss : List (List Int)) : Prop := ∃ qs, HRow w base v qs ∧ (∀ q, q ∈ qs → Owned w base q.1 q.2) ∧ qs.map Prod.snd = xss
theorem OwnV.nil (w : World) (base : Nat) : OwnV w base (.slice none 0 0) [] := ⟨[], HRow.nil w base, fun q h => absurd h (by simp), rfl⟩
theorem OwnW.ownV {w : World} {base : Nat} {v : Value} {xss : List (List Int)} (h : OwnW w base v xss) : OwnV w base v xss := by
  obtain ⟨qs, h1, h2⟩ := h
  exact ⟨qs, h1.1, h1.2.1, h2⟩
theorem OwnV.kept {w w' : World} {base : Nat} {v : Value} {xss : List (List Int)} (h : OwnV w base v xss) (hb : Below w.heap.size w w') : OwnV w' base v xss := by
  obtain ⟨qs, h1, h2, e⟩ := h
  exact ⟨qs, h1.kept hb, fun q hq => (h2 q hq).kept hb, e⟩
theorem OwnV.lower {w : World} {base base' : Nat} {v : Value} {xss : List (List Int)} (h : OwnV w base v xss) (hb : base' ≤ base) : OwnV w base' v xss := by
  obtain ⟨qs, h1, h2, e⟩ := h
  exact ⟨qs, h1.lower hb, fun q hq => (h2 q hq).lower hb, e⟩
theorem OwnV.form {w : World} {base : Nat} {v : Value} {xss : List (List Int)} (h : OwnV w base v xss) : ∃ A c, v = .slice A xss.length c := by
  obtain ⟨qs, h1, _, e⟩ := h
  obtain ⟨A, c, e2⟩ := h1.form
  exact ⟨A, c, by rw [e2, ← e, List.length_map]⟩
theorem OwnV.lists {w : World} {base : Nat} {A : Option Addr} {n c : Nat} {xss : List (List Int)} (h : OwnV w base (.slice A n c) xss) (hm : xss.length ≤ 17592186044416) (hr : ∀ x, x ∈ xss → x.length ≤ 17592186044416) : ListsC w A n xss := by
  obtain ⟨qs, h1, h2, rfl⟩ := h
  refine (h1.hds (by rw [List.length_map] at hm; exact hm)).lists (top := w.heap.size) fun q hq => ?_
  have ho := h2 q hq
  obtain ⟨A, c, e, hc, hb⟩ := ho.bounds
  exact ⟨A, _, c, e, (by rw [e] at ho; exact ho.ints (hr _ (List.mem_map_of_mem hq))), hc, fun a ha _ => (hb a ha).1⟩

/-- append(v, nil): where the row lies then. -/
theorem run_append_nilh {w : World} {base : Nat} {v : Value} {ps : List HL} (h : HRow w base v ps) (hbase : base ≤ w.heap.size) (hl : ps.length < 1759218604441) :
    ∃ g c w', (Builtin.append_ #[22, 22] 22 #[v, .slice (some ⟨w.heap.size, 0, none⟩) 1 1]).run Tryz.prog (w.alloc (.cells #[.slice none 0 0] 23)) = .ok (.slice (some ⟨g, 0, none⟩) (ps.length + 1) c) w' ∧
      HRow w' base (.slice (some ⟨g, 0, none⟩) (ps.length + 1) c) (ps ++ [(.slice none 0 0, [])]) ∧ w.grownBy w' v.ownBlock ∧ Below base w w' ∧ (v.ownBlock = some g ∨ w.heap.size ≤ g) := by
  obtain ⟨i, hi, hz0, hz1, hz2⟩ := info_parts infol
  have hbz := alloc_below w (.cells #[.slice none 0 0] 23)
  have ho1 := (h.kept hbz).1
  obtain ⟨v', w', hr, h1, h2, _, hmv⟩ := run_append_own_at (P := Tryz.prog) (w.alloc (.cells #[.slice none 0 0] 23)) base 22 22 23 i (.slice none 0 0) 1 24 Tryz.underlying22 hi hz0 hz1 hz2 rfl (by decide) v _ _ ho1 ⟨w.heap.size, 0, none⟩ 1 1 [.slice none 0 0] (by simp)
    (by
      intro j u hu
      cases j with
      | zero =>
        simp at hu
        subst hu
        simp [Addr.add]
      | succ j => simp at hu)
    (by intro u hu; simp at hu; subst hu; rfl) (by unfold maxLen; omega) (by omega) (Nat.le_trans hbase hbz.size)
  have hgb : w.grownBy w' v.ownBlock := ⟨h2.os, h2.tape, h2.output, Nat.le_trans hbz.size h2.size, fun k hk hne => (h2.block k (Nat.lt_of_lt_of_le hk hbz.size) hne).trans (hbz.block k hk)⟩
  rcases h1.2 with ⟨rfl, h0⟩ | ⟨g, cap, cur, rfl, r⟩
  · have := h1.1; rw [h0] at this; simp at this
  · refine ⟨g, cap, w', hr, ⟨?_, fun p hp => ?_⟩, hgb, (hbz.mono hbase).trans ((Below.refl _ _).grown h2 (Nat.le_trans hbase hbz.size) (fun k hk => (World.ownsRow.lt ho1 k hk).1)), ?_⟩
    · rw [List.length_append, List.map_append]; exact h1
    · rcases List.mem_append.1 hp with hp | hp
      · exact h.2 p hp
      · rw [List.mem_singleton] at hp; subst hp; exact ⟨none, 0, 0, rfl⟩
    · rcases hmv with e | e
      · left; rw [← e]; rfl
      · right
        have : g = (w.alloc (.cells #[.slice none 0 0] 23)).heap.size := by simpa [Value.ownBlock] using e
        rw [this]; exact hbz.size
end Go.Proofs.YtakhphhpjcpphaaGreatDoor
end

section
/- The reference: with. -/
namespace Go.Proofs.YtakhphhpjcpphaaGreatDoor
open Go.RowKit Go.Shelf

theorem HRow.block {w : World} {base g n c : Nat} {ps : List HL} (h : HRow w base (.slice (some ⟨g, 0, none⟩) n c) ps) : ∃ cs, w.heap[g]? = some (.cells cs 23 (0, 0)) := by
  rcases h.1.2 with ⟨e1, _⟩ | ⟨g', cap, cur, e1, _, hg, _⟩
  · cases e1
  · cases e1; exact ⟨cur, hg⟩
theorem take_map_snd (qs : List HL) (k : Nat) : (qs.take k).map Prod.snd = (qs.map Prod.snd).take k := by rw [List.map_take]

set_option maxHeartbeats 4000000 in
set_option maxRecDepth 100000 in
theorem rwith (w : World) (base : Nat) (A B : Option Addr) (n c m d : Nat) (acc : List (List Int)) (v : List Int) (h : OwnV w base (.slice A n c) acc) (hx : InOff w (Value.ownBlock (.slice A n c)) (.slice B m d, v)) (ha : AscW acc) (hbase : base ≤ w.heap.size)
    (hl : acc.length < 1759218604441) (hr : ∀ x, x ∈ acc → x.length ≤ 17592186044416) :
    Calls Tryz.prog 27 #[.slice A n c, .slice B m d] w fun e w' => ∃ u, e = .returned u ∧ OwnV w' base u (wins acc v) ∧ Below base w w' := by
  have hls := h.lists (by omega) hr
  have hnl := hls.1
  obtain ⟨qs, hrow, hown, hqs⟩ := h
  obtain ⟨B', m', d', e', hi, hoff⟩ := hx
  cases e'
  have hn : n < 1759218604441 := by rw [← hnl]; exact hl
  have HP := Lib.hid (rplace w A B n c m d acc v hls.lists hi ha)
  have LS := Lib.hid hls
  have NL := Lib.hid hnl
  have HRW := Lib.hid hrow
  have HOW := Lib.hid hown
  have HQS := Lib.hid hqs
  have HI := Lib.hid hi
  have HOFF := Lib.hid hoff
  have QL := Lib.hid (show qs.length = n by rw [← hnl, ← hqs, List.length_map])
  clear hls hnl hrow hown hqs hi hoff hl hr ha
  go_enter Tryz.func27, Tryz.ntmps27
  go_wp2_with fail
  refine HP.out.mono ?_
  rintro e w1 ⟨k, rfl, hk, hpl, q, rfl⟩
  rw [NL.out] at hk
  have WA := Lib.hid (wins_at hpl (by rw [NL.out]; exact hk))
  clear hpl
  by_cases hkn : k < n
  · obtain ⟨b, off, Aj, nj, cj, eA, _, hcell, _, hI⟩ := LS.out.at_ hkn
    subst eA
    by_cases heq : acc.getD k [] = v
    · have HS := Lib.hid (rsameD Aj B nj cj m d _ v true (w.drewN q) (hI.drewN q) (HI.out.drewN q) (by rw [decide_eq_true heq]))
      have WI := Lib.hid (WA.out.1 (by rw [NL.out]; exact hkn) heq)
      clear heq hI
      go_wp2_with (go_at_call 23; refine HS.out.mono ?_; rintro e w' ⟨rfl, q', rfl⟩)
      go_ret
      exact ⟨_, rfl, by rw [WI.out]; exact ⟨qs, HRW.out, HOW.out, HQS.out⟩, below_drewN (Below.refl _ _) _⟩
    · have HS := Lib.hid (rsameD Aj B nj cj m d _ v false (w.drewN q) (hI.drewN q) (HI.out.drewN q) (by rw [decide_eq_false heq]))
      have WI := Lib.hid (WA.out.2 (fun hc => heq hc.2))
      clear heq hI
      go_wp2_with fail
      refine HS.out.mono ?_
      rintro e w' ⟨rfl, q', rfl⟩
      obtain ⟨W, hW⟩ : ∃ W : World, W = (w.drewN q).drewN q' := ⟨_, rfl⟩
      rw [← hW]
      have RW := Lib.hid (show HRow W base (.slice (some ⟨b, off, none⟩) n c) qs from by rw [hW]; exact HRW.out)
      have OW := Lib.hid (show ∀ q, q ∈ qs → Owned W base q.1 q.2 from by rw [hW]; exact HOW.out)
      have B0 := Lib.hid (show Below base w W from by rw [hW]; exact below_drewN (below_drewN (Below.refl _ _) q) q')
      have XI := Lib.hid (show InOff W (Value.ownBlock (.slice (some ⟨b, off, none⟩) n c)) (.slice B m d, v) from by rw [hW]; exact ⟨B, m, d, rfl, HI.out, HOFF.out⟩)
      clear hW
      obtain ⟨g, c2, w2, hr2, h2, g2, b2, hg⟩ := run_append_nilh RW.out (Nat.le_trans hbase B0.out.size) (by rw [QL.out]; exact hn)
      rw [QL.out] at hr2 h2
      have XG := Lib.hid (show InOff w2 (some g) (.slice B m d, v) from by
        obtain ⟨B', m', d', e', i1, o1⟩ := XI.out.grown g2
        cases e'
        refine ⟨B, m, d, rfl, i1, fun a ha h0 e2 => ?_⟩
        rcases hg with hg | hg
        · exact o1 a ha h0 (by rw [hg]; exact e2)
        · obtain ⟨B', m', d', e', i2, _⟩ := XI.out
          cases e'
          obtain ⟨b', o', e3, hlt3, _⟩ := i2.2.2 h0
          rw [ha] at e3
          cases e3
          have : b' = g := by simpa using e2
          omega)
      have O2 := Lib.hid (show ∀ q, q ∈ qs → Owned w2 base q.1 q.2 from fun q hq => (OW.out q hq).keptT (KeptT.grown g2 RW.out.1 (by decide)))
      have H2 := Lib.hid h2
      have B2 := Lib.hid (B0.out.trans b2)
      have S2 := Lib.hid (show shf qs ((.slice none 0 0, []) : HL) n = qs ++ [(.slice none 0 0, [])] by rw [← QL.out]; exact shf_start qs _)
      have GB := Lib.hid (show base ≤ g from h2.cap.2.1)
      clear h2 g2 b2 hg
      go_wp2_with (at_builtin; refine Lib.wpList_append_run _ rfl _ _ _ _ rfl _ _ rfl rfl _ _ hr2 ?_)
      go_loopw [6] (fun s wr => ∃ i : Nat, k ≤ i ∧ i ≤ n ∧ s = .int .i64 i ∧ HRow wr base (.slice (some ⟨g, 0, none⟩) (n + 1) c2) (shf qs ((.slice none 0 0, []) : HL) i) ∧ w2.grownBy wr (some g)) (fun s _ => (intOf s).toNat)
      case atStart => exact ⟨n, hk, Nat.le_refl _, by go_num, by rw [S2.out]; exact H2.out, World.grownBy.refl w2 _⟩
      case round =>
        obtain ⟨i, hki, hin, rfl, hrow, hgr⟩ := hrel
        have HRR := Lib.hid hrow
        have HGR := Lib.hid hgr
        have hcap := hrow.cap.1
        clear hrow hgr
        by_cases hlt : k < i
        · obtain ⟨j, hj⟩ : ∃ j, j = i - 1 := ⟨_, rfl⟩
          obtain rfl : i = j + 1 := by omega
          have hjn : j < qs.length := by rw [QL.out]; omega
          obtain ⟨p, hp⟩ : ∃ p, qs[j]? = some p := ⟨_, List.getElem?_eq_getElem hjn⟩
          obtain ⟨Bp, mp, dp, ep⟩ := RW.out.2 p (List.mem_of_getElem? hp)
          obtain ⟨p1, p2⟩ := p
          simp only at ep
          subst ep
          have cj := (HRR.out.cellOf ((shf_get hjn).trans hp)).1
          obtain ⟨po, hpo⟩ : ∃ po, (shf qs ((.slice none 0 0, []) : HL) (j + 1))[j + 1]? = some po := ⟨_, List.getElem?_eq_getElem (by rw [shf_len (by rw [QL.out]; omega), QL.out]; omega)⟩
          obtain ⟨co, fo⟩ := HRR.out.cellOf hpo
          have HST := Lib.hid (HRR.out.stored (j + 1) Bp mp dp p2)
          rw [shf_step hjn hp] at HST
          have HGB := Lib.hid (HRR.out.storedBy (j + 1) (.slice Bp mp dp))
          have W1 : IntKind.i64.wrap (((j + 1 : Nat) : Int) - 1) = (j : Int) := by rw [IntKind.wrap_i64]; omega
          simp only at cj
          generalize po.1 = old at co
          clear hj hp hpo
          go_wp2
          clear W1
          go_roundw
          case rel => exact ⟨j, by omega, by omega, by go_num, HST.out, grownBy_trans HGR.out HGB.out⟩
          case measure => simp [intOf]
        · obtain rfl : i = k := by omega
          have XR := Lib.hid ((XG.out).grown HGR.out)
          have hb0 := alloc_below wr (.cells #[] 3)
          have ho0 := Owned.literal wr wr.heap.size [] #[] 0 (Nat.le_refl _) rfl rfl (by simp)
          have hxi : Ints wr B m v := by obtain ⟨B', m', d', e', i1, _⟩ := XR.out; cases e'; exact i1
          obtain ⟨v3, w3, hr3, ho3, hg3, hb3⟩ := run_append_ints _ _ _ _ _ _ _ d ho0 (hxi.below hb0) hb0.size (by rw [List.nil_append, hxi.1]; exact hxi.2.1)
          obtain ⟨A3, c3, rfl⟩ := ho3.form
          rw [List.nil_append, hxi.1] at hr3 ho3
          have hB3 := hb0.trans hb3
          obtain ⟨po, hpo⟩ : ∃ po, (shf qs ((.slice none 0 0, []) : HL) i)[i]? = some po := ⟨_, List.getElem?_eq_getElem (by rw [shf_len (by rw [QL.out]; omega), QL.out]; omega)⟩
          have HR3 := HRR.out.kept hB3
          obtain ⟨co, fo⟩ := HR3.cellOf hpo
          obtain ⟨cs, hcs⟩ := HR3.block
          have FIN := Lib.hid (show OwnV (w3.setCell ⟨g, i, none⟩ (.slice A3 m c3)) base (.slice (some ⟨g, 0, none⟩) (n + 1) c2) (wins acc v) ∧ Below base w (w3.setCell ⟨g, i, none⟩ (.slice A3 m c3)) from by
            have hst := HR3.stored i A3 m c3 v
            rw [shf_end (by rw [QL.out]; exact hk)] at hst
            have hkk : KeptT 3 w3 (w3.setCell ⟨g, i, none⟩ (.slice A3 m c3)) := KeptT.off hcs (by decide) _
            have hgs : base ≤ wr.heap.size := Nat.le_trans hbase (Nat.le_trans B2.out.size HGR.out.size)
            refine ⟨⟨_, hst, fun q hq => ?_, ?_⟩, ?_⟩
            · have hold : ∀ q, q ∈ qs → Owned (w3.setCell ⟨g, i, none⟩ (.slice A3 m c3)) base q.1 q.2 := fun q hq =>
                ((((O2.out q hq).keptT (KeptT.grown HGR.out H2.out.1 (by decide))).kept hB3)).keptT hkk
              rcases List.mem_append.1 hq with hq | hq
              · rcases List.mem_append.1 hq with hq | hq
                · exact hold q (List.mem_of_mem_take hq)
                · rw [List.mem_singleton] at hq
                  subst hq
                  exact (ho3.lower hgs).keptT hkk
              · exact hold q (List.mem_of_mem_drop hq)
            · rw [List.map_append, List.map_append, List.map_take, List.map_drop, HQS.out, WI.out]; rfl
            · exact ((B2.out.trans ((Below.refl _ _).grown HGR.out (Nat.le_trans hbase B2.out.size) (fun k hk => by cases hk; exact GB.out))).trans (hB3.mono hgs)).setCell (by exact GB.out) _)
          have hki2 : i < n + 1 := by omega
          generalize po.1 = old at co
          clear hB3 hb3 hg3 ho3 ho0 hxi hb0 hpo HR3 hcs
          go_wp2_with (at_builtin; refine Lib.wpList_append_run _ rfl _ _ _ _ rfl _ _ rfl rfl _ _ hr3 ?_)
          go_ret
          exact ⟨_, rfl, FIN.out.1, FIN.out.2⟩
  · have WI := Lib.hid (WA.out.2 (fun hc => hkn (by rw [← NL.out]; exact hc.1)))
    obtain ⟨W, hW⟩ : ∃ W : World, W = w.drewN q := ⟨_, rfl⟩
    rw [← hW]
    have RW := Lib.hid (show HRow W base (.slice A n c) qs from by rw [hW]; exact HRW.out)
    have OW := Lib.hid (show ∀ q, q ∈ qs → Owned W base q.1 q.2 from by rw [hW]; exact HOW.out)
    have B0 := Lib.hid (show Below base w W from by rw [hW]; exact below_drewN (Below.refl _ _) q)
    have XI := Lib.hid (show InOff W (Value.ownBlock (.slice A n c)) (.slice B m d, v) from by rw [hW]; exact ⟨B, m, d, rfl, HI.out, HOFF.out⟩)
    clear hW
    obtain ⟨g, c2, w2, hr2, h2, g2, b2, hg⟩ := run_append_nilh RW.out (Nat.le_trans hbase B0.out.size) (by rw [QL.out]; exact hn)
    rw [QL.out] at hr2 h2
    have XG := Lib.hid (show InOff w2 (some g) (.slice B m d, v) from by
      obtain ⟨B', m', d', e', i1, o1⟩ := XI.out.grown g2
      cases e'
      refine ⟨B, m, d, rfl, i1, fun a ha h0 e2 => ?_⟩
      rcases hg with hg | hg
      · exact o1 a ha h0 (by rw [hg]; exact e2)
      · obtain ⟨B', m', d', e', i2, _⟩ := XI.out
        cases e'
        obtain ⟨b', o', e3, hlt3, _⟩ := i2.2.2 h0
        rw [ha] at e3
        cases e3
        have : b' = g := by simpa using e2
        omega)
    have O2 := Lib.hid (show ∀ q, q ∈ qs → Owned w2 base q.1 q.2 from fun q hq => (OW.out q hq).keptT (KeptT.grown g2 RW.out.1 (by decide)))
    have H2 := Lib.hid h2
    have B2 := Lib.hid (B0.out.trans b2)
    have S2 := Lib.hid (show shf qs ((.slice none 0 0, []) : HL) n = qs ++ [(.slice none 0 0, [])] by rw [← QL.out]; exact shf_start qs _)
    have GB := Lib.hid (show base ≤ g from h2.cap.2.1)
    clear h2 g2 b2 hg
    go_wp2_with (at_builtin; refine Lib.wpList_append_run _ rfl _ _ _ _ rfl _ _ rfl rfl _ _ hr2 ?_)
    go_loopw [6] (fun s wr => ∃ i : Nat, k ≤ i ∧ i ≤ n ∧ s = .int .i64 i ∧ HRow wr base (.slice (some ⟨g, 0, none⟩) (n + 1) c2) (shf qs ((.slice none 0 0, []) : HL) i) ∧ w2.grownBy wr (some g)) (fun s _ => (intOf s).toNat)
    case atStart => exact ⟨n, hk, Nat.le_refl _, by go_num, by rw [S2.out]; exact H2.out, World.grownBy.refl w2 _⟩
    case round =>
      obtain ⟨i, hki, hin, rfl, hrow, hgr⟩ := hrel
      have HRR := Lib.hid hrow
      have HGR := Lib.hid hgr
      have hcap := hrow.cap.1
      clear hrow hgr
      by_cases hlt : k < i
      · exact absurd hlt (by omega)
      · obtain rfl : i = k := by omega
        have XR := Lib.hid ((XG.out).grown HGR.out)
        have hb0 := alloc_below wr (.cells #[] 3)
        have ho0 := Owned.literal wr wr.heap.size [] #[] 0 (Nat.le_refl _) rfl rfl (by simp)
        have hxi : Ints wr B m v := by obtain ⟨B', m', d', e', i1, _⟩ := XR.out; cases e'; exact i1
        obtain ⟨v3, w3, hr3, ho3, hg3, hb3⟩ := run_append_ints _ _ _ _ _ _ _ d ho0 (hxi.below hb0) hb0.size (by rw [List.nil_append, hxi.1]; exact hxi.2.1)
        obtain ⟨A3, c3, rfl⟩ := ho3.form
        rw [List.nil_append, hxi.1] at hr3 ho3
        have hB3 := hb0.trans hb3
        obtain ⟨po, hpo⟩ : ∃ po, (shf qs ((.slice none 0 0, []) : HL) i)[i]? = some po := ⟨_, List.getElem?_eq_getElem (by rw [shf_len (by rw [QL.out]; omega), QL.out]; omega)⟩
        have HR3 := HRR.out.kept hB3
        obtain ⟨co, fo⟩ := HR3.cellOf hpo
        obtain ⟨cs, hcs⟩ := HR3.block
        have FIN := Lib.hid (show OwnV (w3.setCell ⟨g, i, none⟩ (.slice A3 m c3)) base (.slice (some ⟨g, 0, none⟩) (n + 1) c2) (wins acc v) ∧ Below base w (w3.setCell ⟨g, i, none⟩ (.slice A3 m c3)) from by
          have hst := HR3.stored i A3 m c3 v
          rw [shf_end (by rw [QL.out]; exact hk)] at hst
          have hkk : KeptT 3 w3 (w3.setCell ⟨g, i, none⟩ (.slice A3 m c3)) := KeptT.off hcs (by decide) _
          have hgs : base ≤ wr.heap.size := Nat.le_trans hbase (Nat.le_trans B2.out.size HGR.out.size)
          refine ⟨⟨_, hst, fun q hq => ?_, ?_⟩, ?_⟩
          · have hold : ∀ q, q ∈ qs → Owned (w3.setCell ⟨g, i, none⟩ (.slice A3 m c3)) base q.1 q.2 := fun q hq =>
              ((((O2.out q hq).keptT (KeptT.grown HGR.out H2.out.1 (by decide))).kept hB3)).keptT hkk
            rcases List.mem_append.1 hq with hq | hq
            · rcases List.mem_append.1 hq with hq | hq
              · exact hold q (List.mem_of_mem_take hq)
              · rw [List.mem_singleton] at hq
                subst hq
                exact (ho3.lower hgs).keptT hkk
            · exact hold q (List.mem_of_mem_drop hq)
          · rw [List.map_append, List.map_append, List.map_take, List.map_drop, HQS.out, WI.out]; rfl
          · exact ((B2.out.trans ((Below.refl _ _).grown HGR.out (Nat.le_trans hbase B2.out.size) (fun k hk => by cases hk; exact GB.out))).trans (hB3.mono hgs)).setCell (by exact GB.out) _)
        have hki2 : i < n + 1 := by omega
        generalize po.1 = old at co
        clear hB3 hb3 hg3 ho3 ho0 hxi hb0 hpo HR3 hcs
        go_wp2_with (at_builtin; refine Lib.wpList_append_run _ rfl _ _ _ _ rfl _ _ rfl rfl _ _ hr3 ?_)
        go_ret
        exact ⟨_, rfl, FIN.out.1, FIN.out.2⟩
end Go.Proofs.YtakhphhpjcpphaaGreatDoor
end

section
/- The reference: Sorted, longest, Great, Union; ascending. -/
namespace Go.Proofs.YtakhphhpjcpphaaGreatDoor
open Go.RowKit Go.Shelf

theorem swA_app (l m acc : List (List Int)) : swA (l ++ m) acc = swA m (swA l acc) := by
  induction l generalizing acc with
  | nil => rfl
  | cons x l ih => exact ih _
theorem sw_snoc (l : List (List Int)) (x : List Int) : sw (l ++ [x]) = wins (sw l) x := by unfold sw; rw [swA_app]; rfl
theorem sw_take {l : List (List Int)} {k : Nat} (h : k < l.length) : sw (l.take (k + 1)) = wins (sw (l.take k)) (l.getD k []) := by
  rw [List.take_succ_eq_append_getElem h, sw_snoc, List.getD_eq_getElem?_getD, List.getElem?_eq_getElem h]; rfl
theorem sw_all_len {l : List (List Int)} {L : Nat} (h : ∀ x, x ∈ l → x.length ≤ L) : ∀ x, x ∈ sw l → x.length ≤ L := fun x hx => h x ((sw_mem l x).1 hx)
/-- A word below the base of a row of one's own lies outside the row. -/
theorem OwnV.offAt {w : World} {base : Nat} {v : Value} {xss : List (List Int)} {p : HL} (h : OwnV w base v xss) (hp : InAt w base p) : InOff w v.ownBlock p := by
  obtain ⟨qs, h1, _, _⟩ := h
  exact hp.off h1 (Nat.le_refl _)
theorem OwnV.lt {w : World} {base : Nat} {v : Value} {xss : List (List Int)} (h : OwnV w base v xss) : ∀ k, v.ownBlock = some k → base ≤ k ∧ k < w.heap.size := by
  obtain ⟨qs, h1, _, _⟩ := h
  exact h1.lt
theorem ListsC.inAt {w : World} {A : Option Addr} {n : Nat} {xss : List (List Int)} (h : ListsC w A n xss) {k : Nat} (hk : k < n) {b off : Nat} (hA : A = some ⟨b, off, none⟩) {B : Option Addr} {m d : Nat} (hc : w.cell? ⟨b, off + k, none⟩ = some (.slice B m d)) : InAt w w.heap.size (.slice B m d, xss.getD k []) := by
  obtain ⟨b', off', B', m', d', e, _, hc', hmd, hI⟩ := h.at_ hk
  rw [hA] at e
  cases e
  rw [hc] at hc'
  cases hc'
  exact ⟨B, m, d, rfl, hI, hmd, fun a ha h0 => by
    obtain ⟨b2, o2, e2, hlt, _⟩ := hI.2.2 h0
    rw [ha] at e2
    cases e2
    exact hlt⟩

set_option maxHeartbeats 1000000 in
theorem rsorted (w : World) (A : Option Addr) (n c : Nat) (xss : List (List Int)) (h : ListsC w A n xss) (hn : n ≤ 1759218604441) :
    Calls Tryz.prog 10 #[.slice A n c] w fun e w' => ∃ v, e = .returned v ∧ OwnV w' w.heap.size v (sw xss) ∧ Below w.heap.size w w' := by
  have L := Lib.hid h.1
  have HL := Lib.hid h
  have LEN := Lib.hid h.len
  clear h
  go_enter Tryz.func10, Tryz.ntmps10
  go_wp2
  go_loopw [3, 4] (fun v i wr => ∃ k : Nat, k ≤ n ∧ i = .int .i64 k ∧ OwnV wr w.heap.size v (sw (xss.take k)) ∧ Below w.heap.size w wr) (fun _ i _ => n - (intOf i).toNat)
  case atStart => exact ⟨0, Nat.zero_le _, rfl, OwnV.nil _ _, Below.refl _ _⟩
  case round =>
    obtain ⟨k, hk, rfl, hown, hbr⟩ := hrel
    by_cases hlt : k < n
    · obtain ⟨b, off, B, m, d, eA, _, hcell0, _, _⟩ := HL.out.at_ hlt
      have hin := (HL.out.inAt hlt eA hcell0).on hbr
      have hcell := (hbr.cell (p := ⟨b, off + k, none⟩) (block_lt hcell0)).trans hcell0
      subst eA
      obtain ⟨Av, cv, ev⟩ := hown.form
      subst ev
      have hsl : (sw (xss.take k)).length ≤ k := by have := sw_len (xss.take k); rw [List.length_take] at this; omega
      obtain ⟨fl, hfl⟩ : ∃ fl, fl = (sw (xss.take k)).length := ⟨_, rfl⟩
      have hcall := rwith wr w.heap.size Av B fl cv m d (sw (xss.take k)) (xss.getD k []) (by rw [hfl]; exact hown) (by rw [hfl]; exact hown.offAt hin) (sw_asc _) hbr.size (by omega) (sw_all_len fun x hx => LEN.out x (List.mem_of_mem_take hx))
      rw [← sw_take (by rw [L.out]; exact hlt)] at hcall
      rw [← hfl]
      have HC := Lib.hid hcall
      have HB := Lib.hid hbr
      clear hcall hown hin hbr hsl hcell0 hfl
      go_wp2_with fail
      refine HC.out.mono ?_
      rintro e w2 ⟨u, rfl, o2, b2⟩
      have O2 := Lib.hid o2
      have B2 := Lib.hid (HB.out.trans b2)
      clear o2 b2
      go_wp2
      go_roundw
      case rel => exact ⟨k + 1, by omega, by go_num, O2.out, B2.out⟩
      case measure => simp [intOf]; omega
    · obtain rfl : k = n := by omega
      have HO := Lib.hid hown
      clear hown
      go_wp2
      go_ret
      exact ⟨_, rfl, by have := HO.out; rw [← L.out, List.take_length] at this; exact this, hbr⟩

/-- At most W words, none with more than S symbols. -/
def Small (xss : List (List Int)) (W S : Nat) : Prop := xss.length ≤ W ∧ ∀ x, x ∈ xss → x.length ≤ S
instance (xss : List (List Int)) (W S : Nat) : Decidable (Small xss W S) := by unfold Small; exact inferInstance
set_option maxHeartbeats 1000000 in
theorem rgreatw (w : World) (A : Option Addr) (n c W S : Nat) (xss : List (List Int)) (b : Bool) (h : Lists w A n xss) (hb : b = !decide (Small xss W S)) (hW : W ≤ 1000000) :
    Calls Tryz.prog 4 #[.slice A n c, .int .i64 W, .int .i64 S] w fun e w' => e = .returned (.bool b) ∧ w = w' := by
  have XL := Lib.hid h.1
  have hn := h.2.1
  have HL0 := Lib.hid h
  have HB := Lib.hid hb
  clear h hb
  go_enter Tryz.func4, Tryz.ntmps4
  go_wp2
  go_loop [7] (fun i => ∃ k : Nat, k ≤ n ∧ i = .int .i64 k ∧ Hid (∀ j, j < k → (xss.getD j []).length ≤ S)) (fun i => n - (intOf i).toNat)
  case atStart => exact ⟨0, Nat.zero_le _, rfl, Lib.hid (fun j hj => absurd hj (by omega))⟩
  case round =>
    obtain ⟨k, hk, rfl, hall⟩ := hrel
    by_cases hlt : k < n
    · by_cases hkw : k ≤ W
      · obtain ⟨b1, off, Aj, nj, cj, rfl, _, hcell, hI⟩ := HL0.out.at_ hlt
        have JL := Lib.hid hI.1
        clear hI
        by_cases hs : S < nj
        · have F := Lib.hid (show b = true by
            rw [HB.out, Bool.not_eq_true', decide_eq_false_iff_not]
            rintro ⟨_, h2⟩
            have := h2 (xss.getD k []) (by rw [List.getD_eq_getElem?_getD, List.getElem?_eq_getElem (by rw [XL.out]; exact hlt)]; exact List.getElem_mem _)
            rw [JL.out] at this
            omega)
          go_wp2
          go_ret
          exact ⟨by rw [F.out]; rfl, rfl⟩
        · have H2 := Lib.hid (show ∀ j, j < k + 1 → (xss.getD j []).length ≤ S from fun j hj => by
            by_cases e : j = k
            · subst e; rw [JL.out]; omega
            · exact hall.out j (by omega))
          go_wp2
          go_round
          case rel => exact ⟨k + 1, by omega, by go_num, H2⟩
          case measure => simp [intOf]; omega
      · have F := Lib.hid (show b = true by
          rw [HB.out, Bool.not_eq_true', decide_eq_false_iff_not]
          rintro ⟨h1, _⟩
          rw [XL.out] at h1
          omega)
        have d1 : decide (W < n) = true := by simp; omega
        go_wp2
        go_ret
        exact ⟨by rw [F.out]; rfl, rfl⟩
    · obtain rfl : k = n := by omega
      have F := Lib.hid (show b = decide (W < k) by
        rw [HB.out]
        by_cases e : W < k
        · rw [decide_eq_true e, Bool.not_eq_true', decide_eq_false_iff_not]
          rintro ⟨h1, _⟩
          rw [XL.out] at h1
          omega
        · rw [decide_eq_false e, Bool.not_eq_false', decide_eq_true_eq]
          refine ⟨by rw [XL.out]; omega, fun x hx => ?_⟩
          obtain ⟨j, hj, rfl⟩ := List.getElem_of_mem hx
          have := hall.out j (by rw [← XL.out]; exact hj)
          rw [List.getD_eq_getElem?_getD, List.getElem?_eq_getElem hj] at this
          exact this)
      go_wp2
      go_ret
      exact ⟨by rw [F.out]; rfl, rfl⟩
end Go.Proofs.YtakhphhpjcpphaaGreatDoor
end

section
/- Plain: what the lists of prefixes, suffixes and maximal words depend on. -/
namespace Go.Proofs.YtakhphhpjcpphaaGreatDoor

theorem preS_same {l m : List (List Int)} (h : ∀ x, x ∈ l ↔ x ∈ m) : sw (preS l) = sw (preS m) := sw_same fun x => by
  rw [preS_mem, preS_mem]
  exact ⟨fun ⟨y, h1, h2⟩ => ⟨y, (h y).1 h1, h2⟩, fun ⟨y, h1, h2⟩ => ⟨y, (h y).2 h1, h2⟩⟩
theorem sufS_same {l m : List (List Int)} (h : ∀ x, x ∈ l ↔ x ∈ m) : sw (sufS l) = sw (sufS m) := sw_same fun x => by
  rw [sufS_mem, sufS_mem]
  exact ⟨fun ⟨y, h1, h2⟩ => ⟨y, (h y).1 h1, h2⟩, fun ⟨y, h1, h2⟩ => ⟨y, (h y).2 h1, h2⟩⟩
theorem maxS_same {l m : List (List Int)} (h : ∀ x, x ∈ l ↔ x ∈ m) : sw (maxS l) = sw (maxS m) := sw_same fun x => by
  rw [maxS_mem, maxS_mem]
  exact Mx.same h x
theorem pre_again (l : List (List Int)) : sw (preS (sw (preS l))) = sw (preS l) := sw_same fun x => by
  rw [preS_mem]
  constructor
  · rintro ⟨y, h1, h2⟩
    rw [sw_mem, preS_mem] at h1
    obtain ⟨z, h3, h4⟩ := h1
    rw [preS_mem]
    exact ⟨z, h3, h2.trans h4⟩
  · intro h
    exact ⟨x, (sw_mem _ x).2 h, List.prefix_refl x⟩
theorem suf_again (l : List (List Int)) : sw (sufS (sw (sufS l))) = sw (sufS l) := sw_same fun x => by
  rw [sufS_mem]
  constructor
  · rintro ⟨y, h1, h2⟩
    rw [sw_mem, sufS_mem] at h1
    obtain ⟨z, h3, h4⟩ := h1
    rw [sufS_mem]
    exact ⟨z, h3, h2.trans h4⟩
  · intro h
    exact ⟨x, (sw_mem _ x).2 h, List.suffix_refl x⟩
theorem max_again (l : List (List Int)) : sw (maxS (sw (maxS l))) = sw (maxS l) := sw_same fun x => by
  rw [maxS_mem]
  constructor
  · rintro ⟨h, _⟩
    exact (sw_mem _ x).1 h
  · intro h
    refine ⟨(sw_mem _ x).2 h, fun y hy hp => ?_⟩
    rw [sw_mem, maxS_mem] at hy
    rw [maxS_mem] at h
    exact h.2 y hy.1 hp
/-- Every word is a prefix of a maximal one. -/
theorem max_over {l : List (List Int)} {L : Nat} (hL : ∀ x, x ∈ l → x.length ≤ L) : ∀ (n : Nat) (y : List Int), y ∈ l → L - y.length ≤ n → ∃ z, Mx l z ∧ y <+: z := by
  intro n
  induction n with
  | zero =>
    intro y hy hn
    refine ⟨y, ⟨hy, fun z hz hp => ?_⟩, List.prefix_refl y⟩
    have h1 := hL z hz
    have h2 := hp.length_le
    exact hp.eq_of_length (by omega)
  | succ n ih =>
    intro y hy hn
    by_cases h : Mx l y
    · exact ⟨y, h, List.prefix_refl y⟩
    · have : ∃ z, z ∈ l ∧ y <+: z ∧ y ≠ z := by
        refine Classical.byContradiction fun k => h ⟨hy, fun z hz hp => ?_⟩
        exact Classical.byContradiction fun e => k ⟨z, hz, hp, e⟩
      obtain ⟨z, hz, hp, hne⟩ := this
      have h2 := hp.length_le
      have h3 : y.length ≠ z.length := fun e => hne (hp.eq_of_length e)
      have h4 := hL z hz
      obtain ⟨u, hu, hzu⟩ := ih z hz (by omega)
      exact ⟨u, hu, hp.trans hzu⟩
theorem pre_max {l : List (List Int)} {L : Nat} (hL : ∀ x, x ∈ l → x.length ≤ L) : sw (preS (sw (maxS l))) = sw (preS l) := sw_same fun x => by
  rw [preS_mem, preS_mem]
  constructor
  · rintro ⟨y, h1, h2⟩
    rw [sw_mem, maxS_mem] at h1
    exact ⟨y, h1.1, h2⟩
  · rintro ⟨y, h1, h2⟩
    obtain ⟨z, hz, hp⟩ := max_over hL L y h1 (Nat.sub_le _ _)
    exact ⟨z, by rw [sw_mem, maxS_mem]; exact hz, h2.trans hp⟩
theorem max_pre (l : List (List Int)) : sw (maxS (sw (preS l))) = sw (maxS l) := sw_same fun x => by
  have hs : ∀ y, y ∈ sw (preS l) ↔ ∃ z, z ∈ l ∧ y <+: z := fun y => by rw [sw_mem, preS_mem]
  rw [maxS_mem, maxS_mem]
  constructor
  · rintro ⟨h1, h2⟩
    obtain ⟨y, hy, hp⟩ := (hs x).1 h1
    have e := h2 y ((hs y).2 ⟨y, hy, List.prefix_refl y⟩) hp
    subst e
    exact ⟨hy, fun z hz hp => h2 z ((hs z).2 ⟨z, hz, List.prefix_refl z⟩) hp⟩
  · rintro ⟨h1, h2⟩
    refine ⟨(hs x).2 ⟨x, h1, List.prefix_refl x⟩, fun y hy hp => ?_⟩
    obtain ⟨z, hz, hq⟩ := (hs y).1 hy
    have e := h2 z hz (hp.trans hq)
    subst e
    exact hp.eq_of_length (Nat.le_antisymm hp.length_le hq.length_le)

theorem flatM_len {f : List Int → List (List Int)} {M : Nat} {l : List (List Int)} (h : ∀ x, x ∈ l → (f x).length ≤ M) : (l.flatMap f).length ≤ l.length * M := by
  induction l with
  | nil => simp
  | cons x l ih =>
    have h1 := ih fun y hy => h y (List.mem_cons_of_mem _ hy)
    have h2 := h x List.mem_cons_self
    rw [List.flatMap_cons, List.length_append, List.length_cons, Nat.succ_mul]
    omega
theorem preS_len {l : List (List Int)} {L : Nat} (hL : ∀ x, x ∈ l → x.length ≤ L) : (preS l).length ≤ l.length * (L + 1) := flatM_len fun x hx => by have := hL x hx; simp; omega
theorem sufS_len {l : List (List Int)} {L : Nat} (hL : ∀ x, x ∈ l → x.length ≤ L) : (sufS l).length ≤ l.length * (L + 1) := flatM_len fun x hx => by have := hL x hx; simp; omega
theorem maxS_len (l : List (List Int)) : (maxS l).length ≤ l.length := List.length_filter_le _ _
theorem preS_small {l : List (List Int)} {L : Nat} (hL : ∀ x, x ∈ l → x.length ≤ L) : ∀ x, x ∈ sw (preS l) → x.length ≤ L := fun x hx => by
  rw [sw_mem, preS_mem] at hx
  obtain ⟨y, hy, hp⟩ := hx
  exact Nat.le_trans hp.length_le (hL y hy)
theorem sufS_small {l : List (List Int)} {L : Nat} (hL : ∀ x, x ∈ l → x.length ≤ L) : ∀ x, x ∈ sw (sufS l) → x.length ≤ L := fun x hx => by
  rw [sw_mem, sufS_mem] at hx
  obtain ⟨y, hy, hp⟩ := hx
  exact Nat.le_trans hp.length_le (hL y hy)
theorem maxS_small {l : List (List Int)} {L : Nat} (hL : ∀ x, x ∈ l → x.length ≤ L) : ∀ x, x ∈ sw (maxS l) → x.length ≤ L := fun x hx => by
  rw [sw_mem, maxS_mem] at hx
  exact hL x hx.1
theorem sw_small {l : List (List Int)} {L : Nat} (hL : ∀ x, x ∈ l → x.length ≤ L) : ∀ x, x ∈ sw l → x.length ≤ L := fun x hx => hL x ((sw_mem _ x).1 hx)
end Go.Proofs.YtakhphhpjcpphaaGreatDoor
end

section
/- Plain: lists of cut words, step by step; the words with no longer word behind them. -/
namespace Go.Proofs.YtakhphhpjcpphaaGreatDoor

/-- The cut words of the first i words. -/
def fxU (f : List Int → Nat → List Int) (l : List (List Int)) (i : Nat) : List (List Int) := (l.take i).flatMap fun w => (List.range (w.length + 1)).map (f w)
/-- And k of the next. -/
def fxV (f : List Int → Nat → List Int) (l : List (List Int)) (i k : Nat) : List (List Int) := fxU f l i ++ (List.range k).map (f (l.getD i []))
theorem fxU_zero (f : List Int → Nat → List Int) (l : List (List Int)) : fxU f l 0 = [] := rfl
theorem fxV_zero (f : List Int → Nat → List Int) (l : List (List Int)) (i : Nat) : fxV f l i 0 = fxU f l i := by simp [fxV]
theorem fxV_succ (f : List Int → Nat → List Int) (l : List (List Int)) (i k : Nat) : fxV f l i (k + 1) = fxV f l i k ++ [f (l.getD i []) k] := by
  unfold fxV
  rw [List.range_succ, List.map_append, List.append_assoc]
  rfl
theorem fxU_succ {f : List Int → Nat → List Int} {l : List (List Int)} {i : Nat} (h : i < l.length) : fxU f l (i + 1) = fxV f l i ((l.getD i []).length + 1) := by
  unfold fxU fxV
  rw [List.take_succ_eq_append_getElem h, List.flatMap_append, List.getD_eq_getElem?_getD, List.getElem?_eq_getElem h]
  simp [fxU]
theorem fxU_pre (l : List (List Int)) : fxU (fun w n => w.take n) l l.length = preS l := by unfold fxU preS; rw [List.take_length]
theorem fxU_suf (l : List (List Int)) : fxU (fun w n => w.drop n) l l.length = sufS l := by unfold fxU sufS; rw [List.take_length]
theorem fxU_len {f : List Int → Nat → List Int} {l : List (List Int)} {L : Nat} (hL : ∀ x, x ∈ l → x.length ≤ L) (i : Nat) (hi : i ≤ l.length) : (fxU f l i).length ≤ i * (L + 1) := by
  have := flatM_len (f := fun w => (List.range (w.length + 1)).map (f w)) (M := L + 1) (l := l.take i) fun x hx => by have := hL x (List.mem_of_mem_take hx); simp; omega
  rw [List.length_take, Nat.min_eq_left hi] at this
  exact this
theorem fxV_len {f : List Int → Nat → List Int} {l : List (List Int)} {L : Nat} (hL : ∀ x, x ∈ l → x.length ≤ L) (i k : Nat) (hi : i ≤ l.length) : (fxV f l i k).length ≤ i * (L + 1) + k := by
  have := fxU_len (f := f) hL i hi
  unfold fxV
  rw [List.length_append, List.length_map, List.length_range]
  omega
theorem fxV_words {f : List Int → Nat → List Int} {l : List (List Int)} {L : Nat} (hf : ∀ w n, (f w n).length ≤ w.length) (hL : ∀ x, x ∈ l → x.length ≤ L) (i k : Nat) (hi : i < l.length) : ∀ x, x ∈ fxV f l i k → x.length ≤ L := fun x hx => by
  unfold fxV fxU at hx
  rcases List.mem_append.1 hx with hx | hx
  · obtain ⟨w, hw, hx⟩ := List.mem_flatMap.1 hx
    obtain ⟨n, _, rfl⟩ := List.mem_map.1 hx
    exact Nat.le_trans (hf w n) (hL w (List.mem_of_mem_take hw))
  · obtain ⟨n, _, rfl⟩ := List.mem_map.1 hx
    refine Nat.le_trans (hf _ n) (hL _ ?_)
    rw [List.getD_eq_getElem?_getD, List.getElem?_eq_getElem hi]
    exact List.getElem_mem _

/-- Whether no longer word among the words from k on to t begins with word k. -/
def topT (ws : List (List Int)) (k t : Nat) : Bool :=
  (List.range t).all fun j => decide (j ≤ k) || (decide ((ws.getD j []).length = (ws.getD k []).length) || !decide (cmn (ws.getD j []) (ws.getD k []) = (ws.getD k []).length))
theorem topT_first (ws : List (List Int)) (k : Nat) : topT ws k (k + 1) = true := by
  unfold topT
  rw [List.all_eq_true]
  intro j hj
  have := List.mem_range.1 hj
  rw [decide_eq_true (show j ≤ k by omega)]
  rfl
theorem topT_succ {ws : List (List Int)} {k t : Nat} (h : k < t) : topT ws k (t + 1) = (topT ws k t && (decide ((ws.getD t []).length = (ws.getD k []).length) || !decide (cmn (ws.getD t []) (ws.getD k []) = (ws.getD k []).length))) := by
  unfold topT
  rw [List.range_succ, List.all_append]
  simp only [List.all_cons, List.all_nil, Bool.and_true]
  rw [decide_eq_false (show ¬ t ≤ k by omega)]
  rfl
theorem topT_iff {ws : List (List Int)} {k t : Nat} : topT ws k t = true ↔ ∀ j, j < t → k < j → (ws.getD j []).length = (ws.getD k []).length ∨ ¬ cmn (ws.getD j []) (ws.getD k []) = (ws.getD k []).length := by
  unfold topT
  rw [List.all_eq_true]
  constructor
  · intro h j hj hk
    have := h j (List.mem_range.2 hj)
    simp at this
    rcases this with h1 | h1 | h1
    · omega
    · exact .inl h1
    · exact .inr h1
  · intro h j hj
    have hj := List.mem_range.1 hj
    by_cases hk : j ≤ k
    · simp [hk]
    · rcases h j hj (by omega) with h1 | h1
      · rw [decide_eq_true h1]; simp
      · rw [decide_eq_false h1]; simp
/-- The words that stay, of the first k. -/
def tpU (ws : List (List Int)) : Nat → List (List Int)
  | 0 => []
  | k + 1 => if topT ws k ws.length = true then tpU ws k ++ [ws.getD k []] else tpU ws k
theorem tpU_mem {ws : List (List Int)} (i : Nat) (x : List Int) : x ∈ tpU ws i ↔ ∃ j, j < i ∧ x = ws.getD j [] ∧ topT ws j ws.length = true := by
  induction i with
  | zero => simp [tpU]
  | succ i ih =>
    unfold tpU
    split
    · rename_i h
      rw [List.mem_append, ih, List.mem_singleton]
      constructor
      · rintro (⟨j, hj, h1⟩ | rfl)
        · exact ⟨j, by omega, h1⟩
        · exact ⟨i, by omega, rfl, h⟩
      · rintro ⟨j, hj, h1, h2⟩
        by_cases e : j = i
        · subst e; exact .inr h1
        · exact .inl ⟨j, by omega, h1, h2⟩
    · rename_i h
      rw [ih]
      constructor
      · rintro ⟨j, hj, h1⟩
        exact ⟨j, by omega, h1⟩
      · rintro ⟨j, hj, h1, h2⟩
        by_cases e : j = i
        · subst e; exact absurd h2 h
        · exact ⟨j, by omega, h1, h2⟩
theorem tpU_sub (ws : List (List Int)) (i : Nat) (hi : i ≤ ws.length) : (tpU ws i).Sublist (ws.take i) := by
  induction i with
  | zero => simp [tpU]
  | succ i ih =>
    have h := ih (by omega)
    rw [List.take_succ_eq_append_getElem (by omega)]
    unfold tpU
    split
    · rw [List.getD_eq_getElem?_getD, List.getElem?_eq_getElem (show i < ws.length by omega)]
      exact h.append (List.Sublist.refl _)
    · exact h.trans (List.sublist_append_left _ _)
theorem shlex_len {x y : List Int} (h : shlex x y < 0) : x.length ≤ y.length := by
  unfold shlex at h
  split at h
  · omega
  · split at h
    · omega
    · omega
theorem topT_Mx {ws : List (List Int)} (ha : AscW ws) {j : Nat} (hj : j < ws.length) : topT ws j ws.length = true ↔ Mx ws (ws.getD j []) := by
  have hm : ∀ i, i < ws.length → ws.getD i [] ∈ ws := fun i hi => by rw [List.getD_eq_getElem?_getD, List.getElem?_eq_getElem hi]; exact List.getElem_mem _
  rw [topT_iff]
  constructor
  · intro h
    refine ⟨hm j hj, fun y hy hp => ?_⟩
    obtain ⟨i, hi, rfl⟩ := List.mem_iff_getElem.1 hy
    have e : ws.getD i [] = ws[i] := by rw [List.getD_eq_getElem?_getD, List.getElem?_eq_getElem hi]; rfl
    rw [← e] at hp ⊢
    rcases Nat.lt_trichotomy i j with hij | hij | hij
    · have h1 := ha.at_ hij hj
      have h2 := shlex_len h1
      exact hp.eq_of_length (Nat.le_antisymm hp.length_le h2)
    · subst hij; rfl
    · rcases h i hi hij with h1 | h1
      · exact hp.eq_of_length h1.symm
      · exact absurd (pre_cmn'.1 hp) h1
  · rintro ⟨_, h⟩ i hi hij
    by_cases hc : cmn (ws.getD i []) (ws.getD j []) = (ws.getD j []).length
    · left
      rw [h _ (hm i hi) (pre_cmn'.2 hc)]
    · exact .inr hc
theorem tpU_all (xss : List (List Int)) : tpU (sw xss) (sw xss).length = sw (maxS xss) := by
  refine sw_eq ?_ fun x => ?_
  · have := tpU_sub (sw xss) (sw xss).length (Nat.le_refl _)
    rw [List.take_length] at this
    exact List.Pairwise.sublist this (sw_asc xss)
  · rw [tpU_mem, maxS_mem]
    constructor
    · rintro ⟨j, hj, rfl, ht⟩
      have := (topT_Mx (sw_asc xss) hj).1 ht
      exact (Mx.same (sw_mem xss) _).1 this
    · intro h
      have h2 := (Mx.same (sw_mem xss) x).2 h
      obtain ⟨j, hj, rfl⟩ := List.mem_iff_getElem.1 h2.1
      have e : (sw xss).getD j [] = (sw xss)[j] := by rw [List.getD_eq_getElem?_getD, List.getElem?_eq_getElem hj]; rfl
      refine ⟨j, hj, e.symm, (topT_Mx (sw_asc xss) hj).2 ?_⟩
      rw [e]
      exact h2
end Go.Proofs.YtakhphhpjcpphaaGreatDoor
end

section
/- The reference: Has, Prefixes, Suffixes. -/
namespace Go.Proofs.YtakhphhpjcpphaaGreatDoor
open Go.RowKit Go.Shelf

set_option maxHeartbeats 1000000 in
theorem rhas (w : World) (A B : Option Addr) (n c m d : Nat) (xss : List (List Int)) (ys : List Int) (b : Bool) (h : Lists w A n xss) (hy : Ints w B m ys) (hb : b = decide (ys ∈ xss)) :
    Calls Tryz.prog 12 #[.slice A n c, .slice B m d] w fun e w' => e = .returned (.bool b) ∧ ∃ q, w' = w.drewN q := by
  have L := Lib.hid h.1
  have HL := Lib.hid h
  have HY := Lib.hid hy
  have HB := Lib.hid hb
  have hn := h.2.1
  clear h hy hb
  go_enter Tryz.func12, Tryz.ntmps12
  go_wp2
  go_loopw [5] (fun i wr => ∃ k : Nat, k ≤ n ∧ i = .int .i64 k ∧ Hid (ys ∉ xss.take k) ∧ ∃ q, wr = w.drewN q) (fun i _ => n - (intOf i).toNat)
  case atStart => exact ⟨0, Nat.zero_le _, rfl, Lib.hid (by simp), 0, rfl⟩
  case round =>
    obtain ⟨k, hk, rfl, hno, hw⟩ := hrel
    by_cases hlt : k < n
    · have hL : Lists wr A n xss := by obtain ⟨q, rfl⟩ := hw; exact HL.out
      have hY : Ints wr B m ys := by obtain ⟨q, rfl⟩ := hw; exact HY.out
      obtain ⟨b1, off, Aj, nj, cj, rfl, _, hcell, hj⟩ := hL.at_ hlt
      have HW := Lib.hid hw
      clear hw hL
      by_cases he : xss.getD k [] = ys
      · have G := Lib.hid (rsameD Aj B nj cj m d (xss.getD k []) ys true wr hj hY (decide_eq_true he).symm)
        have F := Lib.hid (show b = true by
          rw [HB.out, ← he]
          refine decide_eq_true ?_
          rw [List.getD_eq_getElem?_getD, List.getElem?_eq_getElem (by rw [L.out]; exact hlt)]
          exact List.getElem_mem _)
        clear hj hY he
        go_wp2_with fail
        refine G.out.mono ?_
        rintro e w' ⟨rfl, hq⟩
        have HQ := Lib.hid hq
        clear hq
        go_wp2
        go_ret
        refine ⟨by rw [F.out]; rfl, ?_⟩
        obtain ⟨q1, e1⟩ := HW.out
        obtain ⟨q2, e2⟩ := HQ.out
        subst e1 e2
        exact drew_more ⟨q1, rfl⟩ q2
      · have G := Lib.hid (rsameD Aj B nj cj m d (xss.getD k []) ys false wr hj hY (decide_eq_false he).symm)
        have N := Lib.hid (has_snoc (by rw [L.out]; exact hlt) hno.out he)
        clear hj hY he
        go_wp2_with fail
        refine G.out.mono ?_
        rintro e w' ⟨rfl, q, rfl⟩
        go_wp2
        go_roundw
        case rel => exact ⟨k + 1, by omega, by go_num, N, drew_more HW.out q⟩
        case measure => simp [intOf]; omega
    · obtain rfl : k = n := by omega
      have F := Lib.hid (show b = false by
        rw [HB.out]
        refine decide_eq_false ?_
        have := hno.out
        rw [← L.out, List.take_length] at this
        exact this)
      have HW := Lib.hid hw
      clear hw
      go_wp2
      go_ret
      exact ⟨by rw [F.out]; rfl, HW.out⟩

/-- Where the rest of a slice begins. -/
def rstw (A : Option Addr) (c p : Nat) : Option Addr := if c = p then A else A.map (·.add p)
theorem run_rstw (A : Option Addr) (n c p : Nat) (hp : p ≤ n) (w : World) : (Instr.slice 23 (.slice A n c) (some (.int .i64 p)) none none).run Tryz.prog w = .ok (.slice (rstw A c p) (n - p) (c - p)) w := by
  obtain ⟨i, hi, hz0, hz1, hz2⟩ := info_parts info3
  have he : Tryz.prog.elem 23 = 3 := by kernel_rfl
  rw [run_slice_l (P := Tryz.prog) w 23 A n c (by rw [he]; exact Tryz.underlying23) .i64 p (by omega) (by omega), he]
  simp [sizeOf, typeInfo, hi, sliced, hz1, rstw]
theorem InAt.rest {w : World} {top : Nat} {A : Option Addr} {n c p : Nat} {xs : List Int} (h : InAt w top (.slice A n c, xs)) (hp : p ≤ n) : InAt w top (.slice (rstw A c p) (n - p) (c - p), xs.drop p) := by
  obtain ⟨A', n', c', e, hi, hc, ht⟩ := h
  cases e
  by_cases hcp : c = p
  · have h0 : n - p = 0 := by omega
    refine ⟨_, _, _, rfl, ?_, by omega, fun a _ h1 => absurd h1 (by omega)⟩
    refine ⟨by rw [List.length_drop, hi.1], by omega, fun h1 => absurd h1 (by omega)⟩
  · refine ⟨_, _, _, rfl, ⟨by rw [List.length_drop, hi.1], by have := hi.2.1; omega, fun h0 => ?_⟩, by omega, fun a ha h0 => ?_⟩
    · obtain ⟨b, off, e, hlt, hcell⟩ := hi.2.2 (by omega)
      unfold rstw
      rw [if_neg hcp, e]
      refine ⟨b, off + p, by simp [Addr.add], hlt, fun j hj => ?_⟩
      have := hcell (p + j) (by omega)
      rw [show off + p + j = off + (p + j) by omega, this]
      simp [List.getD]
    · obtain ⟨b, off, e, hlt, hcell⟩ := hi.2.2 (by omega)
      unfold rstw at ha
      rw [if_neg hcp, e] at ha
      simp [Addr.add] at ha
      subst ha
      have h1 := ht _ e (by omega)
      split <;> exact h1
theorem InAt.first {w : World} {top : Nat} {A : Option Addr} {n c p : Nat} {xs : List Int} (h : InAt w top (.slice A n c, xs)) (hp : p ≤ n) : InAt w top (.slice A p c, xs.take p) := by
  obtain ⟨A', n', c', e, hi, hc, ht⟩ := h
  cases e
  have hi : Ints w A n xs := hi
  exact ⟨_, _, _, rfl, hi.take hp, by omega, fun a ha h0 => ht a ha (by omega)⟩

set_option maxHeartbeats 2000000 in
theorem rprefixes (w : World) (A : Option Addr) (n c L : Nat) (xss : List (List Int)) (h : ListsC w A n xss) (hL : ∀ x, x ∈ xss → x.length ≤ L) (hn : n ≤ 1000) (hL2 : L ≤ 1000) :
    Calls Tryz.prog 14 #[.slice A n c] w fun e w' => ∃ v, e = .returned v ∧ OwnV w' w.heap.size v (sw (preS xss)) ∧ Below w.heap.size w w' := by
  have LL := Lib.hid h.1
  have HA := Lib.hid h
  have SL := Lib.hid hL
  obtain ⟨f, hf⟩ : ∃ f : List Int → Nat → List Int, f = (fun w n => w.take n) := ⟨_, rfl⟩
  have FE := Lib.hid hf
  have FS := Lib.hid (show ∀ w n, (f w n).length ≤ w.length from fun w n => by rw [hf]; simp; try omega)
  clear h hL hf
  go_enter Tryz.func14, Tryz.ntmps14
  go_wp2
  go_loopw [3, 4] (fun v i wr => ∃ k : Nat, k ≤ n ∧ i = .int .i64 k ∧ OwnV wr w.heap.size v (sw (fxU f xss k)) ∧ Below w.heap.size w wr) (fun _ i _ => n - (intOf i).toNat)
  case atStart => exact ⟨0, Nat.zero_le _, rfl, OwnV.nil _ _, Below.refl _ _⟩
  case round =>
    obtain ⟨k, hk, rfl, hown, hbr⟩ := hrel
    by_cases hlt : k < n
    · obtain ⟨b, off, B, mm, d, eA, hlb, hc1, hmd, hI⟩ := HA.out.at_ hlt
      have IK := Lib.hid (HA.out.inAt hlt eA hc1)
      subst eA
      have ML := Lib.hid hI.1
      have hm := SL.out (xss.getD k []) (by rw [List.getD_eq_getElem?_getD, List.getElem?_eq_getElem (by rw [LL.out]; exact hlt)]; exact List.getElem_mem _)
      rw [hI.1] at hm
      have HO := Lib.hid hown
      have HBr := Lib.hid hbr
      clear hI hown hbr
      go_wp2
      obtain ⟨wo, hwo⟩ : ∃ wo : World, wo = wr := ⟨_, rfl⟩
      rw [← hwo] at HO HBr ⊢
      clear hwo
      go_loopw [3, 5] (fun v i wr => ∃ t : Nat, t ≤ mm + 1 ∧ i = .int .i64 t ∧ OwnV wr w.heap.size v (sw (fxV f xss k t)) ∧ Below w.heap.size w wr) (fun _ i _ => mm + 1 - (intOf i).toNat)
      case atStart => exact ⟨0, Nat.zero_le _, rfl, by rw [fxV_zero]; exact HO.out, HBr.out⟩
      case round =>
        obtain ⟨t, ht, rfl, hown, hbr⟩ := hrel
        have hcell := (hbr.cell (p := ⟨b, off + k, none⟩) hlb).trans hc1
        by_cases hlt2 : t ≤ mm
        · have hin := (IK.out.on hbr).first (p := t) hlt2
          obtain ⟨Av, cv, ev⟩ := hown.form
          subst ev
          have hfl1 := fxV_len (f := f) SL.out k t (by rw [LL.out]; exact hk)
          have hfl2 := sw_len (fxV f xss k t)
          have hfl3 : k * (L + 1) ≤ 1000 * 1001 := Nat.mul_le_mul (by omega) (by omega)
          have hcall := rwith wr w.heap.size Av B (sw (fxV f xss k t)).length cv t d (sw (fxV f xss k t)) ((xss.getD k []).take t) hown (hown.offAt hin) (sw_asc _) hbr.size (by omega) (fun x hx => by
            rw [sw_mem] at hx
            have := fxV_words FS.out SL.out k t (by rw [LL.out]; exact hlt) x hx
            omega)
          rw [← sw_snoc, show fxV f xss k t ++ [(xss.getD k []).take t] = fxV f xss k (t + 1) by rw [fxV_succ, FE.out]] at hcall
          obtain ⟨fl, hfl⟩ : ∃ fl, fl = (sw (fxV f xss k t)).length := ⟨_, rfl⟩
          rw [← hfl] at hcall ⊢
          have hsl := fun W => run_slice_to W B mm d t (by omega)
          have HC := Lib.hid hcall
          have HB2 := Lib.hid hbr
          clear hcall hown hin hbr hfl hfl1 hfl2 hfl3
          go_wp2_with fail
          refine HC.out.mono ?_
          rintro e w2 ⟨u, rfl, o2, b2⟩
          have O2 := Lib.hid o2
          have B2 := Lib.hid (HB2.out.trans b2)
          clear o2 b2
          go_wp2
          go_roundw
          case rel => exact ⟨t + 1, by omega, by go_num, O2.out, B2.out⟩
          case measure => simp [intOf]; omega
        · obtain rfl : t = mm + 1 := by omega
          have O2 := Lib.hid hown
          have B2 := Lib.hid hbr
          clear hown hbr
          go_wp2
          go_roundw
          case rel => exact ⟨k + 1, by omega, by go_num, by rw [fxU_succ (by rw [LL.out]; exact hlt), ML.out]; exact O2.out, B2.out⟩
          case measure => simp [intOf]; omega
    · obtain rfl : k = n := by omega
      have HO := Lib.hid hown
      clear hown
      go_wp2
      go_ret
      exact ⟨_, rfl, by have := HO.out; rw [← LL.out, FE.out, fxU_pre] at this; exact this, hbr⟩

set_option maxHeartbeats 2000000 in
theorem rsuffixes (w : World) (A : Option Addr) (n c L : Nat) (xss : List (List Int)) (h : ListsC w A n xss) (hL : ∀ x, x ∈ xss → x.length ≤ L) (hn : n ≤ 1000) (hL2 : L ≤ 1000) :
    Calls Tryz.prog 16 #[.slice A n c] w fun e w' => ∃ v, e = .returned v ∧ OwnV w' w.heap.size v (sw (sufS xss)) ∧ Below w.heap.size w w' := by
  have LL := Lib.hid h.1
  have HA := Lib.hid h
  have SL := Lib.hid hL
  obtain ⟨f, hf⟩ : ∃ f : List Int → Nat → List Int, f = (fun w n => w.drop n) := ⟨_, rfl⟩
  have FE := Lib.hid hf
  have FS := Lib.hid (show ∀ w n, (f w n).length ≤ w.length from fun w n => by rw [hf]; simp; try omega)
  clear h hL hf
  go_enter Tryz.func16, Tryz.ntmps16
  go_wp2
  go_loopw [3, 4] (fun v i wr => ∃ k : Nat, k ≤ n ∧ i = .int .i64 k ∧ OwnV wr w.heap.size v (sw (fxU f xss k)) ∧ Below w.heap.size w wr) (fun _ i _ => n - (intOf i).toNat)
  case atStart => exact ⟨0, Nat.zero_le _, rfl, OwnV.nil _ _, Below.refl _ _⟩
  case round =>
    obtain ⟨k, hk, rfl, hown, hbr⟩ := hrel
    by_cases hlt : k < n
    · obtain ⟨b, off, B, mm, d, eA, hlb, hc1, hmd, hI⟩ := HA.out.at_ hlt
      have IK := Lib.hid (HA.out.inAt hlt eA hc1)
      subst eA
      have ML := Lib.hid hI.1
      have hm := SL.out (xss.getD k []) (by rw [List.getD_eq_getElem?_getD, List.getElem?_eq_getElem (by rw [LL.out]; exact hlt)]; exact List.getElem_mem _)
      rw [hI.1] at hm
      have HO := Lib.hid hown
      have HBr := Lib.hid hbr
      clear hI hown hbr
      go_wp2
      obtain ⟨wo, hwo⟩ : ∃ wo : World, wo = wr := ⟨_, rfl⟩
      rw [← hwo] at HO HBr ⊢
      clear hwo
      go_loopw [3, 5] (fun v i wr => ∃ t : Nat, t ≤ mm + 1 ∧ i = .int .i64 t ∧ OwnV wr w.heap.size v (sw (fxV f xss k t)) ∧ Below w.heap.size w wr) (fun _ i _ => mm + 1 - (intOf i).toNat)
      case atStart => exact ⟨0, Nat.zero_le _, rfl, by rw [fxV_zero]; exact HO.out, HBr.out⟩
      case round =>
        obtain ⟨t, ht, rfl, hown, hbr⟩ := hrel
        have hcell := (hbr.cell (p := ⟨b, off + k, none⟩) hlb).trans hc1
        by_cases hlt2 : t ≤ mm
        · have hin := (IK.out.on hbr).rest (p := t) hlt2
          obtain ⟨Av, cv, ev⟩ := hown.form
          subst ev
          have hfl1 := fxV_len (f := f) SL.out k t (by rw [LL.out]; exact hk)
          have hfl2 := sw_len (fxV f xss k t)
          have hfl3 : k * (L + 1) ≤ 1000 * 1001 := Nat.mul_le_mul (by omega) (by omega)
          have hcall := rwith wr w.heap.size Av (rstw B d t) (sw (fxV f xss k t)).length cv (mm - t) (d - t) (sw (fxV f xss k t)) ((xss.getD k []).drop t) hown (hown.offAt hin) (sw_asc _) hbr.size (by omega) (fun x hx => by
            rw [sw_mem] at hx
            have := fxV_words FS.out SL.out k t (by rw [LL.out]; exact hlt) x hx
            omega)
          rw [← sw_snoc, show fxV f xss k t ++ [(xss.getD k []).drop t] = fxV f xss k (t + 1) by rw [fxV_succ, FE.out]] at hcall
          obtain ⟨fl, hfl⟩ : ∃ fl, fl = (sw (fxV f xss k t)).length := ⟨_, rfl⟩
          rw [← hfl] at hcall ⊢
          have hsl := fun W => run_rstw B mm d t (by omega) W
          have HC := Lib.hid hcall
          have HB2 := Lib.hid hbr
          clear hcall hown hin hbr hfl hfl1 hfl2 hfl3
          go_wp2_with fail
          refine HC.out.mono ?_
          rintro e w2 ⟨u, rfl, o2, b2⟩
          have O2 := Lib.hid o2
          have B2 := Lib.hid (HB2.out.trans b2)
          clear o2 b2
          go_wp2
          go_roundw
          case rel => exact ⟨t + 1, by omega, by go_num, O2.out, B2.out⟩
          case measure => simp [intOf]; omega
        · obtain rfl : t = mm + 1 := by omega
          have O2 := Lib.hid hown
          have B2 := Lib.hid hbr
          clear hown hbr
          go_wp2
          go_roundw
          case rel => exact ⟨k + 1, by omega, by go_num, by rw [fxU_succ (by rw [LL.out]; exact hlt), ML.out]; exact O2.out, B2.out⟩
          case measure => simp [intOf]; omega
    · obtain rfl : k = n := by omega
      have HO := Lib.hid hown
      clear hown
      go_wp2
      go_ret
      exact ⟨_, rfl, by have := HO.out; rw [← LL.out, FE.out, fxU_suf] at this; exact this, hbr⟩
end Go.Proofs.YtakhphhpjcpphaaGreatDoor
end

section
/- The reference: Maximal, Size. -/
namespace Go.Proofs.YtakhphhpjcpphaaGreatDoor
open Go.RowKit Go.Shelf

theorem rhasprefix (A B : Option Addr) (n c m d : Nat) (xs ys : List Int) (w : World) (hx : Ints w A n xs) (hy : Ints w B m ys) :
    Calls Tryz.prog 34 #[.slice A n c, .slice B m d] w fun e w' => e = .returned (.bool (decide (cmn xs ys = ys.length))) ∧ ∃ q, w' = w.drewN q := by
  have L2 := Lib.hid hy.1
  have hq : ((cmn xs ys : Int) == (m : Int)) = decide (cmn xs ys = ys.length) := by rw [L2.out, Bool.eq_iff_iff]; simp; omega
  have HQ := Lib.hid hq
  clear hq
  go_enter Tryz.func34, Tryz.ntmps34
  go_wp2_with (go_at_call 42; refine (rcommon _ _ _ _ _ _ xs ys _ hx hy).mono ?_; rintro e w' ⟨rfl, q, rfl⟩)
  go_ret
  exact ⟨by rw [HQ.out]; rfl, _, rfl⟩

set_option maxHeartbeats 4000000 in
set_option maxRecDepth 100000 in
theorem rmaximal (w : World) (A : Option Addr) (n c : Nat) (xss : List (List Int)) (h : ListsC w A n xss) (hn : n ≤ 1000) :
    Calls Tryz.prog 18 #[.slice A n c] w fun e w' => ∃ A' c', e = .returned (.slice A' (sw (maxS xss)).length c') ∧ ListsC w' A' (sw (maxS xss)).length (sw (maxS xss)) ∧ Below w.heap.size w w' := by
  have HA := Lib.hid h
  have XL := Lib.hid h.1
  have XN := Lib.hid h.len
  clear h
  go_enter Tryz.func18, Tryz.ntmps18
  go_wp2_with fail
  refine (rsorted w A n c xss HA.out (by omega)).mono ?_
  rintro e w1 ⟨v1, rfl, o1, b1⟩
  obtain ⟨A1, c1, e1⟩ := o1.form
  subst e1
  obtain ⟨ws, hws⟩ : ∃ ws, ws = sw xss := ⟨_, rfl⟩
  have hl := sw_len xss
  rw [XL.out] at hl
  have l1 := o1.lists (by omega) (sw_all_len XN.out)
  obtain ⟨m, hm⟩ : ∃ m, m = (sw xss).length := ⟨_, rfl⟩
  rw [← hm] at l1 hl ⊢
  rw [← hws] at l1
  have L1 := Lib.hid l1
  have WL := Lib.hid l1.1
  have B1 := Lib.hid b1
  have WS := Lib.hid hws
  clear o1 b1 l1 hm hws
  go_wp2
  go_loopw [4, 5] (fun v i wr => ∃ (k : Nat) (fs : List HL), k ≤ m ∧ i = .int .i64 k ∧ HRow wr w1.heap.size v fs ∧ Hid (∀ f, f ∈ fs → InAt w1 w1.heap.size f) ∧ Hid (fs.map Prod.snd = tpU ws k) ∧ Below w1.heap.size w1 wr) (fun _ i _ => m - (intOf i).toNat)
  case atStart => exact ⟨0, [], Nat.zero_le _, rfl, HRow.nil _ _, Lib.hid (fun f hf => absurd hf (by simp)), Lib.hid rfl, Below.refl _ _⟩
  case round =>
    obtain ⟨k, fs, hk, rfl, hrow, hfin, hfs, hbr⟩ := hrel
    by_cases hlt : k < m
    · have HR := Lib.hid hrow
      have HB := Lib.hid hbr
      have W1 : IntKind.i64.wrap ((k : Int) + 1) = ((k + 1 : Nat) : Int) := by rw [IntKind.wrap_i64]; omega
      clear hrow hbr
      go_wp2
      obtain ⟨wo, hwo⟩ : ∃ wo : World, wo = wr := ⟨_, rfl⟩
      rw [← hwo] at HR HB ⊢
      clear hwo W1
      go_loopw [6, 7] (fun v i wr => ∃ (t : Nat) (f : Bool), k < t ∧ t ≤ m ∧ v = .bool f ∧ i = .int .i64 t ∧ Hid (f = topT ws k t) ∧ Hid (∃ q, wr = wo.drewN q)) (fun _ i _ => m - (intOf i).toNat)
      case atStart => exact ⟨k + 1, true, by omega, by omega, rfl, by go_num, Lib.hid (topT_first ws k).symm, Lib.hid ⟨0, rfl⟩⟩
      case round =>
        obtain ⟨t, f, hkt, ht, rfl, rfl, hf, hw⟩ := hrel
        have hbr : Below w1.heap.size w1 wr := by obtain ⟨q, rfl⟩ := hw.out; exact below_drewN HB.out q
        by_cases hlt2 : t < m
        · have hL := L1.out.below hbr
          obtain ⟨b, off, Ak, nk, ck, rfl, _, hc1, _, h1⟩ := hL.at_ hlt
          obtain ⟨b', off', At, nt, ct, e', _, hc2, _, h2⟩ := hL.at_ hlt2
          cases e'
          have TS := Lib.hid (topT_succ (ws := ws) hkt)
          cases f with
          | false =>
            have F := Lib.hid (show false = topT ws k (t + 1) by rw [TS.out, ← hf.out]; rfl)
            clear h1 h2 hL hbr
            go_wp2
            go_quiet (fail)
            go_wp2
            go_roundw
            case rel => exact ⟨t + 1, false, by omega, by omega, rfl, by go_num, F, Lib.hid (drew_more hw.out _)⟩
            case measure => simp [intOf]; omega
          | true =>
            by_cases hll : nt = nk
            · have F := Lib.hid (show true = topT ws k (t + 1) by rw [TS.out, ← hf.out, decide_eq_true (show (ws.getD t []).length = (ws.getD k []).length by rw [h1.1, h2.1]; exact hll)]; rfl)
              subst hll
              clear h1 h2 hL hbr
              go_wp2
              go_quiet (fail)
              go_wp2
              go_roundw
              case rel => exact ⟨t + 1, true, by omega, by omega, rfl, by go_num, F, Lib.hid (drew_more hw.out _)⟩
              case measure => simp [intOf]; omega
            · obtain ⟨g, hg⟩ : ∃ g, g = decide (cmn (ws.getD t []) (ws.getD k []) = (ws.getD k []).length) := ⟨_, rfl⟩
              have F := Lib.hid (show (!g) = topT ws k (t + 1) by rw [TS.out, ← hf.out, decide_eq_false (show ¬ (ws.getD t []).length = (ws.getD k []).length by rw [h1.1, h2.1]; exact hll), hg]; rfl)
              have hcall : ∀ q, Calls Tryz.prog 34 #[.slice At nt ct, .slice Ak nk ck] (wr.drewN q) fun e w' => e = .returned (.bool g) ∧ ∃ m, w' = (wr.drewN q).drewN m := fun q => by
                rw [hg]; exact rhasprefix _ _ _ _ _ _ _ _ _ (h2.drewN q) (h1.drewN q)
              have hd0 : ((nt : Int) == (nk : Int)) = false := by simp; omega
              clear h1 h2 hL hbr hg
              go_wp2
              go_quiet ((go_at_call 34; exact Calls.quiet_of (hcall _)))
              go_wp2
              go_roundw
              case rel => exact ⟨t + 1, !g, by omega, by omega, rfl, by go_num, F, Lib.hid (drew_more hw.out _)⟩
              case measure => simp [intOf]; omega
        · obtain rfl : t = m := by omega
          obtain ⟨b, off, B, mm, d, rfl, hlb, hc1, hmd, hI⟩ := L1.out.at_ hlt
          have IK := Lib.hid (L1.out.inAt hlt rfl hc1)
          have hcell := (hbr.cell (p := ⟨b, off + k, none⟩) hlb).trans hc1
          have HRr := Lib.hid (show HRow wr w1.heap.size _ fs from by obtain ⟨q, rfl⟩ := hw.out; exact HR.out)
          have HBr := Lib.hid hbr
          have KW : k < ws.length := by rw [WL.out]; exact hlt
          have FL := Lib.hid (show fs.length ≤ k from by
            have := congrArg List.length hfs.out
            rw [List.length_map] at this
            have h2 := (tpU_sub ws k (by omega)).length_le
            rw [List.length_take] at h2
            omega)
          have TF := Lib.hid (show f = topT ws k ws.length by rw [hf.out, WL.out])
          clear hI hbr hc1 KW
          cases f with
          | false =>
            have E := Lib.hid (show tpU ws (k + 1) = tpU ws k by rw [tpU, if_neg (by rw [← TF.out]; simp)])
            go_wp2
            go_roundw
            case rel => exact ⟨k + 1, fs, by omega, by go_num, HRr.out, hfin, Lib.hid (by rw [E.out]; exact hfs.out), HBr.out⟩
            case measure => simp [intOf]; omega
          | true =>
            have E := Lib.hid (show tpU ws (k + 1) = tpU ws k ++ [ws.getD k []] by rw [tpU, if_pos TF.out.symm])
            obtain ⟨A2, c2, w3, hr, h3, hg3, hb3⟩ := run_append_head (B := B) (m := mm) (d := d) HRr.out (ws.getD k []) HBr.out.size (by have := FL.out; omega)
            have H3 := Lib.hid h3
            have B3 := Lib.hid (HBr.out.trans hb3)
            have F3 := Lib.hid (show ∀ f, f ∈ fs ++ [(Value.slice B mm d, ws.getD k [])] → InAt w1 w1.heap.size f from fun f hf => by
              rcases List.mem_append.1 hf with hf | hf
              · exact hfin.out f hf
              · rw [List.mem_singleton] at hf
                subst hf
                exact IK.out)
            generalize fs.length = gl at hr H3
            clear h3 hg3 hb3
            go_wp2_with (at_builtin; refine Lib.wpList_append_run _ rfl _ _ _ _ rfl _ _ rfl rfl _ _ hr ?_)
            go_roundw
            case rel => exact ⟨k + 1, _, by omega, by go_num, H3.out, F3, Lib.hid (by rw [List.map_append, hfs.out, E.out]; rfl), B3.out⟩
            case measure => simp [intOf]; omega
    · obtain rfl : k = m := by omega
      have hR : fs.map Prod.snd = sw (maxS xss) := by rw [hfs.out, ← WL.out, WS.out, tpU_all]
      have hfl : fs.length = (sw (maxS xss)).length := by rw [← hR, List.length_map]
      have hz := maxS_len xss
      have hz2 := sw_len (maxS xss)
      rw [XL.out] at hz
      obtain ⟨Av, cv, ev⟩ := hrow.form
      subst ev
      have l2 := (hrow.hds (by rw [hfl]; omega)).lists (top := w1.heap.size) (fun p hp => (hfin.out p hp).on hbr)
      rw [hR, hfl] at l2
      rw [hfl]
      have L2 := Lib.hid l2
      have BB := Lib.hid (bt B1.out hbr)
      clear hR hfl hz hz2 hrow l2 hbr
      go_wp2
      go_ret
      exact ⟨_, _, rfl, L2.out, BB.out⟩

set_option maxHeartbeats 2000000 in
theorem rsizew (w : World) (A : Option Addr) (n c L : Nat) (xss : List (List Int)) (h : ListsC w A n xss) (hL : ∀ x, x ∈ xss → x.length ≤ L) (hn : n ≤ 1000) (hL2 : L ≤ 1000) :
    Calls Tryz.prog 7 #[.slice A n c] w fun e w' => e = .returned (.tuple #[.int .i64 (sw (maxS xss)).length, .int .i64 (symS (sw (maxS xss)))]) ∧ Below w.heap.size w w' := by
  have XL := Lib.hid h.1
  have HA := Lib.hid h
  have SM := Lib.hid (maxS_small hL)
  clear h hL
  go_enter Tryz.func7, Tryz.ntmps7
  go_wp2_with fail
  refine (rmaximal w A n c xss HA.out hn).mono ?_
  rintro e w1 ⟨A1, c1, rfl, l1, b1⟩
  have hz := maxS_len xss
  have hz2 := sw_len (maxS xss)
  rw [XL.out] at hz
  obtain ⟨words, hwd⟩ : ∃ words, words = sw (maxS xss) := ⟨_, rfl⟩
  obtain ⟨m, hm⟩ : ∃ m, m = words.length := ⟨_, rfl⟩
  have hSM := SM.out
  rw [← hwd] at l1 hz2 hSM ⊢
  rw [← hm] at l1 hz2 ⊢
  have m1 : m ≤ 1000 := by omega
  have SB := Lib.hid (show ∀ k, k ≤ m → symU words k ≤ 1000000 from fun k hk => by
    have h1 := symU_le hSM k (by rw [← hm]; exact hk)
    have h3 : k * L ≤ 1000 * 1000 := Nat.mul_le_mul (by omega) hL2
    omega)
  have L1 := Lib.hid l1
  have B1 := Lib.hid b1
  have ML := Lib.hid l1.1
  have HWD := Lib.hid hwd
  clear l1 b1 hz hz2 hSM hwd hm
  go_wp2
  go_loop [5, 6] (fun s i => ∃ k : Nat, k ≤ m ∧ i = .int .i64 k ∧ s = .int .i64 (symU words k)) (fun _ i => m - (intOf i).toNat)
  case atStart => exact ⟨0, Nat.zero_le _, rfl, rfl⟩
  case round =>
    obtain ⟨k, hk, rfl, rfl⟩ := hrel
    by_cases hlt : k < m
    · obtain ⟨b, off, Aj, nj, cj, rfl, _, hcell, _, hI⟩ := L1.out.at_ hlt
      have hs : symU words (k + 1) = symU words k + nj := by rw [symU_succ (by rw [ML.out]; exact hlt), hI.1]
      have h1 := SB.out (k + 1) (by omega)
      obtain ⟨a, ha⟩ : ∃ a, a = symU words k := ⟨_, rfl⟩
      obtain ⟨z, hz⟩ : ∃ z, z = symU words (k + 1) := ⟨_, rfl⟩
      rw [← ha] at hs ⊢
      rw [← hz] at hs h1
      have HZ := Lib.hid hz
      have u1 : ((a : Int) + (nj : Int)) = (z : Int) := by omega
      clear hI hz hs ha
      go_wp2
      go_round
      case rel => exact ⟨k + 1, by omega, by go_num, by rw [HZ.out]⟩
      case measure => simp [intOf]; omega
    · obtain rfl : k = m := by omega
      have e1 := Lib.hid (show symU words k = symS (sw (maxS xss)) by rw [← ML.out, symU_all, HWD.out])
      have e2 := Lib.hid (show (sw (maxS xss)).length = k by rw [← HWD.out, ML.out])
      rw [e1.out]
      go_wp2
      go_ret2
      exact ⟨by rw [e2.out]; rfl, B1.out⟩
end Go.Proofs.YtakhphhpjcpphaaGreatDoor
end
