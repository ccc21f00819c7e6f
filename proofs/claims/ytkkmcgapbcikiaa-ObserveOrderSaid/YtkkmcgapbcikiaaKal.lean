/- Lemmas of the proofs of this seat, of the parts Orm16, L16o. Conditions: none. -/
import Derived.Test.YtkkmcgapbcikiaaKae
import Derived.Test.YtkkmcgapbcikiaaKad
import Derived.Test.YtkkmcgapbcikiaaKaj
section
/- Adding in another order; what was contained stays contained. No program. -/
namespace Go.Proofs.Ytkkmcgapbcikiaa
open Go.RowKit

/-- A word and its outputs are contained. -/
def Cov (ts : TSr) (u : List Int × List Int) : Prop := u.2.length = u.1.length ∧ (u.1.length = 0 ∨ ∃ x, x ∈ ts ∧ u.1 <+: x.1 ∧ x.2.take u.1.length = u.2)
theorem Cov.mem {ts : TSr} {x : List Int × List Int} (hF : Full ts) (h : x ∈ ts) : Cov ts x := ⟨full_mem.1 hF x h, .inr ⟨x, h, List.prefix_refl _, by rw [← full_mem.1 hF x h, List.take_length]⟩⟩
theorem take_out {x y : List Int × List Int} (hx : x.2.length = x.1.length) (hy : y.2.length = y.1.length) (hp : x.1 <+: y.1) (h : ∀ j, j < x.1.length → x.2.getD j 0 = y.2.getD j 0) : y.2.take x.1.length = x.2 := by
  have hl := hp.length_le
  apply List.ext_getElem
  · rw [List.length_take]; omega
  · intro j h1 h2
    rw [List.length_take] at h1
    have := h j (by omega)
    rw [List.getD_eq_getElem?_getD, List.getD_eq_getElem?_getD, List.getElem?_eq_getElem (by omega), List.getElem?_eq_getElem (by omega)] at this
    rw [List.getElem_take]
    exact this.symm
section
variable {ts ts' : TSr} {xs ys : List Int} {i e : Int}
theorem Cov.self (h : InsR ts xs ys i 0 ts') (hO : Okt i ts) (hl : ts.length < 10000) : Cov ts' (xs, ys) := by
  have hpl := (prp_zero h.prp).2.1
  refine ⟨hpl, ?_⟩
  rcases h.form hO.2.2.2.2.1 hO.2.2.2.1 with ⟨h1, rfl⟩ | ⟨h1, p, rfl⟩
  · rcases Nat.eq_zero_or_pos xs.length with h0 | h0
    · exact .inl h0
    · right
      obtain ⟨a, ha, hc⟩ := knw_at (ts := ts') (w := xs) (k := ts'.length) (by omega)
      rw [h1] at hc
      have hp : xs <+: tIn ts' a := pre_cmn'.2 hc
      have hag := insC_not (show ¬ InsC ts' xs ys from by
        rcases ins_err hO.2.2.2.2.2 hO.2.1 hl h with ⟨g1, g2⟩ | ⟨_, g2, _⟩ | ⟨_, _, g3⟩
        · exact absurd g2.symm g1
        · omega
        · exact not_insC g3) a ha
      refine ⟨ts'[a], List.getElem_mem ha, by rw [← tIn_gt ha]; exact hp, ?_⟩
      have hf := hO.2.1 a ha
      have := take_out (x := (xs, ys)) (y := (tIn ts' a, tOut ts' a)) hpl hf hp (fun j hj => (hag j (by rw [hc]; exact hj)).symm)
      rw [← tOut_gt ha]
      exact this
  · exact .inr ⟨(xs, ys), (ins_perm _ p).mem_iff.2 List.mem_cons_self, List.prefix_refl _, by rw [show (xs, ys).1.length = (xs, ys).2.length from hpl.symm, List.take_length]⟩
theorem Cov.mono {u : List Int × List Int} (hu : Cov ts u) (h : InsR ts xs ys i 0 ts') (hO : Okt i ts) (hl : ts.length < 10000) : Cov ts' u := by
  have hpl := (prp_zero h.prp).2.1
  obtain ⟨h0, h1⟩ := hu
  refine ⟨h0, ?_⟩
  rcases h1 with h1 | ⟨x, hx, hp, ht⟩
  · exact .inl h1
  right
  have hag := h.agree hO.2.2.2.2.2 hO.2.1 hl
  rcases h.form hO.2.2.2.2.1 hO.2.2.2.1 with ⟨_, rfl⟩ | ⟨hk, p, rfl⟩
  · exact ⟨x, hx, hp, ht⟩
  · cases hkp : kp xs x
    case true => exact ⟨x, (ins_perm _ p).mem_iff.2 (List.mem_cons_of_mem _ (List.mem_filter.2 ⟨hx, hkp⟩)), hp, ht⟩
    case false =>
      have h2 := (kp_no hkp).1
      refine ⟨(xs, ys), (ins_perm _ p).mem_iff.2 List.mem_cons_self, hp.trans h2, ?_⟩
      have h3 : cmn x.1 xs = x.1.length := pre_cmn.1 h2
      have h4 := take_out (x := x) (y := (xs, ys)) (full_mem.1 hO.2.1 x hx) hpl h2 (fun j hj => hag x hx j (by rw [h3]; exact hj))
      show ys.take u.1.length = u.2
      rw [← ht, ← h4, List.take_take, Nat.min_eq_left hp.length_le]
/-- Adding what is contained changes nothing. -/
theorem ins_again (h : InsR ts xs ys i e ts') (hO : Okt i ts) (hl : ts.length < 10000) (hp : prpE xs ys i = 0) (hc : Cov ts (xs, ys)) : e = 0 ∧ ts' = ts := by
  have hpl := (prp_zero hp).2.1
  have hno : ¬ InsC ts xs ys := by
    rintro ⟨a, k, ha, hk, hd⟩
    rcases hc.2 with h1 | ⟨x, hx, h2, h3⟩
    · have := cmn_le_right (tIn ts a) xs
      have h1 : xs.length = 0 := h1
      omega
    · have h4 := cmn_pre_mono (ws := tIn ts a) h2
      have h5 : k < cmn (tIn ts a) x.1 := by
        rw [cmn_comm]
        rw [cmn_comm] at hk
        exact Nat.lt_of_lt_of_le hk h4
      rw [tIn_gt ha] at h5 hk
      rw [tOut_gt ha] at hd
      have h6 := cons_mem.1 hO.2.2.2.2.2 _ (List.getElem_mem ha) x hx k h5
      have h7 := cmn_le_right (ts[a]).1 xs
      have h3 : x.2.take xs.length = ys := h3
      refine hd (h6.trans ?_)
      rw [← h3, take_getD (by omega)]
  have he : e = 0 := by
    rcases ins_err hO.2.2.2.2.2 hO.2.1 hl h with ⟨g1, _⟩ | ⟨_, _, g3⟩ | ⟨_, g2, _⟩
    · exact absurd hp g1
    · exact absurd g3 hno
    · exact g2
  subst he
  refine ⟨rfl, ?_⟩
  rcases h.form hO.2.2.2.2.1 hO.2.2.2.1 with ⟨_, h1⟩ | ⟨hk, _⟩
  · exact h1
  · rcases hc.2 with h1 | ⟨x, hx, h2, _⟩
    · have h1 : xs.length = 0 := h1
      omega
    · have h3 := knw_mem hx xs
      have h4 : cmn x.1 xs = xs.length := pre_cmn'.1 h2
      omega
end
theorem srt_uniq : ∀ {l m : TSr}, l.Pairwise (fun a b => shlex a.1 b.1 < 0) → m.Pairwise (fun a b => shlex a.1 b.1 < 0) → (∀ x, x ∈ l ↔ x ∈ m) → l = m
  | [], [], _, _, _ => rfl
  | [], b :: m, _, _, h => absurd ((h b).2 List.mem_cons_self) (by simp)
  | a :: l, [], _, _, h => absurd ((h a).1 List.mem_cons_self) (by simp)
  | a :: l, b :: m, hl, hm, h => by
    obtain ⟨l1, l2⟩ := List.pairwise_cons.1 hl
    obtain ⟨m1, m2⟩ := List.pairwise_cons.1 hm
    have hab : a = b := by
      rcases List.mem_cons.1 ((h a).1 List.mem_cons_self) with h1 | h1
      · exact h1
      · rcases List.mem_cons.1 ((h b).2 List.mem_cons_self) with h2 | h2
        · exact h2.symm
        · have h3 := m1 a h1
          have h4 := l1 b h2
          rw [shlex_neg] at h3
          omega
    subst hab
    rw [srt_uniq l2 m2 fun x => ⟨fun hx => ?_, fun hx => ?_⟩]
    · rcases List.mem_cons.1 ((h x).1 (List.mem_cons_of_mem _ hx)) with h1 | h1
      · have := l1 x hx
        rw [h1, shlex_irr] at this
        omega
      · exact h1
    · rcases List.mem_cons.1 ((h x).2 (List.mem_cons_of_mem _ hx)) with h1 | h1
      · have := m1 x hx
        rw [h1, shlex_irr] at this
        omega
      · exact h1
theorem pref_eq {ts : TSr} (h : PreF ts) {x z : List Int × List Int} (hx : x ∈ ts) (hz : z ∈ ts) (hp : x.1 <+: z.1) : x = z := by
  obtain ⟨a, ha, rfl⟩ := List.mem_iff_getElem.1 hx
  obtain ⟨b, hb, rfl⟩ := List.mem_iff_getElem.1 hz
  rcases Nat.decEq a b with e | e
  · exact absurd (by rw [tIn_gt ha, tIn_gt hb]; exact hp) (h a b ha hb e)
  · subst e; rfl
/-- Observations that contain each other are the same. -/
theorem cov_sub {i : Int} {l m : TSr} (hl : Okt i l) (hm : Okt i m) (h1 : ∀ x, x ∈ l → Cov m x) (h2 : ∀ x, x ∈ m → Cov l x) : ∀ x, x ∈ l → x ∈ m := fun x hx => by
  have h0 := pos_mem.1 hl.2.2.2.1 x hx
  rcases (h1 x hx).2 with h | ⟨y, hy, hp, ht⟩
  · omega
  · have h3 := pos_mem.1 hm.2.2.2.1 y hy
    rcases (h2 y hy).2 with h | ⟨z, hz, hq, _⟩
    · omega
    · have e := pref_eq hl.2.2.2.2.1 hx hz (hp.trans hq)
      subst e
      have e1 : x.1 = y.1 := hp.eq_of_length (by have := hp.length_le; have := hq.length_le; omega)
      have e2 : x.2 = y.2 := by
        rw [← ht, e1, ← full_mem.1 hm.2.1 y hy, List.take_length]
      rw [show x = y from Prod.ext e1 e2]
      exact hy
theorem cov_eq {i : Int} {l m : TSr} (hl : Okt i l) (hm : Okt i m) (h1 : ∀ x, x ∈ l → Cov m x) (h2 : ∀ x, x ∈ m → Cov l x) : l = m :=
  srt_uniq (srt_pw.1 hl.1) (srt_pw.1 hm.1) fun x => ⟨cov_sub hl hm h1 h2 x, cov_sub hm hl h2 h1 x⟩
/-- Adding two traces in either order. -/
theorem ins_comm {i : Int} {ts t1 t2 t3 t4 : TSr} {s t : List Int × List Int} (hO : Okt i ts) (hl : ts.length < 9000) (h1 : InsR ts s.1 s.2 i 0 t1) (h2 : InsR t1 t.1 t.2 i 0 t2) (h3 : InsR ts t.1 t.2 i 0 t3) (h4 : InsR t3 s.1 s.2 i 0 t4) :
    Okt i t2 ∧ t2 = t4 ∧ Cov t2 s ∧ Cov t2 t ∧ ∀ x, x ∈ ts → Cov t2 x := by
  have l1 := h1.len
  have l3 := h3.len
  have o1 := h1.okt hO (by omega)
  have o2 := h2.okt o1 (by omega)
  have o3 := h3.okt hO (by omega)
  have o4 := h4.okt o3 (by omega)
  have a2 : ∀ x, x ∈ ts → Cov t2 x := fun x hx => ((Cov.mem hO.2.1 hx).mono h1 hO (by omega)).mono h2 o1 (by omega)
  have a4 : ∀ x, x ∈ ts → Cov t4 x := fun x hx => ((Cov.mem hO.2.1 hx).mono h3 hO (by omega)).mono h4 o3 (by omega)
  have s2 : Cov t2 s := (Cov.self h1 hO (by omega)).mono h2 o1 (by omega)
  have s4 : Cov t4 s := Cov.self h4 o3 (by omega)
  have u2 : Cov t2 t := Cov.self h2 o1 (by omega)
  have u4 : Cov t4 t := (Cov.self h3 hO (by omega)).mono h4 o3 (by omega)
  refine ⟨o2, cov_eq o2 o4 (fun x hx => ?_) (fun x hx => ?_), s2, u2, a2⟩
  · rcases h2.mem o1.2.2.2.2.1 o1.2.2.2.1 hx with h | ⟨rfl, _⟩
    · rcases h1.mem hO.2.2.2.2.1 hO.2.2.2.1 h with h | ⟨rfl, _⟩
      · exact a4 x h
      · exact s4
    · exact u4
  · rcases h4.mem o3.2.2.2.2.1 o3.2.2.2.1 hx with h | ⟨rfl, _⟩
    · rcases h3.mem hO.2.2.2.2.1 hO.2.2.2.1 h with h | ⟨rfl, _⟩
      · exact a2 x h
      · exact u2
    · exact s2
/-- The answer of what is contained. -/
theorem ans_cov {n : Nat} {ts : TSr} {ws ys : List Int} {w w' : World} {r : Ending} (h : AnsP ts ws n w r w') (hF : Full ts) (hC : Cons ts) (hn : ws.length = n) (hb : n ≤ 17592186044416) (hc : Cov ts (ws, ys)) :
    ∃ A' c', r = .returned (.tuple #[.slice A' n c', .bool true]) ∧ Ints w' A' n ys ∧ Below w.heap.size w w' := by
  rcases hc.2 with h0 | ⟨x, hx, hp, ht⟩
  · have h0 : ws.length = 0 := h0
    obtain rfl : n = 0 := by omega
    obtain ⟨hb, ⟨_, h⟩ | ⟨rfl, _⟩ | ⟨a, A', c', h, _⟩⟩ := h
    · omega
    · have : ys = [] := List.eq_nil_of_length_eq_zero (by have h1 : ys.length = ws.length := hc.1; omega)
      subst this
      exact ⟨none, 0, rfl, ⟨rfl, Nat.zero_le _, fun h => absurd h (by omega)⟩, hb⟩
    · omega
  · obtain ⟨j, hj, e⟩ := List.mem_iff_getElem.1 hx
    rcases Nat.eq_zero_or_pos n with h0 | h0
    · subst h0
      obtain ⟨hb, ⟨_, h⟩ | ⟨rfl, _⟩ | ⟨a, A', c', h, _⟩⟩ := h
      · omega
      · have : ys = [] := List.eq_nil_of_length_eq_zero (by have h1 : ys.length = ws.length := hc.1; omega)
        subst this
        exact ⟨none, 0, rfl, ⟨rfl, Nat.zero_le _, fun h => absurd h (by omega)⟩, hb⟩
      · omega
    · have hp : ws <+: x.1 := hp
      have hcm : cmn (tIn ts j) ws = n := by rw [tIn_gt hj, e, pre_cmn'.1 hp, hn]
      obtain ⟨A', c', h1, h2, h3⟩ := ans_pre16 h hF hC hj hcm h0
      refine ⟨A', c', h1, ?_, h3⟩
      have e2 : (tOut ts j).take n = ys := by rw [tOut_gt hj, e, ← hn]; exact ht
      rw [e2] at h2
      exact h2.ints (by have h1 : ys.length = ws.length := hc.1; omega)
/- Add of the program, with traces that stay. -/
def AddQ (i : Int) (ts : TSr) (xs ys : List Int) (e : Int) (us : TSr) : Prop := ∃ ts', InsR ts xs ys i e ts' ∧ us = if e = 0 then ts' else ts
theorem AddQ.ins {i : Int} {ts us : TSr} {xs ys : List Int} (h : AddQ i ts xs ys 0 us) : InsR ts xs ys i 0 us := by
  obtain ⟨t, h1, h2⟩ := h
  rw [if_pos rfl] at h2
  subst h2
  exact h1
theorem AddQ.okt {i e : Int} {ts us : TSr} {xs ys : List Int} (h : AddQ i ts xs ys e us) (hO : Okt i ts) (hl : ts.length < 10000) : Okt i us ∧ us.length ≤ ts.length + 1 := by
  obtain ⟨t, h1, h2⟩ := h
  by_cases h0 : e = 0
  · subst h0
    rw [if_pos rfl] at h2
    subst h2
    exact ⟨h1.okt hO hl, h1.len⟩
  · rw [if_neg h0] at h2
    subst h2
    exact ⟨hO, by omega⟩
theorem TrsK.of_tro {z base g N : Nat} {w : World} {cur : Array Value} {ts : TSr} (h : TrO w base g N cur ts) : TrsK z w (some ⟨g, 0, none⟩) ts.length ts := fun _ _ h1 h2 => (h.kept (h2 _ _ h.bx) h1).trs
theorem AddE.resK {z : Nat} {i : Int} {T : Option Addr} {tn tc : Nat} {ts : TSr} {xs ys : List Int} {w w' : World} {r : Ending} (h : AddE i T tn tc ts xs ys w r w') (hz : z ≤ w.heap.size) (hT : TrsK z w T tn ts) (htc : tn ≤ tc) :
    ∃ e us, AddQ i ts xs ys e us ∧ ∃ (A : Option Addr) (n c : Nat), r = .returned (.tuple #[.agg #[.int .i64 i, .slice A n c], .int .i64 e]) ∧ n ≤ c ∧ TrsK z w' A n us ∧ Below w.heap.size w w' := by
  obtain ⟨hb, e, ts', hr, ⟨h1, rfl⟩ | ⟨rfl, g, N, cur, rfl, ho⟩⟩ := h
  · exact ⟨e, ts, ⟨ts', hr, (if_neg h1).symm⟩, T, tn, tc, rfl, htc, hT.below hz hb, hb⟩
  · exact ⟨0, ts', ⟨ts', hr, (if_pos rfl).symm⟩, some ⟨g, 0, none⟩, ts'.length, N, rfl, ho.le, TrsK.of_tro ho, hb⟩
end Go.Proofs.Ytkkmcgapbcikiaa
end

section
/- The law ObserveOrder: the walk. -/
namespace Go.Proofs.Ytkkmcgapbcikiaa
open Go.RowKit

set_option linter.unusedSimpArgs false in
set_option linter.unusedVariables false in
set_option maxHeartbeats 16000000 in
set_option maxRecDepth 100000 in
theorem order16_walk (i : Int) (T C D C' D' : Option Addr) (tn tc m e k f m' e' k' f' : Nat) (ts : TSr) (xs ys us vs : List Int) (w : World) (hT : Trs w T tn ts) (htc : tn ≤ tc) (hX : Ints w C m xs) (hme : m ≤ e) (hY : Ints w D k ys) (hkf : k ≤ f)
    (hU : Ints w C' m' us) (hme' : m' ≤ e') (hV : Ints w D' k' vs) (hkf' : k' ≤ f') :
    Calls Try.prog 8 #[.agg #[.int .i64 i, .slice T tn tc], .agg #[.slice C m e, .slice D k f], .agg #[.slice C' m' e', .slice D' k' f']] w fun r w' => r = .returned (.bool true) ∧ Below w.heap.size w w' := by
  obtain ⟨w0, hw0⟩ : ∃ w0, w0 = ((w.alloc (.cells #[.int .i64 i, .slice T tn tc] 24)).alloc (.cells #[.slice C m e, .slice D k f] 38)).alloc (.cells #[.slice C' m' e', .slice D' k' f'] 38) := ⟨_, rfl⟩
  obtain ⟨hb0, m1, m2, m3, hs0⟩ := bxs3 w #[.int .i64 i, .slice T tn tc] #[.slice C m e, .slice D k f] #[.slice C' m' e', .slice D' k' f'] 24 38 38 w0 hw0
  have HM1 := Lib.hid (fun (W : World) (h : Below w0.heap.size w0 W) => m1.on h)
  have HM2 := Lib.hid (fun (W : World) (h : Below w0.heap.size w0 W) => m2.on h)
  have HM3 := Lib.hid (fun (W : World) (h : Below w0.heap.size w0 W) => m3.on h)
  have HT := Lib.hid (fun (W : World) (h : Below w0.heap.size w0 W) => (hT.below hb0).below h)
  have HTK := Lib.hid (fun (W : World) (h : Below w0.heap.size w0 W) => (TrsK.of_trs (hT.below hb0)).below (Nat.le_refl _) h)
  have HX := Lib.hid (fun (W : World) (h : Below w0.heap.size w0 W) => (hX.below hb0).below h)
  have HY := Lib.hid (fun (W : World) (h : Below w0.heap.size w0 W) => (hY.below hb0).below h)
  have HU := Lib.hid (fun (W : World) (h : Below w0.heap.size w0 W) => (hU.below hb0).below h)
  have HV := Lib.hid (fun (W : World) (h : Below w0.heap.size w0 W) => (hV.below hb0).below h)
  have HB0 := Lib.hid hb0
  have HW0 := Lib.hid hw0
  have HLT := Lib.hid hT.1
  have HLX := Lib.hid hX.1
  have HLU := Lib.hid hU.1
  have HNX := Lib.hid hX.2.1
  have HNU := Lib.hid hU.2.1
  have hbc := Below.refl w0.heap.size w0
  have k0 := (HM1.out _ hbc).cell 0
  have k1 := (HM1.out _ hbc).cell 1
  have l0 := (HM2.out _ hbc).cell 0
  have l1 := (HM2.out _ hbc).cell 1
  have t0 := (HM3.out _ hbc).cell 0
  have t1 := (HM3.out _ hbc).cell 1
  simp at k0 k1 l0 l1 t0 t1
  rw [HW0.out] at k0 k1 l0 l1 t0 t1
  clear hw0 hb0 m1 m2 m3 hs0 hT hX hY hU hV
  go_enter Try.func8, Try.ntmps8
  go_wp2_with fail
  rw [← HW0.out]
  refine (rgreat16 i T tn tc ts w0 (HT.out _ hbc)).mono ?_
  rintro r w1 ⟨b1, rfl, hg1, a1⟩
  have hbc := bt hbc a1
  clear a1 k0 k1 l0 l1 t0 t1
  cases b1
  case true =>
    clear hg1
    go_wp2_with fail
    refine (awake16 _).mono ?_
    rintro r w9 ⟨rfl, a9⟩
    go_wp2
    go_ret
    exact ⟨rfl, bt HB0.out (bt hbc a9)⟩
  have hn60 : tn ≤ 60 := (hg1 rfl).1
  clear hg1
  have k0 := (HM1.out _ hbc).cell 0
  have k1 := (HM1.out _ hbc).cell 1
  have l0 := (HM2.out _ hbc).cell 0
  have l1 := (HM2.out _ hbc).cell 1
  have t0 := (HM3.out _ hbc).cell 0
  have t1 := (HM3.out _ hbc).cell 1
  simp at k0 k1 l0 l1 t0 t1
  go_wp2_with fail
  refine (rlong16 C D m e k f w1).mono ?_
  rintro r w2 ⟨rfl, a2⟩
  have hbc := bt hbc a2
  clear a2 k0 k1 l0 l1 t0 t1
  by_cases hlg : 1100 < m ∨ 1100 < k
  · rw [decide_eq_true hlg]
    go_wp2_with fail
    refine (awake16 _).mono ?_
    rintro r w9 ⟨rfl, a9⟩
    go_wp2
    go_ret
    exact ⟨rfl, bt HB0.out (bt hbc a9)⟩
  rw [decide_eq_false hlg]
  clear hlg
  have k0 := (HM1.out _ hbc).cell 0
  have k1 := (HM1.out _ hbc).cell 1
  have l0 := (HM2.out _ hbc).cell 0
  have l1 := (HM2.out _ hbc).cell 1
  have t0 := (HM3.out _ hbc).cell 0
  have t1 := (HM3.out _ hbc).cell 1
  simp at k0 k1 l0 l1 t0 t1
  go_wp2_with fail
  refine (rlong16 C' D' m' e' k' f' w2).mono ?_
  rintro r w2b ⟨rfl, a2⟩
  have hbc := bt hbc a2
  clear a2 k0 k1 l0 l1 t0 t1
  by_cases hlg : 1100 < m' ∨ 1100 < k'
  · rw [decide_eq_true hlg]
    go_wp2_with fail
    refine (awake16 _).mono ?_
    rintro r w9 ⟨rfl, a9⟩
    go_wp2
    go_ret
    exact ⟨rfl, bt HB0.out (bt hbc a9)⟩
  rw [decide_eq_false hlg]
  clear hlg
  have k0 := (HM1.out _ hbc).cell 0
  have k1 := (HM1.out _ hbc).cell 1
  have l0 := (HM2.out _ hbc).cell 0
  have l1 := (HM2.out _ hbc).cell 1
  have t0 := (HM3.out _ hbc).cell 0
  have t1 := (HM3.out _ hbc).cell 1
  simp at k0 k1 l0 l1 t0 t1
  go_wp2_with fail
  refine (pvalid16 i T tn tc ts w2b (HT.out _ hbc) htc).mono ?_
  rintro r w3 ⟨v, rfl, hv, a3⟩
  have hbc := bt hbc a3
  clear a3 k0 k1 l0 l1 t0 t1
  by_cases hv0 : v = 0
  case neg =>
    have hne : (v != 0) = true := by simpa using hv0
    clear hv hv0
    go_wp2_with fail
    refine (awake16 _).mono ?_
    rintro r w9 ⟨rfl, a9⟩
    go_wp2
    go_ret
    exact ⟨rfl, bt HB0.out (bt hbc a9)⟩
  subst hv0
  obtain ⟨hi1, hi2, _, hS, hF, hP, h0, hPF, hC⟩ := vld16_ok hv
  have HI := Lib.hid (show 1 ≤ i ∧ i ≤ 64 from ⟨hi1, hi2⟩)
  have HO := Lib.hid (show Okt i ts from ⟨hS, hF, hP, h0, hPF, hC⟩)
  have HTL := Lib.hid (show ts.length ≤ 60 by rw [HLT.out]; exact hn60)
  clear hv hS hF hC hP h0 hPF hi1 hi2
  -- a, e := Add(o, s)
  have k0 := (HM1.out _ hbc).cell 0
  have k1 := (HM1.out _ hbc).cell 1
  have l0 := (HM2.out _ hbc).cell 0
  have l1 := (HM2.out _ hbc).cell 1
  have t0 := (HM3.out _ hbc).cell 0
  have t1 := (HM3.out _ hbc).cell 1
  simp at k0 k1 l0 l1 t0 t1
  go_wp2_with fail
  refine (padd16 i T C D tn tc m e k f ts xs ys w3 (HT.out _ hbc) (HX.out _ hbc) hme (HY.out _ hbc) hkf HO.out.1 HO.out.2.1 (by omega)).mono ?_
  rintro r w4 h4
  obtain ⟨e1, u1, hu1, A1, n1, c1, rfl, hc1, t1', a4⟩ := h4.resK hbc.size (HTK.out _ hbc) htc
  have hbc := bt hbc a4
  have HQ1 := Lib.hid hu1
  have HO1 := Lib.hid (hu1.okt HO.out (by have := HTL.out; omega))
  have hz4 := hbc.size
  obtain ⟨w5, hw5⟩ : ∃ w5, w5 = w4.alloc (.cells #[.int .i64 i, .slice A1 n1 c1] 24) := ⟨_, rfl⟩
  obtain ⟨g5, hg5⟩ : ∃ g5, g5 = w4.heap.size := ⟨_, rfl⟩
  have hal : Below w4.heap.size w4 w5 := by rw [hw5]; exact alloc_below _ _
  have mx : Bx w5 g5 #[.int .i64 i, .slice A1 n1 c1] 24 := by rw [hw5, hg5]; exact bx_new _ _ _
  have hbcn := bt hbc hal
  have HM5 := Lib.hid (fun (W : World) (h : Below w5.heap.size w5 W) => mx.on h)
  have HK1 := Lib.hid (t1'.below hbc.size hal)
  have hz5 : w0.heap.size ≤ g5 := by rw [hg5]; exact hbc.size
  have HW5 := Lib.hid hw5
  have HG5 := Lib.hid hg5
  clear t1' h4 a4 hu1 hz4 k0 k1 l0 l1 t0 t1 hw5 hg5 hal mx hbc
  have hbc := hbcn
  clear hbcn
  have k0 := (HM1.out _ hbc).cell 0
  have k1 := (HM1.out _ hbc).cell 1
  have l0 := (HM2.out _ hbc).cell 0
  have l1 := (HM2.out _ hbc).cell 1
  have t0 := (HM3.out _ hbc).cell 0
  have t1 := (HM3.out _ hbc).cell 1
  simp at k0 k1 l0 l1 t0 t1
  have p0 := (HM5.out _ (Below.refl _ _)).cell 0
  have p1 := (HM5.out _ (Below.refl _ _)).cell 1
  simp at p0 p1
  rw [HW5.out] at k0 k1 l0 l1 t0 t1 p0 p1
  rw [HG5.out] at p0 p1
  -- a, f := Add(a, t)
  go_wp2_with fail
  rw [← HW5.out, ← HG5.out]
  have hL1 : n1 ≤ 61 := by have := (HK1.out.trs hbc.size).1; have := HO1.out.2; have := HTL.out; omega
  refine (padd16 i A1 C' D' n1 c1 m' e' k' f' u1 us vs w5 (HK1.out.trs hbc.size) (HU.out _ hbc) hme' (HV.out _ hbc) hkf' HO1.out.1.1 HO1.out.1.2.1 (by omega)).mono ?_
  rintro r w6 h6
  obtain ⟨e2, u2, hu2, A2, n2, c2, rfl, hc2, t2', a6⟩ := h6.resK hbc.size HK1.out hc1
  have HQ2 := Lib.hid hu2
  have HO2 := Lib.hid (hu2.okt HO1.out.1 (by have := HO1.out.2; have := HTL.out; omega))
  have hbc := bt hbc a6
  have hm6 := HM5.out _ a6
  have q0 := hm6.cell 0
  have q1 := hm6.cell 1
  have f0 := hm6.free 0
  have f1 := hm6.free 1
  simp at q0 q1
  obtain ⟨w7, hw7⟩ : ∃ w7, w7 = (w6.setCell ⟨g5, 0, none⟩ (.int .i64 i)).setCell ⟨g5, 1, none⟩ (.slice A2 n2 c2) := ⟨_, rfl⟩
  have hbc7 : Below w0.heap.size w0 w7 := by rw [hw7]; exact set2B hbc hz5 (.int .i64 i) (.slice A2 n2 c2)
  have m7 : Bx w7 g5 #[.int .i64 i, .slice A2 n2 c2] 24 := by rw [hw7]; exact hm6.set2 (.int .i64 i) (.slice A2 n2 c2)
  have hk7 : TrsK w0.heap.size w7 A2 n2 u2 := by rw [hw7]; exact (t2'.setX hm6 hz5 0 (.int .i64 i)).setX (hm6.set 0 (.int .i64 i)) hz5 1 (.slice A2 n2 c2)
  have HM7 := Lib.hid (fun (W : World) (h : Below w7.heap.size w7 W) => m7.on h)
  have HK7 := Lib.hid (fun (W : World) (h : Below w7.heap.size w7 W) => hk7.below hbc7.size h)
  have HW7 := Lib.hid hw7
  clear k0 k1 l0 l1 t0 t1 p0 p1
  go_upto_region 5 with fail
  rw [← HW7.out]
  clear q0 q1 f0 f1 hm6 hw7 m7 hk7 t2' h6 a6 hu2 hbc
  have hbc := hbc7
  clear hbc7
  -- b, g := Add(o, t)
  have k0 := (HM1.out _ hbc).cell 0
  have k1 := (HM1.out _ hbc).cell 1
  have l0 := (HM2.out _ hbc).cell 0
  have l1 := (HM2.out _ hbc).cell 1
  have t0 := (HM3.out _ hbc).cell 0
  have t1 := (HM3.out _ hbc).cell 1
  simp at k0 k1 l0 l1 t0 t1
  go_wp2_with fail
  refine (padd16 i T C' D' tn tc m' e' k' f' ts us vs w7 (HT.out _ hbc) (HU.out _ hbc) hme' (HV.out _ hbc) hkf' HO.out.1 HO.out.2.1 (by omega)).mono ?_
  rintro r w8 h8
  obtain ⟨e3, u3, hu3, A3, n3, c3, rfl, hc3, t3', a8⟩ := h8.resK hbc.size (HTK.out _ hbc) htc
  have hbc := bt hbc a8
  have HQ3 := Lib.hid hu3
  have HO3 := Lib.hid (hu3.okt HO.out (by have := HTL.out; omega))
  obtain ⟨w9, hw9⟩ : ∃ w9, w9 = w8.alloc (.cells #[.int .i64 i, .slice A3 n3 c3] 24) := ⟨_, rfl⟩
  obtain ⟨g9, hg9⟩ : ∃ g9, g9 = w8.heap.size := ⟨_, rfl⟩
  have hal : Below w8.heap.size w8 w9 := by rw [hw9]; exact alloc_below _ _
  have mx : Bx w9 g9 #[.int .i64 i, .slice A3 n3 c3] 24 := by rw [hw9, hg9]; exact bx_new _ _ _
  have hbcn := bt hbc hal
  have HM9 := Lib.hid (fun (W : World) (h : Below w9.heap.size w9 W) => mx.on h)
  have HK3 := Lib.hid (t3'.below hbc.size hal)
  have hz9 : w0.heap.size ≤ g9 := by rw [hg9]; exact hbc.size
  have H79 := Lib.hid (bt a8 hal)
  have hg59 : g5 ≠ g9 := by rw [hg9]; have := (HM7.out _ a8).lt; omega
  have HW9 := Lib.hid hw9
  have HG9 := Lib.hid hg9
  clear t3' h8 a8 hu3 k0 k1 l0 l1 t0 t1 hw9 hg9 hal mx hbc
  have hbc := hbcn
  clear hbcn
  have k0 := (HM1.out _ hbc).cell 0
  have k1 := (HM1.out _ hbc).cell 1
  have l0 := (HM2.out _ hbc).cell 0
  have l1 := (HM2.out _ hbc).cell 1
  have t0 := (HM3.out _ hbc).cell 0
  have t1 := (HM3.out _ hbc).cell 1
  simp at k0 k1 l0 l1 t0 t1
  have p0 := (HM9.out _ (Below.refl _ _)).cell 0
  have p1 := (HM9.out _ (Below.refl _ _)).cell 1
  simp at p0 p1
  rw [HW9.out] at k0 k1 l0 l1 t0 t1 p0 p1
  rw [HG9.out] at p0 p1
  -- b, h := Add(b, s)
  go_wp2_with fail
  rw [← HW9.out, ← HG9.out]
  have hL3 : n3 ≤ 61 := by have := (HK3.out.trs hbc.size).1; have := HO3.out.2; have := HTL.out; omega
  refine (padd16 i A3 C D n3 c3 m e k f u3 xs ys w9 (HK3.out.trs hbc.size) (HX.out _ hbc) hme (HY.out _ hbc) hkf HO3.out.1.1 HO3.out.1.2.1 (by omega)).mono ?_
  rintro r w10 h10
  obtain ⟨e4, u4, hu4, A4, n4, c4, rfl, hc4, t4', a10⟩ := h10.resK hbc.size HK3.out hc3
  have HQ4 := Lib.hid hu4
  have hbc := bt hbc a10
  have hm10 := HM9.out _ a10
  have q0 := hm10.cell 0
  have q1 := hm10.cell 1
  have f0 := hm10.free 0
  have f1 := hm10.free 1
  simp at q0 q1
  have h710 := bt H79.out a10
  obtain ⟨wA, hwA⟩ : ∃ wA, wA = (w10.setCell ⟨g9, 0, none⟩ (.int .i64 i)).setCell ⟨g9, 1, none⟩ (.slice A4 n4 c4) := ⟨_, rfl⟩
  have hbcA : Below w0.heap.size w0 wA := by rw [hwA]; exact set2B hbc hz9 (.int .i64 i) (.slice A4 n4 c4)
  have mA : Bx wA g9 #[.int .i64 i, .slice A4 n4 c4] 24 := by rw [hwA]; exact hm10.set2 (.int .i64 i) (.slice A4 n4 c4)
  have kA : TrsK w0.heap.size wA A4 n4 u4 := by rw [hwA]; exact (t4'.setX hm10 hz9 0 (.int .i64 i)).setX (hm10.set 0 (.int .i64 i)) hz9 1 (.slice A4 n4 c4)
  have mB : Bx wA g5 #[.int .i64 i, .slice A2 n2 c2] 24 := by rw [hwA]; exact ((HM7.out _ h710).other hg59 _).other hg59 _
  have kB : TrsK w0.heap.size wA A2 n2 u2 := by rw [hwA]; exact ((HK7.out _ h710).setX hm10 hz9 0 (.int .i64 i)).setX (hm10.set 0 (.int .i64 i)) hz9 1 (.slice A4 n4 c4)
  have HMA := Lib.hid (fun (W : World) (h : Below wA.heap.size wA W) => mA.on h)
  have HKA := Lib.hid (fun (W : World) (h : Below wA.heap.size wA W) => kA.below hbcA.size h)
  have HMB := Lib.hid (fun (W : World) (h : Below wA.heap.size wA W) => mB.on h)
  have HKB := Lib.hid (fun (W : World) (h : Below wA.heap.size wA W) => kB.below hbcA.size h)
  have HWA := Lib.hid hwA
  clear k0 k1 l0 l1 t0 t1 p0 p1
  go_upto_region 7 with fail
  rw [← HWA.out]
  clear q0 q1 f0 f1 hm10 hwA mA kA mB kB t4' h10 a10 hu4 h710 hbc
  have hbc := hbcA
  clear hbcA
  by_cases hz1 : e1 = 0
  case neg =>
    have hne : (e1 != 0) = true := by simpa using hz1
    clear hz1
    go_wp2_with fail
    refine (awake16 _).mono ?_
    rintro r w9 ⟨rfl, a9⟩
    go_wp2
    go_ret
    exact ⟨rfl, bt HB0.out (bt hbc a9)⟩
  subst hz1
  by_cases hz2 : e2 = 0
  case neg =>
    have hne : (e2 != 0) = true := by simpa using hz2
    clear hz2
    go_wp2_with fail
    refine (awake16 _).mono ?_
    rintro r w9 ⟨rfl, a9⟩
    go_wp2
    go_ret
    exact ⟨rfl, bt HB0.out (bt hbc a9)⟩
  subst hz2
  by_cases hz3 : e3 = 0
  case neg =>
    have hne : (e3 != 0) = true := by simpa using hz3
    clear hz3
    go_wp2_with fail
    refine (awake16 _).mono ?_
    rintro r w9 ⟨rfl, a9⟩
    go_wp2
    go_ret
    exact ⟨rfl, bt HB0.out (bt hbc a9)⟩
  subst hz3
  by_cases hz4 : e4 = 0
  case neg =>
    have hne : (e4 != 0) = true := by simpa using hz4
    clear hz4
    go_wp2_with fail
    refine (awake16 _).mono ?_
    rintro r w9 ⟨rfl, a9⟩
    go_wp2
    go_ret
    exact ⟨rfl, bt HB0.out (bt hbc a9)⟩
  subst hz4
  obtain ⟨_, hu24, hcs, hct, hco⟩ := ins_comm (s := (xs, ys)) (t := (us, vs)) HO.out (by have := HTL.out; omega) HQ1.out.ins HQ2.out.ins HQ3.out.ins HQ4.out.ins
  subst hu24
  have HCS := Lib.hid hcs
  have HCT := Lib.hid hct
  have HCO := Lib.hid hco
  have HPS := Lib.hid HQ1.out.ins.prp
  clear hcs hct hco
  have HL2 := Lib.hid (show u2.length ≤ 62 by have := HO2.out.2; have := HO1.out.2; have := HTL.out; omega)
  have hn2 : n2 ≤ 62 := by have := (HKB.out _ (Below.refl _ _)).trs hbc.size; have := this.1; have := HL2.out; omega
  have HBA := Lib.hid hbc
  -- c, k := Add(a, s)
  have k0 := (HM1.out _ hbc).cell 0
  have k1 := (HM1.out _ hbc).cell 1
  have l0 := (HM2.out _ hbc).cell 0
  have l1 := (HM2.out _ hbc).cell 1
  have t0 := (HM3.out _ hbc).cell 0
  have t1 := (HM3.out _ hbc).cell 1
  simp at k0 k1 l0 l1 t0 t1
  have p0 := (HMB.out _ (Below.refl _ _)).cell 0
  have p1 := (HMB.out _ (Below.refl _ _)).cell 1
  simp at p0 p1
  go_wp2_with fail
  refine (padd16 i A2 C D n2 c2 m e k f u2 xs ys wA ((HKB.out _ (Below.refl _ _)).trs hbc.size) (HX.out _ hbc) hme (HY.out _ hbc) hkf HO2.out.1.1 HO2.out.1.2.1 (by omega)).mono ?_
  rintro r w12 h12
  obtain ⟨e5, u5, hu5, A5, n5, c5, rfl, hc5, t5', a12⟩ := h12.resK hbc.size (HKB.out _ (Below.refl _ _)) hc2
  have he5 : e5 = 0 ∧ u5 = u2 := by
    obtain ⟨t', h1, h2⟩ := hu5
    obtain ⟨h3, h4⟩ := ins_again h1 HO2.out.1 (by have := HL2.out; omega) HPS.out HCS.out
    rw [if_pos h3] at h2
    exact ⟨h3, h2.trans h4⟩
  obtain ⟨rfl, rfl⟩ := he5
  have hbc := bt hbc a12
  obtain ⟨w13, hw13⟩ : ∃ w13, w13 = w12.alloc (.cells #[.int .i64 i, .slice A5 n5 c5] 24) := ⟨_, rfl⟩
  obtain ⟨g13, hg13⟩ : ∃ g13, g13 = w12.heap.size := ⟨_, rfl⟩
  have hal : Below w12.heap.size w12 w13 := by rw [hw13]; exact alloc_below _ _
  have mx : Bx w13 g13 #[.int .i64 i, .slice A5 n5 c5] 24 := by rw [hw13, hg13]; exact bx_new _ _ _
  have hbcn := bt hbc hal
  have HM13 := Lib.hid (fun (W : World) (h : Below w13.heap.size w13 W) => mx.on h)
  have HK5 := Lib.hid (t5'.below hbc.size hal)
  have hz13 : w0.heap.size ≤ g13 := by rw [hg13]; exact hbc.size
  have HBA13 := Lib.hid (bt a12 hal)
  have HT5 := Lib.hid (fun (W : World) (h : Below w13.heap.size w13 W) => ((t5'.below hbc.size hal).trs hbcn.size).below h)
  have HW13 := Lib.hid hw13
  have HG13 := Lib.hid hg13
  clear t5' h12 a12 p0 p1 k0 k1 l0 l1 t0 t1 hw13 hg13 hal mx hbc
  have hbc := hbcn
  clear hbcn
  have k0 := (HM1.out _ hbc).cell 0
  have k1 := (HM1.out _ hbc).cell 1
  have l0 := (HM2.out _ hbc).cell 0
  have l1 := (HM2.out _ hbc).cell 1
  have t0 := (HM3.out _ hbc).cell 0
  have t1 := (HM3.out _ hbc).cell 1
  simp at k0 k1 l0 l1 t0 t1
  have p0 := (HMB.out _ HBA13.out).cell 0
  have p1 := (HMB.out _ HBA13.out).cell 1
  simp at p0 p1
  rw [HW13.out] at k0 k1 l0 l1 t0 t1 p0 p1
  -- x, ok := Answer(a, s.In)
  go_wp2_with fail
  rw [← HW13.out, ← HG13.out]
  refine (panswer16 i A2 C n2 c2 m e u5 xs w13 ((HKB.out _ HBA13.out).trs (Nat.le_trans HBA.out.size HBA13.out.size)) hc2 (HX.out _ hbc) HO2.out.1.1 HO2.out.1.2.1).mono ?_
  rintro r w14 hans
  obtain ⟨A6, c6, rfl, i6, a14⟩ := ans_cov hans HO2.out.1.2.1 HO2.out.1.2.2.2.2.2 HLX.out HNX.out HCS.out
  have hbc := bt hbc a14
  have HBA14 := Lib.hid (bt HBA13.out a14)
  have HB1314 := Lib.hid a14
  have HI6 := Lib.hid (fun (W : World) (h : Below w14.heap.size w14 W) => i6.below h)
  clear hans i6 a14 k0 k1 l0 l1 t0 t1 p0 p1
  have k0 := (HM1.out _ hbc).cell 0
  have k1 := (HM1.out _ hbc).cell 1
  have l0 := (HM2.out _ hbc).cell 0
  have l1 := (HM2.out _ hbc).cell 1
  have t0 := (HM3.out _ hbc).cell 0
  have t1 := (HM3.out _ hbc).cell 1
  simp at k0 k1 l0 l1 t0 t1
  have p0 := (HMB.out _ HBA14.out).cell 0
  have p1 := (HMB.out _ HBA14.out).cell 1
  simp at p0 p1
  go_wp2_with fail
  refine (panswer16 i A2 C' n2 c2 m' e' u5 us w14 ((HKB.out _ HBA14.out).trs (Nat.le_trans HBA.out.size HBA14.out.size)) hc2 (HU.out _ hbc) HO2.out.1.1 HO2.out.1.2.1).mono ?_
  rintro r w15 hans
  obtain ⟨A7, c7, rfl, i7, a15⟩ := ans_cov hans HO2.out.1.2.1 HO2.out.1.2.2.2.2.2 HLU.out HNU.out HCT.out
  have hbc := bt hbc a15
  have HBA15 := Lib.hid (bt HBA14.out a15)
  have HB1315 := Lib.hid (bt HB1314.out a15)
  have HI7 := Lib.hid (fun (W : World) (h : Below w15.heap.size w15 W) => i7.below h)
  have HI6 := Lib.hid (fun (W : World) (h : Below w15.heap.size w15 W) => HI6.out _ (bt a15 h))
  clear hans i7 a15 k0 k1 l0 l1 t0 t1 p0 p1
  -- Same(a, b)
  have k0 := (HM1.out _ hbc).cell 0
  have k1 := (HM1.out _ hbc).cell 1
  have l0 := (HM2.out _ hbc).cell 0
  have l1 := (HM2.out _ hbc).cell 1
  have t0 := (HM3.out _ hbc).cell 0
  have t1 := (HM3.out _ hbc).cell 1
  simp at k0 k1 l0 l1 t0 t1
  have p0 := (HMB.out _ HBA15.out).cell 0
  have p1 := (HMB.out _ HBA15.out).cell 1
  simp at p0 p1
  have r0 := (HMA.out _ HBA15.out).cell 0
  have r1 := (HMA.out _ HBA15.out).cell 1
  simp at r0 r1
  go_wp2_with fail
  refine (psame_eq16 i A2 A4 n2 c2 n4 c4 u5 w15 ((HKB.out _ HBA15.out).trs (Nat.le_trans HBA.out.size HBA15.out.size)) ((HKA.out _ HBA15.out).trs (Nat.le_trans HBA.out.size HBA15.out.size))).mono ?_
  rintro r w16 ⟨rfl, a16⟩
  have hbc := bt hbc a16
  have HBA16 := Lib.hid (bt HBA15.out a16)
  have HB1316 := Lib.hid (bt HB1315.out a16)
  have HB1516 := Lib.hid a16
  clear a16 k0 k1 l0 l1 t0 t1 p0 p1 r0 r1
  -- Same(a, c)
  have k0 := (HM1.out _ hbc).cell 0
  have k1 := (HM1.out _ hbc).cell 1
  have l0 := (HM2.out _ hbc).cell 0
  have l1 := (HM2.out _ hbc).cell 1
  have t0 := (HM3.out _ hbc).cell 0
  have t1 := (HM3.out _ hbc).cell 1
  simp at k0 k1 l0 l1 t0 t1
  have p0 := (HMB.out _ HBA16.out).cell 0
  have p1 := (HMB.out _ HBA16.out).cell 1
  simp at p0 p1
  have r0 := (HM13.out _ HB1316.out).cell 0
  have r1 := (HM13.out _ HB1316.out).cell 1
  simp at r0 r1
  go_wp2_with fail
  refine (psame_eq16 i A2 A5 n2 c2 n5 c5 u5 w16 ((HKB.out _ HBA16.out).trs (Nat.le_trans HBA.out.size HBA16.out.size)) (HT5.out _ HB1316.out)).mono ?_
  rintro r w17 ⟨rfl, a17⟩
  have hbc := bt hbc a17
  have HBA17 := Lib.hid (bt HBA16.out a17)
  have HB1517 := Lib.hid (bt HB1516.out a17)
  clear a17 k0 k1 l0 l1 t0 t1 p0 p1 r0 r1
  have k0 := (HM1.out _ hbc).cell 0
  have k1 := (HM1.out _ hbc).cell 1
  have l0 := (HM2.out _ hbc).cell 0
  have l1 := (HM2.out _ hbc).cell 1
  have t0 := (HM3.out _ hbc).cell 0
  have t1 := (HM3.out _ hbc).cell 1
  simp at k0 k1 l0 l1 t0 t1
  go_wp2_with fail
  refine (rints A6 D m c6 k f ys ys true w17 (HI6.out _ HB1517.out) (HY.out _ hbc) (by simp)).mono ?_
  rintro r w18 ⟨rfl, q18, rfl⟩
  have hbc := below_drewN hbc q18
  have HBA18 := Lib.hid (below_drewN HBA17.out q18)
  have HB1518 := Lib.hid (below_drewN HB1517.out q18)
  clear k0 k1 l0 l1 t0 t1
  have k0 := (HM1.out _ hbc).cell 0
  have k1 := (HM1.out _ hbc).cell 1
  have l0 := (HM2.out _ hbc).cell 0
  have l1 := (HM2.out _ hbc).cell 1
  have t0 := (HM3.out _ hbc).cell 0
  have t1 := (HM3.out _ hbc).cell 1
  simp at k0 k1 l0 l1 t0 t1
  go_wp2_with fail
  refine (rints A7 D' m' c7 k' f' vs vs true _ (HI7.out _ HB1518.out) (HV.out _ hbc) (by simp)).mono ?_
  rintro r w19 ⟨rfl, q19, rfl⟩
  have hbc := below_drewN hbc q19
  have HBA19 := Lib.hid (below_drewN HBA18.out q19)
  generalize (w17.drewN q18).drewN q19 = w19 at hbc HBA19 ⊢
  clear k0 k1 l0 l1 t0 t1
  have k0 := (HM1.out _ hbc).cell 0
  have k1 := (HM1.out _ hbc).cell 1
  have l0 := (HM2.out _ hbc).cell 0
  have l1 := (HM2.out _ hbc).cell 1
  have t0 := (HM3.out _ hbc).cell 0
  have t1 := (HM3.out _ hbc).cell 1
  simp at k0 k1 l0 l1 t0 t1
  have p0 := (HMB.out _ HBA19.out).cell 0
  have p1 := (HMB.out _ HBA19.out).cell 1
  simp at p0 p1
  go_wp2_with fail
  refine (pvalid16 i A2 n2 c2 u5 w19 ((HKB.out _ HBA19.out).trs (Nat.le_trans HBA.out.size HBA19.out.size)) hc2).mono ?_
  rintro r w20 ⟨v, rfl, hv, a20⟩
  obtain rfl : v = 0 := vld16_good hv HI.out.1 HI.out.2 (by have := HL2.out; omega) HO2.out.1.1 HO2.out.1.2.2.1 HO2.out.1.2.2.2.1 HO2.out.1.2.2.2.2.1 HO2.out.1.2.2.2.2.2
  have HBA20 := Lib.hid (bt HBA19.out a20)
  clear hv a20 k0 k1 l0 l1 t0 t1 p0 p1 hbc
  go_wp2_with fail
  go_loopw [19] (fun v19 wr => ∃ s : Nat, v19 = .int .i64 s ∧ s ≤ tn ∧ Hid (Below wA.heap.size wA wr)) (fun v19 _ => tn - (intOf v19).toNat)
  case atStart => exact ⟨0, rfl, Nat.zero_le _, HBA20⟩
  case round =>
    clear HBA20
    obtain ⟨s, rfl, hsp, HBR⟩ := hrel
    have hbr := bt HBA.out HBR.out
    have k1 := (HM1.out _ hbr).cell 1
    simp at k1
    by_cases hlt : s < tn
    · obtain ⟨b, off, B1, m1, d1, B2, m2, d2, eT, hgb, j1, j2, _, _, j3, j4⟩ := (HT.out _ HBA.out).at_ hlt
      subst eT
      have HCV := Lib.hid (show Cov u5 (tIn ts s, tOut ts s) by
        have hs : s < ts.length := by rw [HLT.out]; exact hlt
        have := HCO.out _ (List.getElem_mem hs)
        rw [tIn_gt hs, tOut_gt hs]
        exact this)
      have HJ3 := Lib.hid (fun (W : World) (h : Below wA.heap.size wA W) => j3.below h)
      have HJ4 := Lib.hid (fun (W : World) (h : Below wA.heap.size wA W) => j4.below h)
      have HL3 := Lib.hid j3.1
      have HN3 := Lib.hid j3.2.1
      have HS := Lib.hid (show ∀ W, Below wA.heap.size wA W → Bx W g5 #[.int .i64 i, .slice A2 n2 c2] 24 ∧ W.cell? ⟨w.heap.size, 1, none⟩ = some (.slice (some ⟨b, off, none⟩) tn tc) ∧ W.cell? ⟨b, off + s * 2, none⟩ = some (.slice B1 m1 d1) from fun W h => ⟨HMB.out _ h, by have := (HM1.out _ (bt HBA.out h)).cell 1; simpa using this, (h.cell (p := ⟨b, off + s * 2, none⟩) hgb).trans j1⟩)
      have HJ2 := Lib.hid (fun (W : World) (h : Below wA.heap.size wA W) => (h.cell (p := ⟨b, off + s * 2 + 1, none⟩) hgb).trans j2)
      have hsI : (s : Int) < (tn : Int) := by omega
      have hs0 : (0 : Int) ≤ (s : Int) := by omega
      have ws1 : IntKind.i64.wrap ((s : Int) + 1) = ((s + 1 : Nat) : Int) := by rw [IntKind.wrap_i64]; omega
      clear j1 j2 j3 j4 hgb
      go_upto_region 17 with fail
      have hbf : Below wA.heap.size wA wr.drew := below_drewN HBR.out 1
      refine wp_region_heldX (X := fun k => ([] : List Nat).contains k) (S := fun W => Bx W g5 #[.int .i64 i, .slice A2 n2 c2] 24 ∧ W.cell? ⟨w.heap.size, 1, none⟩ = some (.slice (some ⟨b, off, none⟩) tn tc) ∧ W.cell? ⟨b, off + s * 2, none⟩ = some (.slice B1 m1 d1)) (by kernel_rfl) ?_
      generalize wr.drew = wkd at hbf ⊢
      refine wpAnyX_takeL (L := []) (i := 0) (v := .agg (#[.int .i64 i, .slice A2 n2 c2])) rfl (by kernel_rfl) (by kernel_rfl) (by kernel_rfl) (by kernel_rfl) (fun _ _ _ h => h) (Or.inl ⟨by rfl, fun W hSW => run_load_bx 24 _ rfl (g5) rfl 24 (#[.int .i64 i, .slice A2 n2 c2]) (0, 0) _ (hSW.1) Try.underlying24 rfl (by kernel_rfl)⟩) (HS.out _ hbf) ?_
      (try simp only [Act.put, List.getElem_toArray, List.getElem_cons_zero, List.getElem_cons_succ, List.setIfInBounds_toArray, List.set_cons_zero, List.set_cons_succ])
      refine wpAnyX_pure (i := 1) (v := ?_) rfl (by kernel_rfl) (by kernel_rfl) (by kernel_rfl) (fun _ _ _ h => h) (Or.inl ⟨by rfl, ?_⟩) ?_
      rotate_left
      · (intro W _; go_simp; try with_reducible rfl)
      (try simp only [Act.put, List.getElem_toArray, List.getElem_cons_zero, List.getElem_cons_succ, List.setIfInBounds_toArray, List.set_cons_zero, List.set_cons_succ])
      refine wpAnyX_takeL (L := []) (i := 2) (v := ?_) rfl (by kernel_rfl) (by kernel_rfl) (by kernel_rfl) (by kernel_rfl) (fun _ _ _ h => h) (Or.inl ⟨by rfl, ?_⟩) (HS.out _ hbf) ?_
      rotate_left
      · (intro W hSW; (try dsimp only at hSW); obtain ⟨z0, z1, z2⟩ := hSW; go_simp; try with_reducible rfl)
      (try simp only [Act.put, List.getElem_toArray, List.getElem_cons_zero, List.getElem_cons_succ, List.setIfInBounds_toArray, List.set_cons_zero, List.set_cons_succ])
      refine wpAnyX_pure (i := 3) (v := ?_) rfl (by kernel_rfl) (by kernel_rfl) (by kernel_rfl) (fun _ _ _ h => h) (Or.inl ⟨by rfl, ?_⟩) ?_
      rotate_left
      · (intro W _; go_simp; try with_reducible rfl)
      (try simp only [Act.put, List.getElem_toArray, List.getElem_cons_zero, List.getElem_cons_succ, List.setIfInBounds_toArray, List.set_cons_zero, List.set_cons_succ])
      refine wpAnyX_pure (i := 4) (v := ?_) rfl (by kernel_rfl) (by kernel_rfl) (by kernel_rfl) (fun _ _ _ h => h) (Or.inl ⟨by rfl, ?_⟩) ?_
      rotate_left
      · (intro W _; go_simp; try with_reducible rfl)
      (try simp only [Act.put, List.getElem_toArray, List.getElem_cons_zero, List.getElem_cons_succ, List.setIfInBounds_toArray, List.set_cons_zero, List.set_cons_succ])
      refine wpAnyX_pure (i := 5) (v := ?_) rfl (by kernel_rfl) (by kernel_rfl) (by kernel_rfl) (fun _ _ _ h => h) (Or.inl ⟨by rfl, ?_⟩) ?_
      rotate_left
      · (intro W _; go_simp; try with_reducible rfl)
      (try simp only [Act.put, List.getElem_toArray, List.getElem_cons_zero, List.getElem_cons_succ, List.setIfInBounds_toArray, List.set_cons_zero, List.set_cons_succ])
      refine wpAnyX_takeL (L := []) (i := 6) (v := ?_) rfl (by kernel_rfl) (by kernel_rfl) (by kernel_rfl) (by kernel_rfl) (fun _ _ _ h => h) (Or.inl ⟨by rfl, ?_⟩) (HS.out _ hbf) ?_
      rotate_left
      · (intro W hSW; (try dsimp only at hSW); obtain ⟨z0, z1, z2⟩ := hSW; go_simp; try with_reducible rfl)
      (try simp only [Act.put, List.getElem_toArray, List.getElem_cons_zero, List.getElem_cons_succ, List.setIfInBounds_toArray, List.set_cons_zero, List.set_cons_succ])
      refine wpAnyX_one (i := 7) rfl (by kernel_rfl) (fun K hK => ?_)
      go_simp
      go_at_call 19
      refine (panswer16 i A2 B1 n2 c2 m1 d1 u5 (tIn ts s) _ ((HKB.out _ hbf).trs (Nat.le_trans HBA.out.size hbf.size)) hc2 (HJ3.out _ hbf) HO2.out.1.1 HO2.out.1.2.1).mono ?_
      rintro r x8 hans
      obtain ⟨A8, c8, rfl, i8, a8⟩ := ans_cov hans HO2.out.1.2.1 HO2.out.1.2.2.2.2.2 HL3.out HN3.out HCV.out
      have hbf := bt hbf a8
      clear a8
      refine hK.out _ _ (fun _ _ => HS.out _ hbf) ?_
      (try simp only [Act.put, List.getElem_toArray, List.getElem_cons_zero, List.getElem_cons_succ, List.setIfInBounds_toArray, List.set_cons_zero, List.set_cons_succ])
      refine wpAnyX_pure (i := 8) (v := ?_) rfl (by kernel_rfl) (by kernel_rfl) (by kernel_rfl) (fun _ _ _ h => h) (Or.inl ⟨by rfl, ?_⟩) ?_
      rotate_left
      · (intro W _; go_simp; try with_reducible rfl)
      (try simp only [Act.put, List.getElem_toArray, List.getElem_cons_zero, List.getElem_cons_succ, List.setIfInBounds_toArray, List.set_cons_zero, List.set_cons_succ])
      refine wpAnyX_pure (i := 9) (v := ?_) rfl (by kernel_rfl) (by kernel_rfl) (by kernel_rfl) (fun _ _ _ h => h) (Or.inl ⟨by rfl, ?_⟩) ?_
      rotate_left
      · (intro W _; go_simp; try with_reducible rfl)
      (try simp only [Act.put, List.getElem_toArray, List.getElem_cons_zero, List.getElem_cons_succ, List.setIfInBounds_toArray, List.set_cons_zero, List.set_cons_succ])
      refine wpAnyX_pure (i := 10) (v := ?_) rfl (by kernel_rfl) (by kernel_rfl) (by kernel_rfl) (fun _ _ _ h => h) (Or.inl ⟨by rfl, ?_⟩) ?_
      rotate_left
      · (intro W _; go_simp; try with_reducible rfl)
      (try simp only [Act.put, List.getElem_toArray, List.getElem_cons_zero, List.getElem_cons_succ, List.setIfInBounds_toArray, List.set_cons_zero, List.set_cons_succ])
      refine wpAnyX_pure (i := 11) (v := ?_) rfl (by kernel_rfl) (by kernel_rfl) (by kernel_rfl) (fun _ _ _ h => h) (Or.inl ⟨by rfl, ?_⟩) ?_
      rotate_left
      · (intro W _; go_simp; try with_reducible rfl)
      (try simp only [Act.put, List.getElem_toArray, List.getElem_cons_zero, List.getElem_cons_succ, List.setIfInBounds_toArray, List.set_cons_zero, List.set_cons_succ])
      refine wpAnyX_pure (i := 12) (v := ?_) rfl (by kernel_rfl) (by kernel_rfl) (by kernel_rfl) (fun _ _ _ h => h) (Or.inl ⟨by rfl, ?_⟩) ?_
      rotate_left
      · (intro W _; go_simp; try with_reducible rfl)
      (try simp only [Act.put, List.getElem_toArray, List.getElem_cons_zero, List.getElem_cons_succ, List.setIfInBounds_toArray, List.set_cons_zero, List.set_cons_succ])
      refine wpAnyX_done (by kernel_rfl) ?_ _
      have HBn := Lib.hid hbf
      have HII := Lib.hid (rints A8 B2 m1 c8 m2 d2 (tOut ts s) (tOut ts s) true x8 i8 (HJ4.out _ hbf) (by simp))
      have k1 := (HM1.out _ (bt HBA.out hbf)).cell 1
      have j2 := HJ2.out _ hbf
      simp at k1
      clear hbf i8 hans
      go_wp2_with fail
      refine HII.out.mono ?_
      rintro r x9 ⟨rfl, q9, rfl⟩
      clear k1 j2
      go_wp2_with fail
      go_roundw
      case rel => exact ⟨s + 1, rfl, by omega, Lib.hid (below_drewN HBn.out q9)⟩
      case measure => simp [intOf]; omega
    · have hsI : ¬ (s : Int) < (tn : Int) := by omega
      have HBF := Lib.hid (bt HB0.out hbr)
      clear hbr
      go_wp2_with fail
      refine (awake16 _).mono ?_
      rintro r x9 ⟨rfl, a9⟩
      go_wp2
      go_ret
      exact ⟨rfl, bt HBF.out a9⟩
end Go.Proofs.Ytkkmcgapbcikiaa
end
