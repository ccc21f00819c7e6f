/- Lemmas of the proofs of this seat, of the parts Mrg16, L16q. Conditions: none. -/
import Derived.Test.YtkkmcgapbcikiaaKah
import Derived.Test.YtkkmcgapbcikiaaKad
section
/- Merge of the program and of the reference of observe. -/
namespace Go.Proofs.Ytkkmcgapbcikiaa
open Go.RowKit

def MrgP (i j : Int) (T : Option Addr) (tn tc : Nat) (ts us : TSr) (w : World) (r : Ending) (w' : World) : Prop :=
  (¬ i = j ∧ r = .returned (.tuple #[.agg #[.int .i64 i, .slice T tn tc], .int .i64 15]) ∧ Below w.heap.size w w') ∨ (i = j ∧ WthE i T tn tc ts us w r w')
def MrgR (i j : Int) (T : Option Addr) (tn tc : Nat) (ts us : TSr) (w : World) (r : Ending) (w' : World) : Prop :=
  (¬ i = j ∧ r = .returned (.tuple #[.agg #[.int .i64 i, .slice T tn tc], .int .i64 15]) ∧ Below w.heap.size w w') ∨ (i = j ∧ RAllE i T tn tc ts us w r w')
/-- What Merge gives, by either way of adding. -/
def MuP (i j : Int) (ts us : TSr) (e : Int) (t : TSr) : Prop := (¬ i = j ∧ e = 15 ∧ t = ts) ∨ (i = j ∧ ∃ t', AddsR i us ts e t' ∧ t = if e = 0 then t' else ts)
def MuR (i j : Int) (ts us : TSr) (e : Int) (t : TSr) : Prop := (¬ i = j ∧ e = 15 ∧ t = ts) ∨ (i = j ∧ ∃ t', RAdds i us ts e t' ∧ t = if e = 0 then t' else ts)
theorem mu_same {i j e e' : Int} {ts us t t' : TSr} (h : MuP i j ts us e t) (h' : MuR i j ts us e' t') (hO : Okt i ts) (hl : ts.length + us.length ≤ 10000) : e = e' ∧ t = t' := by
  rcases h with ⟨h1, rfl, rfl⟩ | ⟨h1, s, h2, rfl⟩ <;> rcases h' with ⟨k1, rfl, rfl⟩ | ⟨k1, s', k2, rfl⟩
  · exact ⟨rfl, rfl⟩
  · exact absurd k1 h1
  · exact absurd h1 k1
  · obtain ⟨rfl, h3⟩ := adds_same h2 k2 hO hl
    refine ⟨rfl, ?_⟩
    by_cases h0 : e = 0
    · rw [if_pos h0, if_pos h0]
      exact (h3 h0).1
    · rw [if_neg h0, if_neg h0]
theorem MrgP.res {i j : Int} {T : Option Addr} {tn tc : Nat} {ts us : TSr} {w w' : World} {r : Ending} (h : MrgP i j T tn tc ts us w r w') (hT : Trs w T tn ts) : ∃ e t, MuP i j ts us e t ∧ ResV i e t w r w' := by
  rcases h with ⟨h1, rfl, hb⟩ | ⟨h1, hb, e, ts', h2, ⟨h3, rfl⟩ | ⟨rfl, g, N, cur, rfl, ho⟩⟩
  · exact ⟨15, ts, .inl ⟨h1, rfl, rfl⟩, T, tn, tc, rfl, hT.below hb, hb⟩
  · exact ⟨e, ts, .inr ⟨h1, ts', h2, (if_neg h3).symm⟩, T, tn, tc, rfl, hT.below hb, hb⟩
  · exact ⟨0, ts', .inr ⟨h1, ts', h2, (if_pos rfl).symm⟩, some ⟨g, 0, none⟩, ts'.length, N, rfl, ho.trs, hb⟩
theorem MrgR.res {i j : Int} {T : Option Addr} {tn tc : Nat} {ts us : TSr} {w w' : World} {r : Ending} (h : MrgR i j T tn tc ts us w r w') (hT : Trs w T tn ts) : ∃ e t, MuR i j ts us e t ∧ ResV i e t w r w' := by
  rcases h with ⟨h1, rfl, hb⟩ | ⟨h1, hb, e, ts', h2, ⟨h3, rfl⟩ | ⟨rfl, A, n, c, rfl, ho⟩⟩
  · exact ⟨15, ts, .inl ⟨h1, rfl, rfl⟩, T, tn, tc, rfl, hT.below hb, hb⟩
  · exact ⟨e, ts, .inr ⟨h1, ts', h2, (if_neg h3).symm⟩, T, tn, tc, rfl, hT.below hb, hb⟩
  · exact ⟨0, ts', .inr ⟨h1, ts', h2, (if_pos rfl).symm⟩, A, n, c, rfl, ho, hb⟩

set_option linter.unusedSimpArgs false in
set_option linter.unusedVariables false in
set_option maxHeartbeats 8000000 in
set_option maxRecDepth 100000 in
theorem pmerge16 (i j : Int) (T U : Option Addr) (tn tc un uc : Nat) (ts us : TSr) (w : World) (hT : Trs w T tn ts) (hU : Trs w U un us) (hS : Srt ts) (hF : Full ts) (htn : tn ≤ 500000) (hun : un ≤ 500000) :
    Calls Try.prog 28 #[.agg #[.int .i64 i, .slice T tn tc], .agg #[.int .i64 j, .slice U un uc]] w fun r w' => MrgP i j T tn tc ts us w r w' := by
  obtain ⟨w0, hw0⟩ : ∃ w0, w0 = ((w.alloc (.cells #[.int .i64 i, .slice T tn tc] 24)).alloc (.cells #[.int .i64 j, .slice U un uc] 24)).alloc (.cells #[.int .i64 0, .slice none 0 0] 24) := ⟨_, rfl⟩
  obtain ⟨hb0, m1, m2, m3, hs0⟩ := bxs3 w #[.int .i64 i, .slice T tn tc] #[.int .i64 j, .slice U un uc] #[.int .i64 0, .slice none 0 0] 24 24 24 w0 hw0
  have HWI := Lib.hid (pwith i T U tn tc un uc ts us w0 (hT.below hb0) (hU.below hb0) hS hF htn hun)
  have HB0 := Lib.hid hb0
  have HM3 := Lib.hid (fun (W : World) (h : Below w0.heap.size w0 W) => m3.on h)
  have HW0 := Lib.hid hw0
  have HZ := Lib.hid hs0
  have q0 := m1.cell 0
  have q1 := m1.cell 1
  have p0 := m2.cell 0
  have p1 := m2.cell 1
  have s0 := m3.cell 0
  have s1 := m3.cell 1
  have f0 := m3.free 0
  have f1 := m3.free 1
  simp at q0 q1 p0 p1 s0 s1
  rw [hw0] at q0 q1 p0 p1 s0 s1 f0 f1
  obtain ⟨wn, hwn⟩ : ∃ wn, wn = ((w.alloc (.cells #[.int .i64 i, .slice T tn tc] 24)).alloc (.cells #[.int .i64 j, .slice U un uc] 24)).alloc (.cells #[.int .i64 i, .slice T tn tc] 24) := ⟨_, rfl⟩
  obtain ⟨hbn, _, _, mn, _⟩ := bxs3 w #[.int .i64 i, .slice T tn tc] #[.int .i64 j, .slice U un uc] #[.int .i64 i, .slice T tn tc] 24 24 24 wn hwn
  have HR0 := Lib.hid mn
  have HBF0 := Lib.hid hbn
  have HWN := Lib.hid hwn
  clear hwn hbn mn
  clear hw0 hb0 m1 m2 m3 hT hU hs0 hS hF
  go_enter Try.func28, Try.ntmps28
  by_cases hij : i = j
  case neg =>
    have hne : (i != j) = true := by simpa using hij
    have HIJ := Lib.hid hij
    clear hij
    go_wp2_with fail
    rw [← HWN.out]
    (try rw [Exit.noGoto_ret])
    refine bodyPost_ret (results_obs_tmp rfl _ _ (w.heap.size + 1 + 1) (.int .i64 i) (.slice T tn tc) rfl HR0.out) rfl ?_
    exact .inl ⟨HIJ.out, rfl, HBF0.out⟩
  have hne : (i != j) = false := by simpa using hij
  have HIJ := Lib.hid hij
  clear hij
  go_wp2_with fail
  rw [← HW0.out]
  refine HWI.out.mono ?_
  clear q0 q1 p0 p1 s0 s1 f0 f1
  rintro r w2 ⟨b2, e, ts', hA, hr⟩
  have HA := Lib.hid hA
  have m3 := HM3.out _ b2
  have f0 := m3.free 0
  have f1 := m3.free 1
  have r0 := m3.cell 0
  have r1 := m3.cell 1
  simp at r0 r1
  rcases hr with ⟨he, rfl⟩ | ⟨rfl, g, N, cur', rfl, hT2⟩
  · have HE := Lib.hid he
    have HR2 := Lib.hid (m3.set2 (.int .i64 i) (.slice T tn tc))
    have HBF := Lib.hid (set2B (g := w.heap.size + 1 + 1) (bt HB0.out b2) (by omega) (.int .i64 i) (.slice T tn tc))
    clear m3 b2 hA he
    go_wp2_with fail
    (try rw [Exit.noGoto_ret])
    refine bodyPost_ret (results_obs_tmp rfl _ _ (w.heap.size + 1 + 1) (.int .i64 i) (.slice T tn tc) rfl HR2.out) rfl ?_
    exact .inr ⟨HIJ.out, HBF.out, e, ts', HA.out, .inl ⟨HE.out, rfl⟩⟩
  · obtain ⟨q, hq⟩ : ∃ q, q = ts'.length := ⟨_, rfl⟩
    rw [← hq]
    have HQ := Lib.hid hq
    clear hq
    have HR2 := Lib.hid (m3.set2 (.int .i64 i) (.slice (some ⟨g, 0, none⟩) q N))
    have HBF := Lib.hid (set2B (g := w.heap.size + 1 + 1) (bt HB0.out b2) (by omega) (.int .i64 i) (.slice (some ⟨g, 0, none⟩) q N))
    have HTF := Lib.hid ((hT2.set2 m3 (.int .i64 i) (.slice (some ⟨g, 0, none⟩) q N)).base (base' := w.heap.size) HB0.out.size)
    clear m3 b2 hA hT2
    go_wp2_with fail
    (try rw [Exit.noGoto_ret])
    refine bodyPost_ret (results_obs_tmp rfl _ _ (w.heap.size + 1 + 1) (.int .i64 i) (.slice (some ⟨g, 0, none⟩) q N) rfl HR2.out) rfl ?_
    exact .inr ⟨HIJ.out, HBF.out, 0, ts', HA.out, .inr ⟨rfl, g, N, cur', by rw [← HQ.out]; rfl, HTF.out⟩⟩
set_option linter.unusedSimpArgs false in
set_option linter.unusedVariables false in
set_option maxHeartbeats 8000000 in
set_option maxRecDepth 100000 in
theorem rmerge16 (i j : Int) (T U : Option Addr) (tn tc un uc : Nat) (ts us : TSr) (w : World) (hT : Trs w T tn ts) (hU : Trs w U un us) (hF : Full ts) (htu : tn + un < 10000) :
    Calls Try.prog 29 #[.agg #[.int .i64 i, .slice T tn tc], .agg #[.int .i64 j, .slice U un uc]] w fun r w' => MrgR i j T tn tc ts us w r w' := by
  obtain ⟨w0, hw0⟩ : ∃ w0, w0 = ((w.alloc (.cells #[.int .i64 i, .slice T tn tc] 24)).alloc (.cells #[.int .i64 j, .slice U un uc] 24)).alloc (.cells #[.int .i64 0, .slice none 0 0] 24) := ⟨_, rfl⟩
  obtain ⟨hb0, m1, m2, m3, hs0⟩ := bxs3 w #[.int .i64 i, .slice T tn tc] #[.int .i64 j, .slice U un uc] #[.int .i64 0, .slice none 0 0] 24 24 24 w0 hw0
  have HWI := Lib.hid (rallK (z := w.heap.size) i T U tn tc un uc ts us w0 hb0.size ((TrsK.of_trs hT).below (Nat.le_refl _) hb0) (hU.below hb0) hF htu)
  have HB0 := Lib.hid hb0
  have HM3 := Lib.hid (fun (W : World) (h : Below w0.heap.size w0 W) => m3.on h)
  have HW0 := Lib.hid hw0
  have HZ := Lib.hid hs0
  have q0 := m1.cell 0
  have q1 := m1.cell 1
  have p0 := m2.cell 0
  have p1 := m2.cell 1
  have s0 := m3.cell 0
  have s1 := m3.cell 1
  have f0 := m3.free 0
  have f1 := m3.free 1
  simp at q0 q1 p0 p1 s0 s1
  rw [hw0] at q0 q1 p0 p1 s0 s1 f0 f1
  obtain ⟨wn, hwn⟩ : ∃ wn, wn = ((w.alloc (.cells #[.int .i64 i, .slice T tn tc] 24)).alloc (.cells #[.int .i64 j, .slice U un uc] 24)).alloc (.cells #[.int .i64 i, .slice T tn tc] 24) := ⟨_, rfl⟩
  obtain ⟨hbn, _, _, mn, _⟩ := bxs3 w #[.int .i64 i, .slice T tn tc] #[.int .i64 j, .slice U un uc] #[.int .i64 i, .slice T tn tc] 24 24 24 wn hwn
  have HR0 := Lib.hid mn
  have HBF0 := Lib.hid hbn
  have HWN := Lib.hid hwn
  clear hwn hbn mn
  clear hw0 hb0 m1 m2 m3 hT hU hs0 hF
  go_enter Try.func29, Try.ntmps29
  by_cases hij : i = j
  case neg =>
    have hne : (i != j) = true := by simpa using hij
    have HIJ := Lib.hid hij
    clear hij
    go_wp2_with fail
    rw [← HWN.out]
    (try rw [Exit.noGoto_ret])
    refine bodyPost_ret (results_obs_tmp rfl _ _ (w.heap.size + 1 + 1) (.int .i64 i) (.slice T tn tc) rfl HR0.out) rfl ?_
    exact .inl ⟨HIJ.out, rfl, HBF0.out⟩
  have hne : (i != j) = false := by simpa using hij
  have HIJ := Lib.hid hij
  clear hij
  go_wp2_with fail
  rw [← HW0.out]
  refine HWI.out.mono ?_
  clear q0 q1 p0 p1 s0 s1 f0 f1
  rintro r w2 ⟨b2, e, ts', hA, hr⟩
  have HA := Lib.hid hA
  have m3 := HM3.out _ b2
  have f0 := m3.free 0
  have f1 := m3.free 1
  have r0 := m3.cell 0
  have r1 := m3.cell 1
  simp at r0 r1
  rcases hr with ⟨he, rfl⟩ | ⟨rfl, A, n, c, rfl, hT2⟩
  · have HE := Lib.hid he
    have HR2 := Lib.hid (m3.set2 (.int .i64 i) (.slice T tn tc))
    have HBF := Lib.hid (set2B (g := w.heap.size + 1 + 1) (bt HB0.out b2) (by omega) (.int .i64 i) (.slice T tn tc))
    clear m3 b2 hA he
    go_wp2_with fail
    (try rw [Exit.noGoto_ret])
    refine bodyPost_ret (results_obs_tmp rfl _ _ (w.heap.size + 1 + 1) (.int .i64 i) (.slice T tn tc) rfl HR2.out) rfl ?_
    exact .inr ⟨HIJ.out, HBF.out, e, ts', HA.out, .inl ⟨HE.out, rfl⟩⟩
  · have HR2 := Lib.hid (m3.set2 (.int .i64 i) (.slice A n c))
    have hz := (bt HB0.out b2).size
    have HBF := Lib.hid (set2B (g := w.heap.size + 1 + 1) (bt HB0.out b2) (by omega) (.int .i64 i) (.slice A n c))
    have HTF := Lib.hid (((hT2.setX m3 (by omega) 0 (.int .i64 i)).setX (m3.set 0 (.int .i64 i)) (by omega) 1 (.slice A n c)).trs HBF.out.size)
    clear m3 b2 hA hT2
    go_wp2_with fail
    (try rw [Exit.noGoto_ret])
    refine bodyPost_ret (results_obs_tmp rfl _ _ (w.heap.size + 1 + 1) (.int .i64 i) (.slice A n c) rfl HR2.out) rfl ?_
    exact .inr ⟨HIJ.out, HBF.out, 0, ts', HA.out, .inr ⟨rfl, A, n, c, rfl, HTF.out⟩⟩
end Go.Proofs.Ytkkmcgapbcikiaa
end

section
/- The law ObserveMerges: the walk. -/
namespace Go.Proofs.Ytkkmcgapbcikiaa
open Go.RowKit

set_option linter.unusedSimpArgs false in
set_option linter.unusedVariables false in
set_option maxHeartbeats 16000000 in
set_option maxRecDepth 100000 in
theorem merges16_walk (i j : Int) (T U : Option Addr) (tn tc un uc : Nat) (ts us : TSr) (w : World) (hT : Trs w T tn ts) (htc : tn ≤ tc) (hU : Trs w U un us) (huc : un ≤ uc) :
    Calls Try.prog 6 #[.agg #[.int .i64 i, .slice T tn tc], .agg #[.int .i64 j, .slice U un uc]] w fun r w' => r = .returned (.bool true) ∧ Below w.heap.size w w' := by
  obtain ⟨w0, hw0⟩ : ∃ w0, w0 = (w.alloc (.cells #[.int .i64 i, .slice T tn tc] 24)).alloc (.cells #[.int .i64 j, .slice U un uc] 24) := ⟨_, rfl⟩
  obtain ⟨hb0, m1, m2, hs0⟩ := bxs2 w #[.int .i64 i, .slice T tn tc] #[.int .i64 j, .slice U un uc] 24 24 w0 hw0
  have HM1 := Lib.hid (fun (W : World) (h : Below w0.heap.size w0 W) => m1.on h)
  have HM2 := Lib.hid (fun (W : World) (h : Below w0.heap.size w0 W) => m2.on h)
  have HT := Lib.hid (fun (W : World) (h : Below w0.heap.size w0 W) => (hT.below hb0).below h)
  have HU := Lib.hid (fun (W : World) (h : Below w0.heap.size w0 W) => (hU.below hb0).below h)
  have HB0 := Lib.hid hb0
  have HW0 := Lib.hid hw0
  have HLT := Lib.hid hT.1
  have HLU := Lib.hid hU.1
  have hbc := Below.refl w0.heap.size w0
  have k0 := (HM1.out _ hbc).cell 0
  have k1 := (HM1.out _ hbc).cell 1
  have l0 := (HM2.out _ hbc).cell 0
  have l1 := (HM2.out _ hbc).cell 1
  simp at k0 k1 l0 l1
  rw [HW0.out] at k0 k1 l0 l1
  clear hw0 hb0 m1 m2 hs0 hT hU
  go_enter Try.func6, Try.ntmps6
  go_wp2_with fail
  rw [← HW0.out]
  refine (rgreat16 i T tn tc ts w0 (HT.out _ hbc)).mono ?_
  rintro r w1 ⟨b1, rfl, hg1, a1⟩
  have hbc := bt hbc a1
  clear a1 k0 k1 l0 l1
  cases b1
  case true =>
    clear hg1
    go_wp2_with fail
    refine (awake16 _).mono ?_
    rintro r w9 ⟨rfl, a9⟩
    go_wp2
    go_ret
    exact ⟨rfl, bt HB0.out (bt hbc a9)⟩
  have hn60 : tn ≤ 60 := (hg1 rfl).1
  clear hg1
  have k0 := (HM1.out _ hbc).cell 0
  have k1 := (HM1.out _ hbc).cell 1
  have l0 := (HM2.out _ hbc).cell 0
  have l1 := (HM2.out _ hbc).cell 1
  simp at k0 k1 l0 l1
  go_wp2_with fail
  refine (rgreat16 j U un uc us w1 (HU.out _ hbc)).mono ?_
  rintro r w2 ⟨b1, rfl, hg1, a2⟩
  have hbc := bt hbc a2
  clear a2 k0 k1 l0 l1
  cases b1
  case true =>
    clear hg1
    go_wp2_with fail
    refine (awake16 _).mono ?_
    rintro r w9 ⟨rfl, a9⟩
    go_wp2
    go_ret
    exact ⟨rfl, bt HB0.out (bt hbc a9)⟩
  have hu60 : un ≤ 60 := (hg1 rfl).1
  clear hg1
  have k0 := (HM1.out _ hbc).cell 0
  have k1 := (HM1.out _ hbc).cell 1
  have l0 := (HM2.out _ hbc).cell 0
  have l1 := (HM2.out _ hbc).cell 1
  simp at k0 k1 l0 l1
  go_wp2_with fail
  refine (pvalid16 i T tn tc ts w2 (HT.out _ hbc) htc).mono ?_
  rintro r w3 ⟨v, rfl, hv, a3⟩
  have hbc := bt hbc a3
  clear a3 k0 k1 l0 l1
  by_cases hv0 : v = 0
  case neg =>
    have hne : (v != 0) = true := by simpa using hv0
    clear hv hv0
    go_wp2_with fail
    refine (awake16 _).mono ?_
    rintro r w9 ⟨rfl, a9⟩
    go_wp2
    go_ret
    exact ⟨rfl, bt HB0.out (bt hbc a9)⟩
  subst hv0
  obtain ⟨_, _, _, hS, hF, hP, h0, hPF, hC⟩ := vld16_ok hv
  have HO := Lib.hid (show Okt i ts from ⟨hS, hF, hP, h0, hPF, hC⟩)
  have HTL := Lib.hid (show ts.length + us.length ≤ 10000 by rw [HLT.out, HLU.out]; omega)
  clear hv hS hF hC hP h0 hPF
  have k0 := (HM1.out _ hbc).cell 0
  have k1 := (HM1.out _ hbc).cell 1
  have l0 := (HM2.out _ hbc).cell 0
  have l1 := (HM2.out _ hbc).cell 1
  simp at k0 k1 l0 l1
  go_wp2_with fail
  refine (pvalid16 j U un uc us w3 (HU.out _ hbc) huc).mono ?_
  rintro r w3b ⟨v, rfl, hv, a3⟩
  have hbc := bt hbc a3
  clear a3 k0 k1 l0 l1
  by_cases hv0 : v = 0
  case neg =>
    have hne : (v != 0) = true := by simpa using hv0
    clear hv hv0
    go_wp2_with fail
    refine (awake16 _).mono ?_
    rintro r w9 ⟨rfl, a9⟩
    go_wp2
    go_ret
    exact ⟨rfl, bt HB0.out (bt hbc a9)⟩
  subst hv0
  clear hv
  have k0 := (HM1.out _ hbc).cell 0
  have k1 := (HM1.out _ hbc).cell 1
  have l0 := (HM2.out _ hbc).cell 0
  have l1 := (HM2.out _ hbc).cell 1
  simp at k0 k1 l0 l1
  go_wp2_with fail
  refine (pmerge16 i j T U tn tc un uc ts us w3b (HT.out _ hbc) (HU.out _ hbc) HO.out.1 HO.out.2.1 (by omega) (by omega)).mono ?_
  rintro r w4 h4
  obtain ⟨e4, u4, hu4, A4, n4, c4, rfl, t4, a4⟩ := h4.res (HT.out _ hbc)
  have hbc := bt hbc a4
  have HU4 := Lib.hid hu4
  obtain ⟨w5, hw5⟩ : ∃ w5, w5 = w4.alloc (.cells #[.int .i64 i, .slice A4 n4 c4] 24) := ⟨_, rfl⟩
  obtain ⟨g5, hg5⟩ : ∃ g5, g5 = w4.heap.size := ⟨_, rfl⟩
  have hal : Below w4.heap.size w4 w5 := by rw [hw5]; exact alloc_below _ _
  have m5 : Bx w5 g5 #[.int .i64 i, .slice A4 n4 c4] 24 := by rw [hw5, hg5]; exact bx_new _ _ _
  have hbc5 := bt hbc hal
  have HM5 := Lib.hid (fun (W : World) (h : Below w5.heap.size w5 W) => m5.on h)
  have HT4 := Lib.hid (fun (W : World) (h : Below w5.heap.size w5 W) => (t4.below hal).below h)
  have HW5 := Lib.hid hw5
  have HG5 := Lib.hid hg5
  clear a4 t4 h4 hu4 k0 k1 l0 l1 hw5 hg5 hal m5 hbc
  have hbc := hbc5
  clear hbc5
  have k0 := (HM1.out _ hbc).cell 0
  have k1 := (HM1.out _ hbc).cell 1
  have l0 := (HM2.out _ hbc).cell 0
  have l1 := (HM2.out _ hbc).cell 1
  simp at k0 k1 l0 l1
  rw [HW5.out] at k0 k1 l0 l1
  go_wp2_with fail
  rw [← HW5.out, ← HG5.out]
  refine (rmerge16 i j T U tn tc un uc ts us w5 (HT.out _ hbc) (HU.out _ hbc) HO.out.2.1 (by omega)).mono ?_
  rintro r w6 h6
  obtain ⟨e6, u6, hu6, A6, n6, c6, rfl, t6, a6⟩ := h6.res (HT.out _ hbc)
  obtain ⟨rfl, rfl⟩ := mu_same HU4.out hu6 HO.out HTL.out
  have hbc := bt hbc a6
  obtain ⟨w7, hw7⟩ : ∃ w7, w7 = w6.alloc (.cells #[.int .i64 i, .slice A6 n6 c6] 24) := ⟨_, rfl⟩
  obtain ⟨g7, hg7⟩ : ∃ g7, g7 = w6.heap.size := ⟨_, rfl⟩
  have hal : Below w6.heap.size w6 w7 := by rw [hw7]; exact alloc_below _ _
  have m7 : Bx w7 g7 #[.int .i64 i, .slice A6 n6 c6] 24 := by rw [hw7, hg7]; exact bx_new _ _ _
  have h57 := bt a6 hal
  have HSM := Lib.hid (rsame_eq16 i A4 A6 n4 c4 n6 c6 u4 w7 (HT4.out _ h57) (t6.below hal))
  have HBC := Lib.hid (bt hbc hal)
  have HW7 := Lib.hid hw7
  have HG7 := Lib.hid hg7
  have p0 := (HM5.out _ h57).cell 0
  have p1 := (HM5.out _ h57).cell 1
  have r0 := m7.cell 0
  have r1 := m7.cell 1
  simp at p0 p1 r0 r1
  rw [HW7.out] at p0 p1 r0 r1
  rw [HG7.out] at r0 r1
  clear a6 t6 h6 hu6 k0 k1 l0 l1 hw7 hg7 hal m7 hbc h57
  go_wp2_with fail
  rw [← HW7.out, ← HG7.out]
  refine HSM.out.mono ?_
  rintro r w8 ⟨rfl, a8⟩
  have hbc := bt HBC.out a8
  clear a8 p0 p1 r0 r1
  go_wp2_with fail
  refine (awake16 _).mono ?_
  rintro r w9 ⟨rfl, a9⟩
  go_wp2
  go_ret
  exact ⟨rfl, bt HB0.out (bt hbc a9)⟩
end Go.Proofs.Ytkkmcgapbcikiaa
end
