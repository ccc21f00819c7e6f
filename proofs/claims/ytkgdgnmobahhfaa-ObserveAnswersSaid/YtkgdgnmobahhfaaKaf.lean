/- Lemmas of the proofs of this seat, of the parts Ofw, Add16, Anp16, Awk16, L16x. Conditions: none. -/
import Derived.Test.YtkgdgnmobahhfaaKae
import Derived.Test.YtkgdgnmobahhfaaKab
import Derived.Test.YtkgdgnmobahhfaaKac
import Derived.Test.YtkgdgnmobahhfaaKad
section
/- observe.Of of the program. -/
namespace Go.Proofs.Ytkgdgnmobahhfaa
open Go.RowKit Go.Shelf

theorem trs_mem {i st : Nat} {nx ot : List (List Int)} {ws : List (List Int)} : ∀ (vs : List (List Int)) (l : List (List Int × List Int)), (∀ v, v ∈ vs → v ∈ ws) → (∀ u, u ∈ l → u.1 ∈ ws ∧ u.2 = runO nx ot st u.1 ∧ chk u.1 i = 0) → ∀ u, u ∈ (trs i st nx ot vs l).1 → u.1 ∈ ws ∧ u.2 = runO nx ot st u.1 ∧ chk u.1 i = 0
  | [], l, _, hl => hl
  | v :: vs, l, hv, hl => by
    unfold trs
    by_cases hc : chk v i = 0
    · rw [if_pos hc]
      refine trs_mem vs _ (fun x hx => hv x (List.mem_cons_of_mem _ hx)) (fun u hu => ?_)
      rcases List.mem_append.1 hu with hu | hu
      · exact hl u hu
      · rw [List.mem_singleton] at hu
        subst hu
        exact ⟨hv v List.mem_cons_self, rfl, hc⟩
    · rw [if_neg hc]
      intro u hu
      simp at hu
/-- The result of Of: the error of Traces, or what adding the traces in order gives. -/
def OfE (i : Int) (us : List (List Int × List Int)) (e0 : Int) (w : World) (r : Ending) (w' : World) : Prop :=
  Below w.heap.size w w' ∧ ∃ (e : Int) (ts' : List (List Int × List Int)), ((¬ e0 = 0 ∧ e = e0) ∨ (e0 = 0 ∧ AddsR i us [] e ts')) ∧
    ((¬ e = 0 ∧ r = .returned (.tuple #[.agg #[.int .i64 0, .slice none 0 0], .int .i64 e])) ∨
     (e = 0 ∧ ∃ (g N : Nat) (cur' : Array Value), r = .returned (.tuple #[.agg #[.int .i64 i, .slice (some ⟨g, 0, none⟩) ts'.length N], .int .i64 0]) ∧ TrO w' w.heap.size g N cur' ts'))
theorem TrO.base {w : World} {base base' g N : Nat} {cur : Array Value} {ts : List (List Int × List Int)} (h : TrO w base g N cur ts) (hb : base' ≤ base) : TrO w base' g N cur ts :=
  ⟨h.bx, Nat.le_trans hb h.ge, h.sz, h.le, h.cap, h.one, fun j hj => by
    obtain ⟨A1, c1, A2, c2, e1, e2, o1, o2⟩ := h.hd j hj
    exact ⟨A1, c1, A2, c2, e1, e2, o1.lower hb, o2.lower hb⟩, h.sm⟩
theorem Trs.none_ (w : World) : Trs w none 0 [] := ⟨rfl, by omega, fun h => absurd h (by omega)⟩

set_option linter.unusedSimpArgs false in
set_option linter.unusedVariables false in
set_option maxHeartbeats 8000000 in
set_option maxRecDepth 100000 in
theorem pof_bad (i st : Int) (A B C : Option Addr) (n c m d p e : Nat) (nx ot : List (List Int)) (E : Int) (w : World) (hx : Lists w A n nx) (ho : Lists w B m ot) (hE : vld i st nx ot = E) (hv : ¬ E = 0) :
    Calls Try.prog 36 #[.agg #[.int .i64 i, .int .i64 st, .slice A n c, .slice B m d], .slice C p e] w fun r w' => OfE i [] E w r w' := by
  obtain ⟨w1, hw1⟩ : ∃ w1, w1 = (w.alloc (.cells #[.int .i64 i, .int .i64 st, .slice A n c, .slice B m d] 56)).alloc (.cells #[.int .i64 0, .slice none 0 0] 24) := ⟨_, rfl⟩
  obtain ⟨hb0, m1, m2, hs0⟩ := bxs2 w #[.int .i64 i, .int .i64 st, .slice A n c, .slice B m d] #[.int .i64 0, .slice none 0 0] 56 24 w1 hw1
  have HCT := Lib.hid (ptraces_bad i st A B C n c m d p e nx ot E w1 (hx.below hb0) (ho.below hb0) hE hv)
  have HM2 := Lib.hid (fun (W : World) (h : Below w1.heap.size w1 W) => m2.on h)
  have HB0 := Lib.hid hb0
  have HW1 := Lib.hid hw1
  have HE := Lib.hid hv
  have hne : (E != 0) = true := by simpa using hv
  have q0 := m1.cell 0
  have q1 := m1.cell 1
  have q2 := m1.cell 2
  have q3 := m1.cell 3
  simp at q0 q1 q2 q3
  rw [hw1] at q0 q1 q2 q3
  clear hw1 hb0 m1 m2 hs0 hx ho hE hv
  go_enter Try.func36, Try.ntmps36
  go_wp2_with fail
  rw [← HW1.out]
  refine HCT.out.mono ?_
  rintro r w2 ⟨rfl, b2⟩
  clear q0 q1 q2 q3
  have m2 := HM2.out _ b2
  have f0 := m2.free 0
  have f1 := m2.free 1
  have r0 := m2.cell 0
  have r1 := m2.cell 1
  simp at r0 r1
  have HR2 := Lib.hid (m2.set2 (.int .i64 0) (.slice none 0 0))
  have HBF := Lib.hid (set2B (g := w.heap.size + 1) (HB0.out.trans (b2.mono HB0.out.size)) (by omega) (.int .i64 0) (.slice none 0 0))
  clear m2 b2
  go_wp2_with fail
  (try rw [Exit.noGoto_ret])
  refine bodyPost_ret (results_obs_tmp rfl _ _ (w.heap.size + 1) (.int .i64 0) (.slice none 0 0) rfl HR2.out) rfl ?_
  exact ⟨HBF.out, E, [], .inl ⟨HE.out, rfl⟩, .inl ⟨HE.out, rfl⟩⟩

set_option linter.unusedSimpArgs false in
set_option linter.unusedVariables false in
set_option maxHeartbeats 8000000 in
set_option maxRecDepth 100000 in
theorem pof_ok (i st n : Nat) (A B C : Option Addr) (c d p e : Nat) (nx ot ws : List (List Int)) (w : World) (hx : Lists w A n nx) (ho : Lists w B n ot) (hM : Mok i st n nx ot) (hW : Lists w C p ws) (hp : p ≤ 10000) (hwl : ∀ x, x ∈ ws → x.length ≤ 17592186044416) :
    Calls Try.prog 36 #[.agg #[.int .i64 i, .int .i64 st, .slice A n c, .slice B n d], .slice C p e] w fun r w' => OfE i (trs i st nx ot ws []).1 (trs i st nx ot ws []).2 w r w' := by
  obtain ⟨w1, hw1⟩ : ∃ w1, w1 = (w.alloc (.cells #[.int .i64 i, .int .i64 st, .slice A n c, .slice B n d] 56)).alloc (.cells #[.int .i64 0, .slice none 0 0] 24) := ⟨_, rfl⟩
  obtain ⟨hb0, m1, m2, hs0⟩ := bxs2 w #[.int .i64 i, .int .i64 st, .slice A n c, .slice B n d] #[.int .i64 0, .slice none 0 0] 56 24 w1 hw1
  have HCT := Lib.hid (ptraces_ok i st n A B C c d p e nx ot ws w1 (hx.below hb0) (ho.below hb0) hM (hW.below hb0) hp)
  obtain ⟨us, hus⟩ : ∃ us, us = (trs i st nx ot ws []).1 := ⟨_, rfl⟩
  obtain ⟨E, hE⟩ : ∃ E, E = (trs i st nx ot ws []).2 := ⟨_, rfl⟩
  have hul : us.length ≤ p := by rw [hus]; have := trs_len (i := i) (st := st) (nx := nx) (ot := ot) ws []; rw [hW.1] at this; simpa using this
  have HUM := Lib.hid (show ∀ u, u ∈ us → u.1 ∈ ws ∧ u.2 = runO nx ot st u.1 ∧ chk u.1 i = 0 by rw [hus]; exact trs_mem ws [] (fun _ h => h) (fun u hu => absurd hu (by simp)))
  rw [← hus, ← hE] at HCT ⊢
  clear hus
  have HEE := Lib.hid hE
  clear hE
  have HM1 := Lib.hid (fun (W : World) (h : Below w1.heap.size w1 W) => m1.on h)
  have HM2 := Lib.hid (fun (W : World) (h : Below w1.heap.size w1 W) => m2.on h)
  have HB0 := Lib.hid hb0
  have HW1 := Lib.hid hw1
  have HZ1 := Lib.hid hs0
  have HWL := Lib.hid hwl
  have q0 := m1.cell 0
  have q1 := m1.cell 1
  have q2 := m1.cell 2
  have q3 := m1.cell 3
  simp at q0 q1 q2 q3
  rw [hw1] at q0 q1 q2 q3
  clear hw1 hb0 m1 m2 hs0 hx ho hM hW hwl
  go_enter Try.func36, Try.ntmps36
  go_wp2_with fail
  rw [← HW1.out]
  refine HCT.out.mono ?_
  rintro r w2 ⟨A', c', rfl, o2, b2⟩
  clear q0 q1 q2 q3
  by_cases hE : E = 0
  case neg =>
    have hne : (E != 0) = true := by simpa using hE
    have HE := Lib.hid hE
    have m2 := HM2.out _ b2
    have f0 := m2.free 0
    have f1 := m2.free 1
    have r0 := m2.cell 0
    have r1 := m2.cell 1
    simp at r0 r1
    have HR2 := Lib.hid (m2.set2 (.int .i64 0) (.slice none 0 0))
    have HBF := Lib.hid (set2B (g := w.heap.size + 1) (HB0.out.trans (b2.mono HB0.out.size)) (by omega) (.int .i64 0) (.slice none 0 0))
    clear m2 b2 o2 hE
    go_wp2_with fail
    (try rw [Exit.noGoto_ret])
    refine bodyPost_ret (results_obs_tmp rfl _ _ (w.heap.size + 1) (.int .i64 0) (.slice none 0 0) rfl HR2.out) rfl ?_
    exact ⟨HBF.out, E, [], .inl ⟨HE.out, rfl⟩, .inl ⟨HE.out, rfl⟩⟩
  subst hE
  have hU : Trs w2 A' us.length us := o2.trs (by omega) (fun j hj => by
    obtain ⟨h1, h2, _⟩ := HUM.out _ (List.getElem_mem hj)
    have e1 : tIn us j = us[j].1 := by unfold tIn; rw [List.getD_eq_getElem?_getD, List.getElem?_eq_getElem hj]; rfl
    have e2 : tOut us j = us[j].2 := by unfold tOut; rw [List.getD_eq_getElem?_getD, List.getElem?_eq_getElem hj]; rfl
    rw [e1, e2, h2, runO_len]
    exact ⟨HWL.out _ h1, HWL.out _ h1⟩)
  have HWI := Lib.hid (pwith (i : Int) none A' 0 0 us.length c' [] us w2 (Trs.none_ w2) hU srt_none full_none (by omega) (by omega))
  have k0 := (HM1.out _ b2).cell 0
  simp at k0
  have HB2 := Lib.hid b2
  clear o2 hU b2
  go_wp2_with fail
  refine HWI.out.mono ?_
  rintro r w3 ⟨b3, e, ts', hA, hr⟩
  clear k0
  have HAA := Lib.hid hA
  have HB3 := Lib.hid (bt HB2.out b3)
  have hz2 : w.heap.size ≤ w2.heap.size := Nat.le_trans HB0.out.size HB2.out.size
  clear hA
  rcases hr with ⟨he, rfl⟩ | ⟨rfl, g, N, cur', rfl, hT⟩
  · have hne : (e != 0) = true := by simpa using he
    have HE := Lib.hid he
    have hal := alloc_below w3 (.cells #[.int .i64 (i : Int), .slice none 0 0] 24)
    have m2 := HM2.out _ (HB3.out.trans (hal.mono HB3.out.size))
    have f0 := m2.free 0
    have f1 := m2.free 1
    have r0 := m2.cell 0
    have r1 := m2.cell 1
    simp at r0 r1
    have HR2 := Lib.hid (m2.set2 (.int .i64 0) (.slice none 0 0))
    have HBF := Lib.hid (set2B (g := w.heap.size + 1) (HB0.out.trans ((HB3.out.trans (hal.mono HB3.out.size)).mono HB0.out.size)) (by omega) (.int .i64 0) (.slice none 0 0))
    clear m2 b3 he hal
    go_wp2_with fail
    (try rw [Exit.noGoto_ret])
    refine bodyPost_ret (results_obs_tmp rfl _ _ (w.heap.size + 1) (.int .i64 0) (.slice none 0 0) rfl HR2.out) rfl ?_
    exact ⟨HBF.out, e, ts', .inr ⟨rfl, HAA.out⟩, .inl ⟨HE.out, rfl⟩⟩
  · obtain ⟨q, hq⟩ : ∃ q, q = ts'.length := ⟨_, rfl⟩
    rw [← hq]
    have HQ := Lib.hid hq
    clear hq
    have hal := alloc_below w3 (.cells #[.int .i64 (i : Int), .slice (some ⟨g, 0, none⟩) q N] 24)
    have m9 := bx_new w3 #[.int .i64 (i : Int), .slice (some ⟨g, 0, none⟩) q N] 24
    have hT := hT.below hal
    have m2 := HM2.out _ (HB3.out.trans (hal.mono HB3.out.size))
    have p0 := m9.cell 0
    have p1 := m9.cell 1
    have f0 := m2.free 0
    have f1 := m2.free 1
    have r0 := m2.cell 0
    have r1 := m2.cell 1
    simp at p0 p1 r0 r1
    have HR2 := Lib.hid (m2.set2 (.int .i64 (i : Int)) (.slice (some ⟨g, 0, none⟩) q N))
    have HTF := Lib.hid (hT.set2 m2 (.int .i64 (i : Int)) (.slice (some ⟨g, 0, none⟩) q N))
    have HBF := Lib.hid (set2B (g := w.heap.size + 1) (HB0.out.trans ((HB3.out.trans (hal.mono HB3.out.size)).mono HB0.out.size)) (by omega) (.int .i64 (i : Int)) (.slice (some ⟨g, 0, none⟩) q N))
    clear m2 b3 hal hT m9
    go_wp2_with fail
    (try rw [Exit.noGoto_ret])
    refine bodyPost_ret (results_obs_tmp rfl _ _ (w.heap.size + 1) (.int .i64 (i : Int)) (.slice (some ⟨g, 0, none⟩) q N) rfl HR2.out) rfl ?_
    exact ⟨HBF.out, 0, ts', .inr ⟨rfl, HAA.out⟩, .inr ⟨rfl, g, N, cur', by rw [← HQ.out]; rfl, HTF.out.base hz2⟩⟩
end Go.Proofs.Ytkgdgnmobahhfaa
end

section
/- New, Add and Known of the program. -/
namespace Go.Proofs.Ytkgdgnmobahhfaa
open Go.RowKit

theorem pnew16 (i : Int) (w : World) : Calls Try.prog 17 #[.int .i64 i] w fun r w' => Below w.heap.size w w' ∧
    ((1 ≤ i ∧ i ≤ 64 ∧ r = .returned (.tuple #[.agg #[.int .i64 i, .slice none 0 0], .int .i64 0])) ∨ (¬ (1 ≤ i ∧ i ≤ 64) ∧ r = .returned (.tuple #[.agg #[.int .i64 0, .slice none 0 0], .int .i64 2]))) := by
  obtain ⟨w1, hw1⟩ : ∃ w1, w1 = w.alloc (.cells #[.int .i64 0, .slice none 0 0] 24) := ⟨_, rfl⟩
  have hal : Below w.heap.size w w1 := by rw [hw1]; exact alloc_below _ _
  have m2 : Bx w1 w.heap.size #[.int .i64 0, .slice none 0 0] 24 := by rw [hw1]; exact bx_new _ _ _
  have HW1 := Lib.hid hw1
  have f0 := m2.free 0
  have f1 := m2.free 1
  have r0 := m2.cell 0
  have r1 := m2.cell 1
  simp at r0 r1
  clear hw1
  by_cases hi : 1 ≤ i ∧ i ≤ 64
  · have HR2 := Lib.hid (m2.set2 (.int .i64 i) (.slice none 0 0))
    have HBF := Lib.hid (set2B (g := w.heap.size) hal (Nat.le_refl _) (.int .i64 i) (.slice none 0 0))
    have hd : decide (1 ≤ i ∧ i ≤ 64) = true := by simpa using hi
    have HI := Lib.hid hi
    clear m2 hal hi
    go_enter Try.func17, Try.ntmps17
    go_wp2_with fail
    rw [← HW1.out]
    refine (ppermit16 i _).mono ?_
    rintro r w2 ⟨rfl, rfl⟩
    rw [hd]
    go_wp2_with fail
    (try rw [Exit.noGoto_ret])
    refine bodyPost_ret (results_obs_tmp rfl _ _ w.heap.size (.int .i64 i) (.slice none 0 0) rfl HR2.out) rfl ?_
    exact ⟨HBF.out, .inl ⟨HI.out.1, HI.out.2, rfl⟩⟩
  · have HR2 := Lib.hid (m2.set2 (.int .i64 0) (.slice none 0 0))
    have HBF := Lib.hid (set2B (g := w.heap.size) hal (Nat.le_refl _) (.int .i64 0) (.slice none 0 0))
    have hd : decide (1 ≤ i ∧ i ≤ 64) = false := by simpa using hi
    have HI := Lib.hid hi
    clear m2 hal hi
    go_enter Try.func17, Try.ntmps17
    go_wp2_with fail
    rw [← HW1.out]
    refine (ppermit16 i _).mono ?_
    rintro r w2 ⟨rfl, rfl⟩
    rw [hd]
    go_wp2_with fail
    (try rw [Exit.noGoto_ret])
    refine bodyPost_ret (results_obs_tmp rfl _ _ w.heap.size (.int .i64 0) (.slice none 0 0) rfl HR2.out) rfl ?_
    exact ⟨HBF.out, .inr ⟨HI.out, rfl⟩⟩

/-- The result of Add. -/
def AddE (i : Int) (T : Option Addr) (tn tc : Nat) (ts : List (List Int × List Int)) (xs ys : List Int) (w : World) (r : Ending) (w' : World) : Prop :=
  Below w.heap.size w w' ∧ ∃ (e : Int) (ts' : List (List Int × List Int)), InsR ts xs ys i e ts' ∧
    ((¬ e = 0 ∧ r = .returned (.tuple #[.agg #[.int .i64 i, .slice T tn tc], .int .i64 e])) ∨
     (e = 0 ∧ ∃ (g N : Nat) (cur' : Array Value), r = .returned (.tuple #[.agg #[.int .i64 i, .slice (some ⟨g, 0, none⟩) ts'.length N], .int .i64 0]) ∧ TrO w' w.heap.size g N cur' ts'))
theorem trs_one {w : World} {A B : Option Addr} {n c m d : Nat} {xs ys : List Int} (hx : Ints w A n xs) (hnc : n ≤ c) (hy : Ints w B m ys) (hmd : m ≤ d) : Trs (w.alloc (.cells #[.slice A n c, .slice B m d] 38)) (some ⟨w.heap.size, 0, none⟩) 1 [(xs, ys)] := by
  have hal := alloc_below w (.cells #[.slice A n c, .slice B m d] 38)
  have hb := bx_new w #[.slice A n c, .slice B m d] 38
  refine ⟨rfl, by omega, fun _ => ⟨w.heap.size, 0, rfl, hb.lt, fun j hj => ?_⟩⟩
  obtain rfl : j = 0 := by omega
  exact ⟨A, n, c, B, m, d, by simp, by simp, hnc, hmd, hx.below hal, hy.below hal⟩
theorem adds_one {i e : Int} {ts ts' : List (List Int × List Int)} {xs ys : List Int} (h : AddsR i [(xs, ys)] ts e ts') : ∃ ts2, InsR ts xs ys i e ts2 ∧ (e = 0 → ts' = ts2) := by
  obtain ⟨e1, ts1, hr, h⟩ := h
  rcases h with ⟨hne, rfl⟩ | ⟨rfl, h1, h2⟩
  · exact ⟨ts1, hr, fun he => absurd he hne⟩
  · exact ⟨ts1, by rw [h1]; exact hr, fun _ => h2⟩

set_option linter.unusedSimpArgs false in
set_option linter.unusedVariables false in
set_option maxHeartbeats 8000000 in
set_option maxRecDepth 100000 in
theorem padd16 (i : Int) (T A B : Option Addr) (tn tc n c m d : Nat) (ts : List (List Int × List Int)) (xs ys : List Int) (w : World) (hT : Trs w T tn ts) (hx : Ints w A n xs) (hnc : n ≤ c) (hy : Ints w B m ys) (hmd : m ≤ d) (hS : Srt ts) (hF : Full ts) (htn : tn ≤ 500000) :
    Calls Try.prog 31 #[.agg #[.int .i64 i, .slice T tn tc], .agg #[.slice A n c, .slice B m d]] w fun r w' => AddE i T tn tc ts xs ys w r w' := by
  obtain ⟨w0, hw0⟩ : ∃ w0, w0 = ((w.alloc (.cells #[.int .i64 i, .slice T tn tc] 24)).alloc (.cells #[.slice A n c, .slice B m d] 38)).alloc (.cells #[.int .i64 0, .slice none 0 0] 24) := ⟨_, rfl⟩
  obtain ⟨hb0, m1, m2, m3, hs0⟩ := bxs3 w #[.int .i64 i, .slice T tn tc] #[.slice A n c, .slice B m d] #[.int .i64 0, .slice none 0 0] 24 38 24 w0 hw0
  obtain ⟨w1, hw1⟩ : ∃ w1, w1 = w0.alloc (.cells #[.slice A n c, .slice B m d] 38) := ⟨_, rfl⟩
  have hal : Below w0.heap.size w0 w1 := by rw [hw1]; exact alloc_below _ _
  have hU : Trs w1 (some ⟨w0.heap.size, 0, none⟩) 1 [(xs, ys)] := by rw [hw1]; exact trs_one (hx.below hb0) hnc (hy.below hb0) hmd
  have hWI0 := pwith i T (some ⟨w0.heap.size, 0, none⟩) tn tc 1 1 ts [(xs, ys)] w1 ((hT.below hb0).below hal) hU hS hF htn (by omega)
  rw [hs0] at hWI0
  have HWI := Lib.hid hWI0
  have HB1 := Lib.hid (bt hb0 hal)
  have HM3 := Lib.hid (fun (W : World) (h : Below w1.heap.size w1 W) => (m3.on hal).on h)
  have HW0 := Lib.hid hw0
  have HW1 := Lib.hid hw1
  have q0 := m1.cell 0
  have q1 := m1.cell 1
  have p0 := m2.cell 0
  have p1 := m2.cell 1
  simp at q0 q1 p0 p1
  rw [hw0] at q0 q1 p0 p1
  have HZ := Lib.hid hs0
  clear hw0 hw1 hb0 m1 m2 m3 hal hU hT hx hy hS hF hs0 hWI0
  go_enter Try.func31, Try.ntmps31
  go_wp2_with fail
  rw [← HW0.out, ← HW1.out]
  refine HWI.out.mono ?_
  rintro r w2 ⟨b2, e, ts', hA, hr⟩
  clear q0 q1 p0 p1
  obtain ⟨ts2, hI, he2⟩ := adds_one hA
  have HII := Lib.hid hI
  have m3 := HM3.out _ b2
  have f0 := m3.free 0
  have f1 := m3.free 1
  have r0 := m3.cell 0
  have r1 := m3.cell 1
  simp at r0 r1
  rcases hr with ⟨he, rfl⟩ | ⟨rfl, g, N, cur', rfl, hT2⟩
  · have HE := Lib.hid he
    have HR2 := Lib.hid (m3.set2 (.int .i64 i) (.slice T tn tc))
    have HBF := Lib.hid (set2B (g := w.heap.size + 1 + 1) (bt HB1.out b2) (by omega) (.int .i64 i) (.slice T tn tc))
    clear m3 b2 hA hI he2 he
    go_wp2_with fail
    (try rw [Exit.noGoto_ret])
    refine bodyPost_ret (results_obs_tmp rfl _ _ (w.heap.size + 1 + 1) (.int .i64 i) (.slice T tn tc) rfl HR2.out) rfl ?_
    exact ⟨HBF.out, e, ts2, HII.out, .inl ⟨HE.out, rfl⟩⟩
  · have hts := he2 rfl
    rw [hts] at hT2 ⊢
    obtain ⟨q, hq⟩ : ∃ q, q = ts2.length := ⟨_, rfl⟩
    rw [← hq]
    have HQ := Lib.hid hq
    clear hq
    have HR2 := Lib.hid (m3.set2 (.int .i64 i) (.slice (some ⟨g, 0, none⟩) q N))
    have HBF := Lib.hid (set2B (g := w.heap.size + 1 + 1) (bt HB1.out b2) (by omega) (.int .i64 i) (.slice (some ⟨g, 0, none⟩) q N))
    have HTF := Lib.hid ((hT2.set2 m3 (.int .i64 i) (.slice (some ⟨g, 0, none⟩) q N)).base (base' := w.heap.size) HB1.out.size)
    clear m3 b2 hA hI he2 hts hT2
    go_wp2_with fail
    (try rw [Exit.noGoto_ret])
    refine bodyPost_ret (results_obs_tmp rfl _ _ (w.heap.size + 1 + 1) (.int .i64 i) (.slice (some ⟨g, 0, none⟩) q N) rfl HR2.out) rfl ?_
    exact ⟨HBF.out, 0, ts2, HII.out, .inr ⟨rfl, g, N, cur', by rw [← HQ.out]; rfl, HTF.out⟩⟩
theorem pknown16 (i : Int) (T A : Option Addr) (tn tc n c : Nat) (ts : List (List Int × List Int)) (ws : List Int) (w : World) (hT : Trs w T tn ts) (htc : tn ≤ tc) (hA : Ints w A n ws) (hS : Srt ts) (hF : Full ts) :
    Calls Try.prog 29 #[.agg #[.int .i64 i, .slice T tn tc], .slice A n c] w fun r w' => r = .returned (.int .i64 (knw ts ws ts.length)) ∧ Below w.heap.size w w' := by
  obtain ⟨w0, hw0⟩ : ∃ w0, w0 = w.alloc (.cells #[.int .i64 i, .slice T tn tc] 24) := ⟨_, rfl⟩
  have hb0 : Below w.heap.size w w0 := by rw [hw0]; exact alloc_below _ _
  have m0 : Bx w0 w.heap.size #[.int .i64 i, .slice T tn tc] 24 := by rw [hw0]; exact bx_new _ _ _
  have HN := Lib.hid (pnear T A tn tc n c ts ws w0 (hT.below hb0) (hA.below hb0) hS hF htc)
  have HLT := Lib.hid hT.1
  have HB0 := Lib.hid hb0
  have HW0 := Lib.hid hw0
  have k1 := m0.cell 1
  simp at k1
  rw [hw0] at k1
  clear hw0 hb0 m0 hT hA hS hF
  go_enter Try.func29, Try.ntmps29
  go_wp2_with fail
  rw [← HW0.out]
  refine HN.out.mono ?_
  rintro r w2 ⟨best, kn, rfl, hkn, _, a2⟩
  have HK := Lib.hid hkn
  have HB2 := Lib.hid (bt HB0.out a2)
  clear hkn a2 k1
  go_wp2_with fail
  go_ret
  exact ⟨by rw [HK.out, HLT.out]; rfl, HB2.out⟩
end Go.Proofs.Ytkgdgnmobahhfaa
end

section
/- Answers, and runs of a machine; what is added is known. -/
namespace Go.Proofs.Ytkgdgnmobahhfaa
open Go.RowKit

theorem ans_pre16 {n : Nat} {ts : List (List Int × List Int)} {ws : List Int} {w w' : World} {r : Ending} (h : AnsP ts ws n w r w') (hF : Full ts) (hC : Cons ts) {j : Nat} (hj : j < ts.length) (hp : cmn (tIn ts j) ws = n) (h0 : 0 < n) :
    ∃ A' c', r = .returned (.tuple #[.slice A' n c', .bool true]) ∧ Owned w' w.heap.size (.slice A' n c') ((tOut ts j).take n) ∧ Below w.heap.size w w' := by
  obtain ⟨hb, h⟩ := h
  have hkn := knw_ge (ts := ts) (w := ws) hj
  rcases h with ⟨_, h⟩ | ⟨_, h⟩ | ⟨a, A', c', _, ha, hc, rfl, hl, ho⟩
  · omega
  · omega
  · have e : (tOut ts a).take n = (tOut ts j).take n := by
      have l1 := cmn_le_left (tIn ts a) ws
      have l2 := cmn_le_left (tIn ts j) ws
      have f1 := hF a ha
      have f2 := hF j hj
      apply List.ext_getElem
      · rw [List.length_take, List.length_take]; omega
      · intro q h1 h2
        rw [List.length_take] at h1
        have hq : q < cmn (tIn ts a) (tIn ts j) := by
          have g1 := cmn_agree (tIn ts a) ws
          have g2 := cmn_agree (tIn ts j) ws
          have hag : ∀ p, p < n → (tIn ts a).getD p 0 = (tIn ts j).getD p 0 := fun p hp' => (g1 p (by omega)).trans (g2 p (by omega)).symm
          rcases Nat.lt_or_ge q (cmn (tIn ts a) (tIn ts j)) with hlt | hge
          · exact hlt
          · have := cmn_part (tIn ts a) (tIn ts j) (by omega) (by omega)
            exact absurd (hag _ (by omega)) this
        have e2 := hC a j ha hj q hq
        rw [List.getD_eq_getElem?_getD, List.getD_eq_getElem?_getD, List.getElem?_eq_getElem (by omega), List.getElem?_eq_getElem (by omega)] at e2
        rw [List.getElem_take, List.getElem_take]
        exact e2
    rw [e] at ho
    exact ⟨A', c', rfl, ho, hb⟩

theorem prun_ok16 {i st n : Nat} {A B D : Option Addr} {c d k e : Nat} {nx ot : List (List Int)} {xs : List Int} {w : World} (hx : Lists w A n nx) (ho : Lists w B n ot) (hM : Mok i st n nx ot) (hD : Ints w D k xs) (hc : chk xs i = 0) :
    Calls Try.prog 38 #[.agg #[.int .i64 i, .int .i64 st, .slice A n c, .slice B n d], .slice D k e] w fun r w' => ∃ A' c', r = .returned (.tuple #[.slice A' k c', .int .i64 0]) ∧ Owned w' w.heap.size (.slice A' k c') (runO nx ot st xs) ∧ Below w.heap.size w w' := by
  have := prunw (i : Int) (st : Int) A B D n c n d k e nx ot xs w hx ho hD
  rw [hM.frm hM.st hc] at this
  refine this.mono ?_
  rintro r w' ⟨A', c', rfl, o', b'⟩
  have hl : (runO nx ot st xs).length = k := by rw [runO_len]; exact hD.1
  rw [show ((runO nx ot st xs, (runS nx st xs : Int), (0 : Int)).1).length = k from hl] at o' ⊢
  exact ⟨A', c', rfl, o', b'⟩
theorem adds_of16 {i st : Nat} {nx ot : List (List Int)} {us ts ts' : List (List Int × List Int)} (h : AddsR i us ts 0 ts') (h0 : OfM i st nx ot ts) (hu : ∀ u, u ∈ us → u.2 = runO nx ot st u.1 ∧ chk u.1 i = 0) : OfM i st nx ot ts' :=
  h.all (q := fun a b => b = runO nx ot st a ∧ ∀ x, x ∈ a → 0 ≤ x ∧ x < (i : Int)) h0 fun u hm _ => ⟨(hu u hm).1, fun x hx => by
    obtain ⟨j, hj, e⟩ := List.getElem_of_mem hx
    have := (chk_zero (hu u hm).2).2.2.2 j hj
    rw [List.getD_eq_getElem?_getD, List.getElem?_eq_getElem hj, e] at this
    exact this⟩

theorem cmn_pre_mono {x y ws : List Int} (h : x <+: y) : cmn x ws ≤ cmn y ws := by
  rcases Nat.lt_or_ge (cmn y ws) (cmn x ws) with hlt | hge
  · exfalso
    have l1 := cmn_le_left x ws
    have l2 := cmn_le_right x ws
    have l3 := h.length_le
    have h1 := cmn_part y ws (by omega) (by omega)
    have h2 := cmn_agree x ws _ hlt
    apply h1
    rw [← h2]
    obtain ⟨t, rfl⟩ := h
    rw [List.getD_eq_getElem?_getD, List.getD_eq_getElem?_getD, List.getElem?_append_left (by omega)]
  · exact hge
theorem knw_mem {ts : List (List Int × List Int)} {t : List Int × List Int} (h : t ∈ ts) (ws : List Int) : cmn t.1 ws ≤ knw ts ws ts.length := by
  obtain ⟨j, hj, e⟩ := List.mem_iff_getElem.1 h
  have := knw_ge (ts := ts) (w := ws) hj
  unfold tIn at this
  rw [List.getD_eq_getElem?_getD, List.getElem?_eq_getElem hj] at this
  rw [← e]
  exact this
theorem ins_mem {ts : List (List Int × List Int)} {t : List Int × List Int} (p : Nat) : ∀ u, u ∈ ts → u ∈ ts.take p ++ t :: ts.drop p := fun u hu => by
  rw [← List.take_append_drop p ts] at hu
  rcases List.mem_append.1 hu with h | h
  · exact List.mem_append_left _ h
  · exact List.mem_append_right _ (List.mem_cons_of_mem _ h)
/-- What is known stays known. -/
theorem InsR.mono {ts ts' : List (List Int × List Int)} {xs ys : List Int} {i : Int} (h : InsR ts xs ys i 0 ts') (ws : List Int) : knw ts ws ts.length ≤ knw ts' ws ts'.length := by
  obtain ⟨best, hg, h⟩ := h
  rcases h with ⟨h1, h2⟩ | ⟨_, _, h2⟩ | ⟨_, _, _, _, rfl⟩ | ⟨_, _, _, _, h2⟩ | ⟨_, _, _, _, _, p, hp, _, _, rfl⟩
  · exact absurd h2.symm h1
  · omega
  · exact Nat.le_refl _
  · omega
  · by_cases h0 : 0 < knw ts ws ts.length
    · obtain ⟨j, hj, e⟩ := knw_at h0
      rw [← e]
      by_cases hm : ts[j] ∈ InsD ts best (knw ts xs ts.length)
      · have := knw_mem (ins_mem (t := (xs, ys)) p _ hm) ws
        unfold tIn
        rw [List.getD_eq_getElem?_getD, List.getElem?_eq_getElem hj]
        exact this
      · have hpre : tIn ts j <+: xs := by
          unfold InsD at hm
          split at hm
          · next hc =>
            have hjb : j = best := Classical.byContradiction fun hne => hm (by
              rw [List.mem_eraseIdx_iff_getElem]
              exact ⟨j, hj, hne, rfl⟩)
            obtain ⟨_, g2⟩ := hg hc.1
            rw [hjb]
            exact pre_cmn.2 (by rw [g2]; exact hc.2)
          · exact absurd (List.getElem_mem hj) hm
        refine Nat.le_trans (cmn_pre_mono hpre) ?_
        exact knw_mem (t := (xs, ys)) (List.mem_append_right _ List.mem_cons_self) ws
    · omega
theorem InsR.has {ts ts' : List (List Int × List Int)} {xs ys : List Int} {i : Int} (h : InsR ts xs ys i 0 ts') : knw ts' xs ts'.length = xs.length := by
  obtain ⟨best, hg, h⟩ := h
  rcases h with ⟨h1, h2⟩ | ⟨_, _, h2⟩ | ⟨_, _, h1, _, rfl⟩ | ⟨_, _, _, _, h2⟩ | ⟨_, _, _, _, _, p, hp, _, _, rfl⟩
  · exact absurd h2.symm h1
  · omega
  · exact h1
  · omega
  · have := knw_mem (ts := (InsD ts best (knw ts xs ts.length)).take p ++ (xs, ys) :: (InsD ts best (knw ts xs ts.length)).drop p) (t := (xs, ys)) (List.mem_append_right _ List.mem_cons_self) xs
    have h2 : cmn xs xs = xs.length := (cmn_full (xs := xs) (ys := xs) rfl).2 rfl
    exact Nat.le_antisymm knw_le (by simpa [h2] using this)
theorem AddsR.mono {i : Int} (ws : List Int) : ∀ {us ts ts' : List (List Int × List Int)}, AddsR i us ts 0 ts' → knw ts ws ts.length ≤ knw ts' ws ts'.length
  | [], ts, ts', h => by rw [h.2]; exact Nat.le_refl _
  | u :: us, ts, ts', ⟨e1, ts1, hr, h⟩ => by
    rcases h with ⟨h3, h4⟩ | ⟨rfl, h⟩
    · exact absurd h4.symm h3
    · exact Nat.le_trans (hr.mono ws) (h.mono ws)
theorem AddsR.has {i : Int} : ∀ {us ts ts' : List (List Int × List Int)}, AddsR i us ts 0 ts' → ∀ u, u ∈ us → knw ts' u.1 ts'.length = u.1.length
  | [], _, _, _, u, hu => absurd hu (by simp)
  | v :: us, ts, ts', ⟨e1, ts1, hr, h⟩, u, hu => by
    rcases h with ⟨h3, h4⟩ | ⟨rfl, h⟩
    · exact absurd h4.symm h3
    · rcases List.mem_cons.1 hu with rfl | hu
      · exact Nat.le_antisymm knw_le (by rw [← hr.has]; exact h.mono _)
      · exact h.has u hu
/-- An answer of observations of a machine is its output word. -/
theorem ans_exact {i st n : Nat} {nx ot : List (List Int)} {ts : List (List Int × List Int)} {ws : List Int} {w w' : World} {r : Ending} (h : AnsP ts ws n w r w') (hO : OfM i st nx ot ts) (hP : Props i ts) (hi : 1 ≤ i ∧ i ≤ 64) (hl : ws.length = n) :
    Below w.heap.size w w' ∧ ((r = .returned (.tuple #[.slice none 0 0, .bool false]) ∧ knw ts ws ts.length < n) ∨ ∃ A' c', r = .returned (.tuple #[.slice A' n c', .bool true]) ∧ Ints w' A' n (runO nx ot st ws) ∧ chk ws i = 0) := by
  obtain ⟨hb, h⟩ := h
  refine ⟨hb, ?_⟩
  rcases h with h | ⟨rfl, h⟩ | ⟨a, A', c', h0, ha, hc, rfl, _, ho⟩
  · exact .inl h
  · subst h
    obtain rfl := List.eq_nil_of_length_eq_zero hl
    exact .inr ⟨none, 0, rfl, Ints.none_ _, chk_ok (by omega) (by simp) (fun j hj => absurd hj (by simp))⟩
  · subst hl
    rw [of_take hO ha hc] at ho
    have hck := (prp_zero (hP a ha)).1
    obtain ⟨z1, z2, z3, z4⟩ := chk_zero hck
    have hpre := pre_cmn'.2 hc
    have hle := hpre.length_le
    refine .inr ⟨A', c', rfl, ho.ints (by rw [runO_len]; omega), chk_ok ⟨z1, z2⟩ (by omega) (fun p hp => ?_)⟩
    have := z4 p (by omega)
    obtain ⟨t, ht⟩ := hpre
    rw [← ht, List.getD_eq_getElem?_getD, List.getElem?_append_left hp, ← List.getD_eq_getElem?_getD] at this
    exact this
end Go.Proofs.Ytkgdgnmobahhfaa
end

section
/- awake of the laws of observe. -/
namespace Go.Proofs.Ytkgdgnmobahhfaa
open Go.RowKit

def t1X : List (List Int × List Int) := [([0, 1], [1, 2])]
def t2X : List (List Int × List Int) := [([1], [0]), ([0, 1], [1, 2])]
theorem prpX {xs ys : List Int} (h : ∀ x, x ∈ xs → 0 ≤ x ∧ x < 2) (hl : xs.length ≤ 1024) (he : ys.length = xs.length) (hy : ∀ y, y ∈ ys → 0 ≤ y ∧ y ≤ 1048576) : prpE xs ys 2 = 0 := by
  unfold prpE
  rw [if_pos (chkX xs h hl)]
  exact ansE_ok he hy
theorem got0 {xs : List Int} {best : Nat} (h : Got t1X xs best (knw t1X xs t1X.length)) (hk : knw t1X xs t1X.length = 2 ∨ knw t1X xs t1X.length = 1) : best = 0 := by
  have := (h (by omega)).1
  have hl : t1X.length = 1 := rfl
  omega
theorem ins_a {e : Int} {ts' : List (List Int × List Int)} (h : InsR [] [0, 1] [1, 2] 2 e ts') : e = 0 ∧ ts' = t1X := by
  obtain ⟨best, _, h⟩ := h
  have hp : prpE [0, 1] [1, 2] 2 = 0 := prpX (by decide) (by decide) rfl (by decide)
  have hk : knw [] [0, 1] ([] : List (List Int × List Int)).length = 0 := rfl
  have hD : InsD [] best 0 = [] := by unfold InsD; rw [if_neg (by omega)]
  rw [hk] at h
  rcases h with ⟨h1, _⟩ | ⟨_, h1, _⟩ | ⟨_, _, h1, _⟩ | ⟨_, _, _, h1, _⟩ | ⟨_, _, _, _, rfl, p, hp1, _, _, rfl⟩
  · exact absurd hp h1
  · omega
  · exact absurd h1 (by decide)
  · rw [hD] at h1; simp at h1
  · rw [hD] at hp1 ⊢
    obtain rfl : p = 0 := by simpa using hp1
    exact ⟨rfl, rfl⟩
theorem ins_b {e : Int} {ts' : List (List Int × List Int)} (h : InsR t1X [0] [1] 2 e ts') : e = 0 ∧ ts' = t1X := by
  obtain ⟨best, hg, h⟩ := h
  have hp : prpE [0] [1] 2 = 0 := prpX (by decide) (by decide) rfl (by decide)
  have hk : knw t1X [0] t1X.length = 1 := by decide
  have hb := got0 hg (.inr hk)
  subst hb
  have ha : agrN t1X 0 1 [1] = 1 := by decide
  rw [hk] at h
  rcases h with ⟨h1, _⟩ | ⟨_, h1, _⟩ | ⟨_, _, _, rfl, rfl⟩ | ⟨_, _, h1, _⟩ | ⟨_, _, h1, _⟩
  · exact absurd hp h1
  · omega
  · exact ⟨rfl, rfl⟩
  · exact absurd h1 (by decide)
  · exact absurd h1 (by decide)
theorem ins_c {e : Int} {ts' : List (List Int × List Int)} (h : InsR t1X [0, 1] [1, 0] 2 e ts') : e = 13 := by
  obtain ⟨best, hg, h⟩ := h
  have hp : prpE [0, 1] [1, 0] 2 = 0 := prpX (by decide) (by decide) rfl (by decide)
  have hk : knw t1X [0, 1] t1X.length = 2 := by decide
  have hb := got0 hg (.inl hk)
  subst hb
  have ha : agrN t1X 0 2 [1, 0] = 1 := by decide
  rw [hk] at h
  rcases h with ⟨h1, _⟩ | ⟨_, _, h1⟩ | ⟨_, h1, _⟩ | ⟨_, h1, _⟩ | ⟨_, h1, _⟩
  · exact absurd hp h1
  · exact h1
  all_goals omega
theorem ins_d {e : Int} {ts' : List (List Int × List Int)} (h : InsR t1X [1] [0] 2 e ts') : e = 0 ∧ ts' = t2X := by
  obtain ⟨best, hg, h⟩ := h
  have hp : prpE [1] [0] 2 = 0 := prpX (by decide) (by decide) rfl (by decide)
  have hk : knw t1X [1] t1X.length = 0 := by decide
  have hD : InsD t1X best 0 = t1X := by unfold InsD; rw [if_neg (by omega)]
  rw [hk, hD] at h
  rcases h with ⟨h1, _⟩ | ⟨_, h1, _⟩ | ⟨_, _, h1, _⟩ | ⟨_, _, _, h1, _⟩ | ⟨_, _, _, _, rfl, p, hp1, hp2, _, rfl⟩
  · exact absurd hp h1
  · omega
  · exact absurd h1 (by decide)
  · exact absurd h1 (by decide)
  · have hl : t1X.length = 1 := rfl
    rcases Nat.eq_zero_or_pos p with h0 | h0
    · subst h0; exact ⟨rfl, rfl⟩
    · have := hp2 0 h0
      exact absurd this (by decide)
theorem cls_x {fd : Bool} {zs : List Int} {f s : Int} (h : ClsR t1X [0, 1] [1, 0] 2 fd zs f s) : fd = true ∧ zs.length = 2 ∧ f = 2 ∧ s = 0 := by
  obtain ⟨best, hg, h⟩ := h
  have hp : prpE [0, 1] [1, 0] 2 = 0 := prpX (by decide) (by decide) rfl (by decide)
  have hk : knw t1X [0, 1] t1X.length = 2 := by decide
  have hb := got0 hg (.inl hk)
  subst hb
  have ha : agrN t1X 0 2 [1, 0] = 1 := by decide
  rw [hk, ha] at h
  rcases h with ⟨_, _, _, _, h1 | h1⟩ | ⟨rfl, _, _, rfl, rfl, rfl⟩
  · exact absurd hp h1
  · omega
  · exact ⟨rfl, rfl, by decide, by decide⟩
theorem srt1X : Srt t1X := fun i j h1 h2 => by have hl : t1X.length = 1 := rfl; omega
theorem full1X : Full t1X := fun j hj => by
  have hl : t1X.length = 1 := rfl
  obtain rfl : j = 0 := by omega
  rfl
theorem j2X {j : Nat} (hj : j < t2X.length) : j = 0 ∨ j = 1 := by have hl : t2X.length = 2 := rfl; omega
theorem srt2X : Srt t2X := fun i j h1 h2 => by
  rcases j2X h2 with rfl | rfl
  · omega
  · obtain rfl : i = 0 := by omega
    decide
theorem full2X : Full t2X := fun j hj => by rcases j2X hj with rfl | rfl <;> rfl
theorem props2X : Props 2 t2X := fun j hj => by
  rcases j2X hj with rfl | rfl
  · exact prpX (xs := [1]) (ys := [0]) (by decide) (by decide) rfl (by decide)
  · exact prpX (xs := [0, 1]) (ys := [1, 2]) (by decide) (by decide) rfl (by decide)
theorem cmn2X {a b : Nat} (ha : a < t2X.length) (hb : b < t2X.length) (hab : ¬ a = b) : cmn (tIn t2X a) (tIn t2X b) = 0 := by
  rcases j2X ha with rfl | rfl <;> rcases j2X hb with rfl | rfl
  · omega
  · decide
  · decide
  · omega
theorem pos2X : ∀ j, j < t2X.length → 0 < (tIn t2X j).length := fun j hj => by rcases j2X hj with rfl | rfl <;> decide
theorem pref2X : PreF t2X := fun a b ha hb hab h => by
  have h1 := pre_cmn.1 h
  rw [cmn2X ha hb hab] at h1
  have := pos2X a ha
  omega
theorem cons2X : Cons t2X := fun a b ha hb j hj => by
  by_cases e : a = b
  · rw [e]
  · rw [cmn2X ha hb e] at hj; omega
theorem vld2X {v : Int} (h : VldR 2 t2X v) : v = 0 := vld16_good h (by omega) (by omega) (by decide) srt2X props2X pos2X pref2X cons2X
/-- Two literal lists. -/
theorem two_lit {W : World} {z : Nat} (hz : W.heap.size = z) (xs ys : List Int) (c1 c2 : Array Value) (n m : Nat) (h1 : c1 = (xs.map (Value.int .i64)).toArray) (h2 : c2 = (ys.map (Value.int .i64)).toArray) (hn : n = xs.length) (hm : m = ys.length) (hx : xs.length ≤ 100) (hy : ys.length ≤ 100) :
    Ints ((W.alloc (.cells c1 3)).alloc (.cells c2 3)) (some ⟨z, 0, none⟩) n xs ∧ Ints ((W.alloc (.cells c1 3)).alloc (.cells c2 3)) (some ⟨z + 1, 0, none⟩) m ys ∧ Below W.heap.size W ((W.alloc (.cells c1 3)).alloc (.cells c2 3)) := by
  have i1 := Ints.new W xs c1 n h1 hn (by omega)
  have b1 := alloc_below W (.cells c1 3)
  have i2 := Ints.new (W.alloc (.cells c1 3)) ys c2 m h2 hm (by omega)
  have b2 := alloc_below (W.alloc (.cells c1 3)) (.cells c2 3)
  have hs : (W.alloc (.cells c1 3)).heap.size = z + 1 := by simp [hz]
  rw [hs] at i2
  rw [hz] at i1
  exact ⟨i1.below b2, i2, bt b1 b2⟩
theorem padl (T : Option Addr) (tn tc z n m : Nat) (ts : List (List Int × List Int)) (xs ys : List Int) (c1 c2 : Array Value) (W : World) (hz : W.heap.size = z) (hT : Trs W T tn ts) (h1 : c1 = (xs.map (Value.int .i64)).toArray) (h2 : c2 = (ys.map (Value.int .i64)).toArray) (hn : n = xs.length) (hm : m = ys.length) (hx : xs.length ≤ 100) (hy : ys.length ≤ 100) (hS : Srt ts) (hF : Full ts) (htn : tn ≤ 500000) :
    Calls Try.prog 31 #[.agg #[.int .i64 2, .slice T tn tc], .agg #[.slice (some ⟨z, 0, none⟩) n n, .slice (some ⟨z + 1, 0, none⟩) m m]] ((W.alloc (.cells c1 3)).alloc (.cells c2 3)) fun r w' => Below W.heap.size W w' ∧ ∃ (e : Int) (ts' : List (List Int × List Int)), InsR ts xs ys 2 e ts' ∧
    ((¬ e = 0 ∧ r = .returned (.tuple #[.agg #[.int .i64 2, .slice T tn tc], .int .i64 e])) ∨
     (e = 0 ∧ ∃ (g N : Nat) (cur' : Array Value), r = .returned (.tuple #[.agg #[.int .i64 2, .slice (some ⟨g, 0, none⟩) ts'.length N], .int .i64 0]) ∧ TrO w' 0 g N cur' ts')) := by
  obtain ⟨i1, i2, b2⟩ := two_lit hz xs ys c1 c2 n m h1 h2 hn hm hx hy
  refine (padd16 2 T _ _ tn tc n n m m ts xs ys _ (hT.below b2) i1 (Nat.le_refl _) i2 (Nat.le_refl _) hS hF htn).mono ?_
  rintro r w' ⟨b, e, ts', hI, hr⟩
  refine ⟨bt b2 b, e, ts', hI, ?_⟩
  rcases hr with h | ⟨he, g, N, cur', hr, hT'⟩
  · exact .inl h
  · exact .inr ⟨he, g, N, cur', hr, hT'.base (Nat.zero_le _)⟩

set_option linter.unusedSimpArgs false in
set_option linter.unusedVariables false in
set_option maxHeartbeats 16000000 in
set_option maxRecDepth 100000 in
theorem awake16 (w : World) : Calls Try.prog 16 #[] w fun e w' => e = .returned (.bool true) ∧ Below w.heap.size w w' := by
  go_enter Try.func16, Try.ntmps16
  go_wp2_with fail
  refine (pnew16 2 _).mono ?_
  rintro r w1 ⟨b1, h⟩
  rcases h with ⟨_, _, rfl⟩ | ⟨h, _⟩
  case inr => exact absurd ⟨by omega, by omega⟩ h
  obtain ⟨w2, hw2⟩ : ∃ w2, w2 = w1.alloc (.cells #[.int .i64 2, .slice none 0 0] 24) := ⟨_, rfl⟩
  obtain ⟨s, hs⟩ : ∃ s, s = w1.heap.size := ⟨_, rfl⟩
  have b2 : Below w1.heap.size w1 w2 := by rw [hw2]; exact alloc_below _ _
  have m2 : Bx w2 s #[.int .i64 2, .slice none 0 0] 24 := by rw [hw2, hs]; exact bx_new _ _ _
  have hz2 : w2.heap.size = w1.heap.size + 1 := by rw [hw2]; simp
  have hsw : w.heap.size ≤ s := by rw [hs]; exact b1.size
  have HA := Lib.hid (padl none 0 0 (w1.heap.size + 1) 2 2 [] [0, 1] [1, 2] #[.int .i64 0, .int .i64 1] #[.int .i64 1, .int .i64 2] w2 hz2 (Trs.none_ w2) rfl rfl rfl rfl (by decide) (by decide) srt_none full_none (by omega))
  have HB2 := Lib.hid (bt b1 b2)
  have HM2 := Lib.hid m2
  have HW2 := Lib.hid hw2
  have HSS := Lib.hid hs
  clear b1 b2 m2 hz2 hw2 hs
  go_wp2_with fail
  rw [← HW2.out]
  refine HA.out.mono ?_
  rintro r w3 ⟨b3, e, ts', hI, hr⟩
  obtain ⟨rfl, rfl⟩ := ins_a hI
  rcases hr with ⟨h, _⟩ | ⟨_, g3, N3, cur3, rfl, hT3⟩
  case inl => exact absurd rfl h
  rw [show t1X.length = 1 from rfl]
  rw [← HSS.out]
  have m3 := HM2.out.on b3
  have p0 := m3.cell 0
  have p1 := m3.cell 1
  have f0 := m3.free 0
  have f1 := m3.free 1
  simp at p0 p1
  obtain ⟨w4, hw4⟩ : ∃ w4, w4 = (w3.setCell ⟨s, 0, none⟩ (.int .i64 2)).setCell ⟨s, 1, none⟩ (.slice (some ⟨g3, 0, none⟩) 1 N3) := ⟨_, rfl⟩
  have HM4 := Lib.hid (show Bx w4 s #[.int .i64 2, .slice (some ⟨g3, 0, none⟩) 1 N3] 24 by rw [hw4]; exact m3.set2 _ _)
  have hTr4 : Trs w4 (some ⟨g3, 0, none⟩) 1 t1X := by rw [hw4]; exact (hT3.set2 m3 _ _).trs
  have HB4 := Lib.hid (show Below w.heap.size w w4 by rw [hw4]; exact set2B (bt HB2.out b3) hsw _ _)
  have hz4 : w4.heap.size = w3.heap.size := by rw [hw4]; simp
  have HW4 := Lib.hid hw4
  clear hw4 m3 hT3 b3 hI
  have HA := Lib.hid (padl (some ⟨g3, 0, none⟩) 1 N3 w3.heap.size 1 1 t1X [0] [1] #[.int .i64 0] #[.int .i64 1] w4 hz4 hTr4 rfl rfl rfl rfl (by decide) (by decide) srt1X full1X (by omega))
  clear hz4 hTr4
  go_wp2_with fail
  rw [← HW4.out]
  refine HA.out.mono ?_
  rintro r w5 ⟨b5, e, ts', hI, hr⟩
  obtain ⟨rfl, rfl⟩ := ins_b hI
  rcases hr with ⟨h, _⟩ | ⟨_, g5, N5, cur5, rfl, hT5⟩
  case inl => exact absurd rfl h
  rw [show t1X.length = 1 from rfl]
  clear p0 p1 f0 f1
  have hN5 : 1 ≤ N5 := hT5.le
  have m5 := HM4.out.on b5
  have p0 := m5.cell 0
  have p1 := m5.cell 1
  have f0 := m5.free 0
  have f1 := m5.free 1
  simp at p0 p1
  obtain ⟨w6, hw6⟩ : ∃ w6, w6 = (w5.setCell ⟨s, 0, none⟩ (.int .i64 2)).setCell ⟨s, 1, none⟩ (.slice (some ⟨g5, 0, none⟩) 1 N5) := ⟨_, rfl⟩
  have HM6 := Lib.hid (show Bx w6 s #[.int .i64 2, .slice (some ⟨g5, 0, none⟩) 1 N5] 24 by rw [hw6]; exact m5.set2 _ _)
  have hTr6 : Trs w6 (some ⟨g5, 0, none⟩) 1 t1X := by rw [hw6]; exact (hT5.set2 m5 _ _).trs
  have HB6 := Lib.hid (show Below w.heap.size w w6 by rw [hw6]; exact set2B (bt HB4.out b5) hsw _ _)
  have hz6 : w6.heap.size = w5.heap.size := by rw [hw6]; simp
  have HW6 := Lib.hid hw6
  clear hw6 m5 hT5 b5 hI
  have HA := Lib.hid (padl (some ⟨g5, 0, none⟩) 1 N5 w5.heap.size 2 2 t1X [0, 1] [1, 0] #[.int .i64 0, .int .i64 1] #[.int .i64 1, .int .i64 0] w6 hz6 hTr6 rfl rfl rfl rfl (by decide) (by decide) srt1X full1X (by omega))
  have HT6 := Lib.hid hTr6
  clear hz6 hTr6
  go_wp2_with fail
  rw [← HW6.out]
  refine HA.out.mono ?_
  rintro r w7 ⟨b7, e, ts', hI, hr⟩
  have he := ins_c hI
  subst he
  rcases hr with ⟨_, rfl⟩ | ⟨h, _⟩
  case inr => exact absurd h (by decide)
  clear p0 p1 f0 f1 hI
  obtain ⟨w8, hw8⟩ : ∃ w8, w8 = w7.alloc (.cells #[.int .i64 2, .slice (some ⟨g5, 0, none⟩) 1 N5] 24) := ⟨_, rfl⟩
  have a8 : Below w7.heap.size w7 w8 := by rw [hw8]; exact alloc_below _ _
  have hz8 : w8.heap.size = w7.heap.size + 1 := by rw [hw8]; simp
  have HM8 := Lib.hid ((HM6.out.on b7).on a8)
  have HT8 := Lib.hid ((HT6.out.below b7).below a8)
  have HB8 := Lib.hid (bt (bt HB6.out b7) a8)
  have HW8 := Lib.hid hw8
  obtain ⟨i1, i2, bl⟩ := two_lit hz8 [0, 1] [1, 0] #[.int .i64 0, .int .i64 1] #[.int .i64 1, .int .i64 0] 2 2 rfl rfl rfl rfl (by decide) (by decide)
  have HC := Lib.hid (pclash 2 (some ⟨g5, 0, none⟩) (some ⟨w7.heap.size + 1, 0, none⟩) (some ⟨w7.heap.size + 1 + 1, 0, none⟩) 1 N5 2 2 2 2 t1X [0, 1] [1, 0] _ (HT8.out.below bl) hN5 i1 (Nat.le_refl _) i2 srt1X full1X)
  have HBL := Lib.hid (bt HB8.out bl)
  have HML := Lib.hid (HM8.out.on bl)
  have HTL := Lib.hid (HT8.out.below bl)
  have k0 := (HM6.out.on b7).cell 0
  have k1 := (HM6.out.on b7).cell 1
  simp at k0 k1
  have k0 := (HM8.out).cell 0
  have k1 := (HM8.out).cell 1
  simp at k0 k1
  rw [HW8.out] at k0 k1
  clear hw8 a8 hz8 b7 i1 i2 bl
  go_wp2_with fail
  rw [← HW8.out]
  refine HC.out.mono ?_
  rintro r w9 ⟨fd, A9, l9, c9, f9, s9, zs9, rfl, hcl, o9, b9⟩
  obtain ⟨rfl, hzl, rfl, rfl⟩ := cls_x hcl
  have hl9 : l9 = 2 := by obtain ⟨A', c', e⟩ := o9.form; injection e with _ e2; rw [e2, hzl]
  subst hl9
  obtain ⟨w10, hw10⟩ : ∃ w10, w10 = w9.alloc (.cells #[.slice A9 2 c9, .int .i64 2, .int .i64 0] 43) := ⟨_, rfl⟩
  have a10 : Below w9.heap.size w9 w10 := by rw [hw10]; exact alloc_below _ _
  have hz10 : w10.heap.size = w9.heap.size + 1 := by rw [hw10]; simp
  have m10 : Bx w10 w9.heap.size #[.slice A9 2 c9, .int .i64 2, .int .i64 0] 43 := by rw [hw10]; exact bx_new _ _ _
  have hM10 := (HML.out.on b9).on a10
  have hT10 := (HTL.out.below b9).below a10
  have hB10 := bt (bt HBL.out b9) a10
  have HW10 := Lib.hid hw10
  have a11 := alloc_below w10 (.cells #[.int .i64 0, .int .i64 0] 3)
  have i11 := Ints.new w10 [0, 0] #[.int .i64 0, .int .i64 0] 2 rfl rfl (by decide)
  rw [hz10] at i11
  have HK := Lib.hid (pknown16 2 (some ⟨g5, 0, none⟩) (some ⟨w9.heap.size + 1, 0, none⟩) 1 N5 2 2 t1X [0, 0] _ (hT10.below a11) hN5 i11 srt1X full1X)
  have HB11 := Lib.hid (bt hB10 a11)
  have HM11 := Lib.hid (hM10.on a11)
  have HT11 := Lib.hid (hT10.below a11)
  have HC11 := Lib.hid (m10.on a11)
  have k0 := hM10.cell 0
  have k1 := hM10.cell 1
  simp at k0 k1
  rw [HW10.out] at k0 k1
  clear hw10 a10 hz10 m10 hM10 hT10 hB10 a11 i11 b9 o9 hcl hzl
  go_wp2_with fail
  rw [← HW10.out]
  refine HK.out.mono ?_
  rintro r w11 ⟨rfl, b11⟩
  rw [show knw t1X [0, 0] t1X.length = 1 by decide]
  have HM12 := Lib.hid (HM11.out.on b11)
  have hT12 := HT11.out.below b11
  have HB12 := Lib.hid (bt HB11.out b11)
  have hC12 := HC11.out.on b11
  have HA := Lib.hid (padl (some ⟨g5, 0, none⟩) 1 N5 w11.heap.size 1 1 t1X [1] [0] #[.int .i64 1] #[.int .i64 0] w11 rfl hT12 rfl rfl rfl rfl (by decide) (by decide) srt1X full1X (by omega))
  have q0 := hC12.cell 0
  have q1 := hC12.cell 1
  have q2 := hC12.cell 2
  simp at q0 q1 q2
  clear k0 k1
  have k0 := HM12.out.cell 0
  have k1 := HM12.out.cell 1
  simp at k0 k1
  clear hT12 hC12 b11
  go_wp2_with fail
  refine HA.out.mono ?_
  rintro r w13 ⟨b13, e, ts', hI, hr⟩
  obtain ⟨rfl, rfl⟩ := ins_d hI
  rcases hr with ⟨h, _⟩ | ⟨_, g13, N13, cur13, rfl, hT13⟩
  case inl => exact absurd rfl h
  rw [show t2X.length = 2 from rfl]
  have hN13 : 2 ≤ N13 := hT13.le
  clear q0 q1 q2 k0 k1
  have m13 := HM12.out.on b13
  have p0 := m13.cell 0
  have p1 := m13.cell 1
  have f0 := m13.free 0
  have f1 := m13.free 1
  simp at p0 p1
  obtain ⟨w14, hw14⟩ : ∃ w14, w14 = (w13.setCell ⟨s, 0, none⟩ (.int .i64 2)).setCell ⟨s, 1, none⟩ (.slice (some ⟨g13, 0, none⟩) 2 N13) := ⟨_, rfl⟩
  have HM14 := Lib.hid (show Bx w14 s #[.int .i64 2, .slice (some ⟨g13, 0, none⟩) 2 N13] 24 by rw [hw14]; exact m13.set2 _ _)
  have hTr14 : Trs w14 (some ⟨g13, 0, none⟩) 2 t2X := by rw [hw14]; exact (hT13.set2 m13 _ _).trs
  have HB14 := Lib.hid (show Below w.heap.size w w14 by rw [hw14]; exact set2B (bt HB12.out b13) hsw _ _)
  have hz14 : w14.heap.size = w13.heap.size := by rw [hw14]; simp
  have HW14 := Lib.hid hw14
  clear hw14 m13 hT13 b13 hI
  have a15 := alloc_below w14 (.cells #[.int .i64 0, .int .i64 1] 3)
  have i15 := Ints.new w14 [0, 1] #[.int .i64 0, .int .i64 1] 2 rfl rfl (by decide)
  rw [hz14] at i15
  have HAN := Lib.hid (panswer16 2 (some ⟨g13, 0, none⟩) (some ⟨w13.heap.size, 0, none⟩) 2 N13 2 2 t2X [0, 1] _ (hTr14.below a15) hN13 i15 srt2X full2X)
  have HB15 := Lib.hid (bt HB14.out a15)
  have HM15 := Lib.hid (HM14.out.on a15)
  have HT15 := Lib.hid (hTr14.below a15)
  clear a15 i15 hz14 hTr14
  go_wp2_with fail
  rw [← HW14.out]
  refine HAN.out.mono ?_
  rintro r w16 hans
  obtain ⟨A16, c16, rfl, o16, b16⟩ := ans_pre16 hans full2X cons2X (j := 1) (by decide) (by decide) (by omega)
  have i16 := o16.ints (by decide)
  have hM16 := HM15.out.on b16
  have hT16 := HT15.out.below b16
  have HB16 := Lib.hid (bt HB15.out b16)
  obtain ⟨bT, oT, A1, n1, c1, A2, n2, c2, eT, hgT, j1, j2, _, _, j3, j4⟩ := hT16.at_ (k := 0) (by omega)
  cases eT
  have hn1 : n1 = 1 := j3.1.symm
  subst hn1
  simp at j1
  clear p0 p1 f0 f1
  have k0 := hM16.cell 0
  have k1 := hM16.cell 1
  simp at k0 k1
  have a17 := alloc_below w16 (.cells #[.int .i64 1, .int .i64 2] 3)
  have i17 := Ints.new w16 [1, 2] #[.int .i64 1, .int .i64 2] 2 rfl rfl (by decide)
  have HIN := Lib.hid (rints A16 (some ⟨w16.heap.size, 0, none⟩) 2 c16 2 2 _ [1, 2] true _ (i16.below a17) i17 (by decide))
  have HM17 := Lib.hid (hM16.on a17)
  have HT17 := Lib.hid (hT16.below a17)
  have HB17 := Lib.hid (bt HB16.out a17)
  clear hans o16 b16 i16 hM16 hT16 hgT j2 j3 j4 a17 i17
  go_wp2_with fail
  refine HIN.out.mono ?_
  rintro r w18 ⟨rfl, q18, rfl⟩
  have HB18 := Lib.hid (below_drewN HB17.out q18)
  have HT18 := Lib.hid (HT17.out.drewN q18)
  have hM18 := HM17.out.drewN q18
  generalize (w16.alloc (.cells #[.int .i64 1, .int .i64 2] 3)).drewN q18 = w19 at HB18 HT18 hM18 ⊢
  have HVL := Lib.hid (pvalid16 2 (some ⟨g13, 0, none⟩) 2 N13 t2X w19 HT18.out hN13)
  clear k0 k1 j1
  have k0 := hM18.cell 0
  have k1 := hM18.cell 1
  simp at k0 k1
  clear hM18
  go_wp2_with fail
  refine HVL.out.mono ?_
  rintro r w20 ⟨v, rfl, hv, b20⟩
  obtain rfl := vld2X hv
  have HB20 := Lib.hid (bt HB18.out b20)
  clear k0 k1 hv b20
  go_wp2_with fail
  go_ret
  exact ⟨rfl, HB20.out⟩
end Go.Proofs.Ytkgdgnmobahhfaa
end

section
/- The law ObserveExact: the walk. -/
namespace Go.Proofs.Ytkgdgnmobahhfaa
open Go.RowKit

/-- The answer of many. -/
def ManyE (p : Nat) (ws : List (List Int)) (w : World) (r : Ending) (w' : World) : Prop := ∃ b, r = .returned (.bool b) ∧ (b = false → p ≤ 60 ∧ ∀ x, x ∈ ws → x.length ≤ 100) ∧ Below w.heap.size w w'
set_option linter.unusedSimpArgs false in
set_option linter.unusedVariables false in
set_option maxHeartbeats 8000000 in
set_option maxRecDepth 100000 in
/-- many: too much to be examined? -/
theorem pmany16 (i st : Int) (A B C : Option Addr) (n c m d p e : Nat) (ws : List (List Int)) (w : World) (hW : Lists w C p ws) :
    Calls Try.prog 35 #[.agg #[.int .i64 i, .int .i64 st, .slice A n c, .slice B m d], .slice C p e] w fun r w' => ManyE p ws w r w' := by
  obtain ⟨w0, hw0⟩ : ∃ w0, w0 = w.alloc (.cells #[.int .i64 i, .int .i64 st, .slice A n c, .slice B m d] 56) := ⟨_, rfl⟩
  have hb0 : Below w.heap.size w w0 := by rw [hw0]; exact alloc_below _ _
  have m0 : Bx w0 w.heap.size #[.int .i64 i, .int .i64 st, .slice A n c, .slice B m d] 56 := by rw [hw0]; exact bx_new _ _ _
  have HW := Lib.hid (hW.below hb0)
  have HB0 := Lib.hid hb0
  have HW0 := Lib.hid hw0
  have HLW := Lib.hid hW.1
  have l0 := m0.cell 0
  have l2 := m0.cell 2
  simp at l0 l2
  rw [hw0] at l0 l2
  clear hw0 hb0 m0 hW
  by_cases hbad : 60 < p ∨ 40 < n ∨ 20 < i
  · by_cases h1 : 60 < p
    · have h1' : (60 : Int) < (p : Int) := by omega
      go_enter Try.func35, Try.ntmps35
      go_wp2_with fail
      go_ret
      exact ⟨true, rfl, fun h => absurd h (by decide), alloc_below _ _⟩
    · have h1' : ¬ (60 : Int) < (p : Int) := by omega
      by_cases h2 : 40 < n
      · have h2' : (40 : Int) < (n : Int) := by omega
        go_enter Try.func35, Try.ntmps35
        go_wp2_with fail
        go_ret
        exact ⟨true, rfl, fun h => absurd h (by decide), alloc_below _ _⟩
      · have h2' : ¬ (40 : Int) < (n : Int) := by omega
        have h3 : (20 : Int) < i := by omega
        go_enter Try.func35, Try.ntmps35
        go_wp2_with fail
        go_ret
        exact ⟨true, rfl, fun h => absurd h (by decide), alloc_below _ _⟩
  have h1' : ¬ (60 : Int) < (p : Int) := by omega
  have h2' : ¬ (40 : Int) < (n : Int) := by omega
  have h3 : ¬ (20 : Int) < i := by omega
  go_enter Try.func35, Try.ntmps35
  go_upto_region 4 with fail
  rw [← HW0.out]
  clear l0 l2
  go_loopw [5] (fun v5 wr => ∃ k : Nat, v5 = .int .i64 k ∧ k ≤ p ∧ Hid (∀ j, j < k → (ws.getD j []).length ≤ 100) ∧ ∃ q, wr = w0.drewN q) (fun v5 _ => p - (intOf v5).toNat)
  case atStart => exact ⟨0, rfl, Nat.zero_le _, Lib.hid (fun j h => absurd h (by omega)), 0, rfl⟩
  case round =>
    obtain ⟨k, rfl, hk, HK, q, rfl⟩ := hrel
    by_cases hlt : k < p
    · obtain ⟨b, off, Us, un, uc, rfl, hgb, i1, i2⟩ := HW.out.at_ hlt
      have hkI : (k : Int) < (p : Int) := by omega
      have hk0 : (0 : Int) ≤ (k : Int) := by omega
      have wk1 : IntKind.i64.wrap ((k : Int) + 1) = ((k + 1 : Nat) : Int) := by rw [IntKind.wrap_i64]; omega
      have hul := i2.1
      have HUL := Lib.hid hul
      have i1' := i1
      clear i2 hgb hul
      by_cases hu : 100 < un
      · have hu' : (100 : Int) < (un : Int) := by omega
        go_wp2_with fail
        go_ret
        exact ⟨true, rfl, fun h => absurd h (by decide), below_drewN HB0.out q⟩
      · have hu' : ¬ (100 : Int) < (un : Int) := by omega
        have HK2 := Lib.hid (show ∀ j, j < k + 1 → (ws.getD j []).length ≤ 100 from fun j hj => by
          rcases Nat.lt_or_ge j k with h | h
          · exact HK.out j h
          · obtain rfl : j = k := by omega
            rw [HUL.out]; omega)
        go_wp2_with fail
        go_roundw
        case rel => exact ⟨k + 1, rfl, by omega, HK2, q, rfl⟩
        case measure => simp [intOf]; omega
    · have hkI : ¬ (k : Int) < (p : Int) := by omega
      go_wp2_with fail
      go_ret
      exact ⟨false, rfl, fun _ => ⟨by omega, fun x hx => by
        obtain ⟨j, hj, e⟩ := List.mem_iff_getElem.1 hx
        have := HK.out j (by rw [HLW.out] at hj; omega)
        rw [List.getD_eq_getElem?_getD, List.getElem?_eq_getElem hj] at this
        rw [← e]; exact this⟩, below_drewN HB0.out q⟩

theorem trs_zero {i st : Nat} {nx ot : List (List Int)} : ∀ (ws : List (List Int)) (l : List (List Int × List Int)), (trs i st nx ot ws l).2 = 0 → ∀ x, x ∈ ws → chk x i = 0
  | [], _, _, _, hx => absurd hx (by simp)
  | v :: ws, l, h, x, hx => by
    unfold trs at h
    by_cases hc : chk v i = 0
    · rw [if_pos hc] at h
      rcases List.mem_cons.1 hx with rfl | hx
      · exact hc
      · exact trs_zero ws _ h x hx
    · rw [if_neg hc] at h
      exact absurd h hc
set_option linter.unusedSimpArgs false in
set_option linter.unusedVariables false in
set_option maxHeartbeats 16000000 in
set_option maxRecDepth 100000 in
theorem exact16_walk (i st : Int) (A B C V : Option Addr) (n c m d p e vn vc : Nat) (nx ot ws : List (List Int)) (vs : List Int) (w : World) (hx : Lists w A n nx) (ho : Lists w B m ot) (hW : Lists w C p ws) (hV : Ints w V vn vs) :
    Calls Try.prog 9 #[.agg #[.int .i64 i, .int .i64 st, .slice A n c, .slice B m d], .slice C p e, .slice V vn vc] w fun r w' => r = .returned (.bool true) ∧ Below w.heap.size w w' := by
  obtain ⟨w0, hw0⟩ : ∃ w0, w0 = w.alloc (.cells #[.int .i64 i, .int .i64 st, .slice A n c, .slice B m d] 56) := ⟨_, rfl⟩
  have hb0 : Below w.heap.size w w0 := by rw [hw0]; exact alloc_below _ _
  have m0 : Bx w0 w.heap.size #[.int .i64 i, .int .i64 st, .slice A n c, .slice B m d] 56 := by rw [hw0]; exact bx_new _ _ _
  have HX := Lib.hid (fun (W : World) (h : Below w0.heap.size w0 W) => (hx.below hb0).below h)
  have HO := Lib.hid (fun (W : World) (h : Below w0.heap.size w0 W) => (ho.below hb0).below h)
  have HW := Lib.hid (fun (W : World) (h : Below w0.heap.size w0 W) => (hW.below hb0).below h)
  have HV := Lib.hid (fun (W : World) (h : Below w0.heap.size w0 W) => (hV.below hb0).below h)
  have HM := Lib.hid (fun (W : World) (h : Below w0.heap.size w0 W) => m0.on h)
  have HB0 := Lib.hid hb0
  have HW0 := Lib.hid hw0
  have HLW := Lib.hid hW.1
  have HLV := Lib.hid hV.1
  have HLX := Lib.hid hx.1
  have hbc := Below.refl w0.heap.size w0
  have l0 := (HM.out _ hbc).cell 0
  have l1 := (HM.out _ hbc).cell 1
  have l2 := (HM.out _ hbc).cell 2
  have l3 := (HM.out _ hbc).cell 3
  simp at l0 l1 l2 l3
  rw [HW0.out] at l0 l1 l2 l3
  clear hw0 hb0 m0 hx ho hW hV
  go_enter Try.func9, Try.ntmps9
  go_wp2_with fail
  rw [← HW0.out]
  refine (pmany16 i st A B C n c m d p e ws w0 (HW.out _ hbc)).mono ?_
  rintro r w1 ⟨b1, rfl, hP, a1⟩
  have hbc := bt hbc a1
  clear a1 l0 l1 l2 l3
  cases b1
  case true =>
    clear hP
    go_wp2_with fail
    refine (awake16 _).mono ?_
    rintro r w9 ⟨rfl, a9⟩
    go_wp2
    go_ret
    exact ⟨rfl, bt HB0.out (bt hbc a9)⟩
  have HP := Lib.hid (hP rfl)
  have hp60 := HP.out.1
  clear hP
  have l0 := (HM.out _ hbc).cell 0
  have l1 := (HM.out _ hbc).cell 1
  have l2 := (HM.out _ hbc).cell 2
  have l3 := (HM.out _ hbc).cell 3
  simp at l0 l1 l2 l3
  by_cases hv : vld i st nx ot = 0
  case neg =>
    have HV' := Lib.hid hv
    have HBC := Lib.hid hbc
    have HPB := Lib.hid (pof_bad i st A B C n c m d p e nx ot _ w1 (HX.out _ hbc) (HO.out _ hbc) rfl hv)
    clear hv hbc
    go_wp2_with fail
    refine HPB.out.mono ?_
    rintro r w4 ⟨b4, e4, ts4, he4, hr4⟩
    clear l0 l1 l2 l3
    rcases he4 with ⟨h5, h6⟩ | ⟨h5, _⟩
    case inr => exact absurd h5 HV'.out
    rw [← h6] at h5
    rcases hr4 with ⟨_, rfl⟩ | ⟨h7, _⟩
    case inr => exact absurd h7 h5
    have hne : (e4 != 0) = true := by simpa using h5
    have HB4 := Lib.hid (bt (bt HBC.out b4) (alloc_below w4 (.cells #[.int .i64 0, .slice none 0 0] 24)))
    clear h5 h6 b4
    go_wp2_with fail
    refine (awake16 _).mono ?_
    rintro r w9 ⟨rfl, a9⟩
    go_wp2
    go_ret
    exact ⟨rfl, bt HB0.out (bt HB4.out a9)⟩
  obtain ⟨i, st, n', rfl, rfl, hMok⟩ := vld_zero hv
  clear hv
  obtain rfl : n' = n := by have := hMok.nxl; rw [HLX.out] at this; exact this.symm
  obtain rfl : m = n' := by have := hMok.otl; rw [(HO.out _ hbc).1] at this; exact this
  have HMK := Lib.hid hMok
  have hi12 : 1 ≤ i ∧ i ≤ 64 := ⟨hMok.i1, hMok.i2⟩
  have HI12 := Lib.hid hi12
  obtain ⟨us, hus⟩ : ∃ us, us = (trs i st nx ot ws []).1 := ⟨_, rfl⟩
  obtain ⟨E, hE⟩ : ∃ E, E = (trs i st nx ot ws []).2 := ⟨_, rfl⟩
  have HUM := Lib.hid (show ∀ u, u ∈ us → u.2 = runO nx ot st u.1 ∧ chk u.1 i = 0 by rw [hus]; exact fun u hu => (trs_mem (ws := ws) ws [] (fun _ h => h) (fun u hu => absurd hu (by simp)) u hu).2)
  have HUS := Lib.hid hus
  have HEE := Lib.hid hE
  have HPO := Lib.hid (pof_ok i st m A B C c d p e nx ot ws w1 (HX.out _ hbc) (HO.out _ hbc) hMok (HW.out _ hbc) (by omega) (fun x hx => by have := HP.out.2 x hx; omega))
  rw [← hus, ← hE] at HPO
  clear hus hE hMok hi12
  have HBC := Lib.hid hbc
  clear hbc
  go_wp2_with fail
  refine HPO.out.mono ?_
  rintro r w4 ⟨b4, e4, ts, he4, hr4⟩
  clear l0 l1 l2 l3 HPO
  rcases hr4 with ⟨h5, rfl⟩ | ⟨rfl, g, N, cur, rfl, hT4⟩
  · have hne : (e4 != 0) = true := by simpa using h5
    have HB4 := Lib.hid (bt (bt HBC.out b4) (alloc_below w4 (.cells #[.int .i64 0, .slice none 0 0] 24)))
    clear h5 b4 he4
    go_wp2_with fail
    refine (awake16 _).mono ?_
    rintro r w9 ⟨rfl, a9⟩
    go_wp2
    go_ret
    exact ⟨rfl, bt HB0.out (bt HB4.out a9)⟩
  have hE0 : E = 0 ∧ AddsR i us [] 0 ts := by
    rcases he4 with ⟨h5, h6⟩ | ⟨h5, h⟩
    · exact absurd h6.symm h5
    · exact ⟨h5, h⟩
  clear he4
  obtain ⟨hE0, hA⟩ := hE0
  have HOM := Lib.hid (adds_of16 hA (fun j hj => absurd hj (by simp)) HUM.out)
  have HSS := Lib.hid (hA.srt srt_none)
  have HPP := Lib.hid (hA.props (fun j hj => absurd hj (by simp)))
  have HFF := Lib.hid (of_full HOM.out)
  have HKN := Lib.hid (show ∀ x, x ∈ ws → knw ts x ts.length = x.length by
    intro x hx
    have hall : ∀ y, y ∈ ws → chk y i = 0 := trs_zero ws [] (by rw [← HEE.out]; exact hE0)
    have hm : (x, runO nx ot st x) ∈ us := by rw [HUS.out, trs_map ws [] hall]; exact List.mem_map.2 ⟨x, hx, rfl⟩
    exact hA.has _ hm)
  clear hA hE0
  obtain ⟨tn, htn⟩ : ∃ tn, tn = ts.length := ⟨_, rfl⟩
  rw [← htn]
  have htN : tn ≤ N := by rw [htn]; exact hT4.le
  have HTN := Lib.hid htn
  clear htn
  obtain ⟨w5, hw5⟩ : ∃ w5, w5 = w4.alloc (.cells #[.int .i64 (i : Int), .slice (some ⟨g, 0, none⟩) tn N] 24) := ⟨_, rfl⟩
  obtain ⟨b7, hb7⟩ : ∃ b7, b7 = w4.heap.size := ⟨_, rfl⟩
  have hal : Below w4.heap.size w4 w5 := by rw [hw5]; exact alloc_below _ _
  have m5 : Bx w5 b7 #[.int .i64 (i : Int), .slice (some ⟨g, 0, none⟩) tn N] 24 := by rw [hw5, hb7]; exact bx_new _ _ _
  have HB5 := Lib.hid (bt (bt HBC.out b4) hal)
  have HM5 := Lib.hid (fun (W : World) (h : Below w5.heap.size w5 W) => m5.on h)
  have HT5 := Lib.hid (fun (W : World) (h : Below w5.heap.size w5 W) => ((hT4.below hal).below h).trs)
  rw [← HTN.out] at HT5
  have HW5 := Lib.hid hw5
  have HB7 := Lib.hid hb7
  have q0 := m5.cell 0
  have q1 := m5.cell 1
  simp at q0 q1
  rw [HW5.out, HB7.out] at q0 q1
  have HAN := Lib.hid (panswer16 (i : Int) (some ⟨g, 0, none⟩) V tn N vn vc ts vs w5 (HT5.out _ (Below.refl _ _)) htN (HV.out _ HB5.out) HSS.out HFF.out)
  clear hw5 hb7 hal m5 hT4 b4
  go_wp2_with fail
  rw [← HW5.out, ← HB7.out]
  refine HAN.out.mono ?_
  rintro r w6 hans
  obtain ⟨a6, hor⟩ := ans_exact hans HOM.out HPP.out HI12.out HLV.out
  have hbc := bt HB5.out a6
  have HB6 := Lib.hid a6
  clear hans a6 q0 q1
  have l0 := (HM.out _ hbc).cell 0
  have l1 := (HM.out _ hbc).cell 1
  have l2 := (HM.out _ hbc).cell 2
  have l3 := (HM.out _ hbc).cell 3
  simp at l0 l1 l2 l3
  have HRU := Lib.hid (prunw (i : Int) (st : Int) A B V m c m d vn vc nx ot vs w6 (HX.out _ hbc) (HO.out _ hbc) (HV.out _ hbc))
  have HBC6 := Lib.hid hbc
  clear hbc
  have HGOAL : True := trivial
  rcases hor with ⟨rfl, _⟩ | ⟨A6, c6, rfl, i6, hck⟩
  · go_wp2_with fail
    refine HRU.out.mono ?_
    rintro r w7 ⟨A7, c7, rfl, _, a7⟩
    have HBR := Lib.hid (HB6.out.trans (a7.mono HB6.out.size))
    clear a7 l0 l1 l2 l3
    go_wp2_with fail
    go_loopw [13] (fun v13 wr => ∃ s : Nat, v13 = .int .i64 s ∧ s ≤ p ∧ Hid (Below w5.heap.size w5 wr)) (fun v13 _ => p - (intOf v13).toNat)
    case atStart => exact ⟨0, rfl, Nat.zero_le _, HBR⟩
    case round =>
      clear HBR
      obtain ⟨s, rfl, hsp, HBR⟩ := hrel
      by_cases hlt : s < p
      · obtain ⟨b, off, Us, un, uc, eC, hgb, i1, i2⟩ := (HW.out _ HB5.out).at_ hlt
        subst eC
        obtain ⟨xu, hxu⟩ : ∃ xu, xu = ws.getD s [] := ⟨_, rfl⟩
        rw [← hxu] at i2
        have hmem : xu ∈ ws := by rw [hxu, List.getD_eq_getElem?_getD, List.getElem?_eq_getElem (by rw [HLW.out]; exact hlt)]; exact List.getElem_mem _
        have HKU := Lib.hid (HKN.out xu hmem)
        have HUI := Lib.hid (fun (W : World) (h : Below w5.heap.size w5 W) => i2.below h)
        have HUL := Lib.hid i2.1
        have hunb : un ≤ 100 := by have := HP.out.2 xu hmem; rw [i2.1] at this; exact this
        have HS := Lib.hid (show ∀ W, Below w5.heap.size w5 W → Bx W b7 #[.int .i64 (i : Int), .slice (some ⟨g, 0, none⟩) tn N] 24 ∧ Bx W w.heap.size #[.int .i64 (i : Int), .int .i64 (st : Int), .slice A m c, .slice B m d] 56 ∧ W.cell? ⟨b, off + s, none⟩ = some (.slice Us un uc) from fun W h => ⟨HM5.out _ h, HM.out _ (bt HB5.out h), (h.cell (p := ⟨b, off + s, none⟩) hgb).trans i1⟩)
        have hsI : (s : Int) < (p : Int) := by omega
        have hs0 : (0 : Int) ≤ (s : Int) := by omega
        have ws1 : IntKind.i64.wrap ((s : Int) + 1) = ((s + 1 : Nat) : Int) := by rw [IntKind.wrap_i64]; omega
        clear i1 i2 hxu hmem hgb
        go_upto_region 13 with fail
        have hbf : Below w5.heap.size w5 wr.drew := below_drewN HBR.out 1
        refine wp_region_heldX (X := fun k => ([] : List Nat).contains k) (S := fun W => Bx W b7 #[.int .i64 (i : Int), .slice (some ⟨g, 0, none⟩) tn N] 24 ∧ Bx W w.heap.size #[.int .i64 (i : Int), .int .i64 (st : Int), .slice A m c, .slice B m d] 56 ∧ W.cell? ⟨b, off + s, none⟩ = some (.slice Us un uc)) (by kernel_rfl) ?_
        generalize wr.drew = wkd at hbf ⊢
        refine wpAnyX_takeL (L := []) (i := 0) (v := .agg (#[.int .i64 (i : Int), .slice (some ⟨g, 0, none⟩) tn N])) rfl (by kernel_rfl) (by kernel_rfl) (by kernel_rfl) (by kernel_rfl) (fun _ _ _ h => h) (Or.inl ⟨by rfl, fun W hSW => run_load_bx 24 _ rfl (b7) rfl 24 (#[.int .i64 (i : Int), .slice (some ⟨g, 0, none⟩) tn N]) (0, 0) _ (hSW.1) Try.underlying24 rfl (by kernel_rfl)⟩) (HS.out _ hbf) ?_
        (try simp only [Act.put, List.getElem_toArray, List.getElem_cons_zero, List.getElem_cons_succ, List.setIfInBounds_toArray, List.set_cons_zero, List.set_cons_succ])
        refine wpAnyX_pure (i := 1) (v := ?_) rfl (by kernel_rfl) (by kernel_rfl) (by kernel_rfl) (fun _ _ _ h => h) (Or.inl ⟨by rfl, ?_⟩) ?_
        rotate_left
        · (intro W _; go_simp; try with_reducible rfl)
        (try simp only [Act.put, List.getElem_toArray, List.getElem_cons_zero, List.getElem_cons_succ, List.setIfInBounds_toArray, List.set_cons_zero, List.set_cons_succ])
        refine wpAnyX_pure (i := 2) (v := ?_) rfl (by kernel_rfl) (by kernel_rfl) (by kernel_rfl) (fun _ _ _ h => h) (Or.inl ⟨by rfl, ?_⟩) ?_
        rotate_left
        · (intro W _; go_simp; try with_reducible rfl)
        (try simp only [Act.put, List.getElem_toArray, List.getElem_cons_zero, List.getElem_cons_succ, List.setIfInBounds_toArray, List.set_cons_zero, List.set_cons_succ])
        refine wpAnyX_pure (i := 3) (v := ?_) rfl (by kernel_rfl) (by kernel_rfl) (by kernel_rfl) (fun _ _ _ h => h) (Or.inl ⟨by rfl, ?_⟩) ?_
        rotate_left
        · (intro W _; go_simp; try with_reducible rfl)
        (try simp only [Act.put, List.getElem_toArray, List.getElem_cons_zero, List.getElem_cons_succ, List.setIfInBounds_toArray, List.set_cons_zero, List.set_cons_succ])
        refine wpAnyX_takeL (L := []) (i := 4) (v := ?_) rfl (by kernel_rfl) (by kernel_rfl) (by kernel_rfl) (by kernel_rfl) (fun _ _ _ h => h) (Or.inl ⟨by rfl, ?_⟩) (HS.out _ hbf) ?_
        rotate_left
        · (intro W hSW; (try dsimp only at hSW); obtain ⟨z0, z1, z2⟩ := hSW; go_simp; try with_reducible rfl)
        (try simp only [Act.put, List.getElem_toArray, List.getElem_cons_zero, List.getElem_cons_succ, List.setIfInBounds_toArray, List.set_cons_zero, List.set_cons_succ])
        refine wpAnyX_one (i := 5) rfl (by kernel_rfl) (fun K hK => ?_)
        go_simp
        go_at_call 24
        refine (panswer16 (i : Int) (some ⟨g, 0, none⟩) Us tn N un uc ts xu _ (HT5.out _ hbf) htN (HUI.out _ hbf) HSS.out HFF.out).mono ?_
        rintro r x6 hans
        obtain ⟨a6, hor⟩ := ans_exact hans HOM.out HPP.out HI12.out HUL.out
        have hyes : ∃ A' c', r = .returned (.tuple #[.slice A' un c', .bool true]) ∧ Ints x6 A' un (runO nx ot st xu) ∧ chk xu i = 0 := by
          rcases hor with ⟨_, h⟩ | h
          · have := HKU.out; rw [HUL.out] at this; omega
          · exact h
        obtain ⟨A6', c6', rfl, i6, hck⟩ := hyes
        have HJ6 := Lib.hid (fun (W : World) (h : Below x6.heap.size x6 W) => i6.below h)
        have HCK := Lib.hid hck
        have hbf := bt hbf a6
        clear hans hor i6 hck a6
        refine hK.out _ _ (fun _ _ => HS.out _ hbf) ?_
        (try simp only [Act.put, List.getElem_toArray, List.getElem_cons_zero, List.getElem_cons_succ, List.setIfInBounds_toArray, List.set_cons_zero, List.set_cons_succ])
        refine wpAnyX_pure (i := 6) (v := ?_) rfl (by kernel_rfl) (by kernel_rfl) (by kernel_rfl) (fun _ _ _ h => h) (Or.inl ⟨by rfl, ?_⟩) ?_
        rotate_left
        · (intro W _; go_simp; try with_reducible rfl)
        (try simp only [Act.put, List.getElem_toArray, List.getElem_cons_zero, List.getElem_cons_succ, List.setIfInBounds_toArray, List.set_cons_zero, List.set_cons_succ])
        refine wpAnyX_pure (i := 7) (v := ?_) rfl (by kernel_rfl) (by kernel_rfl) (by kernel_rfl) (fun _ _ _ h => h) (Or.inl ⟨by rfl, ?_⟩) ?_
        rotate_left
        · (intro W _; go_simp; try with_reducible rfl)
        (try simp only [Act.put, List.getElem_toArray, List.getElem_cons_zero, List.getElem_cons_succ, List.setIfInBounds_toArray, List.set_cons_zero, List.set_cons_succ])
        refine wpAnyX_pure (i := 8) (v := ?_) rfl (by kernel_rfl) (by kernel_rfl) (by kernel_rfl) (fun _ _ _ h => h) (Or.inl ⟨by rfl, ?_⟩) ?_
        rotate_left
        · (intro W _; go_simp; try with_reducible rfl)
        (try simp only [Act.put, List.getElem_toArray, List.getElem_cons_zero, List.getElem_cons_succ, List.setIfInBounds_toArray, List.set_cons_zero, List.set_cons_succ])
        refine wpAnyX_pure (i := 9) (v := ?_) rfl (by kernel_rfl) (by kernel_rfl) (by kernel_rfl) (fun _ _ _ h => h) (Or.inl ⟨by rfl, ?_⟩) ?_
        rotate_left
        · (intro W _; go_simp; try with_reducible rfl)
        (try simp only [Act.put, List.getElem_toArray, List.getElem_cons_zero, List.getElem_cons_succ, List.setIfInBounds_toArray, List.set_cons_zero, List.set_cons_succ])
        refine wpAnyX_pure (i := 10) (v := ?_) rfl (by kernel_rfl) (by kernel_rfl) (by kernel_rfl) (fun _ _ _ h => h) (Or.inl ⟨by rfl, ?_⟩) ?_
        rotate_left
        · (intro W _; go_simp; try with_reducible rfl)
        (try simp only [Act.put, List.getElem_toArray, List.getElem_cons_zero, List.getElem_cons_succ, List.setIfInBounds_toArray, List.set_cons_zero, List.set_cons_succ])
        refine wpAnyX_done (by kernel_rfl) ?_ _
        go_upto_region 14 with fail
        have hb6 : Below x6.heap.size x6 x6.drew := below_drewN (Below.refl _ _) 1
        have hbf : Below w5.heap.size w5 x6.drew := below_drewN hbf 1
        refine wp_region_heldX (X := fun k => ([] : List Nat).contains k) (S := fun W => Bx W b7 #[.int .i64 (i : Int), .slice (some ⟨g, 0, none⟩) tn N] 24 ∧ Bx W w.heap.size #[.int .i64 (i : Int), .int .i64 (st : Int), .slice A m c, .slice B m d] 56 ∧ W.cell? ⟨b, off + s, none⟩ = some (.slice Us un uc)) (by kernel_rfl) ?_
        generalize x6.drew = wkd at hbf hb6 ⊢
        refine wpAnyX_takeL (L := []) (i := 0) (v := .agg (#[.int .i64 (i : Int), .int .i64 (st : Int), .slice A m c, .slice B m d])) rfl (by kernel_rfl) (by kernel_rfl) (by kernel_rfl) (by kernel_rfl) (fun _ _ _ h => h) (Or.inl ⟨by rfl, fun W hSW => run_load_bx 56 _ rfl (w.heap.size) rfl 56 (#[.int .i64 (i : Int), .int .i64 (st : Int), .slice A m c, .slice B m d]) (0, 0) _ (hSW.2.1) Try.underlying56 rfl (by kernel_rfl)⟩) (HS.out _ hbf) ?_
        (try simp only [Act.put, List.getElem_toArray, List.getElem_cons_zero, List.getElem_cons_succ, List.setIfInBounds_toArray, List.set_cons_zero, List.set_cons_succ])
        refine wpAnyX_pure (i := 1) (v := ?_) rfl (by kernel_rfl) (by kernel_rfl) (by kernel_rfl) (fun _ _ _ h => h) (Or.inl ⟨by rfl, ?_⟩) ?_
        rotate_left
        · (intro W _; go_simp; try with_reducible rfl)
        (try simp only [Act.put, List.getElem_toArray, List.getElem_cons_zero, List.getElem_cons_succ, List.setIfInBounds_toArray, List.set_cons_zero, List.set_cons_succ])
        refine wpAnyX_pure (i := 2) (v := ?_) rfl (by kernel_rfl) (by kernel_rfl) (by kernel_rfl) (fun _ _ _ h => h) (Or.inl ⟨by rfl, ?_⟩) ?_
        rotate_left
        · (intro W _; go_simp; try with_reducible rfl)
        (try simp only [Act.put, List.getElem_toArray, List.getElem_cons_zero, List.getElem_cons_succ, List.setIfInBounds_toArray, List.set_cons_zero, List.set_cons_succ])
        refine wpAnyX_pure (i := 3) (v := ?_) rfl (by kernel_rfl) (by kernel_rfl) (by kernel_rfl) (fun _ _ _ h => h) (Or.inl ⟨by rfl, ?_⟩) ?_
        rotate_left
        · (intro W _; go_simp; try with_reducible rfl)
        (try simp only [Act.put, List.getElem_toArray, List.getElem_cons_zero, List.getElem_cons_succ, List.setIfInBounds_toArray, List.set_cons_zero, List.set_cons_succ])
        refine wpAnyX_takeL (L := []) (i := 4) (v := ?_) rfl (by kernel_rfl) (by kernel_rfl) (by kernel_rfl) (by kernel_rfl) (fun _ _ _ h => h) (Or.inl ⟨by rfl, ?_⟩) (HS.out _ hbf) ?_
        rotate_left
        · (intro W hSW; (try dsimp only at hSW); obtain ⟨z0, z1, z2⟩ := hSW; go_simp; try with_reducible rfl)
        (try simp only [Act.put, List.getElem_toArray, List.getElem_cons_zero, List.getElem_cons_succ, List.setIfInBounds_toArray, List.set_cons_zero, List.set_cons_succ])
        refine wpAnyX_one (i := 5) rfl (by kernel_rfl) (fun K hK => ?_)
        go_simp
        go_at_call 38
        refine (prun_ok16 (HX.out _ (bt HB5.out hbf)) (HO.out _ (bt HB5.out hbf)) HMK.out (HUI.out _ hbf) HCK.out).mono ?_
        rintro r x7 ⟨A7', c7', rfl, o7, a7⟩
        have i7 := o7.ints (by rw [runO_len, HUL.out]; omega)
        have hbf := bt hbf a7
        have hb6 := bt hb6 a7
        refine hK.out _ _ (fun _ _ => HS.out _ hbf) ?_
        (try simp only [Act.put, List.getElem_toArray, List.getElem_cons_zero, List.getElem_cons_succ, List.setIfInBounds_toArray, List.set_cons_zero, List.set_cons_succ])
        refine wpAnyX_pure (i := 6) (v := ?_) rfl (by kernel_rfl) (by kernel_rfl) (by kernel_rfl) (fun _ _ _ h => h) (Or.inl ⟨by rfl, ?_⟩) ?_
        rotate_left
        · (intro W _; go_simp; try with_reducible rfl)
        (try simp only [Act.put, List.getElem_toArray, List.getElem_cons_zero, List.getElem_cons_succ, List.setIfInBounds_toArray, List.set_cons_zero, List.set_cons_succ])
        refine wpAnyX_pure (i := 7) (v := ?_) rfl (by kernel_rfl) (by kernel_rfl) (by kernel_rfl) (fun _ _ _ h => h) (Or.inl ⟨by rfl, ?_⟩) ?_
        rotate_left
        · (intro W _; go_simp; try with_reducible rfl)
        (try simp only [Act.put, List.getElem_toArray, List.getElem_cons_zero, List.getElem_cons_succ, List.setIfInBounds_toArray, List.set_cons_zero, List.set_cons_succ])
        refine wpAnyX_pure (i := 8) (v := ?_) rfl (by kernel_rfl) (by kernel_rfl) (by kernel_rfl) (fun _ _ _ h => h) (Or.inl ⟨by rfl, ?_⟩) ?_
        rotate_left
        · (intro W _; go_simp; try with_reducible rfl)
        (try simp only [Act.put, List.getElem_toArray, List.getElem_cons_zero, List.getElem_cons_succ, List.setIfInBounds_toArray, List.set_cons_zero, List.set_cons_succ])
        refine wpAnyX_pure (i := 9) (v := ?_) rfl (by kernel_rfl) (by kernel_rfl) (by kernel_rfl) (fun _ _ _ h => h) (Or.inl ⟨by rfl, ?_⟩) ?_
        rotate_left
        · (intro W _; go_simp; try with_reducible rfl)
        (try simp only [Act.put, List.getElem_toArray, List.getElem_cons_zero, List.getElem_cons_succ, List.setIfInBounds_toArray, List.set_cons_zero, List.set_cons_succ])
        refine wpAnyX_pure (i := 10) (v := ?_) rfl (by kernel_rfl) (by kernel_rfl) (by kernel_rfl) (fun _ _ _ h => h) (Or.inl ⟨by rfl, ?_⟩) ?_
        rotate_left
        · (intro W _; go_simp; try with_reducible rfl)
        (try simp only [Act.put, List.getElem_toArray, List.getElem_cons_zero, List.getElem_cons_succ, List.setIfInBounds_toArray, List.set_cons_zero, List.set_cons_succ])
        refine wpAnyX_done (by kernel_rfl) ?_ _
        have HII := Lib.hid (rints A6' A7' un c6' un c7' _ _ true x7 (HJ6.out _ hb6) i7 (by simp))
        have HBn := Lib.hid hbf
        clear hbf hb6 o7 a7 i7
        go_wp2_with fail
        refine HII.out.mono ?_
        rintro r x8 ⟨rfl, q8, rfl⟩
        go_wp2_with fail
        go_roundw
        case rel => exact ⟨s + 1, rfl, by omega, Lib.hid (below_drewN HBn.out q8)⟩
        case measure => simp [intOf]; omega
      · have hsI : ¬ (s : Int) < (p : Int) := by omega
        go_wp2_with fail
        refine (awake16 _).mono ?_
        rintro r x9 ⟨rfl, a9⟩
        go_wp2
        go_ret
        exact ⟨rfl, bt HB0.out (bt HB5.out (bt HBR.out a9))⟩
  · have HI6 := Lib.hid (fun (W : World) (h : Below w6.heap.size w6 W) => i6.below h)
    have HRO := Lib.hid (prun_ok16 (HX.out _ HBC6.out) (HO.out _ HBC6.out) HMK.out (HV.out _ HBC6.out) (e := vc) (c := c) (d := d) hck)
    clear i6 hck HRU
    go_wp2_with fail
    refine HRO.out.mono ?_
    rintro r w7 ⟨A7, c7, rfl, o7, a7⟩
    have HII := Lib.hid (rints A6 A7 vn c6 vn c7 _ _ true w7 (HI6.out _ a7) (o7.ints (by rw [runO_len, HLV.out]; exact (HV.out _ HBC6.out).2.1)) (by simp))
    have HB67 := Lib.hid (HB6.out.trans (a7.mono HB6.out.size))
    clear o7 a7 l0 l1 l2 l3
    go_wp2_with fail
    refine HII.out.mono ?_
    rintro r w8 ⟨rfl, q8, rfl⟩
    have HBR := Lib.hid (below_drewN HB67.out q8)
    generalize w7.drewN q8 = w9 at HBR ⊢
    go_wp2_with fail
    go_loopw [13] (fun v13 wr => ∃ s : Nat, v13 = .int .i64 s ∧ s ≤ p ∧ Hid (Below w5.heap.size w5 wr)) (fun v13 _ => p - (intOf v13).toNat)
    case atStart => exact ⟨0, rfl, Nat.zero_le _, HBR⟩
    case round =>
      clear HBR
      obtain ⟨s, rfl, hsp, HBR⟩ := hrel
      by_cases hlt : s < p
      · obtain ⟨b, off, Us, un, uc, eC, hgb, i1, i2⟩ := (HW.out _ HB5.out).at_ hlt
        subst eC
        obtain ⟨xu, hxu⟩ : ∃ xu, xu = ws.getD s [] := ⟨_, rfl⟩
        rw [← hxu] at i2
        have hmem : xu ∈ ws := by rw [hxu, List.getD_eq_getElem?_getD, List.getElem?_eq_getElem (by rw [HLW.out]; exact hlt)]; exact List.getElem_mem _
        have HKU := Lib.hid (HKN.out xu hmem)
        have HUI := Lib.hid (fun (W : World) (h : Below w5.heap.size w5 W) => i2.below h)
        have HUL := Lib.hid i2.1
        have hunb : un ≤ 100 := by have := HP.out.2 xu hmem; rw [i2.1] at this; exact this
        have HS := Lib.hid (show ∀ W, Below w5.heap.size w5 W → Bx W b7 #[.int .i64 (i : Int), .slice (some ⟨g, 0, none⟩) tn N] 24 ∧ Bx W w.heap.size #[.int .i64 (i : Int), .int .i64 (st : Int), .slice A m c, .slice B m d] 56 ∧ W.cell? ⟨b, off + s, none⟩ = some (.slice Us un uc) from fun W h => ⟨HM5.out _ h, HM.out _ (bt HB5.out h), (h.cell (p := ⟨b, off + s, none⟩) hgb).trans i1⟩)
        have hsI : (s : Int) < (p : Int) := by omega
        have hs0 : (0 : Int) ≤ (s : Int) := by omega
        have ws1 : IntKind.i64.wrap ((s : Int) + 1) = ((s + 1 : Nat) : Int) := by rw [IntKind.wrap_i64]; omega
        clear i1 i2 hxu hmem hgb
        go_upto_region 13 with fail
        have hbf : Below w5.heap.size w5 wr.drew := below_drewN HBR.out 1
        refine wp_region_heldX (X := fun k => ([] : List Nat).contains k) (S := fun W => Bx W b7 #[.int .i64 (i : Int), .slice (some ⟨g, 0, none⟩) tn N] 24 ∧ Bx W w.heap.size #[.int .i64 (i : Int), .int .i64 (st : Int), .slice A m c, .slice B m d] 56 ∧ W.cell? ⟨b, off + s, none⟩ = some (.slice Us un uc)) (by kernel_rfl) ?_
        generalize wr.drew = wkd at hbf ⊢
        refine wpAnyX_takeL (L := []) (i := 0) (v := .agg (#[.int .i64 (i : Int), .slice (some ⟨g, 0, none⟩) tn N])) rfl (by kernel_rfl) (by kernel_rfl) (by kernel_rfl) (by kernel_rfl) (fun _ _ _ h => h) (Or.inl ⟨by rfl, fun W hSW => run_load_bx 24 _ rfl (b7) rfl 24 (#[.int .i64 (i : Int), .slice (some ⟨g, 0, none⟩) tn N]) (0, 0) _ (hSW.1) Try.underlying24 rfl (by kernel_rfl)⟩) (HS.out _ hbf) ?_
        (try simp only [Act.put, List.getElem_toArray, List.getElem_cons_zero, List.getElem_cons_succ, List.setIfInBounds_toArray, List.set_cons_zero, List.set_cons_succ])
        refine wpAnyX_pure (i := 1) (v := ?_) rfl (by kernel_rfl) (by kernel_rfl) (by kernel_rfl) (fun _ _ _ h => h) (Or.inl ⟨by rfl, ?_⟩) ?_
        rotate_left
        · (intro W _; go_simp; try with_reducible rfl)
        (try simp only [Act.put, List.getElem_toArray, List.getElem_cons_zero, List.getElem_cons_succ, List.setIfInBounds_toArray, List.set_cons_zero, List.set_cons_succ])
        refine wpAnyX_pure (i := 2) (v := ?_) rfl (by kernel_rfl) (by kernel_rfl) (by kernel_rfl) (fun _ _ _ h => h) (Or.inl ⟨by rfl, ?_⟩) ?_
        rotate_left
        · (intro W _; go_simp; try with_reducible rfl)
        (try simp only [Act.put, List.getElem_toArray, List.getElem_cons_zero, List.getElem_cons_succ, List.setIfInBounds_toArray, List.set_cons_zero, List.set_cons_succ])
        refine wpAnyX_pure (i := 3) (v := ?_) rfl (by kernel_rfl) (by kernel_rfl) (by kernel_rfl) (fun _ _ _ h => h) (Or.inl ⟨by rfl, ?_⟩) ?_
        rotate_left
        · (intro W _; go_simp; try with_reducible rfl)
        (try simp only [Act.put, List.getElem_toArray, List.getElem_cons_zero, List.getElem_cons_succ, List.setIfInBounds_toArray, List.set_cons_zero, List.set_cons_succ])
        refine wpAnyX_takeL (L := []) (i := 4) (v := ?_) rfl (by kernel_rfl) (by kernel_rfl) (by kernel_rfl) (by kernel_rfl) (fun _ _ _ h => h) (Or.inl ⟨by rfl, ?_⟩) (HS.out _ hbf) ?_
        rotate_left
        · (intro W hSW; (try dsimp only at hSW); obtain ⟨z0, z1, z2⟩ := hSW; go_simp; try with_reducible rfl)
        (try simp only [Act.put, List.getElem_toArray, List.getElem_cons_zero, List.getElem_cons_succ, List.setIfInBounds_toArray, List.set_cons_zero, List.set_cons_succ])
        refine wpAnyX_one (i := 5) rfl (by kernel_rfl) (fun K hK => ?_)
        go_simp
        go_at_call 24
        refine (panswer16 (i : Int) (some ⟨g, 0, none⟩) Us tn N un uc ts xu _ (HT5.out _ hbf) htN (HUI.out _ hbf) HSS.out HFF.out).mono ?_
        rintro r x6 hans
        obtain ⟨a6, hor⟩ := ans_exact hans HOM.out HPP.out HI12.out HUL.out
        have hyes : ∃ A' c', r = .returned (.tuple #[.slice A' un c', .bool true]) ∧ Ints x6 A' un (runO nx ot st xu) ∧ chk xu i = 0 := by
          rcases hor with ⟨_, h⟩ | h
          · have := HKU.out; rw [HUL.out] at this; omega
          · exact h
        obtain ⟨A6', c6', rfl, i6, hck⟩ := hyes
        have HJ6 := Lib.hid (fun (W : World) (h : Below x6.heap.size x6 W) => i6.below h)
        have HCK := Lib.hid hck
        have hbf := bt hbf a6
        clear hans hor i6 hck a6
        refine hK.out _ _ (fun _ _ => HS.out _ hbf) ?_
        (try simp only [Act.put, List.getElem_toArray, List.getElem_cons_zero, List.getElem_cons_succ, List.setIfInBounds_toArray, List.set_cons_zero, List.set_cons_succ])
        refine wpAnyX_pure (i := 6) (v := ?_) rfl (by kernel_rfl) (by kernel_rfl) (by kernel_rfl) (fun _ _ _ h => h) (Or.inl ⟨by rfl, ?_⟩) ?_
        rotate_left
        · (intro W _; go_simp; try with_reducible rfl)
        (try simp only [Act.put, List.getElem_toArray, List.getElem_cons_zero, List.getElem_cons_succ, List.setIfInBounds_toArray, List.set_cons_zero, List.set_cons_succ])
        refine wpAnyX_pure (i := 7) (v := ?_) rfl (by kernel_rfl) (by kernel_rfl) (by kernel_rfl) (fun _ _ _ h => h) (Or.inl ⟨by rfl, ?_⟩) ?_
        rotate_left
        · (intro W _; go_simp; try with_reducible rfl)
        (try simp only [Act.put, List.getElem_toArray, List.getElem_cons_zero, List.getElem_cons_succ, List.setIfInBounds_toArray, List.set_cons_zero, List.set_cons_succ])
        refine wpAnyX_pure (i := 8) (v := ?_) rfl (by kernel_rfl) (by kernel_rfl) (by kernel_rfl) (fun _ _ _ h => h) (Or.inl ⟨by rfl, ?_⟩) ?_
        rotate_left
        · (intro W _; go_simp; try with_reducible rfl)
        (try simp only [Act.put, List.getElem_toArray, List.getElem_cons_zero, List.getElem_cons_succ, List.setIfInBounds_toArray, List.set_cons_zero, List.set_cons_succ])
        refine wpAnyX_pure (i := 9) (v := ?_) rfl (by kernel_rfl) (by kernel_rfl) (by kernel_rfl) (fun _ _ _ h => h) (Or.inl ⟨by rfl, ?_⟩) ?_
        rotate_left
        · (intro W _; go_simp; try with_reducible rfl)
        (try simp only [Act.put, List.getElem_toArray, List.getElem_cons_zero, List.getElem_cons_succ, List.setIfInBounds_toArray, List.set_cons_zero, List.set_cons_succ])
        refine wpAnyX_pure (i := 10) (v := ?_) rfl (by kernel_rfl) (by kernel_rfl) (by kernel_rfl) (fun _ _ _ h => h) (Or.inl ⟨by rfl, ?_⟩) ?_
        rotate_left
        · (intro W _; go_simp; try with_reducible rfl)
        (try simp only [Act.put, List.getElem_toArray, List.getElem_cons_zero, List.getElem_cons_succ, List.setIfInBounds_toArray, List.set_cons_zero, List.set_cons_succ])
        refine wpAnyX_done (by kernel_rfl) ?_ _
        go_upto_region 14 with fail
        have hb6 : Below x6.heap.size x6 x6.drew := below_drewN (Below.refl _ _) 1
        have hbf : Below w5.heap.size w5 x6.drew := below_drewN hbf 1
        refine wp_region_heldX (X := fun k => ([] : List Nat).contains k) (S := fun W => Bx W b7 #[.int .i64 (i : Int), .slice (some ⟨g, 0, none⟩) tn N] 24 ∧ Bx W w.heap.size #[.int .i64 (i : Int), .int .i64 (st : Int), .slice A m c, .slice B m d] 56 ∧ W.cell? ⟨b, off + s, none⟩ = some (.slice Us un uc)) (by kernel_rfl) ?_
        generalize x6.drew = wkd at hbf hb6 ⊢
        refine wpAnyX_takeL (L := []) (i := 0) (v := .agg (#[.int .i64 (i : Int), .int .i64 (st : Int), .slice A m c, .slice B m d])) rfl (by kernel_rfl) (by kernel_rfl) (by kernel_rfl) (by kernel_rfl) (fun _ _ _ h => h) (Or.inl ⟨by rfl, fun W hSW => run_load_bx 56 _ rfl (w.heap.size) rfl 56 (#[.int .i64 (i : Int), .int .i64 (st : Int), .slice A m c, .slice B m d]) (0, 0) _ (hSW.2.1) Try.underlying56 rfl (by kernel_rfl)⟩) (HS.out _ hbf) ?_
        (try simp only [Act.put, List.getElem_toArray, List.getElem_cons_zero, List.getElem_cons_succ, List.setIfInBounds_toArray, List.set_cons_zero, List.set_cons_succ])
        refine wpAnyX_pure (i := 1) (v := ?_) rfl (by kernel_rfl) (by kernel_rfl) (by kernel_rfl) (fun _ _ _ h => h) (Or.inl ⟨by rfl, ?_⟩) ?_
        rotate_left
        · (intro W _; go_simp; try with_reducible rfl)
        (try simp only [Act.put, List.getElem_toArray, List.getElem_cons_zero, List.getElem_cons_succ, List.setIfInBounds_toArray, List.set_cons_zero, List.set_cons_succ])
        refine wpAnyX_pure (i := 2) (v := ?_) rfl (by kernel_rfl) (by kernel_rfl) (by kernel_rfl) (fun _ _ _ h => h) (Or.inl ⟨by rfl, ?_⟩) ?_
        rotate_left
        · (intro W _; go_simp; try with_reducible rfl)
        (try simp only [Act.put, List.getElem_toArray, List.getElem_cons_zero, List.getElem_cons_succ, List.setIfInBounds_toArray, List.set_cons_zero, List.set_cons_succ])
        refine wpAnyX_pure (i := 3) (v := ?_) rfl (by kernel_rfl) (by kernel_rfl) (by kernel_rfl) (fun _ _ _ h => h) (Or.inl ⟨by rfl, ?_⟩) ?_
        rotate_left
        · (intro W _; go_simp; try with_reducible rfl)
        (try simp only [Act.put, List.getElem_toArray, List.getElem_cons_zero, List.getElem_cons_succ, List.setIfInBounds_toArray, List.set_cons_zero, List.set_cons_succ])
        refine wpAnyX_takeL (L := []) (i := 4) (v := ?_) rfl (by kernel_rfl) (by kernel_rfl) (by kernel_rfl) (by kernel_rfl) (fun _ _ _ h => h) (Or.inl ⟨by rfl, ?_⟩) (HS.out _ hbf) ?_
        rotate_left
        · (intro W hSW; (try dsimp only at hSW); obtain ⟨z0, z1, z2⟩ := hSW; go_simp; try with_reducible rfl)
        (try simp only [Act.put, List.getElem_toArray, List.getElem_cons_zero, List.getElem_cons_succ, List.setIfInBounds_toArray, List.set_cons_zero, List.set_cons_succ])
        refine wpAnyX_one (i := 5) rfl (by kernel_rfl) (fun K hK => ?_)
        go_simp
        go_at_call 38
        refine (prun_ok16 (HX.out _ (bt HB5.out hbf)) (HO.out _ (bt HB5.out hbf)) HMK.out (HUI.out _ hbf) HCK.out).mono ?_
        rintro r x7 ⟨A7', c7', rfl, o7, a7⟩
        have i7 := o7.ints (by rw [runO_len, HUL.out]; omega)
        have hbf := bt hbf a7
        have hb6 := bt hb6 a7
        refine hK.out _ _ (fun _ _ => HS.out _ hbf) ?_
        (try simp only [Act.put, List.getElem_toArray, List.getElem_cons_zero, List.getElem_cons_succ, List.setIfInBounds_toArray, List.set_cons_zero, List.set_cons_succ])
        refine wpAnyX_pure (i := 6) (v := ?_) rfl (by kernel_rfl) (by kernel_rfl) (by kernel_rfl) (fun _ _ _ h => h) (Or.inl ⟨by rfl, ?_⟩) ?_
        rotate_left
        · (intro W _; go_simp; try with_reducible rfl)
        (try simp only [Act.put, List.getElem_toArray, List.getElem_cons_zero, List.getElem_cons_succ, List.setIfInBounds_toArray, List.set_cons_zero, List.set_cons_succ])
        refine wpAnyX_pure (i := 7) (v := ?_) rfl (by kernel_rfl) (by kernel_rfl) (by kernel_rfl) (fun _ _ _ h => h) (Or.inl ⟨by rfl, ?_⟩) ?_
        rotate_left
        · (intro W _; go_simp; try with_reducible rfl)
        (try simp only [Act.put, List.getElem_toArray, List.getElem_cons_zero, List.getElem_cons_succ, List.setIfInBounds_toArray, List.set_cons_zero, List.set_cons_succ])
        refine wpAnyX_pure (i := 8) (v := ?_) rfl (by kernel_rfl) (by kernel_rfl) (by kernel_rfl) (fun _ _ _ h => h) (Or.inl ⟨by rfl, ?_⟩) ?_
        rotate_left
        · (intro W _; go_simp; try with_reducible rfl)
        (try simp only [Act.put, List.getElem_toArray, List.getElem_cons_zero, List.getElem_cons_succ, List.setIfInBounds_toArray, List.set_cons_zero, List.set_cons_succ])
        refine wpAnyX_pure (i := 9) (v := ?_) rfl (by kernel_rfl) (by kernel_rfl) (by kernel_rfl) (fun _ _ _ h => h) (Or.inl ⟨by rfl, ?_⟩) ?_
        rotate_left
        · (intro W _; go_simp; try with_reducible rfl)
        (try simp only [Act.put, List.getElem_toArray, List.getElem_cons_zero, List.getElem_cons_succ, List.setIfInBounds_toArray, List.set_cons_zero, List.set_cons_succ])
        refine wpAnyX_pure (i := 10) (v := ?_) rfl (by kernel_rfl) (by kernel_rfl) (by kernel_rfl) (fun _ _ _ h => h) (Or.inl ⟨by rfl, ?_⟩) ?_
        rotate_left
        · (intro W _; go_simp; try with_reducible rfl)
        (try simp only [Act.put, List.getElem_toArray, List.getElem_cons_zero, List.getElem_cons_succ, List.setIfInBounds_toArray, List.set_cons_zero, List.set_cons_succ])
        refine wpAnyX_done (by kernel_rfl) ?_ _
        have HII := Lib.hid (rints A6' A7' un c6' un c7' _ _ true x7 (HJ6.out _ hb6) i7 (by simp))
        have HBn := Lib.hid hbf
        clear hbf hb6 o7 a7 i7
        go_wp2_with fail
        refine HII.out.mono ?_
        rintro r x8 ⟨rfl, q8, rfl⟩
        go_wp2_with fail
        go_roundw
        case rel => exact ⟨s + 1, rfl, by omega, Lib.hid (below_drewN HBn.out q8)⟩
        case measure => simp [intOf]; omega
      · have hsI : ¬ (s : Int) < (p : Int) := by omega
        go_wp2_with fail
        refine (awake16 _).mono ?_
        rintro r x9 ⟨rfl, a9⟩
        go_wp2
        go_ret
        exact ⟨rfl, bt HB0.out (bt HB5.out (bt HBR.out a9))⟩
end Go.Proofs.Ytkgdgnmobahhfaa
end
