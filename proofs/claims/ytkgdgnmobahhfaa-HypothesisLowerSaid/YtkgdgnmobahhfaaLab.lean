/- Lemmas of the proofs of this seat, of the parts Obd, Hyp, Pfx, Hyb, Hyc, Hye, Hyf, Hyg, Reachp, Trimp, Trimq, Hyj, Hyh, Hyk, Insm, Rwc, Trw, Stepm, Runm, Fromp, Fromm, Outsr, Valr, Hyv, Hyw. Conditions: none. -/
import Derived.Test.YtkgdgnmobahhfaaLaa
import Derived.Deep.DeepCutAuto
import Derived.BigQuiet
import Derived.Laws.IdiomCopy
import Derived.RegionTactic
import Derived.BigRegion
import Derived.Deep.RegionLaw
section
/- Clash. -/
namespace Go.Proofs.Ytkgdgnmobahhfaa
open Go.RowKit

theorem results_clash {fn : Func} {p u : Tmp} (h : fn.results = #[.cell p 43, .tmp u]) (tmps : Array Value) (w : World) (g : Nat) (v1 v2 v3 : Value)
    (hp : tmps.getD p undef = .pointer (some ⟨g, 0, none⟩)) (hg : Bx w g #[v1, v2, v3] 43) :
    (results fn tmps).run Try.prog w = .ok (.tuple #[.agg #[v1, v2, v3], tmps.getD u undef]) w := by
  rw [results_cell_tmp h, hp]
  have hl := run_loadVar_row (P := Try.prog) w g 43 43 #[v1, v2, v3] (0, 0) _ hg Try.underlying43 rfl (by kernel_rfl)
  simp [asAddr, hl]

/-- The result of Clash: what is found is where the outputs of the trace best stop to agree. -/
def ClsR (ts : List (List Int × List Int)) (xs ys : List Int) (i : Int) (fd : Bool) (zs : List Int) (f s : Int) : Prop :=
  ∃ best, Got ts xs best (knw ts xs ts.length) ∧ ((fd = false ∧ zs = [] ∧ f = 0 ∧ s = 0 ∧ (¬ prpE xs ys i = 0 ∨ agrN ts best (knw ts xs ts.length) ys = knw ts xs ts.length)) ∨
    (fd = true ∧ prpE xs ys i = 0 ∧ agrN ts best (knw ts xs ts.length) ys < knw ts xs ts.length ∧ zs = xs.take (agrN ts best (knw ts xs ts.length) ys + 1) ∧ f = (tOut ts best).getD (agrN ts best (knw ts xs ts.length) ys) 0 ∧ s = ys.getD (agrN ts best (knw ts xs ts.length) ys) 0))
def ClsE (ts : List (List Int × List Int)) (xs ys : List Int) (i : Int) (w : World) (e : Ending) (w' : World) : Prop :=
  ∃ (fd : Bool) (A' : Option Addr) (l c' : Nat) (f s : Int) (zs : List Int), e = .returned (.tuple #[.agg #[.slice A' l c', .int .i64 f, .int .i64 s], .bool fd]) ∧ ClsR ts xs ys i fd zs f s ∧ Owned w' w.heap.size (.slice A' l c') zs ∧ Below w.heap.size w w'
theorem agrN_le (ts : List (List Int × List Int)) (best known : Nat) (ys : List Int) : agrN ts best known ys ≤ known := by
  unfold agrN
  split
  · omega
  · have := cmn_le_left ((tOut ts best).take known) ys
    rw [List.length_take] at this
    omega
theorem ClsE.none_ {ts : List (List Int × List Int)} {xs ys : List Int} {i : Int} {w w' : World} {best : Nat} (hg : Got ts xs best (knw ts xs ts.length)) (h : ¬ prpE xs ys i = 0 ∨ agrN ts best (knw ts xs ts.length) ys = knw ts xs ts.length) (hb : Below w.heap.size w w') :
    ClsE ts xs ys i w (.returned (.tuple #[.agg #[.slice none 0 0, .int .i64 0, .int .i64 0], .bool false])) w' :=
  ⟨false, none, 0, 0, 0, 0, [], rfl, ⟨best, hg, .inl ⟨rfl, rfl, rfl, rfl, h⟩⟩, Owned.nil _ _, hb⟩

theorem got_any (ts : List (List Int × List Int)) (xs : List Int) : ∃ best, Got ts xs best (knw ts xs ts.length) := by
  by_cases h : 0 < knw ts xs ts.length
  · obtain ⟨j, hj, e⟩ := knw_at h
    exact ⟨j, fun _ => ⟨hj, e⟩⟩
  · exact ⟨0, fun h' => absurd h' h⟩
theorem set3B {w0 w : World} {z g : Nat} (hb : Below z w0 w) (hg : z ≤ g) (x y u : Value) : Below z w0 (((w.setCell ⟨g, 0, none⟩ x).setCell ⟨g, 1, none⟩ y).setCell ⟨g, 2, none⟩ u) :=
  ((hb.setCell (p := ⟨g, 0, none⟩) hg x).setCell (p := ⟨g, 1, none⟩) hg y).setCell (p := ⟨g, 2, none⟩) hg u
theorem Bx.set3 {w : World} {g : Nat} {a b c : Value} {t : TypeId} (h : Bx w g #[a, b, c] t) (x y u : Value) : Bx (((w.setCell ⟨g, 0, none⟩ x).setCell ⟨g, 1, none⟩ y).setCell ⟨g, 2, none⟩ u) g #[x, y, u] t := by
  have := ((h.set 0 x).set 1 y).set 2 u
  simpa using this

set_option linter.unusedSimpArgs false in
set_option linter.unusedVariables false in
set_option maxHeartbeats 4000000 in
set_option maxRecDepth 100000 in
theorem pclash (i : Int) (T A B : Option Addr) (tn tc n c m d : Nat) (ts : List (List Int × List Int)) (xs ys : List Int) (w : World) (hT : Trs w T tn ts) (htc : tn ≤ tc) (hx : Ints w A n xs) (hnc : n ≤ c) (hy : Ints w B m ys) (hS : Srt ts) (hF : Full ts) :
    Calls Try.prog 26 #[.agg #[.int .i64 i, .slice T tn tc], .agg #[.slice A n c, .slice B m d]] w fun e w' => ClsE ts xs ys i w e w' := by
  obtain ⟨w0, hw0⟩ : ∃ w0, w0 = ((w.alloc (.cells #[.int .i64 i, .slice T tn tc] 24)).alloc (.cells #[.slice A n c, .slice B m d] 38)).alloc (.cells #[.slice none 0 0, .int .i64 0, .int .i64 0] 43) := ⟨_, rfl⟩
  obtain ⟨hb0, m1, m2, m3, hs0⟩ := bxs3 w #[.int .i64 i, .slice T tn tc] #[.slice A n c, .slice B m d] #[.slice none 0 0, .int .i64 0, .int .i64 0] 24 38 43 w0 hw0
  have HW0 := Lib.hid hw0
  have HB0 := Lib.hid hb0
  have HX := Lib.hid (fun (W : World) (h : Below w0.heap.size w0 W) => (hx.below hb0).below h)
  have HY := Lib.hid (fun (W : World) (h : Below w0.heap.size w0 W) => (hy.below hb0).below h)
  have HT := Lib.hid (fun (W : World) (h : Below w0.heap.size w0 W) => (hT.below hb0).below h)
  have HM1 := Lib.hid (fun (W : World) (h : Below w0.heap.size w0 W) => m1.on h)
  have HM2 := Lib.hid (fun (W : World) (h : Below w0.heap.size w0 W) => m2.on h)
  have HM3 := Lib.hid (fun (W : World) (h : Below w0.heap.size w0 W) => m3.on h)
  have HLT := Lib.hid hT.1
  have HLX := Lib.hid hx.1
  have HLY := Lib.hid hy.1
  have HSS := Lib.hid hS
  have HFF := Lib.hid hF
  have hbc := Below.refl w0.heap.size w0
  have k0 := m1.cell 0
  have k1 := m1.cell 1
  have l0 := m2.cell 0
  have l1 := m2.cell 1
  simp at k0 k1 l0 l1
  rw [hw0] at k0 k1 l0 l1
  have hN := hT.2.1
  have hNx := hx.2.1
  have HZ0 := Lib.hid hs0
  clear hw0 hb0 hx hy hT m1 m2 m3 hS hF hs0
  go_enter Try.func26, Try.ntmps26
  go_wp2_with fail
  rw [← HW0.out]
  refine (pproper A B n c m d i xs ys _ (HX.out _ hbc) (HY.out _ hbc)).mono ?_
  rintro e w1 ⟨rfl, a1⟩
  have hbc := bt hbc a1
  clear a1 k0 k1 l0 l1
  obtain ⟨E, hE⟩ : ∃ E, E = prpE xs ys i := ⟨_, rfl⟩
  rw [← hE]
  have HE := Lib.hid hE
  clear hE
  have k0 := (HM1.out _ hbc).cell 0
  have k1 := (HM1.out _ hbc).cell 1
  have l0 := (HM2.out _ hbc).cell 0
  have l1 := (HM2.out _ hbc).cell 1
  simp at k0 k1 l0 l1
  by_cases he : E = 0
  case neg =>
    have hne : (E != 0) = true := by simpa using he
    have HNE := Lib.hid he
    have m3 := HM3.out _ hbc
    have f0 := m3.free 0
    have f1 := m3.free 1
    have f2 := m3.free 2
    have q0 := m3.cell 0
    have q1 := m3.cell 1
    have q2 := m3.cell 2
    simp at q0 q1 q2
    have HS3 := Lib.hid (m3.set3 (.slice none 0 0) (.int .i64 0) (.int .i64 0))
    have HBB := Lib.hid (set3B (g := w.heap.size + 1 + 1) (bt HB0.out hbc) (by omega) (.slice none 0 0) (.int .i64 0) (.int .i64 0))
    clear m3
    go_wp2_with fail
    (try rw [Exit.noGoto_ret])
    refine bodyPost_ret (results_clash rfl _ _ (w.heap.size + 1 + 1) (.slice none 0 0) (.int .i64 0) (.int .i64 0) rfl HS3.out) rfl ?_
    obtain ⟨best, hg⟩ := got_any ts xs
    exact ClsE.none_ hg (.inl (by rw [← HE.out]; exact HNE.out)) HBB.out
  subst he
  go_wp2_with fail
  refine (pnear T A tn tc n c ts xs _ (HT.out _ hbc) (HX.out _ hbc) HSS.out HFF.out htc).mono ?_
  rintro e w2 ⟨best, kn, rfl, hkn, HG, a2⟩
  have hbc := bt hbc a2
  clear a2 k0 k1 l0 l1
  have hkx : kn ≤ n := by rw [hkn, ← HLX.out]; exact knw_le
  rw [← HLT.out] at hkn
  have HKN := Lib.hid hkn
  clear hkn
  have HGB := Lib.hid (show 0 < kn → best < tn ∧ kn ≤ (tOut ts best).length from fun h => by
    obtain ⟨h1, h2⟩ := HG.out h
    refine ⟨by rw [← HLT.out]; exact h1, ?_⟩
    rw [HFF.out best h1, ← h2]
    exact cmn_le_left _ _)
  have k0 := (HM1.out _ hbc).cell 0
  have k1 := (HM1.out _ hbc).cell 1
  have l0 := (HM2.out _ hbc).cell 0
  have l1 := (HM2.out _ hbc).cell 1
  simp at k0 k1 l0 l1
  go_wp2_with fail
  refine (pagreed T A B tn tc n c m d best kn ts ys _ (HT.out _ hbc) (HY.out _ hbc) HGB.out).mono ?_
  rintro e w3 ⟨rfl, a3⟩
  have hbc := bt hbc a3
  clear a3 k0 k1 l0 l1
  obtain ⟨k, hk⟩ : ∃ k, k = agrN ts best kn ys := ⟨_, rfl⟩
  have hkk : k ≤ kn := by rw [hk]; exact agrN_le _ _ _ _
  rw [← hk]
  have HK := Lib.hid hk
  clear hk
  by_cases hq : k = kn
  case pos =>
    have HQ := Lib.hid hq
    have hqi : ((k : Int) == (kn : Int)) = true := by rw [beq_iff_eq]; omega
    have hqd : (k : Int) = (kn : Int) := by omega
    have m3 := HM3.out _ hbc
    have f0 := m3.free 0
    have f1 := m3.free 1
    have f2 := m3.free 2
    have q0 := m3.cell 0
    have q1 := m3.cell 1
    have q2 := m3.cell 2
    simp at q0 q1 q2
    have HS3 := Lib.hid (m3.set3 (.slice none 0 0) (.int .i64 0) (.int .i64 0))
    have HBB := Lib.hid (set3B (g := w.heap.size + 1 + 1) (bt HB0.out hbc) (by omega) (.slice none 0 0) (.int .i64 0) (.int .i64 0))
    clear m3
    go_wp2_with fail
    (try rw [Exit.noGoto_ret])
    refine bodyPost_ret (results_clash rfl _ _ (w.heap.size + 1 + 1) (.slice none 0 0) (.int .i64 0) (.int .i64 0) rfl HS3.out) rfl ?_
    exact ClsE.none_ (best := best) (by rw [← HKN.out]; exact HG.out) (.inr (by rw [← HKN.out, ← HK.out, HQ.out])) HBB.out
  have hqi : ((k : Int) == (kn : Int)) = false := by rw [beq_eq_false_iff_ne]; omega
  have hlt : k < kn := by omega
  obtain ⟨hbt, hko⟩ := HGB.out (by omega)
  obtain ⟨b, off, A1, n1, c1, A2, n2, c2, eT, hgb, _, j2, _, q2, _, j4⟩ := (HT.out _ hbc).at_ hbt
  subst eT
  have hn2 : n2 = (tOut ts best).length := j4.1.symm
  obtain ⟨b2, o2, eA, hg2, r2⟩ := j4.at_ (k := k) (by omega)
  subst eA
  have hpr : prpE xs ys i = 0 := HE.out.symm
  have hml : ys.length = xs.length := by
    unfold prpE at hpr
    split at hpr
    · exact (ansE_zero hpr).1
    · omega
  have hmn : m = n := by rw [← HLX.out, ← HLY.out, hml]
  obtain ⟨b3, o3, eB, hg3, r3⟩ := (HY.out _ hbc).at_ (k := k) (by omega)
  subst eB
  obtain ⟨F, hF⟩ : ∃ F, F = (tOut ts best).getD k 0 := ⟨_, rfl⟩
  obtain ⟨S2, hS2⟩ : ∃ S2, S2 = ys.getD k 0 := ⟨_, rfl⟩
  rw [← hF] at r2
  rw [← hS2] at r3
  have HF := Lib.hid hF
  have HS2 := Lib.hid hS2
  have HPR := Lib.hid hpr
  have k1 := (HM1.out _ hbc).cell 1
  have l0 := (HM2.out _ hbc).cell 0
  have l1 := (HM2.out _ hbc).cell 1
  simp at k1 l0 l1
  have hz := (HM3.out _ hbc).lt
  have HS := Lib.hid (show ∀ W, Below w3.heap.size w3 W → W.cell? ⟨w.heap.size + 1, 0, none⟩ = some (.slice A n c) ∧ W.cell? ⟨w.heap.size + 1, 1, none⟩ = some (.slice (some ⟨b3, o3, none⟩) m d) ∧ W.cell? ⟨w.heap.size, 1, none⟩ = some (.slice (some ⟨b, off, none⟩) tn tc) ∧ W.cell? ⟨b, off + best * 2 + 1, none⟩ = some (.slice (some ⟨b2, o2, none⟩) n2 c2) ∧ W.cell? ⟨b2, o2 + k, none⟩ = some (.int .i64 F) ∧ W.cell? ⟨b3, o3 + k, none⟩ = some (.int .i64 S2) from
    fun W h => ⟨(h.cell (p := ⟨w.heap.size + 1, 0, none⟩) (by show w.heap.size + 1 < w3.heap.size; omega)).trans l0, (h.cell (p := ⟨w.heap.size + 1, 1, none⟩) (by show w.heap.size + 1 < w3.heap.size; omega)).trans l1,
      (h.cell (p := ⟨w.heap.size, 1, none⟩) (by show w.heap.size < w3.heap.size; omega)).trans k1, (h.cell (p := ⟨b, off + best * 2 + 1, none⟩) hgb).trans j2, (h.cell (p := ⟨b2, o2 + k, none⟩) hg2).trans r2, (h.cell (p := ⟨b3, o3 + k, none⟩) hg3).trans r3⟩)
  have HR := Lib.hid (HM3.out _ hbc)
  have hz4 : w.heap.size + 1 + 1 < w3.heap.size := hz
  have HCL := Lib.hid (fun (W : World) (h : Below w3.heap.size w3 W) => sclone A (k + 1) c (xs.take (k + 1)) W (by
    have hI := (HX.out _ hbc).below h
    refine ⟨by rw [List.length_take, hI.1]; omega, by have := hI.2.1; omega, fun h0 => ?_⟩
    obtain ⟨b', o', e, hlt', hc⟩ := hI.2.2 (by omega)
    refine ⟨b', o', e, hlt', fun j hj => ?_⟩
    rw [hc j (by omega)]
    congr 2
    rw [List.getD_eq_getElem?_getD, List.getD_eq_getElem?_getD, List.getElem?_take_of_lt hj]))
  have w1' : IntKind.i64.wrap ((k : Int) + 1) = (k : Int) + 1 := by rw [IntKind.wrap_i64]; omega
  have i1 : (k : Int) + 1 ≤ (c : Int) := by omega
  have i2 : (0 : Int) ≤ (k : Int) + 1 := by omega
  have i3 : (best : Int) < (tn : Int) := by omega
  have i4 : (0 : Int) ≤ (best : Int) := by omega
  have i5 : (k : Int) < (n2 : Int) := by omega
  have i6 : (k : Int) < (m : Int) := by omega
  have i7 : (0 : Int) ≤ (k : Int) := by omega
  have HBC := Lib.hid hbc
  have HHK := Lib.hid hkk
  clear hg2 hg3 hgb j2 j4 q2 r2 r3 hF hS2 hpr hml hmn hn2 k1 l0 l1 hbt hko hz hbc
  go_upto_region 7 with fail
  have hbf : Below w3.heap.size w3 w3.drew := below_drewN (Below.refl _ _) 1
  refine wp_region_heldX (X := fun k => ([21] : List Nat).contains k) (S := fun W => W.cell? ⟨w.heap.size + 1, 0, none⟩ = some (.slice A n c) ∧ W.cell? ⟨w.heap.size + 1, 1, none⟩ = some (.slice (some ⟨b3, o3, none⟩) m d) ∧ W.cell? ⟨w.heap.size, 1, none⟩ = some (.slice (some ⟨b, off, none⟩) tn tc) ∧ W.cell? ⟨b, off + best * 2 + 1, none⟩ = some (.slice (some ⟨b2, o2, none⟩) n2 c2) ∧ W.cell? ⟨b2, o2 + k, none⟩ = some (.int .i64 F) ∧ W.cell? ⟨b3, o3 + k, none⟩ = some (.int .i64 S2)) (by kernel_rfl) ?_
  refine wpAnyX_pure (i := 0) (v := ?_) rfl (by kernel_rfl) (by kernel_rfl) (by kernel_rfl) (fun _ _ _ h => h) (Or.inl ⟨by rfl, ?_⟩) ?_
  rotate_left
  · (intro W _; go_simp; try with_reducible rfl)
  (try simp only [Act.put, List.getElem_toArray, List.getElem_cons_zero, List.getElem_cons_succ, List.setIfInBounds_toArray, List.set_cons_zero, List.set_cons_succ])
  refine wpAnyX_takeL (L := [21]) (i := 1) (v := ?_) rfl (by kernel_rfl) (by kernel_rfl) (by kernel_rfl) (by kernel_rfl) (fun _ _ _ h => h) (Or.inl ⟨by rfl, ?_⟩) (HS.out _ hbf) ?_
  rotate_left
  · (intro W hSW; (try dsimp only at hSW); obtain ⟨z0, z1, z2, z3, z4, z5⟩ := hSW; go_simp; try with_reducible rfl)
  (try simp only [Act.put, List.getElem_toArray, List.getElem_cons_zero, List.getElem_cons_succ, List.setIfInBounds_toArray, List.set_cons_zero, List.set_cons_succ])
  refine wpAnyX_pure (i := 2) (v := ?_) rfl (by kernel_rfl) (by kernel_rfl) (by kernel_rfl) (fun _ _ _ h => h) (Or.inl ⟨by rfl, ?_⟩) ?_
  rotate_left
  · (intro W _; go_simp; try with_reducible rfl)
  (try simp only [Act.put, List.getElem_toArray, List.getElem_cons_zero, List.getElem_cons_succ, List.setIfInBounds_toArray, List.set_cons_zero, List.set_cons_succ])
  refine wpAnyX_pure (i := 3) (v := ?_) rfl (by kernel_rfl) (by kernel_rfl) (by kernel_rfl) (fun _ _ _ h => h) (Or.inl ⟨by rfl, ?_⟩) ?_
  rotate_left
  · (intro W _; go_simp; try with_reducible rfl)
  (try simp only [Act.put, List.getElem_toArray, List.getElem_cons_zero, List.getElem_cons_succ, List.setIfInBounds_toArray, List.set_cons_zero, List.set_cons_succ])
  refine wpAnyX_pure (i := 4) (v := ?_) rfl (by kernel_rfl) (by kernel_rfl) (by kernel_rfl) (fun _ _ _ h => h) (Or.inl ⟨by rfl, ?_⟩) ?_
  rotate_left
  · (intro W _; go_simp; try with_reducible rfl)
  (try simp only [Act.put, List.getElem_toArray, List.getElem_cons_zero, List.getElem_cons_succ, List.setIfInBounds_toArray, List.set_cons_zero, List.set_cons_succ])
  refine wpAnyX_pure (i := 6) (v := ?_) rfl (by kernel_rfl) (by kernel_rfl) (by kernel_rfl) (fun _ _ _ h => h) (Or.inl ⟨by rfl, ?_⟩) ?_
  rotate_left
  · (intro W _; go_simp; try with_reducible rfl)
  (try simp only [Act.put, List.getElem_toArray, List.getElem_cons_zero, List.getElem_cons_succ, List.setIfInBounds_toArray, List.set_cons_zero, List.set_cons_succ])
  refine wpAnyX_takeL (L := [21]) (i := 7) (v := ?_) rfl (by kernel_rfl) (by kernel_rfl) (by kernel_rfl) (by kernel_rfl) (fun _ _ _ h => h) (Or.inl ⟨by rfl, ?_⟩) (HS.out _ hbf) ?_
  rotate_left
  · (intro W hSW; (try dsimp only at hSW); obtain ⟨z0, z1, z2, z3, z4, z5⟩ := hSW; go_simp; try with_reducible rfl)
  (try simp only [Act.put, List.getElem_toArray, List.getElem_cons_zero, List.getElem_cons_succ, List.setIfInBounds_toArray, List.set_cons_zero, List.set_cons_succ])
  refine wpAnyX_pure (i := 8) (v := ?_) rfl (by kernel_rfl) (by kernel_rfl) (by kernel_rfl) (fun _ _ _ h => h) (Or.inl ⟨by rfl, ?_⟩) ?_
  rotate_left
  · (intro W _; go_simp; try with_reducible rfl)
  (try simp only [Act.put, List.getElem_toArray, List.getElem_cons_zero, List.getElem_cons_succ, List.setIfInBounds_toArray, List.set_cons_zero, List.set_cons_succ])
  refine wpAnyX_pure (i := 9) (v := ?_) rfl (by kernel_rfl) (by kernel_rfl) (by kernel_rfl) (fun _ _ _ h => h) (Or.inl ⟨by rfl, ?_⟩) ?_
  rotate_left
  · (intro W _; go_simp; try with_reducible rfl)
  (try simp only [Act.put, List.getElem_toArray, List.getElem_cons_zero, List.getElem_cons_succ, List.setIfInBounds_toArray, List.set_cons_zero, List.set_cons_succ])
  refine wpAnyX_pure (i := 10) (v := ?_) rfl (by kernel_rfl) (by kernel_rfl) (by kernel_rfl) (fun _ _ _ h => h) (Or.inl ⟨by rfl, ?_⟩) ?_
  rotate_left
  · (intro W _; go_simp; try with_reducible rfl)
  (try simp only [Act.put, List.getElem_toArray, List.getElem_cons_zero, List.getElem_cons_succ, List.setIfInBounds_toArray, List.set_cons_zero, List.set_cons_succ])
  refine wpAnyX_takeL (L := [21]) (i := 11) (v := ?_) rfl (by kernel_rfl) (by kernel_rfl) (by kernel_rfl) (by kernel_rfl) (fun _ _ _ h => h) (Or.inl ⟨by rfl, ?_⟩) (HS.out _ hbf) ?_
  rotate_left
  · (intro W hSW; (try dsimp only at hSW); obtain ⟨z0, z1, z2, z3, z4, z5⟩ := hSW; go_simp; try with_reducible rfl)
  (try simp only [Act.put, List.getElem_toArray, List.getElem_cons_zero, List.getElem_cons_succ, List.setIfInBounds_toArray, List.set_cons_zero, List.set_cons_succ])
  refine wpAnyX_pure (i := 12) (v := ?_) rfl (by kernel_rfl) (by kernel_rfl) (by kernel_rfl) (fun _ _ _ h => h) (Or.inl ⟨by rfl, ?_⟩) ?_
  rotate_left
  · (intro W _; go_simp; try with_reducible rfl)
  (try simp only [Act.put, List.getElem_toArray, List.getElem_cons_zero, List.getElem_cons_succ, List.setIfInBounds_toArray, List.set_cons_zero, List.set_cons_succ])
  refine wpAnyX_pure (i := 13) (v := ?_) rfl (by kernel_rfl) (by kernel_rfl) (by kernel_rfl) (fun _ _ _ h => h) (Or.inl ⟨by rfl, ?_⟩) ?_
  rotate_left
  · (intro W _; go_simp; try with_reducible rfl)
  (try simp only [Act.put, List.getElem_toArray, List.getElem_cons_zero, List.getElem_cons_succ, List.setIfInBounds_toArray, List.set_cons_zero, List.set_cons_succ])
  refine wpAnyX_takeL (L := [21]) (i := 14) (v := ?_) rfl (by kernel_rfl) (by kernel_rfl) (by kernel_rfl) (by kernel_rfl) (fun _ _ _ h => h) (Or.inl ⟨by rfl, ?_⟩) (HS.out _ hbf) ?_
  rotate_left
  · (intro W hSW; (try dsimp only at hSW); obtain ⟨z0, z1, z2, z3, z4, z5⟩ := hSW; go_simp; try with_reducible rfl)
  (try simp only [Act.put, List.getElem_toArray, List.getElem_cons_zero, List.getElem_cons_succ, List.setIfInBounds_toArray, List.set_cons_zero, List.set_cons_succ])
  refine wpAnyX_pure (i := 15) (v := ?_) rfl (by kernel_rfl) (by kernel_rfl) (by kernel_rfl) (fun _ _ _ h => h) (Or.inl ⟨by rfl, ?_⟩) ?_
  rotate_left
  · (intro W _; go_simp; try with_reducible rfl)
  (try simp only [Act.put, List.getElem_toArray, List.getElem_cons_zero, List.getElem_cons_succ, List.setIfInBounds_toArray, List.set_cons_zero, List.set_cons_succ])
  refine wpAnyX_takeL (L := [21]) (i := 16) (v := ?_) rfl (by kernel_rfl) (by kernel_rfl) (by kernel_rfl) (by kernel_rfl) (fun _ _ _ h => h) (Or.inl ⟨by rfl, ?_⟩) (HS.out _ hbf) ?_
  rotate_left
  · (intro W hSW; (try dsimp only at hSW); obtain ⟨z0, z1, z2, z3, z4, z5⟩ := hSW; go_simp; try with_reducible rfl)
  (try simp only [Act.put, List.getElem_toArray, List.getElem_cons_zero, List.getElem_cons_succ, List.setIfInBounds_toArray, List.set_cons_zero, List.set_cons_succ])
  refine wpAnyX_pure (i := 17) (v := ?_) rfl (by kernel_rfl) (by kernel_rfl) (by kernel_rfl) (fun _ _ _ h => h) (Or.inl ⟨by rfl, ?_⟩) ?_
  rotate_left
  · (intro W _; go_simp; try with_reducible rfl)
  (try simp only [Act.put, List.getElem_toArray, List.getElem_cons_zero, List.getElem_cons_succ, List.setIfInBounds_toArray, List.set_cons_zero, List.set_cons_succ])
  refine wpAnyX_pure (i := 18) (v := ?_) rfl (by kernel_rfl) (by kernel_rfl) (by kernel_rfl) (fun _ _ _ h => h) (Or.inl ⟨by rfl, ?_⟩) ?_
  rotate_left
  · (intro W _; go_simp; try with_reducible rfl)
  (try simp only [Act.put, List.getElem_toArray, List.getElem_cons_zero, List.getElem_cons_succ, List.setIfInBounds_toArray, List.set_cons_zero, List.set_cons_succ])
  refine wpAnyX_takeL (L := [21]) (i := 19) (v := ?_) rfl (by kernel_rfl) (by kernel_rfl) (by kernel_rfl) (by kernel_rfl) (fun _ _ _ h => h) (Or.inl ⟨by rfl, ?_⟩) (HS.out _ hbf) ?_
  rotate_left
  · (intro W hSW; (try dsimp only at hSW); obtain ⟨z0, z1, z2, z3, z4, z5⟩ := hSW; go_simp; try with_reducible rfl)
  (try simp only [Act.put, List.getElem_toArray, List.getElem_cons_zero, List.getElem_cons_succ, List.setIfInBounds_toArray, List.set_cons_zero, List.set_cons_succ])
  refine wpAnyX_one (i := 5) rfl (by kernel_rfl) (fun K hK => ?_)
  go_simp
  go_at_call 68
  refine (HCL.out _ hbf).mono ?_
  rintro e w5 ⟨A5, c5, rfl, o5, b5⟩
  have hbf := bt hbf b5
  have HO5 := Lib.hid o5
  have HR5 := Lib.hid (HR.out.kept (hbf.mono (Nat.le_refl _)) hz4)
  refine hK.out _ _ (fun _ _ => HS.out _ hbf) ?_
  clear o5 b5
  (try simp only [Act.put, List.getElem_toArray, List.getElem_cons_zero, List.getElem_cons_succ, List.setIfInBounds_toArray, List.set_cons_zero, List.set_cons_succ])
  refine wpAnyX_pure (i := 20) (v := ?_) rfl (by kernel_rfl) (by kernel_rfl) (by kernel_rfl) (fun _ _ _ h => h) (Or.inl ⟨by rfl, ?_⟩) ?_
  rotate_left
  · (intro W _; go_simp; try with_reducible rfl)
  (try simp only [Act.put, List.getElem_toArray, List.getElem_cons_zero, List.getElem_cons_succ, List.setIfInBounds_toArray, List.set_cons_zero, List.set_cons_succ])
  refine wpAnyX_one (i := 21) rfl (by kernel_rfl) (fun K hK => ?_)
  refine wp_store_row 43 _ _ rfl (w.heap.size + 1 + 1) (#[.slice A5 (k + 1) c5, .int .i64 F, .int .i64 S2]) rfl rfl 43 (#[.slice none 0 0, .int .i64 0, .int .i64 0]) HR5.out (by kernel_rfl) (by rfl) (by simp [Value.oneCell']) (hK.out _ _ (fun h => absurd h (by decide)) ?_)
  (try simp only [Act.put, List.getElem_toArray, List.getElem_cons_zero, List.getElem_cons_succ, List.setIfInBounds_toArray, List.set_cons_zero, List.set_cons_succ])
  refine wpAnyX_pure (i := 22) (v := ?_) rfl (by kernel_rfl) (by kernel_rfl) (by kernel_rfl) (fun _ _ _ h => h) (Or.inl ⟨by rfl, ?_⟩) ?_
  rotate_left
  · (intro W _; go_simp; try with_reducible rfl)
  (try simp only [Act.put, List.getElem_toArray, List.getElem_cons_zero, List.getElem_cons_succ, List.setIfInBounds_toArray, List.set_cons_zero, List.set_cons_succ])
  refine wpAnyX_done (by kernel_rfl) ?_ _
  have HBF := Lib.hid hbf
  have HRX := Lib.hid (HR5.out.row #[.slice A5 (k + 1) c5, .int .i64 F, .int .i64 S2])
  have HOX := Lib.hid ((HO5.out.keptT (HR5.out.keptRow (t := 3) (by decide) #[.slice A5 (k + 1) c5, .int .i64 F, .int .i64 S2])).lower (base' := w.heap.size) (by
    have : (w3.drew).heap.size = w3.heap.size := rfl
    omega))
  have HBX := Lib.hid (below_setRow (bt HB0.out (bt HBC.out HBF.out)) (by omega : w.heap.size ≤ w.heap.size + 1 + 1) #[.slice A5 (k + 1) c5, .int .i64 F, .int .i64 S2])
  clear hbf
  go_wp2_with fail
  (try rw [Exit.noGoto_ret])
  refine bodyPost_ret (results_clash rfl _ _ (w.heap.size + 1 + 1) (.slice A5 (k + 1) c5) (.int .i64 F) (.int .i64 S2) rfl HRX.out) rfl ?_
  exact ⟨true, A5, k + 1, c5, F, S2, xs.take (k + 1), rfl, ⟨best, by rw [← HKN.out]; exact HG.out, .inr ⟨rfl, HPR.out, by rw [← HKN.out, ← HK.out]; exact hlt, by rw [← HKN.out, ← HK.out], by rw [← HKN.out, ← HK.out]; exact HF.out, by rw [← HKN.out, ← HK.out]; exact HS2.out⟩⟩, HOX.out, HBX.out⟩
end Go.Proofs.Ytkgdgnmobahhfaa
end

section
/- Hypotheses: what shows that words are apart; the first word of a set. No program. -/
namespace Go.Proofs.Ytkgdgnmobahhfaa

/-- The traces do not contradict each other. -/
def Cons (ts : List (List Int × List Int)) : Prop := ∀ a b, a < ts.length → b < ts.length → ∀ j, j < cmn (tIn ts a) (tIn ts b) → (tOut ts a).getD j 0 = (tOut ts b).getD j 0
/-- x shows that the trace xs / ys contradicts Q. -/
def Sh1 (Q : List (List Int × List Int)) (xs ys x : List Int) : Prop := x <+: xs ∧ 0 < x.length ∧ ∃ b, b < Q.length ∧ x <+: tIn Q b ∧ ¬ (tOut Q b).getD (x.length - 1) 0 = ys.getD (x.length - 1) 0
/-- x shows that one of the first k traces of P contradicts Q. -/
def ShK (P Q : List (List Int × List Int)) (k : Nat) (x : List Int) : Prop := ∃ a, a < k ∧ Sh1 Q (tIn P a) (tOut P a) x
/-- o is the first one in shortlex order, or nothing. -/
def Fst1 (p : List Int → Prop) (o : List Int) : Prop := (o = [] ∧ ∀ x, ¬ p x) ∨ (p o ∧ 0 < o.length ∧ ∀ x, p x → shlex o x ≤ 0)

theorem Fst1.uniq {p : List Int → Prop} {o o' : List Int} (h : Fst1 p o) (h' : Fst1 p o') : o = o' := by
  rcases h with ⟨rfl, h1⟩ | ⟨h1, h2, h3⟩
  · rcases h' with ⟨rfl, _⟩ | ⟨k1, _, _⟩
    · rfl
    · exact absurd k1 (h1 _)
  · rcases h' with ⟨rfl, k1⟩ | ⟨k1, k2, k3⟩
    · exact absurd h1 (k1 _)
    · have a := h3 _ k1
      have b := k3 _ h1
      have c := shlex_neg o o'
      exact (shlex_zero o o').1 (by omega)
theorem Fst1.congr {p q : List Int → Prop} {o : List Int} (h : Fst1 p o) (e : ∀ x, p x ↔ q x) : Fst1 q o := by
  rcases h with ⟨rfl, h1⟩ | ⟨h1, h2, h3⟩
  · exact .inl ⟨rfl, fun x hx => h1 x ((e x).2 hx)⟩
  · exact .inr ⟨(e _).1 h1, h2, fun x hx => h3 x ((e x).2 hx)⟩
theorem Fst1.some_ {p : List Int → Prop} {o : List Int} (h : Fst1 p o) : (¬ o = []) ↔ ∃ x, p x := by
  rcases h with ⟨rfl, h1⟩ | ⟨h1, h2, _⟩
  · exact ⟨fun h => absurd rfl h, fun ⟨x, hx⟩ => absurd hx (h1 x)⟩
  · exact ⟨fun _ => ⟨o, h1⟩, fun _ e => by rw [e] at h2; simp at h2⟩
theorem pre_shlex {x y : List Int} (h : x.length ≤ y.length) {z : List Int} (hx : x <+: z) (hy : y <+: z) : shlex x y ≤ 0 := by
  have hp : x <+: y := List.prefix_of_prefix_length_le hx hy h
  have := shlex_prefix y x (pre_cmn'.1 hp)
  have c := shlex_neg x y
  omega
theorem ShK.zero (P Q : List (List Int × List Int)) : Fst1 (ShK P Q 0) [] := .inl ⟨rfl, fun _ ⟨a, h, _⟩ => absurd h (Nat.not_lt_zero a)⟩
/-- One more trace, which does not contradict Q. -/
theorem fst_skip {P Q : List (List Int × List Int)} {k : Nat} {o : List Int} (h : Fst1 (ShK P Q k) o) (hn : ∀ x, ¬ Sh1 Q (tIn P k) (tOut P k) x) : Fst1 (ShK P Q (k + 1)) o :=
  h.congr fun x => ⟨fun ⟨a, h1, h2⟩ => ⟨a, by omega, h2⟩, fun ⟨a, h1, h2⟩ => by
    rcases Nat.lt_or_ge a k with h3 | h3
    · exact ⟨a, h3, h2⟩
    · rw [show a = k by omega] at h2; exact absurd h2 (hn x)⟩
/-- One more trace, whose first contradiction is z. -/
theorem fst_new {P Q : List (List Int × List Int)} {k : Nat} {o z : List Int} (h : Fst1 (ShK P Q k) o) (hz : Sh1 Q (tIn P k) (tOut P k) z) (hm : ∀ x, Sh1 Q (tIn P k) (tOut P k) x → z.length ≤ x.length) (hc : o = [] ∨ shlex z o < 0) : Fst1 (ShK P Q (k + 1)) z := by
  refine .inr ⟨⟨k, Nat.lt_succ_self k, hz⟩, hz.2.1, fun x ⟨a, h1, h2⟩ => ?_⟩
  rcases Nat.lt_or_ge a k with h3 | h3
  · rcases h with ⟨rfl, h4⟩ | ⟨h4, h5, h6⟩
    · exact absurd ⟨a, h3, h2⟩ (h4 x)
    · rcases hc with rfl | hc
      · simp at h5
      · have := (shlex_trans z o x).2 hc (h6 x ⟨a, h3, h2⟩); omega
  · rw [show a = k by omega] at h2
    exact pre_shlex (hm x h2) hz.1 h2.1
theorem fst_old {P Q : List (List Int × List Int)} {k : Nat} {o z : List Int} (h : Fst1 (ShK P Q k) o) (hz : Sh1 Q (tIn P k) (tOut P k) z) (hm : ∀ x, Sh1 Q (tIn P k) (tOut P k) x → z.length ≤ x.length) (ho : ¬ o = []) (hc : ¬ shlex z o < 0) : Fst1 (ShK P Q (k + 1)) o := by
  rcases h with ⟨h4, _⟩ | ⟨h4, h5, h6⟩
  · exact absurd h4 ho
  · obtain ⟨a0, h7, h8⟩ := h4
    refine .inr ⟨⟨a0, by omega, h8⟩, h5, fun x ⟨a, h1, h2⟩ => ?_⟩
    rcases Nat.lt_or_ge a k with h3 | h3
    · exact h6 x ⟨a, h3, h2⟩
    · rw [show a = k by omega] at h2
      have h9 := pre_shlex (hm x h2) hz.1 h2.1
      have h10 := shlex_neg z o
      exact (shlex_trans o z x).1 (by omega) h9
theorem Sh1.swap {P Q : List (List Int × List Int)} {x : List Int} (h : ShK P Q P.length x) : ShK Q P Q.length x := by
  obtain ⟨a, h1, h2, h3, b, h4, h5, h6⟩ := h
  exact ⟨b, h4, h5, h3, a, h1, h2, fun e => h6 e.symm⟩
theorem shk_comm (P Q : List (List Int × List Int)) (x : List Int) : ShK P Q P.length x ↔ ShK Q P Q.length x := ⟨Sh1.swap, Sh1.swap⟩

/-- What Clash finds. -/
theorem sh1_best {Q : List (List Int × List Int)} {xs ys x : List Int} {best : Nat} (hC : Cons Q) (hg : Got Q xs best (knw Q xs Q.length)) (h : Sh1 Q xs ys x) :
    x.length ≤ knw Q xs Q.length ∧ ¬ (tOut Q best).getD (x.length - 1) 0 = ys.getD (x.length - 1) 0 := by
  obtain ⟨h1, h2, b, h3, h4, h5⟩ := h
  have h6 : x.length ≤ cmn (tIn Q b) xs := pre_min h4 h1
  have h7 : x.length ≤ knw Q xs Q.length := Nat.le_trans h6 (knw_ge h3)
  obtain ⟨h8, h9⟩ := hg (by omega)
  refine ⟨h7, fun e => h5 ?_⟩
  rw [← e]
  have h10 : x <+: tIn Q best := by
    have := pre_take (x := xs) (y := tIn Q best) (n := x.length) (by rw [cmn_comm, h9]; exact h7)
    rwa [← List.prefix_iff_eq_take.1 h1] at this
  exact hC b best h3 h8 (x.length - 1) (by have := pre_min h4 h10; omega)
theorem sh1_of_best {Q : List (List Int × List Int)} {xs ys : List Int} {best k : Nat} (hg : Got Q xs best (knw Q xs Q.length)) (hk : k < knw Q xs Q.length) (hd : ¬ (tOut Q best).getD k 0 = ys.getD k 0) : Sh1 Q xs ys (xs.take (k + 1)) := by
  obtain ⟨h8, h9⟩ := hg (by omega)
  have hx := cmn_le_right (tIn Q best) xs
  have hl : (xs.take (k + 1)).length = k + 1 := by rw [List.length_take]; omega
  refine ⟨List.take_prefix _ _, by rw [hl]; omega, best, h8, pre_take (by rw [cmn_comm, h9]; omega), ?_⟩
  rw [hl]
  exact hd
theorem agr_part {Q : List (List Int × List Int)} {best kn : Nat} {xs ys : List Int} (hF : Full Q) (hb : best < Q.length) (hc : cmn (tIn Q best) xs = kn) (hl : ys.length = xs.length) :
    (∀ j, j < agrN Q best kn ys → (tOut Q best).getD j 0 = ys.getD j 0) ∧ (agrN Q best kn ys < kn → ¬ (tOut Q best).getD (agrN Q best kn ys) 0 = ys.getD (agrN Q best kn ys) 0) := by
  have h1 := cmn_le_left (tIn Q best) xs
  have h2 := cmn_le_right (tIn Q best) xs
  have h3 := hF best hb
  have hg : ∀ j, j < kn → ((tOut Q best).take kn).getD j 0 = (tOut Q best).getD j 0 := fun j hj => by
    rw [List.getD_eq_getElem?_getD, List.getD_eq_getElem?_getD, List.getElem?_take_of_lt hj]
  by_cases h0 : kn = 0
  · refine ⟨fun j hj => ?_, fun h => absurd h (by omega)⟩
    have := agrN_le Q best kn ys; omega
  · have he : agrN Q best kn ys = cmn ((tOut Q best).take kn) ys := by unfold agrN; rw [if_neg h0]
    have hle := agrN_le Q best kn ys
    refine ⟨fun j hj => ?_, fun h => ?_⟩
    · rw [he] at hj
      have := cmn_agree ((tOut Q best).take kn) ys j hj
      rwa [hg j (by omega)] at this
    · rw [he] at h ⊢
      have := cmn_part ((tOut Q best).take kn) ys (by rw [List.length_take]; omega) (by omega)
      rwa [hg _ h] at this
theorem cls_true {Q : List (List Int × List Int)} {xs ys zs : List Int} {i f s : Int} (hC : Cons Q) (hF : Full Q) (hl : ys.length = xs.length) (h : ClsR Q xs ys i true zs f s) : Sh1 Q xs ys zs ∧ ∀ x, Sh1 Q xs ys x → zs.length ≤ x.length := by
  obtain ⟨best, hg, ⟨h1, _⟩ | ⟨_, hp, hlt, hz, _, _⟩⟩ := h
  · cases h1
  · obtain ⟨hb, hc⟩ := hg (by omega)
    obtain ⟨ha, hd⟩ := agr_part hF hb hc hl
    have hx := cmn_le_right (tIn Q best) xs
    subst hz
    refine ⟨sh1_of_best hg hlt (hd hlt), fun x hx' => ?_⟩
    obtain ⟨k1, k2⟩ := sh1_best hC hg hx'
    have k3 := hx'.2.1
    rw [List.length_take]
    rcases Nat.lt_or_ge (x.length - 1) (agrN Q best (knw Q xs Q.length) ys) with h4 | h4
    · exact absurd (ha _ h4) k2
    · omega
theorem cls_false {Q : List (List Int × List Int)} {xs ys zs : List Int} {i f s : Int} (hC : Cons Q) (hF : Full Q) (hl : ys.length = xs.length) (hp : prpE xs ys i = 0) (h : ClsR Q xs ys i false zs f s) : ∀ x, ¬ Sh1 Q xs ys x := by
  obtain ⟨best, hg, ⟨_, _, _, _, h4⟩ | ⟨h1, _⟩⟩ := h
  · intro x hx
    obtain ⟨k1, k2⟩ := sh1_best hC hg hx
    have k3 := hx.2.1
    rcases h4 with h4 | h4
    · exact h4 hp
    · obtain ⟨hb, hc⟩ := hg (by omega)
      obtain ⟨ha, _⟩ := agr_part hF hb hc hl
      exact k2 (ha _ (by rw [h4]; omega))
  · cases h1
end Go.Proofs.Ytkgdgnmobahhfaa
end

section
/- HasPrefix of both. -/
namespace Go.Proofs.Ytkgdgnmobahhfaa
open Go.RowKit

theorem whasprefix (A B : Option Addr) (n c m d : Nat) (xs ys : List Int) (w : World) (hx : Ints w A n xs) (hy : Ints w B m ys) :
    Calls Try.prog 112 #[.slice A n c, .slice B m d] w fun e w' => e = .returned (.bool (decide (cmn xs ys = ys.length))) ∧ ∃ q, w' = w.drewN q := by
  have L2 := Lib.hid hy.1
  have hq : ((cmn xs ys : Int) == (m : Int)) = decide (cmn xs ys = ys.length) := by rw [L2.out, Bool.eq_iff_iff]; simp; omega
  have HQ := Lib.hid hq
  clear hq
  go_enter Try.func112, Try.ntmps112
  go_wp2_with (go_at_call 96; refine (wcommon _ _ _ _ _ _ xs ys _ hx hy).mono ?_; rintro e w' ⟨rfl, q, rfl⟩)
  go_ret
  exact ⟨by rw [HQ.out]; rfl, _, rfl⟩

theorem rhasprefix (A B : Option Addr) (n c m d : Nat) (xs ys : List Int) (w : World) (hx : Ints w A n xs) (hy : Ints w B m ys) :
    Calls Try.prog 69 #[.slice A n c, .slice B m d] w fun e w' => e = .returned (.bool (decide (cmn xs ys = ys.length))) ∧ ∃ q, w' = w.drewN q := by
  have L2 := Lib.hid hy.1
  have hq : ((cmn xs ys : Int) == (m : Int)) = decide (cmn xs ys = ys.length) := by rw [L2.out, Bool.eq_iff_iff]; simp; omega
  have HQ := Lib.hid hq
  clear hq
  go_enter Try.func69, Try.ntmps69
  go_wp2_with (go_at_call 73; refine (rcommon _ _ _ _ _ _ xs ys _ hx hy).mono ?_; rintro e w' ⟨rfl, q, rfl⟩)
  go_ret
  exact ⟨by rw [HQ.out]; rfl, _, rfl⟩
end Go.Proofs.Ytkgdgnmobahhfaa
end

section
/- after: what is observed after a word. -/
namespace Go.Proofs.Ytkgdgnmobahhfaa
open Go.RowKit

/-- append at a step of a region that draws. -/
theorem step_apph {P : Program} {ops : Array Oper} {o : Oper} {a : Act} {w : World} {K : Act → World → Prop} {Q : Exit → Act → World → Prop} {E : Prop} (hgd : o.guard = none) (s x : Operand) (t tn : TypeId)
    (ho : o.op = .call { callee := .builtin .append, args := #[s, x], argTypes := #[t, tn] }) (vs vx : Value) (hs : a.eval s = vs) (hx : a.eval x = vx)
    (v' : Value) (w' : World) (hr : (Builtin.append_ #[t, tn] o.type #[vs, vx]).run P w = .ok v' w') (h : K (a.put o.dst v') w') :
    if Region.wanted o (yielded ops a.tmps) = true then Oper.wp P o a w K Q else E := by
  have hw : Region.wanted o (yielded ops a.tmps) = true := by simp [Region.wanted, hgd]
  rw [if_pos hw]
  exact Lib.wp_append_run w s x t tn ho vs vx hs hx v' w' hr h
theorem results_obs {fn : Func} {p : Tmp} (h : fn.results = #[.cell p 24]) (tmps : Array Value) (w : World) (g : Nat) (v1 v2 : Value)
    (hp : tmps.getD p undef = .pointer (some ⟨g, 0, none⟩)) (hg : Bx w g #[v1, v2] 24) : (results fn tmps).run Try.prog w = .ok (.agg #[v1, v2]) w :=
  results_cell_row h tmps w g 24 #[v1, v2] (0, 0) _ hp hg Try.underlying24 rfl (by kernel_rfl)

set_option linter.unusedSimpArgs false in
set_option linter.unusedVariables false in
set_option maxHeartbeats 4000000 in
set_option maxRecDepth 100000 in
theorem pafter22 (i : Int) (T U : Option Addr) (tn tc m d : Nat) (ts : List (List Int × List Int)) (us : List Int) (w00 w : World) (h00 : Below w00.heap.size w00 w) (hT : Trs w00 T tn ts) (hU : Ints w00 U m us) (hF : Full ts) (htn : tn ≤ 100000000) :
    Calls Try.prog 86 #[.agg #[.int .i64 i, .slice T tn tc], .slice U m d] w fun e w' => ∃ A' c', e = .returned (.agg #[.int .i64 i, .slice A' (aftK ts us tn).length c']) ∧ TrsH w00 w' w.heap.size (.slice A' (aftK ts us tn).length c') (aftK ts us tn) ∧ Below w.heap.size w w' := by
  have H00 := Lib.hid h00
  have HT := Lib.hid hT
  have HU := Lib.hid hU
  have HF := Lib.hid hF
  have HLT := Lib.hid hT.1
  have HLU := Lib.hid hU.1
  have hN := hT.2.1
  have hm := hU.2.1
  clear hT hU hF
  obtain ⟨hb0, m1, m2, m3, hs0⟩ := bxs3 w #[.int .i64 i, .slice T tn tc] #[.int .i64 0, .slice none 0 0] #[.int .i64 i, .slice none 0 0] 24 24 24 _ rfl
  go_enter Try.func86, Try.ntmps86
  go_wp2
  generalize ((w.alloc (.cells #[.int .i64 i, .slice T tn tc] 24)).alloc (.cells #[.int .i64 0, .slice none 0 0] 24)).alloc (.cells #[.int .i64 i, .slice none 0 0] 24) = W3 at hb0 m1 m2 m3 hs0 ⊢
  have HB0 := Lib.hid hb0
  have HM2 := Lib.hid m2
  have HM3 := Lib.hid m3
  have HS0 := Lib.hid hs0
  clear hb0 m1 m2 m3 hs0
  go_loopw [14] (fun v14 wr => ∃ (k : Nat) (A' : Option Addr) (c' : Nat), v14 = .int .i64 k ∧ k ≤ tn ∧ Hid (Bx wr (w.heap.size + 1 + 1) #[.int .i64 i, .slice A' (aftK ts us k).length c'] 24) ∧ Hid (TrsH w00 wr (w.heap.size + 1 + 1 + 1) (.slice A' (aftK ts us k).length c') (aftK ts us k)) ∧ Hid (Below (w.heap.size + 1 + 1) W3 wr ∧ W3.heap.size ≤ wr.heap.size)) (fun v14 _ => tn - (intOf v14).toNat)
  case atStart => exact ⟨0, none, 0, rfl, Nat.zero_le _, HM3, Lib.hid (TrsH.nil _ _ _), Lib.hid ⟨Below.refl _ _, Nat.le_refl _⟩⟩
  case round =>
    obtain ⟨k, A', c', rfl, hk, HX, HH, HBR⟩ := hrel
    have hbw : Below w.heap.size w wr := HB0.out.trans (HBR.out.1.mono (by omega))
    have HBW := Lib.hid hbw
    have hb00 := bt H00.out hbw
    have HB00 := Lib.hid hb00
    obtain ⟨L, hL⟩ : ∃ L, L = (aftK ts us k).length := ⟨_, rfl⟩
    rw [← hL] at HX HH
    have hLk : L ≤ k := by rw [hL]; exact aftK_len _ _ _
    have HLL := Lib.hid hL
    clear hL
    by_cases hlt : k < tn
    · obtain ⟨b, off, A1, n1, c1, A2, n2, c2, rfl, hgb, j1, j2, q1, q2, j3, j4⟩ := (HT.out.below hb00).at_ hlt
      obtain ⟨_, _, B1, p1, d1, B2, p2, d2, eT, _, i1, i2, _, _, i3, i4⟩ := HT.out.at_ hlt
      cases eT
      have HI1 := Lib.hid (show Ints w00 A1 n1 (tIn ts k) by
        have e1 := (hb00.cell (p := ⟨b, off + k * 2, none⟩) (by assumption)).trans i1
        rw [j1] at e1; cases e1; exact i3)
      have HI2 := Lib.hid (show Ints w00 A2 n2 (tOut ts k) by
        have e1 := (hb00.cell (p := ⟨b, off + k * 2 + 1, none⟩) (by assumption)).trans i2
        rw [j2] at e1; cases e1; exact i4)
      have h12 : n2 = n1 := by rw [← j3.1, ← j4.1]; exact HF.out k (by rw [HLT.out]; exact hlt)
      subst h12
      have HN1 := Lib.hid j3.1
      have hn1 := j3.2.1
      have hz3 : w.heap.size + 1 + 1 + 1 ≤ wr.heap.size := by have := HBR.out.2; rw [HS0.out] at this; exact this
      clear i1 i2 i3 i4 j3 j4 hgb
      by_cases h1 : m < n2
      · by_cases h2 : cmn (tIn ts k) us = m
        · have HNX := Lib.hid (aftK_yes (u := us) (k := k) (ts := ts) (by rw [HN1.out, HLU.out]; exact h1) (by rw [HLU.out]; exact h2))
          obtain ⟨b1, o1, eA1, _, _⟩ := HI1.out.at_ (k := m) h1
          subst eA1
          obtain ⟨b2, o2, eA2, _, _⟩ := HI2.out.at_ (k := m) h1
          subst eA2
          have hlu : us.length = m := HLU.out
          have HDEC := Lib.hid (show decide (cmn (tIn ts k) us = us.length) = true by rw [hlu]; simp [h2])
          have HBA := Lib.hid (alloc_below wr (.cells #[.slice (some ⟨b1, o1, none⟩) n2 c1, .slice (some ⟨b2, o2, none⟩) n2 c2] 38))
          have HB7 := Lib.hid (bx_new wr #[.slice (some ⟨b1, o1, none⟩) n2 c1, .slice (some ⟨b2, o2, none⟩) n2 c2] 38)
          have HP := Lib.hid (whasprefix (some ⟨b1, o1, none⟩) U n2 c1 m d (tIn ts k) us _ (HI1.out.below (bt HB00.out HBA.out)) (HU.out.below (bt HB00.out HBA.out)))
          have h0m : (0 : Int) ≤ (m : Int) := by omega
          have hc1m : ¬ c1 = m := by omega
          have hc2m : ¬ c2 = m := by omega
          have h1m : (m : Int) ≤ (n2 : Int) := by omega
          have hh2 := Lib.hid h2
          clear hlu h2
          go_wp2_with fail
          refine HP.out.mono ?_
          rintro e w8 ⟨rfl, q8, rfl⟩
          rw [HDEC.out]
          generalize wr.alloc (.cells #[.slice (some ⟨b1, o1, none⟩) n2 c1, .slice (some ⟨b2, o2, none⟩) n2 c2] 38) = w7 at HBA HB7 HP ⊢
          have b8 : Below wr.heap.size wr (w7.drewN q8) := below_drewN HBA.out _
          have m8 : Bx (w7.drewN q8) wr.heap.size #[.slice (some ⟨b1, o1, none⟩) n2 c1, .slice (some ⟨b2, o2, none⟩) n2 c2] 38 := HB7.out.drewN _
          generalize w7.drewN q8 = w8 at b8 m8 ⊢
          have HS := Lib.hid (show ∀ W, Below w8.heap.size w8 W → W.cell? ⟨w.heap.size + 1 + 1, 1, none⟩ = some (.slice A' L c') ∧ W.cell? ⟨wr.heap.size, 0, none⟩ = some (.slice (some ⟨b1, o1, none⟩) n2 c1) ∧ W.cell? ⟨wr.heap.size, 1, none⟩ = some (.slice (some ⟨b2, o2, none⟩) n2 c2) from fun W h => by
            have t1 := ((HX.out.on b8).on h).cell 1
            have t2 := (m8.on h).cell 0
            have t3 := (m8.on h).cell 1
            simp at t1 t2 t3
            exact ⟨t1, t2, t3⟩)
          have hbf : Below w8.heap.size w8 w8.drew := below_drewN (Below.refl _ _) 1
          have b8d : Below wr.heap.size wr w8.drew := b8.trans (hbf.mono b8.size)
          obtain ⟨A9, c9, w9, hrn, o9, b9, k9, g9⟩ := run_append_hdr (HH.out.keptT (KeptT.of_below b8d)) (HI1.out.drop (k := m) (Nat.le_of_lt h1)) (HI2.out.drop (k := m) (Nat.le_of_lt h1)) (by omega : n2 - m ≤ c1 - m) (by omega : n2 - m ≤ c2 - m) (Nat.le_trans hz3 b8d.size) (by rw [← HLL.out]; omega)
          have e8 : w8.drew.heap.size = w8.heap.size := rfl
          rw [e8, ← HLL.out] at hrn
          rw [← HLL.out] at o9
          have m9 := ((HX.out.on b8d).kept b9 (by omega : w.heap.size + 1 + 1 < w.heap.size + 1 + 1 + 1))
          have f9 := m9.free 1
          have q9 := m9.cell 1
          simp at q9
          have HS9 := Lib.hid (show w9.cell? ⟨w.heap.size + 1 + 1, 1, none⟩ = some (.slice A' L c') ∧ w9.cell? ⟨wr.heap.size, 0, none⟩ = some (.slice (some ⟨b1, o1, none⟩) n2 c1) ∧ w9.cell? ⟨wr.heap.size, 1, none⟩ = some (.slice (some ⟨b2, o2, none⟩) n2 c2) from by
            have e1 : Bx w9 wr.heap.size _ _ := (g9 wr.heap.size m8.lt (fun e => absurd (HH.out.own e) (Nat.lt_irrefl _))).trans m8
            have t2 := e1.cell 0
            have t3 := e1.cell 1
            simp at t2 t3
            exact ⟨q9, t2, t3⟩)
          have HM9 := Lib.hid (m9.set 1 (.slice A9 (L + 1) c9))
          have HO9 := Lib.hid (o9.keptT (m9.keptSet (t := 38) (k := 1) (by decide) (.slice A9 (L + 1) c9)))
          have HB9 := Lib.hid (show Below (w.heap.size + 1 + 1) wr _ from ((b8d.mono (show w.heap.size + 1 + 1 ≤ wr.heap.size by omega)).trans (b9.mono (show w.heap.size + 1 + 1 ≤ w.heap.size + 1 + 1 + 1 by omega))).setCell (p := ⟨w.heap.size + 1 + 1, 1, none⟩) (Nat.le_refl _) (.slice A9 (L + 1) c9))
          have HSZ := Lib.hid (show wr.heap.size ≤ w9.heap.size from Nat.le_trans b8d.size b9.size)
          have HEL := Lib.hid (show (aftK ts us (k + 1)).length = L + 1 by rw [HNX.out, List.length_append, ← HLL.out]; rfl)
          clear b8 m8 m9 o9 b9 b8d k9 g9
          go_upto_region 6 with fail
          refine wp_region_heldX (X := fun k => ([16] : List Nat).contains k) (S := fun W => W.cell? ⟨w.heap.size + 1 + 1, 1, none⟩ = some (.slice A' L c') ∧ W.cell? ⟨wr.heap.size, 0, none⟩ = some (.slice (some ⟨b1, o1, none⟩) n2 c1) ∧ W.cell? ⟨wr.heap.size, 1, none⟩ = some (.slice (some ⟨b2, o2, none⟩) n2 c2)) (by kernel_rfl) ?_
          refine wpAnyX_pure (i := 0) (v := ?_) rfl (by kernel_rfl) (by kernel_rfl) (by kernel_rfl) (fun _ _ _ h => h) (Or.inl ⟨by rfl, ?_⟩) ?_
          rotate_left
          · (intro W _; go_simp; try with_reducible rfl)
          (try simp only [Act.put, List.getElem_toArray, List.getElem_cons_zero, List.getElem_cons_succ, List.setIfInBounds_toArray, List.set_cons_zero, List.set_cons_succ])
          refine wpAnyX_takeL (L := [16]) (i := 1) (v := ?_) rfl (by kernel_rfl) (by kernel_rfl) (by kernel_rfl) (by kernel_rfl) (fun _ _ _ h => h) (Or.inl ⟨by rfl, ?_⟩) (HS.out _ hbf) ?_
          rotate_left
          · (intro W hSW; (try dsimp only at hSW); obtain ⟨z0, z1, z2⟩ := hSW; go_simp; try with_reducible rfl)
          (try simp only [Act.put, List.getElem_toArray, List.getElem_cons_zero, List.getElem_cons_succ, List.setIfInBounds_toArray, List.set_cons_zero, List.set_cons_succ])
          refine wpAnyX_pure (i := 2) (v := ?_) rfl (by kernel_rfl) (by kernel_rfl) (by kernel_rfl) (fun _ _ _ h => h) (Or.inl ⟨by rfl, ?_⟩) ?_
          rotate_left
          · (intro W _; go_simp; try with_reducible rfl)
          (try simp only [Act.put, List.getElem_toArray, List.getElem_cons_zero, List.getElem_cons_succ, List.setIfInBounds_toArray, List.set_cons_zero, List.set_cons_succ])
          refine wpAnyX_takeL (L := [16]) (i := 3) (v := ?_) rfl (by kernel_rfl) (by kernel_rfl) (by kernel_rfl) (by kernel_rfl) (fun _ _ _ h => h) (Or.inl ⟨by rfl, ?_⟩) (HS.out _ hbf) ?_
          rotate_left
          · (intro W hSW; (try dsimp only at hSW); obtain ⟨z0, z1, z2⟩ := hSW; go_simp; try with_reducible rfl)
          (try simp only [Act.put, List.getElem_toArray, List.getElem_cons_zero, List.getElem_cons_succ, List.setIfInBounds_toArray, List.set_cons_zero, List.set_cons_succ])
          refine wpAnyX_pure (i := 4) (v := ?_) rfl (by kernel_rfl) (by kernel_rfl) (by kernel_rfl) (fun _ _ _ h => h) (Or.inl ⟨by rfl, ?_⟩) ?_
          rotate_left
          · (intro W _; go_simp; try with_reducible rfl)
          (try simp only [Act.put, List.getElem_toArray, List.getElem_cons_zero, List.getElem_cons_succ, List.setIfInBounds_toArray, List.set_cons_zero, List.set_cons_succ])
          refine wpAnyX_pure (i := 5) (v := ?_) rfl (by kernel_rfl) (by kernel_rfl) (by kernel_rfl) (fun _ _ _ h => h) (Or.inl ⟨by rfl, ?_⟩) ?_
          rotate_left
          · (intro W _; go_simp; try with_reducible rfl)
          (try simp only [Act.put, List.getElem_toArray, List.getElem_cons_zero, List.getElem_cons_succ, List.setIfInBounds_toArray, List.set_cons_zero, List.set_cons_succ])
          refine wpAnyX_pure (i := 6) (v := ?_) rfl (by kernel_rfl) (by kernel_rfl) (by kernel_rfl) (fun _ _ _ h => h) (Or.inl ⟨by rfl, ?_⟩) ?_
          rotate_left
          · (intro W _; go_simp; try with_reducible rfl)
          (try simp only [Act.put, List.getElem_toArray, List.getElem_cons_zero, List.getElem_cons_succ, List.setIfInBounds_toArray, List.set_cons_zero, List.set_cons_succ])
          refine wpAnyX_pure (i := 7) (v := ?_) rfl (by kernel_rfl) (by kernel_rfl) (by kernel_rfl) (fun _ _ _ h => h) (Or.inl ⟨by rfl, ?_⟩) ?_
          rotate_left
          · (intro W _; go_simp; try with_reducible rfl)
          (try simp only [Act.put, List.getElem_toArray, List.getElem_cons_zero, List.getElem_cons_succ, List.setIfInBounds_toArray, List.set_cons_zero, List.set_cons_succ])
          refine wpAnyX_takeL (L := [16]) (i := 8) (v := ?_) rfl (by kernel_rfl) (by kernel_rfl) (by kernel_rfl) (by kernel_rfl) (fun _ _ _ h => h) (Or.inl ⟨by rfl, ?_⟩) (HS.out _ hbf) ?_
          rotate_left
          · (intro W hSW; (try dsimp only at hSW); obtain ⟨z0, z1, z2⟩ := hSW; go_simp; try with_reducible rfl)
          (try simp only [Act.put, List.getElem_toArray, List.getElem_cons_zero, List.getElem_cons_succ, List.setIfInBounds_toArray, List.set_cons_zero, List.set_cons_succ])
          refine wpAnyX_pure (i := 9) (v := ?_) rfl (by kernel_rfl) (by kernel_rfl) (by kernel_rfl) (fun _ _ _ h => h) (Or.inl ⟨by rfl, ?_⟩) ?_
          rotate_left
          · (intro W _; go_simp; try with_reducible rfl)
          (try simp only [Act.put, List.getElem_toArray, List.getElem_cons_zero, List.getElem_cons_succ, List.setIfInBounds_toArray, List.set_cons_zero, List.set_cons_succ])
          refine wpAnyX_pure (i := 10) (v := ?_) rfl (by kernel_rfl) (by kernel_rfl) (by kernel_rfl) (fun _ _ _ h => h) (Or.inl ⟨by rfl, ?_⟩) ?_
          rotate_left
          · (intro W _; go_simp; try with_reducible rfl)
          (try simp only [Act.put, List.getElem_toArray, List.getElem_cons_zero, List.getElem_cons_succ, List.setIfInBounds_toArray, List.set_cons_zero, List.set_cons_succ])
          refine wpAnyX_pure (i := 11) (v := ?_) rfl (by kernel_rfl) (by kernel_rfl) (by kernel_rfl) (fun _ _ _ h => h) (Or.inl ⟨by rfl, ?_⟩) ?_
          rotate_left
          · (intro W _; go_simp; try with_reducible rfl)
          (try simp only [Act.put, List.getElem_toArray, List.getElem_cons_zero, List.getElem_cons_succ, List.setIfInBounds_toArray, List.set_cons_zero, List.set_cons_succ])
          refine wpAnyX_pure (i := 12) (v := ?_) rfl (by kernel_rfl) (by kernel_rfl) (by kernel_rfl) (fun _ _ _ h => h) (Or.inl ⟨by rfl, ?_⟩) ?_
          rotate_left
          · (intro W _; go_simp; try with_reducible rfl)
          (try simp only [Act.put, List.getElem_toArray, List.getElem_cons_zero, List.getElem_cons_succ, List.setIfInBounds_toArray, List.set_cons_zero, List.set_cons_succ])
          refine wpAnyX_one (i := 13) rfl (by kernel_rfl) (fun K hK => ?_)
          go_simp
          refine hK.out _ _ (fun _ _ => HS.out _ (bt hbf (alloc_below _ _))) ?_
          (try simp only [Act.put, List.getElem_toArray, List.getElem_cons_zero, List.getElem_cons_succ, List.setIfInBounds_toArray, List.set_cons_zero, List.set_cons_succ])
          refine wpAnyX_one (i := 14) rfl (by kernel_rfl) (fun K hK => ?_)
          refine step_apph rfl _ _ _ _ rfl _ _ rfl rfl _ _ hrn ?_
          refine hK.out _ _ (fun _ _ => HS9.out) ?_
          (try simp only [Act.put, List.getElem_toArray, List.getElem_cons_zero, List.getElem_cons_succ, List.setIfInBounds_toArray, List.set_cons_zero, List.set_cons_succ])
          refine wpAnyX_pure (i := 15) (v := ?_) rfl (by kernel_rfl) (by kernel_rfl) (by kernel_rfl) (fun _ _ _ h => h) (Or.inl ⟨by rfl, ?_⟩) ?_
          rotate_left
          · (intro W _; go_simp; try with_reducible rfl)
          (try simp only [Act.put, List.getElem_toArray, List.getElem_cons_zero, List.getElem_cons_succ, List.setIfInBounds_toArray, List.set_cons_zero, List.set_cons_succ])
          refine wpAnyX_one (i := 16) rfl (by kernel_rfl) (fun K hK => ?_)
          go_simp
          refine hK.out _ _ (fun h => absurd h (by decide)) ?_
          (try simp only [Act.put, List.getElem_toArray, List.getElem_cons_zero, List.getElem_cons_succ, List.setIfInBounds_toArray, List.set_cons_zero, List.set_cons_succ])
          refine wpAnyX_done (by kernel_rfl) ?_ _
          clear hbf hrn
          go_wp2
          go_roundw
          case rel => exact ⟨k + 1, A9, c9, by go_num, by omega, by rw [HEL.out]; simpa using HM9, by rw [HEL.out, HNX.out, HLU.out]; exact HO9, Lib.hid ⟨HBR.out.1.trans HB9.out, by have := HBR.out.2; have := HSZ.out; simp; omega⟩⟩
          case measure => simp [intOf]; omega
        · have HNX := Lib.hid (aftK_no (u := us) (k := k) (ts := ts) (by rw [HN1.out, HLU.out]; omega))
          obtain ⟨b1, o1, eA1, _, _⟩ := HI1.out.at_ (k := m) h1
          subst eA1
          obtain ⟨b2, o2, eA2, _, _⟩ := HI2.out.at_ (k := m) h1
          subst eA2
          have hlu : us.length = m := HLU.out
          have HDEC := Lib.hid (show decide (cmn (tIn ts k) us = us.length) = false by rw [hlu]; simp [h2])
          have HBA := Lib.hid (alloc_below wr (.cells #[.slice (some ⟨b1, o1, none⟩) n2 c1, .slice (some ⟨b2, o2, none⟩) n2 c2] 38))
          have HB7 := Lib.hid (bx_new wr #[.slice (some ⟨b1, o1, none⟩) n2 c1, .slice (some ⟨b2, o2, none⟩) n2 c2] 38)
          have HP := Lib.hid (whasprefix (some ⟨b1, o1, none⟩) U n2 c1 m d (tIn ts k) us _ (HI1.out.below (bt HB00.out HBA.out)) (HU.out.below (bt HB00.out HBA.out)))
          have h0m : (0 : Int) ≤ (m : Int) := by omega
          have hc1m : ¬ c1 = m := by omega
          have hc2m : ¬ c2 = m := by omega
          have h1m : (m : Int) ≤ (n2 : Int) := by omega
          have hh2 := Lib.hid h2
          clear hlu h2
          go_wp2_with fail
          refine HP.out.mono ?_
          rintro e w8 ⟨rfl, q8, rfl⟩
          rw [HDEC.out]
          go_wp2
          go_roundw
          case rel => exact ⟨k + 1, A', c', by go_num, by omega, by rw [HNX.out, ← HLL.out]; exact Lib.hid ((HX.out.on HBA.out).drewN _), by rw [HNX.out, ← HLL.out]; exact Lib.hid (HH.out.keptT (KeptT.of_below (below_drewN HBA.out _))), Lib.hid ⟨HBR.out.1.trans ((below_drewN HBA.out _).mono (by omega)), Nat.le_trans HBR.out.2 HBA.out.size⟩⟩
          case measure => simp [intOf]; omega
      · have HNX := Lib.hid (aftK_no (u := us) (k := k) (ts := ts) (by rw [HN1.out, HLU.out]; omega))
        have HBA := Lib.hid (alloc_below wr (.cells #[.slice A1 n2 c1, .slice A2 n2 c2] 38))
        go_wp2
        go_roundw
        case rel => exact ⟨k + 1, A', c', by go_num, by omega, by rw [HNX.out, ← HLL.out]; exact Lib.hid (HX.out.on HBA.out), by rw [HNX.out, ← HLL.out]; exact Lib.hid (HH.out.keptT (KeptT.of_below HBA.out)), Lib.hid ⟨HBR.out.1.trans (HBA.out.mono (by omega)), Nat.le_trans HBR.out.2 HBA.out.size⟩⟩
        case measure => simp [intOf]; omega
    · obtain rfl : k = tn := by omega
      have HXX := HX.out
      rw [HLL.out] at HXX
      have HB2' := HM2.out.kept HBR.out.1 (by omega : w.heap.size + 1 < w.heap.size + 1 + 1)
      have f0 := HB2'.free 0
      have f1 := HB2'.free 1
      have q0 := HB2'.cell 0
      have q1 := HB2'.cell 1
      have r0 := HX.out.cell 0
      have r1 := HX.out.cell 1
      simp at q0 q1 r0 r1
      have HR1 := Lib.hid ((HB2'.set 0 (.int .i64 i)).set 1 (.slice A' L c'))
      have HR2 := Lib.hid ((HBW.out.setCell (p := ⟨w.heap.size + 1, 0, none⟩) (show w.heap.size ≤ w.heap.size + 1 by omega) (.int .i64 i)).setCell (p := ⟨w.heap.size + 1, 1, none⟩) (show w.heap.size ≤ w.heap.size + 1 by omega) (.slice A' L c'))
      clear HB2' HXX
      go_wp2
      (try rw [Exit.noGoto_ret])
      refine bodyPost_ret (results_obs rfl _ _ (w.heap.size + 1) (.int .i64 i) (.slice A' L c') rfl (by have := HR1.out; simpa using this)) rfl ?_
      rw [← HLL.out]
      refine ⟨A', c', rfl, ?_, HR2.out⟩
      have hk1 := (HM2.out.kept HBR.out.1 (by omega : w.heap.size + 1 < w.heap.size + 1 + 1))
      exact ((HH.out.keptT (hk1.keptSet (t := 38) (k := 0) (by decide) (.int .i64 i))).keptT ((hk1.set 0 (.int .i64 i)).keptSet (t := 38) (k := 1) (by decide) (.slice A' L c'))).lower (by omega)
end Go.Proofs.Ytkgdgnmobahhfaa
end

section
/- ordered, earlier, contradict. -/
namespace Go.Proofs.Ytkgdgnmobahhfaa
open Go.RowKit Go.Shelf

set_option linter.unusedSimpArgs false in
theorem results_obs2 {fn : Func} {p q : Tmp} (h : fn.results = #[.cell p 24, .cell q 24]) (tmps : Array Value) (w : World) (g k : Nat) (v1 v2 u1 u2 : Value)
    (hp : tmps.getD p undef = .pointer (some ⟨g, 0, none⟩)) (hq : tmps.getD q undef = .pointer (some ⟨k, 0, none⟩)) (hg : Bx w g #[v1, v2] 24) (hk : Bx w k #[u1, u2] 24) :
    (results fn tmps).run Try.prog w = .ok (.tuple #[.agg #[v1, v2], .agg #[u1, u2]]) w := by
  have hl := run_loadVar_row (P := Try.prog) w g 24 24 #[v1, v2] (0, 0) _ hg Try.underlying24 rfl (by kernel_rfl)
  have hl2 := run_loadVar_row (P := Try.prog) w k 24 24 #[u1, u2] (0, 0) _ hk Try.underlying24 rfl (by kernel_rfl)
  rw [Array.getD_eq_getD_getElem?] at hp hq
  unfold results
  rw [h]
  simp [hp, hq, asAddr, hl, hl2, Sem.run_bind, Sem.run_pure]

set_option linter.unusedSimpArgs false in
set_option linter.unusedVariables false in
set_option maxHeartbeats 4000000 in
set_option maxRecDepth 100000 in
theorem pordered (i k : Int) (A B : Option Addr) (n c m d : Nat) (w : World) (hn : n ≤ 17592186044416) (hm : m ≤ 17592186044416) :
    Calls Try.prog 85 #[.agg #[.int .i64 i, .slice A n c], .agg #[.int .i64 k, .slice B m d]] w fun e w' =>
      e = .returned (.tuple #[if m < n then .agg #[.int .i64 k, .slice B m d] else .agg #[.int .i64 i, .slice A n c], if m < n then .agg #[.int .i64 i, .slice A n c] else .agg #[.int .i64 k, .slice B m d]]) ∧ Below w.heap.size w w' := by
  obtain ⟨hb0, m1, m2, m3, hs0⟩ := bxs3 w #[.int .i64 i, .slice A n c] #[.int .i64 k, .slice B m d] #[.int .i64 0, .slice none 0 0] 24 24 24 _ rfl
  have m4 := bx_new (((w.alloc (.cells #[.int .i64 i, .slice A n c] 24)).alloc (.cells #[.int .i64 k, .slice B m d] 24)).alloc (.cells #[.int .i64 0, .slice none 0 0] 24)) #[.int .i64 0, .slice none 0 0] 24
  have b4 := alloc_below (((w.alloc (.cells #[.int .i64 i, .slice A n c] 24)).alloc (.cells #[.int .i64 k, .slice B m d] 24)).alloc (.cells #[.int .i64 0, .slice none 0 0] 24)) (.cells #[.int .i64 0, .slice none 0 0] 24)
  rw [hs0] at m4
  have m1 := m1.on b4
  have m2 := m2.on b4
  have m3 := m3.on b4
  have hb0 := bt hb0 b4
  by_cases h : m < n
  · rw [if_pos h, if_pos h]
    go_enter Try.func85, Try.ntmps85
    go_wp2
    clear b4 hs0
    generalize (((w.alloc (.cells #[.int .i64 i, .slice A n c] 24)).alloc (.cells #[.int .i64 k, .slice B m d] 24)).alloc (.cells #[.int .i64 0, .slice none 0 0] 24)).alloc (.cells #[.int .i64 0, .slice none 0 0] 24) = w4 at m1 m2 m3 m4 hb0 ⊢
    refine wp_region_heldX (X := fun k => ([] : List Nat).contains k) (S := fun W => Bx W (w.heap.size) #[.int .i64 i, .slice A n c] 24 ∧ Bx W (w.heap.size + 1) #[.int .i64 k, .slice B m d] 24) (by kernel_rfl) ?_
    refine wpAnyX_takeL (L := []) (i := 0) (v := .agg (#[.int .i64 k, .slice B m d])) rfl (by kernel_rfl) (by kernel_rfl) (by kernel_rfl) (by kernel_rfl) (fun _ _ _ h => h) (Or.inl ⟨by rfl, fun W hSW => run_load_bx 24 _ rfl (w.heap.size + 1) rfl 24 (#[.int .i64 k, .slice B m d]) (0, 0) _ (hSW.2) Try.underlying24 rfl (by kernel_rfl)⟩) (⟨m1.drewN 1, m2.drewN 1⟩) ?_
    (try simp only [Act.put, List.getElem_toArray, List.getElem_cons_zero, List.getElem_cons_succ, List.setIfInBounds_toArray, List.set_cons_zero, List.set_cons_succ])
    refine wpAnyX_takeL (L := []) (i := 1) (v := .agg (#[.int .i64 i, .slice A n c])) rfl (by kernel_rfl) (by kernel_rfl) (by kernel_rfl) (by kernel_rfl) (fun _ _ _ h => h) (Or.inl ⟨by rfl, fun W hSW => run_load_bx 24 _ rfl (w.heap.size) rfl 24 (#[.int .i64 i, .slice A n c]) (0, 0) _ (hSW.1) Try.underlying24 rfl (by kernel_rfl)⟩) (⟨m1.drewN 1, m2.drewN 1⟩) ?_
    (try simp only [Act.put, List.getElem_toArray, List.getElem_cons_zero, List.getElem_cons_succ, List.setIfInBounds_toArray, List.set_cons_zero, List.set_cons_succ])
    refine wpAnyX_one (i := 2) rfl (by kernel_rfl) (fun K hK => ?_)
    refine wp_store_row 24 _ _ rfl (w.heap.size + 1 + 1) (#[.int .i64 k, .slice B m d]) rfl rfl 24 (#[.int .i64 0, .slice none 0 0]) (m3.drewN 1) (by kernel_rfl) (by rfl) (by simp [Value.oneCell']) (hK.out _ _ (fun _ _ => ⟨(m1.drewN 1).rowOther (by omega) _, (m2.drewN 1).rowOther (by omega) _⟩) ?_)
    (try simp only [Act.put, List.getElem_toArray, List.getElem_cons_zero, List.getElem_cons_succ, List.setIfInBounds_toArray, List.set_cons_zero, List.set_cons_succ])
    refine wpAnyX_one (i := 3) rfl (by kernel_rfl) (fun K hK => ?_)
    refine wp_store_row 24 _ _ rfl (w.heap.size + 1 + 1 + 1) (#[.int .i64 i, .slice A n c]) rfl rfl 24 (#[.int .i64 0, .slice none 0 0]) ((m4.drewN 1).rowOther (by omega) _) (by kernel_rfl) (by rfl) (by simp [Value.oneCell']) (hK.out _ _ (fun _ _ => ⟨((m1.drewN 1).rowOther (by omega) _).rowOther (by omega) _, ((m2.drewN 1).rowOther (by omega) _).rowOther (by omega) _⟩) ?_)
    (try simp only [Act.put, List.getElem_toArray, List.getElem_cons_zero, List.getElem_cons_succ, List.setIfInBounds_toArray, List.set_cons_zero, List.set_cons_succ])
    refine wpAnyX_done (by kernel_rfl) ?_ _
    have HG3 := Lib.hid (((m3.drewN 1).row (#[.int .i64 k, .slice B m d])).rowOther (g' := w.heap.size + 1 + 1 + 1) (by omega) (#[.int .i64 i, .slice A n c]))
    have HG4 := Lib.hid (((m4.drewN 1).rowOther (g' := w.heap.size + 1 + 1) (by omega) (#[.int .i64 k, .slice B m d])).row (#[.int .i64 i, .slice A n c]))
    have HBB := Lib.hid (below_setRow (g := w.heap.size + 1 + 1 + 1) (below_setRow (g := w.heap.size + 1 + 1) (below_drewN hb0 1) (by omega) (#[.int .i64 k, .slice B m d])) (by omega) (#[.int .i64 i, .slice A n c]))
    clear m1 m2 m3 m4 hb0
    go_wp2
    (try rw [Exit.noGoto_ret])
    refine bodyPost_ret (results_obs2 rfl _ _ (w.heap.size + 1 + 1) (w.heap.size + 1 + 1 + 1) _ _ _ _ rfl rfl HG3.out HG4.out) rfl ?_
    exact ⟨rfl, HBB.out⟩
  · rw [if_neg h, if_neg h]
    go_enter Try.func85, Try.ntmps85
    go_wp2
    clear b4 hs0
    generalize (((w.alloc (.cells #[.int .i64 i, .slice A n c] 24)).alloc (.cells #[.int .i64 k, .slice B m d] 24)).alloc (.cells #[.int .i64 0, .slice none 0 0] 24)).alloc (.cells #[.int .i64 0, .slice none 0 0] 24) = w4 at m1 m2 m3 m4 hb0 ⊢
    refine wp_region_heldX (X := fun k => ([] : List Nat).contains k) (S := fun W => Bx W (w.heap.size) #[.int .i64 i, .slice A n c] 24 ∧ Bx W (w.heap.size + 1) #[.int .i64 k, .slice B m d] 24) (by kernel_rfl) ?_
    refine wpAnyX_takeL (L := []) (i := 0) (v := .agg (#[.int .i64 i, .slice A n c])) rfl (by kernel_rfl) (by kernel_rfl) (by kernel_rfl) (by kernel_rfl) (fun _ _ _ h => h) (Or.inl ⟨by rfl, fun W hSW => run_load_bx 24 _ rfl (w.heap.size) rfl 24 (#[.int .i64 i, .slice A n c]) (0, 0) _ (hSW.1) Try.underlying24 rfl (by kernel_rfl)⟩) (⟨m1.drewN 1, m2.drewN 1⟩) ?_
    (try simp only [Act.put, List.getElem_toArray, List.getElem_cons_zero, List.getElem_cons_succ, List.setIfInBounds_toArray, List.set_cons_zero, List.set_cons_succ])
    refine wpAnyX_takeL (L := []) (i := 1) (v := .agg (#[.int .i64 k, .slice B m d])) rfl (by kernel_rfl) (by kernel_rfl) (by kernel_rfl) (by kernel_rfl) (fun _ _ _ h => h) (Or.inl ⟨by rfl, fun W hSW => run_load_bx 24 _ rfl (w.heap.size + 1) rfl 24 (#[.int .i64 k, .slice B m d]) (0, 0) _ (hSW.2) Try.underlying24 rfl (by kernel_rfl)⟩) (⟨m1.drewN 1, m2.drewN 1⟩) ?_
    (try simp only [Act.put, List.getElem_toArray, List.getElem_cons_zero, List.getElem_cons_succ, List.setIfInBounds_toArray, List.set_cons_zero, List.set_cons_succ])
    refine wpAnyX_one (i := 2) rfl (by kernel_rfl) (fun K hK => ?_)
    refine wp_store_row 24 _ _ rfl (w.heap.size + 1 + 1) (#[.int .i64 i, .slice A n c]) rfl rfl 24 (#[.int .i64 0, .slice none 0 0]) (m3.drewN 1) (by kernel_rfl) (by rfl) (by simp [Value.oneCell']) (hK.out _ _ (fun _ _ => ⟨(m1.drewN 1).rowOther (by omega) _, (m2.drewN 1).rowOther (by omega) _⟩) ?_)
    (try simp only [Act.put, List.getElem_toArray, List.getElem_cons_zero, List.getElem_cons_succ, List.setIfInBounds_toArray, List.set_cons_zero, List.set_cons_succ])
    refine wpAnyX_one (i := 3) rfl (by kernel_rfl) (fun K hK => ?_)
    refine wp_store_row 24 _ _ rfl (w.heap.size + 1 + 1 + 1) (#[.int .i64 k, .slice B m d]) rfl rfl 24 (#[.int .i64 0, .slice none 0 0]) ((m4.drewN 1).rowOther (by omega) _) (by kernel_rfl) (by rfl) (by simp [Value.oneCell']) (hK.out _ _ (fun _ _ => ⟨((m1.drewN 1).rowOther (by omega) _).rowOther (by omega) _, ((m2.drewN 1).rowOther (by omega) _).rowOther (by omega) _⟩) ?_)
    (try simp only [Act.put, List.getElem_toArray, List.getElem_cons_zero, List.getElem_cons_succ, List.setIfInBounds_toArray, List.set_cons_zero, List.set_cons_succ])
    refine wpAnyX_done (by kernel_rfl) ?_ _
    have HG3 := Lib.hid (((m3.drewN 1).row (#[.int .i64 i, .slice A n c])).rowOther (g' := w.heap.size + 1 + 1 + 1) (by omega) (#[.int .i64 k, .slice B m d]))
    have HG4 := Lib.hid (((m4.drewN 1).rowOther (g' := w.heap.size + 1 + 1) (by omega) (#[.int .i64 i, .slice A n c])).row (#[.int .i64 k, .slice B m d]))
    have HBB := Lib.hid (below_setRow (g := w.heap.size + 1 + 1 + 1) (below_setRow (g := w.heap.size + 1 + 1) (below_drewN hb0 1) (by omega) (#[.int .i64 i, .slice A n c])) (by omega) (#[.int .i64 k, .slice B m d]))
    clear m1 m2 m3 m4 hb0
    go_wp2
    (try rw [Exit.noGoto_ret])
    refine bodyPost_ret (results_obs2 rfl _ _ (w.heap.size + 1 + 1) (w.heap.size + 1 + 1 + 1) _ _ _ _ rfl rfl HG3.out HG4.out) rfl ?_
    exact ⟨rfl, HBB.out⟩

set_option maxRecDepth 100000 in
theorem pearlier_none (B : Option Addr) (m d : Nat) (w : World) :
    Calls Try.prog 84 #[.slice none 0 0, .slice B m d] w fun e w' => e = .returned (.slice B m d) ∧ w' = w := by
  have he := fun W => Lib.run_eql_slice_nil (P := Try.prog) W 36 3 none 0 0 0 0 Try.underlying36
  go_enter Try.func84, Try.ntmps84
  go_wp2
  go_ret
  exact ⟨rfl, rfl⟩

set_option maxHeartbeats 1000000 in
set_option maxRecDepth 100000 in
theorem pearlier_some (g : Addr) (B : Option Addr) (n c m d : Nat) (xs ys : List Int) (w : World) (hx : Ints w (some g) n xs) (hy : Ints w B m ys) :
    Calls Try.prog 84 #[.slice (some g) n c, .slice B m d] w fun e w' => e = .returned (if shlex ys xs < 0 then .slice B m d else .slice (some g) n c) ∧ ∃ q, w' = w.drewN q := by
  have he := fun W => Lib.run_eql_slice_nil (P := Try.prog) W 36 3 (some g) n c 0 0 Try.underlying36
  have HC := Lib.hid (wcompare B (some g) m d n c ys xs w hy hx)
  obtain ⟨s, hs⟩ : ∃ s, s = shlex ys xs := ⟨_, rfl⟩
  rw [← hs] at HC ⊢
  clear hs hx hy
  by_cases h : s < 0
  · rw [if_pos h]
    go_enter Try.func84, Try.ntmps84
    go_wp2_with fail
    refine HC.out.mono ?_
    rintro e w' ⟨rfl, q, rfl⟩
    go_wp2
    go_ret
    exact ⟨rfl, q, rfl⟩
  · rw [if_neg h]
    go_enter Try.func84, Try.ntmps84
    go_wp2_with fail
    refine HC.out.mono ?_
    rintro e w' ⟨rfl, q, rfl⟩
    go_wp2
    go_ret
    exact ⟨rfl, q, rfl⟩
end Go.Proofs.Ytkgdgnmobahhfaa
end

section
/- Small facts for Apart: what is observed after a word is proper and consistent; the first word so far. -/
namespace Go.Proofs.Ytkgdgnmobahhfaa
open Go.RowKit

theorem run_neqs {P : Program} (w : World) (t e : TypeId) (a : Option Addr) (n c n' c' : Nat) (h : P.underlying t = some (.slice e)) :
    (binOp .neq t (.slice a n c) (.slice none n' c')).run P w = .ok (.bool (!a.isNone)) w := by
  simp only [binOp]
  simp [Op.equal, Op.maxDepth, Lib.run_equalIn_slice_nil w 9999 t e a n c n' c' h]
/-- Each trace is proper. -/
def Props (i : Int) (ts : List (List Int × List Int)) : Prop := ∀ j, j < ts.length → prpE (tIn ts j) (tOut ts j) i = 0
theorem prp_zero {xs ys : List Int} {i : Int} (h : prpE xs ys i = 0) : chk xs i = 0 ∧ ys.length = xs.length ∧ ∀ y, y ∈ ys → 0 ≤ y ∧ y ≤ 1048576 := by
  unfold prpE at h
  split at h
  · exact ⟨by assumption, ansE_zero h⟩
  · omega
theorem prp_drop {xs ys : List Int} {i : Int} (h : prpE xs ys i = 0) (k : Nat) : prpE (xs.drop k) (ys.drop k) i = 0 := by
  obtain ⟨h1, h2, h3⟩ := prp_zero h
  obtain ⟨k1, k2, k3, k4⟩ := chk_zero h1
  unfold prpE
  rw [if_pos]
  · exact ansE_ok (by rw [List.length_drop, List.length_drop, h2]) fun y hy => h3 y (List.mem_of_mem_drop hy)
  · refine chk_ok ⟨k1, k2⟩ (by rw [List.length_drop]; omega) fun j hj => ?_
    have := k4 (k + j) (by rw [List.length_drop] at hj; omega)
    rw [List.getD_eq_getElem?_getD, List.getElem?_drop, ← List.getD_eq_getElem?_getD]
    exact this
theorem aftK_props {ts : List (List Int × List Int)} {u : List Int} {i : Int} {k : Nat} (h : Props i ts) (hk : k ≤ ts.length) : Props i (aftK ts u k) := fun j hj => by
  obtain ⟨s, h1, _, _, h4, h5⟩ := aftK_at k j hj
  rw [h4, h5]
  exact prp_drop (h s (by omega)) _
theorem cmn_drop {x y u : List Int} (hx : cmn x u = u.length) (hy : cmn y u = u.length) : cmn x y = u.length + cmn (x.drop u.length) (y.drop u.length) := by
  have h1 := cut_pre hx
  have h2 := cut_pre hy
  generalize x.drop u.length = a at h1 ⊢
  generalize y.drop u.length = b at h2 ⊢
  subst h1 h2
  clear hx hy
  induction u with
  | nil => simp
  | cons z zs ih => rw [List.cons_append, List.cons_append, cmn, if_pos rfl, ih]; simp; omega
theorem getD_drop (l : List Int) (k j : Nat) : (l.drop k).getD j 0 = l.getD (k + j) 0 := by
  rw [List.getD_eq_getElem?_getD, List.getD_eq_getElem?_getD, List.getElem?_drop]
theorem aftK_cons {ts : List (List Int × List Int)} {u : List Int} {k : Nat} (h : Cons ts) (hk : k ≤ ts.length) : Cons (aftK ts u k) := fun a b ha hb j hj => by
  obtain ⟨s, h1, _, h3, h4, h5⟩ := aftK_at k a ha
  obtain ⟨r, k1, _, k3, k4, k5⟩ := aftK_at k b hb
  rw [h4, k4] at hj
  rw [h5, k5, getD_drop, getD_drop]
  exact h s r (by omega) (by omega) _ (by rw [cmn_drop h3 k3]; omega)
/-- The first word so far, as a slice: nil stands for none. -/
def FirstV (w : World) (v : Value) (xs : List Int) : Prop := (v = .slice none 0 0 ∧ xs = []) ∨ (∃ (g : Addr) (n c : Nat), v = .slice (some g) n c ∧ Ints w (some g) n xs ∧ ¬ xs = [])
theorem FirstV.below {w w' : World} {v : Value} {xs : List Int} (h : FirstV w v xs) (hb : Below w.heap.size w w') : FirstV w' v xs := by
  rcases h with h | ⟨g, n, c, h1, h2, h3⟩
  · exact .inl h
  · exact .inr ⟨g, n, c, h1, h2.below hb, h3⟩
theorem Ints.some_ {w : World} {A : Option Addr} {n : Nat} {xs : List Int} (h : Ints w A n xs) (hne : 0 < xs.length) : ∃ g, A = some g := by
  obtain ⟨b, off, e, _⟩ := h.2.2 (by rw [← h.1]; exact hne)
  exact ⟨_, e⟩
theorem FirstV.of {w : World} {A : Option Addr} {n c : Nat} {xs : List Int} (h : Ints w A n xs) (hne : 0 < xs.length) : FirstV w (.slice A n c) xs := by
  obtain ⟨g, rfl⟩ := h.some_ hne
  exact .inr ⟨g, n, c, rfl, h, fun e => by rw [e] at hne; simp at hne⟩
end Go.Proofs.Ytkgdgnmobahhfaa
end

section
/- contradict: do traces of two observations contradict each other? -/
namespace Go.Proofs.Ytkgdgnmobahhfaa
open Go.RowKit Go.Shelf

theorem entK1 : ∀ args w, (callFunc 114 args).run Try.prog w = .ok (.enter 114 args) w := enters_of Try.func114 (by kernel_rfl) rfl

open Classical in
/-- Does the trace contradict M? -/
noncomputable def ctr1 (M : List (List Int × List Int)) (xs ys : List Int) : Bool := decide (∃ x, Sh1 M xs ys x)
open Classical in
/-- Does a trace of F contradict M? -/
noncomputable def ctr (F M : List (List Int × List Int)) : Bool := decide (∃ x, ShK F M F.length x)
open Classical in
theorem ctr1_iff (M : List (List Int × List Int)) (xs ys : List Int) : ctr1 M xs ys = true ↔ ∃ x, Sh1 M xs ys x := by unfold ctr1; exact decide_eq_true_iff
theorem ctr_comm (F M : List (List Int × List Int)) : ctr F M = ctr M F := by
  unfold ctr
  congr 1
  exact propext ⟨fun ⟨x, h⟩ => ⟨x, (shk_comm _ _ x).1 h⟩, fun ⟨x, h⟩ => ⟨x, (shk_comm _ _ x).1 h⟩⟩
theorem ctr_any (F M : List (List Int × List Int)) : ctr F M = true ↔ ∃ j, j < F.length ∧ ctr1 M (tIn F j) (tOut F j) = true := by
  unfold ctr ctr1
  simp only [decide_eq_true_eq]
  exact ⟨fun ⟨x, a, h1, h2⟩ => ⟨a, h1, x, h2⟩, fun ⟨a, h1, x, h2⟩ => ⟨x, a, h1, h2⟩⟩

set_option linter.unusedSimpArgs false in
set_option linter.unusedVariables false in
set_option maxHeartbeats 4000000 in
set_option maxRecDepth 100000 in
theorem pctr1 (i : Int) (B A1 A2 : Option Addr) (Bm d n1 c1 n2 c2 : Nat) (M : List (List Int × List Int)) (xs ys : List Int) (W : World) (hm : Bx W Bm #[.int .i64 i, .slice B M.length d] 24) (hT : Trs W B M.length M) (hcap : M.length ≤ d) (hx : Ints W A1 n1 xs) (hnc : n1 ≤ c1) (hy : Ints W A2 n2 ys)
    (hS : Srt M) (hF : Full M) (hC : Cons M) (hl : ys.length = xs.length) (hp : prpE xs ys i = 0) :
    Calls Try.prog 114 #[.agg #[.slice A1 n1 c1, .slice A2 n2 c2], .pointer (some ⟨Bm, 0, none⟩)] W fun e w' => e = .returned (.bool (ctr1 M xs ys)) ∧ Below W.heap.size W w' := by
  obtain ⟨wa, hwa⟩ : ∃ wa, wa = W.alloc (.cells #[.slice A1 n1 c1, .slice A2 n2 c2] 38) := ⟨_, rfl⟩
  have hal : Below W.heap.size W wa := by rw [hwa]; exact alloc_below _ _
  have hbx : Bx wa W.heap.size #[.slice A1 n1 c1, .slice A2 n2 c2] 38 := by rw [hwa]; exact bx_new _ _ _
  have HCL := Lib.hid (pclash i B A1 A2 M.length d n1 c1 n2 c2 M xs ys wa (hT.below hal) hcap (hx.below hal) hnc (hy.below hal) hS hF)
  have HWA := Lib.hid hwa
  have HAL := Lib.hid hal
  have y0 := (hm.on hal).cell 0
  have y1 := (hm.on hal).cell 1
  have x0 := hbx.cell 0
  have x1 := hbx.cell 1
  simp at x0 x1 y0 y1
  rw [hwa] at x0 x1 y0 y1
  have HK := Lib.hid (And.intro hC (And.intro hF (And.intro hl hp)))
  clear hwa hal hbx hm hT hx hy hS hF hC hl hp
  go_enter Try.func114, Try.ntmps114
  go_wp2_with fail
  rw [← HWA.out]
  refine HCL.out.mono ?_
  rintro r w5 ⟨fd, A', l, c', f, s, zs, rfl, hR, hO, hb5⟩
  have HB5 := Lib.hid (bt HAL.out hb5)
  have hfd : fd = ctr1 M xs ys := by
    obtain ⟨h1, h2, h3, h4⟩ := HK.out
    rw [Bool.eq_iff_iff, ctr1_iff]
    cases fd
    · exact ⟨(fun h => nomatch h), fun ⟨x, hx⟩ => absurd hx (cls_false h1 h2 h3 h4 hR x)⟩
    · exact ⟨fun _ => ⟨zs, (cls_true h1 h2 h3 hR).1⟩, fun _ => rfl⟩
  have HFD := Lib.hid hfd
  have HBC := Lib.hid (alloc_below w5 (.cells #[.slice A' l c', .int .i64 f, .int .i64 s] 43))
  clear hR hO hb5 hfd
  go_wp2_with fail
  go_ret
  exact ⟨by rw [HFD.out]; rfl, bt HB5.out HBC.out⟩

set_option maxHeartbeats 1000000 in
set_option maxRecDepth 100000 in
theorem pidxT (g : Nat) (cap : Value) (pb : Nat → Bool) (A : Option Addr) (n c : Nat) (ts : List (List Int × List Int)) (w : World)
    (eg : ∀ args w, (callFunc g args).run Try.prog w = .ok (.enter g args) w) (h : Trs w A n ts)
    (hcmp : ∀ j, j < n → ∀ A1 n1 c1 A2 n2 c2 W, Below w.heap.size w W → Ints W A1 n1 (tIn ts j) → n1 ≤ c1 → Ints W A2 n2 (tOut ts j) → Calls Try.prog g #[.agg #[.slice A1 n1 c1, .slice A2 n2 c2], cap] W fun e w' => e = .returned (.bool (pb j)) ∧ Below W.heap.size W w') :
    Calls Try.prog 125 #[.slice A n c, .func (.func g) #[] #[cap]] w fun e w' => ∃ i : Int, e = .returned (.int .i64 i) ∧ Hid (0 ≤ i ↔ ∃ j, j < n ∧ pb j = true) ∧ Below w.heap.size w w' := by
  have HT := Lib.hid h
  have HC := Lib.hid hcmp
  have hn := h.2.1
  clear h hcmp
  go_enter Try.func125, Try.ntmps125
  go_wp2
  go_loopw [8] (fun v8 wr => ∃ k : Nat, k ≤ n ∧ v8 = .int .i64 k ∧ Hid (∀ j, j < k → pb j = false) ∧ Hid (Below w.heap.size w wr)) (fun v8 _ => n - (intOf v8).toNat)
  case atStart => exact ⟨0, Nat.zero_le _, rfl, Lib.hid (fun j hj => absurd hj (Nat.not_lt_zero j)), Lib.hid (Below.refl _ _)⟩
  case round =>
    obtain ⟨k, hk, rfl, HN, HB⟩ := hrel
    by_cases hlt : k < n
    · obtain ⟨b, off, A1, n1, c1, A2, n2, c2, rfl, _, k1, k2, q1, _, k3, k4⟩ := (HT.out.below HB.out).at_ hlt
      have hc := HC.out k hlt A1 n1 c1 A2 n2 c2 wr HB.out k3 q1 k4
      obtain ⟨y, hy⟩ : ∃ y, y = pb k := ⟨_, rfl⟩
      rw [← hy] at hc
      have HY := Lib.hid hy
      have HCA := Lib.hid hc
      clear hc hy k3 k4
      cases y
      · go_wp2_with (go_at_fn g; refine HCA.out.mono ?_; rintro e w' ⟨rfl, bb⟩)
        have HBB := Lib.hid (bt HB.out bb)
        clear bb
        go_roundw
        case rel => exact ⟨k + 1, by omega, by go_num, Lib.hid (fun j hj => by rcases Nat.lt_or_ge j k with h | h; exact HN.out j h; rw [show j = k by omega]; exact HY.out.symm), HBB⟩
        case measure => simp [intOf]; omega
      · go_wp2_with (go_at_fn g; refine HCA.out.mono ?_; rintro e w' ⟨rfl, bb⟩)
        have HBB := Lib.hid (bt HB.out bb)
        clear bb
        go_ret
        exact ⟨k, rfl, Lib.hid ⟨fun _ => ⟨k, hlt, HY.out.symm⟩, fun _ => Int.natCast_nonneg k⟩, HBB.out⟩
    · obtain rfl : k = n := by omega
      go_wp2
      go_ret
      exact ⟨-1, rfl, Lib.hid ⟨fun h => absurd h (by decide), fun ⟨j, h1, h2⟩ => by rw [HN.out j h1] at h2; cases h2⟩, HB.out⟩

set_option maxHeartbeats 1000000 in
set_option maxRecDepth 100000 in
theorem pcontT (g : Nat) (cap : Value) (pb : Nat → Bool) (r : Bool) (A : Option Addr) (n c : Nat) (ts : List (List Int × List Int)) (w : World)
    (eg : ∀ args w, (callFunc g args).run Try.prog w = .ok (.enter g args) w) (h : Trs w A n ts)
    (hcmp : ∀ j, j < n → ∀ A1 n1 c1 A2 n2 c2 W, Below w.heap.size w W → Ints W A1 n1 (tIn ts j) → n1 ≤ c1 → Ints W A2 n2 (tOut ts j) → Calls Try.prog g #[.agg #[.slice A1 n1 c1, .slice A2 n2 c2], cap] W fun e w' => e = .returned (.bool (pb j)) ∧ Below W.heap.size W w')
    (hr : r = true ↔ ∃ j, j < n ∧ pb j = true) :
    Calls Try.prog 113 #[.slice A n c, .func (.func g) #[] #[cap]] w fun e w' => e = .returned (.bool r) ∧ Below w.heap.size w w' := by
  have HI := Lib.hid (pidxT g cap pb A n c ts w eg h hcmp)
  have HR := Lib.hid hr
  clear h hcmp hr
  go_enter Try.func113, Try.ntmps113
  go_wp2_with fail
  refine HI.out.mono ?_
  rintro e w' ⟨i, rfl, hi, hb⟩
  have HB := Lib.hid hb
  have HD := Lib.hid (show decide (0 ≤ i) = r by
    rw [Bool.eq_iff_iff, decide_eq_true_eq, hi.out, HR.out])
  clear hi hb
  go_wp2
  go_ret
  exact ⟨by rw [← HD.out]; rfl, HB.out⟩

set_option linter.unusedSimpArgs false in
set_option linter.unusedVariables false in
set_option maxHeartbeats 4000000 in
set_option maxRecDepth 100000 in
theorem pcontra (i : Int) (A B : Option Addr) (c d : Nat) (P Q : List (List Int × List Int)) (w : World) (hP : Trs w A P.length P) (hc : P.length ≤ c) (hQ : Trs w B Q.length Q) (hd : Q.length ≤ d)
    (h1 : Srt P ∧ Full P ∧ Cons P ∧ Props i P) (h2 : Srt Q ∧ Full Q ∧ Cons Q ∧ Props i Q) :
    Calls Try.prog 89 #[.agg #[.int .i64 i, .slice A P.length c], .agg #[.int .i64 i, .slice B Q.length d]] w fun e w' => e = .returned (.bool (ctr P Q)) ∧ Below w.heap.size w w' := by
  obtain ⟨hb0, m1, m2, hs0⟩ := bxs2 w #[.int .i64 i, .slice A P.length c] #[.int .i64 i, .slice B Q.length d] 24 24 _ rfl
  have HO := Lib.hid (pordered i i A B P.length c Q.length d ((w.alloc (.cells #[.int .i64 i, .slice A P.length c] 24)).alloc (.cells #[.int .i64 i, .slice B Q.length d] 24)) hP.2.1 hQ.2.1)
  have hPb := hP.below hb0
  have hQb := hQ.below hb0
  by_cases hlt : Q.length < P.length
  · have HK1 := Lib.hid h2
    have HK2 := Lib.hid h1
    have HFb := Lib.hid (hQb)
    have HMb := Lib.hid (hPb)
    have HB0 := Lib.hid hb0
    have k0 := m1.cell 0
    have k1 := m1.cell 1
    have l0 := m2.cell 0
    have l1 := m2.cell 1
    simp at k0 k1 l0 l1
    clear m1 m2 hs0 hP hQ hPb hQb hb0
    go_enter Try.func89, Try.ntmps89
    go_wp2_with fail
    refine HO.out.mono ?_
    rintro e w5 ⟨rfl, b5⟩
    rw [if_pos hlt, if_pos hlt]
    obtain ⟨hb6, m5, m6, hs6⟩ := bxs2 w5 #[.int .i64 i, .slice B Q.length d] #[.int .i64 i, .slice A P.length c] 24 24 _ rfl
    have HCO := Lib.hid (pcontT 114 (.pointer (some ⟨w5.heap.size + 1, 0, none⟩)) (fun j => ctr1 P (tIn Q j) (tOut Q j)) (ctr Q P) B Q.length d Q _ entK1 (HFb.out.below (bt b5 hb6))
      (fun j hj A1 n1 c1 A2 n2 c2 W hbW hx hnc hy => pctr1 i A A1 A2 (w5.heap.size + 1) c n1 c1 n2 c2 P _ _ W (m6.on hbW) ((HMb.out.below (bt b5 hb6)).below hbW) hc hx hnc hy HK2.out.1 HK2.out.2.1 HK2.out.2.2.1 (HK1.out.2.1 j hj) (HK1.out.2.2.2 j hj))
      (ctr_any Q P))
    have HBB := Lib.hid (bt HB0.out (bt b5 hb6))
    clear m5 m6 hb6 b5 hs6 k0 k1 l0 l1
    go_wp2_with fail
    refine HCO.out.mono ?_
    rintro e w7 ⟨rfl, b7⟩
    have HB7 := Lib.hid (bt HBB.out b7)
    clear b7
    go_wp2
    go_ret
    exact ⟨by rw [ctr_comm P Q]; rfl, HB7.out⟩
  · have HK1 := Lib.hid h1
    have HK2 := Lib.hid h2
    have HFb := Lib.hid (hPb)
    have HMb := Lib.hid (hQb)
    have HB0 := Lib.hid hb0
    have k0 := m1.cell 0
    have k1 := m1.cell 1
    have l0 := m2.cell 0
    have l1 := m2.cell 1
    simp at k0 k1 l0 l1
    clear m1 m2 hs0 hP hQ hPb hQb hb0
    go_enter Try.func89, Try.ntmps89
    go_wp2_with fail
    refine HO.out.mono ?_
    rintro e w5 ⟨rfl, b5⟩
    rw [if_neg hlt, if_neg hlt]
    obtain ⟨hb6, m5, m6, hs6⟩ := bxs2 w5 #[.int .i64 i, .slice A P.length c] #[.int .i64 i, .slice B Q.length d] 24 24 _ rfl
    have HCO := Lib.hid (pcontT 114 (.pointer (some ⟨w5.heap.size + 1, 0, none⟩)) (fun j => ctr1 Q (tIn P j) (tOut P j)) (ctr P Q) A P.length c P _ entK1 (HFb.out.below (bt b5 hb6))
      (fun j hj A1 n1 c1 A2 n2 c2 W hbW hx hnc hy => pctr1 i B A1 A2 (w5.heap.size + 1) d n1 c1 n2 c2 Q _ _ W (m6.on hbW) ((HMb.out.below (bt b5 hb6)).below hbW) hd hx hnc hy HK2.out.1 HK2.out.2.1 HK2.out.2.2.1 (HK1.out.2.1 j hj) (HK1.out.2.2.2 j hj))
      (ctr_any P Q))
    have HBB := Lib.hid (bt HB0.out (bt b5 hb6))
    clear m5 m6 hb6 b5 hs6 k0 k1 l0 l1
    go_wp2_with fail
    refine HCO.out.mono ?_
    rintro e w7 ⟨rfl, b7⟩
    have HB7 := Lib.hid (bt HBB.out b7)
    clear b7
    go_wp2
    go_ret
    exact ⟨rfl, HB7.out⟩
end Go.Proofs.Ytkgdgnmobahhfaa
end

section
/- Rows of observations, Lower. -/
namespace Go.Proofs.Ytkgdgnmobahhfaa
open Go.RowKit Go.Shelf

abbrev TS := List (List Int × List Int)
theorem infoo : (Try.prog.info? 24).map (fun i => (i.zero, i.size, i.bytes)) = some (some (.agg #[.int .i64 0, .slice none 0 0]), 2, 32) := by kernel_rfl
/-- The slice value v is a row of observations in blocks from b on, which the call may write. -/
def ObsL (w1 w : World) (i : Int) (b : Nat) (v : Value) (l : List TS) : Prop :=
  ∃ vs : List Value, w.ownsRow b 24 2 v l.length vs ∧ ∀ j, j < l.length → ∃ A c, vs[2 * j]? = some (.int .i64 i) ∧ vs[2 * j + 1]? = some (.slice A (l.getD j []).length c) ∧ TrsH w1 w b (.slice A (l.getD j []).length c) (l.getD j [])
theorem ObsL.nil (w1 w : World) (i : Int) (b : Nat) : ObsL w1 w i b (.slice none 0 0) [] := ⟨[], World.ownsRow_nil _ _ _ _, fun j h => absurd h (by simp)⟩
theorem ObsL.form {w1 w : World} {i : Int} {b : Nat} {v : Value} {l : List TS} (h : ObsL w1 w i b v l) : ∃ A c, v = .slice A l.length c := by
  obtain ⟨vs, h, _⟩ := h
  rcases h.2 with ⟨rfl, h0⟩ | ⟨g, cap, cur, rfl, _⟩
  · have : l.length = 0 := h0
    exact ⟨none, 0, by rw [this]⟩
  · exact ⟨_, _, rfl⟩
theorem ObsL.keptT {w1 w w' : World} {i : Int} {b : Nat} {v : Value} {l : List TS} (h : ObsL w1 w i b v l) (hk : KeptT 38 w w') (hl : KeptT 24 w w') : ObsL w1 w' i b v l := by
  obtain ⟨vs, h, hr⟩ := h
  refine ⟨vs, ⟨h.1, ?_⟩, fun j hj => ?_⟩
  · rcases h.2 with e | ⟨g, cap, cur, hv, hbg, hg, r⟩
    · exact .inl e
    · exact .inr ⟨g, cap, cur, hv, hbg, hl g cur hg, r⟩
  · obtain ⟨A, c, h1, h2, h3⟩ := hr j hj
    exact ⟨A, c, h1, h2, h3.keptT hk⟩
theorem ObsL.kept {w1 w w' : World} {i : Int} {b : Nat} {v : Value} {l : List TS} (h : ObsL w1 w i b v l) (hb : Below w.heap.size w w') : ObsL w1 w' i b v l := h.keptT (KeptT.of_below hb) (KeptT.of_below hb)
theorem ObsL.at_ {w1 w : World} {i : Int} {b : Nat} {A : Option Addr} {n c : Nat} {l : List TS} (h : ObsL w1 w i b (.slice A n c) l) {j : Nat} (hj : j < n) :
    n = l.length ∧ ∃ g A1 c1, A = some ⟨g, 0, none⟩ ∧ w.cell? ⟨g, j * 2, none⟩ = some (.int .i64 i) ∧ w.cell? ⟨g, j * 2 + 1, none⟩ = some (.slice A1 (l.getD j []).length c1) ∧ TrsH w1 w b (.slice A1 (l.getD j []).length c1) (l.getD j []) := by
  have hn : n = l.length := by obtain ⟨A', c', e⟩ := h.form; cases e; rfl
  refine ⟨hn, ?_⟩
  obtain ⟨vs, ho, hv⟩ := h
  obtain ⟨A1, c1, h1, h2, h3⟩ := hv j (by omega)
  rcases ho.2 with ⟨e, h0⟩ | ⟨g, cap, cur, e, _, hg, _⟩
  · cases e; omega
  · cases e
    have hl := ho.1
    refine ⟨g, A1, c1, rfl, ?_, ?_, h3⟩
    · rw [World.ownsRow.cellAt ho (j * 2) (by omega), Nat.mul_comm, h1]
    · rw [World.ownsRow.cellAt ho (j * 2 + 1) (by omega), Nat.mul_comm j 2, h2]
/-- append of observations to a row of observations. -/
theorem run_append_obs {w1 w : World} {i : Int} {b : Nat} {v : Value} {l : List TS} {A : Option Addr} {c : Nat} {P : TS} (h : ObsL w1 w i b v l) (hx : TrsH w1 w b (.slice A P.length c) P) (hbase : b ≤ w.heap.size) (hl : l.length < 1000000000) :
    ∃ A' c' w', (Builtin.append_ #[119, 119] 119 #[v, .slice (some ⟨w.heap.size, 0, none⟩) 1 1]).run Try.prog (w.alloc (.cells #[.int .i64 i, .slice A P.length c] 24)) = .ok (.slice A' (l.length + 1) c') w' ∧
      ObsL w1 w' i b (.slice A' (l.length + 1) c') (l ++ [P]) ∧ Below b w w' := by
  obtain ⟨ii, hi, hz0, hz1, hz2⟩ := info_parts infoo
  obtain ⟨vs, ho, hv⟩ := h
  have hbz := alloc_below w (.cells #[.int .i64 i, .slice A P.length c] 24)
  have ho1 : (w.alloc (.cells #[.int .i64 i, .slice A P.length c] 24)).ownsRow b 24 2 v l.length vs := by
    refine ⟨ho.1, ?_⟩
    rcases ho.2 with e | ⟨g, cap, cur, hv, hbg, hg, r⟩
    · exact .inl e
    · exact .inr ⟨g, cap, cur, hv, hbg, (hbz.block g (heap_lt hg)).trans hg, r⟩
  obtain ⟨v', w', hr, h1, h2, _, hmv⟩ := run_append_own_at (P := Try.prog) (w.alloc (.cells #[.int .i64 i, .slice A P.length c] 24)) b 119 119 24 ii _ 2 32 Try.underlying119 hi hz0 hz1 hz2 rfl (by decide) v _ _ ho1 ⟨w.heap.size, 0, none⟩ 1 1 [.int .i64 i, .slice A P.length c] (by simp)
    (by
      intro j u hu
      match j with
      | 0 =>
        simp at hu
        subst hu
        simp [Addr.add]
      | 1 =>
        simp at hu
        subst hu
        simp [Addr.add]
      | j + 2 => simp at hu)
    (by intro u hu; simp at hu; rcases hu with rfl | rfl <;> rfl) (by unfold maxLen; omega) (by omega) (Nat.le_trans hbase hbz.size)
  have hs : ∀ t, t ≠ 24 → KeptT t w w' := fun t ht => (KeptT.of_below hbz).trans (KeptT.grown h2 ho1 ht)
  have hform : ∃ A c, v' = .slice A (l.length + 1) c := by
    rcases h1.2 with ⟨rfl, h0⟩ | ⟨g, cap, cur, rfl, _⟩
    · have := h1.1; rw [h0] at this; simp at this
    · exact ⟨_, _, rfl⟩
  obtain ⟨A', c', rfl⟩ := hform
  refine ⟨A', c', w', hr, ⟨vs ++ [.int .i64 i, .slice A P.length c], by rw [List.length_append]; exact h1, fun j hj => ?_⟩, (hbz.mono hbase).trans ((Below.refl _ _).grown h2 (Nat.le_trans hbase hbz.size) (fun k hk => (World.ownsRow.lt ho1 k hk).1))⟩
  have hvl : vs.length = 2 * l.length := by have := ho.1; omega
  by_cases e : j < l.length
  · obtain ⟨A2, c2, h3, h4, h5⟩ := hv j e
    have hg : (l ++ [P]).getD j [] = l.getD j [] := by rw [List.getD_eq_getElem?_getD, List.getD_eq_getElem?_getD, List.getElem?_append_left e]
    rw [hg]
    exact ⟨A2, c2, by rw [List.getElem?_append_left (by omega)]; exact h3, by rw [List.getElem?_append_left (by omega)]; exact h4, h5.keptT (hs _ (by decide))⟩
  · have hjl : j = l.length := by simp at hj; omega
    subst hjl
    have hg : (l ++ [P]).getD l.length [] = P := by simp
    rw [hg]
    exact ⟨A, c, by rw [List.getElem?_append_right (by omega), hvl]; simp, by rw [List.getElem?_append_right (by omega), hvl, show 2 * l.length + 1 - 2 * l.length = 1 by omega]; rfl, hx.keptT (hs _ (by decide))⟩

theorem entL1 : ∀ args w, (callFunc 88 args).run Try.prog w = .ok (.enter 88 args) w := enters_of Try.func88 (by kernel_rfl) rfl

set_option linter.unusedSimpArgs false in
set_option linter.unusedVariables false in
set_option maxHeartbeats 2000000 in
set_option maxRecDepth 100000 in
theorem plow1 (i : Int) (A B : Option Addr) (Br c d : Nat) (P Q : TS) (W : World) (hm : Bx W Br #[.int .i64 i, .slice B Q.length d] 24) (hP : Trs W A P.length P) (hc : P.length ≤ c) (hQ : Trs W B Q.length Q) (hd : Q.length ≤ d)
    (h1 : Srt P ∧ Full P ∧ Cons P ∧ Props i P) (h2 : Srt Q ∧ Full Q ∧ Cons Q ∧ Props i Q) :
    Calls Try.prog 88 #[.agg #[.int .i64 i, .slice A P.length c], .pointer (some ⟨Br, 0, none⟩)] W fun e w' => e = .returned (.bool (!ctr P Q)) ∧ Below W.heap.size W w' := by
  obtain ⟨wa, hwa⟩ : ∃ wa, wa = W.alloc (.cells #[.int .i64 i, .slice A P.length c] 24) := ⟨_, rfl⟩
  have hal : Below W.heap.size W wa := by rw [hwa]; exact alloc_below _ _
  have hbx : Bx wa W.heap.size #[.int .i64 i, .slice A P.length c] 24 := by rw [hwa]; exact bx_new _ _ _
  have HCO := Lib.hid (pcontra i A B c d P Q wa (hP.below hal) hc (hQ.below hal) hd h1 h2)
  have HWA := Lib.hid hwa
  have HAL := Lib.hid hal
  have y0 := (hm.on hal).cell 0
  have y1 := (hm.on hal).cell 1
  have x0 := hbx.cell 0
  have x1 := hbx.cell 1
  simp at x0 x1 y0 y1
  rw [hwa] at x0 x1 y0 y1
  clear hwa hal hbx hm hP hQ h1 h2
  go_enter Try.func88, Try.ntmps88
  go_wp2_with fail
  rw [← HWA.out]
  refine HCO.out.mono ?_
  rintro r w5 ⟨rfl, hb5⟩
  have HB5 := Lib.hid (bt HAL.out hb5)
  clear hb5
  obtain ⟨y, hy⟩ : ∃ y, y = ctr P Q := ⟨_, rfl⟩
  rw [← hy]
  have HY := Lib.hid hy
  clear hy
  go_wp2
  go_ret
  exact ⟨by rw [← HY.out]; rfl, HB5.out⟩

set_option maxHeartbeats 1000000 in
set_option maxRecDepth 100000 in
theorem pidxO (g : Nat) (cap : Value) (pb : Nat → Bool) (w1 : World) (i0 : Int) (b : Nat) (A : Option Addr) (n c : Nat) (l : List TS) (w : World)
    (eg : ∀ args w, (callFunc g args).run Try.prog w = .ok (.enter g args) w) (h : ObsL w1 w i0 b (.slice A n c) l) (hn : n ≤ 1000000000)
    (hcmp : ∀ j, j < n → ∀ A1 c1 W, Below w.heap.size w W → TrsH w1 W b (.slice A1 (l.getD j []).length c1) (l.getD j []) → Calls Try.prog g #[.agg #[.int .i64 i0, .slice A1 (l.getD j []).length c1], cap] W fun e w' => e = .returned (.bool (pb j)) ∧ Below W.heap.size W w') :
    Calls Try.prog 115 #[.slice A n c, .func (.func g) #[] #[cap]] w fun e w' => ∃ i : Int, e = .returned (.int .i64 i) ∧ Hid (0 ≤ i ↔ ∃ j, j < n ∧ pb j = true) ∧ Below w.heap.size w w' := by
  have HT := Lib.hid h
  have HC := Lib.hid hcmp
  clear h hcmp
  go_enter Try.func115, Try.ntmps115
  go_wp2
  go_loopw [8] (fun v8 wr => ∃ k : Nat, k ≤ n ∧ v8 = .int .i64 k ∧ Hid (∀ j, j < k → pb j = false) ∧ Hid (Below w.heap.size w wr)) (fun v8 _ => n - (intOf v8).toNat)
  case atStart => exact ⟨0, Nat.zero_le _, rfl, Lib.hid (fun j hj => absurd hj (Nat.not_lt_zero j)), Lib.hid (Below.refl _ _)⟩
  case round =>
    obtain ⟨k, hk, rfl, HN, HB⟩ := hrel
    by_cases hlt : k < n
    · obtain ⟨gg, A1, c1, rfl, k1, k2, k3⟩ := ((HT.out.kept HB.out).at_ hlt).2
      have hc := HC.out k hlt A1 c1 wr HB.out k3
      obtain ⟨y, hy⟩ : ∃ y, y = pb k := ⟨_, rfl⟩
      rw [← hy] at hc
      have HY := Lib.hid hy
      obtain ⟨m, hm⟩ : ∃ m, m = (l.getD k []).length := ⟨_, rfl⟩
      rw [← hm] at k2 hc
      have HM := Lib.hid hm
      have HCA := Lib.hid hc
      clear hc hy k3 hm
      cases y
      · go_wp2_with (go_at_fn g; refine HCA.out.mono ?_; rintro e w' ⟨rfl, bb⟩)
        have HBB := Lib.hid (bt HB.out bb)
        clear bb
        go_roundw
        case rel => exact ⟨k + 1, by omega, by go_num, Lib.hid (fun j hj => by rcases Nat.lt_or_ge j k with h | h; exact HN.out j h; rw [show j = k by omega]; exact HY.out.symm), HBB⟩
        case measure => simp [intOf]; omega
      · go_wp2_with (go_at_fn g; refine HCA.out.mono ?_; rintro e w' ⟨rfl, bb⟩)
        have HBB := Lib.hid (bt HB.out bb)
        clear bb
        go_ret
        exact ⟨k, rfl, Lib.hid ⟨fun _ => ⟨k, hlt, HY.out.symm⟩, fun _ => Int.natCast_nonneg k⟩, HBB.out⟩
    · obtain rfl : k = n := by omega
      go_wp2
      go_ret
      exact ⟨-1, rfl, Lib.hid ⟨fun h => absurd h (by decide), fun ⟨j, h1, h2⟩ => by rw [HN.out j h1] at h2; cases h2⟩, HB.out⟩

set_option maxHeartbeats 1000000 in
set_option maxRecDepth 100000 in
theorem pcontO (g : Nat) (cap : Value) (pb : Nat → Bool) (r : Bool) (w1 : World) (i0 : Int) (b : Nat) (A : Option Addr) (n c : Nat) (l : List TS) (w : World)
    (eg : ∀ args w, (callFunc g args).run Try.prog w = .ok (.enter g args) w) (h : ObsL w1 w i0 b (.slice A n c) l) (hn : n ≤ 1000000000)
    (hcmp : ∀ j, j < n → ∀ A1 c1 W, Below w.heap.size w W → TrsH w1 W b (.slice A1 (l.getD j []).length c1) (l.getD j []) → Calls Try.prog g #[.agg #[.int .i64 i0, .slice A1 (l.getD j []).length c1], cap] W fun e w' => e = .returned (.bool (pb j)) ∧ Below W.heap.size W w')
    (hr : r = true ↔ ∃ j, j < n ∧ pb j = true) :
    Calls Try.prog 90 #[.slice A n c, .func (.func g) #[] #[cap]] w fun e w' => e = .returned (.bool r) ∧ Below w.heap.size w w' := by
  have HI := Lib.hid (pidxO g cap pb w1 i0 b A n c l w eg h hn hcmp)
  have HR := Lib.hid hr
  clear h hcmp hr
  go_enter Try.func90, Try.ntmps90
  go_wp2_with fail
  refine HI.out.mono ?_
  rintro e w' ⟨i, rfl, hi, hb⟩
  have HB := Lib.hid hb
  have HD := Lib.hid (show decide (0 ≤ i) = r by
    rw [Bool.eq_iff_iff, decide_eq_true_eq, hi.out, HR.out])
  clear hi hb
  go_wp2
  go_ret
  exact ⟨by rw [← HD.out]; rfl, HB.out⟩

/-- The words that Lower keeps of the first k. -/
noncomputable def kepK (ts : TS) (ws : List (List Int)) : Nat → List (List Int)
  | 0 => []
  | k + 1 => open Classical in if ∀ v, v ∈ kepK ts ws k → ctr (aftK ts v ts.length) (aftK ts (ws.getD k []) ts.length) = true then kepK ts ws k ++ [ws.getD k []] else kepK ts ws k
theorem kepK_yes {ts : TS} {ws : List (List Int)} {k : Nat} (h : ∀ v, v ∈ kepK ts ws k → ctr (aftK ts v ts.length) (aftK ts (ws.getD k []) ts.length) = true) : kepK ts ws (k + 1) = kepK ts ws k ++ [ws.getD k []] := by rw [kepK]; exact if_pos h
theorem kepK_no {ts : TS} {ws : List (List Int)} {k : Nat} (h : ¬ ∀ v, v ∈ kepK ts ws k → ctr (aftK ts v ts.length) (aftK ts (ws.getD k []) ts.length) = true) : kepK ts ws (k + 1) = kepK ts ws k := by rw [kepK]; exact if_neg h
theorem kepK_len (ts : TS) (ws : List (List Int)) (k : Nat) : (kepK ts ws k).length ≤ k := by
  induction k with
  | zero => simp [kepK]
  | succ k ih =>
    by_cases h : ∀ v, v ∈ kepK ts ws k → ctr (aftK ts v ts.length) (aftK ts (ws.getD k []) ts.length) = true
    · rw [kepK_yes h, List.length_append]; simp; omega
    · rw [kepK_no h]; omega
/-- What is observed after each of the words. -/
def afts (ts : TS) (l : List (List Int)) : List TS := l.map fun v => aftK ts v ts.length
theorem afts_len (ts : TS) (l : List (List Int)) : (afts ts l).length = l.length := by simp [afts]
theorem afts_at {ts : TS} {l : List (List Int)} {j : Nat} (hj : j < l.length) : (afts ts l).getD j [] = aftK ts (l.getD j []) ts.length := by
  unfold afts
  rw [List.getD_eq_getElem?_getD, List.getD_eq_getElem?_getD, List.getElem?_map, List.getElem?_eq_getElem hj]; rfl
theorem any_not {ts : TS} {l : List (List Int)} {Q : TS} : (∃ j, j < l.length ∧ (!ctr ((afts ts l).getD j []) Q) = true) ↔ ¬ ∀ v, v ∈ l → ctr (aftK ts v ts.length) Q = true := by
  constructor
  · rintro ⟨j, hj, h⟩ hall
    rw [afts_at hj] at h
    have := hall (l.getD j []) (by rw [List.getD_eq_getElem?_getD, List.getElem?_eq_getElem hj]; exact List.getElem_mem _)
    rw [this] at h; cases h
  · intro h
    rw [Classical.not_forall] at h
    obtain ⟨v, h⟩ := h
    rw [Classical.not_imp] at h
    obtain ⟨hv, h⟩ := h
    obtain ⟨j, hj, rfl⟩ := List.getElem_of_mem hv
    refine ⟨j, hj, ?_⟩
    rw [afts_at hj, List.getD_eq_getElem?_getD, List.getElem?_eq_getElem hj]
    simpa using h

set_option linter.unusedSimpArgs false in
set_option linter.unusedVariables false in
set_option maxHeartbeats 4000000 in
set_option maxRecDepth 100000 in
theorem plower (i : Int) (T C : Option Addr) (tn tc n cc : Nat) (ts : TS) (ws : List (List Int)) (w : World) (hT : Trs w T tn ts) (hW : Lists w C n ws) (hS : Srt ts) (hF : Full ts) (hC : Cons ts) (hI : Props i ts) (htn : tn ≤ 100000000) (hnn : n ≤ 100000000) :
    Calls Try.prog 50 #[.agg #[.int .i64 i, .slice T tn tc], .slice C n cc] w fun e w' => e = .returned (.int .i64 (kepK ts ws n).length) ∧ Below w.heap.size w w' := by
  have hlt := hT.1
  have HLT := Lib.hid hT.1
  have HLW := Lib.hid hW.1
  obtain ⟨w1, hw1⟩ : ∃ w1, w1 = w.alloc (.cells #[.int .i64 i, .slice T tn tc] 24) := ⟨_, rfl⟩
  have hb0 : Below w.heap.size w w1 := by rw [hw1]; exact alloc_below _ _
  have m0 : Bx w1 w.heap.size #[.int .i64 i, .slice T tn tc] 24 := by rw [hw1]; exact bx_new _ _ _
  have HS := Lib.hid (fun (W : World) (h : Below w1.heap.size w1 W) => m0.on h)
  have HT := Lib.hid (fun (W : World) (h : Below w1.heap.size w1 W) => (hT.below hb0).below h)
  have HW := Lib.hid (fun (W : World) (h : Below w1.heap.size w1 W) => (hW.below hb0).below h)
  have HB0 := Lib.hid hb0
  have HW1 := Lib.hid hw1
  have HPR := Lib.hid (show ∀ v, Srt (aftK ts v ts.length) ∧ Full (aftK ts v ts.length) ∧ Cons (aftK ts v ts.length) ∧ Props i (aftK ts v ts.length) from fun v => ⟨aftK_srt hS _ (Nat.le_refl _), aftK_full hF (Nat.le_refl _), aftK_cons hC (Nat.le_refl _), aftK_props hI (Nat.le_refl _)⟩)
  have HFF := Lib.hid hF
  have hN := hT.2.1
  clear hT hW hS hF hC hI hb0 m0 hw1 hlt
  go_enter Try.func50, Try.ntmps50
  go_wp2
  rw [← HW1.out]
  go_loopw [12, 5] (fun v12 v5 wr => ∃ (k : Nat) (A' : Option Addr) (c' : Nat), v12 = .int .i64 k ∧ k ≤ n ∧ v5 = .slice A' (kepK ts ws k).length c' ∧ Hid (ObsL w1 wr i w1.heap.size (.slice A' (kepK ts ws k).length c') (afts ts (kepK ts ws k))) ∧ Hid (Below w1.heap.size w1 wr)) (fun v12 _ _ => n - (intOf v12).toNat)
  case atStart => exact ⟨0, none, 0, rfl, Nat.zero_le _, rfl, Lib.hid (ObsL.nil _ _ _ _), Lib.hid (Below.refl _ _)⟩
  case round =>
    obtain ⟨k, A', c', rfl, hk, rfl, HO, HBR⟩ := hrel
    obtain ⟨L, hL⟩ : ∃ L, L = (kepK ts ws k).length := ⟨_, rfl⟩
    rw [← hL] at HO ⊢
    have hLk : L ≤ k := by rw [hL]; exact kepK_len _ _ _
    have HLL := Lib.hid hL
    clear hL
    by_cases hlt : k < n
    · obtain ⟨b, off, Aj, nj, cj, rfl, hgb, j1, j2⟩ := (HW.out _ HBR.out).at_ hlt
      obtain ⟨_, _, Bj, mj, dj, eC, _, i1, i2⟩ := (HW.out _ (Below.refl _ _)).at_ hlt
      cases eC
      have HI := Lib.hid (show Ints w1 Aj nj (ws.getD k []) by
        have e1 := (HBR.out.cell (p := ⟨b, off + k, none⟩) (by assumption)).trans i1
        rw [j1] at e1; cases e1; exact i2)
      have z0 := (HS.out _ HBR.out).cell 0
      have z1 := (HS.out _ HBR.out).cell 1
      simp at z0 z1
      clear i1 i2 j2 hgb
      obtain ⟨u, hu⟩ : ∃ u, u = ws.getD k [] := ⟨_, rfl⟩
      rw [← hu] at HI
      have HU := Lib.hid hu
      obtain ⟨Q, hQ⟩ : ∃ Q, Q = aftK ts u ts.length := ⟨_, rfl⟩
      have HQ := Lib.hid hQ
      have hQl : Q.length ≤ 100000000 := by have := aftK_len ts u ts.length; rw [← hQ, HLT.out] at this; omega
      clear hu hQ
      have haf := pafter22 i T Aj tn tc nj cj ts u w1 wr HBR.out (HT.out _ (Below.refl _ _)) HI.out HFF.out htn
      rw [show aftK ts u tn = Q by rw [HQ.out, HLT.out]] at haf
      have HAF := Lib.hid haf
      clear haf
      go_wp2_with fail
      refine HAF.out.mono ?_
      rintro r w5 ⟨A2, c2, rfl, hA, b5⟩
      have hA := hA.lower HBR.out.size
      obtain ⟨w6, hw6⟩ : ∃ w6, w6 = w5.alloc (.cells #[.int .i64 i, .slice A2 Q.length c2] 24) := ⟨_, rfl⟩
      have hb6 : Below w5.heap.size w5 w6 := by rw [hw6]; exact alloc_below _ _
      have m6 : Bx w6 w5.heap.size #[.int .i64 i, .slice A2 Q.length c2] 24 := by rw [hw6]; exact bx_new _ _ _
      have HW6 := Lib.hid hw6
      have hr6 := bt HBR.out (bt b5 hb6)
      have HR6 := Lib.hid hr6
      have HA6 := Lib.hid (hA.keptT (KeptT.of_below hb6))
      have HO6 := Lib.hid (HO.out.kept (bt b5 hb6))
      have hcap := hA.cap
      obtain ⟨kl, hkl⟩ : ∃ kl, kl = kepK ts ws k := ⟨_, rfl⟩
      have HKL := Lib.hid hkl
      have HLk := Lib.hid (show L = kl.length by rw [hkl]; exact HLL.out)
      have HAL := Lib.hid (show (afts ts kl).length = L by rw [afts_len, HLk.out])
      rw [← hkl] at HO6
      have HPQ : Hid (Srt Q ∧ Full Q ∧ Cons Q ∧ Props i Q) := Lib.hid (by rw [HQ.out]; exact HPR.out u)
      have HPJ := Lib.hid (show ∀ j, j < L → (Srt ((afts ts kl).getD j []) ∧ Full ((afts ts kl).getD j []) ∧ Cons ((afts ts kl).getD j []) ∧ Props i ((afts ts kl).getD j [])) ∧ ((afts ts kl).getD j []).length ≤ 17592186044416 from fun j hj => by
        rw [afts_at (by rw [← HLk.out]; exact hj)]
        refine ⟨HPR.out _, ?_⟩
        have := aftK_len ts (kl.getD j []) ts.length
        rw [HLT.out] at this ⊢
        omega)
      have HCMP := Lib.hid (show ∀ j, j < L → ∀ A1 c1 W, Below w6.heap.size w6 W → TrsH w1 W w1.heap.size (.slice A1 ((afts ts kl).getD j []).length c1) ((afts ts kl).getD j []) → Calls Try.prog 88 #[.agg #[.int .i64 i, .slice A1 ((afts ts kl).getD j []).length c1], .pointer (some ⟨w5.heap.size, 0, none⟩)] W fun e w' => e = .returned (.bool (!ctr ((afts ts kl).getD j []) Q)) ∧ Below W.heap.size W w' from
        fun j hj A1 c1 W hbW hTH => plow1 i A1 A2 w5.heap.size c1 c2 _ Q W (m6.on hbW) (hTH.trs (bt hr6 hbW) (HPJ.out j hj).2) hTH.cap ((HA6.out.trs hr6 (by omega)).below hbW) hcap (HPJ.out j hj).1 HPQ.out)
      by_cases hall : ∀ v, v ∈ kl → ctr (aftK ts v ts.length) Q = true
      · have HR := Lib.hid (show (false = true) ↔ ∃ j, j < L ∧ (fun j => !ctr ((afts ts kl).getD j []) Q) j = true from ⟨(fun h => nomatch h), fun h => absurd hall (any_not.1 (by rw [← HLk.out]; exact h))⟩)
        have HCF := Lib.hid (pcontO 88 (.pointer (some ⟨w5.heap.size, 0, none⟩)) (fun j => !ctr ((afts ts kl).getD j []) Q) false w1 i w1.heap.size A' L c' (afts ts kl) w6 entL1 HO6.out (by omega) HCMP.out HR.out)
        have HNX := Lib.hid (show kepK ts ws (k + 1) = kl ++ [u] by rw [kepK_yes, ← hkl, ← HU.out]; rw [← hkl, ← HU.out, ← HQ.out]; exact hall)
        have HM6 := Lib.hid m6
        clear hall m6 hr6 hA hb6 hw6 b5 hkl z0 z1
        go_wp2_with fail
        rw [← HW6.out]
        refine HCF.out.mono ?_
        rintro r w7 ⟨rfl, b7⟩
        have m7 := HM6.out.on b7
        have z0 := m7.cell 0
        have z1 := m7.cell 1
        simp at z0 z1
        have hO7 := HO6.out.kept b7
        have hA7 := HA6.out.keptT (KeptT.of_below b7)
        obtain ⟨A9, c9, w9, hrn, o9, b9⟩ := run_append_obs hO7 hA7 (bt HR6.out b7).size (by rw [HAL.out]; omega)
        rw [HAL.out] at hrn o9
        have HO9 := Lib.hid o9
        have HB9 := Lib.hid ((bt HR6.out b7).trans b9)
        have HEL := Lib.hid (show (kepK ts ws (k + 1)).length = L + 1 by rw [HNX.out, List.length_append, ← HLk.out]; rfl)
        have HEA := Lib.hid (show afts ts (kepK ts ws (k + 1)) = afts ts kl ++ [Q] by rw [HNX.out, HQ.out]; unfold afts; rw [List.map_append]; rfl)
        clear m7 hO7 hA7 o9 b9 b7
        go_wp2_with (at_builtin; refine Lib.wpList_append_run _ rfl _ _ _ _ rfl _ _ rfl rfl _ _ hrn ?_)
        go_roundw
        case rel => exact ⟨k + 1, A9, c9, by go_num, by omega, by rw [HEL.out], by rw [HEL.out, HEA.out]; exact HO9, HB9⟩
        case measure => simp [intOf]; omega
      · have HR := Lib.hid (show (true = true) ↔ ∃ j, j < L ∧ (fun j => !ctr ((afts ts kl).getD j []) Q) j = true from ⟨fun _ => by have := any_not.2 hall; rw [← HLk.out] at this; exact this, fun _ => rfl⟩)
        have HCF := Lib.hid (pcontO 88 (.pointer (some ⟨w5.heap.size, 0, none⟩)) (fun j => !ctr ((afts ts kl).getD j []) Q) true w1 i w1.heap.size A' L c' (afts ts kl) w6 entL1 HO6.out (by omega) HCMP.out HR.out)
        have HNX := Lib.hid (show kepK ts ws (k + 1) = kl by rw [kepK_no, ← hkl]; rw [← hkl, ← HU.out, ← HQ.out]; exact hall)
        clear hall m6 hr6 hA hb6 hw6 b5 hkl z0 z1
        go_wp2_with fail
        rw [← HW6.out]
        refine HCF.out.mono ?_
        rintro r w7 ⟨rfl, b7⟩
        have HO7 := Lib.hid (HO6.out.kept b7)
        have HB7 := Lib.hid (bt HR6.out b7)
        clear b7
        go_wp2_with fail
        go_roundw
        case rel => exact ⟨k + 1, A', c', by go_num, by omega, by rw [HNX.out, ← HLk.out], by rw [HNX.out, ← HLk.out]; exact HO7, HB7⟩
        case measure => simp [intOf]; omega
    · obtain rfl : k = n := by omega
      go_wp2
      go_ret
      exact ⟨by rw [← HLL.out]; rfl, bt HB0.out HBR.out⟩
end Go.Proofs.Ytkgdgnmobahhfaa
end

section
/- The search, step by step. -/
namespace Go.Proofs.Ytkgdgnmobahhfaa

/-- Which states a search has seen. -/
def seenOf (n : Nat) (l : List Nat) : List Bool := (List.range n).map fun x => decide (x ∈ l)
theorem seenOf_len (n : Nat) (l : List Nat) : (seenOf n l).length = n := by simp [seenOf]
theorem seenOf_at {n : Nat} {l : List Nat} {x : Nat} (hx : x < n) : (seenOf n l).getD x false = decide (x ∈ l) := by
  unfold seenOf; simp [List.getD, hx]
theorem seenOf_set {n : Nat} {l : List Nat} {x : Nat} : (seenOf n l).set x true = seenOf n (l ++ [x]) := by
  apply List.ext_getElem
  · simp [seenOf]
  · intro m h1 h2
    have hm : m < n := by simpa [seenOf] using h2
    rw [List.getElem_set]
    by_cases e : x = m
    · subst e; simp [seenOf]
    · rw [if_neg e]; simp [seenOf, show ¬ m = x from fun h => e h.symm]
theorem seenOf_nil (n : Nat) : seenOf n [] = List.replicate n false := by
  apply List.ext_getElem
  · simp [seenOf]
  · intro m h1 h2; simp [seenOf]

/-- A list of states as numbers. -/
def zs (l : List Nat) : List Int := l.map fun x : Nat => (x : Int)
theorem zs_len (l : List Nat) : (zs l).length = l.length := by simp [zs]
theorem zs_at (l : List Nat) (j : Nat) : (zs l).getD j 0 = ((l.getD j 0 : Nat) : Int) := by
  unfold zs
  rw [List.getD_eq_getElem?_getD, List.getD_eq_getElem?_getD, List.getElem?_map]
  cases l[j]? <;> rfl
theorem zs_append (l t : List Nat) : zs (l ++ t) = zs l ++ zs t := by simp [zs]
theorem zs_one (x : Nat) : zs [x] = [(x : Int)] := rfl
theorem zs_inj {l t : List Nat} (h : zs l = zs t) : l = t := by
  induction l generalizing t with
  | nil => cases t with
    | nil => rfl
    | cons => simp [zs] at h
  | cons x l ih => cases t with
    | nil => simp [zs] at h
    | cons y t =>
      simp only [zs, List.map_cons, List.cons.injEq] at h
      rw [ih (by simpa [zs] using h.2), show x = y by omega]
theorem mem_zs {l : List Nat} {x : Nat} : ((x : Int) ∈ zs l) ↔ x ∈ l := by
  simp only [zs, List.mem_map]
  exact ⟨fun ⟨a, h, e⟩ => by rw [show x = a by omega]; exact h, fun h => ⟨x, h, rfl⟩⟩

theorem addR_in {nx : List (List Int)} {s a : Nat} {l : List Nat} (h : nN nx s a ∈ addR nx s l a) : addR nx s l (a + 1) = addR nx s l a := by
  show addN _ _ = _; unfold addN; rw [if_pos h]
theorem addR_out {nx : List (List Int)} {s a : Nat} {l : List Nat} (h : ¬ nN nx s a ∈ addR nx s l a) : addR nx s l (a + 1) = addR nx s l a ++ [nN nx s a] := by
  show addN _ _ = _; unfold addN; rw [if_neg h]
theorem Stt.one {n s : Nat} (h : s < n) : Stt n [s] := ⟨by simp, fun x hx => by simp at hx; omega⟩
theorem addR_at {nx : List (List Int)} {s : Nat} {l : List Nat} {j : Nat} (h : j < l.length) (a : Nat) : (addR nx s l a).getD j 0 = l.getD j 0 := by
  obtain ⟨t, ht⟩ := addR_pre nx s l a
  rw [ht]; exact getD_pre h
theorem addR_len {nx : List (List Int)} {s : Nat} {l : List Nat} (a : Nat) : l.length ≤ (addR nx s l a).length := by
  obtain ⟨t, ht⟩ := addR_pre nx s l a
  rw [ht, List.length_append]; omega
end Go.Proofs.Ytkgdgnmobahhfaa
end

section
/- The trimmed machine. -/
namespace Go.Proofs.Ytkgdgnmobahhfaa

theorem addR_has {nx : List (List Int)} {s : Nat} {l : List Nat} : ∀ {b : Nat}, ∀ a, a < b → nN nx s a ∈ addR nx s l b
  | 0, a, h => absurd h (by omega)
  | b + 1, a, h => by
    by_cases e : a = b
    · subst e; exact mem_addN _ _
    · exact addN_mem (addR_has a (by omega))
theorem addR_mem {nx : List (List Int)} {s : Nat} {l : List Nat} {x : Nat} (h : x ∈ l) (a : Nat) : x ∈ addR nx s l a := by obtain ⟨t, ht⟩ := addR_pre nx s l a; rw [ht]; simp [h]

theorem bfs_closed {i st n : Nat} {nx ot : List (List Int)} (hM : Mok i st n nx ot) : ∀ (k : Nat) (l : List Nat) (j : Nat), Stt n l → n ≤ k + j → (∀ m, m < j → m < l.length → ∀ a, a < i → nN nx (l.getD m 0) a ∈ l) →
    Stt n (bfs nx i k l j) ∧ ∀ m, m < (bfs nx i k l j).length → ∀ a, a < i → nN nx ((bfs nx i k l j).getD m 0) a ∈ bfs nx i k l j
  | 0, l, j, hS, hk, h => ⟨hS, fun m hm a ha => h m (by have := hS.len; have hm : m < l.length := hm; omega) hm a ha⟩
  | k + 1, l, j, hS, hk, h => by
    by_cases hj : j < l.length
    · have e : bfs nx i (k + 1) l j = bfs nx i k (addR nx (l.getD j 0) l i) (j + 1) := by
        show (if j < l.length then _ else _) = _; rw [if_pos hj]
      rw [e]
      refine bfs_closed hM k _ _ (addR_stt hM hS (hS.2 _ (getD_mem hj)) i (Nat.le_refl _)) (by omega) fun m hm hml a ha => ?_
      by_cases e2 : m = j
      · subst e2; rw [addR_at hj]; exact addR_has a ha
      · rw [addR_at (by omega)]; exact addR_mem (h m (by omega) (by omega) a ha) i
    · rw [bfs_end nx i (k + 1) hj]
      exact ⟨hS, fun m hm a ha => h m (by omega) hm a ha⟩

theorem Mok.rch_stt {i st n : Nat} {nx ot : List (List Int)} (hM : Mok i st n nx ot) : Stt n (rch nx i st) :=
  (bfs_closed hM _ _ _ (Stt.one hM.st) (by rw [hM.nxl]; omega) (fun m hm => absurd hm (by omega))).1
theorem Mok.rch_in {i st n : Nat} {nx ot : List (List Int)} (hM : Mok i st n nx ot) {s a : Nat} (hs : s ∈ rch nx i st) (ha : a < i) : nN nx s a ∈ rch nx i st := by
  obtain ⟨m, hm, rfl⟩ := List.getElem_of_mem hs
  have := (bfs_closed hM nx.length [st] 0 (Stt.one hM.st) (by rw [hM.nxl]; omega) (fun m hm => absurd hm (by omega))).2 m hm a ha
  rw [show (bfs nx i nx.length [st] 0).getD m 0 = (rch nx i st)[m] by rw [List.getD_eq_getElem?_getD]; show (rch nx i st)[m]?.getD 0 = _; rw [List.getElem?_eq_getElem hm]; rfl] at this
  exact this
theorem rch_pre (nx : List (List Int)) (i st : Nat) : ∃ t, rch nx i st = st :: t := by
  obtain ⟨t, ht⟩ := bfs_pre nx i nx.length [st] 0
  exact ⟨t, ht⟩

/-- The place of a state. -/
def ixN (R : List Nat) (x : Nat) : Nat := R.idxOf x
theorem ixN_lt {R : List Nat} {x : Nat} (h : x ∈ R) : ixN R x < R.length := List.idxOf_lt_length_of_mem h
theorem ixN_at {R : List Nat} {x : Nat} (h : x ∈ R) : R.getD (ixN R x) 0 = x := by
  rw [List.getD_eq_getElem?_getD, List.getElem?_eq_getElem (ixN_lt h)]
  exact List.getElem_idxOf (ixN_lt h)
theorem ixN_of {R : List Nat} (hR : R.Nodup) {j : Nat} (hj : j < R.length) : ixN R (R.getD j 0) = j := by
  have hm : R.getD j 0 ∈ R := getD_mem hj
  have h1 := ixN_at hm
  have h2 := ixN_lt hm
  rw [List.getD_eq_getElem?_getD, List.getD_eq_getElem?_getD, List.getElem?_eq_getElem hj, List.getElem?_eq_getElem (by rw [List.getD_eq_getElem?_getD, List.getElem?_eq_getElem hj] at h2; exact h2)] at h1
  rw [List.getD_eq_getElem?_getD, List.getElem?_eq_getElem hj] at h2 ⊢
  exact (List.getElem_inj hR).1 h1

/-- The rows of the trimmed machine. -/
def trR (nx : List (List Int)) (i : Nat) (R : List Nat) (s : Nat) : List Int := (List.range i).map fun a => ((ixN R (nN nx s a) : Nat) : Int)
def trN (nx : List (List Int)) (i : Nat) (R : List Nat) : List (List Int) := R.map (trR nx i R)
def trO (ot : List (List Int)) (R : List Nat) : List (List Int) := R.map fun s => ot.getD s []
theorem trR_len (nx : List (List Int)) (i : Nat) (R : List Nat) (s : Nat) : (trR nx i R s).length = i := by simp [trR]
theorem trR_at {nx : List (List Int)} {i : Nat} {R : List Nat} {s a : Nat} (ha : a < i) : (trR nx i R s).getD a 0 = ((ixN R (nN nx s a) : Nat) : Int) := by
  unfold trR; simp [List.getD, ha]
/-- A row while it is renumbered. -/
def midR (nx : List (List Int)) (i : Nat) (R : List Nat) (s a : Nat) : List Int := (trR nx i R s).take a ++ (nx.getD s []).drop a
theorem midR_zero (nx : List (List Int)) (i : Nat) (R : List Nat) (s : Nat) : midR nx i R s 0 = nx.getD s [] := by simp [midR]
theorem midR_all {nx : List (List Int)} {i : Nat} {R : List Nat} {s : Nat} (h : (nx.getD s []).length = i) : midR nx i R s i = trR nx i R s := by
  unfold midR; rw [List.take_of_length_le (by rw [trR_len]; exact Nat.le_refl _), List.drop_eq_nil_of_le (by omega), List.append_nil]
theorem midR_len {nx : List (List Int)} {i : Nat} {R : List Nat} {s a : Nat} (h : (nx.getD s []).length = i) (ha : a ≤ i) : (midR nx i R s a).length = i := by
  unfold midR; rw [List.length_append, List.length_take, List.length_drop, trR_len, h]; omega
theorem midR_get {nx : List (List Int)} {i : Nat} {R : List Nat} {s a m : Nat} (ha : a ≤ i) : (midR nx i R s a)[m]? = if m < a then (trR nx i R s)[m]? else (nx.getD s [])[m]? := by
  unfold midR
  have hl : ((trR nx i R s).take a).length = a := by rw [List.length_take, trR_len]; omega
  by_cases h : m < a
  · rw [if_pos h, List.getElem?_append_left (by omega), List.getElem?_take, if_pos h]
  · rw [if_neg h, List.getElem?_append_right (by omega), List.getElem?_drop, hl, show a + (m - a) = m by omega]
theorem midR_at {nx : List (List Int)} {i : Nat} {R : List Nat} {s a : Nat} (ha : a < i) : (midR nx i R s a).getD a 0 = (nx.getD s []).getD a 0 := by
  rw [List.getD_eq_getElem?_getD, midR_get (by omega), if_neg (by omega), ← List.getD_eq_getElem?_getD]
theorem midR_set {nx : List (List Int)} {i : Nat} {R : List Nat} {s a : Nat} (h : (nx.getD s []).length = i) (ha : a < i) : (midR nx i R s a).set a ((ixN R (nN nx s a) : Nat) : Int) = midR nx i R s (a + 1) := by
  apply List.ext_getElem?
  intro m
  have ht : (trR nx i R s)[a]? = some ((ixN R (nN nx s a) : Nat) : Int) := by
    have := trR_at (nx := nx) (R := R) (s := s) ha
    rw [List.getD_eq_getElem?_getD, List.getElem?_eq_getElem (by rw [trR_len]; exact ha)] at this
    rw [List.getElem?_eq_getElem (by rw [trR_len]; exact ha)]
    exact congrArg some this
  rw [List.getElem?_set, midR_get (by omega), midR_get (by omega), midR_len h (by omega)]
  by_cases e : a = m
  · subst e
    rw [if_pos rfl, if_pos ha, if_pos (by omega), ht]
  · rw [if_neg e]
    by_cases e2 : m < a
    · rw [if_pos e2, if_pos (by omega)]
    · rw [if_neg e2, if_neg (by omega)]
theorem map_take_succ {α β : Type} (f : α → β) (l : List α) (d : α) {k : Nat} (h : k < l.length) : (l.take (k + 1)).map f = (l.take k).map f ++ [f (l.getD k d)] := by
  rw [List.take_succ_eq_append_getElem h, List.map_append, List.getD_eq_getElem?_getD, List.getElem?_eq_getElem h]; rfl
end Go.Proofs.Ytkgdgnmobahhfaa
end

section
/- What trimming keeps. -/
namespace Go.Proofs.Ytkgdgnmobahhfaa

section
variable {i st n : Nat} {nx ot : List (List Int)}

theorem tr_row {R : List Nat} {j : Nat} (hj : j < R.length) : (trN nx i R).getD j [] = trR nx i R (R.getD j 0) := by
  unfold trN; rw [List.getD_eq_getElem?_getD, List.getElem?_map, List.getElem?_eq_getElem hj, List.getD_eq_getElem?_getD, List.getElem?_eq_getElem hj]; rfl
theorem tr_out {R : List Nat} {j : Nat} (hj : j < R.length) : (trO ot R).getD j [] = ot.getD (R.getD j 0) [] := by
  unfold trO; rw [List.getD_eq_getElem?_getD, List.getElem?_map, List.getElem?_eq_getElem hj, List.getD_eq_getElem?_getD (l := R), List.getElem?_eq_getElem hj]; rfl
theorem tr_nN {R : List Nat} {j a : Nat} (hj : j < R.length) (ha : a < i) : nN (trN nx i R) j a = ixN R (nN nx (R.getD j 0) a) := by
  unfold nN; rw [tr_row hj, trR_at ha]; unfold nN; simp
theorem tr_oN {R : List Nat} {j a : Nat} (hj : j < R.length) : oN (trO ot R) j a = oN ot (R.getD j 0) a := by
  unfold oN; rw [tr_out hj]

theorem Mok.tr (hM : Mok i st n nx ot) : Mok i 0 (rch nx i st).length (trN nx i (rch nx i st)) (trO ot (rch nx i st)) := by
  have hs := hM.rch_stt
  have hl := hs.len
  have h0 : 0 < (rch nx i st).length := by obtain ⟨t, ht⟩ := rch_pre nx i st; rw [ht]; simp
  refine ⟨hM.i1, hM.i2, h0, by have := hM.n2; omega, h0, by simp [trN], by simp [trO], fun s h => ?_⟩
  have hm := getD_mem h
  have hr := hM.row _ (hs.2 _ hm)
  rw [tr_row h, tr_out h]
  refine ⟨trR_len _ _ _ _, hr.2.1, fun a ha => ?_⟩
  rw [trR_at ha]
  have := ixN_lt (hM.rch_in hm ha)
  exact ⟨by omega, by omega, (hr.2.2 a ha).2.2⟩

theorem tr_run (hM : Mok i st n nx ot) : ∀ (u : List Int) (s : Nat), s ∈ rch nx i st → (∀ x, x ∈ u → 0 ≤ x ∧ x < i) → runO (trN nx i (rch nx i st)) (trO ot (rch nx i st)) (ixN (rch nx i st) s) u = runO nx ot s u
  | [], _, _, _ => rfl
  | x :: u, s, hs, hu => by
    have hx := hu x (by simp)
    have ha : x.toNat < i := by omega
    show oN _ (ixN (rch nx i st) s) x.toNat :: runO _ _ (nN _ (ixN (rch nx i st) s) x.toNat) u = oN ot s x.toNat :: runO nx ot (nN nx s x.toNat) u
    rw [tr_oN (ixN_lt hs), tr_nN (ixN_lt hs) ha, ixN_at hs, tr_run hM u _ (hM.rch_in hs ha) fun y hy => hu y (by simp [hy])]

theorem ixN_st (nx : List (List Int)) (i st : Nat) : ixN (rch nx i st) st = 0 := by
  obtain ⟨t, ht⟩ := rch_pre nx i st
  rw [ht]; unfold ixN; simp
theorem st_mem (nx : List (List Int)) (i st : Nat) : st ∈ rch nx i st := by obtain ⟨t, ht⟩ := rch_pre nx i st; rw [ht]; simp

theorem addN_map {R : List Nat} {l : List Nat} {x : Nat} (hl : ∀ y, y ∈ l → y ∈ R) (hx : x ∈ R) : addN (l.map (ixN R)) (ixN R x) = (addN l x).map (ixN R) := by
  have h : ixN R x ∈ l.map (ixN R) ↔ x ∈ l := by
    rw [List.mem_map]
    constructor
    · rintro ⟨y, hy, e⟩
      have := congrArg (fun j => R.getD j 0) e
      simp only [ixN_at (hl y hy), ixN_at hx] at this
      rw [← this]; exact hy
    · intro h; exact ⟨x, h, rfl⟩
  unfold addN
  by_cases hm : x ∈ l
  · rw [if_pos (h.2 hm), if_pos hm]
  · rw [if_neg (fun H => hm (h.1 H)), if_neg hm, List.map_append]; rfl
theorem addN_sub {R l : List Nat} {x : Nat} (hl : ∀ y, y ∈ l → y ∈ R) (hx : x ∈ R) : ∀ y, y ∈ addN l x → y ∈ R := by
  unfold addN; split
  · exact hl
  · intro y hy; rw [List.mem_append] at hy
    rcases hy with hy | hy
    · exact hl y hy
    · simp at hy; subst hy; exact hx
theorem addR_map (hM : Mok i st n nx ot) {l : List Nat} {s : Nat} (hl : ∀ y, y ∈ l → y ∈ rch nx i st) (hs : s ∈ rch nx i st) : ∀ a, a ≤ i →
    addR (trN nx i (rch nx i st)) (ixN (rch nx i st) s) (l.map (ixN (rch nx i st))) a = (addR nx s l a).map (ixN (rch nx i st)) ∧ ∀ y, y ∈ addR nx s l a → y ∈ rch nx i st
  | 0, _ => ⟨rfl, hl⟩
  | a + 1, h => by
    obtain ⟨h1, h2⟩ := addR_map hM hl hs a (by omega)
    have hin := hM.rch_in hs (show a < i by omega)
    refine ⟨?_, addN_sub h2 hin⟩
    show addN (addR _ _ _ a) (nN _ _ a) = (addN _ _).map _
    rw [h1, tr_nN (ixN_lt hs) (by omega), ixN_at hs, addN_map h2 hin]
theorem bfs_map (hM : Mok i st n nx ot) : ∀ (k : Nat) (l : List Nat) (j : Nat), (∀ y, y ∈ l → y ∈ rch nx i st) →
    bfs (trN nx i (rch nx i st)) i k (l.map (ixN (rch nx i st))) j = (bfs nx i k l j).map (ixN (rch nx i st))
  | 0, _, _, _ => rfl
  | k + 1, l, j, hl => by
    show (if j < (l.map _).length then _ else _) = List.map _ (if j < l.length then _ else _)
    rw [List.length_map]
    by_cases hj : j < l.length
    · have hm := getD_mem hj
      obtain ⟨h1, h2⟩ := addR_map hM hl (hl _ hm) i (Nat.le_refl _)
      have e : (l.map (ixN (rch nx i st))).getD j 0 = ixN (rch nx i st) (l.getD j 0) := by
        rw [List.getD_eq_getElem?_getD, List.getElem?_map, List.getElem?_eq_getElem hj, List.getD_eq_getElem?_getD, List.getElem?_eq_getElem hj]; rfl
      rw [if_pos hj, if_pos hj, e, h1]
      exact bfs_map hM k _ _ h2
    · rw [if_neg hj, if_neg hj]

theorem bfs_more (hM : Mok i st n nx ot) {l : List Nat} {j : Nat} (h : Stt n l) : ∀ k, bfs nx i (n + k) l j = bfs nx i n l j
  | 0 => rfl
  | k + 1 => by rw [← Nat.add_assoc, bfs_fuel hM (n + k) l j h (by omega), bfs_more hM h k]

theorem map_ixN {R : List Nat} (hR : R.Nodup) : R.map (ixN R) = List.range R.length := by
  apply List.ext_getElem
  · simp
  · intro m h1 h2
    have hm : m < R.length := by simpa using h1
    rw [List.getElem_map, List.getElem_range]
    have := ixN_of hR hm
    rw [List.getD_eq_getElem?_getD, List.getElem?_eq_getElem hm] at this
    exact this

theorem tr_rch (hM : Mok i st n nx ot) : rch (trN nx i (rch nx i st)) i 0 = List.range (rch nx i st).length := by
  have hT := hM.tr
  have hl := hM.rch_stt.len
  have h := bfs_map hM nx.length [st] 0 (fun y hy => by simp at hy; subst hy; exact st_mem nx i y)
  rw [show [st].map (ixN (rch nx i st)) = [0] by show [ixN _ _] = _; rw [ixN_st]] at h
  show bfs _ i (trN nx i (rch nx i st)).length [0] 0 = _
  rw [hT.nxl]
  have hm := bfs_more hT (j := 0) (Stt.one hT.n1) (n - (rch nx i st).length)
  rw [show (rch nx i st).length + (n - (rch nx i st).length) = n by omega] at hm
  rw [← hm, ← hM.nxl, h]
  exact map_ixN hM.rch_stt.1

theorem ixN_range {k x : Nat} (h : x < k) : ixN (List.range k) x = x := by
  have hm : x ∈ List.range k := List.mem_range.2 h
  have h1 := ixN_at hm
  have h2 := ixN_lt hm
  rw [List.length_range] at h2
  rw [List.getD_eq_getElem?_getD, List.getElem?_eq_getElem (by rw [List.length_range]; exact h2), List.getElem_range] at h1
  exact h1
theorem getD_range {k j : Nat} (h : j < k) : (List.range k).getD j 0 = j := by
  rw [List.getD_eq_getElem?_getD, List.getElem?_eq_getElem (by rw [List.length_range]; exact h), List.getElem_range]; rfl

theorem tr_again (hM : Mok i st n nx ot) : trN (trN nx i (rch nx i st)) i (List.range (rch nx i st).length) = trN nx i (rch nx i st) := by
  have hT := hM.tr
  apply List.ext_getElem
  · simp [trN]
  · intro m h1 h2
    have hm : m < (rch nx i st).length := by simpa [trN] using h2
    have e1 := tr_row (nx := trN nx i (rch nx i st)) (i := i) (R := List.range (rch nx i st).length) (j := m) (by simpa using hm)
    have e2 := tr_row (nx := nx) (i := i) hm
    rw [List.getD_eq_getElem?_getD, List.getElem?_eq_getElem h1, getD_range hm] at e1
    rw [List.getD_eq_getElem?_getD, List.getElem?_eq_getElem h2] at e2
    have e1 : (trN (trN nx i (rch nx i st)) i (List.range (rch nx i st).length))[m] = _ := e1
    have e2 : (trN nx i (rch nx i st))[m] = _ := e2
    rw [e1, e2]
    unfold trR
    apply List.map_congr_left
    intro a ha
    have ha : a < i := List.mem_range.1 ha
    have hlt := hT.nN_lt hm ha
    rw [ixN_range hlt, tr_nN hm ha]
theorem tr_again_out (ot : List (List Int)) (R : List Nat) : trO (trO ot R) (List.range R.length) = trO ot R := by
  apply List.ext_getElem
  · simp [trO]
  · intro m h1 h2
    have hm : m < R.length := by simpa [trO] using h2
    have e1 := tr_out (ot := trO ot R) (R := List.range R.length) (j := m) (by simpa using hm)
    rw [List.getD_eq_getElem?_getD, List.getElem?_eq_getElem h1, getD_range hm, List.getD_eq_getElem?_getD, List.getElem?_eq_getElem h2] at e1
    exact e1
end
end Go.Proofs.Ytkgdgnmobahhfaa
end

section
/- A lower bound is not greater than the number of the states that are reached. No program. -/
namespace Go.Proofs.Ytkgdgnmobahhfaa

/-- The traces are those of a machine. -/
def OfM (i st : Nat) (nx ot : List (List Int)) (ts : List (List Int × List Int)) : Prop :=
  ∀ j, j < ts.length → tOut ts j = runO nx ot st (tIn ts j) ∧ ∀ x, x ∈ tIn ts j → 0 ≤ x ∧ x < (i : Int)

theorem runO_at (nx ot : List (List Int)) : ∀ (u : List Int) (s k : Nat), k < u.length → (runO nx ot s u).getD k 0 = oN ot (runS nx s (u.take k)) (u.getD k 0).toNat
  | [], _, _, h => by simp at h
  | x :: u, s, 0, _ => rfl
  | x :: u, s, k + 1, h => by
    have := runO_at nx ot u (nN nx s x.toNat) k (by simpa using h)
    simpa [runO, runS] using this
/-- Outputs of words with a common prefix. -/
theorem runO_pre (nx ot : List (List Int)) (s : Nat) {x a b : List Int} (ha : x <+: a) (hb : x <+: b) (h0 : 0 < x.length) : (runO nx ot s a).getD (x.length - 1) 0 = (runO nx ot s b).getD (x.length - 1) 0 := by
  obtain ⟨t, rfl⟩ := ha
  obtain ⟨u, rfl⟩ := hb
  rw [runO_append, runO_append]
  have hl := runO_len nx ot x s
  rw [List.getD_eq_getElem?_getD, List.getD_eq_getElem?_getD, List.getElem?_append_left (by omega), List.getElem?_append_left (by omega)]
/-- What is observed after a word, of a machine. -/
theorem aft_of {i st : Nat} {nx ot : List (List Int)} {ts : List (List Int × List Int)} {v : List Int} (h : OfM i st nx ot ts) {b : Nat} (hb : b < (aftK ts v ts.length).length) :
    tOut (aftK ts v ts.length) b = runO nx ot (runS nx st v) (tIn (aftK ts v ts.length) b) ∧ ∀ x, x ∈ v → 0 ≤ x ∧ x < (i : Int) := by
  obtain ⟨s, hs, hl, hc, e1, e2⟩ := aftK_at ts.length b hb
  obtain ⟨h1, h2⟩ := h s hs
  have hp := cut_pre hc
  constructor
  · rw [e2, e1, h1]
    conv => lhs; rw [← hp, runO_append]
    rw [List.drop_append_of_le_length (by rw [runO_len]; exact Nat.le_refl _), List.drop_of_length_le (by rw [runO_len]; exact Nat.le_refl _), List.nil_append]
  · intro x hx
    exact h2 x (by rw [← hp]; exact List.mem_append_left _ hx)
/-- Words that are apart lead to different states. -/
theorem ctr_state {i st : Nat} {nx ot : List (List Int)} {ts : List (List Int × List Int)} {v w : List Int} (h : OfM i st nx ot ts) (hc : ctr (aftK ts v ts.length) (aftK ts w ts.length) = true) :
    ¬ runS nx st v = runS nx st w ∧ (∀ x, x ∈ v → 0 ≤ x ∧ x < (i : Int)) ∧ ∀ x, x ∈ w → 0 ≤ x ∧ x < (i : Int) := by
  have : ∃ x, ShK (aftK ts v ts.length) (aftK ts w ts.length) (aftK ts v ts.length).length x := by
    simp only [ctr, decide_eq_true_eq] at hc
    exact hc
  obtain ⟨x, a, ha, hx, h0, b, hb, hy, hd⟩ := this
  obtain ⟨p1, p2⟩ := aft_of h ha
  obtain ⟨q1, q2⟩ := aft_of h hb
  refine ⟨fun e => hd ?_, p2, q2⟩
  rw [p1, q1, e]
  exact runO_pre nx ot _ hy hx h0
/-- The words that Lower keeps are apart. -/
theorem kep_pair {ts : List (List Int × List Int)} {ws : List (List Int)} (k : Nat) : (kepK ts ws k).Pairwise fun v w => ctr (aftK ts v ts.length) (aftK ts w ts.length) = true := by
  induction k with
  | zero => exact List.Pairwise.nil
  | succ k ih =>
    by_cases h : ∀ v, v ∈ kepK ts ws k → ctr (aftK ts v ts.length) (aftK ts (ws.getD k []) ts.length) = true
    · rw [kepK_yes h, List.pairwise_append]
      exact ⟨ih, List.pairwise_singleton _ _, fun v hv w hw => by simp at hw; rw [hw]; exact h v hv⟩
    · rw [kepK_no h]
      exact ih
theorem nd_le : ∀ {a b : List Nat}, a.Nodup → (∀ x, x ∈ a → x ∈ b) → a.length ≤ b.length
  | [], _, _, _ => by simp
  | x :: a, b, ha, h => by
    rw [List.nodup_cons] at ha
    have hx := h x (by simp)
    have := nd_le (a := a) (b := b.erase x) ha.2 (fun y hy => (List.mem_erase_of_ne (fun e => ha.1 (by rw [← e]; exact hy))).2 (h y (by simp [hy])))
    rw [List.length_erase_of_mem hx] at this
    have hp := List.length_pos_of_mem hx
    simp
    omega
theorem run_in {i st n : Nat} {nx ot : List (List Int)} (hM : Mok i st n nx ot) : ∀ (u : List Int) (q : Nat), q ∈ rch nx i st → (∀ x, x ∈ u → 0 ≤ x ∧ x < (i : Int)) → runS nx q u ∈ rch nx i st
  | [], _, h, _ => h
  | x :: u, q, h, hu => by
    have hx := hu x (by simp)
    have ha : x.toNat < i := by omega
    exact run_in hM u _ (hM.rch_in h ha) (fun y hy => hu y (by simp [hy]))
/-- A lower bound is not greater than the number of states. -/
theorem low_le {i st n : Nat} {nx ot : List (List Int)} {ts : List (List Int × List Int)} {ws : List (List Int)} (hM : Mok i st n nx ot) (h : OfM i st nx ot ts) (k : Nat) : (kepK ts ws k).length ≤ (rch nx i st).length := by
  have hp := kep_pair (ts := ts) (ws := ws) k
  have h1 : 0 < (rch nx i st).length := List.length_pos_of_mem (st_mem nx i st)
  by_cases h2 : (kepK ts ws k).length ≤ 1
  · omega
  · obtain ⟨l, hl⟩ : ∃ l, l = kepK ts ws k := ⟨_, rfl⟩
    rw [← hl] at hp h2 ⊢
    have hnd : (l.map (runS nx st)).Nodup := by
      rw [List.nodup_iff_pairwise_ne, List.pairwise_map]
      exact hp.imp fun {a b} hc => (ctr_state h hc).1
    have hin : ∀ q, q ∈ l.map (runS nx st) → q ∈ rch nx i st := by
      intro q hq
      obtain ⟨v, hv, rfl⟩ := List.mem_map.1 hq
      refine run_in hM v st (st_mem nx i st) ?_
      cases l with
      | nil => simp at hv
      | cons a l1 =>
        cases l1 with
        | nil => simp at h2
        | cons b t =>
          rw [List.pairwise_cons] at hp
          rcases List.mem_cons.1 hv with e | hv
          · rw [e]; exact (ctr_state h (hp.1 b (by simp))).2.1
          · exact (ctr_state h (hp.1 v hv)).2.2
    have := nd_le hnd hin
    rwa [List.length_map] at this
end Go.Proofs.Ytkgdgnmobahhfaa
end

section
/- What shows that words are apart, step by step, as the reference finds it. No program. -/
namespace Go.Proofs.Ytkgdgnmobahhfaa

/-- The first m symbols of X behind vs are answered, and as Y says. -/
def Agr (ts : List (List Int × List Int)) (vs X Y : List Int) (m : Nat) : Prop :=
  ∀ j, j < m → ∃ a, a < ts.length ∧ cmn (tIn ts a) (vs ++ X.take (j + 1)) = (vs ++ X.take (j + 1)).length ∧ (tOut ts a).getD (vs.length + j) 0 = Y.getD j 0
theorem sh1_of {ts : List (List Int × List Int)} {vs X Y x : List Int} (h : Sh1 (aftK ts vs ts.length) X Y x) :
    ∃ s, s < ts.length ∧ 0 < x.length ∧ x = X.take x.length ∧ x.length ≤ X.length ∧ cmn (tIn ts s) (vs ++ x) = (vs ++ x).length ∧ ¬ (tOut ts s).getD (vs.length + (x.length - 1)) 0 = Y.getD (x.length - 1) 0 := by
  obtain ⟨h1, h2, b, hb, h3, h4⟩ := h
  obtain ⟨s, hs, hl, hc, e1, e2⟩ := aftK_at ts.length b hb
  rw [e1] at h3
  rw [e2, getD_drop] at h4
  refine ⟨s, hs, h2, List.prefix_iff_eq_take.1 h1, h1.length_le, ?_, h4⟩
  have := cut_pre hc
  rw [← pre_cmn', ← this]
  exact (List.prefix_append_right_inj vs).2 h3
theorem pre_tk {x y z : List Int} (h : cmn z y = y.length) (hx : x <+: y) : cmn z x = x.length := pre_cmn'.1 (hx.trans (pre_cmn'.2 h))
theorem tk_pre {vs X : List Int} {a b : Nat} (h : a ≤ b) : vs ++ X.take a <+: vs ++ X.take b := (List.prefix_append_right_inj vs).2 (by
  have e : (X.take b).take a = X.take a := by rw [List.take_take, Nat.min_eq_left h]
  rw [← e]
  exact List.take_prefix _ _)
/-- What agrees shows nothing. -/
theorem agr_no {ts : List (List Int × List Int)} {vs X Y x : List Int} {m : Nat} (hC : Cons ts) (hA : Agr ts vs X Y m) (h : Sh1 (aftK ts vs ts.length) X Y x) : m < x.length := by
  obtain ⟨s, hs, h0, hx, hl, hc, hd⟩ := sh1_of h
  by_cases hm : m < x.length
  · exact hm
  · exfalso
    obtain ⟨a, ha, hca, he⟩ := hA (x.length - 1) (by omega)
    rw [show x.length - 1 + 1 = x.length by omega, ← hx] at hca
    refine hd ?_
    rw [← he]
    refine (hC s a hs ha _ ?_)
    have := pre_min (pre_cmn'.2 hc) (pre_cmn'.2 hca)
    rw [List.length_append] at this
    omega
theorem ans_none {ts : List (List Int × List Int)} {vs X Y x : List Int} {m : Nat} (hC : Cons ts) (hA : Agr ts vs X Y m) (hn : ∀ a, a < ts.length → ¬ cmn (tIn ts a) (vs ++ X.take (m + 1)) = (vs ++ X.take (m + 1)).length) : ¬ Sh1 (aftK ts vs ts.length) X Y x := fun h => by
  have hm := agr_no hC hA h
  obtain ⟨s, hs, h0, hx, hl, hc, hd⟩ := sh1_of h
  refine hn s hs (pre_tk hc ?_)
  rw [hx]
  exact tk_pre (by omega)
theorem ans_diff {ts : List (List Int × List Int)} {vs X Y : List Int} {m a : Nat} (hm : m < X.length) (ha : a < ts.length) (hc : cmn (tIn ts a) (vs ++ X.take (m + 1)) = (vs ++ X.take (m + 1)).length) (hd : ¬ (tOut ts a).getD (vs.length + m) 0 = Y.getD m 0) :
    Sh1 (aftK ts vs ts.length) X Y (X.take (m + 1)) := by
  have hl : (X.take (m + 1)).length = m + 1 := by rw [List.length_take]; omega
  have p := pre_cmn'.2 hc
  have pv : cmn (tIn ts a) vs = vs.length := pre_tk hc (List.prefix_append _ _)
  have hlt : vs.length < (tIn ts a).length := by
    have := p.length_le
    rw [List.length_append, hl] at this
    omega
  obtain ⟨j, hj, e1, e2⟩ := aftK_has ha hlt pv
  refine ⟨List.take_prefix _ _, by omega, j, hj, ?_, ?_⟩
  · rw [e1]
    have := cut_pre pv
    rw [← this] at p
    exact (List.prefix_append_right_inj vs).1 p
  · rw [e2, getD_drop, hl]
    exact hd
theorem Agr.zero (ts : List (List Int × List Int)) (vs X Y : List Int) : Agr ts vs X Y 0 := fun j h => absurd h (Nat.not_lt_zero j)
theorem Agr.step {ts : List (List Int × List Int)} {vs X Y : List Int} {m a : Nat} (h : Agr ts vs X Y m) (ha : a < ts.length) (hc : cmn (tIn ts a) (vs ++ X.take (m + 1)) = (vs ++ X.take (m + 1)).length) (hd : (tOut ts a).getD (vs.length + m) 0 = Y.getD m 0) : Agr ts vs X Y (m + 1) := fun j hj => by
  by_cases e : j = m
  · rw [e]; exact ⟨a, ha, hc, hd⟩
  · exact h j (by omega)
/-- Traces of the first words. -/
theorem shk_left {P Q : List (List Int × List Int)} {t : List Int × List Int} (x : List Int) : ShK (P ++ [t]) Q P.length x ↔ ShK P Q P.length x := by
  constructor
  · rintro ⟨a, ha, h⟩
    rw [tIn_left ha, tOut_left ha] at h
    exact ⟨a, ha, h⟩
  · rintro ⟨a, ha, h⟩
    refine ⟨a, ha, ?_⟩
    rw [tIn_left ha, tOut_left ha]
    exact h
theorem fst_left {P Q : List (List Int × List Int)} {t : List Int × List Int} {o : List Int} (h : Fst1 (ShK P Q P.length) o) : Fst1 (ShK (P ++ [t]) Q P.length) o := h.congr fun x => (shk_left x).symm
end Go.Proofs.Ytkgdgnmobahhfaa
end

section
/- Observations of a machine: one trace more or less; the answers behind words that are apart. No program. -/
namespace Go.Proofs.Ytkgdgnmobahhfaa

section
variable {i st : Nat} {nx ot : List (List Int)} {ts : List (List Int × List Int)}

theorem tr_mem {ts : List (List Int × List Int)} {q : List Int → List Int → Prop} : (∀ j, j < ts.length → q (tIn ts j) (tOut ts j)) ↔ ∀ t, t ∈ ts → q t.1 t.2 := by
  constructor
  · intro h t ht
    obtain ⟨j, hj, e⟩ := List.mem_iff_getElem.1 ht
    have := h j hj
    unfold tIn tOut at this
    rw [List.getD_eq_getElem?_getD, List.getElem?_eq_getElem hj] at this
    rw [← e]
    exact this
  · intro h j hj
    unfold tIn tOut
    rw [List.getD_eq_getElem?_getD, List.getElem?_eq_getElem hj]
    exact h _ (List.getElem_mem _)
theorem tr_ins {ts : List (List Int × List Int)} {q : List Int → List Int → Prop} (h : ∀ j, j < ts.length → q (tIn ts j) (tOut ts j)) {xs ys : List Int} (hx : q xs ys) (p : Nat) :
    ∀ j, j < (ts.take p ++ (xs, ys) :: ts.drop p).length → q (tIn (ts.take p ++ (xs, ys) :: ts.drop p) j) (tOut (ts.take p ++ (xs, ys) :: ts.drop p) j) := by
  rw [tr_mem] at h ⊢
  intro t ht
  rcases List.mem_append.1 ht with ht | ht
  · exact h t (List.mem_of_mem_take ht)
  · rcases List.mem_cons.1 ht with rfl | ht
    · exact hx
    · exact h t (List.mem_of_mem_drop ht)
theorem tr_del {ts : List (List Int × List Int)} {q : List Int → List Int → Prop} (h : ∀ j, j < ts.length → q (tIn ts j) (tOut ts j)) (b : Nat) : ∀ j, j < (ts.eraseIdx b).length → q (tIn (ts.eraseIdx b) j) (tOut (ts.eraseIdx b) j) := by
  rw [tr_mem] at h ⊢
  exact fun t ht => h t (List.mem_of_mem_eraseIdx ht)
theorem srt_pw {ts : List (List Int × List Int)} : Srt ts ↔ ts.Pairwise fun a b => shlex a.1 b.1 < 0 := by
  rw [List.pairwise_iff_getElem]
  have e : ∀ j (hj : j < ts.length), tIn ts j = (ts[j]).1 := fun j hj => by unfold tIn; rw [List.getD_eq_getElem?_getD, List.getElem?_eq_getElem hj]; rfl
  constructor
  · intro h a b ha hb hab
    rw [← e a ha, ← e b hb]
    exact h a b hab hb
  · intro h a b hab hb
    rw [e a (by omega), e b hb]
    exact h a b (by omega) hb hab
theorem srt_del {ts : List (List Int × List Int)} (h : Srt ts) (b : Nat) : Srt (ts.eraseIdx b) := by
  rw [srt_pw] at h ⊢
  exact h.sublist (List.eraseIdx_sublist _ _)
/-- A trace at its place. -/
theorem srt_ins {ts : List (List Int × List Int)} (h : Srt ts) {xs ys : List Int} {p : Nat} (h1 : ∀ j, j < p → j < ts.length → shlex (tIn ts j) xs < 0) (h2 : ∀ j, p ≤ j → j < ts.length → shlex xs (tIn ts j) < 0) : Srt (ts.take p ++ (xs, ys) :: ts.drop p) := by
  have e : ∀ j (hj : j < ts.length), tIn ts j = (ts[j]).1 := fun j hj => by unfold tIn; rw [List.getD_eq_getElem?_getD, List.getElem?_eq_getElem hj]; rfl
  have b1 : ∀ t, t ∈ ts.take p → shlex t.1 xs < 0 := fun t ht => by
    obtain ⟨j, hj, e1⟩ := List.mem_iff_getElem.1 ht
    rw [List.length_take] at hj
    rw [List.getElem_take] at e1
    have := h1 j (by omega) (by omega)
    rw [e j (by omega), e1] at this
    exact this
  have b2 : ∀ t, t ∈ ts.drop p → shlex xs t.1 < 0 := fun t ht => by
    obtain ⟨j, hj, e1⟩ := List.mem_iff_getElem.1 ht
    rw [List.length_drop] at hj
    rw [List.getElem_drop] at e1
    have := h2 (p + j) (by omega) (by omega)
    rw [e (p + j) (by omega), e1] at this
    exact this
  rw [srt_pw] at h ⊢
  have hs := h
  rw [← List.take_append_drop p ts, List.pairwise_append] at hs
  rw [List.pairwise_append, List.pairwise_cons]
  exact ⟨hs.1, ⟨b2, hs.2.1⟩, fun a ha b hb => by
    rcases List.mem_cons.1 hb with rfl | hb
    · exact b1 a ha
    · exact hs.2.2 a ha b hb⟩
/-- Traces of a machine agree with it as far as words are alike. -/
theorem of_agree (h : OfM i st nx ot ts) {b : Nat} (hb : b < ts.length) {xs : List Int} {j : Nat} (hj : j < cmn (tIn ts b) xs) : (tOut ts b).getD j 0 = (runO nx ot st xs).getD j 0 := by
  rw [(h b hb).1]
  have p1 : (xs.take (j + 1)) <+: tIn ts b := pre_take (by rw [cmn_comm]; omega)
  have p2 : (xs.take (j + 1)) <+: xs := List.take_prefix _ _
  have hl : (xs.take (j + 1)).length = j + 1 := by
    have := cmn_le_left xs (tIn ts b)
    rw [cmn_comm] at this
    rw [List.length_take]
    omega
  have := runO_pre nx ot st p1 p2 (by omega)
  rw [hl] at this
  exact this
theorem of_full (h : OfM i st nx ot ts) : Full ts := fun j hj => by rw [(h j hj).1, runO_len]
theorem of_cons (h : OfM i st nx ot ts) : Cons ts := fun a b ha hb j hj => by
  rw [of_agree h ha hj, (h b hb).1]
/-- The answer to a word that is known. -/
theorem of_take (h : OfM i st nx ot ts) {b : Nat} (hb : b < ts.length) {ws : List Int} (hc : cmn (tIn ts b) ws = ws.length) : (tOut ts b).take ws.length = runO nx ot st ws := by
  obtain ⟨t, ht⟩ := pre_cmn'.2 hc
  rw [(h b hb).1, ← ht, runO_append, List.take_append_of_le_length (by rw [runO_len]; exact Nat.le_refl _), List.take_of_length_le (by rw [runO_len]; exact Nat.le_refl _)]
/-- Behind words that are apart, both answers are known, and their last outputs differ. -/
theorem apart_known (h : OfM i st nx ot ts) {v w x : List Int} (hx : ShK (aftK ts v ts.length) (aftK ts w ts.length) (aftK ts v ts.length).length x) :
    0 < x.length ∧ knw ts (v ++ x) ts.length = (v ++ x).length ∧ knw ts (w ++ x) ts.length = (w ++ x).length ∧
      ¬ (runO nx ot st (v ++ x)).getD (v.length + (x.length - 1)) 0 = (runO nx ot st (w ++ x)).getD (w.length + (x.length - 1)) 0 := by
  have hsw := (shk_comm _ _ x).1 hx
  obtain ⟨a, ha, hx1, h0, b, hb, hy1, hd⟩ := hx
  have known : ∀ u {c : Nat}, c < (aftK ts u ts.length).length → x <+: tIn (aftK ts u ts.length) c → knw ts (u ++ x) ts.length = (u ++ x).length := by
    intro u c hc hp
    obtain ⟨s, hs, hl, hcm, e1, e2⟩ := aftK_at ts.length c hc
    rw [e1] at hp
    have hpre := cut_pre hcm
    have p : u ++ x <+: tIn ts s := by rw [← hpre]; exact (List.prefix_append_right_inj u).2 hp
    have g := knw_ge (ts := ts) (w := u ++ x) hs
    rw [pre_cmn'.1 p] at g
    exact Nat.le_antisymm knw_le g
  refine ⟨h0, known v ha hx1, known w hb hy1, fun e => hd ?_⟩
  rw [(aft_of h ha).1, (aft_of h hb).1]
  have r1 := runO_pre nx ot (runS nx st v) (List.prefix_refl x) hx1 h0
  have r2 := runO_pre nx ot (runS nx st w) (List.prefix_refl x) hy1 h0
  have g : ∀ u, (runO nx ot st (u ++ x)).getD (u.length + (x.length - 1)) 0 = (runO nx ot (runS nx st u) x).getD (x.length - 1) 0 := fun u => by
    rw [runO_append, List.getD_eq_getElem?_getD, List.getD_eq_getElem?_getD, List.getElem?_append_right (by rw [runO_len]; omega), runO_len, Nat.add_sub_cancel_left]
  rw [g, g] at e
  rw [← r1, ← r2]
  exact e.symm
end
end Go.Proofs.Ytkgdgnmobahhfaa
end

section
/- Adding a trace: what insert does, as a relation. No program. -/
namespace Go.Proofs.Ytkgdgnmobahhfaa

/-- The traces without the one that is a beginning of the new one. -/
def InsD (ts : List (List Int × List Int)) (best K : Nat) : List (List Int × List Int) := if 0 < K ∧ K = (tIn ts best).length then ts.eraseIdx best else ts
/-- What adding the trace xs / ys to ts gives: the error e, and ts' without an error. -/
def InsR (ts : List (List Int × List Int)) (xs ys : List Int) (i e : Int) (ts' : List (List Int × List Int)) : Prop :=
  ∃ best, Got ts xs best (knw ts xs ts.length) ∧
    ((¬ prpE xs ys i = 0 ∧ e = prpE xs ys i) ∨
     (prpE xs ys i = 0 ∧ agrN ts best (knw ts xs ts.length) ys < knw ts xs ts.length ∧ e = 13) ∨
     (prpE xs ys i = 0 ∧ agrN ts best (knw ts xs ts.length) ys = knw ts xs ts.length ∧ knw ts xs ts.length = xs.length ∧ e = 0 ∧ ts' = ts) ∨
     (prpE xs ys i = 0 ∧ agrN ts best (knw ts xs ts.length) ys = knw ts xs ts.length ∧ knw ts xs ts.length < xs.length ∧ 10000 ≤ (InsD ts best (knw ts xs ts.length)).length ∧ e = 11) ∨
     (prpE xs ys i = 0 ∧ agrN ts best (knw ts xs ts.length) ys = knw ts xs ts.length ∧ knw ts xs ts.length < xs.length ∧ (InsD ts best (knw ts xs ts.length)).length < 10000 ∧ e = 0 ∧
       ∃ p, p ≤ (InsD ts best (knw ts xs ts.length)).length ∧ (∀ j, j < p → shlex (tIn (InsD ts best (knw ts xs ts.length)) j) xs < 0) ∧ (∀ j, p ≤ j → j < (InsD ts best (knw ts xs ts.length)).length → 0 ≤ shlex (tIn (InsD ts best (knw ts xs ts.length)) j) xs) ∧
         ts' = (InsD ts best (knw ts xs ts.length)).take p ++ (xs, ys) :: (InsD ts best (knw ts xs ts.length)).drop p))

section
variable {ts ts' : List (List Int × List Int)} {xs ys : List Int} {i e : Int}

theorem InsD.len_le (ts : List (List Int × List Int)) (best K : Nat) : (InsD ts best K).length ≤ ts.length := by
  unfold InsD
  split
  · exact List.length_eraseIdx_le _ _
  · exact Nat.le_refl _
theorem InsD.all {q : List Int → List Int → Prop} (h : ∀ j, j < ts.length → q (tIn ts j) (tOut ts j)) (best K : Nat) : ∀ j, j < (InsD ts best K).length → q (tIn (InsD ts best K) j) (tOut (InsD ts best K) j) := by
  unfold InsD
  split
  · exact tr_del h _
  · exact h
theorem InsD.srt (h : Srt ts) (best K : Nat) : Srt (InsD ts best K) := by
  unfold InsD
  split
  · exact srt_del h _
  · exact h
theorem InsR.all {q : List Int → List Int → Prop} (hr : InsR ts xs ys i 0 ts') (h : ∀ j, j < ts.length → q (tIn ts j) (tOut ts j)) (hx : prpE xs ys i = 0 → q xs ys) : ∀ j, j < ts'.length → q (tIn ts' j) (tOut ts' j) := by
  obtain ⟨best, _, hr⟩ := hr
  rcases hr with ⟨h1, h2⟩ | ⟨_, _, h2⟩ | ⟨_, _, _, _, rfl⟩ | ⟨_, _, _, _, h2⟩ | ⟨h1, _, _, _, _, p, _, _, _, rfl⟩
  · exact absurd h2.symm h1
  · omega
  · exact h
  · omega
  · exact tr_ins (InsD.all h _ _) (hx h1) p
theorem InsR.prp (hr : InsR ts xs ys i 0 ts') : prpE xs ys i = 0 := by
  obtain ⟨best, _, hr⟩ := hr
  rcases hr with ⟨h1, h2⟩ | ⟨h1, _⟩ | ⟨h1, _⟩ | ⟨h1, _⟩ | ⟨h1, _⟩
  · exact h2.symm
  all_goals exact h1
theorem knw_lt_ne {j : Nat} (hj : j < ts.length) (h : knw ts xs ts.length < xs.length) : ¬ tIn ts j = xs := fun e => by
  have := knw_ge (ts := ts) (w := xs) hj
  rw [e, (cmn_full (xs := xs) (ys := xs) rfl).2 rfl] at this
  omega
theorem InsR.srt (hr : InsR ts xs ys i 0 ts') (hS : Srt ts) : Srt ts' := by
  obtain ⟨best, _, hr⟩ := hr
  rcases hr with ⟨h1, h2⟩ | ⟨_, _, h2⟩ | ⟨_, _, _, _, rfl⟩ | ⟨_, _, _, _, h2⟩ | ⟨h1, _, hlt, _, _, p, hp, hlo, hhi, rfl⟩
  · exact absurd h2.symm h1
  · omega
  · exact hS
  · omega
  · refine srt_ins (InsD.srt hS _ _) (fun j hj _ => hlo j hj) (fun j h1 h2 => ?_)
    refine shlex_gt' (by have := hhi j h1 h2; omega) ?_
    exact InsD.all (q := fun a _ => ¬ a = xs) (fun j hj => knw_lt_ne hj hlt) _ _ j h2
theorem InsR.len (hr : InsR ts xs ys i 0 ts') : ts'.length ≤ ts.length + 1 := by
  obtain ⟨best, _, hr⟩ := hr
  rcases hr with ⟨h1, h2⟩ | ⟨_, _, h2⟩ | ⟨_, _, _, _, rfl⟩ | ⟨_, _, _, _, h2⟩ | ⟨h1, _, hlt, _, _, p, hp, hlo, hhi, rfl⟩
  · exact absurd h2.symm h1
  · omega
  · omega
  · omega
  · have := InsD.len_le ts best (knw ts xs ts.length)
    rw [List.length_append, List.length_take, List.length_cons, List.length_drop]
    omega
theorem InsR.full (hr : InsR ts xs ys i 0 ts') (hF : Full ts) : Full ts' := hr.all (q := fun a b => b.length = a.length) hF fun h => (prp_zero h).2.1
theorem InsR.props (hr : InsR ts xs ys i 0 ts') (hF : Props i ts) : Props i ts' := hr.all (q := fun a b => prpE a b i = 0) hF fun h => h
end

/-- Adding traces one after another. -/
def AddsR (i : Int) : List (List Int × List Int) → List (List Int × List Int) → Int → List (List Int × List Int) → Prop
  | [], ts, e, ts' => e = 0 ∧ ts' = ts
  | u :: us, ts, e, ts' => ∃ e1 ts1, InsR ts u.1 u.2 i e1 ts1 ∧ ((¬ e1 = 0 ∧ e = e1) ∨ (e1 = 0 ∧ AddsR i us ts1 e ts'))
theorem AddsR.nil {i : Int} (ts : List (List Int × List Int)) : AddsR i [] ts 0 ts := ⟨rfl, rfl⟩
theorem AddsR.stop {i e : Int} {u : List Int × List Int} {us ts ts1 : List (List Int × List Int)} (h : InsR ts u.1 u.2 i e ts1) (he : ¬ e = 0) (ts' : List (List Int × List Int)) : AddsR i (u :: us) ts e ts' := ⟨e, ts1, h, .inl ⟨he, rfl⟩⟩
theorem AddsR.step {i e : Int} {u : List Int × List Int} {us ts ts1 ts' : List (List Int × List Int)} (h : InsR ts u.1 u.2 i 0 ts1) (hr : AddsR i us ts1 e ts') : AddsR i (u :: us) ts e ts' := ⟨0, ts1, h, .inr ⟨rfl, hr⟩⟩
theorem AddsR.all {i : Int} {q : List Int → List Int → Prop} : ∀ {us ts ts' : List (List Int × List Int)}, AddsR i us ts 0 ts' → (∀ j, j < ts.length → q (tIn ts j) (tOut ts j)) → (∀ u, u ∈ us → prpE u.1 u.2 i = 0 → q u.1 u.2) → ∀ j, j < ts'.length → q (tIn ts' j) (tOut ts' j)
  | [], ts, ts', h, h1, _ => by rw [h.2]; exact h1
  | u :: us, ts, ts', ⟨e1, ts1, hr, h⟩, h1, h2 => by
    rcases h with ⟨h3, h4⟩ | ⟨rfl, h⟩
    · exact absurd h4.symm h3
    · exact h.all (hr.all h1 (h2 u (by simp))) (fun v hv => h2 v (by simp [hv]))
theorem AddsR.srt {i : Int} : ∀ {us ts ts' : List (List Int × List Int)}, AddsR i us ts 0 ts' → Srt ts → Srt ts'
  | [], ts, ts', h, h1 => by rw [h.2]; exact h1
  | u :: us, ts, ts', ⟨e1, ts1, hr, h⟩, h1 => by
    rcases h with ⟨h3, h4⟩ | ⟨rfl, h⟩
    · exact absurd h4.symm h3
    · exact h.srt (hr.srt h1)
theorem AddsR.full {i : Int} {us ts ts' : List (List Int × List Int)} (h : AddsR i us ts 0 ts') (hF : Full ts) : Full ts' := h.all (q := fun a b => b.length = a.length) hF fun _ _ h => (prp_zero h).2.1
theorem AddsR.props {i : Int} {us ts ts' : List (List Int × List Int)} (h : AddsR i us ts 0 ts') (hF : Props i ts) : Props i ts' := h.all (q := fun a b => prpE a b i = 0) hF fun _ _ h => h
theorem srt_none : Srt [] := fun a b _ h => absurd h (by simp)
theorem full_none : Full [] := fun a h => absurd h (by simp)
end Go.Proofs.Ytkgdgnmobahhfaa
end

section
/- Copying elements of several cells within blocks. No program's function. -/
namespace Go.Proofs.Ytkgdgnmobahhfaa
open Go.RowKit

/-- Elements of k cells are copied as their cells are. -/
theorem run_copy_k {P : Program} (w : World) (dT sT ty elem : TypeId) (k b o dLen dCap : Nat) (a : Addr) (sLen sCap n : Nat) (cs : List Value)
    (hu : P.underlying dT = some (.slice elem)) (hs : (P.info? elem).map (·.size) = some k) (hn : n = Nat.min sLen dLen) (hl : cs.length = n * k)
    (hsrc : ∀ j v, cs[j]? = some v → w.cell? (a.add j) = some v) (hc : ∀ j, j < cs.length → (w.cell? ⟨b, o + j, none⟩).isSome = true) (hf : ∀ j, j < cs.length → w.frozen? ⟨b, o + j, none⟩ = false) (h1 : ∀ v ∈ cs, v.oneCell' = true) :
    (Builtin.copy_ #[dT, sT] ty #[.slice (some ⟨b, o, none⟩) dLen dCap, .slice (some a) sLen sCap]).run P w = .ok (goInt n) (w.setCells b o cs) := by
  have hld := run_loadCells_list (P := P) w a cs hsrc
  have hst := run_storeCells_cells (P := P) b o cs 0 w (by simpa using hc) (by simpa using hf) h1
  rw [hl] at hld
  cases hq : P.info? elem with
  | none => simp [hq] at hs
  | some i =>
    have hi : i.size = k := by simpa [hq] using hs
    simp [Builtin.copy_, run_underlying hu, Builtin.lenOf, Builtin.firstCells, sizeOf, typeInfo, hq, hi, ← hn, hld, hst]

/-- An array with some cells put over. -/
def ovr (cur : Array Value) (o : Nat) : List Value → Array Value
  | [] => cur
  | v :: r => ovr (cur.setIfInBounds o v) (o + 1) r
theorem ovr_size (cur : Array Value) (o : Nat) (vs : List Value) : (ovr cur o vs).size = cur.size := by
  induction vs generalizing cur o with
  | nil => rfl
  | cons v r ih => rw [ovr, ih, Array.size_setIfInBounds]
theorem ovr_out {cur : Array Value} {o j : Nat} {vs : List Value} (h : j < o ∨ o + vs.length ≤ j) : (ovr cur o vs)[j]? = cur[j]? := by
  induction vs generalizing cur o with
  | nil => rfl
  | cons v r ih =>
    rw [ovr, ih (by simp at h; omega)]
    rw [Array.getElem?_setIfInBounds_ne (by simp at h; omega)]
theorem ovr_in {cur : Array Value} {o j : Nat} {vs : List Value} (hb : o + vs.length ≤ cur.size) (hj : j < vs.length) : (ovr cur o vs)[o + j]? = vs[j]? := by
  induction vs generalizing cur o j with
  | nil => simp at hj
  | cons v r ih =>
    rw [ovr]
    cases j with
    | zero =>
      have := ovr_out (cur := cur.setIfInBounds o v) (o := o + 1) (j := o) (vs := r) (.inl (by omega))
      show (ovr (cur.setIfInBounds o v) (o + 1) r)[o]? = _
      rw [this, Array.getElem?_setIfInBounds_self_of_lt (by simp at hb; omega)]
      rfl
    | succ j =>
      have := ih (cur := cur.setIfInBounds o v) (o := o + 1) (j := j) (by rw [Array.size_setIfInBounds]; simp at hb; omega) (by simp at hj; omega)
      rw [show o + (j + 1) = o + 1 + j by omega, this]
      rfl
theorem Bx.ovr {w : World} {g : Nat} {cs : Array Value} {t : TypeId} (h : Bx w g cs t) (o : Nat) (vs : List Value) : Bx (w.setCells g o vs) g (ovr cs o vs) t := by
  induction vs generalizing w cs o with
  | nil => exact h
  | cons v r ih => exact ih (h.set o v) (o + 1)
/-- Other types' blocks stay. -/
theorem Bx.keptCells {w : World} {g : Nat} {cs : Array Value} {t t' : TypeId} (h : Bx w g cs t') (ht : t ≠ t') (o : Nat) (vs : List Value) : KeptT t w (w.setCells g o vs) := by
  induction vs generalizing w cs o with
  | nil => exact KeptT.refl _ _
  | cons v r ih => exact (KeptT.off h ht v).trans (ih (h.set o v) (o + 1))
end Go.Proofs.Ytkgdgnmobahhfaa
end

section
/- A block of traces that a call owns: one trace more, one less. -/
namespace Go.Proofs.Ytkgdgnmobahhfaa
open Go.RowKit

/-- The block g, with N places for traces, holds the traces ts, with lists of its own. -/
structure TrO (w : World) (base g N : Nat) (cur : Array Value) (ts : List (List Int × List Int)) : Prop where
  bx : Bx w g cur 38
  ge : base ≤ g
  sz : cur.size = N * 2
  le : ts.length ≤ N
  cap : N ≤ 1000000
  one : ∀ v, v ∈ cur.toList → v.oneCell' = true
  hd : ∀ j, j < ts.length → ∃ A1 c1 A2 c2, cur[j * 2]? = some (.slice A1 (tIn ts j).length c1) ∧ cur[j * 2 + 1]? = some (.slice A2 (tOut ts j).length c2) ∧ Owned w base (.slice A1 (tIn ts j).length c1) (tIn ts j) ∧ Owned w base (.slice A2 (tOut ts j).length c2) (tOut ts j)
  sm : ∀ j, j < ts.length → (tIn ts j).length ≤ 17592186044416 ∧ (tOut ts j).length ≤ 17592186044416

theorem Owned.cap {w : World} {base n c : Nat} {A : Option Addr} {xs : List Int} (h : Owned w base (.slice A n c) xs) : n ≤ c := by
  rcases h.2 with ⟨e, h1⟩ | ⟨g, cap, cur, e, _, _, h2, _⟩
  · cases e; omega
  · cases e; exact h2
theorem TrO.trs {w : World} {base g N : Nat} {cur : Array Value} {ts : List (List Int × List Int)} (h : TrO w base g N cur ts) : Trs w (some ⟨g, 0, none⟩) ts.length ts := by
  refine ⟨rfl, by have := h.le; have := h.cap; omega, fun _ => ⟨g, 0, rfl, h.bx.lt, fun j hj => ?_⟩⟩
  obtain ⟨A1, c1, A2, c2, e1, e2, o1, o2⟩ := h.hd j hj
  refine ⟨A1, _, c1, A2, _, c2, ?_, ?_, o1.cap, o2.cap, o1.ints (h.sm j hj).1, o2.ints (h.sm j hj).2⟩
  · rw [Nat.zero_add, h.bx.cell]; exact e1
  · rw [Nat.zero_add, h.bx.cell]; exact e2
theorem TrO.kept {w w' : World} {base g N : Nat} {cur : Array Value} {ts : List (List Int × List Int)} (h : TrO w base g N cur ts) (hb : Bx w' g cur 38) (hk : KeptT 3 w w') : TrO w' base g N cur ts :=
  ⟨hb, h.ge, h.sz, h.le, h.cap, h.one, fun j hj => by
    obtain ⟨A1, c1, A2, c2, e1, e2, o1, o2⟩ := h.hd j hj
    exact ⟨A1, c1, A2, c2, e1, e2, o1.keptT hk, o2.keptT hk⟩, h.sm⟩
theorem TrO.below {w w' : World} {base g N : Nat} {cur : Array Value} {ts : List (List Int × List Int)} (h : TrO w base g N cur ts) (hb : Below w.heap.size w w') : TrO w' base g N cur ts :=
  h.kept (h.bx.on hb) (KeptT.of_below hb)
theorem TrO.start {w : World} {base g N : Nat} {cur : Array Value} (hb : Bx w g cur 38) (hg : base ≤ g) (hs : cur.size = N * 2) (hN : N ≤ 1000000) (h1 : ∀ v, v ∈ cur.toList → v.oneCell' = true) : TrO w base g N cur [] :=
  ⟨hb, hg, hs, Nat.zero_le _, hN, h1, fun j hj => absurd hj (by simp), fun j hj => absurd hj (by simp)⟩

theorem tIn_get {ts : List (List Int × List Int)} {j : Nat} {t : List Int × List Int} (h : ts[j]? = some t) : tIn ts j = t.1 ∧ tOut ts j = t.2 := by
  unfold tIn tOut
  rw [List.getD_eq_getElem?_getD, h]
  exact ⟨rfl, rfl⟩
theorem ins_lt {ts : List (List Int × List Int)} {t : List Int × List Int} {p j : Nat} (hj : j < p) (hp : p ≤ ts.length) : (ts.take p ++ t :: ts.drop p)[j]? = ts[j]? := by
  rw [List.getElem?_append_left (by rw [List.length_take]; omega), List.getElem?_take_of_lt hj]
theorem ins_at {ts : List (List Int × List Int)} {t : List Int × List Int} {p : Nat} (hp : p ≤ ts.length) : (ts.take p ++ t :: ts.drop p)[p]? = some t := by
  rw [List.getElem?_append_right (by rw [List.length_take]; omega), List.length_take, Nat.min_eq_left hp, Nat.sub_self]
  rfl
theorem ins_gt {ts : List (List Int × List Int)} {t : List Int × List Int} {p j : Nat} (hj : p ≤ j) (hp : p ≤ ts.length) : (ts.take p ++ t :: ts.drop p)[j + 1]? = ts[j]? := by
  rw [List.getElem?_append_right (by rw [List.length_take]; omega), List.length_take, Nat.min_eq_left hp, show j + 1 - p = (j - p) + 1 by omega]
  rw [List.getElem?_cons_succ, List.getElem?_drop]
  congr 1
  omega
theorem ins_len {ts : List (List Int × List Int)} {t : List Int × List Int} {p : Nat} (hp : p ≤ ts.length) : (ts.take p ++ t :: ts.drop p).length = ts.length + 1 := by
  rw [List.length_append, List.length_take, List.length_cons, List.length_drop]
  omega
theorem tIn_congr {ts us : List (List Int × List Int)} {j k : Nat} (h : ts[j]? = us[k]?) : tIn ts j = tIn us k ∧ tOut ts j = tOut us k := by
  unfold tIn tOut
  rw [List.getD_eq_getElem?_getD, List.getD_eq_getElem?_getD, h]
  exact ⟨rfl, rfl⟩

/-- One trace more. -/
theorem TrO.ins {w W : World} {base g N : Nat} {cur cur' : Array Value} {ts : List (List Int × List Int)} (h : TrO w base g N cur ts) {p : Nat} (hp : p ≤ ts.length) (hroom : ts.length + 1 ≤ N) {xs ys : List Int} {B1 B2 : Option Addr} {d1 d2 : Nat}
    (hb : Bx W g cur' 38) (hs : cur'.size = cur.size) (hk : KeptT 3 w W) (h1 : ∀ v, v ∈ cur'.toList → v.oneCell' = true)
    (ox : Owned w base (.slice B1 xs.length d1) xs) (oy : Owned w base (.slice B2 ys.length d2) ys) (hx : xs.length ≤ 17592186044416) (hy : ys.length ≤ 17592186044416)
    (c1 : ∀ k, k < p * 2 → cur'[k]? = cur[k]?) (c2 : cur'[p * 2]? = some (.slice B1 xs.length d1)) (c3 : cur'[p * 2 + 1]? = some (.slice B2 ys.length d2)) (c4 : ∀ k, p * 2 ≤ k → k < ts.length * 2 → cur'[k + 2]? = cur[k]?) :
    TrO W base g N cur' (ts.take p ++ (xs, ys) :: ts.drop p) := by
  have hl := ins_len (t := (xs, ys)) hp
  refine ⟨hb, h.ge, by rw [hs]; exact h.sz, by rw [hl]; exact hroom, h.cap, h1, fun j hj => ?_, fun j hj => ?_⟩
  · rw [hl] at hj
    rcases Nat.lt_trichotomy j p with e | e | e
    · obtain ⟨A1, k1, A2, k2, e1, e2, o1, o2⟩ := h.hd j (by omega)
      obtain ⟨t1, t2⟩ := tIn_congr (ins_lt (ts := ts) (t := (xs, ys)) e hp)
      rw [t1, t2]
      exact ⟨A1, k1, A2, k2, by rw [c1 _ (by omega)]; exact e1, by rw [c1 _ (by omega)]; exact e2, o1.keptT hk, o2.keptT hk⟩
    · obtain ⟨t1, t2⟩ := tIn_get (ins_at (ts := ts) (t := (xs, ys)) hp)
      subst e
      rw [t1, t2]
      exact ⟨B1, d1, B2, d2, c2, c3, ox.keptT hk, oy.keptT hk⟩
    · obtain ⟨j, rfl⟩ : ∃ q, j = q + 1 := ⟨j - 1, by omega⟩
      obtain ⟨A1, k1, A2, k2, e1, e2, o1, o2⟩ := h.hd j (by omega)
      obtain ⟨t1, t2⟩ := tIn_congr (ins_gt (ts := ts) (t := (xs, ys)) (p := p) (j := j) (by omega) hp)
      rw [t1, t2]
      refine ⟨A1, k1, A2, k2, ?_, ?_, o1.keptT hk, o2.keptT hk⟩
      · rw [show (j + 1) * 2 = j * 2 + 2 by omega, c4 _ (by omega) (by omega)]; exact e1
      · rw [show (j + 1) * 2 + 1 = (j * 2 + 1) + 2 by omega, c4 _ (by omega) (by omega)]; exact e2
  · rw [hl] at hj
    rcases Nat.lt_trichotomy j p with e | e | e
    · obtain ⟨t1, t2⟩ := tIn_congr (ins_lt (ts := ts) (t := (xs, ys)) e hp)
      rw [t1, t2]; exact h.sm j (by omega)
    · obtain ⟨t1, t2⟩ := tIn_get (ins_at (ts := ts) (t := (xs, ys)) hp)
      subst e
      rw [t1, t2]; exact ⟨hx, hy⟩
    · obtain ⟨j, rfl⟩ : ∃ q, j = q + 1 := ⟨j - 1, by omega⟩
      obtain ⟨t1, t2⟩ := tIn_congr (ins_gt (ts := ts) (t := (xs, ys)) (p := p) (j := j) (by omega) hp)
      rw [t1, t2]; exact h.sm j (by omega)
/-- One trace less. -/
theorem TrO.del {w W : World} {base g N : Nat} {cur cur' : Array Value} {ts : List (List Int × List Int)} (h : TrO w base g N cur ts) {p : Nat} (hp : p < ts.length)
    (hb : Bx W g cur' 38) (hs : cur'.size = cur.size) (hk : KeptT 3 w W) (h1 : ∀ v, v ∈ cur'.toList → v.oneCell' = true)
    (c1 : ∀ k, k < p * 2 → cur'[k]? = cur[k]?) (c4 : ∀ k, (p + 1) * 2 ≤ k → k < ts.length * 2 → cur'[k - 2]? = cur[k]?) :
    TrO W base g N cur' (ts.eraseIdx p) := by
  have hl : (ts.eraseIdx p).length = ts.length - 1 := by rw [List.length_eraseIdx, if_pos hp]
  have hle := h.le
  refine ⟨hb, h.ge, by rw [hs]; exact h.sz, by rw [hl]; omega, h.cap, h1, fun j hj => ?_, fun j hj => ?_⟩
  · rw [hl] at hj
    rcases Nat.lt_or_ge j p with e | e
    · obtain ⟨A1, k1, A2, k2, e1, e2, o1, o2⟩ := h.hd j (by omega)
      obtain ⟨t1, t2⟩ := tIn_congr (ts := ts.eraseIdx p) (us := ts) (j := j) (k := j) (by rw [List.getElem?_eraseIdx, if_pos e])
      rw [t1, t2]
      exact ⟨A1, k1, A2, k2, by rw [c1 _ (by omega)]; exact e1, by rw [c1 _ (by omega)]; exact e2, o1.keptT hk, o2.keptT hk⟩
    · obtain ⟨A1, k1, A2, k2, e1, e2, o1, o2⟩ := h.hd (j + 1) (by omega)
      obtain ⟨t1, t2⟩ := tIn_congr (ts := ts.eraseIdx p) (us := ts) (j := j) (k := j + 1) (by rw [List.getElem?_eraseIdx, if_neg (by omega)])
      rw [t1, t2]
      refine ⟨A1, k1, A2, k2, ?_, ?_, o1.keptT hk, o2.keptT hk⟩
      · have := c4 ((j + 1) * 2) (by omega) (by omega)
        rw [show (j + 1) * 2 - 2 = j * 2 by omega] at this
        rw [this]; exact e1
      · have := c4 ((j + 1) * 2 + 1) (by omega) (by omega)
        rw [show (j + 1) * 2 + 1 - 2 = j * 2 + 1 by omega] at this
        rw [this]; exact e2
  · rw [hl] at hj
    rcases Nat.lt_or_ge j p with e | e
    · obtain ⟨t1, t2⟩ := tIn_congr (ts := ts.eraseIdx p) (us := ts) (j := j) (k := j) (by rw [List.getElem?_eraseIdx, if_pos e])
      rw [t1, t2]; exact h.sm j (by omega)
    · obtain ⟨t1, t2⟩ := tIn_congr (ts := ts.eraseIdx p) (us := ts) (j := j) (k := j + 1) (by rw [List.getElem?_eraseIdx, if_neg (by omega)])
      rw [t1, t2]; exact h.sm (j + 1) (by omega)

theorem ovr_mem {cur : Array Value} {o : Nat} {vs : List Value} : ∀ v, v ∈ (ovr cur o vs).toList → v ∈ cur.toList ∨ v ∈ vs := by
  induction vs generalizing cur o with
  | nil => exact fun v h => .inl h
  | cons u r ih =>
    intro v h
    rw [ovr] at h
    rcases ih v h with h | h
    · rw [Array.toList_setIfInBounds] at h
      rcases List.mem_or_eq_of_mem_set h with h | h
      · exact .inl h
      · exact .inr (by rw [h]; exact List.mem_cons_self)
    · exact .inr (List.mem_cons_of_mem _ h)
theorem slc_mem {cur : Array Value} {a b : Nat} {v : Value} (h : v ∈ (cur.toList.take a).drop b) : v ∈ cur.toList := List.mem_of_mem_take (List.mem_of_mem_drop h)
theorem slc_get {cur : Array Value} {a b k : Nat} (h : b + k < a) : ((cur.toList.take a).drop b)[k]? = cur[b + k]? := by
  rw [List.getElem?_drop, List.getElem?_take_of_lt h, Array.getElem?_toList]
theorem slc_len {cur : Array Value} {a b : Nat} (h : a ≤ cur.size) : ((cur.toList.take a).drop b).length = a - b := by
  rw [List.length_drop, List.length_take, Array.length_toList, Nat.min_eq_left h]

/-- After slices.Insert in the middle. -/
theorem TrO.shifted {w w1 : World} {base g N : Nat} {cur : Array Value} {ts : List (List Int × List Int)} (h : TrO w base g N cur ts) {p : Nat} (hp : p ≤ ts.length) (hroom : ts.length + 1 ≤ N) {xs ys : List Int} {B1 B2 : Option Addr} {d1 d2 : Nat}
    (ox : Owned w base (.slice B1 xs.length d1) xs) (oy : Owned w base (.slice B2 ys.length d2) ys) (hx : xs.length ≤ 17592186044416) (hy : ys.length ≤ 17592186044416)
    (hw : w1 = (w.drew.setCells g ((p + 1) * 2) ((cur.toList.take (ts.length * 2)).drop (p * 2))).setCells g (p * 2) [.slice B1 xs.length d1, .slice B2 ys.length d2]) :
    ∃ cur', TrO w1 base g N cur' (ts.take p ++ (xs, ys) :: ts.drop p) := by
  have hsz := h.sz
  have hle := h.le
  have hl := slc_len (cur := cur) (a := ts.length * 2) (b := p * 2) (by omega)
  have hb1 := (h.bx.drewN 1).ovr ((p + 1) * 2) ((cur.toList.take (ts.length * 2)).drop (p * 2))
  have hb2 := hb1.ovr (p * 2) [.slice B1 xs.length d1, .slice B2 ys.length d2]
  have hk : KeptT 3 w w1 := by
    rw [hw]
    exact ((KeptT.drewN _ w 1).trans ((h.bx.drewN 1).keptCells (by decide) _ _)).trans (hb1.keptCells (by decide) _ _)
  have s1 : (ovr cur ((p + 1) * 2) ((cur.toList.take (ts.length * 2)).drop (p * 2))).size = cur.size := ovr_size _ _ _
  refine ⟨_, h.ins hp hroom (by rw [hw]; exact hb2) (by rw [ovr_size, s1]) hk ?_ ox oy hx hy (fun k hk => ?_) ?_ ?_ (fun k hk1 hk2 => ?_)⟩
  · intro v hv
    rcases ovr_mem v hv with hv | hv
    · rcases ovr_mem v hv with hv | hv
      · exact h.one v hv
      · exact h.one v (slc_mem hv)
    · simp at hv
      rcases hv with rfl | rfl <;> rfl
  · rw [ovr_out (.inl hk), ovr_out (.inl (by omega))]
  · have := ovr_in (cur := ovr cur ((p + 1) * 2) ((cur.toList.take (ts.length * 2)).drop (p * 2))) (o := p * 2) (j := 0) (vs := [.slice B1 xs.length d1, .slice B2 ys.length d2]) (by rw [s1, hsz]; simp; omega) (by simp)
    simpa using this
  · have := ovr_in (cur := ovr cur ((p + 1) * 2) ((cur.toList.take (ts.length * 2)).drop (p * 2))) (o := p * 2) (j := 1) (vs := [.slice B1 xs.length d1, .slice B2 ys.length d2]) (by rw [s1, hsz]; simp; omega) (by simp)
    simpa using this
  · rw [ovr_out (.inr (by simp; omega))]
    have := ovr_in (cur := cur) (o := (p + 1) * 2) (j := k - p * 2) (vs := (cur.toList.take (ts.length * 2)).drop (p * 2)) (by rw [hl, hsz]; omega) (by rw [hl]; omega)
    rw [show (p + 1) * 2 + (k - p * 2) = k + 2 by omega] at this
    rw [this, slc_get (by omega)]
    congr 1
    omega
/-- After slices.Insert, or append, at the end. -/
theorem TrO.pushed {w w1 : World} {base g N : Nat} {cur : Array Value} {ts : List (List Int × List Int)} (h : TrO w base g N cur ts) (hroom : ts.length + 1 ≤ N) {xs ys : List Int} {B1 B2 : Option Addr} {d1 d2 : Nat}
    (ox : Owned w base (.slice B1 xs.length d1) xs) (oy : Owned w base (.slice B2 ys.length d2) ys) (hx : xs.length ≤ 17592186044416) (hy : ys.length ≤ 17592186044416)
    (hw : w1 = w.setRow g (cur.toList.take (ts.length * 2) ++ Value.slice B1 xs.length d1 :: Value.slice B2 ys.length d2 :: cur.toList.drop (ts.length * 2 + 2)).toArray) :
    ∃ cur', TrO w1 base g N cur' (ts ++ [(xs, ys)]) := by
  have hsz := h.sz
  have hle := h.le
  have hk : KeptT 3 w w1 := by rw [hw]; exact h.bx.keptRow (by decide) _
  have hcl : cur.toList.length = N * 2 := by rw [Array.length_toList]; exact hsz
  have hT : (cur.toList.take (ts.length * 2)).length = ts.length * 2 := by rw [List.length_take, hcl]; omega
  have := h.ins (W := w1) (cur' := (cur.toList.take (ts.length * 2) ++ Value.slice B1 xs.length d1 :: Value.slice B2 ys.length d2 :: cur.toList.drop (ts.length * 2 + 2)).toArray) (p := ts.length) (Nat.le_refl _) hroom (by rw [hw]; exact h.bx.row _)
    (by simp [hsz]; omega) hk
    (by
      intro v hv
      rw [List.toList_toArray] at hv
      rcases List.mem_append.1 hv with hv | hv
      · exact h.one v (List.mem_of_mem_take hv)
      · rcases List.mem_cons.1 hv with rfl | hv
        · rfl
        · rcases List.mem_cons.1 hv with rfl | hv
          · rfl
          · exact h.one v (List.mem_of_mem_drop hv)) ox oy hx hy
    (fun k hk => by rw [List.getElem?_toArray, List.getElem?_append_left (by omega), List.getElem?_take_of_lt hk, Array.getElem?_toList])
    (by rw [List.getElem?_toArray, List.getElem?_append_right (by omega), hT, Nat.sub_self]; rfl)
    (by rw [List.getElem?_toArray, List.getElem?_append_right (by omega), hT, show ts.length * 2 + 1 - ts.length * 2 = 1 by omega]; rfl)
    (fun k h1 h2 => by omega)
  rw [List.take_length, List.drop_length] at this
  exact ⟨_, this⟩
/-- After slices.Delete. -/
theorem TrO.deleted {w w1 : World} {base g N : Nat} {cur : Array Value} {ts : List (List Int × List Int)} (h : TrO w base g N cur ts) {p : Nat} (hp : p < ts.length)
    (hw : w1 = (w.drew.setCells g (0 + p * 2) ((cur.toList.take (ts.length * 2)).drop ((p + 1) * 2))).setCells g ((ts.length - 1) * 2) [.slice none 0 0, .slice none 0 0]) :
    ∃ cur', TrO w1 base g N cur' (ts.eraseIdx p) := by
  have hsz := h.sz
  have hle := h.le
  have hl := slc_len (cur := cur) (a := ts.length * 2) (b := (p + 1) * 2) (by omega)
  have hb1 := (h.bx.drewN 1).ovr (0 + p * 2) ((cur.toList.take (ts.length * 2)).drop ((p + 1) * 2))
  have hb2 := hb1.ovr ((ts.length - 1) * 2) [.slice none 0 0, .slice none 0 0]
  have hk : KeptT 3 w w1 := by
    rw [hw]
    exact ((KeptT.drewN _ w 1).trans ((h.bx.drewN 1).keptCells (by decide) _ _)).trans (hb1.keptCells (by decide) _ _)
  have s1 : (ovr cur (0 + p * 2) ((cur.toList.take (ts.length * 2)).drop ((p + 1) * 2))).size = cur.size := ovr_size _ _ _
  refine ⟨_, h.del hp (by rw [hw]; exact hb2) (by rw [ovr_size, s1]) hk ?_ (fun k hk => ?_) (fun k hk1 hk2 => ?_)⟩
  · intro v hv
    rcases ovr_mem v hv with hv | hv
    · rcases ovr_mem v hv with hv | hv
      · exact h.one v hv
      · exact h.one v (slc_mem hv)
    · simp at hv
      rw [hv]; rfl
  · rw [ovr_out (.inl (by omega)), ovr_out (.inl (by omega))]
  · rw [ovr_out (.inl (by omega))]
    have := ovr_in (cur := cur) (o := 0 + p * 2) (j := k - (p + 1) * 2) (vs := (cur.toList.take (ts.length * 2)).drop ((p + 1) * 2)) (by rw [hl, hsz]; omega) (by rw [hl]; omega)
    rw [show 0 + p * 2 + (k - (p + 1) * 2) = k - 2 by omega] at this
    rw [this, slc_get (by omega)]
    congr 1
    omega
end Go.Proofs.Ytkgdgnmobahhfaa
end

section
/- A runner: step and run. -/
namespace Go.Proofs.Ytkgdgnmobahhfaa
open Go.RowKit

/-- The block of a runner. -/
def Rnr (w : World) (g : Nat) (i st : Int) (A : Option Addr) (n c : Nat) (B : Option Addr) (m d : Nat) (s : Nat) : Prop :=
  w.heap[g]? = some (.cells #[.int .i64 i, .int .i64 st, .slice A n c, .slice B m d, .int .i64 s] 137 (0, 0))

theorem Rnr.cells {w : World} {g : Nat} {i st : Int} {A B : Option Addr} {n c m d s : Nat} (h : Rnr w g i st A n c B m d s) :
    w.cell? ⟨g, 2, none⟩ = some (.slice A n c) ∧ w.cell? ⟨g, 3, none⟩ = some (.slice B m d) ∧ w.cell? ⟨g, 4, none⟩ = some (.int .i64 s) ∧ w.frozen? ⟨g, 4, none⟩ = false :=
  ⟨cell_of_row w g 2 _ _ (0, 0) h, cell_of_row w g 3 _ _ (0, 0) h, cell_of_row w g 4 _ _ (0, 0) h, frozen_of_row w g 4 _ _ h⟩

set_option maxHeartbeats 2000000 in
set_option maxRecDepth 100000 in
theorem pstep {W w : World} {g : Nat} {i st n : Nat} {A B : Option Addr} {c d s a : Nat} {nx ot : List (List Int)} (hM : Mok i st n nx ot) (hx : Lists W A n nx) (ho : Lists W B n ot) (hb : Below W.heap.size W w)
    (hR : Rnr w g i st A n c B n d s) (hs : s < n) (ha : a < i) :
    Calls Try.prog 124 #[.pointer (some ⟨g, 0, none⟩), .int .i64 a] w fun e w' => e = .returned (.int .i64 (oN ot s a)) ∧ ∃ q, w' = (w.setCell ⟨g, 4, none⟩ (.int .i64 (nN nx s a))).drewN q := by
  obtain ⟨c2, c3, c4, f4⟩ := hR.cells
  obtain ⟨g1, o1, A1, n1, c1, rfl, hg1, hc1, hr1⟩ := (hx.below hb).at_ hs
  obtain ⟨g2, o2, A2, n2, c2', rfl, hg2, hc2, hr2⟩ := (ho.below hb).at_ hs
  have hi1 := (hM.row s hs).1
  have hi2 := (hM.row s hs).2.1
  have hl1 := hr1.1
  have hl2 := hr2.1
  obtain rfl : n1 = i := by omega
  obtain rfl : n2 = n1 := by omega
  obtain ⟨b1, p1, rfl, _, hy1⟩ := hr1.at_ ha
  obtain ⟨b2, p2, rfl, _, hy2⟩ := hr2.at_ ha
  rw [hM.nN_eq hs ha] at hy1
  change w.cell? _ = some (.int .i64 (oN ot s a)) at hy2
  have hn := hr1.2.1
  have hN := hx.2.1
  clear hl1 hl2 hi1 hi2
  go_enter Try.func124, Try.ntmps124
  go_wp2
  go_quiet (fail)
  go_wp2
  go_region
  all_goals
    go_wp2
    go_ret
    exact ⟨rfl, by first | exact ⟨_, rfl⟩ | exact ⟨_, World.drewN_drewN _ _ _⟩⟩
end Go.Proofs.Ytkgdgnmobahhfaa
end

section
/- run, From, Run and Step of a machine. -/
namespace Go.Proofs.Ytkgdgnmobahhfaa
open Go.RowKit

theorem Rnr.kept {w w' : World} {g : Nat} {i st : Int} {A B : Option Addr} {n c m d s : Nat} (h : Rnr w g i st A n c B m d s) {b : Nat} (hb : Below b w w') (hg : g < b) : Rnr w' g i st A n c B m d s := (hb.block g hg).trans h

theorem Rnr.set {w : World} {g : Nat} {i st : Int} {A B : Option Addr} {n c m d s : Nat} (h : Rnr w g i st A n c B m d s) (t q : Nat) : Rnr ((w.setCell ⟨g, 4, none⟩ (.int .i64 t)).drewN q) g i st A n c B m d t := by
  have := heap_setCell_same w g 4 _ _ (Value.int .i64 t) h
  exact this
set_option maxHeartbeats 2000000 in
set_option maxRecDepth 100000 in
theorem prun {W w : World} {g : Nat} {i st n : Nat} {A B D : Option Addr} {c d s k e : Nat} {nx ot : List (List Int)} {xs : List Int} (hM : Mok i st n nx ot) (hx : Lists W A n nx) (ho : Lists W B n ot) (hb : Below W.heap.size W w)
    (hR : Rnr w g i st A n c B n d s) (hg : W.heap.size ≤ g) (hs : s < n) (hD : Ints W D k xs) (hS : ∀ x, x ∈ xs → 0 ≤ x ∧ x < i) :
    Calls Try.prog 108 #[.pointer (some ⟨g, 0, none⟩), .slice D k e] w fun e w' => ∃ A' c', e = .returned (.slice A' k c') ∧ Owned w' W.heap.size (.slice A' k c') (runO nx ot s xs) ∧ Below W.heap.size W w' ∧ Rnr w' g i st A n c B n d (runS nx s xs) := by
  have L := Lib.hid hD.1
  have hk := hD.2.1
  have HS := Lib.hid hS
  have HR := Lib.hid hR
  clear hS hR
  have hrn : (137 : TypeId) ≠ 3 := by decide
  go_enter Try.func108, Try.ntmps108
  go_wp2
  go_loopw [5, 10] (fun v j wr => ∃ (q : Nat) (A' : Option Addr) (c' : Nat), q ≤ k ∧ j = .int .i64 q ∧ v = .slice A' q c' ∧ Owned wr W.heap.size (.slice A' q c') (runO nx ot s (xs.take q)) ∧ Below W.heap.size W wr ∧ Rnr wr g i st A n c B n d (runS nx s (xs.take q))) (fun _ j _ => k - (intOf j).toNat)
  case atStart => exact ⟨0, none, 0, Nat.zero_le _, rfl, rfl, Owned.nil _ _, hb, HR.out⟩
  case round =>
    obtain ⟨q, A', c', hq, rfl, rfl, hown, hbr, hR⟩ := hrel
    by_cases hlt : q < k
    · obtain ⟨b1, o1, rfl, _, hc1⟩ := (hD.below hbr).at_ hlt
      have hxm := HS.out (xs.getD q 0) (by rw [List.getD_eq_getElem?_getD, List.getElem?_eq_getElem (by rw [L.out]; exact hlt)]; exact List.getElem_mem _)
      have hO := Lib.hid (runO_next (nx := nx) (ot := ot) (s := s) (j := q) (xs := xs) (by rw [L.out]; exact hlt))
      have hT := Lib.hid (runS_next (nx := nx) (s := s) (j := q) (xs := xs) (by rw [L.out]; exact hlt))
      rw [show xs[q]?.getD 0 = xs.getD q 0 by simp] at hO hT
      generalize xs.getD q 0 = x at hc1 hxm hO hT
      obtain ⟨a, rfl⟩ : ∃ a : Nat, x = a := ⟨x.toNat, by omega⟩
      have ha : a < i := by omega
      rw [Int.toNat_natCast] at hO hT
      have hlast := hM.runS_lt (xs.take q) s hs (fun x hx => HS.out x (List.mem_of_mem_take hx))
      generalize hss : runS nx s (xs.take q) = s' at hR hO hT hlast
      have hlen : (runO nx ot s (xs.take q)).length = q := by rw [runO_len, List.length_take, L.out]; omega
      generalize runO nx ot s (xs.take q) = os at hown hO hlen
      have HL := Lib.hid hlen
      have HSS := Lib.hid hss
      have HRR := Lib.hid hR
      clear hss hlen
      have hset : ∀ q', Rnr ((wr.setCell ⟨g, 4, none⟩ (.int .i64 (nN nx s' a))).drewN q') g i st A n c B n d (nN nx s' a) := fun q' => hR.set (nN nx s' a) q'
      have HSET := Lib.hid hset
      have hoff : ∀ q', Owned ((wr.setCell ⟨g, 4, none⟩ (.int .i64 (nN nx s' a))).drewN q') W.heap.size (.slice A' q c') os := fun q' => hown.off hR hrn 4 _ q'
      have HOFF := Lib.hid hoff
      have hbs : ∀ q', Below W.heap.size W ((wr.setCell ⟨g, 4, none⟩ (.int .i64 (nN nx s' a))).drewN q') := fun q' => below_drewN (hbr.setCell (p := ⟨g, 4, none⟩) hg _) q'
      have HBS := Lib.hid hbs
      clear hset hoff hbs hR
      go_wp2_with fail
      refine (pstep hM hx ho hbr HRR.out hlast ha).mono ?_
      rintro e w1 ⟨rfl, q1, rfl⟩
      have h1 := HOFF.out q1
      have h2 := HBS.out q1
      have h3 := HSET.out q1
      clear HOFF HBS HSET
      generalize (wr.setCell ⟨g, 4, none⟩ (.int .i64 (nN nx s' a))).drewN q1 = w1 at h1 h2 h3 ⊢
      obtain ⟨A2, c2, w2, hr, ho2, hb2, hk2⟩ := run_append_one h1 (oN ot s' a) h2.size (by rw [HL.out]; omega)
      rw [← hO.out] at ho2
      rw [HL.out] at hr ho2
      have h4 := Lib.hid (hk2 g _ _ h3 hrn)
      clear hk2
      go_wp2_with (at_builtin; refine Lib.wpList_append_run _ rfl _ _ _ _ rfl _ _ rfl rfl _ _ hr ?_)
      go_roundw
      case rel => exact ⟨q + 1, A2, c2, by omega, by go_num, rfl, ho2, h2.trans hb2, by rw [hT.out]; exact h4.out⟩
      case measure => simp [intOf]; omega
    · obtain rfl : q = k := by omega
      have hall := Lib.hid (List.take_of_length_le (l := xs) (i := q) (by rw [L.out]; exact Nat.le_refl _))
      go_wp2
      go_ret
      rw [hall.out] at hown hR
      exact ⟨_, _, rfl, hown, hbr, hR⟩
end Go.Proofs.Ytkgdgnmobahhfaa
end

section
/- What From, Run and Step return. -/
namespace Go.Proofs.Ytkgdgnmobahhfaa

/-- What From returns. -/
def frm (i st : Int) (nx ot : List (List Int)) (s : Int) (xs : List Int) : List Int × Int × Int :=
  if vld i st nx ot = 0 then (if 0 ≤ s ∧ s < nx.length then (if chk xs i = 0 then (runO nx ot s.toNat xs, (runS nx s.toNat xs : Int), 0) else ([], 0, chk xs i)) else ([], 0, 2)) else ([], 0, vld i st nx ot)
theorem frm_bad {i st : Int} {nx ot : List (List Int)} {s : Int} {xs : List Int} (h : ¬ vld i st nx ot = 0) : frm i st nx ot s xs = ([], 0, vld i st nx ot) := by unfold frm; rw [if_neg h]
theorem frm_state {i st : Int} {nx ot : List (List Int)} {s : Int} {xs : List Int} (h : vld i st nx ot = 0) (h1 : ¬ (0 ≤ s ∧ s < nx.length)) : frm i st nx ot s xs = ([], 0, 2) := by unfold frm; rw [if_pos h, if_neg h1]
theorem frm_word {i st : Int} {nx ot : List (List Int)} {s : Int} {xs : List Int} (h : vld i st nx ot = 0) (h1 : 0 ≤ s ∧ s < nx.length) (h2 : ¬ chk xs i = 0) : frm i st nx ot s xs = ([], 0, chk xs i) := by unfold frm; rw [if_pos h, if_pos h1, if_neg h2]
theorem frm_ok {i st : Int} {nx ot : List (List Int)} {s : Nat} {xs : List Int} (h : vld i st nx ot = 0) (h1 : s < nx.length) (h2 : chk xs i = 0) : frm i st nx ot s xs = (runO nx ot s xs, (runS nx s xs : Int), 0) := by
  unfold frm; rw [if_pos h, if_pos (by omega), if_pos h2]; rfl
theorem frm_len {i st : Int} {nx ot : List (List Int)} {s : Int} {xs : List Int} : (frm i st nx ot s xs).1.length ≤ 1024 := by
  by_cases h : vld i st nx ot = 0
  · by_cases h1 : 0 ≤ s ∧ s < nx.length
    · by_cases h2 : chk xs i = 0
      · obtain ⟨t, rfl⟩ : ∃ t : Nat, s = t := ⟨s.toNat, by omega⟩
        rw [frm_ok h (by omega) h2]
        show (runO nx ot t xs).length ≤ 1024
        rw [runO_len]
        exact (chk_zero h2).2.2.1
      · rw [frm_word h h1 h2]; simp
    · rw [frm_state h h1]; simp
  · rw [frm_bad h]; simp
theorem frm_zero {i st : Int} {nx ot : List (List Int)} {s : Int} {xs : List Int} (h : (frm i st nx ot s xs).2.2 = 0) : ∃ i' st' n t : Nat, i = i' ∧ st = st' ∧ s = t ∧ t < n ∧ Mok i' st' n nx ot ∧ chk xs i = 0 := by
  by_cases h0 : vld i st nx ot = 0
  · obtain ⟨i', st', n, rfl, rfl, hM⟩ := vld_zero h0
    by_cases h1 : 0 ≤ s ∧ s < nx.length
    · by_cases h2 : chk xs i' = 0
      · exact ⟨i', st', n, s.toNat, rfl, rfl, by omega, by have := hM.nxl; omega, hM, h2⟩
      · rw [frm_word h0 h1 h2] at h; exact absurd h h2
    · rw [frm_state h0 h1] at h; exact absurd h (by show ¬ (2 : Int) = 0; omega)
  · rw [frm_bad h0] at h; exact absurd h h0
theorem Mok.frm {i st n : Nat} {nx ot : List (List Int)} (hM : Mok i st n nx ot) {s : Nat} (hs : s < n) {xs : List Int} (h : chk xs i = 0) : frm i st nx ot s xs = (runO nx ot s xs, (runS nx s xs : Int), 0) :=
  frm_ok hM.vld (by rw [hM.nxl]; exact hs) h

/-- What Step returns. -/
def stp (i st : Int) (nx ot : List (List Int)) (s a : Int) : Int × Int × Int :=
  if vld i st nx ot = 0 then (if (0 ≤ s ∧ s < nx.length) ∧ 0 ≤ a ∧ a < i then ((nN nx s.toNat a.toNat : Int), oN ot s.toNat a.toNat, 0) else (0, 0, 2)) else (0, 0, vld i st nx ot)
theorem stp_bad {i st : Int} {nx ot : List (List Int)} {s a : Int} (h : ¬ vld i st nx ot = 0) : stp i st nx ot s a = (0, 0, vld i st nx ot) := by unfold stp; rw [if_neg h]
theorem stp_state {i st : Int} {nx ot : List (List Int)} {s a : Int} (h : vld i st nx ot = 0) (h1 : ¬ ((0 ≤ s ∧ s < nx.length) ∧ 0 ≤ a ∧ a < i)) : stp i st nx ot s a = (0, 0, 2) := by unfold stp; rw [if_pos h, if_neg h1]
theorem stp_ok {i st : Int} {nx ot : List (List Int)} {s a : Nat} (h : vld i st nx ot = 0) (h1 : s < nx.length) (h2 : (a : Int) < i) : stp i st nx ot s a = ((nN nx s a : Int), oN ot s a, 0) := by unfold stp; rw [if_pos h, if_pos (by omega)]; rfl
end Go.Proofs.Ytkgdgnmobahhfaa
end

section
/- From, Run and Step of a machine. -/
namespace Go.Proofs.Ytkgdgnmobahhfaa
open Go.RowKit

theorem ret_from {A : Option Addr} {l l' c : Nat} {x x' y y' : Int} (h1 : l = l') (h2 : x = x') (h3 : y = y') : Ending.returned (.tuple #[.slice A l c, .int .i64 x, .int .i64 y]) = .returned (.tuple #[.slice A l' c, .int .i64 x', .int .i64 y']) := by rw [h1, h2, h3]
theorem ret_run {A : Option Addr} {l l' c : Nat} {y y' : Int} (h1 : l = l') (h3 : y = y') : Ending.returned (.tuple #[.slice A l c, .int .i64 y]) = .returned (.tuple #[.slice A l' c, .int .i64 y']) := by rw [h1, h3]
theorem ret_three {k k' k'' : IntKind} {a b c a' b' c' : Int} (h1 : a = a') (h2 : b = b') (h3 : c = c') : Ending.returned (.tuple #[.int k a, .int k' b, .int k'' c]) = .returned (.tuple #[.int k a', .int k' b', .int k'' c']) := by rw [h1, h2, h3]

set_option maxHeartbeats 2000000 in
set_option maxRecDepth 100000 in
theorem pfrom (i st : Int) (A B D : Option Addr) (n c m d k e : Nat) (nx ot : List (List Int)) (s : Int) (xs : List Int) (w : World) (hx : Lists w A n nx) (ho : Lists w B m ot) (hD : Ints w D k xs) :
    Calls Try.prog 79 #[.agg #[.int .i64 i, .int .i64 st, .slice A n c, .slice B m d], .int .i64 s, .slice D k e] w fun e w' => ∃ A' c',
      e = .returned (.tuple #[.slice A' (frm i st nx ot s xs).1.length c', .int .i64 (frm i st nx ot s xs).2.1, .int .i64 (frm i st nx ot s xs).2.2]) ∧ Owned w' w.heap.size (.slice A' (frm i st nx ot s xs).1.length c') (frm i st nx ot s xs).1 ∧ Below w.heap.size w w' := by
  have L1 := Lib.hid hx.1
  have LD := Lib.hid hD.1
  have hn := hx.2.1
  have hk := hD.2.1
  have hb0 := alloc_below w (.cells #[.int .i64 i, .int .i64 st, .slice A n c, .slice B m d] 56)
  have HZ := Lib.hid (show (w.alloc (.cells #[.int .i64 i, .int .i64 st, .slice A n c, .slice B m d] 56)).heap.size = w.heap.size + 1 by simp)
  by_cases hv : vld i st nx ot = 0
  · have HV := Lib.hid hv
    obtain ⟨i, st, n', rfl, rfl, hM⟩ := vld_zero hv
    obtain rfl : n = n' := by have := hM.nxl; rw [L1.out] at this; exact this
    obtain rfl : m = n := by have := hM.otl; rw [ho.1] at this; exact this
    clear hv
    by_cases hs : 0 ≤ s ∧ s < m
    · have HS := Lib.hid hs
      have HT := Lib.hid ((decide_eq_true hs).symm)
      by_cases hc : chk xs i = 0
      · obtain ⟨s, rfl⟩ : ∃ t : Nat, s = t := ⟨s.toNat, by omega⟩
        have hfin := Lib.hid (frm_ok (s := s) HV.out (by rw [L1.out]; omega) hc)
        have HC := Lib.hid hc
        clear hs hc
        go_enter Try.func79, Try.ntmps79
        go_wp2_with fail
        refine (pvalid _ _ _ _ _ _ _ _ _ _ _ (hx.below hb0) (ho.below hb0)).mono ?_
        rintro e w1 ⟨rfl, b1⟩
        rw [HZ.out] at b1
        rw [HV.out]
        obtain ⟨k0, k1, k2, k3⟩ := box4 b1
        go_wp2_with fail
        refine (pisst _ _ _ _ _ _ _ _ _ _ _ hn HT.out).mono ?_
        rintro e w2 ⟨rfl, b2⟩
        have b2 := b1.trans (b2.mono (by have := b1.size; simpa using this))
        obtain ⟨k0, k1, k2, k3⟩ := box4 b2
        have bw := hb0.trans (b2.mono (Nat.le_succ _))
        go_wp2_with fail
        refine (wcheck _ _ _ _ _ _ (hD.below bw)).mono ?_
        rintro e w3 ⟨rfl, rfl⟩
        rw [HC.out]
        have ba := alloc_below w2 (.cells #[.int .i64 i, .int .i64 st, .slice A m c, .slice B m d, .int .i64 s] 137)
        have hR : Rnr (w2.alloc (.cells #[.int .i64 i, .int .i64 st, .slice A m c, .slice B m d, .int .i64 s] 137)) w2.heap.size i st A m c B m d s := heap_alloc_new w2 _
        have HR := Lib.hid hR
        have hsy := Lib.hid (chk_zero HC.out).2.2.2.mem
        have hg := bw.size
        have bwa := bw.trans (ba.mono hg)
        have hsn : s < m := by have := HS.out; omega
        clear hR ba
        go_wp2_with fail
        refine (prun hM hx ho bwa HR.out hg hsn hD hsy.out).mono ?_
        rintro e w4 ⟨A4, c4, rfl, ho4, b4, hR4⟩
        obtain ⟨d2, d3, d4, _⟩ := hR4.cells
        have HR4 := Lib.hid hR4
        have ho4 := Lib.hid ho4
        clear hR4
        go_wp2
        go_quiet (fail)
        go_wp2
        go_ret3
        have hlen : (runO nx ot s xs).length = k := by rw [runO_len, LD.out]
        exact ⟨A4, c4, by rw [hfin.out]; exact ret_from hlen.symm rfl rfl, by rw [hfin.out]; show Owned _ _ (.slice A4 (runO nx ot s xs).length c4) _; rw [hlen]; exact ho4.out, below_drewN b4 _⟩
      · have hfin := Lib.hid (frm_word HV.out (by rw [L1.out]; exact HS.out) hc)
        have hne : (chk xs i != 0) = true := by simpa using hc
        clear hs
        go_enter Try.func79, Try.ntmps79
        go_wp2_with fail
        refine (pvalid _ _ _ _ _ _ _ _ _ _ _ (hx.below hb0) (ho.below hb0)).mono ?_
        rintro e w1 ⟨rfl, b1⟩
        rw [HZ.out] at b1
        rw [HV.out]
        obtain ⟨k0, k1, k2, k3⟩ := box4 b1
        go_wp2_with fail
        refine (pisst _ _ _ _ _ _ _ _ _ _ _ hn HT.out).mono ?_
        rintro e w2 ⟨rfl, b2⟩
        have b2 := b1.trans (b2.mono (by have := b1.size; simpa using this))
        obtain ⟨k0, k1, k2, k3⟩ := box4 b2
        have bw := hb0.trans (b2.mono (Nat.le_succ _))
        go_wp2_with fail
        refine (wcheck _ _ _ _ _ _ (hD.below bw)).mono ?_
        rintro e w3 ⟨rfl, rfl⟩
        generalize chk xs i = E at hne hfin hc
        clear hc
        go_wp2
        go_ret3
        exact ⟨none, 0, by rw [hfin.out]; rfl, by rw [hfin.out]; exact Owned.nil _ _, bw⟩
    · have hfin := Lib.hid (frm_state (xs := xs) HV.out (by rw [L1.out]; exact hs))
      have HT := Lib.hid ((decide_eq_false hs).symm)
      clear hs
      go_enter Try.func79, Try.ntmps79
      go_wp2_with fail
      refine (pvalid _ _ _ _ _ _ _ _ _ _ _ (hx.below hb0) (ho.below hb0)).mono ?_
      rintro e w1 ⟨rfl, b1⟩
      rw [HZ.out] at b1
      rw [HV.out]
      obtain ⟨k0, k1, k2, k3⟩ := box4 b1
      go_wp2_with fail
      refine (pisst _ _ _ _ _ _ _ _ _ _ _ hn HT.out).mono ?_
      rintro e w2 ⟨rfl, b2⟩
      have b2 := b1.trans (b2.mono (by have := b1.size; simpa using this))
      have bw := hb0.trans (b2.mono (Nat.le_succ _))
      go_wp2
      go_ret3
      exact ⟨none, 0, by rw [hfin.out]; rfl, by rw [hfin.out]; exact Owned.nil _ _, bw⟩
  · have hfin := Lib.hid (frm_bad (s := s) (xs := xs) hv)
    have hne : (vld i st nx ot != 0) = true := by simpa using hv
    go_enter Try.func79, Try.ntmps79
    go_wp2_with fail
    refine (pvalid _ _ _ _ _ _ _ _ _ _ _ (hx.below hb0) (ho.below hb0)).mono ?_
    rintro e w1 ⟨rfl, b1⟩
    generalize vld i st nx ot = E at hne hfin hv
    clear hv
    go_wp2
    go_ret3
    exact ⟨none, 0, by rw [hfin.out]; rfl, by rw [hfin.out]; exact Owned.nil _ _, bt hb0 b1⟩

set_option maxHeartbeats 1000000 in
set_option maxRecDepth 100000 in
theorem prunw (i st : Int) (A B D : Option Addr) (n c m d k e : Nat) (nx ot : List (List Int)) (xs : List Int) (w : World) (hx : Lists w A n nx) (ho : Lists w B m ot) (hD : Ints w D k xs) :
    Calls Try.prog 38 #[.agg #[.int .i64 i, .int .i64 st, .slice A n c, .slice B m d], .slice D k e] w fun e w' => ∃ A' c',
      e = .returned (.tuple #[.slice A' (frm i st nx ot st xs).1.length c', .int .i64 (frm i st nx ot st xs).2.2]) ∧ Owned w' w.heap.size (.slice A' (frm i st nx ot st xs).1.length c') (frm i st nx ot st xs).1 ∧ Below w.heap.size w w' := by
  have hb0 := alloc_below w (.cells #[.int .i64 i, .int .i64 st, .slice A n c, .slice B m d] 56)
  go_enter Try.func38, Try.ntmps38
  go_wp2_with fail
  refine (pfrom _ _ _ _ _ _ _ _ _ _ _ _ _ _ _ _ (hx.below hb0) (ho.below hb0) (hD.below hb0)).mono ?_
  rintro e w1 ⟨A1, c1, rfl, h1, b1⟩
  have h2 := Lib.hid (h1.lower (base' := w.heap.size) hb0.size)
  have b2 := Lib.hid (bt hb0 b1)
  clear h1 b1
  go_wp2
  go_ret2
  exact ⟨A1, c1, rfl, h2.out, b2.out⟩

end Go.Proofs.Ytkgdgnmobahhfaa
end

section
/- The reference: Outs. -/
namespace Go.Proofs.Ytkgdgnmobahhfaa
open Go.RowKit

theorem skol {α : Sort _} {p : Nat → α → Prop} (h : ∀ k, ∃ x, p k x) : ∃ F : Nat → α, ∀ k, p k (F k) := ⟨fun k => Classical.choose (h k), fun k => Classical.choose_spec (h k)⟩

/-- append at a step of a region that draws. -/
theorem step_append_run {P : Program} {ops : Array Oper} {o : Oper} {a : Act} {w : World} {K : Act → World → Prop} {Q : Exit → Act → World → Prop} {E : Prop} (hgd : o.guard = none) (s x : Operand) (t tn : TypeId)
    (ho : o.op = .call { callee := .builtin .append, args := #[s, x], argTypes := #[t, tn] }) (vs vx : Value) (hs : a.eval s = vs) (hx : a.eval x = vx)
    (v' : Value) (w' : World) (hr : (Builtin.append_ #[t, tn] o.type #[vs, vx]).run P w = .ok v' w') (h : K (a.put o.dst v') w') :
    if Region.wanted o (yielded ops a.tmps) = true then Oper.wp P o a w K Q else E := by
  have hw : Region.wanted o (yielded ops a.tmps) = true := by simp [Region.wanted, hgd]
  rw [if_pos hw]
  exact Lib.wp_append_run w s x t tn ho vs vx hs hx v' w' hr h

theorem Owned.drew {w : World} {base : Nat} {v : Value} {xs : List Int} (h : Owned w base v xs) (k : Nat) : Owned (w.drewN k) base v xs := h

/-- append of one number, behind any number of draws. -/
theorem app_all {wr : World} {base q : Nat} {A : Option Addr} {c : Nat} {xs : List Int} (h : Owned wr base (.slice A q c) xs) (x : Int) (hbase : base ≤ wr.heap.size) (hl : xs.length < 17592186044416) :
    ∃ F : Nat → (Option Addr × Nat) × World, ∀ k, (Builtin.append_ #[36, 36] 36 #[.slice A q c, .slice (some ⟨wr.heap.size, 0, none⟩) 1 1]).run Try.prog ((wr.drewN k).alloc (.cells #[.int .i64 x] 3)) = .ok (.slice (F k).1.1 (q + 1) (F k).1.2) (F k).2 ∧
      Owned (F k).2 base (.slice (F k).1.1 (q + 1) (F k).1.2) (xs ++ [x]) ∧ Below base wr (F k).2 := by
  have hq : q = xs.length := by obtain ⟨A', c', e⟩ := h.form; cases e; rfl
  refine skol (p := fun k (r : (Option Addr × Nat) × World) => (Builtin.append_ #[36, 36] 36 #[.slice A q c, .slice (some ⟨wr.heap.size, 0, none⟩) 1 1]).run Try.prog ((wr.drewN k).alloc (.cells #[.int .i64 x] 3)) = .ok (.slice r.1.1 (q + 1) r.1.2) r.2 ∧
      Owned r.2 base (.slice r.1.1 (q + 1) r.1.2) (xs ++ [x]) ∧ Below base wr r.2) fun k => ?_
  obtain ⟨A', c', w', h1, h2, h3, _⟩ := run_append_one (h.drew k) x hbase hl
  rw [← hq] at h1 h2
  exact ⟨((A', c'), w'), h1, h2, (below_drewN (Below.refl _ _) k).trans h3⟩

set_option maxHeartbeats 2000000 in
set_option maxRecDepth 100000 in
theorem routs (i st n : Nat) (A B D : Option Addr) (c d k e s : Nat) (nx ot : List (List Int)) (xs : List Int) (w : World) (hM : Mok i st n nx ot) (hx : Lists w A n nx) (ho : Lists w B n ot) (hs : s < n) (hD : Ints w D k xs) (hS : ∀ x, x ∈ xs → 0 ≤ x ∧ x < i) :
    Calls Try.prog 82 #[.agg #[.int .i64 i, .int .i64 st, .slice A n c, .slice B n d], .int .i64 s, .slice D k e] w fun e w' => ∃ A' c', e = .returned (.tuple #[.slice A' k c', .int .i64 (runS nx s xs)]) ∧ Owned w' w.heap.size (.slice A' k c') (runO nx ot s xs) ∧ Below w.heap.size w w' := by
  have L := Lib.hid hD.1
  have hk := hD.2.1
  have hN := hx.2.1
  have HS := Lib.hid hS
  clear hS
  have hb0 := alloc_below w (.cells #[.int .i64 i, .int .i64 st, .slice A n c, .slice B n d] 56)
  go_enter Try.func82, Try.ntmps82
  go_wp2
  go_loopw [1, 8, 9] (fun sv v j wr => ∃ (q s' : Nat) (A' : Option Addr) (c' : Nat), q ≤ k ∧ j = .int .i64 q ∧ v = .slice A' q c' ∧ sv = .int .i64 s' ∧ s' = runS nx s (xs.take q) ∧ s' < n ∧ Owned wr (w.heap.size + 1) (.slice A' q c') (runO nx ot s (xs.take q)) ∧ Below (w.heap.size + 1) (w.alloc (.cells #[.int .i64 i, .int .i64 st, .slice A n c, .slice B n d] 56)) wr) (fun _ _ j _ => k - (intOf j).toNat)
  case atStart => exact ⟨0, s, none, 0, Nat.zero_le _, rfl, rfl, rfl, rfl, hs, Owned.nil _ _, Below.refl _ _⟩
  case round =>
    obtain ⟨q, s', A', c', hq, rfl, rfl, rfl, hss, hs', hown, hbr⟩ := hrel
    have hbw := hb0.trans (hbr.mono (Nat.le_succ _))
    have hsz : w.heap.size + 1 ≤ wr.heap.size := by have := hbr.size; simpa using this
    have HSS := Lib.hid hss
    clear hss
    by_cases hlt : q < k
    · obtain ⟨k0, k1, k2, k3⟩ := box4 hbr
      obtain ⟨b1, o1, rfl, hb1, hc0⟩ := hD.at_ hlt
      have hc1 := (hbw.cell (p := ⟨b1, o1 + q, none⟩) hb1).trans hc0
      clear hc0
      have hxm := HS.out (xs.getD q 0) (by rw [List.getD_eq_getElem?_getD, List.getElem?_eq_getElem (by rw [L.out]; exact hlt)]; exact List.getElem_mem _)
      have hO := Lib.hid (runO_next (nx := nx) (ot := ot) (s := s) (j := q) (xs := xs) (by rw [L.out]; exact hlt))
      have hT := Lib.hid (runS_next (nx := nx) (s := s) (j := q) (xs := xs) (by rw [L.out]; exact hlt))
      rw [show xs[q]?.getD 0 = xs.getD q 0 by simp, ← HSS.out] at hO hT
      generalize xs.getD q 0 = x at hc1 hxm hO hT
      obtain ⟨a, rfl⟩ : ∃ a : Nat, x = a := ⟨x.toNat, by omega⟩
      have ha : a < i := by omega
      rw [Int.toNat_natCast] at hO hT
      have hlen : (runO nx ot s (xs.take q)).length = q := by rw [runO_len, List.length_take, L.out]; omega
      generalize runO nx ot s (xs.take q) = os at hown hO hlen
      obtain ⟨F, hF⟩ := app_all hown (oN ot s' a) hsz (by rw [hlen]; omega)
      rw [← hO.out] at hF
      have HF := Lib.hid hF
      obtain ⟨g1, p1, A1, n1, c1, hA, hg1, hd1, hr1⟩ := hx.at_ hs'
      obtain ⟨g2, p2, A2, n2, c2, hB, hg2, hd2, hr2⟩ := ho.at_ hs'
      have hi1 := (hM.row s' hs').1
      have hi2 := (hM.row s' hs').2.1
      have hl1 := hr1.1
      have hl2 := hr2.1
      obtain rfl : n1 = i := by omega
      obtain rfl : n2 = n1 := by omega
      obtain ⟨g3, p3, rfl, hg3, hy1⟩ := hr1.at_ ha
      obtain ⟨g4, p4, rfl, hg4, hy2⟩ := hr2.at_ ha
      rw [hM.nN_eq hs' ha] at hy1
      change w.cell? _ = some (.int .i64 (oN ot s' a)) at hy2
      have hlt2 := hM.nN_lt hs' ha
      have hn1 := hr1.2.1
      subst hA hB
      clear hl1 hl2 hi1 hi2 hlen
      have tr : ∀ (g o : Nat) (v : Value), g < w.heap.size → w.cell? ⟨g, o, none⟩ = some v → wr.cell? ⟨g, o, none⟩ = some v := fun g o v h h2 => (hbw.cell (p := ⟨g, o, none⟩) h).trans h2
      have trF : ∀ (g o : Nat) (v : Value), g < w.heap.size + 1 → wr.cell? ⟨g, o, none⟩ = some v → ∀ k, (F k).2.cell? ⟨g, o, none⟩ = some v := fun g o v h h2 k => ((hF k).2.2.cell (p := ⟨g, o, none⟩) h).trans h2
      have e1 := tr _ _ _ hg1 hd1
      have e2 := tr _ _ _ hg2 hd2
      have e3 := tr _ _ _ hg3 hy1
      have e4 := tr _ _ _ hg4 hy2
      have f1 := trF _ _ _ (by omega) e1
      have f3 := trF _ _ _ (by omega) e3
      have f5 := trF _ _ _ (by omega) hc1
      have f6 := trF _ _ _ (by omega) k2
      clear tr trF hF hd1 hd2 hy1 hy2 k0 k1
      go_wp2
      go_region_law (refine step_append_run rfl _ _ _ _ rfl _ _ rfl rfl _ _ (HF.out _).1 ?_)
      all_goals
        go_wp2
        go_quiet (fail)
        go_wp2
        go_roundw
        case rel => exact ⟨q + 1, _, _, _, by omega, by go_num, rfl, rfl, hT.out.symm, hlt2, (HF.out _).2.1, below_drewN (hbr.trans (HF.out _).2.2) _⟩
        case measure => simp [intOf]; omega
    · obtain rfl : q = k := by omega
      have hall := Lib.hid (List.take_of_length_le (l := xs) (i := q) (by rw [L.out]; exact Nat.le_refl _))
      have hss := HSS.out
      rw [hall.out] at hown hss
      subst hss
      go_wp2
      go_ret2
      exact ⟨A', c', rfl, hown.lower (Nat.le_succ _), hbw⟩
end Go.Proofs.Ytkgdgnmobahhfaa
end

section
/- Valid of a machine by the reference. -/
namespace Go.Proofs.Ytkgdgnmobahhfaa
open Go.RowKit

set_option maxHeartbeats 2000000 in
set_option maxRecDepth 100000 in
theorem rvalid (i st : Int) (A B : Option Addr) (n c m d : Nat) (nx ot : List (List Int)) (w : World) (hx : Lists w A n nx) (ho : Lists w B m ot) :
    Calls Try.prog 81 #[.agg #[.int .i64 i, .int .i64 st, .slice A n c, .slice B m d]] w fun e w' => e = .returned (.int .i64 (vld i st nx ot)) ∧ Below w.heap.size w w' := by
  have L1 := Lib.hid hx.1
  have L2 := Lib.hid ho.1
  have hn := hx.2.1
  have hm := ho.2.1
  have hb0 := alloc_below w (.cells #[.int .i64 i, .int .i64 st, .slice A n c, .slice B m d] 56)
  have hsz0 : (w.alloc (.cells #[.int .i64 i, .int .i64 st, .slice A n c, .slice B m d] 56)).heap.size = w.heap.size + 1 := by simp
  have HZ := Lib.hid hsz0
  clear hsz0
  by_cases hi : 1 ≤ i ∧ i ≤ 64
  · have HI := Lib.hid hi
    obtain ⟨hi1, hi2⟩ := hi
    have i1 : decide (i < 1) = false := by simpa using hi1
    have i2 : decide (64 < i) = false := by simpa using hi2
    by_cases h0 : n = 0
    · have hfin := Lib.hid (vld_empty (st := st) (ot := ot) HI.out (by rw [L1.out]; exact h0))
      subst h0
      go_enter Try.func81, Try.ntmps81
      go_wp2
      go_ret
      exact ⟨ret_int hfin.out.symm, hb0⟩
    · have z0 : ((n : Int) == 0) = false := by simp; omega
      by_cases h1 : 128 < n
      · have hfin := Lib.hid (vld_many (st := st) (ot := ot) HI.out (by rw [L1.out]; exact h1))
        clear h0
        go_enter Try.func81, Try.ntmps81
        go_wp2
        go_ret
        exact ⟨ret_int hfin.out.symm, hb0⟩
      · have z1 : decide ((128 : Int) < (n : Int)) = false := by simp; omega
        by_cases h2 : 0 ≤ st ∧ st < n
        · have H2 := Lib.hid h2
          have s1 : decide (st < 0) = false := by simpa using h2.1
          have s2 : decide ((n : Int) ≤ st) = false := by simpa using h2.2
          by_cases h3 : m = n
          · subst h3
            have z3 : ((m : Int) != (m : Int)) = false := by simp
            have hrows := Lib.hid (vld_rows (i := i) (st := st) (nx := nx) (ot := ot) HI.out (by rw [L1.out]; exact h0) (by rw [L1.out]; exact h1) (by rw [L1.out]; exact H2.out) (by rw [L1.out, L2.out]))
            clear h0 h2
            go_enter Try.func81, Try.ntmps81
            go_wp2
            go_loopw [3] (fun x wr => ∃ j : Nat, j ≤ m ∧ x = .int .i64 j ∧ (∀ t, t < j → rowAt i nx ot t = 0) ∧ Below (w.heap.size + 1) (w.alloc (.cells #[.int .i64 i, .int .i64 st, .slice A m c, .slice B m d] 56)) wr) (fun x _ => m - (intOf x).toNat)
            case atStart => exact ⟨0, Nat.zero_le _, rfl, fun t h => absurd h (by omega), Below.refl _ _⟩
            case round =>
              obtain ⟨j, hj, rfl, hok, hbr⟩ := hrel
              have hbw := hb0.trans (hbr.mono (Nat.le_succ _))
              have hsz1 : w.heap.size + 1 ≤ wr.heap.size := by have := hbr.size; simpa using this
              have HK := Lib.hid hok
              clear hok
              obtain ⟨k0, k1, k2, k3⟩ := box4 hbr
              by_cases hlt : j < m
              · have HV := Lib.hid (show rowAt i nx ot j = rowE i m (nx.getD j []) (ot.getD j []) by unfold rowAt; rw [L1.out])
                by_cases he : rowE i m (nx.getD j []) (ot.getD j []) = 0
                · have hnx := Lib.hid (show ∀ t, t < j + 1 → rowAt i nx ot t = 0 from fun t ht => by
                    by_cases e : t = j
                    · subst e; rw [HV.out]; exact he
                    · exact HK.out t (by omega))
                  have HE := Lib.hid he
                  clear he
                  go_wp2_with fail
                  refine (rrow _ _ _ _ _ _ _ _ _ _ _ _ (hx.below hbw) (ho.below hbw) hlt hlt).mono ?_
                  rintro e w2 ⟨rfl, b2⟩
                  have b3 := hbr.trans (b2.mono hsz1)
                  rw [HE.out]
                  obtain ⟨k0, k1, k2, k3⟩ := box4 b3
                  go_wp2
                  go_roundw
                  case rel => exact ⟨j + 1, by omega, by go_num, hnx.out, b3⟩
                  case measure => simp [intOf]; omega
                · have hfin := Lib.hid (hrows.out.trans (fstE_bad HK.out (by rw [HV.out]; exact he) (by rw [L1.out]; exact hlt)))
                  have he2 : (rowE i m (nx.getD j []) (ot.getD j []) != 0) = true := by simpa using he
                  go_wp2_with fail
                  refine (rrow _ _ _ _ _ _ _ _ _ _ _ _ (hx.below hbw) (ho.below hbw) hlt hlt).mono ?_
                  rintro e w2 ⟨rfl, b2⟩
                  have b3 := hbr.trans (b2.mono hsz1)
                  have HF := Lib.hid (hfin.out.trans HV.out)
                  clear hfin HV
                  generalize rowE i m (nx.getD j []) (ot.getD j []) = E at he2 he HF
                  clear he
                  go_wp2
                  go_ret
                  exact ⟨ret_int HF.out.symm, hb0.trans (b3.mono (Nat.le_succ _))⟩
              · obtain rfl : j = m := by omega
                have hfin := Lib.hid (hrows.out.trans (fstE_ok (by rw [L1.out]; exact HK.out)))
                go_wp2
                go_ret
                exact ⟨ret_int hfin.out.symm, hbw⟩
          · have z3 : ((m : Int) != (n : Int)) = true := by simp; omega
            have hfin := Lib.hid (vld_out (i := i) (st := st) (nx := nx) (ot := ot) HI.out (by rw [L1.out]; exact h0) (by rw [L1.out]; exact h1) (by rw [L1.out]; exact H2.out) (by rw [L1.out, L2.out]; exact h3))
            clear h0 h3
            go_enter Try.func81, Try.ntmps81
            go_wp2
            go_ret
            exact ⟨ret_int hfin.out.symm, hb0⟩
        · have hfin := Lib.hid (vld_start (i := i) (st := st) (nx := nx) (ot := ot) HI.out (by rw [L1.out]; exact h0) (by rw [L1.out]; exact h1) (by rw [L1.out]; exact h2))
          by_cases h3 : 0 ≤ st
          · have s1 : decide (st < 0) = false := by simpa using h3
            have s2 : decide ((n : Int) ≤ st) = true := by simp; omega
            clear h0 h2
            go_enter Try.func81, Try.ntmps81
            go_wp2
            go_ret
            exact ⟨ret_int hfin.out.symm, hb0⟩
          · have s1 : decide (st < 0) = true := by simpa using h3
            clear h0 h2
            go_enter Try.func81, Try.ntmps81
            go_wp2
            go_ret
            exact ⟨ret_int hfin.out.symm, hb0⟩
  · have hfin := Lib.hid (vld_in (st := st) (nx := nx) (ot := ot) hi)
    by_cases hi1 : 1 ≤ i
    · have hi2 : 64 < i := by omega
      have t1 : ¬ i < 1 := by omega
      clear hi
      go_enter Try.func81, Try.ntmps81
      go_wp2
      go_ret
      exact ⟨ret_int hfin.out.symm, hb0⟩
    · have t1 : i < 1 := by omega
      clear hi hi1
      go_enter Try.func81, Try.ntmps81
      go_wp2
      go_ret
      exact ⟨ret_int hfin.out.symm, hb0⟩
end Go.Proofs.Ytkgdgnmobahhfaa
end

section
/- Valid of a hypothesis: both sides. -/
namespace Go.Proofs.Ytkgdgnmobahhfaa
open Go.RowKit

/-- The first error of the access words. -/
def hvF (i : Int) (st : Nat) (nx : List (List Int)) : Nat → List (List Int) → Int
  | _, [] => 0
  | s, w :: r => if chk w i = 0 then (if runS nx st w = s then hvF i st nx (s + 1) r else 15) else chk w i
/-- The error of a hypothesis. -/
def hvE (i st : Int) (nx ot acc : List (List Int)) : Int :=
  if vld i st nx ot = 0 then (if acc.length = nx.length then (if hvF i st.toNat nx 0 acc = 0 then (if (acc.getD st.toNat []).length = 0 then 0 else 10) else hvF i st.toNat nx 0 acc) else 1) else vld i st nx ot
theorem drop_at {xss : List (List Int)} {k : Nat} (h : k < xss.length) : xss.drop k = xss.getD k [] :: xss.drop (k + 1) := by
  rw [List.drop_eq_getElem_cons h, List.getD_eq_getElem?_getD, List.getElem?_eq_getElem h]; rfl
theorem hvF_on {i : Int} {st : Nat} {nx acc : List (List Int)} {k : Nat} (h : k < acc.length) (h1 : chk (acc.getD k []) i = 0) (h2 : runS nx st (acc.getD k []) = k) : hvF i st nx k (acc.drop k) = hvF i st nx (k + 1) (acc.drop (k + 1)) := by
  rw [drop_at h, hvF, if_pos h1, if_pos h2]
theorem hvF_state {i : Int} {st : Nat} {nx acc : List (List Int)} {k : Nat} (h : k < acc.length) (h1 : chk (acc.getD k []) i = 0) (h2 : ¬ runS nx st (acc.getD k []) = k) : hvF i st nx k (acc.drop k) = 15 := by
  rw [drop_at h, hvF, if_pos h1, if_neg h2]
theorem hvF_word {i : Int} {st : Nat} {nx acc : List (List Int)} {k : Nat} (h : k < acc.length) (h1 : ¬ chk (acc.getD k []) i = 0) : hvF i st nx k (acc.drop k) = chk (acc.getD k []) i := by
  rw [drop_at h, hvF, if_neg h1]
/-- What a valid hypothesis is. -/
theorem hvF_zero {i : Int} {st : Nat} {nx : List (List Int)} : ∀ (acc : List (List Int)) (s : Nat), hvF i st nx s acc = 0 → ∀ j, j < acc.length → chk (acc.getD j []) i = 0 ∧ runS nx st (acc.getD j []) = s + j
  | [], _, _, j, hj => absurd hj (by simp)
  | w :: r, s, h, j, hj => by
    rw [hvF] at h
    split at h
    · next h1 =>
      split at h
      · next h2 =>
        cases j with
        | zero => exact ⟨h1, h2⟩
        | succ j =>
          have := hvF_zero r (s + 1) h j (by simp at hj; omega)
          exact ⟨this.1, by rw [show s + (j + 1) = s + 1 + j by omega]; exact this.2⟩
      · omega
    · omega
theorem hvE_vld {i st : Int} {nx ot acc : List (List Int)} (h : ¬ vld i st nx ot = 0) : hvE i st nx ot acc = vld i st nx ot := by unfold hvE; rw [if_neg h]
theorem hvE_len {i st : Int} {nx ot acc : List (List Int)} (h : vld i st nx ot = 0) (h1 : ¬ acc.length = nx.length) : hvE i st nx ot acc = 1 := by unfold hvE; rw [if_pos h, if_neg h1]
theorem hvE_bad {i st : Int} {nx ot acc : List (List Int)} (h : vld i st nx ot = 0) (h1 : acc.length = nx.length) (h2 : ¬ hvF i st.toNat nx 0 acc = 0) : hvE i st nx ot acc = hvF i st.toNat nx 0 acc := by unfold hvE; rw [if_pos h, if_pos h1, if_neg h2]
theorem hvE_st {i st : Int} {nx ot acc : List (List Int)} (h : vld i st nx ot = 0) (h1 : acc.length = nx.length) (h2 : hvF i st.toNat nx 0 acc = 0) (h3 : ¬ (acc.getD st.toNat []).length = 0) : hvE i st nx ot acc = 10 := by unfold hvE; rw [if_pos h, if_pos h1, if_pos h2, if_neg h3]
theorem hvE_ok {i st : Int} {nx ot acc : List (List Int)} (h : vld i st nx ot = 0) (h1 : acc.length = nx.length) (h2 : hvF i st.toNat nx 0 acc = 0) (h3 : (acc.getD st.toNat []).length = 0) : hvE i st nx ot acc = 0 := by unfold hvE; rw [if_pos h, if_pos h1, if_pos h2, if_pos h3]
theorem hvE_zero {i st : Int} {nx ot acc : List (List Int)} (h : hvE i st nx ot acc = 0) : vld i st nx ot = 0 ∧ acc.length = nx.length ∧ (∀ j, j < acc.length → chk (acc.getD j []) i = 0 ∧ runS nx st.toNat (acc.getD j []) = j) ∧ (acc.getD st.toNat []).length = 0 := by
  unfold hvE at h
  split at h
  · next h1 =>
    split at h
    · next h2 =>
      split at h
      · next h3 =>
        split at h
        · next h4 =>
          refine ⟨h1, h2, fun j hj => ?_, h4⟩
          have := hvF_zero acc 0 h3 j hj
          exact ⟨this.1, by rw [this.2]; omega⟩
        · omega
      · omega
    · omega
  · omega

set_option linter.unusedSimpArgs false in
set_option linter.unusedVariables false in
set_option maxHeartbeats 4000000 in
set_option maxRecDepth 100000 in
theorem phvalid (i st : Int) (A B C : Option Addr) (n c m d k e : Nat) (nx ot acc : List (List Int)) (w : World) (hx : Lists w A n nx) (ho : Lists w B m ot) (hC : Lists w C k acc) :
    Calls Try.prog 41 #[.agg #[.int .i64 i, .int .i64 st, .slice A n c, .slice B m d, .slice C k e]] w fun r w' => r = .returned (.int .i64 (hvE i st nx ot acc)) ∧ Below w.heap.size w w' := by
  obtain ⟨w0, hw0⟩ : ∃ w0, w0 = w.alloc (.cells #[.int .i64 i, .int .i64 st, .slice A n c, .slice B m d, .slice C k e] 65) := ⟨_, rfl⟩
  have hb0 : Below w.heap.size w w0 := by rw [hw0]; exact alloc_below _ _
  have m0 : Bx w0 w.heap.size #[.int .i64 i, .int .i64 st, .slice A n c, .slice B m d, .slice C k e] 65 := by rw [hw0]; exact bx_new _ _ _
  have HM := Lib.hid (fun (W : World) (h : Below w0.heap.size w0 W) => m0.on h)
  have HX := Lib.hid (fun (W : World) (h : Below w0.heap.size w0 W) => (hx.below hb0).below h)
  have HO := Lib.hid (fun (W : World) (h : Below w0.heap.size w0 W) => (ho.below hb0).below h)
  have HC := Lib.hid (fun (W : World) (h : Below w0.heap.size w0 W) => (hC.below hb0).below h)
  have HB0 := Lib.hid hb0
  have HW0 := Lib.hid hw0
  have HLX := Lib.hid hx.1
  have HLO := Lib.hid ho.1
  have HLC := Lib.hid hC.1
  have hn := hx.2.1
  have hk := hC.2.1
  have hbc := Below.refl w0.heap.size w0
  have k0 := m0.cell 0
  have k1 := m0.cell 1
  have k2 := m0.cell 2
  have k3 := m0.cell 3
  have k4 := m0.cell 4
  simp at k0 k1 k2 k3 k4
  rw [hw0] at k0 k1 k2 k3 k4
  clear hw0 hb0 m0 hx ho hC
  go_enter Try.func41, Try.ntmps41
  go_wp2_with fail
  rw [← HW0.out]
  refine (pvalid i st A B n c m d nx ot _ (HX.out _ hbc) (HO.out _ hbc)).mono ?_
  rintro r w1 ⟨rfl, a1⟩
  have hbc := bt hbc a1
  clear a1 k0 k1 k2 k3 k4
  by_cases hv : vld i st nx ot = 0
  case neg =>
    have HV := Lib.hid (hvE_vld (acc := acc) hv)
    obtain ⟨E, hE⟩ : ∃ E, E = vld i st nx ot := ⟨_, rfl⟩
    rw [← hE] at hv ⊢
    have hne : (E != 0) = true := by simpa using hv
    have HE := Lib.hid hE
    clear hE
    go_wp2_with fail
    go_ret
    exact ⟨by rw [HV.out, ← HE.out]; rfl, bt HB0.out hbc⟩
  obtain ⟨i, st, n', rfl, rfl, hMok⟩ := vld_zero hv
  obtain rfl : n' = n := by rw [← HLX.out]; exact hMok.nxl.symm
  obtain rfl : m = n' := by rw [← HLO.out]; exact hMok.otl
  have HMOK := Lib.hid hMok
  have HV := Lib.hid hv
  have hst := hMok.st
  have hn2 := hMok.n2
  rw [hv]
  clear hv hMok
  have k0 := (HM.out _ hbc).cell 0
  have k1 := (HM.out _ hbc).cell 1
  have k2 := (HM.out _ hbc).cell 2
  have k3 := (HM.out _ hbc).cell 3
  have k4 := (HM.out _ hbc).cell 4
  simp at k0 k1 k2 k3 k4
  by_cases hl : k = m
  case neg =>
    have HE := Lib.hid (hvE_len (acc := acc) HV.out (by rw [HLC.out, HLX.out]; exact hl))
    have hne : ((k : Int) != (m : Int)) = true := by rw [bne_iff_ne]; omega
    have hli : ¬ (k : Int) = (m : Int) := by omega
    go_wp2_with fail
    go_ret
    exact ⟨by rw [HE.out]; rfl, bt HB0.out hbc⟩
  obtain rfl : k = m := hl
  have hne : ((k : Int) != (k : Int)) = false := by simp
  have HBC := Lib.hid hbc
  obtain ⟨R, hR⟩ : ∃ R, R = hvF (i : Int) st nx 0 acc := ⟨_, rfl⟩
  have HR := Lib.hid hR
  clear hR
  go_wp2_with fail
  clear k0 k1 k2 k3 k4
  go_loopw [26] (fun v26 wr => ∃ q : Nat, v26 = .int .i64 q ∧ q ≤ k ∧ Hid (hvF (i : Int) st nx q (acc.drop q) = R) ∧ Hid (Below w0.heap.size w0 wr)) (fun v26 _ => k - (intOf v26).toNat)
  case atStart => exact ⟨0, rfl, Nat.zero_le _, Lib.hid (by rw [List.drop_zero]; exact HR.out.symm), HBC⟩
  case round =>
    obtain ⟨q, rfl, hq, HQ, HBR⟩ := hrel
    have k0 := (HM.out _ HBR.out).cell 0
    have k1 := (HM.out _ HBR.out).cell 1
    have k2 := (HM.out _ HBR.out).cell 2
    have k3 := (HM.out _ HBR.out).cell 3
    have k4 := (HM.out _ HBR.out).cell 4
    simp at k0 k1 k2 k3 k4
    by_cases hlt : q < k
    · obtain ⟨bq, oq, Aj, nj, cj, rfl, _, j1, j2⟩ := (HC.out _ HBR.out).at_ hlt
      obtain ⟨u, hu⟩ : ∃ u, u = acc.getD q [] := ⟨_, rfl⟩
      rw [← hu] at j2
      have HU := Lib.hid hu
      clear hu
      have HJ := Lib.hid j2
      clear j2
      by_cases hc : chk u i = 0
      · have hsy := (chk_zero hc).2.2.2.mem
        have HSL := Lib.hid (HMOK.out.runS_lt u st HMOK.out.st hsy)
        by_cases hs : runS nx st u = q
        · have HNX := Lib.hid (hvF_on (nx := nx) (st := st) (acc := acc) (by rw [HLC.out]; exact hlt) (by rw [← HU.out]; exact hc) (by rw [← HU.out]; exact hs))
          have hqq : ((q : Int) != (q : Int)) = false := by simp
          have HFR := Lib.hid (pfrom i st A B Aj k c k d nj cj nx ot st u wr (HX.out _ HBR.out) (HO.out _ HBR.out) HJ.out)
          have HF2 := Lib.hid (frm_ok HV.out (by rw [HLX.out]; exact hst) hc)
          clear hc hsy
          go_wp2_with fail
          refine HFR.out.mono ?_
          rintro r w2 ⟨A2, c2, rfl, o2, a2⟩
          rw [HF2.out, hs] at o2 ⊢
          have HA2 := Lib.hid (bt HBR.out a2)
          clear o2 a2 hs k0 k1 k2 k3 k4
          go_wp2_with fail
          go_roundw
          case rel => exact ⟨q + 1, by go_num, by omega, by rw [← HNX.out]; exact HQ, HA2⟩
          case measure => simp [intOf]; omega
        · have HNX := Lib.hid (hvF_state (nx := nx) (st := st) (acc := acc) (by rw [HLC.out]; exact hlt) (by rw [← HU.out]; exact hc) (by rw [← HU.out]; exact hs))
          obtain ⟨z, hz⟩ : ∃ z, z = runS nx st u := ⟨_, rfl⟩
          have hzz : ((z : Int) != (q : Int)) = true := by rw [bne_iff_ne, hz]; omega
          have hzd : ¬ (z : Int) = (q : Int) := by omega
          have HZ := Lib.hid hz
          have HFR := Lib.hid (pfrom i st A B Aj k c k d nj cj nx ot st u wr (HX.out _ HBR.out) (HO.out _ HBR.out) HJ.out)
          have HF2 := Lib.hid (frm_ok HV.out (by rw [HLX.out]; exact hst) hc)
          have HEE := Lib.hid (show hvE (i : Int) (st : Int) nx ot acc = 15 by rw [hvE_bad HV.out (by rw [HLC.out, HLX.out]) (by rw [Int.toNat_natCast, ← HR.out, ← HQ.out, HNX.out]; decide), Int.toNat_natCast, ← HR.out, ← HQ.out, HNX.out])
          clear hc hsy hz hs
          go_wp2_with fail
          refine HFR.out.mono ?_
          rintro r w2 ⟨A2, c2, rfl, o2, a2⟩
          rw [HF2.out, ← HZ.out] at o2 ⊢
          clear o2 k0 k1 k2 k3 k4
          go_wp2_with fail
          go_ret
          exact ⟨by rw [HEE.out]; rfl, bt HB0.out (bt HBR.out a2)⟩
      · have HNX := Lib.hid (hvF_word (nx := nx) (st := st) (acc := acc) (by rw [HLC.out]; exact hlt) (by rw [← HU.out]; exact hc))
        obtain ⟨E, hE⟩ : ∃ E, E = chk u i := ⟨_, rfl⟩
        have hEe : (E != 0) = true := by rw [hE]; simpa using hc
        have HE := Lib.hid hE
        have HFR := Lib.hid (pfrom i st A B Aj k c k d nj cj nx ot st u wr (HX.out _ HBR.out) (HO.out _ HBR.out) HJ.out)
        have HF2 := Lib.hid (frm_word (s := (st : Int)) HV.out ⟨by omega, by rw [HLX.out]; omega⟩ hc)
        have HEE := Lib.hid (show hvE (i : Int) (st : Int) nx ot acc = E by rw [hvE_bad HV.out (by rw [HLC.out, HLX.out]) (by rw [Int.toNat_natCast, ← HR.out, ← HQ.out, HNX.out, ← HU.out]; exact hc), Int.toNat_natCast, ← HR.out, ← HQ.out, HNX.out, ← HU.out, HE.out])
        clear hc hE
        go_wp2_with fail
        refine HFR.out.mono ?_
        rintro r w2 ⟨A2, c2, rfl, o2, a2⟩
        rw [HF2.out, ← HE.out] at o2 ⊢
        clear o2 k0 k1 k2 k3 k4
        go_wp2_with fail
        go_ret
        exact ⟨by rw [HEE.out]; rfl, bt HB0.out (bt HBR.out a2)⟩
    · obtain rfl : q = k := by omega
      have H0 := Lib.hid (show R = 0 by have := HQ.out; rw [List.drop_of_length_le (by rw [HLC.out]; exact Nat.le_refl _)] at this; exact this.symm)
      obtain ⟨bq, oq, Aj, nj, cj, rfl, _, j1, j2⟩ := (HC.out _ HBR.out).at_ (k := st) hst
      have hnj := j2.1
      have hsI : (st : Int) < (q : Int) := by omega
      have HZS := Lib.hid (show hvF (i : Int) ((st : Int).toNat) nx 0 acc = 0 by rw [Int.toNat_natCast, ← HR.out]; exact H0.out)
      by_cases h0 : nj = 0
      · have HE := Lib.hid (hvE_ok HV.out (by rw [HLC.out, HLX.out]) HZS.out (by rw [Int.toNat_natCast, hnj]; exact h0))
        have h0' : ¬ 0 < nj := by omega
        clear hnj
        go_wp2_with fail
        go_ret
        exact ⟨by rw [HE.out]; rfl, bt HB0.out HBR.out⟩
      · have HE := Lib.hid (hvE_st HV.out (by rw [HLC.out, HLX.out]) HZS.out (by rw [Int.toNat_natCast, hnj]; exact h0))
        have h0' : 0 < nj := by omega
        clear hnj
        go_wp2_with fail
        go_ret
        exact ⟨by rw [HE.out]; rfl, bt HB0.out HBR.out⟩

set_option linter.unusedSimpArgs false in
set_option linter.unusedVariables false in
set_option maxHeartbeats 4000000 in
set_option maxRecDepth 100000 in
theorem rhvalid (i st : Int) (A B C : Option Addr) (n c m d k e : Nat) (nx ot acc : List (List Int)) (w : World) (hx : Lists w A n nx) (ho : Lists w B m ot) (hC : Lists w C k acc) :
    Calls Try.prog 42 #[.agg #[.int .i64 i, .int .i64 st, .slice A n c, .slice B m d, .slice C k e]] w fun r w' => r = .returned (.int .i64 (hvE i st nx ot acc)) ∧ Below w.heap.size w w' := by
  obtain ⟨w0, hw0⟩ : ∃ w0, w0 = w.alloc (.cells #[.int .i64 i, .int .i64 st, .slice A n c, .slice B m d, .slice C k e] 65) := ⟨_, rfl⟩
  have hb0 : Below w.heap.size w w0 := by rw [hw0]; exact alloc_below _ _
  have m0 : Bx w0 w.heap.size #[.int .i64 i, .int .i64 st, .slice A n c, .slice B m d, .slice C k e] 65 := by rw [hw0]; exact bx_new _ _ _
  have HM := Lib.hid (fun (W : World) (h : Below w0.heap.size w0 W) => m0.on h)
  have HX := Lib.hid (fun (W : World) (h : Below w0.heap.size w0 W) => (hx.below hb0).below h)
  have HO := Lib.hid (fun (W : World) (h : Below w0.heap.size w0 W) => (ho.below hb0).below h)
  have HC := Lib.hid (fun (W : World) (h : Below w0.heap.size w0 W) => (hC.below hb0).below h)
  have HB0 := Lib.hid hb0
  have HW0 := Lib.hid hw0
  have HLX := Lib.hid hx.1
  have HLO := Lib.hid ho.1
  have HLC := Lib.hid hC.1
  have hn := hx.2.1
  have hk := hC.2.1
  have hbc := Below.refl w0.heap.size w0
  have k0 := m0.cell 0
  have k1 := m0.cell 1
  have k2 := m0.cell 2
  have k3 := m0.cell 3
  have k4 := m0.cell 4
  simp at k0 k1 k2 k3 k4
  rw [hw0] at k0 k1 k2 k3 k4
  clear hw0 hb0 m0 hx ho hC
  go_enter Try.func42, Try.ntmps42
  go_wp2_with fail
  rw [← HW0.out]
  refine (rvalid i st A B n c m d nx ot _ (HX.out _ hbc) (HO.out _ hbc)).mono ?_
  rintro r w1 ⟨rfl, a1⟩
  have hbc := bt hbc a1
  clear a1 k0 k1 k2 k3 k4
  by_cases hv : vld i st nx ot = 0
  case neg =>
    have HV := Lib.hid (hvE_vld (acc := acc) hv)
    obtain ⟨E, hE⟩ : ∃ E, E = vld i st nx ot := ⟨_, rfl⟩
    rw [← hE] at hv ⊢
    have hne : (E != 0) = true := by simpa using hv
    have HE := Lib.hid hE
    clear hE
    go_wp2_with fail
    go_ret
    exact ⟨by rw [HV.out, ← HE.out]; rfl, bt HB0.out hbc⟩
  obtain ⟨i, st, n', rfl, rfl, hMok⟩ := vld_zero hv
  obtain rfl : n' = n := by rw [← HLX.out]; exact hMok.nxl.symm
  obtain rfl : m = n' := by rw [← HLO.out]; exact hMok.otl
  have HMOK := Lib.hid hMok
  have HV := Lib.hid hv
  have hst := hMok.st
  have hn2 := hMok.n2
  rw [hv]
  clear hv hMok
  have k0 := (HM.out _ hbc).cell 0
  have k1 := (HM.out _ hbc).cell 1
  have k2 := (HM.out _ hbc).cell 2
  have k3 := (HM.out _ hbc).cell 3
  have k4 := (HM.out _ hbc).cell 4
  simp at k0 k1 k2 k3 k4
  by_cases hl : k = m
  case neg =>
    have HE := Lib.hid (hvE_len (acc := acc) HV.out (by rw [HLC.out, HLX.out]; exact hl))
    have hne : ((k : Int) != (m : Int)) = true := by rw [bne_iff_ne]; omega
    have hli : ¬ (k : Int) = (m : Int) := by omega
    go_wp2_with fail
    go_ret
    exact ⟨by rw [HE.out]; rfl, bt HB0.out hbc⟩
  obtain rfl : k = m := hl
  have hne : ((k : Int) != (k : Int)) = false := by simp
  have HBC := Lib.hid hbc
  obtain ⟨R, hR⟩ : ∃ R, R = hvF (i : Int) st nx 0 acc := ⟨_, rfl⟩
  have HR := Lib.hid hR
  clear hR
  go_wp2_with fail
  clear k0 k1 k2 k3 k4
  go_loopw [4] (fun v4 wr => ∃ q : Nat, v4 = .int .i64 q ∧ q ≤ k ∧ Hid (hvF (i : Int) st nx q (acc.drop q) = R) ∧ Hid (Below w0.heap.size w0 wr)) (fun v4 _ => k - (intOf v4).toNat)
  case atStart => exact ⟨0, rfl, Nat.zero_le _, Lib.hid (by rw [List.drop_zero]; exact HR.out.symm), HBC⟩
  case round =>
    obtain ⟨q, rfl, hq, HQ, HBR⟩ := hrel
    have k0 := (HM.out _ HBR.out).cell 0
    have k1 := (HM.out _ HBR.out).cell 1
    have k2 := (HM.out _ HBR.out).cell 2
    have k3 := (HM.out _ HBR.out).cell 3
    have k4 := (HM.out _ HBR.out).cell 4
    simp at k0 k1 k2 k3 k4
    by_cases hlt : q < k
    · obtain ⟨bq, oq, Aj, nj, cj, rfl, _, j1, j2⟩ := (HC.out _ HBR.out).at_ hlt
      obtain ⟨u, hu⟩ : ∃ u, u = acc.getD q [] := ⟨_, rfl⟩
      rw [← hu] at j2
      have HU := Lib.hid hu
      clear hu
      have HJ := Lib.hid j2
      clear j2
      by_cases hc : chk u i = 0
      · have hsy := (chk_zero hc).2.2.2.mem
        have HSL := Lib.hid (HMOK.out.runS_lt u st HMOK.out.st hsy)
        by_cases hs : runS nx st u = q
        · have HNX := Lib.hid (hvF_on (nx := nx) (st := st) (acc := acc) (by rw [HLC.out]; exact hlt) (by rw [← HU.out]; exact hc) (by rw [← HU.out]; exact hs))
          have hqq : ((q : Int) != (q : Int)) = false := by simp
          have HRC := Lib.hid (rcheck Aj nj cj i u wr HJ.out)
          have HRO := Lib.hid (routs i st k A B Aj c d nj cj st nx ot u wr HMOK.out (HX.out _ HBR.out) (HO.out _ HBR.out) HMOK.out.st HJ.out hsy)
          have HCK := Lib.hid hc
          clear hc hsy
          go_wp2_with fail
          refine HRC.out.mono ?_
          rintro r w2 ⟨rfl, rfl⟩
          rw [HCK.out]
          go_wp2_with fail
          refine HRO.out.mono ?_
          rintro r w2 ⟨A2, c2, rfl, o2, a2⟩
          rw [hs]
          have HA2 := Lib.hid (bt HBR.out a2)
          clear o2 a2 hs k0 k1 k2 k3 k4
          go_wp2_with fail
          go_roundw
          case rel => exact ⟨q + 1, by go_num, by omega, by rw [← HNX.out]; exact HQ, HA2⟩
          case measure => simp [intOf]; omega
        · have HNX := Lib.hid (hvF_state (nx := nx) (st := st) (acc := acc) (by rw [HLC.out]; exact hlt) (by rw [← HU.out]; exact hc) (by rw [← HU.out]; exact hs))
          obtain ⟨z, hz⟩ : ∃ z, z = runS nx st u := ⟨_, rfl⟩
          have hzz : ((z : Int) != (q : Int)) = true := by rw [bne_iff_ne, hz]; omega
          have hzd : ¬ (z : Int) = (q : Int) := by omega
          have HZ := Lib.hid hz
          have HRC := Lib.hid (rcheck Aj nj cj i u wr HJ.out)
          have HRO := Lib.hid (routs i st k A B Aj c d nj cj st nx ot u wr HMOK.out (HX.out _ HBR.out) (HO.out _ HBR.out) HMOK.out.st HJ.out hsy)
          have HEE := Lib.hid (show hvE (i : Int) (st : Int) nx ot acc = 15 by rw [hvE_bad HV.out (by rw [HLC.out, HLX.out]) (by rw [Int.toNat_natCast, ← HR.out, ← HQ.out, HNX.out]; decide), Int.toNat_natCast, ← HR.out, ← HQ.out, HNX.out])
          have HCK := Lib.hid hc
          clear hc hsy hz hs
          go_wp2_with fail
          refine HRC.out.mono ?_
          rintro r w2 ⟨rfl, rfl⟩
          rw [HCK.out]
          go_wp2_with fail
          refine HRO.out.mono ?_
          rintro r w2 ⟨A2, c2, rfl, o2, a2⟩
          rw [← HZ.out]
          clear o2 k0 k1 k2 k3 k4
          go_wp2_with fail
          go_ret
          exact ⟨by rw [HEE.out]; rfl, bt HB0.out (bt HBR.out a2)⟩
      · have HNX := Lib.hid (hvF_word (nx := nx) (st := st) (acc := acc) (by rw [HLC.out]; exact hlt) (by rw [← HU.out]; exact hc))
        obtain ⟨E, hE⟩ : ∃ E, E = chk u i := ⟨_, rfl⟩
        have hEe : (E != 0) = true := by rw [hE]; simpa using hc
        have HE := Lib.hid hE
        have HRC := Lib.hid (rcheck Aj nj cj i u wr HJ.out)
        have HEE := Lib.hid (show hvE (i : Int) (st : Int) nx ot acc = E by rw [hvE_bad HV.out (by rw [HLC.out, HLX.out]) (by rw [Int.toNat_natCast, ← HR.out, ← HQ.out, HNX.out, ← HU.out]; exact hc), Int.toNat_natCast, ← HR.out, ← HQ.out, HNX.out, ← HU.out, HE.out])
        clear hc hE
        go_wp2_with fail
        refine HRC.out.mono ?_
        rintro r w2 ⟨rfl, rfl⟩
        rw [← HE.out]
        clear k0 k1 k2 k3 k4
        go_wp2_with fail
        go_ret
        exact ⟨by rw [HEE.out]; rfl, bt HB0.out HBR.out⟩
    · obtain rfl : q = k := by omega
      have H0 := Lib.hid (show R = 0 by have := HQ.out; rw [List.drop_of_length_le (by rw [HLC.out]; exact Nat.le_refl _)] at this; exact this.symm)
      obtain ⟨bq, oq, Aj, nj, cj, rfl, _, j1, j2⟩ := (HC.out _ HBR.out).at_ (k := st) hst
      have hnj := j2.1
      have hsI : (st : Int) < (q : Int) := by omega
      have HZS := Lib.hid (show hvF (i : Int) ((st : Int).toNat) nx 0 acc = 0 by rw [Int.toNat_natCast, ← HR.out]; exact H0.out)
      by_cases h0 : nj = 0
      · have HE := Lib.hid (hvE_ok HV.out (by rw [HLC.out, HLX.out]) HZS.out (by rw [Int.toNat_natCast, hnj]; exact h0))
        have h0' : ¬ 0 < nj := by omega
        clear hnj
        go_wp2_with fail
        go_ret
        exact ⟨by rw [HE.out]; rfl, bt HB0.out HBR.out⟩
      · have HE := Lib.hid (hvE_st HV.out (by rw [HLC.out, HLX.out]) HZS.out (by rw [Int.toNat_natCast, hnj]; exact h0))
        have h0' : 0 < nj := by omega
        clear hnj
        go_wp2_with fail
        go_ret
        exact ⟨by rw [HE.out]; rfl, bt HB0.out HBR.out⟩

end Go.Proofs.Ytkgdgnmobahhfaa
end

section
/- State of a hypothesis: both sides; difference. -/
namespace Go.Proofs.Ytkgdgnmobahhfaa
open Go.RowKit

theorem Lists.one {w : World} {A : Option Addr} {n c : Nat} {xs : List Int} (h : Ints w A n xs) : Lists (w.alloc (.cells #[.slice A n c] 36)) (some ⟨w.heap.size, 0, none⟩) 1 [xs] := by
  have hb := alloc_below w (.cells #[.slice A n c] 36)
  refine ⟨rfl, by omega, fun _ => ⟨w.heap.size, 0, rfl, by simp, fun j hj => ?_⟩⟩
  obtain rfl : j = 0 := by omega
  exact ⟨A, n, c, by simp, h.below hb⟩
theorem Lists.two {w : World} {A B : Option Addr} {n c m d : Nat} {xs ys : List Int} (h : Ints w A n xs) (k : Ints w B m ys) : Lists (w.alloc (.cells #[.slice A n c, .slice B m d] 36)) (some ⟨w.heap.size, 0, none⟩) 2 [xs, ys] := by
  have hb := alloc_below w (.cells #[.slice A n c, .slice B m d] 36)
  refine ⟨rfl, by omega, fun _ => ⟨w.heap.size, 0, rfl, by simp, fun j hj => ?_⟩⟩
  rcases Nat.lt_or_ge j 1 with h1 | h1
  · obtain rfl : j = 0 := by omega
    exact ⟨A, n, c, by simp, h.below hb⟩
  · obtain rfl : j = 1 := by omega
    exact ⟨B, m, d, by simp, k.below hb⟩
/-- The access word of the state that xs reaches. -/
def stW (i : Int) (st : Nat) (nx acc : List (List Int)) (xs : List Int) : List Int := if chk xs i = 0 then acc.getD (runS nx st xs) [] else []
/-- A slice of one's own that reads as xs. -/
def OwnE (w : World) (xs : List Int) (E : Int) (r : Ending) (w' : World) : Prop := ∃ (A' : Option Addr) (c' : Nat), r = .returned (.tuple #[.slice A' xs.length c', .int .i64 E]) ∧ Owned w' w.heap.size (.slice A' xs.length c') xs ∧ Below w.heap.size w w'

set_option linter.unusedSimpArgs false in
set_option linter.unusedVariables false in
set_option maxHeartbeats 4000000 in
set_option maxRecDepth 100000 in
theorem phstate (i st n : Nat) (A B C D : Option Addr) (c d e k g : Nat) (nx ot acc : List (List Int)) (xs : List Int) (w : World) (hx : Lists w A n nx) (ho : Lists w B n ot) (hC : Lists w C n acc) (hD : Ints w D k xs) (hM : Mok i st n nx ot) :
    Calls Try.prog 43 #[.agg #[.int .i64 i, .int .i64 st, .slice A n c, .slice B n d, .slice C n e], .slice D k g] w fun r w' => OwnE w (stW i st nx acc xs) (chk xs i) r w' := by
  obtain ⟨w0, hw0⟩ : ∃ w0, w0 = w.alloc (.cells #[.int .i64 i, .int .i64 st, .slice A n c, .slice B n d, .slice C n e] 65) := ⟨_, rfl⟩
  have hb0 : Below w.heap.size w w0 := by rw [hw0]; exact alloc_below _ _
  have m0 : Bx w0 w.heap.size #[.int .i64 i, .int .i64 st, .slice A n c, .slice B n d, .slice C n e] 65 := by rw [hw0]; exact bx_new _ _ _
  have HM := Lib.hid (fun (W : World) (h : Below w0.heap.size w0 W) => m0.on h)
  have HX := Lib.hid (fun (W : World) (h : Below w0.heap.size w0 W) => (hx.below hb0).below h)
  have HO := Lib.hid (fun (W : World) (h : Below w0.heap.size w0 W) => (ho.below hb0).below h)
  have HC := Lib.hid (fun (W : World) (h : Below w0.heap.size w0 W) => (hC.below hb0).below h)
  have HD := Lib.hid (fun (W : World) (h : Below w0.heap.size w0 W) => (hD.below hb0).below h)
  have HB0 := Lib.hid hb0
  have HW0 := Lib.hid hw0
  have HLX := Lib.hid hx.1
  have hn := hx.2.1
  have hbc := Below.refl w0.heap.size w0
  have k0 := m0.cell 0
  have k1 := m0.cell 1
  have k2 := m0.cell 2
  have k3 := m0.cell 3
  have k4 := m0.cell 4
  simp at k0 k1 k2 k3 k4
  have HMOK := Lib.hid hM
  have hst := hM.st
  by_cases hc : chk xs i = 0
  · have hsy := (chk_zero hc).2.2.2.mem
    have hsl := hM.runS_lt xs st hM.st hsy
    have HST := Lib.hid (show stW i st nx acc xs = acc.getD (runS nx st xs) [] by unfold stW; rw [if_pos hc])
    obtain ⟨s, hs⟩ : ∃ s, s = runS nx st xs := ⟨_, rfl⟩
    rw [← hs] at hsl HST
    have HS := Lib.hid hs
    have HCK := Lib.hid hc
    have hsI : (s : Int) < (n : Int) := by omega
    have hsN : ¬ (n : Int) ≤ (s : Int) := by omega
    have hs0 : (0 : Int) ≤ (s : Int) := by omega
    clear hs
    have HFR := Lib.hid (pfrom i st A B D n c n d k g nx ot st xs w0 (HX.out _ hbc) (HO.out _ hbc) (HD.out _ hbc))
    have HF2 := Lib.hid (frm_ok hM.vld (by rw [HLX.out]; exact hst) hc)
    rw [hw0] at k0 k1 k2 k3 k4
    clear hc hsy
    clear hw0 m0 hx ho hC hD hM hb0
    go_enter Try.func43, Try.ntmps43
    go_wp2_with fail
    rw [← HW0.out]
    refine HFR.out.mono ?_
    rintro r w2 ⟨A2, c2, rfl, o2, a2⟩
    rw [HF2.out, ← HS.out] at o2 ⊢
    have hbc := bt hbc a2
    have k4 := (HM.out _ hbc).cell 4
    simp at k4
    clear o2 k0 k1 k2 k3
    obtain ⟨bq, oq, Aj, nj, cj, rfl, _, j1, j2⟩ := (HC.out _ hbc).at_ (k := s) hsl
    have HLJ := Lib.hid j2.1
    have HCL := Lib.hid (sclone Aj nj cj _ w2 j2)
    have HBC := Lib.hid hbc
    clear j2 a2 hbc
    go_wp2_with fail
    refine HCL.out.mono ?_
    rintro r w3 ⟨A3, c3, rfl, o3, a3⟩
    have HO3 := Lib.hid (o3.lower (base' := w.heap.size) (bt HB0.out HBC.out).size)
    have HB3 := Lib.hid (bt HB0.out (bt HBC.out a3))
    clear o3 a3
    go_wp2_with fail
    go_ret2
    refine ⟨A3, c3, ?_, by rw [HST.out, HLJ.out]; exact HO3.out, HB3.out⟩
    rw [HST.out, HLJ.out, HCK.out]; rfl
  · have HST := Lib.hid (show stW i st nx acc xs = [] by unfold stW; rw [if_neg hc])
    obtain ⟨E, hE⟩ : ∃ E, E = chk xs i := ⟨_, rfl⟩
    have hEe : (E != 0) = true := by rw [hE]; simpa using hc
    have HE := Lib.hid hE
    have HFR := Lib.hid (pfrom i st A B D n c n d k g nx ot st xs w0 (HX.out _ hbc) (HO.out _ hbc) (HD.out _ hbc))
    have HF2 := Lib.hid (frm_word (s := (st : Int)) hM.vld ⟨by omega, by rw [HLX.out]; omega⟩ hc)
    rw [hw0] at k0 k1 k2 k3 k4
    clear hc hE
    clear hw0 m0 hx ho hC hD hM hb0
    go_enter Try.func43, Try.ntmps43
    go_wp2_with fail
    rw [← HW0.out]
    refine HFR.out.mono ?_
    rintro r w2 ⟨A2, c2, rfl, o2, a2⟩
    rw [HF2.out, ← HE.out] at o2 ⊢
    have HBC := Lib.hid (bt HB0.out (bt hbc a2))
    clear o2 k0 k1 k2 k3 k4
    go_wp2_with fail
    go_ret2
    refine ⟨none, 0, ?_, by rw [HST.out]; exact Owned.nil _ _, HBC.out⟩
    rw [HST.out, ← HE.out]; rfl

set_option linter.unusedSimpArgs false in
set_option linter.unusedVariables false in
set_option maxHeartbeats 4000000 in
set_option maxRecDepth 100000 in
theorem rhstate (i st n : Nat) (A B C D : Option Addr) (c d e k g : Nat) (nx ot acc : List (List Int)) (xs : List Int) (w : World) (hx : Lists w A n nx) (ho : Lists w B n ot) (hC : Lists w C n acc) (hD : Ints w D k xs) (hM : Mok i st n nx ot) :
    Calls Try.prog 44 #[.agg #[.int .i64 i, .int .i64 st, .slice A n c, .slice B n d, .slice C n e], .slice D k g] w fun r w' => OwnE w (stW i st nx acc xs) (chk xs i) r w' := by
  obtain ⟨w0, hw0⟩ : ∃ w0, w0 = w.alloc (.cells #[.int .i64 i, .int .i64 st, .slice A n c, .slice B n d, .slice C n e] 65) := ⟨_, rfl⟩
  have hb0 : Below w.heap.size w w0 := by rw [hw0]; exact alloc_below _ _
  have m0 : Bx w0 w.heap.size #[.int .i64 i, .int .i64 st, .slice A n c, .slice B n d, .slice C n e] 65 := by rw [hw0]; exact bx_new _ _ _
  have HM := Lib.hid (fun (W : World) (h : Below w0.heap.size w0 W) => m0.on h)
  have HX := Lib.hid (fun (W : World) (h : Below w0.heap.size w0 W) => (hx.below hb0).below h)
  have HO := Lib.hid (fun (W : World) (h : Below w0.heap.size w0 W) => (ho.below hb0).below h)
  have HC := Lib.hid (fun (W : World) (h : Below w0.heap.size w0 W) => (hC.below hb0).below h)
  have HD := Lib.hid (fun (W : World) (h : Below w0.heap.size w0 W) => (hD.below hb0).below h)
  have HB0 := Lib.hid hb0
  have HW0 := Lib.hid hw0
  have HLX := Lib.hid hx.1
  have hn := hx.2.1
  have hbc := Below.refl w0.heap.size w0
  have k0 := m0.cell 0
  have k1 := m0.cell 1
  have k2 := m0.cell 2
  have k3 := m0.cell 3
  have k4 := m0.cell 4
  simp at k0 k1 k2 k3 k4
  have HMOK := Lib.hid hM
  have hst := hM.st
  by_cases hc : chk xs i = 0
  · have hsy := (chk_zero hc).2.2.2.mem
    have hsl := hM.runS_lt xs st hM.st hsy
    have HST := Lib.hid (show stW i st nx acc xs = acc.getD (runS nx st xs) [] by unfold stW; rw [if_pos hc])
    obtain ⟨s, hs⟩ : ∃ s, s = runS nx st xs := ⟨_, rfl⟩
    rw [← hs] at hsl HST
    have HS := Lib.hid hs
    have HCK := Lib.hid hc
    have hsI : (s : Int) < (n : Int) := by omega
    have hsN : ¬ (n : Int) ≤ (s : Int) := by omega
    have hs0 : (0 : Int) ≤ (s : Int) := by omega
    clear hs
    have HRC := Lib.hid (rcheck D k g i xs w0 (HD.out _ hbc))
    have HRO := Lib.hid (routs i st n A B D c d k g st nx ot xs w0 hM (HX.out _ hbc) (HO.out _ hbc) hM.st (HD.out _ hbc) hsy)
    rw [hw0] at k0 k1 k2 k3 k4
    clear hc hsy
    clear hw0 m0 hx ho hC hD hM hb0
    go_enter Try.func44, Try.ntmps44
    go_wp2_with fail
    rw [← HW0.out]
    refine HRC.out.mono ?_
    rintro r w1 ⟨rfl, rfl⟩
    rw [HCK.out, HW0.out]
    go_wp2_with fail
    rw [← HW0.out]
    refine HRO.out.mono ?_
    rintro r w2 ⟨A2, c2, rfl, o2, a2⟩
    rw [← HS.out]
    have hbc := bt hbc a2
    have k4 := (HM.out _ hbc).cell 4
    simp at k4
    clear o2 k0 k1 k2 k3
    obtain ⟨bq, oq, Aj, nj, cj, rfl, _, j1, j2⟩ := (HC.out _ hbc).at_ (k := s) hsl
    have HLJ := Lib.hid j2.1
    obtain ⟨w4, hw4⟩ : ∃ w4, w4 = w2.alloc (.cells #[.slice Aj nj cj] 36) := ⟨_, rfl⟩
    have a4 : Below w2.heap.size w2 w4 := by rw [hw4]; exact alloc_below _ _
    have hl1 : Lists w4 (some ⟨w2.heap.size, 0, none⟩) 1 [acc.getD s []] := by rw [hw4]; exact Lists.one j2
    have HJN := Lib.hid (rjoin (some ⟨w2.heap.size, 0, none⟩) 1 1 [acc.getD s []] w4 hl1 (by have := j2.2.1; have := j2.1; simp; simp at this; omega))
    have HW4 := Lib.hid hw4
    have HBC := Lib.hid (bt hbc a4)
    clear j2 a2 hbc hw4 a4 hl1
    go_wp2_with fail
    rw [← HW4.out]
    refine HJN.out.mono ?_
    rintro r w3 ⟨v, rfl, o3, a3⟩
    rw [List.flatten_cons, List.flatten_nil, List.append_nil] at o3
    have HO3 := Lib.hid (o3.lower (base' := w.heap.size) (bt HB0.out HBC.out).size)
    have HB3 := Lib.hid (bt HB0.out (bt HBC.out a3))
    clear o3 a3
    go_wp2_with fail
    go_ret2
    obtain ⟨A3, c3, e3⟩ := HO3.out.form
    refine ⟨A3, c3, ?_, by rw [HST.out, ← e3]; exact HO3.out, HB3.out⟩
    rw [HST.out, HCK.out, ← e3]; rfl
  · have HST := Lib.hid (show stW i st nx acc xs = [] by unfold stW; rw [if_neg hc])
    obtain ⟨E, hE⟩ : ∃ E, E = chk xs i := ⟨_, rfl⟩
    have hEe : (E != 0) = true := by rw [hE]; simpa using hc
    have HE := Lib.hid hE
    have HRC := Lib.hid (rcheck D k g i xs w0 (HD.out _ hbc))
    have HBC := Lib.hid (bt HB0.out hbc)
    rw [hw0] at k0 k1 k2 k3 k4
    clear hc hE
    clear hw0 m0 hx ho hC hD hM hb0
    go_enter Try.func44, Try.ntmps44
    go_wp2_with fail
    rw [← HW0.out]
    refine HRC.out.mono ?_
    rintro r w1 ⟨rfl, rfl⟩
    rw [← HE.out]
    clear k0 k1 k2 k3 k4
    go_wp2_with fail
    go_ret2
    refine ⟨none, 0, ?_, by rw [HST.out]; exact Owned.nil _ _, HBC.out⟩
    rw [HST.out, ← HE.out]; rfl

/-- The first place at which two lists differ. -/
theorem wdiff (A B : Option Addr) (n c m d : Nat) (xs ys : List Int) (K : Nat) (b : Bool) (w : World) (hx : Ints w A n xs) (hy : Ints w B m ys) (hl : xs.length = ys.length) (hK : K = if cmn xs ys < n then cmn xs ys else 0) (hb : b = decide (cmn xs ys < n)) :
    Calls Try.prog 83 #[.slice A n c, .slice B m d] w fun e w' => e = .returned (.tuple #[.int .i64 K, .bool b]) ∧ ∃ q, w' = w.drewN q := by
  obtain rfl : m = n := by rw [← hx.1, ← hy.1, hl]
  have HK := Lib.hid hK
  have HBB := Lib.hid hb
  clear hK hb
  have hmm : ¬ (m : Int) < (m : Int) := by omega
  have L1 := Lib.hid hx.1
  have L2 := Lib.hid hy.1
  have hn := hx.2.1
  clear hl
  go_enter Try.func83, Try.ntmps83
  go_wp2
  go_loopw [12] (fun i wr => ∃ j : Nat, j ≤ m ∧ i = .int .i64 j ∧ Hid (Agree xs ys j) ∧ ∃ q, wr = w.drewN q) (fun i _ => m - (intOf i).toNat)
  case atStart => exact ⟨0, Nat.zero_le _, rfl, Lib.hid (Agree.zero _ _), 0, rfl⟩
  case round =>
    obtain ⟨j, hj, rfl, HA, q, rfl⟩ := hrel
    by_cases hlt : j < m
    · obtain ⟨b1, o1, rfl, _, hc1⟩ := hx.at_ (k := j) (by omega)
      obtain ⟨b2, o2, rfl, _, hc2⟩ := hy.at_ (k := j) (by omega)
      by_cases he : xs[j]?.getD 0 = ys[j]?.getD 0
      · have ha' := Lib.hid (HA.out.succ (by simpa using he))
        have hb : (xs[j]?.getD 0 != ys[j]?.getD 0) = false := by simp [he]
        have hE := Lib.hid he
        clear he
        go_wp2
        go_quiet (fail)
        go_wp2
        go_roundw
        case rel => exact ⟨j + 1, by omega, by go_num, ha', by first | exact ⟨_, rfl⟩ | exact ⟨_, World.drewN_drewN _ _ _⟩⟩
        case measure => simp [intOf]; omega
      · have hfin := Lib.hid (cmn_eq (j := j) (by rw [L1.out]; omega) (by rw [L2.out]; omega) HA.out (.inr (.inr (by simpa using he))))
        have hb : (xs[j]?.getD 0 != ys[j]?.getD 0) = true := by simpa using he
        clear he
        go_wp2
        go_quiet (fail)
        go_wp2
        go_ret2
        exact ⟨by rw [HK.out, HBB.out, hfin.out, if_pos hlt, decide_eq_true hlt]; rfl, by first | exact ⟨_, rfl⟩ | exact ⟨_, World.drewN_drewN _ _ _⟩⟩
    · have hfin := Lib.hid (cmn_eq (j := m) (by rw [L1.out]; omega) (by rw [L2.out]; omega) ((by omega : j = m) ▸ HA.out) (by rw [L1.out, L2.out]; omega))
      go_wp2
      go_ret2
      exact ⟨by rw [HK.out, HBB.out, hfin.out, if_neg (Nat.lt_irrefl _), decide_eq_false (Nat.lt_irrefl _)]; rfl, by first | exact ⟨_, rfl⟩ | exact ⟨_, World.drewN_drewN _ _ _⟩⟩
end Go.Proofs.Ytkgdgnmobahhfaa
end
