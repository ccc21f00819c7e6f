/- Lemmas of the proofs of this seat, of the parts Rcl16, Sam16, Radm, Rads, Insp, Rad16, Res16. Conditions: none. -/
import Derived.Test.YtkkmcgapbcikiaaKad
import Derived.Test.YtkkmcgapbcikiaaKab
import Derived.Lib.MinMax
import Derived.Test.YtkkmcgapbcikiaaKac
section
/- The reference of observe: Known, Clash; long. -/
namespace Go.Proofs.Ytkkmcgapbcikiaa
open Go.RowKit

/-- The result of the reference's Clash. -/
def RClR (ts : TSr) (xs ys : List Int) (i : Int) (fd : Bool) (zs : List Int) (f s : Int) : Prop :=
  (fd = false ∧ zs = [] ∧ f = 0 ∧ s = 0 ∧ (¬ prpE xs ys i = 0 ∨ ∀ a, a < ts.length → ∀ j, j < cmn (tIn ts a) xs → (tOut ts a).getD j 0 = ys.getD j 0)) ∨
  (fd = true ∧ prpE xs ys i = 0 ∧ ∃ a k, a < ts.length ∧ k < cmn (tIn ts a) xs ∧ ¬ (tOut ts a).getD k 0 = ys.getD k 0 ∧ (∀ b, b < ts.length → ∀ j, j < cmn (tIn ts b) xs → j < k → (tOut ts b).getD j 0 = ys.getD j 0) ∧ zs = xs.take (k + 1) ∧ f = (tOut ts a).getD k 0 ∧ s = ys.getD k 0)
def RClE (ts : TSr) (xs ys : List Int) (i : Int) (w : World) (e : Ending) (w' : World) : Prop :=
  ∃ (fd : Bool) (A' : Option Addr) (l c' : Nat) (f s : Int) (zs : List Int), e = .returned (.tuple #[.agg #[.slice A' l c', .int .i64 f, .int .i64 s], .bool fd]) ∧ RClR ts xs ys i fd zs f s ∧ Ints w' A' l zs ∧ Below w.heap.size w w'
/-- The loop of Clash behind p traces. -/
def RAt (ts : TSr) (xs ys : List Int) (p : Nat) (z f : Int) : Prop :=
  (z = -1 ∧ f = 0 ∧ ∀ a, a < p → ∀ j, j < cmn (tIn ts a) xs → (tOut ts a).getD j 0 = ys.getD j 0) ∨
  (∃ a k : Nat, z = k ∧ a < p ∧ k < cmn (tIn ts a) xs ∧ ¬ (tOut ts a).getD k 0 = ys.getD k 0 ∧ (∀ b, b < p → ∀ j, j < cmn (tIn ts b) xs → j < k → (tOut ts b).getD j 0 = ys.getD j 0) ∧ f = (tOut ts a).getD k 0)
theorem RAt.zero (ts : TSr) (xs ys : List Int) : RAt ts xs ys 0 (-1) 0 := .inl ⟨rfl, rfl, fun a h => absurd h (Nat.not_lt_zero a)⟩
theorem RAt.no {ts : TSr} {xs ys : List Int} {p : Nat} {z f y : Int} (h : RAt ts xs ys p z f) (hy : Dff (tIn ts p) (tOut ts p) xs ys y) (hn : y < 0 ∨ (0 ≤ z ∧ z ≤ y)) : RAt ts xs ys (p + 1) z f := by
  have hp : ∀ j, j < cmn (tIn ts p) xs → (j : Int) < z ∨ y < 0 → (tOut ts p).getD j 0 = ys.getD j 0 := fun j hj hz => by
    rcases hy with ⟨_, h1⟩ | ⟨k, rfl, _, h2, _⟩
    · exact h1 j hj
    · exact h2 j (by omega)
  rcases h with ⟨rfl, rfl, h⟩ | ⟨a, k, rfl, h1, h2, h3, h4, rfl⟩
  · refine .inl ⟨rfl, rfl, fun a ha j hj => ?_⟩
    rcases Nat.lt_or_ge a p with h5 | h5
    · exact h a h5 j hj
    · obtain rfl : a = p := by omega
      exact hp j hj (.inr (by omega))
  · refine .inr ⟨a, k, rfl, by omega, h2, h3, fun b hb j hj hjk => ?_, rfl⟩
    rcases Nat.lt_or_ge b p with h5 | h5
    · exact h4 b h5 j hj hjk
    · obtain rfl : b = p := by omega
      exact hp j hj (.inl (by omega))
theorem RAt.yes {ts : TSr} {xs ys : List Int} {p k : Nat} {z f : Int} (h : RAt ts xs ys p z f) (hy : Dff (tIn ts p) (tOut ts p) xs ys k) (hn : z < 0 ∨ (k : Int) < z) : RAt ts xs ys (p + 1) k ((tOut ts p).getD k 0) := by
  rcases hy with ⟨h0, _⟩ | ⟨k', h0, h1, h2, h3⟩
  · omega
  obtain rfl : k = k' := by omega
  refine .inr ⟨p, k, rfl, by omega, h1, h3, fun b hb j hj hjk => ?_, rfl⟩
  rcases Nat.lt_or_ge b p with h5 | h5
  · rcases h with ⟨rfl, rfl, h⟩ | ⟨a, m, rfl, _, _, _, h4, _⟩
    · exact h b h5 j hj
    · exact h4 b h5 j hj (by omega)
  · obtain rfl : b = p := by omega
    exact h2 j hjk
/-- The two sides of Clash agree. -/
theorem cls_same {ts : TSr} {xs ys zs zs' : List Int} {i f s f' s' : Int} {fd fd' : Bool} (hC : Cons ts) (hF : Full ts) (h : ClsR ts xs ys i fd zs f s) (h' : RClR ts xs ys i fd' zs' f' s') : fd = fd' ∧ zs = zs' ∧ f = f' ∧ s = s' := by
  by_cases hp : prpE xs ys i = 0
  case neg =>
    rcases h' with ⟨rfl, rfl, rfl, rfl, _⟩ | ⟨_, h1, _⟩
    · obtain ⟨best, _, ⟨rfl, rfl, rfl, rfl, _⟩ | ⟨_, h1, _⟩⟩ := h
      · exact ⟨rfl, rfl, rfl, rfl⟩
      · exact absurd h1 hp
    · exact absurd h1 hp
  have hl : ys.length = xs.length := by
    have hpr := hp
    unfold prpE at hpr
    split at hpr
    · exact (ansE_zero hpr).1
    · omega
  have key : ∀ a k, a < ts.length → k < cmn (tIn ts a) xs → ¬ (tOut ts a).getD k 0 = ys.getD k 0 → Sh1 ts xs ys (xs.take (k + 1)) := fun a k ha hk hn => by
    have h2 := cmn_le_right (tIn ts a) xs
    have hl2 : (xs.take (k + 1)).length = k + 1 := by rw [List.length_take]; omega
    refine ⟨List.take_prefix _ _, by omega, a, ha, pre_take (by rw [cmn_comm]; omega), ?_⟩
    rw [hl2]
    exact hn
  cases fd
  case false =>
    have hno := cls_false hC hF hl hp h
    rcases h' with ⟨rfl, rfl, rfl, rfl, _⟩ | ⟨_, _, a, k, h1, h2, h3, _⟩
    · obtain ⟨best, _, ⟨_, rfl, rfl, rfl, _⟩ | ⟨h1, _⟩⟩ := h
      · exact ⟨rfl, rfl, rfl, rfl⟩
      · cases h1
    · exact absurd (key a k h1 h2 h3) (hno _)
  case true =>
    obtain ⟨hy, hm⟩ := cls_true hC hF hl h
    obtain ⟨best, hg, ⟨h1, _⟩ | ⟨_, _, hlt, hz, hf, hs⟩⟩ := h
    · cases h1
    obtain ⟨hb, hc⟩ := hg (by omega)
    obtain ⟨ha, hd⟩ := agr_part hF hb hc hl
    have hd := hd hlt
    generalize agrN ts best (knw ts xs ts.length) ys = K at hlt hz hf hs ha hd
    have hx := cmn_le_right (tIn ts best) xs
    rcases h' with ⟨_, _, _, _, h5 | h5⟩ | ⟨rfl, _, a, k, h1, h2, h3, h4, rfl, rfl, rfl⟩
    · exact absurd hp h5
    · exact absurd (h5 best hb K (by omega)) hd
    · have h6 := hm _ (key a k h1 h2 h3)
      have h7 := cmn_le_right (tIn ts a) xs
      rw [hz, List.length_take, List.length_take] at h6
      have h8 : ¬ K < k := fun h => hd (h4 best hb K (by omega) h)
      obtain rfl : K = k := by omega
      refine ⟨rfl, hz, ?_, hs⟩
      rw [hf]
      refine hC best a hb h1 K ?_
      have p1 : xs.take (K + 1) <+: tIn ts best := pre_take (by rw [cmn_comm]; omega)
      have p2 : xs.take (K + 1) <+: tIn ts a := pre_take (by rw [cmn_comm]; omega)
      have := pre_min p1 p2
      rw [List.length_take] at this
      omega

set_option linter.unusedSimpArgs false in
set_option linter.unusedVariables false in
theorem rlong16 (A B : Option Addr) (n c m d : Nat) (w : World) :
    Calls Try.prog 18 #[.agg #[.slice A n c, .slice B m d]] w fun r w' => r = .returned (.bool (decide (1100 < n ∨ 1100 < m))) ∧ Below w.heap.size w w' := by
  obtain ⟨w0, hw0⟩ : ∃ w0, w0 = w.alloc (.cells #[.slice A n c, .slice B m d] 38) := ⟨_, rfl⟩
  have hb0 : Below w.heap.size w w0 := by rw [hw0]; exact alloc_below _ _
  have m0 : Bx w0 w.heap.size #[.slice A n c, .slice B m d] 38 := by rw [hw0]; exact bx_new _ _ _
  have HB0 := Lib.hid hb0
  have HW0 := Lib.hid hw0
  have k0 := m0.cell 0
  have k1 := m0.cell 1
  simp at k0 k1
  clear hw0 hb0 m0
  by_cases h1 : 1100 < n
  · have hd : decide (1100 < n ∨ 1100 < m) = true := by simp [h1]
    have hi : (1100 : Int) < (n : Int) := by omega
    rw [hd]
    clear hd
    go_enter Try.func18, Try.ntmps18
    go_wp2_with fail
    rw [← HW0.out]
    go_ret
    exact ⟨rfl, HB0.out⟩
  · by_cases h2 : 1100 < m
    · have hd : decide (1100 < n ∨ 1100 < m) = true := by simp [h2]
      have hi : ¬ (1100 : Int) < (n : Int) := by omega
      have hj : (1100 : Int) < (m : Int) := by omega
      rw [hd]
      clear hd
      go_enter Try.func18, Try.ntmps18
      go_wp2_with fail
      rw [← HW0.out]
      go_ret
      exact ⟨rfl, HB0.out⟩
    · have hd : decide (1100 < n ∨ 1100 < m) = false := by simp [h1, h2]
      have hi : ¬ (1100 : Int) < (n : Int) := by omega
      have hj : ¬ (1100 : Int) < (m : Int) := by omega
      rw [hd]
      clear hd
      go_enter Try.func18, Try.ntmps18
      go_wp2_with fail
      rw [← HW0.out]
      go_ret
      exact ⟨rfl, HB0.out⟩

set_option linter.unusedSimpArgs false in
set_option linter.unusedVariables false in
set_option maxHeartbeats 8000000 in
set_option maxRecDepth 100000 in
theorem rknown16 (i : Int) (T A : Option Addr) (tn tc n c : Nat) (ts : TSr) (ws : List Int) (w : World) (hT : Trs w T tn ts) (hA : Ints w A n ws) :
    Calls Try.prog 25 #[.agg #[.int .i64 i, .slice T tn tc], .slice A n c] w fun r w' => r = .returned (.int .i64 (knw ts ws ts.length)) ∧ Below w.heap.size w w' := by
  obtain ⟨w0, hw0⟩ : ∃ w0, w0 = w.alloc (.cells #[.int .i64 i, .slice T tn tc] 24) := ⟨_, rfl⟩
  have hb0 : Below w.heap.size w w0 := by rw [hw0]; exact alloc_below _ _
  have m0 : Bx w0 w.heap.size #[.int .i64 i, .slice T tn tc] 24 := by rw [hw0]; exact bx_new _ _ _
  have HM := Lib.hid (fun (W : World) (h : Below w0.heap.size w0 W) => m0.on h)
  have HT := Lib.hid (fun (W : World) (h : Below w0.heap.size w0 W) => (hT.below hb0).below h)
  have HA := Lib.hid (fun (W : World) (h : Below w0.heap.size w0 W) => (hA.below hb0).below h)
  have HB0 := Lib.hid hb0
  have HW0 := Lib.hid hw0
  have HLT := Lib.hid hT.1
  have hn := hT.2.1
  clear hw0 hb0 m0 hT hA
  go_enter Try.func25, Try.ntmps25
  go_wp2
  rw [← HW0.out]
  go_loopw [6, 5] (fun v6 v5 wr => ∃ p kn : Nat, v6 = .int .i64 p ∧ p ≤ tn ∧ v5 = .int .i64 kn ∧ Hid (kn = knw ts ws p) ∧ Hid (Below w0.heap.size w0 wr)) (fun v6 _ _ => tn - (intOf v6).toNat)
  case atStart => exact ⟨0, 0, rfl, Nat.zero_le _, rfl, Lib.hid rfl, Lib.hid (Below.refl _ _)⟩
  case round =>
    obtain ⟨p, kn, rfl, hp, rfl, HK, HBR⟩ := hrel
    have k1 := (HM.out _ HBR.out).cell 1
    simp at k1
    by_cases hlt : p < tn
    · obtain ⟨b, off, A1, n1, c1, A2, n2, c2, rfl, hgb, j1, j2, q1, q2, j3, j4⟩ := (HT.out _ HBR.out).at_ hlt
      obtain ⟨K, hK⟩ : ∃ K, K = cmn (tIn ts p) ws := ⟨_, rfl⟩
      have HCM := Lib.hid (rcommon A1 A n1 c1 n c (tIn ts p) ws wr j3 (HA.out _ HBR.out))
      rw [← hK] at HCM
      have HN := Lib.hid (show (max (kn : Int) (K : Int)) = ((knw ts ws (p + 1) : Nat) : Int) by
        rw [hK, HK.out]
        show _ = ((max (knw ts ws p) (cmn (tIn ts p) ws) : Nat) : Int)
        omega)
      clear j3 j4 hK
      go_wp2_with fail
      refine HCM.out.mono ?_
      rintro r w3 ⟨rfl, q3, rfl⟩
      go_wp2
      go_roundw
      case rel => exact ⟨p + 1, knw ts ws (p + 1), by go_num, by omega, by rw [HN.out], Lib.hid rfl, Lib.hid (below_drewN HBR.out q3)⟩
      case measure => simp [intOf]; omega
    · obtain rfl : p = tn := by omega
      go_wp2
      go_ret
      exact ⟨by rw [HK.out, HLT.out]; rfl, bt HB0.out HBR.out⟩

set_option linter.unusedSimpArgs false in
set_option linter.unusedVariables false in
set_option maxHeartbeats 8000000 in
set_option maxRecDepth 100000 in
theorem rclash16 (i : Int) (T A B : Option Addr) (tn tc n c m d : Nat) (ts : TSr) (xs ys : List Int) (w : World) (hT : Trs w T tn ts) (htc : tn ≤ tc) (hx : Ints w A n xs) (hnc : n ≤ c) (hn0 : n ≤ 1000000) (hy : Ints w B m ys) (hF : Full ts) :
    Calls Try.prog 22 #[.agg #[.int .i64 i, .slice T tn tc], .agg #[.slice A n c, .slice B m d]] w fun e w' => RClE ts xs ys i w e w' := by
  obtain ⟨w0, hw0⟩ : ∃ w0, w0 = ((w.alloc (.cells #[.int .i64 i, .slice T tn tc] 24)).alloc (.cells #[.slice A n c, .slice B m d] 38)).alloc (.cells #[.slice none 0 0, .int .i64 0, .int .i64 0] 43) := ⟨_, rfl⟩
  obtain ⟨hb0, m1, m2, m3, hs0⟩ := bxs3 w #[.int .i64 i, .slice T tn tc] #[.slice A n c, .slice B m d] #[.slice none 0 0, .int .i64 0, .int .i64 0] 24 38 43 w0 hw0
  have HW0 := Lib.hid hw0
  have HB0 := Lib.hid hb0
  have HX := Lib.hid (fun (W : World) (h : Below w0.heap.size w0 W) => (hx.below hb0).below h)
  have HY := Lib.hid (fun (W : World) (h : Below w0.heap.size w0 W) => (hy.below hb0).below h)
  have HT := Lib.hid (fun (W : World) (h : Below w0.heap.size w0 W) => (hT.below hb0).below h)
  have HM1 := Lib.hid (fun (W : World) (h : Below w0.heap.size w0 W) => m1.on h)
  have HM2 := Lib.hid (fun (W : World) (h : Below w0.heap.size w0 W) => m2.on h)
  have HM3 := Lib.hid (fun (W : World) (h : Below w0.heap.size w0 W) => m3.on h)
  have HLT := Lib.hid hT.1
  have HLX := Lib.hid hx.1
  have HLY := Lib.hid hy.1
  have HFF := Lib.hid hF
  have hbc := Below.refl w0.heap.size w0
  have k0 := m1.cell 0
  have k1 := m1.cell 1
  have l0 := m2.cell 0
  have l1 := m2.cell 1
  simp at k0 k1 l0 l1
  rw [hw0] at k0 k1 l0 l1
  have hN := hT.2.1
  have hNx := hx.2.1
  have HZ0 := Lib.hid hs0
  clear hw0 hb0 hx hy hT m1 m2 m3 hF hs0
  go_enter Try.func22, Try.ntmps22
  go_wp2_with fail
  rw [← HW0.out]
  refine (rproper A B n c m d i xs ys _ (HX.out _ hbc) (HY.out _ hbc)).mono ?_
  rintro e w1 ⟨rfl, a1⟩
  have hbc := bt hbc a1
  clear a1 k0 k1 l0 l1
  obtain ⟨E, hE⟩ : ∃ E, E = prpE xs ys i := ⟨_, rfl⟩
  rw [← hE]
  have HE := Lib.hid hE
  clear hE
  by_cases he : E = 0
  case neg =>
    have hne : (E != 0) = true := by simpa using he
    have HNE := Lib.hid he
    have m3 := HM3.out _ hbc
    have f0 := m3.free 0
    have f1 := m3.free 1
    have f2 := m3.free 2
    have q0 := m3.cell 0
    have q1 := m3.cell 1
    have q2 := m3.cell 2
    simp at q0 q1 q2
    have HS3 := Lib.hid (m3.set3 (.slice none 0 0) (.int .i64 0) (.int .i64 0))
    have HBB := Lib.hid (set3B (g := w.heap.size + 1 + 1) (bt HB0.out hbc) (by omega) (.slice none 0 0) (.int .i64 0) (.int .i64 0))
    clear m3
    go_wp2_with fail
    (try rw [Exit.noGoto_ret])
    refine bodyPost_ret (results_clash rfl _ _ (w.heap.size + 1 + 1) (.slice none 0 0) (.int .i64 0) (.int .i64 0) rfl HS3.out) rfl ?_
    exact ⟨false, none, 0, 0, 0, 0, [], rfl, .inl ⟨rfl, rfl, rfl, rfl, .inl (by rw [← HE.out]; exact HNE.out)⟩, ⟨rfl, Nat.zero_le _, fun h => absurd h (by omega)⟩, HBB.out⟩
  subst he
  have hpr : prpE xs ys i = 0 := HE.out.symm
  have hml : ys.length = xs.length := by
    have hq := hpr
    unfold prpE at hq
    split at hq
    · exact (ansE_zero hq).1
    · omega
  obtain rfl : m = n := by rw [← HLX.out, ← HLY.out, hml]
  have HPR := Lib.hid hpr
  have HML := Lib.hid hml
  have HBC := Lib.hid hbc
  clear hpr hml hbc
  go_wp2_with fail
  go_loopw [8, 6, 7] (fun v8 v6 v7 wr => ∃ (p : Nat) (z f : Int), v8 = .int .i64 p ∧ p ≤ tn ∧ v6 = .int .i64 z ∧ v7 = .int .i64 f ∧ Hid (RAt ts xs ys p z f) ∧ Hid (Below w0.heap.size w0 wr)) (fun v8 _ _ _ => tn - (intOf v8).toNat)
  case atStart => exact ⟨0, -1, 0, rfl, Nat.zero_le _, rfl, rfl, Lib.hid (RAt.zero _ _ _), HBC⟩
  case round =>
    obtain ⟨p, z, f, rfl, hp, rfl, rfl, HA, HBR⟩ := hrel
    have k1 := (HM1.out _ HBR.out).cell 1
    have l0 := (HM2.out _ HBR.out).cell 0
    have l1 := (HM2.out _ HBR.out).cell 1
    simp at k1 l0 l1
    by_cases hlt : p < tn
    · obtain ⟨b, off, A1, n1, c1, A2, n2, c2, eT, hgb, j1, j2, _, _, j3, j4⟩ := (HT.out _ HBR.out).at_ hlt
      subst eT
      obtain ⟨y, hy⟩ := dff_ex (tIn ts p) (tOut ts p) xs ys
      have hpI : (p : Int) < (tn : Int) := by omega
      have hp0 : (0 : Int) ≤ (p : Int) := by omega
      have HY' := Lib.hid hy
      have HJ4 := Lib.hid (fun (W : World) (h : Below wr.heap.size wr W) => j4.below h)
      have HFP := Lib.hid (HFF.out p (by rw [HLT.out]; exact hlt))
      have HLI := Lib.hid j3.1
      have HDI := Lib.hid (fun (W : World) (h : Below wr.heap.size wr W) => rdiffer A1 A2 A B n1 c1 n2 c2 m c m d (tIn ts p) (tOut ts p) xs ys y W (j3.below h) (j4.below h) ((HX.out _ HBR.out).below h) ((HY.out _ HBR.out).below h) HFP.out HML.out hy)
      have HS := Lib.hid (show ∀ W, Below wr.heap.size wr W → W.cell? ⟨w.heap.size, 1, none⟩ = some (.slice (some ⟨b, off, none⟩) tn tc) ∧ W.cell? ⟨b, off + p * 2, none⟩ = some (.slice A1 n1 c1) ∧ W.cell? ⟨b, off + p * 2 + 1, none⟩ = some (.slice A2 n2 c2) ∧ W.cell? ⟨w.heap.size + 1, 0, none⟩ = some (.slice A m c) ∧ W.cell? ⟨w.heap.size + 1, 1, none⟩ = some (.slice B m d) from fun W h => ⟨(h.cell (p := ⟨w.heap.size, 1, none⟩) (World.block_lt_of_cell? _ _ k1)).trans k1, (h.cell (p := ⟨b, off + p * 2, none⟩) hgb).trans j1, (h.cell (p := ⟨b, off + p * 2 + 1, none⟩) hgb).trans j2, (h.cell (p := ⟨w.heap.size + 1, 0, none⟩) (World.block_lt_of_cell? _ _ l0)).trans l0, (h.cell (p := ⟨w.heap.size + 1, 1, none⟩) (World.block_lt_of_cell? _ _ l1)).trans l1⟩)
      clear hy j3 j4 l0 l1 hgb j1 j2
      go_upto_region 7 with fail
      have hbf : Below wr.heap.size wr wr.drew := below_drewN (Below.refl _ _) 1
      refine wp_region_heldX (X := fun k => ([] : List Nat).contains k) (S := fun W => W.cell? ⟨w.heap.size, 1, none⟩ = some (.slice (some ⟨b, off, none⟩) tn tc) ∧ W.cell? ⟨b, off + p * 2, none⟩ = some (.slice A1 n1 c1) ∧ W.cell? ⟨b, off + p * 2 + 1, none⟩ = some (.slice A2 n2 c2) ∧ W.cell? ⟨w.heap.size + 1, 0, none⟩ = some (.slice A m c) ∧ W.cell? ⟨w.heap.size + 1, 1, none⟩ = some (.slice B m d)) (by kernel_rfl) ?_
      refine wpAnyX_pure (i := 0) (v := ?_) rfl (by kernel_rfl) (by kernel_rfl) (by kernel_rfl) (fun _ _ _ h => h) (Or.inl ⟨by rfl, ?_⟩) ?_
      rotate_left
      · (intro W _; go_simp; try with_reducible rfl)
      (try simp only [Act.put, List.getElem_toArray, List.getElem_cons_zero, List.getElem_cons_succ, List.setIfInBounds_toArray, List.set_cons_zero, List.set_cons_succ])
      refine wpAnyX_takeL (L := []) (i := 1) (v := ?_) rfl (by kernel_rfl) (by kernel_rfl) (by kernel_rfl) (by kernel_rfl) (fun _ _ _ h => h) (Or.inl ⟨by rfl, ?_⟩) (HS.out _ hbf) ?_
      rotate_left
      · (intro W hSW; (try dsimp only at hSW); obtain ⟨z0, z1, z2, z3, z4⟩ := hSW; go_simp; try with_reducible rfl)
      (try simp only [Act.put, List.getElem_toArray, List.getElem_cons_zero, List.getElem_cons_succ, List.setIfInBounds_toArray, List.set_cons_zero, List.set_cons_succ])
      refine wpAnyX_pure (i := 2) (v := ?_) rfl (by kernel_rfl) (by kernel_rfl) (by kernel_rfl) (fun _ _ _ h => h) (Or.inl ⟨by rfl, ?_⟩) ?_
      rotate_left
      · (intro W _; go_simp; try with_reducible rfl)
      (try simp only [Act.put, List.getElem_toArray, List.getElem_cons_zero, List.getElem_cons_succ, List.setIfInBounds_toArray, List.set_cons_zero, List.set_cons_succ])
      refine wpAnyX_pure (i := 3) (v := ?_) rfl (by kernel_rfl) (by kernel_rfl) (by kernel_rfl) (fun _ _ _ h => h) (Or.inl ⟨by rfl, ?_⟩) ?_
      rotate_left
      · (intro W _; go_simp; try with_reducible rfl)
      (try simp only [Act.put, List.getElem_toArray, List.getElem_cons_zero, List.getElem_cons_succ, List.setIfInBounds_toArray, List.set_cons_zero, List.set_cons_succ])
      refine wpAnyX_takeL (L := []) (i := 4) (v := ?_) rfl (by kernel_rfl) (by kernel_rfl) (by kernel_rfl) (by kernel_rfl) (fun _ _ _ h => h) (Or.inl ⟨by rfl, ?_⟩) (HS.out _ hbf) ?_
      rotate_left
      · (intro W hSW; (try dsimp only at hSW); obtain ⟨z0, z1, z2, z3, z4⟩ := hSW; go_simp; try with_reducible rfl)
      (try simp only [Act.put, List.getElem_toArray, List.getElem_cons_zero, List.getElem_cons_succ, List.setIfInBounds_toArray, List.set_cons_zero, List.set_cons_succ])
      refine wpAnyX_takeL (L := []) (i := 5) (v := ?_) rfl (by kernel_rfl) (by kernel_rfl) (by kernel_rfl) (by kernel_rfl) (fun _ _ _ h => h) (Or.inl ⟨by rfl, ?_⟩) (HS.out _ hbf) ?_
      rotate_left
      · (intro W hSW; (try dsimp only at hSW); obtain ⟨z0, z1, z2, z3, z4⟩ := hSW; go_simp; try with_reducible rfl)
      (try simp only [Act.put, List.getElem_toArray, List.getElem_cons_zero, List.getElem_cons_succ, List.setIfInBounds_toArray, List.set_cons_zero, List.set_cons_succ])
      refine wpAnyX_one (i := 6) rfl (by kernel_rfl) (fun K hK => ?_)
      go_simp
      go_at_call 52
      refine (HDI.out _ hbf).mono ?_
      rintro r w5 ⟨rfl, b5⟩
      have hbf := bt hbf b5
      clear b5
      refine hK.out _ _ (fun _ _ => HS.out _ hbf) ?_
      (try simp only [Act.put, List.getElem_toArray, List.getElem_cons_zero, List.getElem_cons_succ, List.setIfInBounds_toArray, List.set_cons_zero, List.set_cons_succ])
      refine wpAnyX_pure (i := 7) (v := ?_) rfl (by kernel_rfl) (by kernel_rfl) (by kernel_rfl) (fun _ _ _ h => h) (Or.inl ⟨by rfl, ?_⟩) ?_
      rotate_left
      · (intro W _; go_simp; try with_reducible rfl)
      (try simp only [Act.put, List.getElem_toArray, List.getElem_cons_zero, List.getElem_cons_succ, List.setIfInBounds_toArray, List.set_cons_zero, List.set_cons_succ])
      refine wpAnyX_done (by kernel_rfl) ?_ _
      have HBF := Lib.hid hbf
      clear hbf k1
      by_cases hn : y < 0 ∨ (0 ≤ z ∧ z ≤ y)
      · have HN := Lib.hid (HA.out.no HY'.out hn)
        obtain ⟨k1, j1, j2, l0, l1⟩ := HS.out _ HBF.out
        by_cases h0 : y < 0
        · have g1 : ¬ (0 : Int) ≤ y := by omega
          clear hn
          go_wp2
          go_roundw
          case rel => exact ⟨p + 1, z, f, by go_num, by omega, rfl, rfl, HN, Lib.hid (by first | exact bt HBR.out HBF.out | exact below_drewN (bt HBR.out HBF.out) _ | exact below_drewN (below_drewN (bt HBR.out HBF.out) _) _)⟩
          case measure => simp [intOf]; omega
        · have g1 : (0 : Int) ≤ y := by omega
          have g2 : ¬ z < 0 := by omega
          have g3 : ¬ y < z := by omega
          clear hn
          go_wp2
          go_roundw
          case rel => exact ⟨p + 1, z, f, by go_num, by omega, rfl, rfl, HN, Lib.hid (by first | exact bt HBR.out HBF.out | exact below_drewN (bt HBR.out HBF.out) _ | exact below_drewN (below_drewN (bt HBR.out HBF.out) _) _)⟩
          case measure => simp [intOf]; omega
      · obtain ⟨k, rfl⟩ : ∃ k : Nat, y = k := ⟨y.toNat, by omega⟩
        have hz : z < 0 ∨ (k : Int) < z := by omega
        have hk : k < cmn (tIn ts p) xs := by
          rcases HY'.out with ⟨h, _⟩ | ⟨k', h, h', _⟩
          · omega
          · omega
        have HN := Lib.hid (HA.out.yes HY'.out hz)
        have hkl := cmn_le_left (tIn ts p) xs
        have hn2 : k < n2 := by
          have := HFP.out
          have := HLI.out
          have := (HJ4.out _ HBF.out).1
          omega
        obtain ⟨b2, o2, e2, hg2, r2⟩ := (HJ4.out _ HBF.out).at_ (k := k) hn2
        subst e2
        obtain ⟨F, hF⟩ : ∃ F, F = (tOut ts p).getD k 0 := ⟨_, rfl⟩
        rw [← hF] at r2 HN
        obtain ⟨k1, j1, j2, l0, l1⟩ := HS.out _ HBF.out
        have g0 : (0 : Int) ≤ (k : Int) := by omega
        have g4 : (k : Int) < (n2 : Int) := by omega
        clear hn hF hk hkl
        by_cases h1 : z < 0
        · clear hz
          go_wp2
          go_roundw
          case rel => exact ⟨p + 1, k, F, by go_num, by omega, rfl, rfl, HN, Lib.hid (by first | exact bt HBR.out HBF.out | exact below_drewN (bt HBR.out HBF.out) _ | exact below_drewN (below_drewN (bt HBR.out HBF.out) _) _)⟩
          case measure => simp [intOf]; omega
        · have h2 : (k : Int) < z := by omega
          clear hz
          go_wp2
          go_roundw
          case rel => exact ⟨p + 1, k, F, by go_num, by omega, rfl, rfl, HN, Lib.hid (by first | exact bt HBR.out HBF.out | exact below_drewN (bt HBR.out HBF.out) _ | exact below_drewN (below_drewN (bt HBR.out HBF.out) _) _)⟩
          case measure => simp [intOf]; omega
    · obtain rfl : p = tn := by omega
      have HAA := HA.out
      rcases HAA with ⟨rfl, rfl, ha⟩ | ⟨a, k, rfl, h1, h2, h3, h4, rfl⟩
      · have HAN := Lib.hid ha
        have m3 := HM3.out _ HBR.out
        have f0 := m3.free 0
        have f1 := m3.free 1
        have f2 := m3.free 2
        have q0 := m3.cell 0
        have q1 := m3.cell 1
        have q2 := m3.cell 2
        simp at q0 q1 q2
        have HS3 := Lib.hid (m3.set3 (.slice none 0 0) (.int .i64 0) (.int .i64 0))
        have HBB := Lib.hid (set3B (g := w.heap.size + 1 + 1) (bt HB0.out HBR.out) (by omega) (.slice none 0 0) (.int .i64 0) (.int .i64 0))
        clear m3 ha
        go_wp2_with fail
        (try rw [Exit.noGoto_ret])
        refine bodyPost_ret (results_clash rfl _ _ (w.heap.size + 1 + 1) (.slice none 0 0) (.int .i64 0) (.int .i64 0) rfl HS3.out) rfl ?_
        exact ⟨false, none, 0, 0, 0, 0, [], rfl, .inl ⟨rfl, rfl, rfl, rfl, .inr (by rw [HLT.out]; exact HAN.out)⟩, ⟨rfl, Nat.zero_le _, fun h => absurd h (by omega)⟩, HBB.out⟩
      · have hkm : k < m := by
          have := cmn_le_right (tIn ts a) xs
          have := HLX.out
          omega
        obtain ⟨b3, o3, eB, hg3, r3⟩ := (HY.out _ HBR.out).at_ (k := k) hkm
        subst eB
        obtain ⟨F, hF⟩ : ∃ F, F = (tOut ts a).getD k 0 := ⟨_, rfl⟩
        obtain ⟨S2, hS2⟩ : ∃ S2, S2 = ys.getD k 0 := ⟨_, rfl⟩
        rw [← hS2] at r3
        have hlen : (xs.take (k + 1)).length = k + 1 := by rw [List.length_take, HLX.out]; omega
        have HR6 := Lib.hid (show RClR ts xs ys i true (xs.take (k + 1)) F S2 from .inr ⟨rfl, HPR.out, a, k, by rw [HLT.out]; exact h1, h2, h3, fun b hb => h4 b (by rw [← HLT.out]; exact hb), rfl, hF, hS2⟩)
        rw [← hF]
        have HS := Lib.hid (show ∀ W, Below wr.heap.size wr W → W.cell? ⟨w.heap.size + 1, 0, none⟩ = some (.slice A m c) ∧ W.cell? ⟨w.heap.size + 1, 1, none⟩ = some (.slice (some ⟨b3, o3, none⟩) m d) ∧ W.cell? ⟨b3, o3 + k, none⟩ = some (.int .i64 S2) from fun W h => ⟨(h.cell (p := ⟨w.heap.size + 1, 0, none⟩) (World.block_lt_of_cell? _ _ l0)).trans l0, (h.cell (p := ⟨w.heap.size + 1, 1, none⟩) (World.block_lt_of_cell? _ _ l1)).trans l1, (h.cell (p := ⟨b3, o3 + k, none⟩) hg3).trans r3⟩)
        have HR := Lib.hid (HM3.out _ HBR.out)
        have hz4 : w.heap.size + 1 + 1 < wr.heap.size := (HM3.out _ HBR.out).lt
        have HJO := Lib.hid (fun (W : World) (h : Below wr.heap.size wr W) => join_one (c := c) (((HX.out _ HBR.out).below h).takeX (t := k + 1) (by omega)))
        have HLN := Lib.hid hlen
        have w1' : IntKind.i64.wrap ((k : Int) + 1) = (k : Int) + 1 := by rw [IntKind.wrap_i64]; omega
        have i1 : (k : Int) + 1 ≤ (c : Int) := by omega
        have i2 : (0 : Int) ≤ (k : Int) + 1 := by omega
        have i6 : (k : Int) < (m : Int) := by omega
        have i7 : (0 : Int) ≤ (k : Int) := by omega
        have i8 : ¬ (k : Int) < 0 := by omega
        clear hF hS2 hlen r3 hg3 h1 h2 h3 h4
        go_upto_region 13 with fail
        have hbf : Below wr.heap.size wr wr.drew := below_drewN (Below.refl _ _) 1
        refine wp_region_heldX (X := fun k => ([14] : List Nat).contains k) (S := fun W => W.cell? ⟨w.heap.size + 1, 0, none⟩ = some (.slice A m c) ∧ W.cell? ⟨w.heap.size + 1, 1, none⟩ = some (.slice (some ⟨b3, o3, none⟩) m d) ∧ W.cell? ⟨b3, o3 + k, none⟩ = some (.int .i64 S2)) (by kernel_rfl) ?_
        refine wpAnyX_pure (i := 0) (v := ?_) rfl (by kernel_rfl) (by kernel_rfl) (by kernel_rfl) (fun _ _ _ h => h) (Or.inl ⟨by rfl, ?_⟩) ?_
        rotate_left
        · (intro W _; go_simp; try with_reducible rfl)
        (try simp only [Act.put, List.getElem_toArray, List.getElem_cons_zero, List.getElem_cons_succ, List.setIfInBounds_toArray, List.set_cons_zero, List.set_cons_succ])
        refine wpAnyX_takeL (L := [14]) (i := 1) (v := ?_) rfl (by kernel_rfl) (by kernel_rfl) (by kernel_rfl) (by kernel_rfl) (fun _ _ _ h => h) (Or.inl ⟨by rfl, ?_⟩) (HS.out _ hbf) ?_
        rotate_left
        · (intro W hSW; (try dsimp only at hSW); obtain ⟨z0, z1, z2⟩ := hSW; go_simp; try with_reducible rfl)
        (try simp only [Act.put, List.getElem_toArray, List.getElem_cons_zero, List.getElem_cons_succ, List.setIfInBounds_toArray, List.set_cons_zero, List.set_cons_succ])
        refine wpAnyX_pure (i := 2) (v := ?_) rfl (by kernel_rfl) (by kernel_rfl) (by kernel_rfl) (fun _ _ _ h => h) (Or.inl ⟨by rfl, ?_⟩) ?_
        rotate_left
        · (intro W _; go_simp; try with_reducible rfl)
        (try simp only [Act.put, List.getElem_toArray, List.getElem_cons_zero, List.getElem_cons_succ, List.setIfInBounds_toArray, List.set_cons_zero, List.set_cons_succ])
        refine wpAnyX_pure (i := 3) (v := ?_) rfl (by kernel_rfl) (by kernel_rfl) (by kernel_rfl) (fun _ _ _ h => h) (Or.inl ⟨by rfl, ?_⟩) ?_
        rotate_left
        · (intro W _; go_simp; try with_reducible rfl)
        (try simp only [Act.put, List.getElem_toArray, List.getElem_cons_zero, List.getElem_cons_succ, List.setIfInBounds_toArray, List.set_cons_zero, List.set_cons_succ])
        refine wpAnyX_pure (i := 4) (v := ?_) rfl (by kernel_rfl) (by kernel_rfl) (by kernel_rfl) (fun _ _ _ h => h) (Or.inl ⟨by rfl, ?_⟩) ?_
        rotate_left
        · (intro W _; go_simp; try with_reducible rfl)
        (try simp only [Act.put, List.getElem_toArray, List.getElem_cons_zero, List.getElem_cons_succ, List.setIfInBounds_toArray, List.set_cons_zero, List.set_cons_succ])
        refine wpAnyX_pure (i := 7) (v := ?_) rfl (by kernel_rfl) (by kernel_rfl) (by kernel_rfl) (fun _ _ _ h => h) (Or.inl ⟨by rfl, ?_⟩) ?_
        rotate_left
        · (intro W _; go_simp; try with_reducible rfl)
        (try simp only [Act.put, List.getElem_toArray, List.getElem_cons_zero, List.getElem_cons_succ, List.setIfInBounds_toArray, List.set_cons_zero, List.set_cons_succ])
        refine wpAnyX_pure (i := 8) (v := ?_) rfl (by kernel_rfl) (by kernel_rfl) (by kernel_rfl) (fun _ _ _ h => h) (Or.inl ⟨by rfl, ?_⟩) ?_
        rotate_left
        · (intro W _; go_simp; try with_reducible rfl)
        (try simp only [Act.put, List.getElem_toArray, List.getElem_cons_zero, List.getElem_cons_succ, List.setIfInBounds_toArray, List.set_cons_zero, List.set_cons_succ])
        refine wpAnyX_takeL (L := [14]) (i := 9) (v := ?_) rfl (by kernel_rfl) (by kernel_rfl) (by kernel_rfl) (by kernel_rfl) (fun _ _ _ h => h) (Or.inl ⟨by rfl, ?_⟩) (HS.out _ hbf) ?_
        rotate_left
        · (intro W hSW; (try dsimp only at hSW); obtain ⟨z0, z1, z2⟩ := hSW; go_simp; try with_reducible rfl)
        (try simp only [Act.put, List.getElem_toArray, List.getElem_cons_zero, List.getElem_cons_succ, List.setIfInBounds_toArray, List.set_cons_zero, List.set_cons_succ])
        refine wpAnyX_pure (i := 10) (v := ?_) rfl (by kernel_rfl) (by kernel_rfl) (by kernel_rfl) (fun _ _ _ h => h) (Or.inl ⟨by rfl, ?_⟩) ?_
        rotate_left
        · (intro W _; go_simp; try with_reducible rfl)
        (try simp only [Act.put, List.getElem_toArray, List.getElem_cons_zero, List.getElem_cons_succ, List.setIfInBounds_toArray, List.set_cons_zero, List.set_cons_succ])
        refine wpAnyX_pure (i := 11) (v := ?_) rfl (by kernel_rfl) (by kernel_rfl) (by kernel_rfl) (fun _ _ _ h => h) (Or.inl ⟨by rfl, ?_⟩) ?_
        rotate_left
        · (intro W _; go_simp; try with_reducible rfl)
        (try simp only [Act.put, List.getElem_toArray, List.getElem_cons_zero, List.getElem_cons_succ, List.setIfInBounds_toArray, List.set_cons_zero, List.set_cons_succ])
        refine wpAnyX_takeL (L := [14]) (i := 12) (v := ?_) rfl (by kernel_rfl) (by kernel_rfl) (by kernel_rfl) (by kernel_rfl) (fun _ _ _ h => h) (Or.inl ⟨by rfl, ?_⟩) (HS.out _ hbf) ?_
        rotate_left
        · (intro W hSW; (try dsimp only at hSW); obtain ⟨z0, z1, z2⟩ := hSW; go_simp; try with_reducible rfl)
        (try simp only [Act.put, List.getElem_toArray, List.getElem_cons_zero, List.getElem_cons_succ, List.setIfInBounds_toArray, List.set_cons_zero, List.set_cons_succ])
        refine wpAnyX_one (i := 5) rfl (by kernel_rfl) (fun K hK => ?_)
        go_simp
        refine hK.out _ _ (fun _ _ => HS.out _ (bt hbf (alloc_below _ _))) ?_
        (try simp only [Act.put, List.getElem_toArray, List.getElem_cons_zero, List.getElem_cons_succ, List.setIfInBounds_toArray, List.set_cons_zero, List.set_cons_succ])
        refine wpAnyX_one (i := 6) rfl (by kernel_rfl) (fun K hK => ?_)
        go_simp
        go_at_call 49
        refine (HJO.out _ hbf).mono ?_
        rintro e w5 ⟨A5, c5, rfl, o5, b5⟩
        have hbf := bt hbf b5
        have HO5 := Lib.hid o5
        have HR5 := Lib.hid (HR.out.kept (hbf.mono (Nat.le_refl _)) hz4)
        refine hK.out _ _ (fun _ _ => HS.out _ hbf) ?_
        clear o5 b5
        (try simp only [Act.put, List.getElem_toArray, List.getElem_cons_zero, List.getElem_cons_succ, List.setIfInBounds_toArray, List.set_cons_zero, List.set_cons_succ])
        refine wpAnyX_pure (i := 13) (v := ?_) rfl (by kernel_rfl) (by kernel_rfl) (by kernel_rfl) (fun _ _ _ h => h) (Or.inl ⟨by rfl, ?_⟩) ?_
        rotate_left
        · (intro W _; go_simp; try with_reducible rfl)
        (try simp only [Act.put, List.getElem_toArray, List.getElem_cons_zero, List.getElem_cons_succ, List.setIfInBounds_toArray, List.set_cons_zero, List.set_cons_succ])
        refine wpAnyX_one (i := 14) rfl (by kernel_rfl) (fun K hK => ?_)
        refine wp_store_row 43 _ _ rfl (w.heap.size + 1 + 1) (#[.slice A5 (k + 1) c5, .int .i64 F, .int .i64 S2]) rfl rfl 43 (#[.slice none 0 0, .int .i64 0, .int .i64 0]) HR5.out (by kernel_rfl) (by rfl) (by simp [Value.oneCell']) (hK.out _ _ (fun h => absurd h (by decide)) ?_)
        (try simp only [Act.put, List.getElem_toArray, List.getElem_cons_zero, List.getElem_cons_succ, List.setIfInBounds_toArray, List.set_cons_zero, List.set_cons_succ])
        refine wpAnyX_pure (i := 15) (v := ?_) rfl (by kernel_rfl) (by kernel_rfl) (by kernel_rfl) (fun _ _ _ h => h) (Or.inl ⟨by rfl, ?_⟩) ?_
        rotate_left
        · (intro W _; go_simp; try with_reducible rfl)
        (try simp only [Act.put, List.getElem_toArray, List.getElem_cons_zero, List.getElem_cons_succ, List.setIfInBounds_toArray, List.set_cons_zero, List.set_cons_succ])
        refine wpAnyX_done (by kernel_rfl) ?_ _
        have HRX := Lib.hid (HR5.out.row #[.slice A5 (k + 1) c5, .int .i64 F, .int .i64 S2])
        have HOX := Lib.hid ((HO5.out.keptT (HR5.out.keptRow (t := 3) (by decide) #[.slice A5 (k + 1) c5, .int .i64 F, .int .i64 S2])).ints (by rw [HLN.out]; omega))
        have HBX := Lib.hid (below_setRow (bt HB0.out (bt HBR.out hbf)) (by omega : w.heap.size ≤ w.heap.size + 1 + 1) #[.slice A5 (k + 1) c5, .int .i64 F, .int .i64 S2])
        clear hbf
        go_wp2_with fail
        (try rw [Exit.noGoto_ret])
        refine bodyPost_ret (results_clash rfl _ _ (w.heap.size + 1 + 1) (.slice A5 (k + 1) c5) (.int .i64 F) (.int .i64 S2) rfl HRX.out) rfl ?_
        exact ⟨true, A5, k + 1, c5, F, S2, xs.take (k + 1), rfl, HR6.out, HOX.out, HBX.out⟩
end Go.Proofs.Ytkkmcgapbcikiaa
end

section
/- The reference of observe: Same, of any two. -/
namespace Go.Proofs.Ytkkmcgapbcikiaa
open Go.RowKit

theorem tr_ext {ts us : TSr} (hl : ts.length = us.length) (h : ∀ j, j < ts.length → tIn ts j = tIn us j ∧ tOut ts j = tOut us j) : ts = us := List.ext_getElem hl fun j h1 h2 => by
  have := h j h1
  unfold tIn tOut at this
  rw [List.getD_eq_getElem?_getD, List.getD_eq_getElem?_getD, List.getElem?_eq_getElem h1, List.getElem?_eq_getElem h2] at this
  exact Prod.ext this.1 this.2
set_option linter.unusedSimpArgs false in
set_option linter.unusedVariables false in
set_option maxHeartbeats 4000000 in
set_option maxRecDepth 100000 in
theorem rsametX (A B : Option Addr) (n c m d : Nat) (ts us : TSr) (w : World) (hx : Trs w A n ts) (hy : Trs w B m us) :
    Calls Try.prog 45 #[.slice A n c, .slice B m d] w fun e w' => e = .returned (.bool (decide (ts = us))) ∧ ∃ q, w' = w.drewN q := by
  have hn := hx.2.1
  have hm := hy.2.1
  by_cases hnm : n = m
  case neg =>
    have hd : decide (ts = us) = false := decide_eq_false fun e => hnm (by rw [← hx.1, ← hy.1, e])
    rw [hd]
    have hne : ((n : Int) != (m : Int)) = true := by rw [bne_iff_ne]; omega
    clear hx hy hd
    go_enter Try.func45, Try.ntmps45
    go_wp2
    go_ret
    exact ⟨rfl, by first | exact ⟨0, rfl⟩ | exact ⟨_, rfl⟩⟩
  subst hnm
  have HX := Lib.hid hx
  have HY := Lib.hid hy
  clear hx hy
  go_enter Try.func45, Try.ntmps45
  go_wp2
  go_loopw [5] (fun jv wr => ∃ j : Nat, j ≤ n ∧ jv = .int .i64 j ∧ Hid (∀ t, t < j → tIn ts t = tIn us t ∧ tOut ts t = tOut us t) ∧ ∃ q, wr = w.drewN q) (fun jv _ => n - (intOf jv).toNat)
  case atStart => exact ⟨0, Nat.zero_le _, rfl, Lib.hid (fun t h => absurd h (Nat.not_lt_zero t)), 0, rfl⟩
  case round =>
    obtain ⟨j, hj, rfl, HA, hw⟩ := hrel
    have HW := Lib.hid hw
    by_cases hlt : j < n
    · obtain ⟨q0, hw⟩ := hw
      have hx' : Trs wr A n ts := by rw [hw]; exact HX.out
      have hy' : Trs wr B n us := by rw [hw]; exact HY.out
      clear hw
      obtain ⟨b1, off1, A1, n1, c1, A2, n2, c2, rfl, _, h1, h2, _, _, h3, h4⟩ := hx'.at_ hlt
      obtain ⟨b2, off2, B1, m1, d1, B2, m2, d2, rfl, _, k1, k2, _, _, k3, k4⟩ := hy'.at_ hlt
      by_cases e1 : tIn ts j = tIn us j
      case neg =>
        have HI1 := Lib.hid (fun q => rints A1 B1 n1 c1 m1 d1 _ _ false (wr.drewN q) (h3.drewN q) (k3.drewN q) (by rw [decide_eq_false e1]))
        have HD := Lib.hid (show decide (ts = us) = false from decide_eq_false fun e => e1 (by rw [e]))
        clear hx' hy' h3 h4 k3 k4 e1
        go_wp2
        go_quiet ((go_at_call 23; exact Calls.quiet_of (HI1.out _)))
        go_wp2
        go_ret
        exact ⟨by rw [HD.out]; rfl, drew_more HW.out _⟩
      case pos =>
        by_cases e2 : tOut ts j = tOut us j
        case neg =>
          have HI1 := Lib.hid (fun q => rints A1 B1 n1 c1 m1 d1 _ _ true (wr.drewN q) (h3.drewN q) (k3.drewN q) (by rw [decide_eq_true e1]))
          have HI2 := Lib.hid (fun q => rints A2 B2 n2 c2 m2 d2 _ _ false (wr.drewN q) (h4.drewN q) (k4.drewN q) (by rw [decide_eq_false e2]))
          have HD := Lib.hid (show decide (ts = us) = false from decide_eq_false fun e => e2 (by rw [e]))
          clear hx' hy' h3 h4 k3 k4 e1 e2
          go_wp2
          go_quiet (first
            | (go_at_call 23; with_reducible exact Calls.quiet_of (HI1.out _))
            | (go_at_call 23; with_reducible exact Calls.quiet_of (HI2.out _)))
          go_wp2
          go_ret
          exact ⟨by rw [HD.out]; rfl, drew_more HW.out _⟩
        case pos =>
          have HI1 := Lib.hid (fun q => rints A1 B1 n1 c1 m1 d1 _ _ true (wr.drewN q) (h3.drewN q) (k3.drewN q) (by rw [decide_eq_true e1]))
          have HI2 := Lib.hid (fun q => rints A2 B2 n2 c2 m2 d2 _ _ true (wr.drewN q) (h4.drewN q) (k4.drewN q) (by rw [decide_eq_true e2]))
          have HN := Lib.hid (show ∀ t, t < j + 1 → tIn ts t = tIn us t ∧ tOut ts t = tOut us t from fun t ht => by
            rcases Nat.lt_or_ge t j with h | h
            · exact HA.out t h
            · obtain rfl : t = j := by omega
              exact ⟨e1, e2⟩)
          clear hx' hy' h3 h4 k3 k4 e1 e2
          go_wp2
          go_quiet (first
            | (go_at_call 23; with_reducible exact Calls.quiet_of (HI1.out _))
            | (go_at_call 23; with_reducible exact Calls.quiet_of (HI2.out _)))
          go_wp2
          go_roundw
          case rel => exact ⟨j + 1, by omega, by go_num, HN, drew_more HW.out _⟩
          case measure => simp [intOf]; omega
    · obtain rfl : j = n := by omega
      have HD := Lib.hid (show decide (ts = us) = true from decide_eq_true (tr_ext (by rw [HX.out.1, HY.out.1]) (by rw [HX.out.1]; exact HA.out)))
      go_wp2
      go_ret
      exact ⟨by rw [HD.out]; rfl, HW.out⟩
set_option linter.unusedSimpArgs false in
set_option linter.unusedVariables false in
set_option maxHeartbeats 4000000 in
set_option maxRecDepth 100000 in
theorem rsame16 (i k : Int) (A B : Option Addr) (n c m d : Nat) (ts us : TSr) (w : World) (hx : Trs w A n ts) (hy : Trs w B m us) :
    Calls Try.prog 17 #[.agg #[.int .i64 i, .slice A n c], .agg #[.int .i64 k, .slice B m d]] w fun e w' => e = .returned (.bool (decide (i = k ∧ ts = us))) ∧ Below w.heap.size w w' := by
  obtain ⟨w0, hw0⟩ : ∃ w0, w0 = (w.alloc (.cells #[.int .i64 i, .slice A n c] 24)).alloc (.cells #[.int .i64 k, .slice B m d] 24) := ⟨_, rfl⟩
  obtain ⟨hb0, m1, m2, hs0⟩ := bxs2 w #[.int .i64 i, .slice A n c] #[.int .i64 k, .slice B m d] 24 24 w0 hw0
  have HB0 := Lib.hid hb0
  have HW0 := Lib.hid hw0
  have HS := Lib.hid (rsametX A B n c m d ts us w0 (hx.below hb0) (hy.below hb0))
  have k0 := m1.cell 0
  have k1 := m1.cell 1
  have l0 := m2.cell 0
  have l1 := m2.cell 1
  simp at k0 k1 l0 l1
  rw [hw0] at k0 k1 l0 l1
  clear hw0 hb0 m1 m2 hs0 hx hy
  by_cases hik : i = k
  · subst hik
    have HD := Lib.hid (show decide (i = i ∧ ts = us) = decide (ts = us) by simp)
    rw [HD.out]
    go_enter Try.func17, Try.ntmps17
    go_wp2_with fail
    rw [← HW0.out]
    refine HS.out.mono ?_
    rintro r w1 ⟨rfl, q1, rfl⟩
    go_wp2
    go_ret
    exact ⟨rfl, below_drewN HB0.out q1⟩
  · have HD := Lib.hid (show decide (i = k ∧ ts = us) = false from decide_eq_false fun h => hik h.1)
    have hb : (i == k) = false := beq_eq_false_iff_ne.2 hik
    rw [HD.out]
    go_enter Try.func17, Try.ntmps17
    go_wp2_with fail
    rw [← HW0.out]
    go_ret
    exact ⟨rfl, HB0.out⟩
end Go.Proofs.Ytkkmcgapbcikiaa
end

section
/- The reference's add, as a function on lists, and that it makes what insert makes. No program. -/
namespace Go.Proofs.Ytkkmcgapbcikiaa

/-- Is the trace x kept beside the new word xs? -/
def kp (xs : List Int) (x : List Int × List Int) : Bool := !(decide (cmn xs x.1 = x.1.length)) || decide (xs.length = x.1.length)
/-- The reference's loop: d says whether the new trace is in already. -/
def radd (xs ys : List Int) : Bool → TSr → TSr
  | d, [] => if d then [] else [(xs, ys)]
  | d, x :: r => (if !d && decide (shlex xs x.1 < 0) then [(xs, ys)] else []) ++ ((if kp xs x then [x] else []) ++ radd xs ys (d || decide (shlex xs x.1 < 0)) r)
theorem radd_true (xs ys : List Int) : ∀ ts, radd xs ys true ts = ts.filter (kp xs)
  | [] => rfl
  | x :: r => by
    rw [radd, Bool.true_or, radd_true xs ys r, List.filter_cons]
    simp
    split <;> simp
theorem radd_split (xs ys : List Int) : ∀ (a b : TSr), (∀ x, x ∈ a → ¬ shlex xs x.1 < 0) → (∀ x, x ∈ b → shlex xs x.1 < 0) → radd xs ys false (a ++ b) = a.filter (kp xs) ++ (xs, ys) :: b.filter (kp xs)
  | [], [], _, _ => rfl
  | [], x :: r, _, hb => by
    have h := hb x (by simp)
    rw [List.nil_append, radd, decide_eq_true h]
    simp only [Bool.not_false, Bool.true_and, if_true, Bool.or_true, radd_true, List.filter_nil, List.nil_append, List.filter_cons]
    split <;> simp
  | x :: a, b, ha, hb => by
    have h := ha x (by simp)
    rw [List.cons_append, radd, decide_eq_false h, Bool.or_false, radd_split xs ys a b (fun z hz => ha z (by simp [hz])) hb, List.filter_cons]
    simp
    split <;> simp
theorem kp_no {xs : List Int} {x : List Int × List Int} (h : kp xs x = false) : x.1 <+: xs ∧ x.1.length < xs.length := by
  unfold kp at h
  rw [Bool.or_eq_false_iff] at h
  have h1 : cmn xs x.1 = x.1.length := by simpa using h.1
  have h2 : ¬ xs.length = x.1.length := by simpa using h.2
  have h3 := cmn_le_left xs x.1
  exact ⟨pre_cmn'.2 h1, by omega⟩
theorem radd_filter (xs ys : List Int) : ∀ (d : Bool) (ts : TSr), radd xs ys d ts = radd xs ys d (ts.filter (kp xs))
  | d, [] => rfl
  | d, x :: r => by
    cases hk : kp xs x
    case true =>
      rw [List.filter_cons, hk, if_pos rfl, radd, radd, radd_filter xs ys _ r]
    case false =>
      have h := (kp_no hk).2
      have hs : ¬ shlex xs x.1 < 0 := by rw [shlex_neg, shlex_lt h]; omega
      rw [List.filter_cons, hk, radd, hk, decide_eq_false hs, Bool.or_false, radd_filter xs ys d r]
      simp
theorem filter_erase {p : List Int × List Int → Bool} : ∀ (l : TSr) (i : Nat), i < l.length → p (l.getD i ([], [])) = false → (∀ j, j < l.length → ¬ j = i → p (l.getD j ([], [])) = true) → l.eraseIdx i = l.filter p
  | [], i, h, _, _ => absurd h (by simp)
  | x :: r, 0, _, h0, h1 => by
    have h0' : p x = false := h0
    rw [List.eraseIdx_cons_zero, List.filter_cons, h0']
    simp only [Bool.false_eq_true, if_false]
    symm
    rw [List.filter_eq_self]
    intro z hab
    obtain ⟨j, hj, e⟩ := List.mem_iff_getElem.1 hab
    have := h1 (j + 1) (by simp; omega) (by omega)
    rw [List.getD_cons_succ, List.getD_eq_getElem?_getD, List.getElem?_eq_getElem hj] at this
    rw [← e]; exact this
  | x :: r, i + 1, hi, h0, h1 => by
    have hx : p x = true := h1 0 (by simp) (by omega)
    rw [List.eraseIdx_cons_succ, List.filter_cons, hx, if_pos rfl]
    rw [filter_erase r i (by simp at hi; omega) (by rw [List.getD_cons_succ] at h0; exact h0) (fun j hj hji => by
      have := h1 (j + 1) (by simp; omega) (by omega)
      rw [List.getD_cons_succ] at this
      exact this)]
section
variable {ts ts' : TSr} {xs ys : List Int} {i e : Int}
theorem kp_best {best j : Nat} (hg : Got ts xs best (knw ts xs ts.length)) (hP : PreF ts) (h0 : ∀ j, j < ts.length → 0 < (tIn ts j).length) (hj : j < ts.length) (hk : kp xs (ts.getD j ([], [])) = false) :
    j = best ∧ 0 < knw ts xs ts.length ∧ knw ts xs ts.length = (tIn ts best).length := by
  obtain ⟨h1, h2⟩ := kp_no hk
  have h3 : cmn (tIn ts j) xs = (tIn ts j).length := by rw [cmn_comm]; exact pre_cmn'.1 h1
  have h4 := h0 j hj
  have h5 := knw_ge (ts := ts) (w := xs) hj
  obtain ⟨hb, hc⟩ := hg (by omega)
  have h6 : tIn ts j <+: tIn ts best := by
    have := pre_take (x := xs) (y := tIn ts best) (n := (tIn ts j).length) (by rw [cmn_comm, hc]; omega)
    rwa [← List.prefix_iff_eq_take.1 (show tIn ts j <+: xs from h1)] at this
  have h7 : j = best := by
    rcases Nat.decEq j best with h | h
    · exact absurd h6 (hP j best hj hb h)
    · exact h
  subst h7
  exact ⟨rfl, by omega, by omega⟩
theorem insD_filter {best : Nat} (hg : Got ts xs best (knw ts xs ts.length)) (hP : PreF ts) (h0 : ∀ j, j < ts.length → 0 < (tIn ts j).length) (hlt : knw ts xs ts.length < xs.length) : InsD ts best (knw ts xs ts.length) = ts.filter (kp xs) := by
  unfold InsD
  split
  · rename_i h
    obtain ⟨hb, hc⟩ := hg h.1
    refine filter_erase ts best hb ?_ fun j hj hjb => ?_
    · unfold kp
      have h1 : cmn xs (tIn ts best) = (tIn ts best).length := by rw [cmn_comm, hc, h.2]
      have h2 : ¬ xs.length = (tIn ts best).length := by omega
      unfold tIn at h1 h2
      rw [decide_eq_true h1, decide_eq_false h2]; rfl
    · cases hk : kp xs (ts.getD j ([], []))
      · exact absurd (kp_best hg hP h0 hj hk).1 hjb
      · rfl
  · rename_i h
    symm
    rw [List.filter_eq_self]
    intro x hx
    obtain ⟨j, hj, e⟩ := List.mem_iff_getElem.1 hx
    have e' : ts.getD j ([], []) = x := by rw [List.getD_eq_getElem?_getD, List.getElem?_eq_getElem hj, e]; rfl
    cases hk : kp xs x
    · rw [← e'] at hk
      exact absurd (kp_best hg hP h0 hj hk).2 h
    · rfl
/-- What insert makes is what the reference makes. -/
theorem InsR.radd (hr : InsR ts xs ys i 0 ts') (hP : PreF ts) (h0 : ∀ j, j < ts.length → 0 < (tIn ts j).length) : ts' = radd xs ys (decide (knw ts xs ts.length = xs.length)) ts := by
  obtain ⟨best, hg, hr⟩ := hr
  rcases hr with ⟨h1, h2⟩ | ⟨_, _, h2⟩ | ⟨_, _, hk, _, rfl⟩ | ⟨_, _, _, _, h2⟩ | ⟨h1, _, hlt, _, _, p, hp, hlo, hhi, rfl⟩
  · exact absurd h2.symm h1
  · omega
  · rw [decide_eq_true hk, radd_true]
    symm
    rw [List.filter_eq_self]
    intro x hx
    obtain ⟨j, hj, e⟩ := List.mem_iff_getElem.1 hx
    have e' : ts'.getD j ([], []) = x := by rw [List.getD_eq_getElem?_getD, List.getElem?_eq_getElem hj, e]; rfl
    cases hkp : kp xs x
    · rw [← e'] at hkp
      obtain ⟨rfl, k1, k2⟩ := kp_best hg hP h0 hj hkp
      have := (kp_no hkp).2
      unfold tIn at k2
      omega
    · rfl
  · omega
  · rw [decide_eq_false (by omega), radd_filter, ← insD_filter hg hP h0 hlt]
    generalize hD : InsD ts best (knw ts xs ts.length) = D at hp hlo hhi
    have hne : ∀ j, j < D.length → ¬ tIn D j = xs := by
      rw [← hD]
      exact InsD.all (q := fun a _ => ¬ a = xs) (fun j hj => knw_lt_ne hj hlt) _ _
    have hkD : ∀ x, x ∈ D → kp xs x = true := fun x hx => by
      rw [← hD, insD_filter hg hP h0 hlt] at hx
      exact (List.mem_filter.1 hx).2
    have hs := radd_split xs ys (D.take p) (D.drop p) (fun x hx => by
      obtain ⟨j, hj, e⟩ := List.mem_iff_getElem.1 hx
      rw [List.length_take] at hj
      rw [List.getElem_take] at e
      have := hlo j (by omega)
      unfold tIn at this
      rw [List.getD_eq_getElem?_getD, List.getElem?_eq_getElem (by omega)] at this
      simp only [Option.getD_some, e] at this
      rw [shlex_neg]; omega) (fun x hx => by
      obtain ⟨j, hj, e⟩ := List.mem_iff_getElem.1 hx
      rw [List.length_drop] at hj
      rw [List.getElem_drop] at e
      have h3 := hhi (p + j) (by omega) (by omega)
      have h4 := hne (p + j) (by omega)
      refine shlex_gt' ?_ ?_
      · unfold tIn at h3
        rw [List.getD_eq_getElem?_getD, List.getElem?_eq_getElem (by omega)] at h3
        simp only [Option.getD_some, e] at h3
        omega
      · unfold tIn at h4
        rw [List.getD_eq_getElem?_getD, List.getElem?_eq_getElem (by omega)] at h4
        simp only [Option.getD_some, e] at h4
        exact h4)
    rw [List.take_append_drop] at hs
    rw [hs, List.filter_eq_self.2 (fun x hx => hkD x (List.mem_of_mem_take hx)), List.filter_eq_self.2 (fun x hx => hkD x (List.mem_of_mem_drop hx))]
end
end Go.Proofs.Ytkkmcgapbcikiaa
end

section
/- The error of adding: both sides. No program. -/
namespace Go.Proofs.Ytkkmcgapbcikiaa

theorem ins_err {ts ts2 : TSr} {xs ys : List Int} {i e : Int} (hC : Cons ts) (hF : Full ts) (hlen : ts.length < 10000) (h : InsR ts xs ys i e ts2) :
    (¬ prpE xs ys i = 0 ∧ e = prpE xs ys i) ∨ (prpE xs ys i = 0 ∧ e = 13 ∧ ∃ a k, a < ts.length ∧ k < cmn (tIn ts a) xs ∧ ¬ (tOut ts a).getD k 0 = ys.getD k 0) ∨
      (prpE xs ys i = 0 ∧ e = 0 ∧ ∀ a, a < ts.length → ∀ j, j < cmn (tIn ts a) xs → (tOut ts a).getD j 0 = ys.getD j 0) := by
  obtain ⟨best, hg, h⟩ := h
  have hpl : prpE xs ys i = 0 → ys.length = xs.length := fun hq => (prp_zero hq).2.1
  have hall : prpE xs ys i = 0 → agrN ts best (knw ts xs ts.length) ys = knw ts xs ts.length → ∀ a, a < ts.length → ∀ j, j < cmn (tIn ts a) xs → (tOut ts a).getD j 0 = ys.getD j 0 := fun hp hk a ha j hj => by
    by_cases hd : (tOut ts a).getD j 0 = ys.getD j 0
    · exact hd
    · have h2 := cmn_le_right (tIn ts a) xs
      have hl2 : (xs.take (j + 1)).length = j + 1 := by rw [List.length_take]; omega
      have hs : Sh1 ts xs ys (xs.take (j + 1)) := by
        refine ⟨List.take_prefix _ _, by omega, a, ha, pre_take (by rw [cmn_comm]; omega), ?_⟩
        rw [hl2]
        exact hd
      obtain ⟨k1, k2⟩ := sh1_best hC hg hs
      rw [hl2] at k1 k2
      obtain ⟨hb, hc⟩ := hg (by omega)
      exact absurd ((agr_part hF hb hc (hpl hp)).1 j (by omega)) k2
  rcases h with ⟨h1, h2⟩ | ⟨h1, h2, h3⟩ | ⟨h1, h2, _, h3, _⟩ | ⟨_, _, _, h2, _⟩ | ⟨h1, h2, _, _, h3, _⟩
  · exact .inl ⟨h1, h2⟩
  · obtain ⟨hb, hc⟩ := hg (by omega)
    exact .inr (.inl ⟨h1, h3, best, _, hb, by rw [hc]; exact h2, (agr_part hF hb hc (hpl h1)).2 h2⟩)
  · exact .inr (.inr ⟨h1, h3, hall h1 h2⟩)
  · have := InsD.len_le ts best (knw ts xs ts.length)
    omega
  · exact .inr (.inr ⟨h1, h3, hall h1 h2⟩)
end Go.Proofs.Ytkkmcgapbcikiaa
end

section
/- What adding keeps: order, prefix-freeness, agreement; adding one after another, of both sides. No program. -/
namespace Go.Proofs.Ytkkmcgapbcikiaa

theorem knw_mb {ts : TSr} {t : List Int × List Int} (h : t ∈ ts) (ws : List Int) : cmn t.1 ws ≤ knw ts ws ts.length := by
  obtain ⟨j, hj, e⟩ := List.mem_iff_getElem.1 h
  have := knw_ge (ts := ts) (w := ws) hj
  unfold tIn at this
  rw [List.getD_eq_getElem?_getD, List.getElem?_eq_getElem hj] at this
  rw [← e]; exact this
def PrW (a b : List Int × List Int) : Prop := ¬ a.1 <+: b.1 ∧ ¬ b.1 <+: a.1
theorem tIn_gt {ts : TSr} {j : Nat} (hj : j < ts.length) : tIn ts j = (ts[j]).1 := by
  unfold tIn; rw [List.getD_eq_getElem?_getD, List.getElem?_eq_getElem hj]; rfl
theorem tOut_gt {ts : TSr} {j : Nat} (hj : j < ts.length) : tOut ts j = (ts[j]).2 := by
  unfold tOut; rw [List.getD_eq_getElem?_getD, List.getElem?_eq_getElem hj]; rfl
theorem pref_pw {ts : TSr} : PreF ts ↔ ts.Pairwise PrW := by
  rw [List.pairwise_iff_getElem]
  constructor
  · intro h a b ha hb hab
    have h1 := h a b ha hb (by omega)
    have h2 := h b a hb ha (by omega)
    rw [tIn_gt ha, tIn_gt hb] at h1 h2
    exact ⟨h1, h2⟩
  · intro h a b ha hb hab
    rw [tIn_gt ha, tIn_gt hb]
    rcases Nat.lt_or_ge a b with hl | hl
    · exact (h a b ha hb hl).1
    · exact (h b a hb ha (by omega)).2
theorem cons_mem {ts : TSr} : Cons ts ↔ ∀ x, x ∈ ts → ∀ y, y ∈ ts → ∀ j, j < cmn x.1 y.1 → x.2.getD j 0 = y.2.getD j 0 := by
  constructor
  · intro h x hx y hy
    obtain ⟨a, ha, ea⟩ := List.mem_iff_getElem.1 hx
    obtain ⟨b, hb, eb⟩ := List.mem_iff_getElem.1 hy
    have := h a b ha hb
    rw [tIn_gt ha, tIn_gt hb, tOut_gt ha, tOut_gt hb, ea, eb] at this
    exact this
  · intro h a b ha hb
    rw [tIn_gt ha, tIn_gt hb, tOut_gt ha, tOut_gt hb]
    exact h _ (List.getElem_mem _) _ (List.getElem_mem _)
/-- No trace is empty. -/
def Pos (ts : TSr) : Prop := ∀ j, j < ts.length → 0 < (tIn ts j).length
theorem pos_mem {ts : TSr} : Pos ts ↔ ∀ x, x ∈ ts → 0 < x.1.length := tr_mem (q := fun a _ => 0 < a.length)
theorem full_mem {ts : TSr} : Full ts ↔ ∀ x, x ∈ ts → x.2.length = x.1.length := tr_mem (q := fun a b => b.length = a.length)
/-- Does a trace contradict the new one? -/
def InsC (ts : TSr) (xs ys : List Int) : Prop := ∃ a k, a < ts.length ∧ k < cmn (tIn ts a) xs ∧ ¬ (tOut ts a).getD k 0 = ys.getD k 0
theorem insC_not {ts : TSr} {xs ys : List Int} (h : ¬ InsC ts xs ys) : ∀ a, a < ts.length → ∀ j, j < cmn (tIn ts a) xs → (tOut ts a).getD j 0 = ys.getD j 0 := fun a ha j hj =>
  Classical.byContradiction fun hne => h ⟨a, j, ha, hj, hne⟩
theorem not_insC {ts : TSr} {xs ys : List Int} (h : ∀ a, a < ts.length → ∀ j, j < cmn (tIn ts a) xs → (tOut ts a).getD j 0 = ys.getD j 0) : ¬ InsC ts xs ys := fun ⟨a, k, ha, hk, hne⟩ => hne (h a ha k hk)
theorem agree_mem {ts : TSr} {xs ys : List Int} : (∀ a, a < ts.length → ∀ j, j < cmn (tIn ts a) xs → (tOut ts a).getD j 0 = ys.getD j 0) ↔ ∀ x, x ∈ ts → ∀ j, j < cmn x.1 xs → x.2.getD j 0 = ys.getD j 0 :=
  tr_mem (q := fun a b => ∀ j, j < cmn a xs → b.getD j 0 = ys.getD j 0)
/-- Valid observations, but for their number. -/
def Okt (i : Int) (ts : TSr) : Prop := Srt ts ∧ Full ts ∧ Props i ts ∧ Pos ts ∧ PreF ts ∧ Cons ts

section
variable {ts ts' : TSr} {xs ys : List Int} {i e : Int}
theorem InsR.form (h : InsR ts xs ys i 0 ts') (hP : PreF ts) (h0 : Pos ts) : (knw ts xs ts.length = xs.length ∧ ts' = ts) ∨ (knw ts xs ts.length < xs.length ∧ ∃ p, ts' = (ts.filter (kp xs)).take p ++ (xs, ys) :: (ts.filter (kp xs)).drop p) := by
  obtain ⟨best, hg, h⟩ := h
  rcases h with ⟨h1, h2⟩ | ⟨_, _, h2⟩ | ⟨_, _, h1, _, rfl⟩ | ⟨_, _, _, _, h2⟩ | ⟨_, _, hlt, _, _, p, hp, _, _, rfl⟩
  · exact absurd h2.symm h1
  · omega
  · exact .inl ⟨h1, rfl⟩
  · omega
  · exact .inr ⟨hlt, p, by rw [insD_filter hg hP h0 hlt]⟩
theorem ins_perm (D : TSr) (p : Nat) : (D.take p ++ (xs, ys) :: D.drop p).Perm ((xs, ys) :: D) := by
  have := (List.perm_middle (l₁ := D.take p) (a := (xs, ys)) (l₂ := D.drop p))
  rwa [List.take_append_drop] at this
theorem kp_yes {x : List Int × List Int} (h : kp xs x = true) (hp : x.1 <+: xs) : xs.length = x.1.length := by
  have h1 := pre_cmn'.1 hp
  unfold kp at h
  rw [decide_eq_true h1] at h
  simpa using h
theorem new_apart {x : List Int × List Int} (hlt : knw ts xs ts.length < xs.length) (hx : x ∈ ts) (hk : kp xs x = true) : PrW (xs, ys) x := by
  have h1 := knw_mb hx xs
  have h2 : ¬ xs <+: x.1 := fun h => by
    have := pre_cmn'.1 h
    omega
  refine ⟨h2, fun h => ?_⟩
  have h3 := kp_yes hk h
  have h4 : cmn x.1 xs = x.1.length := pre_cmn.1 h
  omega
theorem InsR.pref (h : InsR ts xs ys i 0 ts') (hP : PreF ts) (h0 : Pos ts) : PreF ts' := by
  rcases h.form hP h0 with ⟨_, rfl⟩ | ⟨hlt, p, rfl⟩
  · exact hP
  · rw [pref_pw] at hP ⊢
    refine List.Perm.pairwise (ins_perm _ p).symm ?_ (fun h => ⟨h.2, h.1⟩)
    refine List.pairwise_cons.2 ⟨fun x hx => ?_, hP.filter _⟩
    obtain ⟨h1, h2⟩ := List.mem_filter.1 hx
    exact new_apart hlt h1 h2
theorem InsR.mem (h : InsR ts xs ys i 0 ts') (hP : PreF ts) (h0 : Pos ts) {x : List Int × List Int} (hx : x ∈ ts') : x ∈ ts ∨ (x = (xs, ys) ∧ knw ts xs ts.length < xs.length) := by
  rcases h.form hP h0 with ⟨_, rfl⟩ | ⟨hlt, p, rfl⟩
  · exact .inl hx
  · rw [(ins_perm _ p).mem_iff] at hx
    rcases List.mem_cons.1 hx with h | h
    · exact .inr ⟨h, hlt⟩
    · exact .inl (List.mem_filter.1 h).1
theorem InsR.pos (h : InsR ts xs ys i 0 ts') (hP : PreF ts) (h0 : Pos ts) : Pos ts' := pos_mem.2 fun x hx => by
  rcases h.mem hP h0 hx with h1 | ⟨rfl, h1⟩
  · exact pos_mem.1 h0 x h1
  · exact Nat.lt_of_le_of_lt (Nat.zero_le _) h1
theorem InsR.agree (h : InsR ts xs ys i 0 ts') (hC : Cons ts) (hF : Full ts) (hl : ts.length < 10000) : ∀ x, x ∈ ts → ∀ j, j < cmn x.1 xs → x.2.getD j 0 = ys.getD j 0 := by
  rcases ins_err hC hF hl h with ⟨h1, h2⟩ | ⟨_, h2, _⟩ | ⟨_, _, h2⟩
  · exact absurd h2.symm h1
  · omega
  · exact agree_mem.1 h2
theorem InsR.cons (h : InsR ts xs ys i 0 ts') (hP : PreF ts) (h0 : Pos ts) (hC : Cons ts) (hF : Full ts) (hl : ts.length < 10000) : Cons ts' := cons_mem.2 fun x hx y hy j hj => by
  have ha := h.agree hC hF hl
  rcases h.mem hP h0 hx with hx | ⟨rfl, _⟩ <;> rcases h.mem hP h0 hy with hy | ⟨rfl, _⟩
  · exact cons_mem.1 hC x hx y hy j hj
  · exact ha x hx j hj
  · exact (ha y hy j (by rw [cmn_comm]; exact hj)).symm
  · rfl
theorem InsR.okt (h : InsR ts xs ys i 0 ts') (hO : Okt i ts) (hl : ts.length < 10000) : Okt i ts' :=
  ⟨h.srt hO.1, h.full hO.2.1, h.props hO.2.2.1, h.pos hO.2.2.2.2.1 hO.2.2.2.1, h.pref hO.2.2.2.2.1 hO.2.2.2.1, h.cons hO.2.2.2.2.1 hO.2.2.2.1 hO.2.2.2.2.2 hO.2.1 hl⟩
theorem okt_none : Okt i [] := ⟨srt_none, full_none, fun j h => absurd h (by simp), fun j h => absurd h (by simp), fun a b h => absurd h (by simp), fun a b h => absurd h (by simp)⟩
end

/-- What the reference's add makes, and its length. -/
def radR (ts : TSr) (xs ys : List Int) : TSr := radd xs ys (decide (knw ts xs ts.length = xs.length)) ts
theorem radd_len (xs ys : List Int) : ∀ (d : Bool) (ts : TSr), (radd xs ys d ts).length ≤ ts.length + (if d then 0 else 1)
  | d, [] => by rw [radd]; cases d <;> simp
  | d, x :: r => by
    have ih := radd_len xs ys (d || decide (shlex xs x.1 < 0)) r
    rw [radd, List.length_append, List.length_append, List.length_cons]
    cases d <;> cases hs : decide (shlex xs x.1 < 0) <;> rw [hs] at ih <;> simp at ih ⊢ <;> split <;> simp <;> omega
theorem radR_len (ts : TSr) (xs ys : List Int) : (radR ts xs ys).length ≤ ts.length + 1 := by
  have := radd_len xs ys (decide (knw ts xs ts.length = xs.length)) ts
  unfold radR
  split at this <;> omega
theorem radd_mem (xs ys : List Int) : ∀ (d : Bool) (ts : TSr) (x : List Int × List Int), x ∈ radd xs ys d ts → x ∈ ts ∨ x = (xs, ys)
  | d, [], x, h => by
    rw [radd] at h
    cases d
    · exact .inr (by simpa using h)
    · simp at h
  | d, y :: r, x, h => by
    rw [radd] at h
    rcases List.mem_append.1 h with h | h
    · split at h
      · exact .inr (by simpa using h)
      · simp at h
    · rcases List.mem_append.1 h with h | h
      · split at h
        · exact .inl (by simp at h; simp [h])
        · simp at h
      · rcases radd_mem xs ys _ r x h with h | h
        · exact .inl (List.mem_cons_of_mem _ h)
        · exact .inr h
theorem radR_full {ts : TSr} {xs ys : List Int} (hF : Full ts) (h : ys.length = xs.length) : Full (radR ts xs ys) := full_mem.2 fun x hx => by
  rcases radd_mem xs ys _ ts x hx with h1 | rfl
  · exact full_mem.1 hF x h1
  · exact h

/-- The reference: adding one after another. -/
def RAdds (i : Int) : TSr → TSr → Int → TSr → Prop
  | [], ts, e, ts' => e = 0 ∧ ts' = ts
  | u :: us, ts, e, ts' => (¬ prpE u.1 u.2 i = 0 ∧ e = prpE u.1 u.2 i) ∨ (prpE u.1 u.2 i = 0 ∧ InsC ts u.1 u.2 ∧ e = 13) ∨ (prpE u.1 u.2 i = 0 ∧ ¬ InsC ts u.1 u.2 ∧ RAdds i us (radR ts u.1 u.2) e ts')
theorem adds_same {i : Int} : ∀ {us ts t2 t3 : TSr} {e e' : Int}, AddsR i us ts e t2 → RAdds i us ts e' t3 → Okt i ts → ts.length + us.length ≤ 10000 → e = e' ∧ (e = 0 → t2 = t3 ∧ Okt i t2 ∧ t2.length ≤ ts.length + us.length)
  | [], ts, t2, t3, e, e', h, h', hO, hl => by
    obtain ⟨rfl, rfl⟩ := h
    obtain ⟨rfl, rfl⟩ := h'
    exact ⟨rfl, fun _ => ⟨rfl, hO, by omega⟩⟩
  | u :: us, ts, t2, t3, e, e', ⟨e1, ts1, hr, h⟩, h', hO, hl => by
    rw [List.length_cons] at hl
    have he := ins_err hO.2.2.2.2.2 hO.2.1 (by omega) hr
    rcases h with ⟨h1, rfl⟩ | ⟨rfl, h⟩
    · rcases h' with ⟨k1, k2⟩ | ⟨k1, k2, k3⟩ | ⟨k1, k2, _⟩ <;> rcases he with ⟨g1, g2⟩ | ⟨g1, g2, g3⟩ | ⟨g1, g2, g3⟩
      · exact ⟨by rw [g2, k2], fun h => absurd h h1⟩
      · exact absurd g1 k1
      · exact absurd g2 h1
      · exact absurd k1 g1
      · exact ⟨by rw [g2, k3], fun h => absurd h h1⟩
      · exact absurd g2 h1
      · exact absurd k1 g1
      · exact absurd g3 k2
      · exact absurd g2 h1
    · have hag : prpE u.1 u.2 i = 0 ∧ ¬ InsC ts u.1 u.2 := by
        rcases he with ⟨g1, g2⟩ | ⟨g1, g2, g3⟩ | ⟨g1, g2, g3⟩
        · exact absurd g2.symm g1
        · omega
        · exact ⟨g1, not_insC g3⟩
      rcases h' with ⟨k1, k2⟩ | ⟨k1, k2, k3⟩ | ⟨k1, k2, k3⟩
      · exact absurd hag.1 k1
      · exact absurd k2 hag.2
      · have e1 : ts1 = radR ts u.1 u.2 := hr.radd hO.2.2.2.2.1 hO.2.2.2.1
        have hl1 := hr.len
        rw [← e1] at k3
        obtain ⟨a1, a2⟩ := adds_same h k3 (hr.okt hO (by omega)) (by omega)
        refine ⟨a1, fun h0 => ?_⟩
        obtain ⟨b1, b2, b3⟩ := a2 h0
        exact ⟨b1, b2, by rw [List.length_cons]; omega⟩
end Go.Proofs.Ytkkmcgapbcikiaa
end

section
/- The reference of observe: Add (the contract of add is handed over). -/
namespace Go.Proofs.Ytkkmcgapbcikiaa
open Go.RowKit

theorem OwnedT.set2 {w : World} {base gx : Nat} {v : Value} {cs : Array Value} {ts : TSr} (h : OwnedT w base v ts) (hx : Bx w gx cs 24) (x y : Value) : OwnedT ((w.setCell ⟨gx, 0, none⟩ x).setCell ⟨gx, 1, none⟩ y) base v ts :=
  (h.keptT (hx.keptSet (by decide) x) (hx.keptSet (by decide) x)).keptT ((hx.set 0 x).keptSet (by decide) y) ((hx.set 0 x).keptSet (by decide) y)
def RaE (i : Int) (ts : TSr) (xs ys : List Int) (w : World) (r : Ending) (w' : World) : Prop :=
  ∃ (A' : Option Addr) (c' : Nat), r = .returned (.agg #[.int .i64 i, .slice A' (radR ts xs ys).length c']) ∧ OwnedT w' w.heap.size (.slice A' (radR ts xs ys).length c') (radR ts xs ys) ∧ Below w.heap.size w w'
/-- The result of the reference's Add. -/
def RAddE (i : Int) (T : Option Addr) (tn tc : Nat) (ts : TSr) (xs ys : List Int) (w : World) (r : Ending) (w' : World) : Prop :=
  Below w.heap.size w w' ∧
    ((¬ prpE xs ys i = 0 ∧ r = .returned (.tuple #[.agg #[.int .i64 i, .slice T tn tc], .int .i64 (prpE xs ys i)])) ∨
     (prpE xs ys i = 0 ∧ (∃ a k, a < ts.length ∧ k < cmn (tIn ts a) xs ∧ ¬ (tOut ts a).getD k 0 = ys.getD k 0) ∧ r = .returned (.tuple #[.agg #[.int .i64 i, .slice T tn tc], .int .i64 13])) ∨
     (prpE xs ys i = 0 ∧ (∀ a, a < ts.length → ∀ j, j < cmn (tIn ts a) xs → (tOut ts a).getD j 0 = ys.getD j 0) ∧
       ∃ (A' : Option Addr) (c' : Nat), r = .returned (.tuple #[.agg #[.int .i64 i, .slice A' (radR ts xs ys).length c'], .int .i64 0]) ∧ OwnedT w' w.heap.size (.slice A' (radR ts xs ys).length c') (radR ts xs ys)))

set_option linter.unusedSimpArgs false in
set_option linter.unusedVariables false in
set_option maxHeartbeats 8000000 in
set_option maxRecDepth 100000 in
theorem rAdd16 (i : Int) (T A B : Option Addr) (tn tc n c m d : Nat) (ts : TSr) (xs ys : List Int) (w : World) (hT : Trs w T tn ts) (hx : Ints w A n xs) (hy : Ints w B m ys) (hF : Full ts) (hRL : (radR ts xs ys).length ≤ 10000)
    (hRA : ∀ W, Below w.heap.size w W → Calls Try.prog 55 #[.agg #[.int .i64 i, .slice T tn tc], .agg #[.slice A n c, .slice B m d]] W fun r w' => RaE i ts xs ys W r w') :
    Calls Try.prog 27 #[.agg #[.int .i64 i, .slice T tn tc], .agg #[.slice A n c, .slice B m d]] w fun r w' => RAddE i T tn tc ts xs ys w r w' := by
  obtain ⟨w0, hw0⟩ : ∃ w0, w0 = ((w.alloc (.cells #[.int .i64 i, .slice T tn tc] 24)).alloc (.cells #[.slice A n c, .slice B m d] 38)).alloc (.cells #[.int .i64 0, .slice none 0 0] 24) := ⟨_, rfl⟩
  obtain ⟨hb0, m1, m2, m3, hs0⟩ := bxs3 w #[.int .i64 i, .slice T tn tc] #[.slice A n c, .slice B m d] #[.int .i64 0, .slice none 0 0] 24 38 24 w0 hw0
  have HW0 := Lib.hid hw0
  have HB0 := Lib.hid hb0
  have HX := Lib.hid (fun (W : World) (h : Below w0.heap.size w0 W) => (hx.below hb0).below h)
  have HY := Lib.hid (fun (W : World) (h : Below w0.heap.size w0 W) => (hy.below hb0).below h)
  have HT := Lib.hid (fun (W : World) (h : Below w0.heap.size w0 W) => (hT.below hb0).below h)
  have HM1 := Lib.hid (fun (W : World) (h : Below w0.heap.size w0 W) => m1.on h)
  have HM2 := Lib.hid (fun (W : World) (h : Below w0.heap.size w0 W) => m2.on h)
  have HM3 := Lib.hid (fun (W : World) (h : Below w0.heap.size w0 W) => m3.on h)
  have HLT := Lib.hid hT.1
  have HLX := Lib.hid hx.1
  have HLY := Lib.hid hy.1
  have HFF := Lib.hid hF
  have HRA := Lib.hid (fun (W : World) (h : Below w0.heap.size w0 W) => hRA W (bt hb0 h))
  have HRL := Lib.hid hRL
  have HZ0 := Lib.hid hs0
  have hbc := Below.refl w0.heap.size w0
  have k0 := m1.cell 0
  have k1 := m1.cell 1
  have l0 := m2.cell 0
  have l1 := m2.cell 1
  simp at k0 k1 l0 l1
  rw [hw0] at k0 k1 l0 l1
  have hN := hT.2.1
  clear hw0 hb0 hx hy hT m1 m2 m3 hF hs0 hRA hRL
  go_enter Try.func27, Try.ntmps27
  go_wp2_with fail
  rw [← HW0.out]
  refine (rproper A B n c m d i xs ys _ (HX.out _ hbc) (HY.out _ hbc)).mono ?_
  rintro e w1 ⟨rfl, a1⟩
  have hbc := bt hbc a1
  clear a1 k0 k1 l0 l1
  obtain ⟨E, hE⟩ : ∃ E, E = prpE xs ys i := ⟨_, rfl⟩
  rw [← hE]
  have HE := Lib.hid hE
  clear hE
  by_cases he : E = 0
  case neg =>
    have hne : (E != 0) = true := by simpa using he
    have HNE := Lib.hid he
    have k0 := (HM1.out _ hbc).cell 0
    have k1 := (HM1.out _ hbc).cell 1
    have m3 := HM3.out _ hbc
    have f0 := m3.free 0
    have f1 := m3.free 1
    have q0 := m3.cell 0
    have q1 := m3.cell 1
    simp at k0 k1 q0 q1
    have HR2 := Lib.hid (m3.set2 (.int .i64 i) (.slice T tn tc))
    have HBF := Lib.hid (set2B (g := w.heap.size + 1 + 1) (bt HB0.out hbc) (by omega) (.int .i64 i) (.slice T tn tc))
    clear m3 he
    go_wp2_with fail
    (try rw [Exit.noGoto_ret])
    refine bodyPost_ret (results_obs_tmp rfl _ _ (w.heap.size + 1 + 1) (.int .i64 i) (.slice T tn tc) rfl HR2.out) rfl ?_
    exact ⟨HBF.out, .inl ⟨by rw [← HE.out]; exact HNE.out, by rw [← HE.out]; rfl⟩⟩
  subst he
  have hpr : prpE xs ys i = 0 := HE.out.symm
  have hml : ys.length = xs.length := by
    have hq := hpr
    unfold prpE at hq
    split at hq
    · exact (ansE_zero hq).1
    · omega
  obtain rfl : m = n := by rw [← HLX.out, ← HLY.out, hml]
  have HPR := Lib.hid hpr
  have HML := Lib.hid hml
  have HBC := Lib.hid hbc
  clear hpr hml hbc
  go_wp2_with fail
  go_loopw [7] (fun v7 wr => ∃ (p : Nat), v7 = .int .i64 p ∧ p ≤ tn ∧ Hid (∀ a, a < p → ∀ j, j < cmn (tIn ts a) xs → (tOut ts a).getD j 0 = ys.getD j 0) ∧ Hid (Below w0.heap.size w0 wr)) (fun v7 _ => tn - (intOf v7).toNat)
  case atStart => exact ⟨0, rfl, Nat.zero_le _, Lib.hid (fun a h => absurd h (Nat.not_lt_zero a)), HBC⟩
  case round =>
    obtain ⟨p, rfl, hp, HA, HBR⟩ := hrel
    have k0 := (HM1.out _ HBR.out).cell 0
    have k1 := (HM1.out _ HBR.out).cell 1
    have l0 := (HM2.out _ HBR.out).cell 0
    have l1 := (HM2.out _ HBR.out).cell 1
    simp at k0 k1 l0 l1
    by_cases hlt : p < tn
    · obtain ⟨b, off, A1, n1, c1, A2, n2, c2, eT, hgb, j1, j2, _, _, j3, j4⟩ := (HT.out _ HBR.out).at_ hlt
      subst eT
      obtain ⟨y, hy⟩ := dff_ex (tIn ts p) (tOut ts p) xs ys
      have hpI : (p : Int) < (tn : Int) := by omega
      have hp0 : (0 : Int) ≤ (p : Int) := by omega
      have HY' := Lib.hid hy
      have HFP := Lib.hid (HFF.out p (by rw [HLT.out]; exact hlt))
      have HDI := Lib.hid (fun (W : World) (h : Below wr.heap.size wr W) => rdiffer A1 A2 A B n1 c1 n2 c2 m c m d (tIn ts p) (tOut ts p) xs ys y W (j3.below h) (j4.below h) ((HX.out _ HBR.out).below h) ((HY.out _ HBR.out).below h) HFP.out HML.out hy)
      have HS := Lib.hid (show ∀ W, Below wr.heap.size wr W → W.cell? ⟨w.heap.size, 1, none⟩ = some (.slice (some ⟨b, off, none⟩) tn tc) ∧ W.cell? ⟨b, off + p * 2, none⟩ = some (.slice A1 n1 c1) ∧ W.cell? ⟨b, off + p * 2 + 1, none⟩ = some (.slice A2 n2 c2) ∧ W.cell? ⟨w.heap.size + 1, 0, none⟩ = some (.slice A m c) ∧ W.cell? ⟨w.heap.size + 1, 1, none⟩ = some (.slice B m d) from fun W h => ⟨(h.cell (p := ⟨w.heap.size, 1, none⟩) (World.block_lt_of_cell? _ _ k1)).trans k1, (h.cell (p := ⟨b, off + p * 2, none⟩) hgb).trans j1, (h.cell (p := ⟨b, off + p * 2 + 1, none⟩) hgb).trans j2, (h.cell (p := ⟨w.heap.size + 1, 0, none⟩) (World.block_lt_of_cell? _ _ l0)).trans l0, (h.cell (p := ⟨w.heap.size + 1, 1, none⟩) (World.block_lt_of_cell? _ _ l1)).trans l1⟩)
      clear hy j3 j4 l0 l1 hgb j1 j2 k0
      go_upto_region 7 with fail
      have hbf : Below wr.heap.size wr wr.drew := below_drewN (Below.refl _ _) 1
      refine wp_region_heldX (X := fun k => ([] : List Nat).contains k) (S := fun W => W.cell? ⟨w.heap.size, 1, none⟩ = some (.slice (some ⟨b, off, none⟩) tn tc) ∧ W.cell? ⟨b, off + p * 2, none⟩ = some (.slice A1 n1 c1) ∧ W.cell? ⟨b, off + p * 2 + 1, none⟩ = some (.slice A2 n2 c2) ∧ W.cell? ⟨w.heap.size + 1, 0, none⟩ = some (.slice A m c) ∧ W.cell? ⟨w.heap.size + 1, 1, none⟩ = some (.slice B m d)) (by kernel_rfl) ?_
      refine wpAnyX_pure (i := 0) (v := ?_) rfl (by kernel_rfl) (by kernel_rfl) (by kernel_rfl) (fun _ _ _ h => h) (Or.inl ⟨by rfl, ?_⟩) ?_
      rotate_left
      · (intro W _; go_simp; try with_reducible rfl)
      (try simp only [Act.put, List.getElem_toArray, List.getElem_cons_zero, List.getElem_cons_succ, List.setIfInBounds_toArray, List.set_cons_zero, List.set_cons_succ])
      refine wpAnyX_takeL (L := []) (i := 1) (v := ?_) rfl (by kernel_rfl) (by kernel_rfl) (by kernel_rfl) (by kernel_rfl) (fun _ _ _ h => h) (Or.inl ⟨by rfl, ?_⟩) (HS.out _ hbf) ?_
      rotate_left
      · (intro W hSW; (try dsimp only at hSW); obtain ⟨z0, z1, z2, z3, z4⟩ := hSW; go_simp; try with_reducible rfl)
      (try simp only [Act.put, List.getElem_toArray, List.getElem_cons_zero, List.getElem_cons_succ, List.setIfInBounds_toArray, List.set_cons_zero, List.set_cons_succ])
      refine wpAnyX_pure (i := 2) (v := ?_) rfl (by kernel_rfl) (by kernel_rfl) (by kernel_rfl) (fun _ _ _ h => h) (Or.inl ⟨by rfl, ?_⟩) ?_
      rotate_left
      · (intro W _; go_simp; try with_reducible rfl)
      (try simp only [Act.put, List.getElem_toArray, List.getElem_cons_zero, List.getElem_cons_succ, List.setIfInBounds_toArray, List.set_cons_zero, List.set_cons_succ])
      refine wpAnyX_pure (i := 3) (v := ?_) rfl (by kernel_rfl) (by kernel_rfl) (by kernel_rfl) (fun _ _ _ h => h) (Or.inl ⟨by rfl, ?_⟩) ?_
      rotate_left
      · (intro W _; go_simp; try with_reducible rfl)
      (try simp only [Act.put, List.getElem_toArray, List.getElem_cons_zero, List.getElem_cons_succ, List.setIfInBounds_toArray, List.set_cons_zero, List.set_cons_succ])
      refine wpAnyX_takeL (L := []) (i := 4) (v := ?_) rfl (by kernel_rfl) (by kernel_rfl) (by kernel_rfl) (by kernel_rfl) (fun _ _ _ h => h) (Or.inl ⟨by rfl, ?_⟩) (HS.out _ hbf) ?_
      rotate_left
      · (intro W hSW; (try dsimp only at hSW); obtain ⟨z0, z1, z2, z3, z4⟩ := hSW; go_simp; try with_reducible rfl)
      (try simp only [Act.put, List.getElem_toArray, List.getElem_cons_zero, List.getElem_cons_succ, List.setIfInBounds_toArray, List.set_cons_zero, List.set_cons_succ])
      refine wpAnyX_takeL (L := []) (i := 5) (v := ?_) rfl (by kernel_rfl) (by kernel_rfl) (by kernel_rfl) (by kernel_rfl) (fun _ _ _ h => h) (Or.inl ⟨by rfl, ?_⟩) (HS.out _ hbf) ?_
      rotate_left
      · (intro W hSW; (try dsimp only at hSW); obtain ⟨z0, z1, z2, z3, z4⟩ := hSW; go_simp; try with_reducible rfl)
      (try simp only [Act.put, List.getElem_toArray, List.getElem_cons_zero, List.getElem_cons_succ, List.setIfInBounds_toArray, List.set_cons_zero, List.set_cons_succ])
      refine wpAnyX_one (i := 6) rfl (by kernel_rfl) (fun K hK => ?_)
      go_simp
      go_at_call 52
      refine (HDI.out _ hbf).mono ?_
      rintro r w5 ⟨rfl, b5⟩
      have hbf := bt hbf b5
      clear b5
      refine hK.out _ _ (fun _ _ => HS.out _ hbf) ?_
      (try simp only [Act.put, List.getElem_toArray, List.getElem_cons_zero, List.getElem_cons_succ, List.setIfInBounds_toArray, List.set_cons_zero, List.set_cons_succ])
      refine wpAnyX_pure (i := 7) (v := ?_) rfl (by kernel_rfl) (by kernel_rfl) (by kernel_rfl) (fun _ _ _ h => h) (Or.inl ⟨by rfl, ?_⟩) ?_
      rotate_left
      · (intro W _; go_simp; try with_reducible rfl)
      (try simp only [Act.put, List.getElem_toArray, List.getElem_cons_zero, List.getElem_cons_succ, List.setIfInBounds_toArray, List.set_cons_zero, List.set_cons_succ])
      refine wpAnyX_done (by kernel_rfl) ?_ _
      have HBF := Lib.hid (bt HBR.out hbf)
      clear hbf k1
      by_cases h0 : 0 ≤ y
      · have HD : Hid (∃ a k, a < ts.length ∧ k < cmn (tIn ts a) xs ∧ ¬ (tOut ts a).getD k 0 = ys.getD k 0) := Lib.hid (by
          rcases HY'.out with ⟨h, _⟩ | ⟨k, _, h1, _, h2⟩
          · omega
          · exact ⟨p, k, by rw [HLT.out]; exact hlt, h1, h2⟩)
        have k0 := (HM1.out _ HBF.out).cell 0
        have k1 := (HM1.out _ HBF.out).cell 1
        have m3 := HM3.out _ HBF.out
        have f0 := m3.free 0
        have f1 := m3.free 1
        have q0 := m3.cell 0
        have q1 := m3.cell 1
        simp at k0 k1 q0 q1
        have HR2 := Lib.hid (m3.set2 (.int .i64 i) (.slice (some ⟨b, off, none⟩) tn tc))
        have HBG := Lib.hid (set2B (g := w.heap.size + 1 + 1) (bt HB0.out HBF.out) (by omega) (.int .i64 i) (.slice (some ⟨b, off, none⟩) tn tc))
        clear m3
        go_wp2_with fail
        (try rw [Exit.noGoto_ret])
        refine bodyPost_ret (results_obs_tmp rfl _ _ (w.heap.size + 1 + 1) (.int .i64 i) (.slice (some ⟨b, off, none⟩) tn tc) rfl HR2.out) rfl ?_
        exact ⟨HBG.out, .inr (.inl ⟨HPR.out, HD.out, rfl⟩)⟩
      · have HN := Lib.hid (show ∀ a, a < p + 1 → ∀ j, j < cmn (tIn ts a) xs → (tOut ts a).getD j 0 = ys.getD j 0 from fun a ha j hj => by
          rcases Nat.lt_or_ge a p with h | h
          · exact HA.out a h j hj
          · obtain rfl : a = p := by omega
            rcases HY'.out with ⟨_, h1⟩ | ⟨k, h1, _⟩
            · exact h1 j hj
            · omega)
        go_wp2
        go_roundw
        case rel => exact ⟨p + 1, by go_num, by omega, HN, by first | exact HBF | exact Lib.hid (below_drewN HBF.out _)⟩
        case measure => simp [intOf]; omega
    · obtain rfl : p = tn := by omega
      have HAN := Lib.hid (show ∀ a, a < ts.length → ∀ j, j < cmn (tIn ts a) xs → (tOut ts a).getD j 0 = ys.getD j 0 by rw [HLT.out]; exact HA.out)
      go_wp2_with fail
      refine (HRA.out _ HBR.out).mono ?_
      rintro r w4 ⟨A', c', rfl, o4, b4⟩
      obtain ⟨L, hL⟩ : ∃ L, L = (radR ts xs ys).length := ⟨_, rfl⟩
      rw [← hL] at o4 ⊢
      have hLI : ¬ (10000 : Int) < (L : Int) := by have := HRL.out; omega
      have HL := Lib.hid hL
      have hal := alloc_below w4 (.cells #[.int .i64 i, .slice A' L c'] 24)
      have m5 := bx_new w4 #[.int .i64 i, .slice A' L c'] 24
      have hb5 := bt HBR.out (bt b4 hal)
      have m3 := HM3.out _ hb5
      have p0 := m5.cell 0
      have p1 := m5.cell 1
      have f0 := m3.free 0
      have f1 := m3.free 1
      have q0 := m3.cell 0
      have q1 := m3.cell 1
      simp at p0 p1 q0 q1
      have hz5 : w.heap.size ≤ wr.heap.size := by have := (bt HB0.out HBR.out).size; omega
      have HR2 := Lib.hid (m3.set2 (.int .i64 i) (.slice A' L c'))
      have HBF := Lib.hid (set2B (g := w.heap.size + 1 + 1) (bt HB0.out hb5) (by omega) (.int .i64 i) (.slice A' L c'))
      have HTF := Lib.hid (OwnedT.lower (base' := w.heap.size) ((o4.kept hal).set2 m3 (.int .i64 i) (.slice A' L c')) hz5)
      clear m3 m5 hal b4 o4 hb5 k0 k1 l0 l1 hL hz5
      go_wp2_with fail
      (try rw [Exit.noGoto_ret])
      refine bodyPost_ret (results_obs_tmp rfl _ _ (w.heap.size + 1 + 1) (.int .i64 i) (.slice A' L c') rfl HR2.out) rfl ?_
      exact ⟨HBF.out, .inr (.inr ⟨HPR.out, HAN.out, A', c', by rw [← HL.out]; rfl, by rw [← HL.out]; exact HTF.out⟩)⟩
end Go.Proofs.Ytkkmcgapbcikiaa
end

section
/- Results of adding: both sides as a value with an error. -/
namespace Go.Proofs.Ytkkmcgapbcikiaa
open Go.RowKit

/-- A result: observations and an error. -/
def ResV (i e : Int) (us : TSr) (w : World) (r : Ending) (w' : World) : Prop :=
  ∃ (A : Option Addr) (n c : Nat), r = .returned (.tuple #[.agg #[.int .i64 i, .slice A n c], .int .i64 e]) ∧ Trs w' A n us ∧ Below w.heap.size w w'
/-- What adding a trace gives. -/
def AddU (i : Int) (ts : TSr) (xs ys : List Int) (e : Int) (us : TSr) : Prop :=
  (¬ prpE xs ys i = 0 ∧ e = prpE xs ys i ∧ us = ts) ∨ (prpE xs ys i = 0 ∧ InsC ts xs ys ∧ e = 13 ∧ us = ts) ∨ (prpE xs ys i = 0 ∧ ¬ InsC ts xs ys ∧ e = 0 ∧ us = radR ts xs ys)
theorem AddU.uniq {i e e' : Int} {ts us us' : TSr} {xs ys : List Int} (h : AddU i ts xs ys e us) (h' : AddU i ts xs ys e' us') : e = e' ∧ us = us' := by
  rcases h with ⟨h1, rfl, rfl⟩ | ⟨h1, h2, rfl, rfl⟩ | ⟨h1, h2, rfl, rfl⟩ <;> rcases h' with ⟨k1, rfl, rfl⟩ | ⟨k1, k2, rfl, rfl⟩ | ⟨k1, k2, rfl, rfl⟩
  · exact ⟨rfl, rfl⟩
  · exact absurd k1 h1
  · exact absurd k1 h1
  · exact absurd h1 k1
  · exact ⟨rfl, rfl⟩
  · exact absurd h2 k2
  · exact absurd h1 k1
  · exact absurd k2 h2
  · exact ⟨rfl, rfl⟩
/-- Words short enough to be read. -/
def Shrt (ts : TSr) : Prop := ∀ x, x ∈ ts → x.1.length ≤ 17592186044416 ∧ x.2.length ≤ 17592186044416
theorem Trs.shrt {w : World} {A : Option Addr} {n : Nat} {ts : TSr} (h : Trs w A n ts) : Shrt ts := (tr_mem (q := fun a b => a.length ≤ 17592186044416 ∧ b.length ≤ 17592186044416)).1 fun j hj => by
  obtain ⟨b, off, A1, n1, c1, A2, n2, c2, _, _, _, _, _, _, j3, j4⟩ := h.at_ (show j < n by rw [← h.1]; exact hj)
  have h1 := j3.1
  have h2 := j4.1
  have h3 := j3.2.1
  have h4 := j4.2.1
  exact ⟨by omega, by omega⟩
theorem Shrt.radR {ts : TSr} {xs ys : List Int} (h : Shrt ts) (hx : xs.length ≤ 17592186044416) (hy : ys.length ≤ 17592186044416) : Shrt (radR ts xs ys) := fun x hm => by
  rcases radd_mem xs ys _ ts x hm with h1 | rfl
  · exact h x h1
  · exact ⟨hx, hy⟩
theorem OwnedT.trsS {w : World} {base : Nat} {A : Option Addr} {n c : Nat} {ts : TSr} (h : OwnedT w base (.slice A n c) ts) (hm : ts.length ≤ 17592186044416) (hs : Shrt ts) : Trs w A n ts :=
  h.trs hm ((tr_mem (q := fun a b => a.length ≤ 17592186044416 ∧ b.length ≤ 17592186044416)).2 hs)
theorem InsR.addU {ts us : TSr} {xs ys : List Int} {i e : Int} (h : InsR ts xs ys i e us) (hO : Okt i ts) (hl : ts.length < 10000) : AddU i ts xs ys e (if e = 0 then us else ts) := by
  rcases ins_err hO.2.2.2.2.2 hO.2.1 hl h with ⟨g1, g2⟩ | ⟨g1, rfl, g3⟩ | ⟨g1, rfl, g3⟩
  · exact .inl ⟨g1, g2, if_neg (by rw [g2]; exact g1)⟩
  · exact .inr (.inl ⟨g1, g3, rfl, if_neg (by omega)⟩)
  · exact .inr (.inr ⟨g1, not_insC g3, rfl, by rw [if_pos rfl]; exact h.radd hO.2.2.2.2.1 hO.2.2.2.1⟩)
/-- Add of the program. -/
theorem AddE.res {i : Int} {T : Option Addr} {tn tc : Nat} {ts : TSr} {xs ys : List Int} {w w' : World} {r : Ending} (h : AddE i T tn tc ts xs ys w r w') (hT : Trs w T tn ts) (hO : Okt i ts) (hl : ts.length < 10000) :
    ∃ e us, AddU i ts xs ys e us ∧ ResV i e us w r w' := by
  obtain ⟨hb, e, ts', hr, h⟩ := h
  have hu := hr.addU hO hl
  rcases h with ⟨h1, rfl⟩ | ⟨rfl, g, N, cur, rfl, ho⟩
  · rw [if_neg h1] at hu
    exact ⟨e, ts, hu, T, tn, tc, rfl, hT.below hb, hb⟩
  · rw [if_pos rfl] at hu
    exact ⟨0, ts', hu, some ⟨g, 0, none⟩, ts'.length, N, rfl, ho.trs, hb⟩
/-- Add of the reference. -/
theorem RAddE.res {i : Int} {T : Option Addr} {tn tc : Nat} {ts : TSr} {xs ys : List Int} {w w' : World} {r : Ending} (h : RAddE i T tn tc ts xs ys w r w') (hT : Trs w T tn ts) (hx : xs.length ≤ 17592186044416) (hy : ys.length ≤ 17592186044416) (hl : ts.length < 10000) :
    ∃ e us, AddU i ts xs ys e us ∧ ResV i e us w r w' := by
  obtain ⟨hb, ⟨h1, rfl⟩ | ⟨h1, h2, rfl⟩ | ⟨h1, h2, A', c', rfl, ho⟩⟩ := h
  · exact ⟨_, ts, .inl ⟨h1, rfl, rfl⟩, T, tn, tc, rfl, hT.below hb, hb⟩
  · exact ⟨13, ts, .inr (.inl ⟨h1, h2, rfl, rfl⟩), T, tn, tc, rfl, hT.below hb, hb⟩
  · have := radR_len ts xs ys
    exact ⟨0, _, .inr (.inr ⟨h1, not_insC h2, rfl, rfl⟩), A', _, c', rfl, ho.trsS (by omega) (hT.shrt.radR hx hy), hb⟩
/-- Same of equal observations. -/
theorem rsame_eq16 (i : Int) (A B : Option Addr) (n c m d : Nat) (ts : TSr) (w : World) (hx : Trs w A n ts) (hy : Trs w B m ts) :
    Calls Try.prog 17 #[.agg #[.int .i64 i, .slice A n c], .agg #[.int .i64 i, .slice B m d]] w fun e w' => e = .returned (.bool true) ∧ Below w.heap.size w w' := by
  refine (rsame16 i i A B n c m d ts ts w hx hy).mono ?_
  rintro r w' ⟨rfl, h⟩
  exact ⟨by rw [decide_eq_true ⟨rfl, rfl⟩], h⟩
/-- Traces that stay as they are where the blocks below z and all rows of numbers and of traces do. -/
def TrsK (z : Nat) (w : World) (A : Option Addr) (n : Nat) (ts : TSr) : Prop := ∀ w', Below z w w' → KeptT 3 w w' → KeptT 38 w w' → Trs w' A n ts
section
variable {z : Nat} {w w' : World} {A : Option Addr} {n : Nat} {ts : TSr}
theorem TrsK.trs (h : TrsK z w A n ts) (hz : z ≤ w.heap.size) : Trs w A n ts := h w ((Below.refl _ _).mono hz) (KeptT.of_below (Below.refl _ _)) (KeptT.of_below (Below.refl _ _))
theorem TrsK.go (h : TrsK z w A n ts) (hb : Below z w w') (h1 : KeptT 3 w w') (h2 : KeptT 38 w w') : TrsK z w' A n ts := fun W k0 k1 k2 => h W (hb.trans k0) (h1.trans k1) (h2.trans k2)
theorem TrsK.below (h : TrsK z w A n ts) (hz : z ≤ w.heap.size) (hb : Below w.heap.size w w') : TrsK z w' A n ts := h.go (hb.mono hz) (KeptT.of_below hb) (KeptT.of_below hb)
theorem TrsK.of_trs (h : Trs w A n ts) : TrsK w.heap.size w A n ts := fun _ hb _ _ => h.below hb
theorem TrsK.of_owned {base c : Nat} (h : OwnedT w base (.slice A n c) ts) (hm : ts.length ≤ 17592186044416) (hs : Shrt ts) : TrsK z w A n ts := fun _ _ h1 h2 => (h.keptT h1 h2).trsS hm hs
theorem TrsK.setX {gx : Nat} {cs : Array Value} (h : TrsK z w A n ts) (hx : Bx w gx cs 24) (hz : z ≤ gx) (k : Nat) (v : Value) : TrsK z (w.setCell ⟨gx, k, none⟩ v) A n ts :=
  h.go ((Below.refl _ _).setCell (p := ⟨gx, k, none⟩) hz v) (hx.keptSet (by decide) v) (hx.keptSet (by decide) v)
theorem TrsK.rowX {gx : Nat} {cs : Array Value} (h : TrsK z w A n ts) (hx : Bx w gx cs 24) (hz : z ≤ gx) (cs' : Array Value) : TrsK z (w.setRow gx cs') A n ts :=
  h.go (below_setRow (Below.refl _ _) hz cs') (hx.keptRow (by decide) cs') (hx.keptRow (by decide) cs')
end
/-- Add of the reference, with traces that stay. -/
theorem RAddE.resK {z : Nat} {i : Int} {T : Option Addr} {tn tc : Nat} {ts : TSr} {xs ys : List Int} {w w' : World} {r : Ending} (h : RAddE i T tn tc ts xs ys w r w') (hz : z ≤ w.heap.size) (hT : TrsK z w T tn ts) (hx : xs.length ≤ 17592186044416) (hy : ys.length ≤ 17592186044416) (hl : ts.length < 10000) :
    ∃ e us, AddU i ts xs ys e us ∧ ∃ (A : Option Addr) (n c : Nat), r = .returned (.tuple #[.agg #[.int .i64 i, .slice A n c], .int .i64 e]) ∧ TrsK z w' A n us ∧ Below w.heap.size w w' := by
  obtain ⟨hb, ⟨h1, rfl⟩ | ⟨h1, h2, rfl⟩ | ⟨h1, h2, A', c', rfl, ho⟩⟩ := h
  · exact ⟨_, ts, .inl ⟨h1, rfl, rfl⟩, T, tn, tc, rfl, hT.below hz hb, hb⟩
  · exact ⟨13, ts, .inr (.inl ⟨h1, h2, rfl, rfl⟩), T, tn, tc, rfl, hT.below hz hb, hb⟩
  · have := radR_len ts xs ys
    exact ⟨0, _, .inr (.inr ⟨h1, not_insC h2, rfl, rfl⟩), A', _, c', rfl, TrsK.of_owned ho (by omega) ((hT.trs hz).shrt.radR hx hy), hb⟩
end Go.Proofs.Ytkkmcgapbcikiaa
end
