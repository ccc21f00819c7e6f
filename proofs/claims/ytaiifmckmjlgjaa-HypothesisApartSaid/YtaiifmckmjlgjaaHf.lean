/- Lemmas of the proofs of this seat, of the parts Ro19, Hyh, Hyt, Hyu, Hyi, L22a. Conditions: none. -/
import Derived.Test.YtaiifmckmjlgjaaHe
import Derived.Test.YtaiifmckmjlgjaaHb
import Derived.Test.YtaiifmckmjlgjaaHc
section
/- The reference of observe: Answer. -/
namespace Go.Proofs.Ytaiifmckmjlgjaa
open Go.RowKit

/-- The result of Answer for a word that is not empty. -/
def AnsR (ts : TSr) (ws : List Int) (n : Nat) (w : World) (r : Ending) (w' : World) : Prop :=
  Below w.heap.size w w' ∧ ((r = .returned (.tuple #[.slice none 0 0, .bool false]) ∧ ∀ a, a < ts.length → ¬ cmn (tIn ts a) ws = ws.length) ∨
    ∃ (a : Nat) (A' : Option Addr) (c' : Nat), a < ts.length ∧ cmn (tIn ts a) ws = ws.length ∧ r = .returned (.tuple #[.slice A' n c', .bool true]) ∧ Ints w' A' n ((tOut ts a).take n))

set_option linter.unusedSimpArgs false in
set_option linter.unusedVariables false in
set_option maxHeartbeats 8000000 in
set_option maxRecDepth 100000 in
theorem ranswer16 (i : Int) (T A : Option Addr) (tn tc n c : Nat) (ts : TSr) (ws : List Int) (w : World) (hT : Trs w T tn ts) (hF : Full ts) (hA : Ints w A n ws) (h0 : 0 < n) :
    Calls Try.prog 69 #[.agg #[.int .i64 i, .slice T tn tc], .slice A n c] w fun r w' => AnsR ts ws n w r w' := by
  obtain ⟨w0, hw0⟩ : ∃ w0, w0 = w.alloc (.cells #[.int .i64 i, .slice T tn tc] 34) := ⟨_, rfl⟩
  have hb0 : Below w.heap.size w w0 := by rw [hw0]; exact alloc_below _ _
  have m0 : Bx w0 w.heap.size #[.int .i64 i, .slice T tn tc] 34 := by rw [hw0]; exact bx_new _ _ _
  have HM := Lib.hid (fun (W : World) (h : Below w0.heap.size w0 W) => m0.on h)
  have HT := Lib.hid (fun (W : World) (h : Below w0.heap.size w0 W) => (hT.below hb0).below h)
  have HA := Lib.hid (fun (W : World) (h : Below w0.heap.size w0 W) => (hA.below hb0).below h)
  have HB0 := Lib.hid hb0
  have HW0 := Lib.hid hw0
  have HLT := Lib.hid hT.1
  have HLA := Lib.hid hA.1
  have HF := Lib.hid hF
  have hn := hT.2.1
  have hnb := hA.2.1
  have hn0 : ((n : Int) == 0) = false := by rw [beq_eq_false_iff_ne]; omega
  clear hw0 hb0 m0 hT hA hF
  go_enter Try.func69, Try.ntmps69
  go_wp2
  rw [← HW0.out]
  clear hn0
  go_loopw [6] (fun v6 wr => ∃ p : Nat, v6 = .int .i64 p ∧ p ≤ tn ∧ Hid (∀ a, a < p → ¬ cmn (tIn ts a) ws = ws.length) ∧ Hid (Below w0.heap.size w0 wr)) (fun v6 _ => tn - (intOf v6).toNat)
  case atStart => exact ⟨0, rfl, Nat.zero_le _, Lib.hid (fun a h => absurd h (Nat.not_lt_zero a)), Lib.hid (Below.refl _ _)⟩
  case round =>
    obtain ⟨p, rfl, hp, HP, HBR⟩ := hrel
    have k1 := (HM.out _ HBR.out).cell 1
    simp at k1
    by_cases hlt : p < tn
    · obtain ⟨b, off, A1, n1, c1, A2, n2, c2, rfl, hgb, j1, j2, q1, q2, j3, j4⟩ := (HT.out _ HBR.out).at_ hlt
      have HHP := Lib.hid (rhasprefix A1 A n1 c1 n c (tIn ts p) ws wr j3 (HA.out _ HBR.out))
      have HJ4 := Lib.hid j4
      have hq : n2 = n1 := by rw [← j4.1, ← j3.1]; exact HF.out p (by rw [HLT.out]; exact hlt)
      obtain ⟨f, hf⟩ : ∃ f, f = decide (cmn (tIn ts p) ws = ws.length) := ⟨_, rfl⟩
      rw [← hf] at HHP
      have HFF := Lib.hid hf
      have hnn : f = true → n ≤ n2 := fun h => by
        rw [h] at hf
        have e := of_decide_eq_true hf.symm
        have := cmn_le_left (tIn ts p) ws
        have l1 := j3.1
        have l2 := HLA.out
        omega
      clear j3 j4 hf hq
      cases f
      case false =>
        clear hnn
        go_wp2_with fail
        refine HHP.out.mono ?_
        rintro r w3 ⟨rfl, q3, rfl⟩
        go_wp2_with fail
        go_roundw
        case rel => exact ⟨p + 1, by go_num, by omega, Lib.hid (fun a ha => by
          by_cases e : a = p
          · rw [e]; exact of_decide_eq_false HFF.out.symm
          · exact HP.out a (by omega)), Lib.hid (below_drewN HBR.out q3)⟩
        case measure => simp [intOf]; omega
      case true =>
        have hnn := hnn rfl
        have i1' : (n : Int) ≤ (c2 : Int) := by omega
        have i2' : (0 : Int) ≤ (n : Int) := by omega
        have HTK := Lib.hid (HJ4.out.takeX (t := n) hnn)
        go_wp2_with fail
        refine HHP.out.mono ?_
        rintro r w3 ⟨rfl, q3, rfl⟩
        have HJO := Lib.hid (join_one (c := c2) (HTK.out.drewN q3))
        go_wp2_with fail
        refine HJO.out.mono ?_
        rintro r w4 ⟨A4, c4, rfl, o4, a4⟩
        have hlen : ((tOut ts p).take n).length = n := by rw [List.length_take, HJ4.out.1]; omega
        have HFV := Lib.hid (o4.ints (by rw [hlen]; exact hnb))
        have HB4 := Lib.hid (bt (below_drewN HBR.out q3) a4)
        have HR := Lib.hid (of_decide_eq_true HFF.out.symm)
        clear o4 a4 hlen
        go_wp2_with fail
        go_ret2
        exact ⟨bt HB0.out HB4.out, .inr ⟨p, A4, c4, by rw [HLT.out]; exact hlt, HR.out, rfl, HFV.out⟩⟩
    · obtain rfl : p = tn := by omega
      go_wp2
      go_ret2
      exact ⟨bt HB0.out HBR.out, .inl ⟨rfl, fun a ha => HP.out a (by rw [← HLT.out]; exact ha)⟩⟩
end Go.Proofs.Ytaiifmckmjlgjaa
end

section
/- What shows that words are apart, step by step, as the reference finds it. No program. -/
namespace Go.Proofs.Ytaiifmckmjlgjaa

/-- The first m symbols of X behind vs are answered, and as Y says. -/
def Agr (ts : List (List Int × List Int)) (vs X Y : List Int) (m : Nat) : Prop :=
  ∀ j, j < m → ∃ a, a < ts.length ∧ cmn (tIn ts a) (vs ++ X.take (j + 1)) = (vs ++ X.take (j + 1)).length ∧ (tOut ts a).getD (vs.length + j) 0 = Y.getD j 0
theorem sh1_of {ts : List (List Int × List Int)} {vs X Y x : List Int} (h : Sh1 (aftK ts vs ts.length) X Y x) :
    ∃ s, s < ts.length ∧ 0 < x.length ∧ x = X.take x.length ∧ x.length ≤ X.length ∧ cmn (tIn ts s) (vs ++ x) = (vs ++ x).length ∧ ¬ (tOut ts s).getD (vs.length + (x.length - 1)) 0 = Y.getD (x.length - 1) 0 := by
  obtain ⟨h1, h2, b, hb, h3, h4⟩ := h
  obtain ⟨s, hs, hl, hc, e1, e2⟩ := aftK_at ts.length b hb
  rw [e1] at h3
  rw [e2, getD_drop] at h4
  refine ⟨s, hs, h2, List.prefix_iff_eq_take.1 h1, h1.length_le, ?_, h4⟩
  have := cut_pre hc
  rw [← pre_cmn', ← this]
  exact (List.prefix_append_right_inj vs).2 h3
theorem pre_tk {x y z : List Int} (h : cmn z y = y.length) (hx : x <+: y) : cmn z x = x.length := pre_cmn'.1 (hx.trans (pre_cmn'.2 h))
theorem tk_pre {vs X : List Int} {a b : Nat} (h : a ≤ b) : vs ++ X.take a <+: vs ++ X.take b := (List.prefix_append_right_inj vs).2 (by
  have e : (X.take b).take a = X.take a := by rw [List.take_take, Nat.min_eq_left h]
  rw [← e]
  exact List.take_prefix _ _)
/-- What agrees shows nothing. -/
theorem agr_no {ts : List (List Int × List Int)} {vs X Y x : List Int} {m : Nat} (hC : Cons ts) (hA : Agr ts vs X Y m) (h : Sh1 (aftK ts vs ts.length) X Y x) : m < x.length := by
  obtain ⟨s, hs, h0, hx, hl, hc, hd⟩ := sh1_of h
  by_cases hm : m < x.length
  · exact hm
  · exfalso
    obtain ⟨a, ha, hca, he⟩ := hA (x.length - 1) (by omega)
    rw [show x.length - 1 + 1 = x.length by omega, ← hx] at hca
    refine hd ?_
    rw [← he]
    refine (hC s a hs ha _ ?_)
    have := pre_min (pre_cmn'.2 hc) (pre_cmn'.2 hca)
    rw [List.length_append] at this
    omega
theorem ans_none {ts : List (List Int × List Int)} {vs X Y x : List Int} {m : Nat} (hC : Cons ts) (hA : Agr ts vs X Y m) (hn : ∀ a, a < ts.length → ¬ cmn (tIn ts a) (vs ++ X.take (m + 1)) = (vs ++ X.take (m + 1)).length) : ¬ Sh1 (aftK ts vs ts.length) X Y x := fun h => by
  have hm := agr_no hC hA h
  obtain ⟨s, hs, h0, hx, hl, hc, hd⟩ := sh1_of h
  refine hn s hs (pre_tk hc ?_)
  rw [hx]
  exact tk_pre (by omega)
theorem ans_diff {ts : List (List Int × List Int)} {vs X Y : List Int} {m a : Nat} (hm : m < X.length) (ha : a < ts.length) (hc : cmn (tIn ts a) (vs ++ X.take (m + 1)) = (vs ++ X.take (m + 1)).length) (hd : ¬ (tOut ts a).getD (vs.length + m) 0 = Y.getD m 0) :
    Sh1 (aftK ts vs ts.length) X Y (X.take (m + 1)) := by
  have hl : (X.take (m + 1)).length = m + 1 := by rw [List.length_take]; omega
  have p := pre_cmn'.2 hc
  have pv : cmn (tIn ts a) vs = vs.length := pre_tk hc (List.prefix_append _ _)
  have hlt : vs.length < (tIn ts a).length := by
    have := p.length_le
    rw [List.length_append, hl] at this
    omega
  obtain ⟨j, hj, e1, e2⟩ := aftK_has ha hlt pv
  refine ⟨List.take_prefix _ _, by omega, j, hj, ?_, ?_⟩
  · rw [e1]
    have := cut_pre pv
    rw [← this] at p
    exact (List.prefix_append_right_inj vs).1 p
  · rw [e2, getD_drop, hl]
    exact hd
theorem Agr.zero (ts : List (List Int × List Int)) (vs X Y : List Int) : Agr ts vs X Y 0 := fun j h => absurd h (Nat.not_lt_zero j)
theorem Agr.step {ts : List (List Int × List Int)} {vs X Y : List Int} {m a : Nat} (h : Agr ts vs X Y m) (ha : a < ts.length) (hc : cmn (tIn ts a) (vs ++ X.take (m + 1)) = (vs ++ X.take (m + 1)).length) (hd : (tOut ts a).getD (vs.length + m) 0 = Y.getD m 0) : Agr ts vs X Y (m + 1) := fun j hj => by
  by_cases e : j = m
  · rw [e]; exact ⟨a, ha, hc, hd⟩
  · exact h j (by omega)
/-- Traces of the first words. -/
theorem shk_left {P Q : List (List Int × List Int)} {t : List Int × List Int} (x : List Int) : ShK (P ++ [t]) Q P.length x ↔ ShK P Q P.length x := by
  constructor
  · rintro ⟨a, ha, h⟩
    rw [tIn_left ha, tOut_left ha] at h
    exact ⟨a, ha, h⟩
  · rintro ⟨a, ha, h⟩
    refine ⟨a, ha, ?_⟩
    rw [tIn_left ha, tOut_left ha]
    exact h
theorem fst_left {P Q : List (List Int × List Int)} {t : List Int × List Int} {o : List Int} (h : Fst1 (ShK P Q P.length) o) : Fst1 (ShK (P ++ [t]) Q P.length) o := h.congr fun x => (shk_left x).symm
end Go.Proofs.Ytaiifmckmjlgjaa
end

section
/- Apart, the reference: shown. -/
namespace Go.Proofs.Ytaiifmckmjlgjaa
open Go.RowKit

/-- Two words joined. -/
theorem join_two22 {w : World} {A B : Option Addr} {n c m d : Nat} {xs ys : List Int} (h1 : Ints w A n xs) (h2 : Ints w B m ys) (hb : n + m ≤ 1000000) :
    Calls Try.prog 30 #[.slice (some ⟨w.heap.size, 0, none⟩) 2 2] (w.alloc (.cells #[.slice A n c, .slice B m d] 35)) fun e w' => ∃ A' c', e = .returned (.slice A' (n + m) c') ∧ Ints w' A' (n + m) (xs ++ ys) ∧ Below w.heap.size w w' := by
  have e : [xs, ys].flatten = xs ++ ys := by simp
  have hl : (xs ++ ys).length = n + m := by rw [List.length_append, h1.1, h2.1]
  refine (rjoin _ 2 2 [xs, ys] _ (Lists.two h1 h2) (by rw [e, hl]; omega)).mono ?_
  rintro e' w' ⟨v, rfl, ho, hb'⟩
  rw [e] at ho
  obtain ⟨A', c', rfl⟩ := ho.form
  have hi := ho.ints (by rw [hl]; omega)
  rw [hl] at hi ⊢
  exact ⟨A', c', rfl, hi, bt (alloc_below _ _) hb'⟩

/-- The result of shown: a shortest word that shows it, or nothing. -/
def ShR (Q : TSr) (X Y : List Int) (w : World) (r : Ending) (w' : World) : Prop :=
  Below w.heap.size w w' ∧ ((r = .returned (.tuple #[.slice none 0 0, .bool false]) ∧ ∀ x, ¬ Sh1 Q X Y x) ∨
    ∃ (z : List Int) (A' : Option Addr) (c' : Nat), r = .returned (.tuple #[.slice A' z.length c', .bool true]) ∧ Ints w' A' z.length z ∧ Sh1 Q X Y z ∧ ∀ x, Sh1 Q X Y x → z.length ≤ x.length)

set_option linter.unusedSimpArgs false in
set_option linter.unusedVariables false in
set_option maxHeartbeats 8000000 in
set_option maxRecDepth 100000 in
theorem rshown (i : Int) (T X1 X2 V : Option Addr) (tn tc n1 c1 n2 c2 N k e : Nat) (ts : TSr) (xs ys vs : List Int) (w : World) (hT : Trs w T tn ts) (hX : Ints w X1 n1 xs) (hY : Ints w X2 n2 ys) (hV : Ints w V k vs) (hF : Full ts) (hC : Cons ts) (hl : ys.length = xs.length) (hN : N ≤ n1) (h1c : n1 ≤ c1) (hk : k + n1 ≤ 1000000) :
    Calls Try.prog 48 #[.agg #[.int .i64 i, .slice T tn tc], .agg #[.slice X1 n1 c1, .slice X2 n2 c2], .int .i64 N, .slice V k e] w fun r w' => ShR (aftK ts vs tn) (xs.drop N) (ys.drop N) w r w' := by
  obtain ⟨w0, hw0⟩ : ∃ w0, w0 = (w.alloc (.cells #[.int .i64 i, .slice T tn tc] 34)).alloc (.cells #[.slice X1 n1 c1, .slice X2 n2 c2] 56) := ⟨_, rfl⟩
  obtain ⟨hb0, m1, m2, hs0⟩ := bxs2 w #[.int .i64 i, .slice T tn tc] #[.slice X1 n1 c1, .slice X2 n2 c2] 34 56 w0 hw0
  have HM1 := Lib.hid (fun (W : World) (h : Below w0.heap.size w0 W) => m1.on h)
  have HM2 := Lib.hid (fun (W : World) (h : Below w0.heap.size w0 W) => m2.on h)
  have HT := Lib.hid (fun (W : World) (h : Below w0.heap.size w0 W) => (hT.below hb0).below h)
  have HX := Lib.hid (fun (W : World) (h : Below w0.heap.size w0 W) => (hX.below hb0).below h)
  have HY := Lib.hid (fun (W : World) (h : Below w0.heap.size w0 W) => (hY.below hb0).below h)
  have HV := Lib.hid (fun (W : World) (h : Below w0.heap.size w0 W) => (hV.below hb0).below h)
  have HB0 := Lib.hid hb0
  have HW0 := Lib.hid hw0
  have HLT := Lib.hid hT.1
  have HLV := Lib.hid hV.1
  have HF := Lib.hid hF
  have HC := Lib.hid hC
  have HLX := Lib.hid hX.1
  obtain ⟨Q, hQ⟩ : ∃ Q, Q = aftK ts vs tn := ⟨_, rfl⟩
  rw [← hQ]
  have HQ := Lib.hid (show Q = aftK ts vs ts.length by rw [hQ, hT.1])
  clear hQ
  have HLY := Lib.hid hl
  obtain ⟨X, hXX⟩ : ∃ X, X = xs.drop N := ⟨_, rfl⟩
  obtain ⟨Y, hYY⟩ : ∃ Y, Y = ys.drop N := ⟨_, rfl⟩
  rw [← hXX, ← hYY]
  have hXL : X.length = n1 - N := by rw [hXX, List.length_drop, HLX.out]
  have HXL := Lib.hid hXL
  have HXX := Lib.hid hXX
  have HYY := Lib.hid hYY
  have hn2 : n2 = n1 := by rw [← hY.1, ← hX.1, hl]
  subst hn2
  clear hw0 hb0 m1 m2 hs0 hT hX hY hV hF hC hl hXX hYY hXL
  go_enter Try.func48, Try.ntmps48
  go_wp2
  rw [← HW0.out]
  go_loopw [10] (fun v10 wr => ∃ p : Nat, v10 = .int .i64 p ∧ N ≤ p ∧ p ≤ n2 ∧ Hid (Agr ts vs X Y (p - N)) ∧ Hid (Below w0.heap.size w0 wr)) (fun v10 _ => n2 - (intOf v10).toNat)
  case atStart => exact ⟨N, rfl, Nat.le_refl _, hN, Lib.hid (by rw [Nat.sub_self]; exact Agr.zero _ _ _ _), Lib.hid (Below.refl _ _)⟩
  case round =>
    obtain ⟨p, rfl, hNp, hp, HAG, HBR⟩ := hrel
    have x0 := (HM2.out _ HBR.out).cell 0
    have x1 := (HM2.out _ HBR.out).cell 1
    simp at x0 x1
    by_cases hlt : p < n2
    · obtain ⟨bx, ox, rfl, hgx, hcx⟩ := (HX.out _ HBR.out).at_ (k := p) hlt
      obtain ⟨L, hL⟩ : ∃ L, L = p + 1 - N := ⟨_, rfl⟩
      obtain ⟨n', hn'⟩ : ∃ n', n' = k + L := ⟨_, rfl⟩
      obtain ⟨q, hq⟩ : ∃ q, q = k + (p - N) := ⟨_, rfl⟩
      have HL := Lib.hid hL
      have HN' := Lib.hid hn'
      have HQQ := Lib.hid hq
      have hqn : n' ≤ q + 1 ∧ q + 1 ≤ n' := by omega
      have hnk : n' ≤ k + L ∧ k + L ≤ n' := by omega
      have hLp : L + N ≤ p + 1 ∧ p + 1 ≤ L + N := by omega
      have hn0 : 0 < n' := by omega
      have HTL := Lib.hid (show ∀ W, Below w0.heap.size w0 W → Ints W (some ⟨bx, ox + N, none⟩) L (X.take L) from fun W h => by
        have := (HX.out W h).drop hN
        rw [← HXX.out] at this
        exact this.takeX (by omega))
      have w1' : IntKind.i64.wrap ((p : Int) + 1) = (p : Int) + 1 := by rw [IntKind.wrap_i64]; omega
      have i1' : (p : Int) + 1 ≤ (c1 : Int) := by omega
      have i2' : (0 : Int) ≤ (N : Int) := by omega
      have i3' : (N : Int) ≤ (p : Int) + 1 := by omega
      have i4' : ¬ c1 = N := by omega
      clear hgx hcx
      go_upto_region 5 with fail
      rw [← HL.out]
      clear x0 x1 w1' i1' i2' i3' i4' hn' hq hL
      have hbf : Below w0.heap.size w0 wr.drew := below_drewN HBR.out 1
      refine wp_region_heldX (X := fun k => ([] : List Nat).contains k) (S := fun W => Bx W w.heap.size #[.int .i64 i, .slice T tn tc] 34) (by kernel_rfl) ?_
      generalize wr.drew = wd at hbf ⊢
      refine wpAnyX_takeL (L := []) (i := 0) (v := .agg (#[.int .i64 i, .slice T tn tc])) rfl (by kernel_rfl) (by kernel_rfl) (by kernel_rfl) (by kernel_rfl) (fun _ _ _ h => h) (Or.inl ⟨by rfl, fun W hSW => run_load_bx 34 _ rfl (w.heap.size) rfl 34 (#[.int .i64 i, .slice T tn tc]) (0, 0) _ (hSW) Try.underlying34 rfl (by kernel_rfl)⟩) (HM1.out _ hbf) ?_
      (try simp only [Act.put, List.getElem_toArray, List.getElem_cons_zero, List.getElem_cons_succ, List.setIfInBounds_toArray, List.set_cons_zero, List.set_cons_succ])
      refine wpAnyX_pure (i := 1) (v := ?_) rfl (by kernel_rfl) (by kernel_rfl) (by kernel_rfl) (fun _ _ _ h => h) (Or.inl ⟨by rfl, ?_⟩) ?_
      rotate_left
      · (intro W _; go_simp; try with_reducible rfl)
      (try simp only [Act.put, List.getElem_toArray, List.getElem_cons_zero, List.getElem_cons_succ, List.setIfInBounds_toArray, List.set_cons_zero, List.set_cons_succ])
      refine wpAnyX_pure (i := 2) (v := ?_) rfl (by kernel_rfl) (by kernel_rfl) (by kernel_rfl) (fun _ _ _ h => h) (Or.inl ⟨by rfl, ?_⟩) ?_
      rotate_left
      · (intro W _; go_simp; try with_reducible rfl)
      (try simp only [Act.put, List.getElem_toArray, List.getElem_cons_zero, List.getElem_cons_succ, List.setIfInBounds_toArray, List.set_cons_zero, List.set_cons_succ])
      refine wpAnyX_one (i := 3) rfl (by kernel_rfl) (fun K hK => ?_)
      go_simp
      refine hK.out _ _ (fun _ _ => HM1.out _ (bt hbf (alloc_below _ _))) ?_
      (try simp only [Act.put, List.getElem_toArray, List.getElem_cons_zero, List.getElem_cons_succ, List.setIfInBounds_toArray, List.set_cons_zero, List.set_cons_succ])
      refine wpAnyX_one (i := 4) rfl (by kernel_rfl) (fun K hK => ?_)
      go_simp
      go_at_call 30
      refine (join_two22 (HV.out _ hbf) (HTL.out _ hbf) (by omega)).mono ?_
      rintro r w5 ⟨A5, c5, rfl, i5, b5⟩
      rw [← HN'.out] at i5 ⊢
      have hbf := bt hbf b5
      clear b5
      refine hK.out _ _ (fun _ _ => HM1.out _ hbf) ?_
      (try simp only [Act.put, List.getElem_toArray, List.getElem_cons_zero, List.getElem_cons_succ, List.setIfInBounds_toArray, List.set_cons_zero, List.set_cons_succ])
      refine wpAnyX_one (i := 5) rfl (by kernel_rfl) (fun K hK => ?_)
      go_simp
      go_at_call 69
      refine (ranswer16 i T A5 tn tc n' c5 ts (vs ++ X.take L) _ (HT.out _ hbf) HF.out i5 hn0).mono ?_
      rintro r w6 ⟨b6, ⟨rfl, hno⟩ | ⟨a, A6, c6, ha, hc, rfl, i6⟩⟩
      · have hbf := bt hbf b6
        clear b6 i5
        refine hK.out _ _ (fun _ _ => HM1.out _ hbf) ?_
        (try simp only [Act.put, List.getElem_toArray, List.getElem_cons_zero, List.getElem_cons_succ, List.setIfInBounds_toArray, List.set_cons_zero, List.set_cons_succ])
        refine wpAnyX_pure (i := 6) (v := ?_) rfl (by kernel_rfl) (by kernel_rfl) (by kernel_rfl) (fun _ _ _ h => h) (Or.inl ⟨by rfl, ?_⟩) ?_
        rotate_left
        · (intro W _; go_simp; try with_reducible rfl)
        (try simp only [Act.put, List.getElem_toArray, List.getElem_cons_zero, List.getElem_cons_succ, List.setIfInBounds_toArray, List.set_cons_zero, List.set_cons_succ])
        refine wpAnyX_pure (i := 7) (v := ?_) rfl (by kernel_rfl) (by kernel_rfl) (by kernel_rfl) (fun _ _ _ h => h) (Or.inl ⟨by rfl, ?_⟩) ?_
        rotate_left
        · (intro W _; go_simp; try with_reducible rfl)
        (try simp only [Act.put, List.getElem_toArray, List.getElem_cons_zero, List.getElem_cons_succ, List.setIfInBounds_toArray, List.set_cons_zero, List.set_cons_succ])
        refine wpAnyX_pure (i := 8) (v := ?_) rfl (by kernel_rfl) (by kernel_rfl) (by kernel_rfl) (fun _ _ _ h => h) (Or.inl ⟨by rfl, ?_⟩) ?_
        rotate_left
        · (intro W _; go_simp; try with_reducible rfl)
        (try simp only [Act.put, List.getElem_toArray, List.getElem_cons_zero, List.getElem_cons_succ, List.setIfInBounds_toArray, List.set_cons_zero, List.set_cons_succ])
        refine wpAnyX_pure (i := 9) (v := ?_) rfl (by kernel_rfl) (by kernel_rfl) (by kernel_rfl) (fun _ _ _ h => h) (Or.inl ⟨by rfl, ?_⟩) ?_
        rotate_left
        · (intro W _; go_simp; try with_reducible rfl)
        (try simp only [Act.put, List.getElem_toArray, List.getElem_cons_zero, List.getElem_cons_succ, List.setIfInBounds_toArray, List.set_cons_zero, List.set_cons_succ])
        refine wpAnyX_pure (i := 10) (v := ?_) rfl (by kernel_rfl) (by kernel_rfl) (by kernel_rfl) (fun _ _ _ h => h) (Or.inl ⟨by rfl, ?_⟩) ?_
        rotate_left
        · (intro W _; go_simp; try with_reducible rfl)
        (try simp only [Act.put, List.getElem_toArray, List.getElem_cons_zero, List.getElem_cons_succ, List.setIfInBounds_toArray, List.set_cons_zero, List.set_cons_succ])
        refine wpAnyX_done (by kernel_rfl) ?_ _
        have HNO := Lib.hid hno
        have HBF := Lib.hid hbf
        clear hno hbf
        go_wp2_with fail
        go_ret2
        exact ⟨bt HB0.out HBF.out, .inl ⟨rfl, fun x hx => ans_none (m := p - N) HC.out HAG.out (by rw [show p - N + 1 = L by rw [HL.out]; omega]; exact HNO.out) (HQ.out ▸ hx)⟩⟩
      · have hbf := bt hbf b6
        clear b6 i5
        refine hK.out _ _ (fun _ _ => HM1.out _ hbf) ?_
        (try simp only [Act.put, List.getElem_toArray, List.getElem_cons_zero, List.getElem_cons_succ, List.setIfInBounds_toArray, List.set_cons_zero, List.set_cons_succ])
        refine wpAnyX_pure (i := 6) (v := ?_) rfl (by kernel_rfl) (by kernel_rfl) (by kernel_rfl) (fun _ _ _ h => h) (Or.inl ⟨by rfl, ?_⟩) ?_
        rotate_left
        · (intro W _; go_simp; try with_reducible rfl)
        (try simp only [Act.put, List.getElem_toArray, List.getElem_cons_zero, List.getElem_cons_succ, List.setIfInBounds_toArray, List.set_cons_zero, List.set_cons_succ])
        refine wpAnyX_pure (i := 7) (v := ?_) rfl (by kernel_rfl) (by kernel_rfl) (by kernel_rfl) (fun _ _ _ h => h) (Or.inl ⟨by rfl, ?_⟩) ?_
        rotate_left
        · (intro W _; go_simp; try with_reducible rfl)
        (try simp only [Act.put, List.getElem_toArray, List.getElem_cons_zero, List.getElem_cons_succ, List.setIfInBounds_toArray, List.set_cons_zero, List.set_cons_succ])
        refine wpAnyX_pure (i := 8) (v := ?_) rfl (by kernel_rfl) (by kernel_rfl) (by kernel_rfl) (fun _ _ _ h => h) (Or.inl ⟨by rfl, ?_⟩) ?_
        rotate_left
        · (intro W _; go_simp; try with_reducible rfl)
        (try simp only [Act.put, List.getElem_toArray, List.getElem_cons_zero, List.getElem_cons_succ, List.setIfInBounds_toArray, List.set_cons_zero, List.set_cons_succ])
        refine wpAnyX_pure (i := 9) (v := ?_) rfl (by kernel_rfl) (by kernel_rfl) (by kernel_rfl) (fun _ _ _ h => h) (Or.inl ⟨by rfl, ?_⟩) ?_
        rotate_left
        · (intro W _; go_simp; try with_reducible rfl)
        (try simp only [Act.put, List.getElem_toArray, List.getElem_cons_zero, List.getElem_cons_succ, List.setIfInBounds_toArray, List.set_cons_zero, List.set_cons_succ])
        refine wpAnyX_pure (i := 10) (v := ?_) rfl (by kernel_rfl) (by kernel_rfl) (by kernel_rfl) (fun _ _ _ h => h) (Or.inl ⟨by rfl, ?_⟩) ?_
        rotate_left
        · (intro W _; go_simp; try with_reducible rfl)
        (try simp only [Act.put, List.getElem_toArray, List.getElem_cons_zero, List.getElem_cons_succ, List.setIfInBounds_toArray, List.set_cons_zero, List.set_cons_succ])
        refine wpAnyX_done (by kernel_rfl) ?_ _
        obtain ⟨g6, o6, rfl, hg6, hc6⟩ := i6.at_ (k := q) (by omega)
        obtain ⟨g2, o2, rfl, hg2, hc2⟩ := (HY.out _ hbf).at_ (k := p) hlt
        have x1 := (HM2.out _ hbf).cell 1
        simp at x1
        have HAL := Lib.hid (show ((tOut ts a).take n').getD q 0 = (tOut ts a).getD (vs.length + (p - N)) 0 by
          rw [List.getD_eq_getElem?_getD, List.getElem?_take_of_lt (by omega), ← List.getD_eq_getElem?_getD, HQQ.out, HLV.out])
        have HBE := Lib.hid (show ys.getD p 0 = Y.getD (p - N) 0 by rw [HYY.out, getD_drop]; congr 1; omega)
        obtain ⟨α, hα⟩ : ∃ α, α = ((tOut ts a).take n').getD q 0 := ⟨_, rfl⟩
        obtain ⟨β, hβ⟩ : ∃ β, β = ys.getD p 0 := ⟨_, rfl⟩
        rw [← hα] at hc6 HAL
        rw [← hβ] at hc2 HBE
        have HBF := Lib.hid hbf
        have HCC := Lib.hid (show cmn (tIn ts a) (vs ++ X.take (p - N + 1)) = (vs ++ X.take (p - N + 1)).length by rw [show p - N + 1 = L by rw [HL.out]; omega]; exact hc)
        have w2' : IntKind.i64.wrap ((n' : Int) - 1) = (q : Int) := by rw [IntKind.wrap_i64]; omega
        have b1' : (q : Int) < (n' : Int) := by omega
        have b2' : (0 : Int) ≤ (q : Int) := by omega
        have b3' : (p : Int) < (n2 : Int) := by omega
        have b4' : (0 : Int) ≤ (p : Int) := by omega
        clear hα hβ i6 hc hbf hg6 hg2
        by_cases hd : α = β
        · have hne : (α != β) = false := by rw [bne_eq_false_iff_eq]; exact hd
          have HD := Lib.hid (show (tOut ts a).getD (vs.length + (p - N)) 0 = Y.getD (p - N) 0 by rw [← HAL.out, ← HBE.out]; exact hd)
          go_upto_region 8 with fail
          go_region
          have w1' : IntKind.i64.wrap ((p : Int) + 1) = (p : Int) + 1 := by rw [IntKind.wrap_i64]; omega
          go_wp2_with fail
          go_roundw
          case rel => exact ⟨p + 1, by go_num, by omega, by omega, Lib.hid (by rw [show p + 1 - N = p - N + 1 by omega]; exact HAG.out.step ha HCC.out HD.out), Lib.hid (below_drewN HBF.out 1)⟩
          case measure => simp [intOf]; omega
        · have hne : (α != β) = true := by rw [bne_iff_ne]; exact hd
          have HD := Lib.hid (show ¬ (tOut ts a).getD (vs.length + (p - N)) 0 = Y.getD (p - N) 0 by rw [← HAL.out, ← HBE.out]; exact hd)
          have hzl : (X.take L).length = L := by rw [List.length_take, HXL.out]; omega
          have HZL := Lib.hid hzl
          have HJO := Lib.hid (join_one (c := c1 - N) ((HTL.out _ HBF.out).drewN 1))
          clear hzl
          go_upto_region 8 with fail
          go_region
          go_wp2_with fail
          refine HJO.out.mono ?_
          rintro r w7 ⟨A7, c7, rfl, o7, a7⟩
          have HI7 := Lib.hid (o7.ints (by rw [HZL.out]; omega))
          have HB7 := Lib.hid (bt (below_drewN HBF.out 1) a7)
          clear o7 a7
          go_wp2_with fail
          go_ret2
          refine ⟨bt HB0.out HB7.out, .inr ⟨X.take L, A7, c7, ?_, ?_, ?_, ?_⟩⟩
          · rw [HZL.out]; rfl
          · rw [HZL.out]; exact HI7.out
          · have := ans_diff (by rw [HXL.out]; omega) ha HCC.out HD.out
            rw [show p - N + 1 = L by rw [HL.out]; omega, ← HQ.out] at this
            exact this
          · intro x hx
            have := agr_no HC.out HAG.out (HQ.out ▸ hx)
            rw [HZL.out]
            omega
    · obtain rfl : p = n2 := by omega
      go_wp2
      go_ret2
      exact ⟨bt HB0.out HBR.out, .inl ⟨rfl, fun x hx => by
        have h1 := agr_no HC.out HAG.out (HQ.out ▸ hx)
        obtain ⟨_, _, _, _, h2, _⟩ := sh1_of (HQ.out ▸ hx)
        have := HXL.out
        omega⟩⟩
end Go.Proofs.Ytaiifmckmjlgjaa
end

section
/- Apart, the reference. -/
namespace Go.Proofs.Ytaiifmckmjlgjaa
open Go.RowKit

theorem ap_none {ts Q : TSr} {us xs : List Int} {p : Nat} (h : Fst1 (ShK (aftK ts us p) Q (aftK ts us p).length) xs) (hp : cmn (tIn ts p) us = us.length) (hn : ∀ x, ¬ Sh1 Q ((tIn ts p).drop us.length) ((tOut ts p).drop us.length) x) : Fst1 (ShK (aftK ts us (p + 1)) Q (aftK ts us (p + 1)).length) xs := by
  by_cases hl : us.length < (tIn ts p).length
  · rw [aftK_yes hl hp, List.length_append]
    exact fst_skip (fst_left h) (by rw [tIn_end, tOut_end]; exact hn)
  · rw [aftK_no (fun e => hl e.1)]
    exact h
theorem ap_no {ts Q : TSr} {us xs : List Int} {p : Nat} (h : Fst1 (ShK (aftK ts us p) Q (aftK ts us p).length) xs) (hp : ¬ cmn (tIn ts p) us = us.length) : Fst1 (ShK (aftK ts us (p + 1)) Q (aftK ts us (p + 1)).length) xs := by
  rw [aftK_no (fun e => hp e.2)]
  exact h
theorem sh1_pos {Q : TSr} {us xs ys z : List Int} (h : Sh1 Q (xs.drop us.length) ys z) : us.length < xs.length := by
  have h1 := h.1.length_le
  have h2 := h.2.1
  rw [List.length_drop] at h1
  omega
theorem ap_new {ts Q : TSr} {us xs z : List Int} {p : Nat} (h : Fst1 (ShK (aftK ts us p) Q (aftK ts us p).length) xs) (hp : cmn (tIn ts p) us = us.length) (hz : Sh1 Q ((tIn ts p).drop us.length) ((tOut ts p).drop us.length) z)
    (hm : ∀ x, Sh1 Q ((tIn ts p).drop us.length) ((tOut ts p).drop us.length) x → z.length ≤ x.length) (hc : xs = [] ∨ shlex z xs < 0) : Fst1 (ShK (aftK ts us (p + 1)) Q (aftK ts us (p + 1)).length) z := by
  rw [aftK_yes (sh1_pos hz) hp, List.length_append]
  exact fst_new (fst_left h) (by rw [tIn_end, tOut_end]; exact hz) (by rw [tIn_end, tOut_end]; exact hm) hc
theorem ap_old {ts Q : TSr} {us xs z : List Int} {p : Nat} (h : Fst1 (ShK (aftK ts us p) Q (aftK ts us p).length) xs) (hp : cmn (tIn ts p) us = us.length) (hz : Sh1 Q ((tIn ts p).drop us.length) ((tOut ts p).drop us.length) z)
    (hm : ∀ x, Sh1 Q ((tIn ts p).drop us.length) ((tOut ts p).drop us.length) x → z.length ≤ x.length) (ho : ¬ xs = []) (hc : ¬ shlex z xs < 0) : Fst1 (ShK (aftK ts us (p + 1)) Q (aftK ts us (p + 1)).length) xs := by
  rw [aftK_yes (sh1_pos hz) hp, List.length_append]
  exact fst_old (fst_left h) (by rw [tIn_end, tOut_end]; exact hz) (by rw [tIn_end, tOut_end]; exact hm) ho hc

/-- The result of Apart, the reference. -/
def ApF (P Q : TSr) (w : World) (r : Ending) (w' : World) : Prop :=
  ∃ (v b : Value) (xs : List Int), r = .returned (.tuple #[v, b]) ∧ FirstF w' v b xs ∧ Fst1 (ShK P Q P.length) xs ∧ Below w.heap.size w w'

set_option linter.unusedSimpArgs false in
set_option linter.unusedVariables false in
set_option maxHeartbeats 8000000 in
set_option maxRecDepth 100000 in
theorem rhapart (i : Int) (T U V : Option Addr) (tn tc m d k e : Nat) (ts : TSr) (us vs : List Int) (w : World) (hT : Trs w T tn ts) (hU : Ints w U m us) (hV : Ints w V k vs) (hF : Full ts) (hC : Cons ts) (hI : Props i ts) (hk : k ≤ 100000) :
    Calls Try.prog 21 #[.agg #[.int .i64 i, .slice T tn tc], .slice U m d, .slice V k e] w fun r w' => ApF (aftK ts us tn) (aftK ts vs tn) w r w' := by
  obtain ⟨w0, hw0⟩ : ∃ w0, w0 = w.alloc (.cells #[.int .i64 i, .slice T tn tc] 34) := ⟨_, rfl⟩
  have hb0 : Below w.heap.size w w0 := by rw [hw0]; exact alloc_below _ _
  have m0 : Bx w0 w.heap.size #[.int .i64 i, .slice T tn tc] 34 := by rw [hw0]; exact bx_new _ _ _
  have HM := Lib.hid (fun (W : World) (h : Below w0.heap.size w0 W) => m0.on h)
  have HT := Lib.hid (fun (W : World) (h : Below w0.heap.size w0 W) => (hT.below hb0).below h)
  have HU := Lib.hid (fun (W : World) (h : Below w0.heap.size w0 W) => (hU.below hb0).below h)
  have HV := Lib.hid (fun (W : World) (h : Below w0.heap.size w0 W) => (hV.below hb0).below h)
  have HB0 := Lib.hid hb0
  have HW0 := Lib.hid hw0
  have HLT := Lib.hid hT.1
  have HLU := Lib.hid hU.1
  have HF := Lib.hid hF
  have HC := Lib.hid hC
  have HII := Lib.hid hI
  obtain ⟨Q, hQ⟩ : ∃ Q, Q = aftK ts vs tn := ⟨_, rfl⟩
  rw [← hQ]
  have HQ := Lib.hid hQ
  have hn := hT.2.1
  clear hw0 hb0 m0 hT hU hV hF hC hI hQ
  go_enter Try.func21, Try.ntmps21
  go_wp2
  rw [← HW0.out]
  go_loopw [10, 8, 9] (fun v10 v8 v9 wr => ∃ (p : Nat) (xs : List Int), v10 = .int .i64 p ∧ p ≤ tn ∧ Hid (FirstF wr v8 v9 xs) ∧ Hid (Fst1 (ShK (aftK ts us p) Q (aftK ts us p).length) xs) ∧ Hid (Below w0.heap.size w0 wr)) (fun v10 _ _ _ => tn - (intOf v10).toNat)
  case atStart => exact ⟨0, [], rfl, Nat.zero_le _, Lib.hid (.inl ⟨rfl, rfl, rfl⟩), Lib.hid (ShK.zero _ _), Lib.hid (Below.refl _ _)⟩
  case round =>
    obtain ⟨p, xs, rfl, hp, HVV, HFS, HBR⟩ := hrel
    have k1 := (HM.out _ HBR.out).cell 1
    simp at k1
    by_cases hlt : p < tn
    · obtain ⟨b, off, A1, n1, c1, A2, n2, c2, rfl, hgb, j1, j2, q1, q2, j3, j4⟩ := (HT.out _ HBR.out).at_ hlt
      have HHP := Lib.hid (rhasprefix A1 U n1 c1 m d (tIn ts p) us wr j3 (HU.out _ HBR.out))
      have HJ3 := Lib.hid j3
      have HJ4 := Lib.hid j4
      have HL12 := Lib.hid (HF.out p (by rw [HLT.out]; exact hlt))
      have hprp := prp_zero (HII.out p (by rw [HLT.out]; exact hlt))
      have hch := (chk_zero hprp.1).2.2.1
      have hl1 := j3.1
      have hkn : k + n1 ≤ 1000000 := by omega
      have hn2 : n2 = n1 := by rw [← j4.1, ← j3.1]; exact HL12.out
      obtain ⟨f, hf⟩ : ∃ f, f = decide (cmn (tIn ts p) us = us.length) := ⟨_, rfl⟩
      rw [← hf] at HHP
      have HFF := Lib.hid hf
      have hpI : (p : Int) < (tn : Int) := by omega
      have hp0 : (0 : Int) ≤ (p : Int) := by omega
      have HS := Lib.hid (show ∀ W, Below wr.heap.size wr W → Bx W w.heap.size #[.int .i64 i, .slice (some ⟨b, off, none⟩) tn tc] 34 ∧ W.cell? ⟨w.heap.size, 1, none⟩ = some (.slice (some ⟨b, off, none⟩) tn tc) ∧ W.cell? ⟨b, off + p * 2, none⟩ = some (.slice A1 n1 c1) ∧ W.cell? ⟨b, off + p * 2 + 1, none⟩ = some (.slice A2 n2 c2) from fun W h => ⟨HM.out _ (bt HBR.out h), (h.cell (p := ⟨w.heap.size, 1, none⟩) (World.block_lt_of_cell? _ _ k1)).trans k1, (h.cell (p := ⟨b, off + p * 2, none⟩) hgb).trans j1, (h.cell (p := ⟨b, off + p * 2 + 1, none⟩) hgb).trans j2⟩)
      have hmn : f = true → m ≤ n1 := fun h => by
        rw [h] at hf
        have e := of_decide_eq_true hf.symm
        have := cmn_le_left (tIn ts p) us
        have l2 := HLU.out
        omega
      clear j3 j4 hf hprp hch hl1 hgb hn2
      cases f
      case false =>
        clear hmn
        go_wp2_with fail
        refine HHP.out.mono ?_
        rintro r w3 ⟨rfl, q3, rfl⟩
        go_wp2_with fail
        go_roundw
        case rel => exact ⟨p + 1, xs, by go_num, by omega, Lib.hid (HVV.out.below (below_drewN (Below.refl _ _) q3)), Lib.hid (ap_no HFS.out (of_decide_eq_false HFF.out.symm)), Lib.hid (below_drewN HBR.out q3)⟩
        case measure => simp [intOf]; omega
      case true =>
        replace hmn := hmn rfl
        have HFT := Lib.hid (of_decide_eq_true HFF.out.symm)
        go_wp2_with fail
        refine HHP.out.mono ?_
        rintro r w3 ⟨rfl, q3, rfl⟩
        go_upto_region 7 with fail
        have hbf : Below wr.heap.size wr ((wr.drewN q3).drew) := below_drewN (below_drewN (Below.refl _ _) q3) 1
        refine wp_region_heldX (X := fun k => ([] : List Nat).contains k) (S := fun W => Bx W w.heap.size #[.int .i64 i, .slice (some ⟨b, off, none⟩) tn tc] 34 ∧ W.cell? ⟨w.heap.size, 1, none⟩ = some (.slice (some ⟨b, off, none⟩) tn tc) ∧ W.cell? ⟨b, off + p * 2, none⟩ = some (.slice A1 n1 c1) ∧ W.cell? ⟨b, off + p * 2 + 1, none⟩ = some (.slice A2 n2 c2)) (by kernel_rfl) ?_
        generalize (wr.drewN q3).drew = wd at hbf ⊢
        refine wpAnyX_takeL (L := []) (i := 0) (v := .agg (#[.int .i64 i, .slice (some ⟨b, off, none⟩) tn tc])) rfl (by kernel_rfl) (by kernel_rfl) (by kernel_rfl) (by kernel_rfl) (fun _ _ _ h => h) (Or.inl ⟨by rfl, fun W hSW => run_load_bx 34 _ rfl (w.heap.size) rfl 34 (#[.int .i64 i, .slice (some ⟨b, off, none⟩) tn tc]) (0, 0) _ (hSW.1) Try.underlying34 rfl (by kernel_rfl)⟩) (HS.out _ hbf) ?_
        (try simp only [Act.put, List.getElem_toArray, List.getElem_cons_zero, List.getElem_cons_succ, List.setIfInBounds_toArray, List.set_cons_zero, List.set_cons_succ])
        refine wpAnyX_pure (i := 1) (v := ?_) rfl (by kernel_rfl) (by kernel_rfl) (by kernel_rfl) (fun _ _ _ h => h) (Or.inl ⟨by rfl, ?_⟩) ?_
        rotate_left
        · (intro W _; go_simp; try with_reducible rfl)
        (try simp only [Act.put, List.getElem_toArray, List.getElem_cons_zero, List.getElem_cons_succ, List.setIfInBounds_toArray, List.set_cons_zero, List.set_cons_succ])
        refine wpAnyX_takeL (L := []) (i := 2) (v := ?_) rfl (by kernel_rfl) (by kernel_rfl) (by kernel_rfl) (by kernel_rfl) (fun _ _ _ h => h) (Or.inl ⟨by rfl, ?_⟩) (HS.out _ hbf) ?_
        rotate_left
        · (intro W hSW; (try dsimp only at hSW); obtain ⟨z0, z1, z2, z3⟩ := hSW; go_simp; try with_reducible rfl)
        (try simp only [Act.put, List.getElem_toArray, List.getElem_cons_zero, List.getElem_cons_succ, List.setIfInBounds_toArray, List.set_cons_zero, List.set_cons_succ])
        refine wpAnyX_pure (i := 3) (v := ?_) rfl (by kernel_rfl) (by kernel_rfl) (by kernel_rfl) (fun _ _ _ h => h) (Or.inl ⟨by rfl, ?_⟩) ?_
        rotate_left
        · (intro W _; go_simp; try with_reducible rfl)
        (try simp only [Act.put, List.getElem_toArray, List.getElem_cons_zero, List.getElem_cons_succ, List.setIfInBounds_toArray, List.set_cons_zero, List.set_cons_succ])
        refine wpAnyX_pure (i := 4) (v := ?_) rfl (by kernel_rfl) (by kernel_rfl) (by kernel_rfl) (fun _ _ _ h => h) (Or.inl ⟨by rfl, ?_⟩) ?_
        rotate_left
        · (intro W _; go_simp; try with_reducible rfl)
        (try simp only [Act.put, List.getElem_toArray, List.getElem_cons_zero, List.getElem_cons_succ, List.setIfInBounds_toArray, List.set_cons_zero, List.set_cons_succ])
        refine wpAnyX_takeL (L := []) (i := 5) (v := ?_) rfl (by kernel_rfl) (by kernel_rfl) (by kernel_rfl) (by kernel_rfl) (fun _ _ _ h => h) (Or.inl ⟨by rfl, ?_⟩) (HS.out _ hbf) ?_
        rotate_left
        · (intro W hSW; (try dsimp only at hSW); obtain ⟨z0, z1, z2, z3⟩ := hSW; go_simp; try with_reducible rfl)
        (try simp only [Act.put, List.getElem_toArray, List.getElem_cons_zero, List.getElem_cons_succ, List.setIfInBounds_toArray, List.set_cons_zero, List.set_cons_succ])
        refine wpAnyX_pure (i := 6) (v := ?_) rfl (by kernel_rfl) (by kernel_rfl) (by kernel_rfl) (fun _ _ _ h => h) (Or.inl ⟨by rfl, ?_⟩) ?_
        rotate_left
        · (intro W _; go_simp; try with_reducible rfl)
        (try simp only [Act.put, List.getElem_toArray, List.getElem_cons_zero, List.getElem_cons_succ, List.setIfInBounds_toArray, List.set_cons_zero, List.set_cons_succ])
        refine wpAnyX_pure (i := 7) (v := ?_) rfl (by kernel_rfl) (by kernel_rfl) (by kernel_rfl) (fun _ _ _ h => h) (Or.inl ⟨by rfl, ?_⟩) ?_
        rotate_left
        · (intro W _; go_simp; try with_reducible rfl)
        (try simp only [Act.put, List.getElem_toArray, List.getElem_cons_zero, List.getElem_cons_succ, List.setIfInBounds_toArray, List.set_cons_zero, List.set_cons_succ])
        refine wpAnyX_pure (i := 8) (v := ?_) rfl (by kernel_rfl) (by kernel_rfl) (by kernel_rfl) (fun _ _ _ h => h) (Or.inl ⟨by rfl, ?_⟩) ?_
        rotate_left
        · (intro W _; go_simp; try with_reducible rfl)
        (try simp only [Act.put, List.getElem_toArray, List.getElem_cons_zero, List.getElem_cons_succ, List.setIfInBounds_toArray, List.set_cons_zero, List.set_cons_succ])
        refine wpAnyX_one (i := 9) rfl (by kernel_rfl) (fun K hK => ?_)
        go_simp
        go_at_call 48
        refine (rshown i _ A1 A2 V tn tc n1 c1 n2 c2 m k e ts (tIn ts p) (tOut ts p) vs wd (HT.out _ (bt HBR.out hbf)) (HJ3.out.below hbf) (HJ4.out.below hbf) (HV.out _ (bt HBR.out hbf)) HF.out HC.out HL12.out hmn q1 hkn).mono ?_
        rintro r w5 ⟨b5, hres⟩
        rw [← HQ.out, ← HLU.out] at hres
        have HV5 := Lib.hid (HVV.out.below (bt hbf b5))
        have hbf := bt hbf b5
        have HB5 := Lib.hid (bt HBR.out hbf)
        clear b5
        rcases hres with ⟨rfl, hno⟩ | ⟨z, A5, c5, rfl, i5, hz, hm⟩
        · refine hK.out _ _ (fun _ _ => HS.out _ hbf) ?_
          (try simp only [Act.put, List.getElem_toArray, List.getElem_cons_zero, List.getElem_cons_succ, List.setIfInBounds_toArray, List.set_cons_zero, List.set_cons_succ])
          refine wpAnyX_pure (i := 10) (v := ?_) rfl (by kernel_rfl) (by kernel_rfl) (by kernel_rfl) (fun _ _ _ h => h) (Or.inl ⟨by rfl, ?_⟩) ?_
          rotate_left
          · (intro W _; go_simp; try with_reducible rfl)
          (try simp only [Act.put, List.getElem_toArray, List.getElem_cons_zero, List.getElem_cons_succ, List.setIfInBounds_toArray, List.set_cons_zero, List.set_cons_succ])
          refine wpAnyX_pure (i := 11) (v := ?_) rfl (by kernel_rfl) (by kernel_rfl) (by kernel_rfl) (fun _ _ _ h => h) (Or.inl ⟨by rfl, ?_⟩) ?_
          rotate_left
          · (intro W _; go_simp; try with_reducible rfl)
          (try simp only [Act.put, List.getElem_toArray, List.getElem_cons_zero, List.getElem_cons_succ, List.setIfInBounds_toArray, List.set_cons_zero, List.set_cons_succ])
          refine wpAnyX_pure (i := 12) (v := ?_) rfl (by kernel_rfl) (by kernel_rfl) (by kernel_rfl) (fun _ _ _ h => h) (Or.inl ⟨by rfl, ?_⟩) ?_
          rotate_left
          · (intro W _; go_simp; try with_reducible rfl)
          (try simp only [Act.put, List.getElem_toArray, List.getElem_cons_zero, List.getElem_cons_succ, List.setIfInBounds_toArray, List.set_cons_zero, List.set_cons_succ])
          refine wpAnyX_pure (i := 13) (v := ?_) rfl (by kernel_rfl) (by kernel_rfl) (by kernel_rfl) (fun _ _ _ h => h) (Or.inl ⟨by rfl, ?_⟩) ?_
          rotate_left
          · (intro W _; go_simp; try with_reducible rfl)
          (try simp only [Act.put, List.getElem_toArray, List.getElem_cons_zero, List.getElem_cons_succ, List.setIfInBounds_toArray, List.set_cons_zero, List.set_cons_succ])
          refine wpAnyX_pure (i := 14) (v := ?_) rfl (by kernel_rfl) (by kernel_rfl) (by kernel_rfl) (fun _ _ _ h => h) (Or.inl ⟨by rfl, ?_⟩) ?_
          rotate_left
          · (intro W _; go_simp; try with_reducible rfl)
          (try simp only [Act.put, List.getElem_toArray, List.getElem_cons_zero, List.getElem_cons_succ, List.setIfInBounds_toArray, List.set_cons_zero, List.set_cons_succ])
          refine wpAnyX_done (by kernel_rfl) ?_ _
          clear hbf
          have HX2 := Lib.hid (ap_none HFS.out HFT.out hno)
          clear hno
          go_wp2_with fail
          go_roundw
          case rel => exact ⟨p + 1, xs, by go_num, by omega, HV5, HX2, HB5⟩
          case measure => simp [intOf]; omega
        · refine hK.out _ _ (fun _ _ => HS.out _ hbf) ?_
          (try simp only [Act.put, List.getElem_toArray, List.getElem_cons_zero, List.getElem_cons_succ, List.setIfInBounds_toArray, List.set_cons_zero, List.set_cons_succ])
          refine wpAnyX_pure (i := 10) (v := ?_) rfl (by kernel_rfl) (by kernel_rfl) (by kernel_rfl) (fun _ _ _ h => h) (Or.inl ⟨by rfl, ?_⟩) ?_
          rotate_left
          · (intro W _; go_simp; try with_reducible rfl)
          (try simp only [Act.put, List.getElem_toArray, List.getElem_cons_zero, List.getElem_cons_succ, List.setIfInBounds_toArray, List.set_cons_zero, List.set_cons_succ])
          refine wpAnyX_pure (i := 11) (v := ?_) rfl (by kernel_rfl) (by kernel_rfl) (by kernel_rfl) (fun _ _ _ h => h) (Or.inl ⟨by rfl, ?_⟩) ?_
          rotate_left
          · (intro W _; go_simp; try with_reducible rfl)
          (try simp only [Act.put, List.getElem_toArray, List.getElem_cons_zero, List.getElem_cons_succ, List.setIfInBounds_toArray, List.set_cons_zero, List.set_cons_succ])
          refine wpAnyX_pure (i := 12) (v := ?_) rfl (by kernel_rfl) (by kernel_rfl) (by kernel_rfl) (fun _ _ _ h => h) (Or.inl ⟨by rfl, ?_⟩) ?_
          rotate_left
          · (intro W _; go_simp; try with_reducible rfl)
          (try simp only [Act.put, List.getElem_toArray, List.getElem_cons_zero, List.getElem_cons_succ, List.setIfInBounds_toArray, List.set_cons_zero, List.set_cons_succ])
          refine wpAnyX_pure (i := 13) (v := ?_) rfl (by kernel_rfl) (by kernel_rfl) (by kernel_rfl) (fun _ _ _ h => h) (Or.inl ⟨by rfl, ?_⟩) ?_
          rotate_left
          · (intro W _; go_simp; try with_reducible rfl)
          (try simp only [Act.put, List.getElem_toArray, List.getElem_cons_zero, List.getElem_cons_succ, List.setIfInBounds_toArray, List.set_cons_zero, List.set_cons_succ])
          refine wpAnyX_pure (i := 14) (v := ?_) rfl (by kernel_rfl) (by kernel_rfl) (by kernel_rfl) (fun _ _ _ h => h) (Or.inl ⟨by rfl, ?_⟩) ?_
          rotate_left
          · (intro W _; go_simp; try with_reducible rfl)
          (try simp only [Act.put, List.getElem_toArray, List.getElem_cons_zero, List.getElem_cons_succ, List.setIfInBounds_toArray, List.set_cons_zero, List.set_cons_succ])
          refine wpAnyX_done (by kernel_rfl) ?_ _
          clear hbf
          have hzp : ¬ z = [] := fun e => by have := hz.2.1; rw [e] at this; simp at this
          have HZ := Lib.hid hz
          have HMM := Lib.hid hm
          have HFV := Lib.hid (show FirstF w5 (.slice A5 z.length c5) (.bool true) z from .inr ⟨A5, z.length, c5, rfl, rfl, i5, hzp⟩)
          have HI5 := Lib.hid i5
          clear hz hm i5 hzp
          rcases HV5.out with ⟨rfl, rfl, rfl⟩ | ⟨A8, n8, c8, rfl, rfl, hi8, hne8⟩
          · have HX2 := Lib.hid (ap_new HFS.out HFT.out HZ.out HMM.out (.inl rfl))
            go_wp2_with fail
            go_roundw
            case rel => exact ⟨p + 1, z, by go_num, by omega, HFV, HX2, HB5⟩
            case measure => simp [intOf]; omega
          · have HRC := Lib.hid (rcompare A5 A8 z.length c5 n8 c8 z xs w5 HI5.out hi8)
            obtain ⟨s, hs⟩ : ∃ s, s = shlex z xs := ⟨_, rfl⟩
            rw [← hs] at HRC
            have HS' := Lib.hid hs
            have HI8 := Lib.hid hi8
            have HN8 := Lib.hid hne8
            clear hs hi8 hne8
            by_cases hc : s < 0
            · have HX2 := Lib.hid (ap_new HFS.out HFT.out HZ.out HMM.out (.inr (by rw [← HS'.out]; exact hc)))
              go_wp2_with fail
              refine HRC.out.mono ?_
              rintro r w6 ⟨rfl, q4, rfl⟩
              go_wp2_with fail
              go_roundw
              case rel => exact ⟨p + 1, z, by go_num, by omega, Lib.hid (HFV.out.below (below_drewN (Below.refl _ _) q4)), HX2, Lib.hid (below_drewN HB5.out q4)⟩
              case measure => simp [intOf]; omega
            · have HX2 := Lib.hid (ap_old HFS.out HFT.out HZ.out HMM.out HN8.out (by rw [← HS'.out]; exact hc))
              have HF8 := Lib.hid (show FirstF w5 (.slice A8 n8 c8) (.bool true) xs from .inr ⟨A8, n8, c8, rfl, rfl, HI8.out, HN8.out⟩)
              go_wp2_with fail
              refine HRC.out.mono ?_
              rintro r w6 ⟨rfl, q4, rfl⟩
              go_wp2_with fail
              go_roundw
              case rel => exact ⟨p + 1, xs, by go_num, by omega, Lib.hid (HF8.out.below (below_drewN (Below.refl _ _) q4)), HX2, Lib.hid (below_drewN HB5.out q4)⟩
              case measure => simp [intOf]; omega
    · obtain rfl : p = tn := by omega
      go_wp2
      go_ret2
      exact ⟨_, _, xs, rfl, HVV.out, HFS.out, bt HB0.out HBR.out⟩
end Go.Proofs.Ytaiifmckmjlgjaa
end

section
/- Lower, the reference. -/
namespace Go.Proofs.Ytaiifmckmjlgjaa
open Go.RowKit

/-- Are the first k of the words apart from Q? -/
noncomputable def allK (ts : TSr) (kl : List (List Int)) (Q : TSr) : Nat → Bool
  | 0 => true
  | q + 1 => allK ts kl Q q && ctr (aftK ts (kl.getD q []) ts.length) Q
theorem allK_iff (ts : TSr) (kl : List (List Int)) (Q : TSr) (q : Nat) : allK ts kl Q q = true ↔ ∀ j, j < q → ctr (aftK ts (kl.getD j []) ts.length) Q = true := by
  induction q with
  | zero => exact ⟨fun _ j h => absurd h (Nat.not_lt_zero j), fun _ => rfl⟩
  | succ q ih =>
    rw [allK, Bool.and_eq_true, ih]
    constructor
    · rintro ⟨h1, h2⟩ j hj
      by_cases e : j = q
      · rw [e]; exact h2
      · exact h1 j (by omega)
    · intro h
      exact ⟨fun j hj => h j (by omega), h q (Nat.lt_succ_self q)⟩
theorem allK_all (ts : TSr) (kl : List (List Int)) (Q : TSr) : allK ts kl Q kl.length = true ↔ ∀ v, v ∈ kl → ctr (aftK ts v ts.length) Q = true := by
  rw [allK_iff]
  constructor
  · intro h v hv
    obtain ⟨j, hj, e⟩ := List.mem_iff_getElem.1 hv
    have := h j hj
    rw [List.getD_eq_getElem?_getD, List.getElem?_eq_getElem hj] at this
    rw [← e]
    exact this
  · intro h j hj
    exact h _ (by rw [List.getD_eq_getElem?_getD, List.getElem?_eq_getElem hj]; exact List.getElem_mem _)

set_option linter.unusedSimpArgs false in
set_option linter.unusedVariables false in
set_option maxHeartbeats 8000000 in
set_option maxRecDepth 100000 in
theorem rhlower (i : Int) (T C : Option Addr) (tn tc n cc : Nat) (ts : TSr) (ws : List (List Int)) (w : World) (hT : Trs w T tn ts) (hW : Lists w C n ws) (hF : Full ts) (hC : Cons ts) (hI : Props i ts) (hnn : n ≤ 100000000) (hwl : ∀ j, j < n → (ws.getD j []).length ≤ 200) :
    Calls Try.prog 23 #[.agg #[.int .i64 i, .slice T tn tc], .slice C n cc] w fun e w' => e = .returned (.int .i64 (kepK ts ws n).length) ∧ Below w.heap.size w w' := by
  obtain ⟨w0, hw0⟩ : ∃ w0, w0 = w.alloc (.cells #[.int .i64 i, .slice T tn tc] 34) := ⟨_, rfl⟩
  have hb0 : Below w.heap.size w w0 := by rw [hw0]; exact alloc_below _ _
  have m0 : Bx w0 w.heap.size #[.int .i64 i, .slice T tn tc] 34 := by rw [hw0]; exact bx_new _ _ _
  have HM := Lib.hid (fun (W : World) (h : Below w0.heap.size w0 W) => m0.on h)
  have HT := Lib.hid (fun (W : World) (h : Below w0.heap.size w0 W) => (hT.below hb0).below h)
  have HW := Lib.hid (fun (W : World) (h : Below w0.heap.size w0 W) => (hW.below hb0).below h)
  have HB0 := Lib.hid hb0
  have HW0 := Lib.hid hw0
  have HLT := Lib.hid hT.1
  have HLW := Lib.hid hW.1
  have HF := Lib.hid hF
  have HC := Lib.hid hC
  have HII := Lib.hid hI
  have HWL := Lib.hid hwl
  clear hw0 hb0 m0 hT hW hF hC hI hwl
  go_enter Try.func23, Try.ntmps23
  go_wp2
  rw [← HW0.out]
  go_loopw [6, 5] (fun v6 v5 wr => ∃ (p : Nat) (A' : Option Addr) (c' : Nat), v6 = .int .i64 p ∧ p ≤ n ∧ v5 = .slice A' (kepK ts ws p).length c' ∧ Hid (LsH w0 wr w0.heap.size (.slice A' (kepK ts ws p).length c') (kepK ts ws p)) ∧ Hid (Below w0.heap.size w0 wr)) (fun v6 _ _ => n - (intOf v6).toNat)
  case atStart => exact ⟨0, none, 0, rfl, Nat.zero_le _, rfl, Lib.hid (LsH.nil _ _ _), Lib.hid (Below.refl _ _)⟩
  case round =>
    obtain ⟨p, A', c', rfl, hp, rfl, HL, HBR⟩ := hrel
    obtain ⟨L, hL⟩ : ∃ L, L = (kepK ts ws p).length := ⟨_, rfl⟩
    rw [← hL] at HL ⊢
    have hLk : L ≤ p := by rw [hL]; exact kepK_len _ _ _
    have HLL := Lib.hid hL
    clear hL
    by_cases hlt : p < n
    · obtain ⟨wo, rfl⟩ : ∃ wo, wo = wr := ⟨wr, rfl⟩
      obtain ⟨b, off, Aj, mj, dj, rfl, hgb, j1, j2⟩ := (HW.out _ HBR.out).at_ hlt
      obtain ⟨_, _, Bj, mj', dj', eC, _, i1, i2⟩ := (HW.out _ (Below.refl _ _)).at_ hlt
      cases eC
      have HI := Lib.hid (show Ints w0 Aj mj (ws.getD p []) by
        have e1 := (HBR.out.cell (p := ⟨b, off + p, none⟩) (by assumption)).trans i1
        rw [j1] at e1; cases e1; exact i2)
      clear i1 i2 j2
      obtain ⟨u, hu⟩ : ∃ u, u = ws.getD p [] := ⟨_, rfl⟩
      rw [← hu] at HI
      have HU := Lib.hid hu
      have hmj : mj ≤ 100000 := by have := HWL.out p hlt; rw [← hu, HI.out.1] at this; omega
      obtain ⟨Q, hQ⟩ : ∃ Q, Q = aftK ts u ts.length := ⟨_, rfl⟩
      have HQ := Lib.hid hQ
      obtain ⟨kl, hkl⟩ : ∃ kl, kl = kepK ts ws p := ⟨_, rfl⟩
      have HKL := Lib.hid hkl
      have HLk := Lib.hid (show L = kl.length by rw [hkl]; exact HLL.out)
      rw [← hkl] at HL
      have HLS := Lib.hid (show ∀ W, Below wo.heap.size wo W → Lists W A' L kl from fun W h => (HL.out.lists HBR.out (by rw [← HLk.out]; omega)).below h)
      have HS0 := Lib.hid (show ∀ W, Below wo.heap.size wo W → W.cell? ⟨b, off + p, none⟩ = some (.slice Aj mj dj) from fun W h => (h.cell (p := ⟨b, off + p, none⟩) hgb).trans j1)
      clear hu hQ hkl j1 hgb
      go_wp2
      go_loopw [8, 7] (fun v8 v7 wr => ∃ q : Nat, v8 = .int .i64 q ∧ q ≤ L ∧ v7 = .bool (allK ts kl Q q) ∧ Hid (Below wo.heap.size wo wr)) (fun v8 _ _ => L - (intOf v8).toNat)
      case atStart => exact ⟨0, rfl, Nat.zero_le _, rfl, Lib.hid (Below.refl _ _)⟩
      case round =>
        obtain ⟨q, rfl, hq, rfl, HBI⟩ := hrel
        by_cases hlq : q < L
        · obtain ⟨g, og, Kj, nj, cj, rfl, hgg, i1, i2⟩ := (HLS.out _ (Below.refl _ _)).at_ hlq
          have HKI := Lib.hid i2
          have hpI : (p : Int) < (n : Int) := by omega
          have hqI : (q : Int) < (L : Int) := by omega
          have hp0 : (0 : Int) ≤ (p : Int) := by omega
          have hq0 : (0 : Int) ≤ (q : Int) := by omega
          have HCT := Lib.hid (show ∀ xs, Fst1 (ShK (aftK ts (kl.getD q []) tn) (aftK ts u tn) (aftK ts (kl.getD q []) tn).length) xs → (¬ xs = [] ↔ ctr (aftK ts (kl.getD q []) ts.length) Q = true) from fun xs h => by
            rw [h.some_, HQ.out, HLT.out]
            simp only [ctr, decide_eq_true_eq])
          obtain ⟨y, hy⟩ : ∃ y, y = allK ts kl Q q := ⟨_, rfl⟩
          have HN := Lib.hid (show allK ts kl Q (q + 1) = (y && ctr (aftK ts (kl.getD q []) ts.length) Q) by rw [hy]; rfl)
          rw [← hy]
          have HS := Lib.hid (show ∀ W, Below wo.heap.size wo W → Bx W w.heap.size #[.int .i64 i, .slice T tn tc] 34 ∧ W.cell? ⟨g, og + q, none⟩ = some (.slice Kj nj cj) ∧ W.cell? ⟨b, off + p, none⟩ = some (.slice Aj mj dj) from fun W h => ⟨HM.out _ (bt HBR.out h), (h.cell (p := ⟨g, og + q, none⟩) hgg).trans i1, HS0.out W h⟩)
          clear hy i1 i2 hgg
          go_upto_region 9 with fail
          have hbf : Below wo.heap.size wo wr.drew := below_drewN HBI.out 1
          refine wp_region_heldX (X := fun k => ([] : List Nat).contains k) (S := fun W => Bx W w.heap.size #[.int .i64 i, .slice T tn tc] 34 ∧ W.cell? ⟨g, og + q, none⟩ = some (.slice Kj nj cj) ∧ W.cell? ⟨b, off + p, none⟩ = some (.slice Aj mj dj)) (by kernel_rfl) ?_
          generalize wr.drew = wd at hbf ⊢
          refine wpAnyX_takeL (L := []) (i := 0) (v := .agg (#[.int .i64 i, .slice T tn tc])) rfl (by kernel_rfl) (by kernel_rfl) (by kernel_rfl) (by kernel_rfl) (fun _ _ _ h => h) (Or.inl ⟨by rfl, fun W hSW => run_load_bx 34 _ rfl (w.heap.size) rfl 34 (#[.int .i64 i, .slice T tn tc]) (0, 0) _ (hSW.1) Try.underlying34 rfl (by kernel_rfl)⟩) (HS.out _ hbf) ?_
          (try simp only [Act.put, List.getElem_toArray, List.getElem_cons_zero, List.getElem_cons_succ, List.setIfInBounds_toArray, List.set_cons_zero, List.set_cons_succ])
          refine wpAnyX_pure (i := 1) (v := ?_) rfl (by kernel_rfl) (by kernel_rfl) (by kernel_rfl) (fun _ _ _ h => h) (Or.inl ⟨by rfl, ?_⟩) ?_
          rotate_left
          · (intro W _; go_simp; try with_reducible rfl)
          (try simp only [Act.put, List.getElem_toArray, List.getElem_cons_zero, List.getElem_cons_succ, List.setIfInBounds_toArray, List.set_cons_zero, List.set_cons_succ])
          refine wpAnyX_pure (i := 2) (v := ?_) rfl (by kernel_rfl) (by kernel_rfl) (by kernel_rfl) (fun _ _ _ h => h) (Or.inl ⟨by rfl, ?_⟩) ?_
          rotate_left
          · (intro W _; go_simp; try with_reducible rfl)
          (try simp only [Act.put, List.getElem_toArray, List.getElem_cons_zero, List.getElem_cons_succ, List.setIfInBounds_toArray, List.set_cons_zero, List.set_cons_succ])
          refine wpAnyX_pure (i := 3) (v := ?_) rfl (by kernel_rfl) (by kernel_rfl) (by kernel_rfl) (fun _ _ _ h => h) (Or.inl ⟨by rfl, ?_⟩) ?_
          rotate_left
          · (intro W _; go_simp; try with_reducible rfl)
          (try simp only [Act.put, List.getElem_toArray, List.getElem_cons_zero, List.getElem_cons_succ, List.setIfInBounds_toArray, List.set_cons_zero, List.set_cons_succ])
          refine wpAnyX_takeL (L := []) (i := 4) (v := ?_) rfl (by kernel_rfl) (by kernel_rfl) (by kernel_rfl) (by kernel_rfl) (fun _ _ _ h => h) (Or.inl ⟨by rfl, ?_⟩) (HS.out _ hbf) ?_
          rotate_left
          · (intro W hSW; (try dsimp only at hSW); obtain ⟨z0, z1, z2⟩ := hSW; go_simp; try with_reducible rfl)
          (try simp only [Act.put, List.getElem_toArray, List.getElem_cons_zero, List.getElem_cons_succ, List.setIfInBounds_toArray, List.set_cons_zero, List.set_cons_succ])
          refine wpAnyX_pure (i := 5) (v := ?_) rfl (by kernel_rfl) (by kernel_rfl) (by kernel_rfl) (fun _ _ _ h => h) (Or.inl ⟨by rfl, ?_⟩) ?_
          rotate_left
          · (intro W _; go_simp; try with_reducible rfl)
          (try simp only [Act.put, List.getElem_toArray, List.getElem_cons_zero, List.getElem_cons_succ, List.setIfInBounds_toArray, List.set_cons_zero, List.set_cons_succ])
          refine wpAnyX_pure (i := 6) (v := ?_) rfl (by kernel_rfl) (by kernel_rfl) (by kernel_rfl) (fun _ _ _ h => h) (Or.inl ⟨by rfl, ?_⟩) ?_
          rotate_left
          · (intro W _; go_simp; try with_reducible rfl)
          (try simp only [Act.put, List.getElem_toArray, List.getElem_cons_zero, List.getElem_cons_succ, List.setIfInBounds_toArray, List.set_cons_zero, List.set_cons_succ])
          refine wpAnyX_pure (i := 7) (v := ?_) rfl (by kernel_rfl) (by kernel_rfl) (by kernel_rfl) (fun _ _ _ h => h) (Or.inl ⟨by rfl, ?_⟩) ?_
          rotate_left
          · (intro W _; go_simp; try with_reducible rfl)
          (try simp only [Act.put, List.getElem_toArray, List.getElem_cons_zero, List.getElem_cons_succ, List.setIfInBounds_toArray, List.set_cons_zero, List.set_cons_succ])
          refine wpAnyX_takeL (L := []) (i := 8) (v := ?_) rfl (by kernel_rfl) (by kernel_rfl) (by kernel_rfl) (by kernel_rfl) (fun _ _ _ h => h) (Or.inl ⟨by rfl, ?_⟩) (HS.out _ hbf) ?_
          rotate_left
          · (intro W hSW; (try dsimp only at hSW); obtain ⟨z0, z1, z2⟩ := hSW; go_simp; try with_reducible rfl)
          (try simp only [Act.put, List.getElem_toArray, List.getElem_cons_zero, List.getElem_cons_succ, List.setIfInBounds_toArray, List.set_cons_zero, List.set_cons_succ])
          refine wpAnyX_one (i := 9) rfl (by kernel_rfl) (fun K hK => ?_)
          go_simp
          go_at_call 21
          refine (rhapart i T Kj Aj tn tc nj cj mj dj ts (kl.getD q []) u wd (HT.out _ (bt HBR.out hbf)) (HKI.out.below hbf) (HI.out.below (bt HBR.out hbf)) HF.out HC.out HII.out hmj).mono ?_
          rintro r w5 ⟨vv, vb, xs, rfl, hfx, hfs, b5⟩
          have hct := HCT.out xs hfs
          have hbf := bt hbf b5
          have HB5 := Lib.hid hbf
          clear b5 hfs
          rcases hfx with ⟨rfl, rfl, rfl⟩ | ⟨A8, n8, c8, rfl, rfl, _, hne8⟩
          · have HN1 := Lib.hid (show false = allK ts kl Q (q + 1) by
              have hc : ctr (aftK ts (kl.getD q []) ts.length) Q = false := by
                cases hz : ctr (aftK ts (kl.getD q []) ts.length) Q with
                | false => rfl
                | true => exact absurd rfl (hct.2 hz)
              rw [HN.out, hc, Bool.and_false])
            clear hct
            refine hK.out _ _ (fun _ _ => HS.out _ hbf) ?_
            (try simp only [Act.put, List.getElem_toArray, List.getElem_cons_zero, List.getElem_cons_succ, List.setIfInBounds_toArray, List.set_cons_zero, List.set_cons_succ])
            refine wpAnyX_pure (i := 10) (v := ?_) rfl (by kernel_rfl) (by kernel_rfl) (by kernel_rfl) (fun _ _ _ h => h) (Or.inl ⟨by rfl, ?_⟩) ?_
            rotate_left
            · (intro W _; go_simp; try with_reducible rfl)
            (try simp only [Act.put, List.getElem_toArray, List.getElem_cons_zero, List.getElem_cons_succ, List.setIfInBounds_toArray, List.set_cons_zero, List.set_cons_succ])
            refine wpAnyX_pure (i := 11) (v := ?_) rfl (by kernel_rfl) (by kernel_rfl) (by kernel_rfl) (fun _ _ _ h => h) (Or.inl ⟨by rfl, ?_⟩) ?_
            rotate_left
            · (intro W _; go_simp; try with_reducible rfl)
            (try simp only [Act.put, List.getElem_toArray, List.getElem_cons_zero, List.getElem_cons_succ, List.setIfInBounds_toArray, List.set_cons_zero, List.set_cons_succ])
            refine wpAnyX_pure (i := 12) (v := ?_) rfl (by kernel_rfl) (by kernel_rfl) (by kernel_rfl) (fun _ _ _ h => h) (Or.inl ⟨by rfl, ?_⟩) ?_
            rotate_left
            · (intro W _; go_simp; try with_reducible rfl)
            (try simp only [Act.put, List.getElem_toArray, List.getElem_cons_zero, List.getElem_cons_succ, List.setIfInBounds_toArray, List.set_cons_zero, List.set_cons_succ])
            refine wpAnyX_pure (i := 13) (v := ?_) rfl (by kernel_rfl) (by kernel_rfl) (by kernel_rfl) (fun _ _ _ h => h) (Or.inl ⟨by rfl, ?_⟩) ?_
            rotate_left
            · (intro W _; go_simp; try with_reducible rfl)
            (try simp only [Act.put, List.getElem_toArray, List.getElem_cons_zero, List.getElem_cons_succ, List.setIfInBounds_toArray, List.set_cons_zero, List.set_cons_succ])
            refine wpAnyX_pure (i := 14) (v := ?_) rfl (by kernel_rfl) (by kernel_rfl) (by kernel_rfl) (fun _ _ _ h => h) (Or.inl ⟨by rfl, ?_⟩) ?_
            rotate_left
            · (intro W _; go_simp; try with_reducible rfl)
            (try simp only [Act.put, List.getElem_toArray, List.getElem_cons_zero, List.getElem_cons_succ, List.setIfInBounds_toArray, List.set_cons_zero, List.set_cons_succ])
            refine wpAnyX_done (by kernel_rfl) ?_ _
            clear hbf
            go_wp2_with fail
            go_roundw
            case rel => exact ⟨q + 1, by go_num, by omega, by rw [HN1.out], HB5⟩
            case measure => simp [intOf]; omega
          · have HN1 := Lib.hid (show y = allK ts kl Q (q + 1) by rw [HN.out, hct.1 hne8, Bool.and_true])
            clear hct hne8
            refine hK.out _ _ (fun _ _ => HS.out _ hbf) ?_
            (try simp only [Act.put, List.getElem_toArray, List.getElem_cons_zero, List.getElem_cons_succ, List.setIfInBounds_toArray, List.set_cons_zero, List.set_cons_succ])
            refine wpAnyX_pure (i := 10) (v := ?_) rfl (by kernel_rfl) (by kernel_rfl) (by kernel_rfl) (fun _ _ _ h => h) (Or.inl ⟨by rfl, ?_⟩) ?_
            rotate_left
            · (intro W _; go_simp; try with_reducible rfl)
            (try simp only [Act.put, List.getElem_toArray, List.getElem_cons_zero, List.getElem_cons_succ, List.setIfInBounds_toArray, List.set_cons_zero, List.set_cons_succ])
            refine wpAnyX_pure (i := 11) (v := ?_) rfl (by kernel_rfl) (by kernel_rfl) (by kernel_rfl) (fun _ _ _ h => h) (Or.inl ⟨by rfl, ?_⟩) ?_
            rotate_left
            · (intro W _; go_simp; try with_reducible rfl)
            (try simp only [Act.put, List.getElem_toArray, List.getElem_cons_zero, List.getElem_cons_succ, List.setIfInBounds_toArray, List.set_cons_zero, List.set_cons_succ])
            refine wpAnyX_pure (i := 12) (v := ?_) rfl (by kernel_rfl) (by kernel_rfl) (by kernel_rfl) (fun _ _ _ h => h) (Or.inl ⟨by rfl, ?_⟩) ?_
            rotate_left
            · (intro W _; go_simp; try with_reducible rfl)
            (try simp only [Act.put, List.getElem_toArray, List.getElem_cons_zero, List.getElem_cons_succ, List.setIfInBounds_toArray, List.set_cons_zero, List.set_cons_succ])
            refine wpAnyX_pure (i := 13) (v := ?_) rfl (by kernel_rfl) (by kernel_rfl) (by kernel_rfl) (fun _ _ _ h => h) (Or.inl ⟨by rfl, ?_⟩) ?_
            rotate_left
            · (intro W _; go_simp; try with_reducible rfl)
            (try simp only [Act.put, List.getElem_toArray, List.getElem_cons_zero, List.getElem_cons_succ, List.setIfInBounds_toArray, List.set_cons_zero, List.set_cons_succ])
            refine wpAnyX_pure (i := 14) (v := ?_) rfl (by kernel_rfl) (by kernel_rfl) (by kernel_rfl) (fun _ _ _ h => h) (Or.inl ⟨by rfl, ?_⟩) ?_
            rotate_left
            · (intro W _; go_simp; try with_reducible rfl)
            (try simp only [Act.put, List.getElem_toArray, List.getElem_cons_zero, List.getElem_cons_succ, List.setIfInBounds_toArray, List.set_cons_zero, List.set_cons_succ])
            refine wpAnyX_done (by kernel_rfl) ?_ _
            clear hbf
            go_wp2_with fail
            go_roundw
            case rel => exact ⟨q + 1, by go_num, by omega, by rw [HN1.out], HB5⟩
            case measure => simp [intOf]; omega
        · obtain rfl : q = L := by omega
          have HLI := Lib.hid (HL.out.keptT (KeptT.of_below HBI.out))
          have HBF := Lib.hid (bt HBR.out HBI.out)
          have HCI := Lib.hid (HS0.out _ HBI.out)
          have hpI : (p : Int) < (n : Int) := by omega
          have hp0 : (0 : Int) ≤ (p : Int) := by omega
          obtain ⟨y, hy⟩ : ∃ y, y = allK ts kl Q q := ⟨_, rfl⟩
          have HALL := Lib.hid (show y = true ↔ ∀ v, v ∈ kl → ctr (aftK ts v ts.length) Q = true by rw [hy, HLk.out]; exact allK_all _ _ _)
          rw [← hy]
          have HLD := HLk.out
          have HLD2 := Lib.hid HLD
          cases y
          case false =>
            have HNX := Lib.hid (show kepK ts ws (p + 1) = kl by
              rw [kepK_no, ← HKL.out]
              rw [← HKL.out, ← HU.out, ← HQ.out]
              exact fun h => nomatch HALL.out.2 h)
            clear hy HLD
            go_wp2_with fail
            go_roundw
            case rel => exact ⟨p + 1, A', c', by go_num, by omega, by rw [HNX.out, ← HLD2.out], by rw [HNX.out, ← HLD2.out]; exact HLI, HBF⟩
            case measure => simp [intOf]; omega
          case true =>
            have HNX := Lib.hid (show kepK ts ws (p + 1) = kl ++ [u] by
              rw [kepK_yes, ← HKL.out, ← HU.out]
              rw [← HKL.out, ← HU.out, ← HQ.out]
              exact HALL.out.1 rfl)
            obtain ⟨A9, c9, w9, hrn, o9, b9⟩ := run_append_lsh (c := dj) HLI.out HI.out HBF.out.size (by rw [← HLD]; omega)
            rw [← HLD] at hrn o9
            have HO9 := Lib.hid o9
            have HB9 := Lib.hid (HBF.out.trans b9)
            have z1 := HCI.out
            have HEL := Lib.hid (show (kepK ts ws (p + 1)).length = q + 1 by rw [HNX.out, List.length_append, ← HLD]; rfl)
            clear hy HLD o9 b9
            go_wp2_with (at_builtin; refine Lib.wpList_append_run _ rfl _ _ _ _ rfl _ _ rfl rfl _ _ hrn ?_)
            go_roundw
            case rel => exact ⟨p + 1, A9, c9, by go_num, by omega, by rw [HEL.out], by rw [HEL.out, HNX.out]; exact HO9, HB9⟩
            case measure => simp [intOf]; omega
    · obtain rfl : p = n := by omega
      go_wp2
      go_ret
      exact ⟨by rw [← HLL.out]; rfl, bt HB0.out HBR.out⟩
end Go.Proofs.Ytaiifmckmjlgjaa
end

section
/- The law HypothesisApart: the walk. -/
namespace Go.Proofs.Ytaiifmckmjlgjaa
open Go.RowKit

set_option linter.unusedSimpArgs false in
set_option linter.unusedVariables false in
set_option maxHeartbeats 8000000 in
set_option maxRecDepth 100000 in
theorem apart22_walk (i : Int) (T C : Option Addr) (tn tc n cc : Nat) (ts : TSr) (ws : List (List Int)) (w : World) (hT : Trs w T tn ts) (htc : tn ≤ tc) (hW : Lists w C n ws) :
    Calls Try.prog 5 #[.agg #[.int .i64 i, .slice T tn tc], .slice C n cc] w fun r w' => r = .returned (.bool true) ∧ Below w.heap.size w w' := by
  obtain ⟨w0, hw0⟩ : ∃ w0, w0 = w.alloc (.cells #[.int .i64 i, .slice T tn tc] 34) := ⟨_, rfl⟩
  have hb0 : Below w.heap.size w w0 := by rw [hw0]; exact alloc_below _ _
  have m0 : Bx w0 w.heap.size #[.int .i64 i, .slice T tn tc] 34 := by rw [hw0]; exact bx_new _ _ _
  have HM := Lib.hid (fun (W : World) (h : Below w0.heap.size w0 W) => m0.on h)
  have HT := Lib.hid (fun (W : World) (h : Below w0.heap.size w0 W) => (hT.below hb0).below h)
  have HW := Lib.hid (fun (W : World) (h : Below w0.heap.size w0 W) => (hW.below hb0).below h)
  have HB0 := Lib.hid hb0
  have HW0 := Lib.hid hw0
  have HLT := Lib.hid hT.1
  have HLW := Lib.hid hW.1
  have hnb := hW.2.1
  have hbc := Below.refl w0.heap.size w0
  have l0 := (HM.out _ hbc).cell 0
  have l1 := (HM.out _ hbc).cell 1
  simp at l0 l1
  rw [HW0.out] at l0 l1
  clear hw0 hb0 m0 hT hW
  go_enter Try.func5, Try.ntmps5
  go_wp2_with fail
  rw [← HW0.out]
  refine (rgreat16 i T tn tc ts w0 (HT.out _ hbc)).mono ?_
  rintro r w1 ⟨b1, rfl, hg1, a1⟩
  have hbc := bt hbc a1
  clear a1 l0 l1
  cases b1
  case true =>
    go_wp2_with fail
    refine (awake22 _).mono ?_
    rintro r w9 ⟨rfl, a9⟩
    go_wp2
    go_ret
    exact ⟨rfl, bt HB0.out (bt hbc a9)⟩
  have hg1 := hg1 rfl
  have htn : tn ≤ 10000 := by omega
  clear hg1
  by_cases h12 : 12 < n
  · have h12' : (12 : Int) < (n : Int) := by omega
    go_wp2_with fail
    refine (awake22 _).mono ?_
    rintro r w9 ⟨rfl, a9⟩
    go_wp2
    go_ret
    exact ⟨rfl, bt HB0.out (bt hbc a9)⟩
  have h12' : ¬ (12 : Int) < (n : Int) := by omega
  go_wp2_with fail
  refine (plong C n cc ws w1 (HW.out _ hbc)).mono ?_
  rintro r w2 ⟨⟨b2, rfl, hP⟩, rfl⟩
  cases b2
  case true =>
    clear hP
    go_wp2_with fail
    refine (awake22 _).mono ?_
    rintro r w9 ⟨rfl, a9⟩
    go_wp2
    go_ret
    exact ⟨rfl, bt HB0.out (bt hbc a9)⟩
  have HP := Lib.hid (hP rfl)
  clear hP
  have l0 := (HM.out _ hbc).cell 0
  have l1 := (HM.out _ hbc).cell 1
  simp at l0 l1
  go_wp2_with fail
  refine (rvalid16 i T tn tc ts w1 (HT.out _ hbc)).mono ?_
  rintro r w4 ⟨v, rfl, hov, a4⟩
  have hbc := bt hbc a4
  clear a4 l0 l1
  by_cases hv0 : v = 0
  case neg =>
    have hne : (v != 0) = true := by simpa using hv0
    go_wp2_with fail
    refine (awake22 _).mono ?_
    rintro r w9 ⟨rfl, a9⟩
    go_wp2
    go_ret
    exact ⟨rfl, bt HB0.out (bt hbc a9)⟩
  subst hv0
  have HOV := Lib.hid (hov.out rfl)
  have HWL := Lib.hid (show ∀ j, j < n → (ws.getD j []).length ≤ 200 from fun j hj => HP.out.2 _ (by rw [List.getD_eq_getElem?_getD, List.getElem?_eq_getElem (by rw [HLW.out]; exact hj)]; exact List.getElem_mem _))
  have HBC := Lib.hid hbc
  clear hov hbc
  go_wp2_with fail
  go_loopw [5] (fun v5 wr => ∃ p : Nat, v5 = .int .i64 p ∧ 1 ≤ p ∧ p ≤ n + 1 ∧ Hid (Below w0.heap.size w0 wr)) (fun v5 _ => n - (intOf v5).toNat)
  case atStart => exact ⟨1, rfl, Nat.le_refl _, by omega, HBC⟩
  case round =>
    obtain ⟨p, rfl, hp1, hpn, HBR⟩ := hrel
    by_cases hlt : p < n
    · obtain ⟨s, hs⟩ : ∃ s, s = p - 1 := ⟨_, rfl⟩
      have hsn : s < n := by omega
      obtain ⟨b, off, Us, un, uc, rfl, hgb, i1, i2⟩ := (HW.out _ (Below.refl _ _)).at_ hsn
      obtain ⟨_, _, Vs, vn, vc, eC, _, j1, j2⟩ := (HW.out _ (Below.refl _ _)).at_ hlt
      cases eC
      obtain ⟨us, hus⟩ : ∃ us, us = ws.getD s [] := ⟨_, rfl⟩
      obtain ⟨vs, hvs⟩ : ∃ vs, vs = ws.getD p [] := ⟨_, rfl⟩
      rw [← hus] at i2
      rw [← hvs] at j2
      have hvn : vn ≤ 100000 := by have := HWL.out p hlt; rw [← hvs, j2.1] at this; omega
      have htn8 : tn ≤ 100000000 := by omega
      have HUI := Lib.hid (fun (W : World) (h : Below w0.heap.size w0 W) => i2.below h)
      have HVI := Lib.hid (fun (W : World) (h : Below w0.heap.size w0 W) => j2.below h)
      have HS := Lib.hid (show ∀ W, Below w0.heap.size w0 W → Bx W w.heap.size #[.int .i64 i, .slice T tn tc] 34 ∧ W.cell? ⟨b, off + s, none⟩ = some (.slice Us un uc) ∧ W.cell? ⟨b, off + p, none⟩ = some (.slice Vs vn vc) from fun W h => ⟨HM.out _ h, (h.cell (p := ⟨b, off + s, none⟩) hgb).trans i1, (h.cell (p := ⟨b, off + p, none⟩) hgb).trans j1⟩)
      have w1' : IntKind.i64.wrap ((p : Int) - 1) = (s : Int) := by rw [IntKind.wrap_i64]; omega
      have hsI : (s : Int) < (n : Int) := by omega
      have hpI : (p : Int) < (n : Int) := by omega
      have hs0 : (0 : Int) ≤ (s : Int) := by omega
      have hp0 : (0 : Int) ≤ (p : Int) := by omega
      clear i1 i2 j1 j2 hus hvs hgb hs
      go_upto_region 6 with fail
      have hbf : Below w0.heap.size w0 wr.drew := below_drewN HBR.out 1
      refine wp_region_heldX (X := fun k => ([] : List Nat).contains k) (S := fun W => Bx W w.heap.size #[.int .i64 i, .slice T tn tc] 34 ∧ W.cell? ⟨b, off + s, none⟩ = some (.slice Us un uc) ∧ W.cell? ⟨b, off + p, none⟩ = some (.slice Vs vn vc)) (by kernel_rfl) ?_
      generalize wr.drew = wrd at hbf ⊢
      refine wpAnyX_takeL (L := []) (i := 0) (v := .agg (#[.int .i64 i, .slice T tn tc])) rfl (by kernel_rfl) (by kernel_rfl) (by kernel_rfl) (by kernel_rfl) (fun _ _ _ h => h) (Or.inl ⟨by rfl, fun W hSW => run_load_bx 34 _ rfl (w.heap.size) rfl 34 (#[.int .i64 i, .slice T tn tc]) (0, 0) _ (hSW.1) Try.underlying34 rfl (by kernel_rfl)⟩) (HS.out _ hbf) ?_
      (try simp only [Act.put, List.getElem_toArray, List.getElem_cons_zero, List.getElem_cons_succ, List.setIfInBounds_toArray, List.set_cons_zero, List.set_cons_succ])
      refine wpAnyX_pure (i := 1) (v := ?_) rfl (by kernel_rfl) (by kernel_rfl) (by kernel_rfl) (fun _ _ _ h => h) (Or.inl ⟨by rfl, ?_⟩) ?_
      rotate_left
      · (intro W _; go_simp; try with_reducible rfl)
      (try simp only [Act.put, List.getElem_toArray, List.getElem_cons_zero, List.getElem_cons_succ, List.setIfInBounds_toArray, List.set_cons_zero, List.set_cons_succ])
      refine wpAnyX_pure (i := 2) (v := ?_) rfl (by kernel_rfl) (by kernel_rfl) (by kernel_rfl) (fun _ _ _ h => h) (Or.inl ⟨by rfl, ?_⟩) ?_
      rotate_left
      · (intro W _; go_simp; try with_reducible rfl)
      (try simp only [Act.put, List.getElem_toArray, List.getElem_cons_zero, List.getElem_cons_succ, List.setIfInBounds_toArray, List.set_cons_zero, List.set_cons_succ])
      refine wpAnyX_pure (i := 3) (v := ?_) rfl (by kernel_rfl) (by kernel_rfl) (by kernel_rfl) (fun _ _ _ h => h) (Or.inl ⟨by rfl, ?_⟩) ?_
      rotate_left
      · (intro W _; go_simp; try with_reducible rfl)
      (try simp only [Act.put, List.getElem_toArray, List.getElem_cons_zero, List.getElem_cons_succ, List.setIfInBounds_toArray, List.set_cons_zero, List.set_cons_succ])
      refine wpAnyX_pure (i := 4) (v := ?_) rfl (by kernel_rfl) (by kernel_rfl) (by kernel_rfl) (fun _ _ _ h => h) (Or.inl ⟨by rfl, ?_⟩) ?_
      rotate_left
      · (intro W _; go_simp; try with_reducible rfl)
      (try simp only [Act.put, List.getElem_toArray, List.getElem_cons_zero, List.getElem_cons_succ, List.setIfInBounds_toArray, List.set_cons_zero, List.set_cons_succ])
      refine wpAnyX_takeL (L := []) (i := 5) (v := ?_) rfl (by kernel_rfl) (by kernel_rfl) (by kernel_rfl) (by kernel_rfl) (fun _ _ _ h => h) (Or.inl ⟨by rfl, ?_⟩) (HS.out _ hbf) ?_
      rotate_left
      · (intro W hSW; (try dsimp only at hSW); obtain ⟨z0, z1, z2⟩ := hSW; go_simp; try with_reducible rfl)
      (try simp only [Act.put, List.getElem_toArray, List.getElem_cons_zero, List.getElem_cons_succ, List.setIfInBounds_toArray, List.set_cons_zero, List.set_cons_succ])
      refine wpAnyX_pure (i := 6) (v := ?_) rfl (by kernel_rfl) (by kernel_rfl) (by kernel_rfl) (fun _ _ _ h => h) (Or.inl ⟨by rfl, ?_⟩) ?_
      rotate_left
      · (intro W _; go_simp; try with_reducible rfl)
      (try simp only [Act.put, List.getElem_toArray, List.getElem_cons_zero, List.getElem_cons_succ, List.setIfInBounds_toArray, List.set_cons_zero, List.set_cons_succ])
      refine wpAnyX_pure (i := 7) (v := ?_) rfl (by kernel_rfl) (by kernel_rfl) (by kernel_rfl) (fun _ _ _ h => h) (Or.inl ⟨by rfl, ?_⟩) ?_
      rotate_left
      · (intro W _; go_simp; try with_reducible rfl)
      (try simp only [Act.put, List.getElem_toArray, List.getElem_cons_zero, List.getElem_cons_succ, List.setIfInBounds_toArray, List.set_cons_zero, List.set_cons_succ])
      refine wpAnyX_pure (i := 8) (v := ?_) rfl (by kernel_rfl) (by kernel_rfl) (by kernel_rfl) (fun _ _ _ h => h) (Or.inl ⟨by rfl, ?_⟩) ?_
      rotate_left
      · (intro W _; go_simp; try with_reducible rfl)
      (try simp only [Act.put, List.getElem_toArray, List.getElem_cons_zero, List.getElem_cons_succ, List.setIfInBounds_toArray, List.set_cons_zero, List.set_cons_succ])
      refine wpAnyX_takeL (L := []) (i := 9) (v := ?_) rfl (by kernel_rfl) (by kernel_rfl) (by kernel_rfl) (by kernel_rfl) (fun _ _ _ h => h) (Or.inl ⟨by rfl, ?_⟩) (HS.out _ hbf) ?_
      rotate_left
      · (intro W hSW; (try dsimp only at hSW); obtain ⟨z0, z1, z2⟩ := hSW; go_simp; try with_reducible rfl)
      (try simp only [Act.put, List.getElem_toArray, List.getElem_cons_zero, List.getElem_cons_succ, List.setIfInBounds_toArray, List.set_cons_zero, List.set_cons_succ])
      refine wpAnyX_one (i := 10) rfl (by kernel_rfl) (fun K hK => ?_)
      go_simp
      go_at_call 20
      refine (papart i T Us Vs tn tc un uc vn vc ts us vs wrd (HT.out _ hbf) (HUI.out _ hbf) (HVI.out _ hbf) HOV.out.2.1 HOV.out.1 HOV.out.2.2.1 HOV.out.2.2.2.1 htn8).mono ?_
      rintro r w5 ⟨A5, n5, c5, xs, rfl, hf5, hi5, hq5, b5⟩
      have HI5 := Lib.hid (fun (W : World) (h : Below w5.heap.size w5 W) => hi5.below h)
      have HF5 := Lib.hid hf5
      have HQ5 := Lib.hid hq5
      have hbf := bt hbf b5
      clear b5 hi5 hf5 hq5
      refine hK.out _ _ (fun _ _ => HS.out _ hbf) ?_
      (try simp only [Act.put, List.getElem_toArray, List.getElem_cons_zero, List.getElem_cons_succ, List.setIfInBounds_toArray, List.set_cons_zero, List.set_cons_succ])
      refine wpAnyX_pure (i := 11) (v := ?_) rfl (by kernel_rfl) (by kernel_rfl) (by kernel_rfl) (fun _ _ _ h => h) (Or.inl ⟨by rfl, ?_⟩) ?_
      rotate_left
      · (intro W _; go_simp; try with_reducible rfl)
      (try simp only [Act.put, List.getElem_toArray, List.getElem_cons_zero, List.getElem_cons_succ, List.setIfInBounds_toArray, List.set_cons_zero, List.set_cons_succ])
      refine wpAnyX_pure (i := 12) (v := ?_) rfl (by kernel_rfl) (by kernel_rfl) (by kernel_rfl) (fun _ _ _ h => h) (Or.inl ⟨by rfl, ?_⟩) ?_
      rotate_left
      · (intro W _; go_simp; try with_reducible rfl)
      (try simp only [Act.put, List.getElem_toArray, List.getElem_cons_zero, List.getElem_cons_succ, List.setIfInBounds_toArray, List.set_cons_zero, List.set_cons_succ])
      refine wpAnyX_pure (i := 13) (v := ?_) rfl (by kernel_rfl) (by kernel_rfl) (by kernel_rfl) (fun _ _ _ h => h) (Or.inl ⟨by rfl, ?_⟩) ?_
      rotate_left
      · (intro W _; go_simp; try with_reducible rfl)
      (try simp only [Act.put, List.getElem_toArray, List.getElem_cons_zero, List.getElem_cons_succ, List.setIfInBounds_toArray, List.set_cons_zero, List.set_cons_succ])
      refine wpAnyX_pure (i := 14) (v := ?_) rfl (by kernel_rfl) (by kernel_rfl) (by kernel_rfl) (fun _ _ _ h => h) (Or.inl ⟨by rfl, ?_⟩) ?_
      rotate_left
      · (intro W _; go_simp; try with_reducible rfl)
      (try simp only [Act.put, List.getElem_toArray, List.getElem_cons_zero, List.getElem_cons_succ, List.setIfInBounds_toArray, List.set_cons_zero, List.set_cons_succ])
      refine wpAnyX_pure (i := 15) (v := ?_) rfl (by kernel_rfl) (by kernel_rfl) (by kernel_rfl) (fun _ _ _ h => h) (Or.inl ⟨by rfl, ?_⟩) ?_
      rotate_left
      · (intro W _; go_simp; try with_reducible rfl)
      (try simp only [Act.put, List.getElem_toArray, List.getElem_cons_zero, List.getElem_cons_succ, List.setIfInBounds_toArray, List.set_cons_zero, List.set_cons_succ])
      refine wpAnyX_done (by kernel_rfl) ?_ _
      go_upto_region 7 with fail
      have hbf : Below w0.heap.size w0 w5.drew := below_drewN hbf 1
      refine wp_region_heldX (X := fun k => ([] : List Nat).contains k) (S := fun W => Bx W w.heap.size #[.int .i64 i, .slice T tn tc] 34 ∧ W.cell? ⟨b, off + s, none⟩ = some (.slice Us un uc) ∧ W.cell? ⟨b, off + p, none⟩ = some (.slice Vs vn vc)) (by kernel_rfl) ?_
      have h5d : Below w5.heap.size w5 w5.drew := below_drewN (Below.refl _ _) 1
      generalize w5.drew = w5d at hbf h5d ⊢
      refine wpAnyX_takeL (L := []) (i := 0) (v := .agg (#[.int .i64 i, .slice T tn tc])) rfl (by kernel_rfl) (by kernel_rfl) (by kernel_rfl) (by kernel_rfl) (fun _ _ _ h => h) (Or.inl ⟨by rfl, fun W hSW => run_load_bx 34 _ rfl (w.heap.size) rfl 34 (#[.int .i64 i, .slice T tn tc]) (0, 0) _ (hSW.1) Try.underlying34 rfl (by kernel_rfl)⟩) (HS.out _ hbf) ?_
      (try simp only [Act.put, List.getElem_toArray, List.getElem_cons_zero, List.getElem_cons_succ, List.setIfInBounds_toArray, List.set_cons_zero, List.set_cons_succ])
      refine wpAnyX_pure (i := 1) (v := ?_) rfl (by kernel_rfl) (by kernel_rfl) (by kernel_rfl) (fun _ _ _ h => h) (Or.inl ⟨by rfl, ?_⟩) ?_
      rotate_left
      · (intro W _; go_simp; try with_reducible rfl)
      (try simp only [Act.put, List.getElem_toArray, List.getElem_cons_zero, List.getElem_cons_succ, List.setIfInBounds_toArray, List.set_cons_zero, List.set_cons_succ])
      refine wpAnyX_pure (i := 2) (v := ?_) rfl (by kernel_rfl) (by kernel_rfl) (by kernel_rfl) (fun _ _ _ h => h) (Or.inl ⟨by rfl, ?_⟩) ?_
      rotate_left
      · (intro W _; go_simp; try with_reducible rfl)
      (try simp only [Act.put, List.getElem_toArray, List.getElem_cons_zero, List.getElem_cons_succ, List.setIfInBounds_toArray, List.set_cons_zero, List.set_cons_succ])
      refine wpAnyX_pure (i := 3) (v := ?_) rfl (by kernel_rfl) (by kernel_rfl) (by kernel_rfl) (fun _ _ _ h => h) (Or.inl ⟨by rfl, ?_⟩) ?_
      rotate_left
      · (intro W _; go_simp; try with_reducible rfl)
      (try simp only [Act.put, List.getElem_toArray, List.getElem_cons_zero, List.getElem_cons_succ, List.setIfInBounds_toArray, List.set_cons_zero, List.set_cons_succ])
      refine wpAnyX_pure (i := 4) (v := ?_) rfl (by kernel_rfl) (by kernel_rfl) (by kernel_rfl) (fun _ _ _ h => h) (Or.inl ⟨by rfl, ?_⟩) ?_
      rotate_left
      · (intro W _; go_simp; try with_reducible rfl)
      (try simp only [Act.put, List.getElem_toArray, List.getElem_cons_zero, List.getElem_cons_succ, List.setIfInBounds_toArray, List.set_cons_zero, List.set_cons_succ])
      refine wpAnyX_takeL (L := []) (i := 5) (v := ?_) rfl (by kernel_rfl) (by kernel_rfl) (by kernel_rfl) (by kernel_rfl) (fun _ _ _ h => h) (Or.inl ⟨by rfl, ?_⟩) (HS.out _ hbf) ?_
      rotate_left
      · (intro W hSW; (try dsimp only at hSW); obtain ⟨z0, z1, z2⟩ := hSW; go_simp; try with_reducible rfl)
      (try simp only [Act.put, List.getElem_toArray, List.getElem_cons_zero, List.getElem_cons_succ, List.setIfInBounds_toArray, List.set_cons_zero, List.set_cons_succ])
      refine wpAnyX_pure (i := 6) (v := ?_) rfl (by kernel_rfl) (by kernel_rfl) (by kernel_rfl) (fun _ _ _ h => h) (Or.inl ⟨by rfl, ?_⟩) ?_
      rotate_left
      · (intro W _; go_simp; try with_reducible rfl)
      (try simp only [Act.put, List.getElem_toArray, List.getElem_cons_zero, List.getElem_cons_succ, List.setIfInBounds_toArray, List.set_cons_zero, List.set_cons_succ])
      refine wpAnyX_pure (i := 7) (v := ?_) rfl (by kernel_rfl) (by kernel_rfl) (by kernel_rfl) (fun _ _ _ h => h) (Or.inl ⟨by rfl, ?_⟩) ?_
      rotate_left
      · (intro W _; go_simp; try with_reducible rfl)
      (try simp only [Act.put, List.getElem_toArray, List.getElem_cons_zero, List.getElem_cons_succ, List.setIfInBounds_toArray, List.set_cons_zero, List.set_cons_succ])
      refine wpAnyX_pure (i := 8) (v := ?_) rfl (by kernel_rfl) (by kernel_rfl) (by kernel_rfl) (fun _ _ _ h => h) (Or.inl ⟨by rfl, ?_⟩) ?_
      rotate_left
      · (intro W _; go_simp; try with_reducible rfl)
      (try simp only [Act.put, List.getElem_toArray, List.getElem_cons_zero, List.getElem_cons_succ, List.setIfInBounds_toArray, List.set_cons_zero, List.set_cons_succ])
      refine wpAnyX_takeL (L := []) (i := 9) (v := ?_) rfl (by kernel_rfl) (by kernel_rfl) (by kernel_rfl) (by kernel_rfl) (fun _ _ _ h => h) (Or.inl ⟨by rfl, ?_⟩) (HS.out _ hbf) ?_
      rotate_left
      · (intro W hSW; (try dsimp only at hSW); obtain ⟨z0, z1, z2⟩ := hSW; go_simp; try with_reducible rfl)
      (try simp only [Act.put, List.getElem_toArray, List.getElem_cons_zero, List.getElem_cons_succ, List.setIfInBounds_toArray, List.set_cons_zero, List.set_cons_succ])
      refine wpAnyX_one (i := 10) rfl (by kernel_rfl) (fun K hK => ?_)
      go_simp
      go_at_call 21
      refine (rhapart i T Us Vs tn tc un uc vn vc ts us vs w5d (HT.out _ hbf) (HUI.out _ hbf) (HVI.out _ hbf) HOV.out.2.1 HOV.out.2.2.1 HOV.out.2.2.2.1 hvn).mono ?_
      rintro r w6 ⟨vv, vb, ys, rfl, hfx, hfs, b6⟩
      have HI6 := Lib.hid (HI5.out _ (bt h5d b6))
      have hbf := bt hbf b6
      have hxy := HF5.out.uniq hfs
      have HB6 := Lib.hid hbf
      clear b6 hfs h5d
      rcases hfx with ⟨rfl, rfl, rfl⟩ | ⟨A8, n8, c8, rfl, rfl, hi8, hne8⟩
      · subst hxy
        obtain rfl := HQ5.out.2 rfl
        have h6 := HI6.out
        obtain rfl : n5 = 0 := h6.1.symm
        have HI7 := Lib.hid h6
        clear h6
        refine hK.out _ _ (fun _ _ => HS.out _ hbf) ?_
        (try simp only [Act.put, List.getElem_toArray, List.getElem_cons_zero, List.getElem_cons_succ, List.setIfInBounds_toArray, List.set_cons_zero, List.set_cons_succ])
        refine wpAnyX_pure (i := 11) (v := ?_) rfl (by kernel_rfl) (by kernel_rfl) (by kernel_rfl) (fun _ _ _ h => h) (Or.inl ⟨by rfl, ?_⟩) ?_
        rotate_left
        · (intro W _; go_simp; try with_reducible rfl)
        (try simp only [Act.put, List.getElem_toArray, List.getElem_cons_zero, List.getElem_cons_succ, List.setIfInBounds_toArray, List.set_cons_zero, List.set_cons_succ])
        refine wpAnyX_pure (i := 12) (v := ?_) rfl (by kernel_rfl) (by kernel_rfl) (by kernel_rfl) (fun _ _ _ h => h) (Or.inl ⟨by rfl, ?_⟩) ?_
        rotate_left
        · (intro W _; go_simp; try with_reducible rfl)
        (try simp only [Act.put, List.getElem_toArray, List.getElem_cons_zero, List.getElem_cons_succ, List.setIfInBounds_toArray, List.set_cons_zero, List.set_cons_succ])
        refine wpAnyX_pure (i := 13) (v := ?_) rfl (by kernel_rfl) (by kernel_rfl) (by kernel_rfl) (fun _ _ _ h => h) (Or.inl ⟨by rfl, ?_⟩) ?_
        rotate_left
        · (intro W _; go_simp; try with_reducible rfl)
        (try simp only [Act.put, List.getElem_toArray, List.getElem_cons_zero, List.getElem_cons_succ, List.setIfInBounds_toArray, List.set_cons_zero, List.set_cons_succ])
        refine wpAnyX_pure (i := 14) (v := ?_) rfl (by kernel_rfl) (by kernel_rfl) (by kernel_rfl) (fun _ _ _ h => h) (Or.inl ⟨by rfl, ?_⟩) ?_
        rotate_left
        · (intro W _; go_simp; try with_reducible rfl)
        (try simp only [Act.put, List.getElem_toArray, List.getElem_cons_zero, List.getElem_cons_succ, List.setIfInBounds_toArray, List.set_cons_zero, List.set_cons_succ])
        refine wpAnyX_pure (i := 15) (v := ?_) rfl (by kernel_rfl) (by kernel_rfl) (by kernel_rfl) (fun _ _ _ h => h) (Or.inl ⟨by rfl, ?_⟩) ?_
        rotate_left
        · (intro W _; go_simp; try with_reducible rfl)
        (try simp only [Act.put, List.getElem_toArray, List.getElem_cons_zero, List.getElem_cons_succ, List.setIfInBounds_toArray, List.set_cons_zero, List.set_cons_succ])
        refine wpAnyX_done (by kernel_rfl) ?_ _
        clear hbf
        go_wp2_with fail
        refine (rints none none 0 c5 0 0 [] [] true w6 HI7.out (Ints.none_ _) (by simp)).mono ?_
        rintro r w7 ⟨rfl, q7, rfl⟩
        go_wp2_with fail
        go_roundw
        case rel => exact ⟨p + 1, by go_num, by omega, by omega, Lib.hid (below_drewN HB6.out q7)⟩
        case measure => simp [intOf]; omega
      · subst hxy
        obtain ⟨g5, rfl⟩ : ∃ g5, A5 = some g5 := by
          cases A5 with
          | none => exact absurd (HQ5.out.1 rfl) hne8
          | some g => exact ⟨g, rfl⟩
        have HI8 := Lib.hid hi8
        clear hi8 hne8
        refine hK.out _ _ (fun _ _ => HS.out _ hbf) ?_
        (try simp only [Act.put, List.getElem_toArray, List.getElem_cons_zero, List.getElem_cons_succ, List.setIfInBounds_toArray, List.set_cons_zero, List.set_cons_succ])
        refine wpAnyX_pure (i := 11) (v := ?_) rfl (by kernel_rfl) (by kernel_rfl) (by kernel_rfl) (fun _ _ _ h => h) (Or.inl ⟨by rfl, ?_⟩) ?_
        rotate_left
        · (intro W _; go_simp; try with_reducible rfl)
        (try simp only [Act.put, List.getElem_toArray, List.getElem_cons_zero, List.getElem_cons_succ, List.setIfInBounds_toArray, List.set_cons_zero, List.set_cons_succ])
        refine wpAnyX_pure (i := 12) (v := ?_) rfl (by kernel_rfl) (by kernel_rfl) (by kernel_rfl) (fun _ _ _ h => h) (Or.inl ⟨by rfl, ?_⟩) ?_
        rotate_left
        · (intro W _; go_simp; try with_reducible rfl)
        (try simp only [Act.put, List.getElem_toArray, List.getElem_cons_zero, List.getElem_cons_succ, List.setIfInBounds_toArray, List.set_cons_zero, List.set_cons_succ])
        refine wpAnyX_pure (i := 13) (v := ?_) rfl (by kernel_rfl) (by kernel_rfl) (by kernel_rfl) (fun _ _ _ h => h) (Or.inl ⟨by rfl, ?_⟩) ?_
        rotate_left
        · (intro W _; go_simp; try with_reducible rfl)
        (try simp only [Act.put, List.getElem_toArray, List.getElem_cons_zero, List.getElem_cons_succ, List.setIfInBounds_toArray, List.set_cons_zero, List.set_cons_succ])
        refine wpAnyX_pure (i := 14) (v := ?_) rfl (by kernel_rfl) (by kernel_rfl) (by kernel_rfl) (fun _ _ _ h => h) (Or.inl ⟨by rfl, ?_⟩) ?_
        rotate_left
        · (intro W _; go_simp; try with_reducible rfl)
        (try simp only [Act.put, List.getElem_toArray, List.getElem_cons_zero, List.getElem_cons_succ, List.setIfInBounds_toArray, List.set_cons_zero, List.set_cons_succ])
        refine wpAnyX_pure (i := 15) (v := ?_) rfl (by kernel_rfl) (by kernel_rfl) (by kernel_rfl) (fun _ _ _ h => h) (Or.inl ⟨by rfl, ?_⟩) ?_
        rotate_left
        · (intro W _; go_simp; try with_reducible rfl)
        (try simp only [Act.put, List.getElem_toArray, List.getElem_cons_zero, List.getElem_cons_succ, List.setIfInBounds_toArray, List.set_cons_zero, List.set_cons_succ])
        refine wpAnyX_done (by kernel_rfl) ?_ _
        clear hbf
        go_wp2_with fail
        refine (rints (some g5) A8 n5 c5 n8 c8 xs xs true w6 HI6.out HI8.out (by simp)).mono ?_
        rintro r w7 ⟨rfl, q7, rfl⟩
        go_wp2_with fail
        go_roundw
        case rel => exact ⟨p + 1, by go_num, by omega, by omega, Lib.hid (below_drewN HB6.out q7)⟩
        case measure => simp [intOf]; omega
    · obtain ⟨K, hK⟩ : ∃ K, K = (kepK ts ws n).length := ⟨_, rfl⟩
      have HPL := Lib.hid (fun (W : World) (h : Below w0.heap.size w0 W) => plower i T C tn tc n cc ts ws W (HT.out _ h) (HW.out _ h) HOV.out.1 HOV.out.2.1 HOV.out.2.2.1 HOV.out.2.2.2.1 (by omega) (by omega))
      have HRL := Lib.hid (fun (W : World) (h : Below w0.heap.size w0 W) => rhlower i T C tn tc n cc ts ws W (HT.out _ h) (HW.out _ h) HOV.out.2.1 HOV.out.2.2.1 HOV.out.2.2.2.1 (by omega) HWL.out)
      rw [← hK] at HPL HRL
      clear hK
      go_upto_region 10 with fail
      have hbf : Below w0.heap.size w0 wr.drew := below_drewN HBR.out 1
      refine wp_region_heldX (X := fun k => ([] : List Nat).contains k) (S := fun W => Bx W w.heap.size #[.int .i64 i, .slice T tn tc] 34) (by kernel_rfl) ?_
      refine wpAnyX_takeL (L := []) (i := 0) (v := .agg (#[.int .i64 i, .slice T tn tc])) rfl (by kernel_rfl) (by kernel_rfl) (by kernel_rfl) (by kernel_rfl) (fun _ _ _ h => h) (Or.inl ⟨by rfl, fun W hSW => run_load_bx 34 _ rfl (w.heap.size) rfl 34 (#[.int .i64 i, .slice T tn tc]) (0, 0) _ (hSW) Try.underlying34 rfl (by kernel_rfl)⟩) (HM.out _ hbf) ?_
      (try simp only [Act.put, List.getElem_toArray, List.getElem_cons_zero, List.getElem_cons_succ, List.setIfInBounds_toArray, List.set_cons_zero, List.set_cons_succ])
      refine wpAnyX_pure (i := 1) (v := ?_) rfl (by kernel_rfl) (by kernel_rfl) (by kernel_rfl) (fun _ _ _ h => h) (Or.inl ⟨by rfl, ?_⟩) ?_
      rotate_left
      · (intro W _; go_simp; try with_reducible rfl)
      (try simp only [Act.put, List.getElem_toArray, List.getElem_cons_zero, List.getElem_cons_succ, List.setIfInBounds_toArray, List.set_cons_zero, List.set_cons_succ])
      refine wpAnyX_takeL (L := []) (i := 3) (v := .agg (#[.int .i64 i, .slice T tn tc])) rfl (by kernel_rfl) (by kernel_rfl) (by kernel_rfl) (by kernel_rfl) (fun _ _ _ h => h) (Or.inl ⟨by rfl, fun W hSW => run_load_bx 34 _ rfl (w.heap.size) rfl 34 (#[.int .i64 i, .slice T tn tc]) (0, 0) _ (hSW) Try.underlying34 rfl (by kernel_rfl)⟩) (HM.out _ hbf) ?_
      (try simp only [Act.put, List.getElem_toArray, List.getElem_cons_zero, List.getElem_cons_succ, List.setIfInBounds_toArray, List.set_cons_zero, List.set_cons_succ])
      refine wpAnyX_pure (i := 4) (v := ?_) rfl (by kernel_rfl) (by kernel_rfl) (by kernel_rfl) (fun _ _ _ h => h) (Or.inl ⟨by rfl, ?_⟩) ?_
      rotate_left
      · (intro W _; go_simp; try with_reducible rfl)
      (try simp only [Act.put, List.getElem_toArray, List.getElem_cons_zero, List.getElem_cons_succ, List.setIfInBounds_toArray, List.set_cons_zero, List.set_cons_succ])
      refine wpAnyX_one (i := 2) rfl (by kernel_rfl) (fun K hK => ?_)
      go_simp
      go_at_call 22
      refine (HPL.out _ hbf).mono ?_
      rintro r u1 ⟨rfl, b9⟩
      have hbf := bt hbf b9
      clear b9
      refine hK.out _ _ (fun _ _ => HM.out _ hbf) ?_
      (try simp only [Act.put, List.getElem_toArray, List.getElem_cons_zero, List.getElem_cons_succ, List.setIfInBounds_toArray, List.set_cons_zero, List.set_cons_succ])
      refine wpAnyX_one (i := 5) rfl (by kernel_rfl) (fun K hK => ?_)
      go_simp
      go_at_call 23
      refine (HRL.out _ hbf).mono ?_
      rintro r u2 ⟨rfl, b9⟩
      have hbf := bt hbf b9
      clear b9
      refine hK.out _ _ (fun _ _ => HM.out _ hbf) ?_
      (try simp only [Act.put, List.getElem_toArray, List.getElem_cons_zero, List.getElem_cons_succ, List.setIfInBounds_toArray, List.set_cons_zero, List.set_cons_succ])
      refine wpAnyX_pure (i := 6) (v := ?_) rfl (by kernel_rfl) (by kernel_rfl) (by kernel_rfl) (fun _ _ _ h => h) (Or.inl ⟨by rfl, ?_⟩) ?_
      rotate_left
      · (intro W _; go_simp; try with_reducible rfl)
      (try simp only [Act.put, List.getElem_toArray, List.getElem_cons_zero, List.getElem_cons_succ, List.setIfInBounds_toArray, List.set_cons_zero, List.set_cons_succ])
      refine wpAnyX_pure (i := 7) (v := ?_) rfl (by kernel_rfl) (by kernel_rfl) (by kernel_rfl) (fun _ _ _ h => h) (Or.inl ⟨by rfl, ?_⟩) ?_
      rotate_left
      · (intro W _; go_simp; try with_reducible rfl)
      (try simp only [Act.put, List.getElem_toArray, List.getElem_cons_zero, List.getElem_cons_succ, List.setIfInBounds_toArray, List.set_cons_zero, List.set_cons_succ])
      refine wpAnyX_one (i := 8) rfl (by kernel_rfl) (fun K hK => ?_)
      go_simp
      go_at_call 9
      refine (awake22 _).mono ?_
      rintro r u3 ⟨rfl, b9⟩
      have hbf := bt hbf b9
      clear b9
      refine hK.out _ _ (fun _ _ => HM.out _ hbf) ?_
      (try simp only [Act.put, List.getElem_toArray, List.getElem_cons_zero, List.getElem_cons_succ, List.setIfInBounds_toArray, List.set_cons_zero, List.set_cons_succ])
      refine wpAnyX_pure (i := 9) (v := ?_) rfl (by kernel_rfl) (by kernel_rfl) (by kernel_rfl) (fun _ _ _ h => h) (Or.inl ⟨by rfl, ?_⟩) ?_
      rotate_left
      · (intro W _; go_simp; try with_reducible rfl)
      (try simp only [Act.put, List.getElem_toArray, List.getElem_cons_zero, List.getElem_cons_succ, List.setIfInBounds_toArray, List.set_cons_zero, List.set_cons_succ])
      refine wpAnyX_pure (i := 10) (v := ?_) rfl (by kernel_rfl) (by kernel_rfl) (by kernel_rfl) (fun _ _ _ h => h) (Or.inl ⟨by rfl, ?_⟩) ?_
      rotate_left
      · (intro W _; go_simp; try with_reducible rfl)
      (try simp only [Act.put, List.getElem_toArray, List.getElem_cons_zero, List.getElem_cons_succ, List.setIfInBounds_toArray, List.set_cons_zero, List.set_cons_succ])
      refine wpAnyX_done (by kernel_rfl) ?_ _
      have HBF := Lib.hid (bt HB0.out hbf)
      clear hbf
      go_wp2
      go_ret
      exact ⟨rfl, HBF.out⟩
end Go.Proofs.Ytaiifmckmjlgjaa
end
