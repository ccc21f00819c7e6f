/- Lemmas of the proofs of this seat, of the parts Ro18, Ro19, Hyt, L22w. Conditions: none. -/
import Derived.Test.YtkgdgnmobahhfaaLad
import Derived.Test.YtkgdgnmobahhfaaLac
import Derived.Test.YtkgdgnmobahhfaaLab
section
/- The reference of observe: Valid. -/
namespace Go.Proofs.Ytkgdgnmobahhfaa
open Go.RowKit

/-- What valid observations are. -/
def ObsV (i : Int) (ts : TSr) : Prop := Srt ts ∧ Full ts ∧ Cons ts ∧ Props i ts ∧ Pw ts ∧ (∀ j, j < ts.length → 0 < (tIn ts j).length) ∧ 1 ≤ i ∧ i ≤ 64 ∧ ts.length ≤ 10000
theorem srt_adj {ts : TSr} (h : ∀ j, j + 1 < ts.length → shlex (tIn ts j) (tIn ts (j + 1)) < 0) : Srt ts := fun a b hab hb => by
  induction b with
  | zero => omega
  | succ b ih =>
    have h1 := h b hb
    rcases Nat.lt_or_ge a b with h2 | h2
    · have h3 := ih h2 (by omega)
      exact (shlex_trans _ (tIn ts b) _).2 h3 (by omega)
    · rw [show a = b by omega]; exact h1

set_option linter.unusedSimpArgs false in
set_option linter.unusedVariables false in
set_option maxHeartbeats 8000000 in
set_option maxRecDepth 100000 in
theorem rvalid16 (i : Int) (T : Option Addr) (n c : Nat) (ts : TSr) (w : World) (hT : Trs w T n ts) :
    Calls Try.prog 20 #[.agg #[.int .i64 i, .slice T n c]] w fun e w' => ∃ v : Int, e = .returned (.int .i64 v) ∧ Hid (v = 0 → ObsV i ts) ∧ Below w.heap.size w w' := by
  obtain ⟨w0, hw0⟩ : ∃ w0, w0 = w.alloc (.cells #[.int .i64 i, .slice T n c] 24) := ⟨_, rfl⟩
  have hb0 : Below w.heap.size w w0 := by rw [hw0]; exact alloc_below _ _
  have m0 : Bx w0 w.heap.size #[.int .i64 i, .slice T n c] 24 := by rw [hw0]; exact bx_new _ _ _
  have HM := Lib.hid (fun (W : World) (h : Below w0.heap.size w0 W) => m0.on h)
  have HT := Lib.hid (fun (W : World) (h : Below w0.heap.size w0 W) => (hT.below hb0).below h)
  have HB0 := Lib.hid hb0
  have HW0 := Lib.hid hw0
  have HLT := Lib.hid hT.1
  have hn := hT.2.1
  have k0 := m0.cell 0
  have k1 := m0.cell 1
  simp at k0 k1
  rw [hw0] at k0 k1
  clear hw0 hb0 m0 hT
  by_cases hi1 : i < 1
  · go_enter Try.func20, Try.ntmps20
    go_wp2
    rw [← HW0.out]
    go_ret
    exact ⟨2, rfl, Lib.hid (fun h => absurd h (by decide)), HB0.out⟩
  by_cases hi2 : 64 < i
  · go_enter Try.func20, Try.ntmps20
    go_wp2
    rw [← HW0.out]
    go_ret
    exact ⟨2, rfl, Lib.hid (fun h => absurd h (by decide)), HB0.out⟩
  by_cases hbig : 10000 < n
  · have hbI : (10000 : Int) < (n : Int) := by omega
    go_enter Try.func20, Try.ntmps20
    go_wp2
    rw [← HW0.out]
    go_ret
    exact ⟨11, rfl, Lib.hid (fun h => absurd h (by decide)), HB0.out⟩
  have hbI : ¬ (10000 : Int) < (n : Int) := by omega
  go_enter Try.func20, Try.ntmps20
  go_wp2
  rw [← HW0.out]
  clear k0 k1
  go_loopw [3] (fun v3 wr => ∃ k : Nat, v3 = .int .i64 k ∧ k ≤ n ∧ Hid (∀ j, j < k → prpE (tIn ts j) (tOut ts j) i = 0 ∧ 0 < (tIn ts j).length ∧ (0 < j → shlex (tIn ts (j - 1)) (tIn ts j) < 0)) ∧ Hid (Below w0.heap.size w0 wr)) (fun v3 _ => n - (intOf v3).toNat)
  case atStart => exact ⟨0, rfl, Nat.zero_le _, Lib.hid (fun j h => absurd h (Nat.not_lt_zero j)), Lib.hid (Below.refl _ _)⟩
  case round =>
    obtain ⟨k, rfl, hk, HP, HBR⟩ := hrel
    by_cases hlt : k < n
    · obtain ⟨b, off, A1, n1, c1, A2, n2, c2, rfl, hgb, j1, j2, _, _, j3, j4⟩ := (HT.out _ HBR.out).at_ hlt
      obtain ⟨wa, hwa⟩ : ∃ wa, wa = wr.alloc (.cells #[.slice A1 n1 c1, .slice A2 n2 c2] 38) := ⟨_, rfl⟩
      have hal : Below wr.heap.size wr wa := by rw [hwa]; exact alloc_below _ _
      have hbx : Bx wa wr.heap.size #[.slice A1 n1 c1, .slice A2 n2 c2] 38 := by rw [hwa]; exact bx_new _ _ _
      have z1 := (HM.out _ HBR.out).cell 1
      have k0 := (HM.out _ (bt HBR.out hal)).cell 0
      have k1 := (HM.out _ (bt HBR.out hal)).cell 1
      have x0 := hbx.cell 0
      have x1 := hbx.cell 1
      simp at z1 k0 k1 x0 x1
      have HRC := Lib.hid (rcheck A1 n1 c1 i (tIn ts k) wa (j3.below hal))
      have HRP := Lib.hid (rproper A1 A2 n1 c1 n2 c2 i (tIn ts k) (tOut ts k) wa (j3.below hal) (j4.below hal))
      have HWA := Lib.hid hwa
      have HBA := Lib.hid (bt HBR.out hal)
      have HBX := Lib.hid hbx
      have HL1 := Lib.hid j3.1
      rw [hwa] at k0 k1 x0 x1
      clear hwa hal hbx j3 j4 hgb
      by_cases hc : chk (tIn ts k) i = 0
      case neg =>
        obtain ⟨E, hE⟩ : ∃ E, E = chk (tIn ts k) i := ⟨_, rfl⟩
        rw [← hE] at HRC hc
        have hne : (E != 0) = true := by simpa using hc
        have HNE := Lib.hid hc
        clear hE hc
        go_wp2_with fail
        rw [← HWA.out]
        refine HRC.out.mono ?_
        rintro r w1 ⟨rfl, rfl⟩
        go_wp2
        go_ret
        exact ⟨E, rfl, Lib.hid (fun h => absurd h HNE.out), bt HB0.out HBA.out⟩
      rw [hc] at HRC
      by_cases h0 : n1 = 0
      · subst h0
        clear hc
        go_wp2_with fail
        rw [← HWA.out]
        refine HRC.out.mono ?_
        rintro r w1 ⟨rfl, rfl⟩
        rw [← HWA.out] at k0 k1 x0 x1
        go_wp2
        go_ret
        exact ⟨19, rfl, Lib.hid (fun h => absurd h (by decide)), bt HB0.out HBA.out⟩
      have h0f : ((n1 : Int) == 0) = false := by rw [beq_eq_false_iff_ne]; omega
      by_cases hp : prpE (tIn ts k) (tOut ts k) i = 0
      case neg =>
        obtain ⟨E, hE⟩ : ∃ E, E = prpE (tIn ts k) (tOut ts k) i := ⟨_, rfl⟩
        rw [← hE] at HRP hp
        have hne : (E != 0) = true := by simpa using hp
        have HNE := Lib.hid hp
        clear hE hp hc
        go_wp2_with fail
        rw [← HWA.out]
        refine HRC.out.mono ?_
        rintro r w1 ⟨rfl, rfl⟩
        rw [← HWA.out] at k0 k1 x0 x1
        go_wp2_with fail
        refine HRP.out.mono ?_
        rintro r w2 ⟨rfl, a2⟩
        clear k0 k1 x0 x1
        have HB2 := Lib.hid (bt HBA.out a2)
        clear a2
        go_wp2
        go_ret
        exact ⟨E, rfl, Lib.hid (fun h => absurd h HNE.out), bt HB0.out HB2.out⟩
      rw [hp] at HRP
      have HPP := Lib.hid hp
      clear hp hc
      by_cases hk0 : k = 0
      · have hkz : ¬ 0 < k := by omega
        have HK0 := Lib.hid hk0
        clear hk0
        go_wp2_with fail
        rw [← HWA.out]
        refine HRC.out.mono ?_
        rintro r w1 ⟨rfl, rfl⟩
        rw [← HWA.out] at k0 k1 x0 x1
        go_wp2_with fail
        refine HRP.out.mono ?_
        rintro r w2 ⟨rfl, a2⟩
        clear k0 k1 x0 x1
        have HB2 := Lib.hid (bt HBA.out a2)
        have HP2 := Lib.hid (show ∀ j, j < k + 1 → prpE (tIn ts j) (tOut ts j) i = 0 ∧ 0 < (tIn ts j).length ∧ (0 < j → shlex (tIn ts (j - 1)) (tIn ts j) < 0) from fun j hj => by
          have hk0 := HK0.out
          obtain rfl : j = k := by omega
          exact ⟨HPP.out, by rw [HL1.out]; omega, fun h => absurd h (by omega)⟩)
        clear a2
        go_wp2
        go_quiet (fail)
        go_wp2
        go_roundw
        case rel => exact ⟨k + 1, by go_num, by omega, HP2, Lib.hid (below_drewN HB2.out _)⟩
        case measure => simp [intOf]; omega
      · obtain ⟨kp, hkp⟩ : ∃ kp, k = kp + 1 := ⟨k - 1, by omega⟩
        have hkpos : 0 < k := by omega
        have hw1 : IntKind.i64.wrap ((k : Int) - 1) = (kp : Int) := by rw [IntKind.wrap_i64]; omega
        have hkI : (kp : Int) < (n : Int) := by omega
        have hk0I : (0 : Int) ≤ (kp : Int) := by omega
        have HKP := Lib.hid hkp
        have hkpn : kp < n := by omega
        clear hkp
        go_wp2_with fail
        rw [← HWA.out]
        refine HRC.out.mono ?_
        rintro r w1 ⟨rfl, rfl⟩
        rw [← HWA.out] at k0 k1 x0 x1
        go_wp2_with fail
        refine HRP.out.mono ?_
        rintro r w2 ⟨rfl, a2⟩
        have hb2 := bt HBA.out a2
        clear k0 k1 x0 x1 z1
        have k1 := (HM.out _ hb2).cell 1
        have x0 := (HBX.out.on a2).cell 0
        simp at k1 x0
        obtain ⟨_, _, B1, m1, d1, B2, m2, d2, eT, _, i1, _, _, _, i3, _⟩ := (HT.out _ hb2).at_ hkpn
        cases eT
        obtain ⟨_, _, D1, p1, f1, D2, p2, f2, eT, _, g1, _, _, _, g3, _⟩ := (HT.out _ hb2).at_ hlt
        cases eT
        have e1 : (Value.slice A1 n1 c1) = .slice D1 p1 f1 := by
          have hgw : b < w0.heap.size := by
            obtain ⟨_, _, _, _, _, _, _, _, eQ, hq, _⟩ := (HT.out _ (Below.refl _ _)).at_ hlt
            cases eQ
            exact hq
          have h5 := hb2.cell (p := ⟨b, off + k * 2, none⟩) hgw
          have h6 := HBR.out.cell (p := ⟨b, off + k * 2, none⟩) hgw
          have h7 := h5.trans (h6.symm.trans j1)
          rw [g1] at h7
          cases h7
          rfl
        cases e1
        have HCP := Lib.hid (fun u => rcompare B1 A1 m1 d1 n1 c1 (tIn ts kp) (tIn ts k) (w2.drewN u) (i3.drewN u) (g3.drewN u))
        have HB2 := Lib.hid hb2
        clear a2 hb2 i3 g3 g1
        obtain ⟨s, hs⟩ : ∃ s, s = shlex (tIn ts kp) (tIn ts k) := ⟨_, rfl⟩
        rw [← hs] at HCP
        have HSS := Lib.hid hs
        clear hs
        by_cases hsn : 0 ≤ s
        · go_wp2
          go_quiet ((go_at_call 61; exact Calls.quiet_of (HCP.out _)))
          go_wp2
          go_ret
          exact ⟨10, rfl, Lib.hid (fun h => absurd h (by decide)), bt HB0.out (below_drewN HB2.out _)⟩
        · have HP2 := Lib.hid (show ∀ j, j < k + 1 → prpE (tIn ts j) (tOut ts j) i = 0 ∧ 0 < (tIn ts j).length ∧ (0 < j → shlex (tIn ts (j - 1)) (tIn ts j) < 0) from fun j hj => by
            rcases Nat.lt_or_ge j k with h | h
            · exact HP.out j h
            · obtain rfl : j = k := by omega
              refine ⟨HPP.out, by rw [HL1.out]; omega, fun _ => ?_⟩
              rw [show j - 1 = kp by have := HKP.out; omega, ← HSS.out]
              omega)
          go_wp2
          go_quiet ((go_at_call 61; exact Calls.quiet_of (HCP.out _)))
          go_wp2
          go_roundw
          case rel => exact ⟨k + 1, by go_num, by omega, HP2, Lib.hid (below_drewN HB2.out _)⟩
          case measure => simp [intOf]; omega
    · obtain rfl : k = n := by omega
      have HPR := Lib.hid (show Props i ts from fun j hj => (HP.out j (by rw [← HLT.out]; exact hj)).1)
      have HFU := Lib.hid (show Full ts from fun j hj => (prp_zero (HPR.out j hj)).2.1)
      have HRA := Lib.hid (rapart16 i T k c ts wr (HT.out _ HBR.out) HFU.out)
      have k0 := (HM.out _ HBR.out).cell 0
      have k1 := (HM.out _ HBR.out).cell 1
      simp at k0 k1
      go_wp2_with fail
      refine HRA.out.mono ?_
      rintro r w2 ⟨v, rfl, hv, a2⟩
      have HB2 := Lib.hid (bt HBR.out a2)
      clear a2 k0 k1
      go_wp2
      go_ret
      refine ⟨v, rfl, Lib.hid (fun h => ?_), bt HB0.out HB2.out⟩
      have hpw := hv.out h
      refine ⟨srt_adj fun j hj => ?_, HFU.out, hpw.cons, HPR.out, hpw, fun j hj => (HP.out j (by rw [← HLT.out]; exact hj)).2.1, by omega, by omega, by rw [HLT.out]; omega⟩
      have := (HP.out (j + 1) (by rw [← HLT.out]; exact hj)).2.2 (by omega)
      rwa [show j + 1 - 1 = j by omega] at this
end Go.Proofs.Ytkgdgnmobahhfaa
end

section
/- The reference of observe: Answer. -/
namespace Go.Proofs.Ytkgdgnmobahhfaa
open Go.RowKit

/-- The result of Answer for a word that is not empty. -/
def AnsR (ts : TSr) (ws : List Int) (n : Nat) (w : World) (r : Ending) (w' : World) : Prop :=
  Below w.heap.size w w' ∧ ((r = .returned (.tuple #[.slice none 0 0, .bool false]) ∧ ∀ a, a < ts.length → ¬ cmn (tIn ts a) ws = ws.length) ∨
    ∃ (a : Nat) (A' : Option Addr) (c' : Nat), a < ts.length ∧ cmn (tIn ts a) ws = ws.length ∧ r = .returned (.tuple #[.slice A' n c', .bool true]) ∧ Ints w' A' n ((tOut ts a).take n))

set_option linter.unusedSimpArgs false in
set_option linter.unusedVariables false in
set_option maxHeartbeats 8000000 in
set_option maxRecDepth 100000 in
theorem ranswer16 (i : Int) (T A : Option Addr) (tn tc n c : Nat) (ts : TSr) (ws : List Int) (w : World) (hT : Trs w T tn ts) (hF : Full ts) (hA : Ints w A n ws) (h0 : 0 < n) :
    Calls Try.prog 25 #[.agg #[.int .i64 i, .slice T tn tc], .slice A n c] w fun r w' => AnsR ts ws n w r w' := by
  obtain ⟨w0, hw0⟩ : ∃ w0, w0 = w.alloc (.cells #[.int .i64 i, .slice T tn tc] 24) := ⟨_, rfl⟩
  have hb0 : Below w.heap.size w w0 := by rw [hw0]; exact alloc_below _ _
  have m0 : Bx w0 w.heap.size #[.int .i64 i, .slice T tn tc] 24 := by rw [hw0]; exact bx_new _ _ _
  have HM := Lib.hid (fun (W : World) (h : Below w0.heap.size w0 W) => m0.on h)
  have HT := Lib.hid (fun (W : World) (h : Below w0.heap.size w0 W) => (hT.below hb0).below h)
  have HA := Lib.hid (fun (W : World) (h : Below w0.heap.size w0 W) => (hA.below hb0).below h)
  have HB0 := Lib.hid hb0
  have HW0 := Lib.hid hw0
  have HLT := Lib.hid hT.1
  have HLA := Lib.hid hA.1
  have HF := Lib.hid hF
  have hn := hT.2.1
  have hnb := hA.2.1
  have hn0 : ((n : Int) == 0) = false := by rw [beq_eq_false_iff_ne]; omega
  clear hw0 hb0 m0 hT hA hF
  go_enter Try.func25, Try.ntmps25
  go_wp2
  rw [← HW0.out]
  clear hn0
  go_loopw [6] (fun v6 wr => ∃ p : Nat, v6 = .int .i64 p ∧ p ≤ tn ∧ Hid (∀ a, a < p → ¬ cmn (tIn ts a) ws = ws.length) ∧ Hid (Below w0.heap.size w0 wr)) (fun v6 _ => tn - (intOf v6).toNat)
  case atStart => exact ⟨0, rfl, Nat.zero_le _, Lib.hid (fun a h => absurd h (Nat.not_lt_zero a)), Lib.hid (Below.refl _ _)⟩
  case round =>
    obtain ⟨p, rfl, hp, HP, HBR⟩ := hrel
    have k1 := (HM.out _ HBR.out).cell 1
    simp at k1
    by_cases hlt : p < tn
    · obtain ⟨b, off, A1, n1, c1, A2, n2, c2, rfl, hgb, j1, j2, q1, q2, j3, j4⟩ := (HT.out _ HBR.out).at_ hlt
      have HHP := Lib.hid (rhasprefix A1 A n1 c1 n c (tIn ts p) ws wr j3 (HA.out _ HBR.out))
      have HJ4 := Lib.hid j4
      have hq : n2 = n1 := by rw [← j4.1, ← j3.1]; exact HF.out p (by rw [HLT.out]; exact hlt)
      obtain ⟨f, hf⟩ : ∃ f, f = decide (cmn (tIn ts p) ws = ws.length) := ⟨_, rfl⟩
      rw [← hf] at HHP
      have HFF := Lib.hid hf
      have hnn : f = true → n ≤ n2 := fun h => by
        rw [h] at hf
        have e := of_decide_eq_true hf.symm
        have := cmn_le_left (tIn ts p) ws
        have l1 := j3.1
        have l2 := HLA.out
        omega
      clear j3 j4 hf hq
      cases f
      case false =>
        clear hnn
        go_wp2_with fail
        refine HHP.out.mono ?_
        rintro r w3 ⟨rfl, q3, rfl⟩
        go_wp2_with fail
        go_roundw
        case rel => exact ⟨p + 1, by go_num, by omega, Lib.hid (fun a ha => by
          by_cases e : a = p
          · rw [e]; exact of_decide_eq_false HFF.out.symm
          · exact HP.out a (by omega)), Lib.hid (below_drewN HBR.out q3)⟩
        case measure => simp [intOf]; omega
      case true =>
        have hnn := hnn rfl
        have i1' : (n : Int) ≤ (c2 : Int) := by omega
        have i2' : (0 : Int) ≤ (n : Int) := by omega
        have HTK := Lib.hid (HJ4.out.takeX (t := n) hnn)
        go_wp2_with fail
        refine HHP.out.mono ?_
        rintro r w3 ⟨rfl, q3, rfl⟩
        have HJO := Lib.hid (join_one (c := c2) (HTK.out.drewN q3))
        go_wp2_with fail
        refine HJO.out.mono ?_
        rintro r w4 ⟨A4, c4, rfl, o4, a4⟩
        have hlen : ((tOut ts p).take n).length = n := by rw [List.length_take, HJ4.out.1]; omega
        have HFV := Lib.hid (o4.ints (by rw [hlen]; exact hnb))
        have HB4 := Lib.hid (bt (below_drewN HBR.out q3) a4)
        have HR := Lib.hid (of_decide_eq_true HFF.out.symm)
        clear o4 a4 hlen
        go_wp2_with fail
        go_ret2
        exact ⟨bt HB0.out HB4.out, .inr ⟨p, A4, c4, by rw [HLT.out]; exact hlt, HR.out, rfl, HFV.out⟩⟩
    · obtain rfl : p = tn := by omega
      go_wp2
      go_ret2
      exact ⟨bt HB0.out HBR.out, .inl ⟨rfl, fun a ha => HP.out a (by rw [← HLT.out]; exact ha)⟩⟩
end Go.Proofs.Ytkgdgnmobahhfaa
end

section
/- Apart, the reference: shown. -/
namespace Go.Proofs.Ytkgdgnmobahhfaa
open Go.RowKit

/-- Two words joined. -/
theorem join_two22 {w : World} {A B : Option Addr} {n c m d : Nat} {xs ys : List Int} (h1 : Ints w A n xs) (h2 : Ints w B m ys) (hb : n + m ≤ 1000000) :
    Calls Try.prog 54 #[.slice (some ⟨w.heap.size, 0, none⟩) 2 2] (w.alloc (.cells #[.slice A n c, .slice B m d] 36)) fun e w' => ∃ A' c', e = .returned (.slice A' (n + m) c') ∧ Ints w' A' (n + m) (xs ++ ys) ∧ Below w.heap.size w w' := by
  have e : [xs, ys].flatten = xs ++ ys := by simp
  have hl : (xs ++ ys).length = n + m := by rw [List.length_append, h1.1, h2.1]
  refine (rjoin _ 2 2 [xs, ys] _ (Lists.two h1 h2) (by rw [e, hl]; omega)).mono ?_
  rintro e' w' ⟨v, rfl, ho, hb'⟩
  rw [e] at ho
  obtain ⟨A', c', rfl⟩ := ho.form
  have hi := ho.ints (by rw [hl]; omega)
  rw [hl] at hi ⊢
  exact ⟨A', c', rfl, hi, bt (alloc_below _ _) hb'⟩

/-- The result of shown: a shortest word that shows it, or nothing. -/
def ShR (Q : TSr) (X Y : List Int) (w : World) (r : Ending) (w' : World) : Prop :=
  Below w.heap.size w w' ∧ ((r = .returned (.tuple #[.slice none 0 0, .bool false]) ∧ ∀ x, ¬ Sh1 Q X Y x) ∨
    ∃ (z : List Int) (A' : Option Addr) (c' : Nat), r = .returned (.tuple #[.slice A' z.length c', .bool true]) ∧ Ints w' A' z.length z ∧ Sh1 Q X Y z ∧ ∀ x, Sh1 Q X Y x → z.length ≤ x.length)

set_option linter.unusedSimpArgs false in
set_option linter.unusedVariables false in
set_option maxHeartbeats 8000000 in
set_option maxRecDepth 100000 in
theorem rshown (i : Int) (T X1 X2 V : Option Addr) (tn tc n1 c1 n2 c2 N k e : Nat) (ts : TSr) (xs ys vs : List Int) (w : World) (hT : Trs w T tn ts) (hX : Ints w X1 n1 xs) (hY : Ints w X2 n2 ys) (hV : Ints w V k vs) (hF : Full ts) (hC : Cons ts) (hl : ys.length = xs.length) (hN : N ≤ n1) (h1c : n1 ≤ c1) (hk : k + n1 ≤ 1000000) :
    Calls Try.prog 87 #[.agg #[.int .i64 i, .slice T tn tc], .agg #[.slice X1 n1 c1, .slice X2 n2 c2], .int .i64 N, .slice V k e] w fun r w' => ShR (aftK ts vs tn) (xs.drop N) (ys.drop N) w r w' := by
  obtain ⟨w0, hw0⟩ : ∃ w0, w0 = (w.alloc (.cells #[.int .i64 i, .slice T tn tc] 24)).alloc (.cells #[.slice X1 n1 c1, .slice X2 n2 c2] 38) := ⟨_, rfl⟩
  obtain ⟨hb0, m1, m2, hs0⟩ := bxs2 w #[.int .i64 i, .slice T tn tc] #[.slice X1 n1 c1, .slice X2 n2 c2] 24 38 w0 hw0
  have HM1 := Lib.hid (fun (W : World) (h : Below w0.heap.size w0 W) => m1.on h)
  have HM2 := Lib.hid (fun (W : World) (h : Below w0.heap.size w0 W) => m2.on h)
  have HT := Lib.hid (fun (W : World) (h : Below w0.heap.size w0 W) => (hT.below hb0).below h)
  have HX := Lib.hid (fun (W : World) (h : Below w0.heap.size w0 W) => (hX.below hb0).below h)
  have HY := Lib.hid (fun (W : World) (h : Below w0.heap.size w0 W) => (hY.below hb0).below h)
  have HV := Lib.hid (fun (W : World) (h : Below w0.heap.size w0 W) => (hV.below hb0).below h)
  have HB0 := Lib.hid hb0
  have HW0 := Lib.hid hw0
  have HLT := Lib.hid hT.1
  have HLV := Lib.hid hV.1
  have HF := Lib.hid hF
  have HC := Lib.hid hC
  have HLX := Lib.hid hX.1
  obtain ⟨Q, hQ⟩ : ∃ Q, Q = aftK ts vs tn := ⟨_, rfl⟩
  rw [← hQ]
  have HQ := Lib.hid (show Q = aftK ts vs ts.length by rw [hQ, hT.1])
  clear hQ
  have HLY := Lib.hid hl
  obtain ⟨X, hXX⟩ : ∃ X, X = xs.drop N := ⟨_, rfl⟩
  obtain ⟨Y, hYY⟩ : ∃ Y, Y = ys.drop N := ⟨_, rfl⟩
  rw [← hXX, ← hYY]
  have hXL : X.length = n1 - N := by rw [hXX, List.length_drop, HLX.out]
  have HXL := Lib.hid hXL
  have HXX := Lib.hid hXX
  have HYY := Lib.hid hYY
  have hn2 : n2 = n1 := by rw [← hY.1, ← hX.1, hl]
  subst hn2
  clear hw0 hb0 m1 m2 hs0 hT hX hY hV hF hC hl hXX hYY hXL
  go_enter Try.func87, Try.ntmps87
  go_wp2
  rw [← HW0.out]
  go_loopw [10] (fun v10 wr => ∃ p : Nat, v10 = .int .i64 p ∧ N ≤ p ∧ p ≤ n2 ∧ Hid (Agr ts vs X Y (p - N)) ∧ Hid (Below w0.heap.size w0 wr)) (fun v10 _ => n2 - (intOf v10).toNat)
  case atStart => exact ⟨N, rfl, Nat.le_refl _, hN, Lib.hid (by rw [Nat.sub_self]; exact Agr.zero _ _ _ _), Lib.hid (Below.refl _ _)⟩
  case round =>
    obtain ⟨p, rfl, hNp, hp, HAG, HBR⟩ := hrel
    have x0 := (HM2.out _ HBR.out).cell 0
    have x1 := (HM2.out _ HBR.out).cell 1
    simp at x0 x1
    by_cases hlt : p < n2
    · obtain ⟨bx, ox, rfl, hgx, hcx⟩ := (HX.out _ HBR.out).at_ (k := p) hlt
      obtain ⟨L, hL⟩ : ∃ L, L = p + 1 - N := ⟨_, rfl⟩
      obtain ⟨n', hn'⟩ : ∃ n', n' = k + L := ⟨_, rfl⟩
      obtain ⟨q, hq⟩ : ∃ q, q = k + (p - N) := ⟨_, rfl⟩
      have HL := Lib.hid hL
      have HN' := Lib.hid hn'
      have HQQ := Lib.hid hq
      have hqn : n' ≤ q + 1 ∧ q + 1 ≤ n' := by omega
      have hnk : n' ≤ k + L ∧ k + L ≤ n' := by omega
      have hLp : L + N ≤ p + 1 ∧ p + 1 ≤ L + N := by omega
      have hn0 : 0 < n' := by omega
      have HTL := Lib.hid (show ∀ W, Below w0.heap.size w0 W → Ints W (some ⟨bx, ox + N, none⟩) L (X.take L) from fun W h => by
        have := (HX.out W h).drop hN
        rw [← HXX.out] at this
        exact this.takeX (by omega))
      have w1' : IntKind.i64.wrap ((p : Int) + 1) = (p : Int) + 1 := by rw [IntKind.wrap_i64]; omega
      have i1' : (p : Int) + 1 ≤ (c1 : Int) := by omega
      have i2' : (0 : Int) ≤ (N : Int) := by omega
      have i3' : (N : Int) ≤ (p : Int) + 1 := by omega
      have i4' : ¬ c1 = N := by omega
      clear hgx hcx
      go_upto_region 5 with fail
      rw [← HL.out]
      clear x0 x1 w1' i1' i2' i3' i4' hn' hq hL
      have hbf : Below w0.heap.size w0 wr.drew := below_drewN HBR.out 1
      refine wp_region_heldX (X := fun k => ([] : List Nat).contains k) (S := fun W => Bx W w.heap.size #[.int .i64 i, .slice T tn tc] 24) (by kernel_rfl) ?_
      generalize wr.drew = wd at hbf ⊢
      refine wpAnyX_takeL (L := []) (i := 0) (v := .agg (#[.int .i64 i, .slice T tn tc])) rfl (by kernel_rfl) (by kernel_rfl) (by kernel_rfl) (by kernel_rfl) (fun _ _ _ h => h) (Or.inl ⟨by rfl, fun W hSW => run_load_bx 24 _ rfl (w.heap.size) rfl 24 (#[.int .i64 i, .slice T tn tc]) (0, 0) _ (hSW) Try.underlying24 rfl (by kernel_rfl)⟩) (HM1.out _ hbf) ?_
      (try simp only [Act.put, List.getElem_toArray, List.getElem_cons_zero, List.getElem_cons_succ, List.setIfInBounds_toArray, List.set_cons_zero, List.set_cons_succ])
      refine wpAnyX_pure (i := 1) (v := ?_) rfl (by kernel_rfl) (by kernel_rfl) (by kernel_rfl) (fun _ _ _ h => h) (Or.inl ⟨by rfl, ?_⟩) ?_
      rotate_left
      · (intro W _; go_simp; try with_reducible rfl)
      (try simp only [Act.put, List.getElem_toArray, List.getElem_cons_zero, List.getElem_cons_succ, List.setIfInBounds_toArray, List.set_cons_zero, List.set_cons_succ])
      refine wpAnyX_pure (i := 2) (v := ?_) rfl (by kernel_rfl) (by kernel_rfl) (by kernel_rfl) (fun _ _ _ h => h) (Or.inl ⟨by rfl, ?_⟩) ?_
      rotate_left
      · (intro W _; go_simp; try with_reducible rfl)
      (try simp only [Act.put, List.getElem_toArray, List.getElem_cons_zero, List.getElem_cons_succ, List.setIfInBounds_toArray, List.set_cons_zero, List.set_cons_succ])
      refine wpAnyX_one (i := 3) rfl (by kernel_rfl) (fun K hK => ?_)
      go_simp
      refine hK.out _ _ (fun _ _ => HM1.out _ (bt hbf (alloc_below _ _))) ?_
      (try simp only [Act.put, List.getElem_toArray, List.getElem_cons_zero, List.getElem_cons_succ, List.setIfInBounds_toArray, List.set_cons_zero, List.set_cons_succ])
      refine wpAnyX_one (i := 4) rfl (by kernel_rfl) (fun K hK => ?_)
      go_simp
      go_at_call 54
      refine (join_two22 (HV.out _ hbf) (HTL.out _ hbf) (by omega)).mono ?_
      rintro r w5 ⟨A5, c5, rfl, i5, b5⟩
      rw [← HN'.out] at i5 ⊢
      have hbf := bt hbf b5
      clear b5
      refine hK.out _ _ (fun _ _ => HM1.out _ hbf) ?_
      (try simp only [Act.put, List.getElem_toArray, List.getElem_cons_zero, List.getElem_cons_succ, List.setIfInBounds_toArray, List.set_cons_zero, List.set_cons_succ])
      refine wpAnyX_one (i := 5) rfl (by kernel_rfl) (fun K hK => ?_)
      go_simp
      go_at_call 25
      refine (ranswer16 i T A5 tn tc n' c5 ts (vs ++ X.take L) _ (HT.out _ hbf) HF.out i5 hn0).mono ?_
      rintro r w6 ⟨b6, ⟨rfl, hno⟩ | ⟨a, A6, c6, ha, hc, rfl, i6⟩⟩
      · have hbf := bt hbf b6
        clear b6 i5
        refine hK.out _ _ (fun _ _ => HM1.out _ hbf) ?_
        (try simp only [Act.put, List.getElem_toArray, List.getElem_cons_zero, List.getElem_cons_succ, List.setIfInBounds_toArray, List.set_cons_zero, List.set_cons_succ])
        refine wpAnyX_pure (i := 6) (v := ?_) rfl (by kernel_rfl) (by kernel_rfl) (by kernel_rfl) (fun _ _ _ h => h) (Or.inl ⟨by rfl, ?_⟩) ?_
        rotate_left
        · (intro W _; go_simp; try with_reducible rfl)
        (try simp only [Act.put, List.getElem_toArray, List.getElem_cons_zero, List.getElem_cons_succ, List.setIfInBounds_toArray, List.set_cons_zero, List.set_cons_succ])
        refine wpAnyX_pure (i := 7) (v := ?_) rfl (by kernel_rfl) (by kernel_rfl) (by kernel_rfl) (fun _ _ _ h => h) (Or.inl ⟨by rfl, ?_⟩) ?_
        rotate_left
        · (intro W _; go_simp; try with_reducible rfl)
        (try simp only [Act.put, List.getElem_toArray, List.getElem_cons_zero, List.getElem_cons_succ, List.setIfInBounds_toArray, List.set_cons_zero, List.set_cons_succ])
        refine wpAnyX_pure (i := 8) (v := ?_) rfl (by kernel_rfl) (by kernel_rfl) (by kernel_rfl) (fun _ _ _ h => h) (Or.inl ⟨by rfl, ?_⟩) ?_
        rotate_left
        · (intro W _; go_simp; try with_reducible rfl)
        (try simp only [Act.put, List.getElem_toArray, List.getElem_cons_zero, List.getElem_cons_succ, List.setIfInBounds_toArray, List.set_cons_zero, List.set_cons_succ])
        refine wpAnyX_pure (i := 9) (v := ?_) rfl (by kernel_rfl) (by kernel_rfl) (by kernel_rfl) (fun _ _ _ h => h) (Or.inl ⟨by rfl, ?_⟩) ?_
        rotate_left
        · (intro W _; go_simp; try with_reducible rfl)
        (try simp only [Act.put, List.getElem_toArray, List.getElem_cons_zero, List.getElem_cons_succ, List.setIfInBounds_toArray, List.set_cons_zero, List.set_cons_succ])
        refine wpAnyX_pure (i := 10) (v := ?_) rfl (by kernel_rfl) (by kernel_rfl) (by kernel_rfl) (fun _ _ _ h => h) (Or.inl ⟨by rfl, ?_⟩) ?_
        rotate_left
        · (intro W _; go_simp; try with_reducible rfl)
        (try simp only [Act.put, List.getElem_toArray, List.getElem_cons_zero, List.getElem_cons_succ, List.setIfInBounds_toArray, List.set_cons_zero, List.set_cons_succ])
        refine wpAnyX_done (by kernel_rfl) ?_ _
        have HNO := Lib.hid hno
        have HBF := Lib.hid hbf
        clear hno hbf
        go_wp2_with fail
        go_ret2
        exact ⟨bt HB0.out HBF.out, .inl ⟨rfl, fun x hx => ans_none (m := p - N) HC.out HAG.out (by rw [show p - N + 1 = L by rw [HL.out]; omega]; exact HNO.out) (HQ.out ▸ hx)⟩⟩
      · have hbf := bt hbf b6
        clear b6 i5
        refine hK.out _ _ (fun _ _ => HM1.out _ hbf) ?_
        (try simp only [Act.put, List.getElem_toArray, List.getElem_cons_zero, List.getElem_cons_succ, List.setIfInBounds_toArray, List.set_cons_zero, List.set_cons_succ])
        refine wpAnyX_pure (i := 6) (v := ?_) rfl (by kernel_rfl) (by kernel_rfl) (by kernel_rfl) (fun _ _ _ h => h) (Or.inl ⟨by rfl, ?_⟩) ?_
        rotate_left
        · (intro W _; go_simp; try with_reducible rfl)
        (try simp only [Act.put, List.getElem_toArray, List.getElem_cons_zero, List.getElem_cons_succ, List.setIfInBounds_toArray, List.set_cons_zero, List.set_cons_succ])
        refine wpAnyX_pure (i := 7) (v := ?_) rfl (by kernel_rfl) (by kernel_rfl) (by kernel_rfl) (fun _ _ _ h => h) (Or.inl ⟨by rfl, ?_⟩) ?_
        rotate_left
        · (intro W _; go_simp; try with_reducible rfl)
        (try simp only [Act.put, List.getElem_toArray, List.getElem_cons_zero, List.getElem_cons_succ, List.setIfInBounds_toArray, List.set_cons_zero, List.set_cons_succ])
        refine wpAnyX_pure (i := 8) (v := ?_) rfl (by kernel_rfl) (by kernel_rfl) (by kernel_rfl) (fun _ _ _ h => h) (Or.inl ⟨by rfl, ?_⟩) ?_
        rotate_left
        · (intro W _; go_simp; try with_reducible rfl)
        (try simp only [Act.put, List.getElem_toArray, List.getElem_cons_zero, List.getElem_cons_succ, List.setIfInBounds_toArray, List.set_cons_zero, List.set_cons_succ])
        refine wpAnyX_pure (i := 9) (v := ?_) rfl (by kernel_rfl) (by kernel_rfl) (by kernel_rfl) (fun _ _ _ h => h) (Or.inl ⟨by rfl, ?_⟩) ?_
        rotate_left
        · (intro W _; go_simp; try with_reducible rfl)
        (try simp only [Act.put, List.getElem_toArray, List.getElem_cons_zero, List.getElem_cons_succ, List.setIfInBounds_toArray, List.set_cons_zero, List.set_cons_succ])
        refine wpAnyX_pure (i := 10) (v := ?_) rfl (by kernel_rfl) (by kernel_rfl) (by kernel_rfl) (fun _ _ _ h => h) (Or.inl ⟨by rfl, ?_⟩) ?_
        rotate_left
        · (intro W _; go_simp; try with_reducible rfl)
        (try simp only [Act.put, List.getElem_toArray, List.getElem_cons_zero, List.getElem_cons_succ, List.setIfInBounds_toArray, List.set_cons_zero, List.set_cons_succ])
        refine wpAnyX_done (by kernel_rfl) ?_ _
        obtain ⟨g6, o6, rfl, hg6, hc6⟩ := i6.at_ (k := q) (by omega)
        obtain ⟨g2, o2, rfl, hg2, hc2⟩ := (HY.out _ hbf).at_ (k := p) hlt
        have x1 := (HM2.out _ hbf).cell 1
        simp at x1
        have HAL := Lib.hid (show ((tOut ts a).take n').getD q 0 = (tOut ts a).getD (vs.length + (p - N)) 0 by
          rw [List.getD_eq_getElem?_getD, List.getElem?_take_of_lt (by omega), ← List.getD_eq_getElem?_getD, HQQ.out, HLV.out])
        have HBE := Lib.hid (show ys.getD p 0 = Y.getD (p - N) 0 by rw [HYY.out, getD_drop]; congr 1; omega)
        obtain ⟨α, hα⟩ : ∃ α, α = ((tOut ts a).take n').getD q 0 := ⟨_, rfl⟩
        obtain ⟨β, hβ⟩ : ∃ β, β = ys.getD p 0 := ⟨_, rfl⟩
        rw [← hα] at hc6 HAL
        rw [← hβ] at hc2 HBE
        have HBF := Lib.hid hbf
        have HCC := Lib.hid (show cmn (tIn ts a) (vs ++ X.take (p - N + 1)) = (vs ++ X.take (p - N + 1)).length by rw [show p - N + 1 = L by rw [HL.out]; omega]; exact hc)
        have w2' : IntKind.i64.wrap ((n' : Int) - 1) = (q : Int) := by rw [IntKind.wrap_i64]; omega
        have b1' : (q : Int) < (n' : Int) := by omega
        have b2' : (0 : Int) ≤ (q : Int) := by omega
        have b3' : (p : Int) < (n2 : Int) := by omega
        have b4' : (0 : Int) ≤ (p : Int) := by omega
        clear hα hβ i6 hc hbf hg6 hg2
        by_cases hd : α = β
        · have hne : (α != β) = false := by rw [bne_eq_false_iff_eq]; exact hd
          have HD := Lib.hid (show (tOut ts a).getD (vs.length + (p - N)) 0 = Y.getD (p - N) 0 by rw [← HAL.out, ← HBE.out]; exact hd)
          go_upto_region 8 with fail
          go_region
          have w1' : IntKind.i64.wrap ((p : Int) + 1) = (p : Int) + 1 := by rw [IntKind.wrap_i64]; omega
          go_wp2_with fail
          go_roundw
          case rel => exact ⟨p + 1, by go_num, by omega, by omega, Lib.hid (by rw [show p + 1 - N = p - N + 1 by omega]; exact HAG.out.step ha HCC.out HD.out), Lib.hid (below_drewN HBF.out 1)⟩
          case measure => simp [intOf]; omega
        · have hne : (α != β) = true := by rw [bne_iff_ne]; exact hd
          have HD := Lib.hid (show ¬ (tOut ts a).getD (vs.length + (p - N)) 0 = Y.getD (p - N) 0 by rw [← HAL.out, ← HBE.out]; exact hd)
          have hzl : (X.take L).length = L := by rw [List.length_take, HXL.out]; omega
          have HZL := Lib.hid hzl
          have HJO := Lib.hid (join_one (c := c1 - N) ((HTL.out _ HBF.out).drewN 1))
          clear hzl
          go_upto_region 8 with fail
          go_region
          go_wp2_with fail
          refine HJO.out.mono ?_
          rintro r w7 ⟨A7, c7, rfl, o7, a7⟩
          have HI7 := Lib.hid (o7.ints (by rw [HZL.out]; omega))
          have HB7 := Lib.hid (bt (below_drewN HBF.out 1) a7)
          clear o7 a7
          go_wp2_with fail
          go_ret2
          refine ⟨bt HB0.out HB7.out, .inr ⟨X.take L, A7, c7, ?_, ?_, ?_, ?_⟩⟩
          · rw [HZL.out]; rfl
          · rw [HZL.out]; exact HI7.out
          · have := ans_diff (by rw [HXL.out]; omega) ha HCC.out HD.out
            rw [show p - N + 1 = L by rw [HL.out]; omega, ← HQ.out] at this
            exact this
          · intro x hx
            have := agr_no HC.out HAG.out (HQ.out ▸ hx)
            rw [HZL.out]
            omega
    · obtain rfl : p = n2 := by omega
      go_wp2
      go_ret2
      exact ⟨bt HB0.out HBR.out, .inl ⟨rfl, fun x hx => by
        have h1 := agr_no HC.out HAG.out (HQ.out ▸ hx)
        obtain ⟨_, _, _, _, h2, _⟩ := sh1_of (HQ.out ▸ hx)
        have := HXL.out
        omega⟩⟩
end Go.Proofs.Ytkgdgnmobahhfaa
end

section
/- The law HypothesisLower: the walk. -/
namespace Go.Proofs.Ytkgdgnmobahhfaa
open Go.RowKit

theorem join_at22 {w : World} {A B : Option Addr} {n c m d L : Nat} {xs ys : List Int} (h1 : Ints w A n xs) (h2 : Ints w B m ys) (hb : n + m ≤ 1000000) (hL : n + m = L) :
    Calls Try.prog 54 #[.slice (some ⟨w.heap.size, 0, none⟩) 2 2] (w.alloc (.cells #[.slice A n c, .slice B m d] 36)) fun e w' => ∃ A' c', e = .returned (.slice A' L c') ∧ Ints w' A' L (xs ++ ys) ∧ Below w.heap.size w w' := by
  subst hL
  exact join_two22 h1 h2 hb
/-- The answer to a word that is known, of a machine. -/
theorem ans_of {i st n : Nat} {nx ot : List (List Int)} {ts : List (List Int × List Int)} {ws : List Int} {w w' : World} {r : Ending} (h : AnsP ts ws n w r w') (hO : OfM i st nx ot ts) (hk : knw ts ws ts.length = ws.length) (hl : ws.length = n) (h0 : 0 < n) :
    ∃ A' c', r = .returned (.tuple #[.slice A' n c', .bool true]) ∧ Owned w' w.heap.size (.slice A' n c') (runO nx ot st ws) ∧ Below w.heap.size w w' := by
  obtain ⟨hb, h⟩ := h
  rcases h with ⟨_, h⟩ | ⟨_, h⟩ | ⟨a, A', c', _, ha, hc, rfl, _, ho⟩
  · omega
  · omega
  · subst hl
    rw [of_take hO ha hc] at ho
    exact ⟨A', c', rfl, ho, hb⟩
theorem adds_of {i st : Nat} {nx ot : List (List Int)} {us ts ts' : List (List Int × List Int)} (h : AddsR i us ts 0 ts') (h0 : OfM i st nx ot ts) (hu : ∀ u, u ∈ us → u.2 = runO nx ot st u.1 ∧ chk u.1 i = 0) : OfM i st nx ot ts' :=
  h.all (q := fun a b => b = runO nx ot st a ∧ ∀ x, x ∈ a → 0 ≤ x ∧ x < (i : Int)) h0 fun u hm _ => ⟨(hu u hm).1, fun x hx => by
    obtain ⟨j, hj, e⟩ := List.getElem_of_mem hx
    have := (chk_zero (hu u hm).2).2.2.2 j hj
    rw [List.getD_eq_getElem?_getD, List.getElem?_eq_getElem hj, e] at this
    exact this⟩

set_option linter.unusedSimpArgs false in
set_option linter.unusedVariables false in
set_option maxHeartbeats 16000000 in
set_option maxRecDepth 100000 in
theorem lower22_walk (i st : Int) (A B C D : Option Addr) (n c m d p e q f : Nat) (nx ot ws ls : List (List Int)) (w : World) (hx : Lists w A n nx) (ho : Lists w B m ot) (hW : Lists w C p ws) (hL : Lists w D q ls) :
    Calls Try.prog 14 #[.agg #[.int .i64 i, .int .i64 st, .slice A n c, .slice B m d], .slice C p e, .slice D q f] w fun r w' => r = .returned (.bool true) ∧ Below w.heap.size w w' := by
  obtain ⟨w0, hw0⟩ : ∃ w0, w0 = w.alloc (.cells #[.int .i64 i, .int .i64 st, .slice A n c, .slice B m d] 56) := ⟨_, rfl⟩
  have hb0 : Below w.heap.size w w0 := by rw [hw0]; exact alloc_below _ _
  have m0 : Bx w0 w.heap.size #[.int .i64 i, .int .i64 st, .slice A n c, .slice B m d] 56 := by rw [hw0]; exact bx_new _ _ _
  have HX := Lib.hid (fun (W : World) (h : Below w0.heap.size w0 W) => (hx.below hb0).below h)
  have HO := Lib.hid (fun (W : World) (h : Below w0.heap.size w0 W) => (ho.below hb0).below h)
  have HW := Lib.hid (fun (W : World) (h : Below w0.heap.size w0 W) => (hW.below hb0).below h)
  have HL := Lib.hid (fun (W : World) (h : Below w0.heap.size w0 W) => (hL.below hb0).below h)
  have HM := Lib.hid (fun (W : World) (h : Below w0.heap.size w0 W) => m0.on h)
  have HB0 := Lib.hid hb0
  have HW0 := Lib.hid hw0
  have HLW := Lib.hid hW.1
  have HLL := Lib.hid hL.1
  have HLX := Lib.hid hx.1
  have hbc := Below.refl w0.heap.size w0
  have l0 := (HM.out _ hbc).cell 0
  have l1 := (HM.out _ hbc).cell 1
  have l2 := (HM.out _ hbc).cell 2
  have l3 := (HM.out _ hbc).cell 3
  simp at l0 l1 l2 l3
  rw [HW0.out] at l0 l1 l2 l3
  clear hw0 hb0 m0 hx ho hW hL
  go_enter Try.func14, Try.ntmps14
  go_wp2_with fail
  rw [← HW0.out]
  obtain ⟨b1, hb1⟩ : ∃ b1, b1 = decide (40 < n ∨ 40 < m ∨ 20 < i) := ⟨_, rfl⟩
  refine (rgreatm i st A B n c m d b1 w0 hb1).mono ?_
  rintro r w1 ⟨rfl, a1⟩
  have HG := Lib.hid hb1
  have hbc := bt hbc a1
  clear a1 l0 l1 l2 l3 hb1
  cases b1
  case true =>
    go_wp2_with fail
    refine (awake22 _).mono ?_
    rintro r w9 ⟨rfl, a9⟩
    go_wp2
    go_ret
    exact ⟨rfl, bt HB0.out (bt hbc a9)⟩
  by_cases h60 : 60 < p
  · have h60' : (60 : Int) < (p : Int) := by omega
    go_wp2_with fail
    refine (awake22 _).mono ?_
    rintro r w9 ⟨rfl, a9⟩
    go_wp2
    go_ret
    exact ⟨rfl, bt HB0.out (bt hbc a9)⟩
  have h60' : ¬ (60 : Int) < (p : Int) := by omega
  go_wp2_with fail
  refine (plong C p e ws w1 (HW.out _ hbc)).mono ?_
  rintro r w2 ⟨⟨b2, rfl, hP⟩, rfl⟩
  cases b2
  case true =>
    clear hP
    go_wp2_with fail
    refine (awake22 _).mono ?_
    rintro r w9 ⟨rfl, a9⟩
    go_wp2
    go_ret
    exact ⟨rfl, bt HB0.out (bt hbc a9)⟩
  have HP := Lib.hid (hP rfl)
  clear hP
  by_cases h12 : 12 < q
  · have h12' : (12 : Int) < (q : Int) := by omega
    go_wp2_with fail
    refine (awake22 _).mono ?_
    rintro r w9 ⟨rfl, a9⟩
    go_wp2
    go_ret
    exact ⟨rfl, bt HB0.out (bt hbc a9)⟩
  have h12' : ¬ (12 : Int) < (q : Int) := by omega
  go_wp2_with fail
  refine (plong D q f ls w1 (HL.out _ hbc)).mono ?_
  rintro r w2 ⟨⟨b3, rfl, hP⟩, rfl⟩
  cases b3
  case true =>
    clear hP
    go_wp2_with fail
    refine (awake22 _).mono ?_
    rintro r w9 ⟨rfl, a9⟩
    go_wp2
    go_ret
    exact ⟨rfl, bt HB0.out (bt hbc a9)⟩
  have HQ := Lib.hid (hP rfl)
  clear hP
  have l0 := (HM.out _ hbc).cell 0
  have l1 := (HM.out _ hbc).cell 1
  have l2 := (HM.out _ hbc).cell 2
  have l3 := (HM.out _ hbc).cell 3
  simp at l0 l1 l2 l3
  by_cases hv : vld i st nx ot = 0
  case neg =>
    have HV := Lib.hid hv
    have HBC := Lib.hid hbc
    have HPB := Lib.hid (pof_bad i st A B C n c m d p e nx ot _ w1 (HX.out _ hbc) (HO.out _ hbc) rfl hv)
    clear hv hbc
    go_wp2_with fail
    refine HPB.out.mono ?_
    rintro r w4 ⟨b4, e4, ts4, he4, hr4⟩
    clear l0 l1 l2 l3
    rcases he4 with ⟨h5, h6⟩ | ⟨h5, _⟩
    case inr => exact absurd h5 HV.out
    rw [← h6] at h5
    rcases hr4 with ⟨_, rfl⟩ | ⟨h7, _⟩
    case inr => exact absurd h7 h5
    have hne : (e4 != 0) = true := by simpa using h5
    have HB4 := Lib.hid (bt (bt HBC.out b4) (alloc_below w4 (.cells #[.int .i64 0, .slice none 0 0] 24)))
    clear h5 h6 b4
    go_wp2_with fail
    refine (awake22 _).mono ?_
    rintro r w9 ⟨rfl, a9⟩
    go_wp2
    go_ret
    exact ⟨rfl, bt HB0.out (bt HB4.out a9)⟩
  obtain ⟨i, st, n', rfl, rfl, hMok⟩ := vld_zero hv
  clear hv
  obtain rfl : n' = n := by have := hMok.nxl; rw [HLX.out] at this; exact this.symm
  obtain rfl : m = n' := by have := hMok.otl; rw [(HO.out _ hbc).1] at this; exact this
  have HMK := Lib.hid hMok
  obtain ⟨us, hus⟩ : ∃ us, us = (trs i st nx ot ws []).1 := ⟨_, rfl⟩
  obtain ⟨E, hE⟩ : ∃ E, E = (trs i st nx ot ws []).2 := ⟨_, rfl⟩
  have HUM := Lib.hid (show ∀ u, u ∈ us → u.2 = runO nx ot st u.1 ∧ chk u.1 i = 0 by rw [hus]; exact fun u hu => (trs_mem (ws := ws) ws [] (fun _ h => h) (fun u hu => absurd hu (by simp)) u hu).2)
  have HPO := Lib.hid (pof_ok i st m A B C c d p e nx ot ws w1 (HX.out _ hbc) (HO.out _ hbc) hMok (HW.out _ hbc) (by omega) (fun x hx => by have := HP.out.2 x hx; omega))
  rw [← hus, ← hE] at HPO
  clear hus hE hMok
  have HBC := Lib.hid hbc
  clear hbc
  go_wp2_with fail
  refine HPO.out.mono ?_
  rintro r w4 ⟨b4, e4, ts, he4, hr4⟩
  clear l0 l1 l2 l3 HPO
  rcases hr4 with ⟨h5, rfl⟩ | ⟨rfl, g, N, cur, rfl, hT4⟩
  · have hne : (e4 != 0) = true := by simpa using h5
    have HB4 := Lib.hid (bt (bt HBC.out b4) (alloc_below w4 (.cells #[.int .i64 0, .slice none 0 0] 24)))
    clear h5 b4 he4
    go_wp2_with fail
    refine (awake22 _).mono ?_
    rintro r w9 ⟨rfl, a9⟩
    go_wp2
    go_ret
    exact ⟨rfl, bt HB0.out (bt HB4.out a9)⟩
  have hA : AddsR i us [] 0 ts := by
    rcases he4 with ⟨h5, h6⟩ | ⟨_, h⟩
    · exact absurd h6.symm h5
    · exact h
  clear he4
  have HOM := Lib.hid (adds_of hA (fun j hj => absurd hj (by simp)) HUM.out)
  have HSS := Lib.hid (hA.srt srt_none)
  have HPP := Lib.hid (hA.props (fun j hj => absurd hj (by simp)))
  have HFF := Lib.hid (of_full HOM.out)
  have HCC := Lib.hid (of_cons HOM.out)
  clear hA
  obtain ⟨tn, htn⟩ : ∃ tn, tn = ts.length := ⟨_, rfl⟩
  rw [← htn]
  have htN : tn ≤ N := by rw [htn]; exact hT4.le
  have hNc : N ≤ 1000000 := hT4.cap
  have HTN := Lib.hid htn
  clear htn
  obtain ⟨w5, hw5⟩ : ∃ w5, w5 = w4.alloc (.cells #[.int .i64 (i : Int), .slice (some ⟨g, 0, none⟩) tn N] 24) := ⟨_, rfl⟩
  obtain ⟨b7, hb7⟩ : ∃ b7, b7 = w4.heap.size := ⟨_, rfl⟩
  have hal : Below w4.heap.size w4 w5 := by rw [hw5]; exact alloc_below _ _
  have m5 : Bx w5 b7 #[.int .i64 (i : Int), .slice (some ⟨g, 0, none⟩) tn N] 24 := by rw [hw5, hb7]; exact bx_new _ _ _
  have HB5 := Lib.hid (bt (bt HBC.out b4) hal)
  have HM5 := Lib.hid (fun (W : World) (h : Below w5.heap.size w5 W) => m5.on h)
  have HT5 := Lib.hid (fun (W : World) (h : Below w5.heap.size w5 W) => ((hT4.below hal).below h).trs)
  rw [← HTN.out] at HT5
  have HW5 := Lib.hid hw5
  have HB7 := Lib.hid hb7
  have HS6 := Lib.hid (show ∀ W, Below w5.heap.size w5 W → Bx W w.heap.size #[.int .i64 (i : Int), .int .i64 (st : Int), .slice A m c, .slice B m d] 56 ∧ Bx W b7 #[.int .i64 (i : Int), .slice (some ⟨g, 0, none⟩) tn N] 24 from fun W h => ⟨HM.out _ (bt HB5.out h), m5.on h⟩)
  clear hw5 hb7 hal m5 hT4 b4
  go_upto_region 6 with fail
  rw [← HW5.out, ← HB7.out]
  have hbf : Below w5.heap.size w5 w5.drew := below_drewN (Below.refl _ _) 1
  refine wp_region_heldX (X := fun k => ([] : List Nat).contains k) (S := fun W => Bx W w.heap.size #[.int .i64 (i : Int), .int .i64 (st : Int), .slice A m c, .slice B m d] 56 ∧ Bx W b7 #[.int .i64 (i : Int), .slice (some ⟨g, 0, none⟩) tn N] 24) (by kernel_rfl) ?_
  generalize w5.drew = wkd at hbf ⊢
  refine wpAnyX_takeL (L := []) (i := 0) (v := .agg (#[.int .i64 (i : Int), .slice (some ⟨g, 0, none⟩) tn N])) rfl (by kernel_rfl) (by kernel_rfl) (by kernel_rfl) (by kernel_rfl) (fun _ _ _ h => h) (Or.inl ⟨by rfl, fun W hSW => run_load_bx 24 _ rfl (b7) rfl 24 (#[.int .i64 (i : Int), .slice (some ⟨g, 0, none⟩) tn N]) (0, 0) _ (hSW.2) Try.underlying24 rfl (by kernel_rfl)⟩) (HS6.out _ hbf) ?_
  (try simp only [Act.put, List.getElem_toArray, List.getElem_cons_zero, List.getElem_cons_succ, List.setIfInBounds_toArray, List.set_cons_zero, List.set_cons_succ])
  refine wpAnyX_pure (i := 1) (v := ?_) rfl (by kernel_rfl) (by kernel_rfl) (by kernel_rfl) (fun _ _ _ h => h) (Or.inl ⟨by rfl, ?_⟩) ?_
  rotate_left
  · (intro W _; go_simp; try with_reducible rfl)
  (try simp only [Act.put, List.getElem_toArray, List.getElem_cons_zero, List.getElem_cons_succ, List.setIfInBounds_toArray, List.set_cons_zero, List.set_cons_succ])
  refine wpAnyX_takeL (L := []) (i := 3) (v := .agg (#[.int .i64 (i : Int), .int .i64 (st : Int), .slice A m c, .slice B m d])) rfl (by kernel_rfl) (by kernel_rfl) (by kernel_rfl) (by kernel_rfl) (fun _ _ _ h => h) (Or.inl ⟨by rfl, fun W hSW => run_load_bx 56 _ rfl (w.heap.size) rfl 56 (#[.int .i64 (i : Int), .int .i64 (st : Int), .slice A m c, .slice B m d]) (0, 0) _ (hSW.1) Try.underlying56 rfl (by kernel_rfl)⟩) (HS6.out _ hbf) ?_
  (try simp only [Act.put, List.getElem_toArray, List.getElem_cons_zero, List.getElem_cons_succ, List.setIfInBounds_toArray, List.set_cons_zero, List.set_cons_succ])
  refine wpAnyX_one (i := 2) rfl (by kernel_rfl) (fun K hK => ?_)
  go_simp
  go_at_call 50
  refine (plower (i : Int) (some ⟨g, 0, none⟩) D tn N q f ts ls _ (HT5.out _ hbf) (HL.out _ (bt HB5.out hbf)) HSS.out HFF.out HCC.out HPP.out (by omega) (by omega)).mono ?_
  rintro r u1 ⟨rfl, b9⟩
  have hbf := bt hbf b9
  clear b9
  obtain ⟨K1, hK1⟩ : ∃ K1, K1 = (kepK ts ls q).length := ⟨_, rfl⟩
  rw [← hK1]
  have HK1 := Lib.hid hK1
  clear hK1
  refine hK.out _ _ (fun _ _ => HS6.out _ hbf) ?_
  (try simp only [Act.put, List.getElem_toArray, List.getElem_cons_zero, List.getElem_cons_succ, List.setIfInBounds_toArray, List.set_cons_zero, List.set_cons_succ])
  refine wpAnyX_one (i := 4) rfl (by kernel_rfl) (fun K hK => ?_)
  go_simp
  go_at_call 53
  refine (preach_ok i st m A B c d nx ot _ (HX.out _ (bt HB5.out hbf)) (HO.out _ (bt HB5.out hbf)) HMK.out).mono ?_
  rintro r u2 ⟨A2, c2, rfl, _, b9⟩
  have hbf := bt hbf b9
  clear b9
  obtain ⟨K2, hK2⟩ : ∃ K2, K2 = (rch nx i st).length := ⟨_, rfl⟩
  rw [← hK2]
  have hK12 : K1 ≤ K2 := by rw [HK1.out, hK2]; exact low_le HMK.out HOM.out q
  clear hK2
  have hK12' : ¬ (K2 : Int) < (K1 : Int) := by omega
  refine hK.out _ _ (fun _ _ => HS6.out _ hbf) ?_
  (try simp only [Act.put, List.getElem_toArray, List.getElem_cons_zero, List.getElem_cons_succ, List.setIfInBounds_toArray, List.set_cons_zero, List.set_cons_succ])
  refine wpAnyX_pure (i := 5) (v := ?_) rfl (by kernel_rfl) (by kernel_rfl) (by kernel_rfl) (fun _ _ _ h => h) (Or.inl ⟨by rfl, ?_⟩) ?_
  rotate_left
  · (intro W _; go_simp; try with_reducible rfl)
  (try simp only [Act.put, List.getElem_toArray, List.getElem_cons_zero, List.getElem_cons_succ, List.setIfInBounds_toArray, List.set_cons_zero, List.set_cons_succ])
  refine wpAnyX_pure (i := 6) (v := ?_) rfl (by kernel_rfl) (by kernel_rfl) (by kernel_rfl) (fun _ _ _ h => h) (Or.inl ⟨by rfl, ?_⟩) ?_
  rotate_left
  · (intro W _; go_simp; try with_reducible rfl)
  (try simp only [Act.put, List.getElem_toArray, List.getElem_cons_zero, List.getElem_cons_succ, List.setIfInBounds_toArray, List.set_cons_zero, List.set_cons_succ])
  refine wpAnyX_done (by kernel_rfl) ?_ _
  have HBR := Lib.hid hbf
  clear hbf
  go_wp2_with fail
  go_loopw [9] (fun v9 wr => ∃ s : Nat, v9 = .int .i64 s ∧ 1 ≤ s ∧ s ≤ q + 1 ∧ Hid (Below w5.heap.size w5 wr)) (fun v9 _ => q - (intOf v9).toNat)
  case atStart => exact ⟨1, rfl, Nat.le_refl _, by omega, HBR⟩
  case round =>
    clear HBR
    obtain ⟨s, rfl, hs1, hsq, HBR⟩ := hrel
    by_cases hlt : s < q
    · obtain ⟨t, ht⟩ : ∃ t, t = s - 1 := ⟨_, rfl⟩
      have htq : t < q := by omega
      obtain ⟨b, off, Us, un, uc, eD, hgb, i1, i2⟩ := (HL.out _ HB5.out).at_ htq
      subst eD
      obtain ⟨_, _, Vs, vn, vc, eC, _, j1, j2⟩ := (HL.out _ HB5.out).at_ hlt
      cases eC
      obtain ⟨xu, hxu⟩ : ∃ xu, xu = ls.getD t [] := ⟨_, rfl⟩
      obtain ⟨xv, hxv⟩ : ∃ xv, xv = ls.getD s [] := ⟨_, rfl⟩
      rw [← hxu] at i2
      rw [← hxv] at j2
      have hun : un ≤ 200 := by
        have := HQ.out.2 (ls.getD t []) (by rw [List.getD_eq_getElem?_getD, List.getElem?_eq_getElem (by rw [HLL.out]; exact htq)]; exact List.getElem_mem _)
        rw [← hxu, i2.1] at this; exact this
      have hvn : vn ≤ 200 := by
        have := HQ.out.2 (ls.getD s []) (by rw [List.getD_eq_getElem?_getD, List.getElem?_eq_getElem (by rw [HLL.out]; exact hlt)]; exact List.getElem_mem _)
        rw [← hxv, j2.1] at this; exact this
      have HUI := Lib.hid (fun (W : World) (h : Below w5.heap.size w5 W) => i2.below h)
      have HVI := Lib.hid (fun (W : World) (h : Below w5.heap.size w5 W) => j2.below h)
      have HUL := Lib.hid i2.1
      have HVL := Lib.hid j2.1
      have HS := Lib.hid (show ∀ W, Below w5.heap.size w5 W → Bx W b7 #[.int .i64 (i : Int), .slice (some ⟨g, 0, none⟩) tn N] 24 ∧ W.cell? ⟨b, off + t, none⟩ = some (.slice Us un uc) ∧ W.cell? ⟨b, off + s, none⟩ = some (.slice Vs vn vc) from fun W h => ⟨HM5.out _ h, (h.cell (p := ⟨b, off + t, none⟩) hgb).trans i1, (h.cell (p := ⟨b, off + s, none⟩) hgb).trans j1⟩)
      have w1' : IntKind.i64.wrap ((s : Int) - 1) = (t : Int) := by rw [IntKind.wrap_i64]; omega
      have htI : (t : Int) < (q : Int) := by omega
      have hsI : (s : Int) < (q : Int) := by omega
      have ht0 : (0 : Int) ≤ (t : Int) := by omega
      have hs0 : (0 : Int) ≤ (s : Int) := by omega
      have wsn : IntKind.i64.wrap ((s : Int) + 1) = ((s + 1 : Nat) : Int) := by rw [IntKind.wrap_i64]; omega
      clear i1 i2 j1 j2 hxu hxv hgb ht
      go_upto_region 11 with fail
      have hbf : Below w5.heap.size w5 wr.drew := below_drewN HBR.out 1
      refine wp_region_heldX (X := fun k => ([] : List Nat).contains k) (S := fun W => Bx W b7 #[.int .i64 (i : Int), .slice (some ⟨g, 0, none⟩) tn N] 24 ∧ W.cell? ⟨b, off + t, none⟩ = some (.slice Us un uc) ∧ W.cell? ⟨b, off + s, none⟩ = some (.slice Vs vn vc)) (by kernel_rfl) ?_
      generalize wr.drew = wkd at hbf ⊢
      refine wpAnyX_takeL (L := []) (i := 0) (v := .agg (#[.int .i64 (i : Int), .slice (some ⟨g, 0, none⟩) tn N])) rfl (by kernel_rfl) (by kernel_rfl) (by kernel_rfl) (by kernel_rfl) (fun _ _ _ h => h) (Or.inl ⟨by rfl, fun W hSW => run_load_bx 24 _ rfl (b7) rfl 24 (#[.int .i64 (i : Int), .slice (some ⟨g, 0, none⟩) tn N]) (0, 0) _ (hSW.1) Try.underlying24 rfl (by kernel_rfl)⟩) (HS.out _ hbf) ?_
      (try simp only [Act.put, List.getElem_toArray, List.getElem_cons_zero, List.getElem_cons_succ, List.setIfInBounds_toArray, List.set_cons_zero, List.set_cons_succ])
      refine wpAnyX_pure (i := 1) (v := ?_) rfl (by kernel_rfl) (by kernel_rfl) (by kernel_rfl) (fun _ _ _ h => h) (Or.inl ⟨by rfl, ?_⟩) ?_
      rotate_left
      · (intro W _; go_simp; try with_reducible rfl)
      (try simp only [Act.put, List.getElem_toArray, List.getElem_cons_zero, List.getElem_cons_succ, List.setIfInBounds_toArray, List.set_cons_zero, List.set_cons_succ])
      refine wpAnyX_pure (i := 2) (v := ?_) rfl (by kernel_rfl) (by kernel_rfl) (by kernel_rfl) (fun _ _ _ h => h) (Or.inl ⟨by rfl, ?_⟩) ?_
      rotate_left
      · (intro W _; go_simp; try with_reducible rfl)
      (try simp only [Act.put, List.getElem_toArray, List.getElem_cons_zero, List.getElem_cons_succ, List.setIfInBounds_toArray, List.set_cons_zero, List.set_cons_succ])
      refine wpAnyX_pure (i := 3) (v := ?_) rfl (by kernel_rfl) (by kernel_rfl) (by kernel_rfl) (fun _ _ _ h => h) (Or.inl ⟨by rfl, ?_⟩) ?_
      rotate_left
      · (intro W _; go_simp; try with_reducible rfl)
      (try simp only [Act.put, List.getElem_toArray, List.getElem_cons_zero, List.getElem_cons_succ, List.setIfInBounds_toArray, List.set_cons_zero, List.set_cons_succ])
      refine wpAnyX_pure (i := 4) (v := ?_) rfl (by kernel_rfl) (by kernel_rfl) (by kernel_rfl) (fun _ _ _ h => h) (Or.inl ⟨by rfl, ?_⟩) ?_
      rotate_left
      · (intro W _; go_simp; try with_reducible rfl)
      (try simp only [Act.put, List.getElem_toArray, List.getElem_cons_zero, List.getElem_cons_succ, List.setIfInBounds_toArray, List.set_cons_zero, List.set_cons_succ])
      refine wpAnyX_takeL (L := []) (i := 5) (v := ?_) rfl (by kernel_rfl) (by kernel_rfl) (by kernel_rfl) (by kernel_rfl) (fun _ _ _ h => h) (Or.inl ⟨by rfl, ?_⟩) (HS.out _ hbf) ?_
      rotate_left
      · (intro W hSW; (try dsimp only at hSW); obtain ⟨z0, z1, z2⟩ := hSW; go_simp; try with_reducible rfl)
      (try simp only [Act.put, List.getElem_toArray, List.getElem_cons_zero, List.getElem_cons_succ, List.setIfInBounds_toArray, List.set_cons_zero, List.set_cons_succ])
      refine wpAnyX_pure (i := 6) (v := ?_) rfl (by kernel_rfl) (by kernel_rfl) (by kernel_rfl) (fun _ _ _ h => h) (Or.inl ⟨by rfl, ?_⟩) ?_
      rotate_left
      · (intro W _; go_simp; try with_reducible rfl)
      (try simp only [Act.put, List.getElem_toArray, List.getElem_cons_zero, List.getElem_cons_succ, List.setIfInBounds_toArray, List.set_cons_zero, List.set_cons_succ])
      refine wpAnyX_pure (i := 7) (v := ?_) rfl (by kernel_rfl) (by kernel_rfl) (by kernel_rfl) (fun _ _ _ h => h) (Or.inl ⟨by rfl, ?_⟩) ?_
      rotate_left
      · (intro W _; go_simp; try with_reducible rfl)
      (try simp only [Act.put, List.getElem_toArray, List.getElem_cons_zero, List.getElem_cons_succ, List.setIfInBounds_toArray, List.set_cons_zero, List.set_cons_succ])
      refine wpAnyX_pure (i := 8) (v := ?_) rfl (by kernel_rfl) (by kernel_rfl) (by kernel_rfl) (fun _ _ _ h => h) (Or.inl ⟨by rfl, ?_⟩) ?_
      rotate_left
      · (intro W _; go_simp; try with_reducible rfl)
      (try simp only [Act.put, List.getElem_toArray, List.getElem_cons_zero, List.getElem_cons_succ, List.setIfInBounds_toArray, List.set_cons_zero, List.set_cons_succ])
      refine wpAnyX_takeL (L := []) (i := 9) (v := ?_) rfl (by kernel_rfl) (by kernel_rfl) (by kernel_rfl) (by kernel_rfl) (fun _ _ _ h => h) (Or.inl ⟨by rfl, ?_⟩) (HS.out _ hbf) ?_
      rotate_left
      · (intro W hSW; (try dsimp only at hSW); obtain ⟨z0, z1, z2⟩ := hSW; go_simp; try with_reducible rfl)
      (try simp only [Act.put, List.getElem_toArray, List.getElem_cons_zero, List.getElem_cons_succ, List.setIfInBounds_toArray, List.set_cons_zero, List.set_cons_succ])
      refine wpAnyX_one (i := 10) rfl (by kernel_rfl) (fun K hK => ?_)
      go_simp
      go_at_call 48
      refine (papart (i : Int) (some ⟨g, 0, none⟩) Us Vs tn N un uc vn vc ts xu xv _ (HT5.out _ hbf) (HUI.out _ hbf) (HVI.out _ hbf) HFF.out HSS.out HCC.out HPP.out (by omega)).mono ?_
      rintro r w6 ⟨A5, n5, c5, xs, rfl, hf5, hi5, hq5, b5⟩
      have HXI := Lib.hid (fun (W : World) (h : Below w6.heap.size w6 W) => hi5.below h)
      have HF5 := Lib.hid hf5
      have HQ5 := Lib.hid hq5
      have HXL := Lib.hid hi5.1
      have hbf := bt hbf b5
      clear b5 hi5 hf5 hq5
      refine hK.out _ _ (fun _ _ => HS.out _ hbf) ?_
      (try simp only [Act.put, List.getElem_toArray, List.getElem_cons_zero, List.getElem_cons_succ, List.setIfInBounds_toArray, List.set_cons_zero, List.set_cons_succ])
      refine wpAnyX_pure (i := 11) (v := ?_) rfl (by kernel_rfl) (by kernel_rfl) (by kernel_rfl) (fun _ _ _ h => h) (Or.inl ⟨by rfl, ?_⟩) ?_
      rotate_left
      · (intro W _; go_simp; try with_reducible rfl)
      (try simp only [Act.put, List.getElem_toArray, List.getElem_cons_zero, List.getElem_cons_succ, List.setIfInBounds_toArray, List.set_cons_zero, List.set_cons_succ])
      refine wpAnyX_pure (i := 12) (v := ?_) rfl (by kernel_rfl) (by kernel_rfl) (by kernel_rfl) (fun _ _ _ h => h) (Or.inl ⟨by rfl, ?_⟩) ?_
      rotate_left
      · (intro W _; go_simp; try with_reducible rfl)
      (try simp only [Act.put, List.getElem_toArray, List.getElem_cons_zero, List.getElem_cons_succ, List.setIfInBounds_toArray, List.set_cons_zero, List.set_cons_succ])
      refine wpAnyX_pure (i := 13) (v := ?_) rfl (by kernel_rfl) (by kernel_rfl) (by kernel_rfl) (fun _ _ _ h => h) (Or.inl ⟨by rfl, ?_⟩) ?_
      rotate_left
      · (intro W _; go_simp; try with_reducible rfl)
      (try simp only [Act.put, List.getElem_toArray, List.getElem_cons_zero, List.getElem_cons_succ, List.setIfInBounds_toArray, List.set_cons_zero, List.set_cons_succ])
      refine wpAnyX_pure (i := 14) (v := ?_) rfl (by kernel_rfl) (by kernel_rfl) (by kernel_rfl) (fun _ _ _ h => h) (Or.inl ⟨by rfl, ?_⟩) ?_
      rotate_left
      · (intro W _; go_simp; try with_reducible rfl)
      (try simp only [Act.put, List.getElem_toArray, List.getElem_cons_zero, List.getElem_cons_succ, List.setIfInBounds_toArray, List.set_cons_zero, List.set_cons_succ])
      refine wpAnyX_pure (i := 15) (v := ?_) rfl (by kernel_rfl) (by kernel_rfl) (by kernel_rfl) (fun _ _ _ h => h) (Or.inl ⟨by rfl, ?_⟩) ?_
      rotate_left
      · (intro W _; go_simp; try with_reducible rfl)
      (try simp only [Act.put, List.getElem_toArray, List.getElem_cons_zero, List.getElem_cons_succ, List.setIfInBounds_toArray, List.set_cons_zero, List.set_cons_succ])
      refine wpAnyX_done (by kernel_rfl) ?_ _
      cases A5 with
      | none =>
        have HBn := Lib.hid hbf
        clear hbf
        go_wp2_with fail
        go_roundw
        case measure => simp [intOf]; omega
        case rel => exact ⟨s + 1, rfl, by omega, by omega, HBn⟩
      | some g5 =>
        have hsh : ShK (aftK ts xu ts.length) (aftK ts xv ts.length) (aftK ts xu ts.length).length xs := by
          rcases HF5.out with ⟨h, _⟩ | ⟨h, _, _⟩
          · exact absurd (HQ5.out.2 h) (by simp)
          · rw [HTN.out] at h; exact h
        obtain ⟨hx0, hku, hkv, hdf⟩ := apart_known HOM.out hsh
        have hn5 : 0 < n5 := by rw [← HXL.out]; exact hx0
        have hn5b : n5 ≤ 1024 := by
          rw [← HXL.out]
          obtain ⟨a, ha, hx1, _⟩ := hsh
          have h1 := hx1.length_le
          obtain ⟨s', hs', hl', hc', e1, e2⟩ := aftK_at ts.length a ha
          rw [e1] at h1
          have h2 := (prp_zero (HPP.out s' hs')).1
          have h3 := (chk_zero h2).2.2.1
          rw [List.length_drop] at h1
          omega
        obtain ⟨M1, hM1⟩ : ∃ M1, un + n5 = M1 + 1 := ⟨un + n5 - 1, by omega⟩
        obtain ⟨M2, hM2⟩ : ∃ M2, vn + n5 = M2 + 1 := ⟨vn + n5 - 1, by omega⟩
        have HJ1 := Lib.hid hM1
        have HJ2 := Lib.hid hM2
        have HKU := Lib.hid hku
        have HKV := Lib.hid hkv
        have e1 : xu.length + (xs.length - 1) = M1 := by rw [HUL.out, HXL.out]; omega
        have e2 : xv.length + (xs.length - 1) = M2 := by rw [HVL.out, HXL.out]; omega
        rw [e1, e2] at hdf
        have HDF := Lib.hid hdf
        have HLE1 := Lib.hid (show (xu ++ xs).length = M1 + 1 by rw [List.length_append, HUL.out, HXL.out]; exact hM1)
        have HLE2 := Lib.hid (show (xv ++ xs).length = M2 + 1 by rw [List.length_append, HVL.out, HXL.out]; exact hM2)
        have hM1b : M1 ≤ 2000 := by omega
        have hM2b : M2 ≤ 2000 := by omega
        clear hM1 hM2 hku hkv hdf hsh e1 e2 hx0
        go_upto_region 13 with fail
        have hb6 : Below w6.heap.size w6 w6.drew := below_drewN (Below.refl _ _) 1
        have hbf : Below w5.heap.size w5 w6.drew := below_drewN hbf 1
        refine wp_region_heldX (X := fun k => ([] : List Nat).contains k) (S := fun W => Bx W b7 #[.int .i64 (i : Int), .slice (some ⟨g, 0, none⟩) tn N] 24 ∧ W.cell? ⟨b, off + t, none⟩ = some (.slice Us un uc) ∧ W.cell? ⟨b, off + s, none⟩ = some (.slice Vs vn vc)) (by kernel_rfl) ?_
        generalize w6.drew = wkd at hbf hb6 ⊢
        refine wpAnyX_takeL (L := []) (i := 0) (v := .agg (#[.int .i64 (i : Int), .slice (some ⟨g, 0, none⟩) tn N])) rfl (by kernel_rfl) (by kernel_rfl) (by kernel_rfl) (by kernel_rfl) (fun _ _ _ h => h) (Or.inl ⟨by rfl, fun W hSW => run_load_bx 24 _ rfl (b7) rfl 24 (#[.int .i64 (i : Int), .slice (some ⟨g, 0, none⟩) tn N]) (0, 0) _ (hSW.1) Try.underlying24 rfl (by kernel_rfl)⟩) (HS.out _ hbf) ?_
        (try simp only [Act.put, List.getElem_toArray, List.getElem_cons_zero, List.getElem_cons_succ, List.setIfInBounds_toArray, List.set_cons_zero, List.set_cons_succ])
        refine wpAnyX_pure (i := 1) (v := ?_) rfl (by kernel_rfl) (by kernel_rfl) (by kernel_rfl) (fun _ _ _ h => h) (Or.inl ⟨by rfl, ?_⟩) ?_
        rotate_left
        · (intro W _; go_simp; try with_reducible rfl)
        (try simp only [Act.put, List.getElem_toArray, List.getElem_cons_zero, List.getElem_cons_succ, List.setIfInBounds_toArray, List.set_cons_zero, List.set_cons_succ])
        refine wpAnyX_pure (i := 2) (v := ?_) rfl (by kernel_rfl) (by kernel_rfl) (by kernel_rfl) (fun _ _ _ h => h) (Or.inl ⟨by rfl, ?_⟩) ?_
        rotate_left
        · (intro W _; go_simp; try with_reducible rfl)
        (try simp only [Act.put, List.getElem_toArray, List.getElem_cons_zero, List.getElem_cons_succ, List.setIfInBounds_toArray, List.set_cons_zero, List.set_cons_succ])
        refine wpAnyX_pure (i := 3) (v := ?_) rfl (by kernel_rfl) (by kernel_rfl) (by kernel_rfl) (fun _ _ _ h => h) (Or.inl ⟨by rfl, ?_⟩) ?_
        rotate_left
        · (intro W _; go_simp; try with_reducible rfl)
        (try simp only [Act.put, List.getElem_toArray, List.getElem_cons_zero, List.getElem_cons_succ, List.setIfInBounds_toArray, List.set_cons_zero, List.set_cons_succ])
        refine wpAnyX_pure (i := 4) (v := ?_) rfl (by kernel_rfl) (by kernel_rfl) (by kernel_rfl) (fun _ _ _ h => h) (Or.inl ⟨by rfl, ?_⟩) ?_
        rotate_left
        · (intro W _; go_simp; try with_reducible rfl)
        (try simp only [Act.put, List.getElem_toArray, List.getElem_cons_zero, List.getElem_cons_succ, List.setIfInBounds_toArray, List.set_cons_zero, List.set_cons_succ])
        refine wpAnyX_takeL (L := []) (i := 5) (v := ?_) rfl (by kernel_rfl) (by kernel_rfl) (by kernel_rfl) (by kernel_rfl) (fun _ _ _ h => h) (Or.inl ⟨by rfl, ?_⟩) (HS.out _ hbf) ?_
        rotate_left
        · (intro W hSW; (try dsimp only at hSW); obtain ⟨z0, z1, z2⟩ := hSW; go_simp; try with_reducible rfl)
        (try simp only [Act.put, List.getElem_toArray, List.getElem_cons_zero, List.getElem_cons_succ, List.setIfInBounds_toArray, List.set_cons_zero, List.set_cons_succ])
        refine wpAnyX_pure (i := 6) (v := ?_) rfl (by kernel_rfl) (by kernel_rfl) (by kernel_rfl) (fun _ _ _ h => h) (Or.inl ⟨by rfl, ?_⟩) ?_
        rotate_left
        · (intro W _; go_simp; try with_reducible rfl)
        (try simp only [Act.put, List.getElem_toArray, List.getElem_cons_zero, List.getElem_cons_succ, List.setIfInBounds_toArray, List.set_cons_zero, List.set_cons_succ])
        refine wpAnyX_one (i := 7) rfl (by kernel_rfl) (fun K hK => ?_)
        go_simp
        refine hK.out _ _ (fun _ _ => HS.out _ (bt hbf (alloc_below _ _))) ?_
        (try simp only [Act.put, List.getElem_toArray, List.getElem_cons_zero, List.getElem_cons_succ, List.setIfInBounds_toArray, List.set_cons_zero, List.set_cons_succ])
        refine wpAnyX_one (i := 8) rfl (by kernel_rfl) (fun K hK => ?_)
        go_simp
        go_at_call 54
        refine (join_at22 (L := M1 + 1) (HUI.out _ hbf) (HXI.out _ hb6) (by omega) HJ1.out).mono ?_
        rintro r w7 ⟨A6, c6, rfl, i6, b6⟩
        have hbf := bt hbf b6
        have hb6 := bt hb6 b6
        clear b6
        refine hK.out _ _ (fun _ _ => HS.out _ hbf) ?_
        (try simp only [Act.put, List.getElem_toArray, List.getElem_cons_zero, List.getElem_cons_succ, List.setIfInBounds_toArray, List.set_cons_zero, List.set_cons_succ])
        refine wpAnyX_one (i := 9) rfl (by kernel_rfl) (fun K hK => ?_)
        go_simp
        go_at_call 24
        refine (panswer16 (i : Int) (some ⟨g, 0, none⟩) A6 tn N (M1 + 1) c6 ts (xu ++ xs) _ (HT5.out _ hbf) htN i6 HSS.out HFF.out).mono ?_
        rintro r w8 hans
        obtain ⟨A8, c8A8, rfl, o8, b8⟩ := ans_of hans HOM.out HKU.out HLE1.out (by omega)
        have i8 := o8.ints (by rw [runO_len, HLE1.out]; omega)
        have HI8 := Lib.hid (fun (W : World) (h : Below w8.heap.size w8 W) => i8.below h)
        have hbf := bt hbf b8
        have hb6 := bt hb6 b8
        clear b8 i8 o8 hans i6
        refine hK.out _ _ (fun _ _ => HS.out _ hbf) ?_
        (try simp only [Act.put, List.getElem_toArray, List.getElem_cons_zero, List.getElem_cons_succ, List.setIfInBounds_toArray, List.set_cons_zero, List.set_cons_succ])
        refine wpAnyX_pure (i := 10) (v := ?_) rfl (by kernel_rfl) (by kernel_rfl) (by kernel_rfl) (fun _ _ _ h => h) (Or.inl ⟨by rfl, ?_⟩) ?_
        rotate_left
        · (intro W _; go_simp; try with_reducible rfl)
        (try simp only [Act.put, List.getElem_toArray, List.getElem_cons_zero, List.getElem_cons_succ, List.setIfInBounds_toArray, List.set_cons_zero, List.set_cons_succ])
        refine wpAnyX_pure (i := 11) (v := ?_) rfl (by kernel_rfl) (by kernel_rfl) (by kernel_rfl) (fun _ _ _ h => h) (Or.inl ⟨by rfl, ?_⟩) ?_
        rotate_left
        · (intro W _; go_simp; try with_reducible rfl)
        (try simp only [Act.put, List.getElem_toArray, List.getElem_cons_zero, List.getElem_cons_succ, List.setIfInBounds_toArray, List.set_cons_zero, List.set_cons_succ])
        refine wpAnyX_pure (i := 12) (v := ?_) rfl (by kernel_rfl) (by kernel_rfl) (by kernel_rfl) (fun _ _ _ h => h) (Or.inl ⟨by rfl, ?_⟩) ?_
        rotate_left
        · (intro W _; go_simp; try with_reducible rfl)
        (try simp only [Act.put, List.getElem_toArray, List.getElem_cons_zero, List.getElem_cons_succ, List.setIfInBounds_toArray, List.set_cons_zero, List.set_cons_succ])
        refine wpAnyX_pure (i := 13) (v := ?_) rfl (by kernel_rfl) (by kernel_rfl) (by kernel_rfl) (fun _ _ _ h => h) (Or.inl ⟨by rfl, ?_⟩) ?_
        rotate_left
        · (intro W _; go_simp; try with_reducible rfl)
        (try simp only [Act.put, List.getElem_toArray, List.getElem_cons_zero, List.getElem_cons_succ, List.setIfInBounds_toArray, List.set_cons_zero, List.set_cons_succ])
        refine wpAnyX_pure (i := 14) (v := ?_) rfl (by kernel_rfl) (by kernel_rfl) (by kernel_rfl) (fun _ _ _ h => h) (Or.inl ⟨by rfl, ?_⟩) ?_
        rotate_left
        · (intro W _; go_simp; try with_reducible rfl)
        (try simp only [Act.put, List.getElem_toArray, List.getElem_cons_zero, List.getElem_cons_succ, List.setIfInBounds_toArray, List.set_cons_zero, List.set_cons_succ])
        refine wpAnyX_done (by kernel_rfl) ?_ _
        go_upto_region 14 with fail
        have hb8 : Below w8.heap.size w8 w8.drew := below_drewN (Below.refl _ _) 1
        have hb6 : Below w6.heap.size w6 w8.drew := below_drewN hb6 1
        have hbf : Below w5.heap.size w5 w8.drew := below_drewN hbf 1
        refine wp_region_heldX (X := fun k => ([] : List Nat).contains k) (S := fun W => Bx W b7 #[.int .i64 (i : Int), .slice (some ⟨g, 0, none⟩) tn N] 24 ∧ W.cell? ⟨b, off + t, none⟩ = some (.slice Us un uc) ∧ W.cell? ⟨b, off + s, none⟩ = some (.slice Vs vn vc)) (by kernel_rfl) ?_
        generalize w8.drew = wkd at hbf hb6 hb8 ⊢
        refine wpAnyX_takeL (L := []) (i := 0) (v := .agg (#[.int .i64 (i : Int), .slice (some ⟨g, 0, none⟩) tn N])) rfl (by kernel_rfl) (by kernel_rfl) (by kernel_rfl) (by kernel_rfl) (fun _ _ _ h => h) (Or.inl ⟨by rfl, fun W hSW => run_load_bx 24 _ rfl (b7) rfl 24 (#[.int .i64 (i : Int), .slice (some ⟨g, 0, none⟩) tn N]) (0, 0) _ (hSW.1) Try.underlying24 rfl (by kernel_rfl)⟩) (HS.out _ hbf) ?_
        (try simp only [Act.put, List.getElem_toArray, List.getElem_cons_zero, List.getElem_cons_succ, List.setIfInBounds_toArray, List.set_cons_zero, List.set_cons_succ])
        refine wpAnyX_pure (i := 1) (v := ?_) rfl (by kernel_rfl) (by kernel_rfl) (by kernel_rfl) (fun _ _ _ h => h) (Or.inl ⟨by rfl, ?_⟩) ?_
        rotate_left
        · (intro W _; go_simp; try with_reducible rfl)
        (try simp only [Act.put, List.getElem_toArray, List.getElem_cons_zero, List.getElem_cons_succ, List.setIfInBounds_toArray, List.set_cons_zero, List.set_cons_succ])
        refine wpAnyX_pure (i := 2) (v := ?_) rfl (by kernel_rfl) (by kernel_rfl) (by kernel_rfl) (fun _ _ _ h => h) (Or.inl ⟨by rfl, ?_⟩) ?_
        rotate_left
        · (intro W _; go_simp; try with_reducible rfl)
        (try simp only [Act.put, List.getElem_toArray, List.getElem_cons_zero, List.getElem_cons_succ, List.setIfInBounds_toArray, List.set_cons_zero, List.set_cons_succ])
        refine wpAnyX_pure (i := 3) (v := ?_) rfl (by kernel_rfl) (by kernel_rfl) (by kernel_rfl) (fun _ _ _ h => h) (Or.inl ⟨by rfl, ?_⟩) ?_
        rotate_left
        · (intro W _; go_simp; try with_reducible rfl)
        (try simp only [Act.put, List.getElem_toArray, List.getElem_cons_zero, List.getElem_cons_succ, List.setIfInBounds_toArray, List.set_cons_zero, List.set_cons_succ])
        refine wpAnyX_takeL (L := []) (i := 4) (v := ?_) rfl (by kernel_rfl) (by kernel_rfl) (by kernel_rfl) (by kernel_rfl) (fun _ _ _ h => h) (Or.inl ⟨by rfl, ?_⟩) (HS.out _ hbf) ?_
        rotate_left
        · (intro W hSW; (try dsimp only at hSW); obtain ⟨z0, z1, z2⟩ := hSW; go_simp; try with_reducible rfl)
        (try simp only [Act.put, List.getElem_toArray, List.getElem_cons_zero, List.getElem_cons_succ, List.setIfInBounds_toArray, List.set_cons_zero, List.set_cons_succ])
        refine wpAnyX_pure (i := 5) (v := ?_) rfl (by kernel_rfl) (by kernel_rfl) (by kernel_rfl) (fun _ _ _ h => h) (Or.inl ⟨by rfl, ?_⟩) ?_
        rotate_left
        · (intro W _; go_simp; try with_reducible rfl)
        (try simp only [Act.put, List.getElem_toArray, List.getElem_cons_zero, List.getElem_cons_succ, List.setIfInBounds_toArray, List.set_cons_zero, List.set_cons_succ])
        refine wpAnyX_one (i := 6) rfl (by kernel_rfl) (fun K hK => ?_)
        go_simp
        refine hK.out _ _ (fun _ _ => HS.out _ (bt hbf (alloc_below _ _))) ?_
        (try simp only [Act.put, List.getElem_toArray, List.getElem_cons_zero, List.getElem_cons_succ, List.setIfInBounds_toArray, List.set_cons_zero, List.set_cons_succ])
        refine wpAnyX_one (i := 7) rfl (by kernel_rfl) (fun K hK => ?_)
        go_simp
        go_at_call 54
        refine (join_at22 (L := M2 + 1) (HVI.out _ hbf) (HXI.out _ hb6) (by omega) HJ2.out).mono ?_
        rintro r w10 ⟨A7, c6, rfl, i6, b6⟩
        have hbf := bt hbf b6
        have hb6 := bt hb6 b6
        have hb8 := bt hb8 b6
        clear b6
        refine hK.out _ _ (fun _ _ => HS.out _ hbf) ?_
        (try simp only [Act.put, List.getElem_toArray, List.getElem_cons_zero, List.getElem_cons_succ, List.setIfInBounds_toArray, List.set_cons_zero, List.set_cons_succ])
        refine wpAnyX_one (i := 8) rfl (by kernel_rfl) (fun K hK => ?_)
        go_simp
        go_at_call 24
        refine (panswer16 (i : Int) (some ⟨g, 0, none⟩) A7 tn N (M2 + 1) c6 ts (xv ++ xs) _ (HT5.out _ hbf) htN i6 HSS.out HFF.out).mono ?_
        rintro r w11 hans
        obtain ⟨A9, c8A9, rfl, o8, b8⟩ := ans_of hans HOM.out HKV.out HLE2.out (by omega)
        have i8 := o8.ints (by rw [runO_len, HLE2.out]; omega)
        have HI9 := Lib.hid (fun (W : World) (h : Below w11.heap.size w11 W) => i8.below h)
        have hbf := bt hbf b8
        have hb6 := bt hb6 b8
        have hb8 := bt hb8 b8
        clear b8 i8 o8 hans i6
        refine hK.out _ _ (fun _ _ => HS.out _ hbf) ?_
        (try simp only [Act.put, List.getElem_toArray, List.getElem_cons_zero, List.getElem_cons_succ, List.setIfInBounds_toArray, List.set_cons_zero, List.set_cons_succ])
        refine wpAnyX_pure (i := 9) (v := ?_) rfl (by kernel_rfl) (by kernel_rfl) (by kernel_rfl) (fun _ _ _ h => h) (Or.inl ⟨by rfl, ?_⟩) ?_
        rotate_left
        · (intro W _; go_simp; try with_reducible rfl)
        (try simp only [Act.put, List.getElem_toArray, List.getElem_cons_zero, List.getElem_cons_succ, List.setIfInBounds_toArray, List.set_cons_zero, List.set_cons_succ])
        refine wpAnyX_pure (i := 10) (v := ?_) rfl (by kernel_rfl) (by kernel_rfl) (by kernel_rfl) (fun _ _ _ h => h) (Or.inl ⟨by rfl, ?_⟩) ?_
        rotate_left
        · (intro W _; go_simp; try with_reducible rfl)
        (try simp only [Act.put, List.getElem_toArray, List.getElem_cons_zero, List.getElem_cons_succ, List.setIfInBounds_toArray, List.set_cons_zero, List.set_cons_succ])
        refine wpAnyX_pure (i := 11) (v := ?_) rfl (by kernel_rfl) (by kernel_rfl) (by kernel_rfl) (fun _ _ _ h => h) (Or.inl ⟨by rfl, ?_⟩) ?_
        rotate_left
        · (intro W _; go_simp; try with_reducible rfl)
        (try simp only [Act.put, List.getElem_toArray, List.getElem_cons_zero, List.getElem_cons_succ, List.setIfInBounds_toArray, List.set_cons_zero, List.set_cons_succ])
        refine wpAnyX_pure (i := 12) (v := ?_) rfl (by kernel_rfl) (by kernel_rfl) (by kernel_rfl) (fun _ _ _ h => h) (Or.inl ⟨by rfl, ?_⟩) ?_
        rotate_left
        · (intro W _; go_simp; try with_reducible rfl)
        (try simp only [Act.put, List.getElem_toArray, List.getElem_cons_zero, List.getElem_cons_succ, List.setIfInBounds_toArray, List.set_cons_zero, List.set_cons_succ])
        refine wpAnyX_pure (i := 13) (v := ?_) rfl (by kernel_rfl) (by kernel_rfl) (by kernel_rfl) (fun _ _ _ h => h) (Or.inl ⟨by rfl, ?_⟩) ?_
        rotate_left
        · (intro W _; go_simp; try with_reducible rfl)
        (try simp only [Act.put, List.getElem_toArray, List.getElem_cons_zero, List.getElem_cons_succ, List.setIfInBounds_toArray, List.set_cons_zero, List.set_cons_succ])
        refine wpAnyX_done (by kernel_rfl) ?_ _
        have HBn := Lib.hid hbf
        obtain ⟨b1, o1, eA8, hl1, r1⟩ := (HI8.out _ hb8).at_ (k := M1) (by omega)
        obtain ⟨b2, o2, eA9, hl2, r2⟩ := (HI9.out _ (Below.refl _ _)).at_ (k := M2) (by omega)
        obtain ⟨y1, hy1⟩ : ∃ y1, y1 = (runO nx ot st (xu ++ xs)).getD M1 0 := ⟨_, rfl⟩
        obtain ⟨y2, hy2⟩ : ∃ y2, y2 = (runO nx ot st (xv ++ xs)).getD M2 0 := ⟨_, rfl⟩
        rw [← hy1] at r1
        rw [← hy2] at r2
        have hyy : ¬ y1 = y2 := by rw [hy1, hy2]; exact HDF.out
        have hyy' : (y1 == y2) = false := by rw [beq_eq_false_iff_ne]; exact hyy
        subst eA8
        subst eA9
        have hz5 : ((n5 : Int) == 0) = false := by rw [beq_eq_false_iff_ne]; omega
        have hz1 : (((M1 + 1 : Nat) : Int) == 0) = false := by rw [beq_eq_false_iff_ne]; omega
        have hz2 : (((M2 + 1 : Nat) : Int) == 0) = false := by rw [beq_eq_false_iff_ne]; omega
        have hz1' : (((M1 : Int) + 1) == 0) = false := by rw [beq_eq_false_iff_ne]; omega
        have hz2' : (((M2 : Int) + 1) == 0) = false := by rw [beq_eq_false_iff_ne]; omega
        have wm1 : IntKind.i64.wrap ((M1 : Int) + 1 - 1) = (M1 : Int) := by rw [IntKind.wrap_i64]; omega
        have wm2 : IntKind.i64.wrap ((M2 : Int) + 1 - 1) = (M2 : Int) := by rw [IntKind.wrap_i64]; omega
        have wm1' : IntKind.i64.wrap (M1 : Int) = (M1 : Int) := by rw [IntKind.wrap_i64]; omega
        have wm2' : IntKind.i64.wrap (M2 : Int) = (M2 : Int) := by rw [IntKind.wrap_i64]; omega
        have gm1 : (M1 : Int) < (M1 : Int) + 1 := by omega
        have gm2 : (M2 : Int) < (M2 : Int) + 1 := by omega
        have gn1 : (0 : Int) ≤ (M1 : Int) := by omega
        have gn2 : (0 : Int) ≤ (M2 : Int) := by omega
        clear hbf hb6 hb8 hy1 hy2 hyy hl1 hl2
        go_wp2_with fail
        go_quiet (fail)
        go_wp2_with fail
        go_roundw
        case measure => simp [intOf]; omega
        case rel => exact ⟨s + 1, rfl, by omega, by omega, Lib.hid (below_drewN HBn.out _)⟩
    · have hsI : ¬ (s : Int) < (q : Int) := by omega
      go_wp2_with fail
      refine (awake22 _).mono ?_
      rintro r w9 ⟨rfl, a9⟩
      go_wp2
      go_ret
      exact ⟨rfl, bt HB0.out (bt HB5.out (bt HBR.out a9))⟩
end Go.Proofs.Ytkgdgnmobahhfaa
end
