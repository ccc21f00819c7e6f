/- Lemmas of the proofs of this seat, of the parts Ro16, Cmpr, Ro17, Ro18, Ro19, Rcl16, L16n, Openr. Conditions: none. -/
import Derived.Test.YtkgdgnmobahhfaaKab
import Derived.Test.YtkgdgnmobahhfaaKaa
import Derived.Deep.DeepCutAuto
import Derived.BigQuiet
import Derived.Lib.MinMax
import Derived.Test.YtkgdgnmobahhfaaKaf
import Derived.Test.YtkgdgnmobahhfaaKad
import Derived.Test.YtkgdgnmobahhfaaKac
section
/- The reference of observe: Proper, Differ. -/
namespace Go.Proofs.Ytkgdgnmobahhfaa
open Go.RowKit

set_option linter.unusedSimpArgs false in
set_option linter.unusedVariables false in
set_option maxHeartbeats 2000000 in
set_option maxRecDepth 100000 in
theorem rproper (A B : Option Addr) (n c m d : Nat) (i : Int) (xs ys : List Int) (w : World) (hx : Ints w A n xs) (hy : Ints w B m ys) :
    Calls Try.prog 60 #[.agg #[.slice A n c, .slice B m d], .int .i64 i] w fun e w' => e = .returned (.int .i64 (prpE xs ys i)) ∧ Below w.heap.size w w' := by
  obtain ⟨w0, hw0⟩ : ∃ w0, w0 = w.alloc (.cells #[.slice A n c, .slice B m d] 38) := ⟨_, rfl⟩
  have hb0 : Below w.heap.size w w0 := by rw [hw0]; exact alloc_below _ _
  have m0 : Bx w0 w.heap.size #[.slice A n c, .slice B m d] 38 := by rw [hw0]; exact bx_new _ _ _
  have HX := Lib.hid (hx.below hb0)
  have HY := Lib.hid (hy.below hb0)
  have HB := Lib.hid hb0
  have HW0 := Lib.hid hw0
  have HM := Lib.hid m0
  have LX := Lib.hid hx.1
  have LY := Lib.hid hy.1
  have hm := hy.2.1
  have k0 := m0.cell 0
  have k1 := m0.cell 1
  simp at k0 k1
  rw [hw0] at k0 k1
  clear hx hy hb0 hw0 m0
  by_cases hc : chk xs i = 0
  case neg =>
    have HP := Lib.hid (show prpE xs ys i = chk xs i by unfold prpE; rw [if_neg hc])
    obtain ⟨E, hE⟩ : ∃ E, E = chk xs i := ⟨_, rfl⟩
    have hne : (E != 0) = true := by rw [hE]; simpa using hc
    have HE := Lib.hid hE
    clear hE hc
    go_enter Try.func60, Try.ntmps60
    go_wp2_with fail
    rw [← HW0.out]
    refine (rcheck _ _ _ _ xs _ HX.out).mono ?_
    rintro e w2 ⟨rfl, rfl⟩
    rw [← HE.out]
    clear k0 k1
    go_wp2
    go_ret
    exact ⟨by rw [HP.out, ← HE.out]; rfl, HB.out⟩
  have HP := Lib.hid (show prpE xs ys i = ansE xs ys by unfold prpE; rw [if_pos hc])
  have HC := Lib.hid hc
  clear hc
  by_cases hl : m = n
  case neg =>
    have HE := Lib.hid (ansE_len (xs := xs) (ys := ys) (by rw [LX.out, LY.out]; exact hl))
    have hne : ((m : Int) != (n : Int)) = true := by rw [bne_iff_ne]; omega
    have hl' : ¬ (m : Int) = (n : Int) := by omega
    go_enter Try.func60, Try.ntmps60
    go_wp2_with fail
    rw [← HW0.out]
    refine (rcheck _ _ _ _ xs _ HX.out).mono ?_
    rintro e w2 ⟨rfl, rfl⟩
    rw [HC.out]
    rw [← HW0.out] at k0 k1
    go_wp2
    go_ret
    exact ⟨by rw [HP.out, HE.out]; rfl, HB.out⟩
  subst hl
  have HL := Lib.hid (show ys.length = xs.length by rw [LX.out, LY.out])
  have hne : ((m : Int) != (m : Int)) = false := by simp
  go_enter Try.func60, Try.ntmps60
  go_wp2_with fail
  rw [← HW0.out]
  refine (rcheck _ _ _ _ xs _ HX.out).mono ?_
  rintro e w2 ⟨rfl, rfl⟩
  rw [HC.out]
  rw [← HW0.out] at k0 k1
  go_wp2
  go_loopw [6] (fun jv wr => ∃ k : Nat, k ≤ m ∧ jv = .int .i64 k ∧ Hid (∀ j, j < k → 0 ≤ ys.getD j 0 ∧ ys.getD j 0 ≤ 1048576) ∧ ∃ q, wr = w0.drewN q) (fun jv _ => m - (intOf jv).toNat)
  case atStart => exact ⟨0, Nat.zero_le _, rfl, Lib.hid (fun j h => absurd h (by omega)), 0, rfl⟩
  case round =>
    obtain ⟨k, hk, rfl, HA, q, rfl⟩ := hrel
    by_cases hlt : k < m
    · obtain ⟨b, o, rfl, _, hc⟩ := HY.out.at_ hlt
      obtain ⟨y, hyv⟩ : ∃ y, y = ys.getD k 0 := ⟨_, rfl⟩
      rw [← hyv] at hc
      have HV := Lib.hid hyv
      clear hyv
      by_cases h1 : y < 0
      · have HE := Lib.hid (ansE_bad HL.out (by rw [LY.out]; exact hlt) (by rw [← HV.out]; omega))
        go_wp2
        go_ret
        exact ⟨by rw [HP.out, HE.out]; rfl, below_drewN HB.out _⟩
      · by_cases h2 : 1048576 < y
        · have HE := Lib.hid (ansE_bad HL.out (by rw [LY.out]; exact hlt) (by rw [← HV.out]; omega))
          go_wp2
          go_ret
          exact ⟨by rw [HP.out, HE.out]; rfl, below_drewN HB.out _⟩
        · have HA2 := Lib.hid (all_snoc HA.out (by rw [← HV.out]; omega))
          go_wp2
          go_roundw
          case rel => exact ⟨k + 1, by omega, by go_num, HA2, q, rfl⟩
          case measure => simp [intOf]; omega
    · obtain rfl : k = m := by omega
      have HE := Lib.hid (ansE_ok HL.out (all_done (by rw [LY.out]; exact HA.out)))
      go_wp2
      go_ret
      exact ⟨by rw [HP.out, HE.out]; rfl, below_drewN HB.out _⟩

/-- Where two traces differ. -/
def Dff (xs ys us vs : List Int) (z : Int) : Prop := (z = -1 ∧ ∀ j, j < cmn xs us → ys.getD j 0 = vs.getD j 0) ∨ (∃ k : Nat, z = k ∧ k < cmn xs us ∧ (∀ j, j < k → ys.getD j 0 = vs.getD j 0) ∧ ¬ ys.getD k 0 = vs.getD k 0)
theorem dff_ex (xs ys us vs : List Int) : ∃ z, Dff xs ys us vs z := by
  by_cases h : ∃ k, k < cmn xs us ∧ ¬ ys.getD k 0 = vs.getD k 0
  · obtain ⟨k, h1, h2⟩ := h
    induction k using Nat.strongRecOn with
    | ind k ih =>
      by_cases h3 : ∃ j, j < k ∧ ¬ ys.getD j 0 = vs.getD j 0
      · obtain ⟨j, h4, h5⟩ := h3
        exact ih j h4 (by omega) h5
      · exact ⟨k, .inr ⟨k, rfl, h1, fun j hj => Classical.byContradiction fun h6 => h3 ⟨j, hj, h6⟩, h2⟩⟩
  · exact ⟨-1, .inl ⟨rfl, fun j hj => Classical.byContradiction fun h6 => h ⟨j, hj, h6⟩⟩⟩
theorem Dff.at_ {xs ys us vs : List Int} {z : Int} {k : Nat} (h : Dff xs ys us vs z) (hk : k < cmn xs us) (ha : ∀ j, j < k → ys.getD j 0 = vs.getD j 0) (hn : ¬ ys.getD k 0 = vs.getD k 0) : z = k := by
  rcases h with ⟨_, h⟩ | ⟨q, rfl, h1, h2, h3⟩
  · exact absurd (h k hk) hn
  · rcases Nat.lt_trichotomy q k with h4 | rfl | h4
    · exact absurd (ha q h4) h3
    · rfl
    · exact absurd (h2 k h4) hn
theorem Dff.no {xs ys us vs : List Int} {z : Int} (h : Dff xs ys us vs z) (ha : ∀ j, j < cmn xs us → ys.getD j 0 = vs.getD j 0) : z = -1 := by
  rcases h with ⟨h, _⟩ | ⟨q, rfl, h1, h2, h3⟩
  · exact h
  · exact absurd (ha q h1) h3

set_option linter.unusedSimpArgs false in
set_option linter.unusedVariables false in
set_option maxHeartbeats 2000000 in
set_option maxRecDepth 100000 in
theorem rdiffer (A B C D : Option Addr) (n c m d k e l f : Nat) (xs ys us vs : List Int) (z : Int) (w : World) (hx : Ints w A n xs) (hy : Ints w B m ys) (hu : Ints w C k us) (hv : Ints w D l vs) (h1 : ys.length = xs.length) (h2 : vs.length = us.length) (hz : Dff xs ys us vs z) :
    Calls Try.prog 72 #[.agg #[.slice A n c, .slice B m d], .agg #[.slice C k e, .slice D l f]] w fun r w' => r = .returned (.int .i64 z) ∧ Below w.heap.size w w' := by
  obtain ⟨w0, hw0⟩ : ∃ w0, w0 = (w.alloc (.cells #[.slice A n c, .slice B m d] 38)).alloc (.cells #[.slice C k e, .slice D l f] 38) := ⟨_, rfl⟩
  obtain ⟨hb0, m1, m2, hs0⟩ := bxs2 w #[.slice A n c, .slice B m d] #[.slice C k e, .slice D l f] 38 38 w0 hw0
  have HX := Lib.hid (hx.below hb0)
  have HY := Lib.hid (hy.below hb0)
  have HU := Lib.hid (hu.below hb0)
  have HV := Lib.hid (hv.below hb0)
  have HB := Lib.hid hb0
  have HW0 := Lib.hid hw0
  have HZ := Lib.hid hz
  have LX := Lib.hid hx.1
  have LY := Lib.hid hy.1
  have LU := Lib.hid hu.1
  have LV := Lib.hid hv.1
  obtain rfl : m = n := by rw [← hx.1, ← hy.1, h1]
  obtain rfl : l = k := by rw [← hu.1, ← hv.1, h2]
  obtain ⟨K, hK⟩ : ∃ K, K = cmn xs us := ⟨_, rfl⟩
  have hK1 : K ≤ m := by rw [hK, ← hx.1]; exact cmn_le_left _ _
  have hK2 : K ≤ l := by rw [hK, ← hu.1]; exact cmn_le_right _ _
  have hm := hx.2.1
  have HKK := Lib.hid hK
  have k0 := m1.cell 0
  have k1 := m1.cell 1
  have l0 := m2.cell 0
  have l1 := m2.cell 1
  simp at k0 k1 l0 l1
  have HCM := Lib.hid (rcommon A C m c l e xs us w0 HX.out HU.out)
  rw [← hK] at HCM
  rw [hw0] at k0 k1 l0 l1
  clear hx hy hu hv hb0 hw0 m1 m2 hs0 h1 h2 hz hK
  go_enter Try.func72, Try.ntmps72
  go_wp2_with fail
  rw [← HW0.out]
  refine HCM.out.mono ?_
  rintro e w2 ⟨rfl, q2, rfl⟩
  rw [← HW0.out] at k0 k1 l0 l1
  go_wp2
  go_loopw [6] (fun jv wr => ∃ j : Nat, j ≤ K ∧ jv = .int .i64 j ∧ Hid (∀ t, t < j → ys.getD t 0 = vs.getD t 0) ∧ ∃ q, wr = w0.drewN q) (fun jv _ => K - (intOf jv).toNat)
  case atStart => exact ⟨0, Nat.zero_le _, rfl, Lib.hid (fun j h => absurd h (by omega)), q2, rfl⟩
  case round =>
    obtain ⟨j, hj, rfl, HA, q, rfl⟩ := hrel
    by_cases hlt : j < K
    · obtain ⟨b1, o1, rfl, _, hc1⟩ := HY.out.at_ (k := j) (by omega)
      obtain ⟨b2, o2, rfl, _, hc2⟩ := HV.out.at_ (k := j) (by omega)
      obtain ⟨y, hy⟩ : ∃ y, y = ys.getD j 0 := ⟨_, rfl⟩
      obtain ⟨v, hv⟩ : ∃ v, v = vs.getD j 0 := ⟨_, rfl⟩
      rw [← hy] at hc1
      rw [← hv] at hc2
      have HYY := Lib.hid hy
      have HVV := Lib.hid hv
      clear hy hv
      by_cases he : y = v
      · have hb : (y != v) = false := by rw [he]; simp
        have HN := Lib.hid (show ∀ t, t < j + 1 → ys.getD t 0 = vs.getD t 0 from fun t ht => by
          rcases Nat.lt_or_ge t j with h | h
          · exact HA.out t h
          · rw [show t = j by omega, ← HYY.out, ← HVV.out, he])
        have HE := Lib.hid he
        clear he
        go_wp2
        go_quiet (fail)
        go_wp2
        go_roundw
        case rel => exact ⟨j + 1, by omega, by go_num, HN, by first | exact ⟨_, rfl⟩ | exact ⟨_, World.drewN_drewN _ _ _⟩⟩
        case measure => simp [intOf]; omega
      · have hb : (y != v) = true := by rw [bne_iff_ne]; exact he
        have HR := Lib.hid (HZ.out.at_ (k := j) (by rw [← HKK.out]; exact hlt) HA.out (by rw [← HYY.out, ← HVV.out]; exact he))
        go_wp2
        go_quiet (fail)
        go_wp2
        go_ret
        exact ⟨by rw [HR.out]; rfl, below_drewN (below_drewN HB.out _) _⟩
    · have HR := Lib.hid (HZ.out.no (fun t ht => HA.out t (by rw [← HKK.out] at ht; omega)))
      go_wp2
      go_ret
      exact ⟨by rw [HR.out]; rfl, below_drewN HB.out _⟩
end Go.Proofs.Ytkgdgnmobahhfaa
end

section
/- The reference: Lex and Compare. -/
namespace Go.Proofs.Ytkgdgnmobahhfaa
open Go.RowKit

set_option maxHeartbeats 400000 in
theorem rlex (A B : Option Addr) (n c m d : Nat) (xs ys : List Int) (w : World) (hx : Ints w A n xs) (hy : Ints w B m ys) :
    Calls Try.prog 99 #[.slice A n c, .slice B m d] w fun e w' => e = .returned (.int .i64 (lexi xs ys)) ∧ ∃ q, w' = w.drewN q := by
  have L1 := Lib.hid hx.1
  have L2 := Lib.hid hy.1
  have hn := hx.2.1
  have hm := hy.2.1
  have l1 : cmn xs ys ≤ n := by rw [← L1.out]; exact cmn_le_left _ _
  have l2 : cmn xs ys ≤ m := by rw [← L2.out]; exact cmn_le_right _ _
  have hag := Lib.hid (cmn_agree xs ys)
  obtain ⟨t, ht⟩ : ∃ t, t = cmn xs ys := ⟨_, rfl⟩
  rw [← ht] at l1 l2 hag
  have HT := Lib.hid ht
  have call : ∀ w0 : World, w0 = w → Calls Try.prog 73 #[.slice A n c, .slice B m d] w0 fun e w' => e = .returned (.int .i64 (t : Int)) ∧ ∃ q, w' = w0.drewN q := by
    intro w0 e0; subst e0; rw [ht]; exact rcommon _ _ _ _ _ _ xs ys _ hx hy
  have HC := Lib.hid call
  clear ht call
  by_cases h1 : t = n
  · by_cases h2 : t = m
    · have b1 : ((t : Int) == (n : Int)) = true := by simp; omega
      have b2 : ((t : Int) == (m : Int)) = true := by simp; omega
      have hfin := Lib.hid (lexi_same (xs := xs) (ys := ys) (by rw [L1.out, L2.out]; omega) (by rw [L1.out, ← h1]; exact hag.out))
      clear h1 h2
      go_enter Try.func99, Try.ntmps99
      go_wp2_with (go_at_call 73; refine (HC.out _ rfl).mono ?_; rintro e w' ⟨rfl, q, rfl⟩)
      go_ret
      exact ⟨ret_int (by rw [hfin.out]), _, rfl⟩
    · have b1 : ((t : Int) == (n : Int)) = true := by simp; omega
      have b2 : ((t : Int) == (m : Int)) = false := by simp; omega
      have hfin := Lib.hid (lexi_short (xs := xs) (ys := ys) (by rw [L1.out, L2.out]; omega) (by rw [L1.out, ← h1]; exact hag.out))
      clear h1 h2
      go_enter Try.func99, Try.ntmps99
      go_wp2_with (go_at_call 73; refine (HC.out _ rfl).mono ?_; rintro e w' ⟨rfl, q, rfl⟩)
      go_ret
      exact ⟨ret_int (by rw [hfin.out]), _, rfl⟩
  · have b1 : ((t : Int) == (n : Int)) = false := by simp; omega
    by_cases h2 : t < m
    · obtain ⟨b1', o1, rfl, _, hc1⟩ := hx.at_ (k := t) (by omega)
      obtain ⟨b2', o2, rfl, _, hc2⟩ := hy.at_ (k := t) (by omega)
      have hne : xs[t]?.getD 0 ≠ ys[t]?.getD 0 := by
        have := cmn_part xs ys (by rw [← HT.out, L1.out]; omega) (by rw [← HT.out, L2.out]; omega)
        rw [← HT.out] at this
        simpa using this
      have hfin := Lib.hid (lexi_of (xs := xs) (ys := ys) (j := t) (by rw [L1.out]; omega) (by rw [L2.out]; omega) hag.out (by simpa using hne))
      have d2 : decide ((t : Int) < (m : Int)) = true := by simp; omega
      have ht1 : t < n := by omega
      clear h1
      by_cases hlt : xs[t]?.getD 0 < ys[t]?.getD 0
      · have d3 : decide (xs[t]?.getD 0 < ys[t]?.getD 0) = true := by simpa using hlt
        have hz := Lib.hid (show cmpI (xs.getD t 0) (ys.getD t 0) = -1 by unfold cmpI; rw [if_pos (by simpa using hlt)])
        clear hne
        go_enter Try.func99, Try.ntmps99
        go_wp2_with (go_at_call 73; refine (HC.out _ rfl).mono ?_; rintro e w' ⟨rfl, q, rfl⟩)
        go_quiet (fail)
        go_wp2
        go_ret
        exact ⟨ret_int (by rw [hfin.out, hz.out]), by first | exact ⟨_, rfl⟩ | exact ⟨_, World.drewN_drewN _ _ _⟩⟩
      · have d3 : decide (xs[t]?.getD 0 < ys[t]?.getD 0) = false := by simpa using hlt
        have hgt : ys[t]?.getD 0 < xs[t]?.getD 0 := by omega
        have hz := Lib.hid (show cmpI (xs.getD t 0) (ys.getD t 0) = 1 by unfold cmpI; rw [if_neg (by simpa using hlt), if_pos (by simpa using hgt)])
        clear hne hlt
        go_enter Try.func99, Try.ntmps99
        go_wp2_with (go_at_call 73; refine (HC.out _ rfl).mono ?_; rintro e w' ⟨rfl, q, rfl⟩)
        go_quiet (fail)
        go_wp2
        go_ret
        exact ⟨ret_int (by rw [hfin.out, hz.out]), by first | exact ⟨_, rfl⟩ | exact ⟨_, World.drewN_drewN _ _ _⟩⟩
    · have d2 : decide (t < m) = false := by simp; omega
      have hfin := Lib.hid (lexi_long (xs := xs) (ys := ys) (by rw [L1.out, L2.out]; omega) (by rw [L2.out]; exact (by omega : t = m) ▸ hag.out))
      clear h1 h2
      go_enter Try.func99, Try.ntmps99
      go_wp2_with (go_at_call 73; refine (HC.out _ rfl).mono ?_; rintro e w' ⟨rfl, q, rfl⟩)
      go_quiet (fail)
      go_wp2
      go_ret
      exact ⟨ret_int (by rw [hfin.out]), by first | exact ⟨_, rfl⟩ | exact ⟨_, World.drewN_drewN _ _ _⟩⟩

theorem rcompare (A B : Option Addr) (n c m d : Nat) (xs ys : List Int) (w : World) (hx : Ints w A n xs) (hy : Ints w B m ys) :
    Calls Try.prog 61 #[.slice A n c, .slice B m d] w fun e w' => e = .returned (.int .i64 (shlex xs ys)) ∧ ∃ q, w' = w.drewN q := by
  have L1 := Lib.hid hx.1
  have L2 := Lib.hid hy.1
  by_cases h : n < m
  · have hfin := Lib.hid (shlex_lt (xs := xs) (ys := ys) (by rw [L1.out, L2.out]; exact h))
    go_enter Try.func61, Try.ntmps61
    go_wp2
    go_ret
    exact ⟨ret_int (by rw [hfin.out]), 0, rfl⟩
  · by_cases h' : m < n
    · have hfin := Lib.hid (shlex_gt (xs := xs) (ys := ys) (by rw [L1.out, L2.out]; omega))
      go_enter Try.func61, Try.ntmps61
      go_wp2
      go_ret
      exact ⟨ret_int (by rw [hfin.out]), 0, rfl⟩
    · have hfin := Lib.hid (shlex_eq (xs := xs) (ys := ys) (by rw [L1.out, L2.out]; omega))
      go_enter Try.func61, Try.ntmps61
      go_wp2_with (go_at_call 99; refine (rlex _ _ _ _ _ _ xs ys _ hx hy).mono ?_; rintro e w' ⟨rfl, q, rfl⟩)
      go_ret
      exact ⟨ret_int (by rw [hfin.out]), _, rfl⟩
end Go.Proofs.Ytkgdgnmobahhfaa
end

section
/- The reference of observe: apart, Valid. -/
namespace Go.Proofs.Ytkgdgnmobahhfaa
open Go.RowKit

abbrev TSr := List (List Int × List Int)
/-- Is the trace p a prefix of one of those behind it, up to k? -/
def pfB (ts : TSr) (p : Nat) : Nat → Bool
  | 0 => false
  | m + 1 => pfB ts p m || (decide (p < m) && decide (cmn (tIn ts m) (tIn ts p) = (tIn ts p).length))
noncomputable def dfz (ts : TSr) (p q : Nat) : Int := Classical.choose (dff_ex (tIn ts p) (tOut ts p) (tIn ts q) (tOut ts q))
theorem dfz_spec (ts : TSr) (p q : Nat) : Dff (tIn ts p) (tOut ts p) (tIn ts q) (tOut ts q) (dfz ts p q) := Classical.choose_spec (dff_ex _ _ _ _)
/-- Does the trace p contradict one of those behind it, up to k? -/
noncomputable def clB (ts : TSr) (p : Nat) : Nat → Bool
  | 0 => false
  | m + 1 => clB ts p m || (decide (p < m) && decide (0 ≤ dfz ts p m))
theorem pfB_zero {ts : TSr} {p : Nat} : ∀ m, m ≤ p + 1 → pfB ts p m = false
  | 0, _ => rfl
  | m + 1, h => by rw [pfB, pfB_zero m (by omega), decide_eq_false (by omega)]; rfl
theorem clB_zero {ts : TSr} {p : Nat} : ∀ m, m ≤ p + 1 → clB ts p m = false
  | 0, _ => rfl
  | m + 1, h => by rw [clB, clB_zero m (by omega), decide_eq_false (by omega)]; rfl
theorem pfB_on {ts : TSr} {p q : Nat} (h : p < q) : pfB ts p (q + 1) = (pfB ts p q || decide (cmn (tIn ts q) (tIn ts p) = (tIn ts p).length)) := by rw [pfB, decide_eq_true h]; simp
theorem clB_on {ts : TSr} {p q : Nat} (h : p < q) : clB ts p (q + 1) = (clB ts p q || decide (0 ≤ dfz ts p q)) := by rw [clB, decide_eq_true h]; simp
theorem pfB_no {ts : TSr} {p m q : Nat} (h : pfB ts p m = false) (h1 : p < q) (h2 : q < m) : ¬ cmn (tIn ts q) (tIn ts p) = (tIn ts p).length := by
  induction m with
  | zero => omega
  | succ m ih =>
    rw [pfB, Bool.or_eq_false_iff] at h
    rcases Nat.lt_or_ge q m with h3 | h3
    · exact ih h.1 h3
    · obtain rfl : q = m := by omega
      have := h.2
      rw [decide_eq_true h1] at this
      simpa using this
theorem clB_no {ts : TSr} {p m q : Nat} (h : clB ts p m = false) (h1 : p < q) (h2 : q < m) : ∀ j, j < cmn (tIn ts p) (tIn ts q) → (tOut ts p).getD j 0 = (tOut ts q).getD j 0 := by
  induction m with
  | zero => omega
  | succ m ih =>
    rw [clB, Bool.or_eq_false_iff] at h
    rcases Nat.lt_or_ge q m with h3 | h3
    · exact ih h.1 h3
    · obtain rfl : q = m := by omega
      have := h.2
      rw [decide_eq_true h1] at this
      have h4 : ¬ 0 ≤ dfz ts p q := by simpa using this
      rcases dfz_spec ts p q with ⟨_, h5⟩ | ⟨k, h5, _⟩
      · exact h5
      · omega
/-- No trace is a prefix of a later one, and none contradicts one. -/
def Pw (ts : TSr) : Prop := ∀ p q, p < q → q < ts.length → ¬ cmn (tIn ts q) (tIn ts p) = (tIn ts p).length ∧ ∀ j, j < cmn (tIn ts p) (tIn ts q) → (tOut ts p).getD j 0 = (tOut ts q).getD j 0
theorem Pw.cons {ts : TSr} (h : Pw ts) : Cons ts := fun a b ha hb j hj => by
  rcases Nat.lt_trichotomy a b with h1 | rfl | h1
  · exact (h a b h1 hb).2 j hj
  · rfl
  · exact ((h b a h1 ha).2 j (by rw [cmn_comm]; exact hj)).symm

set_option linter.unusedSimpArgs false in
set_option linter.unusedVariables false in
set_option maxHeartbeats 8000000 in
set_option maxRecDepth 100000 in
theorem rapart16 (i : Int) (T : Option Addr) (n c : Nat) (ts : TSr) (w : World) (hT : Trs w T n ts) (hF : Full ts) :
    Calls Try.prog 62 #[.agg #[.int .i64 i, .slice T n c]] w fun e w' => ∃ v : Int, e = .returned (.int .i64 v) ∧ Hid (v = 0 → Pw ts) ∧ Below w.heap.size w w' := by
  obtain ⟨w0, hw0⟩ : ∃ w0, w0 = w.alloc (.cells #[.int .i64 i, .slice T n c] 24) := ⟨_, rfl⟩
  have hb0 : Below w.heap.size w w0 := by rw [hw0]; exact alloc_below _ _
  have m0 : Bx w0 w.heap.size #[.int .i64 i, .slice T n c] 24 := by rw [hw0]; exact bx_new _ _ _
  have HM := Lib.hid (fun (W : World) (h : Below w0.heap.size w0 W) => m0.on h)
  have HT := Lib.hid (fun (W : World) (h : Below w0.heap.size w0 W) => (hT.below hb0).below h)
  have HB0 := Lib.hid hb0
  have HW0 := Lib.hid hw0
  have HLT := Lib.hid hT.1
  have HF := Lib.hid hF
  have hn := hT.2.1
  clear hw0 hb0 m0 hT hF
  go_enter Try.func62, Try.ntmps62
  go_wp2
  rw [← HW0.out]
  go_loopw [3] (fun v3 wr => ∃ p : Nat, v3 = .int .i64 p ∧ p ≤ n ∧ Hid (∀ a b, a < b → b < n → a < p → ¬ cmn (tIn ts b) (tIn ts a) = (tIn ts a).length ∧ ∀ j, j < cmn (tIn ts a) (tIn ts b) → (tOut ts a).getD j 0 = (tOut ts b).getD j 0) ∧ Hid (Below w0.heap.size w0 wr)) (fun v3 _ => n - (intOf v3).toNat)
  case atStart => exact ⟨0, rfl, Nat.zero_le _, Lib.hid (fun a b _ _ h => absurd h (Nat.not_lt_zero a)), Lib.hid (Below.refl _ _)⟩
  case round =>
    obtain ⟨p, rfl, hp, HP, HBR⟩ := hrel
    have k1 := (HM.out _ HBR.out).cell 1
    simp at k1
    by_cases hlt : p < n
    · have wp1 : IntKind.i64.wrap ((p : Int) + 1) = ((p + 1 : Nat) : Int) := by rw [IntKind.wrap_i64]; omega
      go_wp2
      clear wp1
      go_loopw [6, 4, 5] (fun v6 v4 v5 wr => ∃ q : Nat, v6 = .int .i64 q ∧ p < q ∧ q ≤ n ∧ v4 = .bool (pfB ts p q) ∧ v5 = .bool (clB ts p q) ∧ Hid (Below w0.heap.size w0 wr)) (fun v6 _ _ _ => n - (intOf v6).toNat)
      case atStart => exact ⟨p + 1, by go_num, by omega, by omega, by rw [pfB_zero _ (Nat.le_refl _)], by rw [clB_zero _ (Nat.le_refl _)], HBR⟩
      case round =>
        obtain ⟨q, rfl, hpq, hqn, rfl, rfl, HBW⟩ := hrel
        have k1 := (HM.out _ HBW.out).cell 1
        simp at k1
        by_cases hlq : q < n
        · obtain ⟨b, off, A1, n1, c1, A2, n2, c2, rfl, hgb, j1, j2, _, _, j3, j4⟩ := (HT.out _ HBW.out).at_ hlt
          obtain ⟨_, _, B1, m1, d1, B2, m2, d2, eT, _, i1, i2, _, _, i3, i4⟩ := (HT.out _ HBW.out).at_ hlq
          cases eT
          have hpI : (p : Int) < (n : Int) := by omega
          have hqI : (q : Int) < (n : Int) := by omega
          have hp0 : (0 : Int) ≤ (p : Int) := by omega
          have hq0 : (0 : Int) ≤ (q : Int) := by omega
          have HPN := Lib.hid (pfB_on (ts := ts) hpq)
          have HCN := Lib.hid (clB_on (ts := ts) hpq)
          obtain ⟨x, hx⟩ : ∃ x, x = pfB ts p q := ⟨_, rfl⟩
          obtain ⟨y, hy⟩ : ∃ y, y = clB ts p q := ⟨_, rfl⟩
          obtain ⟨f, hf⟩ : ∃ f, f = decide (cmn (tIn ts q) (tIn ts p) = (tIn ts p).length) := ⟨_, rfl⟩
          obtain ⟨z, hz⟩ : ∃ z, z = dfz ts p q := ⟨_, rfl⟩
          have HHP := Lib.hid (fun u => rhasprefix B1 A1 m1 d1 n1 c1 (tIn ts q) (tIn ts p) (wr.drewN u) (i3.drewN u) (j3.drewN u))
          have HDI := Lib.hid (fun (W : World) (h : Below wr.heap.size wr W) => rdiffer A1 A2 B1 B2 n1 c1 n2 c2 m1 d1 m2 d2 (tIn ts p) (tOut ts p) (tIn ts q) (tOut ts q) z W (j3.below h) (j4.below h) (i3.below h) (i4.below h) (HF.out p (by rw [HLT.out]; exact hlt)) (HF.out q (by rw [HLT.out]; exact hlq)) (by rw [hz]; exact dfz_spec ts p q))
          rw [← hx, ← hf] at HPN
          rw [← hy, ← hz] at HCN
          rw [← hx, ← hy]
          rw [← hf] at HHP
          have HS := Lib.hid (show ∀ W, Below wr.heap.size wr W → W.cell? ⟨w.heap.size, 1, none⟩ = some (.slice (some ⟨b, off, none⟩) n c) ∧ W.cell? ⟨b, off + p * 2, none⟩ = some (.slice A1 n1 c1) ∧ W.cell? ⟨b, off + p * 2 + 1, none⟩ = some (.slice A2 n2 c2) ∧ W.cell? ⟨b, off + q * 2, none⟩ = some (.slice B1 m1 d1) ∧ W.cell? ⟨b, off + q * 2 + 1, none⟩ = some (.slice B2 m2 d2) from fun W h => ⟨(h.cell (p := ⟨w.heap.size, 1, none⟩) (World.block_lt_of_cell? _ _ k1)).trans k1, (h.cell (p := ⟨b, off + p * 2, none⟩) hgb).trans j1, (h.cell (p := ⟨b, off + p * 2 + 1, none⟩) hgb).trans j2, (h.cell (p := ⟨b, off + q * 2, none⟩) hgb).trans i1, (h.cell (p := ⟨b, off + q * 2 + 1, none⟩) hgb).trans i2⟩)
          clear hx hy hf hz j3 j4 i3 i4 hgb
          cases x <;> cases y
          case false.false =>
            go_wp2
            go_quiet ((go_at_call 69; exact Calls.quiet_of (HHP.out _)))
            go_upto_region 9 with fail
            have hbf : Below wr.heap.size wr ((wr.drewN nq).drew) := below_drewN (below_drewN (Below.refl _ _) nq) 1
            refine wp_region_heldX (X := fun k => ([] : List Nat).contains k) (S := fun W => W.cell? ⟨w.heap.size, 1, none⟩ = some (.slice (some ⟨b, off, none⟩) n c) ∧ W.cell? ⟨b, off + p * 2, none⟩ = some (.slice A1 n1 c1) ∧ W.cell? ⟨b, off + p * 2 + 1, none⟩ = some (.slice A2 n2 c2) ∧ W.cell? ⟨b, off + q * 2, none⟩ = some (.slice B1 m1 d1) ∧ W.cell? ⟨b, off + q * 2 + 1, none⟩ = some (.slice B2 m2 d2)) (by kernel_rfl) ?_
            refine wpAnyX_pure (i := 0) (v := ?_) rfl (by kernel_rfl) (by kernel_rfl) (by kernel_rfl) (fun _ _ _ h => h) (Or.inl ⟨by rfl, ?_⟩) ?_
            rotate_left
            · (intro W _; go_simp; try with_reducible rfl)
            (try simp only [Act.put, List.getElem_toArray, List.getElem_cons_zero, List.getElem_cons_succ, List.setIfInBounds_toArray, List.set_cons_zero, List.set_cons_succ])
            refine wpAnyX_pure (i := 1) (v := ?_) rfl (by kernel_rfl) (by kernel_rfl) (by kernel_rfl) (fun _ _ _ h => h) (Or.inl ⟨by rfl, ?_⟩) ?_
            rotate_left
            · (intro W _; go_simp; try with_reducible rfl)
            (try simp only [Act.put, List.getElem_toArray, List.getElem_cons_zero, List.getElem_cons_succ, List.setIfInBounds_toArray, List.set_cons_zero, List.set_cons_succ])
            refine wpAnyX_pure (i := 2) (v := ?_) rfl (by kernel_rfl) (by kernel_rfl) (by kernel_rfl) (fun _ _ _ h => h) (Or.inl ⟨by rfl, ?_⟩) ?_
            rotate_left
            · (intro W _; go_simp; try with_reducible rfl)
            (try simp only [Act.put, List.getElem_toArray, List.getElem_cons_zero, List.getElem_cons_succ, List.setIfInBounds_toArray, List.set_cons_zero, List.set_cons_succ])
            refine wpAnyX_takeL (L := []) (i := 3) (v := ?_) rfl (by kernel_rfl) (by kernel_rfl) (by kernel_rfl) (by kernel_rfl) (fun _ _ _ h => h) (Or.inl ⟨by rfl, ?_⟩) (HS.out _ hbf) ?_
            rotate_left
            · (intro W hSW; (try dsimp only at hSW); obtain ⟨z0, z1, z2, z3, z4⟩ := hSW; go_simp; try with_reducible rfl)
            (try simp only [Act.put, List.getElem_toArray, List.getElem_cons_zero, List.getElem_cons_succ, List.setIfInBounds_toArray, List.set_cons_zero, List.set_cons_succ])
            refine wpAnyX_pure (i := 4) (v := ?_) rfl (by kernel_rfl) (by kernel_rfl) (by kernel_rfl) (fun _ _ _ h => h) (Or.inl ⟨by rfl, ?_⟩) ?_
            rotate_left
            · (intro W _; go_simp; try with_reducible rfl)
            (try simp only [Act.put, List.getElem_toArray, List.getElem_cons_zero, List.getElem_cons_succ, List.setIfInBounds_toArray, List.set_cons_zero, List.set_cons_succ])
            refine wpAnyX_pure (i := 5) (v := ?_) rfl (by kernel_rfl) (by kernel_rfl) (by kernel_rfl) (fun _ _ _ h => h) (Or.inl ⟨by rfl, ?_⟩) ?_
            rotate_left
            · (intro W _; go_simp; try with_reducible rfl)
            (try simp only [Act.put, List.getElem_toArray, List.getElem_cons_zero, List.getElem_cons_succ, List.setIfInBounds_toArray, List.set_cons_zero, List.set_cons_succ])
            refine wpAnyX_takeL (L := []) (i := 6) (v := ?_) rfl (by kernel_rfl) (by kernel_rfl) (by kernel_rfl) (by kernel_rfl) (fun _ _ _ h => h) (Or.inl ⟨by rfl, ?_⟩) (HS.out _ hbf) ?_
            rotate_left
            · (intro W hSW; (try dsimp only at hSW); obtain ⟨z0, z1, z2, z3, z4⟩ := hSW; go_simp; try with_reducible rfl)
            (try simp only [Act.put, List.getElem_toArray, List.getElem_cons_zero, List.getElem_cons_succ, List.setIfInBounds_toArray, List.set_cons_zero, List.set_cons_succ])
            refine wpAnyX_pure (i := 7) (v := ?_) rfl (by kernel_rfl) (by kernel_rfl) (by kernel_rfl) (fun _ _ _ h => h) (Or.inl ⟨by rfl, ?_⟩) ?_
            rotate_left
            · (intro W _; go_simp; try with_reducible rfl)
            (try simp only [Act.put, List.getElem_toArray, List.getElem_cons_zero, List.getElem_cons_succ, List.setIfInBounds_toArray, List.set_cons_zero, List.set_cons_succ])
            refine wpAnyX_takeL (L := []) (i := 8) (v := ?_) rfl (by kernel_rfl) (by kernel_rfl) (by kernel_rfl) (by kernel_rfl) (fun _ _ _ h => h) (Or.inl ⟨by rfl, ?_⟩) (HS.out _ hbf) ?_
            rotate_left
            · (intro W hSW; (try dsimp only at hSW); obtain ⟨z0, z1, z2, z3, z4⟩ := hSW; go_simp; try with_reducible rfl)
            (try simp only [Act.put, List.getElem_toArray, List.getElem_cons_zero, List.getElem_cons_succ, List.setIfInBounds_toArray, List.set_cons_zero, List.set_cons_succ])
            refine wpAnyX_pure (i := 9) (v := ?_) rfl (by kernel_rfl) (by kernel_rfl) (by kernel_rfl) (fun _ _ _ h => h) (Or.inl ⟨by rfl, ?_⟩) ?_
            rotate_left
            · (intro W _; go_simp; try with_reducible rfl)
            (try simp only [Act.put, List.getElem_toArray, List.getElem_cons_zero, List.getElem_cons_succ, List.setIfInBounds_toArray, List.set_cons_zero, List.set_cons_succ])
            refine wpAnyX_pure (i := 10) (v := ?_) rfl (by kernel_rfl) (by kernel_rfl) (by kernel_rfl) (fun _ _ _ h => h) (Or.inl ⟨by rfl, ?_⟩) ?_
            rotate_left
            · (intro W _; go_simp; try with_reducible rfl)
            (try simp only [Act.put, List.getElem_toArray, List.getElem_cons_zero, List.getElem_cons_succ, List.setIfInBounds_toArray, List.set_cons_zero, List.set_cons_succ])
            refine wpAnyX_takeL (L := []) (i := 11) (v := ?_) rfl (by kernel_rfl) (by kernel_rfl) (by kernel_rfl) (by kernel_rfl) (fun _ _ _ h => h) (Or.inl ⟨by rfl, ?_⟩) (HS.out _ hbf) ?_
            rotate_left
            · (intro W hSW; (try dsimp only at hSW); obtain ⟨z0, z1, z2, z3, z4⟩ := hSW; go_simp; try with_reducible rfl)
            (try simp only [Act.put, List.getElem_toArray, List.getElem_cons_zero, List.getElem_cons_succ, List.setIfInBounds_toArray, List.set_cons_zero, List.set_cons_succ])
            refine wpAnyX_one (i := 12) rfl (by kernel_rfl) (fun K hK => ?_)
            go_simp
            go_at_call 72
            refine (HDI.out _ hbf).mono ?_
            rintro r w5 ⟨rfl, b5⟩
            have hbf := bt hbf b5
            clear b5
            refine hK.out _ _ (fun _ _ => HS.out _ hbf) ?_
            (try simp only [Act.put, List.getElem_toArray, List.getElem_cons_zero, List.getElem_cons_succ, List.setIfInBounds_toArray, List.set_cons_zero, List.set_cons_succ])
            refine wpAnyX_pure (i := 13) (v := ?_) rfl (by kernel_rfl) (by kernel_rfl) (by kernel_rfl) (fun _ _ _ h => h) (Or.inl ⟨by rfl, ?_⟩) ?_
            rotate_left
            · (intro W _; go_simp; try with_reducible rfl)
            (try simp only [Act.put, List.getElem_toArray, List.getElem_cons_zero, List.getElem_cons_succ, List.setIfInBounds_toArray, List.set_cons_zero, List.set_cons_succ])
            refine wpAnyX_pure (i := 14) (v := ?_) rfl (by kernel_rfl) (by kernel_rfl) (by kernel_rfl) (fun _ _ _ h => h) (Or.inl ⟨by rfl, ?_⟩) ?_
            rotate_left
            · (intro W _; go_simp; try with_reducible rfl)
            (try simp only [Act.put, List.getElem_toArray, List.getElem_cons_zero, List.getElem_cons_succ, List.setIfInBounds_toArray, List.set_cons_zero, List.set_cons_succ])
            refine wpAnyX_pure (i := 15) (v := ?_) rfl (by kernel_rfl) (by kernel_rfl) (by kernel_rfl) (fun _ _ _ h => h) (Or.inl ⟨by rfl, ?_⟩) ?_
            rotate_left
            · (intro W _; go_simp; try with_reducible rfl)
            (try simp only [Act.put, List.getElem_toArray, List.getElem_cons_zero, List.getElem_cons_succ, List.setIfInBounds_toArray, List.set_cons_zero, List.set_cons_succ])
            refine wpAnyX_done (by kernel_rfl) ?_ _
            have HBF := Lib.hid (bt HBW.out hbf)
            clear hbf
            go_wp2
            go_roundw
            case rel => exact ⟨q + 1, by go_num, by omega, by omega, by rw [HPN.out]; rfl, by rw [HCN.out]; rfl, HBF⟩
            case measure => simp [intOf]; omega
          case true.false =>
            go_wp2
            go_quiet (fail)
            go_upto_region 9 with fail
            have hbf : Below wr.heap.size wr ((wr.drewN nq).drew) := below_drewN (below_drewN (Below.refl _ _) nq) 1
            refine wp_region_heldX (X := fun k => ([] : List Nat).contains k) (S := fun W => W.cell? ⟨w.heap.size, 1, none⟩ = some (.slice (some ⟨b, off, none⟩) n c) ∧ W.cell? ⟨b, off + p * 2, none⟩ = some (.slice A1 n1 c1) ∧ W.cell? ⟨b, off + p * 2 + 1, none⟩ = some (.slice A2 n2 c2) ∧ W.cell? ⟨b, off + q * 2, none⟩ = some (.slice B1 m1 d1) ∧ W.cell? ⟨b, off + q * 2 + 1, none⟩ = some (.slice B2 m2 d2)) (by kernel_rfl) ?_
            refine wpAnyX_pure (i := 0) (v := ?_) rfl (by kernel_rfl) (by kernel_rfl) (by kernel_rfl) (fun _ _ _ h => h) (Or.inl ⟨by rfl, ?_⟩) ?_
            rotate_left
            · (intro W _; go_simp; try with_reducible rfl)
            (try simp only [Act.put, List.getElem_toArray, List.getElem_cons_zero, List.getElem_cons_succ, List.setIfInBounds_toArray, List.set_cons_zero, List.set_cons_succ])
            refine wpAnyX_pure (i := 1) (v := ?_) rfl (by kernel_rfl) (by kernel_rfl) (by kernel_rfl) (fun _ _ _ h => h) (Or.inl ⟨by rfl, ?_⟩) ?_
            rotate_left
            · (intro W _; go_simp; try with_reducible rfl)
            (try simp only [Act.put, List.getElem_toArray, List.getElem_cons_zero, List.getElem_cons_succ, List.setIfInBounds_toArray, List.set_cons_zero, List.set_cons_succ])
            refine wpAnyX_pure (i := 2) (v := ?_) rfl (by kernel_rfl) (by kernel_rfl) (by kernel_rfl) (fun _ _ _ h => h) (Or.inl ⟨by rfl, ?_⟩) ?_
            rotate_left
            · (intro W _; go_simp; try with_reducible rfl)
            (try simp only [Act.put, List.getElem_toArray, List.getElem_cons_zero, List.getElem_cons_succ, List.setIfInBounds_toArray, List.set_cons_zero, List.set_cons_succ])
            refine wpAnyX_takeL (L := []) (i := 3) (v := ?_) rfl (by kernel_rfl) (by kernel_rfl) (by kernel_rfl) (by kernel_rfl) (fun _ _ _ h => h) (Or.inl ⟨by rfl, ?_⟩) (HS.out _ hbf) ?_
            rotate_left
            · (intro W hSW; (try dsimp only at hSW); obtain ⟨z0, z1, z2, z3, z4⟩ := hSW; go_simp; try with_reducible rfl)
            (try simp only [Act.put, List.getElem_toArray, List.getElem_cons_zero, List.getElem_cons_succ, List.setIfInBounds_toArray, List.set_cons_zero, List.set_cons_succ])
            refine wpAnyX_pure (i := 4) (v := ?_) rfl (by kernel_rfl) (by kernel_rfl) (by kernel_rfl) (fun _ _ _ h => h) (Or.inl ⟨by rfl, ?_⟩) ?_
            rotate_left
            · (intro W _; go_simp; try with_reducible rfl)
            (try simp only [Act.put, List.getElem_toArray, List.getElem_cons_zero, List.getElem_cons_succ, List.setIfInBounds_toArray, List.set_cons_zero, List.set_cons_succ])
            refine wpAnyX_pure (i := 5) (v := ?_) rfl (by kernel_rfl) (by kernel_rfl) (by kernel_rfl) (fun _ _ _ h => h) (Or.inl ⟨by rfl, ?_⟩) ?_
            rotate_left
            · (intro W _; go_simp; try with_reducible rfl)
            (try simp only [Act.put, List.getElem_toArray, List.getElem_cons_zero, List.getElem_cons_succ, List.setIfInBounds_toArray, List.set_cons_zero, List.set_cons_succ])
            refine wpAnyX_takeL (L := []) (i := 6) (v := ?_) rfl (by kernel_rfl) (by kernel_rfl) (by kernel_rfl) (by kernel_rfl) (fun _ _ _ h => h) (Or.inl ⟨by rfl, ?_⟩) (HS.out _ hbf) ?_
            rotate_left
            · (intro W hSW; (try dsimp only at hSW); obtain ⟨z0, z1, z2, z3, z4⟩ := hSW; go_simp; try with_reducible rfl)
            (try simp only [Act.put, List.getElem_toArray, List.getElem_cons_zero, List.getElem_cons_succ, List.setIfInBounds_toArray, List.set_cons_zero, List.set_cons_succ])
            refine wpAnyX_pure (i := 7) (v := ?_) rfl (by kernel_rfl) (by kernel_rfl) (by kernel_rfl) (fun _ _ _ h => h) (Or.inl ⟨by rfl, ?_⟩) ?_
            rotate_left
            · (intro W _; go_simp; try with_reducible rfl)
            (try simp only [Act.put, List.getElem_toArray, List.getElem_cons_zero, List.getElem_cons_succ, List.setIfInBounds_toArray, List.set_cons_zero, List.set_cons_succ])
            refine wpAnyX_takeL (L := []) (i := 8) (v := ?_) rfl (by kernel_rfl) (by kernel_rfl) (by kernel_rfl) (by kernel_rfl) (fun _ _ _ h => h) (Or.inl ⟨by rfl, ?_⟩) (HS.out _ hbf) ?_
            rotate_left
            · (intro W hSW; (try dsimp only at hSW); obtain ⟨z0, z1, z2, z3, z4⟩ := hSW; go_simp; try with_reducible rfl)
            (try simp only [Act.put, List.getElem_toArray, List.getElem_cons_zero, List.getElem_cons_succ, List.setIfInBounds_toArray, List.set_cons_zero, List.set_cons_succ])
            refine wpAnyX_pure (i := 9) (v := ?_) rfl (by kernel_rfl) (by kernel_rfl) (by kernel_rfl) (fun _ _ _ h => h) (Or.inl ⟨by rfl, ?_⟩) ?_
            rotate_left
            · (intro W _; go_simp; try with_reducible rfl)
            (try simp only [Act.put, List.getElem_toArray, List.getElem_cons_zero, List.getElem_cons_succ, List.setIfInBounds_toArray, List.set_cons_zero, List.set_cons_succ])
            refine wpAnyX_pure (i := 10) (v := ?_) rfl (by kernel_rfl) (by kernel_rfl) (by kernel_rfl) (fun _ _ _ h => h) (Or.inl ⟨by rfl, ?_⟩) ?_
            rotate_left
            · (intro W _; go_simp; try with_reducible rfl)
            (try simp only [Act.put, List.getElem_toArray, List.getElem_cons_zero, List.getElem_cons_succ, List.setIfInBounds_toArray, List.set_cons_zero, List.set_cons_succ])
            refine wpAnyX_takeL (L := []) (i := 11) (v := ?_) rfl (by kernel_rfl) (by kernel_rfl) (by kernel_rfl) (by kernel_rfl) (fun _ _ _ h => h) (Or.inl ⟨by rfl, ?_⟩) (HS.out _ hbf) ?_
            rotate_left
            · (intro W hSW; (try dsimp only at hSW); obtain ⟨z0, z1, z2, z3, z4⟩ := hSW; go_simp; try with_reducible rfl)
            (try simp only [Act.put, List.getElem_toArray, List.getElem_cons_zero, List.getElem_cons_succ, List.setIfInBounds_toArray, List.set_cons_zero, List.set_cons_succ])
            refine wpAnyX_one (i := 12) rfl (by kernel_rfl) (fun K hK => ?_)
            go_simp
            go_at_call 72
            refine (HDI.out _ hbf).mono ?_
            rintro r w5 ⟨rfl, b5⟩
            have hbf := bt hbf b5
            clear b5
            refine hK.out _ _ (fun _ _ => HS.out _ hbf) ?_
            (try simp only [Act.put, List.getElem_toArray, List.getElem_cons_zero, List.getElem_cons_succ, List.setIfInBounds_toArray, List.set_cons_zero, List.set_cons_succ])
            refine wpAnyX_pure (i := 13) (v := ?_) rfl (by kernel_rfl) (by kernel_rfl) (by kernel_rfl) (fun _ _ _ h => h) (Or.inl ⟨by rfl, ?_⟩) ?_
            rotate_left
            · (intro W _; go_simp; try with_reducible rfl)
            (try simp only [Act.put, List.getElem_toArray, List.getElem_cons_zero, List.getElem_cons_succ, List.setIfInBounds_toArray, List.set_cons_zero, List.set_cons_succ])
            refine wpAnyX_pure (i := 14) (v := ?_) rfl (by kernel_rfl) (by kernel_rfl) (by kernel_rfl) (fun _ _ _ h => h) (Or.inl ⟨by rfl, ?_⟩) ?_
            rotate_left
            · (intro W _; go_simp; try with_reducible rfl)
            (try simp only [Act.put, List.getElem_toArray, List.getElem_cons_zero, List.getElem_cons_succ, List.setIfInBounds_toArray, List.set_cons_zero, List.set_cons_succ])
            refine wpAnyX_pure (i := 15) (v := ?_) rfl (by kernel_rfl) (by kernel_rfl) (by kernel_rfl) (fun _ _ _ h => h) (Or.inl ⟨by rfl, ?_⟩) ?_
            rotate_left
            · (intro W _; go_simp; try with_reducible rfl)
            (try simp only [Act.put, List.getElem_toArray, List.getElem_cons_zero, List.getElem_cons_succ, List.setIfInBounds_toArray, List.set_cons_zero, List.set_cons_succ])
            refine wpAnyX_done (by kernel_rfl) ?_ _
            have HBF := Lib.hid (bt HBW.out hbf)
            clear hbf
            go_wp2
            go_roundw
            case rel => exact ⟨q + 1, by go_num, by omega, by omega, by rw [HPN.out]; rfl, by rw [HCN.out]; rfl, HBF⟩
            case measure => simp [intOf]; omega
          case false.true =>
            go_wp2
            go_quiet ((go_at_call 69; exact Calls.quiet_of (HHP.out _)))
            go_wp2
            go_quiet (fail)
            go_wp2
            go_roundw
            case rel => exact ⟨q + 1, by go_num, by omega, by omega, by rw [HPN.out]; rfl, by rw [HCN.out]; rfl, Lib.hid (bt HBW.out (by first | exact below_drewN (Below.refl _ _) _ | exact below_drewN (below_drewN (Below.refl _ _) _) _))⟩
            case measure => simp [intOf]; omega
          case true.true =>
            go_wp2
            go_quiet (fail)
            go_wp2
            go_quiet (fail)
            go_wp2
            go_roundw
            case rel => exact ⟨q + 1, by go_num, by omega, by omega, by rw [HPN.out]; rfl, by rw [HCN.out]; rfl, Lib.hid (bt HBW.out (by first | exact below_drewN (Below.refl _ _) _ | exact below_drewN (below_drewN (Below.refl _ _) _) _))⟩
            case measure => simp [intOf]; omega
        · obtain rfl : q = n := by omega
          obtain ⟨x, hx⟩ : ∃ x, x = pfB ts p q := ⟨_, rfl⟩
          obtain ⟨y, hy⟩ : ∃ y, y = clB ts p q := ⟨_, rfl⟩
          rw [← hx, ← hy]
          have HXX := Lib.hid hx
          have HYY := Lib.hid hy
          clear hx hy
          cases x
          case true =>
            go_wp2
            go_ret
            exact ⟨7, rfl, Lib.hid (fun h => absurd h (by decide)), bt HB0.out HBW.out⟩
          case false =>
            cases y
            case true =>
              go_wp2
              go_ret
              exact ⟨13, rfl, Lib.hid (fun h => absurd h (by decide)), bt HB0.out HBW.out⟩
            case false =>
              have HP2 := Lib.hid (show ∀ a b, a < b → b < q → a < p + 1 → ¬ cmn (tIn ts b) (tIn ts a) = (tIn ts a).length ∧ ∀ j, j < cmn (tIn ts a) (tIn ts b) → (tOut ts a).getD j 0 = (tOut ts b).getD j 0 from fun a b h1 h2 h3 => by
                rcases Nat.lt_or_ge a p with h4 | h4
                · exact HP.out a b h1 h2 h4
                · obtain rfl : a = p := by omega
                  exact ⟨pfB_no HXX.out.symm h1 h2, clB_no HYY.out.symm h1 h2⟩)
              go_wp2
              go_roundw
              case rel => exact ⟨p + 1, by go_num, by omega, HP2, HBW⟩
              case measure => simp [intOf]; omega
    · obtain rfl : p = n := by omega
      go_wp2
      go_ret
      exact ⟨0, rfl, Lib.hid (fun _ a b h1 h2 => HP.out a b h1 (by rw [← HLT.out]; exact h2) (by rw [← HLT.out]; omega)), bt HB0.out HBR.out⟩
end Go.Proofs.Ytkgdgnmobahhfaa
end

section
/- The reference of observe: Valid. -/
namespace Go.Proofs.Ytkgdgnmobahhfaa
open Go.RowKit

/-- What valid observations are. -/
def ObsV (i : Int) (ts : TSr) : Prop := Srt ts ∧ Full ts ∧ Cons ts ∧ Props i ts ∧ Pw ts ∧ (∀ j, j < ts.length → 0 < (tIn ts j).length) ∧ 1 ≤ i ∧ i ≤ 64 ∧ ts.length ≤ 10000
theorem srt_adj {ts : TSr} (h : ∀ j, j + 1 < ts.length → shlex (tIn ts j) (tIn ts (j + 1)) < 0) : Srt ts := fun a b hab hb => by
  induction b with
  | zero => omega
  | succ b ih =>
    have h1 := h b hb
    rcases Nat.lt_or_ge a b with h2 | h2
    · have h3 := ih h2 (by omega)
      exact (shlex_trans _ (tIn ts b) _).2 h3 (by omega)
    · rw [show a = b by omega]; exact h1

set_option linter.unusedSimpArgs false in
set_option linter.unusedVariables false in
set_option maxHeartbeats 8000000 in
set_option maxRecDepth 100000 in
theorem rvalid16 (i : Int) (T : Option Addr) (n c : Nat) (ts : TSr) (w : World) (hT : Trs w T n ts) :
    Calls Try.prog 20 #[.agg #[.int .i64 i, .slice T n c]] w fun e w' => ∃ v : Int, e = .returned (.int .i64 v) ∧ Hid (v = 0 → ObsV i ts) ∧ Below w.heap.size w w' := by
  obtain ⟨w0, hw0⟩ : ∃ w0, w0 = w.alloc (.cells #[.int .i64 i, .slice T n c] 24) := ⟨_, rfl⟩
  have hb0 : Below w.heap.size w w0 := by rw [hw0]; exact alloc_below _ _
  have m0 : Bx w0 w.heap.size #[.int .i64 i, .slice T n c] 24 := by rw [hw0]; exact bx_new _ _ _
  have HM := Lib.hid (fun (W : World) (h : Below w0.heap.size w0 W) => m0.on h)
  have HT := Lib.hid (fun (W : World) (h : Below w0.heap.size w0 W) => (hT.below hb0).below h)
  have HB0 := Lib.hid hb0
  have HW0 := Lib.hid hw0
  have HLT := Lib.hid hT.1
  have hn := hT.2.1
  have k0 := m0.cell 0
  have k1 := m0.cell 1
  simp at k0 k1
  rw [hw0] at k0 k1
  clear hw0 hb0 m0 hT
  by_cases hi1 : i < 1
  · go_enter Try.func20, Try.ntmps20
    go_wp2
    rw [← HW0.out]
    go_ret
    exact ⟨2, rfl, Lib.hid (fun h => absurd h (by decide)), HB0.out⟩
  by_cases hi2 : 64 < i
  · go_enter Try.func20, Try.ntmps20
    go_wp2
    rw [← HW0.out]
    go_ret
    exact ⟨2, rfl, Lib.hid (fun h => absurd h (by decide)), HB0.out⟩
  by_cases hbig : 10000 < n
  · have hbI : (10000 : Int) < (n : Int) := by omega
    go_enter Try.func20, Try.ntmps20
    go_wp2
    rw [← HW0.out]
    go_ret
    exact ⟨11, rfl, Lib.hid (fun h => absurd h (by decide)), HB0.out⟩
  have hbI : ¬ (10000 : Int) < (n : Int) := by omega
  go_enter Try.func20, Try.ntmps20
  go_wp2
  rw [← HW0.out]
  clear k0 k1
  go_loopw [3] (fun v3 wr => ∃ k : Nat, v3 = .int .i64 k ∧ k ≤ n ∧ Hid (∀ j, j < k → prpE (tIn ts j) (tOut ts j) i = 0 ∧ 0 < (tIn ts j).length ∧ (0 < j → shlex (tIn ts (j - 1)) (tIn ts j) < 0)) ∧ Hid (Below w0.heap.size w0 wr)) (fun v3 _ => n - (intOf v3).toNat)
  case atStart => exact ⟨0, rfl, Nat.zero_le _, Lib.hid (fun j h => absurd h (Nat.not_lt_zero j)), Lib.hid (Below.refl _ _)⟩
  case round =>
    obtain ⟨k, rfl, hk, HP, HBR⟩ := hrel
    by_cases hlt : k < n
    · obtain ⟨b, off, A1, n1, c1, A2, n2, c2, rfl, hgb, j1, j2, _, _, j3, j4⟩ := (HT.out _ HBR.out).at_ hlt
      obtain ⟨wa, hwa⟩ : ∃ wa, wa = wr.alloc (.cells #[.slice A1 n1 c1, .slice A2 n2 c2] 38) := ⟨_, rfl⟩
      have hal : Below wr.heap.size wr wa := by rw [hwa]; exact alloc_below _ _
      have hbx : Bx wa wr.heap.size #[.slice A1 n1 c1, .slice A2 n2 c2] 38 := by rw [hwa]; exact bx_new _ _ _
      have z1 := (HM.out _ HBR.out).cell 1
      have k0 := (HM.out _ (bt HBR.out hal)).cell 0
      have k1 := (HM.out _ (bt HBR.out hal)).cell 1
      have x0 := hbx.cell 0
      have x1 := hbx.cell 1
      simp at z1 k0 k1 x0 x1
      have HRC := Lib.hid (rcheck A1 n1 c1 i (tIn ts k) wa (j3.below hal))
      have HRP := Lib.hid (rproper A1 A2 n1 c1 n2 c2 i (tIn ts k) (tOut ts k) wa (j3.below hal) (j4.below hal))
      have HWA := Lib.hid hwa
      have HBA := Lib.hid (bt HBR.out hal)
      have HBX := Lib.hid hbx
      have HL1 := Lib.hid j3.1
      rw [hwa] at k0 k1 x0 x1
      clear hwa hal hbx j3 j4 hgb
      by_cases hc : chk (tIn ts k) i = 0
      case neg =>
        obtain ⟨E, hE⟩ : ∃ E, E = chk (tIn ts k) i := ⟨_, rfl⟩
        rw [← hE] at HRC hc
        have hne : (E != 0) = true := by simpa using hc
        have HNE := Lib.hid hc
        clear hE hc
        go_wp2_with fail
        rw [← HWA.out]
        refine HRC.out.mono ?_
        rintro r w1 ⟨rfl, rfl⟩
        go_wp2
        go_ret
        exact ⟨E, rfl, Lib.hid (fun h => absurd h HNE.out), bt HB0.out HBA.out⟩
      rw [hc] at HRC
      by_cases h0 : n1 = 0
      · subst h0
        clear hc
        go_wp2_with fail
        rw [← HWA.out]
        refine HRC.out.mono ?_
        rintro r w1 ⟨rfl, rfl⟩
        rw [← HWA.out] at k0 k1 x0 x1
        go_wp2
        go_ret
        exact ⟨19, rfl, Lib.hid (fun h => absurd h (by decide)), bt HB0.out HBA.out⟩
      have h0f : ((n1 : Int) == 0) = false := by rw [beq_eq_false_iff_ne]; omega
      by_cases hp : prpE (tIn ts k) (tOut ts k) i = 0
      case neg =>
        obtain ⟨E, hE⟩ : ∃ E, E = prpE (tIn ts k) (tOut ts k) i := ⟨_, rfl⟩
        rw [← hE] at HRP hp
        have hne : (E != 0) = true := by simpa using hp
        have HNE := Lib.hid hp
        clear hE hp hc
        go_wp2_with fail
        rw [← HWA.out]
        refine HRC.out.mono ?_
        rintro r w1 ⟨rfl, rfl⟩
        rw [← HWA.out] at k0 k1 x0 x1
        go_wp2_with fail
        refine HRP.out.mono ?_
        rintro r w2 ⟨rfl, a2⟩
        clear k0 k1 x0 x1
        have HB2 := Lib.hid (bt HBA.out a2)
        clear a2
        go_wp2
        go_ret
        exact ⟨E, rfl, Lib.hid (fun h => absurd h HNE.out), bt HB0.out HB2.out⟩
      rw [hp] at HRP
      have HPP := Lib.hid hp
      clear hp hc
      by_cases hk0 : k = 0
      · have hkz : ¬ 0 < k := by omega
        have HK0 := Lib.hid hk0
        clear hk0
        go_wp2_with fail
        rw [← HWA.out]
        refine HRC.out.mono ?_
        rintro r w1 ⟨rfl, rfl⟩
        rw [← HWA.out] at k0 k1 x0 x1
        go_wp2_with fail
        refine HRP.out.mono ?_
        rintro r w2 ⟨rfl, a2⟩
        clear k0 k1 x0 x1
        have HB2 := Lib.hid (bt HBA.out a2)
        have HP2 := Lib.hid (show ∀ j, j < k + 1 → prpE (tIn ts j) (tOut ts j) i = 0 ∧ 0 < (tIn ts j).length ∧ (0 < j → shlex (tIn ts (j - 1)) (tIn ts j) < 0) from fun j hj => by
          have hk0 := HK0.out
          obtain rfl : j = k := by omega
          exact ⟨HPP.out, by rw [HL1.out]; omega, fun h => absurd h (by omega)⟩)
        clear a2
        go_wp2
        go_quiet (fail)
        go_wp2
        go_roundw
        case rel => exact ⟨k + 1, by go_num, by omega, HP2, Lib.hid (below_drewN HB2.out _)⟩
        case measure => simp [intOf]; omega
      · obtain ⟨kp, hkp⟩ : ∃ kp, k = kp + 1 := ⟨k - 1, by omega⟩
        have hkpos : 0 < k := by omega
        have hw1 : IntKind.i64.wrap ((k : Int) - 1) = (kp : Int) := by rw [IntKind.wrap_i64]; omega
        have hkI : (kp : Int) < (n : Int) := by omega
        have hk0I : (0 : Int) ≤ (kp : Int) := by omega
        have HKP := Lib.hid hkp
        have hkpn : kp < n := by omega
        clear hkp
        go_wp2_with fail
        rw [← HWA.out]
        refine HRC.out.mono ?_
        rintro r w1 ⟨rfl, rfl⟩
        rw [← HWA.out] at k0 k1 x0 x1
        go_wp2_with fail
        refine HRP.out.mono ?_
        rintro r w2 ⟨rfl, a2⟩
        have hb2 := bt HBA.out a2
        clear k0 k1 x0 x1 z1
        have k1 := (HM.out _ hb2).cell 1
        have x0 := (HBX.out.on a2).cell 0
        simp at k1 x0
        obtain ⟨_, _, B1, m1, d1, B2, m2, d2, eT, _, i1, _, _, _, i3, _⟩ := (HT.out _ hb2).at_ hkpn
        cases eT
        obtain ⟨_, _, D1, p1, f1, D2, p2, f2, eT, _, g1, _, _, _, g3, _⟩ := (HT.out _ hb2).at_ hlt
        cases eT
        have e1 : (Value.slice A1 n1 c1) = .slice D1 p1 f1 := by
          have hgw : b < w0.heap.size := by
            obtain ⟨_, _, _, _, _, _, _, _, eQ, hq, _⟩ := (HT.out _ (Below.refl _ _)).at_ hlt
            cases eQ
            exact hq
          have h5 := hb2.cell (p := ⟨b, off + k * 2, none⟩) hgw
          have h6 := HBR.out.cell (p := ⟨b, off + k * 2, none⟩) hgw
          have h7 := h5.trans (h6.symm.trans j1)
          rw [g1] at h7
          cases h7
          rfl
        cases e1
        have HCP := Lib.hid (fun u => rcompare B1 A1 m1 d1 n1 c1 (tIn ts kp) (tIn ts k) (w2.drewN u) (i3.drewN u) (g3.drewN u))
        have HB2 := Lib.hid hb2
        clear a2 hb2 i3 g3 g1
        obtain ⟨s, hs⟩ : ∃ s, s = shlex (tIn ts kp) (tIn ts k) := ⟨_, rfl⟩
        rw [← hs] at HCP
        have HSS := Lib.hid hs
        clear hs
        by_cases hsn : 0 ≤ s
        · go_wp2
          go_quiet ((go_at_call 61; exact Calls.quiet_of (HCP.out _)))
          go_wp2
          go_ret
          exact ⟨10, rfl, Lib.hid (fun h => absurd h (by decide)), bt HB0.out (below_drewN HB2.out _)⟩
        · have HP2 := Lib.hid (show ∀ j, j < k + 1 → prpE (tIn ts j) (tOut ts j) i = 0 ∧ 0 < (tIn ts j).length ∧ (0 < j → shlex (tIn ts (j - 1)) (tIn ts j) < 0) from fun j hj => by
            rcases Nat.lt_or_ge j k with h | h
            · exact HP.out j h
            · obtain rfl : j = k := by omega
              refine ⟨HPP.out, by rw [HL1.out]; omega, fun _ => ?_⟩
              rw [show j - 1 = kp by have := HKP.out; omega, ← HSS.out]
              omega)
          go_wp2
          go_quiet ((go_at_call 61; exact Calls.quiet_of (HCP.out _)))
          go_wp2
          go_roundw
          case rel => exact ⟨k + 1, by go_num, by omega, HP2, Lib.hid (below_drewN HB2.out _)⟩
          case measure => simp [intOf]; omega
    · obtain rfl : k = n := by omega
      have HPR := Lib.hid (show Props i ts from fun j hj => (HP.out j (by rw [← HLT.out]; exact hj)).1)
      have HFU := Lib.hid (show Full ts from fun j hj => (prp_zero (HPR.out j hj)).2.1)
      have HRA := Lib.hid (rapart16 i T k c ts wr (HT.out _ HBR.out) HFU.out)
      have k0 := (HM.out _ HBR.out).cell 0
      have k1 := (HM.out _ HBR.out).cell 1
      simp at k0 k1
      go_wp2_with fail
      refine HRA.out.mono ?_
      rintro r w2 ⟨v, rfl, hv, a2⟩
      have HB2 := Lib.hid (bt HBR.out a2)
      clear a2 k0 k1
      go_wp2
      go_ret
      refine ⟨v, rfl, Lib.hid (fun h => ?_), bt HB0.out HB2.out⟩
      have hpw := hv.out h
      refine ⟨srt_adj fun j hj => ?_, HFU.out, hpw.cons, HPR.out, hpw, fun j hj => (HP.out j (by rw [← HLT.out]; exact hj)).2.1, by omega, by omega, by rw [HLT.out]; omega⟩
      have := (HP.out (j + 1) (by rw [← HLT.out]; exact hj)).2.2 (by omega)
      rwa [show j + 1 - 1 = j by omega] at this
end Go.Proofs.Ytkgdgnmobahhfaa
end

section
/- The reference of observe: Answer. -/
namespace Go.Proofs.Ytkgdgnmobahhfaa
open Go.RowKit

/-- The result of Answer for a word that is not empty. -/
def AnsR (ts : TSr) (ws : List Int) (n : Nat) (w : World) (r : Ending) (w' : World) : Prop :=
  Below w.heap.size w w' ∧ ((r = .returned (.tuple #[.slice none 0 0, .bool false]) ∧ ∀ a, a < ts.length → ¬ cmn (tIn ts a) ws = ws.length) ∨
    ∃ (a : Nat) (A' : Option Addr) (c' : Nat), a < ts.length ∧ cmn (tIn ts a) ws = ws.length ∧ r = .returned (.tuple #[.slice A' n c', .bool true]) ∧ Ints w' A' n ((tOut ts a).take n))

set_option linter.unusedSimpArgs false in
set_option linter.unusedVariables false in
set_option maxHeartbeats 8000000 in
set_option maxRecDepth 100000 in
theorem ranswer16 (i : Int) (T A : Option Addr) (tn tc n c : Nat) (ts : TSr) (ws : List Int) (w : World) (hT : Trs w T tn ts) (hF : Full ts) (hA : Ints w A n ws) (h0 : 0 < n) :
    Calls Try.prog 25 #[.agg #[.int .i64 i, .slice T tn tc], .slice A n c] w fun r w' => AnsR ts ws n w r w' := by
  obtain ⟨w0, hw0⟩ : ∃ w0, w0 = w.alloc (.cells #[.int .i64 i, .slice T tn tc] 24) := ⟨_, rfl⟩
  have hb0 : Below w.heap.size w w0 := by rw [hw0]; exact alloc_below _ _
  have m0 : Bx w0 w.heap.size #[.int .i64 i, .slice T tn tc] 24 := by rw [hw0]; exact bx_new _ _ _
  have HM := Lib.hid (fun (W : World) (h : Below w0.heap.size w0 W) => m0.on h)
  have HT := Lib.hid (fun (W : World) (h : Below w0.heap.size w0 W) => (hT.below hb0).below h)
  have HA := Lib.hid (fun (W : World) (h : Below w0.heap.size w0 W) => (hA.below hb0).below h)
  have HB0 := Lib.hid hb0
  have HW0 := Lib.hid hw0
  have HLT := Lib.hid hT.1
  have HLA := Lib.hid hA.1
  have HF := Lib.hid hF
  have hn := hT.2.1
  have hnb := hA.2.1
  have hn0 : ((n : Int) == 0) = false := by rw [beq_eq_false_iff_ne]; omega
  clear hw0 hb0 m0 hT hA hF
  go_enter Try.func25, Try.ntmps25
  go_wp2
  rw [← HW0.out]
  clear hn0
  go_loopw [6] (fun v6 wr => ∃ p : Nat, v6 = .int .i64 p ∧ p ≤ tn ∧ Hid (∀ a, a < p → ¬ cmn (tIn ts a) ws = ws.length) ∧ Hid (Below w0.heap.size w0 wr)) (fun v6 _ => tn - (intOf v6).toNat)
  case atStart => exact ⟨0, rfl, Nat.zero_le _, Lib.hid (fun a h => absurd h (Nat.not_lt_zero a)), Lib.hid (Below.refl _ _)⟩
  case round =>
    obtain ⟨p, rfl, hp, HP, HBR⟩ := hrel
    have k1 := (HM.out _ HBR.out).cell 1
    simp at k1
    by_cases hlt : p < tn
    · obtain ⟨b, off, A1, n1, c1, A2, n2, c2, rfl, hgb, j1, j2, q1, q2, j3, j4⟩ := (HT.out _ HBR.out).at_ hlt
      have HHP := Lib.hid (rhasprefix A1 A n1 c1 n c (tIn ts p) ws wr j3 (HA.out _ HBR.out))
      have HJ4 := Lib.hid j4
      have hq : n2 = n1 := by rw [← j4.1, ← j3.1]; exact HF.out p (by rw [HLT.out]; exact hlt)
      obtain ⟨f, hf⟩ : ∃ f, f = decide (cmn (tIn ts p) ws = ws.length) := ⟨_, rfl⟩
      rw [← hf] at HHP
      have HFF := Lib.hid hf
      have hnn : f = true → n ≤ n2 := fun h => by
        rw [h] at hf
        have e := of_decide_eq_true hf.symm
        have := cmn_le_left (tIn ts p) ws
        have l1 := j3.1
        have l2 := HLA.out
        omega
      clear j3 j4 hf hq
      cases f
      case false =>
        clear hnn
        go_wp2_with fail
        refine HHP.out.mono ?_
        rintro r w3 ⟨rfl, q3, rfl⟩
        go_wp2_with fail
        go_roundw
        case rel => exact ⟨p + 1, by go_num, by omega, Lib.hid (fun a ha => by
          by_cases e : a = p
          · rw [e]; exact of_decide_eq_false HFF.out.symm
          · exact HP.out a (by omega)), Lib.hid (below_drewN HBR.out q3)⟩
        case measure => simp [intOf]; omega
      case true =>
        have hnn := hnn rfl
        have i1' : (n : Int) ≤ (c2 : Int) := by omega
        have i2' : (0 : Int) ≤ (n : Int) := by omega
        have HTK := Lib.hid (HJ4.out.takeX (t := n) hnn)
        go_wp2_with fail
        refine HHP.out.mono ?_
        rintro r w3 ⟨rfl, q3, rfl⟩
        have HJO := Lib.hid (join_one (c := c2) (HTK.out.drewN q3))
        go_wp2_with fail
        refine HJO.out.mono ?_
        rintro r w4 ⟨A4, c4, rfl, o4, a4⟩
        have hlen : ((tOut ts p).take n).length = n := by rw [List.length_take, HJ4.out.1]; omega
        have HFV := Lib.hid (o4.ints (by rw [hlen]; exact hnb))
        have HB4 := Lib.hid (bt (below_drewN HBR.out q3) a4)
        have HR := Lib.hid (of_decide_eq_true HFF.out.symm)
        clear o4 a4 hlen
        go_wp2_with fail
        go_ret2
        exact ⟨bt HB0.out HB4.out, .inr ⟨p, A4, c4, by rw [HLT.out]; exact hlt, HR.out, rfl, HFV.out⟩⟩
    · obtain rfl : p = tn := by omega
      go_wp2
      go_ret2
      exact ⟨bt HB0.out HBR.out, .inl ⟨rfl, fun a ha => HP.out a (by rw [← HLT.out]; exact ha)⟩⟩
end Go.Proofs.Ytkgdgnmobahhfaa
end

section
/- The reference of observe: Known, Clash; long. -/
namespace Go.Proofs.Ytkgdgnmobahhfaa
open Go.RowKit

/-- The result of the reference's Clash. -/
def RClR (ts : TSr) (xs ys : List Int) (i : Int) (fd : Bool) (zs : List Int) (f s : Int) : Prop :=
  (fd = false ∧ zs = [] ∧ f = 0 ∧ s = 0 ∧ (¬ prpE xs ys i = 0 ∨ ∀ a, a < ts.length → ∀ j, j < cmn (tIn ts a) xs → (tOut ts a).getD j 0 = ys.getD j 0)) ∨
  (fd = true ∧ prpE xs ys i = 0 ∧ ∃ a k, a < ts.length ∧ k < cmn (tIn ts a) xs ∧ ¬ (tOut ts a).getD k 0 = ys.getD k 0 ∧ (∀ b, b < ts.length → ∀ j, j < cmn (tIn ts b) xs → j < k → (tOut ts b).getD j 0 = ys.getD j 0) ∧ zs = xs.take (k + 1) ∧ f = (tOut ts a).getD k 0 ∧ s = ys.getD k 0)
def RClE (ts : TSr) (xs ys : List Int) (i : Int) (w : World) (e : Ending) (w' : World) : Prop :=
  ∃ (fd : Bool) (A' : Option Addr) (l c' : Nat) (f s : Int) (zs : List Int), e = .returned (.tuple #[.agg #[.slice A' l c', .int .i64 f, .int .i64 s], .bool fd]) ∧ RClR ts xs ys i fd zs f s ∧ Ints w' A' l zs ∧ Below w.heap.size w w'
/-- The loop of Clash behind p traces. -/
def RAt (ts : TSr) (xs ys : List Int) (p : Nat) (z f : Int) : Prop :=
  (z = -1 ∧ f = 0 ∧ ∀ a, a < p → ∀ j, j < cmn (tIn ts a) xs → (tOut ts a).getD j 0 = ys.getD j 0) ∨
  (∃ a k : Nat, z = k ∧ a < p ∧ k < cmn (tIn ts a) xs ∧ ¬ (tOut ts a).getD k 0 = ys.getD k 0 ∧ (∀ b, b < p → ∀ j, j < cmn (tIn ts b) xs → j < k → (tOut ts b).getD j 0 = ys.getD j 0) ∧ f = (tOut ts a).getD k 0)
theorem RAt.zero (ts : TSr) (xs ys : List Int) : RAt ts xs ys 0 (-1) 0 := .inl ⟨rfl, rfl, fun a h => absurd h (Nat.not_lt_zero a)⟩
theorem RAt.no {ts : TSr} {xs ys : List Int} {p : Nat} {z f y : Int} (h : RAt ts xs ys p z f) (hy : Dff (tIn ts p) (tOut ts p) xs ys y) (hn : y < 0 ∨ (0 ≤ z ∧ z ≤ y)) : RAt ts xs ys (p + 1) z f := by
  have hp : ∀ j, j < cmn (tIn ts p) xs → (j : Int) < z ∨ y < 0 → (tOut ts p).getD j 0 = ys.getD j 0 := fun j hj hz => by
    rcases hy with ⟨_, h1⟩ | ⟨k, rfl, _, h2, _⟩
    · exact h1 j hj
    · exact h2 j (by omega)
  rcases h with ⟨rfl, rfl, h⟩ | ⟨a, k, rfl, h1, h2, h3, h4, rfl⟩
  · refine .inl ⟨rfl, rfl, fun a ha j hj => ?_⟩
    rcases Nat.lt_or_ge a p with h5 | h5
    · exact h a h5 j hj
    · obtain rfl : a = p := by omega
      exact hp j hj (.inr (by omega))
  · refine .inr ⟨a, k, rfl, by omega, h2, h3, fun b hb j hj hjk => ?_, rfl⟩
    rcases Nat.lt_or_ge b p with h5 | h5
    · exact h4 b h5 j hj hjk
    · obtain rfl : b = p := by omega
      exact hp j hj (.inl (by omega))
theorem RAt.yes {ts : TSr} {xs ys : List Int} {p k : Nat} {z f : Int} (h : RAt ts xs ys p z f) (hy : Dff (tIn ts p) (tOut ts p) xs ys k) (hn : z < 0 ∨ (k : Int) < z) : RAt ts xs ys (p + 1) k ((tOut ts p).getD k 0) := by
  rcases hy with ⟨h0, _⟩ | ⟨k', h0, h1, h2, h3⟩
  · omega
  obtain rfl : k = k' := by omega
  refine .inr ⟨p, k, rfl, by omega, h1, h3, fun b hb j hj hjk => ?_, rfl⟩
  rcases Nat.lt_or_ge b p with h5 | h5
  · rcases h with ⟨rfl, rfl, h⟩ | ⟨a, m, rfl, _, _, _, h4, _⟩
    · exact h b h5 j hj
    · exact h4 b h5 j hj (by omega)
  · obtain rfl : b = p := by omega
    exact h2 j hjk
/-- The two sides of Clash agree. -/
theorem cls_same {ts : TSr} {xs ys zs zs' : List Int} {i f s f' s' : Int} {fd fd' : Bool} (hC : Cons ts) (hF : Full ts) (h : ClsR ts xs ys i fd zs f s) (h' : RClR ts xs ys i fd' zs' f' s') : fd = fd' ∧ zs = zs' ∧ f = f' ∧ s = s' := by
  by_cases hp : prpE xs ys i = 0
  case neg =>
    rcases h' with ⟨rfl, rfl, rfl, rfl, _⟩ | ⟨_, h1, _⟩
    · obtain ⟨best, _, ⟨rfl, rfl, rfl, rfl, _⟩ | ⟨_, h1, _⟩⟩ := h
      · exact ⟨rfl, rfl, rfl, rfl⟩
      · exact absurd h1 hp
    · exact absurd h1 hp
  have hl : ys.length = xs.length := by
    have hpr := hp
    unfold prpE at hpr
    split at hpr
    · exact (ansE_zero hpr).1
    · omega
  have key : ∀ a k, a < ts.length → k < cmn (tIn ts a) xs → ¬ (tOut ts a).getD k 0 = ys.getD k 0 → Sh1 ts xs ys (xs.take (k + 1)) := fun a k ha hk hn => by
    have h2 := cmn_le_right (tIn ts a) xs
    have hl2 : (xs.take (k + 1)).length = k + 1 := by rw [List.length_take]; omega
    refine ⟨List.take_prefix _ _, by omega, a, ha, pre_take (by rw [cmn_comm]; omega), ?_⟩
    rw [hl2]
    exact hn
  cases fd
  case false =>
    have hno := cls_false hC hF hl hp h
    rcases h' with ⟨rfl, rfl, rfl, rfl, _⟩ | ⟨_, _, a, k, h1, h2, h3, _⟩
    · obtain ⟨best, _, ⟨_, rfl, rfl, rfl, _⟩ | ⟨h1, _⟩⟩ := h
      · exact ⟨rfl, rfl, rfl, rfl⟩
      · cases h1
    · exact absurd (key a k h1 h2 h3) (hno _)
  case true =>
    obtain ⟨hy, hm⟩ := cls_true hC hF hl h
    obtain ⟨best, hg, ⟨h1, _⟩ | ⟨_, _, hlt, hz, hf, hs⟩⟩ := h
    · cases h1
    obtain ⟨hb, hc⟩ := hg (by omega)
    obtain ⟨ha, hd⟩ := agr_part hF hb hc hl
    have hd := hd hlt
    generalize agrN ts best (knw ts xs ts.length) ys = K at hlt hz hf hs ha hd
    have hx := cmn_le_right (tIn ts best) xs
    rcases h' with ⟨_, _, _, _, h5 | h5⟩ | ⟨rfl, _, a, k, h1, h2, h3, h4, rfl, rfl, rfl⟩
    · exact absurd hp h5
    · exact absurd (h5 best hb K (by omega)) hd
    · have h6 := hm _ (key a k h1 h2 h3)
      have h7 := cmn_le_right (tIn ts a) xs
      rw [hz, List.length_take, List.length_take] at h6
      have h8 : ¬ K < k := fun h => hd (h4 best hb K (by omega) h)
      obtain rfl : K = k := by omega
      refine ⟨rfl, hz, ?_, hs⟩
      rw [hf]
      refine hC best a hb h1 K ?_
      have p1 : xs.take (K + 1) <+: tIn ts best := pre_take (by rw [cmn_comm]; omega)
      have p2 : xs.take (K + 1) <+: tIn ts a := pre_take (by rw [cmn_comm]; omega)
      have := pre_min p1 p2
      rw [List.length_take] at this
      omega

set_option linter.unusedSimpArgs false in
set_option linter.unusedVariables false in
theorem rlong16 (A B : Option Addr) (n c m d : Nat) (w : World) :
    Calls Try.prog 23 #[.agg #[.slice A n c, .slice B m d]] w fun r w' => r = .returned (.bool (decide (1100 < n ∨ 1100 < m))) ∧ Below w.heap.size w w' := by
  obtain ⟨w0, hw0⟩ : ∃ w0, w0 = w.alloc (.cells #[.slice A n c, .slice B m d] 38) := ⟨_, rfl⟩
  have hb0 : Below w.heap.size w w0 := by rw [hw0]; exact alloc_below _ _
  have m0 : Bx w0 w.heap.size #[.slice A n c, .slice B m d] 38 := by rw [hw0]; exact bx_new _ _ _
  have HB0 := Lib.hid hb0
  have HW0 := Lib.hid hw0
  have k0 := m0.cell 0
  have k1 := m0.cell 1
  simp at k0 k1
  clear hw0 hb0 m0
  by_cases h1 : 1100 < n
  · have hd : decide (1100 < n ∨ 1100 < m) = true := by simp [h1]
    have hi : (1100 : Int) < (n : Int) := by omega
    rw [hd]
    clear hd
    go_enter Try.func23, Try.ntmps23
    go_wp2_with fail
    rw [← HW0.out]
    go_ret
    exact ⟨rfl, HB0.out⟩
  · by_cases h2 : 1100 < m
    · have hd : decide (1100 < n ∨ 1100 < m) = true := by simp [h2]
      have hi : ¬ (1100 : Int) < (n : Int) := by omega
      have hj : (1100 : Int) < (m : Int) := by omega
      rw [hd]
      clear hd
      go_enter Try.func23, Try.ntmps23
      go_wp2_with fail
      rw [← HW0.out]
      go_ret
      exact ⟨rfl, HB0.out⟩
    · have hd : decide (1100 < n ∨ 1100 < m) = false := by simp [h1, h2]
      have hi : ¬ (1100 : Int) < (n : Int) := by omega
      have hj : ¬ (1100 : Int) < (m : Int) := by omega
      rw [hd]
      clear hd
      go_enter Try.func23, Try.ntmps23
      go_wp2_with fail
      rw [← HW0.out]
      go_ret
      exact ⟨rfl, HB0.out⟩

set_option linter.unusedSimpArgs false in
set_option linter.unusedVariables false in
set_option maxHeartbeats 8000000 in
set_option maxRecDepth 100000 in
theorem rknown16 (i : Int) (T A : Option Addr) (tn tc n c : Nat) (ts : TSr) (ws : List Int) (w : World) (hT : Trs w T tn ts) (hA : Ints w A n ws) :
    Calls Try.prog 30 #[.agg #[.int .i64 i, .slice T tn tc], .slice A n c] w fun r w' => r = .returned (.int .i64 (knw ts ws ts.length)) ∧ Below w.heap.size w w' := by
  obtain ⟨w0, hw0⟩ : ∃ w0, w0 = w.alloc (.cells #[.int .i64 i, .slice T tn tc] 24) := ⟨_, rfl⟩
  have hb0 : Below w.heap.size w w0 := by rw [hw0]; exact alloc_below _ _
  have m0 : Bx w0 w.heap.size #[.int .i64 i, .slice T tn tc] 24 := by rw [hw0]; exact bx_new _ _ _
  have HM := Lib.hid (fun (W : World) (h : Below w0.heap.size w0 W) => m0.on h)
  have HT := Lib.hid (fun (W : World) (h : Below w0.heap.size w0 W) => (hT.below hb0).below h)
  have HA := Lib.hid (fun (W : World) (h : Below w0.heap.size w0 W) => (hA.below hb0).below h)
  have HB0 := Lib.hid hb0
  have HW0 := Lib.hid hw0
  have HLT := Lib.hid hT.1
  have hn := hT.2.1
  clear hw0 hb0 m0 hT hA
  go_enter Try.func30, Try.ntmps30
  go_wp2
  rw [← HW0.out]
  go_loopw [6, 5] (fun v6 v5 wr => ∃ p kn : Nat, v6 = .int .i64 p ∧ p ≤ tn ∧ v5 = .int .i64 kn ∧ Hid (kn = knw ts ws p) ∧ Hid (Below w0.heap.size w0 wr)) (fun v6 _ _ => tn - (intOf v6).toNat)
  case atStart => exact ⟨0, 0, rfl, Nat.zero_le _, rfl, Lib.hid rfl, Lib.hid (Below.refl _ _)⟩
  case round =>
    obtain ⟨p, kn, rfl, hp, rfl, HK, HBR⟩ := hrel
    have k1 := (HM.out _ HBR.out).cell 1
    simp at k1
    by_cases hlt : p < tn
    · obtain ⟨b, off, A1, n1, c1, A2, n2, c2, rfl, hgb, j1, j2, q1, q2, j3, j4⟩ := (HT.out _ HBR.out).at_ hlt
      obtain ⟨K, hK⟩ : ∃ K, K = cmn (tIn ts p) ws := ⟨_, rfl⟩
      have HCM := Lib.hid (rcommon A1 A n1 c1 n c (tIn ts p) ws wr j3 (HA.out _ HBR.out))
      rw [← hK] at HCM
      have HN := Lib.hid (show (max (kn : Int) (K : Int)) = ((knw ts ws (p + 1) : Nat) : Int) by
        rw [hK, HK.out]
        show _ = ((max (knw ts ws p) (cmn (tIn ts p) ws) : Nat) : Int)
        omega)
      clear j3 j4 hK
      go_wp2_with fail
      refine HCM.out.mono ?_
      rintro r w3 ⟨rfl, q3, rfl⟩
      go_wp2
      go_roundw
      case rel => exact ⟨p + 1, knw ts ws (p + 1), by go_num, by omega, by rw [HN.out], Lib.hid rfl, Lib.hid (below_drewN HBR.out q3)⟩
      case measure => simp [intOf]; omega
    · obtain rfl : p = tn := by omega
      go_wp2
      go_ret
      exact ⟨by rw [HK.out, HLT.out]; rfl, bt HB0.out HBR.out⟩

set_option linter.unusedSimpArgs false in
set_option linter.unusedVariables false in
set_option maxHeartbeats 8000000 in
set_option maxRecDepth 100000 in
theorem rclash16 (i : Int) (T A B : Option Addr) (tn tc n c m d : Nat) (ts : TSr) (xs ys : List Int) (w : World) (hT : Trs w T tn ts) (htc : tn ≤ tc) (hx : Ints w A n xs) (hnc : n ≤ c) (hn0 : n ≤ 1000000) (hy : Ints w B m ys) (hF : Full ts) :
    Calls Try.prog 27 #[.agg #[.int .i64 i, .slice T tn tc], .agg #[.slice A n c, .slice B m d]] w fun e w' => RClE ts xs ys i w e w' := by
  obtain ⟨w0, hw0⟩ : ∃ w0, w0 = ((w.alloc (.cells #[.int .i64 i, .slice T tn tc] 24)).alloc (.cells #[.slice A n c, .slice B m d] 38)).alloc (.cells #[.slice none 0 0, .int .i64 0, .int .i64 0] 43) := ⟨_, rfl⟩
  obtain ⟨hb0, m1, m2, m3, hs0⟩ := bxs3 w #[.int .i64 i, .slice T tn tc] #[.slice A n c, .slice B m d] #[.slice none 0 0, .int .i64 0, .int .i64 0] 24 38 43 w0 hw0
  have HW0 := Lib.hid hw0
  have HB0 := Lib.hid hb0
  have HX := Lib.hid (fun (W : World) (h : Below w0.heap.size w0 W) => (hx.below hb0).below h)
  have HY := Lib.hid (fun (W : World) (h : Below w0.heap.size w0 W) => (hy.below hb0).below h)
  have HT := Lib.hid (fun (W : World) (h : Below w0.heap.size w0 W) => (hT.below hb0).below h)
  have HM1 := Lib.hid (fun (W : World) (h : Below w0.heap.size w0 W) => m1.on h)
  have HM2 := Lib.hid (fun (W : World) (h : Below w0.heap.size w0 W) => m2.on h)
  have HM3 := Lib.hid (fun (W : World) (h : Below w0.heap.size w0 W) => m3.on h)
  have HLT := Lib.hid hT.1
  have HLX := Lib.hid hx.1
  have HLY := Lib.hid hy.1
  have HFF := Lib.hid hF
  have hbc := Below.refl w0.heap.size w0
  have k0 := m1.cell 0
  have k1 := m1.cell 1
  have l0 := m2.cell 0
  have l1 := m2.cell 1
  simp at k0 k1 l0 l1
  rw [hw0] at k0 k1 l0 l1
  have hN := hT.2.1
  have hNx := hx.2.1
  have HZ0 := Lib.hid hs0
  clear hw0 hb0 hx hy hT m1 m2 m3 hF hs0
  go_enter Try.func27, Try.ntmps27
  go_wp2_with fail
  rw [← HW0.out]
  refine (rproper A B n c m d i xs ys _ (HX.out _ hbc) (HY.out _ hbc)).mono ?_
  rintro e w1 ⟨rfl, a1⟩
  have hbc := bt hbc a1
  clear a1 k0 k1 l0 l1
  obtain ⟨E, hE⟩ : ∃ E, E = prpE xs ys i := ⟨_, rfl⟩
  rw [← hE]
  have HE := Lib.hid hE
  clear hE
  by_cases he : E = 0
  case neg =>
    have hne : (E != 0) = true := by simpa using he
    have HNE := Lib.hid he
    have m3 := HM3.out _ hbc
    have f0 := m3.free 0
    have f1 := m3.free 1
    have f2 := m3.free 2
    have q0 := m3.cell 0
    have q1 := m3.cell 1
    have q2 := m3.cell 2
    simp at q0 q1 q2
    have HS3 := Lib.hid (m3.set3 (.slice none 0 0) (.int .i64 0) (.int .i64 0))
    have HBB := Lib.hid (set3B (g := w.heap.size + 1 + 1) (bt HB0.out hbc) (by omega) (.slice none 0 0) (.int .i64 0) (.int .i64 0))
    clear m3
    go_wp2_with fail
    (try rw [Exit.noGoto_ret])
    refine bodyPost_ret (results_clash rfl _ _ (w.heap.size + 1 + 1) (.slice none 0 0) (.int .i64 0) (.int .i64 0) rfl HS3.out) rfl ?_
    exact ⟨false, none, 0, 0, 0, 0, [], rfl, .inl ⟨rfl, rfl, rfl, rfl, .inl (by rw [← HE.out]; exact HNE.out)⟩, ⟨rfl, Nat.zero_le _, fun h => absurd h (by omega)⟩, HBB.out⟩
  subst he
  have hpr : prpE xs ys i = 0 := HE.out.symm
  have hml : ys.length = xs.length := by
    have hq := hpr
    unfold prpE at hq
    split at hq
    · exact (ansE_zero hq).1
    · omega
  obtain rfl : m = n := by rw [← HLX.out, ← HLY.out, hml]
  have HPR := Lib.hid hpr
  have HML := Lib.hid hml
  have HBC := Lib.hid hbc
  clear hpr hml hbc
  go_wp2_with fail
  go_loopw [8, 6, 7] (fun v8 v6 v7 wr => ∃ (p : Nat) (z f : Int), v8 = .int .i64 p ∧ p ≤ tn ∧ v6 = .int .i64 z ∧ v7 = .int .i64 f ∧ Hid (RAt ts xs ys p z f) ∧ Hid (Below w0.heap.size w0 wr)) (fun v8 _ _ _ => tn - (intOf v8).toNat)
  case atStart => exact ⟨0, -1, 0, rfl, Nat.zero_le _, rfl, rfl, Lib.hid (RAt.zero _ _ _), HBC⟩
  case round =>
    obtain ⟨p, z, f, rfl, hp, rfl, rfl, HA, HBR⟩ := hrel
    have k1 := (HM1.out _ HBR.out).cell 1
    have l0 := (HM2.out _ HBR.out).cell 0
    have l1 := (HM2.out _ HBR.out).cell 1
    simp at k1 l0 l1
    by_cases hlt : p < tn
    · obtain ⟨b, off, A1, n1, c1, A2, n2, c2, eT, hgb, j1, j2, _, _, j3, j4⟩ := (HT.out _ HBR.out).at_ hlt
      subst eT
      obtain ⟨y, hy⟩ := dff_ex (tIn ts p) (tOut ts p) xs ys
      have hpI : (p : Int) < (tn : Int) := by omega
      have hp0 : (0 : Int) ≤ (p : Int) := by omega
      have HY' := Lib.hid hy
      have HJ4 := Lib.hid (fun (W : World) (h : Below wr.heap.size wr W) => j4.below h)
      have HFP := Lib.hid (HFF.out p (by rw [HLT.out]; exact hlt))
      have HLI := Lib.hid j3.1
      have HDI := Lib.hid (fun (W : World) (h : Below wr.heap.size wr W) => rdiffer A1 A2 A B n1 c1 n2 c2 m c m d (tIn ts p) (tOut ts p) xs ys y W (j3.below h) (j4.below h) ((HX.out _ HBR.out).below h) ((HY.out _ HBR.out).below h) HFP.out HML.out hy)
      have HS := Lib.hid (show ∀ W, Below wr.heap.size wr W → W.cell? ⟨w.heap.size, 1, none⟩ = some (.slice (some ⟨b, off, none⟩) tn tc) ∧ W.cell? ⟨b, off + p * 2, none⟩ = some (.slice A1 n1 c1) ∧ W.cell? ⟨b, off + p * 2 + 1, none⟩ = some (.slice A2 n2 c2) ∧ W.cell? ⟨w.heap.size + 1, 0, none⟩ = some (.slice A m c) ∧ W.cell? ⟨w.heap.size + 1, 1, none⟩ = some (.slice B m d) from fun W h => ⟨(h.cell (p := ⟨w.heap.size, 1, none⟩) (World.block_lt_of_cell? _ _ k1)).trans k1, (h.cell (p := ⟨b, off + p * 2, none⟩) hgb).trans j1, (h.cell (p := ⟨b, off + p * 2 + 1, none⟩) hgb).trans j2, (h.cell (p := ⟨w.heap.size + 1, 0, none⟩) (World.block_lt_of_cell? _ _ l0)).trans l0, (h.cell (p := ⟨w.heap.size + 1, 1, none⟩) (World.block_lt_of_cell? _ _ l1)).trans l1⟩)
      clear hy j3 j4 l0 l1 hgb j1 j2
      go_upto_region 7 with fail
      have hbf : Below wr.heap.size wr wr.drew := below_drewN (Below.refl _ _) 1
      refine wp_region_heldX (X := fun k => ([] : List Nat).contains k) (S := fun W => W.cell? ⟨w.heap.size, 1, none⟩ = some (.slice (some ⟨b, off, none⟩) tn tc) ∧ W.cell? ⟨b, off + p * 2, none⟩ = some (.slice A1 n1 c1) ∧ W.cell? ⟨b, off + p * 2 + 1, none⟩ = some (.slice A2 n2 c2) ∧ W.cell? ⟨w.heap.size + 1, 0, none⟩ = some (.slice A m c) ∧ W.cell? ⟨w.heap.size + 1, 1, none⟩ = some (.slice B m d)) (by kernel_rfl) ?_
      refine wpAnyX_pure (i := 0) (v := ?_) rfl (by kernel_rfl) (by kernel_rfl) (by kernel_rfl) (fun _ _ _ h => h) (Or.inl ⟨by rfl, ?_⟩) ?_
      rotate_left
      · (intro W _; go_simp; try with_reducible rfl)
      (try simp only [Act.put, List.getElem_toArray, List.getElem_cons_zero, List.getElem_cons_succ, List.setIfInBounds_toArray, List.set_cons_zero, List.set_cons_succ])
      refine wpAnyX_takeL (L := []) (i := 1) (v := ?_) rfl (by kernel_rfl) (by kernel_rfl) (by kernel_rfl) (by kernel_rfl) (fun _ _ _ h => h) (Or.inl ⟨by rfl, ?_⟩) (HS.out _ hbf) ?_
      rotate_left
      · (intro W hSW; (try dsimp only at hSW); obtain ⟨z0, z1, z2, z3, z4⟩ := hSW; go_simp; try with_reducible rfl)
      (try simp only [Act.put, List.getElem_toArray, List.getElem_cons_zero, List.getElem_cons_succ, List.setIfInBounds_toArray, List.set_cons_zero, List.set_cons_succ])
      refine wpAnyX_pure (i := 2) (v := ?_) rfl (by kernel_rfl) (by kernel_rfl) (by kernel_rfl) (fun _ _ _ h => h) (Or.inl ⟨by rfl, ?_⟩) ?_
      rotate_left
      · (intro W _; go_simp; try with_reducible rfl)
      (try simp only [Act.put, List.getElem_toArray, List.getElem_cons_zero, List.getElem_cons_succ, List.setIfInBounds_toArray, List.set_cons_zero, List.set_cons_succ])
      refine wpAnyX_pure (i := 3) (v := ?_) rfl (by kernel_rfl) (by kernel_rfl) (by kernel_rfl) (fun _ _ _ h => h) (Or.inl ⟨by rfl, ?_⟩) ?_
      rotate_left
      · (intro W _; go_simp; try with_reducible rfl)
      (try simp only [Act.put, List.getElem_toArray, List.getElem_cons_zero, List.getElem_cons_succ, List.setIfInBounds_toArray, List.set_cons_zero, List.set_cons_succ])
      refine wpAnyX_takeL (L := []) (i := 4) (v := ?_) rfl (by kernel_rfl) (by kernel_rfl) (by kernel_rfl) (by kernel_rfl) (fun _ _ _ h => h) (Or.inl ⟨by rfl, ?_⟩) (HS.out _ hbf) ?_
      rotate_left
      · (intro W hSW; (try dsimp only at hSW); obtain ⟨z0, z1, z2, z3, z4⟩ := hSW; go_simp; try with_reducible rfl)
      (try simp only [Act.put, List.getElem_toArray, List.getElem_cons_zero, List.getElem_cons_succ, List.setIfInBounds_toArray, List.set_cons_zero, List.set_cons_succ])
      refine wpAnyX_takeL (L := []) (i := 5) (v := ?_) rfl (by kernel_rfl) (by kernel_rfl) (by kernel_rfl) (by kernel_rfl) (fun _ _ _ h => h) (Or.inl ⟨by rfl, ?_⟩) (HS.out _ hbf) ?_
      rotate_left
      · (intro W hSW; (try dsimp only at hSW); obtain ⟨z0, z1, z2, z3, z4⟩ := hSW; go_simp; try with_reducible rfl)
      (try simp only [Act.put, List.getElem_toArray, List.getElem_cons_zero, List.getElem_cons_succ, List.setIfInBounds_toArray, List.set_cons_zero, List.set_cons_succ])
      refine wpAnyX_one (i := 6) rfl (by kernel_rfl) (fun K hK => ?_)
      go_simp
      go_at_call 72
      refine (HDI.out _ hbf).mono ?_
      rintro r w5 ⟨rfl, b5⟩
      have hbf := bt hbf b5
      clear b5
      refine hK.out _ _ (fun _ _ => HS.out _ hbf) ?_
      (try simp only [Act.put, List.getElem_toArray, List.getElem_cons_zero, List.getElem_cons_succ, List.setIfInBounds_toArray, List.set_cons_zero, List.set_cons_succ])
      refine wpAnyX_pure (i := 7) (v := ?_) rfl (by kernel_rfl) (by kernel_rfl) (by kernel_rfl) (fun _ _ _ h => h) (Or.inl ⟨by rfl, ?_⟩) ?_
      rotate_left
      · (intro W _; go_simp; try with_reducible rfl)
      (try simp only [Act.put, List.getElem_toArray, List.getElem_cons_zero, List.getElem_cons_succ, List.setIfInBounds_toArray, List.set_cons_zero, List.set_cons_succ])
      refine wpAnyX_done (by kernel_rfl) ?_ _
      have HBF := Lib.hid hbf
      clear hbf k1
      by_cases hn : y < 0 ∨ (0 ≤ z ∧ z ≤ y)
      · have HN := Lib.hid (HA.out.no HY'.out hn)
        obtain ⟨k1, j1, j2, l0, l1⟩ := HS.out _ HBF.out
        by_cases h0 : y < 0
        · have g1 : ¬ (0 : Int) ≤ y := by omega
          clear hn
          go_wp2
          go_roundw
          case rel => exact ⟨p + 1, z, f, by go_num, by omega, rfl, rfl, HN, Lib.hid (by first | exact bt HBR.out HBF.out | exact below_drewN (bt HBR.out HBF.out) _ | exact below_drewN (below_drewN (bt HBR.out HBF.out) _) _)⟩
          case measure => simp [intOf]; omega
        · have g1 : (0 : Int) ≤ y := by omega
          have g2 : ¬ z < 0 := by omega
          have g3 : ¬ y < z := by omega
          clear hn
          go_wp2
          go_roundw
          case rel => exact ⟨p + 1, z, f, by go_num, by omega, rfl, rfl, HN, Lib.hid (by first | exact bt HBR.out HBF.out | exact below_drewN (bt HBR.out HBF.out) _ | exact below_drewN (below_drewN (bt HBR.out HBF.out) _) _)⟩
          case measure => simp [intOf]; omega
      · obtain ⟨k, rfl⟩ : ∃ k : Nat, y = k := ⟨y.toNat, by omega⟩
        have hz : z < 0 ∨ (k : Int) < z := by omega
        have hk : k < cmn (tIn ts p) xs := by
          rcases HY'.out with ⟨h, _⟩ | ⟨k', h, h', _⟩
          · omega
          · omega
        have HN := Lib.hid (HA.out.yes HY'.out hz)
        have hkl := cmn_le_left (tIn ts p) xs
        have hn2 : k < n2 := by
          have := HFP.out
          have := HLI.out
          have := (HJ4.out _ HBF.out).1
          omega
        obtain ⟨b2, o2, e2, hg2, r2⟩ := (HJ4.out _ HBF.out).at_ (k := k) hn2
        subst e2
        obtain ⟨F, hF⟩ : ∃ F, F = (tOut ts p).getD k 0 := ⟨_, rfl⟩
        rw [← hF] at r2 HN
        obtain ⟨k1, j1, j2, l0, l1⟩ := HS.out _ HBF.out
        have g0 : (0 : Int) ≤ (k : Int) := by omega
        have g4 : (k : Int) < (n2 : Int) := by omega
        clear hn hF hk hkl
        by_cases h1 : z < 0
        · clear hz
          go_wp2
          go_roundw
          case rel => exact ⟨p + 1, k, F, by go_num, by omega, rfl, rfl, HN, Lib.hid (by first | exact bt HBR.out HBF.out | exact below_drewN (bt HBR.out HBF.out) _ | exact below_drewN (below_drewN (bt HBR.out HBF.out) _) _)⟩
          case measure => simp [intOf]; omega
        · have h2 : (k : Int) < z := by omega
          clear hz
          go_wp2
          go_roundw
          case rel => exact ⟨p + 1, k, F, by go_num, by omega, rfl, rfl, HN, Lib.hid (by first | exact bt HBR.out HBF.out | exact below_drewN (bt HBR.out HBF.out) _ | exact below_drewN (below_drewN (bt HBR.out HBF.out) _) _)⟩
          case measure => simp [intOf]; omega
    · obtain rfl : p = tn := by omega
      have HAA := HA.out
      rcases HAA with ⟨rfl, rfl, ha⟩ | ⟨a, k, rfl, h1, h2, h3, h4, rfl⟩
      · have HAN := Lib.hid ha
        have m3 := HM3.out _ HBR.out
        have f0 := m3.free 0
        have f1 := m3.free 1
        have f2 := m3.free 2
        have q0 := m3.cell 0
        have q1 := m3.cell 1
        have q2 := m3.cell 2
        simp at q0 q1 q2
        have HS3 := Lib.hid (m3.set3 (.slice none 0 0) (.int .i64 0) (.int .i64 0))
        have HBB := Lib.hid (set3B (g := w.heap.size + 1 + 1) (bt HB0.out HBR.out) (by omega) (.slice none 0 0) (.int .i64 0) (.int .i64 0))
        clear m3 ha
        go_wp2_with fail
        (try rw [Exit.noGoto_ret])
        refine bodyPost_ret (results_clash rfl _ _ (w.heap.size + 1 + 1) (.slice none 0 0) (.int .i64 0) (.int .i64 0) rfl HS3.out) rfl ?_
        exact ⟨false, none, 0, 0, 0, 0, [], rfl, .inl ⟨rfl, rfl, rfl, rfl, .inr (by rw [HLT.out]; exact HAN.out)⟩, ⟨rfl, Nat.zero_le _, fun h => absurd h (by omega)⟩, HBB.out⟩
      · have hkm : k < m := by
          have := cmn_le_right (tIn ts a) xs
          have := HLX.out
          omega
        obtain ⟨b3, o3, eB, hg3, r3⟩ := (HY.out _ HBR.out).at_ (k := k) hkm
        subst eB
        obtain ⟨F, hF⟩ : ∃ F, F = (tOut ts a).getD k 0 := ⟨_, rfl⟩
        obtain ⟨S2, hS2⟩ : ∃ S2, S2 = ys.getD k 0 := ⟨_, rfl⟩
        rw [← hS2] at r3
        have hlen : (xs.take (k + 1)).length = k + 1 := by rw [List.length_take, HLX.out]; omega
        have HR6 := Lib.hid (show RClR ts xs ys i true (xs.take (k + 1)) F S2 from .inr ⟨rfl, HPR.out, a, k, by rw [HLT.out]; exact h1, h2, h3, fun b hb => h4 b (by rw [← HLT.out]; exact hb), rfl, hF, hS2⟩)
        rw [← hF]
        have HS := Lib.hid (show ∀ W, Below wr.heap.size wr W → W.cell? ⟨w.heap.size + 1, 0, none⟩ = some (.slice A m c) ∧ W.cell? ⟨w.heap.size + 1, 1, none⟩ = some (.slice (some ⟨b3, o3, none⟩) m d) ∧ W.cell? ⟨b3, o3 + k, none⟩ = some (.int .i64 S2) from fun W h => ⟨(h.cell (p := ⟨w.heap.size + 1, 0, none⟩) (World.block_lt_of_cell? _ _ l0)).trans l0, (h.cell (p := ⟨w.heap.size + 1, 1, none⟩) (World.block_lt_of_cell? _ _ l1)).trans l1, (h.cell (p := ⟨b3, o3 + k, none⟩) hg3).trans r3⟩)
        have HR := Lib.hid (HM3.out _ HBR.out)
        have hz4 : w.heap.size + 1 + 1 < wr.heap.size := (HM3.out _ HBR.out).lt
        have HJO := Lib.hid (fun (W : World) (h : Below wr.heap.size wr W) => join_one (c := c) (((HX.out _ HBR.out).below h).takeX (t := k + 1) (by omega)))
        have HLN := Lib.hid hlen
        have w1' : IntKind.i64.wrap ((k : Int) + 1) = (k : Int) + 1 := by rw [IntKind.wrap_i64]; omega
        have i1 : (k : Int) + 1 ≤ (c : Int) := by omega
        have i2 : (0 : Int) ≤ (k : Int) + 1 := by omega
        have i6 : (k : Int) < (m : Int) := by omega
        have i7 : (0 : Int) ≤ (k : Int) := by omega
        have i8 : ¬ (k : Int) < 0 := by omega
        clear hF hS2 hlen r3 hg3 h1 h2 h3 h4
        go_upto_region 13 with fail
        have hbf : Below wr.heap.size wr wr.drew := below_drewN (Below.refl _ _) 1
        refine wp_region_heldX (X := fun k => ([14] : List Nat).contains k) (S := fun W => W.cell? ⟨w.heap.size + 1, 0, none⟩ = some (.slice A m c) ∧ W.cell? ⟨w.heap.size + 1, 1, none⟩ = some (.slice (some ⟨b3, o3, none⟩) m d) ∧ W.cell? ⟨b3, o3 + k, none⟩ = some (.int .i64 S2)) (by kernel_rfl) ?_
        refine wpAnyX_pure (i := 0) (v := ?_) rfl (by kernel_rfl) (by kernel_rfl) (by kernel_rfl) (fun _ _ _ h => h) (Or.inl ⟨by rfl, ?_⟩) ?_
        rotate_left
        · (intro W _; go_simp; try with_reducible rfl)
        (try simp only [Act.put, List.getElem_toArray, List.getElem_cons_zero, List.getElem_cons_succ, List.setIfInBounds_toArray, List.set_cons_zero, List.set_cons_succ])
        refine wpAnyX_takeL (L := [14]) (i := 1) (v := ?_) rfl (by kernel_rfl) (by kernel_rfl) (by kernel_rfl) (by kernel_rfl) (fun _ _ _ h => h) (Or.inl ⟨by rfl, ?_⟩) (HS.out _ hbf) ?_
        rotate_left
        · (intro W hSW; (try dsimp only at hSW); obtain ⟨z0, z1, z2⟩ := hSW; go_simp; try with_reducible rfl)
        (try simp only [Act.put, List.getElem_toArray, List.getElem_cons_zero, List.getElem_cons_succ, List.setIfInBounds_toArray, List.set_cons_zero, List.set_cons_succ])
        refine wpAnyX_pure (i := 2) (v := ?_) rfl (by kernel_rfl) (by kernel_rfl) (by kernel_rfl) (fun _ _ _ h => h) (Or.inl ⟨by rfl, ?_⟩) ?_
        rotate_left
        · (intro W _; go_simp; try with_reducible rfl)
        (try simp only [Act.put, List.getElem_toArray, List.getElem_cons_zero, List.getElem_cons_succ, List.setIfInBounds_toArray, List.set_cons_zero, List.set_cons_succ])
        refine wpAnyX_pure (i := 3) (v := ?_) rfl (by kernel_rfl) (by kernel_rfl) (by kernel_rfl) (fun _ _ _ h => h) (Or.inl ⟨by rfl, ?_⟩) ?_
        rotate_left
        · (intro W _; go_simp; try with_reducible rfl)
        (try simp only [Act.put, List.getElem_toArray, List.getElem_cons_zero, List.getElem_cons_succ, List.setIfInBounds_toArray, List.set_cons_zero, List.set_cons_succ])
        refine wpAnyX_pure (i := 4) (v := ?_) rfl (by kernel_rfl) (by kernel_rfl) (by kernel_rfl) (fun _ _ _ h => h) (Or.inl ⟨by rfl, ?_⟩) ?_
        rotate_left
        · (intro W _; go_simp; try with_reducible rfl)
        (try simp only [Act.put, List.getElem_toArray, List.getElem_cons_zero, List.getElem_cons_succ, List.setIfInBounds_toArray, List.set_cons_zero, List.set_cons_succ])
        refine wpAnyX_pure (i := 7) (v := ?_) rfl (by kernel_rfl) (by kernel_rfl) (by kernel_rfl) (fun _ _ _ h => h) (Or.inl ⟨by rfl, ?_⟩) ?_
        rotate_left
        · (intro W _; go_simp; try with_reducible rfl)
        (try simp only [Act.put, List.getElem_toArray, List.getElem_cons_zero, List.getElem_cons_succ, List.setIfInBounds_toArray, List.set_cons_zero, List.set_cons_succ])
        refine wpAnyX_pure (i := 8) (v := ?_) rfl (by kernel_rfl) (by kernel_rfl) (by kernel_rfl) (fun _ _ _ h => h) (Or.inl ⟨by rfl, ?_⟩) ?_
        rotate_left
        · (intro W _; go_simp; try with_reducible rfl)
        (try simp only [Act.put, List.getElem_toArray, List.getElem_cons_zero, List.getElem_cons_succ, List.setIfInBounds_toArray, List.set_cons_zero, List.set_cons_succ])
        refine wpAnyX_takeL (L := [14]) (i := 9) (v := ?_) rfl (by kernel_rfl) (by kernel_rfl) (by kernel_rfl) (by kernel_rfl) (fun _ _ _ h => h) (Or.inl ⟨by rfl, ?_⟩) (HS.out _ hbf) ?_
        rotate_left
        · (intro W hSW; (try dsimp only at hSW); obtain ⟨z0, z1, z2⟩ := hSW; go_simp; try with_reducible rfl)
        (try simp only [Act.put, List.getElem_toArray, List.getElem_cons_zero, List.getElem_cons_succ, List.setIfInBounds_toArray, List.set_cons_zero, List.set_cons_succ])
        refine wpAnyX_pure (i := 10) (v := ?_) rfl (by kernel_rfl) (by kernel_rfl) (by kernel_rfl) (fun _ _ _ h => h) (Or.inl ⟨by rfl, ?_⟩) ?_
        rotate_left
        · (intro W _; go_simp; try with_reducible rfl)
        (try simp only [Act.put, List.getElem_toArray, List.getElem_cons_zero, List.getElem_cons_succ, List.setIfInBounds_toArray, List.set_cons_zero, List.set_cons_succ])
        refine wpAnyX_pure (i := 11) (v := ?_) rfl (by kernel_rfl) (by kernel_rfl) (by kernel_rfl) (fun _ _ _ h => h) (Or.inl ⟨by rfl, ?_⟩) ?_
        rotate_left
        · (intro W _; go_simp; try with_reducible rfl)
        (try simp only [Act.put, List.getElem_toArray, List.getElem_cons_zero, List.getElem_cons_succ, List.setIfInBounds_toArray, List.set_cons_zero, List.set_cons_succ])
        refine wpAnyX_takeL (L := [14]) (i := 12) (v := ?_) rfl (by kernel_rfl) (by kernel_rfl) (by kernel_rfl) (by kernel_rfl) (fun _ _ _ h => h) (Or.inl ⟨by rfl, ?_⟩) (HS.out _ hbf) ?_
        rotate_left
        · (intro W hSW; (try dsimp only at hSW); obtain ⟨z0, z1, z2⟩ := hSW; go_simp; try with_reducible rfl)
        (try simp only [Act.put, List.getElem_toArray, List.getElem_cons_zero, List.getElem_cons_succ, List.setIfInBounds_toArray, List.set_cons_zero, List.set_cons_succ])
        refine wpAnyX_one (i := 5) rfl (by kernel_rfl) (fun K hK => ?_)
        go_simp
        refine hK.out _ _ (fun _ _ => HS.out _ (bt hbf (alloc_below _ _))) ?_
        (try simp only [Act.put, List.getElem_toArray, List.getElem_cons_zero, List.getElem_cons_succ, List.setIfInBounds_toArray, List.set_cons_zero, List.set_cons_succ])
        refine wpAnyX_one (i := 6) rfl (by kernel_rfl) (fun K hK => ?_)
        go_simp
        go_at_call 54
        refine (HJO.out _ hbf).mono ?_
        rintro e w5 ⟨A5, c5, rfl, o5, b5⟩
        have hbf := bt hbf b5
        have HO5 := Lib.hid o5
        have HR5 := Lib.hid (HR.out.kept (hbf.mono (Nat.le_refl _)) hz4)
        refine hK.out _ _ (fun _ _ => HS.out _ hbf) ?_
        clear o5 b5
        (try simp only [Act.put, List.getElem_toArray, List.getElem_cons_zero, List.getElem_cons_succ, List.setIfInBounds_toArray, List.set_cons_zero, List.set_cons_succ])
        refine wpAnyX_pure (i := 13) (v := ?_) rfl (by kernel_rfl) (by kernel_rfl) (by kernel_rfl) (fun _ _ _ h => h) (Or.inl ⟨by rfl, ?_⟩) ?_
        rotate_left
        · (intro W _; go_simp; try with_reducible rfl)
        (try simp only [Act.put, List.getElem_toArray, List.getElem_cons_zero, List.getElem_cons_succ, List.setIfInBounds_toArray, List.set_cons_zero, List.set_cons_succ])
        refine wpAnyX_one (i := 14) rfl (by kernel_rfl) (fun K hK => ?_)
        refine wp_store_row 43 _ _ rfl (w.heap.size + 1 + 1) (#[.slice A5 (k + 1) c5, .int .i64 F, .int .i64 S2]) rfl rfl 43 (#[.slice none 0 0, .int .i64 0, .int .i64 0]) HR5.out (by kernel_rfl) (by rfl) (by simp [Value.oneCell']) (hK.out _ _ (fun h => absurd h (by decide)) ?_)
        (try simp only [Act.put, List.getElem_toArray, List.getElem_cons_zero, List.getElem_cons_succ, List.setIfInBounds_toArray, List.set_cons_zero, List.set_cons_succ])
        refine wpAnyX_pure (i := 15) (v := ?_) rfl (by kernel_rfl) (by kernel_rfl) (by kernel_rfl) (fun _ _ _ h => h) (Or.inl ⟨by rfl, ?_⟩) ?_
        rotate_left
        · (intro W _; go_simp; try with_reducible rfl)
        (try simp only [Act.put, List.getElem_toArray, List.getElem_cons_zero, List.getElem_cons_succ, List.setIfInBounds_toArray, List.set_cons_zero, List.set_cons_succ])
        refine wpAnyX_done (by kernel_rfl) ?_ _
        have HRX := Lib.hid (HR5.out.row #[.slice A5 (k + 1) c5, .int .i64 F, .int .i64 S2])
        have HOX := Lib.hid ((HO5.out.keptT (HR5.out.keptRow (t := 3) (by decide) #[.slice A5 (k + 1) c5, .int .i64 F, .int .i64 S2])).ints (by rw [HLN.out]; omega))
        have HBX := Lib.hid (below_setRow (bt HB0.out (bt HBR.out hbf)) (by omega : w.heap.size ≤ w.heap.size + 1 + 1) #[.slice A5 (k + 1) c5, .int .i64 F, .int .i64 S2])
        clear hbf
        go_wp2_with fail
        (try rw [Exit.noGoto_ret])
        refine bodyPost_ret (results_clash rfl _ _ (w.heap.size + 1 + 1) (.slice A5 (k + 1) c5) (.int .i64 F) (.int .i64 S2) rfl HRX.out) rfl ?_
        exact ⟨true, A5, k + 1, c5, F, S2, xs.take (k + 1), rfl, HR6.out, HOX.out, HBX.out⟩
end Go.Proofs.Ytkgdgnmobahhfaa
end

section
/- The law ObserveAnswers: the walk. -/
namespace Go.Proofs.Ytkgdgnmobahhfaa
open Go.RowKit

theorem list_ext16 {a b : List Int} (hl : a.length = b.length) (h : ∀ j, j < a.length → a.getD j 0 = b.getD j 0) : a = b := List.ext_getElem hl fun j h1 h2 => by
  have := h j h1
  rw [List.getD_eq_getElem?_getD, List.getD_eq_getElem?_getD, List.getElem?_eq_getElem h1, List.getElem?_eq_getElem h2] at this
  exact this
theorem cls_len {ts : TSr} {xs ys zs : List Int} {i f s : Int} {fd : Bool} (h : ClsR ts xs ys i fd zs f s) : zs.length ≤ xs.length := by
  obtain ⟨_, _, ⟨_, rfl, _⟩ | ⟨_, _, _, rfl, _⟩⟩ := h
  · exact Nat.zero_le _
  · rw [List.length_take]; omega
/-- The answer of observations: known or not. -/
def AnsV (ts : TSr) (ws : List Int) (n : Nat) (b : Bool) (zs : List Int) : Prop :=
  (b = false ∧ zs = [] ∧ 0 < n ∧ ∀ a, a < ts.length → ¬ cmn (tIn ts a) ws = n) ∨ (b = true ∧ n = 0 ∧ zs = []) ∨ (b = true ∧ 0 < n ∧ ∃ a, a < ts.length ∧ cmn (tIn ts a) ws = n ∧ zs = (tOut ts a).take n)
def AnsW (ts : TSr) (ws : List Int) (n : Nat) (w : World) (r : Ending) (w' : World) : Prop :=
  ∃ (b : Bool) (A' : Option Addr) (l c' : Nat) (zs : List Int), r = .returned (.tuple #[.slice A' l c', .bool b]) ∧ AnsV ts ws n b zs ∧ Ints w' A' l zs ∧ Below w.heap.size w w'
theorem AnsV.uniq {ts : TSr} {ws zs zs' : List Int} {n : Nat} {b b' : Bool} (hC : Cons ts) (hF : Full ts) (h : AnsV ts ws n b zs) (h' : AnsV ts ws n b' zs') : b = b' ∧ zs = zs' := by
  rcases h with ⟨rfl, rfl, h1, h2⟩ | ⟨rfl, h1, rfl⟩ | ⟨rfl, h1, a, h2, h3, rfl⟩ <;> rcases h' with ⟨rfl, rfl, k1, k2⟩ | ⟨rfl, k1, rfl⟩ | ⟨rfl, k1, a', k2, k3, rfl⟩
  · exact ⟨rfl, rfl⟩
  · omega
  · exact absurd k3 (h2 _ k2)
  · omega
  · exact ⟨rfl, rfl⟩
  · omega
  · exact absurd h3 (k2 _ h2)
  · omega
  · refine ⟨rfl, ?_⟩
    have l1 := cmn_le_left (tIn ts a) ws
    have l2 := cmn_le_left (tIn ts a') ws
    have l3 := hF a h2
    have l4 := hF a' k2
    have p1 : ws.take n <+: tIn ts a := pre_take (by rw [cmn_comm]; omega)
    have p2 : ws.take n <+: tIn ts a' := pre_take (by rw [cmn_comm]; omega)
    have l5 := cmn_le_right (tIn ts a) ws
    have l6 := pre_min p1 p2
    rw [List.length_take] at l6
    refine list_ext16 (by rw [List.length_take, List.length_take]; omega) fun j hj => ?_
    rw [List.length_take] at hj
    rw [List.getD_eq_getElem?_getD, List.getD_eq_getElem?_getD, List.getElem?_take_of_lt (by omega), List.getElem?_take_of_lt (by omega), ← List.getD_eq_getElem?_getD, ← List.getD_eq_getElem?_getD]
    exact hC a a' h2 k2 j (by omega)
theorem AnsP.v {ts : TSr} {ws : List Int} {n : Nat} {w w' : World} {r : Ending} (h : AnsP ts ws n w r w') (hn : n ≤ 17592186044416) : AnsW ts ws n w r w' := by
  obtain ⟨hb, ⟨rfl, h⟩ | ⟨rfl, h⟩ | ⟨a, A', c', h0, h1, h2, rfl, h3, h4⟩⟩ := h
  · exact ⟨false, none, 0, 0, [], rfl, .inl ⟨rfl, rfl, by omega, fun a ha e => by have := knw_ge (w := ws) (ts := ts) ha; omega⟩, ⟨rfl, Nat.zero_le _, fun h => absurd h (by omega)⟩, hb⟩
  · exact ⟨true, none, 0, 0, [], rfl, .inr (.inl ⟨rfl, h, rfl⟩), ⟨rfl, Nat.zero_le _, fun h => absurd h (by omega)⟩, hb⟩
  · exact ⟨true, A', n, c', _, rfl, .inr (.inr ⟨rfl, h0, a, h1, h2, rfl⟩), h4.ints (by rw [h3]; exact hn), hb⟩
theorem AnsR.v {ts : TSr} {ws : List Int} {n : Nat} {w w' : World} {r : Ending} (h : AnsR ts ws n w r w') (h0 : 0 < n) (hn : ws.length = n) : AnsW ts ws n w r w' := by
  subst hn
  obtain ⟨hb, ⟨rfl, h⟩ | ⟨a, A', c', h1, h2, rfl, h3⟩⟩ := h
  · exact ⟨false, none, 0, 0, [], rfl, .inl ⟨rfl, rfl, h0, h⟩, ⟨rfl, Nat.zero_le _, fun h => absurd h (by omega)⟩, hb⟩
  · exact ⟨true, A', _, c', _, rfl, .inr (.inr ⟨rfl, h0, a, h1, h2, rfl⟩), h3, hb⟩
set_option linter.unusedSimpArgs false in
set_option linter.unusedVariables false in
theorem ransw16 (i : Int) (T A : Option Addr) (tn tc n c : Nat) (ts : TSr) (ws : List Int) (w : World) (hT : Trs w T tn ts) (hF : Full ts) (hA : Ints w A n ws) :
    Calls Try.prog 25 #[.agg #[.int .i64 i, .slice T tn tc], .slice A n c] w fun r w' => AnsW ts ws n w r w' := by
  by_cases h0 : 0 < n
  · exact (ranswer16 i T A tn tc n c ts ws w hT hF hA h0).mono fun r w' h => h.v h0 hA.1
  · obtain rfl : n = 0 := by omega
    have hb0 : Below w.heap.size w (w.alloc (.cells #[.int .i64 i, .slice T tn tc] 24)) := alloc_below _ _
    have HB0 := Lib.hid hb0
    clear hT hF hA hb0 h0
    go_enter Try.func25, Try.ntmps25
    go_wp2
    go_ret2
    exact ⟨true, none, 0, 0, [], rfl, .inr (.inl ⟨rfl, rfl, rfl⟩), ⟨rfl, Nat.zero_le _, fun h => absurd h (by omega)⟩, HB0.out⟩

set_option linter.unusedSimpArgs false in
set_option linter.unusedVariables false in
set_option maxHeartbeats 16000000 in
set_option maxRecDepth 100000 in
theorem answers16_walk (i : Int) (T A C D : Option Addr) (tn tc n c m e k f : Nat) (ts : TSr) (ws xs ys : List Int) (w : World) (hT : Trs w T tn ts) (htc : tn ≤ tc) (hA : Ints w A n ws) (hX : Ints w C m xs) (hme : m ≤ e) (hY : Ints w D k ys) :
    Calls Try.prog 4 #[.agg #[.int .i64 i, .slice T tn tc], .slice A n c, .agg #[.slice C m e, .slice D k f]] w fun r w' => r = .returned (.bool true) ∧ Below w.heap.size w w' := by
  obtain ⟨w0, hw0⟩ : ∃ w0, w0 = (w.alloc (.cells #[.int .i64 i, .slice T tn tc] 24)).alloc (.cells #[.slice C m e, .slice D k f] 38) := ⟨_, rfl⟩
  obtain ⟨hb0, m1, m2, hs0⟩ := bxs2 w #[.int .i64 i, .slice T tn tc] #[.slice C m e, .slice D k f] 24 38 w0 hw0
  have HM1 := Lib.hid (fun (W : World) (h : Below w0.heap.size w0 W) => m1.on h)
  have HM2 := Lib.hid (fun (W : World) (h : Below w0.heap.size w0 W) => m2.on h)
  have HT := Lib.hid (fun (W : World) (h : Below w0.heap.size w0 W) => (hT.below hb0).below h)
  have HA := Lib.hid (fun (W : World) (h : Below w0.heap.size w0 W) => (hA.below hb0).below h)
  have HX := Lib.hid (fun (W : World) (h : Below w0.heap.size w0 W) => (hX.below hb0).below h)
  have HY := Lib.hid (fun (W : World) (h : Below w0.heap.size w0 W) => (hY.below hb0).below h)
  have HB0 := Lib.hid hb0
  have HW0 := Lib.hid hw0
  have HLA := Lib.hid hA.1
  have hbc := Below.refl w0.heap.size w0
  have k0 := (HM1.out _ hbc).cell 0
  have k1 := (HM1.out _ hbc).cell 1
  have l0 := (HM2.out _ hbc).cell 0
  have l1 := (HM2.out _ hbc).cell 1
  simp at k0 k1 l0 l1
  rw [HW0.out] at k0 k1 l0 l1
  clear hw0 hb0 m1 m2 hs0 hT hA hX hY
  go_enter Try.func4, Try.ntmps4
  go_wp2_with fail
  rw [← HW0.out]
  refine (rgreat16 i T tn tc ts w0 (HT.out _ hbc)).mono ?_
  rintro r w1 ⟨b1, rfl, _, a1⟩
  have hbc := bt hbc a1
  clear a1 k0 k1 l0 l1
  cases b1
  case true =>
    go_wp2_with fail
    refine (awake16 _).mono ?_
    rintro r w9 ⟨rfl, a9⟩
    go_wp2
    go_ret
    exact ⟨rfl, bt HB0.out (bt hbc a9)⟩
  have k0 := (HM1.out _ hbc).cell 0
  have k1 := (HM1.out _ hbc).cell 1
  have l0 := (HM2.out _ hbc).cell 0
  have l1 := (HM2.out _ hbc).cell 1
  simp at k0 k1 l0 l1
  go_wp2_with fail
  refine (rlong16 C D m e k f w1).mono ?_
  rintro r w2 ⟨rfl, a2⟩
  have hbc := bt hbc a2
  clear a2 k0 k1 l0 l1
  by_cases hlg : 1100 < m ∨ 1100 < k
  · rw [decide_eq_true hlg]
    go_wp2_with fail
    refine (awake16 _).mono ?_
    rintro r w9 ⟨rfl, a9⟩
    go_wp2
    go_ret
    exact ⟨rfl, bt HB0.out (bt hbc a9)⟩
  rw [decide_eq_false hlg]
  have hm11 : m ≤ 1000000 := by omega
  clear hlg
  by_cases hn : 1100 < n
  · have hn' : (1100 : Int) < (n : Int) := by omega
    go_wp2_with fail
    refine (awake16 _).mono ?_
    rintro r w9 ⟨rfl, a9⟩
    go_wp2
    go_ret
    exact ⟨rfl, bt HB0.out (bt hbc a9)⟩
  have hn' : ¬ (1100 : Int) < (n : Int) := by omega
  have k0 := (HM1.out _ hbc).cell 0
  have k1 := (HM1.out _ hbc).cell 1
  have l0 := (HM2.out _ hbc).cell 0
  have l1 := (HM2.out _ hbc).cell 1
  simp at k0 k1 l0 l1
  go_wp2_with fail
  refine (pvalid16 i T tn tc ts w2 (HT.out _ hbc) htc).mono ?_
  rintro r w3 ⟨v, rfl, hv, a3⟩
  have hbc := bt hbc a3
  clear a3 k0 k1 l0 l1
  by_cases hv0 : v = 0
  case neg =>
    have hne : (v != 0) = true := by simpa using hv0
    clear hv hv0
    go_wp2_with fail
    refine (awake16 _).mono ?_
    rintro r w9 ⟨rfl, a9⟩
    go_wp2
    go_ret
    exact ⟨rfl, bt HB0.out (bt hbc a9)⟩
  subst hv0
  obtain ⟨_, _, _, hS, hF, _, _, _, hC⟩ := vld16_ok hv
  have HS := Lib.hid hS
  have HF := Lib.hid hF
  have HC := Lib.hid hC
  have HN := Lib.hid hn
  clear hv hS hF hC hn
  have k0 := (HM1.out _ hbc).cell 0
  have k1 := (HM1.out _ hbc).cell 1
  have l0 := (HM2.out _ hbc).cell 0
  have l1 := (HM2.out _ hbc).cell 1
  simp at k0 k1 l0 l1
  go_wp2_with fail
  refine (panswer16 i T A tn tc n c ts ws w3 (HT.out _ hbc) htc (HA.out _ hbc) HS.out HF.out).mono ?_
  rintro r w4 h4
  obtain ⟨b4, A4, l4, c4, z4, rfl, v4, i4, a4⟩ := h4.v (HA.out _ hbc).2.1
  have hbc := bt hbc a4
  have HI4 := Lib.hid (fun (W : World) (h : Below w4.heap.size w4 W) => i4.below h)
  clear a4 i4 h4 k0 k1 l0 l1
  have k0 := (HM1.out _ hbc).cell 0
  have k1 := (HM1.out _ hbc).cell 1
  have l0 := (HM2.out _ hbc).cell 0
  have l1 := (HM2.out _ hbc).cell 1
  simp at k0 k1 l0 l1
  go_wp2_with fail
  refine (ransw16 i T A tn tc n c ts ws w4 (HT.out _ hbc) HF.out (HA.out _ hbc)).mono ?_
  rintro r w5 ⟨b5, A5, l5, c5, z5, rfl, v5, i5, a5⟩
  obtain ⟨rfl, rfl⟩ := v4.uniq HC.out HF.out v5
  have hbc := bt hbc a5
  have HI5 := Lib.hid (fun (W : World) (h : Below w5.heap.size w5 W) => i5.below h)
  have HI4 := Lib.hid (fun (W : World) (h : Below w5.heap.size w5 W) => HI4.out _ (bt a5 h))
  clear a5 i5 v4 v5 k0 k1 l0 l1
  have k0 := (HM1.out _ hbc).cell 0
  have k1 := (HM1.out _ hbc).cell 1
  have l0 := (HM2.out _ hbc).cell 0
  have l1 := (HM2.out _ hbc).cell 1
  simp at k0 k1 l0 l1
  go_wp2_with fail
  refine (pclash i T C D tn tc m e k f ts xs ys w5 (HT.out _ hbc) htc (HX.out _ hbc) hme (HY.out _ hbc) HS.out HF.out).mono ?_
  rintro r w6 ⟨b6, A6, l6, c6, f6, s6, z6, rfl, v6, o6, a6⟩
  have hbc := bt hbc a6
  have i6 := o6.ints (by have := cls_len v6; have := (HX.out _ hbc).1; omega)
  have HV6 := Lib.hid v6
  have HI4 := Lib.hid (fun (W : World) (h : Below w6.heap.size w6 W) => HI4.out _ (bt a6 h))
  have HI5 := Lib.hid (fun (W : World) (h : Below w6.heap.size w6 W) => HI5.out _ (bt a6 h))
  obtain ⟨w7, hw7⟩ : ∃ w7, w7 = w6.alloc (.cells #[.slice A6 l6 c6, .int .i64 f6, .int .i64 s6] 43) := ⟨_, rfl⟩
  obtain ⟨g7, hg7⟩ : ∃ g7, g7 = w6.heap.size := ⟨_, rfl⟩
  have hal : Below w6.heap.size w6 w7 := by rw [hw7]; exact alloc_below _ _
  have m7 : Bx w7 g7 #[.slice A6 l6 c6, .int .i64 f6, .int .i64 s6] 43 := by rw [hw7, hg7]; exact bx_new _ _ _
  have hbc7 := bt hbc hal
  have HM7 := Lib.hid (fun (W : World) (h : Below w7.heap.size w7 W) => m7.on h)
  have HI4 := Lib.hid (fun (W : World) (h : Below w7.heap.size w7 W) => HI4.out _ (bt hal h))
  have HI5 := Lib.hid (fun (W : World) (h : Below w7.heap.size w7 W) => HI5.out _ (bt hal h))
  have HI6 := Lib.hid (fun (W : World) (h : Below w7.heap.size w7 W) => (i6.below hal).below h)
  have HW7 := Lib.hid hw7
  have HG7 := Lib.hid hg7
  clear a6 i6 o6 v6 k0 k1 l0 l1 hw7 hg7 hal m7 hbc
  have hbc := hbc7
  clear hbc7
  have k0 := (HM1.out _ hbc).cell 0
  have k1 := (HM1.out _ hbc).cell 1
  have l0 := (HM2.out _ hbc).cell 0
  have l1 := (HM2.out _ hbc).cell 1
  simp at k0 k1 l0 l1
  rw [HW7.out] at k0 k1 l0 l1
  go_wp2_with fail
  rw [← HW7.out, ← HG7.out]
  refine (rclash16 i T C D tn tc m e k f ts xs ys w7 (HT.out _ hbc) htc (HX.out _ hbc) hme hm11 (HY.out _ hbc) HF.out).mono ?_
  rintro r w8 ⟨b8, A8, l8, c8, f8, s8, z8, rfl, v8, i8, a8⟩
  obtain ⟨rfl, rfl, rfl, rfl⟩ := cls_same HC.out HF.out HV6.out v8
  have hbc := bt hbc a8
  obtain ⟨w9, hw9⟩ : ∃ w9, w9 = w8.alloc (.cells #[.slice A8 l8 c8, .int .i64 f6, .int .i64 s6] 43) := ⟨_, rfl⟩
  obtain ⟨g9, hg9⟩ : ∃ g9, g9 = w8.heap.size := ⟨_, rfl⟩
  have hal : Below w8.heap.size w8 w9 := by rw [hw9]; exact alloc_below _ _
  have m9 : Bx w9 g9 #[.slice A8 l8 c8, .int .i64 f6, .int .i64 s6] 43 := by rw [hw9, hg9]; exact bx_new _ _ _
  have hbc9 := bt hbc hal
  have h79 := bt a8 hal
  have HM9 := Lib.hid (fun (W : World) (h : Below w9.heap.size w9 W) => m9.on h)
  have HM7 := Lib.hid (fun (W : World) (h : Below w9.heap.size w9 W) => HM7.out _ (bt h79 h))
  have HII := Lib.hid (rints A4 A5 l4 c4 l5 c5 z4 z4 true w9 (HI4.out _ h79) (HI5.out _ h79) (by simp))
  have HI6 := Lib.hid (fun (W : World) (h : Below w9.heap.size w9 W) => HI6.out _ (bt h79 h))
  have HI8 := Lib.hid (fun (W : World) (h : Below w9.heap.size w9 W) => (i8.below hal).below h)
  have HW9 := Lib.hid hw9
  have HG9 := Lib.hid hg9
  clear a8 i8 v8 k0 k1 l0 l1 hw9 hg9 hal m9 hbc h79
  have hbc := hbc9
  clear hbc9
  have HBC := Lib.hid hbc
  clear hbc
  go_wp2_with fail
  rw [← HW9.out, ← HG9.out]
  refine HII.out.mono ?_
  rintro r w10 ⟨rfl, q10, rfl⟩
  have b9 : Below w9.heap.size w9 (w9.drewN q10) := below_drewN (Below.refl _ _) q10
  have p0 := (HM7.out _ b9).cell 0
  have p1 := (HM7.out _ b9).cell 1
  have p2 := (HM7.out _ b9).cell 2
  have r0 := (HM9.out _ b9).cell 0
  have r1 := (HM9.out _ b9).cell 1
  have r2 := (HM9.out _ b9).cell 2
  simp at p0 p1 p2 r0 r1 r2
  have HB9 := Lib.hid b9
  have HII2 := Lib.hid (rints A6 A8 l6 c6 l8 c8 z6 z6 true _ (HI6.out _ b9) (HI8.out _ b9) (by simp))
  clear b9
  go_wp2_with fail
  refine HII2.out.mono ?_
  rintro r w11 ⟨rfl, q11, rfl⟩
  have HB11 := Lib.hid (below_drewN HB9.out q11)
  generalize (w9.drewN q10).drewN q11 = w11 at HB11 ⊢
  clear p0 p1 p2 r0 r1 r2
  go_upto_region 9 with fail
  have hbf : Below w9.heap.size w9 w11.drew := below_drewN HB11.out 1
  refine wp_region_heldX (X := fun k => ([] : List Nat).contains k) (S := fun W => Bx W w.heap.size #[.int .i64 i, .slice T tn tc] 24) (by kernel_rfl) ?_
  generalize w11.drew = wkd at hbf ⊢
  refine wpAnyX_takeL (L := []) (i := 0) (v := .agg (#[.int .i64 i, .slice T tn tc])) rfl (by kernel_rfl) (by kernel_rfl) (by kernel_rfl) (by kernel_rfl) (fun _ _ _ h => h) (Or.inl ⟨by rfl, fun W hSW => run_load_bx 24 _ rfl (w.heap.size) rfl 24 (#[.int .i64 i, .slice T tn tc]) (0, 0) _ (hSW) Try.underlying24 rfl (by kernel_rfl)⟩) (HM1.out _ (bt HBC.out hbf)) ?_
  (try simp only [Act.put, List.getElem_toArray, List.getElem_cons_zero, List.getElem_cons_succ, List.setIfInBounds_toArray, List.set_cons_zero, List.set_cons_succ])
  refine wpAnyX_pure (i := 1) (v := ?_) rfl (by kernel_rfl) (by kernel_rfl) (by kernel_rfl) (fun _ _ _ h => h) (Or.inl ⟨by rfl, ?_⟩) ?_
  rotate_left
  · (intro W _; go_simp; try with_reducible rfl)
  (try simp only [Act.put, List.getElem_toArray, List.getElem_cons_zero, List.getElem_cons_succ, List.setIfInBounds_toArray, List.set_cons_zero, List.set_cons_succ])
  refine wpAnyX_takeL (L := []) (i := 3) (v := .agg (#[.int .i64 i, .slice T tn tc])) rfl (by kernel_rfl) (by kernel_rfl) (by kernel_rfl) (by kernel_rfl) (fun _ _ _ h => h) (Or.inl ⟨by rfl, fun W hSW => run_load_bx 24 _ rfl (w.heap.size) rfl 24 (#[.int .i64 i, .slice T tn tc]) (0, 0) _ (hSW) Try.underlying24 rfl (by kernel_rfl)⟩) (HM1.out _ (bt HBC.out hbf)) ?_
  (try simp only [Act.put, List.getElem_toArray, List.getElem_cons_zero, List.getElem_cons_succ, List.setIfInBounds_toArray, List.set_cons_zero, List.set_cons_succ])
  refine wpAnyX_pure (i := 4) (v := ?_) rfl (by kernel_rfl) (by kernel_rfl) (by kernel_rfl) (fun _ _ _ h => h) (Or.inl ⟨by rfl, ?_⟩) ?_
  rotate_left
  · (intro W _; go_simp; try with_reducible rfl)
  (try simp only [Act.put, List.getElem_toArray, List.getElem_cons_zero, List.getElem_cons_succ, List.setIfInBounds_toArray, List.set_cons_zero, List.set_cons_succ])
  refine wpAnyX_one (i := 2) rfl (by kernel_rfl) (fun K hK => ?_)
  go_simp
  go_at_call 29
  refine (pknown16 i T A tn tc n c ts ws _ (HT.out _ (bt HBC.out hbf)) htc (HA.out _ (bt HBC.out hbf)) HS.out HF.out).mono ?_
  rintro r x1 ⟨rfl, y1⟩
  have hbf := bt hbf y1
  clear y1
  refine hK.out _ _ (fun _ _ => HM1.out _ (bt HBC.out hbf)) ?_
  (try simp only [Act.put, List.getElem_toArray, List.getElem_cons_zero, List.getElem_cons_succ, List.setIfInBounds_toArray, List.set_cons_zero, List.set_cons_succ])
  refine wpAnyX_one (i := 5) rfl (by kernel_rfl) (fun K hK => ?_)
  go_simp
  go_at_call 30
  refine (rknown16 i T A tn tc n c ts ws _ (HT.out _ (bt HBC.out hbf)) (HA.out _ (bt HBC.out hbf))).mono ?_
  rintro r x1 ⟨rfl, y1⟩
  have hbf := bt hbf y1
  clear y1
  refine hK.out _ _ (fun _ _ => HM1.out _ (bt HBC.out hbf)) ?_
  (try simp only [Act.put, List.getElem_toArray, List.getElem_cons_zero, List.getElem_cons_succ, List.setIfInBounds_toArray, List.set_cons_zero, List.set_cons_succ])
  refine wpAnyX_pure (i := 6) (v := ?_) rfl (by kernel_rfl) (by kernel_rfl) (by kernel_rfl) (fun _ _ _ h => h) (Or.inl ⟨by rfl, ?_⟩) ?_
  rotate_left
  · (intro W _; go_simp; try with_reducible rfl)
  (try simp only [Act.put, List.getElem_toArray, List.getElem_cons_zero, List.getElem_cons_succ, List.setIfInBounds_toArray, List.set_cons_zero, List.set_cons_succ])
  refine wpAnyX_pure (i := 7) (v := ?_) rfl (by kernel_rfl) (by kernel_rfl) (by kernel_rfl) (fun _ _ _ h => h) (Or.inl ⟨by rfl, ?_⟩) ?_
  rotate_left
  · (intro W _; go_simp; try with_reducible rfl)
  (try simp only [Act.put, List.getElem_toArray, List.getElem_cons_zero, List.getElem_cons_succ, List.setIfInBounds_toArray, List.set_cons_zero, List.set_cons_succ])
  refine wpAnyX_one (i := 8) rfl (by kernel_rfl) (fun K hK => ?_)
  go_simp
  go_at_call 16
  refine (awake16 _).mono ?_
  rintro r x1 ⟨rfl, y1⟩
  have hbf := bt hbf y1
  clear y1
  refine hK.out _ _ (fun _ _ => HM1.out _ (bt HBC.out hbf)) ?_
  (try simp only [Act.put, List.getElem_toArray, List.getElem_cons_zero, List.getElem_cons_succ, List.setIfInBounds_toArray, List.set_cons_zero, List.set_cons_succ])
  refine wpAnyX_pure (i := 9) (v := ?_) rfl (by kernel_rfl) (by kernel_rfl) (by kernel_rfl) (fun _ _ _ h => h) (Or.inl ⟨by rfl, ?_⟩) ?_
  rotate_left
  · (intro W _; go_simp; try with_reducible rfl)
  (try simp only [Act.put, List.getElem_toArray, List.getElem_cons_zero, List.getElem_cons_succ, List.setIfInBounds_toArray, List.set_cons_zero, List.set_cons_succ])
  refine wpAnyX_pure (i := 10) (v := ?_) rfl (by kernel_rfl) (by kernel_rfl) (by kernel_rfl) (fun _ _ _ h => h) (Or.inl ⟨by rfl, ?_⟩) ?_
  rotate_left
  · (intro W _; go_simp; try with_reducible rfl)
  (try simp only [Act.put, List.getElem_toArray, List.getElem_cons_zero, List.getElem_cons_succ, List.setIfInBounds_toArray, List.set_cons_zero, List.set_cons_succ])
  refine wpAnyX_done (by kernel_rfl) ?_ _
  go_wp2
  go_ret
  exact ⟨rfl, bt HB0.out (bt HBC.out hbf)⟩
end Go.Proofs.Ytkgdgnmobahhfaa
end

section
/- What the rows hand over: one trace. -/
namespace Go.Proofs.Ytkgdgnmobahhfaa
open Go.ChangeShapes Go.WideShapes Go.ChangeAt Go.RowKit Go.Joins Go.Deep

section
variable {H : Type} {enc : TypeId × Value → H} {w : World} {base : Nat} {held : Bool}
set_option maxRecDepth 100000 in
theorem open_trace {r : Reach} {b0 : Nat} {v : Value} {d : DataW H} {p : List MemPlace} (hv : Value.okWide Try.prog w r b0 38 v) (h : DataW.Trod enc Try.prog w base (fun _ => true) held 38 v d p) (hl : Light Try.prog 38 d) :
    ∃ (A1 : Option Addr) (n1 : Nat) (m1 : Nat) (z1 : List Int) (A2 : Option Addr) (n2 : Nat) (m2 : Nat) (z2 : List Int), v = .agg #[.slice A1 n1 m1, .slice A2 n2 m2] ∧ n1 ≤ m1 ∧ Ints w A1 n1 z1 ∧ n2 ≤ m2 ∧ Ints w A2 n2 z2 := by
  obtain ⟨cs, rfl, hsz⟩ := okWide_struct Try.underlying38 hv
  obtain ⟨c0, c1, rfl⟩ := arr_2 (hsz.trans (by kernel_rfl : Try.prog.cellsOf 38 = 2))
  obtain ⟨fuel, hf⟩ := h
  simp only [Value.cells] at hf
  obtain ⟨uy0, uy1, un, ud, uh0, uh1⟩ := cells_1_1 Try.underlying38 (by kernel_rfl) hf
  dsimp only at ud
  obtain ⟨A1, n1, m1, z1, e1, q1, l1, _⟩ := open_intsw (by kernel_rfl) uh0 (fun n hn => hl n (by rw [ud]; simp only [DataW.weights, Try.underlying38]; exact DataW.weights_mem_each (j := 0) rfl rfl n hn))
  obtain ⟨A2, n2, m2, z2, e2, q2, l2, _⟩ := open_intsw (by kernel_rfl) uh1 (fun n hn => hl n (by rw [ud]; simp only [DataW.weights, Try.underlying38]; exact DataW.weights_mem_each (j := 1) rfl rfl n hn))
  simp at e1 e2
  subst e1 e2
  exact ⟨A1, n1, m1, z1, A2, n2, m2, z2, rfl, q1, l1, q2, l2⟩
end
end Go.Proofs.Ytkgdgnmobahhfaa
end
