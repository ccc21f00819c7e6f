/- Lemmas of the proofs of this seat, of the parts Gr16, Ro16, Cmpr, Ro17, Ro18, Hys, L22r, Opent. Conditions: none. -/
import Derived.Test.YtaiifmckmjlgjaaHa
import Derived.Test.YtaiifmckmjlgjaaHb
import Derived.Deep.DeepCutAuto
import Derived.BigQuiet
import Derived.Test.YtaiifmckmjlgjaaHc
section
/- Great of the laws of observations. -/
namespace Go.Proofs.Ytaiifmckmjlgjaa
open Go.RowKit

/-- What the answer of Great says. -/
def G16 (n : Nat) (ts : List (List Int × List Int)) (b : Bool) : Prop := b = false → n ≤ 60 ∧ ∀ j, j < n → (tIn ts j).length ≤ 100 ∧ (tOut ts j).length ≤ 100
def G16E (n : Nat) (ts : List (List Int × List Int)) (w : World) (e : Ending) (w' : World) : Prop := ∃ b, e = .returned (.bool b) ∧ G16 n ts b ∧ Below w.heap.size w w'

set_option linter.unusedSimpArgs false in
set_option linter.unusedVariables false in
set_option maxHeartbeats 2000000 in
set_option maxRecDepth 100000 in
theorem rgreat16 (i : Int) (T : Option Addr) (n c : Nat) (ts : List (List Int × List Int)) (w : World) (hT : Trs w T n ts) :
    Calls Try.prog 12 #[.agg #[.int .i64 i, .slice T n c]] w fun r w' => G16E n ts w r w' := by
  obtain ⟨w0, hw0⟩ : ∃ w0, w0 = w.alloc (.cells #[.int .i64 i, .slice T n c] 34) := ⟨_, rfl⟩
  have hb0 : Below w.heap.size w w0 := by rw [hw0]; exact alloc_below _ _
  have m0 : Bx w0 w.heap.size #[.int .i64 i, .slice T n c] 34 := by rw [hw0]; exact bx_new _ _ _
  have HB0 := Lib.hid hb0
  have HW0 := Lib.hid hw0
  have HT := Lib.hid (hT.below hb0)
  have hn := hT.2.1
  have k1 := m0.cell 1
  simp at k1
  have z1 := k1
  rw [hw0] at z1
  clear hw0 hb0 m0 hT
  by_cases hbig : 60 < n
  · have hbI : (60 : Int) < (n : Int) := by omega
    clear k1
    go_enter Try.func12, Try.ntmps12
    go_wp2
    rw [← HW0.out]
    go_ret
    exact ⟨true, rfl, (fun h => nomatch h), HB0.out⟩
  have hbI : ¬ (60 : Int) < (n : Int) := by omega
  go_enter Try.func12, Try.ntmps12
  go_wp2
  rw [← HW0.out]
  clear z1
  go_loopw [3] (fun v3 wr => ∃ k : Nat, v3 = .int .i64 k ∧ k ≤ n ∧ Hid (∀ j, j < k → (tIn ts j).length ≤ 100 ∧ (tOut ts j).length ≤ 100) ∧ wr = w0) (fun v3 _ => n - (intOf v3).toNat)
  case atStart => exact ⟨0, rfl, Nat.zero_le _, Lib.hid (fun j h => absurd h (Nat.not_lt_zero j)), rfl⟩
  case round =>
    obtain ⟨k, rfl, hk, HP, rfl⟩ := hrel
    by_cases hlt : k < n
    · obtain ⟨b, off, A1, n1, c1, A2, n2, c2, rfl, hgb, j1, j2, _, _, j3, j4⟩ := HT.out.at_ hlt
      have HL1 := Lib.hid j3.1
      have HL2 := Lib.hid j4.1
      clear j3 j4 hgb
      by_cases h1 : 100 < n1
      · have h1I : (100 : Int) < (n1 : Int) := by omega
        go_wp2
        go_ret
        exact ⟨true, rfl, (fun h => nomatch h), HB0.out⟩
      · have h1I : ¬ (100 : Int) < (n1 : Int) := by omega
        by_cases h2 : 100 < n2
        · have h2I : (100 : Int) < (n2 : Int) := by omega
          go_wp2
          go_ret
          exact ⟨true, rfl, (fun h => nomatch h), HB0.out⟩
        · have h2I : ¬ (100 : Int) < (n2 : Int) := by omega
          have HP2 := Lib.hid (show ∀ j, j < k + 1 → (tIn ts j).length ≤ 100 ∧ (tOut ts j).length ≤ 100 from fun j hj => by
            rcases Nat.lt_or_ge j k with h | h
            · exact HP.out j h
            · obtain rfl : j = k := by omega
              rw [HL1.out, HL2.out]; omega)
          go_wp2
          go_roundw
          case rel => exact ⟨k + 1, by go_num, by omega, HP2, by first | rfl | trivial⟩
          case measure => simp [intOf]; omega
    · obtain rfl : k = n := by omega
      go_wp2
      go_ret
      exact ⟨false, rfl, fun _ => ⟨by omega, HP.out⟩, HB0.out⟩
end Go.Proofs.Ytaiifmckmjlgjaa
end

section
/- The reference of observe: Proper, Differ. -/
namespace Go.Proofs.Ytaiifmckmjlgjaa
open Go.RowKit

set_option linter.unusedSimpArgs false in
set_option linter.unusedVariables false in
set_option maxHeartbeats 2000000 in
set_option maxRecDepth 100000 in
theorem rproper (A B : Option Addr) (n c m d : Nat) (i : Int) (xs ys : List Int) (w : World) (hx : Ints w A n xs) (hy : Ints w B m ys) :
    Calls Try.prog 36 #[.agg #[.slice A n c, .slice B m d], .int .i64 i] w fun e w' => e = .returned (.int .i64 (prpE xs ys i)) ∧ Below w.heap.size w w' := by
  obtain ⟨w0, hw0⟩ : ∃ w0, w0 = w.alloc (.cells #[.slice A n c, .slice B m d] 56) := ⟨_, rfl⟩
  have hb0 : Below w.heap.size w w0 := by rw [hw0]; exact alloc_below _ _
  have m0 : Bx w0 w.heap.size #[.slice A n c, .slice B m d] 56 := by rw [hw0]; exact bx_new _ _ _
  have HX := Lib.hid (hx.below hb0)
  have HY := Lib.hid (hy.below hb0)
  have HB := Lib.hid hb0
  have HW0 := Lib.hid hw0
  have HM := Lib.hid m0
  have LX := Lib.hid hx.1
  have LY := Lib.hid hy.1
  have hm := hy.2.1
  have k0 := m0.cell 0
  have k1 := m0.cell 1
  simp at k0 k1
  rw [hw0] at k0 k1
  clear hx hy hb0 hw0 m0
  by_cases hc : chk xs i = 0
  case neg =>
    have HP := Lib.hid (show prpE xs ys i = chk xs i by unfold prpE; rw [if_neg hc])
    obtain ⟨E, hE⟩ : ∃ E, E = chk xs i := ⟨_, rfl⟩
    have hne : (E != 0) = true := by rw [hE]; simpa using hc
    have HE := Lib.hid hE
    clear hE hc
    go_enter Try.func36, Try.ntmps36
    go_wp2_with fail
    rw [← HW0.out]
    refine (rcheck _ _ _ _ xs _ HX.out).mono ?_
    rintro e w2 ⟨rfl, rfl⟩
    rw [← HE.out]
    clear k0 k1
    go_wp2
    go_ret
    exact ⟨by rw [HP.out, ← HE.out]; rfl, HB.out⟩
  have HP := Lib.hid (show prpE xs ys i = ansE xs ys by unfold prpE; rw [if_pos hc])
  have HC := Lib.hid hc
  clear hc
  by_cases hl : m = n
  case neg =>
    have HE := Lib.hid (ansE_len (xs := xs) (ys := ys) (by rw [LX.out, LY.out]; exact hl))
    have hne : ((m : Int) != (n : Int)) = true := by rw [bne_iff_ne]; omega
    have hl' : ¬ (m : Int) = (n : Int) := by omega
    go_enter Try.func36, Try.ntmps36
    go_wp2_with fail
    rw [← HW0.out]
    refine (rcheck _ _ _ _ xs _ HX.out).mono ?_
    rintro e w2 ⟨rfl, rfl⟩
    rw [HC.out]
    rw [← HW0.out] at k0 k1
    go_wp2
    go_ret
    exact ⟨by rw [HP.out, HE.out]; rfl, HB.out⟩
  subst hl
  have HL := Lib.hid (show ys.length = xs.length by rw [LX.out, LY.out])
  have hne : ((m : Int) != (m : Int)) = false := by simp
  go_enter Try.func36, Try.ntmps36
  go_wp2_with fail
  rw [← HW0.out]
  refine (rcheck _ _ _ _ xs _ HX.out).mono ?_
  rintro e w2 ⟨rfl, rfl⟩
  rw [HC.out]
  rw [← HW0.out] at k0 k1
  go_wp2
  go_loopw [6] (fun jv wr => ∃ k : Nat, k ≤ m ∧ jv = .int .i64 k ∧ Hid (∀ j, j < k → 0 ≤ ys.getD j 0 ∧ ys.getD j 0 ≤ 1048576) ∧ ∃ q, wr = w0.drewN q) (fun jv _ => m - (intOf jv).toNat)
  case atStart => exact ⟨0, Nat.zero_le _, rfl, Lib.hid (fun j h => absurd h (by omega)), 0, rfl⟩
  case round =>
    obtain ⟨k, hk, rfl, HA, q, rfl⟩ := hrel
    by_cases hlt : k < m
    · obtain ⟨b, o, rfl, _, hc⟩ := HY.out.at_ hlt
      obtain ⟨y, hyv⟩ : ∃ y, y = ys.getD k 0 := ⟨_, rfl⟩
      rw [← hyv] at hc
      have HV := Lib.hid hyv
      clear hyv
      by_cases h1 : y < 0
      · have HE := Lib.hid (ansE_bad HL.out (by rw [LY.out]; exact hlt) (by rw [← HV.out]; omega))
        go_wp2
        go_ret
        exact ⟨by rw [HP.out, HE.out]; rfl, below_drewN HB.out _⟩
      · by_cases h2 : 1048576 < y
        · have HE := Lib.hid (ansE_bad HL.out (by rw [LY.out]; exact hlt) (by rw [← HV.out]; omega))
          go_wp2
          go_ret
          exact ⟨by rw [HP.out, HE.out]; rfl, below_drewN HB.out _⟩
        · have HA2 := Lib.hid (all_snoc HA.out (by rw [← HV.out]; omega))
          go_wp2
          go_roundw
          case rel => exact ⟨k + 1, by omega, by go_num, HA2, q, rfl⟩
          case measure => simp [intOf]; omega
    · obtain rfl : k = m := by omega
      have HE := Lib.hid (ansE_ok HL.out (all_done (by rw [LY.out]; exact HA.out)))
      go_wp2
      go_ret
      exact ⟨by rw [HP.out, HE.out]; rfl, below_drewN HB.out _⟩

/-- Where two traces differ. -/
def Dff (xs ys us vs : List Int) (z : Int) : Prop := (z = -1 ∧ ∀ j, j < cmn xs us → ys.getD j 0 = vs.getD j 0) ∨ (∃ k : Nat, z = k ∧ k < cmn xs us ∧ (∀ j, j < k → ys.getD j 0 = vs.getD j 0) ∧ ¬ ys.getD k 0 = vs.getD k 0)
theorem dff_ex (xs ys us vs : List Int) : ∃ z, Dff xs ys us vs z := by
  by_cases h : ∃ k, k < cmn xs us ∧ ¬ ys.getD k 0 = vs.getD k 0
  · obtain ⟨k, h1, h2⟩ := h
    induction k using Nat.strongRecOn with
    | ind k ih =>
      by_cases h3 : ∃ j, j < k ∧ ¬ ys.getD j 0 = vs.getD j 0
      · obtain ⟨j, h4, h5⟩ := h3
        exact ih j h4 (by omega) h5
      · exact ⟨k, .inr ⟨k, rfl, h1, fun j hj => Classical.byContradiction fun h6 => h3 ⟨j, hj, h6⟩, h2⟩⟩
  · exact ⟨-1, .inl ⟨rfl, fun j hj => Classical.byContradiction fun h6 => h ⟨j, hj, h6⟩⟩⟩
theorem Dff.at_ {xs ys us vs : List Int} {z : Int} {k : Nat} (h : Dff xs ys us vs z) (hk : k < cmn xs us) (ha : ∀ j, j < k → ys.getD j 0 = vs.getD j 0) (hn : ¬ ys.getD k 0 = vs.getD k 0) : z = k := by
  rcases h with ⟨_, h⟩ | ⟨q, rfl, h1, h2, h3⟩
  · exact absurd (h k hk) hn
  · rcases Nat.lt_trichotomy q k with h4 | rfl | h4
    · exact absurd (ha q h4) h3
    · rfl
    · exact absurd (h2 k h4) hn
theorem Dff.no {xs ys us vs : List Int} {z : Int} (h : Dff xs ys us vs z) (ha : ∀ j, j < cmn xs us → ys.getD j 0 = vs.getD j 0) : z = -1 := by
  rcases h with ⟨h, _⟩ | ⟨q, rfl, h1, h2, h3⟩
  · exact h
  · exact absurd (ha q h1) h3

set_option linter.unusedSimpArgs false in
set_option linter.unusedVariables false in
set_option maxHeartbeats 2000000 in
set_option maxRecDepth 100000 in
theorem rdiffer (A B C D : Option Addr) (n c m d k e l f : Nat) (xs ys us vs : List Int) (z : Int) (w : World) (hx : Ints w A n xs) (hy : Ints w B m ys) (hu : Ints w C k us) (hv : Ints w D l vs) (h1 : ys.length = xs.length) (h2 : vs.length = us.length) (hz : Dff xs ys us vs z) :
    Calls Try.prog 65 #[.agg #[.slice A n c, .slice B m d], .agg #[.slice C k e, .slice D l f]] w fun r w' => r = .returned (.int .i64 z) ∧ Below w.heap.size w w' := by
  obtain ⟨w0, hw0⟩ : ∃ w0, w0 = (w.alloc (.cells #[.slice A n c, .slice B m d] 56)).alloc (.cells #[.slice C k e, .slice D l f] 56) := ⟨_, rfl⟩
  obtain ⟨hb0, m1, m2, hs0⟩ := bxs2 w #[.slice A n c, .slice B m d] #[.slice C k e, .slice D l f] 56 56 w0 hw0
  have HX := Lib.hid (hx.below hb0)
  have HY := Lib.hid (hy.below hb0)
  have HU := Lib.hid (hu.below hb0)
  have HV := Lib.hid (hv.below hb0)
  have HB := Lib.hid hb0
  have HW0 := Lib.hid hw0
  have HZ := Lib.hid hz
  have LX := Lib.hid hx.1
  have LY := Lib.hid hy.1
  have LU := Lib.hid hu.1
  have LV := Lib.hid hv.1
  obtain rfl : m = n := by rw [← hx.1, ← hy.1, h1]
  obtain rfl : l = k := by rw [← hu.1, ← hv.1, h2]
  obtain ⟨K, hK⟩ : ∃ K, K = cmn xs us := ⟨_, rfl⟩
  have hK1 : K ≤ m := by rw [hK, ← hx.1]; exact cmn_le_left _ _
  have hK2 : K ≤ l := by rw [hK, ← hu.1]; exact cmn_le_right _ _
  have hm := hx.2.1
  have HKK := Lib.hid hK
  have k0 := m1.cell 0
  have k1 := m1.cell 1
  have l0 := m2.cell 0
  have l1 := m2.cell 1
  simp at k0 k1 l0 l1
  have HCM := Lib.hid (rcommon A C m c l e xs us w0 HX.out HU.out)
  rw [← hK] at HCM
  rw [hw0] at k0 k1 l0 l1
  clear hx hy hu hv hb0 hw0 m1 m2 hs0 h1 h2 hz hK
  go_enter Try.func65, Try.ntmps65
  go_wp2_with fail
  rw [← HW0.out]
  refine HCM.out.mono ?_
  rintro e w2 ⟨rfl, q2, rfl⟩
  rw [← HW0.out] at k0 k1 l0 l1
  go_wp2
  go_loopw [6] (fun jv wr => ∃ j : Nat, j ≤ K ∧ jv = .int .i64 j ∧ Hid (∀ t, t < j → ys.getD t 0 = vs.getD t 0) ∧ ∃ q, wr = w0.drewN q) (fun jv _ => K - (intOf jv).toNat)
  case atStart => exact ⟨0, Nat.zero_le _, rfl, Lib.hid (fun j h => absurd h (by omega)), q2, rfl⟩
  case round =>
    obtain ⟨j, hj, rfl, HA, q, rfl⟩ := hrel
    by_cases hlt : j < K
    · obtain ⟨b1, o1, rfl, _, hc1⟩ := HY.out.at_ (k := j) (by omega)
      obtain ⟨b2, o2, rfl, _, hc2⟩ := HV.out.at_ (k := j) (by omega)
      obtain ⟨y, hy⟩ : ∃ y, y = ys.getD j 0 := ⟨_, rfl⟩
      obtain ⟨v, hv⟩ : ∃ v, v = vs.getD j 0 := ⟨_, rfl⟩
      rw [← hy] at hc1
      rw [← hv] at hc2
      have HYY := Lib.hid hy
      have HVV := Lib.hid hv
      clear hy hv
      by_cases he : y = v
      · have hb : (y != v) = false := by rw [he]; simp
        have HN := Lib.hid (show ∀ t, t < j + 1 → ys.getD t 0 = vs.getD t 0 from fun t ht => by
          rcases Nat.lt_or_ge t j with h | h
          · exact HA.out t h
          · rw [show t = j by omega, ← HYY.out, ← HVV.out, he])
        have HE := Lib.hid he
        clear he
        go_wp2
        go_quiet (fail)
        go_wp2
        go_roundw
        case rel => exact ⟨j + 1, by omega, by go_num, HN, by first | exact ⟨_, rfl⟩ | exact ⟨_, World.drewN_drewN _ _ _⟩⟩
        case measure => simp [intOf]; omega
      · have hb : (y != v) = true := by rw [bne_iff_ne]; exact he
        have HR := Lib.hid (HZ.out.at_ (k := j) (by rw [← HKK.out]; exact hlt) HA.out (by rw [← HYY.out, ← HVV.out]; exact he))
        go_wp2
        go_quiet (fail)
        go_wp2
        go_ret
        exact ⟨by rw [HR.out]; rfl, below_drewN (below_drewN HB.out _) _⟩
    · have HR := Lib.hid (HZ.out.no (fun t ht => HA.out t (by rw [← HKK.out] at ht; omega)))
      go_wp2
      go_ret
      exact ⟨by rw [HR.out]; rfl, below_drewN HB.out _⟩
end Go.Proofs.Ytaiifmckmjlgjaa
end

section
/- The reference: Lex and Compare. -/
namespace Go.Proofs.Ytaiifmckmjlgjaa
open Go.RowKit

set_option maxHeartbeats 400000 in
theorem rlex (A B : Option Addr) (n c m d : Nat) (xs ys : List Int) (w : World) (hx : Ints w A n xs) (hy : Ints w B m ys) :
    Calls Try.prog 64 #[.slice A n c, .slice B m d] w fun e w' => e = .returned (.int .i64 (lexi xs ys)) ∧ ∃ q, w' = w.drewN q := by
  have L1 := Lib.hid hx.1
  have L2 := Lib.hid hy.1
  have hn := hx.2.1
  have hm := hy.2.1
  have l1 : cmn xs ys ≤ n := by rw [← L1.out]; exact cmn_le_left _ _
  have l2 : cmn xs ys ≤ m := by rw [← L2.out]; exact cmn_le_right _ _
  have hag := Lib.hid (cmn_agree xs ys)
  obtain ⟨t, ht⟩ : ∃ t, t = cmn xs ys := ⟨_, rfl⟩
  rw [← ht] at l1 l2 hag
  have HT := Lib.hid ht
  have call : ∀ w0 : World, w0 = w → Calls Try.prog 43 #[.slice A n c, .slice B m d] w0 fun e w' => e = .returned (.int .i64 (t : Int)) ∧ ∃ q, w' = w0.drewN q := by
    intro w0 e0; subst e0; rw [ht]; exact rcommon _ _ _ _ _ _ xs ys _ hx hy
  have HC := Lib.hid call
  clear ht call
  by_cases h1 : t = n
  · by_cases h2 : t = m
    · have b1 : ((t : Int) == (n : Int)) = true := by simp; omega
      have b2 : ((t : Int) == (m : Int)) = true := by simp; omega
      have hfin := Lib.hid (lexi_same (xs := xs) (ys := ys) (by rw [L1.out, L2.out]; omega) (by rw [L1.out, ← h1]; exact hag.out))
      clear h1 h2
      go_enter Try.func64, Try.ntmps64
      go_wp2_with (go_at_call 43; refine (HC.out _ rfl).mono ?_; rintro e w' ⟨rfl, q, rfl⟩)
      go_ret
      exact ⟨ret_int (by rw [hfin.out]), _, rfl⟩
    · have b1 : ((t : Int) == (n : Int)) = true := by simp; omega
      have b2 : ((t : Int) == (m : Int)) = false := by simp; omega
      have hfin := Lib.hid (lexi_short (xs := xs) (ys := ys) (by rw [L1.out, L2.out]; omega) (by rw [L1.out, ← h1]; exact hag.out))
      clear h1 h2
      go_enter Try.func64, Try.ntmps64
      go_wp2_with (go_at_call 43; refine (HC.out _ rfl).mono ?_; rintro e w' ⟨rfl, q, rfl⟩)
      go_ret
      exact ⟨ret_int (by rw [hfin.out]), _, rfl⟩
  · have b1 : ((t : Int) == (n : Int)) = false := by simp; omega
    by_cases h2 : t < m
    · obtain ⟨b1', o1, rfl, _, hc1⟩ := hx.at_ (k := t) (by omega)
      obtain ⟨b2', o2, rfl, _, hc2⟩ := hy.at_ (k := t) (by omega)
      have hne : xs[t]?.getD 0 ≠ ys[t]?.getD 0 := by
        have := cmn_part xs ys (by rw [← HT.out, L1.out]; omega) (by rw [← HT.out, L2.out]; omega)
        rw [← HT.out] at this
        simpa using this
      have hfin := Lib.hid (lexi_of (xs := xs) (ys := ys) (j := t) (by rw [L1.out]; omega) (by rw [L2.out]; omega) hag.out (by simpa using hne))
      have d2 : decide ((t : Int) < (m : Int)) = true := by simp; omega
      have ht1 : t < n := by omega
      clear h1
      by_cases hlt : xs[t]?.getD 0 < ys[t]?.getD 0
      · have d3 : decide (xs[t]?.getD 0 < ys[t]?.getD 0) = true := by simpa using hlt
        have hz := Lib.hid (show cmpI (xs.getD t 0) (ys.getD t 0) = -1 by unfold cmpI; rw [if_pos (by simpa using hlt)])
        clear hne
        go_enter Try.func64, Try.ntmps64
        go_wp2_with (go_at_call 43; refine (HC.out _ rfl).mono ?_; rintro e w' ⟨rfl, q, rfl⟩)
        go_quiet (fail)
        go_wp2
        go_ret
        exact ⟨ret_int (by rw [hfin.out, hz.out]), by first | exact ⟨_, rfl⟩ | exact ⟨_, World.drewN_drewN _ _ _⟩⟩
      · have d3 : decide (xs[t]?.getD 0 < ys[t]?.getD 0) = false := by simpa using hlt
        have hgt : ys[t]?.getD 0 < xs[t]?.getD 0 := by omega
        have hz := Lib.hid (show cmpI (xs.getD t 0) (ys.getD t 0) = 1 by unfold cmpI; rw [if_neg (by simpa using hlt), if_pos (by simpa using hgt)])
        clear hne hlt
        go_enter Try.func64, Try.ntmps64
        go_wp2_with (go_at_call 43; refine (HC.out _ rfl).mono ?_; rintro e w' ⟨rfl, q, rfl⟩)
        go_quiet (fail)
        go_wp2
        go_ret
        exact ⟨ret_int (by rw [hfin.out, hz.out]), by first | exact ⟨_, rfl⟩ | exact ⟨_, World.drewN_drewN _ _ _⟩⟩
    · have d2 : decide (t < m) = false := by simp; omega
      have hfin := Lib.hid (lexi_long (xs := xs) (ys := ys) (by rw [L1.out, L2.out]; omega) (by rw [L2.out]; exact (by omega : t = m) ▸ hag.out))
      clear h1 h2
      go_enter Try.func64, Try.ntmps64
      go_wp2_with (go_at_call 43; refine (HC.out _ rfl).mono ?_; rintro e w' ⟨rfl, q, rfl⟩)
      go_quiet (fail)
      go_wp2
      go_ret
      exact ⟨ret_int (by rw [hfin.out]), by first | exact ⟨_, rfl⟩ | exact ⟨_, World.drewN_drewN _ _ _⟩⟩

theorem rcompare (A B : Option Addr) (n c m d : Nat) (xs ys : List Int) (w : World) (hx : Ints w A n xs) (hy : Ints w B m ys) :
    Calls Try.prog 37 #[.slice A n c, .slice B m d] w fun e w' => e = .returned (.int .i64 (shlex xs ys)) ∧ ∃ q, w' = w.drewN q := by
  have L1 := Lib.hid hx.1
  have L2 := Lib.hid hy.1
  by_cases h : n < m
  · have hfin := Lib.hid (shlex_lt (xs := xs) (ys := ys) (by rw [L1.out, L2.out]; exact h))
    go_enter Try.func37, Try.ntmps37
    go_wp2
    go_ret
    exact ⟨ret_int (by rw [hfin.out]), 0, rfl⟩
  · by_cases h' : m < n
    · have hfin := Lib.hid (shlex_gt (xs := xs) (ys := ys) (by rw [L1.out, L2.out]; omega))
      go_enter Try.func37, Try.ntmps37
      go_wp2
      go_ret
      exact ⟨ret_int (by rw [hfin.out]), 0, rfl⟩
    · have hfin := Lib.hid (shlex_eq (xs := xs) (ys := ys) (by rw [L1.out, L2.out]; omega))
      go_enter Try.func37, Try.ntmps37
      go_wp2_with (go_at_call 64; refine (rlex _ _ _ _ _ _ xs ys _ hx hy).mono ?_; rintro e w' ⟨rfl, q, rfl⟩)
      go_ret
      exact ⟨ret_int (by rw [hfin.out]), _, rfl⟩
end Go.Proofs.Ytaiifmckmjlgjaa
end

section
/- The reference of observe: apart, Valid. -/
namespace Go.Proofs.Ytaiifmckmjlgjaa
open Go.RowKit

abbrev TSr := List (List Int × List Int)
/-- Is the trace p a prefix of one of those behind it, up to k? -/
def pfB (ts : TSr) (p : Nat) : Nat → Bool
  | 0 => false
  | m + 1 => pfB ts p m || (decide (p < m) && decide (cmn (tIn ts m) (tIn ts p) = (tIn ts p).length))
noncomputable def dfz (ts : TSr) (p q : Nat) : Int := Classical.choose (dff_ex (tIn ts p) (tOut ts p) (tIn ts q) (tOut ts q))
theorem dfz_spec (ts : TSr) (p q : Nat) : Dff (tIn ts p) (tOut ts p) (tIn ts q) (tOut ts q) (dfz ts p q) := Classical.choose_spec (dff_ex _ _ _ _)
/-- Does the trace p contradict one of those behind it, up to k? -/
noncomputable def clB (ts : TSr) (p : Nat) : Nat → Bool
  | 0 => false
  | m + 1 => clB ts p m || (decide (p < m) && decide (0 ≤ dfz ts p m))
theorem pfB_zero {ts : TSr} {p : Nat} : ∀ m, m ≤ p + 1 → pfB ts p m = false
  | 0, _ => rfl
  | m + 1, h => by rw [pfB, pfB_zero m (by omega), decide_eq_false (by omega)]; rfl
theorem clB_zero {ts : TSr} {p : Nat} : ∀ m, m ≤ p + 1 → clB ts p m = false
  | 0, _ => rfl
  | m + 1, h => by rw [clB, clB_zero m (by omega), decide_eq_false (by omega)]; rfl
theorem pfB_on {ts : TSr} {p q : Nat} (h : p < q) : pfB ts p (q + 1) = (pfB ts p q || decide (cmn (tIn ts q) (tIn ts p) = (tIn ts p).length)) := by rw [pfB, decide_eq_true h]; simp
theorem clB_on {ts : TSr} {p q : Nat} (h : p < q) : clB ts p (q + 1) = (clB ts p q || decide (0 ≤ dfz ts p q)) := by rw [clB, decide_eq_true h]; simp
theorem pfB_no {ts : TSr} {p m q : Nat} (h : pfB ts p m = false) (h1 : p < q) (h2 : q < m) : ¬ cmn (tIn ts q) (tIn ts p) = (tIn ts p).length := by
  induction m with
  | zero => omega
  | succ m ih =>
    rw [pfB, Bool.or_eq_false_iff] at h
    rcases Nat.lt_or_ge q m with h3 | h3
    · exact ih h.1 h3
    · obtain rfl : q = m := by omega
      have := h.2
      rw [decide_eq_true h1] at this
      simpa using this
theorem clB_no {ts : TSr} {p m q : Nat} (h : clB ts p m = false) (h1 : p < q) (h2 : q < m) : ∀ j, j < cmn (tIn ts p) (tIn ts q) → (tOut ts p).getD j 0 = (tOut ts q).getD j 0 := by
  induction m with
  | zero => omega
  | succ m ih =>
    rw [clB, Bool.or_eq_false_iff] at h
    rcases Nat.lt_or_ge q m with h3 | h3
    · exact ih h.1 h3
    · obtain rfl : q = m := by omega
      have := h.2
      rw [decide_eq_true h1] at this
      have h4 : ¬ 0 ≤ dfz ts p q := by simpa using this
      rcases dfz_spec ts p q with ⟨_, h5⟩ | ⟨k, h5, _⟩
      · exact h5
      · omega
/-- No trace is a prefix of a later one, and none contradicts one. -/
def Pw (ts : TSr) : Prop := ∀ p q, p < q → q < ts.length → ¬ cmn (tIn ts q) (tIn ts p) = (tIn ts p).length ∧ ∀ j, j < cmn (tIn ts p) (tIn ts q) → (tOut ts p).getD j 0 = (tOut ts q).getD j 0
theorem Pw.cons {ts : TSr} (h : Pw ts) : Cons ts := fun a b ha hb j hj => by
  rcases Nat.lt_trichotomy a b with h1 | rfl | h1
  · exact (h a b h1 hb).2 j hj
  · rfl
  · exact ((h b a h1 ha).2 j (by rw [cmn_comm]; exact hj)).symm

set_option linter.unusedSimpArgs false in
set_option linter.unusedVariables false in
set_option maxHeartbeats 8000000 in
set_option maxRecDepth 100000 in
theorem rapart16 (i : Int) (T : Option Addr) (n c : Nat) (ts : TSr) (w : World) (hT : Trs w T n ts) (hF : Full ts) :
    Calls Try.prog 38 #[.agg #[.int .i64 i, .slice T n c]] w fun e w' => ∃ v : Int, e = .returned (.int .i64 v) ∧ Hid (v = 0 → Pw ts) ∧ Below w.heap.size w w' := by
  obtain ⟨w0, hw0⟩ : ∃ w0, w0 = w.alloc (.cells #[.int .i64 i, .slice T n c] 34) := ⟨_, rfl⟩
  have hb0 : Below w.heap.size w w0 := by rw [hw0]; exact alloc_below _ _
  have m0 : Bx w0 w.heap.size #[.int .i64 i, .slice T n c] 34 := by rw [hw0]; exact bx_new _ _ _
  have HM := Lib.hid (fun (W : World) (h : Below w0.heap.size w0 W) => m0.on h)
  have HT := Lib.hid (fun (W : World) (h : Below w0.heap.size w0 W) => (hT.below hb0).below h)
  have HB0 := Lib.hid hb0
  have HW0 := Lib.hid hw0
  have HLT := Lib.hid hT.1
  have HF := Lib.hid hF
  have hn := hT.2.1
  clear hw0 hb0 m0 hT hF
  go_enter Try.func38, Try.ntmps38
  go_wp2
  rw [← HW0.out]
  go_loopw [3] (fun v3 wr => ∃ p : Nat, v3 = .int .i64 p ∧ p ≤ n ∧ Hid (∀ a b, a < b → b < n → a < p → ¬ cmn (tIn ts b) (tIn ts a) = (tIn ts a).length ∧ ∀ j, j < cmn (tIn ts a) (tIn ts b) → (tOut ts a).getD j 0 = (tOut ts b).getD j 0) ∧ Hid (Below w0.heap.size w0 wr)) (fun v3 _ => n - (intOf v3).toNat)
  case atStart => exact ⟨0, rfl, Nat.zero_le _, Lib.hid (fun a b _ _ h => absurd h (Nat.not_lt_zero a)), Lib.hid (Below.refl _ _)⟩
  case round =>
    obtain ⟨p, rfl, hp, HP, HBR⟩ := hrel
    have k1 := (HM.out _ HBR.out).cell 1
    simp at k1
    by_cases hlt : p < n
    · have wp1 : IntKind.i64.wrap ((p : Int) + 1) = ((p + 1 : Nat) : Int) := by rw [IntKind.wrap_i64]; omega
      go_wp2
      clear wp1
      go_loopw [6, 4, 5] (fun v6 v4 v5 wr => ∃ q : Nat, v6 = .int .i64 q ∧ p < q ∧ q ≤ n ∧ v4 = .bool (pfB ts p q) ∧ v5 = .bool (clB ts p q) ∧ Hid (Below w0.heap.size w0 wr)) (fun v6 _ _ _ => n - (intOf v6).toNat)
      case atStart => exact ⟨p + 1, by go_num, by omega, by omega, by rw [pfB_zero _ (Nat.le_refl _)], by rw [clB_zero _ (Nat.le_refl _)], HBR⟩
      case round =>
        obtain ⟨q, rfl, hpq, hqn, rfl, rfl, HBW⟩ := hrel
        have k1 := (HM.out _ HBW.out).cell 1
        simp at k1
        by_cases hlq : q < n
        · obtain ⟨b, off, A1, n1, c1, A2, n2, c2, rfl, hgb, j1, j2, _, _, j3, j4⟩ := (HT.out _ HBW.out).at_ hlt
          obtain ⟨_, _, B1, m1, d1, B2, m2, d2, eT, _, i1, i2, _, _, i3, i4⟩ := (HT.out _ HBW.out).at_ hlq
          cases eT
          have hpI : (p : Int) < (n : Int) := by omega
          have hqI : (q : Int) < (n : Int) := by omega
          have hp0 : (0 : Int) ≤ (p : Int) := by omega
          have hq0 : (0 : Int) ≤ (q : Int) := by omega
          have HPN := Lib.hid (pfB_on (ts := ts) hpq)
          have HCN := Lib.hid (clB_on (ts := ts) hpq)
          obtain ⟨x, hx⟩ : ∃ x, x = pfB ts p q := ⟨_, rfl⟩
          obtain ⟨y, hy⟩ : ∃ y, y = clB ts p q := ⟨_, rfl⟩
          obtain ⟨f, hf⟩ : ∃ f, f = decide (cmn (tIn ts q) (tIn ts p) = (tIn ts p).length) := ⟨_, rfl⟩
          obtain ⟨z, hz⟩ : ∃ z, z = dfz ts p q := ⟨_, rfl⟩
          have HHP := Lib.hid (fun u => rhasprefix B1 A1 m1 d1 n1 c1 (tIn ts q) (tIn ts p) (wr.drewN u) (i3.drewN u) (j3.drewN u))
          have HDI := Lib.hid (fun (W : World) (h : Below wr.heap.size wr W) => rdiffer A1 A2 B1 B2 n1 c1 n2 c2 m1 d1 m2 d2 (tIn ts p) (tOut ts p) (tIn ts q) (tOut ts q) z W (j3.below h) (j4.below h) (i3.below h) (i4.below h) (HF.out p (by rw [HLT.out]; exact hlt)) (HF.out q (by rw [HLT.out]; exact hlq)) (by rw [hz]; exact dfz_spec ts p q))
          rw [← hx, ← hf] at HPN
          rw [← hy, ← hz] at HCN
          rw [← hx, ← hy]
          rw [← hf] at HHP
          have HS := Lib.hid (show ∀ W, Below wr.heap.size wr W → W.cell? ⟨w.heap.size, 1, none⟩ = some (.slice (some ⟨b, off, none⟩) n c) ∧ W.cell? ⟨b, off + p * 2, none⟩ = some (.slice A1 n1 c1) ∧ W.cell? ⟨b, off + p * 2 + 1, none⟩ = some (.slice A2 n2 c2) ∧ W.cell? ⟨b, off + q * 2, none⟩ = some (.slice B1 m1 d1) ∧ W.cell? ⟨b, off + q * 2 + 1, none⟩ = some (.slice B2 m2 d2) from fun W h => ⟨(h.cell (p := ⟨w.heap.size, 1, none⟩) (World.block_lt_of_cell? _ _ k1)).trans k1, (h.cell (p := ⟨b, off + p * 2, none⟩) hgb).trans j1, (h.cell (p := ⟨b, off + p * 2 + 1, none⟩) hgb).trans j2, (h.cell (p := ⟨b, off + q * 2, none⟩) hgb).trans i1, (h.cell (p := ⟨b, off + q * 2 + 1, none⟩) hgb).trans i2⟩)
          clear hx hy hf hz j3 j4 i3 i4 hgb
          cases x <;> cases y
          case false.false =>
            go_wp2
            go_quiet ((go_at_call 47; exact Calls.quiet_of (HHP.out _)))
            go_upto_region 9 with fail
            have hbf : Below wr.heap.size wr ((wr.drewN nq).drew) := below_drewN (below_drewN (Below.refl _ _) nq) 1
            refine wp_region_heldX (X := fun k => ([] : List Nat).contains k) (S := fun W => W.cell? ⟨w.heap.size, 1, none⟩ = some (.slice (some ⟨b, off, none⟩) n c) ∧ W.cell? ⟨b, off + p * 2, none⟩ = some (.slice A1 n1 c1) ∧ W.cell? ⟨b, off + p * 2 + 1, none⟩ = some (.slice A2 n2 c2) ∧ W.cell? ⟨b, off + q * 2, none⟩ = some (.slice B1 m1 d1) ∧ W.cell? ⟨b, off + q * 2 + 1, none⟩ = some (.slice B2 m2 d2)) (by kernel_rfl) ?_
            refine wpAnyX_pure (i := 0) (v := ?_) rfl (by kernel_rfl) (by kernel_rfl) (by kernel_rfl) (fun _ _ _ h => h) (Or.inl ⟨by rfl, ?_⟩) ?_
            rotate_left
            · (intro W _; go_simp; try with_reducible rfl)
            (try simp only [Act.put, List.getElem_toArray, List.getElem_cons_zero, List.getElem_cons_succ, List.setIfInBounds_toArray, List.set_cons_zero, List.set_cons_succ])
            refine wpAnyX_pure (i := 1) (v := ?_) rfl (by kernel_rfl) (by kernel_rfl) (by kernel_rfl) (fun _ _ _ h => h) (Or.inl ⟨by rfl, ?_⟩) ?_
            rotate_left
            · (intro W _; go_simp; try with_reducible rfl)
            (try simp only [Act.put, List.getElem_toArray, List.getElem_cons_zero, List.getElem_cons_succ, List.setIfInBounds_toArray, List.set_cons_zero, List.set_cons_succ])
            refine wpAnyX_pure (i := 2) (v := ?_) rfl (by kernel_rfl) (by kernel_rfl) (by kernel_rfl) (fun _ _ _ h => h) (Or.inl ⟨by rfl, ?_⟩) ?_
            rotate_left
            · (intro W _; go_simp; try with_reducible rfl)
            (try simp only [Act.put, List.getElem_toArray, List.getElem_cons_zero, List.getElem_cons_succ, List.setIfInBounds_toArray, List.set_cons_zero, List.set_cons_succ])
            refine wpAnyX_takeL (L := []) (i := 3) (v := ?_) rfl (by kernel_rfl) (by kernel_rfl) (by kernel_rfl) (by kernel_rfl) (fun _ _ _ h => h) (Or.inl ⟨by rfl, ?_⟩) (HS.out _ hbf) ?_
            rotate_left
            · (intro W hSW; (try dsimp only at hSW); obtain ⟨z0, z1, z2, z3, z4⟩ := hSW; go_simp; try with_reducible rfl)
            (try simp only [Act.put, List.getElem_toArray, List.getElem_cons_zero, List.getElem_cons_succ, List.setIfInBounds_toArray, List.set_cons_zero, List.set_cons_succ])
            refine wpAnyX_pure (i := 4) (v := ?_) rfl (by kernel_rfl) (by kernel_rfl) (by kernel_rfl) (fun _ _ _ h => h) (Or.inl ⟨by rfl, ?_⟩) ?_
            rotate_left
            · (intro W _; go_simp; try with_reducible rfl)
            (try simp only [Act.put, List.getElem_toArray, List.getElem_cons_zero, List.getElem_cons_succ, List.setIfInBounds_toArray, List.set_cons_zero, List.set_cons_succ])
            refine wpAnyX_pure (i := 5) (v := ?_) rfl (by kernel_rfl) (by kernel_rfl) (by kernel_rfl) (fun _ _ _ h => h) (Or.inl ⟨by rfl, ?_⟩) ?_
            rotate_left
            · (intro W _; go_simp; try with_reducible rfl)
            (try simp only [Act.put, List.getElem_toArray, List.getElem_cons_zero, List.getElem_cons_succ, List.setIfInBounds_toArray, List.set_cons_zero, List.set_cons_succ])
            refine wpAnyX_takeL (L := []) (i := 6) (v := ?_) rfl (by kernel_rfl) (by kernel_rfl) (by kernel_rfl) (by kernel_rfl) (fun _ _ _ h => h) (Or.inl ⟨by rfl, ?_⟩) (HS.out _ hbf) ?_
            rotate_left
            · (intro W hSW; (try dsimp only at hSW); obtain ⟨z0, z1, z2, z3, z4⟩ := hSW; go_simp; try with_reducible rfl)
            (try simp only [Act.put, List.getElem_toArray, List.getElem_cons_zero, List.getElem_cons_succ, List.setIfInBounds_toArray, List.set_cons_zero, List.set_cons_succ])
            refine wpAnyX_pure (i := 7) (v := ?_) rfl (by kernel_rfl) (by kernel_rfl) (by kernel_rfl) (fun _ _ _ h => h) (Or.inl ⟨by rfl, ?_⟩) ?_
            rotate_left
            · (intro W _; go_simp; try with_reducible rfl)
            (try simp only [Act.put, List.getElem_toArray, List.getElem_cons_zero, List.getElem_cons_succ, List.setIfInBounds_toArray, List.set_cons_zero, List.set_cons_succ])
            refine wpAnyX_takeL (L := []) (i := 8) (v := ?_) rfl (by kernel_rfl) (by kernel_rfl) (by kernel_rfl) (by kernel_rfl) (fun _ _ _ h => h) (Or.inl ⟨by rfl, ?_⟩) (HS.out _ hbf) ?_
            rotate_left
            · (intro W hSW; (try dsimp only at hSW); obtain ⟨z0, z1, z2, z3, z4⟩ := hSW; go_simp; try with_reducible rfl)
            (try simp only [Act.put, List.getElem_toArray, List.getElem_cons_zero, List.getElem_cons_succ, List.setIfInBounds_toArray, List.set_cons_zero, List.set_cons_succ])
            refine wpAnyX_pure (i := 9) (v := ?_) rfl (by kernel_rfl) (by kernel_rfl) (by kernel_rfl) (fun _ _ _ h => h) (Or.inl ⟨by rfl, ?_⟩) ?_
            rotate_left
            · (intro W _; go_simp; try with_reducible rfl)
            (try simp only [Act.put, List.getElem_toArray, List.getElem_cons_zero, List.getElem_cons_succ, List.setIfInBounds_toArray, List.set_cons_zero, List.set_cons_succ])
            refine wpAnyX_pure (i := 10) (v := ?_) rfl (by kernel_rfl) (by kernel_rfl) (by kernel_rfl) (fun _ _ _ h => h) (Or.inl ⟨by rfl, ?_⟩) ?_
            rotate_left
            · (intro W _; go_simp; try with_reducible rfl)
            (try simp only [Act.put, List.getElem_toArray, List.getElem_cons_zero, List.getElem_cons_succ, List.setIfInBounds_toArray, List.set_cons_zero, List.set_cons_succ])
            refine wpAnyX_takeL (L := []) (i := 11) (v := ?_) rfl (by kernel_rfl) (by kernel_rfl) (by kernel_rfl) (by kernel_rfl) (fun _ _ _ h => h) (Or.inl ⟨by rfl, ?_⟩) (HS.out _ hbf) ?_
            rotate_left
            · (intro W hSW; (try dsimp only at hSW); obtain ⟨z0, z1, z2, z3, z4⟩ := hSW; go_simp; try with_reducible rfl)
            (try simp only [Act.put, List.getElem_toArray, List.getElem_cons_zero, List.getElem_cons_succ, List.setIfInBounds_toArray, List.set_cons_zero, List.set_cons_succ])
            refine wpAnyX_one (i := 12) rfl (by kernel_rfl) (fun K hK => ?_)
            go_simp
            go_at_call 65
            refine (HDI.out _ hbf).mono ?_
            rintro r w5 ⟨rfl, b5⟩
            have hbf := bt hbf b5
            clear b5
            refine hK.out _ _ (fun _ _ => HS.out _ hbf) ?_
            (try simp only [Act.put, List.getElem_toArray, List.getElem_cons_zero, List.getElem_cons_succ, List.setIfInBounds_toArray, List.set_cons_zero, List.set_cons_succ])
            refine wpAnyX_pure (i := 13) (v := ?_) rfl (by kernel_rfl) (by kernel_rfl) (by kernel_rfl) (fun _ _ _ h => h) (Or.inl ⟨by rfl, ?_⟩) ?_
            rotate_left
            · (intro W _; go_simp; try with_reducible rfl)
            (try simp only [Act.put, List.getElem_toArray, List.getElem_cons_zero, List.getElem_cons_succ, List.setIfInBounds_toArray, List.set_cons_zero, List.set_cons_succ])
            refine wpAnyX_pure (i := 14) (v := ?_) rfl (by kernel_rfl) (by kernel_rfl) (by kernel_rfl) (fun _ _ _ h => h) (Or.inl ⟨by rfl, ?_⟩) ?_
            rotate_left
            · (intro W _; go_simp; try with_reducible rfl)
            (try simp only [Act.put, List.getElem_toArray, List.getElem_cons_zero, List.getElem_cons_succ, List.setIfInBounds_toArray, List.set_cons_zero, List.set_cons_succ])
            refine wpAnyX_pure (i := 15) (v := ?_) rfl (by kernel_rfl) (by kernel_rfl) (by kernel_rfl) (fun _ _ _ h => h) (Or.inl ⟨by rfl, ?_⟩) ?_
            rotate_left
            · (intro W _; go_simp; try with_reducible rfl)
            (try simp only [Act.put, List.getElem_toArray, List.getElem_cons_zero, List.getElem_cons_succ, List.setIfInBounds_toArray, List.set_cons_zero, List.set_cons_succ])
            refine wpAnyX_done (by kernel_rfl) ?_ _
            have HBF := Lib.hid (bt HBW.out hbf)
            clear hbf
            go_wp2
            go_roundw
            case rel => exact ⟨q + 1, by go_num, by omega, by omega, by rw [HPN.out]; rfl, by rw [HCN.out]; rfl, HBF⟩
            case measure => simp [intOf]; omega
          case true.false =>
            go_wp2
            go_quiet (fail)
            go_upto_region 9 with fail
            have hbf : Below wr.heap.size wr ((wr.drewN nq).drew) := below_drewN (below_drewN (Below.refl _ _) nq) 1
            refine wp_region_heldX (X := fun k => ([] : List Nat).contains k) (S := fun W => W.cell? ⟨w.heap.size, 1, none⟩ = some (.slice (some ⟨b, off, none⟩) n c) ∧ W.cell? ⟨b, off + p * 2, none⟩ = some (.slice A1 n1 c1) ∧ W.cell? ⟨b, off + p * 2 + 1, none⟩ = some (.slice A2 n2 c2) ∧ W.cell? ⟨b, off + q * 2, none⟩ = some (.slice B1 m1 d1) ∧ W.cell? ⟨b, off + q * 2 + 1, none⟩ = some (.slice B2 m2 d2)) (by kernel_rfl) ?_
            refine wpAnyX_pure (i := 0) (v := ?_) rfl (by kernel_rfl) (by kernel_rfl) (by kernel_rfl) (fun _ _ _ h => h) (Or.inl ⟨by rfl, ?_⟩) ?_
            rotate_left
            · (intro W _; go_simp; try with_reducible rfl)
            (try simp only [Act.put, List.getElem_toArray, List.getElem_cons_zero, List.getElem_cons_succ, List.setIfInBounds_toArray, List.set_cons_zero, List.set_cons_succ])
            refine wpAnyX_pure (i := 1) (v := ?_) rfl (by kernel_rfl) (by kernel_rfl) (by kernel_rfl) (fun _ _ _ h => h) (Or.inl ⟨by rfl, ?_⟩) ?_
            rotate_left
            · (intro W _; go_simp; try with_reducible rfl)
            (try simp only [Act.put, List.getElem_toArray, List.getElem_cons_zero, List.getElem_cons_succ, List.setIfInBounds_toArray, List.set_cons_zero, List.set_cons_succ])
            refine wpAnyX_pure (i := 2) (v := ?_) rfl (by kernel_rfl) (by kernel_rfl) (by kernel_rfl) (fun _ _ _ h => h) (Or.inl ⟨by rfl, ?_⟩) ?_
            rotate_left
            · (intro W _; go_simp; try with_reducible rfl)
            (try simp only [Act.put, List.getElem_toArray, List.getElem_cons_zero, List.getElem_cons_succ, List.setIfInBounds_toArray, List.set_cons_zero, List.set_cons_succ])
            refine wpAnyX_takeL (L := []) (i := 3) (v := ?_) rfl (by kernel_rfl) (by kernel_rfl) (by kernel_rfl) (by kernel_rfl) (fun _ _ _ h => h) (Or.inl ⟨by rfl, ?_⟩) (HS.out _ hbf) ?_
            rotate_left
            · (intro W hSW; (try dsimp only at hSW); obtain ⟨z0, z1, z2, z3, z4⟩ := hSW; go_simp; try with_reducible rfl)
            (try simp only [Act.put, List.getElem_toArray, List.getElem_cons_zero, List.getElem_cons_succ, List.setIfInBounds_toArray, List.set_cons_zero, List.set_cons_succ])
            refine wpAnyX_pure (i := 4) (v := ?_) rfl (by kernel_rfl) (by kernel_rfl) (by kernel_rfl) (fun _ _ _ h => h) (Or.inl ⟨by rfl, ?_⟩) ?_
            rotate_left
            · (intro W _; go_simp; try with_reducible rfl)
            (try simp only [Act.put, List.getElem_toArray, List.getElem_cons_zero, List.getElem_cons_succ, List.setIfInBounds_toArray, List.set_cons_zero, List.set_cons_succ])
            refine wpAnyX_pure (i := 5) (v := ?_) rfl (by kernel_rfl) (by kernel_rfl) (by kernel_rfl) (fun _ _ _ h => h) (Or.inl ⟨by rfl, ?_⟩) ?_
            rotate_left
            · (intro W _; go_simp; try with_reducible rfl)
            (try simp only [Act.put, List.getElem_toArray, List.getElem_cons_zero, List.getElem_cons_succ, List.setIfInBounds_toArray, List.set_cons_zero, List.set_cons_succ])
            refine wpAnyX_takeL (L := []) (i := 6) (v := ?_) rfl (by kernel_rfl) (by kernel_rfl) (by kernel_rfl) (by kernel_rfl) (fun _ _ _ h => h) (Or.inl ⟨by rfl, ?_⟩) (HS.out _ hbf) ?_
            rotate_left
            · (intro W hSW; (try dsimp only at hSW); obtain ⟨z0, z1, z2, z3, z4⟩ := hSW; go_simp; try with_reducible rfl)
            (try simp only [Act.put, List.getElem_toArray, List.getElem_cons_zero, List.getElem_cons_succ, List.setIfInBounds_toArray, List.set_cons_zero, List.set_cons_succ])
            refine wpAnyX_pure (i := 7) (v := ?_) rfl (by kernel_rfl) (by kernel_rfl) (by kernel_rfl) (fun _ _ _ h => h) (Or.inl ⟨by rfl, ?_⟩) ?_
            rotate_left
            · (intro W _; go_simp; try with_reducible rfl)
            (try simp only [Act.put, List.getElem_toArray, List.getElem_cons_zero, List.getElem_cons_succ, List.setIfInBounds_toArray, List.set_cons_zero, List.set_cons_succ])
            refine wpAnyX_takeL (L := []) (i := 8) (v := ?_) rfl (by kernel_rfl) (by kernel_rfl) (by kernel_rfl) (by kernel_rfl) (fun _ _ _ h => h) (Or.inl ⟨by rfl, ?_⟩) (HS.out _ hbf) ?_
            rotate_left
            · (intro W hSW; (try dsimp only at hSW); obtain ⟨z0, z1, z2, z3, z4⟩ := hSW; go_simp; try with_reducible rfl)
            (try simp only [Act.put, List.getElem_toArray, List.getElem_cons_zero, List.getElem_cons_succ, List.setIfInBounds_toArray, List.set_cons_zero, List.set_cons_succ])
            refine wpAnyX_pure (i := 9) (v := ?_) rfl (by kernel_rfl) (by kernel_rfl) (by kernel_rfl) (fun _ _ _ h => h) (Or.inl ⟨by rfl, ?_⟩) ?_
            rotate_left
            · (intro W _; go_simp; try with_reducible rfl)
            (try simp only [Act.put, List.getElem_toArray, List.getElem_cons_zero, List.getElem_cons_succ, List.setIfInBounds_toArray, List.set_cons_zero, List.set_cons_succ])
            refine wpAnyX_pure (i := 10) (v := ?_) rfl (by kernel_rfl) (by kernel_rfl) (by kernel_rfl) (fun _ _ _ h => h) (Or.inl ⟨by rfl, ?_⟩) ?_
            rotate_left
            · (intro W _; go_simp; try with_reducible rfl)
            (try simp only [Act.put, List.getElem_toArray, List.getElem_cons_zero, List.getElem_cons_succ, List.setIfInBounds_toArray, List.set_cons_zero, List.set_cons_succ])
            refine wpAnyX_takeL (L := []) (i := 11) (v := ?_) rfl (by kernel_rfl) (by kernel_rfl) (by kernel_rfl) (by kernel_rfl) (fun _ _ _ h => h) (Or.inl ⟨by rfl, ?_⟩) (HS.out _ hbf) ?_
            rotate_left
            · (intro W hSW; (try dsimp only at hSW); obtain ⟨z0, z1, z2, z3, z4⟩ := hSW; go_simp; try with_reducible rfl)
            (try simp only [Act.put, List.getElem_toArray, List.getElem_cons_zero, List.getElem_cons_succ, List.setIfInBounds_toArray, List.set_cons_zero, List.set_cons_succ])
            refine wpAnyX_one (i := 12) rfl (by kernel_rfl) (fun K hK => ?_)
            go_simp
            go_at_call 65
            refine (HDI.out _ hbf).mono ?_
            rintro r w5 ⟨rfl, b5⟩
            have hbf := bt hbf b5
            clear b5
            refine hK.out _ _ (fun _ _ => HS.out _ hbf) ?_
            (try simp only [Act.put, List.getElem_toArray, List.getElem_cons_zero, List.getElem_cons_succ, List.setIfInBounds_toArray, List.set_cons_zero, List.set_cons_succ])
            refine wpAnyX_pure (i := 13) (v := ?_) rfl (by kernel_rfl) (by kernel_rfl) (by kernel_rfl) (fun _ _ _ h => h) (Or.inl ⟨by rfl, ?_⟩) ?_
            rotate_left
            · (intro W _; go_simp; try with_reducible rfl)
            (try simp only [Act.put, List.getElem_toArray, List.getElem_cons_zero, List.getElem_cons_succ, List.setIfInBounds_toArray, List.set_cons_zero, List.set_cons_succ])
            refine wpAnyX_pure (i := 14) (v := ?_) rfl (by kernel_rfl) (by kernel_rfl) (by kernel_rfl) (fun _ _ _ h => h) (Or.inl ⟨by rfl, ?_⟩) ?_
            rotate_left
            · (intro W _; go_simp; try with_reducible rfl)
            (try simp only [Act.put, List.getElem_toArray, List.getElem_cons_zero, List.getElem_cons_succ, List.setIfInBounds_toArray, List.set_cons_zero, List.set_cons_succ])
            refine wpAnyX_pure (i := 15) (v := ?_) rfl (by kernel_rfl) (by kernel_rfl) (by kernel_rfl) (fun _ _ _ h => h) (Or.inl ⟨by rfl, ?_⟩) ?_
            rotate_left
            · (intro W _; go_simp; try with_reducible rfl)
            (try simp only [Act.put, List.getElem_toArray, List.getElem_cons_zero, List.getElem_cons_succ, List.setIfInBounds_toArray, List.set_cons_zero, List.set_cons_succ])
            refine wpAnyX_done (by kernel_rfl) ?_ _
            have HBF := Lib.hid (bt HBW.out hbf)
            clear hbf
            go_wp2
            go_roundw
            case rel => exact ⟨q + 1, by go_num, by omega, by omega, by rw [HPN.out]; rfl, by rw [HCN.out]; rfl, HBF⟩
            case measure => simp [intOf]; omega
          case false.true =>
            go_wp2
            go_quiet ((go_at_call 47; exact Calls.quiet_of (HHP.out _)))
            go_wp2
            go_quiet (fail)
            go_wp2
            go_roundw
            case rel => exact ⟨q + 1, by go_num, by omega, by omega, by rw [HPN.out]; rfl, by rw [HCN.out]; rfl, Lib.hid (bt HBW.out (by first | exact below_drewN (Below.refl _ _) _ | exact below_drewN (below_drewN (Below.refl _ _) _) _))⟩
            case measure => simp [intOf]; omega
          case true.true =>
            go_wp2
            go_quiet (fail)
            go_wp2
            go_quiet (fail)
            go_wp2
            go_roundw
            case rel => exact ⟨q + 1, by go_num, by omega, by omega, by rw [HPN.out]; rfl, by rw [HCN.out]; rfl, Lib.hid (bt HBW.out (by first | exact below_drewN (Below.refl _ _) _ | exact below_drewN (below_drewN (Below.refl _ _) _) _))⟩
            case measure => simp [intOf]; omega
        · obtain rfl : q = n := by omega
          obtain ⟨x, hx⟩ : ∃ x, x = pfB ts p q := ⟨_, rfl⟩
          obtain ⟨y, hy⟩ : ∃ y, y = clB ts p q := ⟨_, rfl⟩
          rw [← hx, ← hy]
          have HXX := Lib.hid hx
          have HYY := Lib.hid hy
          clear hx hy
          cases x
          case true =>
            go_wp2
            go_ret
            exact ⟨7, rfl, Lib.hid (fun h => absurd h (by decide)), bt HB0.out HBW.out⟩
          case false =>
            cases y
            case true =>
              go_wp2
              go_ret
              exact ⟨13, rfl, Lib.hid (fun h => absurd h (by decide)), bt HB0.out HBW.out⟩
            case false =>
              have HP2 := Lib.hid (show ∀ a b, a < b → b < q → a < p + 1 → ¬ cmn (tIn ts b) (tIn ts a) = (tIn ts a).length ∧ ∀ j, j < cmn (tIn ts a) (tIn ts b) → (tOut ts a).getD j 0 = (tOut ts b).getD j 0 from fun a b h1 h2 h3 => by
                rcases Nat.lt_or_ge a p with h4 | h4
                · exact HP.out a b h1 h2 h4
                · obtain rfl : a = p := by omega
                  exact ⟨pfB_no HXX.out.symm h1 h2, clB_no HYY.out.symm h1 h2⟩)
              go_wp2
              go_roundw
              case rel => exact ⟨p + 1, by go_num, by omega, HP2, HBW⟩
              case measure => simp [intOf]; omega
    · obtain rfl : p = n := by omega
      go_wp2
      go_ret
      exact ⟨0, rfl, Lib.hid (fun _ a b h1 h2 => HP.out a b h1 (by rw [← HLT.out]; exact h2) (by rw [← HLT.out]; omega)), bt HB0.out HBR.out⟩
end Go.Proofs.Ytaiifmckmjlgjaa
end

section
/- The reference of observe: Valid. -/
namespace Go.Proofs.Ytaiifmckmjlgjaa
open Go.RowKit

/-- What valid observations are. -/
def ObsV (i : Int) (ts : TSr) : Prop := Srt ts ∧ Full ts ∧ Cons ts ∧ Props i ts ∧ Pw ts ∧ (∀ j, j < ts.length → 0 < (tIn ts j).length) ∧ 1 ≤ i ∧ i ≤ 64 ∧ ts.length ≤ 10000
theorem srt_adj {ts : TSr} (h : ∀ j, j + 1 < ts.length → shlex (tIn ts j) (tIn ts (j + 1)) < 0) : Srt ts := fun a b hab hb => by
  induction b with
  | zero => omega
  | succ b ih =>
    have h1 := h b hb
    rcases Nat.lt_or_ge a b with h2 | h2
    · have h3 := ih h2 (by omega)
      exact (shlex_trans _ (tIn ts b) _).2 h3 (by omega)
    · rw [show a = b by omega]; exact h1

set_option linter.unusedSimpArgs false in
set_option linter.unusedVariables false in
set_option maxHeartbeats 8000000 in
set_option maxRecDepth 100000 in
theorem rvalid16 (i : Int) (T : Option Addr) (n c : Nat) (ts : TSr) (w : World) (hT : Trs w T n ts) :
    Calls Try.prog 13 #[.agg #[.int .i64 i, .slice T n c]] w fun e w' => ∃ v : Int, e = .returned (.int .i64 v) ∧ Hid (v = 0 → ObsV i ts) ∧ Below w.heap.size w w' := by
  obtain ⟨w0, hw0⟩ : ∃ w0, w0 = w.alloc (.cells #[.int .i64 i, .slice T n c] 34) := ⟨_, rfl⟩
  have hb0 : Below w.heap.size w w0 := by rw [hw0]; exact alloc_below _ _
  have m0 : Bx w0 w.heap.size #[.int .i64 i, .slice T n c] 34 := by rw [hw0]; exact bx_new _ _ _
  have HM := Lib.hid (fun (W : World) (h : Below w0.heap.size w0 W) => m0.on h)
  have HT := Lib.hid (fun (W : World) (h : Below w0.heap.size w0 W) => (hT.below hb0).below h)
  have HB0 := Lib.hid hb0
  have HW0 := Lib.hid hw0
  have HLT := Lib.hid hT.1
  have hn := hT.2.1
  have k0 := m0.cell 0
  have k1 := m0.cell 1
  simp at k0 k1
  rw [hw0] at k0 k1
  clear hw0 hb0 m0 hT
  by_cases hi1 : i < 1
  · go_enter Try.func13, Try.ntmps13
    go_wp2
    rw [← HW0.out]
    go_ret
    exact ⟨2, rfl, Lib.hid (fun h => absurd h (by decide)), HB0.out⟩
  by_cases hi2 : 64 < i
  · go_enter Try.func13, Try.ntmps13
    go_wp2
    rw [← HW0.out]
    go_ret
    exact ⟨2, rfl, Lib.hid (fun h => absurd h (by decide)), HB0.out⟩
  by_cases hbig : 10000 < n
  · have hbI : (10000 : Int) < (n : Int) := by omega
    go_enter Try.func13, Try.ntmps13
    go_wp2
    rw [← HW0.out]
    go_ret
    exact ⟨11, rfl, Lib.hid (fun h => absurd h (by decide)), HB0.out⟩
  have hbI : ¬ (10000 : Int) < (n : Int) := by omega
  go_enter Try.func13, Try.ntmps13
  go_wp2
  rw [← HW0.out]
  clear k0 k1
  go_loopw [3] (fun v3 wr => ∃ k : Nat, v3 = .int .i64 k ∧ k ≤ n ∧ Hid (∀ j, j < k → prpE (tIn ts j) (tOut ts j) i = 0 ∧ 0 < (tIn ts j).length ∧ (0 < j → shlex (tIn ts (j - 1)) (tIn ts j) < 0)) ∧ Hid (Below w0.heap.size w0 wr)) (fun v3 _ => n - (intOf v3).toNat)
  case atStart => exact ⟨0, rfl, Nat.zero_le _, Lib.hid (fun j h => absurd h (Nat.not_lt_zero j)), Lib.hid (Below.refl _ _)⟩
  case round =>
    obtain ⟨k, rfl, hk, HP, HBR⟩ := hrel
    by_cases hlt : k < n
    · obtain ⟨b, off, A1, n1, c1, A2, n2, c2, rfl, hgb, j1, j2, _, _, j3, j4⟩ := (HT.out _ HBR.out).at_ hlt
      obtain ⟨wa, hwa⟩ : ∃ wa, wa = wr.alloc (.cells #[.slice A1 n1 c1, .slice A2 n2 c2] 56) := ⟨_, rfl⟩
      have hal : Below wr.heap.size wr wa := by rw [hwa]; exact alloc_below _ _
      have hbx : Bx wa wr.heap.size #[.slice A1 n1 c1, .slice A2 n2 c2] 56 := by rw [hwa]; exact bx_new _ _ _
      have z1 := (HM.out _ HBR.out).cell 1
      have k0 := (HM.out _ (bt HBR.out hal)).cell 0
      have k1 := (HM.out _ (bt HBR.out hal)).cell 1
      have x0 := hbx.cell 0
      have x1 := hbx.cell 1
      simp at z1 k0 k1 x0 x1
      have HRC := Lib.hid (rcheck A1 n1 c1 i (tIn ts k) wa (j3.below hal))
      have HRP := Lib.hid (rproper A1 A2 n1 c1 n2 c2 i (tIn ts k) (tOut ts k) wa (j3.below hal) (j4.below hal))
      have HWA := Lib.hid hwa
      have HBA := Lib.hid (bt HBR.out hal)
      have HBX := Lib.hid hbx
      have HL1 := Lib.hid j3.1
      rw [hwa] at k0 k1 x0 x1
      clear hwa hal hbx j3 j4 hgb
      by_cases hc : chk (tIn ts k) i = 0
      case neg =>
        obtain ⟨E, hE⟩ : ∃ E, E = chk (tIn ts k) i := ⟨_, rfl⟩
        rw [← hE] at HRC hc
        have hne : (E != 0) = true := by simpa using hc
        have HNE := Lib.hid hc
        clear hE hc
        go_wp2_with fail
        rw [← HWA.out]
        refine HRC.out.mono ?_
        rintro r w1 ⟨rfl, rfl⟩
        go_wp2
        go_ret
        exact ⟨E, rfl, Lib.hid (fun h => absurd h HNE.out), bt HB0.out HBA.out⟩
      rw [hc] at HRC
      by_cases h0 : n1 = 0
      · subst h0
        clear hc
        go_wp2_with fail
        rw [← HWA.out]
        refine HRC.out.mono ?_
        rintro r w1 ⟨rfl, rfl⟩
        rw [← HWA.out] at k0 k1 x0 x1
        go_wp2
        go_ret
        exact ⟨19, rfl, Lib.hid (fun h => absurd h (by decide)), bt HB0.out HBA.out⟩
      have h0f : ((n1 : Int) == 0) = false := by rw [beq_eq_false_iff_ne]; omega
      by_cases hp : prpE (tIn ts k) (tOut ts k) i = 0
      case neg =>
        obtain ⟨E, hE⟩ : ∃ E, E = prpE (tIn ts k) (tOut ts k) i := ⟨_, rfl⟩
        rw [← hE] at HRP hp
        have hne : (E != 0) = true := by simpa using hp
        have HNE := Lib.hid hp
        clear hE hp hc
        go_wp2_with fail
        rw [← HWA.out]
        refine HRC.out.mono ?_
        rintro r w1 ⟨rfl, rfl⟩
        rw [← HWA.out] at k0 k1 x0 x1
        go_wp2_with fail
        refine HRP.out.mono ?_
        rintro r w2 ⟨rfl, a2⟩
        clear k0 k1 x0 x1
        have HB2 := Lib.hid (bt HBA.out a2)
        clear a2
        go_wp2
        go_ret
        exact ⟨E, rfl, Lib.hid (fun h => absurd h HNE.out), bt HB0.out HB2.out⟩
      rw [hp] at HRP
      have HPP := Lib.hid hp
      clear hp hc
      by_cases hk0 : k = 0
      · have hkz : ¬ 0 < k := by omega
        have HK0 := Lib.hid hk0
        clear hk0
        go_wp2_with fail
        rw [← HWA.out]
        refine HRC.out.mono ?_
        rintro r w1 ⟨rfl, rfl⟩
        rw [← HWA.out] at k0 k1 x0 x1
        go_wp2_with fail
        refine HRP.out.mono ?_
        rintro r w2 ⟨rfl, a2⟩
        clear k0 k1 x0 x1
        have HB2 := Lib.hid (bt HBA.out a2)
        have HP2 := Lib.hid (show ∀ j, j < k + 1 → prpE (tIn ts j) (tOut ts j) i = 0 ∧ 0 < (tIn ts j).length ∧ (0 < j → shlex (tIn ts (j - 1)) (tIn ts j) < 0) from fun j hj => by
          have hk0 := HK0.out
          obtain rfl : j = k := by omega
          exact ⟨HPP.out, by rw [HL1.out]; omega, fun h => absurd h (by omega)⟩)
        clear a2
        go_wp2
        go_quiet (fail)
        go_wp2
        go_roundw
        case rel => exact ⟨k + 1, by go_num, by omega, HP2, Lib.hid (below_drewN HB2.out _)⟩
        case measure => simp [intOf]; omega
      · obtain ⟨kp, hkp⟩ : ∃ kp, k = kp + 1 := ⟨k - 1, by omega⟩
        have hkpos : 0 < k := by omega
        have hw1 : IntKind.i64.wrap ((k : Int) - 1) = (kp : Int) := by rw [IntKind.wrap_i64]; omega
        have hkI : (kp : Int) < (n : Int) := by omega
        have hk0I : (0 : Int) ≤ (kp : Int) := by omega
        have HKP := Lib.hid hkp
        have hkpn : kp < n := by omega
        clear hkp
        go_wp2_with fail
        rw [← HWA.out]
        refine HRC.out.mono ?_
        rintro r w1 ⟨rfl, rfl⟩
        rw [← HWA.out] at k0 k1 x0 x1
        go_wp2_with fail
        refine HRP.out.mono ?_
        rintro r w2 ⟨rfl, a2⟩
        have hb2 := bt HBA.out a2
        clear k0 k1 x0 x1 z1
        have k1 := (HM.out _ hb2).cell 1
        have x0 := (HBX.out.on a2).cell 0
        simp at k1 x0
        obtain ⟨_, _, B1, m1, d1, B2, m2, d2, eT, _, i1, _, _, _, i3, _⟩ := (HT.out _ hb2).at_ hkpn
        cases eT
        obtain ⟨_, _, D1, p1, f1, D2, p2, f2, eT, _, g1, _, _, _, g3, _⟩ := (HT.out _ hb2).at_ hlt
        cases eT
        have e1 : (Value.slice A1 n1 c1) = .slice D1 p1 f1 := by
          have hgw : b < w0.heap.size := by
            obtain ⟨_, _, _, _, _, _, _, _, eQ, hq, _⟩ := (HT.out _ (Below.refl _ _)).at_ hlt
            cases eQ
            exact hq
          have h5 := hb2.cell (p := ⟨b, off + k * 2, none⟩) hgw
          have h6 := HBR.out.cell (p := ⟨b, off + k * 2, none⟩) hgw
          have h7 := h5.trans (h6.symm.trans j1)
          rw [g1] at h7
          cases h7
          rfl
        cases e1
        have HCP := Lib.hid (fun u => rcompare B1 A1 m1 d1 n1 c1 (tIn ts kp) (tIn ts k) (w2.drewN u) (i3.drewN u) (g3.drewN u))
        have HB2 := Lib.hid hb2
        clear a2 hb2 i3 g3 g1
        obtain ⟨s, hs⟩ : ∃ s, s = shlex (tIn ts kp) (tIn ts k) := ⟨_, rfl⟩
        rw [← hs] at HCP
        have HSS := Lib.hid hs
        clear hs
        by_cases hsn : 0 ≤ s
        · go_wp2
          go_quiet ((go_at_call 37; exact Calls.quiet_of (HCP.out _)))
          go_wp2
          go_ret
          exact ⟨10, rfl, Lib.hid (fun h => absurd h (by decide)), bt HB0.out (below_drewN HB2.out _)⟩
        · have HP2 := Lib.hid (show ∀ j, j < k + 1 → prpE (tIn ts j) (tOut ts j) i = 0 ∧ 0 < (tIn ts j).length ∧ (0 < j → shlex (tIn ts (j - 1)) (tIn ts j) < 0) from fun j hj => by
            rcases Nat.lt_or_ge j k with h | h
            · exact HP.out j h
            · obtain rfl : j = k := by omega
              refine ⟨HPP.out, by rw [HL1.out]; omega, fun _ => ?_⟩
              rw [show j - 1 = kp by have := HKP.out; omega, ← HSS.out]
              omega)
          go_wp2
          go_quiet ((go_at_call 37; exact Calls.quiet_of (HCP.out _)))
          go_wp2
          go_roundw
          case rel => exact ⟨k + 1, by go_num, by omega, HP2, Lib.hid (below_drewN HB2.out _)⟩
          case measure => simp [intOf]; omega
    · obtain rfl : k = n := by omega
      have HPR := Lib.hid (show Props i ts from fun j hj => (HP.out j (by rw [← HLT.out]; exact hj)).1)
      have HFU := Lib.hid (show Full ts from fun j hj => (prp_zero (HPR.out j hj)).2.1)
      have HRA := Lib.hid (rapart16 i T k c ts wr (HT.out _ HBR.out) HFU.out)
      have k0 := (HM.out _ HBR.out).cell 0
      have k1 := (HM.out _ HBR.out).cell 1
      simp at k0 k1
      go_wp2_with fail
      refine HRA.out.mono ?_
      rintro r w2 ⟨v, rfl, hv, a2⟩
      have HB2 := Lib.hid (bt HBR.out a2)
      clear a2 k0 k1
      go_wp2
      go_ret
      refine ⟨v, rfl, Lib.hid (fun h => ?_), bt HB0.out HB2.out⟩
      have hpw := hv.out h
      refine ⟨srt_adj fun j hj => ?_, HFU.out, hpw.cons, HPR.out, hpw, fun j hj => (HP.out j (by rw [← HLT.out]; exact hj)).2.1, by omega, by omega, by rw [HLT.out]; omega⟩
      have := (HP.out (j + 1) (by rw [← HLT.out]; exact hj)).2.2 (by omega)
      rwa [show j + 1 - 1 = j by omega] at this
end Go.Proofs.Ytaiifmckmjlgjaa
end

section
/- Refuted, the reference. -/
namespace Go.Proofs.Ytaiifmckmjlgjaa
open Go.RowKit

/-- The first word so far, and whether there is one. -/
def FirstF (w : World) (v b : Value) (xs : List Int) : Prop := (v = .slice none 0 0 ∧ b = .bool false ∧ xs = []) ∨ (∃ (A : Option Addr) (n c : Nat), v = .slice A n c ∧ b = .bool true ∧ Ints w A n xs ∧ ¬ xs = [])
theorem FirstF.below {w w' : World} {v b : Value} {xs : List Int} (h : FirstF w v b xs) (hb : Below w.heap.size w w') : FirstF w' v b xs := by
  rcases h with h | ⟨A, n, c, h1, h2, h3, h4⟩
  · exact .inl h
  · exact .inr ⟨A, n, c, h1, h2, h3.below hb, h4⟩

set_option linter.unusedSimpArgs false in
set_option linter.unusedVariables false in
set_option maxHeartbeats 4000000 in
set_option maxRecDepth 100000 in
theorem rhrefuted_no (i st o : Int) (A B C T : Option Addr) (n c m d k e tn tc : Nat) (w : World) (hio : ¬ i = o) :
    Calls Try.prog 17 #[.agg #[.int .i64 i, .int .i64 st, .slice A n c, .slice B m d, .slice C k e], .agg #[.int .i64 o, .slice T tn tc]] w fun r w' => r = .returned (.tuple #[.slice none 0 0, .bool false, .int .i64 15]) ∧ Below w.heap.size w w' := by
  obtain ⟨hb0, m1, m2, hs0⟩ := bxs2 w #[.int .i64 i, .int .i64 st, .slice A n c, .slice B m d, .slice C k e] #[.int .i64 o, .slice T tn tc] 26 34 _ rfl
  have HB := Lib.hid hb0
  have k0 := m1.cell 0
  have l0 := m2.cell 0
  simp at k0 l0
  have hne : (i != o) = true := by rw [bne_iff_ne]; exact hio
  clear hb0 m1 m2 hs0
  go_enter Try.func17, Try.ntmps17
  go_wp2
  go_ret3
  exact ⟨rfl, HB.out⟩

set_option linter.unusedSimpArgs false in
set_option linter.unusedVariables false in
set_option maxHeartbeats 8000000 in
set_option maxRecDepth 100000 in
theorem rhrefuted (i st n : Nat) (A B C T : Option Addr) (c d k e tn tc : Nat) (nx ot : List (List Int)) (ts : List (List Int × List Int)) (w : World) (hx : Lists w A n nx) (ho : Lists w B n ot) (hM : Mok i st n nx ot) (hT : Trs w T tn ts) (hI : Props i ts) (htn : tn ≤ 10000) :
    Calls Try.prog 17 #[.agg #[.int .i64 i, .int .i64 st, .slice A n c, .slice B n d, .slice C k e], .agg #[.int .i64 i, .slice T tn tc]] w fun r w' => Ref3 (Rf nx ot st ts tn) w r w' := by
  obtain ⟨w0, hw0⟩ : ∃ w0, w0 = (w.alloc (.cells #[.int .i64 i, .int .i64 st, .slice A n c, .slice B n d, .slice C k e] 26)).alloc (.cells #[.int .i64 i, .slice T tn tc] 34) := ⟨_, rfl⟩
  obtain ⟨hb0, m1, m2, hs0⟩ := bxs2 w #[.int .i64 i, .int .i64 st, .slice A n c, .slice B n d, .slice C k e] #[.int .i64 i, .slice T tn tc] 26 34 w0 hw0
  have HM1 := Lib.hid (fun (W : World) (h : Below w0.heap.size w0 W) => m1.on h)
  have HM2 := Lib.hid (fun (W : World) (h : Below w0.heap.size w0 W) => m2.on h)
  have HX := Lib.hid (fun (W : World) (h : Below w0.heap.size w0 W) => (hx.below hb0).below h)
  have HO := Lib.hid (fun (W : World) (h : Below w0.heap.size w0 W) => (ho.below hb0).below h)
  have HT := Lib.hid (fun (W : World) (h : Below w0.heap.size w0 W) => (hT.below hb0).below h)
  have HB0 := Lib.hid hb0
  have HW0 := Lib.hid hw0
  have HLT := Lib.hid hT.1
  have HMOK := Lib.hid hM
  have HII := Lib.hid hI
  have k0 := m1.cell 0
  have l0 := m2.cell 0
  simp at k0 l0
  rw [hw0] at k0 l0
  have hne : ((i : Int) != (i : Int)) = false := by simp
  clear hw0 hb0 m1 m2 hs0 hx ho hT hM hI
  go_enter Try.func17, Try.ntmps17
  go_wp2_with fail
  rw [← HW0.out]
  clear k0 l0
  go_loopw [9, 7, 8] (fun v9 v7 v8 wr => ∃ (p : Nat) (xs : List Int), v9 = .int .i64 p ∧ p ≤ tn ∧ Hid (FirstF wr v7 v8 xs) ∧ Hid (Fst1 (Rf nx ot st ts p) xs) ∧ Hid (Below w0.heap.size w0 wr)) (fun v9 _ _ _ => tn - (intOf v9).toNat)
  case atStart => exact ⟨0, [], rfl, Nat.zero_le _, Lib.hid (.inl ⟨rfl, rfl, rfl⟩), Lib.hid (Rf.zero _ _ _ _), Lib.hid (Below.refl _ _)⟩
  case round =>
    obtain ⟨p, xs, rfl, hp, HV, HFS, HBW⟩ := hrel
    have l1 := (HM2.out _ HBW.out).cell 1
    simp at l1
    by_cases hlt : p < tn
    · obtain ⟨b, off, A1, n1, c1, A2, n2, c2, rfl, hgb, j1, j2, q1, q2, j3, j4⟩ := (HT.out _ HBW.out).at_ hlt
      obtain ⟨wa, hwa⟩ : ∃ wa, wa = wr.alloc (.cells #[.slice A1 n1 c1, .slice A2 n2 c2] 56) := ⟨_, rfl⟩
      have hal : Below wr.heap.size wr wa := by rw [hwa]; exact alloc_below _ _
      have hbx : Bx wa wr.heap.size #[.slice A1 n1 c1, .slice A2 n2 c2] 56 := by rw [hwa]; exact bx_new _ _ _
      have hba := bt HBW.out hal
      have k0 := (HM1.out _ hba).cell 0
      have k1 := (HM1.out _ hba).cell 1
      have k2 := (HM1.out _ hba).cell 2
      have k3 := (HM1.out _ hba).cell 3
      have x0 := hbx.cell 0
      simp at k0 k1 k2 k3 x0
      have hprp := prp_zero (HII.out p (by rw [HLT.out]; exact hlt))
      have hsy := (chk_zero hprp.1).2.2.2.mem
      have HRO := Lib.hid (routs i st n A B A1 c d n1 c1 st nx ot (tIn ts p) wa HMOK.out (HX.out _ hba) (HO.out _ hba) HMOK.out.st (j3.below hal) hsy)
      have hl1 := j3.1
      have hch := (chk_zero hprp.1).2.2.1
      have HL1 := Lib.hid hl1
      have hn12 : n2 = n1 := by rw [← j4.1, ← j3.1]; exact hprp.2.1
      subst hn12
      have hrl : (runO nx ot st (tIn ts p)).length = n2 := by rw [runO_len]; exact hl1
      have hKle : dfN nx ot st ts p ≤ n2 := by unfold dfN; have := cmn_le_left (runO nx ot st (tIn ts p)) (tOut ts p); omega
      obtain ⟨K, hK⟩ : ∃ K, K = dfN nx ot st ts p := ⟨_, rfl⟩
      rw [← hK] at hKle
      have HK := Lib.hid hK
      have HBX := Lib.hid hbx
      have HWA := Lib.hid hwa
      have HJ3 := Lib.hid (j3.below hal)
      have HJ4 := Lib.hid (j4.below hal)
      have HBA := Lib.hid hba
      have HVA := Lib.hid (HV.out.below hal)
      have HRL := Lib.hid hrl
      have hn2b : n2 ≤ 1024 := by omega
      rw [hwa] at k0 k1 k2 k3 x0
      clear hwa hal hbx hba hprp hsy j3 j4 hgb hl1 hrl hch hK
      go_wp2_with fail
      rw [← HWA.out]
      refine HRO.out.mono ?_
      rintro r w2 ⟨A3, c3, rfl, o3, a2⟩
      have hoi := o3.ints (by rw [HRL.out]; omega)
      have HCM := Lib.hid (rcommon A3 A2 n2 c3 n2 c2 _ _ w2 hoi (HJ4.out.below a2))
      rw [show cmn (runO nx ot st (tIn ts p)) (tOut ts p) = K from HK.out.symm] at HCM
      have hb2 := bt HBA.out a2
      have x0 := (HBX.out.on a2).cell 0
      have x1 := (HBX.out.on a2).cell 1
      simp at x0 x1
      have HB2 := Lib.hid hb2
      have HV2 := Lib.hid (HVA.out.below a2)
      have HJ2 := Lib.hid (HJ3.out.below a2)
      clear k0 k1 k2 k3 o3 hoi hb2 a2
      by_cases hd : K < n2
      · have HYS := Lib.hid (rf_yes (nx := nx) (ot := ot) (st := st) (k := p) (ts := ts) (by rw [← HK.out, HL1.out]; exact hd))
        rw [← HK.out] at HYS
        have HZL := Lib.hid (show ((tIn ts p).take (K + 1)).length = K + 1 by rw [List.length_take, HL1.out]; omega)
        have w1' : IntKind.i64.wrap ((K : Int) + 1) = (K : Int) + 1 := by rw [IntKind.wrap_i64]; omega
        have i1' : (K : Int) + 1 ≤ (c1 : Int) := by omega
        have i2' : (0 : Int) ≤ (K : Int) + 1 := by omega
        have HTK := Lib.hid (HJ2.out.takeX (t := K + 1) (by omega))
        rcases HV2.out with ⟨rfl, rfl, rfl⟩ | ⟨A8, n8, c8, rfl, rfl, hi8, hne8⟩
        · have HX2 := Lib.hid (fst1_new HFS.out (by rw [HZL.out]; exact Nat.succ_pos K) HYS.out (.inl rfl))
          go_wp2_with fail
          refine HCM.out.mono ?_
          rintro r w3 ⟨rfl, q3, rfl⟩
          have HJO := Lib.hid (join_one (c := c1) (HTK.out.drewN q3))
          go_wp2_with fail
          refine HJO.out.mono ?_
          rintro r w4 ⟨A4, c4, rfl, o4, a4⟩
          have HFV := Lib.hid (show FirstF w4 (.slice A4 (K + 1) c4) (.bool true) ((tIn ts p).take (K + 1)) from .inr ⟨A4, K + 1, c4, rfl, rfl, o4.ints (by rw [HZL.out]; omega), fun h => by have := HZL.out; rw [h] at this; simp at this⟩)
          have HB4 := Lib.hid (bt (below_drewN HB2.out q3) a4)
          clear o4 a4
          go_wp2_with fail
          go_roundw
          case rel => exact ⟨p + 1, _, by go_num, by omega, HFV, HX2, HB4⟩
          case measure => simp [intOf]; omega
        · have HI8 := Lib.hid hi8
          have HN8 := Lib.hid hne8
          by_cases hc : shlex ((tIn ts p).take (K + 1)) xs < 0
          · have HX2 := Lib.hid (fst1_new HFS.out (by rw [HZL.out]; exact Nat.succ_pos K) HYS.out (.inr hc))
            obtain ⟨s, hs⟩ : ∃ s, s = shlex ((tIn ts p).take (K + 1)) xs := ⟨_, rfl⟩
            rw [← hs] at hc
            have HS := Lib.hid hs
            clear hs hi8 hne8
            go_wp2_with fail
            refine HCM.out.mono ?_
            rintro r w3 ⟨rfl, q3, rfl⟩
            have HRC := Lib.hid (rcompare A1 A8 (K + 1) c1 n8 c8 _ xs (w2.drewN q3) (HTK.out.drewN q3) (HI8.out.drewN q3))
            rw [← HS.out] at HRC
            go_wp2_with fail
            refine HRC.out.mono ?_
            rintro r w3 ⟨rfl, q4, rfl⟩
            have HJO := Lib.hid (join_one (c := c1) (HTK.out.drewN (q3 + q4)))
            go_wp2_with fail
            refine HJO.out.mono ?_
            rintro r w4 ⟨A4, c4, rfl, o4, a4⟩
            have HFV := Lib.hid (show FirstF w4 (.slice A4 (K + 1) c4) (.bool true) ((tIn ts p).take (K + 1)) from .inr ⟨A4, K + 1, c4, rfl, rfl, o4.ints (by rw [HZL.out]; omega), fun h => by have := HZL.out; rw [h] at this; simp at this⟩)
            have HB4 := Lib.hid (bt (below_drewN HB2.out (q3 + q4)) a4)
            clear o4 a4
            go_wp2_with fail
            go_roundw
            case rel => exact ⟨p + 1, _, by go_num, by omega, HFV, HX2, HB4⟩
            case measure => simp [intOf]; omega
          · have HX2 := Lib.hid (fst1_old HFS.out HYS.out hne8 hc)
            obtain ⟨s, hs⟩ : ∃ s, s = shlex ((tIn ts p).take (K + 1)) xs := ⟨_, rfl⟩
            rw [← hs] at hc
            have HS := Lib.hid hs
            clear hs hi8 hne8
            go_wp2_with fail
            refine HCM.out.mono ?_
            rintro r w3 ⟨rfl, q3, rfl⟩
            have HRC := Lib.hid (rcompare A1 A8 (K + 1) c1 n8 c8 _ xs (w2.drewN q3) (HTK.out.drewN q3) (HI8.out.drewN q3))
            rw [← HS.out] at HRC
            go_wp2_with fail
            refine HRC.out.mono ?_
            rintro r w3 ⟨rfl, q4, rfl⟩
            have HFV := Lib.hid (show FirstF (w2.drewN (q3 + q4)) (.slice A8 n8 c8) (.bool true) xs from .inr ⟨A8, n8, c8, rfl, rfl, HI8.out.drewN (q3 + q4), HN8.out⟩)
            go_wp2_with fail
            go_roundw
            case rel => exact ⟨p + 1, xs, by go_num, by omega, HFV, HX2, Lib.hid (below_drewN HB2.out _)⟩
            case measure => simp [intOf]; omega
      · have HNO := Lib.hid (rf_no (nx := nx) (ot := ot) (st := st) (k := p) (ts := ts) (by rw [← HK.out, HL1.out]; exact hd))
        go_wp2_with fail
        refine HCM.out.mono ?_
        rintro r w3 ⟨rfl, q3, rfl⟩
        go_wp2_with fail
        go_roundw
        case rel => exact ⟨p + 1, xs, by go_num, by omega, Lib.hid (HV2.out.below (below_drewN (Below.refl _ _) q3)), Lib.hid (fst1_skip HFS.out HNO.out), Lib.hid (below_drewN HB2.out q3)⟩
        case measure => simp [intOf]; omega
    · obtain rfl : p = tn := by omega
      rcases HV.out with ⟨rfl, rfl, rfl⟩ | ⟨A8, n8, c8, rfl, rfl, hi8, hne8⟩
      · go_wp2
        go_ret3
        exact ⟨none, 0, 0, [], false, rfl, HFS.out, Ints.none_ _, ⟨(fun h => nomatch h), fun h => absurd rfl h⟩, bt HB0.out HBW.out⟩
      · have HI8 := Lib.hid hi8
        have HN8 := Lib.hid hne8
        clear hi8 hne8
        go_wp2
        go_ret3
        exact ⟨A8, n8, c8, xs, true, rfl, HFS.out, HI8.out, ⟨fun _ => HN8.out, fun _ => rfl⟩, bt HB0.out HBW.out⟩
end Go.Proofs.Ytaiifmckmjlgjaa
end

section
/- The law HypothesisRefuted: the walk. -/
namespace Go.Proofs.Ytaiifmckmjlgjaa
open Go.RowKit

set_option linter.unusedSimpArgs false in
set_option linter.unusedVariables false in
set_option maxHeartbeats 8000000 in
set_option maxRecDepth 100000 in
theorem refuted22_walk (i st o : Int) (A B C T V : Option Addr) (n c m d k e tn tc vn vc : Nat) (nx ot acc : List (List Int)) (ts : TSr) (vs : List Int) (w : World) (hx : Lists w A n nx) (ho : Lists w B m ot) (hC : Lists w C k acc) (hT : Trs w T tn ts) (htc : tn ≤ tc) (hV : Ints w V vn vs) :
    Calls Try.prog 4 #[.agg #[.int .i64 i, .int .i64 st, .slice A n c, .slice B m d, .slice C k e], .agg #[.int .i64 o, .slice T tn tc], .slice V vn vc] w fun r w' => r = .returned (.bool true) ∧ Below w.heap.size w w' := by
  obtain ⟨w0, hw0⟩ : ∃ w0, w0 = (w.alloc (.cells #[.int .i64 i, .int .i64 st, .slice A n c, .slice B m d, .slice C k e] 26)).alloc (.cells #[.int .i64 o, .slice T tn tc] 34) := ⟨_, rfl⟩
  obtain ⟨hb0, m1, m2, hs0⟩ := bxs2 w #[.int .i64 i, .int .i64 st, .slice A n c, .slice B m d, .slice C k e] #[.int .i64 o, .slice T tn tc] 26 34 w0 hw0
  have HM1 := Lib.hid (fun (W : World) (h : Below w0.heap.size w0 W) => m1.on h)
  have HM2 := Lib.hid (fun (W : World) (h : Below w0.heap.size w0 W) => m2.on h)
  have HX := Lib.hid (fun (W : World) (h : Below w0.heap.size w0 W) => (hx.below hb0).below h)
  have HO := Lib.hid (fun (W : World) (h : Below w0.heap.size w0 W) => (ho.below hb0).below h)
  have HC := Lib.hid (fun (W : World) (h : Below w0.heap.size w0 W) => (hC.below hb0).below h)
  have HT := Lib.hid (fun (W : World) (h : Below w0.heap.size w0 W) => (hT.below hb0).below h)
  have HV := Lib.hid (fun (W : World) (h : Below w0.heap.size w0 W) => (hV.below hb0).below h)
  have HB0 := Lib.hid hb0
  have HW0 := Lib.hid hw0
  have HLX := Lib.hid hx.1
  have HLO := Lib.hid ho.1
  have HLC := Lib.hid hC.1
  have HLT := Lib.hid hT.1
  have hbc := Below.refl w0.heap.size w0
  have k0 := (HM1.out _ hbc).cell 0
  have k1 := (HM1.out _ hbc).cell 1
  have k2 := (HM1.out _ hbc).cell 2
  have k3 := (HM1.out _ hbc).cell 3
  have k4 := (HM1.out _ hbc).cell 4
  simp at k0 k1 k2 k3 k4
  have l0 := (HM2.out _ hbc).cell 0
  have l1 := (HM2.out _ hbc).cell 1
  simp at l0 l1
  rw [HW0.out] at k0 k1 k2 k3 k4 l0 l1
  clear hw0 hb0 m1 m2 hs0 hx ho hC hT hV
  go_enter Try.func4, Try.ntmps4
  go_wp2_with fail
  rw [← HW0.out]
  refine (rgreat22 i st A B C n c m d k e acc w0 (HC.out _ hbc)).mono ?_
  rintro r w1 ⟨b1, rfl, _, a1⟩
  have hbc := bt hbc a1
  clear a1 k0 k1 k2 k3 k4 l0 l1
  cases b1
  case true =>
    go_wp2_with fail
    refine (awake22 _).mono ?_
    rintro r w9 ⟨rfl, a9⟩
    go_wp2
    go_ret
    exact ⟨rfl, bt HB0.out (bt hbc a9)⟩
  have l0 := (HM2.out _ hbc).cell 0
  have l1 := (HM2.out _ hbc).cell 1
  simp at l0 l1
  go_wp2_with fail
  refine (rgreat16 o T tn tc ts w1 (HT.out _ hbc)).mono ?_
  rintro r w2 ⟨b2, rfl, hg2, a2⟩
  have hbc := bt hbc a2
  clear a2 l0 l1
  cases b2
  case true =>
    go_wp2_with fail
    refine (awake22 _).mono ?_
    rintro r w9 ⟨rfl, a9⟩
    go_wp2
    go_ret
    exact ⟨rfl, bt HB0.out (bt hbc a9)⟩
  have hg2 := hg2 rfl
  have htn : tn ≤ 10000 := by omega
  clear hg2
  have k0 := (HM1.out _ hbc).cell 0
  have k1 := (HM1.out _ hbc).cell 1
  have k2 := (HM1.out _ hbc).cell 2
  have k3 := (HM1.out _ hbc).cell 3
  have k4 := (HM1.out _ hbc).cell 4
  simp at k0 k1 k2 k3 k4
  go_wp2_with fail
  refine (rhvalid i st A B C n c m d k e nx ot acc w2 (HX.out _ hbc) (HO.out _ hbc) (HC.out _ hbc)).mono ?_
  rintro r w3 ⟨rfl, a3⟩
  have hbc := bt hbc a3
  clear a3 k0 k1 k2 k3 k4
  by_cases hv : hvE i st nx ot acc = 0
  case neg =>
    obtain ⟨E, hE⟩ : ∃ E, E = hvE i st nx ot acc := ⟨_, rfl⟩
    rw [← hE] at hv ⊢
    have hne : (E != 0) = true := by simpa using hv
    clear hE
    go_wp2_with fail
    refine (awake22 _).mono ?_
    rintro r w9 ⟨rfl, a9⟩
    go_wp2
    go_ret
    exact ⟨rfl, bt HB0.out (bt hbc a9)⟩
  rw [hv]
  have l0 := (HM2.out _ hbc).cell 0
  have l1 := (HM2.out _ hbc).cell 1
  simp at l0 l1
  go_wp2_with fail
  refine (rvalid16 o T tn tc ts w3 (HT.out _ hbc)).mono ?_
  rintro r w4 ⟨v, rfl, hov, a4⟩
  have hbc := bt hbc a4
  clear a4 l0 l1
  by_cases hv0 : v = 0
  case neg =>
    have hne : (v != 0) = true := by simpa using hv0
    go_wp2_with fail
    refine (awake22 _).mono ?_
    rintro r w9 ⟨rfl, a9⟩
    go_wp2
    go_ret
    exact ⟨rfl, bt HB0.out (bt hbc a9)⟩
  subst hv0
  have hov := hov.out rfl
  obtain ⟨hvl, hal, _, _⟩ := hvE_zero hv
  obtain ⟨i, st, n', rfl, rfl, hMok⟩ := vld_zero hvl
  obtain rfl : n' = n := by rw [← HLX.out]; exact hMok.nxl.symm
  obtain rfl : m = n' := by rw [← HLO.out]; exact hMok.otl
  obtain rfl : k = m := by rw [← HLC.out, hal, HLX.out]
  have HOV := Lib.hid hov
  have HMOK := Lib.hid hMok
  clear hvl hal hv hov hMok
  have k0 := (HM1.out _ hbc).cell 0
  have k1 := (HM1.out _ hbc).cell 1
  have k2 := (HM1.out _ hbc).cell 2
  have k3 := (HM1.out _ hbc).cell 3
  have k4 := (HM1.out _ hbc).cell 4
  simp at k0 k1 k2 k3 k4
  go_wp2_with fail
  refine (phstate i st k A B C V c d e vn vc nx ot acc vs w4 (HX.out _ hbc) (HO.out _ hbc) (HC.out _ hbc) (HV.out _ hbc) HMOK.out).mono ?_
  rintro r w5 ⟨A5, c5, rfl, o5, a5⟩
  have hbc := bt hbc a5
  have hlen : (stW i st nx acc vs).length ≤ 17592186044416 := by
    unfold stW
    split
    · next h =>
      obtain ⟨_, _, _, _, _, _, _, _, hI⟩ := (HC.out _ hbc).at_ (HMOK.out.runS_lt vs st HMOK.out.st (chk_zero h).2.2.2.mem)
      rw [hI.1]; exact hI.2.1
    · simp
  obtain ⟨xs, hxs⟩ : ∃ xs, xs = stW i st nx acc vs := ⟨_, rfl⟩
  rw [← hxs] at o5 hlen ⊢
  have HXS := Lib.hid hxs
  obtain ⟨E, hE⟩ : ∃ E, E = chk vs i := ⟨_, rfl⟩
  rw [← hE]
  have HE := Lib.hid hE
  have HI5 := Lib.hid (fun (W : World) (h : Below w5.heap.size w5 W) => (o5.ints hlen).below h)
  clear a5 k0 k1 k2 k3 k4 o5 hxs hE
  have k0 := (HM1.out _ hbc).cell 0
  have k1 := (HM1.out _ hbc).cell 1
  have k2 := (HM1.out _ hbc).cell 2
  have k3 := (HM1.out _ hbc).cell 3
  have k4 := (HM1.out _ hbc).cell 4
  simp at k0 k1 k2 k3 k4
  go_wp2_with fail
  refine (rhstate i st k A B C V c d e vn vc nx ot acc vs w5 (HX.out _ hbc) (HO.out _ hbc) (HC.out _ hbc) (HV.out _ hbc) HMOK.out).mono ?_
  rintro r w6 ⟨A6, c6, rfl, o6, a6⟩
  rw [← HXS.out] at o6 ⊢
  rw [← HE.out]
  have hbc := bt hbc a6
  have HI5 := Lib.hid (fun (W : World) (h : Below w6.heap.size w6 W) => HI5.out W (bt a6 h))
  have HI6 := Lib.hid (fun (W : World) (h : Below w6.heap.size w6 W) => (o6.ints hlen).below h)
  clear a6 k0 k1 k2 k3 k4 o6
  have k0 := (HM1.out _ hbc).cell 0
  have k1 := (HM1.out _ hbc).cell 1
  have k2 := (HM1.out _ hbc).cell 2
  have k3 := (HM1.out _ hbc).cell 3
  have k4 := (HM1.out _ hbc).cell 4
  simp at k0 k1 k2 k3 k4
  have l0 := (HM2.out _ hbc).cell 0
  have l1 := (HM2.out _ hbc).cell 1
  simp at l0 l1
  by_cases hio : (i : Int) = o
  case neg =>
    go_wp2_with fail
    refine (phrefuted_no i st o A B C T k c k d k e tn tc w6 hio).mono ?_
    rintro r w7 ⟨rfl, a7⟩
    have hbc := bt hbc a7
    have hb7 := a7
    clear k0 k1 k2 k3 k4 l0 l1
    have k0 := (HM1.out _ hbc).cell 0
    have k1 := (HM1.out _ hbc).cell 1
    have k2 := (HM1.out _ hbc).cell 2
    have k3 := (HM1.out _ hbc).cell 3
    have k4 := (HM1.out _ hbc).cell 4
    simp at k0 k1 k2 k3 k4
    have l0 := (HM2.out _ hbc).cell 0
    have l1 := (HM2.out _ hbc).cell 1
    simp at l0 l1
    go_wp2_with fail
    refine (rhrefuted_no i st o A B C T k c k d k e tn tc w7 hio).mono ?_
    rintro r w8 ⟨rfl, a8⟩
    have hbc := bt hbc a8
    have hb8 := bt hb7 a8
    clear k0 k1 k2 k3 k4 l0 l1 a7 a8 hb7
    go_wp2_with fail
    refine (rints A5 A6 xs.length c5 xs.length c6 xs xs true _ (HI5.out _ (by first | exact Below.refl _ _ | exact hb8)) (HI6.out _ (by first | exact Below.refl _ _ | exact hb8)) (by simp)).mono ?_
    rintro r w9 ⟨rfl, q9, rfl⟩
    have hbd := below_drewN hbc q9
    clear hbc hb8
    generalize w8.drewN q9 = w10 at hbd ⊢
    go_wp2_with fail
    refine (rints none none 0 0 0 0 [] [] true w10 (Ints.none_ _) (Ints.none_ _) (by simp)).mono ?_
    rintro r w11 ⟨rfl, q11, rfl⟩
    have hbe := below_drewN hbd q11
    clear hbd
    generalize w10.drewN q11 = w12 at hbe ⊢
    go_wp2_with fail
    refine (awake22 _).mono ?_
    rintro r w13 ⟨rfl, a13⟩
    go_wp2
    go_ret
    exact ⟨rfl, bt HB0.out (bt hbe a13)⟩
  subst hio
  go_wp2_with fail
  refine (phrefuted i st k A B C T c d k e tn tc nx ot ts w6 (HX.out _ hbc) (HO.out _ hbc) HMOK.out (HT.out _ hbc) HOV.out.2.1 HOV.out.2.2.2.1 htn).mono ?_
  rintro r w7 ⟨A7, n7, c7, ys, b7, rfl, hf7, hi7, hq7, a7⟩
  have hbc := bt hbc a7
  have hb7 := a7
  have HI7 := Lib.hid (fun (W : World) (h : Below w7.heap.size w7 W) => hi7.below h)
  have HF7 := Lib.hid hf7
  have HQ7 := Lib.hid hq7
  clear k0 k1 k2 k3 k4 l0 l1 hi7 hf7 hq7
  have k0 := (HM1.out _ hbc).cell 0
  have k1 := (HM1.out _ hbc).cell 1
  have k2 := (HM1.out _ hbc).cell 2
  have k3 := (HM1.out _ hbc).cell 3
  have k4 := (HM1.out _ hbc).cell 4
  simp at k0 k1 k2 k3 k4
  have l0 := (HM2.out _ hbc).cell 0
  have l1 := (HM2.out _ hbc).cell 1
  simp at l0 l1
  go_wp2_with fail
  refine (rhrefuted i st k A B C T c d k e tn tc nx ot ts w7 (HX.out _ hbc) (HO.out _ hbc) HMOK.out (HT.out _ hbc) HOV.out.2.2.2.1 htn).mono ?_
  rintro r w8 ⟨A8, n8, c8, zs, b8, rfl, hf8, hi8, hq8, a8⟩
  have hbc := bt hbc a8
  have hb8 := bt hb7 a8
  obtain rfl := HF7.out.uniq hf8
  obtain rfl : b7 = b8 := by rw [Bool.eq_iff_iff, HQ7.out, hq8]
  have hbb : (b7 == b7) = true := by simp
  have HI7 := Lib.hid (fun (W : World) (h : Below w8.heap.size w8 W) => HI7.out W (bt a8 h))
  have HI8 := Lib.hid (fun (W : World) (h : Below w8.heap.size w8 W) => hi8.below h)
  clear k0 k1 k2 k3 k4 l0 l1 a7 a8 hb7 hi8 hf8 hq8
  go_wp2_with fail
  refine (rints A5 A6 xs.length c5 xs.length c6 xs xs true _ (HI5.out _ (by first | exact Below.refl _ _ | exact hb8)) (HI6.out _ (by first | exact Below.refl _ _ | exact hb8)) (by simp)).mono ?_
  rintro r w9 ⟨rfl, q9, rfl⟩
  have hbd := below_drewN hbc q9
  have HI7 := Lib.hid (fun (W : World) (h : Below (w8.drewN q9).heap.size (w8.drewN q9) W) => HI7.out W (bt (below_drewN (Below.refl _ _) q9) h))
  have HI8 := Lib.hid (fun (W : World) (h : Below (w8.drewN q9).heap.size (w8.drewN q9) W) => HI8.out W (bt (below_drewN (Below.refl _ _) q9) h))
  clear hbc hb8
  generalize w8.drewN q9 = w10 at hbd HI7 HI8 ⊢
  go_wp2_with fail
  refine (rints A7 A8 n7 c7 n8 c8 ys ys true w10 (HI7.out _ (Below.refl _ _)) (HI8.out _ (Below.refl _ _)) (by simp)).mono ?_
  rintro r w11 ⟨rfl, q11, rfl⟩
  have hbe := below_drewN hbd q11
  clear hbd
  generalize w10.drewN q11 = w12 at hbe ⊢
  cases b7
  case true =>
    go_wp2_with fail
    refine (awake22 _).mono ?_
    rintro r w13 ⟨rfl, a13⟩
    go_wp2
    go_ret
    exact ⟨rfl, bt HB0.out (bt hbe a13)⟩
  case false =>
    go_wp2_with fail
    refine (awake22 _).mono ?_
    rintro r w13 ⟨rfl, a13⟩
    go_wp2
    go_ret
    exact ⟨rfl, bt HB0.out (bt hbe a13)⟩
end Go.Proofs.Ytaiifmckmjlgjaa
end

section
/- What the rows hand over: traces, observations. -/
namespace Go.Proofs.Ytaiifmckmjlgjaa
open Go.ChangeShapes Go.WideShapes Go.ChangeAt Go.RowKit Go.Joins Go.Deep

theorem arr_2 {α : Type} {cs : Array α} (h : cs.size = 2) : ∃ c0 c1, cs = #[c0, c1] := by
  obtain ⟨l⟩ := cs
  match l, h with
  | [c0, c1], _ => exact ⟨c0, c1, rfl⟩
section
variable {H : Type} {enc : TypeId × Value → H} {w : World} {base : Nat} {held : Bool}
theorem cells_1_1 {P : Program} {t : TypeId} {f0 f1 : Field} {fuel : Nat} {c0 c1 : Value} {x : DataW H × List MemPlace} (hs : P.underlying t = some (.struct #[f0, f1]))
    (hO : [f0.offset, P.cellsOf f0.type, f1.offset, P.cellsOf f1.type] = ([0, 1, 1, 1] : List Nat)) (h : DataW.trod enc P w base (fun _ => true) held fuel t [c0, c1] = some x) :
    ∃ (y0 y1 : DataW H × List MemPlace) (n : Nat), x.1 = .agg [y0.1, y1.1] ∧ DataW.trod enc P w base (fun _ => true) held n f0.type [c0] = some y0 ∧ DataW.trod enc P w base (fun _ => true) held n f1.type [c1] = some y1 := by
  obtain ⟨xs, n, _, rfl, _, hlen, hg⟩ := DataW.trod_struct hs h
  simp only [List.cons.injEq, and_true] at hO
  obtain ⟨o0, k0, o1, k1⟩ := hO
  match xs, hlen, hg with
  | [y0, y1], _, hg =>
    exact ⟨y0, y1, n, rfl, by simpa [o0, k0] using hg 0 f0 rfl, by simpa [o1, k1] using hg 1 f1 rfl⟩

/-- A slice of traces that came in. -/
theorem open_traces (hb3 : Try.prog.bytesOf 3 = 8) (hb4 : Try.prog.bytesOf 56 = 48) {fuel : Nat} {cs : List Value} {x : DataW H × List MemPlace} (h : DataW.trod enc Try.prog w base (fun _ => true) held fuel 32 cs = some x) (hl : Light Try.prog 32 x.1) :
    ∃ A n c ts, cs = [.slice A n c] ∧ n ≤ c ∧ Trs w A n ts := by
  rcases open_slice Try.underlying32 h with ⟨hcs, hx⟩ | ⟨a, l, c, m, fu, D, Pl, hcs, _, hlc, hm, hmm, hx, hcell⟩
  · exact ⟨none, 0, 0, [], hcs, Nat.le_refl _, ⟨rfl, by omega, fun h => absurd h (by omega)⟩⟩
  · simp only [if_true] at hmm
    subst hx
    have each : ∀ i, i < l → ∃ q : (Option Addr × Nat × Nat × List Int) × (Option Addr × Nat × Nat × List Int), w.cell? (a.add (i * 2)) = some (.slice q.1.1 q.1.2.1 q.1.2.2.1) ∧ w.cell? (a.add (i * 2 + 1)) = some (.slice q.2.1 q.2.2.1 q.2.2.2.1) ∧ q.1.2.1 ≤ q.1.2.2.1 ∧ q.2.2.1 ≤ q.2.2.2.1 ∧ Ints w q.1.1 q.1.2.1 q.1.2.2.2 ∧ Ints w q.2.1 q.2.2.1 q.2.2.2.2 := fun i hi => by
      obtain ⟨vs, hv, ht⟩ := hcell i (by omega)
      rw [show Try.prog.cellsOf 56 = 2 from by kernel_rfl] at hv
      obtain ⟨_, hlen, hcl⟩ := World.cells?_some hv
      obtain ⟨v0, v1, rfl⟩ : ∃ v0 v1, vs = [v0, v1] := match vs, hlen with
        | [v0, v1], _ => ⟨v0, v1, rfl⟩
      have g0 := hcl 0 (by omega)
      have g1 := hcl 1 (by omega)
      rw [add_add] at g0 g1
      simp at g0 g1
      obtain ⟨y0, y1, n, hd, h3, h4⟩ := cells_1_1 Try.underlying56 (by kernel_rfl) ht
      dsimp only at hd
      have hw : ∀ n, n ∈ (D i).weights Try.prog 56 → n ≤ reachBytes := fun n hn => hl n (by
        simp only [DataW.weights, Try.underlying32]
        exact List.mem_cons_of_mem _ (List.mem_append_left _ (weightsAll_mem (List.mem_map.2 ⟨i, List.mem_range.2 hi, rfl⟩) hn)))
      rw [hd] at hw
      obtain ⟨A1, n1, c1, z1, e1, q1, i1, _⟩ := open_intsw hb3 h3 (fun n hn => hw n (by simp only [DataW.weights, Try.underlying56]; exact DataW.weights_mem_each (j := 0) rfl rfl n hn))
      obtain ⟨A2, n2, c2, z2, e2, q2, i2, _⟩ := open_intsw hb3 h4 (fun n hn => hw n (by simp only [DataW.weights, Try.underlying56]; exact DataW.weights_mem_each (j := 1) rfl rfl n hn))
      simp only [List.cons.injEq, and_true] at e1 e2
      exact ⟨((A1, n1, c1, z1), (A2, n2, c2, z2)), by rw [g0, e1], by rw [g1, e2], q1, q2, i1, i2⟩
    obtain ⟨q, hq⟩ := choose_lt each
    refine ⟨some a, l, c, (List.range l).map fun i => ((q i).1.2.2.2, (q i).2.2.2.2), hcs, hlc, by simp, ?_, fun h0 => ?_⟩
    · have := hl ((((List.range l).map D).length + ((List.range (m - l)).map fun j => D (l + j)).length) * 48) (by simp [DataW.weights, Try.underlying32, hb4])
      rw [reach_num] at this
      simp only [List.length_map, List.length_range] at this
      omega
    · obtain ⟨b, off, spot⟩ := a
      have hc0 := (hq 0 (by omega)).1
      have hspot : spot = none := by simpa [Addr.add] using World.cell?_spot hc0
      subst hspot
      refine ⟨b, off, rfl, by have := block_lt hc0; simpa [Addr.add] using this, fun j hj => ?_⟩
      obtain ⟨h1, h2, h3, h4, h5, h6⟩ := hq j hj
      rw [add_none] at h1 h2
      have e1 : tIn ((List.range l).map fun i => ((q i).1.2.2.2, (q i).2.2.2.2)) j = (q j).1.2.2.2 := by simp [tIn, List.getD, hj]
      have e2 : tOut ((List.range l).map fun i => ((q i).1.2.2.2, (q i).2.2.2.2)) j = (q j).2.2.2.2 := by simp [tOut, List.getD, hj]
      exact ⟨_, _, _, _, _, _, h1, h2, h3, h4, by rw [e1]; exact h5, by rw [e2]; exact h6⟩

set_option maxRecDepth 100000 in
theorem open_obs {r : Reach} {b0 : Nat} {v : Value} {d : DataW H} {p : List MemPlace} (hv : Value.okWide Try.prog w r b0 34 v) (h : DataW.Trod enc Try.prog w base (fun _ => true) held 34 v d p) (hl : Light Try.prog 34 d) :
    ∃ (a1 : Int) (A2 : Option Addr) (n2 : Nat) (m2 : Nat) (z2 : List (List Int × List Int)), v = .agg #[.int .i64 a1, .slice A2 n2 m2] ∧ (Lit.int .i64 a1).wf = true ∧ n2 ≤ m2 ∧ Trs w A2 n2 z2 := by
  obtain ⟨cs, rfl, hsz⟩ := okWide_struct Try.underlying34 hv
  obtain ⟨c0, c1, rfl⟩ := arr_2 (hsz.trans (by kernel_rfl : Try.prog.cellsOf 34 = 2))
  obtain ⟨fuel, hf⟩ := h
  simp only [Value.cells] at hf
  obtain ⟨uy0, uy1, un, ud, uh0, uh1⟩ := cells_1_1 Try.underlying34 (by kernel_rfl) hf
  dsimp only at ud
  obtain ⟨a1, e1, _, w1⟩ := DataW.trod_int Try.underlying3 uh0
  obtain ⟨A2, n2, m2, z2, e2, q2, l2⟩ := open_traces (by kernel_rfl) (by kernel_rfl) uh1 (fun n hn => hl n (by rw [ud]; simp only [DataW.weights, Try.underlying34]; exact DataW.weights_mem_each (j := 1) rfl rfl n hn))
  simp at e1 e2
  subst e1 e2
  exact ⟨a1, A2, n2, m2, z2, rfl, w1, q2, l2⟩
end
end Go.Proofs.Ytaiifmckmjlgjaa
end
