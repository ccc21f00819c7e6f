/- Lemmas of the proofs of this seat, of the parts Psm16, Fitx, Rvx16, L16v. Conditions: none. -/
import Derived.Test.YtkkmcgapbcikiaaKae
import Derived.Test.YtkkmcgapbcikiaaKac
import Derived.Test.YtkkmcgapbcikiaaKad
section
/- Same of the program's observe; New of the reference. -/
namespace Go.Proofs.Ytkkmcgapbcikiaa
open Go.RowKit

set_option linter.unusedSimpArgs false in
set_option linter.unusedVariables false in
set_option maxHeartbeats 4000000 in
set_option maxRecDepth 100000 in
theorem psame1 (A1 A2 B1 B2 : Option Addr) (n1 c1 n2 c2 m1 d1 m2 d2 : Nat) (xs ys us vs : List Int) (w : World) (hx : Ints w A1 n1 xs) (hy : Ints w A2 n2 ys) (hu : Ints w B1 m1 us) (hv : Ints w B2 m2 vs) :
    Calls Try.prog 42 #[.agg #[.slice A1 n1 c1, .slice A2 n2 c2], .agg #[.slice B1 m1 d1, .slice B2 m2 d2]] w fun e w' => e = .returned (.bool (decide (xs = us ∧ ys = vs))) ∧ Below w.heap.size w w' := by
  obtain ⟨w0, hw0⟩ : ∃ w0, w0 = (w.alloc (.cells #[.slice A1 n1 c1, .slice A2 n2 c2] 38)).alloc (.cells #[.slice B1 m1 d1, .slice B2 m2 d2] 38) := ⟨_, rfl⟩
  obtain ⟨hb0, m1', m2', hs0⟩ := bxs2 w #[.slice A1 n1 c1, .slice A2 n2 c2] #[.slice B1 m1 d1, .slice B2 m2 d2] 38 38 w0 hw0
  obtain ⟨b1, hb1⟩ : ∃ b, b = decide (xs = us) := ⟨_, rfl⟩
  obtain ⟨b2, hb2⟩ : ∃ b, b = decide (ys = vs) := ⟨_, rfl⟩
  have HR := Lib.hid (show decide (xs = us ∧ ys = vs) = (b1 && b2) by rw [hb1, hb2, Bool.decide_and])
  have HE1 := Lib.hid (sequal A1 B1 n1 c1 m1 d1 xs us b1 w0 (hx.below hb0) (hu.below hb0) hb1)
  have HE2 := Lib.hid (fun W (h : Below w0.heap.size w0 W) => sequal A2 B2 n2 c2 m2 d2 ys vs b2 W ((hy.below hb0).below h) ((hv.below hb0).below h) hb2)
  have HB0 := Lib.hid hb0
  have HW0 := Lib.hid hw0
  have HM1 := Lib.hid (fun (W : World) (h : Below w0.heap.size w0 W) => m1'.on h)
  have HM2 := Lib.hid (fun (W : World) (h : Below w0.heap.size w0 W) => m2'.on h)
  have k0 := m1'.cell 0
  have l0 := m2'.cell 0
  simp at k0 l0
  rw [hw0] at k0 l0
  clear hw0 hb0 m1' m2' hs0 hx hy hu hv hb1 hb2
  rw [HR.out]
  go_enter Try.func42, Try.ntmps42
  go_wp2_with fail
  rw [← HW0.out]
  refine HE1.out.mono ?_
  rintro e w1 ⟨rfl, q1, rfl⟩
  clear k0 l0
  have hb := below_drewN (Below.refl w0.heap.size w0) q1
  cases b1
  case false =>
    have HBF := Lib.hid (bt HB0.out hb)
    clear hb
    go_wp2
    go_ret
    exact ⟨rfl, HBF.out⟩
  have k1 := (HM1.out _ hb).cell 1
  have l1 := (HM2.out _ hb).cell 1
  simp at k1 l1
  have HE3 := Lib.hid (HE2.out _ hb)
  have HBF := Lib.hid (bt HB0.out hb)
  clear hb
  go_wp2_with fail
  refine HE3.out.mono ?_
  rintro e w2 ⟨rfl, q2, rfl⟩
  clear k1 l1
  have HBG := Lib.hid (below_drewN HBF.out q2)
  go_wp2
  go_ret
  exact ⟨by simp, by first | exact below_drewN HB0.out _ | exact HBG.out⟩

set_option linter.unusedSimpArgs false in
set_option linter.unusedVariables false in
set_option maxHeartbeats 4000000 in
set_option maxRecDepth 100000 in
theorem psequalf (A B : Option Addr) (n c m d : Nat) (ts us : TSr) (w : World) (hx : Trs w A n ts) (hy : Trs w B m us) :
    Calls Try.prog 44 #[.slice A n c, .slice B m d, .func (.func 42) #[] #[]] w fun e w' => e = .returned (.bool (decide (ts = us))) ∧ Below w.heap.size w w' := by
  have L1 := Lib.hid hx.1
  have L2 := Lib.hid hy.1
  have hn := hx.2.1
  have hm := hy.2.1
  by_cases hnm : n = m
  · subst hnm
    have HX := Lib.hid hx
    have HY := Lib.hid hy
    clear hx hy
    go_enter Try.func44, Try.ntmps44
    go_wp2
    go_loopw [17] (fun i wr => ∃ j : Nat, i = .int .i64 j ∧ j ≤ n ∧ Hid (∀ k, k < j → tIn ts k = tIn us k ∧ tOut ts k = tOut us k) ∧ Hid (Below w.heap.size w wr)) (fun i _ => n - (intOf i).toNat)
    case atStart => exact ⟨0, rfl, Nat.zero_le _, Lib.hid (fun k h => absurd h (Nat.not_lt_zero k)), Lib.hid (Below.refl _ _)⟩
    case round =>
      obtain ⟨j, rfl, hj, HE, HBR⟩ := hrel
      by_cases hlt : j < n
      · obtain ⟨g1, o1, A1, n1, c1, A2, n2, c2, eT, hg1, j1, j2, _, _, j3, j4⟩ := (HX.out.below HBR.out).at_ hlt
        subst eT
        obtain ⟨g2, o2, B1, m1, d1, B2, m2, d2, eT, hg2, i1, i2, _, _, i3, i4⟩ := (HY.out.below HBR.out).at_ hlt
        subst eT
        have hjI : (j : Int) < (n : Int) := by omega
        have hj0 : (0 : Int) ≤ (j : Int) := by omega
        have hal := alloc_below wr (.cells #[.slice A1 n1 c1, .slice A2 n2 c2] 38)
        obtain ⟨w2, hw2⟩ : ∃ w2, w2 = (wr.alloc (.cells #[.slice A1 n1 c1, .slice A2 n2 c2] 38)).alloc (.cells #[.slice B1 m1 d1, .slice B2 m2 d2] 38) := ⟨_, rfl⟩
        obtain ⟨hb2, x1, x2, _⟩ := bxs2 wr #[.slice A1 n1 c1, .slice A2 n2 c2] #[.slice B1 m1 d1, .slice B2 m2 d2] 38 38 w2 hw2
        obtain ⟨b, hb⟩ : ∃ b, b = decide (tIn ts j = tIn us j ∧ tOut ts j = tOut us j) := ⟨_, rfl⟩
        have HPS0 := psame1 A1 A2 B1 B2 n1 c1 n2 c2 m1 d1 m2 d2 (tIn ts j) (tOut ts j) (tIn us j) (tOut us j) w2 (j3.below hb2) (j4.below hb2) (i3.below hb2) (i4.below hb2)
        rw [← hb] at HPS0
        have HPS := Lib.hid HPS0
        have HBB := Lib.hid hb
        have HB2 := Lib.hid (bt HBR.out hb2)
        have HW2 := Lib.hid hw2
        have i1 := (hal.cell (p := ⟨g2, o2 + j * 2, none⟩) hg2).trans i1
        have i2 := (hal.cell (p := ⟨g2, o2 + j * 2 + 1, none⟩) hg2).trans i2
        have p0 := x1.cell 0
        have p1 := x1.cell 1
        have r0 := x2.cell 0
        have r1 := x2.cell 1
        simp at p0 p1 r0 r1
        rw [hw2] at p0 p1 r0 r1
        clear hb HPS0 hw2 hb2 x1 x2 hal j3 j4 i3 i4 hg1 hg2
        go_wp2_with fail
        rw [← HW2.out]
        refine HPS.out.mono ?_
        rintro e w3 ⟨rfl, a3⟩
        have HB3 := Lib.hid (bt HB2.out a3)
        clear a3 j1 j2 i1 i2 p0 p1 r0 r1
        cases b
        case true =>
          have HE2 := Lib.hid (show ∀ k, k < j + 1 → tIn ts k = tIn us k ∧ tOut ts k = tOut us k from fun k hk => by
            rcases Nat.lt_or_ge k j with h | h
            · exact HE.out k h
            · obtain rfl : k = j := by omega
              exact of_decide_eq_true HBB.out.symm)
          go_wp2
          go_roundw
          case rel => exact ⟨j + 1, by go_num, by omega, HE2, HB3⟩
          case measure => simp [intOf]; omega
        case false =>
          have hfin : Hid (decide (ts = us) = false) := Lib.hid (decide_eq_false fun e => by
            have := of_decide_eq_false HBB.out.symm
            rw [e] at this
            exact this ⟨rfl, rfl⟩)
          go_wp2
          go_ret
          exact ⟨ret_bool hfin.out.symm, HB3.out⟩
      · obtain rfl : j = n := by omega
        have hfin : Hid (decide (ts = us) = true) := Lib.hid (decide_eq_true (tr_ext (by rw [L1.out, L2.out]) (fun k hk => HE.out k (by rw [← L1.out]; exact hk))))
        go_wp2
        go_ret
        exact ⟨ret_bool hfin.out.symm, HBR.out⟩
  · have hfin : Hid (decide (ts = us) = false) := Lib.hid (decide_eq_false fun e => hnm (by rw [← L1.out, ← L2.out, e]))
    have hd : ((n : Int) != (m : Int)) = true := by simp; omega
    clear hnm
    go_enter Try.func44, Try.ntmps44
    go_wp2
    go_ret
    exact ⟨ret_bool hfin.out.symm, Below.refl _ _⟩

set_option linter.unusedSimpArgs false in
set_option linter.unusedVariables false in
set_option maxHeartbeats 4000000 in
set_option maxRecDepth 100000 in
theorem psame16 (i k : Int) (A B : Option Addr) (n c m d : Nat) (ts us : TSr) (w : World) (hx : Trs w A n ts) (hy : Trs w B m us) :
    Calls Try.prog 16 #[.agg #[.int .i64 i, .slice A n c], .agg #[.int .i64 k, .slice B m d]] w fun e w' => e = .returned (.bool (decide (i = k ∧ ts = us))) ∧ Below w.heap.size w w' := by
  obtain ⟨w0, hw0⟩ : ∃ w0, w0 = (w.alloc (.cells #[.int .i64 i, .slice A n c] 24)).alloc (.cells #[.int .i64 k, .slice B m d] 24) := ⟨_, rfl⟩
  obtain ⟨hb0, m1, m2, hs0⟩ := bxs2 w #[.int .i64 i, .slice A n c] #[.int .i64 k, .slice B m d] 24 24 w0 hw0
  have HB0 := Lib.hid hb0
  have HW0 := Lib.hid hw0
  have HS := Lib.hid (psequalf A B n c m d ts us w0 (hx.below hb0) (hy.below hb0))
  have k0 := m1.cell 0
  have k1 := m1.cell 1
  have l0 := m2.cell 0
  have l1 := m2.cell 1
  simp at k0 k1 l0 l1
  rw [hw0] at k0 k1 l0 l1
  clear hw0 hb0 m1 m2 hs0 hx hy
  by_cases hik : i = k
  · subst hik
    have HD := Lib.hid (show decide (i = i ∧ ts = us) = decide (ts = us) by simp)
    rw [HD.out]
    go_enter Try.func16, Try.ntmps16
    go_wp2_with fail
    rw [← HW0.out]
    refine HS.out.mono ?_
    rintro r w1 ⟨rfl, a1⟩
    have HBF := Lib.hid (bt HB0.out a1)
    clear a1
    go_wp2
    go_ret
    exact ⟨rfl, HBF.out⟩
  · have HD := Lib.hid (show decide (i = k ∧ ts = us) = false from decide_eq_false fun h => hik h.1)
    have hb : (i == k) = false := beq_eq_false_iff_ne.2 hik
    rw [HD.out]
    go_enter Try.func16, Try.ntmps16
    go_wp2_with fail
    rw [← HW0.out]
    go_ret
    exact ⟨rfl, HB0.out⟩
end Go.Proofs.Ytkkmcgapbcikiaa
end

section
/- Valid: the error of any observations, on both sides. No program. -/
namespace Go.Proofs.Ytkkmcgapbcikiaa

theorem cmn_tri {a b c : List Int} {k : Nat} (h1 : k ≤ cmn a b) (h2 : k ≤ cmn b c) : k ≤ cmn a c := by
  have l1 := cmn_le_right a b
  have p1 : b.take k <+: a := pre_take (by rw [cmn_comm]; exact h1)
  have p2 : b.take k <+: c := pre_take h2
  have := pre_min p1 p2
  rw [List.length_take] at this
  omega
/-- Is the trace i a prefix of a later one? -/
def PreL (ts : TSr) (i : Nat) : Prop := ∃ k, i < k ∧ k < ts.length ∧ cmn (tIn ts k) (tIn ts i) = (tIn ts i).length
/-- Does the trace i contradict a later one? -/
def CloL (ts : TSr) (i : Nat) : Prop := ∃ k, i < k ∧ k < ts.length ∧ ∃ j, j < cmn (tIn ts i) (tIn ts k) ∧ ¬ (tOut ts i).getD j 0 = (tOut ts k).getD j 0
/-- Does the trace i contradict any? -/
def CloA (ts : TSr) (i : Nat) : Prop := ∃ k, k < ts.length ∧ ∃ j, j < cmn (tIn ts i) (tIn ts k) ∧ ¬ (tOut ts i).getD j 0 = (tOut ts k).getD j 0
/-- The reference's error of traces that are in order. -/
def ApL (ts : TSr) (R : Int) : Prop := (R = 0 ∧ ∀ i, i < ts.length → ¬ PreL ts i ∧ ¬ CloL ts i) ∨ ∃ i, i < ts.length ∧ (∀ j, j < i → ¬ PreL ts j ∧ ¬ CloL ts j) ∧ ((PreL ts i ∧ R = 7) ∨ (¬ PreL ts i ∧ CloL ts i ∧ R = 13))
theorem ApL.uniq {ts : TSr} {R R' : Int} (h : ApL ts R) (h' : ApL ts R') : R = R' := by
  rcases h with ⟨rfl, h⟩ | ⟨i, hi, h1, h2⟩ <;> rcases h' with ⟨rfl, k⟩ | ⟨i', hi', k1, k2⟩
  · rfl
  · have := h i' hi'
    rcases k2 with ⟨k2, _⟩ | ⟨_, k2, _⟩
    · exact absurd k2 this.1
    · exact absurd k2 this.2
  · have := k i hi
    rcases h2 with ⟨h2, _⟩ | ⟨_, h2, _⟩
    · exact absurd h2 this.1
    · exact absurd h2 this.2
  · have e : i = i' := by
      rcases Nat.lt_trichotomy i i' with h3 | h3 | h3
      · have := k1 i h3
        rcases h2 with ⟨h2, _⟩ | ⟨_, h2, _⟩
        · exact absurd h2 this.1
        · exact absurd h2 this.2
      · exact h3
      · have := h1 i' h3
        rcases k2 with ⟨k2, _⟩ | ⟨_, k2, _⟩
        · exact absurd k2 this.1
        · exact absurd k2 this.2
    subst e
    rcases h2 with ⟨h2, rfl⟩ | ⟨h2, _, rfl⟩ <;> rcases k2 with ⟨k2, rfl⟩ | ⟨k2, _, rfl⟩
    · rfl
    · exact absurd h2 k2
    · exact absurd k2 h2
    · rfl
theorem pre_shl {x y : List Int} (h : x <+: y) : 0 ≤ shlex y x := by
  rcases Nat.lt_or_ge x.length y.length with hl | hl
  · rw [shlex_neg, shlex_lt hl]; omega
  · have := h.eq_of_length (by have := h.length_le; omega)
    rw [this, shlex_irr]; exact Int.le_refl _
section
variable {ts : TSr} {os ss : List Int}
theorem Dict.le_srt (h : Dict ts os ss) {a b : Nat} (hab : a ≤ b) (hb : b < ts.length) : lexR (tIn ts (opo os a)) (tIn ts (opo os b)) ≤ 0 := by
  rcases Nat.lt_or_ge a b with h1 | h1
  · exact h.srt a b h1 hb
  · rw [show a = b by omega, lexR_irr]; exact Int.le_refl _
theorem agrD_eq (h : Dict ts os ss) {p j : Nat} (hp : p + 1 < ts.length) (hj : j < agrD ts os ss p) : (tOut ts (opo os p)).getD j 0 = (tOut ts (opo os (p + 1))).getD j 0 := by
  have h0 := (h.snn hp).1
  have h1 := agrD_le h hp
  have h5 := cmn_agree ((tOut ts (opo os p)).take (ss.getD p 0).toNat) ((tOut ts (opo os (p + 1))).take (ss.getD p 0).toNat) j (by unfold agrD at hj; exact hj)
  rw [take_getD (by omega), take_getD (by omega)] at h5
  exact h5
theorem lnk_cmn (h : Dict ts os ss) {k p : Nat} : ∀ d, p + d + 1 < ts.length → (∀ j, p ≤ j → j < p + d + 1 → (k : Int) ≤ ss.getD j 0) → k ≤ cmn (tIn ts (opo os p)) (tIn ts (opo os (p + d + 1)))
  | 0, hd, hl => by
    have h1 := hl p (Nat.le_refl _) (by omega)
    rw [h.sh p (by omega)] at h1
    rw [Nat.add_zero]
    omega
  | d + 1, hd, hl => by
    have h1 := lnk_cmn h d (by omega) (fun j j1 j2 => hl j j1 (by omega))
    have h2 := hl (p + d + 1) (by omega) (by omega)
    rw [h.sh (p + d + 1) (by omega)] at h2
    exact cmn_tri h1 (by rw [show p + (d + 1) + 1 = p + d + 1 + 1 by omega]; omega)
theorem con_A (h : Dict ts os ss) (hF : Full ts) {i : Nat} (hc : Con ts os ss ss.length i) : CloA ts i := by
  obtain ⟨p, hp, ha, q, hq, hl, rfl⟩ := hc
  have hsl := h.sl
  have hp1 : p + 1 < ts.length := by omega
  obtain ⟨h1, h2⟩ := agrD_part h hF hp1 ha
  obtain ⟨x, hx⟩ : ∃ x, x = agrD ts os ss p := ⟨_, rfl⟩
  rw [← hx] at h1 h2 hl
  have hpq : x + 1 ≤ cmn (tIn ts (opo os p)) (tIn ts (opo os q)) := by
    rcases Nat.lt_trichotomy p q with h3 | h3 | h3
    · obtain ⟨d, rfl⟩ : ∃ d, q = p + d + 1 := ⟨q - p - 1, by omega⟩
      exact lnk_cmn h (k := x + 1) d hq (fun j j1 j2 => by have := hl.1 j j1 j2; omega)
    · subst h3
      rw [(cmn_full (xs := tIn ts (opo os p)) (ys := tIn ts (opo os p)) rfl).2 rfl]
      have := cmn_le_left (tIn ts (opo os p)) (tIn ts (opo os (p + 1)))
      omega
    · obtain ⟨d, rfl⟩ : ∃ d, p = q + d + 1 := ⟨p - q - 1, by omega⟩
      rw [cmn_comm]
      exact lnk_cmn h (k := x + 1) d (by omega) (fun j j1 j2 => by have := hl.2 j j1 j2; omega)
  by_cases e : (tOut ts (opo os q)).getD x 0 = (tOut ts (opo os p)).getD x 0
  · have h3 : x + 1 ≤ cmn (tIn ts (opo os q)) (tIn ts (opo os (p + 1))) := cmn_tri (b := tIn ts (opo os p)) (by rw [cmn_comm]; exact hpq) (by omega)
    exact ⟨opo os (p + 1), (h.rng _ hp1).2, x, by omega, by rw [e]; exact h2⟩
  · exact ⟨opo os p, (h.rng _ (by omega)).2, x, by rw [cmn_comm]; omega, e⟩
theorem nb_differ {f : Nat → Int} {a : Nat} : ∀ d, ¬ f a = f (a + d) → ∃ p, a ≤ p ∧ p < a + d ∧ ¬ f p = f (p + 1)
  | 0, h => absurd rfl h
  | d + 1, h => by
    by_cases e : f (a + d) = f (a + d + 1)
    · obtain ⟨p, h1, h2, h3⟩ := nb_differ (f := f) (a := a) d (fun e2 => h (e2.trans e))
      exact ⟨p, h1, by omega, h3⟩
    · exact ⟨a + d, by omega, by omega, e⟩
theorem con_pos (h : Dict ts os ss) {a b j : Nat} (hab : a < b) (hb : b < ts.length) (hj : j < cmn (tIn ts (opo os a)) (tIn ts (opo os b))) (hd : ¬ (tOut ts (opo os a)).getD j 0 = (tOut ts (opo os b)).getD j 0) :
    Con ts os ss ss.length (opo os a) ∧ Con ts os ss ss.length (opo os b) := by
  have hsl := h.sl
  obtain ⟨d, rfl⟩ : ∃ d, b = a + d := ⟨b - a, by omega⟩
  obtain ⟨p, h1, h2, h3⟩ := nb_differ (f := fun r => (tOut ts (opo os r)).getD j 0) d hd
  have hs : ∀ r, a ≤ r → r < a + d → (j : Int) + 1 ≤ ss.getD r 0 := fun r r1 r2 => by
    have m1 := (cmn_mono (h.le_srt r1 (by omega)) (h.le_srt (b := a + d) (by omega : r ≤ a + d) hb)).1
    have m2 := (cmn_mono (h.le_srt (by omega : r ≤ r + 1) (by omega)) (h.le_srt (b := a + d) (by omega : r + 1 ≤ a + d) hb)).2
    rw [h.sh r (by omega)]
    omega
  have hp1 : p + 1 < ts.length := by omega
  have hlt : (agrD ts os ss p : Int) < ss.getD p 0 := by
    have h4 := hs p h1 h2
    rcases Int.lt_or_le (agrD ts os ss p : Int) (ss.getD p 0) with h5 | h5
    · exact h5
    · exact absurd (agrD_full h hp1 (by omega) j (by rw [h.sh p hp1] at h4; omega)) h3
  have hle : agrD ts os ss p ≤ j := by
    rcases Nat.lt_or_ge j (agrD ts os ss p) with h5 | h5
    · exact absurd (agrD_eq h hp1 h5) h3
    · exact h5
  refine ⟨⟨p, by omega, hlt, a, by omega, ⟨fun r r1 r2 => absurd r2 (by omega), fun r r1 r2 => ?_⟩, rfl⟩, ⟨p, by omega, hlt, a + d, hb, ⟨fun r r1 r2 => ?_, fun r r1 r2 => absurd r2 (by omega)⟩, rfl⟩⟩
  · have := hs r r1 (by omega)
    omega
  · have := hs r (by omega) r2
    omega
theorem A_con (h : Dict ts os ss) {i : Nat} (hi : i < ts.length) (hc : CloA ts i) : Con ts os ss ss.length i := by
  obtain ⟨k, hk, j, hj, hd⟩ := hc
  obtain ⟨a, ha, rfl⟩ := h.sur i hi
  obtain ⟨b, hb, rfl⟩ := h.sur k hk
  rcases Nat.lt_trichotomy a b with h1 | h1 | h1
  · exact (con_pos h h1 hb hj hd).1
  · subst h1; exact absurd rfl hd
  · exact (con_pos h h1 ha (by rw [cmn_comm]; exact hj) (fun e => hd e.symm)).2
theorem ext_L (h : Dict ts os ss) (hS : Srt ts) {i : Nat} (he : Ext ts os ss ss.length i) : PreL ts i := by
  obtain ⟨p, hp, rfl, he⟩ := he
  have hsl := h.sl
  have hp1 : p + 1 < ts.length := by omega
  rw [h.sh p hp1] at he
  have hpre : tIn ts (opo os p) <+: tIn ts (opo os (p + 1)) := pre_cmn.2 (by omega)
  refine ⟨opo os (p + 1), ?_, (h.rng _ hp1).2, by rw [cmn_comm]; omega⟩
  rcases Nat.lt_trichotomy (opo os p) (opo os (p + 1)) with h1 | h1 | h1
  · exact h1
  · have := h.inj p (p + 1) (by omega) hp1 h1
    omega
  · have h2 := hS _ _ h1 (h.rng p (by omega)).2
    have h3 := pre_shl hpre
    omega
theorem L_ext (h : Dict ts os ss) (hS : Srt ts) {i : Nat} (he : PreL ts i) : Ext ts os ss ss.length i := by
  obtain ⟨k, hik, hk, he⟩ := he
  have hsl := h.sl
  have hp : tIn ts i <+: tIn ts k := pre_cmn'.2 he
  obtain ⟨a, ha, rfl⟩ := h.sur i (by omega)
  obtain ⟨b, hb, rfl⟩ := h.sur k hk
  have hab : ¬ a = b := fun e => by rw [e] at hik; omega
  rcases Nat.lt_or_ge a b with hlt | hge
  · refine ⟨a, by omega, rfl, ?_⟩
    rw [h.sh a (by omega)]
    have l3 := (cmn_mono (h.le_srt (by omega : a ≤ a + 1) (by omega)) (h.le_srt (by omega : a + 1 ≤ b) hb)).2
    rw [pre_cmn.1 hp] at l3
    have l4 := cmn_le_left (tIn ts (opo os a)) (tIn ts (opo os (a + 1)))
    omega
  · have l1 := h.srt b a (by omega) ha
    have l2 := pre_lex0 hp
    have l3 := lexR_neg (tIn ts (opo os a)) (tIn ts (opo os b))
    have e := (lexR_zero _ _).1 (show lexR (tIn ts (opo os a)) (tIn ts (opo os b)) = 0 by omega)
    have h2 := hS _ _ hik (h.rng b hb).2
    rw [e, shlex_irr] at h2
    omega
theorem clo_AL {i : Nat} (h : CloL ts i) : CloA ts i := by
  obtain ⟨k, _, hk, h⟩ := h
  exact ⟨k, hk, h⟩
/-- The program's error of traces that are in order is the reference's. -/
theorem fit_exact (h : Dict ts os ss) (hS : Srt ts) (hF : Full ts) {R : Int} (hR : FitR ts os ss R) : ApL ts R := by
  have no : ∀ j, j < ts.length → ¬ Ext ts os ss ss.length j ∧ ¬ Con ts os ss ss.length j → ¬ PreL ts j ∧ ¬ CloL ts j := fun j hj hn => ⟨fun e => hn.1 (L_ext h hS e), fun e => hn.2 (A_con h hj (clo_AL e))⟩
  rcases hR with ⟨h0, h1⟩ | ⟨i, hi, h1, h2⟩
  · exact .inl ⟨h0, fun j hj => no j hj (h1 j hj)⟩
  · refine .inr ⟨i, hi, fun j hj => no j (by omega) (h1 j hj), ?_⟩
    rcases h2 with ⟨h2, h3⟩ | ⟨h2, h3, h4⟩
    · exact .inl ⟨ext_L h hS h2, h3⟩
    · refine .inr ⟨fun e => h2 (L_ext h hS e), ?_, h4⟩
      obtain ⟨k, hk, j, hj, hd⟩ := con_A h hF h3
      rcases Nat.lt_trichotomy i k with h5 | h5 | h5
      · exact ⟨k, h5, hk, j, hj, hd⟩
      · subst h5; exact absurd rfl hd
      · exact absurd (A_con h (by omega) ⟨i, hi, j, by rw [cmn_comm]; exact hj, fun e => hd e.symm⟩) (h1 k h5).2
end
/-- The error of observations, as the reference finds it. -/
def VldL (i : Int) (ts : TSr) (v : Int) : Prop :=
  (¬ (1 ≤ i ∧ i ≤ 64) ∧ v = 2) ∨ ((1 ≤ i ∧ i ≤ 64) ∧ 10000 < ts.length ∧ v = 11) ∨
  ((1 ≤ i ∧ i ≤ 64) ∧ ts.length ≤ 10000 ∧ ∃ k, k < ts.length ∧ LstK i ts k ∧ ((¬ lstE (tIn ts k) (tOut ts k) i = 0 ∧ v = lstE (tIn ts k) (tOut ts k) i) ∨ (lstE (tIn ts k) (tOut ts k) i = 0 ∧ 0 < k ∧ 0 ≤ shlex (tIn ts (k - 1)) (tIn ts k) ∧ v = 10))) ∨
  ((1 ≤ i ∧ i ≤ 64) ∧ ts.length ≤ 10000 ∧ LstK i ts ts.length ∧ ApL ts v)
theorem VldR.toL {i v : Int} {ts : TSr} (h : VldR i ts v) : VldL i ts v := by
  rcases h with h | h | h | ⟨h1, h2, h3, os, ss, h4, h5⟩
  · exact .inl h
  · exact .inr (.inl h)
  · exact .inr (.inr (.inl h))
  · exact .inr (.inr (.inr ⟨h1, h2, h3, fit_exact h4 h3.srt h3.full h5⟩))
theorem VldL.uniq {i v v' : Int} {ts : TSr} (h : VldL i ts v) (h' : VldL i ts v') : v = v' := by
  rcases h with ⟨h1, rfl⟩ | ⟨h1, h2, rfl⟩ | ⟨h1, h2, k, hk, hL, h3⟩ | ⟨h1, h2, hL, h3⟩ <;> rcases h' with ⟨k1, rfl⟩ | ⟨k1, k2, rfl⟩ | ⟨k1, k2, k', hk', hL', k3⟩ | ⟨k1, k2, hL', k3⟩
  · rfl
  · exact absurd k1 h1
  · exact absurd k1 h1
  · exact absurd k1 h1
  · exact absurd h1 k1
  · rfl
  · omega
  · omega
  · exact absurd h1 k1
  · omega
  · have bad : ∀ {a b : Nat}, a < b → LstK i ts b → ((¬ lstE (tIn ts a) (tOut ts a) i = 0) ∨ (lstE (tIn ts a) (tOut ts a) i = 0 ∧ 0 < a ∧ 0 ≤ shlex (tIn ts (a - 1)) (tIn ts a))) → False := fun hab hb h => by
      have := hb _ hab
      rcases h with h | ⟨_, h4, h5⟩
      · exact h this.1
      · have := this.2 h4
        omega
    have e : k = k' := by
      rcases Nat.lt_trichotomy k k' with h4 | h4 | h4
      · exact absurd (bad h4 hL' (h3.elim (fun h => .inl h.1) (fun h => .inr ⟨h.1, h.2.1, h.2.2.1⟩))) (fun h => h)
      · exact h4
      · exact absurd (bad h4 hL (k3.elim (fun h => .inl h.1) (fun h => .inr ⟨h.1, h.2.1, h.2.2.1⟩))) (fun h => h)
    subst e
    rcases h3 with ⟨h, rfl⟩ | ⟨h, _, _, rfl⟩ <;> rcases k3 with ⟨k, rfl⟩ | ⟨k, _, _, rfl⟩
    · rfl
    · exact absurd k h
    · exact absurd h k
    · rfl
  · have := hL' k hk
    rcases h3 with ⟨h, _⟩ | ⟨_, h4, h5, _⟩
    · exact absurd this.1 h
    · have := this.2 h4
      omega
  · exact absurd h1 k1
  · omega
  · have := hL k' hk'
    rcases k3 with ⟨h, _⟩ | ⟨_, h4, h5, _⟩
    · exact absurd this.1 h
    · have := this.2 h4
      omega
  · exact h3.uniq k3
/- What the reference's walk meets. -/
theorem lstK_of {i : Int} {ts : TSr} {k : Nat} (h : ∀ j, j < k → prpE (tIn ts j) (tOut ts j) i = 0 ∧ 0 < (tIn ts j).length ∧ (0 < j → shlex (tIn ts (j - 1)) (tIn ts j) < 0)) : LstK i ts k := fun j hj => ⟨lst_ok (h j hj).2.1 (h j hj).1, (h j hj).2.2⟩
section
variable {i E : Int} {ts : TSr} {k n : Nat}
theorem bad_chk (hi : 1 ≤ i ∧ i ≤ 64) (hn : ts.length = n) (hb : n ≤ 10000) (hk : k < n) (hP : ∀ j, j < k → prpE (tIn ts j) (tOut ts j) i = 0 ∧ 0 < (tIn ts j).length ∧ (0 < j → shlex (tIn ts (j - 1)) (tIn ts j) < 0)) (hE : E = chk (tIn ts k) i) (hne : ¬ E = 0) : VldL i ts E := by
  have e : lstE (tIn ts k) (tOut ts k) i = E := by unfold lstE; rw [if_neg (by rw [← hE]; exact hne), hE]
  exact .inr (.inr (.inl ⟨hi, by omega, k, by omega, lstK_of hP, .inl ⟨by rw [e]; exact hne, e.symm⟩⟩))
theorem bad_nil (hi : 1 ≤ i ∧ i ≤ 64) (hn : ts.length = n) (hb : n ≤ 10000) (hk : k < n) (hP : ∀ j, j < k → prpE (tIn ts j) (tOut ts j) i = 0 ∧ 0 < (tIn ts j).length ∧ (0 < j → shlex (tIn ts (j - 1)) (tIn ts j) < 0)) (hc : chk (tIn ts k) i = 0) (h0 : (tIn ts k).length = 0) : VldL i ts 19 := by
  have e : lstE (tIn ts k) (tOut ts k) i = 19 := by unfold lstE; rw [if_pos hc, if_pos h0]
  exact .inr (.inr (.inl ⟨hi, by omega, k, by omega, lstK_of hP, .inl ⟨by rw [e]; decide, e.symm⟩⟩))
theorem bad_prp (hi : 1 ≤ i ∧ i ≤ 64) (hn : ts.length = n) (hb : n ≤ 10000) (hk : k < n) (hP : ∀ j, j < k → prpE (tIn ts j) (tOut ts j) i = 0 ∧ 0 < (tIn ts j).length ∧ (0 < j → shlex (tIn ts (j - 1)) (tIn ts j) < 0)) (hc : chk (tIn ts k) i = 0) (h0 : ¬ (tIn ts k).length = 0) (hE : E = prpE (tIn ts k) (tOut ts k) i) (hne : ¬ E = 0) : VldL i ts E := by
  have e : lstE (tIn ts k) (tOut ts k) i = E := by
    unfold prpE at hE
    rw [if_pos hc] at hE
    unfold lstE
    rw [if_pos hc, if_neg h0, hE]
  exact .inr (.inr (.inl ⟨hi, by omega, k, by omega, lstK_of hP, .inl ⟨by rw [e]; exact hne, e.symm⟩⟩))
theorem bad_ord {kp : Nat} {s : Int} (hi : 1 ≤ i ∧ i ≤ 64) (hn : ts.length = n) (hb : n ≤ 10000) (hk : k < n) (hP : ∀ j, j < k → prpE (tIn ts j) (tOut ts j) i = 0 ∧ 0 < (tIn ts j).length ∧ (0 < j → shlex (tIn ts (j - 1)) (tIn ts j) < 0)) (hp : prpE (tIn ts k) (tOut ts k) i = 0) (h0 : 0 < (tIn ts k).length) (hkp : k = kp + 1) (hs : s = shlex (tIn ts kp) (tIn ts k)) (hs0 : 0 ≤ s) : VldL i ts 10 :=
  .inr (.inr (.inl ⟨hi, by omega, k, by omega, lstK_of hP, .inr ⟨lst_ok h0 hp, by omega, by rw [show k - 1 = kp by omega, ← hs]; exact hs0, rfl⟩⟩))
theorem ap_no {p : Nat} (hn : ts.length = n) (h : ∀ a b, a < b → b < n → a < p → ¬ cmn (tIn ts b) (tIn ts a) = (tIn ts a).length ∧ ∀ j, j < cmn (tIn ts a) (tIn ts b) → (tOut ts a).getD j 0 = (tOut ts b).getD j 0) : ∀ j, j < p → ¬ PreL ts j ∧ ¬ CloL ts j := fun j hj =>
  ⟨fun ⟨k, h1, h2, h3⟩ => (h j k h1 (by omega) hj).1 h3, fun ⟨k, h1, h2, x, hx, hd⟩ => hd ((h j k h1 (by omega) hj).2 x hx)⟩
theorem pfB_yes {p m : Nat} (hm : m ≤ ts.length) (h : pfB ts p m = true) : PreL ts p := by
  induction m with
  | zero => simp [pfB] at h
  | succ m ih =>
    rw [pfB, Bool.or_eq_true] at h
    rcases h with h | h
    · exact ih (by omega) h
    · rw [Bool.and_eq_true] at h
      exact ⟨m, of_decide_eq_true h.1, by omega, of_decide_eq_true h.2⟩
theorem pfB_nop {p : Nat} (hn : ts.length = n) (h : pfB ts p n = false) : ¬ PreL ts p := fun ⟨k, h1, h2, h3⟩ => pfB_no h h1 (by omega) h3
theorem clB_yes {p m : Nat} (hm : m ≤ ts.length) (h : clB ts p m = true) : CloL ts p := by
  induction m with
  | zero => simp [clB] at h
  | succ m ih =>
    rw [clB, Bool.or_eq_true] at h
    rcases h with h | h
    · exact ih (by omega) h
    · rw [Bool.and_eq_true] at h
      have h2 : 0 ≤ dfz ts p m := of_decide_eq_true h.2
      rcases dfz_spec ts p m with ⟨h3, _⟩ | ⟨k, h3, h4, _, h5⟩
      · omega
      · exact ⟨m, of_decide_eq_true h.1, by omega, k, h4, h5⟩
end
end Go.Proofs.Ytkkmcgapbcikiaa
end

section
/- The reference of observe: apart and Valid, exact. -/
namespace Go.Proofs.Ytkkmcgapbcikiaa
open Go.RowKit

set_option linter.unusedSimpArgs false in
set_option linter.unusedVariables false in
set_option maxHeartbeats 8000000 in
set_option maxRecDepth 100000 in
theorem rapartX (i : Int) (T : Option Addr) (n c : Nat) (ts : TSr) (w : World) (hT : Trs w T n ts) (hF : Full ts) :
    Calls Try.prog 41 #[.agg #[.int .i64 i, .slice T n c]] w fun e w' => ∃ v : Int, e = .returned (.int .i64 v) ∧ ApL ts v ∧ Below w.heap.size w w' := by
  obtain ⟨w0, hw0⟩ : ∃ w0, w0 = w.alloc (.cells #[.int .i64 i, .slice T n c] 24) := ⟨_, rfl⟩
  have hb0 : Below w.heap.size w w0 := by rw [hw0]; exact alloc_below _ _
  have m0 : Bx w0 w.heap.size #[.int .i64 i, .slice T n c] 24 := by rw [hw0]; exact bx_new _ _ _
  have HM := Lib.hid (fun (W : World) (h : Below w0.heap.size w0 W) => m0.on h)
  have HT := Lib.hid (fun (W : World) (h : Below w0.heap.size w0 W) => (hT.below hb0).below h)
  have HB0 := Lib.hid hb0
  have HW0 := Lib.hid hw0
  have HLT := Lib.hid hT.1
  have HF := Lib.hid hF
  have hn := hT.2.1
  clear hw0 hb0 m0 hT hF
  go_enter Try.func41, Try.ntmps41
  go_wp2
  rw [← HW0.out]
  go_loopw [3] (fun v3 wr => ∃ p : Nat, v3 = .int .i64 p ∧ p ≤ n ∧ Hid (∀ a b, a < b → b < n → a < p → ¬ cmn (tIn ts b) (tIn ts a) = (tIn ts a).length ∧ ∀ j, j < cmn (tIn ts a) (tIn ts b) → (tOut ts a).getD j 0 = (tOut ts b).getD j 0) ∧ Hid (Below w0.heap.size w0 wr)) (fun v3 _ => n - (intOf v3).toNat)
  case atStart => exact ⟨0, rfl, Nat.zero_le _, Lib.hid (fun a b _ _ h => absurd h (Nat.not_lt_zero a)), Lib.hid (Below.refl _ _)⟩
  case round =>
    obtain ⟨p, rfl, hp, HP, HBR⟩ := hrel
    have k1 := (HM.out _ HBR.out).cell 1
    simp at k1
    by_cases hlt : p < n
    · have wp1 : IntKind.i64.wrap ((p : Int) + 1) = ((p + 1 : Nat) : Int) := by rw [IntKind.wrap_i64]; omega
      go_wp2
      clear wp1
      go_loopw [6, 4, 5] (fun v6 v4 v5 wr => ∃ q : Nat, v6 = .int .i64 q ∧ p < q ∧ q ≤ n ∧ v4 = .bool (pfB ts p q) ∧ v5 = .bool (clB ts p q) ∧ Hid (Below w0.heap.size w0 wr)) (fun v6 _ _ _ => n - (intOf v6).toNat)
      case atStart => exact ⟨p + 1, by go_num, by omega, by omega, by rw [pfB_zero _ (Nat.le_refl _)], by rw [clB_zero _ (Nat.le_refl _)], HBR⟩
      case round =>
        obtain ⟨q, rfl, hpq, hqn, rfl, rfl, HBW⟩ := hrel
        have k1 := (HM.out _ HBW.out).cell 1
        simp at k1
        by_cases hlq : q < n
        · obtain ⟨b, off, A1, n1, c1, A2, n2, c2, rfl, hgb, j1, j2, _, _, j3, j4⟩ := (HT.out _ HBW.out).at_ hlt
          obtain ⟨_, _, B1, m1, d1, B2, m2, d2, eT, _, i1, i2, _, _, i3, i4⟩ := (HT.out _ HBW.out).at_ hlq
          cases eT
          have hpI : (p : Int) < (n : Int) := by omega
          have hqI : (q : Int) < (n : Int) := by omega
          have hp0 : (0 : Int) ≤ (p : Int) := by omega
          have hq0 : (0 : Int) ≤ (q : Int) := by omega
          have HPN := Lib.hid (pfB_on (ts := ts) hpq)
          have HCN := Lib.hid (clB_on (ts := ts) hpq)
          obtain ⟨x, hx⟩ : ∃ x, x = pfB ts p q := ⟨_, rfl⟩
          obtain ⟨y, hy⟩ : ∃ y, y = clB ts p q := ⟨_, rfl⟩
          obtain ⟨f, hf⟩ : ∃ f, f = decide (cmn (tIn ts q) (tIn ts p) = (tIn ts p).length) := ⟨_, rfl⟩
          obtain ⟨z, hz⟩ : ∃ z, z = dfz ts p q := ⟨_, rfl⟩
          have HHP := Lib.hid (fun u => rhasprefix B1 A1 m1 d1 n1 c1 (tIn ts q) (tIn ts p) (wr.drewN u) (i3.drewN u) (j3.drewN u))
          have HDI := Lib.hid (fun (W : World) (h : Below wr.heap.size wr W) => rdiffer A1 A2 B1 B2 n1 c1 n2 c2 m1 d1 m2 d2 (tIn ts p) (tOut ts p) (tIn ts q) (tOut ts q) z W (j3.below h) (j4.below h) (i3.below h) (i4.below h) (HF.out p (by rw [HLT.out]; exact hlt)) (HF.out q (by rw [HLT.out]; exact hlq)) (by rw [hz]; exact dfz_spec ts p q))
          rw [← hx, ← hf] at HPN
          rw [← hy, ← hz] at HCN
          rw [← hx, ← hy]
          rw [← hf] at HHP
          have HS := Lib.hid (show ∀ W, Below wr.heap.size wr W → W.cell? ⟨w.heap.size, 1, none⟩ = some (.slice (some ⟨b, off, none⟩) n c) ∧ W.cell? ⟨b, off + p * 2, none⟩ = some (.slice A1 n1 c1) ∧ W.cell? ⟨b, off + p * 2 + 1, none⟩ = some (.slice A2 n2 c2) ∧ W.cell? ⟨b, off + q * 2, none⟩ = some (.slice B1 m1 d1) ∧ W.cell? ⟨b, off + q * 2 + 1, none⟩ = some (.slice B2 m2 d2) from fun W h => ⟨(h.cell (p := ⟨w.heap.size, 1, none⟩) (World.block_lt_of_cell? _ _ k1)).trans k1, (h.cell (p := ⟨b, off + p * 2, none⟩) hgb).trans j1, (h.cell (p := ⟨b, off + p * 2 + 1, none⟩) hgb).trans j2, (h.cell (p := ⟨b, off + q * 2, none⟩) hgb).trans i1, (h.cell (p := ⟨b, off + q * 2 + 1, none⟩) hgb).trans i2⟩)
          clear hx hy hf hz j3 j4 i3 i4 hgb
          cases x <;> cases y
          case false.false =>
            go_wp2
            go_quiet ((go_at_call 48; exact Calls.quiet_of (HHP.out _)))
            go_upto_region 9 with fail
            have hbf : Below wr.heap.size wr ((wr.drewN nq).drew) := below_drewN (below_drewN (Below.refl _ _) nq) 1
            refine wp_region_heldX (X := fun k => ([] : List Nat).contains k) (S := fun W => W.cell? ⟨w.heap.size, 1, none⟩ = some (.slice (some ⟨b, off, none⟩) n c) ∧ W.cell? ⟨b, off + p * 2, none⟩ = some (.slice A1 n1 c1) ∧ W.cell? ⟨b, off + p * 2 + 1, none⟩ = some (.slice A2 n2 c2) ∧ W.cell? ⟨b, off + q * 2, none⟩ = some (.slice B1 m1 d1) ∧ W.cell? ⟨b, off + q * 2 + 1, none⟩ = some (.slice B2 m2 d2)) (by kernel_rfl) ?_
            refine wpAnyX_pure (i := 0) (v := ?_) rfl (by kernel_rfl) (by kernel_rfl) (by kernel_rfl) (fun _ _ _ h => h) (Or.inl ⟨by rfl, ?_⟩) ?_
            rotate_left
            · (intro W _; go_simp; try with_reducible rfl)
            (try simp only [Act.put, List.getElem_toArray, List.getElem_cons_zero, List.getElem_cons_succ, List.setIfInBounds_toArray, List.set_cons_zero, List.set_cons_succ])
            refine wpAnyX_pure (i := 1) (v := ?_) rfl (by kernel_rfl) (by kernel_rfl) (by kernel_rfl) (fun _ _ _ h => h) (Or.inl ⟨by rfl, ?_⟩) ?_
            rotate_left
            · (intro W _; go_simp; try with_reducible rfl)
            (try simp only [Act.put, List.getElem_toArray, List.getElem_cons_zero, List.getElem_cons_succ, List.setIfInBounds_toArray, List.set_cons_zero, List.set_cons_succ])
            refine wpAnyX_pure (i := 2) (v := ?_) rfl (by kernel_rfl) (by kernel_rfl) (by kernel_rfl) (fun _ _ _ h => h) (Or.inl ⟨by rfl, ?_⟩) ?_
            rotate_left
            · (intro W _; go_simp; try with_reducible rfl)
            (try simp only [Act.put, List.getElem_toArray, List.getElem_cons_zero, List.getElem_cons_succ, List.setIfInBounds_toArray, List.set_cons_zero, List.set_cons_succ])
            refine wpAnyX_takeL (L := []) (i := 3) (v := ?_) rfl (by kernel_rfl) (by kernel_rfl) (by kernel_rfl) (by kernel_rfl) (fun _ _ _ h => h) (Or.inl ⟨by rfl, ?_⟩) (HS.out _ hbf) ?_
            rotate_left
            · (intro W hSW; (try dsimp only at hSW); obtain ⟨z0, z1, z2, z3, z4⟩ := hSW; go_simp; try with_reducible rfl)
            (try simp only [Act.put, List.getElem_toArray, List.getElem_cons_zero, List.getElem_cons_succ, List.setIfInBounds_toArray, List.set_cons_zero, List.set_cons_succ])
            refine wpAnyX_pure (i := 4) (v := ?_) rfl (by kernel_rfl) (by kernel_rfl) (by kernel_rfl) (fun _ _ _ h => h) (Or.inl ⟨by rfl, ?_⟩) ?_
            rotate_left
            · (intro W _; go_simp; try with_reducible rfl)
            (try simp only [Act.put, List.getElem_toArray, List.getElem_cons_zero, List.getElem_cons_succ, List.setIfInBounds_toArray, List.set_cons_zero, List.set_cons_succ])
            refine wpAnyX_pure (i := 5) (v := ?_) rfl (by kernel_rfl) (by kernel_rfl) (by kernel_rfl) (fun _ _ _ h => h) (Or.inl ⟨by rfl, ?_⟩) ?_
            rotate_left
            · (intro W _; go_simp; try with_reducible rfl)
            (try simp only [Act.put, List.getElem_toArray, List.getElem_cons_zero, List.getElem_cons_succ, List.setIfInBounds_toArray, List.set_cons_zero, List.set_cons_succ])
            refine wpAnyX_takeL (L := []) (i := 6) (v := ?_) rfl (by kernel_rfl) (by kernel_rfl) (by kernel_rfl) (by kernel_rfl) (fun _ _ _ h => h) (Or.inl ⟨by rfl, ?_⟩) (HS.out _ hbf) ?_
            rotate_left
            · (intro W hSW; (try dsimp only at hSW); obtain ⟨z0, z1, z2, z3, z4⟩ := hSW; go_simp; try with_reducible rfl)
            (try simp only [Act.put, List.getElem_toArray, List.getElem_cons_zero, List.getElem_cons_succ, List.setIfInBounds_toArray, List.set_cons_zero, List.set_cons_succ])
            refine wpAnyX_pure (i := 7) (v := ?_) rfl (by kernel_rfl) (by kernel_rfl) (by kernel_rfl) (fun _ _ _ h => h) (Or.inl ⟨by rfl, ?_⟩) ?_
            rotate_left
            · (intro W _; go_simp; try with_reducible rfl)
            (try simp only [Act.put, List.getElem_toArray, List.getElem_cons_zero, List.getElem_cons_succ, List.setIfInBounds_toArray, List.set_cons_zero, List.set_cons_succ])
            refine wpAnyX_takeL (L := []) (i := 8) (v := ?_) rfl (by kernel_rfl) (by kernel_rfl) (by kernel_rfl) (by kernel_rfl) (fun _ _ _ h => h) (Or.inl ⟨by rfl, ?_⟩) (HS.out _ hbf) ?_
            rotate_left
            · (intro W hSW; (try dsimp only at hSW); obtain ⟨z0, z1, z2, z3, z4⟩ := hSW; go_simp; try with_reducible rfl)
            (try simp only [Act.put, List.getElem_toArray, List.getElem_cons_zero, List.getElem_cons_succ, List.setIfInBounds_toArray, List.set_cons_zero, List.set_cons_succ])
            refine wpAnyX_pure (i := 9) (v := ?_) rfl (by kernel_rfl) (by kernel_rfl) (by kernel_rfl) (fun _ _ _ h => h) (Or.inl ⟨by rfl, ?_⟩) ?_
            rotate_left
            · (intro W _; go_simp; try with_reducible rfl)
            (try simp only [Act.put, List.getElem_toArray, List.getElem_cons_zero, List.getElem_cons_succ, List.setIfInBounds_toArray, List.set_cons_zero, List.set_cons_succ])
            refine wpAnyX_pure (i := 10) (v := ?_) rfl (by kernel_rfl) (by kernel_rfl) (by kernel_rfl) (fun _ _ _ h => h) (Or.inl ⟨by rfl, ?_⟩) ?_
            rotate_left
            · (intro W _; go_simp; try with_reducible rfl)
            (try simp only [Act.put, List.getElem_toArray, List.getElem_cons_zero, List.getElem_cons_succ, List.setIfInBounds_toArray, List.set_cons_zero, List.set_cons_succ])
            refine wpAnyX_takeL (L := []) (i := 11) (v := ?_) rfl (by kernel_rfl) (by kernel_rfl) (by kernel_rfl) (by kernel_rfl) (fun _ _ _ h => h) (Or.inl ⟨by rfl, ?_⟩) (HS.out _ hbf) ?_
            rotate_left
            · (intro W hSW; (try dsimp only at hSW); obtain ⟨z0, z1, z2, z3, z4⟩ := hSW; go_simp; try with_reducible rfl)
            (try simp only [Act.put, List.getElem_toArray, List.getElem_cons_zero, List.getElem_cons_succ, List.setIfInBounds_toArray, List.set_cons_zero, List.set_cons_succ])
            refine wpAnyX_one (i := 12) rfl (by kernel_rfl) (fun K hK => ?_)
            go_simp
            go_at_call 52
            refine (HDI.out _ hbf).mono ?_
            rintro r w5 ⟨rfl, b5⟩
            have hbf := bt hbf b5
            clear b5
            refine hK.out _ _ (fun _ _ => HS.out _ hbf) ?_
            (try simp only [Act.put, List.getElem_toArray, List.getElem_cons_zero, List.getElem_cons_succ, List.setIfInBounds_toArray, List.set_cons_zero, List.set_cons_succ])
            refine wpAnyX_pure (i := 13) (v := ?_) rfl (by kernel_rfl) (by kernel_rfl) (by kernel_rfl) (fun _ _ _ h => h) (Or.inl ⟨by rfl, ?_⟩) ?_
            rotate_left
            · (intro W _; go_simp; try with_reducible rfl)
            (try simp only [Act.put, List.getElem_toArray, List.getElem_cons_zero, List.getElem_cons_succ, List.setIfInBounds_toArray, List.set_cons_zero, List.set_cons_succ])
            refine wpAnyX_pure (i := 14) (v := ?_) rfl (by kernel_rfl) (by kernel_rfl) (by kernel_rfl) (fun _ _ _ h => h) (Or.inl ⟨by rfl, ?_⟩) ?_
            rotate_left
            · (intro W _; go_simp; try with_reducible rfl)
            (try simp only [Act.put, List.getElem_toArray, List.getElem_cons_zero, List.getElem_cons_succ, List.setIfInBounds_toArray, List.set_cons_zero, List.set_cons_succ])
            refine wpAnyX_pure (i := 15) (v := ?_) rfl (by kernel_rfl) (by kernel_rfl) (by kernel_rfl) (fun _ _ _ h => h) (Or.inl ⟨by rfl, ?_⟩) ?_
            rotate_left
            · (intro W _; go_simp; try with_reducible rfl)
            (try simp only [Act.put, List.getElem_toArray, List.getElem_cons_zero, List.getElem_cons_succ, List.setIfInBounds_toArray, List.set_cons_zero, List.set_cons_succ])
            refine wpAnyX_done (by kernel_rfl) ?_ _
            have HBF := Lib.hid (bt HBW.out hbf)
            clear hbf
            go_wp2
            go_roundw
            case rel => exact ⟨q + 1, by go_num, by omega, by omega, by rw [HPN.out]; rfl, by rw [HCN.out]; rfl, HBF⟩
            case measure => simp [intOf]; omega
          case true.false =>
            go_wp2
            go_quiet (fail)
            go_upto_region 9 with fail
            have hbf : Below wr.heap.size wr ((wr.drewN nq).drew) := below_drewN (below_drewN (Below.refl _ _) nq) 1
            refine wp_region_heldX (X := fun k => ([] : List Nat).contains k) (S := fun W => W.cell? ⟨w.heap.size, 1, none⟩ = some (.slice (some ⟨b, off, none⟩) n c) ∧ W.cell? ⟨b, off + p * 2, none⟩ = some (.slice A1 n1 c1) ∧ W.cell? ⟨b, off + p * 2 + 1, none⟩ = some (.slice A2 n2 c2) ∧ W.cell? ⟨b, off + q * 2, none⟩ = some (.slice B1 m1 d1) ∧ W.cell? ⟨b, off + q * 2 + 1, none⟩ = some (.slice B2 m2 d2)) (by kernel_rfl) ?_
            refine wpAnyX_pure (i := 0) (v := ?_) rfl (by kernel_rfl) (by kernel_rfl) (by kernel_rfl) (fun _ _ _ h => h) (Or.inl ⟨by rfl, ?_⟩) ?_
            rotate_left
            · (intro W _; go_simp; try with_reducible rfl)
            (try simp only [Act.put, List.getElem_toArray, List.getElem_cons_zero, List.getElem_cons_succ, List.setIfInBounds_toArray, List.set_cons_zero, List.set_cons_succ])
            refine wpAnyX_pure (i := 1) (v := ?_) rfl (by kernel_rfl) (by kernel_rfl) (by kernel_rfl) (fun _ _ _ h => h) (Or.inl ⟨by rfl, ?_⟩) ?_
            rotate_left
            · (intro W _; go_simp; try with_reducible rfl)
            (try simp only [Act.put, List.getElem_toArray, List.getElem_cons_zero, List.getElem_cons_succ, List.setIfInBounds_toArray, List.set_cons_zero, List.set_cons_succ])
            refine wpAnyX_pure (i := 2) (v := ?_) rfl (by kernel_rfl) (by kernel_rfl) (by kernel_rfl) (fun _ _ _ h => h) (Or.inl ⟨by rfl, ?_⟩) ?_
            rotate_left
            · (intro W _; go_simp; try with_reducible rfl)
            (try simp only [Act.put, List.getElem_toArray, List.getElem_cons_zero, List.getElem_cons_succ, List.setIfInBounds_toArray, List.set_cons_zero, List.set_cons_succ])
            refine wpAnyX_takeL (L := []) (i := 3) (v := ?_) rfl (by kernel_rfl) (by kernel_rfl) (by kernel_rfl) (by kernel_rfl) (fun _ _ _ h => h) (Or.inl ⟨by rfl, ?_⟩) (HS.out _ hbf) ?_
            rotate_left
            · (intro W hSW; (try dsimp only at hSW); obtain ⟨z0, z1, z2, z3, z4⟩ := hSW; go_simp; try with_reducible rfl)
            (try simp only [Act.put, List.getElem_toArray, List.getElem_cons_zero, List.getElem_cons_succ, List.setIfInBounds_toArray, List.set_cons_zero, List.set_cons_succ])
            refine wpAnyX_pure (i := 4) (v := ?_) rfl (by kernel_rfl) (by kernel_rfl) (by kernel_rfl) (fun _ _ _ h => h) (Or.inl ⟨by rfl, ?_⟩) ?_
            rotate_left
            · (intro W _; go_simp; try with_reducible rfl)
            (try simp only [Act.put, List.getElem_toArray, List.getElem_cons_zero, List.getElem_cons_succ, List.setIfInBounds_toArray, List.set_cons_zero, List.set_cons_succ])
            refine wpAnyX_pure (i := 5) (v := ?_) rfl (by kernel_rfl) (by kernel_rfl) (by kernel_rfl) (fun _ _ _ h => h) (Or.inl ⟨by rfl, ?_⟩) ?_
            rotate_left
            · (intro W _; go_simp; try with_reducible rfl)
            (try simp only [Act.put, List.getElem_toArray, List.getElem_cons_zero, List.getElem_cons_succ, List.setIfInBounds_toArray, List.set_cons_zero, List.set_cons_succ])
            refine wpAnyX_takeL (L := []) (i := 6) (v := ?_) rfl (by kernel_rfl) (by kernel_rfl) (by kernel_rfl) (by kernel_rfl) (fun _ _ _ h => h) (Or.inl ⟨by rfl, ?_⟩) (HS.out _ hbf) ?_
            rotate_left
            · (intro W hSW; (try dsimp only at hSW); obtain ⟨z0, z1, z2, z3, z4⟩ := hSW; go_simp; try with_reducible rfl)
            (try simp only [Act.put, List.getElem_toArray, List.getElem_cons_zero, List.getElem_cons_succ, List.setIfInBounds_toArray, List.set_cons_zero, List.set_cons_succ])
            refine wpAnyX_pure (i := 7) (v := ?_) rfl (by kernel_rfl) (by kernel_rfl) (by kernel_rfl) (fun _ _ _ h => h) (Or.inl ⟨by rfl, ?_⟩) ?_
            rotate_left
            · (intro W _; go_simp; try with_reducible rfl)
            (try simp only [Act.put, List.getElem_toArray, List.getElem_cons_zero, List.getElem_cons_succ, List.setIfInBounds_toArray, List.set_cons_zero, List.set_cons_succ])
            refine wpAnyX_takeL (L := []) (i := 8) (v := ?_) rfl (by kernel_rfl) (by kernel_rfl) (by kernel_rfl) (by kernel_rfl) (fun _ _ _ h => h) (Or.inl ⟨by rfl, ?_⟩) (HS.out _ hbf) ?_
            rotate_left
            · (intro W hSW; (try dsimp only at hSW); obtain ⟨z0, z1, z2, z3, z4⟩ := hSW; go_simp; try with_reducible rfl)
            (try simp only [Act.put, List.getElem_toArray, List.getElem_cons_zero, List.getElem_cons_succ, List.setIfInBounds_toArray, List.set_cons_zero, List.set_cons_succ])
            refine wpAnyX_pure (i := 9) (v := ?_) rfl (by kernel_rfl) (by kernel_rfl) (by kernel_rfl) (fun _ _ _ h => h) (Or.inl ⟨by rfl, ?_⟩) ?_
            rotate_left
            · (intro W _; go_simp; try with_reducible rfl)
            (try simp only [Act.put, List.getElem_toArray, List.getElem_cons_zero, List.getElem_cons_succ, List.setIfInBounds_toArray, List.set_cons_zero, List.set_cons_succ])
            refine wpAnyX_pure (i := 10) (v := ?_) rfl (by kernel_rfl) (by kernel_rfl) (by kernel_rfl) (fun _ _ _ h => h) (Or.inl ⟨by rfl, ?_⟩) ?_
            rotate_left
            · (intro W _; go_simp; try with_reducible rfl)
            (try simp only [Act.put, List.getElem_toArray, List.getElem_cons_zero, List.getElem_cons_succ, List.setIfInBounds_toArray, List.set_cons_zero, List.set_cons_succ])
            refine wpAnyX_takeL (L := []) (i := 11) (v := ?_) rfl (by kernel_rfl) (by kernel_rfl) (by kernel_rfl) (by kernel_rfl) (fun _ _ _ h => h) (Or.inl ⟨by rfl, ?_⟩) (HS.out _ hbf) ?_
            rotate_left
            · (intro W hSW; (try dsimp only at hSW); obtain ⟨z0, z1, z2, z3, z4⟩ := hSW; go_simp; try with_reducible rfl)
            (try simp only [Act.put, List.getElem_toArray, List.getElem_cons_zero, List.getElem_cons_succ, List.setIfInBounds_toArray, List.set_cons_zero, List.set_cons_succ])
            refine wpAnyX_one (i := 12) rfl (by kernel_rfl) (fun K hK => ?_)
            go_simp
            go_at_call 52
            refine (HDI.out _ hbf).mono ?_
            rintro r w5 ⟨rfl, b5⟩
            have hbf := bt hbf b5
            clear b5
            refine hK.out _ _ (fun _ _ => HS.out _ hbf) ?_
            (try simp only [Act.put, List.getElem_toArray, List.getElem_cons_zero, List.getElem_cons_succ, List.setIfInBounds_toArray, List.set_cons_zero, List.set_cons_succ])
            refine wpAnyX_pure (i := 13) (v := ?_) rfl (by kernel_rfl) (by kernel_rfl) (by kernel_rfl) (fun _ _ _ h => h) (Or.inl ⟨by rfl, ?_⟩) ?_
            rotate_left
            · (intro W _; go_simp; try with_reducible rfl)
            (try simp only [Act.put, List.getElem_toArray, List.getElem_cons_zero, List.getElem_cons_succ, List.setIfInBounds_toArray, List.set_cons_zero, List.set_cons_succ])
            refine wpAnyX_pure (i := 14) (v := ?_) rfl (by kernel_rfl) (by kernel_rfl) (by kernel_rfl) (fun _ _ _ h => h) (Or.inl ⟨by rfl, ?_⟩) ?_
            rotate_left
            · (intro W _; go_simp; try with_reducible rfl)
            (try simp only [Act.put, List.getElem_toArray, List.getElem_cons_zero, List.getElem_cons_succ, List.setIfInBounds_toArray, List.set_cons_zero, List.set_cons_succ])
            refine wpAnyX_pure (i := 15) (v := ?_) rfl (by kernel_rfl) (by kernel_rfl) (by kernel_rfl) (fun _ _ _ h => h) (Or.inl ⟨by rfl, ?_⟩) ?_
            rotate_left
            · (intro W _; go_simp; try with_reducible rfl)
            (try simp only [Act.put, List.getElem_toArray, List.getElem_cons_zero, List.getElem_cons_succ, List.setIfInBounds_toArray, List.set_cons_zero, List.set_cons_succ])
            refine wpAnyX_done (by kernel_rfl) ?_ _
            have HBF := Lib.hid (bt HBW.out hbf)
            clear hbf
            go_wp2
            go_roundw
            case rel => exact ⟨q + 1, by go_num, by omega, by omega, by rw [HPN.out]; rfl, by rw [HCN.out]; rfl, HBF⟩
            case measure => simp [intOf]; omega
          case false.true =>
            go_wp2
            go_quiet ((go_at_call 48; exact Calls.quiet_of (HHP.out _)))
            go_wp2
            go_quiet (fail)
            go_wp2
            go_roundw
            case rel => exact ⟨q + 1, by go_num, by omega, by omega, by rw [HPN.out]; rfl, by rw [HCN.out]; rfl, Lib.hid (bt HBW.out (by first | exact below_drewN (Below.refl _ _) _ | exact below_drewN (below_drewN (Below.refl _ _) _) _))⟩
            case measure => simp [intOf]; omega
          case true.true =>
            go_wp2
            go_quiet (fail)
            go_wp2
            go_quiet (fail)
            go_wp2
            go_roundw
            case rel => exact ⟨q + 1, by go_num, by omega, by omega, by rw [HPN.out]; rfl, by rw [HCN.out]; rfl, Lib.hid (bt HBW.out (by first | exact below_drewN (Below.refl _ _) _ | exact below_drewN (below_drewN (Below.refl _ _) _) _))⟩
            case measure => simp [intOf]; omega
        · obtain rfl : q = n := by omega
          obtain ⟨x, hx⟩ : ∃ x, x = pfB ts p q := ⟨_, rfl⟩
          obtain ⟨y, hy⟩ : ∃ y, y = clB ts p q := ⟨_, rfl⟩
          rw [← hx, ← hy]
          have HXX := Lib.hid hx
          have HYY := Lib.hid hy
          clear hx hy
          cases x
          case true =>
            go_wp2
            go_ret
            exact ⟨7, rfl, .inr ⟨p, by rw [HLT.out]; exact hpq, ap_no HLT.out HP.out, .inl ⟨pfB_yes (by rw [HLT.out]; exact Nat.le_refl _) HXX.out.symm, rfl⟩⟩, bt HB0.out HBW.out⟩
          case false =>
            cases y
            case true =>
              go_wp2
              go_ret
              exact ⟨13, rfl, .inr ⟨p, by rw [HLT.out]; exact hpq, ap_no HLT.out HP.out, .inr ⟨pfB_nop HLT.out HXX.out.symm, clB_yes (by rw [HLT.out]; exact Nat.le_refl _) HYY.out.symm, rfl⟩⟩, bt HB0.out HBW.out⟩
            case false =>
              have HP2 := Lib.hid (show ∀ a b, a < b → b < q → a < p + 1 → ¬ cmn (tIn ts b) (tIn ts a) = (tIn ts a).length ∧ ∀ j, j < cmn (tIn ts a) (tIn ts b) → (tOut ts a).getD j 0 = (tOut ts b).getD j 0 from fun a b h1 h2 h3 => by
                rcases Nat.lt_or_ge a p with h4 | h4
                · exact HP.out a b h1 h2 h4
                · obtain rfl : a = p := by omega
                  exact ⟨pfB_no HXX.out.symm h1 h2, clB_no HYY.out.symm h1 h2⟩)
              go_wp2
              go_roundw
              case rel => exact ⟨p + 1, by go_num, by omega, HP2, HBW⟩
              case measure => simp [intOf]; omega
    · obtain rfl : p = n := by omega
      go_wp2
      go_ret
      exact ⟨0, rfl, .inl ⟨rfl, fun j hj => ap_no HLT.out HP.out j (by rw [← HLT.out]; exact hj)⟩, bt HB0.out HBR.out⟩

set_option linter.unusedSimpArgs false in
set_option linter.unusedVariables false in
set_option maxHeartbeats 8000000 in
set_option maxRecDepth 100000 in
theorem rvalidX (i : Int) (T : Option Addr) (n c : Nat) (ts : TSr) (w : World) (hT : Trs w T n ts) :
    Calls Try.prog 15 #[.agg #[.int .i64 i, .slice T n c]] w fun e w' => ∃ v : Int, e = .returned (.int .i64 v) ∧ VldL i ts v ∧ Below w.heap.size w w' := by
  obtain ⟨w0, hw0⟩ : ∃ w0, w0 = w.alloc (.cells #[.int .i64 i, .slice T n c] 24) := ⟨_, rfl⟩
  have hb0 : Below w.heap.size w w0 := by rw [hw0]; exact alloc_below _ _
  have m0 : Bx w0 w.heap.size #[.int .i64 i, .slice T n c] 24 := by rw [hw0]; exact bx_new _ _ _
  have HM := Lib.hid (fun (W : World) (h : Below w0.heap.size w0 W) => m0.on h)
  have HT := Lib.hid (fun (W : World) (h : Below w0.heap.size w0 W) => (hT.below hb0).below h)
  have HB0 := Lib.hid hb0
  have HW0 := Lib.hid hw0
  have HLT := Lib.hid hT.1
  have hn := hT.2.1
  have k0 := m0.cell 0
  have k1 := m0.cell 1
  simp at k0 k1
  rw [hw0] at k0 k1
  clear hw0 hb0 m0 hT
  by_cases hi1 : i < 1
  · go_enter Try.func15, Try.ntmps15
    go_wp2
    rw [← HW0.out]
    go_ret
    exact ⟨2, rfl, .inl ⟨by omega, rfl⟩, HB0.out⟩
  by_cases hi2 : 64 < i
  · go_enter Try.func15, Try.ntmps15
    go_wp2
    rw [← HW0.out]
    go_ret
    exact ⟨2, rfl, .inl ⟨by omega, rfl⟩, HB0.out⟩
  by_cases hbig : 10000 < n
  · have hbI : (10000 : Int) < (n : Int) := by omega
    go_enter Try.func15, Try.ntmps15
    go_wp2
    rw [← HW0.out]
    go_ret
    exact ⟨11, rfl, .inr (.inl ⟨by omega, by rw [HLT.out]; exact hbig, rfl⟩), HB0.out⟩
  have hbI : ¬ (10000 : Int) < (n : Int) := by omega
  have HI := Lib.hid (show 1 ≤ i ∧ i ≤ 64 by omega)
  have HNB := Lib.hid (show n ≤ 10000 by omega)
  go_enter Try.func15, Try.ntmps15
  go_wp2
  rw [← HW0.out]
  clear k0 k1
  go_loopw [3] (fun v3 wr => ∃ k : Nat, v3 = .int .i64 k ∧ k ≤ n ∧ Hid (∀ j, j < k → prpE (tIn ts j) (tOut ts j) i = 0 ∧ 0 < (tIn ts j).length ∧ (0 < j → shlex (tIn ts (j - 1)) (tIn ts j) < 0)) ∧ Hid (Below w0.heap.size w0 wr)) (fun v3 _ => n - (intOf v3).toNat)
  case atStart => exact ⟨0, rfl, Nat.zero_le _, Lib.hid (fun j h => absurd h (Nat.not_lt_zero j)), Lib.hid (Below.refl _ _)⟩
  case round =>
    obtain ⟨k, rfl, hk, HP, HBR⟩ := hrel
    by_cases hlt : k < n
    · obtain ⟨b, off, A1, n1, c1, A2, n2, c2, rfl, hgb, j1, j2, _, _, j3, j4⟩ := (HT.out _ HBR.out).at_ hlt
      obtain ⟨wa, hwa⟩ : ∃ wa, wa = wr.alloc (.cells #[.slice A1 n1 c1, .slice A2 n2 c2] 38) := ⟨_, rfl⟩
      have hal : Below wr.heap.size wr wa := by rw [hwa]; exact alloc_below _ _
      have hbx : Bx wa wr.heap.size #[.slice A1 n1 c1, .slice A2 n2 c2] 38 := by rw [hwa]; exact bx_new _ _ _
      have z1 := (HM.out _ HBR.out).cell 1
      have k0 := (HM.out _ (bt HBR.out hal)).cell 0
      have k1 := (HM.out _ (bt HBR.out hal)).cell 1
      have x0 := hbx.cell 0
      have x1 := hbx.cell 1
      simp at z1 k0 k1 x0 x1
      have HRC := Lib.hid (rcheck A1 n1 c1 i (tIn ts k) wa (j3.below hal))
      have HRP := Lib.hid (rproper A1 A2 n1 c1 n2 c2 i (tIn ts k) (tOut ts k) wa (j3.below hal) (j4.below hal))
      have HWA := Lib.hid hwa
      have HBA := Lib.hid (bt HBR.out hal)
      have HBX := Lib.hid hbx
      have HL1 := Lib.hid j3.1
      rw [hwa] at k0 k1 x0 x1
      clear hwa hal hbx j3 j4 hgb
      by_cases hc : chk (tIn ts k) i = 0
      case neg =>
        obtain ⟨E, hE⟩ : ∃ E, E = chk (tIn ts k) i := ⟨_, rfl⟩
        rw [← hE] at HRC hc
        have hne : (E != 0) = true := by simpa using hc
        have HNE := Lib.hid hc
        have HEE := Lib.hid hE
        clear hE hc
        go_wp2_with fail
        rw [← HWA.out]
        refine HRC.out.mono ?_
        rintro r w1 ⟨rfl, rfl⟩
        go_wp2
        go_ret
        exact ⟨E, rfl, bad_chk HI.out HLT.out HNB.out hlt HP.out HEE.out HNE.out, bt HB0.out HBA.out⟩
      rw [hc] at HRC
      by_cases h0 : n1 = 0
      · subst h0
        have HCC := Lib.hid hc
        clear hc
        go_wp2_with fail
        rw [← HWA.out]
        refine HRC.out.mono ?_
        rintro r w1 ⟨rfl, rfl⟩
        rw [← HWA.out] at k0 k1 x0 x1
        go_wp2
        go_ret
        exact ⟨19, rfl, bad_nil HI.out HLT.out HNB.out hlt HP.out HCC.out HL1.out, bt HB0.out HBA.out⟩
      have h0f : ((n1 : Int) == 0) = false := by rw [beq_eq_false_iff_ne]; omega
      by_cases hp : prpE (tIn ts k) (tOut ts k) i = 0
      case neg =>
        obtain ⟨E, hE⟩ : ∃ E, E = prpE (tIn ts k) (tOut ts k) i := ⟨_, rfl⟩
        rw [← hE] at HRP hp
        have hne : (E != 0) = true := by simpa using hp
        have HNE := Lib.hid hp
        have HEE := Lib.hid hE
        have HCC := Lib.hid hc
        clear hE hp hc
        go_wp2_with fail
        rw [← HWA.out]
        refine HRC.out.mono ?_
        rintro r w1 ⟨rfl, rfl⟩
        rw [← HWA.out] at k0 k1 x0 x1
        go_wp2_with fail
        refine HRP.out.mono ?_
        rintro r w2 ⟨rfl, a2⟩
        clear k0 k1 x0 x1
        have HB2 := Lib.hid (bt HBA.out a2)
        clear a2
        go_wp2
        go_ret
        exact ⟨E, rfl, bad_prp HI.out HLT.out HNB.out hlt HP.out HCC.out (by rw [HL1.out]; exact h0) HEE.out HNE.out, bt HB0.out HB2.out⟩
      rw [hp] at HRP
      have HPP := Lib.hid hp
      clear hp hc
      by_cases hk0 : k = 0
      · have hkz : ¬ 0 < k := by omega
        have HK0 := Lib.hid hk0
        clear hk0
        go_wp2_with fail
        rw [← HWA.out]
        refine HRC.out.mono ?_
        rintro r w1 ⟨rfl, rfl⟩
        rw [← HWA.out] at k0 k1 x0 x1
        go_wp2_with fail
        refine HRP.out.mono ?_
        rintro r w2 ⟨rfl, a2⟩
        clear k0 k1 x0 x1
        have HB2 := Lib.hid (bt HBA.out a2)
        have HP2 := Lib.hid (show ∀ j, j < k + 1 → prpE (tIn ts j) (tOut ts j) i = 0 ∧ 0 < (tIn ts j).length ∧ (0 < j → shlex (tIn ts (j - 1)) (tIn ts j) < 0) from fun j hj => by
          have hk0 := HK0.out
          obtain rfl : j = k := by omega
          exact ⟨HPP.out, by rw [HL1.out]; omega, fun h => absurd h (by omega)⟩)
        clear a2
        go_wp2
        go_quiet (fail)
        go_wp2
        go_roundw
        case rel => exact ⟨k + 1, by go_num, by omega, HP2, Lib.hid (below_drewN HB2.out _)⟩
        case measure => simp [intOf]; omega
      · obtain ⟨kp, hkp⟩ : ∃ kp, k = kp + 1 := ⟨k - 1, by omega⟩
        have hkpos : 0 < k := by omega
        have hw1 : IntKind.i64.wrap ((k : Int) - 1) = (kp : Int) := by rw [IntKind.wrap_i64]; omega
        have hkI : (kp : Int) < (n : Int) := by omega
        have hk0I : (0 : Int) ≤ (kp : Int) := by omega
        have HKP := Lib.hid hkp
        have hkpn : kp < n := by omega
        clear hkp
        go_wp2_with fail
        rw [← HWA.out]
        refine HRC.out.mono ?_
        rintro r w1 ⟨rfl, rfl⟩
        rw [← HWA.out] at k0 k1 x0 x1
        go_wp2_with fail
        refine HRP.out.mono ?_
        rintro r w2 ⟨rfl, a2⟩
        have hb2 := bt HBA.out a2
        clear k0 k1 x0 x1 z1
        have k1 := (HM.out _ hb2).cell 1
        have x0 := (HBX.out.on a2).cell 0
        simp at k1 x0
        obtain ⟨_, _, B1, m1, d1, B2, m2, d2, eT, _, i1, _, _, _, i3, _⟩ := (HT.out _ hb2).at_ hkpn
        cases eT
        obtain ⟨_, _, D1, p1, f1, D2, p2, f2, eT, _, g1, _, _, _, g3, _⟩ := (HT.out _ hb2).at_ hlt
        cases eT
        have e1 : (Value.slice A1 n1 c1) = .slice D1 p1 f1 := by
          have hgw : b < w0.heap.size := by
            obtain ⟨_, _, _, _, _, _, _, _, eQ, hq, _⟩ := (HT.out _ (Below.refl _ _)).at_ hlt
            cases eQ
            exact hq
          have h5 := hb2.cell (p := ⟨b, off + k * 2, none⟩) hgw
          have h6 := HBR.out.cell (p := ⟨b, off + k * 2, none⟩) hgw
          have h7 := h5.trans (h6.symm.trans j1)
          rw [g1] at h7
          cases h7
          rfl
        cases e1
        have HCP := Lib.hid (fun u => rcompare B1 A1 m1 d1 n1 c1 (tIn ts kp) (tIn ts k) (w2.drewN u) (i3.drewN u) (g3.drewN u))
        have HB2 := Lib.hid hb2
        clear a2 hb2 i3 g3 g1
        obtain ⟨s, hs⟩ : ∃ s, s = shlex (tIn ts kp) (tIn ts k) := ⟨_, rfl⟩
        rw [← hs] at HCP
        have HSS := Lib.hid hs
        clear hs
        by_cases hsn : 0 ≤ s
        · have HSN := Lib.hid hsn
          go_wp2
          go_quiet ((go_at_call 40; exact Calls.quiet_of (HCP.out _)))
          go_wp2
          go_ret
          exact ⟨10, rfl, bad_ord HI.out HLT.out HNB.out hlt HP.out HPP.out (by rw [HL1.out]; omega) HKP.out HSS.out HSN.out, bt HB0.out (below_drewN HB2.out _)⟩
        · have HP2 := Lib.hid (show ∀ j, j < k + 1 → prpE (tIn ts j) (tOut ts j) i = 0 ∧ 0 < (tIn ts j).length ∧ (0 < j → shlex (tIn ts (j - 1)) (tIn ts j) < 0) from fun j hj => by
            rcases Nat.lt_or_ge j k with h | h
            · exact HP.out j h
            · obtain rfl : j = k := by omega
              refine ⟨HPP.out, by rw [HL1.out]; omega, fun _ => ?_⟩
              rw [show j - 1 = kp by have := HKP.out; omega, ← HSS.out]
              omega)
          go_wp2
          go_quiet ((go_at_call 40; exact Calls.quiet_of (HCP.out _)))
          go_wp2
          go_roundw
          case rel => exact ⟨k + 1, by go_num, by omega, HP2, Lib.hid (below_drewN HB2.out _)⟩
          case measure => simp [intOf]; omega
    · obtain rfl : k = n := by omega
      have HPR := Lib.hid (show Props i ts from fun j hj => (HP.out j (by rw [← HLT.out]; exact hj)).1)
      have HFU := Lib.hid (show Full ts from fun j hj => (prp_zero (HPR.out j hj)).2.1)
      have HRA := Lib.hid (rapartX i T k c ts wr (HT.out _ HBR.out) HFU.out)
      have k0 := (HM.out _ HBR.out).cell 0
      have k1 := (HM.out _ HBR.out).cell 1
      simp at k0 k1
      go_wp2_with fail
      refine HRA.out.mono ?_
      rintro r w2 ⟨v, rfl, hv, a2⟩
      have HB2 := Lib.hid (bt HBR.out a2)
      clear a2 k0 k1
      go_wp2
      go_ret
      exact ⟨v, rfl, .inr (.inr (.inr ⟨HI.out, by rw [HLT.out]; exact HNB.out, lstK_of (fun j hj => HP.out j (by rw [← HLT.out]; exact hj)), hv⟩)), bt HB0.out HB2.out⟩
end Go.Proofs.Ytkkmcgapbcikiaa
end

section
/- The law ObserveValid: the walk. -/
namespace Go.Proofs.Ytkkmcgapbcikiaa
open Go.RowKit

/-- What New gives: the number of inputs and the error. -/
def newJ (i : Int) : Int := if 1 ≤ i ∧ i ≤ 64 then i else 0
def newE (i : Int) : Int := if 1 ≤ i ∧ i ≤ 64 then 0 else 2
theorem pnewE (i : Int) (w : World) : Calls Try.prog 12 #[.int .i64 i] w fun r w' => r = .returned (.tuple #[.agg #[.int .i64 (newJ i), .slice none 0 0], .int .i64 (newE i)]) ∧ Below w.heap.size w w' := by
  refine (pnew16 i w).mono ?_
  rintro r w' ⟨hb, ⟨h1, h2, rfl⟩ | ⟨h, rfl⟩⟩
  · exact ⟨by unfold newJ newE; rw [if_pos ⟨h1, h2⟩, if_pos ⟨h1, h2⟩], hb⟩
  · exact ⟨by unfold newJ newE; rw [if_neg h, if_neg h], hb⟩
set_option linter.unusedSimpArgs false in
set_option linter.unusedVariables false in
set_option maxHeartbeats 2000000 in
theorem rnewE (i : Int) (w : World) : Calls Try.prog 13 #[.int .i64 i] w fun r w' => r = .returned (.tuple #[.agg #[.int .i64 (newJ i), .slice none 0 0], .int .i64 (newE i)]) ∧ Below w.heap.size w w' := by
  by_cases h1 : 1 ≤ i
  · by_cases h2 : i ≤ 64
    · obtain ⟨w1, hw1⟩ : ∃ w1, w1 = w.alloc (.cells #[.int .i64 i, .slice none 0 0] 24) := ⟨_, rfl⟩
      have HB := Lib.hid (show Below w.heap.size w w1 by rw [hw1]; exact alloc_below _ _)
      have HR := Lib.hid (show Bx w1 w.heap.size #[.int .i64 i, .slice none 0 0] 24 by rw [hw1]; exact bx_new _ _ _)
      have HW1 := Lib.hid hw1
      have h3 : ¬ i < 1 := by omega
      have h4 : ¬ 64 < i := by omega
      have HJ := Lib.hid (show newJ i = i ∧ newE i = 0 by unfold newJ newE; rw [if_pos ⟨h1, h2⟩, if_pos ⟨h1, h2⟩]; exact ⟨rfl, rfl⟩)
      clear hw1 h1 h2
      rw [HJ.out.1, HJ.out.2]
      go_enter Try.func13, Try.ntmps13
      go_wp2_with fail
      rw [← HW1.out]
      (try rw [Exit.noGoto_ret])
      refine bodyPost_ret (results_obs_tmp rfl _ _ w.heap.size (.int .i64 i) (.slice none 0 0) rfl HR.out) rfl ?_
      exact ⟨rfl, HB.out⟩
    · obtain ⟨w1, hw1⟩ : ∃ w1, w1 = w.alloc (.cells #[.int .i64 0, .slice none 0 0] 24) := ⟨_, rfl⟩
      have HB := Lib.hid (show Below w.heap.size w w1 by rw [hw1]; exact alloc_below _ _)
      have HR := Lib.hid (show Bx w1 w.heap.size #[.int .i64 0, .slice none 0 0] 24 by rw [hw1]; exact bx_new _ _ _)
      have HW1 := Lib.hid hw1
      have h3 : ¬ i < 1 := by omega
      have h4 : 64 < i := by omega
      have HJ := Lib.hid (show newJ i = 0 ∧ newE i = 2 by unfold newJ newE; rw [if_neg (by omega), if_neg (by omega)]; exact ⟨rfl, rfl⟩)
      clear hw1 h1 h2
      rw [HJ.out.1, HJ.out.2]
      go_enter Try.func13, Try.ntmps13
      go_wp2_with fail
      rw [← HW1.out]
      (try rw [Exit.noGoto_ret])
      refine bodyPost_ret (results_obs_tmp rfl _ _ w.heap.size (.int .i64 0) (.slice none 0 0) rfl HR.out) rfl ?_
      exact ⟨rfl, HB.out⟩
  · obtain ⟨w1, hw1⟩ : ∃ w1, w1 = w.alloc (.cells #[.int .i64 0, .slice none 0 0] 24) := ⟨_, rfl⟩
    have HB := Lib.hid (show Below w.heap.size w w1 by rw [hw1]; exact alloc_below _ _)
    have HR := Lib.hid (show Bx w1 w.heap.size #[.int .i64 0, .slice none 0 0] 24 by rw [hw1]; exact bx_new _ _ _)
    have HW1 := Lib.hid hw1
    have h3 : i < 1 := by omega
    have HJ := Lib.hid (show newJ i = 0 ∧ newE i = 2 by unfold newJ newE; rw [if_neg (by omega), if_neg (by omega)]; exact ⟨rfl, rfl⟩)
    clear hw1 h1
    rw [HJ.out.1, HJ.out.2]
    go_enter Try.func13, Try.ntmps13
    go_wp2_with fail
    rw [← HW1.out]
    (try rw [Exit.noGoto_ret])
    refine bodyPost_ret (results_obs_tmp rfl _ _ w.heap.size (.int .i64 0) (.slice none 0 0) rfl HR.out) rfl ?_
    exact ⟨rfl, HB.out⟩
/-- Same of equal observations, by the program. -/
theorem psame_eq16 (i : Int) (A B : Option Addr) (n c m d : Nat) (ts : TSr) (w : World) (hx : Trs w A n ts) (hy : Trs w B m ts) :
    Calls Try.prog 16 #[.agg #[.int .i64 i, .slice A n c], .agg #[.int .i64 i, .slice B m d]] w fun e w' => e = .returned (.bool true) ∧ Below w.heap.size w w' := by
  refine (psame16 i i A B n c m d ts ts w hx hy).mono ?_
  rintro r w' ⟨rfl, h⟩
  exact ⟨by rw [decide_eq_true ⟨rfl, rfl⟩], h⟩

set_option linter.unusedSimpArgs false in
set_option linter.unusedVariables false in
set_option maxHeartbeats 16000000 in
set_option maxRecDepth 100000 in
theorem valid16_walk (i j inp : Int) (T U : Option Addr) (tn tc un uc : Nat) (ts us : TSr) (w : World) (hT : Trs w T tn ts) (htc : tn ≤ tc) (hU : Trs w U un us) (huc : un ≤ uc) :
    Calls Try.prog 3 #[.agg #[.int .i64 i, .slice T tn tc], .agg #[.int .i64 j, .slice U un uc], .int .i64 inp] w fun r w' => r = .returned (.bool true) ∧ Below w.heap.size w w' := by
  obtain ⟨w0, hw0⟩ : ∃ w0, w0 = (w.alloc (.cells #[.int .i64 i, .slice T tn tc] 24)).alloc (.cells #[.int .i64 j, .slice U un uc] 24) := ⟨_, rfl⟩
  obtain ⟨hb0, m1, m2, hs0⟩ := bxs2 w #[.int .i64 i, .slice T tn tc] #[.int .i64 j, .slice U un uc] 24 24 w0 hw0
  have HM1 := Lib.hid (fun (W : World) (h : Below w0.heap.size w0 W) => m1.on h)
  have HM2 := Lib.hid (fun (W : World) (h : Below w0.heap.size w0 W) => m2.on h)
  have HT := Lib.hid (fun (W : World) (h : Below w0.heap.size w0 W) => (hT.below hb0).below h)
  have HU := Lib.hid (fun (W : World) (h : Below w0.heap.size w0 W) => (hU.below hb0).below h)
  have HB0 := Lib.hid hb0
  have HW0 := Lib.hid hw0
  have hbc := Below.refl w0.heap.size w0
  have k0 := (HM1.out _ hbc).cell 0
  have k1 := (HM1.out _ hbc).cell 1
  have l0 := (HM2.out _ hbc).cell 0
  have l1 := (HM2.out _ hbc).cell 1
  simp at k0 k1 l0 l1
  rw [HW0.out] at k0 k1 l0 l1
  clear hw0 hb0 m1 m2 hs0 hT hU
  go_enter Try.func3, Try.ntmps3
  go_wp2_with fail
  rw [← HW0.out]
  refine (rgreat16 i T tn tc ts w0 (HT.out _ hbc)).mono ?_
  rintro r w1 ⟨b1, rfl, hg1, a1⟩
  have hbc := bt hbc a1
  clear a1 k0 k1 l0 l1 hg1
  cases b1
  case true =>
    go_wp2_with fail
    refine (awake16 _).mono ?_
    rintro r w9 ⟨rfl, a9⟩
    go_wp2
    go_ret
    exact ⟨rfl, bt HB0.out (bt hbc a9)⟩
  have k0 := (HM1.out _ hbc).cell 0
  have k1 := (HM1.out _ hbc).cell 1
  have l0 := (HM2.out _ hbc).cell 0
  have l1 := (HM2.out _ hbc).cell 1
  simp at k0 k1 l0 l1
  go_wp2_with fail
  refine (rgreat16 j U un uc us w1 (HU.out _ hbc)).mono ?_
  rintro r w2 ⟨b1, rfl, hg1, a2⟩
  have hbc := bt hbc a2
  clear a2 k0 k1 l0 l1 hg1
  cases b1
  case true =>
    go_wp2_with fail
    refine (awake16 _).mono ?_
    rintro r w9 ⟨rfl, a9⟩
    go_wp2
    go_ret
    exact ⟨rfl, bt HB0.out (bt hbc a9)⟩
  obtain ⟨J, hJ⟩ : ∃ J, J = newJ inp := ⟨_, rfl⟩
  obtain ⟨E, hE⟩ : ∃ E, E = newE inp := ⟨_, rfl⟩
  have HP0 := fun W => pnewE inp W
  have HR0 := fun W => rnewE inp W
  rw [← hJ, ← hE] at HP0 HR0
  have HPN := Lib.hid HP0
  have HRN := Lib.hid HR0
  clear HP0 HR0 hJ hE
  go_wp2_with fail
  refine (HPN.out w2).mono ?_
  rintro r w4 ⟨rfl, a4⟩
  have hbc := bt hbc a4
  obtain ⟨w5, hw5⟩ : ∃ w5, w5 = w4.alloc (.cells #[.int .i64 J, .slice none 0 0] 24) := ⟨_, rfl⟩
  obtain ⟨g5, hg5⟩ : ∃ g5, g5 = w4.heap.size := ⟨_, rfl⟩
  have hal : Below w4.heap.size w4 w5 := by rw [hw5]; exact alloc_below _ _
  have m5 : Bx w5 g5 #[.int .i64 J, .slice none 0 0] 24 := by rw [hw5, hg5]; exact bx_new _ _ _
  have hbc5 := bt hbc hal
  have HM5 := Lib.hid (fun (W : World) (h : Below w5.heap.size w5 W) => m5.on h)
  have HW5 := Lib.hid hw5
  have HG5 := Lib.hid hg5
  clear a4 hw5 hg5 hal m5 hbc
  have hbc := hbc5
  clear hbc5
  go_wp2_with fail
  rw [← HW5.out, ← HG5.out]
  refine (HRN.out w5).mono ?_
  rintro r w6 ⟨rfl, a6⟩
  have hbc := bt hbc a6
  obtain ⟨w7, hw7⟩ : ∃ w7, w7 = w6.alloc (.cells #[.int .i64 J, .slice none 0 0] 24) := ⟨_, rfl⟩
  obtain ⟨g7, hg7⟩ : ∃ g7, g7 = w6.heap.size := ⟨_, rfl⟩
  have hal : Below w6.heap.size w6 w7 := by rw [hw7]; exact alloc_below _ _
  have m7 : Bx w7 g7 #[.int .i64 J, .slice none 0 0] 24 := by rw [hw7, hg7]; exact bx_new _ _ _
  have h57 := bt a6 hal
  have hbc7 := bt hbc hal
  have HBC := Lib.hid hbc7
  have HS := Lib.hid (show ∀ W, Below w7.heap.size w7 W → Bx W w.heap.size #[.int .i64 i, .slice T tn tc] 24 ∧ Bx W (w.heap.size + 1) #[.int .i64 j, .slice U un uc] 24 ∧ Bx W g5 #[.int .i64 J, .slice none 0 0] 24 ∧ Bx W g7 #[.int .i64 J, .slice none 0 0] 24 from fun W h => ⟨HM1.out _ (bt hbc7 h), HM2.out _ (bt hbc7 h), HM5.out _ (bt h57 h), m7.on h⟩)
  have HW7 := Lib.hid hw7
  have HG7 := Lib.hid hg7
  obtain ⟨B, hB⟩ : ∃ B, B = decide (i = j ∧ ts = us) := ⟨_, rfl⟩
  have hs1 := fun (W : World) (h : Below w7.heap.size w7 W) => psame16 i j T U tn tc un uc ts us W (HT.out _ (bt hbc7 h)) (HU.out _ (bt hbc7 h))
  have hs2 := fun (W : World) (h : Below w7.heap.size w7 W) => rsame16 i j T U tn tc un uc ts us W (HT.out _ (bt hbc7 h)) (HU.out _ (bt hbc7 h))
  rw [← hB] at hs1 hs2
  have HS1 := Lib.hid hs1
  have HS2 := Lib.hid hs2
  clear a6 hw7 hg7 hal m7 hbc hbc7 h57 hB hs1 hs2
  go_upto_region 5 with fail
  rw [← HW7.out, ← HG7.out]
  have hbf : Below w7.heap.size w7 w7.drew := below_drewN (Below.refl _ _) 1
  refine wp_region_heldX (X := fun k => ([] : List Nat).contains k) (S := fun W => Bx W w.heap.size #[.int .i64 i, .slice T tn tc] 24 ∧ Bx W (w.heap.size + 1) #[.int .i64 j, .slice U un uc] 24 ∧ Bx W g5 #[.int .i64 J, .slice none 0 0] 24 ∧ Bx W g7 #[.int .i64 J, .slice none 0 0] 24) (by kernel_rfl) ?_
  generalize w7.drew = wkd at hbf ⊢
  refine wpAnyX_takeL (L := []) (i := 0) (v := .agg (#[.int .i64 i, .slice T tn tc])) rfl (by kernel_rfl) (by kernel_rfl) (by kernel_rfl) (by kernel_rfl) (fun _ _ _ h => h) (Or.inl ⟨by rfl, fun W hSW => run_load_bx 24 _ rfl (w.heap.size) rfl 24 (#[.int .i64 i, .slice T tn tc]) (0, 0) _ (hSW.1) Try.underlying24 rfl (by kernel_rfl)⟩) (HS.out _ hbf) ?_
  (try simp only [Act.put, List.getElem_toArray, List.getElem_cons_zero, List.getElem_cons_succ, List.setIfInBounds_toArray, List.set_cons_zero, List.set_cons_succ])
  refine wpAnyX_takeL (L := []) (i := 2) (v := .agg (#[.int .i64 i, .slice T tn tc])) rfl (by kernel_rfl) (by kernel_rfl) (by kernel_rfl) (by kernel_rfl) (fun _ _ _ h => h) (Or.inl ⟨by rfl, fun W hSW => run_load_bx 24 _ rfl (w.heap.size) rfl 24 (#[.int .i64 i, .slice T tn tc]) (0, 0) _ (hSW.1) Try.underlying24 rfl (by kernel_rfl)⟩) (HS.out _ hbf) ?_
  (try simp only [Act.put, List.getElem_toArray, List.getElem_cons_zero, List.getElem_cons_succ, List.setIfInBounds_toArray, List.set_cons_zero, List.set_cons_succ])
  refine wpAnyX_one (i := 1) rfl (by kernel_rfl) (fun K hK => ?_)
  go_simp
  go_at_call 14
  refine (pvalid16 i T tn tc ts _ (HT.out _ (bt HBC.out hbf)) htc).mono ?_
  rintro r x1 ⟨v, rfl, hv, y1⟩
  have HV := Lib.hid hv.toL
  clear hv
  have hbf := bt hbf y1
  clear y1
  refine hK.out _ _ (fun _ _ => HS.out _ hbf) ?_
  (try simp only [Act.put, List.getElem_toArray, List.getElem_cons_zero, List.getElem_cons_succ, List.setIfInBounds_toArray, List.set_cons_zero, List.set_cons_succ])
  refine wpAnyX_one (i := 3) rfl (by kernel_rfl) (fun K hK => ?_)
  go_simp
  go_at_call 15
  refine (rvalidX i T tn tc ts _ (HT.out _ (bt HBC.out hbf))).mono ?_
  rintro r x1 ⟨v2, rfl, hv, y1⟩
  obtain rfl := HV.out.uniq hv
  clear hv
  have hbf := bt hbf y1
  clear y1
  refine hK.out _ _ (fun _ _ => HS.out _ hbf) ?_
  (try simp only [Act.put, List.getElem_toArray, List.getElem_cons_zero, List.getElem_cons_succ, List.setIfInBounds_toArray, List.set_cons_zero, List.set_cons_succ])
  refine wpAnyX_pure (i := 4) (v := ?_) rfl (by kernel_rfl) (by kernel_rfl) (by kernel_rfl) (fun _ _ _ h => h) (Or.inl ⟨by rfl, ?_⟩) ?_
  rotate_left
  · (intro W _; go_simp; try with_reducible rfl)
  (try simp only [Act.put, List.getElem_toArray, List.getElem_cons_zero, List.getElem_cons_succ, List.setIfInBounds_toArray, List.set_cons_zero, List.set_cons_succ])
  refine wpAnyX_pure (i := 5) (v := ?_) rfl (by kernel_rfl) (by kernel_rfl) (by kernel_rfl) (fun _ _ _ h => h) (Or.inl ⟨by rfl, ?_⟩) ?_
  rotate_left
  · (intro W _; go_simp; try with_reducible rfl)
  (try simp only [Act.put, List.getElem_toArray, List.getElem_cons_zero, List.getElem_cons_succ, List.setIfInBounds_toArray, List.set_cons_zero, List.set_cons_succ])
  refine wpAnyX_takeL (L := []) (i := 6) (v := .agg (#[.int .i64 i, .slice T tn tc])) rfl (by kernel_rfl) (by kernel_rfl) (by kernel_rfl) (by kernel_rfl) (fun _ _ _ h => h) (Or.inl ⟨by rfl, fun W hSW => run_load_bx 24 _ rfl (w.heap.size) rfl 24 (#[.int .i64 i, .slice T tn tc]) (0, 0) _ (hSW.1) Try.underlying24 rfl (by kernel_rfl)⟩) (HS.out _ hbf) ?_
  (try simp only [Act.put, List.getElem_toArray, List.getElem_cons_zero, List.getElem_cons_succ, List.setIfInBounds_toArray, List.set_cons_zero, List.set_cons_succ])
  refine wpAnyX_takeL (L := []) (i := 7) (v := .agg (#[.int .i64 j, .slice U un uc])) rfl (by kernel_rfl) (by kernel_rfl) (by kernel_rfl) (by kernel_rfl) (fun _ _ _ h => h) (Or.inl ⟨by rfl, fun W hSW => run_load_bx 24 _ rfl (w.heap.size + 1) rfl 24 (#[.int .i64 j, .slice U un uc]) (0, 0) _ (hSW.2.1) Try.underlying24 rfl (by kernel_rfl)⟩) (HS.out _ hbf) ?_
  (try simp only [Act.put, List.getElem_toArray, List.getElem_cons_zero, List.getElem_cons_succ, List.setIfInBounds_toArray, List.set_cons_zero, List.set_cons_succ])
  refine wpAnyX_takeL (L := []) (i := 9) (v := .agg (#[.int .i64 i, .slice T tn tc])) rfl (by kernel_rfl) (by kernel_rfl) (by kernel_rfl) (by kernel_rfl) (fun _ _ _ h => h) (Or.inl ⟨by rfl, fun W hSW => run_load_bx 24 _ rfl (w.heap.size) rfl 24 (#[.int .i64 i, .slice T tn tc]) (0, 0) _ (hSW.1) Try.underlying24 rfl (by kernel_rfl)⟩) (HS.out _ hbf) ?_
  (try simp only [Act.put, List.getElem_toArray, List.getElem_cons_zero, List.getElem_cons_succ, List.setIfInBounds_toArray, List.set_cons_zero, List.set_cons_succ])
  refine wpAnyX_takeL (L := []) (i := 10) (v := .agg (#[.int .i64 j, .slice U un uc])) rfl (by kernel_rfl) (by kernel_rfl) (by kernel_rfl) (by kernel_rfl) (fun _ _ _ h => h) (Or.inl ⟨by rfl, fun W hSW => run_load_bx 24 _ rfl (w.heap.size + 1) rfl 24 (#[.int .i64 j, .slice U un uc]) (0, 0) _ (hSW.2.1) Try.underlying24 rfl (by kernel_rfl)⟩) (HS.out _ hbf) ?_
  (try simp only [Act.put, List.getElem_toArray, List.getElem_cons_zero, List.getElem_cons_succ, List.setIfInBounds_toArray, List.set_cons_zero, List.set_cons_succ])
  refine wpAnyX_one (i := 8) rfl (by kernel_rfl) (fun K hK => ?_)
  go_simp
  go_at_call 16
  refine (HS1.out _ hbf).mono ?_
  rintro r x1 ⟨rfl, y1⟩
  have hbf := bt hbf y1
  clear y1
  refine hK.out _ _ (fun _ _ => HS.out _ hbf) ?_
  (try simp only [Act.put, List.getElem_toArray, List.getElem_cons_zero, List.getElem_cons_succ, List.setIfInBounds_toArray, List.set_cons_zero, List.set_cons_succ])
  refine wpAnyX_one (i := 11) rfl (by kernel_rfl) (fun K hK => ?_)
  go_simp
  go_at_call 17
  refine (HS2.out _ hbf).mono ?_
  rintro r x1 ⟨rfl, y1⟩
  have hbf := bt hbf y1
  clear y1
  refine hK.out _ _ (fun _ _ => HS.out _ hbf) ?_
  (try simp only [Act.put, List.getElem_toArray, List.getElem_cons_zero, List.getElem_cons_succ, List.setIfInBounds_toArray, List.set_cons_zero, List.set_cons_succ])
  refine wpAnyX_pure (i := 12) (v := ?_) rfl (by kernel_rfl) (by kernel_rfl) (by kernel_rfl) (fun _ _ _ h => h) (Or.inl ⟨by rfl, ?_⟩) ?_
  rotate_left
  · (intro W _; go_simp; try with_reducible rfl)
  (try simp only [Act.put, List.getElem_toArray, List.getElem_cons_zero, List.getElem_cons_succ, List.setIfInBounds_toArray, List.set_cons_zero, List.set_cons_succ])
  refine wpAnyX_pure (i := 13) (v := ?_) rfl (by kernel_rfl) (by kernel_rfl) (by kernel_rfl) (fun _ _ _ h => h) (Or.inl ⟨by rfl, ?_⟩) ?_
  rotate_left
  · (intro W _; go_simp; try with_reducible rfl)
  (try simp only [Act.put, List.getElem_toArray, List.getElem_cons_zero, List.getElem_cons_succ, List.setIfInBounds_toArray, List.set_cons_zero, List.set_cons_succ])
  refine wpAnyX_pure (i := 14) (v := ?_) rfl (by kernel_rfl) (by kernel_rfl) (by kernel_rfl) (fun _ _ _ h => h) (Or.inl ⟨by rfl, ?_⟩) ?_
  rotate_left
  · (intro W _; go_simp; try with_reducible rfl)
  (try simp only [Act.put, List.getElem_toArray, List.getElem_cons_zero, List.getElem_cons_succ, List.setIfInBounds_toArray, List.set_cons_zero, List.set_cons_succ])
  refine wpAnyX_takeL (L := []) (i := 15) (v := .agg (#[.int .i64 i, .slice T tn tc])) rfl (by kernel_rfl) (by kernel_rfl) (by kernel_rfl) (by kernel_rfl) (fun _ _ _ h => h) (Or.inl ⟨by rfl, fun W hSW => run_load_bx 24 _ rfl (w.heap.size) rfl 24 (#[.int .i64 i, .slice T tn tc]) (0, 0) _ (hSW.1) Try.underlying24 rfl (by kernel_rfl)⟩) (HS.out _ hbf) ?_
  (try simp only [Act.put, List.getElem_toArray, List.getElem_cons_zero, List.getElem_cons_succ, List.setIfInBounds_toArray, List.set_cons_zero, List.set_cons_succ])
  refine wpAnyX_takeL (L := []) (i := 16) (v := .agg (#[.int .i64 i, .slice T tn tc])) rfl (by kernel_rfl) (by kernel_rfl) (by kernel_rfl) (by kernel_rfl) (fun _ _ _ h => h) (Or.inl ⟨by rfl, fun W hSW => run_load_bx 24 _ rfl (w.heap.size) rfl 24 (#[.int .i64 i, .slice T tn tc]) (0, 0) _ (hSW.1) Try.underlying24 rfl (by kernel_rfl)⟩) (HS.out _ hbf) ?_
  (try simp only [Act.put, List.getElem_toArray, List.getElem_cons_zero, List.getElem_cons_succ, List.setIfInBounds_toArray, List.set_cons_zero, List.set_cons_succ])
  refine wpAnyX_one (i := 17) rfl (by kernel_rfl) (fun K hK => ?_)
  go_simp
  go_at_call 16
  refine (psame_eq16 i T T tn tc tn tc ts _ (HT.out _ (bt HBC.out hbf)) (HT.out _ (bt HBC.out hbf))).mono ?_
  rintro r x1 ⟨rfl, y1⟩
  have hbf := bt hbf y1
  clear y1
  refine hK.out _ _ (fun _ _ => HS.out _ hbf) ?_
  (try simp only [Act.put, List.getElem_toArray, List.getElem_cons_zero, List.getElem_cons_succ, List.setIfInBounds_toArray, List.set_cons_zero, List.set_cons_succ])
  refine wpAnyX_pure (i := 18) (v := ?_) rfl (by kernel_rfl) (by kernel_rfl) (by kernel_rfl) (fun _ _ _ h => h) (Or.inl ⟨by rfl, ?_⟩) ?_
  rotate_left
  · (intro W _; go_simp; try with_reducible rfl)
  (try simp only [Act.put, List.getElem_toArray, List.getElem_cons_zero, List.getElem_cons_succ, List.setIfInBounds_toArray, List.set_cons_zero, List.set_cons_succ])
  refine wpAnyX_pure (i := 19) (v := ?_) rfl (by kernel_rfl) (by kernel_rfl) (by kernel_rfl) (fun _ _ _ h => h) (Or.inl ⟨by rfl, ?_⟩) ?_
  rotate_left
  · (intro W _; go_simp; try with_reducible rfl)
  (try simp only [Act.put, List.getElem_toArray, List.getElem_cons_zero, List.getElem_cons_succ, List.setIfInBounds_toArray, List.set_cons_zero, List.set_cons_succ])
  refine wpAnyX_takeL (L := []) (i := 20) (v := .agg (#[.int .i64 J, .slice none 0 0])) rfl (by kernel_rfl) (by kernel_rfl) (by kernel_rfl) (by kernel_rfl) (fun _ _ _ h => h) (Or.inl ⟨by rfl, fun W hSW => run_load_bx 24 _ rfl (g5) rfl 24 (#[.int .i64 J, .slice none 0 0]) (0, 0) _ (hSW.2.2.1) Try.underlying24 rfl (by kernel_rfl)⟩) (HS.out _ hbf) ?_
  (try simp only [Act.put, List.getElem_toArray, List.getElem_cons_zero, List.getElem_cons_succ, List.setIfInBounds_toArray, List.set_cons_zero, List.set_cons_succ])
  refine wpAnyX_takeL (L := []) (i := 21) (v := .agg (#[.int .i64 J, .slice none 0 0])) rfl (by kernel_rfl) (by kernel_rfl) (by kernel_rfl) (by kernel_rfl) (fun _ _ _ h => h) (Or.inl ⟨by rfl, fun W hSW => run_load_bx 24 _ rfl (g7) rfl 24 (#[.int .i64 J, .slice none 0 0]) (0, 0) _ (hSW.2.2.2) Try.underlying24 rfl (by kernel_rfl)⟩) (HS.out _ hbf) ?_
  (try simp only [Act.put, List.getElem_toArray, List.getElem_cons_zero, List.getElem_cons_succ, List.setIfInBounds_toArray, List.set_cons_zero, List.set_cons_succ])
  refine wpAnyX_one (i := 22) rfl (by kernel_rfl) (fun K hK => ?_)
  go_simp
  go_at_call 17
  refine (rsame_eq16 J none none 0 0 0 0 [] _ (Trs.none_ _) (Trs.none_ _)).mono ?_
  rintro r x1 ⟨rfl, y1⟩
  have hbf := bt hbf y1
  clear y1
  refine hK.out _ _ (fun _ _ => HS.out _ hbf) ?_
  (try simp only [Act.put, List.getElem_toArray, List.getElem_cons_zero, List.getElem_cons_succ, List.setIfInBounds_toArray, List.set_cons_zero, List.set_cons_succ])
  refine wpAnyX_pure (i := 23) (v := ?_) rfl (by kernel_rfl) (by kernel_rfl) (by kernel_rfl) (fun _ _ _ h => h) (Or.inl ⟨by rfl, ?_⟩) ?_
  rotate_left
  · (intro W _; go_simp; try with_reducible rfl)
  (try simp only [Act.put, List.getElem_toArray, List.getElem_cons_zero, List.getElem_cons_succ, List.setIfInBounds_toArray, List.set_cons_zero, List.set_cons_succ])
  refine wpAnyX_pure (i := 24) (v := ?_) rfl (by kernel_rfl) (by kernel_rfl) (by kernel_rfl) (fun _ _ _ h => h) (Or.inl ⟨by rfl, ?_⟩) ?_
  rotate_left
  · (intro W _; go_simp; try with_reducible rfl)
  (try simp only [Act.put, List.getElem_toArray, List.getElem_cons_zero, List.getElem_cons_succ, List.setIfInBounds_toArray, List.set_cons_zero, List.set_cons_succ])
  refine wpAnyX_pure (i := 25) (v := ?_) rfl (by kernel_rfl) (by kernel_rfl) (by kernel_rfl) (fun _ _ _ h => h) (Or.inl ⟨by rfl, ?_⟩) ?_
  rotate_left
  · (intro W _; go_simp; try with_reducible rfl)
  (try simp only [Act.put, List.getElem_toArray, List.getElem_cons_zero, List.getElem_cons_succ, List.setIfInBounds_toArray, List.set_cons_zero, List.set_cons_succ])
  refine wpAnyX_pure (i := 26) (v := ?_) rfl (by kernel_rfl) (by kernel_rfl) (by kernel_rfl) (fun _ _ _ h => h) (Or.inl ⟨by rfl, ?_⟩) ?_
  rotate_left
  · (intro W _; go_simp; try with_reducible rfl)
  (try simp only [Act.put, List.getElem_toArray, List.getElem_cons_zero, List.getElem_cons_succ, List.setIfInBounds_toArray, List.set_cons_zero, List.set_cons_succ])
  refine wpAnyX_pure (i := 27) (v := ?_) rfl (by kernel_rfl) (by kernel_rfl) (by kernel_rfl) (fun _ _ _ h => h) (Or.inl ⟨by rfl, ?_⟩) ?_
  rotate_left
  · (intro W _; go_simp; try with_reducible rfl)
  (try simp only [Act.put, List.getElem_toArray, List.getElem_cons_zero, List.getElem_cons_succ, List.setIfInBounds_toArray, List.set_cons_zero, List.set_cons_succ])
  refine wpAnyX_pure (i := 28) (v := ?_) rfl (by kernel_rfl) (by kernel_rfl) (by kernel_rfl) (fun _ _ _ h => h) (Or.inl ⟨by rfl, ?_⟩) ?_
  rotate_left
  · (intro W _; go_simp; try with_reducible rfl)
  (try simp only [Act.put, List.getElem_toArray, List.getElem_cons_zero, List.getElem_cons_succ, List.setIfInBounds_toArray, List.set_cons_zero, List.set_cons_succ])
  refine wpAnyX_pure (i := 29) (v := ?_) rfl (by kernel_rfl) (by kernel_rfl) (by kernel_rfl) (fun _ _ _ h => h) (Or.inl ⟨by rfl, ?_⟩) ?_
  rotate_left
  · (intro W _; go_simp; try with_reducible rfl)
  (try simp only [Act.put, List.getElem_toArray, List.getElem_cons_zero, List.getElem_cons_succ, List.setIfInBounds_toArray, List.set_cons_zero, List.set_cons_succ])
  refine wpAnyX_one (i := 30) rfl (by kernel_rfl) (fun K hK => ?_)
  go_simp
  go_at_call 11
  refine (awake16 _).mono ?_
  rintro r x1 ⟨rfl, y1⟩
  have hbf := bt hbf y1
  clear y1
  refine hK.out _ _ (fun _ _ => HS.out _ hbf) ?_
  (try simp only [Act.put, List.getElem_toArray, List.getElem_cons_zero, List.getElem_cons_succ, List.setIfInBounds_toArray, List.set_cons_zero, List.set_cons_succ])
  refine wpAnyX_pure (i := 31) (v := ?_) rfl (by kernel_rfl) (by kernel_rfl) (by kernel_rfl) (fun _ _ _ h => h) (Or.inl ⟨by rfl, ?_⟩) ?_
  rotate_left
  · (intro W _; go_simp; try with_reducible rfl)
  (try simp only [Act.put, List.getElem_toArray, List.getElem_cons_zero, List.getElem_cons_succ, List.setIfInBounds_toArray, List.set_cons_zero, List.set_cons_succ])
  refine wpAnyX_pure (i := 32) (v := ?_) rfl (by kernel_rfl) (by kernel_rfl) (by kernel_rfl) (fun _ _ _ h => h) (Or.inl ⟨by rfl, ?_⟩) ?_
  rotate_left
  · (intro W _; go_simp; try with_reducible rfl)
  (try simp only [Act.put, List.getElem_toArray, List.getElem_cons_zero, List.getElem_cons_succ, List.setIfInBounds_toArray, List.set_cons_zero, List.set_cons_succ])
  refine wpAnyX_done (by kernel_rfl) ?_ _
  go_wp2
  go_ret
  exact ⟨rfl, bt HB0.out (bt HBC.out hbf)⟩
end Go.Proofs.Ytkkmcgapbcikiaa
end
