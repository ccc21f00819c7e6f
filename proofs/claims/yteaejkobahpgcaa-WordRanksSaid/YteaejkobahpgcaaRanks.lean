/- WordRanks: the walk. -/
import Derived.Test.YteaejkobahpgcaaRanksp
namespace Go.Proofs.Yteaejkobahpgcaa
open Go.RowKit

set_option maxHeartbeats 2000000 in
set_option maxRecDepth 100000 in
theorem ranks_law (A : Option Addr) (n c : Nat) (k m q : Int) (xs : List Int) (w : World) (h : Ints w A n xs) (hn : n ≤ 300) (hm : m ≤ 9223372036854775807) (hq : q ≤ 9223372036854775807) :
    Calls Try.prog 8 #[.agg #[.slice A n c, .int .i64 k, .int .i64 m, .int .i64 q]] w fun e w' => e = .returned (.bool true) ∧ Below w.heap.size w w' := by
  have L := Lib.hid h.1
  go_enter Try.func8, Try.ntmps8
  go_wp2
  go_quiet (fail)
  obtain ⟨w0, hw0⟩ : ∃ w0, w0 = (w.alloc (.cells #[.slice A n c, .int .i64 k, .int .i64 m, .int .i64 q] 47)).drewN nq := ⟨_, rfl⟩
  have b0 : Below w.heap.size w w0 := by rw [hw0]; exact below_drewN (alloc_below _ _) _
  rw [← hw0]
  clear hw0
  have h0 := h.below b0
  obtain ⟨r, e0, hr⟩ : ∃ r e0, rankV xs k = (r, e0) := ⟨_, _, rfl⟩
  have HR := Lib.hid hr
  clear hr
  go_wp2_with fail
  refine (rank_law _ _ _ _ _ _ _ _ h0 HR.out).mono ?_
  rintro e w1 ⟨rfl, rfl⟩
  go_upto_if 39 with fail
  go_cut [19] (fun s wx => Below w.heap.size w wx)
  case first =>
    by_cases hz : e0 = 0
    · subst hz
      obtain ⟨k1, k2, hsy, hv, r1, r2⟩ := rank_facts HR.out
      obtain ⟨ys, hnx, ysy, yl, yv⟩ := next_facts k1 k2 (by rw [L.out]; exact hn) hsy
      have hun := Lib.hid (unrank_of k1 k2 (by rw [L.out]; omega) hsy hv)
      have hcm := Lib.hid (show shlex xs ys = -1 by rw [shlex_val k1 hsy ysy, cmpI_lt (by omega)])
      have hrk := Lib.hid (rank_next k1 k2 yl ysy (yv.trans (by rw [hv])))
      have hnx := Lib.hid hnx
      clear hv yv
      by_cases hmax : r < 4611686018427387904
      · have hrk := Lib.hid (hrk.out.trans (if_pos (by omega)))
        go_wp2_with fail
        refine (unrank_law _ _ _ _ _ (by omega) hun.out).mono ?_
        rintro e w1 ⟨A1, n1, c1, rfl, h1, b1⟩
        go_wp2_with fail
        refine (next_law _ _ _ _ _ _ _ _ (h0.below b1) hnx.out).mono ?_
        rintro e w2 ⟨A2, n2, c2, rfl, h2, b2⟩
        go_wp2_with fail
        refine (rank_law _ _ _ _ _ _ _ _ h2 hrk.out).mono ?_
        rintro e w3 ⟨rfl, rfl⟩
        go_wp2_with fail
        refine (same_law _ _ _ _ _ _ _ _ (h1.below b2) ((h0.below b1).below b2)).mono ?_
        rintro e w3 ⟨rfl, b3⟩
        go_wp2_with fail
        refine (compare_law _ _ _ _ _ _ _ _ _ _ (((h0.below b1).below b2).below b3) (h2.below b3) hcm.out).mono ?_
        rintro e w4 ⟨rfl, b4⟩
        have hne : (r == 4611686018427387904) = false := by simp; omega
        go_wp2_with fail
        go_meet
        exact bt b0 (bt (bt (bt b1 b2) b3) b4)
      · obtain rfl : r = 4611686018427387904 := by omega
        have hrk := Lib.hid (hrk.out.trans (if_neg (by omega)))
        go_wp2_with fail
        refine (unrank_law _ _ _ _ _ (by omega) hun.out).mono ?_
        rintro e w1 ⟨A1, n1, c1, rfl, h1, b1⟩
        go_wp2_with fail
        refine (next_law _ _ _ _ _ _ _ _ (h0.below b1) hnx.out).mono ?_
        rintro e w2 ⟨A2, n2, c2, rfl, h2, b2⟩
        go_wp2_with fail
        refine (rank_law _ _ _ _ _ _ _ _ h2 hrk.out).mono ?_
        rintro e w3 ⟨rfl, rfl⟩
        go_wp2_with fail
        refine (same_law _ _ _ _ _ _ _ _ (h1.below b2) ((h0.below b1).below b2)).mono ?_
        rintro e w3 ⟨rfl, b3⟩
        go_wp2_with fail
        refine (compare_law _ _ _ _ _ _ _ _ _ _ (((h0.below b1).below b2).below b3) (h2.below b3) hcm.out).mono ?_
        rintro e w4 ⟨rfl, b4⟩
        go_wp2_with fail
        go_meet
        exact bt b0 (bt (bt (bt b1 b2) b3) b4)
    · have hb : (e0 == 0) = false := by simpa using hz
      go_wp2_with fail
      go_meet
      exact b0
  case rest =>
    clear h0 b0 HR
    have hc0 := h.below hcut
    obtain ⟨a, e1, hra⟩ : ∃ a e1, unrankV m k = (a, e1) := ⟨_, _, rfl⟩
    obtain ⟨b, e2, hrb⟩ : ∃ b e2, unrankV q k = (b, e2) := ⟨_, _, rfl⟩
    have hA := Lib.hid hra
    have hB := Lib.hid hrb
    clear hra hrb
    go_wp2_with fail
    refine (unrank_law _ _ _ _ _ hm hA.out).mono ?_
    rintro e w1 ⟨A1, n1, c1, rfl, h1, b1⟩
    go_wp2_with fail
    refine (unrank_law _ _ _ _ _ hq hB.out).mono ?_
    rintro e w2 ⟨A2, n2, c2, rfl, h2, b2⟩
    have h1 := h1.below b2
    have b2 := bt hcut (bt b1 b2)
    clear b1 hcut
    by_cases z1 : e1 = 0
    · by_cases z2 : e2 = 0
      · subst z1 z2
        obtain ⟨k1, k2, s1, v1, ch⟩ := unrank_facts hA.out
        obtain ⟨_, _, s2, v2, _⟩ := unrank_facts hB.out
        have hs := shlex_val k1 s1 s2
        rw [v1, v2] at hs
        have hs := Lib.hid hs
        have hch := Lib.hid ch
        clear v1 v2 ch
        by_cases c1 : m < q
        · have g := Lib.hid (hs.out.trans (cmpI_lt c1))
          have d1 : decide (m < q) = true := by simp; omega
          have d2 : decide (q < m) = false := by simp; omega
          go_wp2_with fail
          refine (compare_law _ _ _ _ _ _ _ _ _ _ h1 h2 g.out).mono ?_
          rintro e w3 ⟨rfl, b3⟩
          go_wp2_with fail
          refine (check_law _ _ _ _ _ _ _ (h1.below b3) hch.out).mono ?_
          rintro e w4 ⟨rfl, rfl⟩
          go_wp2_with fail
          refine (awake _).mono ?_
          rintro e w4 ⟨rfl, b4⟩
          go_wp2
          go_ret
          exact ⟨rfl, bt (bt b2 b3) b4⟩
        · by_cases c2 : q < m
          · have g := Lib.hid (hs.out.trans (cmpI_gt c2))
            have d1 : decide (m < q) = false := by simp; omega
            have d2 : decide (q < m) = true := by simp; omega
            go_wp2_with fail
            refine (compare_law _ _ _ _ _ _ _ _ _ _ h1 h2 g.out).mono ?_
            rintro e w3 ⟨rfl, b3⟩
            go_wp2_with fail
            refine (check_law _ _ _ _ _ _ _ (h1.below b3) hch.out).mono ?_
            rintro e w4 ⟨rfl, rfl⟩
            go_wp2_with fail
            refine (awake _).mono ?_
            rintro e w4 ⟨rfl, b4⟩
            go_wp2
            go_ret
            exact ⟨rfl, bt (bt b2 b3) b4⟩
          · have g := Lib.hid (hs.out.trans (cmpI_zero (by omega)))
            have d1 : decide (m < q) = false := by simp; omega
            have d2 : decide (q < m) = false := by simp; omega
            go_wp2_with fail
            refine (compare_law _ _ _ _ _ _ _ _ _ _ h1 h2 g.out).mono ?_
            rintro e w3 ⟨rfl, b3⟩
            go_wp2_with fail
            refine (check_law _ _ _ _ _ _ _ (h1.below b3) hch.out).mono ?_
            rintro e w4 ⟨rfl, rfl⟩
            go_wp2_with fail
            refine (awake _).mono ?_
            rintro e w4 ⟨rfl, b4⟩
            go_wp2
            go_ret
            exact ⟨rfl, bt (bt b2 b3) b4⟩
      · subst z1
        have q1 : (e2 == 0) = false := by simpa using z2
        have q1' : (e2 != 0) = true := by simpa using z2
        have hb : b = [] := by have := unrank_err (k := k) (m := q) (by rw [hB.out]; exact z2); rw [hB.out] at this; exact this
        have hn2 : n2 = 0 := by rw [← h2.1, hb]; rfl
        subst hn2
        clear z2 hb
        go_wp2_with fail
        refine (awake _).mono ?_
        rintro e w4 ⟨rfl, b4⟩
        go_wp2
        go_ret
        exact ⟨rfl, bt b2 b4⟩
    · have q1 : (e1 == 0) = false := by simpa using z1
      have q1' : (e1 != 0) = true := by simpa using z1
      have ha : a = [] := by have := unrank_err (k := k) (m := m) (by rw [hA.out]; exact z1); rw [hA.out] at this; exact this
      have hn1 : n1 = 0 := by rw [← h1.1, ha]; rfl
      subst hn1
      clear z1 ha
      by_cases z2 : e2 = 0
      · subst z2
        go_wp2_with fail
        refine (awake _).mono ?_
        rintro e w4 ⟨rfl, b4⟩
        go_wp2
        go_ret
        exact ⟨rfl, bt b2 b4⟩
      · have q2 : (e2 == 0) = false := by simpa using z2
        have hb : b = [] := by have := unrank_err (k := k) (m := q) (by rw [hB.out]; exact z2); rw [hB.out] at this; exact this
        have hn2 : n2 = 0 := by rw [← h2.1, hb]; rfl
        subst hn2
        clear z2 hb
        go_wp2_with fail
        refine (awake _).mono ?_
        rintro e w4 ⟨rfl, b4⟩
        go_wp2
        go_ret
        exact ⟨rfl, bt b2 b4⟩
end Go.Proofs.Yteaejkobahpgcaa
