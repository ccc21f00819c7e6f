/- The walk of the reference's Next. -/
import Derived.Test.YteaejkobahpgcaaNextp
namespace Go.Proofs.Yteaejkobahpgcaa
open Go.RowKit

set_option maxHeartbeats 1000000 in
theorem rnext (A : Option Addr) (n c : Nat) (k : Int) (xs : List Int) (w : World) (h : Ints w A n xs) :
    Calls Try.prog 24 #[.slice A n c, .int .i64 k] w fun e w' => ∃ v, e = .returned (.tuple #[v, .bool (nextV xs k).2]) ∧ Owned w' w.heap.size v (nextV xs k).1 ∧ Below w.heap.size w w' := by
  have L := Lib.hid h.1
  by_cases hc : chk xs k = 0
  · obtain ⟨k1, k2, l1, hs⟩ := chk_zero hc
    rw [L.out] at l1 hs
    have HN := Lib.hid (nextV_ok hc)
    have HC := Lib.hid hc
    clear hc
    have hbz : Below w.heap.size w (w.alloc (.cells #[] 3)) := (Below.refl _ _).alloc (Nat.le_refl _) _
    have hlit := Owned.literal w w.heap.size [] #[] 0 (Nat.le_refl _) rfl rfl (by simp)
    obtain ⟨v', w1, hr, hv, _, hbel'⟩ := run_append_ints _ _ _ _ _ _ _ c hlit (h.below hbz) (Nat.le_trans (Nat.le_refl _) hbz.size) (by rw [List.nil_append, L.out]; omega)
    obtain ⟨A1, c1, e⟩ := hv.form
    rw [List.nil_append, L.out] at e
    rw [List.nil_append] at hv
    subst e
    have hbel := hbz.trans hbel'
    clear hbel' hlit hbz
    go_enter Try.func24, Try.ntmps24
    go_wp2_with (first | (go_at_call 11; refine (rcheck _ _ _ _ xs _ h).mono ?_; rintro e w' ⟨rfl, rfl⟩; rw [HC.out]) | (at_builtin; refine Lib.wpList_append_run _ rfl _ _ _ _ rfl _ _ rfl rfl _ _ hr ?_))
    clear hr
    have hv0 : Owned w1 w.heap.size (.slice A1 n c1) (tail0 xs n) := by rw [← L.out, tail0_full]; rw [L.out]; exact hv
    clear hv
    go_loopw [7] (fun i wr => ∃ (j : Nat) (i0 : Int), j ≤ n ∧ i0 = (j : Int) - 1 ∧ i = .int .i64 i0 ∧ Owned wr w.heap.size (.slice A1 n c1) (tail0 xs j) ∧ Below w.heap.size w wr ∧ nxt k xs j = nxt k xs n) (fun i _ => (intOf i + 1).toNat)
    case atStart => exact ⟨n, _, Nat.le_refl _, rfl, rfl, hv0, hbel, rfl⟩
    case round =>
      clear hv0 hbel
      obtain ⟨j, i0, hj, hi0, rfl, hown, hbr, hgo⟩ := hrel
      have HG := Lib.hid hgo
      clear hgo
      cases j with
      | succ m =>
        obtain rfl : i0 = (m : Int) := by omega
        clear hi0
        obtain ⟨g, hA, hg1, hg2, hfr⟩ := hown.head (by omega)
        subst hA
        have hI := hown.ints (by rw [tail0_len xs (by rw [L.out]; exact hj), L.out]; omega)
        obtain ⟨g', o', e, _, hcell⟩ := hI.at_ (k := m) (by omega)
        cases e
        rw [tail0_at (by rw [L.out]; omega), Nat.zero_add] at hcell
        have hfm := hfr m
        clear hfr hI
        obtain ⟨x1, x2⟩ := hs m (by omega)
        have x1 : 0 ≤ xs[m]?.getD 0 := by simpa using x1
        have x2 : xs[m]?.getD 0 < k := by simpa using x2
        by_cases ht : xs[m]?.getD 0 < k - 1
        · have hfin := Lib.hid (HG.out.symm.trans (nxt_up (by rw [L.out]; omega) ht))
          have hst := hown.stored m (xs[m]?.getD 0 + 1)
          go_wp2
          go_ret2
          refine ⟨.slice (some ⟨g, 0, none⟩) n c1, ?_, ?_, hbr.setCell (by exact hg1) _⟩
          · rw [HN.out, L.out, hfin.out]; rfl
          · rw [HN.out, L.out, hfin.out]; exact hst
        · have hnx := Lib.hid (nxt_on (k := k) (xs := xs) ht)
          have hst := hown.stored m 0
          rw [tail0_step (by rw [L.out]; omega)] at hst
          go_wp2
          go_roundw
          case rel => exact ⟨m, _, by omega, rfl, rfl, hst, hbr.setCell (by exact hg1) _, by rw [← hnx.out, HG.out]⟩
          case measure => simp [intOf]
      | zero =>
        obtain rfl : i0 = -1 := by omega
        clear hi0
        by_cases hf : n = 1024
        · have hfin := Lib.hid (HG.out.symm.trans (nxt_full (k := k) (xs := xs) (by rw [L.out]; exact hf)))
          have hq : ((n : Int) == 1024) = true := by simp; omega
          clear hf
          go_wp2
          go_ret2
          refine ⟨.slice none 0 0, ?_, ?_, hbr⟩
          · rw [HN.out, L.out, hfin.out]; rfl
          · rw [HN.out, L.out, hfin.out]; exact Owned.nil _ _
        · have hfin := Lib.hid (HG.out.symm.trans (nxt_more (k := k) (xs := xs) (by rw [L.out]; exact hf)))
          have hq : ((n : Int) == 1024) = false := by simp; omega
          have hbz : Below wr.heap.size wr (wr.alloc (.cells #[.int .i64 0] 3)) := (Below.refl _ _).alloc (Nat.le_refl _) _
          have hnew := Ints.new wr [0] #[.int .i64 0] 1 rfl rfl (by simp)
          obtain ⟨v', w', hr, ho', _, hbel'⟩ := run_append_ints _ _ _ _ _ _ _ 1 (hown.kept hbz) hnew (Nat.le_trans hbr.size hbz.size) (by rw [List.length_append, tail0_len xs (by omega), L.out]; simp; omega)
          clear hf
          go_wp2_with (at_builtin; refine Lib.wpList_append_run _ rfl _ _ _ _ rfl _ _ rfl rfl _ _ hr ?_)
          go_ret2
          refine ⟨v', ?_, ?_, (hbr.trans (hbz.mono hbr.size)).trans hbel'⟩
          · rw [HN.out, L.out, hfin.out]; rfl
          · rw [HN.out, L.out, hfin.out]; exact ho'
  · have hfin := Lib.hid (nextV_bad hc)
    have hb : (chk xs k != 0) = true := by simpa using hc
    clear hc
    go_enter Try.func24, Try.ntmps24
    go_wp2_with (go_at_call 11; refine (rcheck _ _ _ _ xs _ h).mono ?_; rintro e w' ⟨rfl, rfl⟩)
    go_ret2
    refine ⟨.slice none 0 0, ?_, ?_, Below.refl _ _⟩
    · rw [hfin.out]; rfl
    · rw [hfin.out]; exact Owned.nil _ _
end Go.Proofs.Yteaejkobahpgcaa
