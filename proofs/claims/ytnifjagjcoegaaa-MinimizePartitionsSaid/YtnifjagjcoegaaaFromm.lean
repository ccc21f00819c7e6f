/- From, Run and Step of a machine. -/
import Derived.Test.YtnifjagjcoegaaaRunm
import Derived.Test.YtnifjagjcoegaaaFromp
namespace Go.Proofs.Ytnifjagjcoegaaa
open Go.RowKit

theorem ret_from {A : Option Addr} {l l' c : Nat} {x x' y y' : Int} (h1 : l = l') (h2 : x = x') (h3 : y = y') : Ending.returned (.tuple #[.slice A l c, .int .i64 x, .int .i64 y]) = .returned (.tuple #[.slice A l' c, .int .i64 x', .int .i64 y']) := by rw [h1, h2, h3]
theorem ret_run {A : Option Addr} {l l' c : Nat} {y y' : Int} (h1 : l = l') (h3 : y = y') : Ending.returned (.tuple #[.slice A l c, .int .i64 y]) = .returned (.tuple #[.slice A l' c, .int .i64 y']) := by rw [h1, h3]
theorem ret_three {k k' k'' : IntKind} {a b c a' b' c' : Int} (h1 : a = a') (h2 : b = b') (h3 : c = c') : Ending.returned (.tuple #[.int k a, .int k' b, .int k'' c]) = .returned (.tuple #[.int k a', .int k' b', .int k'' c']) := by rw [h1, h2, h3]

set_option maxHeartbeats 2000000 in
set_option maxRecDepth 100000 in
theorem pfrom (i st : Int) (A B D : Option Addr) (n c m d k e : Nat) (nx ot : List (List Int)) (s : Int) (xs : List Int) (w : World) (hx : Lists w A n nx) (ho : Lists w B m ot) (hD : Ints w D k xs) :
    Calls Try.prog 60 #[.agg #[.int .i64 i, .int .i64 st, .slice A n c, .slice B m d], .int .i64 s, .slice D k e] w fun e w' => ∃ A' c',
      e = .returned (.tuple #[.slice A' (frm i st nx ot s xs).1.length c', .int .i64 (frm i st nx ot s xs).2.1, .int .i64 (frm i st nx ot s xs).2.2]) ∧ Owned w' w.heap.size (.slice A' (frm i st nx ot s xs).1.length c') (frm i st nx ot s xs).1 ∧ Below w.heap.size w w' := by
  have L1 := Lib.hid hx.1
  have LD := Lib.hid hD.1
  have hn := hx.2.1
  have hk := hD.2.1
  have hb0 := alloc_below w (.cells #[.int .i64 i, .int .i64 st, .slice A n c, .slice B m d] 58)
  have HZ := Lib.hid (show (w.alloc (.cells #[.int .i64 i, .int .i64 st, .slice A n c, .slice B m d] 58)).heap.size = w.heap.size + 1 by simp)
  by_cases hv : vld i st nx ot = 0
  · have HV := Lib.hid hv
    obtain ⟨i, st, n', rfl, rfl, hM⟩ := vld_zero hv
    obtain rfl : n = n' := by have := hM.nxl; rw [L1.out] at this; exact this
    obtain rfl : m = n := by have := hM.otl; rw [ho.1] at this; exact this
    clear hv
    by_cases hs : 0 ≤ s ∧ s < m
    · have HS := Lib.hid hs
      have HT := Lib.hid ((decide_eq_true hs).symm)
      by_cases hc : chk xs i = 0
      · obtain ⟨s, rfl⟩ : ∃ t : Nat, s = t := ⟨s.toNat, by omega⟩
        have hfin := Lib.hid (frm_ok (s := s) HV.out (by rw [L1.out]; omega) hc)
        have HC := Lib.hid hc
        clear hs hc
        go_enter Try.func60, Try.ntmps60
        go_wp2_with fail
        refine (pvalid _ _ _ _ _ _ _ _ _ _ _ (hx.below hb0) (ho.below hb0)).mono ?_
        rintro e w1 ⟨rfl, b1⟩
        rw [HZ.out] at b1
        rw [HV.out]
        obtain ⟨k0, k1, k2, k3⟩ := box4 b1
        go_wp2_with fail
        refine (pisst _ _ _ _ _ _ _ _ _ _ _ hn HT.out).mono ?_
        rintro e w2 ⟨rfl, b2⟩
        have b2 := b1.trans (b2.mono (by have := b1.size; simpa using this))
        obtain ⟨k0, k1, k2, k3⟩ := box4 b2
        have bw := hb0.trans (b2.mono (Nat.le_succ _))
        go_wp2_with fail
        refine (wcheck _ _ _ _ _ _ (hD.below bw)).mono ?_
        rintro e w3 ⟨rfl, rfl⟩
        rw [HC.out]
        have ba := alloc_below w2 (.cells #[.int .i64 i, .int .i64 st, .slice A m c, .slice B m d, .int .i64 s] 136)
        have hR : Rnr (w2.alloc (.cells #[.int .i64 i, .int .i64 st, .slice A m c, .slice B m d, .int .i64 s] 136)) w2.heap.size i st A m c B m d s := heap_alloc_new w2 _
        have HR := Lib.hid hR
        have hsy := Lib.hid (chk_zero HC.out).2.2.2.mem
        have hg := bw.size
        have bwa := bw.trans (ba.mono hg)
        have hsn : s < m := by have := HS.out; omega
        clear hR ba
        go_wp2_with fail
        refine (prun hM hx ho bwa HR.out hg hsn hD hsy.out).mono ?_
        rintro e w4 ⟨A4, c4, rfl, ho4, b4, hR4⟩
        obtain ⟨d2, d3, d4, _⟩ := hR4.cells
        have HR4 := Lib.hid hR4
        have ho4 := Lib.hid ho4
        clear hR4
        go_wp2
        go_quiet (fail)
        go_wp2
        go_ret3
        have hlen : (runO nx ot s xs).length = k := by rw [runO_len, LD.out]
        exact ⟨A4, c4, by rw [hfin.out]; exact ret_from hlen.symm rfl rfl, by rw [hfin.out]; show Owned _ _ (.slice A4 (runO nx ot s xs).length c4) _; rw [hlen]; exact ho4.out, below_drewN b4 _⟩
      · have hfin := Lib.hid (frm_word HV.out (by rw [L1.out]; exact HS.out) hc)
        have hne : (chk xs i != 0) = true := by simpa using hc
        clear hs
        go_enter Try.func60, Try.ntmps60
        go_wp2_with fail
        refine (pvalid _ _ _ _ _ _ _ _ _ _ _ (hx.below hb0) (ho.below hb0)).mono ?_
        rintro e w1 ⟨rfl, b1⟩
        rw [HZ.out] at b1
        rw [HV.out]
        obtain ⟨k0, k1, k2, k3⟩ := box4 b1
        go_wp2_with fail
        refine (pisst _ _ _ _ _ _ _ _ _ _ _ hn HT.out).mono ?_
        rintro e w2 ⟨rfl, b2⟩
        have b2 := b1.trans (b2.mono (by have := b1.size; simpa using this))
        obtain ⟨k0, k1, k2, k3⟩ := box4 b2
        have bw := hb0.trans (b2.mono (Nat.le_succ _))
        go_wp2_with fail
        refine (wcheck _ _ _ _ _ _ (hD.below bw)).mono ?_
        rintro e w3 ⟨rfl, rfl⟩
        generalize chk xs i = E at hne hfin hc
        clear hc
        go_wp2
        go_ret3
        exact ⟨none, 0, by rw [hfin.out]; rfl, by rw [hfin.out]; exact Owned.nil _ _, bw⟩
    · have hfin := Lib.hid (frm_state (xs := xs) HV.out (by rw [L1.out]; exact hs))
      have HT := Lib.hid ((decide_eq_false hs).symm)
      clear hs
      go_enter Try.func60, Try.ntmps60
      go_wp2_with fail
      refine (pvalid _ _ _ _ _ _ _ _ _ _ _ (hx.below hb0) (ho.below hb0)).mono ?_
      rintro e w1 ⟨rfl, b1⟩
      rw [HZ.out] at b1
      rw [HV.out]
      obtain ⟨k0, k1, k2, k3⟩ := box4 b1
      go_wp2_with fail
      refine (pisst _ _ _ _ _ _ _ _ _ _ _ hn HT.out).mono ?_
      rintro e w2 ⟨rfl, b2⟩
      have b2 := b1.trans (b2.mono (by have := b1.size; simpa using this))
      have bw := hb0.trans (b2.mono (Nat.le_succ _))
      go_wp2
      go_ret3
      exact ⟨none, 0, by rw [hfin.out]; rfl, by rw [hfin.out]; exact Owned.nil _ _, bw⟩
  · have hfin := Lib.hid (frm_bad (s := s) (xs := xs) hv)
    have hne : (vld i st nx ot != 0) = true := by simpa using hv
    go_enter Try.func60, Try.ntmps60
    go_wp2_with fail
    refine (pvalid _ _ _ _ _ _ _ _ _ _ _ (hx.below hb0) (ho.below hb0)).mono ?_
    rintro e w1 ⟨rfl, b1⟩
    generalize vld i st nx ot = E at hne hfin hv
    clear hv
    go_wp2
    go_ret3
    exact ⟨none, 0, by rw [hfin.out]; rfl, by rw [hfin.out]; exact Owned.nil _ _, bt hb0 b1⟩

set_option maxHeartbeats 1000000 in
set_option maxRecDepth 100000 in
theorem prunw (i st : Int) (A B D : Option Addr) (n c m d k e : Nat) (nx ot : List (List Int)) (xs : List Int) (w : World) (hx : Lists w A n nx) (ho : Lists w B m ot) (hD : Ints w D k xs) :
    Calls Try.prog 63 #[.agg #[.int .i64 i, .int .i64 st, .slice A n c, .slice B m d], .slice D k e] w fun e w' => ∃ A' c',
      e = .returned (.tuple #[.slice A' (frm i st nx ot st xs).1.length c', .int .i64 (frm i st nx ot st xs).2.2]) ∧ Owned w' w.heap.size (.slice A' (frm i st nx ot st xs).1.length c') (frm i st nx ot st xs).1 ∧ Below w.heap.size w w' := by
  have hb0 := alloc_below w (.cells #[.int .i64 i, .int .i64 st, .slice A n c, .slice B m d] 58)
  go_enter Try.func63, Try.ntmps63
  go_wp2_with fail
  refine (pfrom _ _ _ _ _ _ _ _ _ _ _ _ _ _ _ _ (hx.below hb0) (ho.below hb0) (hD.below hb0)).mono ?_
  rintro e w1 ⟨A1, c1, rfl, h1, b1⟩
  have h2 := Lib.hid (h1.lower (base' := w.heap.size) hb0.size)
  have b2 := Lib.hid (bt hb0 b1)
  clear h1 b1
  go_wp2
  go_ret2
  exact ⟨A1, c1, rfl, h2.out, b2.out⟩

end Go.Proofs.Ytnifjagjcoegaaa
