/- Lemmas of the proofs of this seat, of the parts Runm, Fromp, Fromm, Outsr, Reachp, Reachm, Trimp, Valr, Reachr, Outpr, Outpo, Cmpi, Dstp, Bisp, Dstq, Cmpw, Dsto, Ghp. Conditions: none. -/
import Derived.Test.YtogcecfeofbbnaaHa
import Derived.Deep.RegionLaw
import Derived.Lib.SlicesCompact
import Derived.Test.YtogcecfeofbbnaaProg
import Derived.WalkSpells
import Derived.WalkLawsBesides
import Derived.Outline
import Derived.Deep.QuietTactic
import Derived.BigQuiet
import Derived.Lib.RowBridge
section
/- run, From, Run and Step of a machine. -/
namespace Go.Proofs.Ytogcecfeofbbnaa
open Go.RowKit

theorem Rnr.kept {w w' : World} {g : Nat} {i st : Int} {A B : Option Addr} {n c m d s : Nat} (h : Rnr w g i st A n c B m d s) {b : Nat} (hb : Below b w w') (hg : g < b) : Rnr w' g i st A n c B m d s := (hb.block g hg).trans h

theorem Rnr.set {w : World} {g : Nat} {i st : Int} {A B : Option Addr} {n c m d s : Nat} (h : Rnr w g i st A n c B m d s) (t q : Nat) : Rnr ((w.setCell ⟨g, 4, none⟩ (.int .i64 t)).drewN q) g i st A n c B m d t := by
  have := heap_setCell_same w g 4 _ _ (Value.int .i64 t) h
  exact this
set_option maxHeartbeats 2000000 in
set_option maxRecDepth 100000 in
theorem prun {W w : World} {g : Nat} {i st n : Nat} {A B D : Option Addr} {c d s k e : Nat} {nx ot : List (List Int)} {xs : List Int} (hM : Mok i st n nx ot) (hx : Lists W A n nx) (ho : Lists W B n ot) (hb : Below W.heap.size W w)
    (hR : Rnr w g i st A n c B n d s) (hg : W.heap.size ≤ g) (hs : s < n) (hD : Ints W D k xs) (hS : ∀ x, x ∈ xs → 0 ≤ x ∧ x < i) :
    Calls Try.prog 63 #[.pointer (some ⟨g, 0, none⟩), .slice D k e] w fun e w' => ∃ A' c', e = .returned (.slice A' k c') ∧ Owned w' W.heap.size (.slice A' k c') (runO nx ot s xs) ∧ Below W.heap.size W w' ∧ Rnr w' g i st A n c B n d (runS nx s xs) := by
  have L := Lib.hid hD.1
  have hk := hD.2.1
  have HS := Lib.hid hS
  have HR := Lib.hid hR
  clear hS hR
  have hrn : (85 : TypeId) ≠ 3 := by decide
  go_enter Try.func63, Try.ntmps63
  go_wp2
  go_loopw [5, 10] (fun v j wr => ∃ (q : Nat) (A' : Option Addr) (c' : Nat), q ≤ k ∧ j = .int .i64 q ∧ v = .slice A' q c' ∧ Owned wr W.heap.size (.slice A' q c') (runO nx ot s (xs.take q)) ∧ Below W.heap.size W wr ∧ Rnr wr g i st A n c B n d (runS nx s (xs.take q))) (fun _ j _ => k - (intOf j).toNat)
  case atStart => exact ⟨0, none, 0, Nat.zero_le _, rfl, rfl, Owned.nil _ _, hb, HR.out⟩
  case round =>
    obtain ⟨q, A', c', hq, rfl, rfl, hown, hbr, hR⟩ := hrel
    by_cases hlt : q < k
    · obtain ⟨b1, o1, rfl, _, hc1⟩ := (hD.below hbr).at_ hlt
      have hxm := HS.out (xs.getD q 0) (by rw [List.getD_eq_getElem?_getD, List.getElem?_eq_getElem (by rw [L.out]; exact hlt)]; exact List.getElem_mem _)
      have hO := Lib.hid (runO_next (nx := nx) (ot := ot) (s := s) (j := q) (xs := xs) (by rw [L.out]; exact hlt))
      have hT := Lib.hid (runS_next (nx := nx) (s := s) (j := q) (xs := xs) (by rw [L.out]; exact hlt))
      rw [show xs[q]?.getD 0 = xs.getD q 0 by simp] at hO hT
      generalize xs.getD q 0 = x at hc1 hxm hO hT
      obtain ⟨a, rfl⟩ : ∃ a : Nat, x = a := ⟨x.toNat, by omega⟩
      have ha : a < i := by omega
      rw [Int.toNat_natCast] at hO hT
      have hlast := hM.runS_lt (xs.take q) s hs (fun x hx => HS.out x (List.mem_of_mem_take hx))
      generalize hss : runS nx s (xs.take q) = s' at hR hO hT hlast
      have hlen : (runO nx ot s (xs.take q)).length = q := by rw [runO_len, List.length_take, L.out]; omega
      generalize runO nx ot s (xs.take q) = os at hown hO hlen
      have HL := Lib.hid hlen
      have HSS := Lib.hid hss
      have HRR := Lib.hid hR
      clear hss hlen
      have hset : ∀ q', Rnr ((wr.setCell ⟨g, 4, none⟩ (.int .i64 (nN nx s' a))).drewN q') g i st A n c B n d (nN nx s' a) := fun q' => hR.set (nN nx s' a) q'
      have HSET := Lib.hid hset
      have hoff : ∀ q', Owned ((wr.setCell ⟨g, 4, none⟩ (.int .i64 (nN nx s' a))).drewN q') W.heap.size (.slice A' q c') os := fun q' => hown.off hR hrn 4 _ q'
      have HOFF := Lib.hid hoff
      have hbs : ∀ q', Below W.heap.size W ((wr.setCell ⟨g, 4, none⟩ (.int .i64 (nN nx s' a))).drewN q') := fun q' => below_drewN (hbr.setCell (p := ⟨g, 4, none⟩) hg _) q'
      have HBS := Lib.hid hbs
      clear hset hoff hbs hR
      go_wp2_with fail
      refine (pstep hM hx ho hbr HRR.out hlast ha).mono ?_
      rintro e w1 ⟨rfl, q1, rfl⟩
      have h1 := HOFF.out q1
      have h2 := HBS.out q1
      have h3 := HSET.out q1
      clear HOFF HBS HSET
      generalize (wr.setCell ⟨g, 4, none⟩ (.int .i64 (nN nx s' a))).drewN q1 = w1 at h1 h2 h3 ⊢
      obtain ⟨A2, c2, w2, hr, ho2, hb2, hk2⟩ := run_append_one h1 (oN ot s' a) h2.size (by rw [HL.out]; omega)
      rw [← hO.out] at ho2
      rw [HL.out] at hr ho2
      have h4 := Lib.hid (hk2 g _ _ h3 hrn)
      clear hk2
      go_wp2_with (at_builtin; refine Lib.wpList_append_run _ rfl _ _ _ _ rfl _ _ rfl rfl _ _ hr ?_)
      go_roundw
      case rel => exact ⟨q + 1, A2, c2, by omega, by go_num, rfl, ho2, h2.trans hb2, by rw [hT.out]; exact h4.out⟩
      case measure => simp [intOf]; omega
    · obtain rfl : q = k := by omega
      have hall := Lib.hid (List.take_of_length_le (l := xs) (i := q) (by rw [L.out]; exact Nat.le_refl _))
      go_wp2
      go_ret
      rw [hall.out] at hown hR
      exact ⟨_, _, rfl, hown, hbr, hR⟩
end Go.Proofs.Ytogcecfeofbbnaa
end

section
/- What From, Run and Step return. -/
namespace Go.Proofs.Ytogcecfeofbbnaa

/-- What From returns. -/
def frm (i st : Int) (nx ot : List (List Int)) (s : Int) (xs : List Int) : List Int × Int × Int :=
  if vld i st nx ot = 0 then (if 0 ≤ s ∧ s < nx.length then (if chk xs i = 0 then (runO nx ot s.toNat xs, (runS nx s.toNat xs : Int), 0) else ([], 0, chk xs i)) else ([], 0, 2)) else ([], 0, vld i st nx ot)
theorem frm_bad {i st : Int} {nx ot : List (List Int)} {s : Int} {xs : List Int} (h : ¬ vld i st nx ot = 0) : frm i st nx ot s xs = ([], 0, vld i st nx ot) := by unfold frm; rw [if_neg h]
theorem frm_state {i st : Int} {nx ot : List (List Int)} {s : Int} {xs : List Int} (h : vld i st nx ot = 0) (h1 : ¬ (0 ≤ s ∧ s < nx.length)) : frm i st nx ot s xs = ([], 0, 2) := by unfold frm; rw [if_pos h, if_neg h1]
theorem frm_word {i st : Int} {nx ot : List (List Int)} {s : Int} {xs : List Int} (h : vld i st nx ot = 0) (h1 : 0 ≤ s ∧ s < nx.length) (h2 : ¬ chk xs i = 0) : frm i st nx ot s xs = ([], 0, chk xs i) := by unfold frm; rw [if_pos h, if_pos h1, if_neg h2]
theorem frm_ok {i st : Int} {nx ot : List (List Int)} {s : Nat} {xs : List Int} (h : vld i st nx ot = 0) (h1 : s < nx.length) (h2 : chk xs i = 0) : frm i st nx ot s xs = (runO nx ot s xs, (runS nx s xs : Int), 0) := by
  unfold frm; rw [if_pos h, if_pos (by omega), if_pos h2]; rfl
theorem frm_len {i st : Int} {nx ot : List (List Int)} {s : Int} {xs : List Int} : (frm i st nx ot s xs).1.length ≤ 1024 := by
  by_cases h : vld i st nx ot = 0
  · by_cases h1 : 0 ≤ s ∧ s < nx.length
    · by_cases h2 : chk xs i = 0
      · obtain ⟨t, rfl⟩ : ∃ t : Nat, s = t := ⟨s.toNat, by omega⟩
        rw [frm_ok h (by omega) h2]
        show (runO nx ot t xs).length ≤ 1024
        rw [runO_len]
        exact (chk_zero h2).2.2.1
      · rw [frm_word h h1 h2]; simp
    · rw [frm_state h h1]; simp
  · rw [frm_bad h]; simp
theorem frm_zero {i st : Int} {nx ot : List (List Int)} {s : Int} {xs : List Int} (h : (frm i st nx ot s xs).2.2 = 0) : ∃ i' st' n t : Nat, i = i' ∧ st = st' ∧ s = t ∧ t < n ∧ Mok i' st' n nx ot ∧ chk xs i = 0 := by
  by_cases h0 : vld i st nx ot = 0
  · obtain ⟨i', st', n, rfl, rfl, hM⟩ := vld_zero h0
    by_cases h1 : 0 ≤ s ∧ s < nx.length
    · by_cases h2 : chk xs i' = 0
      · exact ⟨i', st', n, s.toNat, rfl, rfl, by omega, by have := hM.nxl; omega, hM, h2⟩
      · rw [frm_word h0 h1 h2] at h; exact absurd h h2
    · rw [frm_state h0 h1] at h; exact absurd h (by show ¬ (2 : Int) = 0; omega)
  · rw [frm_bad h0] at h; exact absurd h h0
theorem Mok.frm {i st n : Nat} {nx ot : List (List Int)} (hM : Mok i st n nx ot) {s : Nat} (hs : s < n) {xs : List Int} (h : chk xs i = 0) : frm i st nx ot s xs = (runO nx ot s xs, (runS nx s xs : Int), 0) :=
  frm_ok hM.vld (by rw [hM.nxl]; exact hs) h

/-- What Step returns. -/
def stp (i st : Int) (nx ot : List (List Int)) (s a : Int) : Int × Int × Int :=
  if vld i st nx ot = 0 then (if (0 ≤ s ∧ s < nx.length) ∧ 0 ≤ a ∧ a < i then ((nN nx s.toNat a.toNat : Int), oN ot s.toNat a.toNat, 0) else (0, 0, 2)) else (0, 0, vld i st nx ot)
theorem stp_bad {i st : Int} {nx ot : List (List Int)} {s a : Int} (h : ¬ vld i st nx ot = 0) : stp i st nx ot s a = (0, 0, vld i st nx ot) := by unfold stp; rw [if_neg h]
theorem stp_state {i st : Int} {nx ot : List (List Int)} {s a : Int} (h : vld i st nx ot = 0) (h1 : ¬ ((0 ≤ s ∧ s < nx.length) ∧ 0 ≤ a ∧ a < i)) : stp i st nx ot s a = (0, 0, 2) := by unfold stp; rw [if_pos h, if_neg h1]
theorem stp_ok {i st : Int} {nx ot : List (List Int)} {s a : Nat} (h : vld i st nx ot = 0) (h1 : s < nx.length) (h2 : (a : Int) < i) : stp i st nx ot s a = ((nN nx s a : Int), oN ot s a, 0) := by unfold stp; rw [if_pos h, if_pos (by omega)]; rfl
end Go.Proofs.Ytogcecfeofbbnaa
end

section
/- From, Run and Step of a machine. -/
namespace Go.Proofs.Ytogcecfeofbbnaa
open Go.RowKit

theorem ret_from {A : Option Addr} {l l' c : Nat} {x x' y y' : Int} (h1 : l = l') (h2 : x = x') (h3 : y = y') : Ending.returned (.tuple #[.slice A l c, .int .i64 x, .int .i64 y]) = .returned (.tuple #[.slice A l' c, .int .i64 x', .int .i64 y']) := by rw [h1, h2, h3]
theorem ret_run {A : Option Addr} {l l' c : Nat} {y y' : Int} (h1 : l = l') (h3 : y = y') : Ending.returned (.tuple #[.slice A l c, .int .i64 y]) = .returned (.tuple #[.slice A l' c, .int .i64 y']) := by rw [h1, h3]
theorem ret_three {k k' k'' : IntKind} {a b c a' b' c' : Int} (h1 : a = a') (h2 : b = b') (h3 : c = c') : Ending.returned (.tuple #[.int k a, .int k' b, .int k'' c]) = .returned (.tuple #[.int k a', .int k' b', .int k'' c']) := by rw [h1, h2, h3]

set_option maxHeartbeats 2000000 in
set_option maxRecDepth 100000 in
theorem pfrom (i st : Int) (A B D : Option Addr) (n c m d k e : Nat) (nx ot : List (List Int)) (s : Int) (xs : List Int) (w : World) (hx : Lists w A n nx) (ho : Lists w B m ot) (hD : Ints w D k xs) :
    Calls Try.prog 27 #[.agg #[.int .i64 i, .int .i64 st, .slice A n c, .slice B m d], .int .i64 s, .slice D k e] w fun e w' => ∃ A' c',
      e = .returned (.tuple #[.slice A' (frm i st nx ot s xs).1.length c', .int .i64 (frm i st nx ot s xs).2.1, .int .i64 (frm i st nx ot s xs).2.2]) ∧ Owned w' w.heap.size (.slice A' (frm i st nx ot s xs).1.length c') (frm i st nx ot s xs).1 ∧ Below w.heap.size w w' := by
  have L1 := Lib.hid hx.1
  have LD := Lib.hid hD.1
  have hn := hx.2.1
  have hk := hD.2.1
  have hb0 := alloc_below w (.cells #[.int .i64 i, .int .i64 st, .slice A n c, .slice B m d] 24)
  have HZ := Lib.hid (show (w.alloc (.cells #[.int .i64 i, .int .i64 st, .slice A n c, .slice B m d] 24)).heap.size = w.heap.size + 1 by simp)
  by_cases hv : vld i st nx ot = 0
  · have HV := Lib.hid hv
    obtain ⟨i, st, n', rfl, rfl, hM⟩ := vld_zero hv
    obtain rfl : n = n' := by have := hM.nxl; rw [L1.out] at this; exact this
    obtain rfl : m = n := by have := hM.otl; rw [ho.1] at this; exact this
    clear hv
    by_cases hs : 0 ≤ s ∧ s < m
    · have HS := Lib.hid hs
      have HT := Lib.hid ((decide_eq_true hs).symm)
      by_cases hc : chk xs i = 0
      · obtain ⟨s, rfl⟩ : ∃ t : Nat, s = t := ⟨s.toNat, by omega⟩
        have hfin := Lib.hid (frm_ok (s := s) HV.out (by rw [L1.out]; omega) hc)
        have HC := Lib.hid hc
        clear hs hc
        go_enter Try.func27, Try.ntmps27
        go_wp2_with fail
        refine (pvalid _ _ _ _ _ _ _ _ _ _ _ (hx.below hb0) (ho.below hb0)).mono ?_
        rintro e w1 ⟨rfl, b1⟩
        rw [HZ.out] at b1
        rw [HV.out]
        obtain ⟨k0, k1, k2, k3⟩ := box4 b1
        go_wp2_with fail
        refine (pisst _ _ _ _ _ _ _ _ _ _ _ hn HT.out).mono ?_
        rintro e w2 ⟨rfl, b2⟩
        have b2 := b1.trans (b2.mono (by have := b1.size; simpa using this))
        obtain ⟨k0, k1, k2, k3⟩ := box4 b2
        have bw := hb0.trans (b2.mono (Nat.le_succ _))
        go_wp2_with fail
        refine (wcheck _ _ _ _ _ _ (hD.below bw)).mono ?_
        rintro e w3 ⟨rfl, rfl⟩
        rw [HC.out]
        have ba := alloc_below w2 (.cells #[.int .i64 i, .int .i64 st, .slice A m c, .slice B m d, .int .i64 s] 85)
        have hR : Rnr (w2.alloc (.cells #[.int .i64 i, .int .i64 st, .slice A m c, .slice B m d, .int .i64 s] 85)) w2.heap.size i st A m c B m d s := heap_alloc_new w2 _
        have HR := Lib.hid hR
        have hsy := Lib.hid (chk_zero HC.out).2.2.2.mem
        have hg := bw.size
        have bwa := bw.trans (ba.mono hg)
        have hsn : s < m := by have := HS.out; omega
        clear hR ba
        go_wp2_with fail
        refine (prun hM hx ho bwa HR.out hg hsn hD hsy.out).mono ?_
        rintro e w4 ⟨A4, c4, rfl, ho4, b4, hR4⟩
        obtain ⟨d2, d3, d4, _⟩ := hR4.cells
        have HR4 := Lib.hid hR4
        have ho4 := Lib.hid ho4
        clear hR4
        go_wp2
        go_quiet (fail)
        go_wp2
        go_ret3
        have hlen : (runO nx ot s xs).length = k := by rw [runO_len, LD.out]
        exact ⟨A4, c4, by rw [hfin.out]; exact ret_from hlen.symm rfl rfl, by rw [hfin.out]; show Owned _ _ (.slice A4 (runO nx ot s xs).length c4) _; rw [hlen]; exact ho4.out, below_drewN b4 _⟩
      · have hfin := Lib.hid (frm_word HV.out (by rw [L1.out]; exact HS.out) hc)
        have hne : (chk xs i != 0) = true := by simpa using hc
        clear hs
        go_enter Try.func27, Try.ntmps27
        go_wp2_with fail
        refine (pvalid _ _ _ _ _ _ _ _ _ _ _ (hx.below hb0) (ho.below hb0)).mono ?_
        rintro e w1 ⟨rfl, b1⟩
        rw [HZ.out] at b1
        rw [HV.out]
        obtain ⟨k0, k1, k2, k3⟩ := box4 b1
        go_wp2_with fail
        refine (pisst _ _ _ _ _ _ _ _ _ _ _ hn HT.out).mono ?_
        rintro e w2 ⟨rfl, b2⟩
        have b2 := b1.trans (b2.mono (by have := b1.size; simpa using this))
        obtain ⟨k0, k1, k2, k3⟩ := box4 b2
        have bw := hb0.trans (b2.mono (Nat.le_succ _))
        go_wp2_with fail
        refine (wcheck _ _ _ _ _ _ (hD.below bw)).mono ?_
        rintro e w3 ⟨rfl, rfl⟩
        generalize chk xs i = E at hne hfin hc
        clear hc
        go_wp2
        go_ret3
        exact ⟨none, 0, by rw [hfin.out]; rfl, by rw [hfin.out]; exact Owned.nil _ _, bw⟩
    · have hfin := Lib.hid (frm_state (xs := xs) HV.out (by rw [L1.out]; exact hs))
      have HT := Lib.hid ((decide_eq_false hs).symm)
      clear hs
      go_enter Try.func27, Try.ntmps27
      go_wp2_with fail
      refine (pvalid _ _ _ _ _ _ _ _ _ _ _ (hx.below hb0) (ho.below hb0)).mono ?_
      rintro e w1 ⟨rfl, b1⟩
      rw [HZ.out] at b1
      rw [HV.out]
      obtain ⟨k0, k1, k2, k3⟩ := box4 b1
      go_wp2_with fail
      refine (pisst _ _ _ _ _ _ _ _ _ _ _ hn HT.out).mono ?_
      rintro e w2 ⟨rfl, b2⟩
      have b2 := b1.trans (b2.mono (by have := b1.size; simpa using this))
      have bw := hb0.trans (b2.mono (Nat.le_succ _))
      go_wp2
      go_ret3
      exact ⟨none, 0, by rw [hfin.out]; rfl, by rw [hfin.out]; exact Owned.nil _ _, bw⟩
  · have hfin := Lib.hid (frm_bad (s := s) (xs := xs) hv)
    have hne : (vld i st nx ot != 0) = true := by simpa using hv
    go_enter Try.func27, Try.ntmps27
    go_wp2_with fail
    refine (pvalid _ _ _ _ _ _ _ _ _ _ _ (hx.below hb0) (ho.below hb0)).mono ?_
    rintro e w1 ⟨rfl, b1⟩
    generalize vld i st nx ot = E at hne hfin hv
    clear hv
    go_wp2
    go_ret3
    exact ⟨none, 0, by rw [hfin.out]; rfl, by rw [hfin.out]; exact Owned.nil _ _, bt hb0 b1⟩

set_option maxHeartbeats 1000000 in
set_option maxRecDepth 100000 in
theorem prunw (i st : Int) (A B D : Option Addr) (n c m d k e : Nat) (nx ot : List (List Int)) (xs : List Int) (w : World) (hx : Lists w A n nx) (ho : Lists w B m ot) (hD : Ints w D k xs) :
    Calls Try.prog 29 #[.agg #[.int .i64 i, .int .i64 st, .slice A n c, .slice B m d], .slice D k e] w fun e w' => ∃ A' c',
      e = .returned (.tuple #[.slice A' (frm i st nx ot st xs).1.length c', .int .i64 (frm i st nx ot st xs).2.2]) ∧ Owned w' w.heap.size (.slice A' (frm i st nx ot st xs).1.length c') (frm i st nx ot st xs).1 ∧ Below w.heap.size w w' := by
  have hb0 := alloc_below w (.cells #[.int .i64 i, .int .i64 st, .slice A n c, .slice B m d] 24)
  go_enter Try.func29, Try.ntmps29
  go_wp2_with fail
  refine (pfrom _ _ _ _ _ _ _ _ _ _ _ _ _ _ _ _ (hx.below hb0) (ho.below hb0) (hD.below hb0)).mono ?_
  rintro e w1 ⟨A1, c1, rfl, h1, b1⟩
  have h2 := Lib.hid (h1.lower (base' := w.heap.size) hb0.size)
  have b2 := Lib.hid (bt hb0 b1)
  clear h1 b1
  go_wp2
  go_ret2
  exact ⟨A1, c1, rfl, h2.out, b2.out⟩

end Go.Proofs.Ytogcecfeofbbnaa
end

section
/- The reference: Outs. -/
namespace Go.Proofs.Ytogcecfeofbbnaa
open Go.RowKit

theorem skol {α : Sort _} {p : Nat → α → Prop} (h : ∀ k, ∃ x, p k x) : ∃ F : Nat → α, ∀ k, p k (F k) := ⟨fun k => Classical.choose (h k), fun k => Classical.choose_spec (h k)⟩

/-- append at a step of a region that draws. -/
theorem step_append_run {P : Program} {ops : Array Oper} {o : Oper} {a : Act} {w : World} {K : Act → World → Prop} {Q : Exit → Act → World → Prop} {E : Prop} (hgd : o.guard = none) (s x : Operand) (t tn : TypeId)
    (ho : o.op = .call { callee := .builtin .append, args := #[s, x], argTypes := #[t, tn] }) (vs vx : Value) (hs : a.eval s = vs) (hx : a.eval x = vx)
    (v' : Value) (w' : World) (hr : (Builtin.append_ #[t, tn] o.type #[vs, vx]).run P w = .ok v' w') (h : K (a.put o.dst v') w') :
    if Region.wanted o (yielded ops a.tmps) = true then Oper.wp P o a w K Q else E := by
  have hw : Region.wanted o (yielded ops a.tmps) = true := by simp [Region.wanted, hgd]
  rw [if_pos hw]
  exact Lib.wp_append_run w s x t tn ho vs vx hs hx v' w' hr h

theorem Owned.drew {w : World} {base : Nat} {v : Value} {xs : List Int} (h : Owned w base v xs) (k : Nat) : Owned (w.drewN k) base v xs := h

/-- append of one number, behind any number of draws. -/
theorem app_all {wr : World} {base q : Nat} {A : Option Addr} {c : Nat} {xs : List Int} (h : Owned wr base (.slice A q c) xs) (x : Int) (hbase : base ≤ wr.heap.size) (hl : xs.length < 17592186044416) :
    ∃ F : Nat → (Option Addr × Nat) × World, ∀ k, (Builtin.append_ #[27, 27] 27 #[.slice A q c, .slice (some ⟨wr.heap.size, 0, none⟩) 1 1]).run Try.prog ((wr.drewN k).alloc (.cells #[.int .i64 x] 3)) = .ok (.slice (F k).1.1 (q + 1) (F k).1.2) (F k).2 ∧
      Owned (F k).2 base (.slice (F k).1.1 (q + 1) (F k).1.2) (xs ++ [x]) ∧ Below base wr (F k).2 := by
  have hq : q = xs.length := by obtain ⟨A', c', e⟩ := h.form; cases e; rfl
  refine skol (p := fun k (r : (Option Addr × Nat) × World) => (Builtin.append_ #[27, 27] 27 #[.slice A q c, .slice (some ⟨wr.heap.size, 0, none⟩) 1 1]).run Try.prog ((wr.drewN k).alloc (.cells #[.int .i64 x] 3)) = .ok (.slice r.1.1 (q + 1) r.1.2) r.2 ∧
      Owned r.2 base (.slice r.1.1 (q + 1) r.1.2) (xs ++ [x]) ∧ Below base wr r.2) fun k => ?_
  obtain ⟨A', c', w', h1, h2, h3, _⟩ := run_append_one (h.drew k) x hbase hl
  rw [← hq] at h1 h2
  exact ⟨((A', c'), w'), h1, h2, (below_drewN (Below.refl _ _) k).trans h3⟩

end Go.Proofs.Ytogcecfeofbbnaa
end

section
/- The search, step by step. -/
namespace Go.Proofs.Ytogcecfeofbbnaa

/-- Which states a search has seen. -/
def seenOf (n : Nat) (l : List Nat) : List Bool := (List.range n).map fun x => decide (x ∈ l)
theorem seenOf_len (n : Nat) (l : List Nat) : (seenOf n l).length = n := by simp [seenOf]
theorem seenOf_at {n : Nat} {l : List Nat} {x : Nat} (hx : x < n) : (seenOf n l).getD x false = decide (x ∈ l) := by
  unfold seenOf; simp [List.getD, hx]
theorem seenOf_set {n : Nat} {l : List Nat} {x : Nat} : (seenOf n l).set x true = seenOf n (l ++ [x]) := by
  apply List.ext_getElem
  · simp [seenOf]
  · intro m h1 h2
    have hm : m < n := by simpa [seenOf] using h2
    rw [List.getElem_set]
    by_cases e : x = m
    · subst e; simp [seenOf]
    · rw [if_neg e]; simp [seenOf, show ¬ m = x from fun h => e h.symm]
theorem seenOf_nil (n : Nat) : seenOf n [] = List.replicate n false := by
  apply List.ext_getElem
  · simp [seenOf]
  · intro m h1 h2; simp [seenOf]

/-- A list of states as numbers. -/
def zs (l : List Nat) : List Int := l.map fun x : Nat => (x : Int)
theorem zs_len (l : List Nat) : (zs l).length = l.length := by simp [zs]
theorem zs_at (l : List Nat) (j : Nat) : (zs l).getD j 0 = ((l.getD j 0 : Nat) : Int) := by
  unfold zs
  rw [List.getD_eq_getElem?_getD, List.getD_eq_getElem?_getD, List.getElem?_map]
  cases l[j]? <;> rfl
theorem zs_append (l t : List Nat) : zs (l ++ t) = zs l ++ zs t := by simp [zs]
theorem zs_one (x : Nat) : zs [x] = [(x : Int)] := rfl
theorem zs_inj {l t : List Nat} (h : zs l = zs t) : l = t := by
  induction l generalizing t with
  | nil => cases t with
    | nil => rfl
    | cons => simp [zs] at h
  | cons x l ih => cases t with
    | nil => simp [zs] at h
    | cons y t =>
      simp only [zs, List.map_cons, List.cons.injEq] at h
      rw [ih (by simpa [zs] using h.2), show x = y by omega]
theorem mem_zs {l : List Nat} {x : Nat} : ((x : Int) ∈ zs l) ↔ x ∈ l := by
  simp only [zs, List.mem_map]
  exact ⟨fun ⟨a, h, e⟩ => by rw [show x = a by omega]; exact h, fun h => ⟨x, h, rfl⟩⟩

theorem addR_in {nx : List (List Int)} {s a : Nat} {l : List Nat} (h : nN nx s a ∈ addR nx s l a) : addR nx s l (a + 1) = addR nx s l a := by
  show addN _ _ = _; unfold addN; rw [if_pos h]
theorem addR_out {nx : List (List Int)} {s a : Nat} {l : List Nat} (h : ¬ nN nx s a ∈ addR nx s l a) : addR nx s l (a + 1) = addR nx s l a ++ [nN nx s a] := by
  show addN _ _ = _; unfold addN; rw [if_neg h]
theorem Stt.one {n s : Nat} (h : s < n) : Stt n [s] := ⟨by simp, fun x hx => by simp at hx; omega⟩
theorem addR_at {nx : List (List Int)} {s : Nat} {l : List Nat} {j : Nat} (h : j < l.length) (a : Nat) : (addR nx s l a).getD j 0 = l.getD j 0 := by
  obtain ⟨t, ht⟩ := addR_pre nx s l a
  rw [ht]; exact getD_pre h
theorem addR_len {nx : List (List Int)} {s : Nat} {l : List Nat} (a : Nat) : l.length ≤ (addR nx s l a).length := by
  obtain ⟨t, ht⟩ := addR_pre nx s l a
  rw [ht, List.length_append]; omega
end Go.Proofs.Ytogcecfeofbbnaa
end

section
/- Reach of a machine. -/
namespace Go.Proofs.Ytogcecfeofbbnaa
open Go.RowKit

theorem infob : (Try.prog.info? 4).map (fun i => (i.zero, i.size, i.bytes)) = some (some (.bool false), 1, 1) := by kernel_rfl

/-- The row of the seen states. -/
def Seen (w : World) (g : Nat) (bs : List Bool) : Prop := w.heap[g]? = some (.cells (bs.map Value.bool).toArray 4 (0, 0))
theorem Seen.at_ {w : World} {g : Nat} {bs : List Bool} (h : Seen w g bs) {x : Nat} (hx : x < bs.length) : w.cell? ⟨g, x, none⟩ = some (.bool (bs.getD x false)) ∧ w.frozen? ⟨g, x, none⟩ = false := by
  refine ⟨?_, frozen_of_row w g x _ _ h⟩
  rw [cell_of_row w g x _ _ (0, 0) h]
  simp [List.getD, hx]
theorem Seen.set {w : World} {g : Nat} {bs : List Bool} (h : Seen w g bs) (x : Nat) (b : Bool) : Seen (w.setCell ⟨g, x, none⟩ (.bool b)) g (bs.set x b) := by
  have := heap_setCell_same w g x _ _ (Value.bool b) h
  unfold Seen
  rw [this]
  simp [List.map_set]
theorem Seen.of_below {w w' : World} {g : Nat} {bs : List Bool} (h : Seen w g bs) {b : Nat} (hb : Below b w w') (hg : g < b) : Seen w' g bs := (hb.block g hg).trans h

theorem made_bools (n : Nat) : madeCells (Value.bool false).cells (n * 1) = ((List.replicate n false).map Value.bool).toArray := by
  apply Array.ext'
  rw [show (Value.bool false).cells = #[Value.bool false] from rfl, Nat.mul_one, toList_madeCells_one, List.map_replicate]

/-- make([]bool, n). -/
theorem wpList_make_bools {ops : Array Oper} {rest : List Oper} {o : Oper} {a : Act} {Q : Exit → Act → World → Prop} (w : World) (hg : o.guard = none) (l c : Operand) (hop : o.op = Op.makeSlice 49 l c)
    (kl kc : IntKind) (n : Nat) (hl : a.eval l = .int kl n) (hc : a.eval c = .int kc n) (hn : n ≤ 17592186044416)
    (hK : ∀ w', Seen w' w.heap.size (List.replicate n false) → Below w.heap.size w w' → wpList Try.prog ops Q rest (a.put o.dst (.slice (some ⟨w.heap.size, 0, none⟩) n n)) w') :
    wpList Try.prog ops Q (o :: rest) a w := by
  obtain ⟨i, hi, hz0, hz1, hz2⟩ := info_parts infob
  refine wpList_plain hg fun K hK' => ?_
  have hr := run_make (P := Try.prog) w 49 4 i (.bool false) Try.underlying49 hi hz0 kl kc n n (by omega) (by omega) (by rw [hz2]; omega) (by omega)
  rw [hz1, Int.toNat_natCast, made_bools] at hr
  have hS : Seen (w.alloc (.cells ((List.replicate n false).map Value.bool).toArray 4)) w.heap.size (List.replicate n false) := heap_alloc_new w _
  have hB := alloc_below w (.cells ((List.replicate n false).map Value.bool).toArray 4)
  generalize w.alloc (.cells ((List.replicate n false).map Value.bool).toArray 4) = w' at hr hS hB
  unfold Oper.wp
  simp [execOp, hop, hl, hc, hr, Result.andThen]
  exact hK' _ _ (hK w' hS hB)

set_option maxHeartbeats 4000000 in
set_option maxRecDepth 100000 in
theorem preach_ok (i st n : Nat) (A B : Option Addr) (c d : Nat) (nx ot : List (List Int)) (w : World) (hx : Lists w A n nx) (ho : Lists w B n ot) (hM : Mok i st n nx ot) :
    Calls Try.prog 43 #[.agg #[.int .i64 i, .int .i64 st, .slice A n c, .slice B n d]] w fun e w' => ∃ A' c', e = .returned (.slice A' (rch nx i st).length c') ∧ Owned w' w.heap.size (.slice A' (rch nx i st).length c') (zs (rch nx i st)) ∧ Below w.heap.size w w' := by
  have HV := Lib.hid hM.vld
  have hn := hx.2.1
  have hst := hM.st
  have hn128 := hM.n2
  have hb0 := alloc_below w (.cells #[.int .i64 i, .int .i64 st, .slice A n c, .slice B n d] 24)
  have HZ := Lib.hid (show (w.alloc (.cells #[.int .i64 i, .int .i64 st, .slice A n c, .slice B n d] 24)).heap.size = w.heap.size + 1 by simp)
  obtain ⟨R, hR⟩ : ∃ R, R = rch nx i st := ⟨_, rfl⟩
  have HR := Lib.hid (hR.trans (show rch nx i st = bfs nx i n [st] 0 by unfold rch; rw [hM.nxl]))
  rw [← hR]
  clear hR
  go_enter Try.func43, Try.ntmps43
  go_wp2_with fail
  refine (pvalid _ _ _ _ _ _ _ _ _ _ _ (hx.below hb0) (ho.below hb0)).mono ?_
  rintro e w1 ⟨rfl, b1⟩
  rw [HZ.out] at b1
  rw [HV.out]
  obtain ⟨k0, k1, k2, k3⟩ := box4 b1
  have hl0 : Owned (w1.alloc (.cells #[.int .i64 st] 3)) (w.heap.size + 1) (.slice (some ⟨w1.heap.size, 0, none⟩) 1 1) (zs [st]) := Owned.literal w1 _ [(st : Int)] _ 1 (by have := b1.size; simpa using this) rfl rfl (by simp)
  have hz2 : w.heap.size + 1 ≤ w1.heap.size := by have := b1.size; simpa using this
  have hl1 := alloc_below w1 (.cells #[.int .i64 st] 3)
  have k2a := (hl1.cell (p := ⟨w.heap.size, 2, none⟩) (by show w.heap.size < _; omega)).trans k2
  have hs1 : (w1.alloc (.cells #[.int .i64 st] 3)).heap.size = w1.heap.size + 1 := by simp
  have HS1 := Lib.hid hs1
  have HL0 := Lib.hid hl0
  clear hs1 hl0
  have hz2 : w.heap.size + 1 ≤ w1.heap.size := by have := b1.size; simpa using this
  go_wp2_with (refine wpList_make_bools _ rfl _ _ rfl .i64 .i64 n rfl rfl hn ?_; intro w2 se2 b2; rw [HS1.out] at se2 b2; have b3 := b1.trans ((hl1.mono hz2).trans (b2.mono (Nat.le_succ_of_le hz2))); obtain ⟨k0, k1, k2, k3⟩ := box4 b3; obtain ⟨sc, sf⟩ := se2.at_ (x := st) (by simpa using hst); have SE2 := Lib.hid se2; have B2 := Lib.hid b2; clear se2 b2 b3)
  have b2 := B2.out
  have se2 := SE2.out
  have b3 : Below (w.heap.size + 1) (w.alloc (.cells #[.int .i64 i, .int .i64 st, .slice A n c, .slice B n d] 24)) w2 := b1.trans ((hl1.mono hz2).trans (b2.mono (by omega)))
  have hown2 : Owned w2 (w.heap.size + 1) (.slice (some ⟨w1.heap.size, 0, none⟩) 1 1) (zs [st]) := HL0.out.kept (by rw [HS1.out]; exact b2)
  have se3 := se2.set st true
  rw [← seenOf_nil, seenOf_set] at se3
  have ow3 := hown2.off se2 (by decide) st (.bool true) 0
  have bw3 := b3.setCell (p := ⟨w1.heap.size + 1, st, none⟩) (by show w.heap.size + 1 ≤ w1.heap.size + 1; omega) (.bool true)
  generalize hg : w1.heap.size + 1 = g at se3 ow3 bw3 ⊢
  have hgb : w.heap.size + 1 ≤ g := by omega
  clear se2 b2 hown2 HL0 SE2 B2 b3 sc sf k0 k1 k2 k3 hl1 HS1 k2a
  have hbt : (4 : TypeId) ≠ 3 := by decide
  clear hg b1
  go_loopw [3, 5] (fun v jv wr => ∃ (l : List Nat) (j : Nat) (A' : Option Addr) (c' : Nat), j ≤ l.length ∧ jv = .int .i64 j ∧ v = .slice A' l.length c' ∧ Stt n l ∧ R = bfs nx i n l j ∧ Owned wr (w.heap.size + 1) (.slice A' l.length c') (zs l) ∧ Seen wr g (seenOf n l) ∧ Below (w.heap.size + 1) (w.alloc (.cells #[.int .i64 i, .int .i64 st, .slice A n c, .slice B n d] 24)) wr) (fun _ jv _ => n - (intOf jv).toNat)
  case atStart => exact ⟨[st], 0, _, 1, Nat.zero_le _, rfl, rfl, Stt.one hst, HR.out, ow3, se3, bw3⟩
  case round =>
    obtain ⟨l, j, A', c', hj, rfl, rfl, hS, hB, hown, hseen, hbr⟩ := hrel
    have hbw := hb0.trans (hbr.mono (Nat.le_succ _))
    obtain ⟨k0, k1, k2, k3⟩ := box4 hbr
    have HB := Lib.hid hB
    have HSS := Lib.hid hseen
    clear hB hseen
    have hll := hS.len
    by_cases hlt : j < l.length
    · have hjn : j < n := by omega
      obtain ⟨b1, o1, rfl, hb1, hc1⟩ := (hown.ints (by rw [zs_len]; omega)).at_ (k := j) (by omega)
      rw [zs_at] at hc1
      have hs : l.getD j 0 < n := hS.2 _ (getD_mem hlt)
      have HNX := Lib.hid (bfs_on hM hS hlt)
      generalize l.getD j 0 = s at hc1 hs HNX
      obtain ⟨g1, p1, A1, n1, c1, rfl, hg1, hd1, hr1⟩ := hx.at_ hs
      have hi1 := (hM.row s hs).1
      have hl1 := hr1.1
      obtain rfl : n1 = i := by omega
      have hi64 := hM.i2
      have e1 := (hbw.cell (p := ⟨g1, p1 + s, none⟩) hg1).trans hd1
      clear hl1 hi1 hd1
      have HOW := Lib.hid hown
      clear hown
      go_wp2
      go_quiet (fail)
      go_wp2
      obtain ⟨wo, rfl⟩ : ∃ wo : World, wo = wr := ⟨_, rfl⟩
      have HBR := Lib.hid hbr
      clear hbr hbw k0 k1 k2 k3 hc1 hb1 e1
      go_loopw [3, 37] (fun v av wq => ∃ (a : Nat) (A2 : Option Addr) (c2 : Nat), a ≤ n1 ∧ av = .int .i64 a ∧ v = .slice A2 (addR nx s l a).length c2 ∧ Owned wq (w.heap.size + 1) (.slice A2 (addR nx s l a).length c2) (zs (addR nx s l a)) ∧ Seen wq g (seenOf n (addR nx s l a)) ∧ Below (w.heap.size + 1) (w.alloc (.cells #[.int .i64 n1, .int .i64 st, .slice (some ⟨g1, p1, none⟩) n c, .slice B n d] 24)) wq) (fun _ av _ => n1 - (intOf av).toNat)
      case atStart => exact ⟨0, _, _, Nat.zero_le _, rfl, rfl, HOW.out, HSS.out, below_drewN HBR.out _⟩
      case round =>
        obtain ⟨a, A2, c2, ha, rfl, rfl, hown, hseen, hbr⟩ := hrel
        have hSa := addR_stt hM hS hs a ha
        have hbw := hb0.trans (hbr.mono (Nat.le_succ _))
        by_cases hla : a < n1
        · obtain ⟨g3, p3, rfl, hg3, hy1⟩ := hr1.at_ hla
          rw [hM.nN_eq hs hla] at hy1
          have ht := hM.nN_lt hs hla
          have hIn := Lib.hid (fun h => addR_in (nx := nx) (s := s) (a := a) (l := l) h)
          have hOut := Lib.hid (fun h => addR_out (nx := nx) (s := s) (a := a) (l := l) h)
          generalize nN nx s a = t at hy1 ht hIn hOut
          have e3 := (hbw.cell (p := ⟨g3, p3 + a, none⟩) hg3).trans hy1
          obtain ⟨e4, e5⟩ := hseen.at_ (x := t) (by rw [seenOf_len]; exact ht)
          rw [seenOf_at ht] at e4
          clear hy1
          generalize addR nx s l a = l' at hown hseen hSa hIn hOut e4
          have hll' := hSa.len
          by_cases hm : t ∈ l'
          · rw [decide_eq_true hm] at e4
            have hnx := Lib.hid (hIn.out hm)
            have HOW := Lib.hid hown
            have HSE := Lib.hid hseen
            have HB2 := Lib.hid hbr
            clear hown hseen hbr hbw hIn hOut hm
            go_wp2
            go_roundw
            case rel => exact ⟨a + 1, A2, c2, by omega, by go_num, by rw [hnx.out], by rw [hnx.out]; exact HOW.out, by rw [hnx.out]; exact HSE.out, HB2.out⟩
            case measure => simp [intOf]; omega
          · rw [decide_eq_false hm] at e4
            have hnx := Lib.hid (hOut.out hm)
            have ho1 := hown.off hseen hbt t (.bool true) 0
            have hs1 := hseen.set t true
            rw [seenOf_set] at hs1
            have hb1 := hbr.setCell (p := ⟨g, t, none⟩) hgb (.bool true)
            have ho1 : Owned (wr.setCell ⟨g, t, none⟩ (.bool true)) (w.heap.size + 1) (.slice A2 l'.length c2) (zs l') := ho1
            have hsz : w.heap.size + 1 ≤ (wr.setCell ⟨g, t, none⟩ (.bool true)).heap.size := by have := hb1.size; simpa using this
            clear hown hseen hbr hbw hIn hOut hm
            obtain ⟨A3, c3, w4, hrn, ho4, hb4, hk4⟩ := run_append_one ho1 (t : Int) hsz (by rw [zs_len]; omega)
            have hs4 := Lib.hid (hk4 g _ _ hs1 hbt)
            have hb5 := Lib.hid (hb1.trans hb4)
            rw [zs_len] at hrn ho4
            have hz : zs l' ++ [(t : Int)] = zs (l' ++ [t]) := by rw [zs_append, zs_one]
            rw [hz] at ho4
            have hlen : (l' ++ [t]).length = l'.length + 1 := by simp
            have HL := Lib.hid hlen
            have HO4 := Lib.hid ho4
            clear hk4 hb1 hb4 hs1 ho1 hz hlen ho4
            have hh : (wr.setCell ⟨g, t, none⟩ (.bool true)).heap.size = wr.heap.size := by simp
            rw [hh] at hrn
            clear hh
            go_wp2_with (at_builtin; refine Lib.wpList_append_run _ rfl _ _ _ _ rfl _ _ rfl rfl _ _ hrn ?_)
            go_roundw
            case rel => exact ⟨a + 1, A3, c3, by omega, by go_num, by rw [hnx.out, HL.out], by rw [hnx.out, HL.out]; exact HO4.out, by rw [hnx.out]; exact hs4.out, hb5.out⟩
            case measure => simp [intOf]; omega
        · obtain rfl : a = n1 := by omega
          have hl' := addR_len (nx := nx) (s := s) (l := l) a
          have HX := Lib.hid (HB.out.trans HNX.out.symm)
          generalize addR nx s l a = l' at hown hseen hSa hl' HX
          have HOW := Lib.hid hown
          have HSE := Lib.hid hseen
          clear hown hseen
          go_wp2
          go_roundw
          case rel => exact ⟨l', j + 1, A2, c2, by omega, by go_num, rfl, hSa, HX.out, HOW.out, HSE.out, hbr⟩
          case measure => simp [intOf]; omega
    · have hfin := Lib.hid (HB.out.trans (bfs_end nx i n hlt))
      have HOW := Lib.hid hown
      clear hown
      go_wp2
      go_ret
      exact ⟨A', c', by rw [hfin.out]; rfl, by rw [hfin.out]; exact Owned.lower HOW.out (Nat.le_succ _), hbw⟩

theorem preach_bad (i st : Int) (A B : Option Addr) (n c m d : Nat) (nx ot : List (List Int)) (w : World) (hx : Lists w A n nx) (ho : Lists w B m ot) (hv : ¬ vld i st nx ot = 0) :
    Calls Try.prog 43 #[.agg #[.int .i64 i, .int .i64 st, .slice A n c, .slice B m d]] w fun e w' => e = .returned (.slice none 0 0) ∧ Below w.heap.size w w' := by
  have hb0 := alloc_below w (.cells #[.int .i64 i, .int .i64 st, .slice A n c, .slice B m d] 24)
  have hne : (vld i st nx ot != 0) = true := by simpa using hv
  go_enter Try.func43, Try.ntmps43
  go_wp2_with fail
  refine (pvalid _ _ _ _ _ _ _ _ _ _ _ (hx.below hb0) (ho.below hb0)).mono ?_
  rintro e w1 ⟨rfl, b1⟩
  generalize vld i st nx ot = E at hne hv
  clear hv
  go_wp2
  go_ret
  exact ⟨rfl, bt hb0 b1⟩
end Go.Proofs.Ytogcecfeofbbnaa
end

section
/- The trimmed machine. -/
namespace Go.Proofs.Ytogcecfeofbbnaa

theorem addR_has {nx : List (List Int)} {s : Nat} {l : List Nat} : ∀ {b : Nat}, ∀ a, a < b → nN nx s a ∈ addR nx s l b
  | 0, a, h => absurd h (by omega)
  | b + 1, a, h => by
    by_cases e : a = b
    · subst e; exact mem_addN _ _
    · exact addN_mem (addR_has a (by omega))
theorem addR_mem {nx : List (List Int)} {s : Nat} {l : List Nat} {x : Nat} (h : x ∈ l) (a : Nat) : x ∈ addR nx s l a := by obtain ⟨t, ht⟩ := addR_pre nx s l a; rw [ht]; simp [h]

theorem bfs_closed {i st n : Nat} {nx ot : List (List Int)} (hM : Mok i st n nx ot) : ∀ (k : Nat) (l : List Nat) (j : Nat), Stt n l → n ≤ k + j → (∀ m, m < j → m < l.length → ∀ a, a < i → nN nx (l.getD m 0) a ∈ l) →
    Stt n (bfs nx i k l j) ∧ ∀ m, m < (bfs nx i k l j).length → ∀ a, a < i → nN nx ((bfs nx i k l j).getD m 0) a ∈ bfs nx i k l j
  | 0, l, j, hS, hk, h => ⟨hS, fun m hm a ha => h m (by have := hS.len; have hm : m < l.length := hm; omega) hm a ha⟩
  | k + 1, l, j, hS, hk, h => by
    by_cases hj : j < l.length
    · have e : bfs nx i (k + 1) l j = bfs nx i k (addR nx (l.getD j 0) l i) (j + 1) := by
        show (if j < l.length then _ else _) = _; rw [if_pos hj]
      rw [e]
      refine bfs_closed hM k _ _ (addR_stt hM hS (hS.2 _ (getD_mem hj)) i (Nat.le_refl _)) (by omega) fun m hm hml a ha => ?_
      by_cases e2 : m = j
      · subst e2; rw [addR_at hj]; exact addR_has a ha
      · rw [addR_at (by omega)]; exact addR_mem (h m (by omega) (by omega) a ha) i
    · rw [bfs_end nx i (k + 1) hj]
      exact ⟨hS, fun m hm a ha => h m (by omega) hm a ha⟩

theorem Mok.rch_stt {i st n : Nat} {nx ot : List (List Int)} (hM : Mok i st n nx ot) : Stt n (rch nx i st) :=
  (bfs_closed hM _ _ _ (Stt.one hM.st) (by rw [hM.nxl]; omega) (fun m hm => absurd hm (by omega))).1
theorem Mok.rch_in {i st n : Nat} {nx ot : List (List Int)} (hM : Mok i st n nx ot) {s a : Nat} (hs : s ∈ rch nx i st) (ha : a < i) : nN nx s a ∈ rch nx i st := by
  obtain ⟨m, hm, rfl⟩ := List.getElem_of_mem hs
  have := (bfs_closed hM nx.length [st] 0 (Stt.one hM.st) (by rw [hM.nxl]; omega) (fun m hm => absurd hm (by omega))).2 m hm a ha
  rw [show (bfs nx i nx.length [st] 0).getD m 0 = (rch nx i st)[m] by rw [List.getD_eq_getElem?_getD]; show (rch nx i st)[m]?.getD 0 = _; rw [List.getElem?_eq_getElem hm]; rfl] at this
  exact this
theorem rch_pre (nx : List (List Int)) (i st : Nat) : ∃ t, rch nx i st = st :: t := by
  obtain ⟨t, ht⟩ := bfs_pre nx i nx.length [st] 0
  exact ⟨t, ht⟩

/-- The place of a state. -/
def ixN (R : List Nat) (x : Nat) : Nat := R.idxOf x
theorem ixN_lt {R : List Nat} {x : Nat} (h : x ∈ R) : ixN R x < R.length := List.idxOf_lt_length_of_mem h
theorem ixN_at {R : List Nat} {x : Nat} (h : x ∈ R) : R.getD (ixN R x) 0 = x := by
  rw [List.getD_eq_getElem?_getD, List.getElem?_eq_getElem (ixN_lt h)]
  exact List.getElem_idxOf (ixN_lt h)
theorem ixN_of {R : List Nat} (hR : R.Nodup) {j : Nat} (hj : j < R.length) : ixN R (R.getD j 0) = j := by
  have hm : R.getD j 0 ∈ R := getD_mem hj
  have h1 := ixN_at hm
  have h2 := ixN_lt hm
  rw [List.getD_eq_getElem?_getD, List.getD_eq_getElem?_getD, List.getElem?_eq_getElem hj, List.getElem?_eq_getElem (by rw [List.getD_eq_getElem?_getD, List.getElem?_eq_getElem hj] at h2; exact h2)] at h1
  rw [List.getD_eq_getElem?_getD, List.getElem?_eq_getElem hj] at h2 ⊢
  exact (List.getElem_inj hR).1 h1

/-- The rows of the trimmed machine. -/
def trR (nx : List (List Int)) (i : Nat) (R : List Nat) (s : Nat) : List Int := (List.range i).map fun a => ((ixN R (nN nx s a) : Nat) : Int)
def trN (nx : List (List Int)) (i : Nat) (R : List Nat) : List (List Int) := R.map (trR nx i R)
def trO (ot : List (List Int)) (R : List Nat) : List (List Int) := R.map fun s => ot.getD s []
theorem trR_len (nx : List (List Int)) (i : Nat) (R : List Nat) (s : Nat) : (trR nx i R s).length = i := by simp [trR]
theorem trR_at {nx : List (List Int)} {i : Nat} {R : List Nat} {s a : Nat} (ha : a < i) : (trR nx i R s).getD a 0 = ((ixN R (nN nx s a) : Nat) : Int) := by
  unfold trR; simp [List.getD, ha]
/-- A row while it is renumbered. -/
def midR (nx : List (List Int)) (i : Nat) (R : List Nat) (s a : Nat) : List Int := (trR nx i R s).take a ++ (nx.getD s []).drop a
theorem midR_zero (nx : List (List Int)) (i : Nat) (R : List Nat) (s : Nat) : midR nx i R s 0 = nx.getD s [] := by simp [midR]
theorem midR_all {nx : List (List Int)} {i : Nat} {R : List Nat} {s : Nat} (h : (nx.getD s []).length = i) : midR nx i R s i = trR nx i R s := by
  unfold midR; rw [List.take_of_length_le (by rw [trR_len]; exact Nat.le_refl _), List.drop_eq_nil_of_le (by omega), List.append_nil]
theorem midR_len {nx : List (List Int)} {i : Nat} {R : List Nat} {s a : Nat} (h : (nx.getD s []).length = i) (ha : a ≤ i) : (midR nx i R s a).length = i := by
  unfold midR; rw [List.length_append, List.length_take, List.length_drop, trR_len, h]; omega
theorem midR_get {nx : List (List Int)} {i : Nat} {R : List Nat} {s a m : Nat} (ha : a ≤ i) : (midR nx i R s a)[m]? = if m < a then (trR nx i R s)[m]? else (nx.getD s [])[m]? := by
  unfold midR
  have hl : ((trR nx i R s).take a).length = a := by rw [List.length_take, trR_len]; omega
  by_cases h : m < a
  · rw [if_pos h, List.getElem?_append_left (by omega), List.getElem?_take, if_pos h]
  · rw [if_neg h, List.getElem?_append_right (by omega), List.getElem?_drop, hl, show a + (m - a) = m by omega]
theorem midR_at {nx : List (List Int)} {i : Nat} {R : List Nat} {s a : Nat} (ha : a < i) : (midR nx i R s a).getD a 0 = (nx.getD s []).getD a 0 := by
  rw [List.getD_eq_getElem?_getD, midR_get (by omega), if_neg (by omega), ← List.getD_eq_getElem?_getD]
theorem midR_set {nx : List (List Int)} {i : Nat} {R : List Nat} {s a : Nat} (h : (nx.getD s []).length = i) (ha : a < i) : (midR nx i R s a).set a ((ixN R (nN nx s a) : Nat) : Int) = midR nx i R s (a + 1) := by
  apply List.ext_getElem?
  intro m
  have ht : (trR nx i R s)[a]? = some ((ixN R (nN nx s a) : Nat) : Int) := by
    have := trR_at (nx := nx) (R := R) (s := s) ha
    rw [List.getD_eq_getElem?_getD, List.getElem?_eq_getElem (by rw [trR_len]; exact ha)] at this
    rw [List.getElem?_eq_getElem (by rw [trR_len]; exact ha)]
    exact congrArg some this
  rw [List.getElem?_set, midR_get (by omega), midR_get (by omega), midR_len h (by omega)]
  by_cases e : a = m
  · subst e
    rw [if_pos rfl, if_pos ha, if_pos (by omega), ht]
  · rw [if_neg e]
    by_cases e2 : m < a
    · rw [if_pos e2, if_pos (by omega)]
    · rw [if_neg e2, if_neg (by omega)]
theorem map_take_succ {α β : Type} (f : α → β) (l : List α) (d : α) {k : Nat} (h : k < l.length) : (l.take (k + 1)).map f = (l.take k).map f ++ [f (l.getD k d)] := by
  rw [List.take_succ_eq_append_getElem h, List.map_append, List.getD_eq_getElem?_getD, List.getElem?_eq_getElem h]; rfl
end Go.Proofs.Ytogcecfeofbbnaa
end

section
/- Valid of a machine by the reference. -/
namespace Go.Proofs.Ytogcecfeofbbnaa
open Go.RowKit

set_option maxHeartbeats 2000000 in
set_option maxRecDepth 100000 in
theorem rvalid (i st : Int) (A B : Option Addr) (n c m d : Nat) (nx ot : List (List Int)) (w : World) (hx : Lists w A n nx) (ho : Lists w B m ot) :
    Calls Try.prog 28 #[.agg #[.int .i64 i, .int .i64 st, .slice A n c, .slice B m d]] w fun e w' => e = .returned (.int .i64 (vld i st nx ot)) ∧ Below w.heap.size w w' := by
  have L1 := Lib.hid hx.1
  have L2 := Lib.hid ho.1
  have hn := hx.2.1
  have hm := ho.2.1
  have hb0 := alloc_below w (.cells #[.int .i64 i, .int .i64 st, .slice A n c, .slice B m d] 24)
  have hsz0 : (w.alloc (.cells #[.int .i64 i, .int .i64 st, .slice A n c, .slice B m d] 24)).heap.size = w.heap.size + 1 := by simp
  have HZ := Lib.hid hsz0
  clear hsz0
  by_cases hi : 1 ≤ i ∧ i ≤ 64
  · have HI := Lib.hid hi
    obtain ⟨hi1, hi2⟩ := hi
    have i1 : decide (i < 1) = false := by simpa using hi1
    have i2 : decide (64 < i) = false := by simpa using hi2
    by_cases h0 : n = 0
    · have hfin := Lib.hid (vld_empty (st := st) (ot := ot) HI.out (by rw [L1.out]; exact h0))
      subst h0
      go_enter Try.func28, Try.ntmps28
      go_wp2
      go_ret
      exact ⟨ret_int hfin.out.symm, hb0⟩
    · have z0 : ((n : Int) == 0) = false := by simp; omega
      by_cases h1 : 128 < n
      · have hfin := Lib.hid (vld_many (st := st) (ot := ot) HI.out (by rw [L1.out]; exact h1))
        clear h0
        go_enter Try.func28, Try.ntmps28
        go_wp2
        go_ret
        exact ⟨ret_int hfin.out.symm, hb0⟩
      · have z1 : decide ((128 : Int) < (n : Int)) = false := by simp; omega
        by_cases h2 : 0 ≤ st ∧ st < n
        · have H2 := Lib.hid h2
          have s1 : decide (st < 0) = false := by simpa using h2.1
          have s2 : decide ((n : Int) ≤ st) = false := by simpa using h2.2
          by_cases h3 : m = n
          · subst h3
            have z3 : ((m : Int) != (m : Int)) = false := by simp
            have hrows := Lib.hid (vld_rows (i := i) (st := st) (nx := nx) (ot := ot) HI.out (by rw [L1.out]; exact h0) (by rw [L1.out]; exact h1) (by rw [L1.out]; exact H2.out) (by rw [L1.out, L2.out]))
            clear h0 h2
            go_enter Try.func28, Try.ntmps28
            go_wp2
            go_loopw [3] (fun x wr => ∃ j : Nat, j ≤ m ∧ x = .int .i64 j ∧ (∀ t, t < j → rowAt i nx ot t = 0) ∧ Below (w.heap.size + 1) (w.alloc (.cells #[.int .i64 i, .int .i64 st, .slice A m c, .slice B m d] 24)) wr) (fun x _ => m - (intOf x).toNat)
            case atStart => exact ⟨0, Nat.zero_le _, rfl, fun t h => absurd h (by omega), Below.refl _ _⟩
            case round =>
              obtain ⟨j, hj, rfl, hok, hbr⟩ := hrel
              have hbw := hb0.trans (hbr.mono (Nat.le_succ _))
              have hsz1 : w.heap.size + 1 ≤ wr.heap.size := by have := hbr.size; simpa using this
              have HK := Lib.hid hok
              clear hok
              obtain ⟨k0, k1, k2, k3⟩ := box4 hbr
              by_cases hlt : j < m
              · have HV := Lib.hid (show rowAt i nx ot j = rowE i m (nx.getD j []) (ot.getD j []) by unfold rowAt; rw [L1.out])
                by_cases he : rowE i m (nx.getD j []) (ot.getD j []) = 0
                · have hnx := Lib.hid (show ∀ t, t < j + 1 → rowAt i nx ot t = 0 from fun t ht => by
                    by_cases e : t = j
                    · subst e; rw [HV.out]; exact he
                    · exact HK.out t (by omega))
                  have HE := Lib.hid he
                  clear he
                  go_wp2_with fail
                  refine (rrow _ _ _ _ _ _ _ _ _ _ _ _ (hx.below hbw) (ho.below hbw) hlt hlt).mono ?_
                  rintro e w2 ⟨rfl, b2⟩
                  have b3 := hbr.trans (b2.mono hsz1)
                  rw [HE.out]
                  obtain ⟨k0, k1, k2, k3⟩ := box4 b3
                  go_wp2
                  go_roundw
                  case rel => exact ⟨j + 1, by omega, by go_num, hnx.out, b3⟩
                  case measure => simp [intOf]; omega
                · have hfin := Lib.hid (hrows.out.trans (fstE_bad HK.out (by rw [HV.out]; exact he) (by rw [L1.out]; exact hlt)))
                  have he2 : (rowE i m (nx.getD j []) (ot.getD j []) != 0) = true := by simpa using he
                  go_wp2_with fail
                  refine (rrow _ _ _ _ _ _ _ _ _ _ _ _ (hx.below hbw) (ho.below hbw) hlt hlt).mono ?_
                  rintro e w2 ⟨rfl, b2⟩
                  have b3 := hbr.trans (b2.mono hsz1)
                  have HF := Lib.hid (hfin.out.trans HV.out)
                  clear hfin HV
                  generalize rowE i m (nx.getD j []) (ot.getD j []) = E at he2 he HF
                  clear he
                  go_wp2
                  go_ret
                  exact ⟨ret_int HF.out.symm, hb0.trans (b3.mono (Nat.le_succ _))⟩
              · obtain rfl : j = m := by omega
                have hfin := Lib.hid (hrows.out.trans (fstE_ok (by rw [L1.out]; exact HK.out)))
                go_wp2
                go_ret
                exact ⟨ret_int hfin.out.symm, hbw⟩
          · have z3 : ((m : Int) != (n : Int)) = true := by simp; omega
            have hfin := Lib.hid (vld_out (i := i) (st := st) (nx := nx) (ot := ot) HI.out (by rw [L1.out]; exact h0) (by rw [L1.out]; exact h1) (by rw [L1.out]; exact H2.out) (by rw [L1.out, L2.out]; exact h3))
            clear h0 h3
            go_enter Try.func28, Try.ntmps28
            go_wp2
            go_ret
            exact ⟨ret_int hfin.out.symm, hb0⟩
        · have hfin := Lib.hid (vld_start (i := i) (st := st) (nx := nx) (ot := ot) HI.out (by rw [L1.out]; exact h0) (by rw [L1.out]; exact h1) (by rw [L1.out]; exact h2))
          by_cases h3 : 0 ≤ st
          · have s1 : decide (st < 0) = false := by simpa using h3
            have s2 : decide ((n : Int) ≤ st) = true := by simp; omega
            clear h0 h2
            go_enter Try.func28, Try.ntmps28
            go_wp2
            go_ret
            exact ⟨ret_int hfin.out.symm, hb0⟩
          · have s1 : decide (st < 0) = true := by simpa using h3
            clear h0 h2
            go_enter Try.func28, Try.ntmps28
            go_wp2
            go_ret
            exact ⟨ret_int hfin.out.symm, hb0⟩
  · have hfin := Lib.hid (vld_in (st := st) (nx := nx) (ot := ot) hi)
    by_cases hi1 : 1 ≤ i
    · have hi2 : 64 < i := by omega
      have t1 : ¬ i < 1 := by omega
      clear hi
      go_enter Try.func28, Try.ntmps28
      go_wp2
      go_ret
      exact ⟨ret_int hfin.out.symm, hb0⟩
    · have t1 : i < 1 := by omega
      clear hi hi1
      go_enter Try.func28, Try.ntmps28
      go_wp2
      go_ret
      exact ⟨ret_int hfin.out.symm, hb0⟩
end Go.Proofs.Ytogcecfeofbbnaa
end

section
/- The reference: has, index, Reach. -/
namespace Go.Proofs.Ytogcecfeofbbnaa
open Go.RowKit

theorem mem_take_succ {xs : List Int} {j : Nat} {v : Int} (h : ∀ m, m < j → xs.getD m 0 ≠ v) (h2 : xs.getD j 0 ≠ v) : ∀ m, m < j + 1 → xs.getD m 0 ≠ v := fun m hm => by
  by_cases e : m = j
  · subst e; exact h2
  · exact h m (by omega)

set_option maxRecDepth 100000 in
theorem rhas (A : Option Addr) (n c : Nat) (xs : List Int) (v : Int) (b : Bool) (w : World) (hx : Ints w A n xs) (hb : b = decide (v ∈ xs)) :
    Calls Try.prog 123 #[.slice A n c, .int .i64 v] w fun e w' => e = .returned (.bool b) ∧ ∃ q, w' = w.drewN q := by
  have L := Lib.hid hx.1
  have hn := hx.2.1
  have HB := Lib.hid hb
  clear hb
  go_enter Try.func123, Try.ntmps123
  go_wp2
  go_loop [5] (fun jv => ∃ j : Nat, j ≤ n ∧ jv = .int .i64 j ∧ ∀ m, m < j → xs.getD m 0 ≠ v) (fun jv => n - (intOf jv).toNat)
  case atStart => exact ⟨0, Nat.zero_le _, rfl, fun m h => absurd h (by omega)⟩
  case round =>
    obtain ⟨j, hj, rfl, hall⟩ := hrel
    have HA := Lib.hid hall
    clear hall
    by_cases hlt : j < n
    · obtain ⟨g, o, rfl, _, hcell⟩ := hx.at_ (k := j) hlt
      by_cases he : xs.getD j 0 = v
      · have hfin := Lib.hid (HB.out.trans (decide_eq_true (show v ∈ xs by rw [← he, List.getD_eq_getElem?_getD, List.getElem?_eq_getElem (by rw [L.out]; exact hlt)]; exact List.getElem_mem _)))
        rw [he] at hcell
        clear he
        go_wp2
        go_ret
        exact ⟨ret_bool hfin.out.symm, 0, rfl⟩
      · have hnx := Lib.hid (mem_take_succ HA.out he)
        have hd : (xs.getD j 0 == v) = false := beq_false_of_ne he
        generalize xs.getD j 0 = x at hcell hd
        clear he
        go_wp2
        go_round
        case rel => exact ⟨j + 1, by omega, by go_num, hnx.out⟩
        case measure => simp [intOf]; omega
    · obtain rfl : j = n := by omega
      have hfin := Lib.hid (HB.out.trans (decide_eq_false (fun hm => by
        obtain ⟨m, hm, e⟩ := List.getElem_of_mem hm
        exact HA.out m (by rw [← L.out]; exact hm) (by rw [List.getD_eq_getElem?_getD, List.getElem?_eq_getElem hm]; exact e))))
      go_wp2
      go_ret
      exact ⟨ret_bool hfin.out.symm, 0, rfl⟩

set_option maxRecDepth 100000 in
theorem rindex (A : Option Addr) (n c : Nat) (l : List Nat) (x : Nat) (w : World) (hx : Ints w A n (zs l)) (hm : x ∈ l) :
    Calls Try.prog 108 #[.slice A n c, .int .i64 x] w fun e w' => e = .returned (.int .i64 (ixN l x)) ∧ ∃ q, w' = w.drewN q := by
  have hl := hx.1
  rw [zs_len] at hl
  have L := Lib.hid hl
  have hn := hx.2.1
  have hi := ixN_lt hm
  rw [hl] at hi
  have ha := Lib.hid (ixN_at hm)
  have HN := Lib.hid (show ∀ j, j < ixN l x → ¬ l.getD j 0 = x from fun j hj => by
    have h1 : j < l.length := by rw [hl]; omega
    have := List.not_of_lt_findIdx (p := fun y => y == x) (xs := l) hj
    rw [List.getD_eq_getElem?_getD, List.getElem?_eq_getElem h1]
    simpa using this)
  generalize ixN l x = k at hi ha HN
  clear hl hm
  go_enter Try.func108, Try.ntmps108
  go_wp2
  go_loop [5] (fun jv => ∃ j : Nat, j ≤ k ∧ jv = .int .i64 j) (fun jv => n - (intOf jv).toNat)
  case atStart => exact ⟨0, Nat.zero_le _, rfl⟩
  case round =>
    obtain ⟨j, hj, rfl⟩ := hrel
    have hlt : j < n := by omega
    obtain ⟨g, o, rfl, _, hcell⟩ := hx.at_ (k := j) hlt
    rw [zs_at] at hcell
    by_cases he : j = k
    · subst he
      rw [ha.out] at hcell
      go_wp2
      go_ret
      exact ⟨rfl, 0, rfl⟩
    · have hne := HN.out j (by omega)
      generalize l.getD j 0 = y at hcell hne
      have hd : ((y : Int) == (x : Int)) = false := beq_false_of_ne (by omega)
      go_wp2
      go_round
      case rel => exact ⟨j + 1, by omega, by go_num⟩
      case measure => simp [intOf]; omega

theorem rreach_bad (i st : Int) (A B : Option Addr) (n c m d : Nat) (nx ot : List (List Int)) (w : World) (hx : Lists w A n nx) (ho : Lists w B m ot) (hv : ¬ vld i st nx ot = 0) :
    Calls Try.prog 107 #[.agg #[.int .i64 i, .int .i64 st, .slice A n c, .slice B m d]] w fun e w' => e = .returned (.slice none 0 0) ∧ Below w.heap.size w w' := by
  have hb0 := alloc_below w (.cells #[.int .i64 i, .int .i64 st, .slice A n c, .slice B m d] 24)
  have hne : (vld i st nx ot != 0) = true := by simpa using hv
  go_enter Try.func107, Try.ntmps107
  go_wp2_with fail
  refine (rvalid _ _ _ _ _ _ _ _ _ _ _ (hx.below hb0) (ho.below hb0)).mono ?_
  rintro e w1 ⟨rfl, b1⟩
  have hbb := bt hb0 b1
  generalize vld i st nx ot = V at hne
  clear hb0 b1
  go_wp2
  go_ret
  exact ⟨rfl, hbb⟩

set_option maxHeartbeats 4000000 in
set_option maxRecDepth 100000 in
theorem rreach_ok (i st n : Nat) (A B : Option Addr) (c d : Nat) (nx ot : List (List Int)) (w : World) (hx : Lists w A n nx) (ho : Lists w B n ot) (hM : Mok i st n nx ot) :
    Calls Try.prog 107 #[.agg #[.int .i64 i, .int .i64 st, .slice A n c, .slice B n d]] w fun e w' => ∃ A' c', e = .returned (.slice A' (rch nx i st).length c') ∧ Owned w' w.heap.size (.slice A' (rch nx i st).length c') (zs (rch nx i st)) ∧ Below w.heap.size w w' := by
  have HV := Lib.hid hM.vld
  have hn := hx.2.1
  have hst := hM.st
  have hn128 := hM.n2
  have hb0 := alloc_below w (.cells #[.int .i64 i, .int .i64 st, .slice A n c, .slice B n d] 24)
  have HZ := Lib.hid (show (w.alloc (.cells #[.int .i64 i, .int .i64 st, .slice A n c, .slice B n d] 24)).heap.size = w.heap.size + 1 by simp)
  obtain ⟨R, hR⟩ : ∃ R, R = rch nx i st := ⟨_, rfl⟩
  have HR := Lib.hid (hR.trans (show rch nx i st = bfs nx i n [st] 0 by unfold rch; rw [hM.nxl]))
  rw [← hR]
  clear hR
  go_enter Try.func107, Try.ntmps107
  go_wp2_with fail
  refine (rvalid _ _ _ _ _ _ _ _ _ _ _ (hx.below hb0) (ho.below hb0)).mono ?_
  rintro e w1 ⟨rfl, b1⟩
  rw [HZ.out] at b1
  rw [HV.out]
  obtain ⟨k0, k1, k2, k3⟩ := box4 b1
  have hl0 : Owned (w1.alloc (.cells #[.int .i64 st] 3)) (w.heap.size + 1) (.slice (some ⟨w1.heap.size, 0, none⟩) 1 1) (zs [st]) := Owned.literal w1 _ [(st : Int)] _ 1 (by have := b1.size; simpa using this) rfl rfl (by simp)
  have hz2 : w.heap.size + 1 ≤ w1.heap.size := by have := b1.size; simpa using this
  have bw1 := b1.trans ((alloc_below w1 (.cells #[.int .i64 st] 3)).mono hz2)
  have HL0 := Lib.hid hl0
  clear hl0 b1
  go_wp2
  clear k0 k1 k2 k3
  generalize w1.alloc (.cells #[.int .i64 st] 3) = w2 at HL0 bw1 ⊢
  go_loopw [3, 4] (fun v jv wr => ∃ (l : List Nat) (j : Nat) (A' : Option Addr) (c' : Nat), j ≤ l.length ∧ jv = .int .i64 j ∧ v = .slice A' l.length c' ∧ Stt n l ∧ R = bfs nx i n l j ∧ Owned wr (w.heap.size + 1) (.slice A' l.length c') (zs l) ∧ Below (w.heap.size + 1) (w.alloc (.cells #[.int .i64 i, .int .i64 st, .slice A n c, .slice B n d] 24)) wr) (fun _ jv _ => n - (intOf jv).toNat)
  case atStart => exact ⟨[st], 0, _, 1, Nat.zero_le _, rfl, rfl, Stt.one hst, HR.out, HL0.out, bw1⟩
  case round =>
    obtain ⟨l, j, A', c', hj, rfl, rfl, hS, hB, hown, hbr⟩ := hrel
    have HB := Lib.hid hB
    clear hB
    have hll := hS.len
    by_cases hlt : j < l.length
    · have hjn : j < n := by omega
      have hs : l.getD j 0 < n := hS.2 _ (getD_mem hlt)
      have HNX := Lib.hid (bfs_on hM hS hlt)
      have HAT := Lib.hid (fun a => addR_at (nx := nx) (s := l.getD j 0) hlt a)
      generalize l.getD j 0 = s at hs HNX HAT
      obtain ⟨g1, p1, A1, n1, c1, rfl, hg1, hd1, hr1⟩ := hx.at_ hs
      have hi1 := (hM.row s hs).1
      have hl1 := hr1.1
      obtain rfl : n1 = i := by omega
      have hi64 := hM.i2
      clear hl1 hi1
      have HOW := Lib.hid hown
      have HBR := Lib.hid hbr
      clear hown hbr
      go_wp2
      obtain ⟨wo, rfl⟩ : ∃ wo : World, wo = wr := ⟨_, rfl⟩
      go_loopw [3, 5] (fun v av wq => ∃ (a : Nat) (A2 : Option Addr) (c2 : Nat), a ≤ n1 ∧ av = .int .i64 a ∧ v = .slice A2 (addR nx s l a).length c2 ∧ Owned wq (w.heap.size + 1) (.slice A2 (addR nx s l a).length c2) (zs (addR nx s l a)) ∧ Below (w.heap.size + 1) (w.alloc (.cells #[.int .i64 n1, .int .i64 st, .slice (some ⟨g1, p1, none⟩) n c, .slice B n d] 24)) wq) (fun _ av _ => n1 - (intOf av).toNat)
      case atStart => exact ⟨0, _, _, Nat.zero_le _, rfl, rfl, HOW.out, HBR.out⟩
      case round =>
        obtain ⟨a, A2, c2, ha, rfl, rfl, hown, hbr⟩ := hrel
        have hSa := addR_stt hM hS hs a ha
        have hbw := hb0.trans (hbr.mono (Nat.le_succ _))
        have hal := addR_len (nx := nx) (s := s) (l := l) a
        obtain ⟨k0, k1, k2, k3⟩ := box4 hbr
        have hj2 := HAT.out a
        by_cases hla : a < n1
        · obtain ⟨g3, p3, rfl, hg3, hy1⟩ := hr1.at_ hla
          rw [hM.nN_eq hs hla] at hy1
          have ht := hM.nN_lt hs hla
          have hIn := Lib.hid (fun h => addR_in (nx := nx) (s := s) (a := a) (l := l) h)
          have hOut := Lib.hid (fun h => addR_out (nx := nx) (s := s) (a := a) (l := l) h)
          generalize nN nx s a = t at hy1 ht hIn hOut
          have e1 := (hbw.cell (p := ⟨g1, p1 + s, none⟩) hg1).trans hd1
          have e3 := (hbw.cell (p := ⟨g3, p3 + a, none⟩) hg3).trans hy1
          clear hy1
          generalize addR nx s l a = l' at hown hSa hIn hOut hal hj2
          have hll' := hSa.len
          have hint := hown.ints (by rw [zs_len]; omega)
          have hjl : j < l'.length := by omega
          have hjl2 : (j : Int) < (l'.length : Int) := by omega
          obtain ⟨b4, o4, rfl, hb4, hc4⟩ := hint.at_ (k := j) (by omega)
          rw [zs_at, hj2] at hc4
          have HOW := Lib.hid hown
          have HBR := Lib.hid hbr
          clear hown
          by_cases hm : t ∈ l'
          · have hnx := Lib.hid (hIn.out hm)
            have HH := Lib.hid (show true = decide ((t : Int) ∈ zs l') from (decide_eq_true (mem_zs.2 hm)).symm)
            clear hIn hOut hm hbr
            go_wp2
            go_quiet ((go_at_call 123; exact Calls.quiet_of (rhas _ _ _ _ _ _ _ hint HH.out)))
            go_wp2
            go_roundw
            case rel => exact ⟨a + 1, _, c2, by omega, by go_num, by rw [hnx.out], by rw [hnx.out]; exact HOW.out, below_drewN HBR.out _⟩
            case measure => simp [intOf]; omega
          · have hnx := Lib.hid (hOut.out hm)
            have HH := Lib.hid (show false = decide ((t : Int) ∈ zs l') from (decide_eq_false (fun h => hm (mem_zs.1 h))).symm)
            have hsz : w.heap.size + 1 ≤ wr.heap.size := by have := hbr.size; simpa using this
            obtain ⟨F, hF⟩ := app_all HOW.out (t : Int) hsz (by rw [zs_len]; omega)
            have hz : zs l' ++ [(t : Int)] = zs (l' ++ [t]) := by rw [zs_append, zs_one]
            rw [hz] at hF
            have HF := Lib.hid hF
            have HL := Lib.hid (show (l' ++ [t]).length = l'.length + 1 by simp)
            clear hIn hOut hm hbr hF hz
            go_wp2
            go_quiet ((go_at_call 123; exact Calls.quiet_of (rhas _ _ _ _ _ _ _ hint HH.out)))
            go_wp2
            go_region_law (refine step_append_run rfl _ _ _ _ rfl _ _ rfl rfl _ _ (HF.out _).1 ?_)
            all_goals
              go_wp2
              go_roundw
              case rel => exact ⟨a + 1, _, _, by omega, by go_num, by rw [hnx.out, HL.out], by rw [hnx.out, HL.out]; exact (HF.out _).2.1, HBR.out.trans (HF.out _).2.2⟩
              case measure => simp [intOf]; omega
        · obtain rfl : a = n1 := by omega
          have HX := Lib.hid (HB.out.trans HNX.out.symm)
          generalize addR nx s l a = l' at hown hSa hal hj2 HX
          have HOW := Lib.hid hown
          clear hown hj2
          go_wp2
          go_roundw
          case rel => exact ⟨l', j + 1, A2, c2, by omega, by go_num, rfl, hSa, HX.out, HOW.out, hbr⟩
          case measure => simp [intOf]; omega
    · have hfin := Lib.hid (HB.out.trans (bfs_end nx i n hlt))
      have HOW := Lib.hid hown
      have hbw := hb0.trans (hbr.mono (Nat.le_succ _))
      clear hown
      go_wp2
      go_ret
      exact ⟨A', c', by rw [hfin.out]; rfl, by rw [hfin.out]; exact Owned.lower HOW.out (Nat.le_succ _), hbw⟩
end Go.Proofs.Ytogcecfeofbbnaa
end

section
/- The reference: insert and Outputs. -/
namespace Go.Proofs.Ytogcecfeofbbnaa
open Go.RowKit

/-- A number put into a list, ahead of the first greater one. -/
def ins : List Int → Int → List Int
  | [], v => [v]
  | x :: l, v => if v < x then v :: x :: l else x :: ins l v
def insS (l : List Int) (v : Int) : List Int := if v ∈ l then l else ins l v
theorem ins_len : ∀ (l : List Int) (v : Int), (ins l v).length = l.length + 1
  | [], _ => rfl
  | x :: l, v => by
    unfold ins
    split
    · rfl
    · rw [List.length_cons, ins_len l v]; rfl
theorem insS_len (l : List Int) (v : Int) : (insS l v).length ≤ l.length + 1 := by
  unfold insS
  split
  · omega
  · rw [ins_len]; exact Nat.le_refl _
theorem ins_now {xs : List Int} {j : Nat} {v : Int} (h : j < xs.length) (hv : v < xs.getD j 0) : ins (xs.drop j) v = v :: xs.drop j := by
  rw [List.drop_eq_getElem_cons h]
  rw [List.getD_eq_getElem?_getD, List.getElem?_eq_getElem h] at hv
  show (if v < xs[j] then _ else _) = _
  exact if_pos hv
theorem ins_on {xs : List Int} {j : Nat} {v : Int} (h : j < xs.length) (hv : ¬ v < xs.getD j 0) : ins (xs.drop j) v = xs.getD j 0 :: ins (xs.drop (j + 1)) v := by
  rw [List.drop_eq_getElem_cons h]
  rw [List.getD_eq_getElem?_getD, List.getElem?_eq_getElem h] at hv ⊢
  show (if v < xs[j] then _ else _) = _
  exact if_neg hv
theorem drop_on {xs : List Int} {j : Nat} (h : j < xs.length) : xs.drop j = xs.getD j 0 :: xs.drop (j + 1) := by
  rw [List.drop_eq_getElem_cons h, List.getD_eq_getElem?_getD, List.getElem?_eq_getElem h]; rfl
def restI (dn : Bool) (l : List Int) (v : Int) : List Int := if dn then l else ins l v

end Go.Proofs.Ytogcecfeofbbnaa
end

section
/- The reference: Outputs. -/
namespace Go.Proofs.Ytogcecfeofbbnaa
open Go.RowKit

/-- All outputs, row by row, put into one list. -/
def outR : List Int → List Int → List Int
  | [], acc => acc
  | x :: r, acc => outR r (insS acc x)
def outL : List (List Int) → List Int → List Int
  | [], acc => acc
  | r :: t, acc => outL t (outR r acc)
theorem outR_drop {r : List Int} {a : Nat} (h : a < r.length) (acc : List Int) : outR (r.drop a) acc = outR (r.drop (a + 1)) (insS acc (r.getD a 0)) := by
  rw [drop_on h]; rfl
theorem outL_drop {t : List (List Int)} {j : Nat} (h : j < t.length) (acc : List Int) : outL (t.drop j) acc = outL (t.drop (j + 1)) (outR (t.getD j []) acc) := by
  rw [List.drop_eq_getElem_cons h, List.getD_eq_getElem?_getD, List.getElem?_eq_getElem h]; rfl

end Go.Proofs.Ytogcecfeofbbnaa
end

section
/- The reference's outputs are the sorted and compacted ones. -/
namespace Go.Proofs.Ytogcecfeofbbnaa
open Go.RowKit

theorem outR_app (a b : List Int) (acc : List Int) : outR (a ++ b) acc = outR b (outR a acc) := by
  induction a generalizing acc with
  | nil => rfl
  | cons x a ih => exact ih _
theorem outL_flat (t : List (List Int)) (acc : List Int) : outL t acc = outR t.flatten acc := by
  induction t generalizing acc with
  | nil => rfl
  | cons r t ih => rw [List.flatten_cons, outR_app]; exact ih _

theorem ins_mem (l : List Int) (v x : Int) : x ∈ ins l v ↔ x = v ∨ x ∈ l := by
  induction l with
  | nil => simp [ins]
  | cons y l ih =>
    unfold ins
    split
    · simp
    · rw [List.mem_cons, ih, List.mem_cons]; exact ⟨fun h => h.elim (fun h => .inr (.inl h)) (fun h => h.elim .inl fun h => .inr (.inr h)), fun h => h.elim (fun h => .inr (.inl h)) fun h => h.elim .inl fun h => .inr (.inr h)⟩
theorem insS_mem (l : List Int) (v x : Int) : x ∈ insS l v ↔ x = v ∨ x ∈ l := by
  unfold insS
  split
  · rename_i h
    exact ⟨.inr, fun k => k.elim (fun k => k ▸ h) id⟩
  · exact ins_mem l v x
theorem ins_asc {l : List Int} {v : Int} (h : l.Pairwise (· < ·)) (hv : v ∉ l) : (ins l v).Pairwise (· < ·) := by
  induction l with
  | nil => simp [ins]
  | cons y l ih =>
    have h' := List.pairwise_cons.1 h
    unfold ins
    split
    · rename_i hlt
      refine List.pairwise_cons.2 ⟨fun x hx => ?_, h⟩
      rcases List.mem_cons.1 hx with rfl | hx
      · exact hlt
      · have := h'.1 x hx; omega
    · rename_i hlt
      refine List.pairwise_cons.2 ⟨fun x hx => ?_, ih h'.2 fun k => hv (List.mem_cons_of_mem _ k)⟩
      rcases (ins_mem l v x).1 hx with rfl | hx
      · have : x ≠ y := fun e => hv (e ▸ List.mem_cons_self)
        omega
      · exact h'.1 x hx
theorem insS_asc {l : List Int} {v : Int} (h : l.Pairwise (· < ·)) : (insS l v).Pairwise (· < ·) := by
  unfold insS
  split
  · exact h
  · rename_i hv; exact ins_asc h hv
theorem outR_asc {xs acc : List Int} (h : acc.Pairwise (· < ·)) : (outR xs acc).Pairwise (· < ·) := by
  induction xs generalizing acc with
  | nil => exact h
  | cons x xs ih => exact ih (insS_asc h)
theorem outR_mem (xs acc : List Int) (x : Int) : x ∈ outR xs acc ↔ x ∈ acc ∨ x ∈ xs := by
  induction xs generalizing acc with
  | nil => simp [outR]
  | cons y xs ih =>
    show x ∈ outR xs (insS acc y) ↔ _
    rw [ih, insS_mem, List.mem_cons]
    exact ⟨fun h => h.elim (fun h => h.elim (fun h => .inr (.inl h)) .inl) (fun h => .inr (.inr h)), fun h => h.elim (fun h => .inl (.inr h)) fun h => h.elim (fun h => .inl (.inl h)) .inr⟩

/-- Two ascending lists with the same members are one. -/
theorem asc_eq {xs ys : List Int} (hx : xs.Pairwise (· < ·)) (hy : ys.Pairwise (· < ·)) (h : ∀ x, x ∈ xs ↔ x ∈ ys) : xs = ys := by
  induction xs generalizing ys with
  | nil =>
    cases ys with
    | nil => rfl
    | cons y ys => exact absurd ((h y).2 List.mem_cons_self) (by simp)
  | cons x xs ih =>
    cases ys with
    | nil => exact absurd ((h x).1 List.mem_cons_self) (by simp)
    | cons y ys =>
      have hx' := List.pairwise_cons.1 hx
      have hy' := List.pairwise_cons.1 hy
      have e : x = y := by
        rcases List.mem_cons.1 ((h x).1 List.mem_cons_self) with e | e
        · exact e
        · rcases List.mem_cons.1 ((h y).2 List.mem_cons_self) with e2 | e2
          · exact e2.symm
          · have := hy'.1 x e; have := hx'.1 y e2; omega
      subst e
      congr 1
      refine ih hx'.2 hy'.2 fun z => ⟨fun k => ?_, fun k => ?_⟩
      · rcases List.mem_cons.1 ((h z).1 (List.mem_cons_of_mem _ k)) with e | e
        · have := hx'.1 z k; omega
        · exact e
      · rcases List.mem_cons.1 ((h z).2 (List.mem_cons_of_mem _ k)) with e | e
        · have := hy'.1 z k; omega
        · exact e

theorem compactUpTo_asc (d : Array Int) (hs : ∀ i j, i ≤ j → j < d.size → d[i]! ≤ d[j]!) : ∀ m, m ≤ d.size → (Lib.compactUpTo d m).Pairwise (· < ·) ∧ ∀ x, x ∈ Lib.compactUpTo d m ↔ ∃ j, j < m ∧ d[j]! = x := by
  intro m
  induction m with
  | zero => intro _; exact ⟨by simp [Lib.compactUpTo], fun x => by simp [Lib.compactUpTo]⟩
  | succ m ih =>
    intro hm
    obtain ⟨h1, h2⟩ := ih (by omega)
    rw [Lib.compactUpTo_succ]
    by_cases hk : Lib.keeps d m = true
    · rw [if_pos hk]
      refine ⟨List.pairwise_append.2 ⟨h1, by simp, fun x hx y hy => ?_⟩, fun x => ?_⟩
      · rw [List.mem_singleton] at hy
        subst hy
        obtain ⟨j, hj, rfl⟩ := (h2 x).1 hx
        have hne : d[m]! ≠ d[m - 1]! := by
          have := of_decide_eq_true hk
          rcases this with e | e
          · omega
          · exact e
        have a := hs j (m - 1) (by omega) (by omega)
        have b := hs (m - 1) m (by omega) (by omega)
        omega
      · rw [List.mem_append, List.mem_singleton, h2]
        refine ⟨fun h => h.elim (fun ⟨j, hj, e⟩ => ⟨j, by omega, e⟩) (fun e => ⟨m, by omega, e.symm⟩), fun ⟨j, hj, e⟩ => ?_⟩
        by_cases hjm : j = m
        · subst hjm; exact .inr e.symm
        · exact .inl ⟨j, by omega, e⟩
    · rw [if_neg hk, List.append_nil]
      refine ⟨h1, fun x => (h2 x).trans ⟨fun ⟨j, hj, e⟩ => ⟨j, by omega, e⟩, fun ⟨j, hj, e⟩ => ?_⟩⟩
      by_cases hjm : j = m
      · subst hjm
        have hk' : ¬ (j = 0 ∨ d[j]! ≠ d[j - 1]!) := fun h => hk (decide_eq_true h)
        have h0 : j ≠ 0 := fun h => hk' (.inl h)
        have h3 : d[j]! = d[j - 1]! := Classical.byContradiction fun h => hk' (.inr h)
        exact ⟨j - 1, by omega, by rw [← h3]; exact e⟩
      · exact ⟨j, by omega, e⟩

theorem compact_asc {zs : List Int} (hs : zs.Pairwise (· ≤ ·)) : (Lib.compact zs).Pairwise (· < ·) ∧ ∀ x, x ∈ Lib.compact zs ↔ x ∈ zs := by
  obtain ⟨h1, h2⟩ := compactUpTo_asc zs.toArray (fun i j hij hj => by
    have hj' : j < zs.length := by simpa using hj
    rw [getElem!_pos zs.toArray i (by simpa using Nat.lt_of_le_of_lt hij hj'), getElem!_pos zs.toArray j hj]
    simp only [List.getElem_toArray]
    rcases Nat.lt_or_ge i j with h | h
    · exact List.pairwise_iff_getElem.1 hs i j _ _ h
    · obtain rfl : i = j := by omega
      exact Int.le_refl _) zs.length (by simp)
  refine ⟨h1, fun x => (h2 x).trans ⟨fun ⟨j, hj, e⟩ => ?_, fun h => ?_⟩⟩
  · rw [getElem!_pos zs.toArray j (by simpa using hj)] at e
    simp only [List.getElem_toArray] at e
    exact e ▸ List.getElem_mem _
  · obtain ⟨j, hj, e⟩ := List.getElem_of_mem h
    refine ⟨j, hj, ?_⟩
    rw [getElem!_pos zs.toArray j (by simpa using hj)]
    simpa using e

theorem sort_asc (xs : List Int) : (xs.mergeSort fun x y => decide (x ≤ y)).Pairwise (· ≤ ·) := by
  have := List.pairwise_mergeSort (le := fun (x y : Int) => decide (x ≤ y)) (fun a b c h1 h2 => by simp at *; omega) (fun a b => by simp; omega) xs
  exact this.imp fun h => of_decide_eq_true h

theorem out_eq (t : List (List Int)) : Lib.compact (t.flatten.mergeSort fun x y => decide (x ≤ y)) = outL t [] := by
  obtain ⟨h1, h2⟩ := compact_asc (sort_asc t.flatten)
  rw [outL_flat]
  refine asc_eq h1 (outR_asc List.Pairwise.nil) fun x => ?_
  rw [h2, outR_mem]
  simp [List.mem_mergeSort]
end Go.Proofs.Ytogcecfeofbbnaa
end

section
/- The search for a distinguishing word: pairs of states in the order of the words that reach them. -/
namespace Go.Proofs.Ytogcecfeofbbnaa

/-- A pair that was found: the pair, the place of the one before it, the input from there, and the word. -/
structure Ent where
  p : Nat
  q : Nat
  j : Nat
  x : Nat
  w : List Int
instance : Inhabited Ent := ⟨⟨0, 0, 0, 0, []⟩⟩
def Ent.zero : Ent := ⟨0, 0, 0, 0, []⟩
def Ent.pr (e : Ent) : Nat × Nat := (e.p, e.q)
/-- Is a pair among those that were found? -/
def hasE (E : List Ent) (p q : Nat) : Prop := (p, q) ∈ E.map Ent.pr
instance (E : List Ent) (p q : Nat) : Decidable (hasE E p q) := inferInstanceAs (Decidable ((p, q) ∈ E.map Ent.pr))
def addE (E : List Ent) (e : Ent) : List Ent := if hasE E e.p e.q then E else E ++ [e]
section
variable (nx1 nx2 ot1 ot2 : List (List Int))
/-- The pair behind an entry and an input. -/
def nxE (j : Nat) (e : Ent) (x : Nat) : Ent := ⟨nN nx1 e.p x, nN nx2 e.q x, j, x, e.w ++ [(x : Int)]⟩
def addS (j : Nat) (e : Ent) (E : List Ent) : Nat → List Ent
  | 0 => E
  | x + 1 => addE (addS j e E x) (nxE nx1 nx2 j e x)
/-- Do the outputs of a pair differ at an input below the given one? The first such input. -/
def fD (e : Ent) : Nat → Option Nat
  | 0 => none
  | x + 1 => match fD e x with
    | some y => some y
    | none => if oN ot1 e.p x = oN ot2 e.q x then none else some x
def srch (i : Nat) : Nat → List Ent → Nat → Option (List Int)
  | 0, _, _ => none
  | k + 1, E, j => if j < E.length then
      match fD ot1 ot2 (E.getD j Ent.zero) i with
      | some x => some ((E.getD j Ent.zero).w ++ [(x : Int)])
      | none => srch i k (addS nx1 nx2 j (E.getD j Ent.zero) E i) (j + 1)
    else none
end
/-- The first distinguishing word of two states. -/
def dst (nx1 ot1 nx2 ot2 : List (List Int)) (i n m s t : Nat) : Option (List Int) := srch nx1 nx2 ot1 ot2 i (n * m) [⟨s, t, 0, 0, []⟩] 0

/-- What the entries keep. -/
structure Ens (n m s t : Nat) (E : List Ent) : Prop where
  lt : ∀ e, e ∈ E → e.p < n ∧ e.q < m
  nd : (E.map Ent.pr).Nodup
  ne : 0 < E.length
  z : (E.getD 0 Ent.zero).p = s ∧ (E.getD 0 Ent.zero).q = t ∧ (E.getD 0 Ent.zero).w = []
  bk : ∀ k, 0 < k → k < E.length → (E.getD k Ent.zero).j < k ∧ (E.getD k Ent.zero).w = (E.getD (E.getD k Ent.zero).j Ent.zero).w ++ [((E.getD k Ent.zero).x : Int)]
  wl : ∀ k, k < E.length → (E.getD k Ent.zero).w.length ≤ k

theorem getDE_mem {E : List Ent} {k : Nat} (h : k < E.length) : E.getD k Ent.zero ∈ E := by
  rw [List.getD_eq_getElem?_getD, List.getElem?_eq_getElem h]; exact List.getElem_mem h
theorem getDE_pre {E T : List Ent} {k : Nat} (h : k < E.length) : (E ++ T).getD k Ent.zero = E.getD k Ent.zero := by
  rw [List.getD_eq_getElem?_getD, List.getD_eq_getElem?_getD, List.getElem?_append_left h]
theorem getDE_last {E : List Ent} {e : Ent} : (E ++ [e]).getD E.length Ent.zero = e := by
  rw [List.getD_eq_getElem?_getD, List.getElem?_append_right (Nat.le_refl _)]; simp
theorem nodup_pairs {m : Nat} : ∀ {L : List (Nat × Nat)}, L.Nodup → (∀ x, x ∈ L → x.2 < m) → (L.map fun x => x.1 * m + x.2).Nodup
  | [], _, _ => by simp
  | x :: L, h, hb => by
    rw [List.nodup_cons] at h
    simp only [List.map_cons, List.nodup_cons]
    refine ⟨fun hm => ?_, nodup_pairs h.2 fun y hy => hb y (List.mem_cons_of_mem _ hy)⟩
    obtain ⟨y, hy, e⟩ := List.mem_map.1 hm
    have h1 := hb x (List.mem_cons_self ..)
    have h2 := hb y (List.mem_cons_of_mem _ hy)
    have e1 : x.2 = y.2 := by
      have := congrArg (· % m) e
      simp only [Nat.mul_add_mod_self_right, Nat.mod_eq_of_lt h1, Nat.mod_eq_of_lt h2] at this
      exact this.symm
    have e2 : x.1 = y.1 := by
      have hm : 0 < m := by omega
      have h3 : y.1 * m = x.1 * m := by omega
      exact (Nat.eq_of_mul_eq_mul_right hm h3).symm
    exact h.1 (by rw [show x = y from Prod.ext e2 e1]; exact hy)
section
variable {n m s t : Nat} {E : List Ent}
theorem Ens.len (h : Ens n m s t E) : E.length ≤ n * m := by
  have h1 := nodup_pairs (m := m) h.nd fun x hx => by
    obtain ⟨e, he, rfl⟩ := List.mem_map.1 hx
    exact (h.lt e he).2
  have h2 : Stt (n * m) ((E.map Ent.pr).map fun x => x.1 * m + x.2) := ⟨h1, fun y hy => by
    obtain ⟨x, hx, rfl⟩ := List.mem_map.1 hy
    obtain ⟨e, he, rfl⟩ := List.mem_map.1 hx
    obtain ⟨h3, h4⟩ := h.lt e he
    show e.p * m + e.q < n * m
    have : (e.p + 1) * m ≤ n * m := Nat.mul_le_mul_right m h3
    rw [Nat.add_mul, Nat.one_mul] at this
    omega⟩
  have := h2.len
  simpa using this
theorem Ens.one (hs : s < n) (ht : t < m) : Ens n m s t [⟨s, t, 0, 0, []⟩] where
  lt := fun e he => by simp at he; subst he; exact ⟨hs, ht⟩
  nd := by simp
  ne := by simp
  z := ⟨rfl, rfl, rfl⟩
  bk := fun k h1 h2 => by simp at h2; omega
  wl := fun k h => by simp at h; subst h; exact Nat.zero_le _
theorem Ens.add (h : Ens n m s t E) {e : Ent} (he : e.p < n ∧ e.q < m) (hj : e.j < E.length) (hw : e.w = (E.getD e.j Ent.zero).w ++ [(e.x : Int)]) (hn : ¬ hasE E e.p e.q) : Ens n m s t (E ++ [e]) where
  lt := fun x hx => by
    rcases List.mem_append.1 hx with hx | hx
    · exact h.lt x hx
    · simp at hx; subst hx; exact he
  nd := by
    rw [List.map_append, List.nodup_append]
    refine ⟨h.nd, by simp, fun a ha b hb e2 => ?_⟩
    simp at hb
    subst hb
    subst e2
    exact hn ha
  ne := by simp
  z := by rw [getDE_pre h.ne]; exact h.z
  bk := fun k h1 h2 => by
    rw [List.length_append] at h2
    have h2 : k < E.length + 1 := h2
    by_cases hk : k < E.length
    · rw [getDE_pre hk]
      obtain ⟨a, b⟩ := h.bk k h1 hk
      exact ⟨a, by rw [getDE_pre (by omega)]; exact b⟩
    · obtain rfl : k = E.length := by omega
      rw [getDE_last]
      exact ⟨hj, by rw [getDE_pre hj]; exact hw⟩
  wl := fun k h2 => by
    rw [List.length_append] at h2
    have h2 : k < E.length + 1 := h2
    by_cases hk : k < E.length
    · rw [getDE_pre hk]; exact h.wl k hk
    · obtain rfl : k = E.length := by omega
      have h3 := h.wl e.j hj
      rw [getDE_last, hw, List.length_append]
      show _ + 1 ≤ _
      omega
end
section
variable {nx1 nx2 ot1 ot2 : List (List Int)} {i n m s t j : Nat} {E : List Ent} {e : Ent}
theorem addE_in {E : List Ent} {e : Ent} (h : hasE E e.p e.q) : addE E e = E := by unfold addE; rw [if_pos h]
theorem addE_out {E : List Ent} {e : Ent} (h : ¬ hasE E e.p e.q) : addE E e = E ++ [e] := by unfold addE; rw [if_neg h]
theorem addS_pre {nx1 nx2 : List (List Int)} (j : Nat) (e : Ent) (E : List Ent) : ∀ x, ∃ T, addS nx1 nx2 j e E x = E ++ T
  | 0 => ⟨[], by simp [addS]⟩
  | x + 1 => by
    obtain ⟨T, hT⟩ := addS_pre (nx1 := nx1) (nx2 := nx2) j e E x
    show ∃ T, addE (addS nx1 nx2 j e E x) _ = E ++ T
    unfold addE
    split
    · exact ⟨T, hT⟩
    · exact ⟨T ++ [nxE nx1 nx2 j e x], by rw [hT, List.append_assoc]⟩
/-- One step of the inner loop. -/
theorem addS_ens {st1 st2 : Nat} (hM : Mok i st1 n nx1 ot1) (hN : Mok i st2 m nx2 ot2) (h : Ens n m s t E) (hj : j < E.length) :
    ∀ x, x ≤ i → Ens n m s t (addS nx1 nx2 j (E.getD j Ent.zero) E x)
  | 0, _ => h
  | x + 1, hx => by
    have ih := addS_ens hM hN h hj x (by omega)
    obtain ⟨T, hT⟩ := addS_pre (nx1 := nx1) (nx2 := nx2) j (E.getD j Ent.zero) E x
    obtain ⟨h1, h2⟩ := h.lt _ (getDE_mem hj)
    show Ens n m s t (addE (addS nx1 nx2 j (E.getD j Ent.zero) E x) _)
    by_cases hh : hasE (addS nx1 nx2 j (E.getD j Ent.zero) E x) (nxE nx1 nx2 j (E.getD j Ent.zero) x).p (nxE nx1 nx2 j (E.getD j Ent.zero) x).q
    · rw [addE_in hh]; exact ih
    · rw [addE_out hh]
      refine ih.add ⟨hM.nN_lt h1 (by omega), hN.nN_lt h2 (by omega)⟩ ?_ ?_ hh
      · rw [hT, List.length_append]; show j < _; omega
      · show _ = ((addS nx1 nx2 j (E.getD j Ent.zero) E x).getD j Ent.zero).w ++ _
        rw [hT, getDE_pre hj]; rfl
theorem srch_fuel {st1 st2 : Nat} (hM : Mok i st1 n nx1 ot1) (hN : Mok i st2 m nx2 ot2) : ∀ (k : Nat) (E : List Ent) (j : Nat), Ens n m s t E → n * m ≤ k + j → srch nx1 nx2 ot1 ot2 i (k + 1) E j = srch nx1 nx2 ot1 ot2 i k E j
  | 0, E, j, h, hk => by
    have := h.len
    unfold srch
    rw [if_neg (by omega)]
  | k + 1, E, j, h, hk => by
    rw [srch]
    conv => rhs; rw [srch]
    by_cases hj : j < E.length
    · rw [if_pos hj, if_pos hj]
      cases fD ot1 ot2 (E.getD j Ent.zero) i with
      | some x => rfl
      | none => exact srch_fuel hM hN k _ _ (addS_ens hM hN h hj i (Nat.le_refl _)) (by omega)
    · rw [if_neg hj, if_neg hj]
/-- The search stands at place j. -/
theorem srch_on {st1 st2 : Nat} (hM : Mok i st1 n nx1 ot1) (hN : Mok i st2 m nx2 ot2) (h : Ens n m s t E) (hj : j < E.length) (hd : fD ot1 ot2 (E.getD j Ent.zero) i = none) :
    srch nx1 nx2 ot1 ot2 i (n * m) (addS nx1 nx2 j (E.getD j Ent.zero) E i) (j + 1) = srch nx1 nx2 ot1 ot2 i (n * m) E j := by
  have h1 := h.len
  obtain ⟨k, hk⟩ : ∃ k, n * m = k + 1 := ⟨n * m - 1, by omega⟩
  rw [hk]
  conv => rhs; rw [srch]
  rw [if_pos hj, hd]
  exact srch_fuel hM hN k _ _ (addS_ens hM hN h hj i (Nat.le_refl _)) (by omega)
theorem srch_hit {st1 st2 : Nat} (_hM : Mok i st1 n nx1 ot1) (_hN : Mok i st2 m nx2 ot2) (h : Ens n m s t E) (hj : j < E.length) {x : Nat} (hd : fD ot1 ot2 (E.getD j Ent.zero) i = some x) :
    srch nx1 nx2 ot1 ot2 i (n * m) E j = some ((E.getD j Ent.zero).w ++ [(x : Int)]) := by
  have h1 := h.len
  obtain ⟨k, hk⟩ : ∃ k, n * m = k + 1 := ⟨n * m - 1, by omega⟩
  rw [hk, srch, if_pos hj, hd]
theorem srch_end {k : Nat} (hj : ¬ j < E.length) : srch nx1 nx2 ot1 ot2 i k E j = none := by
  cases k with
  | zero => rfl
  | succ k => rw [srch, if_neg hj]
theorem fD_none : ∀ {x : Nat}, fD ot1 ot2 e x = none → ∀ a, a < x → oN ot1 e.p a = oN ot2 e.q a
  | 0, _, a, ha => absurd ha (by omega)
  | x + 1, h, a, ha => by
    rw [fD] at h
    cases h1 : fD ot1 ot2 e x with
    | some y => rw [h1] at h; exact absurd h (by simp)
    | none =>
      rw [h1] at h
      by_cases h2 : oN ot1 e.p x = oN ot2 e.q x
      · by_cases h3 : a = x
        · subst h3; exact h2
        · exact fD_none h1 a (by omega)
      · simp [h2] at h
theorem fD_step (h : fD ot1 ot2 e j = none) (ho : oN ot1 e.p j = oN ot2 e.q j) : fD ot1 ot2 e (j + 1) = none := by rw [fD, h]; simp [ho]
theorem fD_mono {y : Nat} : ∀ {x : Nat} (d : Nat), fD ot1 ot2 e x = some y → fD ot1 ot2 e (x + d) = some y
  | x, 0, h => h
  | x, d + 1, h => by
    have := fD_mono d h
    show fD ot1 ot2 e (x + d + 1) = _
    rw [fD, this]
theorem fD_hit (h : fD ot1 ot2 e j = none) (ho : ¬ oN ot1 e.p j = oN ot2 e.q j) (hj : j < i) : fD ot1 ot2 e i = some j := by
  have h1 : fD ot1 ot2 e (j + 1) = some j := by rw [fD, h]; simp [ho]
  have := fD_mono (i - (j + 1)) h1
  rwa [show j + 1 + (i - (j + 1)) = i by omega] at this
end
end Go.Proofs.Ytogcecfeofbbnaa
end

section
/- States with the same outputs. -/
namespace Go.Proofs.Ytogcecfeofbbnaa

/-- A word over i symbols. -/
def Wd (i : Nat) (u : List Int) : Prop := ∀ x, x ∈ u → 0 ≤ x ∧ x < i
theorem Wd.nil (i : Nat) : Wd i [] := fun x h => by simp at h
theorem Wd.cons {i a : Nat} {u : List Int} (ha : a < i) (h : Wd i u) : Wd i ((a : Int) :: u) := fun x hx => by
  rcases List.mem_cons.1 hx with rfl | hx
  · omega
  · exact h x hx
theorem Wd.tail {i : Nat} {x : Int} {u : List Int} (h : Wd i (x :: u)) : Wd i u := fun y hy => h y (by simp [hy])
theorem Wd.head {i : Nat} {x : Int} {u : List Int} (h : Wd i (x :: u)) : ∃ a : Nat, x = a ∧ a < i := ⟨x.toNat, by have := h x (by simp); omega, by have := h x (by simp); omega⟩

/-- Two states have the same outputs for all words. -/
def Bis (i : Nat) (nx ot : List (List Int)) (s : Nat) (mx mt : List (List Int)) (t : Nat) : Prop := ∀ u, Wd i u → runO nx ot s u = runO mx mt t u
section
variable {i : Nat} {nx ot mx mt lx lt : List (List Int)} {s t r a : Nat}
theorem Bis.refl (i : Nat) (nx ot : List (List Int)) (s : Nat) : Bis i nx ot s nx ot s := fun _ _ => rfl
theorem Bis.symm (h : Bis i nx ot s mx mt t) : Bis i mx mt t nx ot s := fun u hu => (h u hu).symm
theorem Bis.trans (h : Bis i nx ot s mx mt t) (k : Bis i mx mt t lx lt r) : Bis i nx ot s lx lt r := fun u hu => (h u hu).trans (k u hu)
theorem Bis.out (h : Bis i nx ot s mx mt t) (ha : a < i) : oN ot s a = oN mt t a := by
  have := h [(a : Int)] ((Wd.nil i).cons ha)
  simpa [runO] using this
theorem Bis.next (h : Bis i nx ot s mx mt t) (ha : a < i) : Bis i nx ot (nN nx s a) mx mt (nN mx t a) := fun u hu => by
  have := h ((a : Int) :: u) (hu.cons ha)
  simp only [runO, Int.toNat_natCast, List.cons.injEq] at this
  exact this.2
end

end Go.Proofs.Ytogcecfeofbbnaa
end

section
/- A distinguishing word is found just if the outputs differ. -/
namespace Go.Proofs.Ytogcecfeofbbnaa

theorem fD_some {ot1 ot2 : List (List Int)} {e : Ent} {y : Nat} : ∀ {x : Nat}, fD ot1 ot2 e x = some y → y < x ∧ ¬ oN ot1 e.p y = oN ot2 e.q y ∧ ∀ a, a < y → oN ot1 e.p a = oN ot2 e.q a
  | 0, h => by simp [fD] at h
  | x + 1, h => by
    rw [fD] at h
    cases h1 : fD ot1 ot2 e x with
    | some z =>
      rw [h1] at h
      injection h with h
      subst h
      obtain ⟨a, b, c⟩ := fD_some h1
      exact ⟨by omega, b, c⟩
    | none =>
      rw [h1] at h
      by_cases h2 : oN ot1 e.p x = oN ot2 e.q x
      · simp [h2] at h
      · simp [h2] at h
        subst h
        exact ⟨by omega, h2, fD_none h1⟩
theorem runS_app (nx : List (List Int)) : ∀ (u v : List Int) (s : Nat), runS nx s (u ++ v) = runS nx (runS nx s u) v
  | [], _, _ => rfl
  | x :: u, v, s => by
    show runS nx (nN nx s x.toNat) (u ++ v) = _
    rw [runS_app nx u v]; rfl
theorem runO_app (nx ot : List (List Int)) : ∀ (u v : List Int) (s : Nat), runO nx ot s (u ++ v) = runO nx ot s u ++ runO nx ot (runS nx s u) v
  | [], _, _ => rfl
  | x :: u, v, s => by
    show oN ot s x.toNat :: runO nx ot (nN nx s x.toNat) (u ++ v) = _
    rw [runO_app nx ot u v]; rfl
theorem Wd.app {i : Nat} {u v : List Int} (h : Wd i u) (k : Wd i v) : Wd i (u ++ v) := fun x hx => (List.mem_append.1 hx).elim (h x) (k x)
theorem Wd.one {i a : Nat} (h : a < i) : Wd i [(a : Int)] := (Wd.nil i).cons h
/-- What the words of the entries do. -/
def Gd (nx1 nx2 ot1 ot2 : List (List Int)) (i s t : Nat) (e : Ent) : Prop := Wd i e.w ∧ runS nx1 s e.w = e.p ∧ runS nx2 t e.w = e.q ∧ runO nx1 ot1 s e.w = runO nx2 ot2 t e.w
section
variable {nx1 nx2 ot1 ot2 : List (List Int)} {i n m s t j : Nat} {E : List Ent} {e : Ent}
theorem Gd.next (h : Gd nx1 nx2 ot1 ot2 i s t e) {x : Nat} (hx : x < i) (ho : oN ot1 e.p x = oN ot2 e.q x) : Gd nx1 nx2 ot1 ot2 i s t (nxE nx1 nx2 j e x) := by
  obtain ⟨h1, h2, h3, h4⟩ := h
  refine ⟨h1.app (Wd.one hx), ?_, ?_, ?_⟩
  · show runS nx1 s (e.w ++ [(x : Int)]) = _
    rw [runS_app, h2]; rfl
  · show runS nx2 t (e.w ++ [(x : Int)]) = _
    rw [runS_app, h3]; rfl
  · show runO nx1 ot1 s (e.w ++ [(x : Int)]) = runO nx2 ot2 t (e.w ++ [(x : Int)])
    rw [runO_app, runO_app, h4, h2, h3]
    show _ ++ [oN ot1 e.p x] = _ ++ [oN ot2 e.q x]
    rw [ho]
theorem mem_addE {x : Ent} (h : x ∈ addE E e) : x ∈ E ∨ x = e := by
  unfold addE at h
  split at h
  · exact .inl h
  · rcases List.mem_append.1 h with h | h
    · exact .inl h
    · simp at h; exact .inr h
theorem Gd.addS (hE : ∀ x, x ∈ E → Gd nx1 nx2 ot1 ot2 i s t x) (he : Gd nx1 nx2 ot1 ot2 i s t e) : ∀ x, x ≤ i → (∀ a, a < x → oN ot1 e.p a = oN ot2 e.q a) → ∀ y, y ∈ _root_.Go.Proofs.Ytogcecfeofbbnaa.addS nx1 nx2 j e E x → Gd nx1 nx2 ot1 ot2 i s t y
  | 0, _, _, y, hy => hE y hy
  | x + 1, hx, ho, y, hy => by
    rcases mem_addE hy with hy | rfl
    · exact Gd.addS hE he x (by omega) (fun a ha => ho a (by omega)) y hy
    · exact he.next (by omega) (ho x (by omega))
theorem srch_sound {v : List Int} : ∀ (k : Nat) (E : List Ent) (j : Nat), (∀ x, x ∈ E → Gd nx1 nx2 ot1 ot2 i s t x) → srch nx1 nx2 ot1 ot2 i k E j = some v →
    ∃ w x, v = w ++ [((x : Nat) : Int)] ∧ x < i ∧ Wd i w ∧ runO nx1 ot1 s w = runO nx2 ot2 t w ∧ ¬ oN ot1 (runS nx1 s w) x = oN ot2 (runS nx2 t w) x
  | 0, _, _, _, h => by simp [srch] at h
  | k + 1, E, j, hE, h => by
    rw [srch] at h
    by_cases hj : j < E.length
    · rw [if_pos hj] at h
      have he := hE _ (getDE_mem hj)
      cases hd : fD ot1 ot2 (E.getD j Ent.zero) i with
      | some x =>
        rw [hd] at h
        injection h with h
        obtain ⟨h1, h2, _⟩ := fD_some hd
        obtain ⟨g1, g2, g3, g4⟩ := he
        exact ⟨_, x, h.symm, h1, g1, g4, by rw [g2, g3]; exact h2⟩
      | none =>
        rw [hd] at h
        exact srch_sound k _ _ (fun y hy => Gd.addS hE he i (Nat.le_refl _) (fD_none hd) y hy) h
    · rw [if_neg hj] at h; exact absurd h (by simp)
theorem dst_sound {v : List Int} (h : dst nx1 ot1 nx2 ot2 i n m s t = some v) :
    ∃ w x, v = w ++ [((x : Nat) : Int)] ∧ x < i ∧ Wd i w ∧ runO nx1 ot1 s w = runO nx2 ot2 t w ∧ ¬ oN ot1 (runS nx1 s w) x = oN ot2 (runS nx2 t w) x := by
  refine srch_sound _ _ _ (fun x hx => ?_) h
  simp at hx
  subst hx
  exact ⟨Wd.nil i, rfl, rfl, rfl⟩
theorem dst_not {v : List Int} (h : dst nx1 ot1 nx2 ot2 i n m s t = some v) : ¬ Bis i nx1 ot1 s nx2 ot2 t := fun hb => by
  obtain ⟨w, x, _, hx, hw, _, hd⟩ := dst_sound h
  have h1 := hb (w ++ [(x : Int)]) (hw.app (Wd.one hx))
  rw [runO_app, runO_app, hb w hw] at h1
  have h2 := List.append_cancel_left h1
  simp only [runO, Int.toNat_natCast, List.cons.injEq] at h2
  exact hd h2.1
theorem hasE_mono {E T : List Ent} {p q : Nat} (h : hasE E p q) : hasE (E ++ T) p q := by unfold hasE at h ⊢; rw [List.map_append]; exact List.mem_append.2 (.inl h)
theorem addS_has (j : Nat) (e : Ent) (E : List Ent) : ∀ x y, y < x → hasE (_root_.Go.Proofs.Ytogcecfeofbbnaa.addS nx1 nx2 j e E x) (nN nx1 e.p y) (nN nx2 e.q y)
  | 0, y, h => absurd h (by omega)
  | x + 1, y, h => by
    show hasE (addE (_root_.Go.Proofs.Ytogcecfeofbbnaa.addS nx1 nx2 j e E x) (nxE nx1 nx2 j e x)) _ _
    by_cases e1 : y = x
    · subst e1
      by_cases h2 : hasE (_root_.Go.Proofs.Ytogcecfeofbbnaa.addS nx1 nx2 j e E y) (nN nx1 e.p y) (nN nx2 e.q y)
      · rw [addE_in h2]; exact h2
      · rw [addE_out (e := nxE nx1 nx2 j e y) h2]
        unfold hasE
        rw [List.map_append]
        exact List.mem_append.2 (.inr (by simp [Ent.pr, nxE]))
    · have ih := addS_has j e E x y (by omega)
      unfold addE
      split
      · exact ih
      · exact hasE_mono ih
/-- An entry whose pairs behind have been found, and whose outputs are equal. -/
def Cl (nx1 nx2 ot1 ot2 : List (List Int)) (i : Nat) (E : List Ent) (e : Ent) : Prop := ∀ x, x < i → oN ot1 e.p x = oN ot2 e.q x ∧ hasE E (nN nx1 e.p x) (nN nx2 e.q x)
theorem srch_closed {st1 st2 : Nat} (hM : Mok i st1 n nx1 ot1) (hN : Mok i st2 m nx2 ot2) : ∀ (k : Nat) (E : List Ent) (j : Nat), Ens n m s t E → j ≤ E.length → n * m ≤ k + j → (∀ a, a < j → Cl nx1 nx2 ot1 ot2 i E (E.getD a Ent.zero)) → srch nx1 nx2 ot1 ot2 i k E j = none →
    ∃ F, Ens n m s t F ∧ ∀ a, a < F.length → Cl nx1 nx2 ot1 ot2 i F (F.getD a Ent.zero)
  | 0, E, j, hE, hj, hk, hc, _ => by
    have := hE.len
    exact ⟨E, hE, fun a ha => hc a (by omega)⟩
  | k + 1, E, j, hE, hj, hk, hc, h => by
    rw [srch] at h
    by_cases hl : j < E.length
    · rw [if_pos hl] at h
      cases hd : fD ot1 ot2 (E.getD j Ent.zero) i with
      | some x => rw [hd] at h; exact absurd h (by simp)
      | none =>
        rw [hd] at h
        have hE2 := addS_ens hM hN hE hl i (Nat.le_refl _)
        obtain ⟨T, hT⟩ := addS_pre (nx1 := nx1) (nx2 := nx2) j (E.getD j Ent.zero) E i
        have hle : E.length ≤ (_root_.Go.Proofs.Ytogcecfeofbbnaa.addS nx1 nx2 j (E.getD j Ent.zero) E i).length := by rw [hT, List.length_append]; omega
        refine srch_closed hM hN k _ _ hE2 (by omega) (by omega) (fun a ha => ?_) h
        have hg : (_root_.Go.Proofs.Ytogcecfeofbbnaa.addS nx1 nx2 j (E.getD j Ent.zero) E i).getD a Ent.zero = E.getD a Ent.zero := by rw [hT, getDE_pre (by omega)]
        rw [hg]
        by_cases ha2 : a = j
        · subst ha2
          exact fun x hx => ⟨fD_none hd x hx, addS_has a _ E i x hx⟩
        · intro x hx
          obtain ⟨c1, c2⟩ := hc a (by omega) x hx
          exact ⟨c1, by rw [hT]; exact hasE_mono c2⟩
    · exact ⟨E, hE, fun a ha => hc a (by omega)⟩
theorem hasE_get {E : List Ent} {p q : Nat} (h : hasE E p q) : ∃ a, a < E.length ∧ (E.getD a Ent.zero).p = p ∧ (E.getD a Ent.zero).q = q := by
  unfold hasE at h
  obtain ⟨e, he, e2⟩ := List.mem_map.1 h
  obtain ⟨a, ha, rfl⟩ := List.getElem_of_mem he
  refine ⟨a, ha, ?_⟩
  rw [List.getD_eq_getElem?_getD, List.getElem?_eq_getElem ha]
  unfold Ent.pr at e2
  injection e2 with e3 e4
  exact ⟨e3, e4⟩
theorem closed_bis {F : List Ent} (h : ∀ a, a < F.length → Cl nx1 nx2 ot1 ot2 i F (F.getD a Ent.zero)) : ∀ (u : List Int) (a : Nat), a < F.length → Wd i u → runO nx1 ot1 (F.getD a Ent.zero).p u = runO nx2 ot2 (F.getD a Ent.zero).q u
  | [], _, _, _ => rfl
  | x :: u, a, ha, hu => by
    obtain ⟨y, rfl, hy⟩ := hu.head
    obtain ⟨c1, c2⟩ := h a ha y hy
    obtain ⟨b, hb, e1, e2⟩ := hasE_get c2
    have ih := closed_bis h u b hb hu.tail
    rw [e1, e2] at ih
    simp only [runO, Int.toNat_natCast]
    rw [c1, ih]
theorem dst_none {st1 st2 : Nat} (hM : Mok i st1 n nx1 ot1) (hN : Mok i st2 m nx2 ot2) (hs : s < n) (ht : t < m) : dst nx1 ot1 nx2 ot2 i n m s t = none ↔ Bis i nx1 ot1 s nx2 ot2 t := by
  constructor
  · intro h
    obtain ⟨F, hF, hc⟩ := srch_closed hM hN _ _ 0 (Ens.one hs ht) (Nat.zero_le _) (by omega) (fun a ha => absurd ha (by omega)) h
    intro u hu
    have h1 := closed_bis hc u 0 hF.ne hu
    rw [hF.z.1, hF.z.2.1] at h1
    exact h1
  · intro hb
    cases h : dst nx1 ot1 nx2 ot2 i n m s t with
    | none => rfl
    | some v => exact absurd hb (dst_not h)
end
end Go.Proofs.Ytogcecfeofbbnaa
end

section
/- word.Lex and word.Compare. -/
namespace Go.Proofs.Ytogcecfeofbbnaa
open Go.RowKit

theorem isnan (k : Int) (w : World) : Calls Try.prog 145 #[.int .i64 k] w fun e w' => e = .returned (.bool false) ∧ w = w' := by
  go_enter Try.func145, Try.ntmps145
  go_wp2
  go_ret
  exact ⟨rfl, rfl⟩

theorem cmpI_zero {a b : Int} (h : a = b) : cmpI a b = 0 := by unfold cmpI; rw [if_neg (by omega), if_neg (by omega)]
theorem cmpI_ne {a b : Int} (h : a ≠ b) : cmpI a b ≠ 0 := by unfold cmpI; split; decide; split; decide; omega

theorem shlex_lt {xs ys : List Int} (h : xs.length < ys.length) : shlex xs ys = -1 := by unfold shlex; rw [if_pos h]
theorem shlex_gt {xs ys : List Int} (h : ys.length < xs.length) : shlex xs ys = 1 := by unfold shlex; rw [if_neg (by omega), if_pos h]
theorem shlex_eq {xs ys : List Int} (h : xs.length = ys.length) : shlex xs ys = lexi xs ys := by unfold shlex; rw [if_neg (by omega), if_neg (by omega)]

end Go.Proofs.Ytogcecfeofbbnaa
end

section
/- The word that is found is the first one. -/
namespace Go.Proofs.Ytogcecfeofbbnaa

/-- Dictionary order of words of the same length, and shortlex order. -/
def Lx : List Int → List Int → Prop
  | a :: u, b :: v => a < b ∨ (a = b ∧ Lx u v)
  | _, _ => False
def SL (u v : List Int) : Prop := u.length < v.length ∨ (u.length = v.length ∧ Lx u v)
theorem Lx_snoc : ∀ {u w : List Int} {x y : Int}, u.length = w.length → (Lx (u ++ [y]) (w ++ [x]) ↔ Lx u w ∨ (u = w ∧ y < x))
  | [], [], x, y, _ => by simp [Lx]
  | a :: u, b :: w, x, y, h => by
    have ih := Lx_snoc (u := u) (w := w) (x := x) (y := y) (by simpa using h)
    simp only [List.cons_append, Lx, ih, List.cons.injEq]
    constructor
    · rintro (h1 | ⟨h1, h2 | ⟨h2, h3⟩⟩)
      · exact .inl (.inl h1)
      · exact .inl (.inr ⟨h1, h2⟩)
      · exact .inr ⟨⟨h1, h2⟩, h3⟩
    · rintro ((h1 | ⟨h1, h2⟩) | ⟨⟨h1, h2⟩, h3⟩)
      · exact .inl h1
      · exact .inr ⟨h1, .inl h2⟩
      · exact .inr ⟨h1, .inr ⟨h2, h3⟩⟩
  | [], _ :: _, _, _, h => by simp at h
  | _ :: _, [], _, _, h => by simp at h
theorem SL_snoc {u w : List Int} {x y : Int} (h : SL (u ++ [y]) (w ++ [x])) : SL u w ∨ (u = w ∧ y < x) := by
  rcases h with h | ⟨h, h2⟩
  · simp only [List.length_append, List.length_singleton] at h
    exact .inl (.inl (by omega))
  · have hl : u.length = w.length := by simpa using h
    rcases (Lx_snoc hl).1 h2 with h3 | h3
    · exact .inl (.inr ⟨hl, h3⟩)
    · exact .inr h3
theorem Lx_tri : ∀ {u v : List Int}, u.length = v.length → Lx u v ∨ u = v ∨ Lx v u
  | [], [], _ => .inr (.inl rfl)
  | a :: u, b :: v, h => by
    have ih := Lx_tri (u := u) (v := v) (by simpa using h)
    simp only [Lx, List.cons.injEq]
    rcases Int.lt_trichotomy a b with h1 | h1 | h1
    · exact .inl (.inl h1)
    · rcases ih with h2 | h2 | h2
      · exact .inl (.inr ⟨h1, h2⟩)
      · exact .inr (.inl ⟨h1, h2⟩)
      · exact .inr (.inr (.inr ⟨h1.symm, h2⟩))
    · exact .inr (.inr (.inl h1))
  | [], _ :: _, h => by simp at h
  | _ :: _, [], h => by simp at h
theorem SL_tri {u v : List Int} : SL u v ∨ u = v ∨ SL v u := by
  rcases Nat.lt_trichotomy u.length v.length with h | h | h
  · exact .inl (.inl h)
  · rcases Lx_tri h with h2 | h2 | h2
    · exact .inl (.inr ⟨h, h2⟩)
    · exact .inr (.inl h2)
    · exact .inr (.inr (.inr ⟨h.symm, h2⟩))
  · exact .inr (.inr (.inl h))
theorem lexi_cons (a : Int) (u v : List Int) : lexi (a :: u) (a :: v) = lexi u v := by
  unfold lexi
  simp [cmn]
theorem lexi_ne {a b : Int} {u v : List Int} (h : ¬ a = b) : lexi (a :: u) (b :: v) = if a < b then -1 else 1 := by
  unfold lexi
  simp [cmn, h]
theorem lexi_neg : ∀ {u v : List Int}, u.length = v.length → lexi u v < 0 → Lx u v
  | [], [], _, h => by simp [lexi, cmn] at h
  | a :: u, b :: v, hl, h => by
    by_cases e : a = b
    · subst e
      rw [lexi_cons] at h
      exact .inr ⟨rfl, lexi_neg (by simpa using hl) h⟩
    · rw [lexi_ne e] at h
      by_cases e2 : a < b
      · exact .inl e2
      · rw [if_neg e2] at h; omega
  | [], _ :: _, h, _ => by simp at h
  | _ :: _, [], h, _ => by simp at h
theorem shlex_sl {u v : List Int} (h : shlex u v < 0) : SL u v := by
  rcases Nat.lt_trichotomy u.length v.length with h1 | h1 | h1
  · exact .inl h1
  · rw [shlex_eq h1] at h
    exact .inr ⟨h1, lexi_neg h1 h⟩
  · rw [shlex_gt h1] at h; omega

/-- What the search has done before its step T. -/
structure Ord_ (nx1 nx2 ot1 ot2 : List (List Int)) (i s t T : Nat) (E : List Ent) : Prop where
  ne : 0 < E.length
  z : (E.getD 0 Ent.zero).w = []
  zp : (E.getD 0 Ent.zero).p = s ∧ (E.getD 0 Ent.zero).q = t
  bk : ∀ k, 0 < k → k < E.length → (E.getD k Ent.zero).j < k ∧ (E.getD k Ent.zero).w = (E.getD (E.getD k Ent.zero).j Ent.zero).w ++ [((E.getD k Ent.zero).x : Int)]
  mono : ∀ k l, 0 < k → k < l → l < E.length → (E.getD k Ent.zero).j * i + (E.getD k Ent.zero).x < (E.getD l Ent.zero).j * i + (E.getD l Ent.zero).x
  xs : ∀ k, 0 < k → k < E.length → (E.getD k Ent.zero).x < i ∧ (E.getD k Ent.zero).j * i + (E.getD k Ent.zero).x < T
  cl : ∀ a y, a < E.length → y < i → a * i + y < T → ∃ c, c < E.length ∧ (E.getD c Ent.zero).p = nN nx1 (E.getD a Ent.zero).p y ∧ (E.getD c Ent.zero).q = nN nx2 (E.getD a Ent.zero).q y ∧ (c = 0 ∨ (E.getD c Ent.zero).j * i + (E.getD c Ent.zero).x ≤ a * i + y)
  ou : ∀ a y, a < E.length → y < i → a * i + y < T → oN ot1 (E.getD a Ent.zero).p y = oN ot2 (E.getD a Ent.zero).q y
  gd : ∀ e, e ∈ E → Gd nx1 nx2 ot1 ot2 i s t e
section
variable {nx1 nx2 ot1 ot2 : List (List Int)} {i n m s t T j x : Nat} {E : List Ent}
theorem pos_uniq {a y j x : Nat} (hy : y < i) (hx : x < i) (h : a * i + y = j * i + x) : a = j ∧ y = x := by
  have h1 : (a * i + y) / i = a := by rw [Nat.mul_comm, Nat.mul_add_div (by omega)]; rw [Nat.div_eq_of_lt hy]; rfl
  have h2 : (j * i + x) / i = j := by rw [Nat.mul_comm, Nat.mul_add_div (by omega)]; rw [Nat.div_eq_of_lt hx]; rfl
  have : a = j := by rw [← h1, ← h2, h]
  subst this
  exact ⟨rfl, by omega⟩
theorem Ord_.one (i s t : Nat) : Ord_ nx1 nx2 ot1 ot2 i s t 0 [⟨s, t, 0, 0, []⟩] where
  ne := by simp
  z := rfl
  zp := ⟨rfl, rfl⟩
  bk := fun k h1 h2 => by simp at h2; omega
  mono := fun k l h1 h2 h3 => by simp at h3; omega
  xs := fun k h1 h2 => by simp at h2; omega
  cl := fun a y _ _ h => absurd h (by omega)
  ou := fun a y _ _ h => absurd h (by omega)
  gd := fun e he => by simp at he; subst he; exact ⟨Wd.nil i, rfl, rfl, rfl⟩
theorem Ord_.step (h : Ord_ nx1 nx2 ot1 ot2 i s t (j * i + x) E) (hj : j < E.length) (hx : x < i) (ho : oN ot1 (E.getD j Ent.zero).p x = oN ot2 (E.getD j Ent.zero).q x) :
    Ord_ nx1 nx2 ot1 ot2 i s t (j * i + x + 1) (addE E (nxE nx1 nx2 j (E.getD j Ent.zero) x)) := by
  have hout : ∀ a y, a < E.length → y < i → a * i + y < j * i + x + 1 → oN ot1 (E.getD a Ent.zero).p y = oN ot2 (E.getD a Ent.zero).q y := fun a y ha hy hl => by
    by_cases e : a * i + y = j * i + x
    · obtain ⟨rfl, rfl⟩ := pos_uniq hy hx e; exact ho
    · exact h.ou a y ha hy (by omega)
  by_cases hh : hasE E (nxE nx1 nx2 j (E.getD j Ent.zero) x).p (nxE nx1 nx2 j (E.getD j Ent.zero) x).q
  · rw [addE_in hh]
    refine ⟨h.ne, h.z, h.zp, h.bk, h.mono, fun k h1 h2 => ⟨(h.xs k h1 h2).1, by have := (h.xs k h1 h2).2; omega⟩, fun a y ha hy hl => ?_, hout, h.gd⟩
    by_cases e : a * i + y = j * i + x
    · obtain ⟨rfl, rfl⟩ := pos_uniq hy hx e
      obtain ⟨c, hc, e1, e2⟩ := hasE_get hh
      refine ⟨c, hc, e1, e2, ?_⟩
      by_cases h0 : c = 0
      · exact .inl h0
      · exact .inr (by have := (h.xs c (by omega) hc).2; omega)
    · exact h.cl a y ha hy (by omega)
  · rw [addE_out hh]
    have hL : (E ++ [nxE nx1 nx2 j (E.getD j Ent.zero) x]).length = E.length + 1 := by simp
    have hp : ∀ k, k < E.length → (E ++ [nxE nx1 nx2 j (E.getD j Ent.zero) x]).getD k Ent.zero = E.getD k Ent.zero := fun k hk => getDE_pre hk
    have hl : (E ++ [nxE nx1 nx2 j (E.getD j Ent.zero) x]).getD E.length Ent.zero = nxE nx1 nx2 j (E.getD j Ent.zero) x := getDE_last
    refine ⟨by omega, by rw [hp 0 h.ne]; exact h.z, by rw [hp 0 h.ne]; exact h.zp, fun k h1 h2 => ?_, fun k l h1 h2 h3 => ?_, fun k h1 h2 => ?_, fun a y ha hy hl2 => ?_, fun a y ha hy hl2 => ?_, fun e he => ?_⟩
    · by_cases hk : k < E.length
      · rw [hp k hk]
        obtain ⟨b1, b2⟩ := h.bk k h1 hk
        exact ⟨b1, by rw [hp _ (by omega)]; exact b2⟩
      · obtain rfl : k = E.length := by omega
        rw [hl]
        exact ⟨hj, by show _ = ((E ++ [nxE nx1 nx2 j (E.getD j Ent.zero) x]).getD j Ent.zero).w ++ _; rw [hp j hj]; rfl⟩
    · by_cases hk : l < E.length
      · rw [hp k (by omega), hp l hk]; exact h.mono k l h1 h2 hk
      · obtain rfl : l = E.length := by omega
        rw [hp k (by omega), hl]
        exact (h.xs k h1 (by omega)).2
    · by_cases hk : k < E.length
      · rw [hp k hk]
        exact ⟨(h.xs k h1 hk).1, by have := (h.xs k h1 hk).2; omega⟩
      · obtain rfl : k = E.length := by omega
        rw [hl]
        exact ⟨hx, by show j * i + x < _; omega⟩
    · have ha2 : a < E.length := by
        by_cases h3 : a < E.length
        · exact h3
        · have : (j + 1) * i ≤ a * i := Nat.mul_le_mul_right i (by omega)
          rw [Nat.succ_mul] at this
          omega
      rw [hp a ha2]
      by_cases e : a * i + y = j * i + x
      · obtain ⟨rfl, rfl⟩ := pos_uniq hy hx e
        exact ⟨E.length, by omega, by rw [hl]; rfl, by rw [hl]; rfl, .inr (by rw [hl]; exact Nat.le_refl _)⟩
      · obtain ⟨c, hc, e1, e2, e3⟩ := h.cl a y ha2 hy (by omega)
        exact ⟨c, by omega, by rw [hp c hc]; exact e1, by rw [hp c hc]; exact e2, by rw [hp c hc]; exact e3⟩
    · have ha2 : a < E.length := by
        by_cases h3 : a < E.length
        · exact h3
        · have : (j + 1) * i ≤ a * i := Nat.mul_le_mul_right i (by omega)
          rw [Nat.succ_mul] at this
          omega
      rw [hp a ha2]
      exact hout a y ha2 hy hl2
    · rcases List.mem_append.1 he with he | he
      · exact h.gd e he
      · simp at he
        subst he
        exact (h.gd _ (getDE_mem hj)).next hx ho
theorem Ord_.round (h : Ord_ nx1 nx2 ot1 ot2 i s t (j * i) E) (hj : j < E.length) : ∀ x, x ≤ i → (∀ a, a < x → oN ot1 (E.getD j Ent.zero).p a = oN ot2 (E.getD j Ent.zero).q a) →
    Ord_ nx1 nx2 ot1 ot2 i s t (j * i + x) (addS nx1 nx2 j (E.getD j Ent.zero) E x)
  | 0, _, _ => h
  | x + 1, hx, ho => by
    have ih := Ord_.round h hj x (by omega) (fun a ha => ho a (by omega))
    obtain ⟨S, hS⟩ := addS_pre (nx1 := nx1) (nx2 := nx2) j (E.getD j Ent.zero) E x
    have hg : (addS nx1 nx2 j (E.getD j Ent.zero) E x).getD j Ent.zero = E.getD j Ent.zero := by rw [hS, getDE_pre hj]
    have h2 := ih.step (by rw [hS, List.length_append]; omega) (by omega) (by rw [hg]; exact ho x (by omega))
    rw [hg] at h2
    exact h2
/-- Words before an entry's word lead to entries before it. -/
theorem Ord_.before (h : Ord_ nx1 nx2 ot1 ot2 i s t T E) : ∀ (N : Nat) (u : List Int) (k : Nat), u.length ≤ N → k < E.length → Wd i u → SL u (E.getD k Ent.zero).w → ∃ c, c < k ∧ (E.getD c Ent.zero).p = runS nx1 s u ∧ (E.getD c Ent.zero).q = runS nx2 t u := by
  intro N
  induction N with
  | zero =>
    intro u k hN hk hu hsl
    obtain rfl : u = [] := List.eq_nil_of_length_eq_zero (by omega)
    by_cases h0 : k = 0
    · subst h0; rw [h.z] at hsl; rcases hsl with h1 | ⟨_, h1⟩ <;> simp [Lx] at h1
    · exact ⟨0, by omega, h.zp.1, h.zp.2⟩
  | succ N ih =>
    intro u k hN hk hu hsl
    by_cases h0 : k = 0
    · subst h0
      rw [h.z] at hsl
      rcases hsl with h1 | ⟨h1, h2⟩
      · simp at h1
      · obtain rfl : u = [] := List.eq_nil_of_length_eq_zero (by simpa using h1)
        simp [Lx] at h2
    · rcases List.eq_nil_or_concat u with rfl | ⟨u', y, rfl⟩
      · exact ⟨0, by omega, h.zp.1, h.zp.2⟩
      · rw [List.concat_eq_append] at hN hu hsl ⊢
        have hu1 : Wd i u' := fun z hz => hu z (List.mem_append.2 (.inl hz))
        obtain ⟨y', rfl, hy⟩ : ∃ y' : Nat, y = y' ∧ y' < i := by have := hu y (List.mem_append.2 (.inr (by simp))); exact ⟨y.toNat, by omega, by omega⟩
        rw [List.length_append] at hN
        have hN : u'.length + 1 ≤ N + 1 := hN
        obtain ⟨b1, b2⟩ := h.bk k (by omega) hk
        obtain ⟨x1, x2⟩ := h.xs k (by omega) hk
        rw [b2] at hsl
        have hfin : ∀ a, a < E.length → a * i + y' < (E.getD k Ent.zero).j * i + (E.getD k Ent.zero).x → (E.getD a Ent.zero).p = runS nx1 s u' → (E.getD a Ent.zero).q = runS nx2 t u' → ∃ c, c < k ∧ (E.getD c Ent.zero).p = runS nx1 s (u' ++ [(y' : Int)]) ∧ (E.getD c Ent.zero).q = runS nx2 t (u' ++ [(y' : Int)]) := fun a ha hlt e1 e2 => by
          obtain ⟨c, hc, c1, c2, c3⟩ := h.cl a y' ha hy (by omega)
          refine ⟨c, ?_, by rw [c1, e1, runS_app]; rfl, by rw [c2, e2, runS_app]; rfl⟩
          rcases c3 with c3 | c3
          · omega
          · rcases Nat.lt_trichotomy c k with h3 | h3 | h3
            · exact h3
            · subst h3; omega
            · have := h.mono k c (by omega) h3 hc; omega
        rcases SL_snoc hsl with h3 | ⟨h3, h4⟩
        · obtain ⟨a, ha, e1, e2⟩ := ih u' _ (by omega) (by omega) hu1 h3
          refine hfin a (by omega) ?_ e1 e2
          have : (a + 1) * i ≤ (E.getD k Ent.zero).j * i := Nat.mul_le_mul_right i ha
          rw [Nat.succ_mul] at this
          omega
        · obtain ⟨_, g2, g3, _⟩ := h.gd _ (getDE_mem (E := E) (k := (E.getD k Ent.zero).j) (by omega))
          rw [← h3] at g2 g3
          exact hfin _ (by omega) (by omega) g2.symm g3.symm
/-- Words before the word of a hit have the same outputs. -/
theorem Ord_.first (h : Ord_ nx1 nx2 ot1 ot2 i s t (j * i) E) (hj : j < E.length) (hd : ∀ a, a < x → oN ot1 (E.getD j Ent.zero).p a = oN ot2 (E.getD j Ent.zero).q a) :
    ∀ (N : Nat) (u : List Int), u.length ≤ N → Wd i u → SL u ((E.getD j Ent.zero).w ++ [(x : Int)]) → runO nx1 ot1 s u = runO nx2 ot2 t u := by
  intro N
  induction N with
  | zero =>
    intro u hN _ _
    obtain rfl : u = [] := List.eq_nil_of_length_eq_zero (by omega)
    rfl
  | succ N ih =>
    intro u hN hu hsl
    rcases List.eq_nil_or_concat u with rfl | ⟨u', y, rfl⟩
    · rfl
    · rw [List.concat_eq_append] at hN hu hsl ⊢
      have hu1 : Wd i u' := fun z hz => hu z (List.mem_append.2 (.inl hz))
      obtain ⟨y', rfl, hy⟩ : ∃ y' : Nat, y = y' ∧ y' < i := by have := hu y (List.mem_append.2 (.inr (by simp))); exact ⟨y.toNat, by omega, by omega⟩
      rw [List.length_append] at hN
      have hN : u'.length + 1 ≤ N + 1 := hN
      have hlen : u'.length < ((E.getD j Ent.zero).w ++ [(x : Int)]).length := by
        rcases hsl with h1 | ⟨h1, _⟩ <;> rw [List.length_append] at h1 <;> simp at h1 ⊢ <;> omega
      have ihu := ih u' (by omega) hu1 (.inl hlen)
      rw [runO_app, runO_app, ihu]
      have key : oN ot1 (runS nx1 s u') y' = oN ot2 (runS nx2 t u') y' := by
        rcases SL_snoc hsl with h3 | ⟨h3, h4⟩
        · obtain ⟨a, ha, e1, e2⟩ := h.before _ u' j (Nat.le_refl _) hj hu1 h3
          have : (a + 1) * i ≤ j * i := Nat.mul_le_mul_right i ha
          rw [Nat.succ_mul] at this
          have := h.ou a y' (by omega) hy (by omega)
          rw [e1, e2] at this
          exact this
        · obtain ⟨_, g2, g3, _⟩ := h.gd _ (getDE_mem hj)
          rw [h3, g2, g3]
          exact hd y' (by omega)
      show _ ++ [oN ot1 (runS nx1 s u') y'] = _ ++ [oN ot2 (runS nx2 t u') y']
      rw [key]
theorem srch_first {v : List Int} : ∀ (k : Nat) (E : List Ent) (j : Nat), Ord_ nx1 nx2 ot1 ot2 i s t (j * i) E → srch nx1 nx2 ot1 ot2 i k E j = some v → ∀ u, Wd i u → SL u v → runO nx1 ot1 s u = runO nx2 ot2 t u
  | 0, _, _, _, h => by simp [srch] at h
  | k + 1, E, j, hE, h => by
    rw [srch] at h
    by_cases hj : j < E.length
    · rw [if_pos hj] at h
      cases hd : fD ot1 ot2 (E.getD j Ent.zero) i with
      | some x =>
        rw [hd] at h
        injection h with h
        subst h
        obtain ⟨_, _, h3⟩ := fD_some hd
        exact fun u hu hs => hE.first hj h3 _ u (Nat.le_refl _) hu hs
      | none =>
        rw [hd] at h
        have h2 := hE.round hj i (Nat.le_refl _) (fD_none hd)
        rw [← Nat.succ_mul] at h2
        exact srch_first k _ _ h2 h
    · rw [if_neg hj] at h; exact absurd h (by simp)
theorem dst_first {v : List Int} (h : dst nx1 ot1 nx2 ot2 i n m s t = some v) : ∀ u, Wd i u → SL u v → runO nx1 ot1 s u = runO nx2 ot2 t u :=
  srch_first _ _ 0 (by rw [Nat.zero_mul]; exact Ord_.one i s t) h
theorem dst_wd {v : List Int} (h : dst nx1 ot1 nx2 ot2 i n m s t = some v) : Wd i v ∧ ¬ runO nx1 ot1 s v = runO nx2 ot2 t v := by
  obtain ⟨w, x, rfl, hx, hw, h1, h2⟩ := dst_sound h
  refine ⟨hw.app (Wd.one hx), fun e => ?_⟩
  rw [runO_app, runO_app, h1] at e
  have h3 := List.append_cancel_left e
  simp only [runO, Int.toNat_natCast, List.cons.injEq] at h3
  exact h2 h3.1
theorem dst_comm {s1 s2 : Nat} (hM : Mok i s1 n nx1 ot1) (hN : Mok i s2 m nx2 ot2) (hs : s < n) (ht : t < m) : dst nx2 ot2 nx1 ot1 i m n t s = dst nx1 ot1 nx2 ot2 i n m s t := by
  cases h1 : dst nx1 ot1 nx2 ot2 i n m s t with
  | none => exact (dst_none hN hM ht hs).2 ((dst_none hM hN hs ht).1 h1).symm
  | some v =>
    cases h2 : dst nx2 ot2 nx1 ot1 i m n t s with
    | none => exact absurd ((dst_none hN hM ht hs).1 h2).symm (dst_not h1)
    | some v' =>
      obtain ⟨w1, d1⟩ := dst_wd h1
      obtain ⟨w2, d2⟩ := dst_wd h2
      rcases SL_tri (u := v) (v := v') with h3 | h3 | h3
      · exact absurd (dst_first h2 v w1 h3).symm d1
      · rw [h3]
      · exact absurd (dst_first h1 v' w2 h3).symm d2
end
end Go.Proofs.Ytogcecfeofbbnaa
end

section
/- homing: the sets of current states, and the groups of a word. -/
namespace Go.Proofs.Ytogcecfeofbbnaa

/-- Sorted and compacted. -/
def cs (xs : List Int) : List Int := Lib.compact (xs.mergeSort fun x y => decide (x ≤ y))
theorem cs_asc (xs : List Int) : (cs xs).Pairwise (· < ·) := (compact_asc (sort_asc xs)).1
theorem cs_mem {xs : List Int} {x : Int} : x ∈ cs xs ↔ x ∈ xs := by
  unfold cs
  rw [(compact_asc (sort_asc xs)).2]
  simp [List.mem_mergeSort]
theorem cs_len (xs : List Int) : (cs xs).length ≤ xs.length := by
  have := Lib.compact_length_le (xs.mergeSort fun x y => decide (x ≤ y))
  rw [List.length_mergeSort] at this
  exact this

/-- The states to which an input leads from those that answer it with an output. -/
def aft (nx ot : List (List Int)) (xs : List Int) (a : Nat) (o : Int) : List Int := cs ((xs.filter fun s => decide (oN ot s.toNat a = o)).map fun s => (nN nx s.toNat a : Int))
theorem aft_asc (nx ot : List (List Int)) (xs : List Int) (a : Nat) (o : Int) : (aft nx ot xs a o).Pairwise (· < ·) := cs_asc _
theorem aft_mem {nx ot : List (List Int)} {xs : List Int} {a : Nat} {o x : Int} : x ∈ aft nx ot xs a o ↔ ∃ s, s ∈ xs ∧ oN ot s.toNat a = o ∧ (nN nx s.toNat a : Int) = x := by
  unfold aft
  rw [cs_mem]
  simp only [List.mem_map, List.mem_filter, decide_eq_true_eq]
  exact ⟨fun ⟨s, ⟨h1, h2⟩, h3⟩ => ⟨s, h1, h2, h3⟩, fun ⟨s, h1, h2, h3⟩ => ⟨s, ⟨h1, h2⟩, h3⟩⟩
theorem aft_len (nx ot : List (List Int)) (xs : List Int) (a : Nat) (o : Int) : (aft nx ot xs a o).length ≤ xs.length := by
  refine Nat.le_trans (cs_len _) ?_
  rw [List.length_map]
  exact List.length_filter_le _ _

/-- The current states of the group of an output word. -/
def cur (n : Nat) (nx ot : List (List Int)) (w o : List Int) : List Int := zs ((List.range n).filter fun t => decide (∃ s, s < n ∧ runS nx s w = t ∧ runO nx ot s w = o))
theorem zs_asc {l : List Nat} (h : l.Pairwise (· < ·)) : (zs l).Pairwise (· < ·) := by
  unfold zs
  rw [List.pairwise_map]
  exact h.imp fun h => by omega
theorem cur_asc (n : Nat) (nx ot : List (List Int)) (w o : List Int) : (cur n nx ot w o).Pairwise (· < ·) := zs_asc (List.Pairwise.filter _ List.pairwise_lt_range)
theorem cur_mem0 {n : Nat} {nx ot : List (List Int)} {w o : List Int} {t : Nat} : (t : Int) ∈ cur n nx ot w o ↔ t < n ∧ ∃ s, s < n ∧ runS nx s w = t ∧ runO nx ot s w = o := by
  unfold cur
  rw [mem_zs]
  simp only [List.mem_filter, List.mem_range, decide_eq_true_eq]
theorem cur_nat {n : Nat} {nx ot : List (List Int)} {w o : List Int} {x : Int} (h : x ∈ cur n nx ot w o) : ∃ t : Nat, x = t ∧ t < n := by
  unfold cur zs at h
  obtain ⟨t, ht, rfl⟩ := List.mem_map.1 h
  exact ⟨t, rfl, List.mem_range.1 (List.mem_filter.1 ht).1⟩

section
variable {i st n : Nat} {nx ot : List (List Int)}

theorem cur_mem (hM : Mok i st n nx ot) {w o : List Int} (hw : ∀ x, x ∈ w → 0 ≤ x ∧ x < i) {x : Int} : x ∈ cur n nx ot w o ↔ ∃ s, s < n ∧ (runS nx s w : Int) = x ∧ runO nx ot s w = o := by
  constructor
  · intro h
    obtain ⟨t, rfl, ht⟩ := cur_nat h
    obtain ⟨_, s, hs, h1, h2⟩ := cur_mem0.1 h
    exact ⟨s, hs, by rw [h1], h2⟩
  · rintro ⟨s, hs, rfl, h2⟩
    exact cur_mem0.2 ⟨hM.runS_lt w s hs hw, s, hs, rfl, h2⟩
theorem cur_len {w o : List Int} {x : Int} (h : x ∈ cur n nx ot w o) : o.length = w.length := by
  obtain ⟨t, rfl, ht⟩ := cur_nat h
  obtain ⟨_, s, hs, h1, h2⟩ := cur_mem0.1 h
  rw [← h2, runO_len]
theorem cur_nil (n : Nat) (nx ot : List (List Int)) : cur n nx ot [] [] = zs (List.range n) := by
  refine asc_eq (cur_asc _ _ _ _ _) (zs_asc List.pairwise_lt_range) fun x => ⟨fun h => ?_, fun h => ?_⟩
  · obtain ⟨t, rfl, ht⟩ := cur_nat h
    exact mem_zs.2 (List.mem_range.2 ht)
  · obtain ⟨t, ht, rfl⟩ := List.mem_map.1 h
    exact cur_mem0.2 ⟨List.mem_range.1 ht, t, List.mem_range.1 ht, rfl, rfl⟩
theorem cur_snoc (hM : Mok i st n nx ot) {w o : List Int} {a y : Int} (hw : ∀ x, x ∈ w → 0 ≤ x ∧ x < i) (ha : 0 ≤ a ∧ a < i) : cur n nx ot (w ++ [a]) (o ++ [y]) = aft nx ot (cur n nx ot w o) a.toNat y := by
  have hw2 : ∀ x, x ∈ w ++ [a] → 0 ≤ x ∧ x < i := fun x hx => by
    rcases List.mem_append.1 hx with h | h
    · exact hw x h
    · rw [List.mem_singleton] at h; rw [h]; exact ha
  refine asc_eq (cur_asc _ _ _ _ _) (aft_asc _ _ _ _ _) fun x => ?_
  rw [cur_mem hM hw2, aft_mem]
  constructor
  · rintro ⟨s, hs, rfl, h2⟩
    rw [runO_append] at h2
    have h3 := List.append_inj' h2 rfl
    refine ⟨(runS nx s w : Int), (cur_mem hM hw).2 ⟨s, hs, rfl, h3.1⟩, ?_, ?_⟩
    · have := h3.2; simpa [runO] using this
    · rw [runS_append]; rfl
  · rintro ⟨t, ht, h1, rfl⟩
    obtain ⟨s, hs, rfl, h2⟩ := (cur_mem hM hw).1 ht
    refine ⟨s, hs, ?_, ?_⟩
    · rw [runS_append]; rfl
    · rw [runO_append, h2, ← h1]; rfl
theorem cur_take (hM : Mok i st n nx ot) {w o : List Int} {k : Nat} (hw : ∀ x, x ∈ w → 0 ≤ x ∧ x < i) (hk : k < w.length) (ho : k < o.length) : cur n nx ot (w.take (k + 1)) (o.take (k + 1)) = aft nx ot (cur n nx ot (w.take k) (o.take k)) (w.getD k 0).toNat (o.getD k 0) := by
  have e1 : w.take (k + 1) = w.take k ++ [w.getD k 0] := by rw [List.getD_eq_getElem?_getD]; exact take_next hk
  have e2 : o.take (k + 1) = o.take k ++ [o.getD k 0] := by rw [List.getD_eq_getElem?_getD]; exact take_next ho
  rw [e1, e2]
  refine cur_snoc hM (fun x hx => hw x (List.mem_of_mem_take hx)) (hw _ ?_)
  rw [List.getD_eq_getElem?_getD, List.getElem?_eq_getElem hk]
  exact List.getElem_mem _

/-- A group after one more input, and all of them. -/
def gsp (nx ot : List (List Int)) (xs : List Int) (a : Nat) : List (List Int) := ((cs (xs.map fun s => oN ot s.toNat a)).map fun o => aft nx ot xs a o).filter fun l => decide (1 < l.length)
def gspl (nx ot : List (List Int)) (G : List (List Int)) (a : Nat) : List (List Int) := G.flatMap fun xs => gsp nx ot xs a

/-- The groups of a word that have several current states, in dictionary order. -/
def Grp (n : Nat) (nx ot : List (List Int)) (w : List Int) (G : List (List Int)) : Prop := ∃ os : List (List Int), os.Pairwise Lx ∧ G = os.map (cur n nx ot w) ∧ ∀ o, o ∈ os ↔ 1 < (cur n nx ot w o).length

theorem mem_of_len {l : List Int} (h : 1 < l.length) : l.getD 0 0 ∈ l := by
  cases l with
  | nil => simp at h
  | cons x t => simp

theorem Grp.start (n : Nat) (nx ot : List (List Int)) : Grp n nx ot [] (if 1 < n then [zs (List.range n)] else []) := by
  have hl : (zs (List.range n)).length = n := by rw [zs_len, List.length_range]
  by_cases h : 1 < n
  · rw [if_pos h]
    refine ⟨[[]], by simp, by simp [cur_nil], fun o => ?_⟩
    rw [List.mem_singleton]
    refine ⟨fun e => by rw [e, cur_nil, hl]; exact h, fun e => ?_⟩
    have := cur_len (mem_of_len e)
    exact List.eq_nil_of_length_eq_zero this
  · rw [if_neg h]
    refine ⟨[], by simp, by simp, fun o => ⟨fun e => by simp at e, fun e => ?_⟩⟩
    have := cur_len (mem_of_len e)
    rw [List.eq_nil_of_length_eq_zero this, cur_nil, hl] at e
    omega

theorem Grp.step (hM : Mok i st n nx ot) {w : List Int} {a : Int} {G : List (List Int)} (hw : ∀ x, x ∈ w → 0 ≤ x ∧ x < i) (ha : 0 ≤ a ∧ a < i) (h : Grp n nx ot w G) : Grp n nx ot (w ++ [a]) (gspl nx ot G a.toNat) := by
  obtain ⟨os, h1, rfl, h3⟩ := h
  refine ⟨os.flatMap fun o => ((cs ((cur n nx ot w o).map fun s => oN ot s.toNat a.toNat)).filter fun y => decide (1 < (aft nx ot (cur n nx ot w o) a.toNat y).length)).map fun y => o ++ [y], ?_, ?_, fun o => ?_⟩
  · rw [List.pairwise_flatMap]
    refine ⟨fun o _ => ?_, ?_⟩
    · rw [List.pairwise_map]
      refine (List.Pairwise.filter _ (cs_asc _)).imp fun hxy => ?_
      exact (Lx_snoc rfl).2 (.inr ⟨rfl, hxy⟩)
    · refine List.Pairwise.imp_of_mem ?_ h1
      intro o o' hm hm' hlt x hx y hy
      obtain ⟨u, _, rfl⟩ := List.mem_map.1 hx
      obtain ⟨v, _, rfl⟩ := List.mem_map.1 hy
      have e1 := cur_len (mem_of_len ((h3 o).1 hm))
      have e2 := cur_len (mem_of_len ((h3 o').1 hm'))
      exact (Lx_snoc (by omega)).2 (.inl hlt)
  · unfold gspl
    rw [List.flatMap_map, List.map_flatMap]
    congr 1
    funext o
    unfold gsp
    rw [List.filter_map, List.map_map]
    refine List.map_congr_left fun y _ => ?_
    show aft nx ot (cur n nx ot w o) a.toNat y = cur n nx ot (w ++ [a]) (o ++ [y])
    rw [cur_snoc hM hw ha]
  · rw [List.mem_flatMap]
    constructor
    · rintro ⟨u, _, hu⟩
      obtain ⟨y, hy, rfl⟩ := List.mem_map.1 hu
      rw [cur_snoc hM hw ha]
      exact of_decide_eq_true (List.mem_filter.1 hy).2
    · intro hl
      have hlen := cur_len (mem_of_len hl)
      rw [List.length_append, List.length_singleton] at hlen
      obtain ⟨u, y, rfl⟩ : ∃ u y, o = u ++ [y] := ⟨o.dropLast, o.getLast (by intro e; rw [e] at hlen; simp at hlen), (List.dropLast_concat_getLast _).symm⟩
      rw [cur_snoc hM hw ha] at hl
      refine ⟨u, (h3 u).2 (Nat.lt_of_lt_of_le hl (aft_len _ _ _ _ _)), List.mem_map.2 ⟨y, List.mem_filter.2 ⟨?_, decide_eq_true hl⟩, rfl⟩⟩
      obtain ⟨s, hs, h4, _⟩ := aft_mem.1 (mem_of_len hl)
      exact cs_mem.2 (List.mem_map.2 ⟨s, hs, h4⟩)

theorem Grp.none {w : List Int} (h : Grp n nx ot w []) (o : List Int) : ¬ 1 < (cur n nx ot w o).length := by
  obtain ⟨os, _, h2, h3⟩ := h
  have : os = [] := by
    cases os with
    | nil => rfl
    | cons => simp at h2
  subst this
  exact fun h => by simpa using (h3 o).2 h
theorem Grp.head {w g : List Int} {G : List (List Int)} (h : Grp n nx ot w (g :: G)) : ∃ o, g = cur n nx ot w o ∧ 1 < g.length ∧ ∀ o', 1 < (cur n nx ot w o').length → o' = o ∨ Lx o o' := by
  obtain ⟨os, h1, h2, h3⟩ := h
  cases os with
  | nil => simp at h2
  | cons o os =>
    simp only [List.map_cons, List.cons.injEq] at h2
    refine ⟨o, h2.1, by rw [h2.1]; exact (h3 o).1 List.mem_cons_self, fun o' ho' => ?_⟩
    rcases List.mem_cons.1 ((h3 o').2 ho') with e | e
    · exact .inl e
    · exact .inr ((List.pairwise_cons.1 h1).1 o' e)
end

theorem Lx_lexi : ∀ {u v : List Int}, Lx u v → lexi u v < 0
  | [], _, h => by simp [Lx] at h
  | _ :: _, [], h => by simp [Lx] at h
  | a :: u, b :: v, h => by
    by_cases e : a = b
    · subst e
      rw [lexi_cons]
      refine Lx_lexi ?_
      rcases h with h | h
      · omega
      · exact h.2
    · rw [lexi_ne e]
      rcases h with h | h
      · rw [if_pos h]; omega
      · exact absurd h.1 e
theorem Lx_irr : ∀ {u : List Int}, ¬ Lx u u
  | [], h => h
  | a :: u, h => by
    rcases h with h | h
    · omega
    · exact Lx_irr h.2
theorem Lx_asym : ∀ {u v : List Int}, Lx u v → ¬ Lx v u
  | [], _, h, _ => h
  | _ :: _, [], h, _ => h
  | a :: u, b :: v, h, k => by
    rcases h with h | h
    · rcases k with k | k
      · omega
      · omega
    · rcases k with k | k
      · omega
      · exact Lx_asym h.2 k.2
theorem Lx_trans : ∀ {u v w : List Int}, Lx u v → Lx v w → Lx u w
  | [], _, _, h, _ => absurd h id
  | _ :: _, [], _, h, _ => absurd h id
  | _ :: _, _ :: _, [], _, k => absurd k id
  | a :: u, b :: v, c :: w, h, k => by
    rcases h with h | h
    · rcases k with k | k
      · exact .inl (by omega)
      · exact .inl (by omega)
    · rcases k with k | k
      · exact .inl (by omega)
      · exact .inr ⟨by omega, Lx_trans h.2 k.2⟩

/-- The reference's first group. -/
def lessO (o : List Int) : Option (List Int) → Bool
  | none => true
  | some b => decide (lexi o b < 0)
def opn (n : Nat) (nx ot : List (List Int)) (w : List Int) : Nat → Option (List Int)
  | 0 => none
  | k + 1 => if 1 < (cur n nx ot w (runO nx ot k w)).length ∧ lessO (runO nx ot k w) (opn n nx ot w k) = true then some (runO nx ot k w) else opn n nx ot w k

def opnL (n : Nat) (nx ot : List (List Int)) (w : List Int) (k : Nat) : List Int := match opn n nx ot w k with | none => [] | some b => cur n nx ot w b

theorem opn_spec (n : Nat) (nx ot : List (List Int)) (w : List Int) : ∀ k, match opn n nx ot w k with
    | none => ∀ s, s < k → ¬ 1 < (cur n nx ot w (runO nx ot s w)).length
    | some b => b.length = w.length ∧ 1 < (cur n nx ot w b).length ∧ ∀ s, s < k → 1 < (cur n nx ot w (runO nx ot s w)).length → runO nx ot s w = b ∨ Lx b (runO nx ot s w)
  | 0 => fun s hs => absurd hs (by omega)
  | k + 1 => by
    have ih := opn_spec n nx ot w k
    unfold opn
    by_cases h : 1 < (cur n nx ot w (runO nx ot k w)).length
    · cases e : opn n nx ot w k with
      | none =>
        rw [e] at ih
        rw [if_pos ⟨h, rfl⟩]
        refine ⟨runO_len _ _ _ _, h, fun s hs hl => ?_⟩
        by_cases e2 : s = k
        · subst e2; exact .inl rfl
        · exact absurd hl (ih s (by omega))
      | some b =>
        rw [e] at ih
        obtain ⟨i1, i2, i3⟩ := ih
        have hlen : (runO nx ot k w).length = b.length := by rw [runO_len, i1]
        by_cases h2 : lexi (runO nx ot k w) b < 0
        · rw [if_pos ⟨h, decide_eq_true h2⟩]
          have hL := lexi_neg hlen h2
          refine ⟨runO_len _ _ _ _, h, fun s hs hl => ?_⟩
          by_cases e2 : s = k
          · subst e2; exact .inl rfl
          · rcases i3 s (by omega) hl with e3 | e3
            · rw [e3]; exact .inr hL
            · exact .inr (Lx_trans hL e3)
        · rw [if_neg fun hh => h2 (of_decide_eq_true hh.2)]
          refine ⟨i1, i2, fun s hs hl => ?_⟩
          by_cases e2 : s = k
          · subst e2
            rcases Lx_tri hlen with e3 | e3 | e3
            · exact absurd (Lx_lexi e3) h2
            · exact .inl e3
            · exact .inr e3
          · exact i3 s (by omega) hl
    · rw [if_neg fun hh => h hh.1]
      cases e : opn n nx ot w k with
      | none =>
        rw [e] at ih
        intro s hs
        by_cases e2 : s = k
        · subst e2; exact h
        · exact ih s (by omega)
      | some b =>
        rw [e] at ih
        obtain ⟨i1, i2, i3⟩ := ih
        refine ⟨i1, i2, fun s hs hl => ?_⟩
        by_cases e2 : s = k
        · subst e2; exact absurd hl h
        · exact i3 s (by omega) hl

theorem cur_some {n : Nat} {nx ot : List (List Int)} {w o : List Int} (h : 1 < (cur n nx ot w o).length) : ∃ s, s < n ∧ runO nx ot s w = o := by
  have hm := mem_of_len h
  obtain ⟨t, e, ht⟩ := cur_nat hm
  rw [e] at hm
  obtain ⟨_, s, hs, _, h2⟩ := cur_mem0.1 hm
  exact ⟨s, hs, h2⟩

/-- The first of the groups is the reference's. -/
theorem Grp.opnL {n : Nat} {nx ot : List (List Int)} {w : List Int} {G : List (List Int)} (h : Grp n nx ot w G) : opnL n nx ot w n = G.getD 0 [] := by
  have hs := opn_spec n nx ot w n
  unfold Go.Proofs.Ytogcecfeofbbnaa.opnL
  cases e : opn n nx ot w n with
  | none =>
    rw [e] at hs
    cases G with
    | nil => rfl
    | cons g G =>
      obtain ⟨o, rfl, h2, _⟩ := h.head
      obtain ⟨s, hsn, rfl⟩ := cur_some h2
      exact absurd h2 (hs s hsn)
  | some b =>
    rw [e] at hs
    obtain ⟨h1, h2, h3⟩ := hs
    cases G with
    | nil => exact absurd h2 (h.none b)
    | cons g G =>
      obtain ⟨o, rfl, h4, h5⟩ := h.head
      show cur n nx ot w b = cur n nx ot w o
      rcases h5 b h2 with e1 | e1
      · rw [e1]
      · obtain ⟨s, hsn, rfl⟩ := cur_some h4
        rcases h3 s hsn h4 with e2 | e2
        · rw [e2]
        · exact absurd e2 (Lx_asym e1)
end Go.Proofs.Ytogcecfeofbbnaa
end
