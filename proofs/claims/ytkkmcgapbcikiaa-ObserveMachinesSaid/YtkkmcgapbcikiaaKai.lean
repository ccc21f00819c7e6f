/- Lemmas of the proofs of this seat, of the parts Fromr, Tracer, Rof16, L16x, L16r. Conditions: none. -/
import Derived.Test.YtkkmcgapbcikiaaKab
import Derived.Deep.RegionHeld3
import Derived.Test.YtkkmcgapbcikiaaKah
import Derived.Test.YtkkmcgapbcikiaaKad
import Derived.Test.YtkkmcgapbcikiaaKac
section
/- From, Run and Step by the reference. -/
namespace Go.Proofs.Ytkkmcgapbcikiaa
open Go.RowKit

end Go.Proofs.Ytkkmcgapbcikiaa
end

section
/- The reference: Traces. -/
namespace Go.Proofs.Ytkkmcgapbcikiaa
open Go.RowKit

theorem rtraces_bad (i st : Int) (A B C : Option Addr) (n c m d p e : Nat) (nx ot : List (List Int)) (E : Int) (w : World) (hx : Lists w A n nx) (ho : Lists w B m ot) (hE : vld i st nx ot = E) (hv : ¬ E = 0) :
    Calls Try.prog 58 #[.agg #[.int .i64 i, .int .i64 st, .slice A n c, .slice B m d], .slice C p e] w fun e w' => e = .returned (.tuple #[.slice none 0 0, .int .i64 E]) ∧ Below w.heap.size w w' := by
  have hb0 := alloc_below w (.cells #[.int .i64 i, .int .i64 st, .slice A n c, .slice B m d] 56)
  have hne : (E != 0) = true := by simpa using hv
  have HE := Lib.hid hE
  clear hE hv
  go_enter Try.func58, Try.ntmps58
  go_wp2_with fail
  refine (rvalid _ _ _ _ _ _ _ _ _ _ _ (hx.below hb0) (ho.below hb0)).mono ?_
  rintro e w1 ⟨rfl, b1⟩
  have hbb := bt hb0 b1
  rw [HE.out]
  clear hb0 b1
  go_wp2
  go_ret2
  exact ⟨rfl, hbb⟩

set_option maxHeartbeats 2000000 in
set_option maxRecDepth 100000 in
theorem rtraces_ok (i st n : Nat) (A B C : Option Addr) (c d p e : Nat) (nx ot ws : List (List Int)) (w : World) (hx : Lists w A n nx) (ho : Lists w B n ot) (hM : Mok i st n nx ot) (hW : Lists w C p ws) (hp : p ≤ 10000) :
    Calls Try.prog 58 #[.agg #[.int .i64 i, .int .i64 st, .slice A n c, .slice B n d], .slice C p e] w fun e w' => ∃ A' c', e = .returned (.tuple #[.slice A' (trs i st nx ot ws []).1.length c', .int .i64 (trs i st nx ot ws []).2]) ∧ OwnedT w' w.heap.size (.slice A' (trs i st nx ot ws []).1.length c') (trs i st nx ot ws []).1 ∧ Below w.heap.size w w' := by
  have HV := Lib.hid hM.vld
  have HW := Lib.hid hW.1
  have hb0 := alloc_below w (.cells #[.int .i64 i, .int .i64 st, .slice A n c, .slice B n d] 56)
  have HZ := Lib.hid (show (w.alloc (.cells #[.int .i64 i, .int .i64 st, .slice A n c, .slice B n d] 56)).heap.size = w.heap.size + 1 by simp)
  have hstn := hM.st
  have d0 : decide ((10000 : Int) < (p : Int)) = false := by simp; omega
  obtain ⟨R, hR⟩ : ∃ R, R = trs i st nx ot ws [] := ⟨_, rfl⟩
  have HR := Lib.hid (show R = trs i st nx ot (ws.drop 0) [] by rw [List.drop_zero]; exact hR)
  rw [← hR]
  clear hR
  go_enter Try.func58, Try.ntmps58
  go_wp2_with fail
  refine (rvalid _ _ _ _ _ _ _ _ _ _ _ (hx.below hb0) (ho.below hb0)).mono ?_
  rintro e w1 ⟨rfl, b1⟩
  rw [HZ.out] at b1
  rw [HV.out]
  go_wp2
  go_loopw [7, 8] (fun v jv wr => ∃ (l : List (List Int × List Int)) (j : Nat) (A' : Option Addr) (c' : Nat), j ≤ p ∧ jv = .int .i64 j ∧ v = .slice A' l.length c' ∧ l.length ≤ j ∧ R = trs i st nx ot (ws.drop j) l ∧ OwnedT wr (w.heap.size + 1) (.slice A' l.length c') l ∧ Below (w.heap.size + 1) (w.alloc (.cells #[.int .i64 i, .int .i64 st, .slice A n c, .slice B n d] 56)) wr) (fun _ jv _ => p - (intOf jv).toNat)
  case atStart => exact ⟨[], 0, none, 0, Nat.zero_le _, rfl, rfl, Nat.zero_le _, HR.out, OwnedT.nil _ _, b1⟩
  case round =>
    obtain ⟨l, j, A', c', hj, rfl, rfl, hll, hB, hown, hbr⟩ := hrel
    have HB := Lib.hid hB
    clear hB
    obtain ⟨k0, k1, k2, k3⟩ := box4 hbr
    have hbw := hb0.trans (hbr.mono (Nat.le_succ _))
    by_cases hlt : j < p
    · obtain ⟨g1, p1, A1, n1, c1, rfl, hg1, hd1, hr1⟩ := hW.at_ hlt
      have e1 := (hbw.cell (p := ⟨g1, p1 + j, none⟩) hg1).trans hd1
      have hi1 := hr1.below hbw
      have hg2 : g1 < w.heap.size + 1 := by omega
      by_cases hc : chk (ws.getD j []) i = 0
      · have HNX := Lib.hid (HB.out.trans (trs_ok (st := st) (nx := nx) (ot := ot) (by rw [HW.out]; exact hlt) hc l))
        generalize ws.getD j [] = row at hr1 hi1 hc HNX
        have HC := Lib.hid hc
        have L1 := Lib.hid hr1.1
        have hn1 := hr1.2.1
        have hsz : w.heap.size + 1 ≤ wr.heap.size := by have := hbr.size; simpa using this
        have hsy := Lib.hid (chk_zero HC.out).2.2.2.mem
        have HI1 := Lib.hid hi1
        have HCK := Lib.hid (fun q => rcheckq A1 n1 c1 i row (wr.drewN q) (HI1.out.drewN q))
        rw [HC.out] at HCK
        have HOW := Lib.hid hown
        have HBQ : Hid (∀ q, Below (w.heap.size + 1) (w.alloc (.cells #[.int .i64 i, .int .i64 st, .slice A n c, .slice B n d] 56)) (wr.drewN q)) := Lib.hid fun q => below_drewN hbr q
        have HMK : Hid (∀ w', Below (w.heap.size + 1) (w.alloc (.cells #[.int .i64 i, .int .i64 st, .slice A n c, .slice B n d] 56)) w' → (w'.cell? ⟨w.heap.size, 0, none⟩ = some (.int .i64 i) ∧ w'.cell? ⟨w.heap.size, 1, none⟩ = some (.int .i64 st) ∧ w'.cell? ⟨w.heap.size, 2, none⟩ = some (.slice A n c) ∧ w'.cell? ⟨w.heap.size, 3, none⟩ = some (.slice B n d)) ∧ w'.cell? ⟨g1, p1 + j, none⟩ = some (.slice A1 n1 c1)) := Lib.hid fun w' h => ⟨box4 h, (h.cell (p := ⟨g1, p1 + j, none⟩) hg2).trans ((hb0.cell (p := ⟨g1, p1 + j, none⟩) hg1).trans hd1)⟩
        have hrb := hr1.below hb0
        have HOUT : Hid (∀ w', Below (w.heap.size + 1) (w.alloc (.cells #[.int .i64 i, .int .i64 st, .slice A n c, .slice B n d] 56)) w' → Calls Try.prog 80 #[.agg #[.int .i64 i, .int .i64 st, .slice A n c, .slice B n d], .int .i64 st, .slice A1 n1 c1] w' fun e w'' => ∃ A' c', e = .returned (.tuple #[.slice A' n1 c', .int .i64 (runS nx st row)]) ∧ Owned w'' w'.heap.size (.slice A' n1 c') (runO nx ot st row) ∧ Below w'.heap.size w' w'') := Lib.hid fun w' h => routs i st n A B A1 c d n1 c1 st nx ot row w' hM ((hx.below hb0).below (by rw [HZ.out]; exact h)) ((ho.below hb0).below (by rw [HZ.out]; exact h)) hstn (hrb.below (by rw [HZ.out]; exact h)) hsy.out
        have HRB := Lib.hid hrb
        clear hrb
        clear hc hown hd1 hr1 hi1
        go_wp2
        go_quiet ((go_at_call 38; exact Calls.quiet_of (HCK.out _)))
        go_wp2
        have hxc := HMK.out _ (HBQ.out (nq + 1))
        go_region_held3 (fun w' => (w'.cell? ⟨w.heap.size, 0, none⟩ = some (.int .i64 i) ∧ w'.cell? ⟨w.heap.size, 1, none⟩ = some (.int .i64 st) ∧ w'.cell? ⟨w.heap.size, 2, none⟩ = some (.slice A n c) ∧ w'.cell? ⟨w.heap.size, 3, none⟩ = some (.slice B n d)) ∧ w'.cell? ⟨g1, p1 + j, none⟩ = some (.slice A1 n1 c1)) (first | exact hxc | (simpa using hxc)) (first
          | (go_at_call 80
             refine (HOUT.out (wr.drewN (nq + 1)) (HBQ.out (nq + 1))).mono ?_
             rintro e w4 ⟨A4, c4, rfl, o4, b4⟩
             have HT4 := Lib.hid (OwnedT.kept (show OwnedT (wr.drewN (nq + 1)) _ _ _ from HOW.out) b4)
             have HO4 := Lib.hid (o4.lower (base' := w.heap.size + 1) hsz)
             have HB4 := Lib.hid ((HBQ.out (nq + 1)).trans (b4.mono hsz))
             have hxc := HMK.out _ HB4.out))
        all_goals
          obtain ⟨_, e4⟩ := hxc
          have HJ := Lib.hid (join_one (c := c1) (HRB.out.below (by rw [HZ.out]; exact HB4.out)))
          clear o4 b4 e1 k0 k1 k2 k3
          go_wp2_with fail
          refine HJ.out.mono ?_
          rintro e w5 ⟨A5, c5, rfl, o5, b5⟩
          have hz4 : w.heap.size + 1 ≤ w4.heap.size := by have := HB4.out.size; simpa using this
          have HT5 := Lib.hid (HT4.out.kept b5)
          have HO5 := Lib.hid (HO4.out.kept b5)
          have HX5 := Lib.hid (o5.lower (base' := w.heap.size + 1) hz4)
          have HB5 := Lib.hid (HB4.out.trans (b5.mono hz4))
          have hz5 : w.heap.size + 1 ≤ w5.heap.size := by have := HB5.out.size; simpa using this
          obtain ⟨A6, c6, w6, hr6, h6, b6, _⟩ := run_append_trace HT5.out HX5.out HO5.out hz5 (by omega)
          have HT6 := Lib.hid h6
          have HB6 := Lib.hid (HB5.out.trans b6)
          have HL := Lib.hid (show (l ++ [(row, runO nx ot st row)]).length = l.length + 1 by simp)
          clear h6 b6 b5 o5 e4
          go_wp2_with (at_builtin; refine Lib.wpList_append_run _ rfl _ _ _ _ rfl _ _ rfl rfl _ _ hr6 ?_)
          go_roundw
          case rel => exact ⟨l ++ [(row, runO nx ot st row)], j + 1, A6, c6, by omega, by go_num, by rw [HL.out], by rw [HL.out]; omega, HNX.out, by rw [HL.out]; exact HT6.out, HB6.out⟩
          case measure => simp [intOf]; omega
      · have HNX := Lib.hid (HB.out.trans (trs_bad (st := st) (nx := nx) (ot := ot) (by rw [HW.out]; exact hlt) hc l))
        generalize ws.getD j [] = row at hr1 hi1 hc HNX
        have hne : (chk row i != 0) = true := by simpa using hc
        have HBW := Lib.hid (fun q => below_drewN hbw q)
        have HI1 := Lib.hid hi1
        have HCK := Lib.hid (fun q => rcheckq A1 n1 c1 i row (wr.drewN q) (HI1.out.drewN q))
        generalize chk row i = E at hne HNX HCK hc
        clear hc hown hbr hd1 hr1 hi1 hbw
        go_wp2
        go_quiet ((go_at_call 38; exact Calls.quiet_of (HCK.out _)))
        go_wp2
        go_ret2
        rw [HNX.out]
        exact ⟨none, 0, rfl, OwnedT.nil _ _, HBW.out _⟩
    · obtain rfl : j = p := by omega
      have HN := Lib.hid (HB.out.trans (trs_end (by rw [HW.out]; exact Nat.le_refl _) l))
      have HOW := Lib.hid (hown.lower (base' := w.heap.size) (Nat.le_succ _))
      have HBW := Lib.hid hbw
      clear hown hbr hbw
      go_wp2
      go_ret2
      rw [HN.out]
      exact ⟨A', c', rfl, HOW.out, HBW.out⟩
end Go.Proofs.Ytkkmcgapbcikiaa
end

section
/- The reference of observe: Of. -/
namespace Go.Proofs.Ytkkmcgapbcikiaa
open Go.RowKit

/-- The result of the reference's Of. -/
def ROfE (i : Int) (us : TSr) (e0 : Int) (w : World) (r : Ending) (w' : World) : Prop :=
  Below w.heap.size w w' ∧ ∃ (e : Int) (ts' : TSr), ((¬ e0 = 0 ∧ e = e0) ∨ (e0 = 0 ∧ RAdds i us [] e ts')) ∧
    ((¬ e = 0 ∧ r = .returned (.tuple #[.agg #[.int .i64 0, .slice none 0 0], .int .i64 e])) ∨
     (e = 0 ∧ ∃ (A : Option Addr) (n c : Nat), r = .returned (.tuple #[.agg #[.int .i64 i, .slice A n c], .int .i64 0]) ∧ Trs w' A n ts'))
/-- Both sides of Of agree. -/
def OfU (i : Int) (us : TSr) (e0 e : Int) (t : TSr) : Prop := (¬ e0 = 0 ∧ e = e0 ∧ t = []) ∨ (e0 = 0 ∧ ∃ t', AddsR i us [] e t' ∧ t = if e = 0 then t' else [])
def OfV (i : Int) (us : TSr) (e0 e : Int) (t : TSr) : Prop := (¬ e0 = 0 ∧ e = e0 ∧ t = []) ∨ (e0 = 0 ∧ ∃ t', RAdds i us [] e t' ∧ t = if e = 0 then t' else [])
theorem of_same {i e0 e e' : Int} {us t t' : TSr} (h : OfU i us e0 e t) (h' : OfV i us e0 e' t') (hl : us.length ≤ 10000) : e = e' ∧ t = t' := by
  rcases h with ⟨h1, rfl, rfl⟩ | ⟨h1, s, h2, rfl⟩ <;> rcases h' with ⟨k1, rfl, rfl⟩ | ⟨k1, s', k2, rfl⟩
  · exact ⟨rfl, rfl⟩
  · exact absurd k1 h1
  · exact absurd h1 k1
  · obtain ⟨rfl, h3⟩ := adds_same h2 k2 okt_none (by simpa using hl)
    refine ⟨rfl, ?_⟩
    by_cases h0 : e = 0
    · rw [if_pos h0, if_pos h0]
      exact (h3 h0).1
    · rw [if_neg h0, if_neg h0]
theorem OfE.res {i e0 : Int} {us : TSr} {w w' : World} {r : Ending} (h : OfE i us e0 w r w') : ∃ e t, OfU i us e0 e t ∧ ResV (if e = 0 then i else 0) e t w r w' := by
  obtain ⟨hb, e, t, h1, ⟨h2, rfl⟩ | ⟨rfl, g, N, cur, rfl, ho⟩⟩ := h
  · refine ⟨e, [], ?_, none, 0, 0, by rw [if_neg h2], Trs.none_ w', hb⟩
    rcases h1 with ⟨h3, h4⟩ | ⟨h3, h4⟩
    · exact .inl ⟨h3, h4, rfl⟩
    · exact .inr ⟨h3, t, h4, (if_neg h2).symm⟩
  · refine ⟨0, t, ?_, some ⟨g, 0, none⟩, t.length, N, rfl, ho.trs, hb⟩
    rcases h1 with ⟨h3, h4⟩ | ⟨h3, h4⟩
    · exact absurd h4.symm h3
    · exact .inr ⟨h3, t, h4, (if_pos rfl).symm⟩
theorem ROfE.res {i e0 : Int} {us : TSr} {w w' : World} {r : Ending} (h : ROfE i us e0 w r w') : ∃ e t, OfV i us e0 e t ∧ ResV (if e = 0 then i else 0) e t w r w' := by
  obtain ⟨hb, e, t, h1, ⟨h2, rfl⟩ | ⟨rfl, A, n, c, rfl, ho⟩⟩ := h
  · refine ⟨e, [], ?_, none, 0, 0, by rw [if_neg h2], Trs.none_ w', hb⟩
    rcases h1 with ⟨h3, h4⟩ | ⟨h3, h4⟩
    · exact .inl ⟨h3, h4, rfl⟩
    · exact .inr ⟨h3, t, h4, (if_neg h2).symm⟩
  · refine ⟨0, t, ?_, A, n, c, rfl, ho, hb⟩
    rcases h1 with ⟨h3, h4⟩ | ⟨h3, h4⟩
    · exact absurd h4.symm h3
    · exact .inr ⟨h3, t, h4, (if_pos rfl).symm⟩

set_option linter.unusedSimpArgs false in
set_option linter.unusedVariables false in
set_option maxHeartbeats 8000000 in
set_option maxRecDepth 100000 in
theorem rof_bad (i st : Int) (A B C : Option Addr) (n c m d p e : Nat) (nx ot : List (List Int)) (E : Int) (w : World) (hx : Lists w A n nx) (ho : Lists w B m ot) (hE : vld i st nx ot = E) (hv : ¬ E = 0) :
    Calls Try.prog 32 #[.agg #[.int .i64 i, .int .i64 st, .slice A n c, .slice B m d], .slice C p e] w fun r w' => ROfE i [] E w r w' := by
  obtain ⟨w1, hw1⟩ : ∃ w1, w1 = (w.alloc (.cells #[.int .i64 i, .int .i64 st, .slice A n c, .slice B m d] 56)).alloc (.cells #[.int .i64 0, .slice none 0 0] 24) := ⟨_, rfl⟩
  obtain ⟨hb0, m1, m2, hs0⟩ := bxs2 w #[.int .i64 i, .int .i64 st, .slice A n c, .slice B m d] #[.int .i64 0, .slice none 0 0] 56 24 w1 hw1
  have HCT := Lib.hid (rtraces_bad i st A B C n c m d p e nx ot E w1 (hx.below hb0) (ho.below hb0) hE hv)
  have HM2 := Lib.hid (fun (W : World) (h : Below w1.heap.size w1 W) => m2.on h)
  have HB0 := Lib.hid hb0
  have HW1 := Lib.hid hw1
  have HE := Lib.hid hv
  have hne : (E != 0) = true := by simpa using hv
  have q0 := m1.cell 0
  have q1 := m1.cell 1
  have q2 := m1.cell 2
  have q3 := m1.cell 3
  simp at q0 q1 q2 q3
  rw [hw1] at q0 q1 q2 q3
  clear hw1 hb0 m1 m2 hs0 hx ho hE hv
  go_enter Try.func32, Try.ntmps32
  go_wp2_with fail
  rw [← HW1.out]
  refine HCT.out.mono ?_
  rintro r w2 ⟨rfl, b2⟩
  clear q0 q1 q2 q3
  have m2 := HM2.out _ b2
  have f0 := m2.free 0
  have f1 := m2.free 1
  have r0 := m2.cell 0
  have r1 := m2.cell 1
  simp at r0 r1
  have HR2 := Lib.hid (m2.set2 (.int .i64 0) (.slice none 0 0))
  have HBF := Lib.hid (set2B (g := w.heap.size + 1) (HB0.out.trans (b2.mono HB0.out.size)) (by omega) (.int .i64 0) (.slice none 0 0))
  clear m2 b2
  go_wp2_with fail
  (try rw [Exit.noGoto_ret])
  refine bodyPost_ret (results_obs_tmp rfl _ _ (w.heap.size + 1) (.int .i64 0) (.slice none 0 0) rfl HR2.out) rfl ?_
  exact ⟨HBF.out, E, [], .inl ⟨HE.out, rfl⟩, .inl ⟨HE.out, rfl⟩⟩

set_option linter.unusedSimpArgs false in
set_option linter.unusedVariables false in
set_option maxHeartbeats 8000000 in
set_option maxRecDepth 100000 in
theorem rof_ok (i st n : Nat) (A B C : Option Addr) (c d p e : Nat) (nx ot ws : List (List Int)) (w : World) (hx : Lists w A n nx) (ho : Lists w B n ot) (hM : Mok i st n nx ot) (hW : Lists w C p ws) (hp : p < 10000) (hwl : ∀ x, x ∈ ws → x.length ≤ 17592186044416) :
    Calls Try.prog 32 #[.agg #[.int .i64 i, .int .i64 st, .slice A n c, .slice B n d], .slice C p e] w fun r w' => ROfE i (trs i st nx ot ws []).1 (trs i st nx ot ws []).2 w r w' := by
  obtain ⟨w1, hw1⟩ : ∃ w1, w1 = (w.alloc (.cells #[.int .i64 i, .int .i64 st, .slice A n c, .slice B n d] 56)).alloc (.cells #[.int .i64 0, .slice none 0 0] 24) := ⟨_, rfl⟩
  obtain ⟨hb0, m1, m2, hs0⟩ := bxs2 w #[.int .i64 i, .int .i64 st, .slice A n c, .slice B n d] #[.int .i64 0, .slice none 0 0] 56 24 w1 hw1
  have HCT := Lib.hid (rtraces_ok i st n A B C c d p e nx ot ws w1 (hx.below hb0) (ho.below hb0) hM (hW.below hb0) (by omega))
  obtain ⟨us, hus⟩ : ∃ us, us = (trs i st nx ot ws []).1 := ⟨_, rfl⟩
  obtain ⟨E, hE⟩ : ∃ E, E = (trs i st nx ot ws []).2 := ⟨_, rfl⟩
  have hul : us.length ≤ p := by rw [hus]; have := trs_len (i := i) (st := st) (nx := nx) (ot := ot) ws []; rw [hW.1] at this; simpa using this
  have HUM := Lib.hid (show ∀ u, u ∈ us → u.1 ∈ ws ∧ u.2 = runO nx ot st u.1 ∧ chk u.1 i = 0 by rw [hus]; exact trs_mem ws [] (fun _ h => h) (fun u hu => absurd hu (by simp)))
  rw [← hus, ← hE] at HCT ⊢
  clear hus
  have HEE := Lib.hid hE
  clear hE
  have HM1 := Lib.hid (fun (W : World) (h : Below w1.heap.size w1 W) => m1.on h)
  have HM2 := Lib.hid (fun (W : World) (h : Below w1.heap.size w1 W) => m2.on h)
  have HB0 := Lib.hid hb0
  have HW1 := Lib.hid hw1
  have HZ1 := Lib.hid hs0
  have HWL := Lib.hid hwl
  have q0 := m1.cell 0
  have q1 := m1.cell 1
  have q2 := m1.cell 2
  have q3 := m1.cell 3
  simp at q0 q1 q2 q3
  rw [hw1] at q0 q1 q2 q3
  clear hw1 hb0 m1 m2 hs0 hx ho hM hW hwl
  go_enter Try.func32, Try.ntmps32
  go_wp2_with fail
  rw [← HW1.out]
  refine HCT.out.mono ?_
  rintro r w2 ⟨A', c', rfl, o2, b2⟩
  clear q0 q1 q2 q3
  by_cases hE : E = 0
  case neg =>
    have hne : (E != 0) = true := by simpa using hE
    have HE := Lib.hid hE
    have m2 := HM2.out _ b2
    have f0 := m2.free 0
    have f1 := m2.free 1
    have r0 := m2.cell 0
    have r1 := m2.cell 1
    simp at r0 r1
    have HR2 := Lib.hid (m2.set2 (.int .i64 0) (.slice none 0 0))
    have HBF := Lib.hid (set2B (g := w.heap.size + 1) (HB0.out.trans (b2.mono HB0.out.size)) (by omega) (.int .i64 0) (.slice none 0 0))
    clear m2 b2 o2 hE
    go_wp2_with fail
    (try rw [Exit.noGoto_ret])
    refine bodyPost_ret (results_obs_tmp rfl _ _ (w.heap.size + 1) (.int .i64 0) (.slice none 0 0) rfl HR2.out) rfl ?_
    exact ⟨HBF.out, E, [], .inl ⟨HE.out, rfl⟩, .inl ⟨HE.out, rfl⟩⟩
  subst hE
  have hU : Trs w2 A' us.length us := o2.trs (by omega) (fun j hj => by
    obtain ⟨h1, h2, _⟩ := HUM.out _ (List.getElem_mem hj)
    have e1 : tIn us j = us[j].1 := by unfold tIn; rw [List.getD_eq_getElem?_getD, List.getElem?_eq_getElem hj]; rfl
    have e2 : tOut us j = us[j].2 := by unfold tOut; rw [List.getD_eq_getElem?_getD, List.getElem?_eq_getElem hj]; rfl
    rw [e1, e2, h2, runO_len]
    exact ⟨HWL.out _ h1, HWL.out _ h1⟩)
  have HWI := Lib.hid (rallK (z := w.heap.size) (i : Int) none A' 0 0 us.length c' [] us w2 (Nat.le_trans HB0.out.size b2.size) (fun _ _ _ _ => Trs.none_ _) hU full_none (by rw [Nat.zero_add]; omega))
  have k0 := (HM1.out _ b2).cell 0
  simp at k0
  have HB2 := Lib.hid b2
  clear o2 hU b2
  go_wp2_with fail
  refine HWI.out.mono ?_
  rintro r w3 ⟨b3, e, ts', hA, hr⟩
  clear k0
  have HAA := Lib.hid hA
  have HB3 := Lib.hid (bt HB2.out b3)
  have hz2 : w.heap.size ≤ w2.heap.size := Nat.le_trans HB0.out.size HB2.out.size
  clear hA
  rcases hr with ⟨he, rfl⟩ | ⟨rfl, g, q, N, rfl, hT⟩
  · have hne : (e != 0) = true := by simpa using he
    have HE := Lib.hid he
    have hal := alloc_below w3 (.cells #[.int .i64 (i : Int), .slice none 0 0] 24)
    have m2 := HM2.out _ (HB3.out.trans (hal.mono HB3.out.size))
    have f0 := m2.free 0
    have f1 := m2.free 1
    have r0 := m2.cell 0
    have r1 := m2.cell 1
    simp at r0 r1
    have HR2 := Lib.hid (m2.set2 (.int .i64 0) (.slice none 0 0))
    have HBF := Lib.hid (set2B (g := w.heap.size + 1) (HB0.out.trans ((HB3.out.trans (hal.mono HB3.out.size)).mono HB0.out.size)) (by omega) (.int .i64 0) (.slice none 0 0))
    clear m2 b3 he hal
    go_wp2_with fail
    (try rw [Exit.noGoto_ret])
    refine bodyPost_ret (results_obs_tmp rfl _ _ (w.heap.size + 1) (.int .i64 0) (.slice none 0 0) rfl HR2.out) rfl ?_
    exact ⟨HBF.out, e, ts', .inr ⟨rfl, HAA.out⟩, .inl ⟨HE.out, rfl⟩⟩
  · have hal := alloc_below w3 (.cells #[.int .i64 (i : Int), .slice g q N] 24)
    have m9 := bx_new w3 #[.int .i64 (i : Int), .slice g q N] 24
    have hz3 : w.heap.size ≤ w3.heap.size := Nat.le_trans hz2 b3.size
    have hT := hT.below hz3 hal
    have hb9 := HB3.out.trans (hal.mono HB3.out.size)
    have m2 := HM2.out _ hb9
    have p0 := m9.cell 0
    have p1 := m9.cell 1
    have f0 := m2.free 0
    have f1 := m2.free 1
    have r0 := m2.cell 0
    have r1 := m2.cell 1
    simp at p0 p1 r0 r1
    have HR2 := Lib.hid (m2.set2 (.int .i64 (i : Int)) (.slice g q N))
    have HBF := Lib.hid (set2B (g := w.heap.size + 1) (HB0.out.trans (hb9.mono HB0.out.size)) (by omega) (.int .i64 (i : Int)) (.slice g q N))
    have HTF := Lib.hid (((hT.setX m2 (by omega) 0 (.int .i64 (i : Int))).setX (m2.set 0 (.int .i64 (i : Int))) (by omega) 1 (.slice g q N)).trs HBF.out.size)
    clear m2 b3 hal hT m9 hb9
    go_wp2_with fail
    (try rw [Exit.noGoto_ret])
    refine bodyPost_ret (results_obs_tmp rfl _ _ (w.heap.size + 1) (.int .i64 (i : Int)) (.slice g q N) rfl HR2.out) rfl ?_
    exact ⟨HBF.out, 0, ts', .inr ⟨rfl, HAA.out⟩, .inr ⟨rfl, g, q, N, rfl, HTF.out⟩⟩
end Go.Proofs.Ytkkmcgapbcikiaa
end

section
/- The law ObserveExact: the walk. -/
namespace Go.Proofs.Ytkkmcgapbcikiaa
open Go.RowKit

/-- The answer of many. -/
def ManyE (p : Nat) (ws : List (List Int)) (w : World) (r : Ending) (w' : World) : Prop := ∃ b, r = .returned (.bool b) ∧ (b = false → p ≤ 60 ∧ ∀ x, x ∈ ws → x.length ≤ 100) ∧ Below w.heap.size w w'
set_option linter.unusedSimpArgs false in
set_option linter.unusedVariables false in
set_option maxHeartbeats 8000000 in
set_option maxRecDepth 100000 in
/-- many: too much to be examined? -/
theorem pmany16 (i st : Int) (A B C : Option Addr) (n c m d p e : Nat) (ws : List (List Int)) (w : World) (hW : Lists w C p ws) :
    Calls Try.prog 30 #[.agg #[.int .i64 i, .int .i64 st, .slice A n c, .slice B m d], .slice C p e] w fun r w' => ManyE p ws w r w' := by
  obtain ⟨w0, hw0⟩ : ∃ w0, w0 = w.alloc (.cells #[.int .i64 i, .int .i64 st, .slice A n c, .slice B m d] 56) := ⟨_, rfl⟩
  have hb0 : Below w.heap.size w w0 := by rw [hw0]; exact alloc_below _ _
  have m0 : Bx w0 w.heap.size #[.int .i64 i, .int .i64 st, .slice A n c, .slice B m d] 56 := by rw [hw0]; exact bx_new _ _ _
  have HW := Lib.hid (hW.below hb0)
  have HB0 := Lib.hid hb0
  have HW0 := Lib.hid hw0
  have HLW := Lib.hid hW.1
  have l0 := m0.cell 0
  have l2 := m0.cell 2
  simp at l0 l2
  rw [hw0] at l0 l2
  clear hw0 hb0 m0 hW
  by_cases hbad : 60 < p ∨ 40 < n ∨ 20 < i
  · by_cases h1 : 60 < p
    · have h1' : (60 : Int) < (p : Int) := by omega
      go_enter Try.func30, Try.ntmps30
      go_wp2_with fail
      go_ret
      exact ⟨true, rfl, fun h => absurd h (by decide), alloc_below _ _⟩
    · have h1' : ¬ (60 : Int) < (p : Int) := by omega
      by_cases h2 : 40 < n
      · have h2' : (40 : Int) < (n : Int) := by omega
        go_enter Try.func30, Try.ntmps30
        go_wp2_with fail
        go_ret
        exact ⟨true, rfl, fun h => absurd h (by decide), alloc_below _ _⟩
      · have h2' : ¬ (40 : Int) < (n : Int) := by omega
        have h3 : (20 : Int) < i := by omega
        go_enter Try.func30, Try.ntmps30
        go_wp2_with fail
        go_ret
        exact ⟨true, rfl, fun h => absurd h (by decide), alloc_below _ _⟩
  have h1' : ¬ (60 : Int) < (p : Int) := by omega
  have h2' : ¬ (40 : Int) < (n : Int) := by omega
  have h3 : ¬ (20 : Int) < i := by omega
  go_enter Try.func30, Try.ntmps30
  go_upto_region 4 with fail
  rw [← HW0.out]
  clear l0 l2
  go_loopw [5] (fun v5 wr => ∃ k : Nat, v5 = .int .i64 k ∧ k ≤ p ∧ Hid (∀ j, j < k → (ws.getD j []).length ≤ 100) ∧ ∃ q, wr = w0.drewN q) (fun v5 _ => p - (intOf v5).toNat)
  case atStart => exact ⟨0, rfl, Nat.zero_le _, Lib.hid (fun j h => absurd h (by omega)), 0, rfl⟩
  case round =>
    obtain ⟨k, rfl, hk, HK, q, rfl⟩ := hrel
    by_cases hlt : k < p
    · obtain ⟨b, off, Us, un, uc, rfl, hgb, i1, i2⟩ := HW.out.at_ hlt
      have hkI : (k : Int) < (p : Int) := by omega
      have hk0 : (0 : Int) ≤ (k : Int) := by omega
      have wk1 : IntKind.i64.wrap ((k : Int) + 1) = ((k + 1 : Nat) : Int) := by rw [IntKind.wrap_i64]; omega
      have hul := i2.1
      have HUL := Lib.hid hul
      have i1' := i1
      clear i2 hgb hul
      by_cases hu : 100 < un
      · have hu' : (100 : Int) < (un : Int) := by omega
        go_wp2_with fail
        go_ret
        exact ⟨true, rfl, fun h => absurd h (by decide), below_drewN HB0.out q⟩
      · have hu' : ¬ (100 : Int) < (un : Int) := by omega
        have HK2 := Lib.hid (show ∀ j, j < k + 1 → (ws.getD j []).length ≤ 100 from fun j hj => by
          rcases Nat.lt_or_ge j k with h | h
          · exact HK.out j h
          · obtain rfl : j = k := by omega
            rw [HUL.out]; omega)
        go_wp2_with fail
        go_roundw
        case rel => exact ⟨k + 1, rfl, by omega, HK2, q, rfl⟩
        case measure => simp [intOf]; omega
    · have hkI : ¬ (k : Int) < (p : Int) := by omega
      go_wp2_with fail
      go_ret
      exact ⟨false, rfl, fun _ => ⟨by omega, fun x hx => by
        obtain ⟨j, hj, e⟩ := List.mem_iff_getElem.1 hx
        have := HK.out j (by rw [HLW.out] at hj; omega)
        rw [List.getD_eq_getElem?_getD, List.getElem?_eq_getElem hj] at this
        rw [← e]; exact this⟩, below_drewN HB0.out q⟩

theorem trs_zero {i st : Nat} {nx ot : List (List Int)} : ∀ (ws : List (List Int)) (l : List (List Int × List Int)), (trs i st nx ot ws l).2 = 0 → ∀ x, x ∈ ws → chk x i = 0
  | [], _, _, _, hx => absurd hx (by simp)
  | v :: ws, l, h, x, hx => by
    unfold trs at h
    by_cases hc : chk v i = 0
    · rw [if_pos hc] at h
      rcases List.mem_cons.1 hx with rfl | hx
      · exact hc
      · exact trs_zero ws _ h x hx
    · rw [if_neg hc] at h
      exact absurd h hc
set_option linter.unusedSimpArgs false in
set_option linter.unusedVariables false in
set_option maxHeartbeats 16000000 in
set_option maxRecDepth 100000 in
theorem exact16_walk (i st : Int) (A B C V : Option Addr) (n c m d p e vn vc : Nat) (nx ot ws : List (List Int)) (vs : List Int) (w : World) (hx : Lists w A n nx) (ho : Lists w B m ot) (hW : Lists w C p ws) (hV : Ints w V vn vs) :
    Calls Try.prog 9 #[.agg #[.int .i64 i, .int .i64 st, .slice A n c, .slice B m d], .slice C p e, .slice V vn vc] w fun r w' => r = .returned (.bool true) ∧ Below w.heap.size w w' := by
  obtain ⟨w0, hw0⟩ : ∃ w0, w0 = w.alloc (.cells #[.int .i64 i, .int .i64 st, .slice A n c, .slice B m d] 56) := ⟨_, rfl⟩
  have hb0 : Below w.heap.size w w0 := by rw [hw0]; exact alloc_below _ _
  have m0 : Bx w0 w.heap.size #[.int .i64 i, .int .i64 st, .slice A n c, .slice B m d] 56 := by rw [hw0]; exact bx_new _ _ _
  have HX := Lib.hid (fun (W : World) (h : Below w0.heap.size w0 W) => (hx.below hb0).below h)
  have HO := Lib.hid (fun (W : World) (h : Below w0.heap.size w0 W) => (ho.below hb0).below h)
  have HW := Lib.hid (fun (W : World) (h : Below w0.heap.size w0 W) => (hW.below hb0).below h)
  have HV := Lib.hid (fun (W : World) (h : Below w0.heap.size w0 W) => (hV.below hb0).below h)
  have HM := Lib.hid (fun (W : World) (h : Below w0.heap.size w0 W) => m0.on h)
  have HB0 := Lib.hid hb0
  have HW0 := Lib.hid hw0
  have HLW := Lib.hid hW.1
  have HLV := Lib.hid hV.1
  have HLX := Lib.hid hx.1
  have hbc := Below.refl w0.heap.size w0
  have l0 := (HM.out _ hbc).cell 0
  have l1 := (HM.out _ hbc).cell 1
  have l2 := (HM.out _ hbc).cell 2
  have l3 := (HM.out _ hbc).cell 3
  simp at l0 l1 l2 l3
  rw [HW0.out] at l0 l1 l2 l3
  clear hw0 hb0 m0 hx ho hW hV
  go_enter Try.func9, Try.ntmps9
  go_wp2_with fail
  rw [← HW0.out]
  refine (pmany16 i st A B C n c m d p e ws w0 (HW.out _ hbc)).mono ?_
  rintro r w1 ⟨b1, rfl, hP, a1⟩
  have hbc := bt hbc a1
  clear a1 l0 l1 l2 l3
  cases b1
  case true =>
    clear hP
    go_wp2_with fail
    refine (awake16 _).mono ?_
    rintro r w9 ⟨rfl, a9⟩
    go_wp2
    go_ret
    exact ⟨rfl, bt HB0.out (bt hbc a9)⟩
  have HP := Lib.hid (hP rfl)
  have hp60 := HP.out.1
  clear hP
  have l0 := (HM.out _ hbc).cell 0
  have l1 := (HM.out _ hbc).cell 1
  have l2 := (HM.out _ hbc).cell 2
  have l3 := (HM.out _ hbc).cell 3
  simp at l0 l1 l2 l3
  by_cases hv : vld i st nx ot = 0
  case neg =>
    have HV' := Lib.hid hv
    have HBC := Lib.hid hbc
    have HPB := Lib.hid (pof_bad i st A B C n c m d p e nx ot _ w1 (HX.out _ hbc) (HO.out _ hbc) rfl hv)
    clear hv hbc
    go_wp2_with fail
    refine HPB.out.mono ?_
    rintro r w4 ⟨b4, e4, ts4, he4, hr4⟩
    clear l0 l1 l2 l3
    rcases he4 with ⟨h5, h6⟩ | ⟨h5, _⟩
    case inr => exact absurd h5 HV'.out
    rw [← h6] at h5
    rcases hr4 with ⟨_, rfl⟩ | ⟨h7, _⟩
    case inr => exact absurd h7 h5
    have hne : (e4 != 0) = true := by simpa using h5
    have HB4 := Lib.hid (bt (bt HBC.out b4) (alloc_below w4 (.cells #[.int .i64 0, .slice none 0 0] 24)))
    clear h5 h6 b4
    go_wp2_with fail
    refine (awake16 _).mono ?_
    rintro r w9 ⟨rfl, a9⟩
    go_wp2
    go_ret
    exact ⟨rfl, bt HB0.out (bt HB4.out a9)⟩
  obtain ⟨i, st, n', rfl, rfl, hMok⟩ := vld_zero hv
  clear hv
  obtain rfl : n' = n := by have := hMok.nxl; rw [HLX.out] at this; exact this.symm
  obtain rfl : m = n' := by have := hMok.otl; rw [(HO.out _ hbc).1] at this; exact this
  have HMK := Lib.hid hMok
  have hi12 : 1 ≤ i ∧ i ≤ 64 := ⟨hMok.i1, hMok.i2⟩
  have HI12 := Lib.hid hi12
  obtain ⟨us, hus⟩ : ∃ us, us = (trs i st nx ot ws []).1 := ⟨_, rfl⟩
  obtain ⟨E, hE⟩ : ∃ E, E = (trs i st nx ot ws []).2 := ⟨_, rfl⟩
  have HUM := Lib.hid (show ∀ u, u ∈ us → u.2 = runO nx ot st u.1 ∧ chk u.1 i = 0 by rw [hus]; exact fun u hu => (trs_mem (ws := ws) ws [] (fun _ h => h) (fun u hu => absurd hu (by simp)) u hu).2)
  have HUS := Lib.hid hus
  have HEE := Lib.hid hE
  have HPO := Lib.hid (pof_ok i st m A B C c d p e nx ot ws w1 (HX.out _ hbc) (HO.out _ hbc) hMok (HW.out _ hbc) (by omega) (fun x hx => by have := HP.out.2 x hx; omega))
  rw [← hus, ← hE] at HPO
  clear hus hE hMok hi12
  have HBC := Lib.hid hbc
  clear hbc
  go_wp2_with fail
  refine HPO.out.mono ?_
  rintro r w4 ⟨b4, e4, ts, he4, hr4⟩
  clear l0 l1 l2 l3 HPO
  rcases hr4 with ⟨h5, rfl⟩ | ⟨rfl, g, N, cur, rfl, hT4⟩
  · have hne : (e4 != 0) = true := by simpa using h5
    have HB4 := Lib.hid (bt (bt HBC.out b4) (alloc_below w4 (.cells #[.int .i64 0, .slice none 0 0] 24)))
    clear h5 b4 he4
    go_wp2_with fail
    refine (awake16 _).mono ?_
    rintro r w9 ⟨rfl, a9⟩
    go_wp2
    go_ret
    exact ⟨rfl, bt HB0.out (bt HB4.out a9)⟩
  have hE0 : E = 0 ∧ AddsR i us [] 0 ts := by
    rcases he4 with ⟨h5, h6⟩ | ⟨h5, h⟩
    · exact absurd h6.symm h5
    · exact ⟨h5, h⟩
  clear he4
  obtain ⟨hE0, hA⟩ := hE0
  have HOM := Lib.hid (adds_of16 hA (fun j hj => absurd hj (by simp)) HUM.out)
  have HSS := Lib.hid (hA.srt srt_none)
  have HPP := Lib.hid (hA.props (fun j hj => absurd hj (by simp)))
  have HFF := Lib.hid (of_full HOM.out)
  have HKN := Lib.hid (show ∀ x, x ∈ ws → knw ts x ts.length = x.length by
    intro x hx
    have hall : ∀ y, y ∈ ws → chk y i = 0 := trs_zero ws [] (by rw [← HEE.out]; exact hE0)
    have hm : (x, runO nx ot st x) ∈ us := by rw [HUS.out, trs_map ws [] hall]; exact List.mem_map.2 ⟨x, hx, rfl⟩
    exact hA.has _ hm)
  clear hA hE0
  obtain ⟨tn, htn⟩ : ∃ tn, tn = ts.length := ⟨_, rfl⟩
  rw [← htn]
  have htN : tn ≤ N := by rw [htn]; exact hT4.le
  have HTN := Lib.hid htn
  clear htn
  obtain ⟨w5, hw5⟩ : ∃ w5, w5 = w4.alloc (.cells #[.int .i64 (i : Int), .slice (some ⟨g, 0, none⟩) tn N] 24) := ⟨_, rfl⟩
  obtain ⟨b7, hb7⟩ : ∃ b7, b7 = w4.heap.size := ⟨_, rfl⟩
  have hal : Below w4.heap.size w4 w5 := by rw [hw5]; exact alloc_below _ _
  have m5 : Bx w5 b7 #[.int .i64 (i : Int), .slice (some ⟨g, 0, none⟩) tn N] 24 := by rw [hw5, hb7]; exact bx_new _ _ _
  have HB5 := Lib.hid (bt (bt HBC.out b4) hal)
  have HM5 := Lib.hid (fun (W : World) (h : Below w5.heap.size w5 W) => m5.on h)
  have HT5 := Lib.hid (fun (W : World) (h : Below w5.heap.size w5 W) => ((hT4.below hal).below h).trs)
  rw [← HTN.out] at HT5
  have HW5 := Lib.hid hw5
  have HB7 := Lib.hid hb7
  have q0 := m5.cell 0
  have q1 := m5.cell 1
  simp at q0 q1
  rw [HW5.out, HB7.out] at q0 q1
  have HAN := Lib.hid (panswer16 (i : Int) (some ⟨g, 0, none⟩) V tn N vn vc ts vs w5 (HT5.out _ (Below.refl _ _)) htN (HV.out _ HB5.out) HSS.out HFF.out)
  clear hw5 hb7 hal m5 hT4 b4
  go_wp2_with fail
  rw [← HW5.out, ← HB7.out]
  refine HAN.out.mono ?_
  rintro r w6 hans
  obtain ⟨a6, hor⟩ := ans_exact hans HOM.out HPP.out HI12.out HLV.out
  have hbc := bt HB5.out a6
  have HB6 := Lib.hid a6
  clear hans a6 q0 q1
  have l0 := (HM.out _ hbc).cell 0
  have l1 := (HM.out _ hbc).cell 1
  have l2 := (HM.out _ hbc).cell 2
  have l3 := (HM.out _ hbc).cell 3
  simp at l0 l1 l2 l3
  have HRU := Lib.hid (prunw (i : Int) (st : Int) A B V m c m d vn vc nx ot vs w6 (HX.out _ hbc) (HO.out _ hbc) (HV.out _ hbc))
  have HBC6 := Lib.hid hbc
  clear hbc
  have HGOAL : True := trivial
  rcases hor with ⟨rfl, _⟩ | ⟨A6, c6, rfl, i6, hck⟩
  · go_wp2_with fail
    refine HRU.out.mono ?_
    rintro r w7 ⟨A7, c7, rfl, _, a7⟩
    have HBR := Lib.hid (HB6.out.trans (a7.mono HB6.out.size))
    clear a7 l0 l1 l2 l3
    go_wp2_with fail
    go_loopw [13] (fun v13 wr => ∃ s : Nat, v13 = .int .i64 s ∧ s ≤ p ∧ Hid (Below w5.heap.size w5 wr)) (fun v13 _ => p - (intOf v13).toNat)
    case atStart => exact ⟨0, rfl, Nat.zero_le _, HBR⟩
    case round =>
      clear HBR
      obtain ⟨s, rfl, hsp, HBR⟩ := hrel
      by_cases hlt : s < p
      · obtain ⟨b, off, Us, un, uc, eC, hgb, i1, i2⟩ := (HW.out _ HB5.out).at_ hlt
        subst eC
        obtain ⟨xu, hxu⟩ : ∃ xu, xu = ws.getD s [] := ⟨_, rfl⟩
        rw [← hxu] at i2
        have hmem : xu ∈ ws := by rw [hxu, List.getD_eq_getElem?_getD, List.getElem?_eq_getElem (by rw [HLW.out]; exact hlt)]; exact List.getElem_mem _
        have HKU := Lib.hid (HKN.out xu hmem)
        have HUI := Lib.hid (fun (W : World) (h : Below w5.heap.size w5 W) => i2.below h)
        have HUL := Lib.hid i2.1
        have hunb : un ≤ 100 := by have := HP.out.2 xu hmem; rw [i2.1] at this; exact this
        have HS := Lib.hid (show ∀ W, Below w5.heap.size w5 W → Bx W b7 #[.int .i64 (i : Int), .slice (some ⟨g, 0, none⟩) tn N] 24 ∧ Bx W w.heap.size #[.int .i64 (i : Int), .int .i64 (st : Int), .slice A m c, .slice B m d] 56 ∧ W.cell? ⟨b, off + s, none⟩ = some (.slice Us un uc) from fun W h => ⟨HM5.out _ h, HM.out _ (bt HB5.out h), (h.cell (p := ⟨b, off + s, none⟩) hgb).trans i1⟩)
        have hsI : (s : Int) < (p : Int) := by omega
        have hs0 : (0 : Int) ≤ (s : Int) := by omega
        have ws1 : IntKind.i64.wrap ((s : Int) + 1) = ((s + 1 : Nat) : Int) := by rw [IntKind.wrap_i64]; omega
        clear i1 i2 hxu hmem hgb
        go_upto_region 13 with fail
        have hbf : Below w5.heap.size w5 wr.drew := below_drewN HBR.out 1
        refine wp_region_heldX (X := fun k => ([] : List Nat).contains k) (S := fun W => Bx W b7 #[.int .i64 (i : Int), .slice (some ⟨g, 0, none⟩) tn N] 24 ∧ Bx W w.heap.size #[.int .i64 (i : Int), .int .i64 (st : Int), .slice A m c, .slice B m d] 56 ∧ W.cell? ⟨b, off + s, none⟩ = some (.slice Us un uc)) (by kernel_rfl) ?_
        generalize wr.drew = wkd at hbf ⊢
        refine wpAnyX_takeL (L := []) (i := 0) (v := .agg (#[.int .i64 (i : Int), .slice (some ⟨g, 0, none⟩) tn N])) rfl (by kernel_rfl) (by kernel_rfl) (by kernel_rfl) (by kernel_rfl) (fun _ _ _ h => h) (Or.inl ⟨by rfl, fun W hSW => run_load_bx 24 _ rfl (b7) rfl 24 (#[.int .i64 (i : Int), .slice (some ⟨g, 0, none⟩) tn N]) (0, 0) _ (hSW.1) Try.underlying24 rfl (by kernel_rfl)⟩) (HS.out _ hbf) ?_
        (try simp only [Act.put, List.getElem_toArray, List.getElem_cons_zero, List.getElem_cons_succ, List.setIfInBounds_toArray, List.set_cons_zero, List.set_cons_succ])
        refine wpAnyX_pure (i := 1) (v := ?_) rfl (by kernel_rfl) (by kernel_rfl) (by kernel_rfl) (fun _ _ _ h => h) (Or.inl ⟨by rfl, ?_⟩) ?_
        rotate_left
        · (intro W _; go_simp; try with_reducible rfl)
        (try simp only [Act.put, List.getElem_toArray, List.getElem_cons_zero, List.getElem_cons_succ, List.setIfInBounds_toArray, List.set_cons_zero, List.set_cons_succ])
        refine wpAnyX_pure (i := 2) (v := ?_) rfl (by kernel_rfl) (by kernel_rfl) (by kernel_rfl) (fun _ _ _ h => h) (Or.inl ⟨by rfl, ?_⟩) ?_
        rotate_left
        · (intro W _; go_simp; try with_reducible rfl)
        (try simp only [Act.put, List.getElem_toArray, List.getElem_cons_zero, List.getElem_cons_succ, List.setIfInBounds_toArray, List.set_cons_zero, List.set_cons_succ])
        refine wpAnyX_pure (i := 3) (v := ?_) rfl (by kernel_rfl) (by kernel_rfl) (by kernel_rfl) (fun _ _ _ h => h) (Or.inl ⟨by rfl, ?_⟩) ?_
        rotate_left
        · (intro W _; go_simp; try with_reducible rfl)
        (try simp only [Act.put, List.getElem_toArray, List.getElem_cons_zero, List.getElem_cons_succ, List.setIfInBounds_toArray, List.set_cons_zero, List.set_cons_succ])
        refine wpAnyX_takeL (L := []) (i := 4) (v := ?_) rfl (by kernel_rfl) (by kernel_rfl) (by kernel_rfl) (by kernel_rfl) (fun _ _ _ h => h) (Or.inl ⟨by rfl, ?_⟩) (HS.out _ hbf) ?_
        rotate_left
        · (intro W hSW; (try dsimp only at hSW); obtain ⟨z0, z1, z2⟩ := hSW; go_simp; try with_reducible rfl)
        (try simp only [Act.put, List.getElem_toArray, List.getElem_cons_zero, List.getElem_cons_succ, List.setIfInBounds_toArray, List.set_cons_zero, List.set_cons_succ])
        refine wpAnyX_one (i := 5) rfl (by kernel_rfl) (fun K hK => ?_)
        go_simp
        go_at_call 19
        refine (panswer16 (i : Int) (some ⟨g, 0, none⟩) Us tn N un uc ts xu _ (HT5.out _ hbf) htN (HUI.out _ hbf) HSS.out HFF.out).mono ?_
        rintro r x6 hans
        obtain ⟨a6, hor⟩ := ans_exact hans HOM.out HPP.out HI12.out HUL.out
        have hyes : ∃ A' c', r = .returned (.tuple #[.slice A' un c', .bool true]) ∧ Ints x6 A' un (runO nx ot st xu) ∧ chk xu i = 0 := by
          rcases hor with ⟨_, h⟩ | h
          · have := HKU.out; rw [HUL.out] at this; omega
          · exact h
        obtain ⟨A6', c6', rfl, i6, hck⟩ := hyes
        have HJ6 := Lib.hid (fun (W : World) (h : Below x6.heap.size x6 W) => i6.below h)
        have HCK := Lib.hid hck
        have hbf := bt hbf a6
        clear hans hor i6 hck a6
        refine hK.out _ _ (fun _ _ => HS.out _ hbf) ?_
        (try simp only [Act.put, List.getElem_toArray, List.getElem_cons_zero, List.getElem_cons_succ, List.setIfInBounds_toArray, List.set_cons_zero, List.set_cons_succ])
        refine wpAnyX_pure (i := 6) (v := ?_) rfl (by kernel_rfl) (by kernel_rfl) (by kernel_rfl) (fun _ _ _ h => h) (Or.inl ⟨by rfl, ?_⟩) ?_
        rotate_left
        · (intro W _; go_simp; try with_reducible rfl)
        (try simp only [Act.put, List.getElem_toArray, List.getElem_cons_zero, List.getElem_cons_succ, List.setIfInBounds_toArray, List.set_cons_zero, List.set_cons_succ])
        refine wpAnyX_pure (i := 7) (v := ?_) rfl (by kernel_rfl) (by kernel_rfl) (by kernel_rfl) (fun _ _ _ h => h) (Or.inl ⟨by rfl, ?_⟩) ?_
        rotate_left
        · (intro W _; go_simp; try with_reducible rfl)
        (try simp only [Act.put, List.getElem_toArray, List.getElem_cons_zero, List.getElem_cons_succ, List.setIfInBounds_toArray, List.set_cons_zero, List.set_cons_succ])
        refine wpAnyX_pure (i := 8) (v := ?_) rfl (by kernel_rfl) (by kernel_rfl) (by kernel_rfl) (fun _ _ _ h => h) (Or.inl ⟨by rfl, ?_⟩) ?_
        rotate_left
        · (intro W _; go_simp; try with_reducible rfl)
        (try simp only [Act.put, List.getElem_toArray, List.getElem_cons_zero, List.getElem_cons_succ, List.setIfInBounds_toArray, List.set_cons_zero, List.set_cons_succ])
        refine wpAnyX_pure (i := 9) (v := ?_) rfl (by kernel_rfl) (by kernel_rfl) (by kernel_rfl) (fun _ _ _ h => h) (Or.inl ⟨by rfl, ?_⟩) ?_
        rotate_left
        · (intro W _; go_simp; try with_reducible rfl)
        (try simp only [Act.put, List.getElem_toArray, List.getElem_cons_zero, List.getElem_cons_succ, List.setIfInBounds_toArray, List.set_cons_zero, List.set_cons_succ])
        refine wpAnyX_pure (i := 10) (v := ?_) rfl (by kernel_rfl) (by kernel_rfl) (by kernel_rfl) (fun _ _ _ h => h) (Or.inl ⟨by rfl, ?_⟩) ?_
        rotate_left
        · (intro W _; go_simp; try with_reducible rfl)
        (try simp only [Act.put, List.getElem_toArray, List.getElem_cons_zero, List.getElem_cons_succ, List.setIfInBounds_toArray, List.set_cons_zero, List.set_cons_succ])
        refine wpAnyX_done (by kernel_rfl) ?_ _
        go_upto_region 14 with fail
        have hb6 : Below x6.heap.size x6 x6.drew := below_drewN (Below.refl _ _) 1
        have hbf : Below w5.heap.size w5 x6.drew := below_drewN hbf 1
        refine wp_region_heldX (X := fun k => ([] : List Nat).contains k) (S := fun W => Bx W b7 #[.int .i64 (i : Int), .slice (some ⟨g, 0, none⟩) tn N] 24 ∧ Bx W w.heap.size #[.int .i64 (i : Int), .int .i64 (st : Int), .slice A m c, .slice B m d] 56 ∧ W.cell? ⟨b, off + s, none⟩ = some (.slice Us un uc)) (by kernel_rfl) ?_
        generalize x6.drew = wkd at hbf hb6 ⊢
        refine wpAnyX_takeL (L := []) (i := 0) (v := .agg (#[.int .i64 (i : Int), .int .i64 (st : Int), .slice A m c, .slice B m d])) rfl (by kernel_rfl) (by kernel_rfl) (by kernel_rfl) (by kernel_rfl) (fun _ _ _ h => h) (Or.inl ⟨by rfl, fun W hSW => run_load_bx 56 _ rfl (w.heap.size) rfl 56 (#[.int .i64 (i : Int), .int .i64 (st : Int), .slice A m c, .slice B m d]) (0, 0) _ (hSW.2.1) Try.underlying56 rfl (by kernel_rfl)⟩) (HS.out _ hbf) ?_
        (try simp only [Act.put, List.getElem_toArray, List.getElem_cons_zero, List.getElem_cons_succ, List.setIfInBounds_toArray, List.set_cons_zero, List.set_cons_succ])
        refine wpAnyX_pure (i := 1) (v := ?_) rfl (by kernel_rfl) (by kernel_rfl) (by kernel_rfl) (fun _ _ _ h => h) (Or.inl ⟨by rfl, ?_⟩) ?_
        rotate_left
        · (intro W _; go_simp; try with_reducible rfl)
        (try simp only [Act.put, List.getElem_toArray, List.getElem_cons_zero, List.getElem_cons_succ, List.setIfInBounds_toArray, List.set_cons_zero, List.set_cons_succ])
        refine wpAnyX_pure (i := 2) (v := ?_) rfl (by kernel_rfl) (by kernel_rfl) (by kernel_rfl) (fun _ _ _ h => h) (Or.inl ⟨by rfl, ?_⟩) ?_
        rotate_left
        · (intro W _; go_simp; try with_reducible rfl)
        (try simp only [Act.put, List.getElem_toArray, List.getElem_cons_zero, List.getElem_cons_succ, List.setIfInBounds_toArray, List.set_cons_zero, List.set_cons_succ])
        refine wpAnyX_pure (i := 3) (v := ?_) rfl (by kernel_rfl) (by kernel_rfl) (by kernel_rfl) (fun _ _ _ h => h) (Or.inl ⟨by rfl, ?_⟩) ?_
        rotate_left
        · (intro W _; go_simp; try with_reducible rfl)
        (try simp only [Act.put, List.getElem_toArray, List.getElem_cons_zero, List.getElem_cons_succ, List.setIfInBounds_toArray, List.set_cons_zero, List.set_cons_succ])
        refine wpAnyX_takeL (L := []) (i := 4) (v := ?_) rfl (by kernel_rfl) (by kernel_rfl) (by kernel_rfl) (by kernel_rfl) (fun _ _ _ h => h) (Or.inl ⟨by rfl, ?_⟩) (HS.out _ hbf) ?_
        rotate_left
        · (intro W hSW; (try dsimp only at hSW); obtain ⟨z0, z1, z2⟩ := hSW; go_simp; try with_reducible rfl)
        (try simp only [Act.put, List.getElem_toArray, List.getElem_cons_zero, List.getElem_cons_succ, List.setIfInBounds_toArray, List.set_cons_zero, List.set_cons_succ])
        refine wpAnyX_one (i := 5) rfl (by kernel_rfl) (fun K hK => ?_)
        go_simp
        go_at_call 33
        refine (prun_ok16 (HX.out _ (bt HB5.out hbf)) (HO.out _ (bt HB5.out hbf)) HMK.out (HUI.out _ hbf) HCK.out).mono ?_
        rintro r x7 ⟨A7', c7', rfl, o7, a7⟩
        have i7 := o7.ints (by rw [runO_len, HUL.out]; omega)
        have hbf := bt hbf a7
        have hb6 := bt hb6 a7
        refine hK.out _ _ (fun _ _ => HS.out _ hbf) ?_
        (try simp only [Act.put, List.getElem_toArray, List.getElem_cons_zero, List.getElem_cons_succ, List.setIfInBounds_toArray, List.set_cons_zero, List.set_cons_succ])
        refine wpAnyX_pure (i := 6) (v := ?_) rfl (by kernel_rfl) (by kernel_rfl) (by kernel_rfl) (fun _ _ _ h => h) (Or.inl ⟨by rfl, ?_⟩) ?_
        rotate_left
        · (intro W _; go_simp; try with_reducible rfl)
        (try simp only [Act.put, List.getElem_toArray, List.getElem_cons_zero, List.getElem_cons_succ, List.setIfInBounds_toArray, List.set_cons_zero, List.set_cons_succ])
        refine wpAnyX_pure (i := 7) (v := ?_) rfl (by kernel_rfl) (by kernel_rfl) (by kernel_rfl) (fun _ _ _ h => h) (Or.inl ⟨by rfl, ?_⟩) ?_
        rotate_left
        · (intro W _; go_simp; try with_reducible rfl)
        (try simp only [Act.put, List.getElem_toArray, List.getElem_cons_zero, List.getElem_cons_succ, List.setIfInBounds_toArray, List.set_cons_zero, List.set_cons_succ])
        refine wpAnyX_pure (i := 8) (v := ?_) rfl (by kernel_rfl) (by kernel_rfl) (by kernel_rfl) (fun _ _ _ h => h) (Or.inl ⟨by rfl, ?_⟩) ?_
        rotate_left
        · (intro W _; go_simp; try with_reducible rfl)
        (try simp only [Act.put, List.getElem_toArray, List.getElem_cons_zero, List.getElem_cons_succ, List.setIfInBounds_toArray, List.set_cons_zero, List.set_cons_succ])
        refine wpAnyX_pure (i := 9) (v := ?_) rfl (by kernel_rfl) (by kernel_rfl) (by kernel_rfl) (fun _ _ _ h => h) (Or.inl ⟨by rfl, ?_⟩) ?_
        rotate_left
        · (intro W _; go_simp; try with_reducible rfl)
        (try simp only [Act.put, List.getElem_toArray, List.getElem_cons_zero, List.getElem_cons_succ, List.setIfInBounds_toArray, List.set_cons_zero, List.set_cons_succ])
        refine wpAnyX_pure (i := 10) (v := ?_) rfl (by kernel_rfl) (by kernel_rfl) (by kernel_rfl) (fun _ _ _ h => h) (Or.inl ⟨by rfl, ?_⟩) ?_
        rotate_left
        · (intro W _; go_simp; try with_reducible rfl)
        (try simp only [Act.put, List.getElem_toArray, List.getElem_cons_zero, List.getElem_cons_succ, List.setIfInBounds_toArray, List.set_cons_zero, List.set_cons_succ])
        refine wpAnyX_done (by kernel_rfl) ?_ _
        have HII := Lib.hid (rints A6' A7' un c6' un c7' _ _ true x7 (HJ6.out _ hb6) i7 (by simp))
        have HBn := Lib.hid hbf
        clear hbf hb6 o7 a7 i7
        go_wp2_with fail
        refine HII.out.mono ?_
        rintro r x8 ⟨rfl, q8, rfl⟩
        go_wp2_with fail
        go_roundw
        case rel => exact ⟨s + 1, rfl, by omega, Lib.hid (below_drewN HBn.out q8)⟩
        case measure => simp [intOf]; omega
      · have hsI : ¬ (s : Int) < (p : Int) := by omega
        go_wp2_with fail
        refine (awake16 _).mono ?_
        rintro r x9 ⟨rfl, a9⟩
        go_wp2
        go_ret
        exact ⟨rfl, bt HB0.out (bt HB5.out (bt HBR.out a9))⟩
  · have HI6 := Lib.hid (fun (W : World) (h : Below w6.heap.size w6 W) => i6.below h)
    have HRO := Lib.hid (prun_ok16 (HX.out _ HBC6.out) (HO.out _ HBC6.out) HMK.out (HV.out _ HBC6.out) (e := vc) (c := c) (d := d) hck)
    clear i6 hck HRU
    go_wp2_with fail
    refine HRO.out.mono ?_
    rintro r w7 ⟨A7, c7, rfl, o7, a7⟩
    have HII := Lib.hid (rints A6 A7 vn c6 vn c7 _ _ true w7 (HI6.out _ a7) (o7.ints (by rw [runO_len, HLV.out]; exact (HV.out _ HBC6.out).2.1)) (by simp))
    have HB67 := Lib.hid (HB6.out.trans (a7.mono HB6.out.size))
    clear o7 a7 l0 l1 l2 l3
    go_wp2_with fail
    refine HII.out.mono ?_
    rintro r w8 ⟨rfl, q8, rfl⟩
    have HBR := Lib.hid (below_drewN HB67.out q8)
    generalize w7.drewN q8 = w9 at HBR ⊢
    go_wp2_with fail
    go_loopw [13] (fun v13 wr => ∃ s : Nat, v13 = .int .i64 s ∧ s ≤ p ∧ Hid (Below w5.heap.size w5 wr)) (fun v13 _ => p - (intOf v13).toNat)
    case atStart => exact ⟨0, rfl, Nat.zero_le _, HBR⟩
    case round =>
      clear HBR
      obtain ⟨s, rfl, hsp, HBR⟩ := hrel
      by_cases hlt : s < p
      · obtain ⟨b, off, Us, un, uc, eC, hgb, i1, i2⟩ := (HW.out _ HB5.out).at_ hlt
        subst eC
        obtain ⟨xu, hxu⟩ : ∃ xu, xu = ws.getD s [] := ⟨_, rfl⟩
        rw [← hxu] at i2
        have hmem : xu ∈ ws := by rw [hxu, List.getD_eq_getElem?_getD, List.getElem?_eq_getElem (by rw [HLW.out]; exact hlt)]; exact List.getElem_mem _
        have HKU := Lib.hid (HKN.out xu hmem)
        have HUI := Lib.hid (fun (W : World) (h : Below w5.heap.size w5 W) => i2.below h)
        have HUL := Lib.hid i2.1
        have hunb : un ≤ 100 := by have := HP.out.2 xu hmem; rw [i2.1] at this; exact this
        have HS := Lib.hid (show ∀ W, Below w5.heap.size w5 W → Bx W b7 #[.int .i64 (i : Int), .slice (some ⟨g, 0, none⟩) tn N] 24 ∧ Bx W w.heap.size #[.int .i64 (i : Int), .int .i64 (st : Int), .slice A m c, .slice B m d] 56 ∧ W.cell? ⟨b, off + s, none⟩ = some (.slice Us un uc) from fun W h => ⟨HM5.out _ h, HM.out _ (bt HB5.out h), (h.cell (p := ⟨b, off + s, none⟩) hgb).trans i1⟩)
        have hsI : (s : Int) < (p : Int) := by omega
        have hs0 : (0 : Int) ≤ (s : Int) := by omega
        have ws1 : IntKind.i64.wrap ((s : Int) + 1) = ((s + 1 : Nat) : Int) := by rw [IntKind.wrap_i64]; omega
        clear i1 i2 hxu hmem hgb
        go_upto_region 13 with fail
        have hbf : Below w5.heap.size w5 wr.drew := below_drewN HBR.out 1
        refine wp_region_heldX (X := fun k => ([] : List Nat).contains k) (S := fun W => Bx W b7 #[.int .i64 (i : Int), .slice (some ⟨g, 0, none⟩) tn N] 24 ∧ Bx W w.heap.size #[.int .i64 (i : Int), .int .i64 (st : Int), .slice A m c, .slice B m d] 56 ∧ W.cell? ⟨b, off + s, none⟩ = some (.slice Us un uc)) (by kernel_rfl) ?_
        generalize wr.drew = wkd at hbf ⊢
        refine wpAnyX_takeL (L := []) (i := 0) (v := .agg (#[.int .i64 (i : Int), .slice (some ⟨g, 0, none⟩) tn N])) rfl (by kernel_rfl) (by kernel_rfl) (by kernel_rfl) (by kernel_rfl) (fun _ _ _ h => h) (Or.inl ⟨by rfl, fun W hSW => run_load_bx 24 _ rfl (b7) rfl 24 (#[.int .i64 (i : Int), .slice (some ⟨g, 0, none⟩) tn N]) (0, 0) _ (hSW.1) Try.underlying24 rfl (by kernel_rfl)⟩) (HS.out _ hbf) ?_
        (try simp only [Act.put, List.getElem_toArray, List.getElem_cons_zero, List.getElem_cons_succ, List.setIfInBounds_toArray, List.set_cons_zero, List.set_cons_succ])
        refine wpAnyX_pure (i := 1) (v := ?_) rfl (by kernel_rfl) (by kernel_rfl) (by kernel_rfl) (fun _ _ _ h => h) (Or.inl ⟨by rfl, ?_⟩) ?_
        rotate_left
        · (intro W _; go_simp; try with_reducible rfl)
        (try simp only [Act.put, List.getElem_toArray, List.getElem_cons_zero, List.getElem_cons_succ, List.setIfInBounds_toArray, List.set_cons_zero, List.set_cons_succ])
        refine wpAnyX_pure (i := 2) (v := ?_) rfl (by kernel_rfl) (by kernel_rfl) (by kernel_rfl) (fun _ _ _ h => h) (Or.inl ⟨by rfl, ?_⟩) ?_
        rotate_left
        · (intro W _; go_simp; try with_reducible rfl)
        (try simp only [Act.put, List.getElem_toArray, List.getElem_cons_zero, List.getElem_cons_succ, List.setIfInBounds_toArray, List.set_cons_zero, List.set_cons_succ])
        refine wpAnyX_pure (i := 3) (v := ?_) rfl (by kernel_rfl) (by kernel_rfl) (by kernel_rfl) (fun _ _ _ h => h) (Or.inl ⟨by rfl, ?_⟩) ?_
        rotate_left
        · (intro W _; go_simp; try with_reducible rfl)
        (try simp only [Act.put, List.getElem_toArray, List.getElem_cons_zero, List.getElem_cons_succ, List.setIfInBounds_toArray, List.set_cons_zero, List.set_cons_succ])
        refine wpAnyX_takeL (L := []) (i := 4) (v := ?_) rfl (by kernel_rfl) (by kernel_rfl) (by kernel_rfl) (by kernel_rfl) (fun _ _ _ h => h) (Or.inl ⟨by rfl, ?_⟩) (HS.out _ hbf) ?_
        rotate_left
        · (intro W hSW; (try dsimp only at hSW); obtain ⟨z0, z1, z2⟩ := hSW; go_simp; try with_reducible rfl)
        (try simp only [Act.put, List.getElem_toArray, List.getElem_cons_zero, List.getElem_cons_succ, List.setIfInBounds_toArray, List.set_cons_zero, List.set_cons_succ])
        refine wpAnyX_one (i := 5) rfl (by kernel_rfl) (fun K hK => ?_)
        go_simp
        go_at_call 19
        refine (panswer16 (i : Int) (some ⟨g, 0, none⟩) Us tn N un uc ts xu _ (HT5.out _ hbf) htN (HUI.out _ hbf) HSS.out HFF.out).mono ?_
        rintro r x6 hans
        obtain ⟨a6, hor⟩ := ans_exact hans HOM.out HPP.out HI12.out HUL.out
        have hyes : ∃ A' c', r = .returned (.tuple #[.slice A' un c', .bool true]) ∧ Ints x6 A' un (runO nx ot st xu) ∧ chk xu i = 0 := by
          rcases hor with ⟨_, h⟩ | h
          · have := HKU.out; rw [HUL.out] at this; omega
          · exact h
        obtain ⟨A6', c6', rfl, i6, hck⟩ := hyes
        have HJ6 := Lib.hid (fun (W : World) (h : Below x6.heap.size x6 W) => i6.below h)
        have HCK := Lib.hid hck
        have hbf := bt hbf a6
        clear hans hor i6 hck a6
        refine hK.out _ _ (fun _ _ => HS.out _ hbf) ?_
        (try simp only [Act.put, List.getElem_toArray, List.getElem_cons_zero, List.getElem_cons_succ, List.setIfInBounds_toArray, List.set_cons_zero, List.set_cons_succ])
        refine wpAnyX_pure (i := 6) (v := ?_) rfl (by kernel_rfl) (by kernel_rfl) (by kernel_rfl) (fun _ _ _ h => h) (Or.inl ⟨by rfl, ?_⟩) ?_
        rotate_left
        · (intro W _; go_simp; try with_reducible rfl)
        (try simp only [Act.put, List.getElem_toArray, List.getElem_cons_zero, List.getElem_cons_succ, List.setIfInBounds_toArray, List.set_cons_zero, List.set_cons_succ])
        refine wpAnyX_pure (i := 7) (v := ?_) rfl (by kernel_rfl) (by kernel_rfl) (by kernel_rfl) (fun _ _ _ h => h) (Or.inl ⟨by rfl, ?_⟩) ?_
        rotate_left
        · (intro W _; go_simp; try with_reducible rfl)
        (try simp only [Act.put, List.getElem_toArray, List.getElem_cons_zero, List.getElem_cons_succ, List.setIfInBounds_toArray, List.set_cons_zero, List.set_cons_succ])
        refine wpAnyX_pure (i := 8) (v := ?_) rfl (by kernel_rfl) (by kernel_rfl) (by kernel_rfl) (fun _ _ _ h => h) (Or.inl ⟨by rfl, ?_⟩) ?_
        rotate_left
        · (intro W _; go_simp; try with_reducible rfl)
        (try simp only [Act.put, List.getElem_toArray, List.getElem_cons_zero, List.getElem_cons_succ, List.setIfInBounds_toArray, List.set_cons_zero, List.set_cons_succ])
        refine wpAnyX_pure (i := 9) (v := ?_) rfl (by kernel_rfl) (by kernel_rfl) (by kernel_rfl) (fun _ _ _ h => h) (Or.inl ⟨by rfl, ?_⟩) ?_
        rotate_left
        · (intro W _; go_simp; try with_reducible rfl)
        (try simp only [Act.put, List.getElem_toArray, List.getElem_cons_zero, List.getElem_cons_succ, List.setIfInBounds_toArray, List.set_cons_zero, List.set_cons_succ])
        refine wpAnyX_pure (i := 10) (v := ?_) rfl (by kernel_rfl) (by kernel_rfl) (by kernel_rfl) (fun _ _ _ h => h) (Or.inl ⟨by rfl, ?_⟩) ?_
        rotate_left
        · (intro W _; go_simp; try with_reducible rfl)
        (try simp only [Act.put, List.getElem_toArray, List.getElem_cons_zero, List.getElem_cons_succ, List.setIfInBounds_toArray, List.set_cons_zero, List.set_cons_succ])
        refine wpAnyX_done (by kernel_rfl) ?_ _
        go_upto_region 14 with fail
        have hb6 : Below x6.heap.size x6 x6.drew := below_drewN (Below.refl _ _) 1
        have hbf : Below w5.heap.size w5 x6.drew := below_drewN hbf 1
        refine wp_region_heldX (X := fun k => ([] : List Nat).contains k) (S := fun W => Bx W b7 #[.int .i64 (i : Int), .slice (some ⟨g, 0, none⟩) tn N] 24 ∧ Bx W w.heap.size #[.int .i64 (i : Int), .int .i64 (st : Int), .slice A m c, .slice B m d] 56 ∧ W.cell? ⟨b, off + s, none⟩ = some (.slice Us un uc)) (by kernel_rfl) ?_
        generalize x6.drew = wkd at hbf hb6 ⊢
        refine wpAnyX_takeL (L := []) (i := 0) (v := .agg (#[.int .i64 (i : Int), .int .i64 (st : Int), .slice A m c, .slice B m d])) rfl (by kernel_rfl) (by kernel_rfl) (by kernel_rfl) (by kernel_rfl) (fun _ _ _ h => h) (Or.inl ⟨by rfl, fun W hSW => run_load_bx 56 _ rfl (w.heap.size) rfl 56 (#[.int .i64 (i : Int), .int .i64 (st : Int), .slice A m c, .slice B m d]) (0, 0) _ (hSW.2.1) Try.underlying56 rfl (by kernel_rfl)⟩) (HS.out _ hbf) ?_
        (try simp only [Act.put, List.getElem_toArray, List.getElem_cons_zero, List.getElem_cons_succ, List.setIfInBounds_toArray, List.set_cons_zero, List.set_cons_succ])
        refine wpAnyX_pure (i := 1) (v := ?_) rfl (by kernel_rfl) (by kernel_rfl) (by kernel_rfl) (fun _ _ _ h => h) (Or.inl ⟨by rfl, ?_⟩) ?_
        rotate_left
        · (intro W _; go_simp; try with_reducible rfl)
        (try simp only [Act.put, List.getElem_toArray, List.getElem_cons_zero, List.getElem_cons_succ, List.setIfInBounds_toArray, List.set_cons_zero, List.set_cons_succ])
        refine wpAnyX_pure (i := 2) (v := ?_) rfl (by kernel_rfl) (by kernel_rfl) (by kernel_rfl) (fun _ _ _ h => h) (Or.inl ⟨by rfl, ?_⟩) ?_
        rotate_left
        · (intro W _; go_simp; try with_reducible rfl)
        (try simp only [Act.put, List.getElem_toArray, List.getElem_cons_zero, List.getElem_cons_succ, List.setIfInBounds_toArray, List.set_cons_zero, List.set_cons_succ])
        refine wpAnyX_pure (i := 3) (v := ?_) rfl (by kernel_rfl) (by kernel_rfl) (by kernel_rfl) (fun _ _ _ h => h) (Or.inl ⟨by rfl, ?_⟩) ?_
        rotate_left
        · (intro W _; go_simp; try with_reducible rfl)
        (try simp only [Act.put, List.getElem_toArray, List.getElem_cons_zero, List.getElem_cons_succ, List.setIfInBounds_toArray, List.set_cons_zero, List.set_cons_succ])
        refine wpAnyX_takeL (L := []) (i := 4) (v := ?_) rfl (by kernel_rfl) (by kernel_rfl) (by kernel_rfl) (by kernel_rfl) (fun _ _ _ h => h) (Or.inl ⟨by rfl, ?_⟩) (HS.out _ hbf) ?_
        rotate_left
        · (intro W hSW; (try dsimp only at hSW); obtain ⟨z0, z1, z2⟩ := hSW; go_simp; try with_reducible rfl)
        (try simp only [Act.put, List.getElem_toArray, List.getElem_cons_zero, List.getElem_cons_succ, List.setIfInBounds_toArray, List.set_cons_zero, List.set_cons_succ])
        refine wpAnyX_one (i := 5) rfl (by kernel_rfl) (fun K hK => ?_)
        go_simp
        go_at_call 33
        refine (prun_ok16 (HX.out _ (bt HB5.out hbf)) (HO.out _ (bt HB5.out hbf)) HMK.out (HUI.out _ hbf) HCK.out).mono ?_
        rintro r x7 ⟨A7', c7', rfl, o7, a7⟩
        have i7 := o7.ints (by rw [runO_len, HUL.out]; omega)
        have hbf := bt hbf a7
        have hb6 := bt hb6 a7
        refine hK.out _ _ (fun _ _ => HS.out _ hbf) ?_
        (try simp only [Act.put, List.getElem_toArray, List.getElem_cons_zero, List.getElem_cons_succ, List.setIfInBounds_toArray, List.set_cons_zero, List.set_cons_succ])
        refine wpAnyX_pure (i := 6) (v := ?_) rfl (by kernel_rfl) (by kernel_rfl) (by kernel_rfl) (fun _ _ _ h => h) (Or.inl ⟨by rfl, ?_⟩) ?_
        rotate_left
        · (intro W _; go_simp; try with_reducible rfl)
        (try simp only [Act.put, List.getElem_toArray, List.getElem_cons_zero, List.getElem_cons_succ, List.setIfInBounds_toArray, List.set_cons_zero, List.set_cons_succ])
        refine wpAnyX_pure (i := 7) (v := ?_) rfl (by kernel_rfl) (by kernel_rfl) (by kernel_rfl) (fun _ _ _ h => h) (Or.inl ⟨by rfl, ?_⟩) ?_
        rotate_left
        · (intro W _; go_simp; try with_reducible rfl)
        (try simp only [Act.put, List.getElem_toArray, List.getElem_cons_zero, List.getElem_cons_succ, List.setIfInBounds_toArray, List.set_cons_zero, List.set_cons_succ])
        refine wpAnyX_pure (i := 8) (v := ?_) rfl (by kernel_rfl) (by kernel_rfl) (by kernel_rfl) (fun _ _ _ h => h) (Or.inl ⟨by rfl, ?_⟩) ?_
        rotate_left
        · (intro W _; go_simp; try with_reducible rfl)
        (try simp only [Act.put, List.getElem_toArray, List.getElem_cons_zero, List.getElem_cons_succ, List.setIfInBounds_toArray, List.set_cons_zero, List.set_cons_succ])
        refine wpAnyX_pure (i := 9) (v := ?_) rfl (by kernel_rfl) (by kernel_rfl) (by kernel_rfl) (fun _ _ _ h => h) (Or.inl ⟨by rfl, ?_⟩) ?_
        rotate_left
        · (intro W _; go_simp; try with_reducible rfl)
        (try simp only [Act.put, List.getElem_toArray, List.getElem_cons_zero, List.getElem_cons_succ, List.setIfInBounds_toArray, List.set_cons_zero, List.set_cons_succ])
        refine wpAnyX_pure (i := 10) (v := ?_) rfl (by kernel_rfl) (by kernel_rfl) (by kernel_rfl) (fun _ _ _ h => h) (Or.inl ⟨by rfl, ?_⟩) ?_
        rotate_left
        · (intro W _; go_simp; try with_reducible rfl)
        (try simp only [Act.put, List.getElem_toArray, List.getElem_cons_zero, List.getElem_cons_succ, List.setIfInBounds_toArray, List.set_cons_zero, List.set_cons_succ])
        refine wpAnyX_done (by kernel_rfl) ?_ _
        have HII := Lib.hid (rints A6' A7' un c6' un c7' _ _ true x7 (HJ6.out _ hb6) i7 (by simp))
        have HBn := Lib.hid hbf
        clear hbf hb6 o7 a7 i7
        go_wp2_with fail
        refine HII.out.mono ?_
        rintro r x8 ⟨rfl, q8, rfl⟩
        go_wp2_with fail
        go_roundw
        case rel => exact ⟨s + 1, rfl, by omega, Lib.hid (below_drewN HBn.out q8)⟩
        case measure => simp [intOf]; omega
      · have hsI : ¬ (s : Int) < (p : Int) := by omega
        go_wp2_with fail
        refine (awake16 _).mono ?_
        rintro r x9 ⟨rfl, a9⟩
        go_wp2
        go_ret
        exact ⟨rfl, bt HB0.out (bt HB5.out (bt HBR.out a9))⟩
end Go.Proofs.Ytkkmcgapbcikiaa
end

section
/- The law ObserveMachines: the walk. -/
namespace Go.Proofs.Ytkkmcgapbcikiaa
open Go.RowKit

/-- Both sides of Of, from one call's arguments. -/
theorem ofs16 (i st : Int) (A B C : Option Addr) (n c m d p e : Nat) (nx ot ws : List (List Int)) (w : World) (hx : Lists w A n nx) (ho : Lists w B m ot) (hW : Lists w C p ws) (hp : p ≤ 60) (hwl : ∀ x, x ∈ ws → x.length ≤ 100) :
    ∃ (us : TSr) (e0 : Int), us.length ≤ 10000 ∧ (∀ W, Below w.heap.size w W → Calls Try.prog 31 #[.agg #[.int .i64 i, .int .i64 st, .slice A n c, .slice B m d], .slice C p e] W fun r w' => OfE i us e0 W r w') ∧
      (∀ W, Below w.heap.size w W → Calls Try.prog 32 #[.agg #[.int .i64 i, .int .i64 st, .slice A n c, .slice B m d], .slice C p e] W fun r w' => ROfE i us e0 W r w') := by
  by_cases hv : vld i st nx ot = 0
  case neg => exact ⟨[], _, by simp, fun W h => pof_bad i st A B C n c m d p e nx ot _ W (hx.below h) (ho.below h) rfl hv, fun W h => rof_bad i st A B C n c m d p e nx ot _ W (hx.below h) (ho.below h) rfl hv⟩
  obtain ⟨i, st, n', rfl, rfl, hMok⟩ := vld_zero hv
  obtain rfl : n' = n := by have := hMok.nxl; rw [hx.1] at this; exact this.symm
  obtain rfl : m = n' := by have := hMok.otl; rw [ho.1] at this; exact this
  have hl := trs_len (i := i) (st := st) (nx := nx) (ot := ot) ws []
  rw [hW.1] at hl
  exact ⟨(trs i st nx ot ws []).1, (trs i st nx ot ws []).2, by simp at hl; omega,
    fun W h => pof_ok i st m A B C c d p e nx ot ws W (hx.below h) (ho.below h) hMok (hW.below h) (by omega) (fun x hx => by have := hwl x hx; omega),
    fun W h => rof_ok i st m A B C c d p e nx ot ws W (hx.below h) (ho.below h) hMok (hW.below h) (by omega) (fun x hx => by have := hwl x hx; omega)⟩

set_option linter.unusedSimpArgs false in
set_option linter.unusedVariables false in
set_option maxHeartbeats 16000000 in
set_option maxRecDepth 100000 in
theorem machines16_walk (i st : Int) (A B C : Option Addr) (n c m d p e : Nat) (nx ot ws : List (List Int)) (w : World) (hx : Lists w A n nx) (ho : Lists w B m ot) (hW : Lists w C p ws) :
    Calls Try.prog 7 #[.agg #[.int .i64 i, .int .i64 st, .slice A n c, .slice B m d], .slice C p e] w fun r w' => r = .returned (.bool true) ∧ Below w.heap.size w w' := by
  obtain ⟨w0, hw0⟩ : ∃ w0, w0 = w.alloc (.cells #[.int .i64 i, .int .i64 st, .slice A n c, .slice B m d] 56) := ⟨_, rfl⟩
  have hb0 : Below w.heap.size w w0 := by rw [hw0]; exact alloc_below _ _
  have m0 : Bx w0 w.heap.size #[.int .i64 i, .int .i64 st, .slice A n c, .slice B m d] 56 := by rw [hw0]; exact bx_new _ _ _
  have HX := Lib.hid (hx.below hb0)
  have HO := Lib.hid (ho.below hb0)
  have HW := Lib.hid (hW.below hb0)
  have HM := Lib.hid (fun (W : World) (h : Below w0.heap.size w0 W) => m0.on h)
  have HB0 := Lib.hid hb0
  have HW0 := Lib.hid hw0
  have hbc := Below.refl w0.heap.size w0
  have l0 := (HM.out _ hbc).cell 0
  have l1 := (HM.out _ hbc).cell 1
  have l2 := (HM.out _ hbc).cell 2
  have l3 := (HM.out _ hbc).cell 3
  simp at l0 l1 l2 l3
  rw [HW0.out] at l0 l1 l2 l3
  clear hw0 hb0 m0 hx ho hW
  go_enter Try.func7, Try.ntmps7
  go_wp2_with fail
  rw [← HW0.out]
  refine (pmany16 i st A B C n c m d p e ws w0 HW.out).mono ?_
  rintro r w1 ⟨b1, rfl, hP, a1⟩
  have hbc := bt hbc a1
  clear a1 l0 l1 l2 l3
  cases b1
  case true =>
    clear hP
    go_wp2_with fail
    refine (awake16 _).mono ?_
    rintro r w9 ⟨rfl, a9⟩
    go_wp2
    go_ret
    exact ⟨rfl, bt HB0.out (bt hbc a9)⟩
  have HP := Lib.hid (hP rfl)
  clear hP
  obtain ⟨us, e0, hul, hof, hrf⟩ := ofs16 i st A B C n c m d p e nx ot ws w0 HX.out HO.out HW.out HP.out.1 HP.out.2
  have HUL := Lib.hid hul
  have HOF := Lib.hid (hof _ hbc)
  have HRF := Lib.hid (fun W (h : Below w1.heap.size w1 W) => hrf _ (bt hbc h))
  clear hul hof hrf
  have l0 := (HM.out _ hbc).cell 0
  have l1 := (HM.out _ hbc).cell 1
  have l2 := (HM.out _ hbc).cell 2
  have l3 := (HM.out _ hbc).cell 3
  simp at l0 l1 l2 l3
  go_wp2_with fail
  refine HOF.out.mono ?_
  rintro r w4 h4
  obtain ⟨e4, u4, hu4, h4⟩ := h4.res
  generalize hI4 : (if e4 = 0 then i else 0) = I4 at h4
  obtain ⟨A4, n4, c4, rfl, t4, a4⟩ := h4
  have hbc := bt hbc a4
  have HU4 := Lib.hid hu4
  have HI4 := Lib.hid hI4
  clear hI4
  obtain ⟨w5, hw5⟩ : ∃ w5, w5 = w4.alloc (.cells #[.int .i64 I4, .slice A4 n4 c4] 24) := ⟨_, rfl⟩
  obtain ⟨g5, hg5⟩ : ∃ g5, g5 = w4.heap.size := ⟨_, rfl⟩
  have hal : Below w4.heap.size w4 w5 := by rw [hw5]; exact alloc_below _ _
  have m5 : Bx w5 g5 #[.int .i64 I4, .slice A4 n4 c4] 24 := by rw [hw5, hg5]; exact bx_new _ _ _
  have hbc5 := bt hbc hal
  have HM5 := Lib.hid (fun (W : World) (h : Below w5.heap.size w5 W) => m5.on h)
  have HT4 := Lib.hid (fun (W : World) (h : Below w5.heap.size w5 W) => (t4.below hal).below h)
  have HB15 := Lib.hid (bt a4 hal)
  have HW5 := Lib.hid hw5
  have HG5 := Lib.hid hg5
  clear a4 t4 hu4 l0 l1 l2 l3 hw5 hg5 hal m5 hbc
  have hbc := hbc5
  clear hbc5
  have l0 := (HM.out _ hbc).cell 0
  have l1 := (HM.out _ hbc).cell 1
  have l2 := (HM.out _ hbc).cell 2
  have l3 := (HM.out _ hbc).cell 3
  simp at l0 l1 l2 l3
  rw [HW5.out] at l0 l1 l2 l3
  go_wp2_with fail
  rw [← HW5.out, ← HG5.out]
  refine (HRF.out _ HB15.out).mono ?_
  rintro r w6 h6
  obtain ⟨e6, u6, hu6, h6⟩ := h6.res
  obtain ⟨rfl, rfl⟩ := of_same HU4.out hu6 HUL.out
  rw [HI4.out] at h6
  obtain ⟨A6, n6, c6, rfl, t6, a6⟩ := h6
  have hbc := bt hbc a6
  obtain ⟨w7, hw7⟩ : ∃ w7, w7 = w6.alloc (.cells #[.int .i64 I4, .slice A6 n6 c6] 24) := ⟨_, rfl⟩
  obtain ⟨g7, hg7⟩ : ∃ g7, g7 = w6.heap.size := ⟨_, rfl⟩
  have hal : Below w6.heap.size w6 w7 := by rw [hw7]; exact alloc_below _ _
  have m7 : Bx w7 g7 #[.int .i64 I4, .slice A6 n6 c6] 24 := by rw [hw7, hg7]; exact bx_new _ _ _
  have h57 := bt a6 hal
  have HSM := Lib.hid (rsame_eq16 I4 A4 A6 n4 c4 n6 c6 u4 w7 (HT4.out _ h57) (t6.below hal))
  have HBC := Lib.hid (bt hbc hal)
  have HW7 := Lib.hid hw7
  have HG7 := Lib.hid hg7
  have p0 := (HM5.out _ h57).cell 0
  have p1 := (HM5.out _ h57).cell 1
  have r0 := m7.cell 0
  have r1 := m7.cell 1
  simp at p0 p1 r0 r1
  rw [HW7.out] at p0 p1 r0 r1
  rw [HG7.out] at r0 r1
  clear a6 t6 hu6 l0 l1 l2 l3 hw7 hg7 hal m7 hbc h57
  go_wp2_with fail
  rw [← HW7.out, ← HG7.out]
  refine HSM.out.mono ?_
  rintro r w8 ⟨rfl, a8⟩
  have hbc := bt HBC.out a8
  clear a8 p0 p1 r0 r1
  go_wp2_with fail
  refine (awake16 _).mono ?_
  rintro r w9 ⟨rfl, a9⟩
  go_wp2
  go_ret
  exact ⟨rfl, bt HB0.out (bt hbc a9)⟩
end Go.Proofs.Ytkkmcgapbcikiaa
end
