/- Lemmas of the proofs of this seat, of the parts L13e. Conditions: none. -/
import Derived.Test.YtogcecfeofbbnaaHh
section
/- The law HomingResolves: the walk. -/
namespace Go.Proofs.Ytogcecfeofbbnaa
open Go.RowKit

/-- Are the states known after a word, in front of a state? -/
def kn13 (n : Nat) (nx ot : List (List Int)) (u : List Int) (q : Nat) : Bool := decide (∀ s, s < q → (cur n nx ot u (runO nx ot s u)).length = 1)
theorem kn13_next (n : Nat) (nx ot : List (List Int)) (u : List Int) (q : Nat) : kn13 n nx ot u (q + 1) = (kn13 n nx ot u q && decide ((cur n nx ot u (runO nx ot q u)).length = 1)) := by
  unfold kn13
  rw [Bool.eq_iff_iff]
  simp only [decide_eq_true_eq, Bool.and_eq_true]
  refine ⟨fun h => ⟨fun s hs => h s (by omega), h q (by omega)⟩, fun h s hs => ?_⟩
  by_cases e : s = q
  · subst e; exact h.2
  · exact h.1 s (by omega)
section
variable {i st n : Nat} {nx ot : List (List Int)}
theorem kn13_all (hM : Mok i st n nx ot) {u : List Int} (hW : Wd i u) : kn13 n nx ot u n = decide (opnL n nx ot u n = []) := by
  unfold kn13
  rw [decide_eq_decide, opnL_none]
  refine ⟨fun h s hs => by rw [h s hs]; omega, fun h s hs => ?_⟩
  rw [cur_known hM hW hs (h s hs)]
  rfl
theorem fin13 (hM : Mok i st n nx ot) {u : List Int} (hc : chk u i = 0) {s : Nat} (hs : s < n) :
    frm i st nx ot s u = (runO nx ot s u, (runS nx s u : Int), 0) ∧ posE i st nx ot u (runO nx ot s u) = 0 ∧ finB (posL i st nx ot u (runO nx ot s u)) = decide ((cur n nx ot u (runO nx ot s u)).length = 1) ∧
      ((cur n nx ot u (runO nx ot s u)).length = 1 → finS (posL i st nx ot u (runO nx ot s u)) = runS nx s u) := by
  have h0 : hck i st nx ot u = 0 := by unfold hck; rw [if_pos hM.vld, hc]
  have hW : Wd i u := Syms.mem (chk_zero hc).2.2.2
  have hl : u.length = (runO nx ot s u).length := (runO_len _ _ _ _).symm
  have hp : posL i st nx ot u (runO nx ot s u) = cur n nx ot u (runO nx ot s u) := by unfold posL; rw [if_pos ⟨h0, hl⟩, hM.nxl]
  refine ⟨frm_ok hM.vld (by rw [hM.nxl]; exact hs) hc, by unfold posE; rw [if_pos h0, if_pos hl], by rw [hp]; rfl, fun h => ?_⟩
  rw [hp, cur_known hM hW hs (by omega)]
  rfl
end

set_option linter.unusedSimpArgs false in
set_option linter.unusedVariables false in
set_option maxHeartbeats 8000000 in
set_option maxRecDepth 100000 in
theorem resolves13_walk (i1 st1 : Int) (A B : Option Addr) (n c m d : Nat) (nx ot : List (List Int)) (U : Option Addr) (k cu : Nat) (u : List Int) (w : World) (hx1 : Lists w A n nx) (ho1 : Lists w B m ot) (hU : Ints w U k u) :
    Calls Try.prog 7 #[.agg #[.int .i64 i1, .int .i64 st1, .slice A n c, .slice B m d], .slice U k cu] w fun e w' => e = .returned (.bool true) ∧ Below w.heap.size w w' := by
  obtain ⟨w0, hw0⟩ : ∃ w0, w0 = w.alloc (.cells #[.int .i64 i1, .int .i64 st1, .slice A n c, .slice B m d] 24) := ⟨_, rfl⟩
  have hb0 : Below w.heap.size w w0 := by rw [hw0]; exact alloc_below _ _
  have hG : Mblk w0 w.heap.size (.int .i64 i1) (.int .i64 st1) (.slice A n c) (.slice B m d) := by rw [hw0]; exact mealy_box w _ _ _ _
  have HW0 := Lib.hid hw0
  have HB0 := Lib.hid hb0
  have HX := Lib.hid (fun (W : World) (h : Below w0.heap.size w0 W) => (hx1.below hb0).below h)
  have HO := Lib.hid (fun (W : World) (h : Below w0.heap.size w0 W) => (ho1.below hb0).below h)
  have HU := Lib.hid (fun (W : World) (h : Below w0.heap.size w0 W) => (hU.below hb0).below h)
  have hul := hU.1
  have hz0 : w0.heap.size = w.heap.size + 1 := by rw [hw0]; simp
  have HG := Lib.hid (fun (W : World) (h : Below w0.heap.size w0 W) => hG.kept h (show w.heap.size < w0.heap.size by omega))
  have hbc := Below.refl w0.heap.size w0
  obtain ⟨k0, k1, k2, k3, _⟩ := hG.cells
  rw [HW0.out] at k0 k1 k2 k3
  clear hw0 hb0 hG hz0 hx1 ho1 hU
  go_enter Try.func7, Try.ntmps7
  go_wp2_with fail
  rw [← HW0.out]
  refine (lsmall _ _ _ _ _ _ _ _ _ _ _ (HX.out _ hbc) (HO.out _ hbc)).mono ?_
  rintro e w1 ⟨b1, rfl, hs1, a1⟩
  have hbc := bt hbc a1
  clear k0 k1 k2 k3 a1
  clear hs1
  cases b1 with
  | false =>
    go_wp2_with fail
    refine (awake13 _).mono ?_
    rintro e w9 ⟨rfl, a9⟩
    go_wp2
    go_ret
    exact ⟨rfl, bt HB0.out (bt hbc a9)⟩
  | true =>
    obtain ⟨k0, k1, k2, k3, _⟩ := (HG.out _ hbc).cells
    go_wp2_with fail
    refine (rvalid _ _ _ _ _ _ _ _ _ _ _ (HX.out _ hbc) (HO.out _ hbc)).mono ?_
    rintro e w2 ⟨rfl, a2⟩
    have hbc := bt hbc a2
    clear k0 k1 k2 k3 a2
    by_cases hm : vld i1 st1 nx ot = 0
    · rw [hm]
      by_cases hk : (60 : Int) < (k : Int)
      · have d1 : decide ((60 : Int) < (k : Int)) = true := decide_eq_true hk
        clear hm hul
        go_wp2_with fail
        refine (awake13 _).mono ?_
        rintro e w9 ⟨rfl, a9⟩
        go_wp2
        go_ret
        exact ⟨rfl, bt HB0.out (bt hbc a9)⟩
      · have d1 : decide ((60 : Int) < (k : Int)) = false := decide_eq_false hk
        obtain ⟨i, st, n', rfl, rfl, hM⟩ := vld_zero hm
        have hnn : n = n' := by rw [← hM.nxl]; exact (HX.out _ hbc).1.symm
        subst hnn
        have HCK : Hid (hck i st nx ot u = chk u i) := Lib.hid (by unfold hck; rw [if_pos hm])
        have hn128 := hM.n2
        have hn1 := hM.n1
        have HMM := Lib.hid hM
        have HUL := Lib.hid hul
        clear hul hm hM
        obtain ⟨k0, k1, k2, k3, _⟩ := (HG.out _ hbc).cells
        go_wp2_with fail
        refine (presolves i st A B U n c m d k cu nx ot u w2 (HX.out _ hbc) (HO.out _ hbc) (HU.out _ hbc)).mono ?_
        rintro e w3 ⟨rfl, a3⟩
        rw [HCK.out]
        have hbc := bt hbc a3
        clear k0 k1 k2 k3 a3
        by_cases hc : chk u i = 0
        · rw [hc]
          have HC := Lib.hid hc
          have HRB : Hid (resB i st nx ot u = kn13 n nx ot u n) := Lib.hid (by
            rw [kn13_all HMM.out (Syms.mem (chk_zero hc).2.2.2)]
            unfold resB
            rw [HMM.out.nxl, HCK.out, hc]
            simp)
          rw [HRB.out]
          have HFI := Lib.hid (fun (s : Nat) (hs : s < n) => fin13 HMM.out hc hs)
          have HNX := Lib.hid (fun (q : Nat) => kn13_next n nx ot u q)
          have HOL := Lib.hid (fun (s : Nat) => (runO_len nx ot u s).trans HUL.out)
          have hk60 : k ≤ 60 := by omega
          clear hc hk
          obtain ⟨R, hR⟩ : ∃ R, R = kn13 n nx ot u n := ⟨_, rfl⟩
          rw [← hR]
          have HR := Lib.hid hR
          clear hR
          obtain ⟨k0, k1, k2, k3, _⟩ := (HG.out _ hbc).cells
          have HB3 := Lib.hid hbc
          go_wp2
          clear k0 k1 k2 k3
          go_loopw [58, 9] (fun kv bv wr => ∃ q : Nat, q ≤ n ∧ kv = .int .i64 q ∧ bv = .bool (kn13 n nx ot u q) ∧ Below w0.heap.size w0 wr) (fun kv _ _ => n - (intOf kv).toNat)
          case atStart => exact ⟨0, Nat.zero_le _, rfl, by unfold kn13; simp, HB3.out⟩
          case round =>
            obtain ⟨q, hq, rfl, rfl, hbr⟩ := hrel
            have HBR := Lib.hid hbr
            by_cases hlt : q < n
            · obtain ⟨f1, f2, f3, f4⟩ := HFI.out q hlt
              have hnx := HNX.out q
              have hol := HOL.out q
              generalize runO nx ot q u = O at f1 f2 f3 f4 hnx hol
              generalize runS nx q u = t at f1 f4
              generalize (cur n nx ot u O).length = L at f3 f4 hnx
              have F1 := Lib.hid f1
              have F2 := Lib.hid f2
              have F3 := Lib.hid f3
              have F4 := Lib.hid f4
              have FN := Lib.hid hnx
              have FL := Lib.hid hol
              generalize kn13 n nx ot u q = K at FN ⊢
              clear f1 f2 f3 f4 hnx hol
              obtain ⟨k0, k1, k2, k3, _⟩ := (HG.out _ hbr).cells
              go_wp2_with fail
              refine (pfrom i st A B U n c m d k cu nx ot q u wr (HX.out _ hbr) (HO.out _ hbr) (HU.out _ hbr)).mono ?_
              rintro e w5 ⟨A5, c5, rfl, o5, a5⟩
              rw [F1.out] at o5 ⊢
              have h5 : Ints w5 A5 O.length O := Owned.ints o5 (by have := FL.out; omega)
              have hb5 := bt hbr a5
              clear k0 k1 k2 k3 a5 o5 hbr
              obtain ⟨k0, k1, k2, k3, _⟩ := (HG.out _ hb5).cells
              go_wp2_with fail
              refine (pfinal i st A B U A5 n c m d k cu O.length c5 nx ot u O w5 (HX.out _ hb5) (HO.out _ hb5) (HU.out _ hb5) h5).mono ?_
              rintro e w6 ⟨rfl, a6⟩
              rw [F3.out, F2.out]
              have HB6 := Lib.hid (bt hb5 a6)
              clear k0 k1 k2 k3 a6 h5 hb5
              by_cases hL : L = 1
              · rw [F4.out hL, decide_eq_true hL]
                rw [decide_eq_true hL] at FN
                have hne : ((t : Int) != (t : Int)) = false := by simp
                cases K
                all_goals
                  go_wp2
                  go_roundw
                  case rel => exact ⟨q + 1, by omega, by go_num, by rw [FN.out]; rfl, HB6.out⟩
                  case measure => simp [intOf]; omega
              · rw [decide_eq_false hL]
                rw [decide_eq_false hL] at FN
                generalize finS (posL i st nx ot u O) = x
                cases K
                all_goals
                  go_wp2
                  go_roundw
                  case rel => exact ⟨q + 1, by omega, by go_num, by rw [FN.out]; rfl, HB6.out⟩
                  case measure => simp [intOf]; omega
            · obtain rfl : q = n := by omega
              rw [← HR.out]
              have hbc := HBR.out
              clear hbr
              cases R
              all_goals
                go_wp2_with fail
                refine (awake13 _).mono ?_
                rintro e w9 ⟨rfl, a9⟩
                go_wp2
                go_ret
                exact ⟨rfl, bt HB0.out (bt hbc a9)⟩
        · have hrb : resB i st nx ot u = false := decide_eq_false fun h => hc (by have := h.1; rw [HCK.out] at this; exact this)
          rw [hrb]
          have hne : (chk u i != 0) = true := by simpa using hc
          have HFW : Hid (frm i st nx ot st u = ([], 0, chk u i)) := Lib.hid (frm_word HMM.out.vld (by rw [HMM.out.nxl]; have := HMM.out.st; omega) hc)
          generalize chk u i = x at hne HFW ⊢
          clear hc hk hrb
          obtain ⟨k0, k1, k2, k3, _⟩ := (HG.out _ hbc).cells
          go_wp2_with fail
          refine (prunw i st A B U n c m d k cu nx ot u w3 (HX.out _ hbc) (HO.out _ hbc) (HU.out _ hbc)).mono ?_
          rintro e w5 ⟨A5, c5, rfl, o5, a5⟩
          rw [HFW.out] at o5 ⊢
          have hbc := bt hbc a5
          clear k0 k1 k2 k3 a5 o5
          go_wp2_with fail
          refine (awake13 _).mono ?_
          rintro e w9 ⟨rfl, a9⟩
          go_wp2
          go_ret
          exact ⟨rfl, bt HB0.out (bt hbc a9)⟩
    · have hne : (vld i1 st1 nx ot != 0) = true := by simpa using hm
      generalize vld i1 st1 nx ot = x at hne ⊢
      clear hm hul
      go_wp2_with fail
      refine (awake13 _).mono ?_
      rintro e w9 ⟨rfl, a9⟩
      go_wp2
      go_ret
      exact ⟨rfl, bt HB0.out (bt hbc a9)⟩
end Go.Proofs.Ytogcecfeofbbnaa
end
