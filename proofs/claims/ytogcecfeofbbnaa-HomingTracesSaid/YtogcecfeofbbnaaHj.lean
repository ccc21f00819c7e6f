/- Lemmas of the proofs of this seat, of the parts L13b. Conditions: none. -/
import Derived.Test.YtogcecfeofbbnaaHh
section
/- The law HomingTraces: the walk. -/
namespace Go.Proofs.Ytogcecfeofbbnaa
open Go.RowKit

theorem posL_le (i st : Int) (nx ot : List (List Int)) (u o : List Int) : (posL i st nx ot u o).length ≤ 128 := by
  unfold posL
  by_cases h : hck i st nx ot u = 0 ∧ u.length = o.length
  · rw [if_pos h]
    obtain ⟨hv, _⟩ := hck_zero h.1
    obtain ⟨i', st', n', _, _, hM⟩ := vld_zero hv
    have := cur_le nx.length nx ot u o
    have := hM.nxl
    have := hM.n2
    omega
  · rw [if_neg h]; simp

set_option linter.unusedSimpArgs false in
set_option linter.unusedVariables false in
set_option maxHeartbeats 8000000 in
set_option maxRecDepth 100000 in
theorem traces13_walk (i1 st1 : Int) (A B : Option Addr) (n c m d : Nat) (nx ot : List (List Int)) (U V : Option Addr) (k cu l cv : Nat) (u o : List Int) (w : World) (hx1 : Lists w A n nx) (ho1 : Lists w B m ot) (hU : Ints w U k u) (hV : Ints w V l o) :
    Calls Try.prog 4 #[.agg #[.int .i64 i1, .int .i64 st1, .slice A n c, .slice B m d], .slice U k cu, .slice V l cv] w fun e w' => e = .returned (.bool true) ∧ Below w.heap.size w w' := by
  obtain ⟨w0, hw0⟩ : ∃ w0, w0 = w.alloc (.cells #[.int .i64 i1, .int .i64 st1, .slice A n c, .slice B m d] 24) := ⟨_, rfl⟩
  have hb0 : Below w.heap.size w w0 := by rw [hw0]; exact alloc_below _ _
  have hG : Mblk w0 w.heap.size (.int .i64 i1) (.int .i64 st1) (.slice A n c) (.slice B m d) := by rw [hw0]; exact mealy_box w _ _ _ _
  have HW0 := Lib.hid hw0
  have HB0 := Lib.hid hb0
  have HX := Lib.hid (fun (W : World) (h : Below w0.heap.size w0 W) => (hx1.below hb0).below h)
  have HO := Lib.hid (fun (W : World) (h : Below w0.heap.size w0 W) => (ho1.below hb0).below h)
  have HU := Lib.hid (fun (W : World) (h : Below w0.heap.size w0 W) => (hU.below hb0).below h)
  have HV := Lib.hid (fun (W : World) (h : Below w0.heap.size w0 W) => (hV.below hb0).below h)
  have hz0 : w0.heap.size = w.heap.size + 1 := by rw [hw0]; simp
  have HG := Lib.hid (fun (W : World) (h : Below w0.heap.size w0 W) => hG.kept h (show w.heap.size < w0.heap.size by omega))
  have hbc := Below.refl w0.heap.size w0
  obtain ⟨k0, k1, k2, k3, _⟩ := hG.cells
  rw [HW0.out] at k0 k1 k2 k3
  clear hw0 hb0 hG hz0 hx1 ho1 hU hV
  go_enter Try.func4, Try.ntmps4
  go_wp2_with fail
  rw [← HW0.out]
  refine (lsmall _ _ _ _ _ _ _ _ _ _ _ (HX.out _ hbc) (HO.out _ hbc)).mono ?_
  rintro e w1 ⟨b1, rfl, hs1, a1⟩
  have hbc := bt hbc a1
  clear k0 k1 k2 k3 a1
  clear hs1
  cases b1 with
  | false =>
    go_wp2_with fail
    refine (awake13 _).mono ?_
    rintro e w9 ⟨rfl, a9⟩
    go_wp2
    go_ret
    exact ⟨rfl, bt HB0.out (bt hbc a9)⟩
  | true =>
    by_cases hk : (60 : Int) < (k : Int)
    · have d1 : decide ((60 : Int) < (k : Int)) = true := decide_eq_true hk
      go_wp2_with fail
      refine (awake13 _).mono ?_
      rintro e w9 ⟨rfl, a9⟩
      go_wp2
      go_ret
      exact ⟨rfl, bt HB0.out (bt hbc a9)⟩
    · have d1 : decide ((60 : Int) < (k : Int)) = false := decide_eq_false hk
      by_cases hl : (60 : Int) < (l : Int)
      · have d2 : decide ((60 : Int) < (l : Int)) = true := decide_eq_true hl
        go_wp2_with fail
        refine (awake13 _).mono ?_
        rintro e w9 ⟨rfl, a9⟩
        go_wp2
        go_ret
        exact ⟨rfl, bt HB0.out (bt hbc a9)⟩
      · have d2 : decide ((60 : Int) < (l : Int)) = false := decide_eq_false hl
        obtain ⟨rb, hrb⟩ : ∃ rb, rb = resB i1 st1 nx ot u := ⟨_, rfl⟩
        obtain ⟨re, hre⟩ : ∃ re, re = hck i1 st1 nx ot u := ⟨_, rfl⟩
        obtain ⟨pl, hpl⟩ : ∃ pl, pl = posL i1 st1 nx ot u o := ⟨_, rfl⟩
        obtain ⟨pe, hpe⟩ : ∃ pe, pe = posE i1 st1 nx ot u o := ⟨_, rfl⟩
        obtain ⟨fs, hfs⟩ : ∃ fs, fs = finS (posL i1 st1 nx ot u o) := ⟨_, rfl⟩
        obtain ⟨fb, hfb⟩ : ∃ fb, fb = finB (posL i1 st1 nx ot u o) := ⟨_, rfl⟩
        have hplb : pl.length ≤ 128 := by rw [hpl]; exact posL_le i1 st1 nx ot u o
        have HRB := Lib.hid hrb
        have HRE := Lib.hid hre
        have HPL := Lib.hid hpl
        have HPE := Lib.hid hpe
        have HFS := Lib.hid hfs
        have HFB := Lib.hid hfb
        clear hrb hre hpl hpe hfs hfb hk hl
        obtain ⟨k0, k1, k2, k3, _⟩ := (HG.out _ hbc).cells
        go_wp2_with fail
        refine (presolves _ _ _ _ _ _ _ _ _ _ _ _ _ _ _ (HX.out _ hbc) (HO.out _ hbc) (HU.out _ hbc)).mono ?_
        rintro e w2 ⟨rfl, a2⟩
        rw [← HRB.out, ← HRE.out]
        have hbc := bt hbc a2
        clear k0 k1 k2 k3 a2
        obtain ⟨k0, k1, k2, k3, _⟩ := (HG.out _ hbc).cells
        go_wp2_with fail
        refine (rresolves _ _ _ _ _ _ _ _ _ _ _ _ _ _ _ (HX.out _ hbc) (HO.out _ hbc) (HU.out _ hbc)).mono ?_
        rintro e w3 ⟨rfl, a3⟩
        rw [← HRB.out, ← HRE.out]
        have hbc := bt hbc a3
        clear k0 k1 k2 k3 a3
        obtain ⟨k0, k1, k2, k3, _⟩ := (HG.out _ hbc).cells
        go_wp2_with fail
        refine (ppossible _ _ _ _ _ _ _ _ _ _ _ _ _ _ _ _ _ _ _ (HX.out _ hbc) (HO.out _ hbc) (HU.out _ hbc) (HV.out _ hbc)).mono ?_
        rintro e w4 ⟨P4, q4, rfl, o4, a4⟩
        rw [← HPL.out] at o4 ⊢
        rw [← HPE.out]
        have h4 := o4.ints (by omega)
        clear o4
        have hbc := bt hbc a4
        clear k0 k1 k2 k3 a4
        obtain ⟨k0, k1, k2, k3, _⟩ := (HG.out _ hbc).cells
        go_wp2_with fail
        refine (rpossible _ _ _ _ _ _ _ _ _ _ _ _ _ _ _ _ _ _ _ (HX.out _ hbc) (HO.out _ hbc) (HU.out _ hbc) (HV.out _ hbc)).mono ?_
        rintro e w5 ⟨P5, q5, rfl, o5, a5⟩
        rw [← HPL.out] at o5 ⊢
        rw [← HPE.out]
        have h4 := h4.below a5
        have h5 := o5.ints (by omega)
        clear o5
        have hbc := bt hbc a5
        clear k0 k1 k2 k3 a5
        obtain ⟨k0, k1, k2, k3, _⟩ := (HG.out _ hbc).cells
        go_wp2_with fail
        refine (pfinal _ _ _ _ _ _ _ _ _ _ _ _ _ _ _ _ _ _ _ (HX.out _ hbc) (HO.out _ hbc) (HU.out _ hbc) (HV.out _ hbc)).mono ?_
        rintro e w6 ⟨rfl, a6⟩
        rw [← HFS.out, ← HFB.out, ← HPE.out]
        have h4 := h4.below a6
        have h5 := h5.below a6
        have hbc := bt hbc a6
        clear k0 k1 k2 k3 a6
        obtain ⟨k0, k1, k2, k3, _⟩ := (HG.out _ hbc).cells
        go_wp2_with fail
        refine (rfinal _ _ _ _ _ _ _ _ _ _ _ _ _ _ _ _ _ _ _ (HX.out _ hbc) (HO.out _ hbc) (HU.out _ hbc) (HV.out _ hbc)).mono ?_
        rintro e w7 ⟨rfl, a7⟩
        rw [← HFS.out, ← HFB.out, ← HPE.out]
        have h4 := h4.below a7
        have h5 := h5.below a7
        have hbc := bt hbc a7
        clear k0 k1 k2 k3 a7
        have HE := Lib.hid (requal P4 P5 pl.length q4 pl.length q5 pl pl true w7 h4 h5 (by simp))
        clear h4 h5 hplb
        cases rb <;> cases fb
        all_goals
          go_wp2_with fail
          refine HE.out.mono ?_
          rintro e w8 ⟨rfl, hq⟩
          have hbc := bt hbc (rd_below hq)
          clear hq
          go_wp2_with fail
          refine (awake13 _).mono ?_
          rintro e w9 ⟨rfl, a9⟩
          go_wp2
          go_ret
          exact ⟨rfl, bt HB0.out (bt hbc a9)⟩
end Go.Proofs.Ytogcecfeofbbnaa
end
