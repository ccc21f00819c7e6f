/- Lemmas of the proofs of this seat, of the parts L13c. Conditions: none. -/
import Derived.Test.YtogcecfeofbbnaaHh
section
/- The law HomingKnown: the walk. -/
namespace Go.Proofs.Ytogcecfeofbbnaa
open Go.RowKit

theorem Wd.syms13 {i : Nat} {u : List Int} (h : Wd i u) : Syms u i u.length := fun m hm => by
  have := h (u.getD m 0) (by rw [List.getD_eq_getElem?_getD, List.getElem?_eq_getElem hm]; exact List.getElem_mem _)
  exact this
theorem known13 {i st n s : Nat} {nx ot : List (List Int)} {v : List Int} (hM : Mok i st n nx ot) (hs : s < n) (hc : chk v i = 0) (hv : opnL n nx ot v n = []) :
    resB i st nx ot v = true ∧ hck i st nx ot v = 0 ∧ finS (posL i st nx ot v (runO nx ot s v)) = runS nx s v ∧ finB (posL i st nx ot v (runO nx ot s v)) = true ∧ posE i st nx ot v (runO nx ot s v) = 0 ∧ frm i st nx ot s v = (runO nx ot s v, (runS nx s v : Int), 0) := by
  have h0 : hck i st nx ot v = 0 := by unfold hck; rw [if_pos hM.vld, hc]
  have hW : Wd i v := Syms.mem (chk_zero hc).2.2.2
  have hl : v.length = (runO nx ot s v).length := (runO_len _ _ _ _).symm
  have hp : posL i st nx ot v (runO nx ot s v) = [(runS nx s v : Int)] := by
    unfold posL
    rw [if_pos ⟨h0, hl⟩, hM.nxl]
    exact cur_known hM hW hs (opnL_none.1 hv s hs)
  refine ⟨?_, h0, by rw [hp]; rfl, by rw [hp]; rfl, ?_, frm_ok hM.vld (by rw [hM.nxl]; exact hs) hc⟩
  · unfold resB
    rw [hM.nxl]
    exact decide_eq_true ⟨h0, hv⟩
  · unfold posE
    rw [if_pos h0, if_pos hl]

set_option linter.unusedSimpArgs false in
set_option linter.unusedVariables false in
set_option maxHeartbeats 8000000 in
set_option maxRecDepth 100000 in
theorem known13_walk (i1 st1 : Int) (A B : Option Addr) (n c m d : Nat) (nx ot : List (List Int)) (p : Nat) (V : Option Addr) (k cv : Nat) (mo : List Int) (w : World) (hx1 : Lists w A n nx) (ho1 : Lists w B m ot) (hp : p < 256) (hV : Ints w V k mo) :
    Calls Try.prog 5 #[.agg #[.int .i64 i1, .int .i64 st1, .slice A n c, .slice B m d], .int .u8 p, .slice V k cv] w fun e w' => e = .returned (.bool true) ∧ Below w.heap.size w w' := by
  obtain ⟨w0, hw0⟩ : ∃ w0, w0 = w.alloc (.cells #[.int .i64 i1, .int .i64 st1, .slice A n c, .slice B m d] 24) := ⟨_, rfl⟩
  have hb0 : Below w.heap.size w w0 := by rw [hw0]; exact alloc_below _ _
  have hG : Mblk w0 w.heap.size (.int .i64 i1) (.int .i64 st1) (.slice A n c) (.slice B m d) := by rw [hw0]; exact mealy_box w _ _ _ _
  have HW0 := Lib.hid hw0
  have HB0 := Lib.hid hb0
  have HX := Lib.hid (fun (W : World) (h : Below w0.heap.size w0 W) => (hx1.below hb0).below h)
  have HO := Lib.hid (fun (W : World) (h : Below w0.heap.size w0 W) => (ho1.below hb0).below h)
  have HV := Lib.hid (fun (W : World) (h : Below w0.heap.size w0 W) => (hV.below hb0).below h)
  have hkl := hV.1
  have hz0 : w0.heap.size = w.heap.size + 1 := by rw [hw0]; simp
  have HG := Lib.hid (fun (W : World) (h : Below w0.heap.size w0 W) => hG.kept h (show w.heap.size < w0.heap.size by omega))
  have hbc := Below.refl w0.heap.size w0
  obtain ⟨k0, k1, k2, k3, _⟩ := hG.cells
  rw [HW0.out] at k0 k1 k2 k3
  clear hw0 hb0 hG hz0 hx1 ho1 hV
  go_enter Try.func5, Try.ntmps5
  go_wp2_with fail
  rw [← HW0.out]
  refine (lsmall _ _ _ _ _ _ _ _ _ _ _ (HX.out _ hbc) (HO.out _ hbc)).mono ?_
  rintro e w1 ⟨b1, rfl, hs1, a1⟩
  have hbc := bt hbc a1
  clear k0 k1 k2 k3 a1
  cases b1 with
  | false =>
    clear hs1
    go_wp2_with fail
    refine (awake13 _).mono ?_
    rintro e w9 ⟨rfl, a9⟩
    go_wp2
    go_ret
    exact ⟨rfl, bt HB0.out (bt hbc a9)⟩
  | true =>
    have HS1 := Lib.hid (hs1 rfl)
    clear hs1
    obtain ⟨k0, k1, k2, k3, _⟩ := (HG.out _ hbc).cells
    go_wp2_with fail
    refine (rcheck11 _ _ _ _ _ _ _ _ _ _ _ (HX.out _ hbc) (HO.out _ hbc)).mono ?_
    rintro e w2 ⟨rfl, a2⟩
    have hbc := bt hbc a2
    clear k0 k1 k2 k3 a2
    by_cases hm : mck i1 st1 nx ot = 0
    · rw [hm]
      by_cases hk : (60 : Int) < (k : Int)
      · have d1 : decide ((60 : Int) < (k : Int)) = true := decide_eq_true hk
        clear hm
        go_wp2_with fail
        refine (awake13 _).mono ?_
        rintro e w9 ⟨rfl, a9⟩
        go_wp2
        go_ret
        exact ⟨rfl, bt HB0.out (bt hbc a9)⟩
      · have d1 : decide ((60 : Int) < (k : Int)) = false := decide_eq_false hk
        obtain ⟨i, st, n', rfl, rfl, hM, hR⟩ := mck_zero hm
        obtain ⟨r, er, hHR, _⟩ := HomR.ex i st nx ot
        have hHom : Hom i n' nx ot [] r er := by
          rcases hHR with ⟨_, h⟩ | ⟨h, _⟩
          · rw [Int.toNat_natCast, hM.nxl] at h; exact h
          · exact absurd hm h
        have hnn : n = n' := by rw [← hM.nxl]; exact (HX.out _ hbc).1.symm
        subst hnn
        obtain ⟨he, hop, hWr, hrl⟩ := hHom.small0 hM hR HS1.out.1
        subst he
        obtain ⟨s, hsn, hmod⟩ : ∃ s : Nat, s < n ∧ ((p : Int)).tmod (n : Int) = (s : Int) := ⟨p % n, Nat.mod_lt _ hM.n1, by rw [Int.tmod_eq_emod_of_nonneg (by omega)]; rfl⟩
        have hn0 : ¬ n = 0 := by omega
        have hchk : chk r i = 0 := chk_ok (by have := hM.i1; have := hM.i2; omega) (by omega) (Wd.syms13 hWr)
        obtain ⟨f1, f2, f3, f4, f5, f6⟩ := known13 hM hsn hchk hop
        have HF1 := Lib.hid f1
        have HF2 := Lib.hid f2
        have HF3 := Lib.hid f3
        have HF4 := Lib.hid f4
        have HF5 := Lib.hid f5
        have HF6 := Lib.hid f6
        have HRR := Lib.hid hHR
        have HKN := Lib.hid (fun (hc : chk (r ++ mo) i = 0) => known13 (v := r ++ mo) hM hsn hc (opnL_app hM hWr (fun x hx => Syms.mem (chk_zero hc).2.2.2 x (List.mem_append_right _ hx)) hop))
        have HFW : Hid (¬ chk (r ++ mo) i = 0 → frm i st nx ot s (r ++ mo) = ([], 0, chk (r ++ mo) i)) := Lib.hid (fun h => frm_word hM.vld (by rw [hM.nxl]; omega) h)
        have hOl : (runO nx ot s r).length = r.length := runO_len _ _ _ _
        have hOl2 : (runO nx ot s (r ++ mo)).length = r.length + k := by rw [runO_len, List.length_append, hkl]
        generalize runO nx ot s (r ++ mo) = O2 at HKN hOl2
        generalize runS nx s (r ++ mo) = t2 at HKN
        generalize runO nx ot s r = O1 at HF3 HF4 HF5 HF6 hOl
        generalize runS nx s r = t1 at HF3 HF6
        have hn8 := HS1.out.1
        have HOL := Lib.hid hOl
        have HOL2 := Lib.hid hOl2
        have hk60 : k ≤ 60 := by omega
        have HKL := Lib.hid hkl
        clear hOl hOl2 hkl
        clear hm hM hR hHR hHom hop hWr hchk f1 f2 f3 f4 f5 f6 hk
        obtain ⟨k0, k1, k2, k3, _⟩ := (HG.out _ hbc).cells
        go_wp2_with fail
        refine (pword13 _ _ _ _ _ _ _ _ _ _ _ _ _ (HX.out _ hbc) (HO.out _ hbc) HRR.out).mono ?_
        rintro e w3 ⟨A3, c3, rfl, o3, a3⟩
        have h3 := o3.ints (by omega)
        have hbc := bt hbc a3
        clear k0 k1 k2 k3 a3 o3
        obtain ⟨k0, k1, k2, k3, _⟩ := (HG.out _ hbc).cells
        go_wp2_with fail
        refine (presolves _ _ _ _ _ _ _ _ _ _ _ _ _ _ _ (HX.out _ hbc) (HO.out _ hbc) h3).mono ?_
        rintro e w4 ⟨rfl, a4⟩
        rw [HF1.out, HF2.out]
        have h3 := h3.below a4
        have hbc := bt hbc a4
        clear k0 k1 k2 k3 a4
        obtain ⟨k0, k1, k2, k3, _⟩ := (HG.out _ hbc).cells
        go_wp2_with fail
        refine (pfrom _ _ _ _ _ _ _ _ _ _ _ _ _ s r _ (HX.out _ hbc) (HO.out _ hbc) h3).mono ?_
        rintro e w5 ⟨A5, c5, rfl, o5, a5⟩
        rw [HF6.out] at o5 ⊢
        have h5 : Ints w5 A5 O1.length O1 := Owned.ints o5 (by have := HOL.out; omega)
        have h3 := h3.below a5
        have hbc := bt hbc a5
        clear k0 k1 k2 k3 a5 o5
        obtain ⟨k0, k1, k2, k3, _⟩ := (HG.out _ hbc).cells
        go_wp2_with fail
        refine (pfinal i st A B A3 A5 n c m d r.length c3 O1.length c5 nx ot r O1 w5 (HX.out _ hbc) (HO.out _ hbc) h3 h5).mono ?_
        rintro e w6 ⟨rfl, a6⟩
        rw [HF3.out, HF4.out, HF5.out]
        have h3 := h3.below a6
        have hbc := bt hbc a6
        have a6' := a6
        clear k0 k1 k2 k3 a6
        have hne : ((t1 : Int) != (t1 : Int)) = false := by simp
        obtain ⟨W7, hW7⟩ : ∃ W7, W7 = w6.alloc (.cells #[] 3) := ⟨_, rfl⟩
        have hb7 : Below w6.heap.size w6 W7 := by rw [hW7]; exact alloc_below _ _
        have ho7 : Owned W7 w6.heap.size (.slice (some ⟨w6.heap.size, 0, none⟩) 0 0) [] := by rw [hW7]; exact Owned.literal w6 w6.heap.size [] _ 0 (Nat.le_refl _) rfl rfl (by simp)
        obtain ⟨v8, w8, hr8, ho8, hg8, hb8⟩ := run_append_ints W7 w6.heap.size _ [] r A3 r.length c3 ho7 (h3.below hb7) hb7.size (by simp; omega)
        rw [List.nil_append] at ho8
        obtain ⟨A8, c8, rfl⟩ := ho8.form
        have hz8 : w6.heap.size ≤ w8.heap.size := Nat.le_trans hb7.size hb8.size
        obtain ⟨v9, w9, hr9, ho9, hg9, hb9⟩ := run_append_ints w8 w6.heap.size _ r mo V k cv ho8 (HV.out _ (bt hbc (hb7.trans hb8))) hz8 (by rw [List.length_append, HKL.out]; omega)
        obtain ⟨A9, c9, rfl⟩ := ho9.form
        have hz9 : w6.heap.size ≤ w9.heap.size := Nat.le_trans hz8 hb9.size
        have hbc := bt hbc ((hb7.trans hb8).trans hb9)
        have H9 : Hid (Ints w9 A9 (r ++ mo).length (r ++ mo)) := Lib.hid (ho9.ints (by rw [List.length_append, HKL.out]; omega))
        have h5 := (h5.below a6').below ((hb7.trans hb8).trans hb9)
        generalize hvv : r ++ mo = v at H9 HKN HFW hr9 HOL2
        obtain ⟨lv, hlv⟩ : ∃ lv, lv = v.length := ⟨_, rfl⟩
        rw [← hlv] at H9 hr9
        rw [hW7] at hr8
        have HLV := Lib.hid hlv
        have HVV := Lib.hid hvv
        clear hvv hlv ho7 hb7 hW7 ho8 hg8 hb8 hz8 ho9 hg9 hb9 hz9 h3 a6'
        obtain ⟨k0, k1, k2, k3, _⟩ := (HG.out _ hbc).cells
        go_wp2_with (at_builtin; first | (refine Lib.wpList_append_run _ rfl _ _ _ _ rfl _ _ rfl rfl _ _ hr8 ?_; clear hr8) | (refine Lib.wpList_append_run _ rfl _ _ _ _ rfl _ _ rfl rfl _ _ hr9 ?_))
        refine (pfrom i st A B A9 n c m d lv c9 nx ot s v w9 (HX.out _ hbc) (HO.out _ hbc) H9.out).mono ?_
        rintro e w10 ⟨A10, c10, rfl, o10, a10⟩
        have H10 := Lib.hid (H9.out.below a10)
        have hbc := bt hbc a10
        clear k0 k1 k2 k3 hr9 h5
        by_cases hc : chk v i = 0
        · obtain ⟨f1, f2, f3, f4, f5, f6⟩ := HKN.out hc
          have HF1 := Lib.hid f1
          have HF2 := Lib.hid f2
          have HF3 := Lib.hid f3
          have HF4 := Lib.hid f4
          have HF5 := Lib.hid f5
          rw [f6] at o10 ⊢
          have h10 : Ints w10 A10 O2.length O2 := Owned.ints o10 (by have := HOL2.out; omega)
          clear a10 o10 f1 f2 f3 f4 f5 f6 hc
          obtain ⟨k0, k1, k2, k3, _⟩ := (HG.out _ hbc).cells
          go_wp2_with fail
          refine (presolves i st A B A9 n c m d lv c9 nx ot v w10 (HX.out _ hbc) (HO.out _ hbc) H10.out).mono ?_
          rintro e w11 ⟨rfl, a11⟩
          rw [HF1.out, HF2.out]
          have h10 := h10.below a11
          have H11 := Lib.hid (H10.out.below a11)
          have hbc := bt hbc a11
          clear k0 k1 k2 k3 a11
          obtain ⟨k0, k1, k2, k3, _⟩ := (HG.out _ hbc).cells
          go_wp2_with fail
          refine (pfinal i st A B A9 A10 n c m d lv c9 O2.length c10 nx ot v O2 w11 (HX.out _ hbc) (HO.out _ hbc) H11.out h10).mono ?_
          rintro e w12 ⟨rfl, a12⟩
          rw [HF3.out, HF4.out, HF5.out]
          have hbc := bt hbc a12
          clear k0 k1 k2 k3 a12 h10
          go_wp2_with fail
          refine (awake13 _).mono ?_
          rintro e w9 ⟨rfl, a9⟩
          go_wp2
          go_ret
          exact ⟨rfl, bt HB0.out (bt hbc a9)⟩
        · rw [HFW.out hc]
          have hne2 : (chk v i != 0) = true := by simpa using hc
          generalize chk v i = x at hne2 ⊢
          clear a10 o10 hc
          go_wp2_with fail
          refine (awake13 _).mono ?_
          rintro e w9 ⟨rfl, a9⟩
          go_wp2
          go_ret
          exact ⟨rfl, bt HB0.out (bt hbc a9)⟩
    · have hne : (mck i1 st1 nx ot != 0) = true := by simpa using hm
      generalize mck i1 st1 nx ot = x at hne ⊢
      clear hm
      go_wp2_with fail
      refine (awake13 _).mono ?_
      rintro e w9 ⟨rfl, a9⟩
      go_wp2
      go_ret
      exact ⟨rfl, bt HB0.out (bt hbc a9)⟩
end Go.Proofs.Ytogcecfeofbbnaa
end
