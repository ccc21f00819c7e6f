/- Lemmas of the proofs of this seat, of the parts Dlnw. Conditions: none. -/
import Derived.Test.YthjnghldedfdoaaNbv
import Derived.Test.YthjnghldedfdoaaNah
import Derived.Test.YthjnghldedfdoaaNai
import Derived.Test.YthjnghldedfdoaaNbc
section
/- The law DfaLanguages. -/
namespace Go.Proofs.Ythjnghldedfdoaa
open Go.RowKit

theorem syms_wd8 {xs : List Int} {i : Nat} (h : Syms xs i xs.length) : Wd i xs := fun x hx => by
  obtain ⟨m, hm, rfl⟩ := List.getElem_of_mem hx
  have := h m hm
  rw [List.getD_eq_getElem?_getD, List.getElem?_eq_getElem hm] at this
  exact this
theorem mn_pair {L K : List Int → Bool} {i : Nat} {N M : List (List Int)} {A B : List Bool} (h : Mn L i N A) (k : Mn K i M B) (b : Bool) (ht : b = false → ∀ u, Wd i u → L u = K u) (hf : b = true → ∃ v, Wd i v ∧ L v ≠ K v) :
    decide (N = M ∧ A = B) = !b := by
  cases b with
  | false =>
    obtain ⟨rfl, rfl⟩ := h.uniq k (ht rfl)
    simp
  | true =>
    obtain ⟨v, hv, hne⟩ := hf rfl
    refine decide_eq_false fun H => hne ?_
    obtain ⟨rfl, rfl⟩ := H
    rw [← h.acc hv, ← k.acc hv]
theorem hb_of {N M : List (List Int)} {A B : List Bool} {b : Bool} (i : Int) (h : decide (N = M ∧ A = B) = b) : b = decide (i = i ∧ (0 : Int) = 0 ∧ N = M ∧ A = B) := by
  rw [← h]; simp
theorem diff_all {i st n st' n' : Nat} {nx nx' : List (List Int)} {ac ac' : List Bool} (h : Dok i st n nx ac) (h' : Dok i st' n' nx' ac') (hn : n ≤ 12) (hn' : n' ≤ 12) (z : List Int) (hz : Wd i z) :
    ∃ (v : List Int) (ok : Bool), fwR (fun p => aN ac p.1 != aN ac' p.2) (cmE i st n st' n' nx nx') = (v, ok) ∧ Wd i v ∧ v.length ≤ 144 ∧ ok = (aN ac (runS nx st v) != aN ac' (runS nx' st' v)) ∧
      (aN ac (runS nx st z) ≠ aN ac' (runS nx' st' z) → ok = true ∧ shlex v z ≤ 0) ∧
      (ok = false → ∀ u, Wd i u → (fun u => aN ac (runS nx st u)) u = (fun u => aN ac' (runS nx' st' u)) u) ∧ (ok = true → ∃ u, Wd i u ∧ (fun u => aN ac (runS nx st u)) u ≠ (fun u => aN ac' (runS nx' st' u)) u) := by
  rcases diff_ways h h' hn hn' with ⟨h1, hall⟩ | ⟨v, h1, hv, hvl, hne, hmin⟩
  · exact ⟨[], false, h1, Wd.nil i, by simp, by rw [hall [] (Wd.nil i)]; simp, fun hx => absurd (hall z hz) hx, fun _ u hu => hall u hu, fun h => absurd h (by decide)⟩
  · exact ⟨v, true, h1, hv, hvl, by rw [hne]; cases aN ac (runS nx st v) <;> rfl, fun hx => ⟨rfl, hmin z hz hx⟩, fun h => absurd h (by decide), fun _ => ⟨v, hv, by show aN ac (runS nx st v) ≠ aN ac' (runS nx' st' v); rw [hne]; cases aN ac (runS nx st v) <;> simp⟩⟩
set_option maxHeartbeats 16000000 in
set_option maxRecDepth 100000 in
theorem langs7_walk (i0 st0 : Int) (A0 B0 : Option Addr) (n0 c0 m0 e0 : Nat) (nx0 : List (List Int)) (ac0 : List Bool) (i1 st1 : Int) (A1 B1 : Option Addr) (n1 c1 m1 e1 : Nat) (nx1 : List (List Int)) (ac1 : List Bool) (a2 : Option Addr) (len2 cap2 : Nat) (z2 : List Int) (w : World)
    (wn0 : Lists w A0 n0 nx0) (wo0 : BoolsL w B0 m0 ac0) (wn1 : Lists w A1 n1 nx1) (wo1 : BoolsL w B1 m1 ac1) (w2 : Ints w a2 len2 z2) :
    Calls Try.prog 7 #[.agg #[.int .i64 i0, .int .i64 st0, .slice A0 n0 c0, .slice B0 m0 e0], .agg #[.int .i64 i1, .int .i64 st1, .slice A1 n1 c1, .slice B1 m1 e1], .slice a2 len2 cap2] w fun e w' => e = .returned (.bool true) ∧ Below w.heap.size w w' := by
  obtain ⟨w0, hw0, hb0, hB, hB'⟩ := two_boxes w i0 st0 i1 st1 A0 B0 A1 B1 n0 c0 m0 e0 n1 c1 m1 e1
  obtain ⟨k0, k1, k2, k3, _⟩ := hB.cells
  obtain ⟨j0, j1, j2, j3, _⟩ := hB'.cells
  have HW0 := Lib.hid hw0
  have HBX := Lib.hid (fun (W : World) (h : Below w0.heap.size w0 W) => And.intro (hB.on9 h) (hB'.on9 h))
  have HX := Lib.hid (fun (W : World) (h : Below w0.heap.size w0 W) => And.intro ((wn0.below hb0).below h) ((wn1.below hb0).below h))
  have HU := Lib.hid (fun (W : World) (h : Below w0.heap.size w0 W) => (w2.below hb0).below h)
  have HBA := Lib.hid (fun (W : World) (h : Below w0.heap.size w0 W) (hm : m0 ≤ 20) (hm' : m1 ≤ 20) => And.intro (((wo0.bools hm).below hb0).below h) (((wo1.bools hm').below hb0).below h))
  have HB0 := Lib.hid hb0
  have hm47 := wo0.2.1
  have hm48 := wo1.2.1
  have HLA := Lib.hid (And.intro wo0.1 wo1.1)
  have hlen := w2.2.1
  clear hw0 hB hB' hb0
  rw [HW0.out] at k0 k1 k2 k3 j0 j1 j2 j3
  go_enter Try.func7, Try.ntmps7
  go_wp2_with fail
  rw [← HW0.out]
  refine (rgreat7 _ _ _ _ _ _ _ _ _ _ (HX.out _ (Below.refl _ _)).1 hm47).mono ?_
  rintro e wa ⟨b, rfl, hgr, ba⟩
  have HBa := Lib.hid ba
  clear k0 k1 k2 k3 j0 j1 j2 j3
  obtain ⟨⟨k0, k1, k2, k3, _⟩, ⟨j0, j1, j2, j3, _⟩⟩ := And.intro (HBX.out _ ba).1.cells (HBX.out _ ba).2.cells
  clear ba
  cases b with
  | true =>
    clear hgr
    go_wp2_with fail
    refine (awake7 _).mono ?_
    rintro e wz ⟨rfl, bz⟩
    go_wp2_with fail
    go_ret
    exact ⟨rfl, bt HB0.out (bt HBa.out bz)⟩
  | false =>
    obtain ⟨hn12, hm20, _⟩ := hgr rfl
    clear hgr
    go_wp2_with fail
    refine (rgreat7 _ _ _ _ _ _ _ _ _ _ (HX.out _ HBa.out).2 hm48).mono ?_
    rintro e wb ⟨b, rfl, hgr, bb⟩
    have HBb := Lib.hid (bt HBa.out bb)
    clear k0 k1 k2 k3 j0 j1 j2 j3
    obtain ⟨⟨k0, k1, k2, k3, _⟩, ⟨j0, j1, j2, j3, _⟩⟩ := And.intro (HBX.out _ HBb.out).1.cells (HBX.out _ HBb.out).2.cells
    clear bb
    cases b with
    | true =>
      clear hgr
      go_wp2_with fail
      refine (awake7 _).mono ?_
      rintro e wz ⟨rfl, bz⟩
      go_wp2_with fail
      go_ret
      exact ⟨rfl, bt HB0.out (bt HBb.out bz)⟩
    | false =>
      obtain ⟨hn12', hm20', _⟩ := hgr rfl
      clear hgr
      by_cases hl : 100 < len2
      · have d1 : decide ((100 : Int) < (len2 : Int)) = true := decide_eq_true (by omega)
        clear hl
        go_wp2_with fail
        refine (awake7 _).mono ?_
        rintro e wz ⟨rfl, bz⟩
        go_wp2_with fail
        go_ret
        exact ⟨rfl, bt HB0.out (bt HBb.out bz)⟩
      · have d1 : decide ((100 : Int) < (len2 : Int)) = false := decide_eq_false (by omega)
        go_wp2_with fail
        refine (pvalD _ _ _ _ _ _ _ _ _ _ _ (HX.out _ HBb.out).1 HLA.out.1 (by omega)).mono ?_
        rintro e wc ⟨rfl, bc⟩
        have HBc := Lib.hid (bt HBb.out bc)
        clear k0 k1 k2 k3 j0 j1 j2 j3
        obtain ⟨⟨k0, k1, k2, k3, _⟩, ⟨j0, j1, j2, j3, _⟩⟩ := And.intro (HBX.out _ HBc.out).1.cells (HBX.out _ HBc.out).2.cells
        clear bc
        by_cases hv : vldD i0 st0 nx0 ac0 = 0
        · rw [hv]
          go_wp2_with fail
          refine (pvalD _ _ _ _ _ _ _ _ _ _ _ (HX.out _ HBc.out).2 HLA.out.2 (by omega)).mono ?_
          rintro e wd ⟨rfl, bd⟩
          have HBd := Lib.hid (bt HBc.out bd)
          clear k0 k1 k2 k3 j0 j1 j2 j3
          obtain ⟨⟨k0, k1, k2, k3, _⟩, ⟨j0, j1, j2, j3, _⟩⟩ := And.intro (HBX.out _ HBd.out).1.cells (HBX.out _ HBd.out).2.cells
          clear bd
          by_cases hv' : vldD i1 st1 nx1 ac1 = 0
          · rw [hv']
            by_cases hii : i0 = i1
            · subst hii
              have t0 : (i0 != i0) = false := by simp
              obtain ⟨i, st, n, rfl, rfl, hM⟩ := vldD_zero hv
              obtain ⟨i', st', n', hi', rfl, hM'⟩ := vldD_zero hv'
              obtain rfl : i = i' := by omega
              obtain rfl : n0 = n := by rw [← wn0.1]; exact hM.nxl
              obtain rfl : n0 = m0 := by rw [← wo0.1]; exact hM.acl.symm
              obtain rfl : n1 = n' := by rw [← wn1.1]; exact hM'.nxl
              obtain rfl : n1 = m1 := by rw [← wo1.1]; exact hM'.acl.symm
              have HM := Lib.hid hM
              have HM' := Lib.hid hM'
              have hi2 := hM.i2
              have hi1 := hM.i1
              clear hv hv' hM hM' hi'
              go_wp2_with fail
              refine (rcheck _ _ _ _ _ _ (HU.out _ HBd.out)).mono ?_
              rintro e we ⟨rfl, rfl⟩
              by_cases hc : chk z2 i = 0
              · rw [hc]
                have HWD := Lib.hid (syms_wd8 (chk_zero hc).2.2.2)
                have HZ2 := Lib.hid (chk_zero hc).2.2.1
                clear hc t0 d1
                go_wp2_with fail
                refine (pacceptsD _ _ _ _ _ _ _ _ _ _ _ nx0 ac0 z2 _ (HX.out _ HBd.out).1 (HBA.out _ HBd.out hm20 hm20').1 (HU.out _ HBd.out)).mono ?_
                rintro e wf ⟨rfl, bf⟩
                rw [acc_word HM.out HWD.out HZ2.out]
                have HBf := Lib.hid (bt HBd.out bf)
                clear k0 k1 k2 k3 j0 j1 j2 j3
                obtain ⟨⟨k0, k1, k2, k3, _⟩, ⟨j0, j1, j2, j3, _⟩⟩ := And.intro (HBX.out _ HBf.out).1.cells (HBX.out _ HBf.out).2.cells
                clear bf
                go_wp2_with fail
                refine (pacceptsD _ _ _ _ _ _ _ _ _ _ _ nx1 ac1 z2 _ (HX.out _ HBf.out).2 (HBA.out _ HBf.out hm20 hm20').2 (HU.out _ HBf.out)).mono ?_
                rintro e wg ⟨rfl, bg⟩
                rw [acc_word HM'.out HWD.out HZ2.out]
                have HBg := Lib.hid (bt HBf.out bg)
                clear k0 k1 k2 k3 j0 j1 j2 j3
                clear bg
                obtain ⟨x, hx⟩ : ∃ x, x = aN ac0 (runS nx0 st z2) := ⟨_, rfl⟩
                obtain ⟨y, hy⟩ : ∃ y, y = aN ac1 (runS nx1 st' z2) := ⟨_, rfl⟩
                rw [← hx, ← hy]
                have HXX := Lib.hid hx
                have HYY := Lib.hid hy
                clear hx hy
                go_wp2_with fail
                go_loopw [11, 12, 13, 14, 15, 16] (fun v11 _ _ _ _ _ wr => ∃ k : Nat, k ≤ 4 ∧ v11 = .int .i64 k ∧ Below wg.heap.size wg wr) (fun v11 _ _ _ _ _ _ => 4 - (intOf v11).toNat)
                case atStart => exact ⟨0, by omega, rfl, Below.refl _ _⟩
                case round =>
                  obtain ⟨k, hk, rfl, hbr⟩ := hrel
                  have HBR := Lib.hid hbr
                  have hbw := bt HBg.out hbr
                  have HBW := Lib.hid hbw
                  obtain ⟨⟨k0, k1, k2, k3, _⟩, ⟨j0, j1, j2, j3, _⟩⟩ := And.intro (HBX.out _ hbw).1.cells (HBX.out _ hbw).2.cells
                  clear hbr hbw
                  by_cases hlt : k < 4
                  · have d1 : decide ((k : Int) ≤ 3) = true := decide_eq_true (by omega)
                    go_wp2_with fail
                    refine (dcombine k i st st' n0 n1 hlt _ _ _ _ _ _ _ _ nx0 nx1 ac0 ac1 _ (HX.out _ HBW.out).1 (HBA.out _ HBW.out hm20 hm20').1 (HX.out _ HBW.out).2 (HBA.out _ HBW.out hm20 hm20').2 HM.out HM'.out).mono ?_
                    rintro e w6 ⟨h6, b6⟩
                    have HBR6 := Lib.hid (bt HBR.out b6)
                    have HB6 := Lib.hid (bt HBW.out b6)
                    clear k0 k1 k2 k3 j0 j1 j2 j3
                    obtain ⟨⟨k0, k1, k2, k3, _⟩, ⟨j0, j1, j2, j3, _⟩⟩ := And.intro (HBX.out _ HB6.out).1.cells (HBX.out _ HB6.out).2.cells
                    clear b6
                    unfold AutP at h6
                    split at h6
                    · rename_i hle
                      obtain ⟨A6, c6, B6, d6, rfl, x6, a6⟩ := h6
                      have hdk := cm_dok k HM.out HM'.out hle
                      have x6 := x6.lists_of (i := i) (by rw [hdk.nxl]; exact hdk.n2) (by omega) (fun s hs => (hdk.row s (by rw [hdk.nxl] at hs; exact hs)).1)
                      have a6 := a6.bools hdk.acl (by omega)
                      have HDK := Lib.hid hdk
                      have HACC := Lib.hid (cmb_acc k HM.out HM'.out HWD.out)
                      generalize hN6 : autN (bothF nx0 nx1) i (cmE i st n0 st' n1 nx0 nx1) = N6 at *
                      generalize hA6 : autA (opA k ac0 ac1) (cmE i st n0 st' n1 nx0 nx1) = A6' at *
                      generalize hL6 : (cmE i st n0 st' n1 nx0 nx1).length = L6 at *
                      clear hN6 hA6 hL6
                      obtain ⟨W6, hW6⟩ : ∃ W6, W6 = w6.alloc (.cells #[.int .i64 i, .int .i64 0, .slice A6 L6 c6, .slice B6 L6 d6] 25) := ⟨_, rfl⟩
                      have b7 : Below w6.heap.size w6 W6 := by rw [hW6]; exact alloc_below _ _
                      have m6 : AutB W6 w6.heap.size i 0 A6 L6 c6 B6 d6 N6 A6' := by rw [hW6]; exact AutB.new x6 a6
                      obtain ⟨p0, p1, p2, p3, _⟩ := m6.1.cells
                      have H6 := Lib.hid hW6
                      have HBR7 := Lib.hid (bt HBR6.out b7)
                      have HB7 := Lib.hid (bt HB6.out b7)
                      rw [hW6] at p0 p1 p2 p3
                      clear hW6 b7 x6 a6 hdk hle k0 k1 k2 k3 j0 j1 j2 j3
                      go_wp2_with fail
                      rw [← H6.out]
                      refine (pacceptsD _ _ _ _ _ _ _ _ _ _ _ N6 A6' z2 _ m6.2.1 m6.2.2 (HU.out _ HB7.out)).mono ?_
                      rintro e w8 ⟨rfl, b8⟩
                      have hac := acc_word HDK.out HWD.out HZ2.out
                      rw [HACC.out, ← HXX.out, ← HYY.out] at hac
                      rw [show accD i 0 N6 A6' z2 = (opB k x y, 0) from hac]
                      have HBR8 := Lib.hid (bt HBR7.out b8)
                      clear b8 m6 hac p0 p1 p2 p3 HXX HYY HACC
                      obtain rfl | rfl | rfl | rfl : k = 0 ∨ k = 1 ∨ k = 2 ∨ k = 3 := by omega
                      all_goals
                        cases x
                        all_goals
                          cases y
                          all_goals
                            simp only [opB]
                            go_wp2_with fail
                            go_roundw
                            case rel => first | exact ⟨1, by omega, by go_num, HBR8.out⟩ | exact ⟨2, by omega, by go_num, HBR8.out⟩ | exact ⟨3, by omega, by go_num, HBR8.out⟩ | exact ⟨4, by omega, by go_num, HBR8.out⟩
                            case measure => simp [intOf]
                    · rename_i hle
                      subst h6
                      have hlen6 := (cm_ens HM.out HM'.out).len
                      have hmm : 128 < n0 * n1 := by omega
                      have hmm2 : n0 * n1 ≤ 12 * 12 := Nat.mul_le_mul hn12 hn12'
                      obtain ⟨q, hq⟩ : ∃ q, q = n0 * n1 := ⟨_, rfl⟩
                      have hmul : (n0 : Int) * (n1 : Int) = (q : Int) := by rw [hq, Int.natCast_mul]
                      rw [← hq] at hmm hmm2
                      have d2 : decide ((q : Int) ≤ 128) = false := decide_eq_false (by omega)
                      obtain ⟨W6, hW6⟩ : ∃ W6, W6 = w6.alloc (.cells #[.int .i64 0, .int .i64 0, .slice none 0 0, .slice none 0 0] 25) := ⟨_, rfl⟩
                      have b7 : Below w6.heap.size w6 W6 := by rw [hW6]; exact alloc_below _ _
                      have HBR7 := Lib.hid (bt HBR6.out b7)
                      have hb7 := bt HB6.out b7
                      clear hle hlen6 hq k0 k1 k2 k3 j0 j1 j2 j3
                      obtain ⟨⟨k0, k1, k2, k3, _⟩, ⟨j0, j1, j2, j3, _⟩⟩ := And.intro (HBX.out _ hb7).1.cells (HBX.out _ hb7).2.cells
                      have H6 := Lib.hid hW6
                      rw [hW6] at k0 k1 k2 k3 j0 j1 j2 j3
                      clear hW6 b7 hb7
                      go_wp2_with fail
                      rw [← H6.out]
                      go_roundw
                      case rel => exact ⟨k + 1, by omega, by go_num, HBR7.out⟩
                      case measure => simp [intOf]; omega
                  · obtain rfl : k = 4 := by omega
                    go_wp2_with fail
                    refine (ddiffer i st st' n0 n1 _ _ _ _ _ _ _ _ nx0 nx1 ac0 ac1 _ (HX.out _ HBW.out).1 (HBA.out _ HBW.out hm20 hm20').1 (HX.out _ HBW.out).2 (HBA.out _ HBW.out hm20 hm20').2 HM.out HM'.out).mono ?_
                    rintro e wh ⟨A3, c3, rfl, o3, b3⟩
                    obtain ⟨v, ok, hfw, hwv, hvl, hok, hxy, hF, hT⟩ := diff_all HM.out HM'.out hn12 hn12' z2 HWD.out
                    rw [hfw] at o3 ⊢
                    have i3 := o3.ints (show v.length ≤ 17592186044416 by omega)
                    rw [← HXX.out, ← HYY.out] at hxy
                    have HBh := Lib.hid (bt HBW.out b3)
                    have HV1 := Lib.hid (acc_word HM.out hwv (by omega))
                    have HV2 := Lib.hid (acc_word HM'.out hwv (by omega))
                    have HI3 := Lib.hid (fun (W : World) (h : Below wh.heap.size wh W) => i3.below h)
                    have HFT := Lib.hid (And.intro hF hT)
                    have HXYZ := Lib.hid hxy
                    clear b3 o3 hfw hwv hF hT i3 hxy k0 k1 k2 k3 j0 j1 j2 j3
                    obtain ⟨⟨k0, k1, k2, k3, _⟩, ⟨j0, j1, j2, j3, _⟩⟩ := And.intro (HBX.out _ HBh.out).1.cells (HBX.out _ HBh.out).2.cells
                    obtain ⟨p9, hp9⟩ : ∃ p9, p9 = aN ac0 (runS nx0 st v) := ⟨_, rfl⟩
                    obtain ⟨q9, hq9⟩ : ∃ q9, q9 = aN ac1 (runS nx1 st' v) := ⟨_, rfl⟩
                    rw [← hp9, ← hq9] at hok
                    rw [← hp9] at HV1
                    rw [← hq9] at HV2
                    have HOK := Lib.hid hok
                    clear hp9 hq9 hok
                    go_wp2_with fail
                    refine (pacceptsD _ _ _ _ _ _ _ _ _ _ _ nx0 ac0 v _ (HX.out _ HBh.out).1 (HBA.out _ HBh.out hm20 hm20').1 (HI3.out _ (Below.refl _ _))).mono ?_
                    rintro e wi ⟨rfl, bi⟩
                    rw [HV1.out]
                    have HBi := Lib.hid (bt HBh.out bi)
                    have HIi := Lib.hid bi
                    clear bi k0 k1 k2 k3 j0 j1 j2 j3
                    obtain ⟨⟨k0, k1, k2, k3, _⟩, ⟨j0, j1, j2, j3, _⟩⟩ := And.intro (HBX.out _ HBi.out).1.cells (HBX.out _ HBi.out).2.cells
                    go_wp2_with fail
                    refine (pacceptsD _ _ _ _ _ _ _ _ _ _ _ nx1 ac1 v _ (HX.out _ HBi.out).2 (HBA.out _ HBi.out hm20 hm20').2 (HI3.out _ HIi.out)).mono ?_
                    rintro e wj ⟨rfl, bj⟩
                    rw [HV2.out]
                    have HBj := Lib.hid (bt HBi.out bj)
                    have HIj := Lib.hid (bt HIi.out bj)
                    clear bj k0 k1 k2 k3 j0 j1 j2 j3
                    obtain ⟨⟨k0, k1, k2, k3, _⟩, ⟨j0, j1, j2, j3, _⟩⟩ := And.intro (HBX.out _ HBj.out).1.cells (HBX.out _ HBj.out).2.cells
                    go_wp2_with fail
                    refine (dmin i st n0 _ _ _ _ nx0 ac0 _ (HX.out _ HBj.out).1 (HBA.out _ HBj.out hm20 hm20').1 HM.out).mono ?_
                    rintro e wk ⟨⟨N7, S7, A7, c7, B7, d7, rfl, hmn7, hd7, hl7, x7, a7⟩, b7⟩
                    have x7 := x7.lists_of (i := i) (by have := hd7.n2; omega) (by omega) (fun s hs => (hd7.row s hs).1)
                    have a7 := a7.bools hd7.acl (by have := hd7.n2; omega)
                    obtain ⟨W7, hW7⟩ : ∃ W7, W7 = wk.alloc (.cells #[.int .i64 i, .int .i64 0, .slice A7 N7.length c7, .slice B7 N7.length d7] 25) := ⟨_, rfl⟩
                    have bb : Below wk.heap.size wk W7 := by rw [hW7]; exact alloc_below _ _
                    have m7 : AutB W7 wk.heap.size i 0 A7 N7.length c7 B7 d7 N7 S7 := by rw [hW7]; exact AutB.new x7 a7
                    have HB7 := Lib.hid (bt HBj.out (bt b7 bb))
                    have HI7 := Lib.hid (bt HIj.out (bt b7 bb))
                    have HH7 := Lib.hid hW7
                    have HMN7 := Lib.hid hmn7
                    have HD7 := Lib.hid hd7
                    have HL7 := Lib.hid hl7
                    clear x7 a7 b7 bb hmn7 hd7 hl7 k0 k1 k2 k3 j0 j1 j2 j3
                    obtain ⟨⟨k0, k1, k2, k3, _⟩, ⟨j0, j1, j2, j3, _⟩⟩ := And.intro (HBX.out _ HB7.out).1.cells (HBX.out _ HB7.out).2.cells
                    rw [hW7] at k0 k1 k2 k3 j0 j1 j2 j3
                    clear hW7
                    go_wp2_with fail
                    rw [← HH7.out]
                    refine (dmin i st' n1 _ _ _ _ nx1 ac1 _ (HX.out _ HB7.out).2 (HBA.out _ HB7.out hm20 hm20').2 HM'.out).mono ?_
                    rintro e wl ⟨⟨N8, S8, A8, c8, B8, d8, rfl, hmn8, hd8, hl8, x8, a8⟩, b8⟩
                    have x8 := x8.lists_of (i := i) (by have := hd8.n2; omega) (by omega) (fun s hs => (hd8.row s hs).1)
                    have a8 := a8.bools hd8.acl (by have := hd8.n2; omega)
                    obtain ⟨W8, hW8⟩ : ∃ W8, W8 = wl.alloc (.cells #[.int .i64 i, .int .i64 0, .slice A8 N8.length c8, .slice B8 N8.length d8] 25) := ⟨_, rfl⟩
                    have bb : Below wl.heap.size wl W8 := by rw [hW8]; exact alloc_below _ _
                    have m8 : AutB W8 wl.heap.size i 0 A8 N8.length c8 B8 d8 N8 S8 := by rw [hW8]; exact AutB.new x8 a8
                    have m7 := m7.on (bt b8 bb)
                    have HB8 := Lib.hid (bt HB7.out (bt b8 bb))
                    have HI8 := Lib.hid (bt HI7.out (bt b8 bb))
                    have HH8 := Lib.hid hW8
                    have HSAME := Lib.hid (mn_pair HMN7.out hmn8 ok HFT.out.1 HFT.out.2)
                    have HZ := Lib.hid (HMN7.out.acc HWD.out)
                    have HAZ := Lib.hid (acc_word HD7.out HWD.out HZ2.out)
                    have iv := HI3.out _ HI8.out
                    have iz := HU.out _ HB8.out
                    clear x8 a8 b8 bb hmn8 hd8 hl8 k0 k1 k2 k3 j0 j1 j2 j3 hW8
                    go_upto_region 27 with fail
                    rw [← HH8.out]
                    go_cut [198] from 167 to 198 (fun v198 wx => v198 = .bool false ∧ ∃ q, wx = W8.drewN q)
                    case first =>
                      obtain ⟨cc, hcc⟩ : ∃ cc, cc = shlex v z2 := ⟨_, rfl⟩
                      have HCC := Lib.hid hcc
                      rw [← hcc] at HXYZ
                      have HRC := Lib.hid (rcompare A3 a2 _ c3 _ cap2 v z2 W8 iv iz)
                      rw [← hcc] at HRC
                      clear hcc
                      have hok := HOK.out
                      have hxy := HXYZ.out
                      clear HOK HXYZ HFT HSAME HZ HXX HYY HV1 HV2
                      cases p9
                      all_goals
                        cases q9
                        all_goals
                          first
                            | obtain rfl : ok = false := hok
                            | obtain rfl : ok = true := hok
                          cases x
                          all_goals
                            cases y
                            all_goals
                              first
                                | (exact absurd (hxy (by decide)).1 (by decide))
                                | (clear hxy
                                   go_wp2_with fail
                                   go_meet
                                   exact ⟨rfl, 0, rfl⟩)
                                | (have dcc : decide (0 < cc) = false := decide_eq_false (by have := (hxy (by decide)).2; omega)
                                   clear hxy
                                   go_wp2_with fail
                                   refine HRC.out.mono ?_
                                   rintro e wx ⟨rfl, q, rfl⟩
                                   go_wp2_with fail
                                   go_meet
                                   exact ⟨rfl, q, rfl⟩)
                    case rest =>
                      obtain ⟨rfl, q, rfl⟩ := hcut
                      have bq : Below W8.heap.size W8 (W8.drewN q) := below_drewN (Below.refl _ _) q
                      generalize W8.drewN q = W9 at bq ⊢
                      have m7 := m7.on bq
                      have m8 := m8.on bq
                      have HB9 := Lib.hid (bt HB8.out bq)
                      have hzz := HZ.out
                      rw [← HXX.out] at hzz
                      have hazz : accD (i : Int) 0 N7 S7 z2 = (aN S7 (runS N7 0 z2), 0) := HAZ.out
                      have hzz : aN S7 (runS N7 0 z2) = x := hzz
                      rw [hzz] at hazz
                      have HAZ2 := Lib.hid hazz
                      have dl : decide (N7.length ≤ n0) = true := decide_eq_true HL7.out
                      clear bq iv iz hzz hazz HOK HXYZ HFT HXX HYY HV1 HV2 HZ HAZ
                      obtain ⟨p0, p1, p2, p3, _⟩ := m7.1.cells
                      go_wp2_with fail
                      refine (pacceptsD _ _ _ _ _ _ _ _ _ _ _ N7 S7 z2 _ m7.2.1 m7.2.2 (HU.out _ HB9.out)).mono ?_
                      rintro e wm ⟨rfl, bm⟩
                      rw [HAZ2.out]
                      have m7 := m7.on bm
                      have m8 := m8.on bm
                      have HBm := Lib.hid (bt HB9.out bm)
                      clear bm p0 p1 p2 p3
                      obtain ⟨p0, p1, p2, p3, _⟩ := m7.1.cells
                      obtain ⟨q0, q1, q2, q3, _⟩ := m8.1.cells
                      clear HAZ2
                      cases x
                      all_goals
                        cases ok
                        all_goals
                          go_wp2_with fail
                          refine (rsame7 _ _ _ _ _ _ _ _ _ _ _ _ _ _ _ _ N7 N8 S7 S8 _ _ m7.2.1 m7.2.2 m8.2.1 m8.2.2 (hb_of _ HSAME.out)).mono ?_
                          rintro e wn ⟨rfl, bn⟩
                          have HBn := Lib.hid (bt HBm.out bn)
                          clear p0 p1 p2 p3 q0 q1 q2 q3
                          obtain ⟨p0, p1, p2, p3, _⟩ := (m7.on bn).1.cells
                          obtain ⟨k0, k1, k2, k3, _⟩ := (HBX.out _ HBn.out).1.cells
                          clear bn
                          go_wp2_with fail
                          refine (awake7 _).mono ?_
                          rintro e wz ⟨rfl, bz⟩
                          go_wp2_with fail
                          go_ret
                          exact ⟨rfl, bt HB0.out (bt HBn.out bz)⟩
              · have t1 : (chk z2 i != 0) = true := by simpa using hc
                clear hc
                go_wp2_with fail
                refine (awake7 _).mono ?_
                rintro e wz ⟨rfl, bz⟩
                go_wp2_with fail
                go_ret
                exact ⟨rfl, bt HB0.out (bt HBd.out bz)⟩
            · have t0 : (i0 != i1) = true := by simpa using hii
              clear hii hv hv'
              go_wp2_with fail
              refine (awake7 _).mono ?_
              rintro e wz ⟨rfl, bz⟩
              go_wp2_with fail
              go_ret
              exact ⟨rfl, bt HB0.out (bt HBd.out bz)⟩
          · have t1 : (vldD i1 st1 nx1 ac1 != 0) = true := by simpa using hv'
            generalize vldD i1 st1 nx1 ac1 = V at t1
            clear hv'
            go_wp2_with fail
            refine (awake7 _).mono ?_
            rintro e wz ⟨rfl, bz⟩
            go_wp2_with fail
            go_ret
            exact ⟨rfl, bt HB0.out (bt HBd.out bz)⟩
        · have t1 : (vldD i0 st0 nx0 ac0 != 0) = true := by simpa using hv
          generalize vldD i0 st0 nx0 ac0 = V at t1
          clear hv
          go_wp2_with fail
          refine (awake7 _).mono ?_
          rintro e wz ⟨rfl, bz⟩
          go_wp2_with fail
          go_ret
          exact ⟨rfl, bt HB0.out (bt HBc.out bz)⟩
end Go.Proofs.Ythjnghldedfdoaa
end
