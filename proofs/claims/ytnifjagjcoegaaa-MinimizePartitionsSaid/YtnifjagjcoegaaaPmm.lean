/- Min and Minimal. -/
import Derived.Test.YtnifjagjcoegaaaPmn
import Derived.Test.YtnifjagjcoegaaaMnp
namespace Go.Proofs.Ytnifjagjcoegaaa
open Go.RowKit

theorem lists_ownedM {w : World} {base : Nat} {A : Option Addr} {n c i st : Nat} {nx ot : List (List Int)} (hM : Mok i st n nx ot) (h : OwnedL w base (.slice A n c) nx) : Lists w A n nx :=
  h.lists (by rw [hM.nxl]; have := hM.n2; omega) fun xs hxs => by
    obtain ⟨s, hs, rfl⟩ := List.getElem_of_mem hxs
    have h1 := (hM.row s (by rw [← hM.nxl]; exact hs)).1
    rw [List.getD_eq_getElem?_getD, List.getElem?_eq_getElem hs] at h1
    have := hM.i2
    have h1 : nx[s].length = i := h1
    omega
theorem lists_ownedO {w : World} {base : Nat} {A : Option Addr} {n c i st : Nat} {nx ot : List (List Int)} (hM : Mok i st n nx ot) (h : OwnedL w base (.slice A n c) ot) : Lists w A n ot :=
  h.lists (by rw [hM.otl]; have := hM.n2; omega) fun xs hxs => by
    obtain ⟨s, hs, rfl⟩ := List.getElem_of_mem hxs
    have h1 := (hM.row s (by rw [← hM.otl]; exact hs)).2.1
    rw [List.getD_eq_getElem?_getD, List.getElem?_eq_getElem hs] at h1
    have := hM.i2
    have h1 : ot[s].length = i := h1
    omega
set_option maxHeartbeats 2000000 in
theorem pmin_bad (i st : Int) (A B : Option Addr) (n c m d : Nat) (nx ot : List (List Int)) (w : World) (hx : Lists w A n nx) (ho : Lists w B m ot) (hv : ¬ vld i st nx ot = 0) :
    Calls Try.prog 54 #[.agg #[.int .i64 i, .int .i64 st, .slice A n c, .slice B m d]] w fun e w' => e = .returned (.tuple #[.agg #[.int .i64 0, .int .i64 0, .slice none 0 0, .slice none 0 0], .int .i64 (vld i st nx ot)]) ∧ Below w.heap.size w w' := by
  have hb0 := alloc_below w (.cells #[.int .i64 i, .int .i64 st, .slice A n c, .slice B m d] 58)
  have hb1 := bt hb0 (alloc_below (w.alloc (.cells #[.int .i64 i, .int .i64 st, .slice A n c, .slice B m d] 58)) (.cells #[.int .i64 0, .int .i64 0, .slice none 0 0, .slice none 0 0] 58))
  have hne : (vld i st nx ot != 0) = true := by simpa using hv
  go_enter Try.func54, Try.ntmps54
  go_wp2_with fail
  refine (pcls_bad _ _ _ _ _ _ _ _ _ _ _ (hx.below hb1) (ho.below hb1) hv).mono ?_
  rintro e w1 ⟨rfl, b1⟩
  have hR : Mblk w1 (w.heap.size + 1) (.int .i64 0) (.int .i64 0) (.slice none 0 0) (.slice none 0 0) := by
    refine Mblk.kept ?_ b1 (by simp)
    have := heap_alloc_new (w.alloc (.cells #[.int .i64 i, .int .i64 st, .slice A n c, .slice B m d] 58)) (.cells #[.int .i64 0, .int .i64 0, .slice none 0 0, .slice none 0 0] 58)
    simpa [Mblk] using this
  obtain ⟨c0, c1, c2, c3, f0, f1, f2, f3⟩ := hR.cells
  have HR := Lib.hid hR
  generalize hE : vld i st nx ot = E at hne hv
  have HE := Lib.hid hE
  clear hv hR hE
  go_wp2
  (try simp only [Exit.inBlock, Exit.then])
  refine bodyPost_ret (results_mealy rfl _ _ (w.heap.size + 1) (.int .i64 0) (.int .i64 0) (.slice none 0 0) (.slice none 0 0) rfl (HR.out.set4 _ _ _ _)) rfl ?_
  have hl : ∀ k, w.heap.size ≤ (⟨w.heap.size + 1, k, none⟩ : Addr).block := fun k => Nat.le_succ _
  exact ⟨by rw [HE.out]; rfl, (((((bt hb1 b1).setCell (hl 0) _).setCell (hl 1) _).setCell (hl 2) _).setCell (hl 3) _)⟩
set_option maxHeartbeats 2000000 in
theorem pmin_ok (i st n : Nat) (A B : Option Addr) (c d : Nat) (nx ot : List (List Int)) (w : World) (hx : Lists w A n nx) (ho : Lists w B n ot) (hM : Mok i st n nx ot) :
    Calls Try.prog 54 #[.agg #[.int .i64 i, .int .i64 st, .slice A n c, .slice B n d]] w fun e w' => ∃ A' c' B' d',
      e = .returned (.tuple #[.agg #[.int .i64 i, .int .i64 0, .slice A' (mnR nx ot i st n).length c', .slice B' (mnR nx ot i st n).length d'], .int .i64 0]) ∧
      OwnedL w' w.heap.size (.slice A' (mnR nx ot i st n).length c') (mnN nx ot i st n) ∧ OwnedL w' w.heap.size (.slice B' (mnR nx ot i st n).length d') (mnO nx ot i st n) ∧ Below w.heap.size w w' := by
  have hb0 := alloc_below w (.cells #[.int .i64 i, .int .i64 st, .slice A n c, .slice B n d] 58)
  have hb1 := bt hb0 (alloc_below (w.alloc (.cells #[.int .i64 i, .int .i64 st, .slice A n c, .slice B n d] 58)) (.cells #[.int .i64 0, .int .i64 0, .slice none 0 0, .slice none 0 0] 58))
  have hB := (mealy_box w (.int .i64 i) (.int .i64 st) (.slice A n c) (.slice B n d)).kept (alloc_below (w.alloc (.cells #[.int .i64 i, .int .i64 st, .slice A n c, .slice B n d] 58)) (.cells #[.int .i64 0, .int .i64 0, .slice none 0 0, .slice none 0 0] 58)) (by simp)
  have hR : Mblk ((w.alloc (.cells #[.int .i64 i, .int .i64 st, .slice A n c, .slice B n d] 58)).alloc (.cells #[.int .i64 0, .int .i64 0, .slice none 0 0, .slice none 0 0] 58)) (w.heap.size + 1) (.int .i64 0) (.int .i64 0) (.slice none 0 0) (.slice none 0 0) := by
    have := mealy_box (w.alloc (.cells #[.int .i64 i, .int .i64 st, .slice A n c, .slice B n d] 58)) (.int .i64 0) (.int .i64 0) (.slice none 0 0) (.slice none 0 0)
    simpa using this
  have HB := Lib.hid hB
  have HR := Lib.hid hR
  have HP := Lib.hid (show zs (pt nx ot i n (dep nx ot i n)) = zs (num (eqc nx ot i n) n) by rw [pt_num hM]; rfl)
  have hMq := hM.quot (eqc nx ot i n)
  have HE1 := Lib.hid (show mnR nx ot i st n = rch (qN nx i (eqc nx ot i n) n) i (nmb (eqc nx ot i n) st) from rfl)
  have HE2 := Lib.hid (show mnN nx ot i st n = trN (qN nx i (eqc nx ot i n) n) i (mnR nx ot i st n) from rfl)
  have HE3 := Lib.hid (show mnO nx ot i st n = trO (qO ot (eqc nx ot i n) n) (mnR nx ot i st n) from rfl)
  generalize eqc nx ot i n = f at HP hMq HE1 HE2 HE3
  clear hB hR
  go_enter Try.func54, Try.ntmps54
  go_wp2_with fail
  refine (pcls_ok _ _ _ _ _ _ _ _ _ _ (hx.below hb1) (ho.below hb1) hM).mono ?_
  rintro e w1 ⟨A1, c1, rfl, hO, b1⟩
  rw [HP.out] at hO
  have hI := Owned.ints hO (by rw [zs_len, num_len]; have := hM.n2; omega)
  obtain ⟨k0, k1, k2, k3, _⟩ := (HB.out.kept b1 (by simp; omega)).cells
  have HR1 := Lib.hid (HR.out.kept b1 (by simp))
  have b1 := bt hb1 b1
  clear hO
  go_wp2_with fail
  refine (pquot _ _ _ _ _ _ _ _ _ _ _ f _ (hx.below b1) (ho.below b1) hM hI).mono ?_
  rintro e w2 ⟨A2, c2, B2, d2, rfl, hN, hO, b2⟩
  have hLN := lists_ownedM hMq hN
  have hLO := lists_ownedO hMq hO
  have HR2 := Lib.hid (HR1.out.kept b2 (by have := b1.size; have h := heap_lt HR1.out; omega))
  have b2 := bt b1 b2
  clear k0 k1 k2 k3 hN hO hI
  go_wp2_with fail
  refine (ptrim_ok _ _ _ _ _ _ _ _ _ _ hLN hLO hMq).mono ?_
  rintro e w3 ⟨A3, c3, B3, d3, rfl, hN, hO, b3⟩
  rw [← HE1.out] at hN hO ⊢
  rw [← HE2.out] at hN
  rw [← HE3.out] at hO
  have hR3 := HR2.out.kept b3 (by have h := heap_lt HR2.out; omega)
  have hz2 := b2.size
  have b3 := bt b2 b3
  obtain ⟨y0, y1, y2, y3, z0, z1, z2, z3⟩ := hR3.cells
  have hl : ∀ k, w.heap.size ≤ (⟨w.heap.size + 1, k, none⟩ : Addr).block := fun k => Nat.le_succ _
  obtain ⟨L, hL⟩ : ∃ L, L = (mnR nx ot i st n).length := ⟨_, rfl⟩
  rw [← hL] at hN hO ⊢
  have HL := Lib.hid hL
  clear hL
  have hfb := Lib.hid (((((b3.setCell (hl 0) (.int .i64 i)).setCell (hl 1) (.int .i64 0)).setCell (hl 2) (.slice A3 L c3)).setCell (hl 3) (.slice B3 L d3)))
  have hR4 := Lib.hid (hR3.set4 (.int .i64 i) (.int .i64 0) (.slice A3 L c3) (.slice B3 L d3))
  have hq1 := hR3
  have hq2 : Mblk (w3.setCell ⟨w.heap.size + 1, 0, none⟩ (.int .i64 i)) (w.heap.size + 1) _ _ _ _ := heap_setCell_same w3 _ 0 _ _ _ hq1
  have hq3 : Mblk ((w3.setCell ⟨w.heap.size + 1, 0, none⟩ (.int .i64 i)).setCell ⟨w.heap.size + 1, 1, none⟩ (.int .i64 0)) (w.heap.size + 1) _ _ _ _ := heap_setCell_same _ _ 1 _ _ _ hq2
  have hq4 : Mblk (((w3.setCell ⟨w.heap.size + 1, 0, none⟩ (.int .i64 i)).setCell ⟨w.heap.size + 1, 1, none⟩ (.int .i64 0)).setCell ⟨w.heap.size + 1, 2, none⟩ (.slice A3 L c3)) (w.heap.size + 1) _ _ _ _ := heap_setCell_same _ _ 2 _ _ _ hq3
  have hN10 := Lib.hid (((((hN.offM hq1 (.int .i64 i) (j := 0)).offM hq2 (.int .i64 0) (j := 1)).offM hq3 (.slice A3 L c3) (j := 2)).offM hq4 (.slice B3 L d3) (j := 3)).lower (base' := w.heap.size) hz2)
  have hO10 := Lib.hid (((((hO.offM hq1 (.int .i64 i) (j := 0)).offM hq2 (.int .i64 0) (j := 1)).offM hq3 (.slice A3 L c3) (j := 2)).offM hq4 (.slice B3 L d3) (j := 3)).lower (base' := w.heap.size) hz2)
  clear hR3 hq1 hq2 hq3 hq4 hN hO hl
  go_wp2
  (try simp only [Exit.inBlock, Exit.then])
  refine bodyPost_ret (results_mealy rfl _ _ (w.heap.size + 1) _ _ _ _ rfl hR4.out) rfl ?_
  rw [← HL.out]
  exact ⟨A3, c3, B3, d3, rfl, hN10.out, hO10.out, hfb.out⟩
end Go.Proofs.Ytnifjagjcoegaaa
