/- The walk of the law AlphabetTrips: both texts. -/
import Derived.Test.YtiongejdedhcjaaDoorTripp
import Derived.Test.YtiongejdedhcjaaDoorJoin
import Derived.RegionTactic
import Derived.ChangeAlike
import Derived.Deep.RegionHeld3
namespace Go.Proofs.YtiongejdedhcjaaDoor
open Go.RowKit

/-- The reference's Join of a literal of two lists, behind a draw. -/
theorem join2d (w : World) (A B : Option Addr) (n m c d : Nat) (xs ys : List Int) (hx : Ints w A n xs) (hy : Ints w B m ys) (hl : n + m ≤ 100000) :
    Calls Tryd.prog 25 #[.slice (some ⟨w.heap.size, 0, none⟩) 2 2] (w.alloc (.cells #[.slice A n c, .slice B m d] 34)).drew
      fun e w' => ∃ A' c', e = .returned (.slice A' (n + m) c') ∧ Ints w' A' (n + m) (xs ++ ys) ∧ Below w.heap.size w w' := by
  have hb := alloc_below w (.cells #[.slice A n c, .slice B m d] 34)
  have hls : Lists (w.alloc (.cells #[.slice A n c, .slice B m d] 34)) (some ⟨w.heap.size, 0, none⟩) 2 [xs, ys] := by
    refine ⟨rfl, by omega, fun _ => ⟨w.heap.size, 0, rfl, by simp, fun j hj => ?_⟩⟩
    have hc := fun j => cell_of_row (w.alloc (.cells #[.slice A n c, .slice B m d] 34)) w.heap.size j #[.slice A n c, .slice B m d] 34 (0, 0) (heap_alloc_new w _)
    rw [Nat.zero_add, hc j]
    match j, hj with
    | 0, _ => exact ⟨A, n, c, rfl, hx.below hb⟩
    | 1, _ => exact ⟨B, m, d, rfl, hy.below hb⟩
  have hls' : Lists (w.alloc (.cells #[.slice A n c, .slice B m d] 34)).drew (some ⟨w.heap.size, 0, none⟩) 2 [xs, ys] := hls
  have hlen : ([xs, ys] : List (List Int)).flatten.length = n + m := by simp; rw [hx.1, hy.1]
  refine (rjoin _ _ _ [xs, ys] _ hls' (by rw [hlen]; omega)).mono ?_
  rintro e w' ⟨v, rfl, ho, hbw⟩
  obtain ⟨A', c', e⟩ := ho.form
  rw [hlen] at e
  subst e
  rw [show ([xs, ys] : List (List Int)).flatten = xs ++ ys by simp] at ho
  exact ⟨A', c', rfl, ho.ints (by rw [List.length_append, hx.1, hy.1]; omega), hb.drew.trans (hbw.mono hb.size)⟩

set_option maxHeartbeats 4000000 in
set_option maxRecDepth 100000 in
theorem trips_d (A : Option Addr) (n c : Nat) (ss : List ByteArray) (V : Option Addr) (m d : Nat) (W : Option Addr) (k f : Nat) (s : ByteArray) (vs ws : List Int) (w W0 : World) (hc : n ≤ c) (h : Strs0 w A n ss) (hS0 : Strs W0 A n ss)
    (hW0 : W0 = ((w.alloc (.cells #[.slice A n c, .slice V m d, .slice W k f, .string s] 52)).alloc (.cells #[.slice A n c] 24)).drew) (b0 : Below w.heap.size w W0)
    (hx0 : W0.cell? ⟨w.heap.size + 1, 0, none⟩ = some (.slice A n c)) (hw : w.heap.size + 1 < W0.heap.size) (hgd : decide (Grt ss) = false) (iV : Ints W0 V m vs) (iW : Ints W0 W k ws) (h1 : ¬ 300 < m) (h2 : ¬ 300 < k) (h3 : ¬ 3000 < s.size)
    (hs : s.size ≤ 17592186044416) (x y : ByteArray) (ee ff hh : Int) (us : List Int) (HT1 : Hid (texV ss vs = (x, ee))) (HT2 : Hid (texV ss ws = (y, ff))) (HU : Hid (wrdV ss s = (us, hh))) (hzx : x.size ≤ 100000) (hzy : y.size ≤ 100000)
    (hT4 : hh = 0 → texV ss us = (s, 0)) (hempty : hh ≠ 0 → us = []) (HW1 : Hid (wrdV ss x = (vs, 0))) (HT3 : Hid (texV ss (vs ++ ws) = (x ++ ⟨#[32]⟩ ++ y, 0))) (he : ee = 0) (hf : ff = 0) (hm0 : 0 < m) (hk0 : 0 < k) :
    Calls Tryd.prog 7 #[.agg #[.slice A n c, .slice V m d, .slice W k f, .string s]] w fun e w' => e = .returned (.bool true) ∧ Below w.heap.size w w' := by
  subst he hf
  have HJL : Hid (m + k ≤ 100000) := Lib.hid (by omega)
  have _ := hzx
  have _ := hzy
  have HT4 := Lib.hid hT4
  have HE := Lib.hid hempty
  clear hT4 hempty
  go_enter Tryd.func7, Tryd.ntmps7
  go_wp2
  go_region
  go_wp2_with fail
  rw [← hW0]
  refine (rgreat0 A n c ss _ (h.below b0)).mono ?_
  rintro e w1 ⟨rfl, b1⟩
  rw [hgd]
  have hx1 := (b1.cell (p := ⟨w.heap.size + 1, 0, none⟩) hw).trans hx0
  go_wp2_with fail
  refine (ptext A n c ss V m d vs _ (hS0.below b1) hc (iV.below b1)).mono ?_
  rintro e w2 ⟨rfl, b2⟩
  rw [HT1.out]
  have b2 := bt b1 b2
  have hx2 := (b2.cell (p := ⟨w.heap.size + 1, 0, none⟩) hw).trans hx0
  go_wp2_with fail
  refine (ptext A n c ss W k f ws _ (hS0.below b2) hc (iW.below b2)).mono ?_
  rintro e w3 ⟨rfl, b3⟩
  rw [HT2.out]
  have b3 := bt b2 b3
  have hx3 := (b3.cell (p := ⟨w.heap.size + 1, 0, none⟩) hw).trans hx0
  clear hx1 hx2 b1 b2
  go_wp2_with fail
  refine (pword_law A n c ss x (by omega) _ (hS0.below b3) hc).mono ?_
  rintro e w4 ⟨A4, n4, c4, rfl, i4, b4⟩
  rw [HW1.out] at i4 ⊢
  have b4 := bt b3 b4
  have hx4 := (b4.cell (p := ⟨w.heap.size + 1, 0, none⟩) hw).trans hx0
  go_wp2_with fail
  refine (rsame A4 V n4 c4 m d vs vs true _ i4 (iV.below b4) (by simp)).mono ?_
  rintro e w6 ⟨rfl, h6⟩
  have b6 := bt b4 (rd_below h6)
  have hx6 := (b6.cell (p := ⟨w.heap.size + 1, 0, none⟩) hw).trans hx0
  clear hx3 hx4 b3 b4 h6
  have hbc := b6.drew
  have hxc := hx6
  go_wp2
  go_region_held3 (fun w' => w'.cell? ⟨w.heap.size + 1, 0, none⟩ = some (.slice A n c)) (first | exact hxc | (simpa using hxc) | exact ((alloc_below _ _).cell (by have := b6.size; show w.heap.size + 1 < w6.heap.size; omega)).trans hxc) (first
    | (go_at_call 25; refine (join2d w6 V W m k d f vs ws (iV.below b6) (iW.below b6) HJL.out).mono ?_; rintro e w' ⟨A', c', rfl, ij, b'⟩; have hbc := bt b6 b'; have hxc := (hbc.cell (p := ⟨w.heap.size + 1, 0, none⟩) hw).trans hx0)
    | (go_at_call 20; refine (ptext A n c ss _ _ _ (vs ++ ws) _ (hS0.below hbc) hc ij).mono ?_; rintro e w' ⟨rfl, b'⟩; rw [HT3.out]; have hbc := bt hbc b'; have hxc := (hbc.cell (p := ⟨w.heap.size + 1, 0, none⟩) hw).trans hx0))
  go_wp2_with fail
  have hxc := (hbc.cell (p := ⟨w.heap.size + 1, 0, none⟩) hw).trans hx0
  go_wp2_with fail
  refine (pword_law A n c ss s hs _ (hS0.below hbc) hc).mono ?_
  rintro e w20 ⟨A20, n20, c20, rfl, i20, b20⟩
  rw [HU.out] at i20 ⊢
  have b20 := bt hbc b20
  have hx20 := (b20.cell (p := ⟨w.heap.size + 1, 0, none⟩) hw).trans hx0
  by_cases h0 : hh = 0
  · have HTT := Lib.hid (HT4.out h0)
    subst h0
    go_wp2_with fail
    refine (ptext A n c ss A20 n20 c20 us _ (hS0.below b20) hc i20).mono ?_
    rintro e w21 ⟨rfl, b21⟩
    rw [HTT.out]
    go_wp2_with (go_at_call 10; refine (awake _).mono ?_; rintro e w5 ⟨rfl, b5⟩)
    go_ret
    exact ⟨rfl, bt b0 (bt (bt b20 b21) b5)⟩
  · have hn20 : n20 = 0 := by have := i20.1; rw [HE.out h0] at this; exact this.symm
    have hne : (hh != 0) = true := by simpa using h0
    subst hn20
    clear h0
    go_wp2_with (go_at_call 10; refine (awake _).mono ?_; rintro e w5 ⟨rfl, b5⟩)
    go_ret
    exact ⟨rfl, bt b0 (bt b20 b5)⟩

end Go.Proofs.YtiongejdedhcjaaDoor
