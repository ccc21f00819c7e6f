/- The walk of the law AlphabetTrips. -/
import Derived.Test.YtiongejdedhcjaaDoorTripp
import Derived.RegionTactic
import Derived.ChangeAlike
namespace Go.Proofs.YtiongejdedhcjaaDoor
open Go.RowKit

theorem texV_size (ss : List ByteArray) (xs : List Int) : (texV ss xs).1.size ≤ 100000 := by
  by_cases hv : valV ss = 0
  · by_cases hk : chk xs ss.length = 0
    · obtain ⟨k1, k2, l1, hs⟩ := chk_zero hk
      have hN := nmL_nam hv hs
      have hjl := jn_len (btL (nmL ss xs)) (fun p hp => by
        unfold btL at hp
        rw [List.mem_map] at hp
        obtain ⟨x, hx, rfl⟩ := hp
        have := (hN x hx).2.2
        rw [← size_len] at this
        exact this)
      have hlen : (btL (nmL ss xs)).length = xs.length := by unfold btL; rw [List.length_map, nmL_len]
      rw [texV_ok rfl hv hk, ← size_len]
      show (jn _).length ≤ _
      omega
    · rw [texV_bad rfl hv hk]; exact Nat.zero_le _
  · rw [texV_inv hv]; exact Nat.zero_le _

set_option maxHeartbeats 4000000 in
set_option maxRecDepth 100000 in
theorem trips_n (A : Option Addr) (n c : Nat) (ss : List ByteArray) (V : Option Addr) (m d : Nat) (W : Option Addr) (k f : Nat) (s : ByteArray) (vs ws : List Int) (w W0 : World) (hc : n ≤ c) (h : Strs0 w A n ss) (hS0 : Strs W0 A n ss)
    (hW0 : W0 = ((w.alloc (.cells #[.slice A n c, .slice V m d, .slice W k f, .string s] 52)).alloc (.cells #[.slice A n c] 24)).drew) (b0 : Below w.heap.size w W0)
    (hx0 : W0.cell? ⟨w.heap.size + 1, 0, none⟩ = some (.slice A n c)) (hw : w.heap.size + 1 < W0.heap.size) (hgd : decide (Grt ss) = false) (iV : Ints W0 V m vs) (iW : Ints W0 W k ws) (h1 : ¬ 300 < m) (h2 : ¬ 300 < k) (h3 : ¬ 3000 < s.size)
    (hs : s.size ≤ 17592186044416) (x y : ByteArray) (ee ff hh : Int) (us : List Int) (HT1 : Hid (texV ss vs = (x, ee))) (HT2 : Hid (texV ss ws = (y, ff))) (HU : Hid (wrdV ss s = (us, hh))) (hzx : x.size ≤ 100000) (hzy : y.size ≤ 100000)
    (hT4 : hh = 0 → texV ss us = (s, 0)) (hempty : hh ≠ 0 → us = []) (hq : (ee == 0) = false) :
    Calls Tryd.prog 7 #[.agg #[.slice A n c, .slice V m d, .slice W k f, .string s]] w fun e w' => e = .returned (.bool true) ∧ Below w.heap.size w w' := by
  have _ := hzx
  have _ := hzy
  have HT4 := Lib.hid hT4
  have HE := Lib.hid hempty
  clear hT4 hempty
  go_enter Tryd.func7, Tryd.ntmps7
  go_wp2
  go_region
  go_wp2_with fail
  rw [← hW0]
  refine (rgreat0 A n c ss _ (h.below b0)).mono ?_
  rintro e w1 ⟨rfl, b1⟩
  rw [hgd]
  have hx1 := (b1.cell (p := ⟨w.heap.size + 1, 0, none⟩) hw).trans hx0
  go_wp2_with fail
  refine (ptext A n c ss V m d vs _ (hS0.below b1) hc (iV.below b1)).mono ?_
  rintro e w2 ⟨rfl, b2⟩
  rw [HT1.out]
  have b2 := bt b1 b2
  have hx2 := (b2.cell (p := ⟨w.heap.size + 1, 0, none⟩) hw).trans hx0
  go_wp2_with fail
  refine (ptext A n c ss W k f ws _ (hS0.below b2) hc (iW.below b2)).mono ?_
  rintro e w3 ⟨rfl, b3⟩
  rw [HT2.out]
  have b3 := bt b2 b3
  have hx3 := (b3.cell (p := ⟨w.heap.size + 1, 0, none⟩) hw).trans hx0
  clear hx1 hx2 b1 b2
  have hxc := (b3.cell (p := ⟨w.heap.size + 1, 0, none⟩) hw).trans hx0
  go_wp2_with fail
  refine (pword_law A n c ss s hs _ (hS0.below b3) hc).mono ?_
  rintro e w20 ⟨A20, n20, c20, rfl, i20, b20⟩
  rw [HU.out] at i20 ⊢
  have b20 := bt b3 b20
  have hx20 := (b20.cell (p := ⟨w.heap.size + 1, 0, none⟩) hw).trans hx0
  by_cases h0 : hh = 0
  · have HTT := Lib.hid (HT4.out h0)
    subst h0
    go_wp2_with fail
    refine (ptext A n c ss A20 n20 c20 us _ (hS0.below b20) hc i20).mono ?_
    rintro e w21 ⟨rfl, b21⟩
    rw [HTT.out]
    go_wp2_with (go_at_call 10; refine (awake _).mono ?_; rintro e w5 ⟨rfl, b5⟩)
    go_ret
    exact ⟨rfl, bt b0 (bt (bt b20 b21) b5)⟩
  · have hn20 : n20 = 0 := by have := i20.1; rw [HE.out h0] at this; exact this.symm
    have hne : (hh != 0) = true := by simpa using h0
    subst hn20
    clear h0
    go_wp2_with (go_at_call 10; refine (awake _).mono ?_; rintro e w5 ⟨rfl, b5⟩)
    go_ret
    exact ⟨rfl, bt b0 (bt b20 b5)⟩

set_option maxHeartbeats 4000000 in
set_option maxRecDepth 100000 in
theorem trips_a (A : Option Addr) (n c : Nat) (ss : List ByteArray) (V : Option Addr) (m d : Nat) (W : Option Addr) (k f : Nat) (s : ByteArray) (vs ws : List Int) (w W0 : World) (hc : n ≤ c) (h : Strs0 w A n ss) (hS0 : Strs W0 A n ss)
    (hW0 : W0 = ((w.alloc (.cells #[.slice A n c, .slice V m d, .slice W k f, .string s] 52)).alloc (.cells #[.slice A n c] 24)).drew) (b0 : Below w.heap.size w W0)
    (hx0 : W0.cell? ⟨w.heap.size + 1, 0, none⟩ = some (.slice A n c)) (hw : w.heap.size + 1 < W0.heap.size) (hgd : decide (Grt ss) = false) (iV : Ints W0 V m vs) (iW : Ints W0 W k ws) (h1 : ¬ 300 < m) (h2 : ¬ 300 < k) (h3 : ¬ 3000 < s.size)
    (hs : s.size ≤ 17592186044416) (x y : ByteArray) (ee ff hh : Int) (us : List Int) (HT1 : Hid (texV ss vs = (x, ee))) (HT2 : Hid (texV ss ws = (y, ff))) (HU : Hid (wrdV ss s = (us, hh))) (hzx : x.size ≤ 100000) (hzy : y.size ≤ 100000)
    (hT4 : hh = 0 → texV ss us = (s, 0)) (hempty : hh ≠ 0 → us = []) (HW1 : Hid (wrdV ss x = (vs, 0))) (he : ee = 0) (hq : (ff == 0) = false) :
    Calls Tryd.prog 7 #[.agg #[.slice A n c, .slice V m d, .slice W k f, .string s]] w fun e w' => e = .returned (.bool true) ∧ Below w.heap.size w w' := by
  subst he
  have _ := hzx
  have _ := hzy
  have HT4 := Lib.hid hT4
  have HE := Lib.hid hempty
  clear hT4 hempty
  go_enter Tryd.func7, Tryd.ntmps7
  go_wp2
  go_region
  go_wp2_with fail
  rw [← hW0]
  refine (rgreat0 A n c ss _ (h.below b0)).mono ?_
  rintro e w1 ⟨rfl, b1⟩
  rw [hgd]
  have hx1 := (b1.cell (p := ⟨w.heap.size + 1, 0, none⟩) hw).trans hx0
  go_wp2_with fail
  refine (ptext A n c ss V m d vs _ (hS0.below b1) hc (iV.below b1)).mono ?_
  rintro e w2 ⟨rfl, b2⟩
  rw [HT1.out]
  have b2 := bt b1 b2
  have hx2 := (b2.cell (p := ⟨w.heap.size + 1, 0, none⟩) hw).trans hx0
  go_wp2_with fail
  refine (ptext A n c ss W k f ws _ (hS0.below b2) hc (iW.below b2)).mono ?_
  rintro e w3 ⟨rfl, b3⟩
  rw [HT2.out]
  have b3 := bt b2 b3
  have hx3 := (b3.cell (p := ⟨w.heap.size + 1, 0, none⟩) hw).trans hx0
  clear hx1 hx2 b1 b2
  go_wp2_with fail
  refine (pword_law A n c ss x (by omega) _ (hS0.below b3) hc).mono ?_
  rintro e w4 ⟨A4, n4, c4, rfl, i4, b4⟩
  rw [HW1.out] at i4 ⊢
  have b4 := bt b3 b4
  have hx4 := (b4.cell (p := ⟨w.heap.size + 1, 0, none⟩) hw).trans hx0
  go_wp2_with fail
  refine (rsame A4 V n4 c4 m d vs vs true _ i4 (iV.below b4) (by simp)).mono ?_
  rintro e w6 ⟨rfl, h6⟩
  have b6 := bt b4 (rd_below h6)
  have hx6 := (b6.cell (p := ⟨w.heap.size + 1, 0, none⟩) hw).trans hx0
  clear hx3 hx4 b3 b4 h6
  have hxc := (b6.cell (p := ⟨w.heap.size + 1, 0, none⟩) hw).trans hx0
  go_wp2_with fail
  refine (pword_law A n c ss s hs _ (hS0.below b6) hc).mono ?_
  rintro e w20 ⟨A20, n20, c20, rfl, i20, b20⟩
  rw [HU.out] at i20 ⊢
  have b20 := bt b6 b20
  have hx20 := (b20.cell (p := ⟨w.heap.size + 1, 0, none⟩) hw).trans hx0
  by_cases h0 : hh = 0
  · have HTT := Lib.hid (HT4.out h0)
    subst h0
    go_wp2_with fail
    refine (ptext A n c ss A20 n20 c20 us _ (hS0.below b20) hc i20).mono ?_
    rintro e w21 ⟨rfl, b21⟩
    rw [HTT.out]
    go_wp2_with (go_at_call 10; refine (awake _).mono ?_; rintro e w5 ⟨rfl, b5⟩)
    go_ret
    exact ⟨rfl, bt b0 (bt (bt b20 b21) b5)⟩
  · have hn20 : n20 = 0 := by have := i20.1; rw [HE.out h0] at this; exact this.symm
    have hne : (hh != 0) = true := by simpa using h0
    subst hn20
    clear h0
    go_wp2_with (go_at_call 10; refine (awake _).mono ?_; rintro e w5 ⟨rfl, b5⟩)
    go_ret
    exact ⟨rfl, bt b0 (bt b20 b5)⟩

set_option maxHeartbeats 4000000 in
set_option maxRecDepth 100000 in
theorem trips_b (A : Option Addr) (n c : Nat) (ss : List ByteArray) (V : Option Addr) (m d : Nat) (W : Option Addr) (k f : Nat) (s : ByteArray) (vs ws : List Int) (w W0 : World) (hc : n ≤ c) (h : Strs0 w A n ss) (hS0 : Strs W0 A n ss)
    (hW0 : W0 = ((w.alloc (.cells #[.slice A n c, .slice V m d, .slice W k f, .string s] 52)).alloc (.cells #[.slice A n c] 24)).drew) (b0 : Below w.heap.size w W0)
    (hx0 : W0.cell? ⟨w.heap.size + 1, 0, none⟩ = some (.slice A n c)) (hw : w.heap.size + 1 < W0.heap.size) (hgd : decide (Grt ss) = false) (iV : Ints W0 V m vs) (iW : Ints W0 W k ws) (h1 : ¬ 300 < m) (h2 : ¬ 300 < k) (h3 : ¬ 3000 < s.size)
    (hs : s.size ≤ 17592186044416) (x y : ByteArray) (ee ff hh : Int) (us : List Int) (HT1 : Hid (texV ss vs = (x, ee))) (HT2 : Hid (texV ss ws = (y, ff))) (HU : Hid (wrdV ss s = (us, hh))) (hzx : x.size ≤ 100000) (hzy : y.size ≤ 100000)
    (hT4 : hh = 0 → texV ss us = (s, 0)) (hempty : hh ≠ 0 → us = []) (HW1 : Hid (wrdV ss x = (vs, 0))) (he : ee = 0) (hf : ff = 0) (hm0 : m < 1) :
    Calls Tryd.prog 7 #[.agg #[.slice A n c, .slice V m d, .slice W k f, .string s]] w fun e w' => e = .returned (.bool true) ∧ Below w.heap.size w w' := by
  subst he hf
  have _ := hzx
  have _ := hzy
  have HT4 := Lib.hid hT4
  have HE := Lib.hid hempty
  clear hT4 hempty
  go_enter Tryd.func7, Tryd.ntmps7
  go_wp2
  go_region
  go_wp2_with fail
  rw [← hW0]
  refine (rgreat0 A n c ss _ (h.below b0)).mono ?_
  rintro e w1 ⟨rfl, b1⟩
  rw [hgd]
  have hx1 := (b1.cell (p := ⟨w.heap.size + 1, 0, none⟩) hw).trans hx0
  go_wp2_with fail
  refine (ptext A n c ss V m d vs _ (hS0.below b1) hc (iV.below b1)).mono ?_
  rintro e w2 ⟨rfl, b2⟩
  rw [HT1.out]
  have b2 := bt b1 b2
  have hx2 := (b2.cell (p := ⟨w.heap.size + 1, 0, none⟩) hw).trans hx0
  go_wp2_with fail
  refine (ptext A n c ss W k f ws _ (hS0.below b2) hc (iW.below b2)).mono ?_
  rintro e w3 ⟨rfl, b3⟩
  rw [HT2.out]
  have b3 := bt b2 b3
  have hx3 := (b3.cell (p := ⟨w.heap.size + 1, 0, none⟩) hw).trans hx0
  clear hx1 hx2 b1 b2
  go_wp2_with fail
  refine (pword_law A n c ss x (by omega) _ (hS0.below b3) hc).mono ?_
  rintro e w4 ⟨A4, n4, c4, rfl, i4, b4⟩
  rw [HW1.out] at i4 ⊢
  have b4 := bt b3 b4
  have hx4 := (b4.cell (p := ⟨w.heap.size + 1, 0, none⟩) hw).trans hx0
  go_wp2_with fail
  refine (rsame A4 V n4 c4 m d vs vs true _ i4 (iV.below b4) (by simp)).mono ?_
  rintro e w6 ⟨rfl, h6⟩
  have b6 := bt b4 (rd_below h6)
  have hx6 := (b6.cell (p := ⟨w.heap.size + 1, 0, none⟩) hw).trans hx0
  clear hx3 hx4 b3 b4 h6
  have hxc := (b6.cell (p := ⟨w.heap.size + 1, 0, none⟩) hw).trans hx0
  go_wp2_with fail
  refine (pword_law A n c ss s hs _ (hS0.below b6) hc).mono ?_
  rintro e w20 ⟨A20, n20, c20, rfl, i20, b20⟩
  rw [HU.out] at i20 ⊢
  have b20 := bt b6 b20
  have hx20 := (b20.cell (p := ⟨w.heap.size + 1, 0, none⟩) hw).trans hx0
  by_cases h0 : hh = 0
  · have HTT := Lib.hid (HT4.out h0)
    subst h0
    go_wp2_with fail
    refine (ptext A n c ss A20 n20 c20 us _ (hS0.below b20) hc i20).mono ?_
    rintro e w21 ⟨rfl, b21⟩
    rw [HTT.out]
    go_wp2_with (go_at_call 10; refine (awake _).mono ?_; rintro e w5 ⟨rfl, b5⟩)
    go_ret
    exact ⟨rfl, bt b0 (bt (bt b20 b21) b5)⟩
  · have hn20 : n20 = 0 := by have := i20.1; rw [HE.out h0] at this; exact this.symm
    have hne : (hh != 0) = true := by simpa using h0
    subst hn20
    clear h0
    go_wp2_with (go_at_call 10; refine (awake _).mono ?_; rintro e w5 ⟨rfl, b5⟩)
    go_ret
    exact ⟨rfl, bt b0 (bt b20 b5)⟩

set_option maxHeartbeats 4000000 in
set_option maxRecDepth 100000 in
theorem trips_c (A : Option Addr) (n c : Nat) (ss : List ByteArray) (V : Option Addr) (m d : Nat) (W : Option Addr) (k f : Nat) (s : ByteArray) (vs ws : List Int) (w W0 : World) (hc : n ≤ c) (h : Strs0 w A n ss) (hS0 : Strs W0 A n ss)
    (hW0 : W0 = ((w.alloc (.cells #[.slice A n c, .slice V m d, .slice W k f, .string s] 52)).alloc (.cells #[.slice A n c] 24)).drew) (b0 : Below w.heap.size w W0)
    (hx0 : W0.cell? ⟨w.heap.size + 1, 0, none⟩ = some (.slice A n c)) (hw : w.heap.size + 1 < W0.heap.size) (hgd : decide (Grt ss) = false) (iV : Ints W0 V m vs) (iW : Ints W0 W k ws) (h1 : ¬ 300 < m) (h2 : ¬ 300 < k) (h3 : ¬ 3000 < s.size)
    (hs : s.size ≤ 17592186044416) (x y : ByteArray) (ee ff hh : Int) (us : List Int) (HT1 : Hid (texV ss vs = (x, ee))) (HT2 : Hid (texV ss ws = (y, ff))) (HU : Hid (wrdV ss s = (us, hh))) (hzx : x.size ≤ 100000) (hzy : y.size ≤ 100000)
    (hT4 : hh = 0 → texV ss us = (s, 0)) (hempty : hh ≠ 0 → us = []) (HW1 : Hid (wrdV ss x = (vs, 0))) (he : ee = 0) (hf : ff = 0) (hm0 : 0 < m) (hk0 : k < 1) :
    Calls Tryd.prog 7 #[.agg #[.slice A n c, .slice V m d, .slice W k f, .string s]] w fun e w' => e = .returned (.bool true) ∧ Below w.heap.size w w' := by
  subst he hf
  have _ := hzx
  have _ := hzy
  have HT4 := Lib.hid hT4
  have HE := Lib.hid hempty
  clear hT4 hempty
  go_enter Tryd.func7, Tryd.ntmps7
  go_wp2
  go_region
  go_wp2_with fail
  rw [← hW0]
  refine (rgreat0 A n c ss _ (h.below b0)).mono ?_
  rintro e w1 ⟨rfl, b1⟩
  rw [hgd]
  have hx1 := (b1.cell (p := ⟨w.heap.size + 1, 0, none⟩) hw).trans hx0
  go_wp2_with fail
  refine (ptext A n c ss V m d vs _ (hS0.below b1) hc (iV.below b1)).mono ?_
  rintro e w2 ⟨rfl, b2⟩
  rw [HT1.out]
  have b2 := bt b1 b2
  have hx2 := (b2.cell (p := ⟨w.heap.size + 1, 0, none⟩) hw).trans hx0
  go_wp2_with fail
  refine (ptext A n c ss W k f ws _ (hS0.below b2) hc (iW.below b2)).mono ?_
  rintro e w3 ⟨rfl, b3⟩
  rw [HT2.out]
  have b3 := bt b2 b3
  have hx3 := (b3.cell (p := ⟨w.heap.size + 1, 0, none⟩) hw).trans hx0
  clear hx1 hx2 b1 b2
  go_wp2_with fail
  refine (pword_law A n c ss x (by omega) _ (hS0.below b3) hc).mono ?_
  rintro e w4 ⟨A4, n4, c4, rfl, i4, b4⟩
  rw [HW1.out] at i4 ⊢
  have b4 := bt b3 b4
  have hx4 := (b4.cell (p := ⟨w.heap.size + 1, 0, none⟩) hw).trans hx0
  go_wp2_with fail
  refine (rsame A4 V n4 c4 m d vs vs true _ i4 (iV.below b4) (by simp)).mono ?_
  rintro e w6 ⟨rfl, h6⟩
  have b6 := bt b4 (rd_below h6)
  have hx6 := (b6.cell (p := ⟨w.heap.size + 1, 0, none⟩) hw).trans hx0
  clear hx3 hx4 b3 b4 h6
  have hxc := (b6.cell (p := ⟨w.heap.size + 1, 0, none⟩) hw).trans hx0
  go_wp2_with fail
  refine (pword_law A n c ss s hs _ (hS0.below b6) hc).mono ?_
  rintro e w20 ⟨A20, n20, c20, rfl, i20, b20⟩
  rw [HU.out] at i20 ⊢
  have b20 := bt b6 b20
  have hx20 := (b20.cell (p := ⟨w.heap.size + 1, 0, none⟩) hw).trans hx0
  by_cases h0 : hh = 0
  · have HTT := Lib.hid (HT4.out h0)
    subst h0
    go_wp2_with fail
    refine (ptext A n c ss A20 n20 c20 us _ (hS0.below b20) hc i20).mono ?_
    rintro e w21 ⟨rfl, b21⟩
    rw [HTT.out]
    go_wp2_with (go_at_call 10; refine (awake _).mono ?_; rintro e w5 ⟨rfl, b5⟩)
    go_ret
    exact ⟨rfl, bt b0 (bt (bt b20 b21) b5)⟩
  · have hn20 : n20 = 0 := by have := i20.1; rw [HE.out h0] at this; exact this.symm
    have hne : (hh != 0) = true := by simpa using h0
    subst hn20
    clear h0
    go_wp2_with (go_at_call 10; refine (awake _).mono ?_; rintro e w5 ⟨rfl, b5⟩)
    go_ret
    exact ⟨rfl, bt b0 (bt b20 b5)⟩

end Go.Proofs.YtiongejdedhcjaaDoor
