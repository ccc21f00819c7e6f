/- The walks of the laws AlphabetChecks, AlphabetWords, AlphabetTexts. -/
import Derived.Test.YtiongejdedhcjaaDoorAlaws
import Derived.Deep.RegionHeld3
namespace Go.Proofs.YtiongejdedhcjaaDoor
open Go.RowKit


set_option maxHeartbeats 1000000 in
theorem checks_walk (A : Option Addr) (n c : Nat) (ss : List ByteArray) (s : ByteArray) (w : World) (hc : n ≤ c) (h : Strs0 w A n ss) :
    Calls Tryd.prog 3 #[.agg #[.slice A n c], .string s] w fun e w' => e = .returned (.bool true) ∧ Below w.heap.size w w' := by
  have hb0 := alloc_below w (.cells #[.slice A n c] 24)
  have hx0 : (w.alloc (.cells #[.slice A n c] 24)).cell? ⟨w.heap.size, 0, none⟩ = some (.slice A n c) := by rw [cell_of_row _ _ 0 _ _ _ (heap_alloc_new _ _)]; rfl
  by_cases hg : Grt ss
  · have hgd := decide_eq_true hg
    clear hg
    go_enter Tryd.func3, Tryd.ntmps3
    go_wp2_with fail
    refine (rgreat0 A n c ss _ (h.below hb0)).mono ?_
    rintro e w1 ⟨rfl, b1⟩
    rw [hgd]
    go_wp2_with (go_at_call 10; refine (awake _).mono ?_; rintro e w5 ⟨rfl, b5⟩)
    go_ret
    exact ⟨rfl, bt (bt hb0 b1) b5⟩
  · have hgd := decide_eq_false hg
    obtain ⟨hS, hn, _⟩ := h.small hg
    clear hg
    by_cases h1 : 100 < s.size
    · go_enter Tryd.func3, Tryd.ntmps3
      go_wp2_with fail
      refine (rgreat0 A n c ss _ (h.below hb0)).mono ?_
      rintro e w1 ⟨rfl, b1⟩
      rw [hgd]
      go_wp2_with (go_at_call 10; refine (awake _).mono ?_; rintro e w5 ⟨rfl, b5⟩)
      go_ret
      exact ⟨rfl, bt (bt hb0 b1) b5⟩
    · have hs : s.size ≤ 17592186044416 := by omega
      have hw : w.heap.size < (w.alloc (.cells #[.slice A n c] 24)).heap.size := by simp
      go_enter Tryd.func3, Tryd.ntmps3
      go_wp2_with fail
      generalize hW : w.alloc (.cells #[.slice A n c] 24) = W0 at hb0 hx0 hw ⊢
      clear hW
      refine (rgreat0 A n c ss _ (h.below hb0)).mono ?_
      rintro e w1 ⟨rfl, b1⟩
      rw [hgd]
      have hx1 := (b1.cell (p := ⟨w.heap.size, 0, none⟩) hw).trans hx0
      go_wp2_with fail
      refine (pindex A n c ss s _ (hS.below (bt hb0 b1))).mono ?_
      rintro e w2 ⟨rfl, b2⟩
      have b2 := bt b1 b2
      have hx2 := (b2.cell (p := ⟨w.heap.size, 0, none⟩) hw).trans hx0
      clear hx1 b1
      go_wp2_with fail
      refine (rindex A n c ss s _ (hS.below (bt hb0 b2))).mono ?_
      rintro e w3 ⟨rfl, b3⟩
      have b3 := bt b2 b3
      have hx3 := (b3.cell (p := ⟨w.heap.size, 0, none⟩) hw).trans hx0
      clear hx2 b2
      have hbc := b3.drew
      have hxc := hx3
      clear b3
      go_wp2
      go_region_held3 (fun w' => w'.cell? ⟨w.heap.size, 0, none⟩ = some (.slice A n c)) (first | exact hxc | (simpa using hxc)) (first
        | (go_at_call 13; refine (pvalid A n c ss _ (hS.below (bt hb0 hbc)) hc).mono ?_; rintro e w' ⟨rfl, b'⟩; have hbc := bt hbc b'; have hxc := (hbc.cell (p := ⟨w.heap.size, 0, none⟩) hw).trans hx0)
        | (go_at_call 14; refine (rvalid A n c ss _ (hS.below (bt hb0 hbc))).mono ?_; rintro e w' ⟨rfl, b'⟩; have hbc := bt hbc b'; have hxc := (hbc.cell (p := ⟨w.heap.size, 0, none⟩) hw).trans hx0)
        | (go_at_call 15; refine (pname s hs _).mono ?_; rintro e w' ⟨rfl, b'⟩; have hbc := bt hbc b'; have hxc := (hbc.cell (p := ⟨w.heap.size, 0, none⟩) hw).trans hx0)
        | (go_at_call 16; refine (rname s hs _).mono ?_; rintro e w' ⟨rfl, rfl⟩)
        | (go_at_call 10; refine (awake _).mono ?_; rintro e w' ⟨rfl, b'⟩; have hbc := bt hbc b'; have hxc := (hbc.cell (p := ⟨w.heap.size, 0, none⟩) hw).trans hx0))
      all_goals
        go_wp2
        go_ret
        exact ⟨rfl, bt hb0 hbc⟩

set_option maxHeartbeats 2000000 in
theorem words_walk (A : Option Addr) (n c : Nat) (ss : List ByteArray) (s : ByteArray) (w : World) (hc : n ≤ c) (h : Strs0 w A n ss) :
    Calls Tryd.prog 4 #[.agg #[.slice A n c], .string s] w fun e w' => e = .returned (.bool true) ∧ Below w.heap.size w w' := by
  have hb0 := alloc_below w (.cells #[.slice A n c] 24)
  have hx0 : (w.alloc (.cells #[.slice A n c] 24)).cell? ⟨w.heap.size, 0, none⟩ = some (.slice A n c) := by rw [cell_of_row _ _ 0 _ _ _ (heap_alloc_new _ _)]; rfl
  by_cases hg : Grt ss
  · have hgd := decide_eq_true hg
    clear hg
    go_enter Tryd.func4, Tryd.ntmps4
    go_wp2_with fail
    refine (rgreat0 A n c ss _ (h.below hb0)).mono ?_
    rintro e w1 ⟨rfl, b1⟩
    rw [hgd]
    go_wp2_with (go_at_call 10; refine (awake _).mono ?_; rintro e w5 ⟨rfl, b5⟩)
    go_ret
    exact ⟨rfl, bt (bt hb0 b1) b5⟩
  · have hgd := decide_eq_false hg
    obtain ⟨hS, hn, _⟩ := h.small hg
    clear hg
    by_cases h1 : 3000 < s.size
    · go_enter Tryd.func4, Tryd.ntmps4
      go_wp2_with fail
      refine (rgreat0 A n c ss _ (h.below hb0)).mono ?_
      rintro e w1 ⟨rfl, b1⟩
      rw [hgd]
      go_wp2_with (go_at_call 10; refine (awake _).mono ?_; rintro e w5 ⟨rfl, b5⟩)
      go_ret
      exact ⟨rfl, bt (bt hb0 b1) b5⟩
    · have hs : s.size ≤ 17592186044416 := by omega
      have hw : w.heap.size < (w.alloc (.cells #[.slice A n c] 24)).heap.size := by simp
      go_enter Tryd.func4, Tryd.ntmps4
      go_wp2_with fail
      generalize hW : w.alloc (.cells #[.slice A n c] 24) = W0 at hb0 hx0 hw ⊢
      clear hW
      refine (rgreat0 A n c ss _ (h.below hb0)).mono ?_
      rintro e w1 ⟨rfl, b1⟩
      rw [hgd]
      have hx1 := (b1.cell (p := ⟨w.heap.size, 0, none⟩) hw).trans hx0
      go_wp2_with fail
      refine (pword_law A n c ss s hs _ (hS.below (bt hb0 b1)) hc).mono ?_
      rintro e w2 ⟨A2, n2, c2, rfl, i2, b2⟩
      have b2 := bt b1 b2
      have hx2 := (b2.cell (p := ⟨w.heap.size, 0, none⟩) hw).trans hx0
      clear hx1 b1
      go_wp2_with fail
      refine (rword_law A n c ss s hs _ (hS.below (bt hb0 b2))).mono ?_
      rintro e w3 ⟨A3, n3, c3, rfl, i3, b3⟩
      have i2 := i2.below b3
      have b3 := bt b2 b3
      clear hx2 b2
      go_wp2_with fail
      refine (rsame _ _ _ _ _ _ _ _ true _ i2 i3 (by simp)).mono ?_
      rintro e w4 ⟨rfl, h4⟩
      have b4 := bt b3 (rd_below h4)
      go_wp2_with (go_at_call 10; refine (awake _).mono ?_; rintro e w8 ⟨rfl, b8⟩)
      go_ret
      exact ⟨rfl, bt (bt hb0 b4) b8⟩

set_option maxHeartbeats 2000000 in
theorem texts_walk (A : Option Addr) (n c : Nat) (ss : List ByteArray) (B : Option Addr) (m d : Nat) (xs : List Int) (w : World) (hc : n ≤ c) (h : Strs0 w A n ss) (hx : m ≤ 1100 → Ints w B m xs) :
    Calls Tryd.prog 5 #[.agg #[.slice A n c], .slice B m d] w fun e w' => e = .returned (.bool true) ∧ Below w.heap.size w w' := by
  have hb0 := alloc_below w (.cells #[.slice A n c] 24)
  have hx0 : (w.alloc (.cells #[.slice A n c] 24)).cell? ⟨w.heap.size, 0, none⟩ = some (.slice A n c) := by rw [cell_of_row _ _ 0 _ _ _ (heap_alloc_new _ _)]; rfl
  have HX := Lib.hid hx
  clear hx
  by_cases hg : Grt ss
  · have hgd := decide_eq_true hg
    clear hg
    go_enter Tryd.func5, Tryd.ntmps5
    go_wp2_with fail
    refine (rgreat0 A n c ss _ (h.below hb0)).mono ?_
    rintro e w1 ⟨rfl, b1⟩
    rw [hgd]
    go_wp2_with (go_at_call 10; refine (awake _).mono ?_; rintro e w5 ⟨rfl, b5⟩)
    go_ret
    exact ⟨rfl, bt (bt hb0 b1) b5⟩
  · have hgd := decide_eq_false hg
    obtain ⟨hS, hn, _⟩ := h.small hg
    clear hg
    by_cases h1 : 1100 < m
    · go_enter Tryd.func5, Tryd.ntmps5
      go_wp2_with fail
      refine (rgreat0 A n c ss _ (h.below hb0)).mono ?_
      rintro e w1 ⟨rfl, b1⟩
      rw [hgd]
      go_wp2_with (go_at_call 10; refine (awake _).mono ?_; rintro e w5 ⟨rfl, b5⟩)
      go_ret
      exact ⟨rfl, bt (bt hb0 b1) b5⟩
    · have hX := HX.out (by omega)
      have hw : w.heap.size < (w.alloc (.cells #[.slice A n c] 24)).heap.size := by simp
      go_enter Tryd.func5, Tryd.ntmps5
      go_wp2_with fail
      generalize hW : w.alloc (.cells #[.slice A n c] 24) = W0 at hb0 hx0 hw ⊢
      clear hW
      refine (rgreat0 A n c ss _ (h.below hb0)).mono ?_
      rintro e w1 ⟨rfl, b1⟩
      rw [hgd]
      have hx1 := (b1.cell (p := ⟨w.heap.size, 0, none⟩) hw).trans hx0
      go_wp2_with fail
      refine (ptext A n c ss B m d xs _ (hS.below (bt hb0 b1)) hc (hX.below (bt hb0 b1))).mono ?_
      rintro e w2 ⟨rfl, b2⟩
      have b2 := bt b1 b2
      have hx2 := (b2.cell (p := ⟨w.heap.size, 0, none⟩) hw).trans hx0
      clear hx1 b1
      go_wp2_with fail
      refine (rtext A n c ss B m d xs _ (hS.below (bt hb0 b2)) (hX.below (bt hb0 b2))).mono ?_
      rintro e w3 ⟨rfl, b3⟩
      have b3 := bt b2 b3
      clear hx2 b2
      go_wp2_with (go_at_call 10; refine (awake _).mono ?_; rintro e w8 ⟨rfl, b8⟩)
      go_ret
      exact ⟨rfl, bt (bt hb0 b3) b8⟩
end Go.Proofs.YtiongejdedhcjaaDoor
