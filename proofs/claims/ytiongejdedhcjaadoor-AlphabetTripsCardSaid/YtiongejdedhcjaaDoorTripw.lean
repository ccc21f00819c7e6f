/- The walk of the law AlphabetTrips: all ways. -/
import Derived.Test.YtiongejdedhcjaaDoorTrip
import Derived.Test.YtiongejdedhcjaaDoorTripd
import Derived.Deep.RegionHeld3
namespace Go.Proofs.YtiongejdedhcjaaDoor
open Go.RowKit

set_option maxHeartbeats 4000000 in
set_option maxRecDepth 100000 in
theorem trips_walk (A : Option Addr) (n c : Nat) (ss : List ByteArray) (V : Option Addr) (m d : Nat) (W : Option Addr) (k f : Nat) (s : ByteArray) (vs ws : List Int) (w : World) (hc : n ≤ c) (h : Strs0 w A n ss) (hV : m ≤ 300 → Ints w V m vs) (hWW : k ≤ 300 → Ints w W k ws) :
    Calls Tryd.prog 7 #[.agg #[.slice A n c, .slice V m d, .slice W k f, .string s]] w fun e w' => e = .returned (.bool true) ∧ Below w.heap.size w w' := by
  obtain ⟨W0, hW0⟩ : ∃ W0, W0 = ((w.alloc (.cells #[.slice A n c, .slice V m d, .slice W k f, .string s] 52)).alloc (.cells #[.slice A n c] 24)).drew := ⟨_, rfl⟩
  have b0 : Below w.heap.size w W0 := by rw [hW0]; exact ((alloc_below _ _).alloc (by simp) _).drew
  have hx0 : W0.cell? ⟨w.heap.size + 1, 0, none⟩ = some (.slice A n c) := by
    rw [hW0]
    show ((w.alloc _).alloc _).cell? _ = _
    rw [cell_of_row _ _ 0 _ _ _ (heap_alloc2_new _ _ _)]; rfl
  have hw : w.heap.size + 1 < W0.heap.size := by rw [hW0]; simp
  by_cases hg : Grt ss
  · have hgd := decide_eq_true hg
    clear hg hV hWW
    go_enter Tryd.func7, Tryd.ntmps7
    go_wp2
    go_region
    go_wp2_with fail
    rw [← hW0]
    refine (rgreat0 A n c ss _ (h.below b0)).mono ?_
    rintro e w1 ⟨rfl, b1⟩
    rw [hgd]
    go_wp2_with (go_at_call 10; refine (awake _).mono ?_; rintro e w5 ⟨rfl, b5⟩)
    go_ret
    exact ⟨rfl, bt (bt b0 b1) b5⟩
  · have hgd := decide_eq_false hg
    by_cases h1 : 300 < m
    · clear hg hV hWW
      go_enter Tryd.func7, Tryd.ntmps7
      go_wp2
      go_region
      go_wp2_with fail
      rw [← hW0]
      refine (rgreat0 A n c ss _ (h.below b0)).mono ?_
      rintro e w1 ⟨rfl, b1⟩
      rw [hgd]
      go_wp2_with (go_at_call 10; refine (awake _).mono ?_; rintro e w5 ⟨rfl, b5⟩)
      go_ret
      exact ⟨rfl, bt (bt b0 b1) b5⟩
    · by_cases h2 : 300 < k
      · clear hg hV hWW
        go_enter Tryd.func7, Tryd.ntmps7
        go_wp2
        go_region
        go_wp2_with fail
        rw [← hW0]
        refine (rgreat0 A n c ss _ (h.below b0)).mono ?_
        rintro e w1 ⟨rfl, b1⟩
        rw [hgd]
        go_wp2_with (go_at_call 10; refine (awake _).mono ?_; rintro e w5 ⟨rfl, b5⟩)
        go_ret
        exact ⟨rfl, bt (bt b0 b1) b5⟩
      · by_cases h3 : 3000 < s.size
        · clear hg hV hWW
          go_enter Tryd.func7, Tryd.ntmps7
          go_wp2
          go_region
          go_wp2_with fail
          rw [← hW0]
          refine (rgreat0 A n c ss _ (h.below b0)).mono ?_
          rintro e w1 ⟨rfl, b1⟩
          rw [hgd]
          go_wp2_with (go_at_call 10; refine (awake _).mono ?_; rintro e w5 ⟨rfl, b5⟩)
          go_ret
          exact ⟨rfl, bt (bt b0 b1) b5⟩
        · obtain ⟨hS, hn, _⟩ := h.small hg
          have iV := (hV (by omega)).below b0
          have iW := (hWW (by omega)).below b0
          have hS0 := hS.below b0
          have hs : s.size ≤ 17592186044416 := by omega
          have HT1 : Hid (texV ss vs = ((texV ss vs).1, (texV ss vs).2)) := Lib.hid rfl
          have HT2 : Hid (texV ss ws = ((texV ss ws).1, (texV ss ws).2)) := Lib.hid rfl
          have HU : Hid (wrdV ss s = ((wrdV ss s).1, (wrdV ss s).2)) := Lib.hid rfl
          have hempty : (wrdV ss s).2 ≠ 0 → (wrdV ss s).1 = [] := fun hne => by
            rcases wrd_cases ss s with ⟨_, e⟩ | ⟨_, _, _, u, _, e⟩
            · exact e
            · rw [e] at hne; exact absurd rfl hne
          by_cases he : (texV ss vs).2 = 0
          · have HW1 := Lib.hid (trip1 he)
            by_cases hf : (texV ss ws).2 = 0
            · by_cases hm0 : 0 < m
              · by_cases hk0 : 0 < k
                · exact trips_d A n c ss V m d W k f s vs ws w W0 hc h hS0 hW0 b0 hx0 hw hgd iV iW h1 h2 h3 hs _ _ _ _ _ _ HT1 HT2 HU (texV_size _ _) (texV_size _ _) trip3 hempty HW1 (Lib.hid (trip2 he hf (by rw [iV.1]; exact hm0) (by rw [iW.1]; exact hk0) (by rw [iV.1]; omega) (by rw [iW.1]; omega))) he hf hm0 hk0
                · exact trips_c A n c ss V m d W k f s vs ws w W0 hc h hS0 hW0 b0 hx0 hw hgd iV iW h1 h2 h3 hs _ _ _ _ _ _ HT1 HT2 HU (texV_size _ _) (texV_size _ _) trip3 hempty HW1 he hf hm0 (by omega)
              · exact trips_b A n c ss V m d W k f s vs ws w W0 hc h hS0 hW0 b0 hx0 hw hgd iV iW h1 h2 h3 hs _ _ _ _ _ _ HT1 HT2 HU (texV_size _ _) (texV_size _ _) trip3 hempty HW1 he hf (by omega)
            · exact trips_a A n c ss V m d W k f s vs ws w W0 hc h hS0 hW0 b0 hx0 hw hgd iV iW h1 h2 h3 hs _ _ _ _ _ _ HT1 HT2 HU (texV_size _ _) (texV_size _ _) trip3 hempty HW1 he (by simpa using hf)
          · exact trips_n A n c ss V m d W k f s vs ws w W0 hc h hS0 hW0 b0 hx0 hw hgd iV iW h1 h2 h3 hs _ _ _ _ _ _ HT1 HT2 HU (texV_size _ _) (texV_size _ _) trip3 hempty (by simpa using he)
end Go.Proofs.YtiongejdedhcjaaDoor
