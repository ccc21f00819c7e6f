/- The walk of the law AlphabetNames. -/
import Derived.Test.YtiongejdedhcjaaDoorAlaws
import Derived.Deep.RegionHeld3
namespace Go.Proofs.YtiongejdedhcjaaDoor
open Go.RowKit

theorem ix_name {ss : List ByteArray} (h : valV ss = 0) {j : Nat} (hj : j < ss.length) : ixV ss (ss.getD j ByteArray.empty) = ((j : Int), true) := by
  have hd := ((valid_all h).2.2 j hj).2
  refine idx_hit hj rfl (fun i hi e => hd ?_)
  rw [Lib.containsS_iff, List.mem_take_iff_getElem]
  exact ⟨i, by omega, by rw [← e]; simp [List.getD, show i < ss.length by omega]⟩
theorem ix_cases (ss : List ByteArray) (s : ByteArray) : ixV ss s = (0, false) ∨ ∃ k : Nat, k < ss.length ∧ ss.getD k ByteArray.empty = s ∧ ixV ss s = ((k : Int), true) := by
  by_cases h : ∃ i, i < ss.length ∧ ss.getD i ByteArray.empty = s
  · obtain ⟨i, hi, e⟩ := h
    obtain ⟨k, h1, h2, h3⟩ := least i ⟨i, Nat.le_refl _, e⟩
    exact .inr ⟨k, by omega, h2, idx_hit (by omega) h2 h3⟩
  · exact .inl (idx_miss (fun j hj e => h ⟨j, hj, e⟩))

set_option maxHeartbeats 2000000 in
theorem names_walk (A : Option Addr) (n c : Nat) (ss : List ByteArray) (s : ByteArray) (w : World) (hc : n ≤ c) (h : Strs0 w A n ss) :
    Calls Tryd.prog 8 #[.agg #[.slice A n c], .string s] w fun e w' => e = .returned (.bool true) ∧ Below w.heap.size w w' := by
  have hb0 := alloc_below w (.cells #[.slice A n c] 24)
  have hx0 : (w.alloc (.cells #[.slice A n c] 24)).cell? ⟨w.heap.size, 0, none⟩ = some (.slice A n c) := by rw [cell_of_row _ _ 0 _ _ _ (heap_alloc_new _ _)]; rfl
  by_cases hg : Grt ss
  · have hgd := decide_eq_true hg
    clear hg
    go_enter Tryd.func8, Tryd.ntmps8
    go_wp2_with fail
    refine (rgreat0 A n c ss _ (h.below hb0)).mono ?_
    rintro e w1 ⟨rfl, b1⟩
    rw [hgd]
    go_wp2_with (go_at_call 10; refine (awake _).mono ?_; rintro e w5 ⟨rfl, b5⟩)
    go_ret
    exact ⟨rfl, bt (bt hb0 b1) b5⟩
  · have hgd := decide_eq_false hg
    obtain ⟨hS, hn, hsm⟩ := h.small hg
    have L := Lib.hid hS.1
    clear hg
    by_cases h1 : 100 < s.size
    · go_enter Tryd.func8, Tryd.ntmps8
      go_wp2_with fail
      refine (rgreat0 A n c ss _ (h.below hb0)).mono ?_
      rintro e w1 ⟨rfl, b1⟩
      rw [hgd]
      go_wp2_with (go_at_call 10; refine (awake _).mono ?_; rintro e w5 ⟨rfl, b5⟩)
      go_ret
      exact ⟨rfl, bt (bt hb0 b1) b5⟩
    · have hw : w.heap.size < (w.alloc (.cells #[.slice A n c] 24)).heap.size := by simp
      by_cases hv : valV ss = 0
      · have HV := Lib.hid hv
        have hn1 : 1 ≤ n := by have := (valid_all hv).1; rw [L.out] at this; exact this
        have hn64 : n ≤ 64 := by have := (valid_all hv).2.1; rw [L.out] at this; exact this
        have hz : ((n : Int) == 0) = false := by simp; omega
        have HM := Lib.hid hsm
        clear hv hsm
        go_enter Tryd.func8, Tryd.ntmps8
        go_wp2_with fail
        generalize hW : w.alloc (.cells #[.slice A n c] 24) = W0 at hb0 hx0 hw ⊢
        clear hW
        refine (rgreat0 A n c ss _ (h.below hb0)).mono ?_
        rintro e w1 ⟨rfl, b1⟩
        rw [hgd]
        have hx1 := (b1.cell (p := ⟨w.heap.size, 0, none⟩) hw).trans hx0
        have hS0 := hS.below hb0
        clear h hS
        go_wp2_with fail
        refine (pvalid A n c ss _ (hS0.below b1) hc).mono ?_
        rintro e w2 ⟨rfl, b2⟩
        rw [HV.out]
        have b2 := bt b1 b2
        have hx2 := (b2.cell (p := ⟨w.heap.size, 0, none⟩) hw).trans hx0
        clear b1 hx1
        go_wp2
        go_loopw [5] (fun i wr => ∃ j : Nat, j ≤ n ∧ i = .int .i64 j ∧ Below W0.heap.size W0 wr) (fun i _ => n - (intOf i).toNat)
        case atStart => exact ⟨0, Nat.zero_le _, rfl, b2⟩
        case round =>
          clear b2 hx2
          obtain ⟨j, hj, rfl, hbr⟩ := hrel
          have hxr := (hbr.cell (p := ⟨w.heap.size, 0, none⟩) hw).trans hx0
          by_cases hlt : j < n
          · obtain ⟨b, off, rfl, hbs, hcell⟩ := hS0.at_ hlt
            have hcr := (hbr.cell (p := ⟨b, off + j, none⟩) hbs).trans hcell
            have hiv := Lib.hid (ix_name HV.out (j := j) (by rw [L.out]; exact hlt))
            have hnm := Lib.hid (decide_eq_true ((valid_all HV.out).2.2 j (by rw [L.out]; exact hlt)).1)
            have hsz : (ss.getD j ByteArray.empty).size ≤ 17592186044416 := by have := HM.out j hlt; omega
            generalize ss.getD j ByteArray.empty = y at hcell hcr hiv hnm hsz
            have hbc := hbr.drew
            have hxc := hxr
            have hyc := hcr
            go_wp2
            go_region_held3 (fun w' => w'.cell? ⟨w.heap.size, 0, none⟩ = some (.slice (some ⟨b, off, none⟩) n c) ∧ w'.cell? ⟨b, off + j, none⟩ = some (.string y)) (first | exact ⟨hxc, hyc⟩ | (simpa using ⟨hxc, hyc⟩)) (first
              | (go_at_call 11; refine (pindex _ n c ss y _ (hS0.below hbc)).mono ?_; rintro e w' ⟨rfl, b'⟩; rw [hiv.out]; have hbc := bt hbc b'; have hxc := (hbc.cell (p := ⟨w.heap.size, 0, none⟩) hw).trans hx0; have hyc := (hbc.cell (p := ⟨b, off + j, none⟩) hbs).trans hcell))
            go_wp2_with (go_at_call 15; refine (pname y hsz _).mono ?_; rintro e w' ⟨rfl, b'⟩; rw [hnm.out])
            go_roundw
            case rel => exact ⟨j + 1, by omega, by go_num, bt hbc b'⟩
            case measure => simp [intOf]; omega
          · obtain rfl : j = n := by omega
            rcases ix_cases ss s with hi | ⟨k, hk, hks, hi⟩
            · have HI := Lib.hid hi
              clear hi
              go_wp2_with fail
              refine (pindex _ j c ss s _ (hS0.below hbr)).mono ?_
              rintro e w3 ⟨rfl, b3⟩
              rw [HI.out]
              go_wp2_with (go_at_call 10; refine (awake _).mono ?_; rintro e w5 ⟨rfl, b5⟩)
              go_ret
              exact ⟨rfl, bt (bt hb0 (bt hbr b3)) b5⟩
            · have HI := Lib.hid hi
              rw [L.out] at hk
              obtain ⟨b, off, rfl, hbs, hcell⟩ := hS0.at_ hk
              rw [hks] at hcell
              clear hi hks
              go_wp2_with fail
              refine (pindex _ j c ss s _ (hS0.below hbr)).mono ?_
              rintro e w3 ⟨rfl, b3⟩
              rw [HI.out]
              have b3 := bt hbr b3
              have hx3 := (b3.cell (p := ⟨w.heap.size, 0, none⟩) hw).trans hx0
              have hy3 := (b3.cell (p := ⟨b, off + k, none⟩) hbs).trans hcell
              go_wp2_with (go_at_call 10; refine (awake _).mono ?_; rintro e w5 ⟨rfl, b5⟩)
              go_ret
              exact ⟨rfl, bt (bt hb0 b3) b5⟩
      · have hvb : (valV ss != 0) = true := by simpa using hv
        clear hv
        go_enter Tryd.func8, Tryd.ntmps8
        go_wp2_with fail
        generalize hW : w.alloc (.cells #[.slice A n c] 24) = W0 at hb0 hx0 hw ⊢
        clear hW
        refine (rgreat0 A n c ss _ (h.below hb0)).mono ?_
        rintro e w1 ⟨rfl, b1⟩
        rw [hgd]
        have hx1 := (b1.cell (p := ⟨w.heap.size, 0, none⟩) hw).trans hx0
        go_wp2_with fail
        refine (pvalid A n c ss _ (hS.below (bt hb0 b1)) hc).mono ?_
        rintro e w2 ⟨rfl, b2⟩
        go_wp2_with (go_at_call 10; refine (awake _).mono ?_; rintro e w5 ⟨rfl, b5⟩)
        go_ret
        exact ⟨rfl, bt (bt (bt hb0 b1) b2) b5⟩
end Go.Proofs.YtiongejdedhcjaaDoor
