/- The walk of the reference's Word. -/
import Derived.Test.YtiongejdedhcjaaDoorWord
import Derived.Deep.RegionWith
import Derived.BigRegion
namespace Go.Proofs.YtiongejdedhcjaaDoor
open Go.RowKit

set_option maxHeartbeats 2000000 in
set_option maxRecDepth 10000 in
theorem rword (A : Option Addr) (n c : Nat) (ss : List ByteArray) (s : ByteArray) (hs : s.size ≤ 17592186044416) (w : World) (h : Strs w A n ss) :
    Calls Tryd.prog 18 #[.agg #[.slice A n c], .string s] w fun e w' => ∃ v, e = .returned (.tuple #[v, .int .i64 (wrdV ss s).2]) ∧ Owned w' w.heap.size v (wrdV ss s).1 ∧ Below w.heap.size w w' := by
  have L := Lib.hid h.1
  have hb0 := alloc_below w (.cells #[.slice A n c] 24)
  have h0 := h.below hb0
  by_cases hv : valV ss = 0
  · have HV := Lib.hid hv
    by_cases hg : 1048576 < s.size
    · have hfin := Lib.hid (wrdV_great hv hg)
      clear hv
      go_enter Tryd.func18, Tryd.ntmps18
      go_wp2_with fail
      refine (rvalid A n c ss _ h0).mono ?_
      rintro e w1 ⟨rfl, b1⟩
      rw [HV.out]
      go_wp2
      go_ret2
      exact ⟨_, ret_vi rfl (by rw [hfin.out]), by rw [hfin.out]; exact Owned.nil _ _, bt hb0 b1⟩
    · have HG := Lib.hid hg
      clear hv
      go_enter Tryd.func18, Tryd.ntmps18
      go_wp2_with fail
      refine (rvalid A n c ss _ h0).mono ?_
      rintro e w1 ⟨rfl, b1⟩
      rw [HV.out]
      go_wp2_with fail
      refine (rwords s (by omega) _).mono ?_
      rintro e w2 ⟨v, rfl, bs, hown, hbt, hsm, hlen, b2⟩
      have hbw2 := bt (bt hb0 b1) b2
      have hbr2 : Below (w.heap.size + 1) (w.alloc (.cells #[.slice A n c] 24)) w2 := (b1.mono (by simp)).trans (b2.mono (by have := b1.size; simpa using this))
      have HB := Lib.hid hbt
      have HS := Lib.hid hsm
      by_cases hok : (pv s.data.toList).2 = true
      · have HO := Lib.hid hok
        rw [hok]
        have hf := hown.form
        obtain ⟨V, f, rfl⟩ := hf
        obtain ⟨m, hm⟩ : ∃ m, bs.length = m := ⟨_, rfl⟩
        have M := Lib.hid hm
        have hS := hown.strs (by omega) (fun x hx => by have := hsm x hx; omega)
        rw [hm] at hS hown hlen ⊢
        clear hbt hsm hok hm
        by_cases hl : 1024 < m
        · have hfin := Lib.hid (wrdV_long HV.out HG.out HO.out HB.out (by rw [M.out]; exact hl))
          go_wp2
          go_ret2
          exact ⟨_, ret_vi rfl (by rw [hfin.out]), by rw [hfin.out]; exact Owned.nil _ _, hbw2⟩
        · have HL := Lib.hid hl
          clear hown
          go_wp2
          go_loopw [8, 9] (fun v i wr => ∃ (j : Nat) (R : Option Addr) (d : Nat), j ≤ m ∧ i = .int .i64 j ∧ v = .slice R j d ∧ Owned wr w2.heap.size v ((idL ss bs).take j) ∧ (∀ q, q < j → (ixV ss (bs.getD q ByteArray.empty)).2 = true) ∧ Below w2.heap.size w2 wr) (fun _ i _ => m - (intOf i).toNat)
          case atStart => exact ⟨0, _, _, Nat.zero_le _, rfl, rfl, Owned.nil _ _, fun q h => absurd h (by omega), Below.refl _ _⟩
          case round =>
            obtain ⟨j, R, d, hj, rfl, rfl, hown, hall, hbr⟩ := hrel
            have HA := Lib.hid hall
            clear hall
            have hbw := bt hbw2 hbr
            have hbox := box_cell w (.slice A n c) 24 (hbr2.trans (hbr.mono (by have := hbr2.size; simpa using this)))
            by_cases hlt : j < m
            · obtain ⟨g, off, hV, _, hcell⟩ := (hS.below hbr).at_ hlt
              by_cases hx : (ixV ss (bs.getD j ByteArray.empty)).2 = true
              · have hnx := Lib.hid (show ∀ q, q < j + 1 → (ixV ss (bs.getD q ByteArray.empty)).2 = true from fun q hq => by
                  by_cases e : q = j
                  · subst e; exact hx
                  · exact HA.out q (by omega))
                have htk := Lib.hid (idL_take ss bs j (by rw [M.out]; exact hlt))
                generalize bs.getD j ByteArray.empty = y at hcell hx htk
                have HX := Lib.hid hx
                clear hx
                subst hV
                go_wp2
                go_region_with (go_at_call 12; refine (rindex A n c ss y _ (h.below (bt hbw (below_drewN (Below.refl _ _) 1)))).mono ?_; rintro e w3 ⟨rfl, b3⟩; rw [HX.out])
                all_goals
                  generalize (ixV ss y).1 = k at htk
                  have b3 := (below_drewN (Below.refl wr.heap.size wr) 1).trans b3
                  have hown3 := hown.kept b3
                  have hbr3 := bt hbr b3
                  have hbz := alloc_below w3 (.cells #[.int .i64 k] 3)
                  have hnew := Ints.new w3 [k] #[.int .i64 k] 1 rfl rfl (by simp)
                  obtain ⟨v', w', hrn, ho', _, hbel'⟩ := run_append_ints _ _ _ _ _ _ _ 1 (hown3.kept hbz) hnew (Nat.le_trans hbr3.size hbz.size) (by rw [List.length_append]; have := List.length_take_le j (idL ss bs); simp; omega)
                  rw [← htk.out] at ho'
                  have hf := ho'.form
                  rw [show ((idL ss bs).take (j + 1)).length = j + 1 by rw [List.length_take, idL_len, M.out]; omega] at hf
                  obtain ⟨A', c', rfl⟩ := hf
                  have hbw3 := hbr3.trans ((hbz.mono hbr3.size).trans hbel')
                  clear hbz hnew hbel'
                  go_wp2_with (at_builtin; refine Lib.wpList_append_run _ rfl _ _ _ _ rfl _ _ rfl rfl _ _ hrn ?_)
                  go_roundw
                  case rel => exact ⟨j + 1, _, _, by omega, by go_num, rfl, ho', hnx.out, hbw3⟩
                  case measure => simp [intOf]; omega
              · have hx : (ixV ss (bs.getD j ByteArray.empty)).2 = false := by simpa using hx
                have hfin := Lib.hid (wrdV_none HV.out HG.out HO.out HB.out (by rw [M.out]; exact HL.out) (lkL_none ss bs j (by rw [M.out]; exact hlt) hx))
                generalize bs.getD j ByteArray.empty = y at hcell hx
                have HX := Lib.hid hx
                clear hx
                subst hV
                go_wp2
                go_region_with (go_at_call 12; refine (rindex A n c ss y _ (h.below (bt hbw (below_drewN (Below.refl _ _) 1)))).mono ?_; rintro e w3 ⟨rfl, b3⟩; rw [HX.out])
                all_goals
                  go_wp2
                  go_ret2
                  exact ⟨_, ret_vi rfl (by rw [hfin.out]), by rw [hfin.out]; exact Owned.nil _ _, bt (bt hbw (below_drewN (Below.refl _ _) 1)) b3⟩
            · obtain rfl : j = m := by omega
              have hfin := Lib.hid (wrdV_ok HV.out HG.out HO.out HB.out (by rw [M.out]; exact HL.out) (lkL_some ss bs (fun q hq => HA.out q (by rw [M.out] at hq; exact hq))))
              rw [show (idL ss bs).take j = idL ss bs from List.take_of_length_le (by rw [idL_len, M.out]; exact Nat.le_refl _)] at hown
              go_wp2
              go_ret2
              exact ⟨_, ret_vi rfl (by rw [hfin.out]), by rw [hfin.out]; exact hown.lower (by have := hbw2.size; exact this), hbw⟩
      · have hok : (pv s.data.toList).2 = false := by simpa using hok
        have hfin := Lib.hid (wrdV_syn HV.out HG.out hok)
        rw [hok]
        clear hok
        go_wp2
        go_ret2
        exact ⟨_, ret_vi rfl (by rw [hfin.out]), by rw [hfin.out]; exact Owned.nil _ _, hbw2⟩
  · have hfin := Lib.hid (wrdV_inv (s := s) hv)
    have hvb : (valV ss != 0) = true := by simpa using hv
    clear hv
    go_enter Tryd.func18, Tryd.ntmps18
    go_wp2_with fail
    refine (rvalid A n c ss _ h0).mono ?_
    rintro e w1 ⟨rfl, b1⟩
    have hbox1 := box_cell w (.slice A n c) 24 (b1.mono (by simp))
    go_wp2_with fail
    refine (rvalid A n c ss _ (h0.below b1)).mono ?_
    rintro e w2 ⟨rfl, b2⟩
    go_wp2
    go_ret2
    exact ⟨_, ret_vi rfl (by rw [hfin.out]), by rw [hfin.out]; exact Owned.nil _ _, bt (bt hb0 b1) b2⟩
end Go.Proofs.YtiongejdedhcjaaDoor
