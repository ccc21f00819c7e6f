/- The walk of the reference's Text. -/
import Derived.Test.YtiongejdedhcjaaDoorText
namespace Go.Proofs.YtiongejdedhcjaaDoor
open Go.RowKit

theorem jn_step (ns : List ByteArray) (j : Nat) (y : ByteArray) (h : ns.take (j + 1) = ns.take j ++ [y]) (hj : j ≤ ns.length) :
    jn (btL (ns.take (j + 1))) = if j = 0 then y.data.toList else jn (btL (ns.take j)) ++ 32 :: y.data.toList := by
  rw [h]
  unfold btL
  rw [List.map_append]
  show jn (_ ++ [y.data.toList]) = _
  rw [jn_snoc]
  by_cases e : j = 0
  · subst e; simp
  · rw [if_neg e, if_neg (by
      intro e2
      have := congrArg List.length e2
      rw [List.length_map, List.length_take, List.length_nil] at this
      omega)]

set_option maxHeartbeats 2000000 in
set_option maxRecDepth 10000 in
theorem rtext (A : Option Addr) (n c : Nat) (ss : List ByteArray) (B : Option Addr) (m d : Nat) (xs : List Int) (w : World) (h : Strs w A n ss) (hx : Ints w B m xs) :
    Calls Tryd.prog 21 #[.agg #[.slice A n c], .slice B m d] w fun e w' => e = .returned (.tuple #[.string (texV ss xs).1, .int .i64 (texV ss xs).2]) ∧ Below w.heap.size w w' := by
  have L := Lib.hid h.1
  have LX := Lib.hid hx.1
  have hb0 := alloc_below w (.cells #[.slice A n c] 24)
  have h0 := h.below hb0
  by_cases hv : valV ss = 0
  · by_cases hk : chk xs n = 0
    · obtain ⟨k1, k2, l1, hs⟩ := chk_zero hk
      have hfin := Lib.hid (texV_ok L.out hv hk)
      have HV := Lib.hid hv
      have HK := Lib.hid hk
      have HS := Lib.hid hs
      have hn64 : n ≤ 64 := by have := (valid_all hv).2.1; rw [L.out] at this; exact this
      have hm : m ≤ 1024 := by rw [← LX.out]; exact l1
      clear hv hk hs k1 k2
      go_enter Tryd.func21, Tryd.ntmps21
      go_wp2_with fail
      refine (rvalid A n c ss _ h0).mono ?_
      rintro e w1 ⟨rfl, b1⟩
      rw [HV.out]
      have hbr1 : Below (w.heap.size + 1) (w.alloc (.cells #[.slice A n c] 24)) w1 := b1.mono (by simp)
      have hbox1 := box_cell w (.slice A n c) 24 hbr1
      have hx1 := hx.below (bt hb0 b1)
      go_wp2_with (go_at_call 35; refine (rcheck _ _ _ _ xs _ hx1).mono ?_; rintro e w' ⟨rfl, rfl⟩; rw [HK.out])
      go_loopw [7, 8] (fun v i wr => ∃ (j : Nat) (t : ByteArray), j ≤ m ∧ i = .int .i64 j ∧ v = .string t ∧ t.data.toList = jn (btL ((nmL ss xs).take j)) ∧ t.size ≤ 33 * j ∧ Below (w.heap.size + 1) (w.alloc (.cells #[.slice A n c] 24)) wr) (fun _ i _ => m - (intOf i).toNat)
      case atStart => exact ⟨0, _, Nat.zero_le _, rfl, rfl, rfl, Nat.zero_le _, hbr1⟩
      case round =>
        clear hbox1 hbr1 b1 hx1
        obtain ⟨j, t, hj, rfl, rfl, ht, htz, hbr⟩ := hrel
        have HT := Lib.hid ht
        clear ht
        have hbw := hb0.trans (hbr.mono (Nat.le_succ _))
        have hbox := box_cell w (.slice A n c) 24 hbr
        by_cases hlt : j < m
        · obtain ⟨g, off, hB, _, hcell⟩ := (hx.below hbw).at_ hlt
          obtain ⟨x1, x2⟩ := HS.out j (by rw [LX.out]; exact hlt)
          obtain ⟨q, hq⟩ : ∃ q : Nat, xs.getD j 0 = q := ⟨(xs.getD j 0).toNat, by omega⟩
          rw [hq] at hcell x2
          have hqn : q < n := by omega
          obtain ⟨g2, off2, hA2, _, hcell2⟩ := (h.below hbw).at_ hqn
          have htk := nmL_take ss xs j (by rw [LX.out]; exact hlt)
          rw [show (xs[j]?.getD 0).toNat = q by rw [show xs[j]?.getD 0 = (q : Int) by rw [← hq]; simp [List.getD]]; omega] at htk
          have hst := Lib.hid (jn_step (nmL ss xs) j _ htk (by rw [nmL_len, LX.out]; omega))
          have hshort := nm_short L.out HV.out q hqn
          generalize ss.getD q ByteArray.empty = y at hcell2 hst hshort
          clear x1 x2 hq htk
          subst hB hA2
          by_cases hj0 : j = 0
          · have HJ := Lib.hid hj0
            have hj1 : j < 1 := by omega
            clear hj0
            have hz1 : Hid ((t ++ y).data.toList = jn (btL ((nmL ss xs).take (j + 1))) ∧ (t ++ y).size ≤ 33 * (j + 1)) := Lib.hid ⟨by
              rw [hst.out, if_pos HJ.out, ByteArray.data_append, Array.toList_append, HT.out, HJ.out]
              simp [btL, jn], by rw [ByteArray.size_append]; omega⟩
            go_wp2
            go_quiet (fail)
            go_wp2
            go_roundw
            case rel => exact ⟨j + 1, _, by omega, by go_num, rfl, hz1.out.1, hz1.out.2, below_drewN hbr _⟩
            case measure => simp [intOf]; omega
          · have hjp : 0 < j := by omega
            have hz1 : Hid ((t ++ ⟨#[32]⟩ ++ y).data.toList = jn (btL ((nmL ss xs).take (j + 1))) ∧ (t ++ ⟨#[32]⟩ ++ y).size ≤ 33 * (j + 1)) := Lib.hid ⟨by
              rw [hst.out, if_neg hj0, ByteArray.data_append, Array.toList_append, ByteArray.data_append, Array.toList_append, HT.out]
              simp, by rw [ByteArray.size_append, ByteArray.size_append]; show t.size + 1 + y.size ≤ _; omega⟩
            clear hj0
            go_wp2
            go_quiet (fail)
            go_wp2
            go_roundw
            case rel => exact ⟨j + 1, _, by omega, by go_num, rfl, hz1.out.1, hz1.out.2, below_drewN hbr _⟩
            case measure => simp [intOf]; omega
        · obtain rfl : j = m := by omega
          rw [show (nmL ss xs).take j = nmL ss xs from List.take_of_length_le (by rw [nmL_len, LX.out]; exact Nat.le_refl _)] at HT
          have hte : Hid (t = ⟨(jn (btL (nmL ss xs))).toArray⟩) := Lib.hid (str_inj (by rw [HT.out]))
          go_wp2
          go_ret2
          exact ⟨ret_si hfin.out hte.out rfl, hbw⟩
    · have hfin := Lib.hid (texV_bad L.out hv hk)
      have HV := Lib.hid hv
      have hkb : (chk xs n != 0) = true := by simpa using hk
      clear hv hk
      go_enter Tryd.func21, Tryd.ntmps21
      go_wp2_with fail
      refine (rvalid A n c ss _ h0).mono ?_
      rintro e w1 ⟨rfl, b1⟩
      rw [HV.out]
      have hbr1 : Below (w.heap.size + 1) (w.alloc (.cells #[.slice A n c] 24)) w1 := b1.mono (by simp)
      have hbox1 := box_cell w (.slice A n c) 24 hbr1
      have hx1 := hx.below (bt hb0 b1)
      go_wp2_with (go_at_call 35; refine (rcheck _ _ _ _ xs _ hx1).mono ?_; rintro e w' ⟨rfl, rfl⟩)
      go_ret2
      exact ⟨ret_si hfin.out rfl rfl, bt hb0 b1⟩
  · have hfin := Lib.hid (texV_inv (xs := xs) hv)
    have hvb : (valV ss != 0) = true := by simpa using hv
    clear hv
    go_enter Tryd.func21, Tryd.ntmps21
    go_wp2_with fail
    refine (rvalid A n c ss _ h0).mono ?_
    rintro e w1 ⟨rfl, b1⟩
    have hbr1 : Below (w.heap.size + 1) (w.alloc (.cells #[.slice A n c] 24)) w1 := b1.mono (by simp)
    have hbox1 := box_cell w (.slice A n c) 24 hbr1
    go_wp2_with fail
    refine (rvalid A n c ss _ (h0.below b1)).mono ?_
    rintro e w2 ⟨rfl, b2⟩
    go_wp2
    go_ret2
    exact ⟨ret_si hfin.out rfl rfl, bt (bt hb0 b1) b2⟩
end Go.Proofs.YtiongejdedhcjaaDoor
