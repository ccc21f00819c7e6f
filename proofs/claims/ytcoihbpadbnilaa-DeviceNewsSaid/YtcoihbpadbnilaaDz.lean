/- Lemmas of the proofs of this seat, of the parts Rvd, Rve, L19n. Conditions: none. -/
import Derived.Test.YtcoihbpadbnilaaDb
import Derived.BigQuiet
import Derived.Deep.QuietTactic
import Derived.Test.YtcoihbpadbnilaaDc
section
/- device, the reference: Cost. -/
namespace Go.Proofs.Ytcoihbpadbnilaa
open Go.RowKit

set_option maxHeartbeats 4000000 in
set_option maxRecDepth 100000 in
theorem rdcost19 (L X : Option Addr) (l lc k cx : Nat) (cs u : List Int) (rc : Int) (w : World) (hcs : Ints w L l cs) (hX : Ints w X k u) :
    Calls Try.prog 13 #[.agg #[.slice L l lc, .int .i64 rc], .slice X k cx] w fun e w' => e = .returned (.tuple #[.int .i64 (dCostN cs rc u), .int .i64 (dCostE cs rc u)]) ∧ Below w.heap.size w w' := by
  obtain ⟨w1, hw1⟩ : ∃ w1, w1 = w.alloc (.cells #[.slice L l lc, .int .i64 rc] 27) := ⟨_, rfl⟩
  have b1 : Below w.heap.size w w1 := by rw [hw1]; exact alloc_below _ _
  have m1 : Blk w1 w.heap.size #[.slice L l lc, .int .i64 rc] 27 := by rw [hw1]; exact blk_new _ _ _
  have HK := Lib.hid (fun (W : World) (h : Below w1.heap.size w1 W) => (show W.cell? ⟨w.heap.size, 0, none⟩ = some (.slice L l lc) ∧ W.cell? ⟨w.heap.size, 1, none⟩ = some (.int .i64 rc) from ⟨(m1.on h).cell 0, (m1.on h).cell 1⟩))
  obtain ⟨k0, k1⟩ := HK.out w1 (Below.refl _ _)
  rw [hw1] at k0 k1
  have hl := hcs.1
  have hk := hX.1
  have HB1 := Lib.hid b1
  have HW1 := Lib.hid hw1
  have HA := Lib.hid (fun (r : Bool) (hr : r = decide (dAff cs rc)) => rcosts L l lc cs rc r w1 (hcs.below b1) hr)
  have HC := Lib.hid (fun (W : World) (h : Below w1.heap.size w1 W) => rcheck X k cx l u W ((hX.below b1).below h))
  have HCS := Lib.hid (fun (W : World) (h : Below w1.heap.size w1 W) => (hcs.below b1).below h)
  have HX := Lib.hid (fun (W : World) (h : Below w1.heap.size w1 W) => (hX.below b1).below h)
  have HCE : Hid (dCostE cs rc u = if (1 ≤ l ∧ l ≤ 64) ∧ dAff cs rc then chk u l else 2) := Lib.hid (by unfold dCostE; rw [hl])
  have HCN : Hid (dCostN cs rc u = if dCostE cs rc u = 0 then dCost cs rc u else 0) := Lib.hid rfl
  have HL := Lib.hid hl
  have HKK := Lib.hid hk
  clear hw1 b1 m1 hcs hX hl hk
  by_cases h1 : 1 ≤ l
  · have d1 : decide ((l : Int) < 1) = false := decide_eq_false (by omega)
    by_cases h2 : l ≤ 64
    · have d2 : decide ((64 : Int) < (l : Int)) = false := decide_eq_false (by omega)
      by_cases hA : dAff cs rc
      · have HA2 := Lib.hid (HA.out true (decide_eq_true hA).symm)
        rw [if_pos ⟨⟨h1, h2⟩, hA⟩] at HCE
        have HAF := Lib.hid hA
        clear HA hA h1 h2
        go_enter Try.func13, Try.ntmps13
        go_wp2_with fail
        rw [← HW1.out]
        refine HA2.out.mono ?_
        rintro e w2 ⟨rfl, b2⟩
        have HB2 := Lib.hid b2
        clear k0 k1
        obtain ⟨k0, k1⟩ := HK.out _ b2
        clear b2
        go_wp2_with fail
        refine (HC.out _ HB2.out).mono ?_
        rintro e w3 ⟨rfl, rfl⟩
        by_cases hc : chk u l = 0
        · have HE : Hid (dCostE cs rc u = 0 ∧ dCostN cs rc u = dCost cs rc u) := Lib.hid ⟨by rw [HCE.out, hc], by rw [HCN.out, HCE.out, if_pos hc]⟩
          have hW : ∀ x, x ∈ u → 0 ≤ x ∧ x < (l : Int) := Syms.mem (chk_zero hc).2.2.2
          have hku := (chk_zero hc).2.2.1
          have HU := Lib.hid hW
          have HRG := Lib.hid (fun (q : Nat) (hq : q ≤ u.length) => dCost_range HAF.out u (by rw [HL.out]; exact hW) q hq)
          have HNX := Lib.hid (fun (q : Nat) (hq : q < u.length) => dCost_next (cs := cs) (rc := rc) hq)
          rw [hc]
          have hk1 : k ≤ 1024 := by rw [HKK.out] at hku; exact hku
          clear hc hW hku HC HA2
          go_wp2
          go_loopw [8, 7] (fun kv tv wr => ∃ q : Nat, q ≤ k ∧ kv = .int .i64 q ∧ tv = .int .i64 (dCost cs rc (u.take q)) ∧ Below w2.heap.size w2 wr) (fun kv _ _ => k - (intOf kv).toNat)
          case atStart => exact ⟨0, Nat.zero_le _, rfl, by rw [List.take_zero]; rfl, Below.refl _ _⟩
          case round =>
            obtain ⟨q, hq, rfl, rfl, hbr⟩ := hrel
            have HBR := Lib.hid hbr
            by_cases hlt : q < k
            · have hb1r := bt HB2.out hbr
              obtain ⟨bx, ox, hXe, hbx, cx1⟩ := (HX.out _ hb1r).at_ hlt
              have hin := HU.out (u.getD q 0) (by rw [List.getD_eq_getElem?_getD, List.getElem?_eq_getElem (by rw [HKK.out]; exact hlt)]; exact List.getElem_mem _)
              have hnx := HNX.out q (by rw [HKK.out]; exact hlt)
              have hr1 := HRG.out q (by rw [HKK.out]; omega)
              have hr2 := HRG.out (q + 1) (by rw [HKK.out]; omega)
              generalize u.getD q 0 = x at cx1 hin hnx
              obtain ⟨a, rfl⟩ : ∃ a : Nat, x = a := ⟨x.toNat, by omega⟩
              have hal : a < l := by omega
              rw [Int.toNat_natCast] at hnx
              obtain ⟨bc, oc, hLe, hbc, cc1⟩ := (HCS.out _ hb1r).at_ hal
              obtain ⟨k0, k1⟩ := HK.out _ hb1r
              rw [hLe] at k0
              have HXE := Lib.hid hXe
              subst hXe
              generalize cs.getD a 0 = co at cc1 hnx
              generalize dCost cs rc (u.take q) = tq at hnx hr1 ⊢
              have hw2 : IntKind.i64.wrap (tq + co) = tq + co := by rw [IntKind.wrap_i64]; omega
              have hal2 : (a : Int) < (l : Int) := by omega
              have HN := Lib.hid hnx
              clear hnx hr1 hr2 hin hb1r hbx hbc hLe hbr
              go_wp2
              go_quiet (fail)
              go_wp2
              go_roundw
              case rel => exact ⟨q + 1, by omega, by go_num, by rw [HN.out], by first | exact HBR.out | exact below_drewN HBR.out _⟩
              case measure => simp [intOf]; omega
            · obtain rfl : q = k := by omega
              rw [List.take_of_length_le (l := u) (i := q) (by rw [HKK.out]; exact Nat.le_refl _)]
              clear hbr
              go_wp2
              go_ret2
              exact ⟨by rw [HE.out.1, HE.out.2]; rfl, HB1.out.trans ((bt HB2.out HBR.out).mono HB1.out.size)⟩
        · have HE : Hid (dCostE cs rc u = chk u l ∧ dCostN cs rc u = 0) := Lib.hid ⟨HCE.out, by rw [HCN.out, HCE.out, if_neg hc]⟩
          obtain ⟨v, hv⟩ : ∃ v, v = chk u l := ⟨_, rfl⟩
          rw [← hv] at hc HE ⊢
          have hne : (v != 0) = true := by simpa using hc
          clear hc hv k0 k1
          go_wp2
          go_ret2
          exact ⟨by rw [HE.out.1, HE.out.2]; rfl, HB1.out.trans (HB2.out.mono HB1.out.size)⟩
      · have HA2 := Lib.hid (HA.out false (decide_eq_false hA).symm)
        rw [if_neg fun h => hA h.2] at HCE
        have HE : Hid (dCostE cs rc u = 2 ∧ dCostN cs rc u = 0) := Lib.hid ⟨HCE.out, by rw [HCN.out, HCE.out]; rfl⟩
        clear HA hA h1 h2
        go_enter Try.func13, Try.ntmps13
        go_wp2_with fail
        rw [← HW1.out]
        refine HA2.out.mono ?_
        rintro e w2 ⟨rfl, b2⟩
        have HB2 := Lib.hid b2
        clear k0 k1 b2
        go_wp2
        go_ret2
        exact ⟨by rw [HE.out.1, HE.out.2]; rfl, HB1.out.trans (HB2.out.mono HB1.out.size)⟩
    · have d2 : decide ((64 : Int) < (l : Int)) = true := decide_eq_true (by omega)
      rw [if_neg fun h => h2 h.1.2] at HCE
      have HE : Hid (dCostE cs rc u = 2 ∧ dCostN cs rc u = 0) := Lib.hid ⟨HCE.out, by rw [HCN.out, HCE.out]; rfl⟩
      clear HA h1 h2
      go_enter Try.func13, Try.ntmps13
      go_wp2
      go_ret2
      exact ⟨by rw [HE.out.1, HE.out.2]; rfl, by rw [← HW1.out]; exact HB1.out⟩
  · have d1 : decide ((l : Int) < 1) = true := decide_eq_true (by omega)
    rw [if_neg fun h => h1 h.1.1] at HCE
    have HE : Hid (dCostE cs rc u = 2 ∧ dCostN cs rc u = 0) := Lib.hid ⟨HCE.out, by rw [HCN.out, HCE.out]; rfl⟩
    clear HA h1
    go_enter Try.func13, Try.ntmps13
    go_wp2
    go_ret2
    exact ⟨by rw [HE.out.1, HE.out.2]; rfl, by rw [← HW1.out]; exact HB1.out⟩
end Go.Proofs.Ytcoihbpadbnilaa
end

section
/- device, the reference: New. -/
namespace Go.Proofs.Ytcoihbpadbnilaa
open Go.RowKit

set_option maxHeartbeats 8000000 in
set_option maxRecDepth 100000 in
theorem rdnew (i st rc f1 f2 f3 : Int) (A B L : Option Addr) (n c m d l lc : Nat) (nx ot : List (List Int)) (cs : List Int) (sd : Nat) (w : World) (hx : Lists w A n nx) (ho : Lists w B m ot) (hcs : Ints w L l cs) :
    Calls Try.prog 11 #[.agg #[.int .i64 i, .int .i64 st, .slice A n c, .slice B m d], .agg #[.slice L l lc, .int .i64 rc], .agg #[.int .i64 f1, .int .i64 f2, .int .i64 f3], .int .u64 (sd : Int)] w fun e w' =>
      ∃ H', e = .returned (.tuple #[dvA (newD i st nx ot cs rc f1 f2 f3 sd).fresh H', .int .i64 (newD i st nx ot cs rc f1 f2 f3 sd).err]) ∧ DevR w' (newD i st nx ot cs rc f1 f2 f3 sd).fresh H' ∧ Below w.heap.size w w' := by
  obtain ⟨H, hH⟩ : ∃ H : DH, H = ⟨A, n, c, B, m, d, L, l, lc⟩ := ⟨_, rfl⟩
  obtain ⟨D, hDD⟩ : ∃ D, D = newD i st nx ot cs rc f1 f2 f3 sd := ⟨_, rfl⟩
  rw [← hDD]
  obtain ⟨w1, hw1⟩ : ∃ w1, w1 = w.alloc (.cells #[.int .i64 i, .int .i64 st, .slice A n c, .slice B m d] 24) := ⟨_, rfl⟩
  obtain ⟨w2, hw2⟩ : ∃ w2, w2 = w1.alloc (.cells #[.slice L l lc, .int .i64 rc] 27) := ⟨_, rfl⟩
  obtain ⟨w3, hw3⟩ : ∃ w3, w3 = w2.alloc (.cells #[.int .i64 f1, .int .i64 f2, .int .i64 f3] 29) := ⟨_, rfl⟩
  obtain ⟨w4, hw4⟩ : ∃ w4, w4 = w3.alloc (.cells zcD 32) := ⟨_, rfl⟩
  have b1 : Below w.heap.size w w1 := by rw [hw1]; exact alloc_below _ _
  have b2 : Below w1.heap.size w1 w2 := by rw [hw2]; exact alloc_below _ _
  have b3 : Below w2.heap.size w2 w3 := by rw [hw3]; exact alloc_below _ _
  have b4 : Below w3.heap.size w3 w4 := by rw [hw4]; exact alloc_below _ _
  have z1 : w1.heap.size = w.heap.size + 1 := by rw [hw1]; simp
  have z2 : w2.heap.size = w.heap.size + 1 + 1 := by rw [hw2]; simp [z1]
  have z3 : w3.heap.size = w.heap.size + 1 + 1 + 1 := by rw [hw3]; simp [z2]
  have z4 : w4.heap.size = w.heap.size + 1 + 1 + 1 + 1 := by rw [hw4]; simp [z3]
  have m1 : Blk w4 w.heap.size #[.int .i64 i, .int .i64 st, .slice A n c, .slice B m d] 24 := ((((by rw [hw1]; exact blk_new _ _ _ : Blk w1 w.heap.size _ _)).on b2).on b3).on b4
  have m2 : Blk w4 (w.heap.size + 1) #[.slice L l lc, .int .i64 rc] 27 := (((by rw [hw2, ← z1]; exact blk_new _ _ _ : Blk w2 (w.heap.size + 1) _ _)).on b3).on b4
  have m3 : Blk w4 (w.heap.size + 1 + 1) #[.int .i64 f1, .int .i64 f2, .int .i64 f3] 29 := ((by rw [hw3, ← z2]; exact blk_new _ _ _ : Blk w3 (w.heap.size + 1 + 1) _ _)).on b4
  have m4 : Blk w4 (w.heap.size + 1 + 1 + 1) zcD 32 := by rw [hw4, ← z3]; exact blk_new _ _ _
  have b14 : Below w.heap.size w w4 := bt b1 (bt b2 (bt b3 b4))
  have k0 : w4.cell? ⟨w.heap.size, 0, none⟩ = some (.int .i64 i) := m1.cell 0
  have k1 : w4.cell? ⟨w.heap.size, 1, none⟩ = some (.int .i64 st) := m1.cell 1
  have k2 : w4.cell? ⟨w.heap.size, 2, none⟩ = some (.slice A n c) := m1.cell 2
  have k3 : w4.cell? ⟨w.heap.size, 3, none⟩ = some (.slice B m d) := m1.cell 3
  have l0 : w4.cell? ⟨w.heap.size + 1, 0, none⟩ = some (.slice L l lc) := m2.cell 0
  have l1 : w4.cell? ⟨w.heap.size + 1, 1, none⟩ = some (.int .i64 rc) := m2.cell 1
  have q0 : w4.cell? ⟨w.heap.size + 1 + 1, 0, none⟩ = some (.int .i64 f1) := m3.cell 0
  have q1 : w4.cell? ⟨w.heap.size + 1 + 1, 1, none⟩ = some (.int .i64 f2) := m3.cell 1
  have q2 : w4.cell? ⟨w.heap.size + 1 + 1, 2, none⟩ = some (.int .i64 f3) := m3.cell 2
  have hw : w4 = (((w.alloc (.cells #[.int .i64 i, .int .i64 st, .slice A n c, .slice B m d] 24)).alloc (.cells #[.slice L l lc, .int .i64 rc] 27)).alloc (.cells #[.int .i64 f1, .int .i64 f2, .int .i64 f3] 29)).alloc (.cells zcD 32) := by rw [hw4, hw3, hw2, hw1]
  obtain ⟨W5, hW5⟩ : ∃ W5, W5 = w4.alloc (.cells (dvC D H) 32) := ⟨_, rfl⟩
  have b5 : Below w4.heap.size w4 W5 := by rw [hW5]; exact alloc_below _ _
  have m5 : Blk W5 w4.heap.size (dvC D H) 32 := by rw [hW5]; exact blk_new _ _ _
  have hD : DevR W5 D H := by rw [hH, hDD]; exact ⟨(hx.below b14).below b5, (ho.below b14).below b5, (hcs.below b14).below b5⟩
  have hD0 : DevR w D H := by rw [hH, hDD]; exact ⟨hx, ho, hcs⟩
  have HD0 := Lib.hid hD0
  have HD := Lib.hid (fun (W : World) (h : Below W5.heap.size W5 W) => hD.below h)
  have HV := Lib.hid (fun (r : Int) (hr : r = D.err) (W : World) (h : Below W5.heap.size W5 W) => rdvalid D H r W (hD.below h) hr)
  have HB5 := Lib.hid b5
  have HB14 := Lib.hid b14
  have HM5 := Lib.hid (fun (W : World) (h : Below W5.heap.size W5 W) => m5.on h)
  have HZ := Lib.hid (fun (W : World) (h : Below W5.heap.size W5 W) => (m4.on b5).on h)
  have HLIT : Hid (#[.int .i64 i, .int .i64 st, .slice A n c, .slice B m d, .int .i64 st, .bool false, .slice L l lc, .int .i64 rc, .int .i64 f1, .int .i64 f2, .int .i64 f3, .int .u64 (sd : Int), .int .i64 0, .int .i64 0, .int .i64 0] = dvC D H) := Lib.hid (by rw [hH, hDD]; rfl)
  rw [hw] at k0 k1 k2 k3 l0 l1 q0 q1 q2
  have HW := Lib.hid hw
  have HW5 := Lib.hid hW5
  have hszD : ∀ D H, (dvC D H).size = 15 := fun _ _ => rfl
  have HSZ := Lib.hid hszD
  have HFR : Hid (D.fresh = if D.err = 0 then D else noD) := Lib.hid rfl
  clear hw1 hw2 hw3 hw4 hw hW5 b1 b2 b3 b4 b14 b5 m1 m2 m3 m4 m5 hD hx ho hcs hD0 hszD hH hDD
  unfold zcD at HW k0 k1 k2 k3 l0 l1 q0 q1 q2
  go_enter Try.func11, Try.ntmps11
  go_upto_region 2 with fail
  rw [← HW.out, HLIT.out, ← HW5.out]
  clear k0 k1 k2 k3 l0 l1 q0 q1 q2
  refine wp_region_list ?_
  refine wpList_load_row rfl 32 _ rfl w4.heap.size (by rw [z4]; rfl) 32 (dvC D H) (0, 0) _ (HM5.out _ (Below.refl _ _)) Try.underlying32 rfl (by rw [HSZ.out]; kernel_rfl) ?_
  go_wp2_with fail
  refine (HV.out _ rfl _ (Below.refl _ _)).mono ?_
  rintro e w6 ⟨rfl, b6⟩
  have HB6 := Lib.hid b6
  clear b6
  by_cases h0 : D.err = 0
  · have HF : Hid (D.fresh = D) := Lib.hid (by rw [HFR.out, if_pos h0])
    have HE := Lib.hid h0
    have hz6 := HZ.out _ HB6.out
    have HZ6 := Lib.hid hz6
    have hF : Hid (DevR (w6.setRow (w.heap.size + 1 + 1 + 1) (dvC D H)) D H ∧ Below w.heap.size w (w6.setRow (w.heap.size + 1 + 1 + 1) (dvC D H)) ∧ Blk (w6.setRow (w.heap.size + 1 + 1 + 1) (dvC D H)) (w.heap.size + 1 + 1 + 1) (dvC D H) 32) := Lib.hid (by
      have s5 : w4.heap.size ≤ W5.heap.size := HB5.out.size
      have s6 := HB6.out.size
      have hb : Below w.heap.size w (w6.setRow (w.heap.size + 1 + 1 + 1) (dvC D H)) := below_setRow (HB14.out.trans ((HB5.out.trans (HB6.out.mono s5)).mono (by omega))) (by omega) _
      exact ⟨HD0.out.below hb, hb, hz6.row _⟩)
    rw [h0]
    clear h0 hz6
    go_upto_region 4 with fail
    refine wp_region_list ?_
    refine wpList_load_row rfl 32 _ rfl w4.heap.size (by rw [z4]; rfl) 32 (dvC D H) (0, 0) _ (HM5.out _ HB6.out) Try.underlying32 rfl (by rw [HSZ.out]; kernel_rfl) ?_
    go_wp2_with (refine wpList_store_row rfl 32 _ _ rfl (w.heap.size + 1 + 1 + 1) (dvC D H) rfl rfl 32 zcD HZ6.out (by rw [HSZ.out]; kernel_rfl) (by rw [HSZ.out]; rfl) (dvC_one _ _) ?_)
    refine bodyPost_ret (results_dev2 (by rfl) _ _ (w.heap.size + 1 + 1 + 1) (dvC D H) (HSZ.out _ _) rfl hF.out.2.2) rfl ⟨H, by rw [HF.out, HE.out]; rfl, by rw [HF.out]; exact hF.out.1, hF.out.2.1⟩
  · have HF : Hid (D.fresh = noD) := Lib.hid (by rw [HFR.out, if_neg h0])
    obtain ⟨v, hv⟩ : ∃ v, v = D.err := ⟨_, rfl⟩
    rw [← hv] at h0 ⊢
    have HVV := Lib.hid hv
    have hne : (v != 0) = true := by simpa using h0
    clear h0 hv
    go_upto_region 3 with fail
    refine wp_region_list ?_
    go_wp2_with (refine wpList_load_row rfl 32 _ rfl w4.heap.size (by rw [z4]; rfl) 32 (dvC D H) (0, 0) _ (HM5.out _ HB6.out) Try.underlying32 rfl (by rw [HSZ.out]; kernel_rfl) ?_)
    refine (HV.out _ HVV.out _ HB6.out).mono ?_
    rintro e w7 ⟨rfl, b7⟩
    have hz7 := HZ.out _ (bt HB6.out b7)
    have HZ7 := Lib.hid hz7
    have hF : Hid (DevR (w7.setRow (w.heap.size + 1 + 1 + 1) (dvC noD noH)) noD noH ∧ Below w.heap.size w (w7.setRow (w.heap.size + 1 + 1 + 1) (dvC noD noH)) ∧ Blk (w7.setRow (w.heap.size + 1 + 1 + 1) (dvC noD noH)) (w.heap.size + 1 + 1 + 1) (dvC noD noH) 32) := Lib.hid (by
      have s5 : w4.heap.size ≤ W5.heap.size := HB5.out.size
      have s6 := HB6.out.size
      refine ⟨noR _, below_setRow ?_ (by omega) _, hz7.row _⟩
      exact HB14.out.trans ((HB5.out.trans ((bt HB6.out b7).mono s5)).mono (by omega)))
    clear hz7 b7
    go_wp2_with (refine wpList_store_row rfl 32 _ _ rfl (w.heap.size + 1 + 1 + 1) (dvC noD noH) rfl rfl 32 zcD HZ7.out (by rw [HSZ.out]; kernel_rfl) (by rw [HSZ.out]; rfl) (dvC_one _ _) ?_)
    refine bodyPost_ret (results_dev2 (by rfl) _ _ (w.heap.size + 1 + 1 + 1) (dvC noD noH) (HSZ.out _ _) rfl hF.out.2.2) rfl ⟨noH, by rw [HF.out, ← HVV.out]; rfl, by rw [HF.out]; exact hF.out.1, hF.out.2.1⟩
end Go.Proofs.Ytcoihbpadbnilaa
end

section
/- The law DeviceNews: the walk. -/
namespace Go.Proofs.Ytcoihbpadbnilaa
open Go.RowKit

set_option linter.unusedSimpArgs false in
set_option linter.unusedVariables false in
set_option maxHeartbeats 16000000 in
set_option maxRecDepth 100000 in
theorem news19_walk (D : DD) (H : DH) (X : Option Addr) (k cx : Nat) (xs : List Int) (w : World) (hD : DevR w D H) (hX : Ints w X k xs) (hs : D.sd < 18446744073709551616) :
    Calls Try.prog 3 #[dvA D H, .slice X k cx] w fun e w' => e = .returned (.bool true) ∧ Below w.heap.size w w' := by
  obtain ⟨w0, hw0⟩ : ∃ w0, w0 = w.alloc (.cells (dvC D H) 32) := ⟨_, rfl⟩
  have hb0 : Below w.heap.size w w0 := by rw [hw0]; exact alloc_below _ _
  have m0 : Blk w0 w.heap.size (dvC D H) 32 := by rw [hw0]; exact blk_new _ _ _
  have HB0 := Lib.hid hb0
  have HM := Lib.hid (fun (W : World) (h : Below w0.heap.size w0 W) => m0.on h)
  have HD := Lib.hid (fun (W : World) (h : Below w0.heap.size w0 W) => (hD.below hb0).below h)
  have HX := Lib.hid (fun (W : World) (h : Below w0.heap.size w0 W) => (hX.below hb0).below h)
  have HXB := Lib.hid hX.2.1
  have HSD := Lib.hid hs
  have HW0 := Lib.hid hw0
  have hbc := Below.refl w0.heap.size w0
  obtain ⟨k0, k1, k2, k3, k4, k5, k6, k7, k8, k9, k10, k11, k12, k13, k14⟩ := m0.dev
  rw [hw0] at k0 k1 k2 k3 k6 k7
  have hszD : ∀ D H, (dvC D H).size = 15 := fun _ _ => rfl
  have HSZ := Lib.hid hszD
  clear hw0 hb0 m0 hD hX hs hszD k4 k5 k8 k9 k10 k11 k12 k13 k14
  unfold dvA
  go_enter Try.func3, Try.ntmps3
  go_wp2_with fail
  rw [← HW0.out]
  refine (rgreat19 _ _ _ _ _ _ _ _ _ _ _ _ D.nx D.ot _ (HD.out _ hbc).nx (HD.out _ hbc).ot).mono ?_
  rintro e w1 ⟨b1, rfl, a1⟩
  have hbc := bt hbc a1
  clear k0 k1 k2 k3 k6 k7 a1
  cases b1 with
  | true =>
    go_wp2_with fail
    refine (awake19 _).mono ?_
    rintro e w9 ⟨rfl, a9⟩
    go_wp2
    go_ret
    exact ⟨rfl, bt HB0.out (bt hbc a9)⟩
  | false =>
    by_cases c1 : 1100 < k
    · have d1 : decide ((1100 : Int) < (k : Int)) = true := decide_eq_true (by omega)
      clear c1
      go_wp2_with fail
      refine (awake19 _).mono ?_
      rintro e w9 ⟨rfl, a9⟩
      go_wp2
      go_ret
      exact ⟨rfl, bt HB0.out (bt hbc a9)⟩
    · have d1 : decide ((1100 : Int) < (k : Int)) = false := decide_eq_false (by omega)
      clear c1
      obtain ⟨F, hF⟩ : ∃ F, F = (newD D.i D.st D.nx D.ot D.cs D.rc D.f1 D.f2 D.f3 D.sd).fresh := ⟨_, rfl⟩
      obtain ⟨E, hE⟩ : ∃ E, E = (newD D.i D.st D.nx D.ot D.cs D.rc D.f1 D.f2 D.f3 D.sd).err := ⟨_, rfl⟩
      have HF := Lib.hid hF
      have HE := Lib.hid hE
      clear hF hE
      obtain ⟨k0, k1, k2, k3, k4, k5, k6, k7, k8, k9, k10, k11, k12, k13, k14⟩ := (HM.out _ hbc).dev
      clear k4 k5 k12 k13 k14
      go_upto_region 3 with fail
      go_wp2_with fail
      refine (pdnew D.i D.st D.rc D.f1 D.f2 D.f3 H.A H.B H.L H.n H.c H.m H.d H.l H.lc D.nx D.ot D.cs D.sd _ (HD.out _ hbc).nx (HD.out _ hbc).ot (HD.out _ hbc).cs HSD.out).mono ?_
      rintro e w2 ⟨H1, rfl, d1', a2⟩
      rw [← HF.out] at d1' ⊢
      rw [← HE.out]
      have hbc := bt hbc a2
      have d1' := d1'.dev
      obtain ⟨W2, hW2⟩ : ∃ W2, W2 = w2.alloc (.cells (dvC F H1) 32) := ⟨_, rfl⟩
      have e2 : Below w2.heap.size w2 W2 := by rw [hW2]; exact alloc_below _ _
      have m2 : Blk W2 w2.heap.size (dvC F H1) 32 := by rw [hW2]; exact blk_new _ _ _
      have d1' := d1'.below e2
      have hbc := bt hbc e2
      have HW2 := Lib.hid hW2
      clear a2 e2 hW2 k0 k1 k2 k3 k6 k7 k8 k9 k10 k11
      obtain ⟨k0, k1, k2, k3, k4, k5, k6, k7, k8, k9, k10, k11, k12, k13, k14⟩ := (HM.out _ hbc).dev
      clear k4 k5 k12 k13 k14
      unfold dvA
      rw [dvC_def F H1]
      go_upto_region 4 with fail
      rw [← dvC_def, ← HW2.out]
      go_wp2_with fail
      refine (rdnew D.i D.st D.rc D.f1 D.f2 D.f3 H.A H.B H.L H.n H.c H.m H.d H.l H.lc D.nx D.ot D.cs D.sd _ (HD.out _ hbc).nx (HD.out _ hbc).ot (HD.out _ hbc).cs).mono ?_
      rintro e w3 ⟨H3, rfl, d3', a3⟩
      rw [← HF.out] at d3' ⊢
      rw [← HE.out]
      have hbc := bt hbc a3
      have d1' := d1'.below a3
      have m2 := m2.on a3
      obtain ⟨W3, hW3⟩ : ∃ W3, W3 = w3.alloc (.cells (dvC F H3) 32) := ⟨_, rfl⟩
      have e3 : Below w3.heap.size w3 W3 := by rw [hW3]; exact alloc_below _ _
      have m3 : Blk W3 w3.heap.size (dvC F H3) 32 := by rw [hW3]; exact blk_new _ _ _
      have m2 := m2.on e3
      have d1' := d1'.below e3
      have d3' := d3'.below e3
      have hbc := bt hbc e3
      have HW3 := Lib.hid hW3
      clear a3 e3 hW3 k0 k1 k2 k3 k6 k7 k8 k9 k10 k11
      obtain ⟨k0, k1, k2, k3, k4, k5, k6, k7, k8, k9, k10, k11, k12, k13, k14⟩ := (HM.out _ hbc).dev
      clear k0 k1 k2 k3 k4 k5 k8 k9 k10 k11 k12 k13 k14
      unfold dvA
      rw [dvC_def F H3]
      go_upto_region 5 with fail
      rw [← dvC_def, ← HW3.out]
      go_wp2_with fail
      refine (pdcost H.L X H.l H.lc k cx D.cs xs D.rc _ (HD.out _ hbc).cs (HX.out _ hbc)).mono ?_
      rintro e w4 ⟨rfl, a4⟩
      have hbc := bt hbc a4
      have m2 := m2.on a4
      have m3 := m3.on a4
      have d1' := d1'.below a4
      have d3' := d3'.below a4
      clear a4 k6 k7
      obtain ⟨k0, k1, k2, k3, k4, k5, k6, k7, k8, k9, k10, k11, k12, k13, k14⟩ := (HM.out _ hbc).dev
      clear k0 k1 k2 k3 k4 k5 k8 k9 k10 k11 k12 k13 k14
      go_wp2_with fail
      refine (rdcost19 H.L X H.l H.lc k cx D.cs xs D.rc _ (HD.out _ hbc).cs (HX.out _ hbc)).mono ?_
      rintro e w5 ⟨rfl, a5⟩
      have hbc := bt hbc a5
      have HSS := Lib.hid (fun (W : World) (h : Below w5.heap.size w5 W) => (show Blk W w2.heap.size (dvC F H1) 32 ∧ Blk W w3.heap.size (dvC F H3) 32 ∧ Blk W w.heap.size (dvC D H) 32 from ⟨(m2.on a5).on h, (m3.on a5).on h, HM.out _ (bt hbc h)⟩))
      have HSA := Lib.hid (fun (W : World) (h : Below w5.heap.size w5 W) => rdsame F H1 H3 W ((d1'.below a5).below h) ((d3'.below a5).below h))
      have HPV := Lib.hid (fun (W : World) (h : Below w5.heap.size w5 W) => pdvalid D H D.err W (HD.out _ (bt hbc h)) rfl)
      have HRV := Lib.hid (fun (W : World) (h : Below w5.heap.size w5 W) => rdvalid D H D.err W (HD.out _ (bt hbc h)) rfl)
      unfold dvA at HSA HPV HRV
      have HB5 := Lib.hid (bt HB0.out hbc)
      generalize dCostN D.cs D.rc xs = cn
      generalize dCostE D.cs D.rc xs = ce
      clear hbc m2 m3 d1' d3' a5 k6 k7
      go_wp2_with fail
      have hbf : Below w5.heap.size w5 w5.drew := below_drewN (Below.refl _ _) 1
      refine wp_region_heldX (X := fun k => ([] : List Nat).contains k) (S := fun W => Blk W w2.heap.size (dvC F H1) 32 ∧ Blk W w3.heap.size (dvC F H3) 32 ∧ Blk W w.heap.size (dvC D H) 32) (by kernel_rfl) ?_
      refine wpAnyX_takeL (L := []) (i := 0) (v := .agg (dvC F H1)) rfl (by kernel_rfl) (by kernel_rfl) (by kernel_rfl) (by kernel_rfl) (fun _ _ _ h => h) (Or.inl ⟨by rfl, fun W hSW => run_load_blk 32 _ rfl (w2.heap.size) rfl 32 (dvC F H1) (0, 0) _ (hSW.1) Try.underlying32 rfl (by rw [HSZ.out]; kernel_rfl)⟩) (HSS.out _ hbf) ?_
      (try simp only [Act.put, List.getElem_toArray, List.getElem_cons_zero, List.getElem_cons_succ, List.setIfInBounds_toArray, List.set_cons_zero, List.set_cons_succ])
      refine wpAnyX_takeL (L := []) (i := 1) (v := .agg (dvC F H3)) rfl (by kernel_rfl) (by kernel_rfl) (by kernel_rfl) (by kernel_rfl) (fun _ _ _ h => h) (Or.inl ⟨by rfl, fun W hSW => run_load_blk 32 _ rfl (w3.heap.size) rfl 32 (dvC F H3) (0, 0) _ (hSW.2.1) Try.underlying32 rfl (by rw [HSZ.out]; kernel_rfl)⟩) (HSS.out _ hbf) ?_
      (try simp only [Act.put, List.getElem_toArray, List.getElem_cons_zero, List.getElem_cons_succ, List.setIfInBounds_toArray, List.set_cons_zero, List.set_cons_succ])
      refine wpAnyX_one (i := 2) rfl (by kernel_rfl) (fun K hK => ?_)
      go_simp
      go_at_call 14
      refine (HSA.out _ hbf).mono ?_
      rintro e u1 ⟨rfl, b9⟩
      have hbf := bt hbf b9
      clear b9
      refine hK.out _ _ (fun _ _ => HSS.out _ hbf) ?_
      (try simp only [Act.put, List.getElem_toArray, List.getElem_cons_zero, List.getElem_cons_succ, List.setIfInBounds_toArray, List.set_cons_zero, List.set_cons_succ])
      refine wpAnyX_pure (i := 3) (v := ?_) rfl (by kernel_rfl) (by kernel_rfl) (by kernel_rfl) (fun _ _ _ h => h) (Or.inl ⟨by rfl, ?_⟩) ?_
      rotate_left
      · (intro W _; go_simp; try with_reducible rfl)
      (try simp only [Act.put, List.getElem_toArray, List.getElem_cons_zero, List.getElem_cons_succ, List.setIfInBounds_toArray, List.set_cons_zero, List.set_cons_succ])
      refine wpAnyX_pure (i := 4) (v := ?_) rfl (by kernel_rfl) (by kernel_rfl) (by kernel_rfl) (fun _ _ _ h => h) (Or.inl ⟨by rfl, ?_⟩) ?_
      rotate_left
      · (intro W _; go_simp; try with_reducible rfl)
      (try simp only [Act.put, List.getElem_toArray, List.getElem_cons_zero, List.getElem_cons_succ, List.setIfInBounds_toArray, List.set_cons_zero, List.set_cons_succ])
      refine wpAnyX_pure (i := 5) (v := ?_) rfl (by kernel_rfl) (by kernel_rfl) (by kernel_rfl) (fun _ _ _ h => h) (Or.inl ⟨by rfl, ?_⟩) ?_
      rotate_left
      · (intro W _; go_simp; try with_reducible rfl)
      (try simp only [Act.put, List.getElem_toArray, List.getElem_cons_zero, List.getElem_cons_succ, List.setIfInBounds_toArray, List.set_cons_zero, List.set_cons_succ])
      refine wpAnyX_pure (i := 6) (v := ?_) rfl (by kernel_rfl) (by kernel_rfl) (by kernel_rfl) (fun _ _ _ h => h) (Or.inl ⟨by rfl, ?_⟩) ?_
      rotate_left
      · (intro W _; go_simp; try with_reducible rfl)
      (try simp only [Act.put, List.getElem_toArray, List.getElem_cons_zero, List.getElem_cons_succ, List.setIfInBounds_toArray, List.set_cons_zero, List.set_cons_succ])
      refine wpAnyX_pure (i := 7) (v := ?_) rfl (by kernel_rfl) (by kernel_rfl) (by kernel_rfl) (fun _ _ _ h => h) (Or.inl ⟨by rfl, ?_⟩) ?_
      rotate_left
      · (intro W _; go_simp; try with_reducible rfl)
      (try simp only [Act.put, List.getElem_toArray, List.getElem_cons_zero, List.getElem_cons_succ, List.setIfInBounds_toArray, List.set_cons_zero, List.set_cons_succ])
      refine wpAnyX_pure (i := 8) (v := ?_) rfl (by kernel_rfl) (by kernel_rfl) (by kernel_rfl) (fun _ _ _ h => h) (Or.inl ⟨by rfl, ?_⟩) ?_
      rotate_left
      · (intro W _; go_simp; try with_reducible rfl)
      (try simp only [Act.put, List.getElem_toArray, List.getElem_cons_zero, List.getElem_cons_succ, List.setIfInBounds_toArray, List.set_cons_zero, List.set_cons_succ])
      refine wpAnyX_takeL (L := []) (i := 9) (v := .agg (dvC D H)) rfl (by kernel_rfl) (by kernel_rfl) (by kernel_rfl) (by kernel_rfl) (fun _ _ _ h => h) (Or.inl ⟨by rfl, fun W hSW => run_load_blk 32 _ rfl (w.heap.size) rfl 32 (dvC D H) (0, 0) _ (hSW.2.2) Try.underlying32 rfl (by rw [HSZ.out]; kernel_rfl)⟩) (HSS.out _ hbf) ?_
      (try simp only [Act.put, List.getElem_toArray, List.getElem_cons_zero, List.getElem_cons_succ, List.setIfInBounds_toArray, List.set_cons_zero, List.set_cons_succ])
      refine wpAnyX_takeL (L := []) (i := 11) (v := .agg (dvC D H)) rfl (by kernel_rfl) (by kernel_rfl) (by kernel_rfl) (by kernel_rfl) (fun _ _ _ h => h) (Or.inl ⟨by rfl, fun W hSW => run_load_blk 32 _ rfl (w.heap.size) rfl 32 (dvC D H) (0, 0) _ (hSW.2.2) Try.underlying32 rfl (by rw [HSZ.out]; kernel_rfl)⟩) (HSS.out _ hbf) ?_
      (try simp only [Act.put, List.getElem_toArray, List.getElem_cons_zero, List.getElem_cons_succ, List.setIfInBounds_toArray, List.set_cons_zero, List.set_cons_succ])
      refine wpAnyX_one (i := 10) rfl (by kernel_rfl) (fun K hK => ?_)
      go_simp
      go_at_call 15
      refine (HPV.out _ hbf).mono ?_
      rintro e u2 ⟨rfl, b9⟩
      have hbf := bt hbf b9
      clear b9
      refine hK.out _ _ (fun _ _ => HSS.out _ hbf) ?_
      (try simp only [Act.put, List.getElem_toArray, List.getElem_cons_zero, List.getElem_cons_succ, List.setIfInBounds_toArray, List.set_cons_zero, List.set_cons_succ])
      refine wpAnyX_one (i := 12) rfl (by kernel_rfl) (fun K hK => ?_)
      go_simp
      go_at_call 16
      refine (HRV.out _ hbf).mono ?_
      rintro e u3 ⟨rfl, b9⟩
      have hbf := bt hbf b9
      clear b9
      refine hK.out _ _ (fun _ _ => HSS.out _ hbf) ?_
      (try simp only [Act.put, List.getElem_toArray, List.getElem_cons_zero, List.getElem_cons_succ, List.setIfInBounds_toArray, List.set_cons_zero, List.set_cons_succ])
      refine wpAnyX_pure (i := 13) (v := ?_) rfl (by kernel_rfl) (by kernel_rfl) (by kernel_rfl) (fun _ _ _ h => h) (Or.inl ⟨by rfl, ?_⟩) ?_
      rotate_left
      · (intro W _; go_simp; try with_reducible rfl)
      (try simp only [Act.put, List.getElem_toArray, List.getElem_cons_zero, List.getElem_cons_succ, List.setIfInBounds_toArray, List.set_cons_zero, List.set_cons_succ])
      refine wpAnyX_pure (i := 14) (v := ?_) rfl (by kernel_rfl) (by kernel_rfl) (by kernel_rfl) (fun _ _ _ h => h) (Or.inl ⟨by rfl, ?_⟩) ?_
      rotate_left
      · (intro W _; go_simp; try with_reducible rfl)
      (try simp only [Act.put, List.getElem_toArray, List.getElem_cons_zero, List.getElem_cons_succ, List.setIfInBounds_toArray, List.set_cons_zero, List.set_cons_succ])
      refine wpAnyX_pure (i := 15) (v := ?_) rfl (by kernel_rfl) (by kernel_rfl) (by kernel_rfl) (fun _ _ _ h => h) (Or.inl ⟨by rfl, ?_⟩) ?_
      rotate_left
      · (intro W _; go_simp; try with_reducible rfl)
      (try simp only [Act.put, List.getElem_toArray, List.getElem_cons_zero, List.getElem_cons_succ, List.setIfInBounds_toArray, List.set_cons_zero, List.set_cons_succ])
      refine wpAnyX_pure (i := 16) (v := ?_) rfl (by kernel_rfl) (by kernel_rfl) (by kernel_rfl) (fun _ _ _ h => h) (Or.inl ⟨by rfl, ?_⟩) ?_
      rotate_left
      · (intro W _; go_simp; try with_reducible rfl)
      (try simp only [Act.put, List.getElem_toArray, List.getElem_cons_zero, List.getElem_cons_succ, List.setIfInBounds_toArray, List.set_cons_zero, List.set_cons_succ])
      refine wpAnyX_pure (i := 17) (v := ?_) rfl (by kernel_rfl) (by kernel_rfl) (by kernel_rfl) (fun _ _ _ h => h) (Or.inl ⟨by rfl, ?_⟩) ?_
      rotate_left
      · (intro W _; go_simp; try with_reducible rfl)
      (try simp only [Act.put, List.getElem_toArray, List.getElem_cons_zero, List.getElem_cons_succ, List.setIfInBounds_toArray, List.set_cons_zero, List.set_cons_succ])
      refine wpAnyX_pure (i := 18) (v := ?_) rfl (by kernel_rfl) (by kernel_rfl) (by kernel_rfl) (fun _ _ _ h => h) (Or.inl ⟨by rfl, ?_⟩) ?_
      rotate_left
      · (intro W _; go_simp; try with_reducible rfl)
      (try simp only [Act.put, List.getElem_toArray, List.getElem_cons_zero, List.getElem_cons_succ, List.setIfInBounds_toArray, List.set_cons_zero, List.set_cons_succ])
      refine wpAnyX_pure (i := 19) (v := ?_) rfl (by kernel_rfl) (by kernel_rfl) (by kernel_rfl) (fun _ _ _ h => h) (Or.inl ⟨by rfl, ?_⟩) ?_
      rotate_left
      · (intro W _; go_simp; try with_reducible rfl)
      (try simp only [Act.put, List.getElem_toArray, List.getElem_cons_zero, List.getElem_cons_succ, List.setIfInBounds_toArray, List.set_cons_zero, List.set_cons_succ])
      refine wpAnyX_pure (i := 20) (v := ?_) rfl (by kernel_rfl) (by kernel_rfl) (by kernel_rfl) (fun _ _ _ h => h) (Or.inl ⟨by rfl, ?_⟩) ?_
      rotate_left
      · (intro W _; go_simp; try with_reducible rfl)
      (try simp only [Act.put, List.getElem_toArray, List.getElem_cons_zero, List.getElem_cons_succ, List.setIfInBounds_toArray, List.set_cons_zero, List.set_cons_succ])
      refine wpAnyX_pure (i := 21) (v := ?_) rfl (by kernel_rfl) (by kernel_rfl) (by kernel_rfl) (fun _ _ _ h => h) (Or.inl ⟨by rfl, ?_⟩) ?_
      rotate_left
      · (intro W _; go_simp; try with_reducible rfl)
      (try simp only [Act.put, List.getElem_toArray, List.getElem_cons_zero, List.getElem_cons_succ, List.setIfInBounds_toArray, List.set_cons_zero, List.set_cons_succ])
      refine wpAnyX_pure (i := 22) (v := ?_) rfl (by kernel_rfl) (by kernel_rfl) (by kernel_rfl) (fun _ _ _ h => h) (Or.inl ⟨by rfl, ?_⟩) ?_
      rotate_left
      · (intro W _; go_simp; try with_reducible rfl)
      (try simp only [Act.put, List.getElem_toArray, List.getElem_cons_zero, List.getElem_cons_succ, List.setIfInBounds_toArray, List.set_cons_zero, List.set_cons_succ])
      refine wpAnyX_pure (i := 23) (v := ?_) rfl (by kernel_rfl) (by kernel_rfl) (by kernel_rfl) (fun _ _ _ h => h) (Or.inl ⟨by rfl, ?_⟩) ?_
      rotate_left
      · (intro W _; go_simp; try with_reducible rfl)
      (try simp only [Act.put, List.getElem_toArray, List.getElem_cons_zero, List.getElem_cons_succ, List.setIfInBounds_toArray, List.set_cons_zero, List.set_cons_succ])
      refine wpAnyX_pure (i := 24) (v := ?_) rfl (by kernel_rfl) (by kernel_rfl) (by kernel_rfl) (fun _ _ _ h => h) (Or.inl ⟨by rfl, ?_⟩) ?_
      rotate_left
      · (intro W _; go_simp; try with_reducible rfl)
      (try simp only [Act.put, List.getElem_toArray, List.getElem_cons_zero, List.getElem_cons_succ, List.setIfInBounds_toArray, List.set_cons_zero, List.set_cons_succ])
      refine wpAnyX_pure (i := 25) (v := ?_) rfl (by kernel_rfl) (by kernel_rfl) (by kernel_rfl) (fun _ _ _ h => h) (Or.inl ⟨by rfl, ?_⟩) ?_
      rotate_left
      · (intro W _; go_simp; try with_reducible rfl)
      (try simp only [Act.put, List.getElem_toArray, List.getElem_cons_zero, List.getElem_cons_succ, List.setIfInBounds_toArray, List.set_cons_zero, List.set_cons_succ])
      refine wpAnyX_one (i := 26) rfl (by kernel_rfl) (fun K hK => ?_)
      go_simp
      go_at_call 9
      refine (awake19 _).mono ?_
      rintro e u4 ⟨rfl, b9⟩
      have hbf := bt hbf b9
      clear b9
      refine hK.out _ _ (fun _ _ => HSS.out _ hbf) ?_
      (try simp only [Act.put, List.getElem_toArray, List.getElem_cons_zero, List.getElem_cons_succ, List.setIfInBounds_toArray, List.set_cons_zero, List.set_cons_succ])
      refine wpAnyX_pure (i := 27) (v := ?_) rfl (by kernel_rfl) (by kernel_rfl) (by kernel_rfl) (fun _ _ _ h => h) (Or.inl ⟨by rfl, ?_⟩) ?_
      rotate_left
      · (intro W _; go_simp; try with_reducible rfl)
      (try simp only [Act.put, List.getElem_toArray, List.getElem_cons_zero, List.getElem_cons_succ, List.setIfInBounds_toArray, List.set_cons_zero, List.set_cons_succ])
      refine wpAnyX_pure (i := 28) (v := ?_) rfl (by kernel_rfl) (by kernel_rfl) (by kernel_rfl) (fun _ _ _ h => h) (Or.inl ⟨by rfl, ?_⟩) ?_
      rotate_left
      · (intro W _; go_simp; try with_reducible rfl)
      (try simp only [Act.put, List.getElem_toArray, List.getElem_cons_zero, List.getElem_cons_succ, List.setIfInBounds_toArray, List.set_cons_zero, List.set_cons_succ])
      refine wpAnyX_done (by kernel_rfl) ?_ _
      have HBF := Lib.hid hbf
      clear hbf
      go_wp2
      go_ret
      exact ⟨rfl, bt HB5.out HBF.out⟩
end Go.Proofs.Ytcoihbpadbnilaa
end
