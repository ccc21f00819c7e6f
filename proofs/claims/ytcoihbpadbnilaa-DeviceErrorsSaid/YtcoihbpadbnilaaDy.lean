/- Lemmas of the proofs of this seat, of the parts L19s. Conditions: none. -/
import Derived.Test.YtcoihbpadbnilaaDc
section
/- The law DeviceSteps: the walk. -/
namespace Go.Proofs.Ytcoihbpadbnilaa
open Go.RowKit

theorem DevR.resetD {w : World} {D : DD} {H : DH} (h : DevR w D H) : DevR w D.resetD H := by
  unfold DD.resetD
  by_cases e : D.err = 0
  · rw [if_pos e]; exact h.rst
  · rw [if_neg e]; exact h
theorem DevR.stepD {w : World} {D : DD} {H : DH} (h : DevR w D H) (a : Int) : DevR w (D.stepD a) H := by
  unfold DD.stepD
  by_cases e : D.err = 0
  · rw [if_pos e]; exact h.stp a
  · rw [if_neg e]; exact h
theorem sd_reset {D : DD} (h : D.sd < 18446744073709551616) : D.resetD.sd < 18446744073709551616 := by
  unfold DD.resetD DD.rstD
  by_cases e : D.err = 0
  · rw [if_pos e]
    by_cases c : D.canR
    · rw [if_pos c]; exact h
    · rw [if_neg c]; exact h
  · rw [if_neg e]; exact h
theorem sd_step {D : DD} (h : D.sd < 18446744073709551616) (a : Int) : (D.stepD a).sd < 18446744073709551616 := by
  unfold DD.stepD DD.stpD
  by_cases e : D.err = 0
  · rw [if_pos e]
    by_cases c : D.stpE a = 0
    · rw [if_pos c]; exact Drs_lt _ _
    · rw [if_neg c]; exact h
  · rw [if_neg e]; exact h
/-- The program's device reads as it should, whatever is written below a number. -/
def ARel (w0 wr : World) (hi : Nat) (D : DD) (H Ha : DH) : Prop := DevR w0 D H ∧ (Ha = H ∨ DevN wr hi D Ha)
theorem ARel.dev {w0 wr : World} {hi : Nat} {D : DD} {H Ha : DH} (h : ARel w0 wr hi D H Ha) (hb : Below w0.heap.size w0 wr) : DevR wr D Ha := by
  obtain ⟨h1, h2⟩ := h
  rcases h2 with rfl | h2
  · exact h1.below hb
  · exact h2.dev
theorem ARel.ref {w0 wr : World} {hi : Nat} {D : DD} {H Ha : DH} (h : ARel w0 wr hi D H Ha) (hb : Below w0.heap.size w0 wr) : DevR wr D H := h.1.below hb
theorem ARel.on {w0 wr w' : World} {hi : Nat} {D : DD} {H Ha : DH} (h : ARel w0 wr hi D H Ha) (hb : Below wr.heap.size wr w') : ARel w0 w' hi D H Ha := ⟨h.1, h.2.elim .inl fun k => .inr (k.below hb)⟩
theorem ARel.row {w0 wr : World} {hi g : Nat} {D : DD} {H Ha : DH} (h : ARel w0 wr hi D H Ha) (hg : g < hi) (cs : Array Value) : ARel w0 (wr.setRow g cs) hi D H Ha := ⟨h.1, h.2.elim .inl fun k => .inr (k.row hg cs)⟩
theorem ARel.next {w0 wr w1 w' : World} {hi : Nat} {D D' : DD} {H Ha Ha' : DH} (h : ARel w0 wr hi D H Ha) (hb : Below wr.heap.size wr w1) (hb' : Below w1.heap.size w1 w') (hz : hi ≤ w1.heap.size) (ht : ∀ (W : World) (X : DH), DevR W D X → DevR W D' X) (hg : DevG w1 w' Ha D' Ha') : ARel w0 w' hi D' H Ha' := by
  refine ⟨ht _ _ h.1, ?_⟩
  rcases hg with hg | ⟨rfl, _⟩
  · exact .inr (hg.lower hz)
  · exact h.2.elim .inl fun k => .inr fun W hW => ht _ _ ((k.below hb).below hb' W hW)
/-- Two boxes of a device. -/
def TwoD (w : World) (D : DD) (H : DH) (u v : Value) (wx : World) : Prop := ∃ g k : Nat, u = .pointer (some ⟨g, 0, none⟩) ∧ v = .pointer (some ⟨k, 0, none⟩) ∧ g ≠ k ∧ w.heap.size ≤ g ∧ w.heap.size ≤ k ∧ Blk wx g (dvC D H) 32 ∧ Blk wx k (dvC D H) 32 ∧ Below w.heap.size w wx
/-- A new box of a device. -/
def NewD (w : World) (D : DD) (H : DH) (v : Value) (wx : World) : Prop := ∃ g : Nat, v = .pointer (some ⟨g, 0, none⟩) ∧ w.heap.size ≤ g ∧ Blk wx g (dvC D H) 32 ∧ Below w.heap.size w wx

/-- What the program's step leaves. -/
def CutA (w0 V : World) (hi : Nat) (D : DD) (H : DH) (o e : Int) (u v x : Value) (wx : World) : Prop := ∃ Hb, NewD V D Hb u wx ∧ v = .int .i64 o ∧ x = .int .i64 e ∧ ARel w0 wx hi D H Hb
theorem ARel.newB {w0 V w1 u : World} {hi g : Nat} {D D2 : DD} {H Ha Hb : DH} {cs : Array Value} (h : ARel w0 V hi D H Ha) (hb : Below V.heap.size V w1) (b9 : Below w1.heap.size w1 u) (hz : hi ≤ V.heap.size) (ht : ∀ (W : World) (X : DH), DevR W D X → DevR W D2 X) (hg : DevG w1 u Ha D2 Hb) (h1 : V.heap.size ≤ g) (h2 : g < w1.heap.size) :
    ARel w0 (u.setRow g cs) hi D2 H Hb := by
  refine ⟨ht _ _ h.1, ?_⟩
  have hs := hb.size
  rcases hg with hg | ⟨rfl, _⟩
  · exact .inr ((hg.row h2 cs).lower (by omega))
  · refine h.2.elim .inl fun k => .inr fun W hW => ht _ _ (k W fun b hb1 hb2 => ?_)
    have hs9 := b9.size
    rw [hW b hb1 (by simp; omega), setRow_other _ _ _ _ (by omega)]
    exact (bt hb b9).block b hb2
theorem blk_two (w : World) (cs c2 : Array Value) (t : TypeId) : Blk ((w.alloc (.cells cs t)).alloc (.cells c2 t)) w.heap.size cs t ∧ Blk ((w.alloc (.cells cs t)).alloc (.cells c2 t)) (w.heap.size + 1) c2 t := by
  refine ⟨(blk_new w cs t).on (alloc_below _ _), ?_⟩
  rw [show w.heap.size + 1 = (w.alloc (.cells cs t)).heap.size by simp]
  exact blk_new _ _ _

set_option linter.unusedSimpArgs false in
set_option linter.unusedVariables false in
set_option maxHeartbeats 16000000 in
set_option maxRecDepth 100000 in
theorem steps19_walk (D : DD) (H : DH) (X : Option Addr) (k cx : Nat) (xs : List Int) (w : World) (hD : DevR w D H) (hX : Ints w X k xs) (hs : D.sd < 18446744073709551616) :
    Calls Try.prog 4 #[dvA D H, .slice X k cx] w fun e w' => e = .returned (.bool true) ∧ Below w.heap.size w w' := by
  obtain ⟨w0, hw0⟩ : ∃ w0, w0 = w.alloc (.cells (dvC D H) 32) := ⟨_, rfl⟩
  have hb0 : Below w.heap.size w w0 := by rw [hw0]; exact alloc_below _ _
  have m0 : Blk w0 w.heap.size (dvC D H) 32 := by rw [hw0]; exact blk_new _ _ _
  have HB0 := Lib.hid hb0
  have HM := Lib.hid (fun (W : World) (h : Below w0.heap.size w0 W) => m0.on h)
  have HD := Lib.hid (fun (W : World) (h : Below w0.heap.size w0 W) => (hD.below hb0).below h)
  have HX := Lib.hid (fun (W : World) (h : Below w0.heap.size w0 W) => (hX.below hb0).below h)
  have HXB := Lib.hid hX.2.1
  have HSD := Lib.hid hs
  have HW0 := Lib.hid hw0
  have hbc := Below.refl w0.heap.size w0
  obtain ⟨k0, k1, k2, k3, k4, k5, k6, k7, k8, k9, k10, k11, k12, k13, k14⟩ := m0.dev
  rw [hw0] at k0 k1 k2 k3 k6 k7
  have hszD : ∀ D H, (dvC D H).size = 15 := fun _ _ => rfl
  have HSZ := Lib.hid hszD
  clear hw0 hb0 m0 hD hX hs hszD k4 k5 k8 k9 k10 k11 k12 k13 k14
  unfold dvA
  go_enter Try.func4, Try.ntmps4
  go_wp2_with fail
  rw [← HW0.out]
  refine (rgreat19 _ _ _ _ _ _ _ _ _ _ _ _ D.nx D.ot _ (HD.out _ hbc).nx (HD.out _ hbc).ot).mono ?_
  rintro e w1 ⟨b1, rfl, a1⟩
  have hbc := bt hbc a1
  clear k0 k1 k2 k3 k6 k7 a1
  cases b1 with
  | true =>
    go_wp2_with fail
    refine (awake19 _).mono ?_
    rintro e w9 ⟨rfl, a9⟩
    go_wp2
    go_ret
    exact ⟨rfl, bt HB0.out (bt hbc a9)⟩
  | false =>
    by_cases c1 : 60 < k
    · have d1 : decide ((60 : Int) < (k : Int)) = true := decide_eq_true (by omega)
      clear c1
      go_wp2_with fail
      refine (awake19 _).mono ?_
      rintro e w9 ⟨rfl, a9⟩
      go_wp2
      go_ret
      exact ⟨rfl, bt HB0.out (bt hbc a9)⟩
    · have d1 : decide ((60 : Int) < (k : Int)) = false := decide_eq_false (by omega)
      have hk60 : k ≤ 60 := by omega
      clear c1
      go_upto_region 3 with fail
      have hzw : w.heap.size < w1.heap.size := (HM.out _ hbc).lt
      go_cut [5, 6] from 29 to 30 (fun v5 v6 wx => TwoD w1 D H v5 v6 wx)
      case first =>
        have hbf : Below w0.heap.size w0 w1.drew := bt hbc (below_drewN (Below.refl _ _) 1)
        have hbf0 : Below w1.heap.size w1 w1.drew := below_drewN (Below.refl _ _) 1
        have hzd1 : w1.heap.size ≤ w1.drew.heap.size := Nat.le_refl _
        have hzd2 : w1.drew.heap.size ≤ w1.heap.size := Nat.le_refl _
        refine wp_region_heldX (X := fun k => ([] : List Nat).contains k) (S := fun W => Blk W w.heap.size (dvC D H) 32) (by kernel_rfl) ?_
        refine wpAnyX_takeL (L := []) (i := 0) (v := .agg (dvC D H)) rfl (by kernel_rfl) (by kernel_rfl) (by kernel_rfl) (by kernel_rfl) (fun _ _ _ h => h) (Or.inl ⟨by rfl, fun W hSW => run_load_blk 32 _ rfl (w.heap.size) rfl 32 (dvC D H) (0, 0) _ (hSW) Try.underlying32 rfl (by rw [HSZ.out]; kernel_rfl)⟩) (HM.out _ hbf) ?_
        (try simp only [Act.put, List.getElem_toArray, List.getElem_cons_zero, List.getElem_cons_succ, List.setIfInBounds_toArray, List.set_cons_zero, List.set_cons_succ])
        refine wpAnyX_takeL (L := []) (i := 1) (v := .agg (dvC D H)) rfl (by kernel_rfl) (by kernel_rfl) (by kernel_rfl) (by kernel_rfl) (fun _ _ _ h => h) (Or.inl ⟨by rfl, fun W hSW => run_load_blk 32 _ rfl (w.heap.size) rfl 32 (dvC D H) (0, 0) _ (hSW) Try.underlying32 rfl (by rw [HSZ.out]; kernel_rfl)⟩) (HM.out _ hbf) ?_
        (try simp only [Act.put, List.getElem_toArray, List.getElem_cons_zero, List.getElem_cons_succ, List.setIfInBounds_toArray, List.set_cons_zero, List.set_cons_succ])
        refine wpAnyX_two (i := 2) (j := 3) rfl rfl (by kernel_rfl) (fun K hK => ?_) (fun K hK => ?_)
        · go_simp
          refine hK.out _ _ (fun _ _ => HM.out _ (bt hbf (alloc_below _ _))) ?_
          (try simp only [Act.put, List.getElem_toArray, List.getElem_cons_zero, List.getElem_cons_succ, List.setIfInBounds_toArray, List.set_cons_zero, List.set_cons_succ])
          refine wpAnyX_one (i := 3) rfl (by kernel_rfl) (fun K hK => ?_)
          go_simp
          refine hK.out _ _ (fun _ _ => HM.out _ (bt (bt hbf (alloc_below _ _)) (alloc_below _ _))) ?_
          (try simp only [Act.put, List.getElem_toArray, List.getElem_cons_zero, List.getElem_cons_succ, List.setIfInBounds_toArray, List.set_cons_zero, List.set_cons_succ])
          have hT := blk_two w1.drew zcD zcD 32
          unfold zcD at hT
          refine wpAnyX_one (i := 4) rfl (by kernel_rfl) (fun K hK => ?_)
          refine wp_store_row 32 _ _ rfl (w1.heap.size) (dvC D H) rfl rfl 32 (zcD) (hT.1) (by rw [HSZ.out]; kernel_rfl) (by first | rfl | (rw [HSZ.out]; rfl)) (dvC_one _ _) (hK.out _ _ (fun _ _ => (HM.out _ (bt (bt hbf (alloc_below _ _)) (alloc_below _ _))).rowOther (by omega) _) ?_)
          (try simp only [Act.put, List.getElem_toArray, List.getElem_cons_zero, List.getElem_cons_succ, List.setIfInBounds_toArray, List.set_cons_zero, List.set_cons_succ])
          refine wpAnyX_one (i := 5) rfl (by kernel_rfl) (fun K hK => ?_)
          refine wp_store_row 32 _ _ rfl (w1.heap.size + 1) (dvC D H) rfl rfl 32 (zcD) ((hT.2).rowOther (by omega) _) (by rw [HSZ.out]; kernel_rfl) (by first | rfl | (rw [HSZ.out]; rfl)) (dvC_one _ _) (hK.out _ _ (fun _ _ => ((HM.out _ (bt (bt hbf (alloc_below _ _)) (alloc_below _ _))).rowOther (by omega) _).rowOther (by omega) _) ?_)
          (try simp only [Act.put, List.getElem_toArray, List.getElem_cons_zero, List.getElem_cons_succ, List.setIfInBounds_toArray, List.set_cons_zero, List.set_cons_succ])
          refine wpAnyX_done (by kernel_rfl) ?_ _
          go_wp2_with fail
          go_meet
          exact ⟨w1.heap.size, w1.heap.size + 1, rfl, rfl, by omega, by omega, by omega, ((hT.1).row _).rowOther (by omega) _, ((hT.2).rowOther (by omega) _).row _, below_setRow (below_setRow (bt (bt hbf0 (alloc_below _ _)) (alloc_below _ _)) (by omega) _) (by omega) _⟩
        · go_simp
          refine hK.out _ _ (fun _ _ => HM.out _ (bt hbf (alloc_below _ _))) ?_
          (try simp only [Act.put, List.getElem_toArray, List.getElem_cons_zero, List.getElem_cons_succ, List.setIfInBounds_toArray, List.set_cons_zero, List.set_cons_succ])
          refine wpAnyX_one (i := 2) rfl (by kernel_rfl) (fun K hK => ?_)
          go_simp
          refine hK.out _ _ (fun _ _ => HM.out _ (bt (bt hbf (alloc_below _ _)) (alloc_below _ _))) ?_
          (try simp only [Act.put, List.getElem_toArray, List.getElem_cons_zero, List.getElem_cons_succ, List.setIfInBounds_toArray, List.set_cons_zero, List.set_cons_succ])
          have hT := blk_two w1.drew zcD zcD 32
          unfold zcD at hT
          refine wpAnyX_one (i := 4) rfl (by kernel_rfl) (fun K hK => ?_)
          refine wp_store_row 32 _ _ rfl (w1.heap.size + 1) (dvC D H) rfl rfl 32 (zcD) (hT.2) (by rw [HSZ.out]; kernel_rfl) (by first | rfl | (rw [HSZ.out]; rfl)) (dvC_one _ _) (hK.out _ _ (fun _ _ => (HM.out _ (bt (bt hbf (alloc_below _ _)) (alloc_below _ _))).rowOther (by omega) _) ?_)
          (try simp only [Act.put, List.getElem_toArray, List.getElem_cons_zero, List.getElem_cons_succ, List.setIfInBounds_toArray, List.set_cons_zero, List.set_cons_succ])
          refine wpAnyX_one (i := 5) rfl (by kernel_rfl) (fun K hK => ?_)
          refine wp_store_row 32 _ _ rfl (w1.heap.size) (dvC D H) rfl rfl 32 (zcD) ((hT.1).rowOther (by omega) _) (by rw [HSZ.out]; kernel_rfl) (by first | rfl | (rw [HSZ.out]; rfl)) (dvC_one _ _) (hK.out _ _ (fun _ _ => ((HM.out _ (bt (bt hbf (alloc_below _ _)) (alloc_below _ _))).rowOther (by omega) _).rowOther (by omega) _) ?_)
          (try simp only [Act.put, List.getElem_toArray, List.getElem_cons_zero, List.getElem_cons_succ, List.setIfInBounds_toArray, List.set_cons_zero, List.set_cons_succ])
          refine wpAnyX_done (by kernel_rfl) ?_ _
          go_wp2_with fail
          go_meet
          exact ⟨w1.heap.size + 1, w1.heap.size, rfl, rfl, by omega, by omega, by omega, ((hT.2).row _).rowOther (by omega) _, ((hT.1).rowOther (by omega) _).row _, below_setRow (below_setRow (bt (bt hbf0 (alloc_below _ _)) (alloc_below _ _)) (by omega) _) (by omega) _⟩
      case rest =>
        obtain ⟨g5, g6, rfl, rfl, hne, hg5, hg6, m5, m6, b2⟩ := hcut
        obtain ⟨W3, rfl⟩ : ∃ W3 : World, W3 = wc := ⟨_, rfl⟩
        have hA : ARel w0 W3 W3.heap.size D H H := ⟨HD.out _ (Below.refl _ _), .inl rfl⟩
        have h5 := m5.lt
        have h6 := m6.lt
        have hg5 : w0.heap.size ≤ g5 := Nat.le_trans hbc.size hg5
        have hg6 : w0.heap.size ≤ g6 := Nat.le_trans hbc.size hg6
        have hne2 : g6 ≠ g5 := fun h => hne h.symm
        have HBW := Lib.hid (bt hbc b2)
        have HM5 := Lib.hid m5
        have HM6 := Lib.hid m6
        have HA := Lib.hid hA
        clear m5 m6 hA b2 hbc hzw
        go_wp2
        go_loopw [7] (fun v7 wr => ∃ (q : Nat) (Dq : DD) (Ha : DH), q ≤ k ∧ v7 = .int .i64 q ∧ Blk wr g5 (dvC Dq Ha) 32 ∧ Blk wr g6 (dvC Dq H) 32 ∧ ARel w0 wr W3.heap.size Dq H Ha ∧ Dq.sd < 18446744073709551616 ∧ Below w0.heap.size w0 wr ∧ W3.heap.size ≤ wr.heap.size) (fun v7 _ => k - (intOf v7).toNat)
        case atStart => exact ⟨0, D, H, Nat.zero_le _, rfl, HM5.out, HM6.out, HA.out, HSD.out, HBW.out, Nat.le_refl _⟩
        case round =>
          obtain ⟨q, Dq, Ha, hq, rfl, n5, n6, hAq, hsq, hbq, hzq⟩ := hrel
          obtain ⟨V0, rfl⟩ : ∃ V0 : World, V0 = wr := ⟨_, rfl⟩
          have N5 := Lib.hid n5
          have N6 := Lib.hid n6
          have HAQ := Lib.hid hAq
          have HSQ := Lib.hid hsq
          have HBQ := Lib.hid hbq
          clear n5 n6 hAq hsq
          by_cases hlt : q < k
          · obtain ⟨bx, ox, hXe, hbx, hcx⟩ := (HX.out _ hbq).at_ hlt
            have HXE := Lib.hid hXe
            subst hXe
            generalize xs.getD q 0 = x at hcx
            clear hbq
            by_cases hx : x = -1
            · subst hx
              obtain ⟨D2, hD2⟩ : ∃ D2, D2 = Dq.resetD := ⟨_, rfl⟩
              obtain ⟨E2, hE2⟩ : ∃ E2, E2 = Dq.resetE := ⟨_, rfl⟩
              have HT : Hid (∀ (W : World) (Y : DH), DevR W Dq Y → DevR W D2 Y) := Lib.hid (fun W Y h => by rw [hD2]; exact h.resetD)
              have HS2 : Hid (D2.sd < 18446744073709551616) := Lib.hid (by rw [hD2]; exact sd_reset HSQ.out)
              have HD2 := Lib.hid hD2
              have HE2 := Lib.hid hE2
              clear hD2 hE2
              go_upto_region 8 with fail
              refine wp_region_list ?_
              refine wpList_load_row rfl 32 _ rfl g5 rfl 32 (dvC Dq Ha) (0, 0) _ (N5.out) Try.underlying32 rfl (by rw [HSZ.out]; kernel_rfl) ?_
              go_wp2_with fail
              refine (pdreset Dq Ha _ (HAQ.out.dev HBQ.out) HSQ.out).mono ?_
              rintro e u1 ⟨Hb, rfl, dg, b1⟩
              rw [← HD2.out] at dg ⊢
              rw [← HE2.out]
              have hA1 := HAQ.out.next (Below.refl _ _) b1 hzq HT.out dg
              obtain ⟨W4, hW4⟩ : ∃ W4, W4 = u1.alloc (.cells (dvC D2 Hb) 32) := ⟨_, rfl⟩
              have e4 : Below u1.heap.size u1 W4 := by rw [hW4]; exact alloc_below _ _
              have m8 : Blk W4 u1.heap.size (dvC D2 Hb) 32 := by rw [hW4]; exact blk_new _ _ _
              have hA4 := hA1.on e4
              have hu1 := b1.size
              have h5v := N5.out.lt
              have h6v := N6.out.lt
              have hbr := bt b1 e4
              have HW4 := Lib.hid hW4
              clear hW4 dg b1 e4 hA1 hcx
              unfold dvA
              rw [dvC_def D2 Hb]
              go_upto_region 9 with fail
              rw [← dvC_def, ← HW4.out]
              refine wp_region_list ?_
              refine wpList_load_row rfl 32 _ rfl g6 rfl 32 (dvC Dq H) (0, 0) _ (N6.out.on hbr) Try.underlying32 rfl (by rw [HSZ.out]; kernel_rfl) ?_
              go_wp2_with fail
              refine (rdreset Dq H _ ((HAQ.out.on hbr).ref (bt HBQ.out hbr)) HSQ.out).mono ?_
              rintro e u2 ⟨rfl, -, b3⟩
              rw [← HD2.out, ← HE2.out]
              obtain ⟨W5, hW5⟩ : ∃ W5, W5 = u2.alloc (.cells (dvC D2 H) 32) := ⟨_, rfl⟩
              have e5 : Below u2.heap.size u2 W5 := by rw [hW5]; exact alloc_below _ _
              have m10 : Blk W5 u2.heap.size (dvC D2 H) 32 := by rw [hW5]; exact blk_new _ _ _
              have m8 := (m8.on b3).on e5
              have hu2 : V0.heap.size ≤ u2.heap.size := Nat.le_trans hbr.size b3.size
              have hA5 := (hA4.on b3).on e5
              have hbr := bt hbr (bt b3 e5)
              have HW5 := Lib.hid hW5
              clear hW5 b3 e5 hA4
              unfold dvA
              rw [dvC_def D2 H]
              go_upto_region 10 with fail
              rw [← dvC_def, ← HW5.out]
              refine wp_region_list ?_
              refine wpList_load_row rfl 32 _ rfl u1.heap.size rfl 32 (dvC D2 Hb) (0, 0) _ (m8) Try.underlying32 rfl (by rw [HSZ.out]; kernel_rfl) ?_
              go_wp2_with (refine wpList_load_row rfl 32 _ rfl u2.heap.size rfl 32 (dvC D2 H) (0, 0) _ (m10) Try.underlying32 rfl (by rw [HSZ.out]; kernel_rfl) ?_)
              have hS := rdsame D2 Hb H W5 (hA5.dev (bt HBQ.out hbr)) (hA5.ref (bt HBQ.out hbr))
              unfold dvA at hS
              refine hS.mono ?_
              rintro e u3 ⟨rfl, b6⟩
              have hbr := bt hbr b6
              have m8 := m8.on b6
              have m10 := m10.on b6
              have hA8 := hA5.on b6
              clear b6 hS hA5
              go_wp2_with fail
              have hbd : Below V0.heap.size V0 u3.drew := bt hbr (below_drewN (Below.refl _ _) 1)
              have HN5 := Lib.hid (N5.out.on hbd)
              have HN6 := Lib.hid (N6.out.on hbd)
              have HS8 := Lib.hid (show Blk u3.drew u1.heap.size (dvC D2 Hb) 32 ∧ Blk u3.drew u2.heap.size (dvC D2 H) 32 from ⟨m8, m10⟩)
              have HAU : Hid (ARel w0 u3.drew W3.heap.size D2 H Hb) := Lib.hid (hA8.on (below_drewN (Below.refl _ _) 1))
              have HBU : Hid (Below w0.heap.size w0 u3.drew) := Lib.hid (bt HBQ.out hbd)
              have hzu : W3.heap.size ≤ u3.drew.heap.size := Nat.le_trans hzq hbd.size
              clear hbr hbd m8 m10 hA8
              refine wp_region_heldX (X := fun k => ([] : List Nat).contains k) (S := fun W => Blk W u1.heap.size (dvC D2 Hb) 32 ∧ Blk W u2.heap.size (dvC D2 H) 32) (by kernel_rfl) ?_
              refine wpAnyX_takeL (L := []) (i := 0) (v := .agg (dvC D2 Hb)) rfl (by kernel_rfl) (by kernel_rfl) (by kernel_rfl) (by kernel_rfl) (fun _ _ _ h => h) (Or.inl ⟨by rfl, fun W hSW => run_load_blk 32 _ rfl (u1.heap.size) rfl 32 (dvC D2 Hb) (0, 0) _ (hSW.1) Try.underlying32 rfl (by rw [HSZ.out]; kernel_rfl)⟩) (HS8.out) ?_
              (try simp only [Act.put, List.getElem_toArray, List.getElem_cons_zero, List.getElem_cons_succ, List.setIfInBounds_toArray, List.set_cons_zero, List.set_cons_succ])
              refine wpAnyX_takeL (L := []) (i := 1) (v := .agg (dvC D2 H)) rfl (by kernel_rfl) (by kernel_rfl) (by kernel_rfl) (by kernel_rfl) (fun _ _ _ h => h) (Or.inl ⟨by rfl, fun W hSW => run_load_blk 32 _ rfl (u2.heap.size) rfl 32 (dvC D2 H) (0, 0) _ (hSW.2) Try.underlying32 rfl (by rw [HSZ.out]; kernel_rfl)⟩) (HS8.out) ?_
              (try simp only [Act.put, List.getElem_toArray, List.getElem_cons_zero, List.getElem_cons_succ, List.setIfInBounds_toArray, List.set_cons_zero, List.set_cons_succ])
              refine wpAnyX_one (i := 2) rfl (by kernel_rfl) (fun K hK => ?_)
              refine wp_store_row 32 _ _ rfl (g5) (dvC D2 Hb) rfl rfl 32 (dvC Dq Ha) (HN5.out) (by rw [HSZ.out]; kernel_rfl) (by first | rfl | (rw [HSZ.out]; rfl)) (dvC_one _ _) (hK.out _ _ (fun _ _ => HS8.out.imp (fun h => h.rowOther (by omega) _) (fun h => h.rowOther (by omega) _)) ?_)
              (try simp only [Act.put, List.getElem_toArray, List.getElem_cons_zero, List.getElem_cons_succ, List.setIfInBounds_toArray, List.set_cons_zero, List.set_cons_succ])
              refine wpAnyX_one (i := 3) rfl (by kernel_rfl) (fun K hK => ?_)
              refine wp_store_row 32 _ _ rfl (g6) (dvC D2 H) rfl rfl 32 (dvC Dq H) (HN6.out.rowOther hne2 _) (by rw [HSZ.out]; kernel_rfl) (by first | rfl | (rw [HSZ.out]; rfl)) (dvC_one _ _) (hK.out _ _ (fun _ _ => HS8.out.imp (fun h => (h.rowOther (by omega) _).rowOther (by omega) _) (fun h => (h.rowOther (by omega) _).rowOther (by omega) _)) ?_)
              (try simp only [Act.put, List.getElem_toArray, List.getElem_cons_zero, List.getElem_cons_succ, List.setIfInBounds_toArray, List.set_cons_zero, List.set_cons_succ])
              refine wpAnyX_done (by kernel_rfl) ?_ _
              go_wp2_with fail
              go_roundw
              case rel => exact ⟨q + 1, D2, Hb, by omega, by go_num, (HN5.out.row _).rowOther hne _, (HN6.out.rowOther hne2 _).row _, (HAU.out.row h5 _).row h6 _, HS2.out, below_setRow (below_setRow HBU.out hg5 _) hg6 _, by simpa using hzu⟩
              case measure => simp [intOf]; omega
            · have d1 : (x == (-1 : Int)) = false := by rw [beq_eq_false_iff_ne]; exact hx
              clear hx
              obtain ⟨D2, hD2⟩ : ∃ D2, D2 = Dq.stepD x := ⟨_, rfl⟩
              obtain ⟨O2, hO2⟩ : ∃ O2, O2 = Dq.stepO x := ⟨_, rfl⟩
              obtain ⟨E2, hE2⟩ : ∃ E2, E2 = Dq.stepE x := ⟨_, rfl⟩
              have HT : Hid (∀ (W : World) (Y : DH), DevR W Dq Y → DevR W D2 Y) := Lib.hid (fun W Y h => by rw [hD2]; exact h.stepD x)
              have HS2 : Hid (D2.sd < 18446744073709551616) := Lib.hid (by rw [hD2]; exact sd_step HSQ.out x)
              have hCP : ∀ (W : World), Below V0.heap.size V0 W → Calls Try.prog 19 #[.agg (dvC Dq Ha), .int .i64 x] W fun e w' => ∃ Hb, e = .returned (.tuple #[.agg (dvC D2 Hb), .int .i64 O2, .int .i64 E2]) ∧ DevG W w' Ha D2 Hb ∧ Below W.heap.size W w' := fun W hW => by
                rw [hD2, hO2, hE2]; exact pdstep Dq Ha x W ((HAQ.out.on hW).dev (bt HBQ.out hW)) HSQ.out
              have hCR : ∀ (W : World), Below V0.heap.size V0 W → Calls Try.prog 20 #[.agg (dvC Dq H), .int .i64 x] W fun e w' => e = .returned (.tuple #[.agg (dvC D2 H), .int .i64 O2, .int .i64 E2]) ∧ Below W.heap.size W w' := fun W hW => by
                rw [hD2, hO2, hE2]; exact (rdstep Dq H x W ((HAQ.out.on hW).ref (bt HBQ.out hW)) HSQ.out).mono fun e w' ⟨h1, _, h3⟩ => ⟨h1, h3⟩
              have HSS := Lib.hid (fun (W : World) (h : Below V0.heap.size V0 W) => (show Blk W g5 (dvC Dq Ha) 32 ∧ W.cell? ⟨bx, ox + q, none⟩ = some (.int .i64 x) from ⟨N5.out.on h, (h.cell (p := ⟨bx, ox + q, none⟩) hbx).trans hcx⟩))
              have HST := Lib.hid (fun (W : World) (h : Below V0.heap.size V0 W) => (show Blk W g6 (dvC Dq H) 32 ∧ W.cell? ⟨bx, ox + q, none⟩ = some (.int .i64 x) from ⟨N6.out.on h, (h.cell (p := ⟨bx, ox + q, none⟩) hbx).trans hcx⟩))
              have HCON := Lib.hid hCP
              have HCR := Lib.hid hCR
              have HBX := Lib.hid hbx
              have h5v := N5.out.lt
              have h6v := N6.out.lt
              clear hD2 hO2 hE2 hCP hCR
              go_upto_region 13 with fail
              clear hcx
              go_cut [12, 13, 14] from 63 to 72 (fun v12 v13 v14 wx => CutA w0 V0 W3.heap.size D2 H O2 E2 v12 v13 v14 wx)
              case first =>
                have hbf : Below V0.heap.size V0 V0.drew := below_drewN (Below.refl _ _) 1
                have hbf00 := hbf
                refine wp_region_heldX (X := fun k => ([] : List Nat).contains k) (S := fun W => Blk W g5 (dvC Dq Ha) 32 ∧ W.cell? ⟨bx, ox + q, none⟩ = some (.int .i64 x)) (by kernel_rfl) ?_
                refine wpAnyX_takeL (L := []) (i := 0) (v := .agg (dvC Dq Ha)) rfl (by kernel_rfl) (by kernel_rfl) (by kernel_rfl) (by kernel_rfl) (fun _ _ _ h => h) (Or.inl ⟨by rfl, fun W hSW => run_load_blk 32 _ rfl (g5) rfl 32 (dvC Dq Ha) (0, 0) _ (hSW.1) Try.underlying32 rfl (by rw [HSZ.out]; kernel_rfl)⟩) (HSS.out _ hbf) ?_
                (try simp only [Act.put, List.getElem_toArray, List.getElem_cons_zero, List.getElem_cons_succ, List.setIfInBounds_toArray, List.set_cons_zero, List.set_cons_succ])
                refine wpAnyX_pure (i := 1) (v := ?_) rfl (by kernel_rfl) (by kernel_rfl) (by kernel_rfl) (fun _ _ _ h => h) (Or.inl ⟨by rfl, ?_⟩) ?_
                rotate_left
                · (intro W _; go_simp; try with_reducible rfl)
                (try simp only [Act.put, List.getElem_toArray, List.getElem_cons_zero, List.getElem_cons_succ, List.setIfInBounds_toArray, List.set_cons_zero, List.set_cons_succ])
                refine wpAnyX_pure (i := 2) (v := ?_) rfl (by kernel_rfl) (by kernel_rfl) (by kernel_rfl) (fun _ _ _ h => h) (Or.inl ⟨by rfl, ?_⟩) ?_
                rotate_left
                · (intro W _; go_simp; try with_reducible rfl)
                (try simp only [Act.put, List.getElem_toArray, List.getElem_cons_zero, List.getElem_cons_succ, List.setIfInBounds_toArray, List.set_cons_zero, List.set_cons_succ])
                refine wpAnyX_pure (i := 3) (v := ?_) rfl (by kernel_rfl) (by kernel_rfl) (by kernel_rfl) (fun _ _ _ h => h) (Or.inl ⟨by rfl, ?_⟩) ?_
                rotate_left
                · (intro W _; go_simp; try with_reducible rfl)
                (try simp only [Act.put, List.getElem_toArray, List.getElem_cons_zero, List.getElem_cons_succ, List.setIfInBounds_toArray, List.set_cons_zero, List.set_cons_succ])
                refine wpAnyX_takeL (L := []) (i := 4) (v := ?_) rfl (by kernel_rfl) (by kernel_rfl) (by kernel_rfl) (by kernel_rfl) (fun _ _ _ h => h) (Or.inl ⟨by rfl, ?_⟩) ((HSS.out _ hbf)) ?_
                rotate_left
                · (intro W hSW; (try dsimp only at hSW); obtain ⟨z0, z1⟩ := hSW; go_simp; try with_reducible rfl)
                (try simp only [Act.put, List.getElem_toArray, List.getElem_cons_zero, List.getElem_cons_succ, List.setIfInBounds_toArray, List.set_cons_zero, List.set_cons_succ])
                refine wpAnyX_two (i := 5) (j := 10) rfl rfl (by kernel_rfl) (fun K hK => ?_) (fun K hK => ?_)
                · go_simp
                  go_at_call 19
                  refine (HCON.out _ hbf).mono ?_
                  rintro e u9 ⟨Hb, rfl, dg, b9⟩
                  have hbf0 := hbf
                  have hbf := bt hbf b9
                  refine hK.out _ _ (fun _ _ => HSS.out _ hbf) ?_
                  (try simp only [Act.put, List.getElem_toArray, List.getElem_cons_zero, List.getElem_cons_succ, List.setIfInBounds_toArray, List.set_cons_zero, List.set_cons_succ])
                  refine wpAnyX_pure (i := 6) (v := ?_) rfl (by kernel_rfl) (by kernel_rfl) (by kernel_rfl) (fun _ _ _ h => h) (Or.inl ⟨by rfl, ?_⟩) ?_
                  rotate_left
                  · (intro W _; go_simp; try with_reducible rfl)
                  (try simp only [Act.put, List.getElem_toArray, List.getElem_cons_zero, List.getElem_cons_succ, List.setIfInBounds_toArray, List.set_cons_zero, List.set_cons_succ])
                  refine wpAnyX_pure (i := 7) (v := ?_) rfl (by kernel_rfl) (by kernel_rfl) (by kernel_rfl) (fun _ _ _ h => h) (Or.inl ⟨by rfl, ?_⟩) ?_
                  rotate_left
                  · (intro W _; go_simp; try with_reducible rfl)
                  (try simp only [Act.put, List.getElem_toArray, List.getElem_cons_zero, List.getElem_cons_succ, List.setIfInBounds_toArray, List.set_cons_zero, List.set_cons_succ])
                  refine wpAnyX_pure (i := 8) (v := ?_) rfl (by kernel_rfl) (by kernel_rfl) (by kernel_rfl) (fun _ _ _ h => h) (Or.inl ⟨by rfl, ?_⟩) ?_
                  rotate_left
                  · (intro W _; go_simp; try with_reducible rfl)
                  (try simp only [Act.put, List.getElem_toArray, List.getElem_cons_zero, List.getElem_cons_succ, List.setIfInBounds_toArray, List.set_cons_zero, List.set_cons_succ])
                  refine wpAnyX_pure (i := 9) (v := ?_) rfl (by kernel_rfl) (by kernel_rfl) (by kernel_rfl) (fun _ _ _ h => h) (Or.inl ⟨by rfl, ?_⟩) ?_
                  rotate_left
                  · (intro W _; go_simp; try with_reducible rfl)
                  (try simp only [Act.put, List.getElem_toArray, List.getElem_cons_zero, List.getElem_cons_succ, List.setIfInBounds_toArray, List.set_cons_zero, List.set_cons_succ])
                  refine wpAnyX_one (i := 10) rfl (by kernel_rfl) (fun K hK => ?_)
                  go_simp
                  have hbf0 := hbf
                  have hbf := bt hbf (alloc_below _ (.cells zcD 32))
                  unfold zcD at hbf
                  refine hK.out _ _ (fun _ _ => HSS.out _ hbf) ?_
                  (try simp only [Act.put, List.getElem_toArray, List.getElem_cons_zero, List.getElem_cons_succ, List.setIfInBounds_toArray, List.set_cons_zero, List.set_cons_succ])
                  refine wpAnyX_one (i := 11) rfl (by kernel_rfl) (fun K hK => ?_)
                  refine wp_store_row 32 _ _ rfl (u9.heap.size) (dvC D2 Hb) rfl rfl 32 (zcD) (by have h := blk_new u9 zcD 32; unfold zcD at h ⊢; exact h) (by rw [HSZ.out]; kernel_rfl) (by first | rfl | (rw [HSZ.out]; rfl)) (dvC_one _ _) (hK.out _ _ (fun _ _ => (HSS.out _ hbf).imp (fun h => h.rowOther (by have := hbf0.size; omega) _) (fun h => (cell_setRow_other _ _ _ _ (show bx ≠ u9.heap.size by have := hbf0.size; omega)).trans h)) ?_)
                  (try simp only [Act.put, List.getElem_toArray, List.getElem_cons_zero, List.getElem_cons_succ, List.setIfInBounds_toArray, List.set_cons_zero, List.set_cons_succ])
                  refine wpAnyX_pure (i := 12) (v := ?_) rfl (by kernel_rfl) (by kernel_rfl) (by kernel_rfl) (fun _ _ _ h => h) (Or.inl ⟨by rfl, ?_⟩) ?_
                  rotate_left
                  · (intro W _; go_simp; try with_reducible rfl)
                  (try simp only [Act.put, List.getElem_toArray, List.getElem_cons_zero, List.getElem_cons_succ, List.setIfInBounds_toArray, List.set_cons_zero, List.set_cons_succ])
                  refine wpAnyX_pure (i := 13) (v := ?_) rfl (by kernel_rfl) (by kernel_rfl) (by kernel_rfl) (fun _ _ _ h => h) (Or.inl ⟨by rfl, ?_⟩) ?_
                  rotate_left
                  · (intro W _; go_simp; try with_reducible rfl)
                  (try simp only [Act.put, List.getElem_toArray, List.getElem_cons_zero, List.getElem_cons_succ, List.setIfInBounds_toArray, List.set_cons_zero, List.set_cons_succ])
                  refine wpAnyX_done (by kernel_rfl) ?_ _
                  go_wp2_with fail
                  go_meet
                  exact ⟨Hb, ⟨u9.heap.size, rfl, by have := hbf0.size; omega, ((by have h := blk_new u9 zcD 32; unfold zcD at h; exact h : Blk _ u9.heap.size _ _)).row _, below_setRow hbf (by have := hbf0.size; omega) _⟩, rfl, rfl, (ARel.next HAQ.out hbf00 b9 hzq HT.out dg).on (below_setRow (alloc_below _ _) (Nat.le_refl _) _)⟩
                · go_simp
                  have hbf0 := hbf
                  have hbf := bt hbf (alloc_below _ (.cells zcD 32))
                  unfold zcD at hbf
                  refine hK.out _ _ (fun _ _ => HSS.out _ hbf) ?_
                  (try simp only [Act.put, List.getElem_toArray, List.getElem_cons_zero, List.getElem_cons_succ, List.setIfInBounds_toArray, List.set_cons_zero, List.set_cons_succ])
                  refine wpAnyX_one (i := 5) rfl (by kernel_rfl) (fun K hK => ?_)
                  go_simp
                  go_at_call 19
                  refine (HCON.out _ hbf).mono ?_
                  rintro e u9 ⟨Hb, rfl, dg, b9⟩
                  have hbf0 := hbf
                  have hbf := bt hbf b9
                  refine hK.out _ _ (fun _ _ => HSS.out _ hbf) ?_
                  (try simp only [Act.put, List.getElem_toArray, List.getElem_cons_zero, List.getElem_cons_succ, List.setIfInBounds_toArray, List.set_cons_zero, List.set_cons_succ])
                  refine wpAnyX_pure (i := 6) (v := ?_) rfl (by kernel_rfl) (by kernel_rfl) (by kernel_rfl) (fun _ _ _ h => h) (Or.inl ⟨by rfl, ?_⟩) ?_
                  rotate_left
                  · (intro W _; go_simp; try with_reducible rfl)
                  (try simp only [Act.put, List.getElem_toArray, List.getElem_cons_zero, List.getElem_cons_succ, List.setIfInBounds_toArray, List.set_cons_zero, List.set_cons_succ])
                  refine wpAnyX_pure (i := 7) (v := ?_) rfl (by kernel_rfl) (by kernel_rfl) (by kernel_rfl) (fun _ _ _ h => h) (Or.inl ⟨by rfl, ?_⟩) ?_
                  rotate_left
                  · (intro W _; go_simp; try with_reducible rfl)
                  (try simp only [Act.put, List.getElem_toArray, List.getElem_cons_zero, List.getElem_cons_succ, List.setIfInBounds_toArray, List.set_cons_zero, List.set_cons_succ])
                  refine wpAnyX_pure (i := 8) (v := ?_) rfl (by kernel_rfl) (by kernel_rfl) (by kernel_rfl) (fun _ _ _ h => h) (Or.inl ⟨by rfl, ?_⟩) ?_
                  rotate_left
                  · (intro W _; go_simp; try with_reducible rfl)
                  (try simp only [Act.put, List.getElem_toArray, List.getElem_cons_zero, List.getElem_cons_succ, List.setIfInBounds_toArray, List.set_cons_zero, List.set_cons_succ])
                  refine wpAnyX_pure (i := 9) (v := ?_) rfl (by kernel_rfl) (by kernel_rfl) (by kernel_rfl) (fun _ _ _ h => h) (Or.inl ⟨by rfl, ?_⟩) ?_
                  rotate_left
                  · (intro W _; go_simp; try with_reducible rfl)
                  (try simp only [Act.put, List.getElem_toArray, List.getElem_cons_zero, List.getElem_cons_succ, List.setIfInBounds_toArray, List.set_cons_zero, List.set_cons_succ])
                  refine wpAnyX_one (i := 11) rfl (by kernel_rfl) (fun K hK => ?_)
                  refine wp_store_row 32 _ _ rfl (V0.heap.size) (dvC D2 Hb) rfl rfl 32 (zcD) (by have h := (blk_new V0.drew zcD 32).on b9; unfold zcD at h ⊢; exact h) (by rw [HSZ.out]; kernel_rfl) (by first | rfl | (rw [HSZ.out]; rfl)) (dvC_one _ _) (hK.out _ _ (fun _ _ => (HSS.out _ hbf).imp (fun h => h.rowOther (by omega) _) (fun h => (cell_setRow_other _ _ _ _ (show bx ≠ V0.heap.size by omega)).trans h)) ?_)
                  (try simp only [Act.put, List.getElem_toArray, List.getElem_cons_zero, List.getElem_cons_succ, List.setIfInBounds_toArray, List.set_cons_zero, List.set_cons_succ])
                  refine wpAnyX_pure (i := 12) (v := ?_) rfl (by kernel_rfl) (by kernel_rfl) (by kernel_rfl) (fun _ _ _ h => h) (Or.inl ⟨by rfl, ?_⟩) ?_
                  rotate_left
                  · (intro W _; go_simp; try with_reducible rfl)
                  (try simp only [Act.put, List.getElem_toArray, List.getElem_cons_zero, List.getElem_cons_succ, List.setIfInBounds_toArray, List.set_cons_zero, List.set_cons_succ])
                  refine wpAnyX_pure (i := 13) (v := ?_) rfl (by kernel_rfl) (by kernel_rfl) (by kernel_rfl) (fun _ _ _ h => h) (Or.inl ⟨by rfl, ?_⟩) ?_
                  rotate_left
                  · (intro W _; go_simp; try with_reducible rfl)
                  (try simp only [Act.put, List.getElem_toArray, List.getElem_cons_zero, List.getElem_cons_succ, List.setIfInBounds_toArray, List.set_cons_zero, List.set_cons_succ])
                  refine wpAnyX_done (by kernel_rfl) ?_ _
                  go_wp2_with fail
                  go_meet
                  exact ⟨Hb, ⟨V0.heap.size, rfl, Nat.le_refl _, ((by have h := (blk_new V0.drew zcD 32).on b9; unfold zcD at h; exact h : Blk _ V0.heap.size _ _)).row _, below_setRow hbf (Nat.le_refl _) _⟩, rfl, rfl, ARel.newB HAQ.out hbf0 b9 hzq HT.out dg (Nat.le_refl _) (by simp)⟩
              case rest =>
                obtain ⟨Hb, ⟨g12, rfl, hg12, m8, b12⟩, rfl, rfl, hA12⟩ := hcut
                obtain ⟨V1, rfl⟩ : ∃ V1 : World, V1 = wc := ⟨_, rfl⟩
                have HST1 := Lib.hid (fun (W : World) (h : Below V1.heap.size V1 W) => HST.out W (bt b12 h))
                have HCR1 := Lib.hid (fun (W : World) (h : Below V1.heap.size V1 W) => HCR.out W (bt b12 h))
                have h6w : g6 < V1.heap.size := by have := b12.size; omega
                have hbw : bx < V1.heap.size := by have := b12.size; omega
                have HM8 := Lib.hid m8
                have HA12 := Lib.hid hA12
                have HB12 := Lib.hid b12
                clear m8 hA12 b12 HSS HCON HST HCR
                have HSS := HST1
                have HCON := HCR1
                go_upto_region 14 with fail
                go_cut [15, 16, 17] from 73 to 82 (fun v15 v16 v17 wx => NewD V1 D2 H v15 wx ∧ v16 = .int .i64 O2 ∧ v17 = .int .i64 E2)
                case first =>
                  have hbf : Below V1.heap.size V1 V1.drew := below_drewN (Below.refl _ _) 1
                  refine wp_region_heldX (X := fun k => ([] : List Nat).contains k) (S := fun W => Blk W g6 (dvC Dq H) 32 ∧ W.cell? ⟨bx, ox + q, none⟩ = some (.int .i64 x)) (by kernel_rfl) ?_
                  refine wpAnyX_takeL (L := []) (i := 0) (v := .agg (dvC Dq H)) rfl (by kernel_rfl) (by kernel_rfl) (by kernel_rfl) (by kernel_rfl) (fun _ _ _ h => h) (Or.inl ⟨by rfl, fun W hSW => run_load_blk 32 _ rfl (g6) rfl 32 (dvC Dq H) (0, 0) _ (hSW.1) Try.underlying32 rfl (by rw [HSZ.out]; kernel_rfl)⟩) (HSS.out _ hbf) ?_
                  (try simp only [Act.put, List.getElem_toArray, List.getElem_cons_zero, List.getElem_cons_succ, List.setIfInBounds_toArray, List.set_cons_zero, List.set_cons_succ])
                  refine wpAnyX_pure (i := 1) (v := ?_) rfl (by kernel_rfl) (by kernel_rfl) (by kernel_rfl) (fun _ _ _ h => h) (Or.inl ⟨by rfl, ?_⟩) ?_
                  rotate_left
                  · (intro W _; go_simp; try with_reducible rfl)
                  (try simp only [Act.put, List.getElem_toArray, List.getElem_cons_zero, List.getElem_cons_succ, List.setIfInBounds_toArray, List.set_cons_zero, List.set_cons_succ])
                  refine wpAnyX_pure (i := 2) (v := ?_) rfl (by kernel_rfl) (by kernel_rfl) (by kernel_rfl) (fun _ _ _ h => h) (Or.inl ⟨by rfl, ?_⟩) ?_
                  rotate_left
                  · (intro W _; go_simp; try with_reducible rfl)
                  (try simp only [Act.put, List.getElem_toArray, List.getElem_cons_zero, List.getElem_cons_succ, List.setIfInBounds_toArray, List.set_cons_zero, List.set_cons_succ])
                  refine wpAnyX_pure (i := 3) (v := ?_) rfl (by kernel_rfl) (by kernel_rfl) (by kernel_rfl) (fun _ _ _ h => h) (Or.inl ⟨by rfl, ?_⟩) ?_
                  rotate_left
                  · (intro W _; go_simp; try with_reducible rfl)
                  (try simp only [Act.put, List.getElem_toArray, List.getElem_cons_zero, List.getElem_cons_succ, List.setIfInBounds_toArray, List.set_cons_zero, List.set_cons_succ])
                  refine wpAnyX_takeL (L := []) (i := 4) (v := ?_) rfl (by kernel_rfl) (by kernel_rfl) (by kernel_rfl) (by kernel_rfl) (fun _ _ _ h => h) (Or.inl ⟨by rfl, ?_⟩) ((HSS.out _ hbf)) ?_
                  rotate_left
                  · (intro W hSW; (try dsimp only at hSW); obtain ⟨z0, z1⟩ := hSW; go_simp; try with_reducible rfl)
                  (try simp only [Act.put, List.getElem_toArray, List.getElem_cons_zero, List.getElem_cons_succ, List.setIfInBounds_toArray, List.set_cons_zero, List.set_cons_succ])
                  refine wpAnyX_two (i := 5) (j := 10) rfl rfl (by kernel_rfl) (fun K hK => ?_) (fun K hK => ?_)
                  · go_simp
                    go_at_call 20
                    refine (HCON.out _ hbf).mono ?_
                    rintro e u9 ⟨rfl, b9⟩
                    have hbf0 := hbf
                    have hbf := bt hbf b9
                    refine hK.out _ _ (fun _ _ => HSS.out _ hbf) ?_
                    (try simp only [Act.put, List.getElem_toArray, List.getElem_cons_zero, List.getElem_cons_succ, List.setIfInBounds_toArray, List.set_cons_zero, List.set_cons_succ])
                    refine wpAnyX_pure (i := 6) (v := ?_) rfl (by kernel_rfl) (by kernel_rfl) (by kernel_rfl) (fun _ _ _ h => h) (Or.inl ⟨by rfl, ?_⟩) ?_
                    rotate_left
                    · (intro W _; go_simp; try with_reducible rfl)
                    (try simp only [Act.put, List.getElem_toArray, List.getElem_cons_zero, List.getElem_cons_succ, List.setIfInBounds_toArray, List.set_cons_zero, List.set_cons_succ])
                    refine wpAnyX_pure (i := 7) (v := ?_) rfl (by kernel_rfl) (by kernel_rfl) (by kernel_rfl) (fun _ _ _ h => h) (Or.inl ⟨by rfl, ?_⟩) ?_
                    rotate_left
                    · (intro W _; go_simp; try with_reducible rfl)
                    (try simp only [Act.put, List.getElem_toArray, List.getElem_cons_zero, List.getElem_cons_succ, List.setIfInBounds_toArray, List.set_cons_zero, List.set_cons_succ])
                    refine wpAnyX_pure (i := 8) (v := ?_) rfl (by kernel_rfl) (by kernel_rfl) (by kernel_rfl) (fun _ _ _ h => h) (Or.inl ⟨by rfl, ?_⟩) ?_
                    rotate_left
                    · (intro W _; go_simp; try with_reducible rfl)
                    (try simp only [Act.put, List.getElem_toArray, List.getElem_cons_zero, List.getElem_cons_succ, List.setIfInBounds_toArray, List.set_cons_zero, List.set_cons_succ])
                    refine wpAnyX_pure (i := 9) (v := ?_) rfl (by kernel_rfl) (by kernel_rfl) (by kernel_rfl) (fun _ _ _ h => h) (Or.inl ⟨by rfl, ?_⟩) ?_
                    rotate_left
                    · (intro W _; go_simp; try with_reducible rfl)
                    (try simp only [Act.put, List.getElem_toArray, List.getElem_cons_zero, List.getElem_cons_succ, List.setIfInBounds_toArray, List.set_cons_zero, List.set_cons_succ])
                    refine wpAnyX_one (i := 10) rfl (by kernel_rfl) (fun K hK => ?_)
                    go_simp
                    have hbf0 := hbf
                    have hbf := bt hbf (alloc_below _ (.cells zcD 32))
                    unfold zcD at hbf
                    refine hK.out _ _ (fun _ _ => HSS.out _ hbf) ?_
                    (try simp only [Act.put, List.getElem_toArray, List.getElem_cons_zero, List.getElem_cons_succ, List.setIfInBounds_toArray, List.set_cons_zero, List.set_cons_succ])
                    refine wpAnyX_one (i := 11) rfl (by kernel_rfl) (fun K hK => ?_)
                    refine wp_store_row 32 _ _ rfl (u9.heap.size) (dvC D2 H) rfl rfl 32 (zcD) (by have h := blk_new u9 zcD 32; unfold zcD at h ⊢; exact h) (by rw [HSZ.out]; kernel_rfl) (by first | rfl | (rw [HSZ.out]; rfl)) (dvC_one _ _) (hK.out _ _ (fun _ _ => (HSS.out _ hbf).imp (fun h => h.rowOther (by have := hbf0.size; omega) _) (fun h => (cell_setRow_other _ _ _ _ (show bx ≠ u9.heap.size by have := hbf0.size; omega)).trans h)) ?_)
                    (try simp only [Act.put, List.getElem_toArray, List.getElem_cons_zero, List.getElem_cons_succ, List.setIfInBounds_toArray, List.set_cons_zero, List.set_cons_succ])
                    refine wpAnyX_pure (i := 12) (v := ?_) rfl (by kernel_rfl) (by kernel_rfl) (by kernel_rfl) (fun _ _ _ h => h) (Or.inl ⟨by rfl, ?_⟩) ?_
                    rotate_left
                    · (intro W _; go_simp; try with_reducible rfl)
                    (try simp only [Act.put, List.getElem_toArray, List.getElem_cons_zero, List.getElem_cons_succ, List.setIfInBounds_toArray, List.set_cons_zero, List.set_cons_succ])
                    refine wpAnyX_pure (i := 13) (v := ?_) rfl (by kernel_rfl) (by kernel_rfl) (by kernel_rfl) (fun _ _ _ h => h) (Or.inl ⟨by rfl, ?_⟩) ?_
                    rotate_left
                    · (intro W _; go_simp; try with_reducible rfl)
                    (try simp only [Act.put, List.getElem_toArray, List.getElem_cons_zero, List.getElem_cons_succ, List.setIfInBounds_toArray, List.set_cons_zero, List.set_cons_succ])
                    refine wpAnyX_done (by kernel_rfl) ?_ _
                    go_wp2_with fail
                    go_meet
                    exact ⟨⟨u9.heap.size, rfl, by have := hbf0.size; omega, ((by have h := blk_new u9 zcD 32; unfold zcD at h; exact h : Blk _ u9.heap.size _ _)).row _, below_setRow hbf (by have := hbf0.size; omega) _⟩, rfl, rfl⟩
                  · go_simp
                    have hbf0 := hbf
                    have hbf := bt hbf (alloc_below _ (.cells zcD 32))
                    unfold zcD at hbf
                    refine hK.out _ _ (fun _ _ => HSS.out _ hbf) ?_
                    (try simp only [Act.put, List.getElem_toArray, List.getElem_cons_zero, List.getElem_cons_succ, List.setIfInBounds_toArray, List.set_cons_zero, List.set_cons_succ])
                    refine wpAnyX_one (i := 5) rfl (by kernel_rfl) (fun K hK => ?_)
                    go_simp
                    go_at_call 20
                    refine (HCON.out _ hbf).mono ?_
                    rintro e u9 ⟨rfl, b9⟩
                    have hbf0 := hbf
                    have hbf := bt hbf b9
                    refine hK.out _ _ (fun _ _ => HSS.out _ hbf) ?_
                    (try simp only [Act.put, List.getElem_toArray, List.getElem_cons_zero, List.getElem_cons_succ, List.setIfInBounds_toArray, List.set_cons_zero, List.set_cons_succ])
                    refine wpAnyX_pure (i := 6) (v := ?_) rfl (by kernel_rfl) (by kernel_rfl) (by kernel_rfl) (fun _ _ _ h => h) (Or.inl ⟨by rfl, ?_⟩) ?_
                    rotate_left
                    · (intro W _; go_simp; try with_reducible rfl)
                    (try simp only [Act.put, List.getElem_toArray, List.getElem_cons_zero, List.getElem_cons_succ, List.setIfInBounds_toArray, List.set_cons_zero, List.set_cons_succ])
                    refine wpAnyX_pure (i := 7) (v := ?_) rfl (by kernel_rfl) (by kernel_rfl) (by kernel_rfl) (fun _ _ _ h => h) (Or.inl ⟨by rfl, ?_⟩) ?_
                    rotate_left
                    · (intro W _; go_simp; try with_reducible rfl)
                    (try simp only [Act.put, List.getElem_toArray, List.getElem_cons_zero, List.getElem_cons_succ, List.setIfInBounds_toArray, List.set_cons_zero, List.set_cons_succ])
                    refine wpAnyX_pure (i := 8) (v := ?_) rfl (by kernel_rfl) (by kernel_rfl) (by kernel_rfl) (fun _ _ _ h => h) (Or.inl ⟨by rfl, ?_⟩) ?_
                    rotate_left
                    · (intro W _; go_simp; try with_reducible rfl)
                    (try simp only [Act.put, List.getElem_toArray, List.getElem_cons_zero, List.getElem_cons_succ, List.setIfInBounds_toArray, List.set_cons_zero, List.set_cons_succ])
                    refine wpAnyX_pure (i := 9) (v := ?_) rfl (by kernel_rfl) (by kernel_rfl) (by kernel_rfl) (fun _ _ _ h => h) (Or.inl ⟨by rfl, ?_⟩) ?_
                    rotate_left
                    · (intro W _; go_simp; try with_reducible rfl)
                    (try simp only [Act.put, List.getElem_toArray, List.getElem_cons_zero, List.getElem_cons_succ, List.setIfInBounds_toArray, List.set_cons_zero, List.set_cons_succ])
                    refine wpAnyX_one (i := 11) rfl (by kernel_rfl) (fun K hK => ?_)
                    refine wp_store_row 32 _ _ rfl (V1.heap.size) (dvC D2 H) rfl rfl 32 (zcD) (by have h := (blk_new V1.drew zcD 32).on b9; unfold zcD at h ⊢; exact h) (by rw [HSZ.out]; kernel_rfl) (by first | rfl | (rw [HSZ.out]; rfl)) (dvC_one _ _) (hK.out _ _ (fun _ _ => (HSS.out _ hbf).imp (fun h => h.rowOther (by omega) _) (fun h => (cell_setRow_other _ _ _ _ (show bx ≠ V1.heap.size by omega)).trans h)) ?_)
                    (try simp only [Act.put, List.getElem_toArray, List.getElem_cons_zero, List.getElem_cons_succ, List.setIfInBounds_toArray, List.set_cons_zero, List.set_cons_succ])
                    refine wpAnyX_pure (i := 12) (v := ?_) rfl (by kernel_rfl) (by kernel_rfl) (by kernel_rfl) (fun _ _ _ h => h) (Or.inl ⟨by rfl, ?_⟩) ?_
                    rotate_left
                    · (intro W _; go_simp; try with_reducible rfl)
                    (try simp only [Act.put, List.getElem_toArray, List.getElem_cons_zero, List.getElem_cons_succ, List.setIfInBounds_toArray, List.set_cons_zero, List.set_cons_succ])
                    refine wpAnyX_pure (i := 13) (v := ?_) rfl (by kernel_rfl) (by kernel_rfl) (by kernel_rfl) (fun _ _ _ h => h) (Or.inl ⟨by rfl, ?_⟩) ?_
                    rotate_left
                    · (intro W _; go_simp; try with_reducible rfl)
                    (try simp only [Act.put, List.getElem_toArray, List.getElem_cons_zero, List.getElem_cons_succ, List.setIfInBounds_toArray, List.set_cons_zero, List.set_cons_succ])
                    refine wpAnyX_done (by kernel_rfl) ?_ _
                    go_wp2_with fail
                    go_meet
                    exact ⟨⟨V1.heap.size, rfl, Nat.le_refl _, ((by have h := (blk_new V1.drew zcD 32).on b9; unfold zcD at h; exact h : Blk _ V1.heap.size _ _)).row _, below_setRow hbf (Nat.le_refl _) _⟩, rfl, rfl⟩
                case rest =>
                  obtain ⟨⟨g15, rfl, hg15, m10, b15⟩, rfl, rfl⟩ := hcut
                  obtain ⟨V2, rfl⟩ : ∃ V2 : World, V2 = wc := ⟨_, rfl⟩
                  have m8 := HM8.out.on b15
                  have hA15 := HA12.out.on b15
                  have hbr := bt HB12.out b15
                  have hg15b : V0.heap.size ≤ g15 := Nat.le_trans HB12.out.size hg15
                  clear b15
                  go_upto_region 15 with fail
                  refine wp_region_list ?_
                  refine wpList_load_row rfl 32 _ rfl g12 rfl 32 (dvC D2 Hb) (0, 0) _ (m8) Try.underlying32 rfl (by rw [HSZ.out]; kernel_rfl) ?_
                  go_wp2_with (refine wpList_load_row rfl 32 _ rfl g15 rfl 32 (dvC D2 H) (0, 0) _ (m10) Try.underlying32 rfl (by rw [HSZ.out]; kernel_rfl) ?_)
                  have hS := rdsame D2 Hb H V2 (hA15.dev (bt HBQ.out hbr)) (hA15.ref (bt HBQ.out hbr))
                  unfold dvA at hS
                  refine hS.mono ?_
                  rintro e u3 ⟨rfl, b6⟩
                  have hbr := bt hbr b6
                  have m8 := m8.on b6
                  have m10 := m10.on b6
                  have hA8 := hA15.on b6
                  clear b6 hS hA15
                  go_wp2_with fail
                  have hbd : Below V0.heap.size V0 u3.drew := bt hbr (below_drewN (Below.refl _ _) 1)
                  have HN5 := Lib.hid (N5.out.on hbd)
                  have HN6 := Lib.hid (N6.out.on hbd)
                  have HS8 := Lib.hid (show Blk u3.drew g12 (dvC D2 Hb) 32 ∧ Blk u3.drew g15 (dvC D2 H) 32 from ⟨m8, m10⟩)
                  have HAU : Hid (ARel w0 u3.drew W3.heap.size D2 H Hb) := Lib.hid (hA8.on (below_drewN (Below.refl _ _) 1))
                  have HBU : Hid (Below w0.heap.size w0 u3.drew) := Lib.hid (bt HBQ.out hbd)
                  have hzu : W3.heap.size ≤ u3.drew.heap.size := Nat.le_trans hzq hbd.size
                  clear hbr hbd m8 m10 hA8
                  refine wp_region_heldX (X := fun k => ([] : List Nat).contains k) (S := fun W => Blk W g12 (dvC D2 Hb) 32 ∧ Blk W g15 (dvC D2 H) 32) (by kernel_rfl) ?_
                  refine wpAnyX_takeL (L := []) (i := 0) (v := .agg (dvC D2 Hb)) rfl (by kernel_rfl) (by kernel_rfl) (by kernel_rfl) (by kernel_rfl) (fun _ _ _ h => h) (Or.inl ⟨by rfl, fun W hSW => run_load_blk 32 _ rfl (g12) rfl 32 (dvC D2 Hb) (0, 0) _ (hSW.1) Try.underlying32 rfl (by rw [HSZ.out]; kernel_rfl)⟩) (HS8.out) ?_
                  (try simp only [Act.put, List.getElem_toArray, List.getElem_cons_zero, List.getElem_cons_succ, List.setIfInBounds_toArray, List.set_cons_zero, List.set_cons_succ])
                  refine wpAnyX_takeL (L := []) (i := 1) (v := .agg (dvC D2 H)) rfl (by kernel_rfl) (by kernel_rfl) (by kernel_rfl) (by kernel_rfl) (fun _ _ _ h => h) (Or.inl ⟨by rfl, fun W hSW => run_load_blk 32 _ rfl (g15) rfl 32 (dvC D2 H) (0, 0) _ (hSW.2) Try.underlying32 rfl (by rw [HSZ.out]; kernel_rfl)⟩) (HS8.out) ?_
                  (try simp only [Act.put, List.getElem_toArray, List.getElem_cons_zero, List.getElem_cons_succ, List.setIfInBounds_toArray, List.set_cons_zero, List.set_cons_succ])
                  refine wpAnyX_one (i := 2) rfl (by kernel_rfl) (fun K hK => ?_)
                  refine wp_store_row 32 _ _ rfl (g5) (dvC D2 Hb) rfl rfl 32 (dvC Dq Ha) (HN5.out) (by rw [HSZ.out]; kernel_rfl) (by first | rfl | (rw [HSZ.out]; rfl)) (dvC_one _ _) (hK.out _ _ (fun _ _ => HS8.out.imp (fun h => h.rowOther (by omega) _) (fun h => h.rowOther (by omega) _)) ?_)
                  (try simp only [Act.put, List.getElem_toArray, List.getElem_cons_zero, List.getElem_cons_succ, List.setIfInBounds_toArray, List.set_cons_zero, List.set_cons_succ])
                  refine wpAnyX_one (i := 3) rfl (by kernel_rfl) (fun K hK => ?_)
                  refine wp_store_row 32 _ _ rfl (g6) (dvC D2 H) rfl rfl 32 (dvC Dq H) (HN6.out.rowOther hne2 _) (by rw [HSZ.out]; kernel_rfl) (by first | rfl | (rw [HSZ.out]; rfl)) (dvC_one _ _) (hK.out _ _ (fun _ _ => HS8.out.imp (fun h => (h.rowOther (by omega) _).rowOther (by omega) _) (fun h => (h.rowOther (by omega) _).rowOther (by omega) _)) ?_)
                  (try simp only [Act.put, List.getElem_toArray, List.getElem_cons_zero, List.getElem_cons_succ, List.setIfInBounds_toArray, List.set_cons_zero, List.set_cons_succ])
                  refine wpAnyX_done (by kernel_rfl) ?_ _
                  go_wp2_with fail
                  go_roundw
                  case rel => exact ⟨q + 1, D2, Hb, by omega, by go_num, (HN5.out.row _).rowOther hne _, (HN6.out.rowOther hne2 _).row _, (HAU.out.row h5 _).row h6 _, HS2.out, below_setRow (below_setRow HBU.out hg5 _) hg6 _, by simpa using hzu⟩
                  case measure => simp [intOf]; omega
          · obtain rfl : q = k := by omega
            have hbc := hbq
            clear hbq
            go_wp2_with fail
            refine (awake19 _).mono ?_
            rintro e w9 ⟨rfl, a9⟩
            go_wp2
            go_ret
            exact ⟨rfl, bt HB0.out (bt hbc a9)⟩
end Go.Proofs.Ytcoihbpadbnilaa
end
