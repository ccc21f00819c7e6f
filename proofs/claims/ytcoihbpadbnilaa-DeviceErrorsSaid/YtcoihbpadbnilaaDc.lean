/- Lemmas of the proofs of this seat, of the parts Rvc, Rvh, L19q, Wf, Nums, Openb, Openm, Open19. Conditions: none. -/
import Derived.Test.YtcoihbpadbnilaaDb
import Derived.BigQuiet
import Derived.WalkKit
import Derived.DataShut
import Derived.Test.YtcoihbpadbnilaaDa
import Derived.Deep.Matrix
import Derived.Lib.SmallJoins
import Derived.ProofKit
import Derived.SizedLaws
section
/- device, the reference: Step. -/
namespace Go.Proofs.Ytcoihbpadbnilaa
open Go.RowKit

theorem rbelow10 (s : Nat) (hs : s < 18446744073709551616) (w : World) :
    Calls Try.prog 43 #[.int .u64 s, .int .i64 10000] w fun e w' => e = .returned (.tuple #[.int .i64 (Drx s 10000 : Nat), .int .u64 (Drs s 10000 : Nat), .int .i64 0]) ∧ w = w' := by
  have h := rbelow s ((10000 : Nat) : Int) hs w
  rw [belV_ok s 10000 ⟨by decide, by decide⟩] at h
  exact h

set_option linter.unusedSimpArgs false in
set_option maxHeartbeats 16000000 in
set_option maxRecDepth 100000 in
theorem rdstep (D : DD) (H : DH) (av : Int) (w : World) (hD : DevR w D H) (hs : D.sd < 18446744073709551616) :
    Calls Try.prog 20 #[dvA D H, .int .i64 av] w fun e w' => e = .returned (.tuple #[dvA (D.stepD av) H, .int .i64 (D.stepO av), .int .i64 (D.stepE av)]) ∧ DevR w' (D.stepD av) H ∧ Below w.heap.size w w' := by
  obtain ⟨w1, hw1⟩ : ∃ w1, w1 = w.alloc (.cells (dvC D H) 32) := ⟨_, rfl⟩
  obtain ⟨w2, hw2⟩ : ∃ w2, w2 = w1.alloc (.cells zcD 32) := ⟨_, rfl⟩
  have b1 : Below w.heap.size w w1 := by rw [hw1]; exact alloc_below _ _
  have z1 : w1.heap.size = w.heap.size + 1 := by rw [hw1]; simp
  have b2 : Below w1.heap.size w1 w2 := by rw [hw2]; exact alloc_below _ _
  have z2 : w2.heap.size = w.heap.size + 1 + 1 := by rw [hw2]; simp [z1]
  have m1 : Blk w1 w.heap.size (dvC D H) 32 := by rw [hw1]; exact blk_new _ _ _
  have m2 : Blk w2 (w.heap.size + 1) zcD 32 := by rw [hw2, ← z1]; exact blk_new _ _ _
  have b12 := bt b1 b2
  have HB2 := Lib.hid b12
  have HBK := Lib.hid (fun (W : World) (h : Below w2.heap.size w2 W) => (m1.on b2).on h)
  have HBZ := Lib.hid (fun (W : World) (h : Below w2.heap.size w2 W) => m2.on h)
  have HD := Lib.hid (fun (W : World) (h : Below w2.heap.size w2 W) => (hD.below b12).below h)
  have HD0 := Lib.hid hD
  have HV := Lib.hid (fun (r : Int) (hr : r = D.err) (W : World) (h : Below w2.heap.size w2 W) => rdvalid D H r W ((hD.below b12).below h) hr)
  have HS := Lib.hid (fun (W : World) (h : Below w2.heap.size w2 W) => (HBK.out W h).dev)
  unfold DevC at HS
  rw [hw1] at hw2
  have HW2 := Lib.hid hw2
  have hbk := m1.on b2
  rw [hw2] at hbk
  have HBW := Lib.hid hbk
  clear hw1 hw2 b1 b2 m1 m2 b12 hD hbk
  have hszD : ∀ D H, (dvC D H).size = 15 := fun _ _ => rfl
  have HSZ := Lib.hid hszD
  unfold dvA
  unfold dvA at HV
  unfold zcD at HBW HW2
  go_enter Try.func20, Try.ntmps20
  go_wp2_with (refine wpList_load_row rfl 32 _ rfl w.heap.size rfl 32 (dvC D H) (0, 0) _ HBW.out Try.underlying32 rfl (by rw [HSZ.out]; kernel_rfl) ?_)
  rw [← HW2.out]
  refine (HV.out _ rfl _ (Below.refl _ _)).mono ?_
  rintro e w3 ⟨rfl, b3⟩
  have HB3 := Lib.hid b3
  by_cases h0 : D.err = 0
  · obtain ⟨i, st, n, hO⟩ := DD.err_zero h0 hs
    have HR0 : Hid (D.stepD av = D.stpD av ∧ D.stepO av = D.stpO av ∧ D.stepE av = D.stpE av) := Lib.hid ⟨by unfold DD.stepD; rw [if_pos h0], by unfold DD.stepO; rw [if_pos h0], by unfold DD.stepE; rw [if_pos h0]⟩
    rw [h0]
    obtain ⟨k0, k1, k2, k3, k4, k5, k6, k7, k8, k9, k10, k11, k12, k13, k14⟩ := HS.out _ b3
    have hb := HBK.out _ b3
    clear h0 hszD
    by_cases h1 : D.rdy = true
    · rw [h1] at k5
      by_cases h2 : 0 ≤ av ∧ av < D.i
      · have d1 : decide (av < (0 : Int)) = false := decide_eq_false (by omega)
        have d2 : decide (D.i ≤ av) = false := decide_eq_false (by omega)
        obtain ⟨a, rfl⟩ : ∃ a : Nat, av = a := ⟨av.toNat, by omega⟩
        have hD3 := HD.out _ b3
        have hai : a < i := by have := hO.ei; omega
        have hal : a < H.l := by have := hD3.cs.1; have := hO.cl; omega
        have hcs : Hid (D.cs.getD ((a : Nat) : Int).toNat 0 = D.cs.getD a 0) := Lib.hid (by rw [Int.toNat_natCast])
        have hco := hO.cost hai
        have hcn1 := hO.cnt.1
        have hcn2 := hO.cnt.2.2
        have hal2 : (a : Int) < (H.l : Int) := by omega
        obtain ⟨bL, oL, hL, hbL, hcL⟩ := HD0.out.cs.at_ hal
        replace hcL := ((HB2.out.trans (HB3.out.mono HB2.out.size)).cell (p := ⟨bL, oL + a, none⟩) hbL).trans hcL
        rw [hL] at k6
        generalize hcost : D.cs.getD a 0 = cost at hco hcL hcs
        have ws1 : IntKind.i64.wrap (D.sp + 1) = D.sp + 1 := by rw [IntKind.wrap_i64]; omega
        have ws2 : IntKind.i64.wrap (D.tm + cost) = D.tm + cost := by rw [IntKind.wrap_i64]; omega
        by_cases h3 : D.sp < 1125899906842624
        · have HC1 := Lib.hid (rcounter (D.sp + 1) true (decide_eq_true (by omega)).symm)
          by_cases h4 : D.tm ≤ 1125899906842624 - cost
          · have HC2 := Lib.hid (rcounter (D.tm + cost) true (decide_eq_true (by omega)).symm)
            have hE : D.stpE a = 0 := by unfold DD.stpE; rw [if_pos h1, if_pos h2, hcs.out, if_pos ⟨h3, h4⟩]
            obtain ⟨s, hs'⟩ : ∃ s : Nat, D.s = s := ⟨D.s.toNat, by have := hO.s0; omega⟩
            have hDw := HD0.out
            have hsn : s < n := by have := hO.s1; omega
            have hnl : H.n = n := by rw [← hO.m.nxl]; exact hDw.nx.1.symm
            have hml : H.m = n := by rw [← hO.m.otl]; exact hDw.ot.1.symm
            obtain ⟨g1, p1, A1, m1, n1, hA, hg1, hd1, hr1⟩ := hDw.nx.at_ (k := s) (by omega)
            obtain ⟨g2, p2, A2, m2, n2, hBB, hg2, hd2, hr2⟩ := hDw.ot.at_ (k := s) (by omega)
            have hi1 := (hO.m.row s hsn).1
            have hi2 := (hO.m.row s hsn).2.1
            have hl1 := hr1.1
            have hl2 := hr2.1
            obtain rfl : m1 = i := by omega
            obtain rfl : m2 = m1 := by omega
            obtain ⟨g3, p3, rfl, hg3, hy1⟩ := hr1.at_ hai
            obtain ⟨g4, p4, rfl, hg4, hy2⟩ := hr2.at_ hai
            rw [hO.m.nN_eq hsn hai] at hy1
            change w.cell? _ = some (.int .i64 (oN D.ot s a)) at hy2
            have hor : 0 ≤ oN D.ot s a ∧ oN D.ot s a ≤ 1048576 := by have h := (hO.m.row s hsn).2.2 a hai; exact ⟨h.2.2.1, h.2.2.2⟩
            have hT : Hid ((nN D.nx D.s.toNat ((a : Nat) : Int).toNat : Int) = (nN D.nx s a : Nat)) := Lib.hid (by rw [hs', Int.toNat_natCast, Int.toNat_natCast])
            have hU : Hid (oN D.ot D.s.toNat ((a : Nat) : Int).toNat = oN D.ot s a) := Lib.hid (by rw [hs', Int.toNat_natCast, Int.toNat_natCast])
            generalize nN D.nx s a = t at hy1 hT
            generalize oN D.ot s a = o at hy2 hU hor
            have hbw3 : Below w.heap.size w w3 := HB2.out.trans (b3.mono HB2.out.size)
            have e1 := (hbw3.cell (p := ⟨g1, p1 + s, none⟩) hg1).trans hd1
            have e2 := (hbw3.cell (p := ⟨g2, p2 + s, none⟩) hg2).trans hd2
            have e3 := (hbw3.cell (p := ⟨g3, p3 + a, none⟩) hg3).trans hy1
            have e4 := (hbw3.cell (p := ⟨g4, p4 + a, none⟩) hg4).trans hy2
            have HBW3 := Lib.hid hbw3
            rw [hA, hnl] at k2
            rw [hBB, hml] at k3
            rw [hs'] at k4
            obtain ⟨D5, hD5⟩ : ∃ D5 : DD, D5 = { D with s := (t : Int), sp := D.sp + 1, tm := D.tm + cost, sd := Drs D.sd 10000 } := ⟨_, rfl⟩
            have HST : Hid (D.stpD (a : Int) = { D with s := (t : Int), sp := D.sp + 1, tm := D.tm + cost, sd := Drs D.sd 10000, rdy := !crs (Drx D.sd 10000 : Int) D.f1 D.f2 D.f3 } ∧ D.stpO (a : Int) = rcv (Drx D.sd 10000 : Int) D.f1 D.f2 o) := Lib.hid ⟨by
              unfold DD.stpD; rw [if_pos hE]; unfold DD.stp; rw [hT.out, hcs.out], by unfold DD.stpO; rw [if_pos hE, hU.out]⟩
            have HD5 := Lib.hid hD5
            have HE := Lib.hid hE
            have HRD := Lib.hid h1
            have HRC : Hid (∀ x : Int, rcv x D.f1 D.f2 o = if x < D.f1 then -1 else if x < D.f1 + D.f2 then wrg o else o) := Lib.hid fun _ => rfl
            have HWR : Hid (wrg o = if o = 1048576 then o - 1 else o + 1) := Lib.hid rfl
            have HCR : Hid (∀ x : Int, crs x D.f1 D.f2 D.f3 = decide (¬ x < D.f1 ∧ ¬ x < D.f1 + D.f2 ∧ x < D.f1 + D.f2 + D.f3)) := Lib.hid fun _ => rfl
            have HD5R : Hid (D5.rdy = true) := Lib.hid (by rw [hD5]; exact h1)
            have HBE := Lib.hid (rbelow10 D.sd hs)
            obtain ⟨p1', p2', p3', p4'⟩ := hO.pos
            have wf1 : IntKind.i64.wrap (D.f1 + D.f2) = D.f1 + D.f2 := by rw [IntKind.wrap_i64]; omega
            have wf2 : IntKind.i64.wrap (D.f1 + D.f2 + D.f3) = D.f1 + D.f2 + D.f3 := by rw [IntKind.wrap_i64]; omega
            have wo1 : IntKind.i64.wrap (o - 1) = o - 1 := by rw [IntKind.wrap_i64]; omega
            have wo2 : IntKind.i64.wrap (o + 1) = o + 1 := by rw [IntKind.wrap_i64]; omega
            generalize Drx D.sd 10000 = x at HBE HST
            generalize Drs D.sd 10000 = sd at HBE HST HD5
            have HBB := Lib.hid hb
            have f4 := hb.free 4
            have f12 := hb.free 12
            have HBL := Lib.hid hbL
            have HLL := Lib.hid hL
            clear hT hU hcs h1 h2 h3 h4 hE hO hD3 hb hcost hco hcn1 hcn2 hL b3 hs' hDw hA hBB hnl hml hd1 hd2 hr1 hr2 hi1 hi2 hl1 hl2 hy1 hy2 hg1 hg2 hg3 hg4 hD5 hbw3 p1' p2' p3' p4' hbL k1 k7 k8 k9 k10 k13
            go_wp2_with fail
            have hS7 : w3.drew.cell? ⟨w.heap.size, 12, none⟩ = some (.int .i64 D.sp) ∧ w3.drew.cell? ⟨w.heap.size, 14, none⟩ = some (.int .i64 D.tm) ∧ w3.drew.cell? ⟨w.heap.size, 6, none⟩ = some (.slice (some ⟨bL, oL, none⟩) H.l H.lc) ∧ w3.drew.cell? ⟨bL, oL + a, none⟩ = some (.int .i64 cost) := ⟨k12, k14, k6, hcL⟩
            refine wp_region_heldX (X := fun k => ([] : List Nat).contains k) (S := fun W => W.cell? ⟨w.heap.size, 12, none⟩ = some (.int .i64 D.sp) ∧ W.cell? ⟨w.heap.size, 14, none⟩ = some (.int .i64 D.tm) ∧ W.cell? ⟨w.heap.size, 6, none⟩ = some (.slice (some ⟨bL, oL, none⟩) H.l H.lc) ∧ W.cell? ⟨bL, oL + a, none⟩ = some (.int .i64 cost)) (by kernel_rfl) ?_
            refine wpAnyX_pure (i := 0) (v := ?_) rfl (by kernel_rfl) (by kernel_rfl) (by kernel_rfl) (fun _ _ _ h => h) (Or.inl ⟨by rfl, ?_⟩) ?_
            rotate_left
            · (intro W _; go_simp; try with_reducible rfl)
            (try simp only [Act.put, List.getElem_toArray, List.getElem_cons_zero, List.getElem_cons_succ, List.setIfInBounds_toArray, List.set_cons_zero, List.set_cons_succ])
            refine wpAnyX_takeL (L := []) (i := 1) (v := ?_) rfl (by kernel_rfl) (by kernel_rfl) (by kernel_rfl) (by kernel_rfl) (fun _ _ _ h => h) (Or.inl ⟨by rfl, ?_⟩) (hS7) ?_
            rotate_left
            · (intro W hSW; (try dsimp only at hSW); obtain ⟨z0, z1, z2, z3⟩ := hSW; go_simp; try with_reducible rfl)
            (try simp only [Act.put, List.getElem_toArray, List.getElem_cons_zero, List.getElem_cons_succ, List.setIfInBounds_toArray, List.set_cons_zero, List.set_cons_succ])
            refine wpAnyX_pure (i := 2) (v := ?_) rfl (by kernel_rfl) (by kernel_rfl) (by kernel_rfl) (fun _ _ _ h => h) (Or.inl ⟨by rfl, ?_⟩) ?_
            rotate_left
            · (intro W _; go_simp; try with_reducible rfl)
            (try simp only [Act.put, List.getElem_toArray, List.getElem_cons_zero, List.getElem_cons_succ, List.setIfInBounds_toArray, List.set_cons_zero, List.set_cons_succ])
            refine wpAnyX_one (i := 3) rfl (by kernel_rfl) (fun K hK => ?_)
            go_simp
            go_at_call 40
            refine (HC1.out _).mono ?_
            rintro e w9 ⟨rfl, rfl⟩
            refine hK.out _ _ (fun _ _ => hS7) ?_
            (try simp only [Act.put, List.getElem_toArray, List.getElem_cons_zero, List.getElem_cons_succ, List.setIfInBounds_toArray, List.set_cons_zero, List.set_cons_succ])
            refine wpAnyX_pure (i := 4) (v := ?_) rfl (by kernel_rfl) (by kernel_rfl) (by kernel_rfl) (fun _ _ _ h => h) (Or.inl ⟨by rfl, ?_⟩) ?_
            rotate_left
            · (intro W _; go_simp; try with_reducible rfl)
            (try simp only [Act.put, List.getElem_toArray, List.getElem_cons_zero, List.getElem_cons_succ, List.setIfInBounds_toArray, List.set_cons_zero, List.set_cons_succ])
            refine wpAnyX_pure (i := 5) (v := ?_) rfl (by kernel_rfl) (by kernel_rfl) (by kernel_rfl) (fun _ _ _ h => h) (Or.inl ⟨by rfl, ?_⟩) ?_
            rotate_left
            · (intro W _; go_simp; try with_reducible rfl)
            (try simp only [Act.put, List.getElem_toArray, List.getElem_cons_zero, List.getElem_cons_succ, List.setIfInBounds_toArray, List.set_cons_zero, List.set_cons_succ])
            refine wpAnyX_pure (i := 6) (v := ?_) rfl (by kernel_rfl) (by kernel_rfl) (by kernel_rfl) (fun _ _ _ h => h) (Or.inl ⟨by rfl, ?_⟩) ?_
            rotate_left
            · (intro W _; go_simp; try with_reducible rfl)
            (try simp only [Act.put, List.getElem_toArray, List.getElem_cons_zero, List.getElem_cons_succ, List.setIfInBounds_toArray, List.set_cons_zero, List.set_cons_succ])
            refine wpAnyX_takeL (L := []) (i := 7) (v := ?_) rfl (by kernel_rfl) (by kernel_rfl) (by kernel_rfl) (by kernel_rfl) (fun _ _ _ h => h) (Or.inl ⟨by rfl, ?_⟩) (hS7) ?_
            rotate_left
            · (intro W hSW; (try dsimp only at hSW); obtain ⟨z0, z1, z2, z3⟩ := hSW; go_simp; try with_reducible rfl)
            (try simp only [Act.put, List.getElem_toArray, List.getElem_cons_zero, List.getElem_cons_succ, List.setIfInBounds_toArray, List.set_cons_zero, List.set_cons_succ])
            refine wpAnyX_pure (i := 8) (v := ?_) rfl (by kernel_rfl) (by kernel_rfl) (by kernel_rfl) (fun _ _ _ h => h) (Or.inl ⟨by rfl, ?_⟩) ?_
            rotate_left
            · (intro W _; go_simp; try with_reducible rfl)
            (try simp only [Act.put, List.getElem_toArray, List.getElem_cons_zero, List.getElem_cons_succ, List.setIfInBounds_toArray, List.set_cons_zero, List.set_cons_succ])
            refine wpAnyX_pure (i := 9) (v := ?_) rfl (by kernel_rfl) (by kernel_rfl) (by kernel_rfl) (fun _ _ _ h => h) (Or.inl ⟨by rfl, ?_⟩) ?_
            rotate_left
            · (intro W _; go_simp; try with_reducible rfl)
            (try simp only [Act.put, List.getElem_toArray, List.getElem_cons_zero, List.getElem_cons_succ, List.setIfInBounds_toArray, List.set_cons_zero, List.set_cons_succ])
            refine wpAnyX_takeL (L := []) (i := 10) (v := ?_) rfl (by kernel_rfl) (by kernel_rfl) (by kernel_rfl) (by kernel_rfl) (fun _ _ _ h => h) (Or.inl ⟨by rfl, ?_⟩) (hS7) ?_
            rotate_left
            · (intro W hSW; (try dsimp only at hSW); obtain ⟨z0, z1, z2, z3⟩ := hSW; go_simp; try with_reducible rfl)
            (try simp only [Act.put, List.getElem_toArray, List.getElem_cons_zero, List.getElem_cons_succ, List.setIfInBounds_toArray, List.set_cons_zero, List.set_cons_succ])
            refine wpAnyX_pure (i := 11) (v := ?_) rfl (by kernel_rfl) (by kernel_rfl) (by kernel_rfl) (fun _ _ _ h => h) (Or.inl ⟨by rfl, ?_⟩) ?_
            rotate_left
            · (intro W _; go_simp; try with_reducible rfl)
            (try simp only [Act.put, List.getElem_toArray, List.getElem_cons_zero, List.getElem_cons_succ, List.setIfInBounds_toArray, List.set_cons_zero, List.set_cons_succ])
            refine wpAnyX_pure (i := 12) (v := ?_) rfl (by kernel_rfl) (by kernel_rfl) (by kernel_rfl) (fun _ _ _ h => h) (Or.inl ⟨by rfl, ?_⟩) ?_
            rotate_left
            · (intro W _; go_simp; try with_reducible rfl)
            (try simp only [Act.put, List.getElem_toArray, List.getElem_cons_zero, List.getElem_cons_succ, List.setIfInBounds_toArray, List.set_cons_zero, List.set_cons_succ])
            refine wpAnyX_takeL (L := []) (i := 13) (v := ?_) rfl (by kernel_rfl) (by kernel_rfl) (by kernel_rfl) (by kernel_rfl) (fun _ _ _ h => h) (Or.inl ⟨by rfl, ?_⟩) (hS7) ?_
            rotate_left
            · (intro W hSW; (try dsimp only at hSW); obtain ⟨z0, z1, z2, z3⟩ := hSW; go_simp; try with_reducible rfl)
            (try simp only [Act.put, List.getElem_toArray, List.getElem_cons_zero, List.getElem_cons_succ, List.setIfInBounds_toArray, List.set_cons_zero, List.set_cons_succ])
            refine wpAnyX_pure (i := 14) (v := ?_) rfl (by kernel_rfl) (by kernel_rfl) (by kernel_rfl) (fun _ _ _ h => h) (Or.inl ⟨by rfl, ?_⟩) ?_
            rotate_left
            · (intro W _; go_simp; try with_reducible rfl)
            (try simp only [Act.put, List.getElem_toArray, List.getElem_cons_zero, List.getElem_cons_succ, List.setIfInBounds_toArray, List.set_cons_zero, List.set_cons_succ])
            refine wpAnyX_one (i := 15) rfl (by kernel_rfl) (fun K hK => ?_)
            go_simp
            go_at_call 40
            refine (HC2.out _).mono ?_
            rintro e w9 ⟨rfl, rfl⟩
            refine hK.out _ _ (fun _ _ => hS7) ?_
            (try simp only [Act.put, List.getElem_toArray, List.getElem_cons_zero, List.getElem_cons_succ, List.setIfInBounds_toArray, List.set_cons_zero, List.set_cons_succ])
            refine wpAnyX_pure (i := 16) (v := ?_) rfl (by kernel_rfl) (by kernel_rfl) (by kernel_rfl) (fun _ _ _ h => h) (Or.inl ⟨by rfl, ?_⟩) ?_
            rotate_left
            · (intro W _; go_simp; try with_reducible rfl)
            (try simp only [Act.put, List.getElem_toArray, List.getElem_cons_zero, List.getElem_cons_succ, List.setIfInBounds_toArray, List.set_cons_zero, List.set_cons_succ])
            refine wpAnyX_pure (i := 17) (v := ?_) rfl (by kernel_rfl) (by kernel_rfl) (by kernel_rfl) (fun _ _ _ h => h) (Or.inl ⟨by rfl, ?_⟩) ?_
            rotate_left
            · (intro W _; go_simp; try with_reducible rfl)
            (try simp only [Act.put, List.getElem_toArray, List.getElem_cons_zero, List.getElem_cons_succ, List.setIfInBounds_toArray, List.set_cons_zero, List.set_cons_succ])
            refine wpAnyX_pure (i := 18) (v := ?_) rfl (by kernel_rfl) (by kernel_rfl) (by kernel_rfl) (fun _ _ _ h => h) (Or.inl ⟨by rfl, ?_⟩) ?_
            rotate_left
            · (intro W _; go_simp; try with_reducible rfl)
            (try simp only [Act.put, List.getElem_toArray, List.getElem_cons_zero, List.getElem_cons_succ, List.setIfInBounds_toArray, List.set_cons_zero, List.set_cons_succ])
            refine wpAnyX_done (by kernel_rfl) ?_ _
            go_wp2_with fail
            refine (HBE.out _).mono ?_
            rintro e w4 ⟨rfl, rfl⟩
            go_upto_region 13 with fail
            obtain ⟨W4, hW4⟩ : ∃ W4, W4 = ((w3.setCell ⟨w.heap.size, 4, none⟩ (.int .i64 (t : Int))).setCell ⟨w.heap.size, 12, none⟩ (.int .i64 (D.sp + 1))).drew := ⟨_, rfl⟩
            have m4 : Blk W4 w.heap.size (dvC { D with s := (t : Int), sp := D.sp + 1 } H) 32 := by rw [hW4]; exact (show Blk ((w3.setCell _ _).setCell _ _) _ _ _ from (HBB.out.set 4 _).set 12 _)
            have n4 : Blk W4 (w.heap.size + 1) zcD 32 := by rw [hW4]; exact (show Blk ((w3.setCell _ _).setCell _ _) _ _ _ from ((HBZ.out _ HB3.out).other (by omega) _).other (by omega) _)
            have b4' : Below w.heap.size w3 W4 := by rw [hW4]; exact below_drewN (((Below.refl _ _).setCell (p := ⟨w.heap.size, 4, none⟩) (Nat.le_refl _) _).setCell (p := ⟨w.heap.size, 12, none⟩) (Nat.le_refl _) _) 1
            have b4 : Below w.heap.size w W4 := HBW3.out.trans b4'
            have hS1 : W4.cell? ⟨w.heap.size, 14, none⟩ = some (.int .i64 D.tm) ∧ W4.cell? ⟨w.heap.size, 6, none⟩ = some (.slice (some ⟨bL, oL, none⟩) H.l H.lc) ∧ W4.cell? ⟨bL, oL + a, none⟩ = some (.int .i64 cost) := ⟨m4.cell 14, (m4.cell 6).trans (by rw [← HLL.out]; rfl), (b4'.cell (p := ⟨bL, oL + a, none⟩) HBL.out).trans hcL⟩
            rw [← hW4]
            have HM4 := Lib.hid m4
            have f14 := m4.free 14
            have HN4 := Lib.hid n4
            have HB4 := Lib.hid b4
            clear hW4 m4 n4 b4 b4' e1 e2 e3 e4 f4 f12 k2 k3 k4 k6 k12 k14 k11 hcL hor
            refine wp_region_heldX (X := fun k => ([10] : List Nat).contains k) (S := fun W => W.cell? ⟨w.heap.size, 14, none⟩ = some (.int .i64 D.tm) ∧ W.cell? ⟨w.heap.size, 6, none⟩ = some (.slice (some ⟨bL, oL, none⟩) H.l H.lc) ∧ W.cell? ⟨bL, oL + a, none⟩ = some (.int .i64 cost)) (by kernel_rfl) ?_
            refine wpAnyX_pure (i := 0) (v := ?_) rfl (by kernel_rfl) (by kernel_rfl) (by kernel_rfl) (fun _ _ _ h => h) (Or.inl ⟨by rfl, ?_⟩) ?_
            rotate_left
            · (intro W _; go_simp; try with_reducible rfl)
            (try simp only [Act.put, List.getElem_toArray, List.getElem_cons_zero, List.getElem_cons_succ, List.setIfInBounds_toArray, List.set_cons_zero, List.set_cons_succ])
            refine wpAnyX_takeL (L := [10]) (i := 1) (v := ?_) rfl (by kernel_rfl) (by kernel_rfl) (by kernel_rfl) (by kernel_rfl) (fun _ _ _ h => h) (Or.inl ⟨by rfl, ?_⟩) (hS1) ?_
            rotate_left
            · (intro W hSW; (try dsimp only at hSW); obtain ⟨z0, z1, z2⟩ := hSW; go_simp; try with_reducible rfl)
            (try simp only [Act.put, List.getElem_toArray, List.getElem_cons_zero, List.getElem_cons_succ, List.setIfInBounds_toArray, List.set_cons_zero, List.set_cons_succ])
            refine wpAnyX_pure (i := 2) (v := ?_) rfl (by kernel_rfl) (by kernel_rfl) (by kernel_rfl) (fun _ _ _ h => h) (Or.inl ⟨by rfl, ?_⟩) ?_
            rotate_left
            · (intro W _; go_simp; try with_reducible rfl)
            (try simp only [Act.put, List.getElem_toArray, List.getElem_cons_zero, List.getElem_cons_succ, List.setIfInBounds_toArray, List.set_cons_zero, List.set_cons_succ])
            refine wpAnyX_pure (i := 3) (v := ?_) rfl (by kernel_rfl) (by kernel_rfl) (by kernel_rfl) (fun _ _ _ h => h) (Or.inl ⟨by rfl, ?_⟩) ?_
            rotate_left
            · (intro W _; go_simp; try with_reducible rfl)
            (try simp only [Act.put, List.getElem_toArray, List.getElem_cons_zero, List.getElem_cons_succ, List.setIfInBounds_toArray, List.set_cons_zero, List.set_cons_succ])
            refine wpAnyX_takeL (L := [10]) (i := 4) (v := ?_) rfl (by kernel_rfl) (by kernel_rfl) (by kernel_rfl) (by kernel_rfl) (fun _ _ _ h => h) (Or.inl ⟨by rfl, ?_⟩) (hS1) ?_
            rotate_left
            · (intro W hSW; (try dsimp only at hSW); obtain ⟨z0, z1, z2⟩ := hSW; go_simp; try with_reducible rfl)
            (try simp only [Act.put, List.getElem_toArray, List.getElem_cons_zero, List.getElem_cons_succ, List.setIfInBounds_toArray, List.set_cons_zero, List.set_cons_succ])
            refine wpAnyX_pure (i := 5) (v := ?_) rfl (by kernel_rfl) (by kernel_rfl) (by kernel_rfl) (fun _ _ _ h => h) (Or.inl ⟨by rfl, ?_⟩) ?_
            rotate_left
            · (intro W _; go_simp; try with_reducible rfl)
            (try simp only [Act.put, List.getElem_toArray, List.getElem_cons_zero, List.getElem_cons_succ, List.setIfInBounds_toArray, List.set_cons_zero, List.set_cons_succ])
            refine wpAnyX_pure (i := 6) (v := ?_) rfl (by kernel_rfl) (by kernel_rfl) (by kernel_rfl) (fun _ _ _ h => h) (Or.inl ⟨by rfl, ?_⟩) ?_
            rotate_left
            · (intro W _; go_simp; try with_reducible rfl)
            (try simp only [Act.put, List.getElem_toArray, List.getElem_cons_zero, List.getElem_cons_succ, List.setIfInBounds_toArray, List.set_cons_zero, List.set_cons_succ])
            refine wpAnyX_takeL (L := [10]) (i := 7) (v := ?_) rfl (by kernel_rfl) (by kernel_rfl) (by kernel_rfl) (by kernel_rfl) (fun _ _ _ h => h) (Or.inl ⟨by rfl, ?_⟩) (hS1) ?_
            rotate_left
            · (intro W hSW; (try dsimp only at hSW); obtain ⟨z0, z1, z2⟩ := hSW; go_simp; try with_reducible rfl)
            (try simp only [Act.put, List.getElem_toArray, List.getElem_cons_zero, List.getElem_cons_succ, List.setIfInBounds_toArray, List.set_cons_zero, List.set_cons_succ])
            refine wpAnyX_pure (i := 8) (v := ?_) rfl (by kernel_rfl) (by kernel_rfl) (by kernel_rfl) (fun _ _ _ h => h) (Or.inl ⟨by rfl, ?_⟩) ?_
            rotate_left
            · (intro W _; go_simp; try with_reducible rfl)
            (try simp only [Act.put, List.getElem_toArray, List.getElem_cons_zero, List.getElem_cons_succ, List.setIfInBounds_toArray, List.set_cons_zero, List.set_cons_succ])
            refine wpAnyX_pure (i := 9) (v := ?_) rfl (by kernel_rfl) (by kernel_rfl) (by kernel_rfl) (fun _ _ _ h => h) (Or.inl ⟨by rfl, ?_⟩) ?_
            rotate_left
            · (intro W _; go_simp; try with_reducible rfl)
            (try simp only [Act.put, List.getElem_toArray, List.getElem_cons_zero, List.getElem_cons_succ, List.setIfInBounds_toArray, List.set_cons_zero, List.set_cons_succ])
            refine wpAnyX_one (i := 10) rfl (by kernel_rfl) (fun K hK => ?_)
            go_simp
            refine hK.out _ _ (fun h => absurd h (by decide)) ?_
            (try simp only [Act.put, List.getElem_toArray, List.getElem_cons_zero, List.getElem_cons_succ, List.setIfInBounds_toArray, List.set_cons_zero, List.set_cons_succ])
            refine wpAnyX_done (by kernel_rfl) ?_ _
            obtain ⟨W5, hW5⟩ : ∃ W5, W5 = (W4.setCell ⟨w.heap.size, 14, none⟩ (.int .i64 (D.tm + cost))).drew := ⟨_, rfl⟩
            have m5 : Blk W5 w.heap.size (dvC { D with s := (t : Int), sp := D.sp + 1, tm := D.tm + cost } H) 32 := by rw [hW5]; exact (show Blk (W4.setCell _ _) _ _ _ from HM4.out.set 14 _)
            have n5 : Blk W5 (w.heap.size + 1) zcD 32 := by rw [hW5]; exact (show Blk (W4.setCell _ _) _ _ _ from HN4.out.other (by omega) _)
            have b5 : Below w.heap.size w W5 := by rw [hW5]; exact below_drewN (HB4.out.setCell (p := ⟨w.heap.size, 14, none⟩) (Nat.le_refl _) _) 1
            have k8 : W5.cell? ⟨w.heap.size, 8, none⟩ = some (.int .i64 D.f1) := m5.cell 8
            have k9 : W5.cell? ⟨w.heap.size, 9, none⟩ = some (.int .i64 D.f2) := m5.cell 9
            have k10 : W5.cell? ⟨w.heap.size, 10, none⟩ = some (.int .i64 D.f3) := m5.cell 10
            have f11 := m5.free 11
            have k11 : W5.cell? ⟨w.heap.size, 11, none⟩ = some (.int .u64 (D.sd : Int)) := m5.cell 11
            have HM5 := Lib.hid m5
            have HN5 := Lib.hid n5
            have HB5 := Lib.hid b5
            rw [← hW5]
            clear hW5 m5 n5 b5 f14
            go_upto_region 15 with fail
            obtain ⟨W5', hW5'⟩ : ∃ W5', W5' = W5.setCell ⟨w.heap.size, 11, none⟩ (.int .u64 (sd : Int)) := ⟨_, rfl⟩
            have m5' : Blk W5' w.heap.size (dvC D5 H) 32 := by rw [hW5', HD5.out]; exact HM5.out.set 11 (.int .u64 (sd : Int))
            have n5' : Blk W5' (w.heap.size + 1) zcD 32 := by rw [hW5']; exact HN5.out.other (g' := w.heap.size) (by omega) _
            have b5' : Below w.heap.size w W5' := by rw [hW5']; exact HB5.out.setCell (p := ⟨w.heap.size, 11, none⟩) (Nat.le_refl _) _
            rw [← hW5']
            clear hW5' k8 k9 k10 f11
            have k8 : W5'.cell? ⟨w.heap.size, 8, none⟩ = some (.int .i64 D.f1) := (m5'.cell 8).trans (by rw [HD5.out]; rfl)
            have k9 : W5'.cell? ⟨w.heap.size, 9, none⟩ = some (.int .i64 D.f2) := (m5'.cell 9).trans (by rw [HD5.out]; rfl)
            have k10 : W5'.cell? ⟨w.heap.size, 10, none⟩ = some (.int .i64 D.f3) := (m5'.cell 10).trans (by rw [HD5.out]; rfl)
            have HM5' := Lib.hid m5'
            have HN5' := Lib.hid n5'
            have HB5' := Lib.hid b5'
            clear m5' n5' b5'
            go_upto_region 16 with fail
            obtain ⟨W6, hW6⟩ : ∃ W6, W6 = W5'.alloc (.cells #[.int .i64 D.f1, .int .i64 D.f2, .int .i64 D.f3] 29) := ⟨_, rfl⟩
            have m6 : Blk W6 w.heap.size (dvC D5 H) 32 := by rw [hW6]; exact HM5'.out.on (alloc_below _ _)
            have n6 : Blk W6 (w.heap.size + 1) zcD 32 := by rw [hW6]; exact HN5'.out.on (alloc_below _ _)
            have b6 : Below w.heap.size w W6 := by rw [hW6]; exact bt HB5'.out (alloc_below _ _)
            have mF : Blk W6 W5'.heap.size #[.int .i64 D.f1, .int .i64 D.f2, .int .i64 D.f3] 29 := by rw [hW6]; exact blk_new _ _ _
            have q0 : W6.cell? ⟨W5'.heap.size, 0, none⟩ = some (.int .i64 D.f1) := mF.cell 0
            have q1 : W6.cell? ⟨W5'.heap.size, 1, none⟩ = some (.int .i64 D.f2) := mF.cell 1
            have q2 : W6.cell? ⟨W5'.heap.size, 2, none⟩ = some (.int .i64 D.f3) := mF.cell 2
            have k5 := m6.cell 5
            have f5 := m6.free 5
            have HM6 := Lib.hid m6
            have HN6 := Lib.hid n6
            have HB6 := Lib.hid b6
            rw [← hW6]
            clear hW6 m6 n6 b6 mF k8 k9 k10
            by_cases x1 : (x : Int) < D.f1
            · have d1 : decide ((x : Int) < D.f1) = true := decide_eq_true x1
              have HOUT : Hid (rcv (x : Int) D.f1 D.f2 o = -1) := Lib.hid (by rw [HRC.out]; rw [if_pos x1])
              have HDD : Hid (({ D with s := (t : Int), sp := D.sp + 1, tm := D.tm + cost, sd := sd, rdy := !crs (x : Int) D.f1 D.f2 D.f3 } : DD) = D5) := Lib.hid (by rw [HCR.out, decide_eq_false (by omega), HD5.out]; simp [HRD.out])
              clear x1
              go_upto_region 24 with fail
              obtain ⟨W7, hW7⟩ : ∃ W7, W7 = W6 := ⟨_, rfl⟩
              have m7 : Blk W7 w.heap.size (dvC D5 H) 32 := by rw [hW7]; exact HM6.out
              have n7 : Blk W7 (w.heap.size + 1) zcD 32 := by rw [hW7]; exact HN6.out
              have b7 : Below w.heap.size w W7 := by rw [hW7]; exact HB6.out
              rw [← hW7]
              have HM7 := Lib.hid m7
              have HN7 := Lib.hid n7
              have hF : Hid (DevR (W7.setRow (w.heap.size + 1) (dvC D5 H)) D5 H ∧ Below w.heap.size w (W7.setRow (w.heap.size + 1) (dvC D5 H)) ∧ Blk (W7.setRow (w.heap.size + 1) (dvC D5 H)) (w.heap.size + 1) (dvC D5 H) 32) := Lib.hid (by
                have hb : Below w.heap.size w (W7.setRow (w.heap.size + 1) (dvC D5 H)) := below_setRow b7 (by omega) _
                have hd := HD0.out.below hb
                exact ⟨by rw [HD5.out] at hd ⊢; exact ⟨hd.nx, hd.ot, hd.cs⟩, hb, n7.row _⟩)
              clear hW7 m7 n7 b7 q0 q1 q2 k5 f5
              refine wp_region_list ?_
              refine wpList_load_row rfl 32 _ rfl w.heap.size rfl 32 (dvC D5 H) (0, 0) _ HM7.out Try.underlying32 rfl (by rw [HSZ.out]; kernel_rfl) ?_
              go_wp2_with (refine wpList_store_row rfl 32 _ _ rfl (w.heap.size + 1) (dvC D5 H) rfl rfl 32 zcD HN7.out (by rw [HSZ.out]; kernel_rfl) (by rw [HSZ.out]; rfl) (dvC_one _ _) ?_)
              refine bodyPost_ret (results_dev3 (by rfl) _ _ (w.heap.size + 1) (dvC D5 H) (HSZ.out _ _) rfl hF.out.2.2) rfl ⟨by rw [HR0.out.1, HR0.out.2.1, HR0.out.2.2, HE.out, HST.out.1, HST.out.2, HOUT.out, HDD.out]; rfl, by rw [HR0.out.1, HST.out.1, HDD.out]; exact hF.out.1, hF.out.2.1⟩
            · by_cases x2 : (x : Int) < D.f1 + D.f2
              · by_cases x3 : o = 1048576
                · have d1 : decide ((x : Int) < D.f1) = false := decide_eq_false x1
                  have d2 : decide ((x : Int) < D.f1 + D.f2) = true := decide_eq_true x2
                  have d3 : (o == (1048576 : Int)) = true := by rw [x3]; rfl
                  have HOUT : Hid (rcv (x : Int) D.f1 D.f2 o = o - 1) := Lib.hid (by rw [HRC.out]; rw [if_neg x1, if_pos x2, HWR.out, if_pos x3])
                  have HDD : Hid (({ D with s := (t : Int), sp := D.sp + 1, tm := D.tm + cost, sd := sd, rdy := !crs (x : Int) D.f1 D.f2 D.f3 } : DD) = D5) := Lib.hid (by rw [HCR.out, decide_eq_false (by omega), HD5.out]; simp [HRD.out])
                  clear x1 x2 x3
                  go_upto_region 24 with fail
                  obtain ⟨W7, hW7⟩ : ∃ W7, W7 = W6 := ⟨_, rfl⟩
                  have m7 : Blk W7 w.heap.size (dvC D5 H) 32 := by rw [hW7]; exact HM6.out
                  have n7 : Blk W7 (w.heap.size + 1) zcD 32 := by rw [hW7]; exact HN6.out
                  have b7 : Below w.heap.size w W7 := by rw [hW7]; exact HB6.out
                  rw [← hW7]
                  have HM7 := Lib.hid m7
                  have HN7 := Lib.hid n7
                  have hF : Hid (DevR (W7.setRow (w.heap.size + 1) (dvC D5 H)) D5 H ∧ Below w.heap.size w (W7.setRow (w.heap.size + 1) (dvC D5 H)) ∧ Blk (W7.setRow (w.heap.size + 1) (dvC D5 H)) (w.heap.size + 1) (dvC D5 H) 32) := Lib.hid (by
                    have hb : Below w.heap.size w (W7.setRow (w.heap.size + 1) (dvC D5 H)) := below_setRow b7 (by omega) _
                    have hd := HD0.out.below hb
                    exact ⟨by rw [HD5.out] at hd ⊢; exact ⟨hd.nx, hd.ot, hd.cs⟩, hb, n7.row _⟩)
                  clear hW7 m7 n7 b7 q0 q1 q2 k5 f5
                  refine wp_region_list ?_
                  refine wpList_load_row rfl 32 _ rfl w.heap.size rfl 32 (dvC D5 H) (0, 0) _ HM7.out Try.underlying32 rfl (by rw [HSZ.out]; kernel_rfl) ?_
                  go_wp2_with (refine wpList_store_row rfl 32 _ _ rfl (w.heap.size + 1) (dvC D5 H) rfl rfl 32 zcD HN7.out (by rw [HSZ.out]; kernel_rfl) (by rw [HSZ.out]; rfl) (dvC_one _ _) ?_)
                  refine bodyPost_ret (results_dev3 (by rfl) _ _ (w.heap.size + 1) (dvC D5 H) (HSZ.out _ _) rfl hF.out.2.2) rfl ⟨by rw [HR0.out.1, HR0.out.2.1, HR0.out.2.2, HE.out, HST.out.1, HST.out.2, HOUT.out, HDD.out]; rfl, by rw [HR0.out.1, HST.out.1, HDD.out]; exact hF.out.1, hF.out.2.1⟩
                · have d1 : decide ((x : Int) < D.f1) = false := decide_eq_false x1
                  have d2 : decide ((x : Int) < D.f1 + D.f2) = true := decide_eq_true x2
                  have d3 : (o == (1048576 : Int)) = false := by simpa using x3
                  have HOUT : Hid (rcv (x : Int) D.f1 D.f2 o = o + 1) := Lib.hid (by rw [HRC.out]; rw [if_neg x1, if_pos x2, HWR.out, if_neg x3])
                  have HDD : Hid (({ D with s := (t : Int), sp := D.sp + 1, tm := D.tm + cost, sd := sd, rdy := !crs (x : Int) D.f1 D.f2 D.f3 } : DD) = D5) := Lib.hid (by rw [HCR.out, decide_eq_false (by omega), HD5.out]; simp [HRD.out])
                  clear x1 x2 x3
                  go_upto_region 24 with fail
                  obtain ⟨W7, hW7⟩ : ∃ W7, W7 = W6 := ⟨_, rfl⟩
                  have m7 : Blk W7 w.heap.size (dvC D5 H) 32 := by rw [hW7]; exact HM6.out
                  have n7 : Blk W7 (w.heap.size + 1) zcD 32 := by rw [hW7]; exact HN6.out
                  have b7 : Below w.heap.size w W7 := by rw [hW7]; exact HB6.out
                  rw [← hW7]
                  have HM7 := Lib.hid m7
                  have HN7 := Lib.hid n7
                  have hF : Hid (DevR (W7.setRow (w.heap.size + 1) (dvC D5 H)) D5 H ∧ Below w.heap.size w (W7.setRow (w.heap.size + 1) (dvC D5 H)) ∧ Blk (W7.setRow (w.heap.size + 1) (dvC D5 H)) (w.heap.size + 1) (dvC D5 H) 32) := Lib.hid (by
                    have hb : Below w.heap.size w (W7.setRow (w.heap.size + 1) (dvC D5 H)) := below_setRow b7 (by omega) _
                    have hd := HD0.out.below hb
                    exact ⟨by rw [HD5.out] at hd ⊢; exact ⟨hd.nx, hd.ot, hd.cs⟩, hb, n7.row _⟩)
                  clear hW7 m7 n7 b7 q0 q1 q2 k5 f5
                  refine wp_region_list ?_
                  refine wpList_load_row rfl 32 _ rfl w.heap.size rfl 32 (dvC D5 H) (0, 0) _ HM7.out Try.underlying32 rfl (by rw [HSZ.out]; kernel_rfl) ?_
                  go_wp2_with (refine wpList_store_row rfl 32 _ _ rfl (w.heap.size + 1) (dvC D5 H) rfl rfl 32 zcD HN7.out (by rw [HSZ.out]; kernel_rfl) (by rw [HSZ.out]; rfl) (dvC_one _ _) ?_)
                  refine bodyPost_ret (results_dev3 (by rfl) _ _ (w.heap.size + 1) (dvC D5 H) (HSZ.out _ _) rfl hF.out.2.2) rfl ⟨by rw [HR0.out.1, HR0.out.2.1, HR0.out.2.2, HE.out, HST.out.1, HST.out.2, HOUT.out, HDD.out]; rfl, by rw [HR0.out.1, HST.out.1, HDD.out]; exact hF.out.1, hF.out.2.1⟩
              · by_cases x3 : (x : Int) < D.f1 + D.f2 + D.f3
                · have d1 : decide ((x : Int) < D.f1) = false := decide_eq_false x1
                  have d2 : decide ((x : Int) < D.f1 + D.f2) = false := decide_eq_false x2
                  have d3 : decide ((x : Int) < D.f1 + D.f2 + D.f3) = true := decide_eq_true x3
                  have HOUT : Hid (rcv (x : Int) D.f1 D.f2 o = o) := Lib.hid (by rw [HRC.out]; rw [if_neg x1, if_neg x2])
                  have HDD : Hid (({ D with s := (t : Int), sp := D.sp + 1, tm := D.tm + cost, sd := sd, rdy := !crs (x : Int) D.f1 D.f2 D.f3 } : DD) = { D5 with rdy := false }) := Lib.hid (by rw [HCR.out, decide_eq_true (by omega), HD5.out]; rfl)
                  clear x1 x2 x3
                  go_upto_region 24 with fail
                  obtain ⟨W7, hW7⟩ : ∃ W7, W7 = (W6.setCell ⟨w.heap.size, 5, none⟩ (.bool false)) := ⟨_, rfl⟩
                  have m7 : Blk W7 w.heap.size (dvC { D5 with rdy := false } H) 32 := by rw [hW7]; exact HM6.out.set 5 (.bool false)
                  have n7 : Blk W7 (w.heap.size + 1) zcD 32 := by rw [hW7]; exact HN6.out.other (by omega) _
                  have b7 : Below w.heap.size w W7 := by rw [hW7]; exact HB6.out.setCell (p := ⟨w.heap.size, 5, none⟩) (Nat.le_refl _) _
                  rw [← hW7]
                  have HM7 := Lib.hid m7
                  have HN7 := Lib.hid n7
                  have hF : Hid (DevR (W7.setRow (w.heap.size + 1) (dvC { D5 with rdy := false } H)) { D5 with rdy := false } H ∧ Below w.heap.size w (W7.setRow (w.heap.size + 1) (dvC { D5 with rdy := false } H)) ∧ Blk (W7.setRow (w.heap.size + 1) (dvC { D5 with rdy := false } H)) (w.heap.size + 1) (dvC { D5 with rdy := false } H) 32) := Lib.hid (by
                    have hb : Below w.heap.size w (W7.setRow (w.heap.size + 1) (dvC { D5 with rdy := false } H)) := below_setRow b7 (by omega) _
                    have hd := HD0.out.below hb
                    exact ⟨by rw [HD5.out] at hd ⊢; exact ⟨hd.nx, hd.ot, hd.cs⟩, hb, n7.row _⟩)
                  clear hW7 m7 n7 b7 q0 q1 q2 k5 f5
                  refine wp_region_list ?_
                  refine wpList_load_row rfl 32 _ rfl w.heap.size rfl 32 (dvC { D5 with rdy := false } H) (0, 0) _ HM7.out Try.underlying32 rfl (by rw [HSZ.out]; kernel_rfl) ?_
                  go_wp2_with (refine wpList_store_row rfl 32 _ _ rfl (w.heap.size + 1) (dvC { D5 with rdy := false } H) rfl rfl 32 zcD HN7.out (by rw [HSZ.out]; kernel_rfl) (by rw [HSZ.out]; rfl) (dvC_one _ _) ?_)
                  refine bodyPost_ret (results_dev3 (by rfl) _ _ (w.heap.size + 1) (dvC { D5 with rdy := false } H) (HSZ.out _ _) rfl hF.out.2.2) rfl ⟨by rw [HR0.out.1, HR0.out.2.1, HR0.out.2.2, HE.out, HST.out.1, HST.out.2, HOUT.out, HDD.out]; rfl, by rw [HR0.out.1, HST.out.1, HDD.out]; exact hF.out.1, hF.out.2.1⟩
                · have d1 : decide ((x : Int) < D.f1) = false := decide_eq_false x1
                  have d2 : decide ((x : Int) < D.f1 + D.f2) = false := decide_eq_false x2
                  have d3 : decide ((x : Int) < D.f1 + D.f2 + D.f3) = false := decide_eq_false x3
                  have HOUT : Hid (rcv (x : Int) D.f1 D.f2 o = o) := Lib.hid (by rw [HRC.out]; rw [if_neg x1, if_neg x2])
                  have HDD : Hid (({ D with s := (t : Int), sp := D.sp + 1, tm := D.tm + cost, sd := sd, rdy := !crs (x : Int) D.f1 D.f2 D.f3 } : DD) = D5) := Lib.hid (by rw [HCR.out, decide_eq_false (by omega), HD5.out]; simp [HRD.out])
                  clear x1 x2 x3
                  go_upto_region 24 with fail
                  obtain ⟨W7, hW7⟩ : ∃ W7, W7 = W6 := ⟨_, rfl⟩
                  have m7 : Blk W7 w.heap.size (dvC D5 H) 32 := by rw [hW7]; exact HM6.out
                  have n7 : Blk W7 (w.heap.size + 1) zcD 32 := by rw [hW7]; exact HN6.out
                  have b7 : Below w.heap.size w W7 := by rw [hW7]; exact HB6.out
                  rw [← hW7]
                  have HM7 := Lib.hid m7
                  have HN7 := Lib.hid n7
                  have hF : Hid (DevR (W7.setRow (w.heap.size + 1) (dvC D5 H)) D5 H ∧ Below w.heap.size w (W7.setRow (w.heap.size + 1) (dvC D5 H)) ∧ Blk (W7.setRow (w.heap.size + 1) (dvC D5 H)) (w.heap.size + 1) (dvC D5 H) 32) := Lib.hid (by
                    have hb : Below w.heap.size w (W7.setRow (w.heap.size + 1) (dvC D5 H)) := below_setRow b7 (by omega) _
                    have hd := HD0.out.below hb
                    exact ⟨by rw [HD5.out] at hd ⊢; exact ⟨hd.nx, hd.ot, hd.cs⟩, hb, n7.row _⟩)
                  clear hW7 m7 n7 b7 q0 q1 q2 k5 f5
                  refine wp_region_list ?_
                  refine wpList_load_row rfl 32 _ rfl w.heap.size rfl 32 (dvC D5 H) (0, 0) _ HM7.out Try.underlying32 rfl (by rw [HSZ.out]; kernel_rfl) ?_
                  go_wp2_with (refine wpList_store_row rfl 32 _ _ rfl (w.heap.size + 1) (dvC D5 H) rfl rfl 32 zcD HN7.out (by rw [HSZ.out]; kernel_rfl) (by rw [HSZ.out]; rfl) (dvC_one _ _) ?_)
                  refine bodyPost_ret (results_dev3 (by rfl) _ _ (w.heap.size + 1) (dvC D5 H) (HSZ.out _ _) rfl hF.out.2.2) rfl ⟨by rw [HR0.out.1, HR0.out.2.1, HR0.out.2.2, HE.out, HST.out.1, HST.out.2, HOUT.out, HDD.out]; rfl, by rw [HR0.out.1, HST.out.1, HDD.out]; exact hF.out.1, hF.out.2.1⟩
          · have HC2 := Lib.hid (rcounter (D.tm + cost) false (decide_eq_false (by omega)).symm)
            have hE : D.stpE a = 11 := by unfold DD.stpE; rw [if_pos h1, if_pos h2, hcs.out, if_neg fun h => h4 h.2]
            have HR : Hid (D.stpD a = D ∧ D.stpO a = 0 ∧ D.stpE a = 11) := Lib.hid ⟨by unfold DD.stpD; rw [if_neg (by rw [hE]; decide)], by unfold DD.stpO; rw [if_neg (by rw [hE]; decide)], hE⟩
            clear h1 h2 h3 h4 hE hO hD3 hb hcost hco hcn1 hcn2 hL hbL b3 k1 k2 k3 k4 k7 k8 k9 k10 k11 k13
            go_wp2_with fail
            have hS7 : w3.drew.cell? ⟨w.heap.size, 12, none⟩ = some (.int .i64 D.sp) ∧ w3.drew.cell? ⟨w.heap.size, 14, none⟩ = some (.int .i64 D.tm) ∧ w3.drew.cell? ⟨w.heap.size, 6, none⟩ = some (.slice (some ⟨bL, oL, none⟩) H.l H.lc) ∧ w3.drew.cell? ⟨bL, oL + a, none⟩ = some (.int .i64 cost) := ⟨k12, k14, k6, hcL⟩
            refine wp_region_heldX (X := fun k => ([] : List Nat).contains k) (S := fun W => W.cell? ⟨w.heap.size, 12, none⟩ = some (.int .i64 D.sp) ∧ W.cell? ⟨w.heap.size, 14, none⟩ = some (.int .i64 D.tm) ∧ W.cell? ⟨w.heap.size, 6, none⟩ = some (.slice (some ⟨bL, oL, none⟩) H.l H.lc) ∧ W.cell? ⟨bL, oL + a, none⟩ = some (.int .i64 cost)) (by kernel_rfl) ?_
            refine wpAnyX_pure (i := 0) (v := ?_) rfl (by kernel_rfl) (by kernel_rfl) (by kernel_rfl) (fun _ _ _ h => h) (Or.inl ⟨by rfl, ?_⟩) ?_
            rotate_left
            · (intro W _; go_simp; try with_reducible rfl)
            (try simp only [Act.put, List.getElem_toArray, List.getElem_cons_zero, List.getElem_cons_succ, List.setIfInBounds_toArray, List.set_cons_zero, List.set_cons_succ])
            refine wpAnyX_takeL (L := []) (i := 1) (v := ?_) rfl (by kernel_rfl) (by kernel_rfl) (by kernel_rfl) (by kernel_rfl) (fun _ _ _ h => h) (Or.inl ⟨by rfl, ?_⟩) (hS7) ?_
            rotate_left
            · (intro W hSW; (try dsimp only at hSW); obtain ⟨z0, z1, z2, z3⟩ := hSW; go_simp; try with_reducible rfl)
            (try simp only [Act.put, List.getElem_toArray, List.getElem_cons_zero, List.getElem_cons_succ, List.setIfInBounds_toArray, List.set_cons_zero, List.set_cons_succ])
            refine wpAnyX_pure (i := 2) (v := ?_) rfl (by kernel_rfl) (by kernel_rfl) (by kernel_rfl) (fun _ _ _ h => h) (Or.inl ⟨by rfl, ?_⟩) ?_
            rotate_left
            · (intro W _; go_simp; try with_reducible rfl)
            (try simp only [Act.put, List.getElem_toArray, List.getElem_cons_zero, List.getElem_cons_succ, List.setIfInBounds_toArray, List.set_cons_zero, List.set_cons_succ])
            refine wpAnyX_one (i := 3) rfl (by kernel_rfl) (fun K hK => ?_)
            go_simp
            go_at_call 40
            refine (HC1.out _).mono ?_
            rintro e w9 ⟨rfl, rfl⟩
            refine hK.out _ _ (fun _ _ => hS7) ?_
            (try simp only [Act.put, List.getElem_toArray, List.getElem_cons_zero, List.getElem_cons_succ, List.setIfInBounds_toArray, List.set_cons_zero, List.set_cons_succ])
            refine wpAnyX_pure (i := 4) (v := ?_) rfl (by kernel_rfl) (by kernel_rfl) (by kernel_rfl) (fun _ _ _ h => h) (Or.inl ⟨by rfl, ?_⟩) ?_
            rotate_left
            · (intro W _; go_simp; try with_reducible rfl)
            (try simp only [Act.put, List.getElem_toArray, List.getElem_cons_zero, List.getElem_cons_succ, List.setIfInBounds_toArray, List.set_cons_zero, List.set_cons_succ])
            refine wpAnyX_pure (i := 5) (v := ?_) rfl (by kernel_rfl) (by kernel_rfl) (by kernel_rfl) (fun _ _ _ h => h) (Or.inl ⟨by rfl, ?_⟩) ?_
            rotate_left
            · (intro W _; go_simp; try with_reducible rfl)
            (try simp only [Act.put, List.getElem_toArray, List.getElem_cons_zero, List.getElem_cons_succ, List.setIfInBounds_toArray, List.set_cons_zero, List.set_cons_succ])
            refine wpAnyX_pure (i := 6) (v := ?_) rfl (by kernel_rfl) (by kernel_rfl) (by kernel_rfl) (fun _ _ _ h => h) (Or.inl ⟨by rfl, ?_⟩) ?_
            rotate_left
            · (intro W _; go_simp; try with_reducible rfl)
            (try simp only [Act.put, List.getElem_toArray, List.getElem_cons_zero, List.getElem_cons_succ, List.setIfInBounds_toArray, List.set_cons_zero, List.set_cons_succ])
            refine wpAnyX_takeL (L := []) (i := 7) (v := ?_) rfl (by kernel_rfl) (by kernel_rfl) (by kernel_rfl) (by kernel_rfl) (fun _ _ _ h => h) (Or.inl ⟨by rfl, ?_⟩) (hS7) ?_
            rotate_left
            · (intro W hSW; (try dsimp only at hSW); obtain ⟨z0, z1, z2, z3⟩ := hSW; go_simp; try with_reducible rfl)
            (try simp only [Act.put, List.getElem_toArray, List.getElem_cons_zero, List.getElem_cons_succ, List.setIfInBounds_toArray, List.set_cons_zero, List.set_cons_succ])
            refine wpAnyX_pure (i := 8) (v := ?_) rfl (by kernel_rfl) (by kernel_rfl) (by kernel_rfl) (fun _ _ _ h => h) (Or.inl ⟨by rfl, ?_⟩) ?_
            rotate_left
            · (intro W _; go_simp; try with_reducible rfl)
            (try simp only [Act.put, List.getElem_toArray, List.getElem_cons_zero, List.getElem_cons_succ, List.setIfInBounds_toArray, List.set_cons_zero, List.set_cons_succ])
            refine wpAnyX_pure (i := 9) (v := ?_) rfl (by kernel_rfl) (by kernel_rfl) (by kernel_rfl) (fun _ _ _ h => h) (Or.inl ⟨by rfl, ?_⟩) ?_
            rotate_left
            · (intro W _; go_simp; try with_reducible rfl)
            (try simp only [Act.put, List.getElem_toArray, List.getElem_cons_zero, List.getElem_cons_succ, List.setIfInBounds_toArray, List.set_cons_zero, List.set_cons_succ])
            refine wpAnyX_takeL (L := []) (i := 10) (v := ?_) rfl (by kernel_rfl) (by kernel_rfl) (by kernel_rfl) (by kernel_rfl) (fun _ _ _ h => h) (Or.inl ⟨by rfl, ?_⟩) (hS7) ?_
            rotate_left
            · (intro W hSW; (try dsimp only at hSW); obtain ⟨z0, z1, z2, z3⟩ := hSW; go_simp; try with_reducible rfl)
            (try simp only [Act.put, List.getElem_toArray, List.getElem_cons_zero, List.getElem_cons_succ, List.setIfInBounds_toArray, List.set_cons_zero, List.set_cons_succ])
            refine wpAnyX_pure (i := 11) (v := ?_) rfl (by kernel_rfl) (by kernel_rfl) (by kernel_rfl) (fun _ _ _ h => h) (Or.inl ⟨by rfl, ?_⟩) ?_
            rotate_left
            · (intro W _; go_simp; try with_reducible rfl)
            (try simp only [Act.put, List.getElem_toArray, List.getElem_cons_zero, List.getElem_cons_succ, List.setIfInBounds_toArray, List.set_cons_zero, List.set_cons_succ])
            refine wpAnyX_pure (i := 12) (v := ?_) rfl (by kernel_rfl) (by kernel_rfl) (by kernel_rfl) (fun _ _ _ h => h) (Or.inl ⟨by rfl, ?_⟩) ?_
            rotate_left
            · (intro W _; go_simp; try with_reducible rfl)
            (try simp only [Act.put, List.getElem_toArray, List.getElem_cons_zero, List.getElem_cons_succ, List.setIfInBounds_toArray, List.set_cons_zero, List.set_cons_succ])
            refine wpAnyX_takeL (L := []) (i := 13) (v := ?_) rfl (by kernel_rfl) (by kernel_rfl) (by kernel_rfl) (by kernel_rfl) (fun _ _ _ h => h) (Or.inl ⟨by rfl, ?_⟩) (hS7) ?_
            rotate_left
            · (intro W hSW; (try dsimp only at hSW); obtain ⟨z0, z1, z2, z3⟩ := hSW; go_simp; try with_reducible rfl)
            (try simp only [Act.put, List.getElem_toArray, List.getElem_cons_zero, List.getElem_cons_succ, List.setIfInBounds_toArray, List.set_cons_zero, List.set_cons_succ])
            refine wpAnyX_pure (i := 14) (v := ?_) rfl (by kernel_rfl) (by kernel_rfl) (by kernel_rfl) (fun _ _ _ h => h) (Or.inl ⟨by rfl, ?_⟩) ?_
            rotate_left
            · (intro W _; go_simp; try with_reducible rfl)
            (try simp only [Act.put, List.getElem_toArray, List.getElem_cons_zero, List.getElem_cons_succ, List.setIfInBounds_toArray, List.set_cons_zero, List.set_cons_succ])
            refine wpAnyX_one (i := 15) rfl (by kernel_rfl) (fun K hK => ?_)
            go_simp
            go_at_call 40
            refine (HC2.out _).mono ?_
            rintro e w9 ⟨rfl, rfl⟩
            refine hK.out _ _ (fun _ _ => hS7) ?_
            (try simp only [Act.put, List.getElem_toArray, List.getElem_cons_zero, List.getElem_cons_succ, List.setIfInBounds_toArray, List.set_cons_zero, List.set_cons_succ])
            refine wpAnyX_pure (i := 16) (v := ?_) rfl (by kernel_rfl) (by kernel_rfl) (by kernel_rfl) (fun _ _ _ h => h) (Or.inl ⟨by rfl, ?_⟩) ?_
            rotate_left
            · (intro W _; go_simp; try with_reducible rfl)
            (try simp only [Act.put, List.getElem_toArray, List.getElem_cons_zero, List.getElem_cons_succ, List.setIfInBounds_toArray, List.set_cons_zero, List.set_cons_succ])
            refine wpAnyX_pure (i := 17) (v := ?_) rfl (by kernel_rfl) (by kernel_rfl) (by kernel_rfl) (fun _ _ _ h => h) (Or.inl ⟨by rfl, ?_⟩) ?_
            rotate_left
            · (intro W _; go_simp; try with_reducible rfl)
            (try simp only [Act.put, List.getElem_toArray, List.getElem_cons_zero, List.getElem_cons_succ, List.setIfInBounds_toArray, List.set_cons_zero, List.set_cons_succ])
            refine wpAnyX_pure (i := 18) (v := ?_) rfl (by kernel_rfl) (by kernel_rfl) (by kernel_rfl) (fun _ _ _ h => h) (Or.inl ⟨by rfl, ?_⟩) ?_
            rotate_left
            · (intro W _; go_simp; try with_reducible rfl)
            (try simp only [Act.put, List.getElem_toArray, List.getElem_cons_zero, List.getElem_cons_succ, List.setIfInBounds_toArray, List.set_cons_zero, List.set_cons_succ])
            refine wpAnyX_done (by kernel_rfl) ?_ _
            have HZ3 := Lib.hid (HBZ.out _ HB3.out)
            have HK3 := Lib.hid (HBK.out _ HB3.out)
            have hF : Hid (DevR (w3.drew.setRow (w.heap.size + 1) (dvC D H)) D H ∧ Below w.heap.size w (w3.drew.setRow (w.heap.size + 1) (dvC D H)) ∧ Blk (w3.drew.setRow (w.heap.size + 1) (dvC D H)) (w.heap.size + 1) (dvC D H) 32) := Lib.hid (by
              have hb : Below w.heap.size w (w3.drew.setRow (w.heap.size + 1) (dvC D H)) := below_setRow (below_drewN (HB2.out.trans (HB3.out.mono HB2.out.size)) 1) (by omega) _
              exact ⟨HD0.out.below hb, hb, (show Blk w3.drew _ _ _ from HZ3.out).row _⟩)
            go_upto_region 8 with fail
            refine wp_region_list ?_
            refine wpList_load_row rfl 32 _ rfl w.heap.size rfl 32 (dvC D H) (0, 0) _ HK3.out Try.underlying32 rfl (by rw [HSZ.out]; kernel_rfl) ?_
            go_wp2_with (refine wpList_store_row rfl 32 _ _ rfl (w.heap.size + 1) (dvC D H) rfl rfl 32 zcD HZ3.out (by rw [HSZ.out]; kernel_rfl) (by rw [HSZ.out]; rfl) (dvC_one _ _) ?_)
            refine bodyPost_ret (results_dev3 (by rfl) _ _ (w.heap.size + 1) (dvC D H) (HSZ.out _ _) rfl hF.out.2.2) rfl ⟨by rw [HR0.out.1, HR0.out.2.1, HR0.out.2.2, HR.out.1, HR.out.2.1, HR.out.2.2]; rfl, by rw [HR0.out.1, HR.out.1]; exact hF.out.1, hF.out.2.1⟩
        · have HC1 := Lib.hid (rcounter (D.sp + 1) false (decide_eq_false (by omega)).symm)
          have hE : D.stpE a = 11 := by unfold DD.stpE; rw [if_pos h1, if_pos h2, if_neg fun h => h3 h.1]
          have HR : Hid (D.stpD a = D ∧ D.stpO a = 0 ∧ D.stpE a = 11) := Lib.hid ⟨by unfold DD.stpD; rw [if_neg (by rw [hE]; decide)], by unfold DD.stpO; rw [if_neg (by rw [hE]; decide)], hE⟩
          clear h1 h2 h3 hE hO hD3 hb hcost hco hcn1 hcn2 hL hbL b3 k1 k2 k3 k4 k7 k8 k9 k10 k11 k13
          go_wp2_with fail
          have hS7 : w3.drew.cell? ⟨w.heap.size, 12, none⟩ = some (.int .i64 D.sp) ∧ w3.drew.cell? ⟨w.heap.size, 14, none⟩ = some (.int .i64 D.tm) ∧ w3.drew.cell? ⟨w.heap.size, 6, none⟩ = some (.slice (some ⟨bL, oL, none⟩) H.l H.lc) ∧ w3.drew.cell? ⟨bL, oL + a, none⟩ = some (.int .i64 cost) := ⟨k12, k14, k6, hcL⟩
          refine wp_region_heldX (X := fun k => ([] : List Nat).contains k) (S := fun W => W.cell? ⟨w.heap.size, 12, none⟩ = some (.int .i64 D.sp) ∧ W.cell? ⟨w.heap.size, 14, none⟩ = some (.int .i64 D.tm) ∧ W.cell? ⟨w.heap.size, 6, none⟩ = some (.slice (some ⟨bL, oL, none⟩) H.l H.lc) ∧ W.cell? ⟨bL, oL + a, none⟩ = some (.int .i64 cost)) (by kernel_rfl) ?_
          refine wpAnyX_pure (i := 0) (v := ?_) rfl (by kernel_rfl) (by kernel_rfl) (by kernel_rfl) (fun _ _ _ h => h) (Or.inl ⟨by rfl, ?_⟩) ?_
          rotate_left
          · (intro W _; go_simp; try with_reducible rfl)
          (try simp only [Act.put, List.getElem_toArray, List.getElem_cons_zero, List.getElem_cons_succ, List.setIfInBounds_toArray, List.set_cons_zero, List.set_cons_succ])
          refine wpAnyX_takeL (L := []) (i := 1) (v := ?_) rfl (by kernel_rfl) (by kernel_rfl) (by kernel_rfl) (by kernel_rfl) (fun _ _ _ h => h) (Or.inl ⟨by rfl, ?_⟩) (hS7) ?_
          rotate_left
          · (intro W hSW; (try dsimp only at hSW); obtain ⟨z0, z1, z2, z3⟩ := hSW; go_simp; try with_reducible rfl)
          (try simp only [Act.put, List.getElem_toArray, List.getElem_cons_zero, List.getElem_cons_succ, List.setIfInBounds_toArray, List.set_cons_zero, List.set_cons_succ])
          refine wpAnyX_pure (i := 2) (v := ?_) rfl (by kernel_rfl) (by kernel_rfl) (by kernel_rfl) (fun _ _ _ h => h) (Or.inl ⟨by rfl, ?_⟩) ?_
          rotate_left
          · (intro W _; go_simp; try with_reducible rfl)
          (try simp only [Act.put, List.getElem_toArray, List.getElem_cons_zero, List.getElem_cons_succ, List.setIfInBounds_toArray, List.set_cons_zero, List.set_cons_succ])
          refine wpAnyX_one (i := 3) rfl (by kernel_rfl) (fun K hK => ?_)
          go_simp
          go_at_call 40
          refine (HC1.out _).mono ?_
          rintro e w9 ⟨rfl, rfl⟩
          refine hK.out _ _ (fun _ _ => hS7) ?_
          (try simp only [Act.put, List.getElem_toArray, List.getElem_cons_zero, List.getElem_cons_succ, List.setIfInBounds_toArray, List.set_cons_zero, List.set_cons_succ])
          refine wpAnyX_pure (i := 4) (v := ?_) rfl (by kernel_rfl) (by kernel_rfl) (by kernel_rfl) (fun _ _ _ h => h) (Or.inl ⟨by rfl, ?_⟩) ?_
          rotate_left
          · (intro W _; go_simp; try with_reducible rfl)
          (try simp only [Act.put, List.getElem_toArray, List.getElem_cons_zero, List.getElem_cons_succ, List.setIfInBounds_toArray, List.set_cons_zero, List.set_cons_succ])
          refine wpAnyX_pure (i := 5) (v := ?_) rfl (by kernel_rfl) (by kernel_rfl) (by kernel_rfl) (fun _ _ _ h => h) (Or.inl ⟨by rfl, ?_⟩) ?_
          rotate_left
          · (intro W _; go_simp; try with_reducible rfl)
          (try simp only [Act.put, List.getElem_toArray, List.getElem_cons_zero, List.getElem_cons_succ, List.setIfInBounds_toArray, List.set_cons_zero, List.set_cons_succ])
          refine wpAnyX_pure (i := 6) (v := undef) rfl (by kernel_rfl) (by kernel_rfl) (by kernel_rfl) (fun _ _ _ h => h) (Or.inr ⟨by rfl, rfl⟩) ?_
          (try simp only [Act.put, List.getElem_toArray, List.getElem_cons_zero, List.getElem_cons_succ, List.setIfInBounds_toArray, List.set_cons_zero, List.set_cons_succ])
          refine wpAnyX_pure (i := 7) (v := undef) rfl (by kernel_rfl) (by kernel_rfl) (by kernel_rfl) (fun _ _ _ h => h) (Or.inr ⟨by rfl, rfl⟩) ?_
          (try simp only [Act.put, List.getElem_toArray, List.getElem_cons_zero, List.getElem_cons_succ, List.setIfInBounds_toArray, List.set_cons_zero, List.set_cons_succ])
          refine wpAnyX_pure (i := 8) (v := undef) rfl (by kernel_rfl) (by kernel_rfl) (by kernel_rfl) (fun _ _ _ h => h) (Or.inr ⟨by rfl, rfl⟩) ?_
          (try simp only [Act.put, List.getElem_toArray, List.getElem_cons_zero, List.getElem_cons_succ, List.setIfInBounds_toArray, List.set_cons_zero, List.set_cons_succ])
          refine wpAnyX_pure (i := 9) (v := undef) rfl (by kernel_rfl) (by kernel_rfl) (by kernel_rfl) (fun _ _ _ h => h) (Or.inr ⟨by rfl, rfl⟩) ?_
          (try simp only [Act.put, List.getElem_toArray, List.getElem_cons_zero, List.getElem_cons_succ, List.setIfInBounds_toArray, List.set_cons_zero, List.set_cons_succ])
          refine wpAnyX_pure (i := 10) (v := undef) rfl (by kernel_rfl) (by kernel_rfl) (by kernel_rfl) (fun _ _ _ h => h) (Or.inr ⟨by rfl, rfl⟩) ?_
          (try simp only [Act.put, List.getElem_toArray, List.getElem_cons_zero, List.getElem_cons_succ, List.setIfInBounds_toArray, List.set_cons_zero, List.set_cons_succ])
          refine wpAnyX_pure (i := 11) (v := undef) rfl (by kernel_rfl) (by kernel_rfl) (by kernel_rfl) (fun _ _ _ h => h) (Or.inr ⟨by rfl, rfl⟩) ?_
          (try simp only [Act.put, List.getElem_toArray, List.getElem_cons_zero, List.getElem_cons_succ, List.setIfInBounds_toArray, List.set_cons_zero, List.set_cons_succ])
          refine wpAnyX_pure (i := 12) (v := undef) rfl (by kernel_rfl) (by kernel_rfl) (by kernel_rfl) (fun _ _ _ h => h) (Or.inr ⟨by rfl, rfl⟩) ?_
          (try simp only [Act.put, List.getElem_toArray, List.getElem_cons_zero, List.getElem_cons_succ, List.setIfInBounds_toArray, List.set_cons_zero, List.set_cons_succ])
          refine wpAnyX_pure (i := 13) (v := undef) rfl (by kernel_rfl) (by kernel_rfl) (by kernel_rfl) (fun _ _ _ h => h) (Or.inr ⟨by rfl, rfl⟩) ?_
          (try simp only [Act.put, List.getElem_toArray, List.getElem_cons_zero, List.getElem_cons_succ, List.setIfInBounds_toArray, List.set_cons_zero, List.set_cons_succ])
          refine wpAnyX_pure (i := 14) (v := undef) rfl (by kernel_rfl) (by kernel_rfl) (by kernel_rfl) (fun _ _ _ h => h) (Or.inr ⟨by rfl, rfl⟩) ?_
          (try simp only [Act.put, List.getElem_toArray, List.getElem_cons_zero, List.getElem_cons_succ, List.setIfInBounds_toArray, List.set_cons_zero, List.set_cons_succ])
          refine wpAnyX_pure (i := 15) (v := undef) rfl (by kernel_rfl) (by kernel_rfl) (by kernel_rfl) (fun _ _ _ h => h) (Or.inr ⟨by rfl, rfl⟩) ?_
          (try simp only [Act.put, List.getElem_toArray, List.getElem_cons_zero, List.getElem_cons_succ, List.setIfInBounds_toArray, List.set_cons_zero, List.set_cons_succ])
          refine wpAnyX_pure (i := 16) (v := undef) rfl (by kernel_rfl) (by kernel_rfl) (by kernel_rfl) (fun _ _ _ h => h) (Or.inr ⟨by rfl, rfl⟩) ?_
          (try simp only [Act.put, List.getElem_toArray, List.getElem_cons_zero, List.getElem_cons_succ, List.setIfInBounds_toArray, List.set_cons_zero, List.set_cons_succ])
          refine wpAnyX_pure (i := 17) (v := ?_) rfl (by kernel_rfl) (by kernel_rfl) (by kernel_rfl) (fun _ _ _ h => h) (Or.inl ⟨by rfl, ?_⟩) ?_
          rotate_left
          · (intro W _; go_simp; try with_reducible rfl)
          (try simp only [Act.put, List.getElem_toArray, List.getElem_cons_zero, List.getElem_cons_succ, List.setIfInBounds_toArray, List.set_cons_zero, List.set_cons_succ])
          refine wpAnyX_pure (i := 18) (v := ?_) rfl (by kernel_rfl) (by kernel_rfl) (by kernel_rfl) (fun _ _ _ h => h) (Or.inl ⟨by rfl, ?_⟩) ?_
          rotate_left
          · (intro W _; go_simp; try with_reducible rfl)
          (try simp only [Act.put, List.getElem_toArray, List.getElem_cons_zero, List.getElem_cons_succ, List.setIfInBounds_toArray, List.set_cons_zero, List.set_cons_succ])
          refine wpAnyX_done (by kernel_rfl) ?_ _
          have HZ3 := Lib.hid (HBZ.out _ HB3.out)
          have HK3 := Lib.hid (HBK.out _ HB3.out)
          have hF : Hid (DevR (w3.drew.setRow (w.heap.size + 1) (dvC D H)) D H ∧ Below w.heap.size w (w3.drew.setRow (w.heap.size + 1) (dvC D H)) ∧ Blk (w3.drew.setRow (w.heap.size + 1) (dvC D H)) (w.heap.size + 1) (dvC D H) 32) := Lib.hid (by
            have hb : Below w.heap.size w (w3.drew.setRow (w.heap.size + 1) (dvC D H)) := below_setRow (below_drewN (HB2.out.trans (HB3.out.mono HB2.out.size)) 1) (by omega) _
            exact ⟨HD0.out.below hb, hb, (show Blk w3.drew _ _ _ from HZ3.out).row _⟩)
          go_upto_region 8 with fail
          refine wp_region_list ?_
          refine wpList_load_row rfl 32 _ rfl w.heap.size rfl 32 (dvC D H) (0, 0) _ HK3.out Try.underlying32 rfl (by rw [HSZ.out]; kernel_rfl) ?_
          go_wp2_with (refine wpList_store_row rfl 32 _ _ rfl (w.heap.size + 1) (dvC D H) rfl rfl 32 zcD HZ3.out (by rw [HSZ.out]; kernel_rfl) (by rw [HSZ.out]; rfl) (dvC_one _ _) ?_)
          refine bodyPost_ret (results_dev3 (by rfl) _ _ (w.heap.size + 1) (dvC D H) (HSZ.out _ _) rfl hF.out.2.2) rfl ⟨by rw [HR0.out.1, HR0.out.2.1, HR0.out.2.2, HR.out.1, HR.out.2.1, HR.out.2.2]; rfl, by rw [HR0.out.1, HR.out.1]; exact hF.out.1, hF.out.2.1⟩
      · have hE : D.stpE av = 2 := by unfold DD.stpE; rw [if_pos h1, if_neg h2]
        have HR : Hid (D.stpD av = D ∧ D.stpO av = 0 ∧ D.stpE av = 2) := Lib.hid ⟨by unfold DD.stpD; rw [if_neg (by rw [hE]; decide)], by unfold DD.stpO; rw [if_neg (by rw [hE]; decide)], hE⟩
        by_cases h5 : av < 0
        · have d1 : decide (av < (0 : Int)) = true := decide_eq_true h5
          clear h1 h2 h5 hE hO hb b3
          have HZ3 := Lib.hid (HBZ.out _ HB3.out)
          have HK3 := Lib.hid (HBK.out _ HB3.out)
          have hF : Hid (DevR (w3.setRow (w.heap.size + 1) (dvC D H)) D H ∧ Below w.heap.size w (w3.setRow (w.heap.size + 1) (dvC D H)) ∧ Blk (w3.setRow (w.heap.size + 1) (dvC D H)) (w.heap.size + 1) (dvC D H) 32) := Lib.hid (by
            have hb : Below w.heap.size w (w3.setRow (w.heap.size + 1) (dvC D H)) := below_setRow (HB2.out.trans (HB3.out.mono HB2.out.size)) (by omega) _
            exact ⟨HD0.out.below hb, hb, HZ3.out.row _⟩)
          clear k1 k2 k3 k4 k6 k7 k8 k9 k10 k11 k12 k13 k14
          go_upto_region 6 with fail
          refine wp_region_list ?_
          refine wpList_load_row rfl 32 _ rfl w.heap.size rfl 32 (dvC D H) (0, 0) _ HK3.out Try.underlying32 rfl (by rw [HSZ.out]; kernel_rfl) ?_
          go_wp2_with (refine wpList_store_row rfl 32 _ _ rfl (w.heap.size + 1) (dvC D H) rfl rfl 32 zcD HZ3.out (by rw [HSZ.out]; kernel_rfl) (by rw [HSZ.out]; rfl) (dvC_one _ _) ?_)
          refine bodyPost_ret (results_dev3 (by rfl) _ _ (w.heap.size + 1) (dvC D H) (HSZ.out _ _) rfl hF.out.2.2) rfl ⟨by rw [HR0.out.1, HR0.out.2.1, HR0.out.2.2, HR.out.1, HR.out.2.1, HR.out.2.2]; rfl, by rw [HR0.out.1, HR.out.1]; exact hF.out.1, hF.out.2.1⟩
        · have d1 : decide (av < (0 : Int)) = false := decide_eq_false h5
          have d2 : decide (D.i ≤ av) = true := decide_eq_true (by omega)
          clear h1 h2 h5 hE hO hb b3
          have HZ3 := Lib.hid (HBZ.out _ HB3.out)
          have HK3 := Lib.hid (HBK.out _ HB3.out)
          have hF : Hid (DevR (w3.setRow (w.heap.size + 1) (dvC D H)) D H ∧ Below w.heap.size w (w3.setRow (w.heap.size + 1) (dvC D H)) ∧ Blk (w3.setRow (w.heap.size + 1) (dvC D H)) (w.heap.size + 1) (dvC D H) 32) := Lib.hid (by
            have hb : Below w.heap.size w (w3.setRow (w.heap.size + 1) (dvC D H)) := below_setRow (HB2.out.trans (HB3.out.mono HB2.out.size)) (by omega) _
            exact ⟨HD0.out.below hb, hb, HZ3.out.row _⟩)
          clear k1 k2 k3 k4 k6 k7 k8 k9 k10 k11 k12 k13 k14
          go_upto_region 6 with fail
          refine wp_region_list ?_
          refine wpList_load_row rfl 32 _ rfl w.heap.size rfl 32 (dvC D H) (0, 0) _ HK3.out Try.underlying32 rfl (by rw [HSZ.out]; kernel_rfl) ?_
          go_wp2_with (refine wpList_store_row rfl 32 _ _ rfl (w.heap.size + 1) (dvC D H) rfl rfl 32 zcD HZ3.out (by rw [HSZ.out]; kernel_rfl) (by rw [HSZ.out]; rfl) (dvC_one _ _) ?_)
          refine bodyPost_ret (results_dev3 (by rfl) _ _ (w.heap.size + 1) (dvC D H) (HSZ.out _ _) rfl hF.out.2.2) rfl ⟨by rw [HR0.out.1, HR0.out.2.1, HR0.out.2.2, HR.out.1, HR.out.2.1, HR.out.2.2]; rfl, by rw [HR0.out.1, HR.out.1]; exact hF.out.1, hF.out.2.1⟩
    · have hE : D.stpE av = 10 := by unfold DD.stpE; rw [if_neg h1]
      have HR : Hid (D.stpD av = D ∧ D.stpO av = 0 ∧ D.stpE av = 10) := Lib.hid ⟨by unfold DD.stpD; rw [if_neg (by rw [hE]; decide)], by unfold DD.stpO; rw [if_neg (by rw [hE]; decide)], hE⟩
      have h1 : D.rdy = false := by simpa using h1
      rw [h1] at k5
      clear h1 hE hO hb b3
      have HZ3 := Lib.hid (HBZ.out _ HB3.out)
      have HK3 := Lib.hid (HBK.out _ HB3.out)
      have hF : Hid (DevR (w3.setRow (w.heap.size + 1) (dvC D H)) D H ∧ Below w.heap.size w (w3.setRow (w.heap.size + 1) (dvC D H)) ∧ Blk (w3.setRow (w.heap.size + 1) (dvC D H)) (w.heap.size + 1) (dvC D H) 32) := Lib.hid (by
        have hb : Below w.heap.size w (w3.setRow (w.heap.size + 1) (dvC D H)) := below_setRow (HB2.out.trans (HB3.out.mono HB2.out.size)) (by omega) _
        exact ⟨HD0.out.below hb, hb, HZ3.out.row _⟩)
      clear k0 k1 k2 k3 k4 k6 k7 k8 k9 k10 k11 k12 k13 k14
      go_upto_region 4 with fail
      refine wp_region_list ?_
      refine wpList_load_row rfl 32 _ rfl w.heap.size rfl 32 (dvC D H) (0, 0) _ HK3.out Try.underlying32 rfl (by rw [HSZ.out]; kernel_rfl) ?_
      go_wp2_with (refine wpList_store_row rfl 32 _ _ rfl (w.heap.size + 1) (dvC D H) rfl rfl 32 zcD HZ3.out (by rw [HSZ.out]; kernel_rfl) (by rw [HSZ.out]; rfl) (dvC_one _ _) ?_)
      refine bodyPost_ret (results_dev3 (by rfl) _ _ (w.heap.size + 1) (dvC D H) (HSZ.out _ _) rfl hF.out.2.2) rfl ⟨by rw [HR0.out.1, HR0.out.2.1, HR0.out.2.2, HR.out.1, HR.out.2.1, HR.out.2.2]; rfl, by rw [HR0.out.1, HR.out.1]; exact hF.out.1, hF.out.2.1⟩
  · have HR : Hid (D.stepD av = D ∧ D.stepO av = 0 ∧ D.stepE av = D.err) := Lib.hid ⟨by unfold DD.stepD; rw [if_neg h0], by unfold DD.stepO; rw [if_neg h0], by unfold DD.stepE; rw [if_neg h0]⟩
    obtain ⟨v, hv⟩ : ∃ v, v = D.err := ⟨_, rfl⟩
    rw [← hv] at h0 HR HV ⊢
    have hne : (v != 0) = true := by simpa using h0
    clear h0 hv hszD b3
    go_wp2_with fail
    have hbf : Below w2.heap.size w2 w3.drew := bt HB3.out (below_drewN (Below.refl _ _) 1)
    refine wp_region_heldX (X := fun k => ([] : List Nat).contains k) (S := fun W => W.cell? ⟨w.heap.size, 0, none⟩ = some (.int .i64 D.i) ∧ W.cell? ⟨w.heap.size, 1, none⟩ = some (.int .i64 D.st) ∧ W.cell? ⟨w.heap.size, 2, none⟩ = some (.slice H.A H.n H.c) ∧ W.cell? ⟨w.heap.size, 3, none⟩ = some (.slice H.B H.m H.d) ∧ W.cell? ⟨w.heap.size, 4, none⟩ = some (.int .i64 D.s) ∧ W.cell? ⟨w.heap.size, 5, none⟩ = some (.bool D.rdy) ∧ W.cell? ⟨w.heap.size, 6, none⟩ = some (.slice H.L H.l H.lc) ∧ W.cell? ⟨w.heap.size, 7, none⟩ = some (.int .i64 D.rc) ∧ W.cell? ⟨w.heap.size, 8, none⟩ = some (.int .i64 D.f1) ∧ W.cell? ⟨w.heap.size, 9, none⟩ = some (.int .i64 D.f2) ∧ W.cell? ⟨w.heap.size, 10, none⟩ = some (.int .i64 D.f3) ∧ W.cell? ⟨w.heap.size, 11, none⟩ = some (.int .u64 (D.sd : Int)) ∧ W.cell? ⟨w.heap.size, 12, none⟩ = some (.int .i64 D.sp) ∧ W.cell? ⟨w.heap.size, 13, none⟩ = some (.int .i64 D.rs) ∧ W.cell? ⟨w.heap.size, 14, none⟩ = some (.int .i64 D.tm)) (by kernel_rfl) ?_
    refine wpAnyX_takeL (L := []) (i := 0) (v := ?_) rfl (by kernel_rfl) (by kernel_rfl) (by kernel_rfl) (by kernel_rfl) (fun _ _ _ h => h) (Or.inl ⟨by rfl, ?_⟩) (HS.out _ hbf) ?_
    rotate_left
    · (intro W hSW; (try dsimp only at hSW); obtain ⟨z0, z1, z2, z3, z4, z5, z6, z7, z8, z9, z10, z11, z12, z13, z14⟩ := hSW; go_simp; try with_reducible rfl)
    (try simp only [Act.put, List.getElem_toArray, List.getElem_cons_zero, List.getElem_cons_succ, List.setIfInBounds_toArray, List.set_cons_zero, List.set_cons_succ])
    refine wpAnyX_takeL (L := []) (i := 1) (v := ?_) rfl (by kernel_rfl) (by kernel_rfl) (by kernel_rfl) (by kernel_rfl) (fun _ _ _ h => h) (Or.inl ⟨by rfl, ?_⟩) (HS.out _ hbf) ?_
    rotate_left
    · (intro W hSW; (try dsimp only at hSW); obtain ⟨z0, z1, z2, z3, z4, z5, z6, z7, z8, z9, z10, z11, z12, z13, z14⟩ := hSW; go_simp; try with_reducible rfl)
    (try simp only [Act.put, List.getElem_toArray, List.getElem_cons_zero, List.getElem_cons_succ, List.setIfInBounds_toArray, List.set_cons_zero, List.set_cons_succ])
    refine wpAnyX_one (i := 2) rfl (by kernel_rfl) (fun K hK => ?_)
    go_simp
    go_at_call 16
    refine (HV.out _ rfl _ hbf).mono ?_
    rintro e w5 ⟨rfl, b5⟩
    have hbf := bt hbf b5
    have HBF := Lib.hid hbf
    refine hK.out _ _ (fun _ _ => HS.out _ hbf) ?_
    clear b5
    (try simp only [Act.put, List.getElem_toArray, List.getElem_cons_zero, List.getElem_cons_succ, List.setIfInBounds_toArray, List.set_cons_zero, List.set_cons_succ])
    refine wpAnyX_one (i := 3) rfl (by kernel_rfl) (fun K hK => ?_)
    refine wp_store_row 32 _ _ rfl (w.heap.size + 1) (dvC D H) rfl rfl 32 zcD (HBZ.out _ HBF.out) (by rw [HSZ.out]; kernel_rfl) (by rw [HSZ.out]; rfl) (dvC_one _ _) (hK.out _ _ (fun _ _ => (by have := ((HBK.out _ HBF.out).rowOther (g' := w.heap.size + 1) (by omega) (dvC D H)).dev; unfold DevC at this; exact this)) ?_)
    (try simp only [Act.put, List.getElem_toArray, List.getElem_cons_zero, List.getElem_cons_succ, List.setIfInBounds_toArray, List.set_cons_zero, List.set_cons_succ])
    refine wpAnyX_pure (i := 4) (v := ?_) rfl (by kernel_rfl) (by kernel_rfl) (by kernel_rfl) (fun _ _ _ h => h) (Or.inl ⟨by rfl, ?_⟩) ?_
    rotate_left
    · (intro W _; go_simp; try with_reducible rfl)
    (try simp only [Act.put, List.getElem_toArray, List.getElem_cons_zero, List.getElem_cons_succ, List.setIfInBounds_toArray, List.set_cons_zero, List.set_cons_succ])
    refine wpAnyX_pure (i := 5) (v := ?_) rfl (by kernel_rfl) (by kernel_rfl) (by kernel_rfl) (fun _ _ _ h => h) (Or.inl ⟨by rfl, ?_⟩) ?_
    rotate_left
    · (intro W _; go_simp; try with_reducible rfl)
    (try simp only [Act.put, List.getElem_toArray, List.getElem_cons_zero, List.getElem_cons_succ, List.setIfInBounds_toArray, List.set_cons_zero, List.set_cons_succ])
    refine wpAnyX_done (by kernel_rfl) ?_ _
    have hF : Hid (DevR (w5.setRow (w.heap.size + 1) (dvC D H)) D H ∧ Below w.heap.size w (w5.setRow (w.heap.size + 1) (dvC D H)) ∧ Blk (w5.setRow (w.heap.size + 1) (dvC D H)) (w.heap.size + 1) (dvC D H) 32) := Lib.hid (by
      have hb : Below w.heap.size w (w5.setRow (w.heap.size + 1) (dvC D H)) := below_setRow (HB2.out.trans (HBF.out.mono HB2.out.size)) (by omega) _
      exact ⟨HD0.out.below hb, hb, (HBZ.out _ HBF.out).row _⟩)
    go_wp2
    refine bodyPost_ret (results_dev3 (by rfl) _ _ (w.heap.size + 1) (dvC D H) (HSZ.out _ _) rfl hF.out.2.2) rfl ⟨by rw [HR.out.1, HR.out.2.1, HR.out.2.2]; rfl, by rw [HR.out.1]; exact hF.out.1, hF.out.2.1⟩
end Go.Proofs.Ytcoihbpadbnilaa
end

section
/- device, the reference: Query. -/
namespace Go.Proofs.Ytcoihbpadbnilaa
open Go.RowKit

/-- The two boxes of the reference's Query. -/
structure RB (w wr : World) (D : DD) (H : DH) : Prop where
  below : Below w.heap.size w wr
  box : Blk wr w.heap.size (dvC D H) 32
  res : Blk wr (w.heap.size + 1) zcD 32
  size : w.heap.size + 1 + 1 ≤ wr.heap.size
theorem RB.on {w wr w' : World} {D : DD} {H : DH} (h : RB w wr D H) (hb : Below wr.heap.size wr w') : RB w w' D H := ⟨bt h.below hb, h.box.on hb, h.res.on hb, Nat.le_trans h.size hb.size⟩
theorem RB.grow {w wr w' : World} {D : DD} {H : DH} (h : RB w wr D H) (hb : Below (w.heap.size + 1 + 1) wr w') : RB w w' D H := ⟨h.below.trans (hb.mono (by omega)), h.box.kept hb (by omega), h.res.kept hb (by omega), Nat.le_trans h.size hb.size⟩
theorem RB.drew {w wr : World} {D : DD} {H : DH} (h : RB w wr D H) (q : Nat) : RB w (wr.drewN q) D H := h.on (below_drewN (Below.refl _ _) q)
theorem RB.drew1 {w wr : World} {D : DD} {H : DH} (h : RB w wr D H) : RB w wr.drew D H := h.drew 1
theorem RB.put {w wr : World} {D : DD} {H : DH} (h : RB w wr D H) (D2 : DD) : RB w (wr.setRow w.heap.size (dvC D2 H)) D2 H := ⟨below_setRow h.below (Nat.le_refl _) _, h.box.row _, h.res.rowOther (by omega) _, by simp; exact h.size⟩
theorem RB.fin {w wr : World} {D : DD} {H : DH} (h : RB w wr D H) : Below w.heap.size w (wr.setRow (w.heap.size + 1) (dvC D H)) := below_setRow h.below (by omega) _

theorem stpD_err {D : DD} {x : Int} (h : ¬ D.stpE x = 0) : D.stpD x = D := by unfold DD.stpD; rw [if_neg h]

set_option linter.unusedSimpArgs false in
set_option maxHeartbeats 16000000 in
set_option maxRecDepth 100000 in
theorem rdquery (D : DD) (H : DH) (X : Option Addr) (k cx : Nat) (xs : List Int) (w : World) (hD : DevR w D H) (hX : Ints w X k xs) (hs : D.sd < 18446744073709551616) :
    Calls Try.prog 22 #[dvA D H, .slice X k cx] w fun e w' => ∃ A' c', e = .returned (.tuple #[dvA (D.query xs).1 H, .slice A' (D.query xs).2.1.length c', .int .i64 (D.query xs).2.2]) ∧ Owned w' w.heap.size (.slice A' (D.query xs).2.1.length c') (D.query xs).2.1 ∧ DevR w' (D.query xs).1 H ∧ Below w.heap.size w w' := by
  obtain ⟨w1, hw1⟩ : ∃ w1, w1 = w.alloc (.cells (dvC D H) 32) := ⟨_, rfl⟩
  obtain ⟨w2, hw2⟩ : ∃ w2, w2 = w1.alloc (.cells zcD 32) := ⟨_, rfl⟩
  have b1 : Below w.heap.size w w1 := by rw [hw1]; exact alloc_below _ _
  have z1 : w1.heap.size = w.heap.size + 1 := by rw [hw1]; simp
  have b2 : Below w1.heap.size w1 w2 := by rw [hw2]; exact alloc_below _ _
  have z2 : w2.heap.size = w.heap.size + 1 + 1 := by rw [hw2]; simp [z1]
  have m1 : Blk w1 w.heap.size (dvC D H) 32 := by rw [hw1]; exact blk_new _ _ _
  have m2 : Blk w2 (w.heap.size + 1) zcD 32 := by rw [hw2, ← z1]; exact blk_new _ _ _
  have b12 := bt b1 b2
  have HB2 := Lib.hid b12
  have HBK := Lib.hid (fun (W : World) (h : Below w2.heap.size w2 W) => (m1.on b2).on h)
  have HBZ := Lib.hid (fun (W : World) (h : Below w2.heap.size w2 W) => m2.on h)
  have HD := Lib.hid (fun (W : World) (h : Below w2.heap.size w2 W) => (hD.below b12).below h)
  have HD0 := Lib.hid hD
  have HX0 := Lib.hid hX
  have HX := Lib.hid (fun (W : World) (h : Below w2.heap.size w2 W) => (hX.below b12).below h)
  have HV := Lib.hid (fun (r : Int) (hr : r = D.err) (W : World) (h : Below w2.heap.size w2 W) => rdvalid D H r W ((hD.below b12).below h) hr)
  have HS := Lib.hid (fun (W : World) (h : Below w2.heap.size w2 W) => (HBK.out W h).dev)
  unfold DevC at HS
  rw [hw1] at hw2
  have HW2 := Lib.hid hw2
  have hbk := m1.on b2
  rw [hw2] at hbk
  have HBW := Lib.hid hbk
  clear hw1 hw2 b1 b2 m1 m2 b12 hD hX hbk
  have hszD : ∀ D H, (dvC D H).size = 15 := fun _ _ => rfl
  have HSZ := Lib.hid hszD
  unfold dvA
  unfold dvA at HV
  unfold zcD at HBW HW2
  go_enter Try.func22, Try.ntmps22
  go_wp2_with (refine wpList_load_row rfl 32 _ rfl w.heap.size rfl 32 (dvC D H) (0, 0) _ HBW.out Try.underlying32 rfl (by rw [HSZ.out]; kernel_rfl) ?_)
  rw [← HW2.out]
  refine (HV.out _ rfl _ (Below.refl _ _)).mono ?_
  rintro e w3 ⟨rfl, b3⟩
  have HB3 := Lib.hid b3
  have hRB3 : RB w w3 D H := ⟨HB2.out.trans (b3.mono HB2.out.size), HBK.out _ b3, HBZ.out _ b3, by have := b3.size; omega⟩
  have HRB3 := Lib.hid hRB3
  clear hRB3
  by_cases h0 : D.err = 0
  · obtain ⟨i, st, n, hO⟩ := DD.err_zero h0 hs
    have HR0 : Hid (D.query xs = if chk xs D.i = 0 then D.qry xs else (D, [], chk xs D.i)) := Lib.hid (by unfold DD.query; rw [if_pos h0])
    rw [h0]
    obtain ⟨k0, _⟩ := HS.out _ b3
    have HO := Lib.hid hO
    have HSD := Lib.hid hs
    clear h0 hszD b3 hO hs
    go_wp2_with fail
    refine (rcheck X k cx D.i xs _ (HX.out _ HB3.out)).mono ?_
    rintro e w4 ⟨rfl, rfl⟩
    by_cases hc : chk xs D.i = 0
    · have HR1 : Hid (D.query xs = D.qry xs) := Lib.hid (by rw [HR0.out, if_pos hc])
      have hk : k ≤ 1024 := by have h := (chk_zero hc).2.2.1; rw [HX0.out.1] at h; exact h
      rw [hc]
      clear hc HR0 k0
      go_upto_region 6 with fail
      refine wp_region_list ?_
      refine wpList_load_row rfl 32 _ rfl w.heap.size rfl 32 (dvC D H) (0, 0) _ HRB3.out.box Try.underlying32 rfl (by rw [HSZ.out]; kernel_rfl) ?_
      have hE0 := HO.out.err
      by_cases hcr : D.canR
      · have HRS : Hid (∀ (W : World), DevR W D H → Calls Try.prog 18 #[.agg (dvC D H)] W fun e w' => e = .returned (.tuple #[.agg (dvC D.rst H), .int .i64 0]) ∧ DevR w' D.rst H ∧ Below W.heap.size W w') := Lib.hid (fun W hW => by
          have h := rdreset D H W hW HSD.out
          unfold DD.resetD DD.resetE DD.rstD DD.rstE at h
          rw [if_pos hE0, if_pos hE0, if_pos hcr, if_pos hcr] at h
          exact h)
        have HQ : Hid (D.query xs = qgo D.rst xs []) := Lib.hid (by rw [HR1.out]; unfold DD.qry; rw [if_pos hcr])
        have HO1 := Lib.hid (HO.out.rst hcr)
        clear hcr hE0 HR1
        go_wp2_with fail
        refine (HRS.out _ (HD.out _ HB3.out)).mono ?_
        rintro e w5 ⟨rfl, -, b5⟩
        have HRB5 := Lib.hid (HRB3.out.on b5)
        have HRB6 := Lib.hid (HRB5.out.put D.rst)
        clear b5
        go_wp2_with (refine wpList_store_row rfl 32 _ _ rfl w.heap.size (dvC D.rst H) rfl rfl 32 (dvC D H) HRB5.out.box (by rw [HSZ.out]; kernel_rfl) (by rw [HSZ.out]; rfl) (dvC_one _ _) ?_)
        obtain ⟨W6, hW6⟩ : ∃ W6, W6 = w5.setRow w.heap.size (dvC D.rst H) := ⟨_, rfl⟩
        rw [← hW6] at HRB6 ⊢
        clear hW6
        obtain ⟨R, hR⟩ : ∃ R, R = D.query xs := ⟨_, rfl⟩
        rw [← hR] at HQ
        have HQR := Lib.hid hR.symm
        clear hR
        have HDR := Lib.hid HD0.out.rst1
        obtain ⟨DR, hDR⟩ : ∃ DR, DR = D.rst := ⟨_, rfl⟩
        rw [← hDR] at HQ HO1 HRB6 HDR
        clear hDR
        go_wp2
        go_loopw [9, 8] (fun kv ov wr => ∃ (q : Nat) (Dq : DD) (acc : List Int) (A' : Option Addr) (c' : Nat), q ≤ k ∧ kv = .int .i64 q ∧ ov = .slice A' acc.length c' ∧ Owned wr (w.heap.size + 1 + 1) (.slice A' acc.length c') acc ∧ acc.length = q ∧ DOk Dq i st n ∧ DevR w Dq H ∧ qgo Dq (xs.drop q) acc = R ∧ RB w wr Dq H) (fun kv _ _ => k - (intOf kv).toNat)
        case atStart => exact ⟨0, DR, [], none, 0, Nat.zero_le _, rfl, rfl, Owned.nil _ _, rfl, HO1.out, HDR.out, by rw [List.drop_zero]; exact HQ.out.symm, HRB6.out⟩
        case round =>
          obtain ⟨q, Dq, acc, A', c', hq, rfl, rfl, hown, hal, hOq, hDq, hgo, hrb⟩ := hrel
          have HOW := Lib.hid hown
          have HAL := Lib.hid hal
          have HOQ := Lib.hid hOq
          have HDQ := Lib.hid hDq
          have HRQ := Lib.hid hrb
          by_cases hlt : q < k
          · obtain ⟨bx, ox, hXe, hbx, hcx⟩ := HX0.out.at_ hlt
            have hcx' := (hrb.below.cell (p := ⟨bx, ox + q, none⟩) hbx).trans hcx
            rw [drop_cons (by rw [HX0.out.1]; exact hlt)] at hgo
            have hrest : (xs.drop (q + 1) = []) ↔ q + 1 = k := by rw [List.drop_eq_nil_iff, HX0.out.1]; omega
            have HRE := Lib.hid hrest
            have HXE := Lib.hid hXe
            have hS1 : ∀ (W : World), Below wr.heap.size wr W → Calls Try.prog 20 #[.agg (dvC Dq H), .int .i64 (xs.getD q 0)] W fun e w' => e = .returned (.tuple #[.agg (dvC (Dq.stpD (xs.getD q 0)) H), .int .i64 (Dq.stpO (xs.getD q 0)), .int .i64 (Dq.stpE (xs.getD q 0))]) ∧ Below W.heap.size W w' := fun W hW => by
              have h := rdstep Dq H (xs.getD q 0) W (hDq.below (bt hrb.below hW)) hOq.sd
              unfold DD.stepD DD.stepO DD.stepE at h
              rw [if_pos hOq.err, if_pos hOq.err, if_pos hOq.err] at h
              exact h.mono fun e w' ⟨h1, _, h3⟩ => ⟨h1, h3⟩
            have HS1 := Lib.hid hS1
            subst hXe
            generalize xs.getD q 0 = x at hcx' hgo hcx HS1
            have hSX : ∀ (W : World), Below wr.heap.size wr W → (DevC W w.heap.size Dq H ∧ W.cell? ⟨bx, ox + q, none⟩ = some (.int .i64 x)) := fun W hW => ⟨(hrb.on hW).box.dev, (hW.cell (p := ⟨bx, ox + q, none⟩) (Nat.lt_of_lt_of_le hbx hrb.below.size)).trans hcx'⟩
            unfold DevC at hSX
            have HSX := Lib.hid (fun (W : World) (hW : Below wr.heap.size wr W) => (show (fun W : World => W.cell? ⟨w.heap.size, 0, none⟩ = some (.int .i64 Dq.i) ∧ W.cell? ⟨w.heap.size, 1, none⟩ = some (.int .i64 Dq.st) ∧ W.cell? ⟨w.heap.size, 2, none⟩ = some (.slice H.A H.n H.c) ∧ W.cell? ⟨w.heap.size, 3, none⟩ = some (.slice H.B H.m H.d) ∧ W.cell? ⟨w.heap.size, 4, none⟩ = some (.int .i64 Dq.s) ∧ W.cell? ⟨w.heap.size, 5, none⟩ = some (.bool Dq.rdy) ∧ W.cell? ⟨w.heap.size, 6, none⟩ = some (.slice H.L H.l H.lc) ∧ W.cell? ⟨w.heap.size, 7, none⟩ = some (.int .i64 Dq.rc) ∧ W.cell? ⟨w.heap.size, 8, none⟩ = some (.int .i64 Dq.f1) ∧ W.cell? ⟨w.heap.size, 9, none⟩ = some (.int .i64 Dq.f2) ∧ W.cell? ⟨w.heap.size, 10, none⟩ = some (.int .i64 Dq.f3) ∧ W.cell? ⟨w.heap.size, 11, none⟩ = some (.int .u64 (Dq.sd : Int)) ∧ W.cell? ⟨w.heap.size, 12, none⟩ = some (.int .i64 Dq.sp) ∧ W.cell? ⟨w.heap.size, 13, none⟩ = some (.int .i64 Dq.rs) ∧ W.cell? ⟨w.heap.size, 14, none⟩ = some (.int .i64 Dq.tm) ∧ W.cell? ⟨bx, ox + q, none⟩ = some (.int .i64 x)) W from by have h := hSX W hW; simpa only [and_assoc] using h))
            have HGO := Lib.hid hgo
            have HO2 := Lib.hid (hOq.stpD x)
            have HD2 := Lib.hid (hDq.stp x)
            have hzr := hrb.size
            clear hown hal hOq hDq hgo hrb hbx hcx hcx' hrest hS1 hSX
            by_cases hE : Dq.stpE x = 0
            · rw [hE] at HS1
              have HE := Lib.hid hE
              generalize ho : Dq.stpO x = o at HS1
              generalize hd : Dq.stpD x = D2 at HS1 HO2 HD2
              have HOO := Lib.hid ho
              have HDD := Lib.hid hd
              clear hE ho hd
              go_wp2_with fail
              have hbf : Below wr.heap.size wr wr.drew := below_drewN (Below.refl _ _) 1
              refine wp_region_heldX (X := fun k => ([10] : List Nat).contains k) (S := fun W => W.cell? ⟨w.heap.size, 0, none⟩ = some (.int .i64 Dq.i) ∧ W.cell? ⟨w.heap.size, 1, none⟩ = some (.int .i64 Dq.st) ∧ W.cell? ⟨w.heap.size, 2, none⟩ = some (.slice H.A H.n H.c) ∧ W.cell? ⟨w.heap.size, 3, none⟩ = some (.slice H.B H.m H.d) ∧ W.cell? ⟨w.heap.size, 4, none⟩ = some (.int .i64 Dq.s) ∧ W.cell? ⟨w.heap.size, 5, none⟩ = some (.bool Dq.rdy) ∧ W.cell? ⟨w.heap.size, 6, none⟩ = some (.slice H.L H.l H.lc) ∧ W.cell? ⟨w.heap.size, 7, none⟩ = some (.int .i64 Dq.rc) ∧ W.cell? ⟨w.heap.size, 8, none⟩ = some (.int .i64 Dq.f1) ∧ W.cell? ⟨w.heap.size, 9, none⟩ = some (.int .i64 Dq.f2) ∧ W.cell? ⟨w.heap.size, 10, none⟩ = some (.int .i64 Dq.f3) ∧ W.cell? ⟨w.heap.size, 11, none⟩ = some (.int .u64 (Dq.sd : Int)) ∧ W.cell? ⟨w.heap.size, 12, none⟩ = some (.int .i64 Dq.sp) ∧ W.cell? ⟨w.heap.size, 13, none⟩ = some (.int .i64 Dq.rs) ∧ W.cell? ⟨w.heap.size, 14, none⟩ = some (.int .i64 Dq.tm) ∧ W.cell? ⟨bx, ox + q, none⟩ = some (.int .i64 x)) (by kernel_rfl) ?_
              refine wpAnyX_takeL (L := [10]) (i := 0) (v := ?_) rfl (by kernel_rfl) (by kernel_rfl) (by kernel_rfl) (by kernel_rfl) (fun _ _ _ h => h) (Or.inl ⟨by rfl, ?_⟩) ((HSX.out _ hbf)) ?_
              rotate_left
              · (intro W hSW; (try dsimp only at hSW); obtain ⟨z0, z1, z2, z3, z4, z5, z6, z7, z8, z9, z10, z11, z12, z13, z14, z15⟩ := hSW; go_simp; try with_reducible rfl)
              (try simp only [Act.put, List.getElem_toArray, List.getElem_cons_zero, List.getElem_cons_succ, List.setIfInBounds_toArray, List.set_cons_zero, List.set_cons_succ])
              refine wpAnyX_pure (i := 1) (v := ?_) rfl (by kernel_rfl) (by kernel_rfl) (by kernel_rfl) (fun _ _ _ h => h) (Or.inl ⟨by rfl, ?_⟩) ?_
              rotate_left
              · (intro W _; go_simp; try with_reducible rfl)
              (try simp only [Act.put, List.getElem_toArray, List.getElem_cons_zero, List.getElem_cons_succ, List.setIfInBounds_toArray, List.set_cons_zero, List.set_cons_succ])
              refine wpAnyX_pure (i := 2) (v := ?_) rfl (by kernel_rfl) (by kernel_rfl) (by kernel_rfl) (fun _ _ _ h => h) (Or.inl ⟨by rfl, ?_⟩) ?_
              rotate_left
              · (intro W _; go_simp; try with_reducible rfl)
              (try simp only [Act.put, List.getElem_toArray, List.getElem_cons_zero, List.getElem_cons_succ, List.setIfInBounds_toArray, List.set_cons_zero, List.set_cons_succ])
              refine wpAnyX_pure (i := 3) (v := ?_) rfl (by kernel_rfl) (by kernel_rfl) (by kernel_rfl) (fun _ _ _ h => h) (Or.inl ⟨by rfl, ?_⟩) ?_
              rotate_left
              · (intro W _; go_simp; try with_reducible rfl)
              (try simp only [Act.put, List.getElem_toArray, List.getElem_cons_zero, List.getElem_cons_succ, List.setIfInBounds_toArray, List.set_cons_zero, List.set_cons_succ])
              refine wpAnyX_takeL (L := [10]) (i := 4) (v := ?_) rfl (by kernel_rfl) (by kernel_rfl) (by kernel_rfl) (by kernel_rfl) (fun _ _ _ h => h) (Or.inl ⟨by rfl, ?_⟩) ((HSX.out _ hbf)) ?_
              rotate_left
              · (intro W hSW; (try dsimp only at hSW); obtain ⟨z0, z1, z2, z3, z4, z5, z6, z7, z8, z9, z10, z11, z12, z13, z14, z15⟩ := hSW; go_simp; try with_reducible rfl)
              (try simp only [Act.put, List.getElem_toArray, List.getElem_cons_zero, List.getElem_cons_succ, List.setIfInBounds_toArray, List.set_cons_zero, List.set_cons_succ])
              refine wpAnyX_one (i := 5) rfl (by kernel_rfl) (fun K hK => ?_)
              go_simp
              go_at_call 20
              refine (HS1.out _ hbf).mono ?_
              rintro e w9 ⟨rfl, b9⟩
              have hbf := bt hbf b9
              have HBF := Lib.hid hbf
              clear b9
              refine hK.out _ _ (fun _ _ => HSX.out _ hbf) ?_
              (try simp only [Act.put, List.getElem_toArray, List.getElem_cons_zero, List.getElem_cons_succ, List.setIfInBounds_toArray, List.set_cons_zero, List.set_cons_succ])
              refine wpAnyX_pure (i := 6) (v := ?_) rfl (by kernel_rfl) (by kernel_rfl) (by kernel_rfl) (fun _ _ _ h => h) (Or.inl ⟨by rfl, ?_⟩) ?_
              rotate_left
              · (intro W _; go_simp; try with_reducible rfl)
              (try simp only [Act.put, List.getElem_toArray, List.getElem_cons_zero, List.getElem_cons_succ, List.setIfInBounds_toArray, List.set_cons_zero, List.set_cons_succ])
              refine wpAnyX_pure (i := 7) (v := ?_) rfl (by kernel_rfl) (by kernel_rfl) (by kernel_rfl) (fun _ _ _ h => h) (Or.inl ⟨by rfl, ?_⟩) ?_
              rotate_left
              · (intro W _; go_simp; try with_reducible rfl)
              (try simp only [Act.put, List.getElem_toArray, List.getElem_cons_zero, List.getElem_cons_succ, List.setIfInBounds_toArray, List.set_cons_zero, List.set_cons_succ])
              refine wpAnyX_pure (i := 8) (v := ?_) rfl (by kernel_rfl) (by kernel_rfl) (by kernel_rfl) (fun _ _ _ h => h) (Or.inl ⟨by rfl, ?_⟩) ?_
              rotate_left
              · (intro W _; go_simp; try with_reducible rfl)
              (try simp only [Act.put, List.getElem_toArray, List.getElem_cons_zero, List.getElem_cons_succ, List.setIfInBounds_toArray, List.set_cons_zero, List.set_cons_succ])
              refine wpAnyX_pure (i := 9) (v := ?_) rfl (by kernel_rfl) (by kernel_rfl) (by kernel_rfl) (fun _ _ _ h => h) (Or.inl ⟨by rfl, ?_⟩) ?_
              rotate_left
              · (intro W _; go_simp; try with_reducible rfl)
              (try simp only [Act.put, List.getElem_toArray, List.getElem_cons_zero, List.getElem_cons_succ, List.setIfInBounds_toArray, List.set_cons_zero, List.set_cons_succ])
              refine wpAnyX_one (i := 10) rfl (by kernel_rfl) (fun K hK => ?_)
              refine wp_store_row 32 _ _ rfl w.heap.size (dvC D2 H) rfl rfl 32 (dvC Dq H) (HRQ.out.on HBF.out).box (by rw [HSZ.out]; kernel_rfl) (by first | rfl | (rw [HSZ.out]; rfl)) (dvC_one _ _) (hK.out _ _ (fun h => absurd h (by decide)) ?_)
              (try simp only [Act.put, List.getElem_toArray, List.getElem_cons_zero, List.getElem_cons_succ, List.setIfInBounds_toArray, List.set_cons_zero, List.set_cons_succ])
              refine wpAnyX_pure (i := 11) (v := ?_) rfl (by kernel_rfl) (by kernel_rfl) (by kernel_rfl) (fun _ _ _ h => h) (Or.inl ⟨by rfl, ?_⟩) ?_
              rotate_left
              · (intro W _; go_simp; try with_reducible rfl)
              (try simp only [Act.put, List.getElem_toArray, List.getElem_cons_zero, List.getElem_cons_succ, List.setIfInBounds_toArray, List.set_cons_zero, List.set_cons_succ])
              refine wpAnyX_pure (i := 12) (v := ?_) rfl (by kernel_rfl) (by kernel_rfl) (by kernel_rfl) (fun _ _ _ h => h) (Or.inl ⟨by rfl, ?_⟩) ?_
              rotate_left
              · (intro W _; go_simp; try with_reducible rfl)
              (try simp only [Act.put, List.getElem_toArray, List.getElem_cons_zero, List.getElem_cons_succ, List.setIfInBounds_toArray, List.set_cons_zero, List.set_cons_succ])
              refine wpAnyX_done (by kernel_rfl) ?_ _
              have HRB7 := Lib.hid ((HRQ.out.on HBF.out).put D2)
              have HOW7 : Hid (Owned (w9.setRow w.heap.size (dvC D2 H)) (w.heap.size + 1 + 1) (.slice A' acc.length c') acc) := Lib.hid ((HOW.out.kept HBF.out).keptT ((HRQ.out.on HBF.out).box.keptRow (by decide) _))
              obtain ⟨W7, hW7⟩ : ∃ W7, W7 = w9.setRow w.heap.size (dvC D2 H) := ⟨_, rfl⟩
              rw [← hW7] at HRB7 HOW7
              have k5 : W7.cell? ⟨w.heap.size, 5, none⟩ = some (.bool D2.rdy) := HRB7.out.box.cell 5
              go_upto_region 15 with fail
              rw [← hW7]
              have hz7 := HRB7.out.size
              clear hW7 hbf
              have wk : IntKind.i64.wrap ((k : Int) - 1) = (k : Int) - 1 := by rw [IntKind.wrap_i64]; omega
              by_cases h1 : o = -1
              · subst h1
                have HF := Lib.hid (qgo_fault (w := xs.drop (q + 1)) (acc := acc) HE.out (.inl HOO.out))
                rw [HGO.out, HDD.out] at HF
                have HRB := HRB7
                by_cases hl : (q : Int) < (k : Int) - 1
                · have d1 : decide ((q : Int) < (k : Int) - 1) = true := decide_eq_true hl
                  clear hl
                  go_upto_region 18 with fail
                  refine wp_region_list ?_
                  refine wpList_load_row rfl 32 _ rfl w.heap.size rfl 32 (dvC D2 H) (0, 0) _ HRB.out.box Try.underlying32 rfl (by rw [HSZ.out]; kernel_rfl) ?_
                  go_wp2_with (refine wpList_store_row rfl 32 _ _ rfl (w.heap.size + 1) (dvC D2 H) rfl rfl 32 zcD HRB.out.res (by rw [HSZ.out]; kernel_rfl) (by rw [HSZ.out]; rfl) (dvC_one _ _) ?_)
                  refine bodyPost_ret (results_dev3 (by rfl) _ _ (w.heap.size + 1) (dvC D2 H) (HSZ.out _ _) rfl (HRB.out.res.row _)) rfl ⟨none, 0, by rw [HQR.out, HF.out]; rfl, by rw [HQR.out, HF.out]; exact Owned.nil _ _, by rw [HQR.out, HF.out]; exact (HD2.out.below HRB.out.fin), HRB.out.fin⟩
                · have d1 : decide ((q : Int) < (k : Int) - 1) = false := decide_eq_false hl
                  clear hl
                  go_upto_region 18 with fail
                  refine wp_region_list ?_
                  refine wpList_load_row rfl 32 _ rfl w.heap.size rfl 32 (dvC D2 H) (0, 0) _ HRB.out.box Try.underlying32 rfl (by rw [HSZ.out]; kernel_rfl) ?_
                  go_wp2_with (refine wpList_store_row rfl 32 _ _ rfl (w.heap.size + 1) (dvC D2 H) rfl rfl 32 zcD HRB.out.res (by rw [HSZ.out]; kernel_rfl) (by rw [HSZ.out]; rfl) (dvC_one _ _) ?_)
                  refine bodyPost_ret (results_dev3 (by rfl) _ _ (w.heap.size + 1) (dvC D2 H) (HSZ.out _ _) rfl (HRB.out.res.row _)) rfl ⟨none, 0, by rw [HQR.out, HF.out]; rfl, by rw [HQR.out, HF.out]; exact Owned.nil _ _, by rw [HQR.out, HF.out]; exact (HD2.out.below HRB.out.fin), HRB.out.fin⟩
              · have d0 : (o == (-1 : Int)) = false := by rw [beq_eq_false_iff_ne]; exact h1
                have hnext : Hid (¬ (D2.rdy = false ∧ ¬ q + 1 = k) → qgo D2 (xs.drop (q + 1)) (acc ++ [o]) = R) := Lib.hid (fun h => by
                  rw [← HGO.out, qgo_on HE.out (by rw [HOO.out, HDD.out, HRE.out]; exact fun hh => hh.elim h1 h), HOO.out, HDD.out])
                have hflt : Hid (D2.rdy = false ∧ ¬ q + 1 = k → R = (D2, [], 14)) := Lib.hid (fun h => by
                  rw [← HGO.out, qgo_fault HE.out (.inr (by rw [HDD.out, HRE.out]; exact h)), HDD.out])
                obtain ⟨A2, c2, w4, hrn, ho4, hb4, _⟩ := run_append_one HOW7.out o hz7 (by rw [HAL.out]; omega)
                have HO4 := Lib.hid ho4
                have HB4 := Lib.hid hb4
                clear h1 ho4 hb4
                by_cases hl : (q : Int) < (k : Int) - 1
                · have d1 : decide ((q : Int) < (k : Int) - 1) = true := decide_eq_true hl
                  cases hrd : D2.rdy
                  · have HF := Lib.hid (hflt.out ⟨hrd, by omega⟩)
                    rw [hrd] at k5
                    have HRB := HRB7
                    clear hl hnext hflt hrd hrn
                    go_upto_region 18 with fail
                    refine wp_region_list ?_
                    refine wpList_load_row rfl 32 _ rfl w.heap.size rfl 32 (dvC D2 H) (0, 0) _ HRB.out.box Try.underlying32 rfl (by rw [HSZ.out]; kernel_rfl) ?_
                    go_wp2_with (refine wpList_store_row rfl 32 _ _ rfl (w.heap.size + 1) (dvC D2 H) rfl rfl 32 zcD HRB.out.res (by rw [HSZ.out]; kernel_rfl) (by rw [HSZ.out]; rfl) (dvC_one _ _) ?_)
                    refine bodyPost_ret (results_dev3 (by rfl) _ _ (w.heap.size + 1) (dvC D2 H) (HSZ.out _ _) rfl (HRB.out.res.row _)) rfl ⟨none, 0, by rw [HQR.out, HF.out]; rfl, by rw [HQR.out, HF.out]; exact Owned.nil _ _, by rw [HQR.out, HF.out]; exact (HD2.out.below HRB.out.fin), HRB.out.fin⟩
                  · have HN := Lib.hid (hnext.out (fun h => by rw [hrd] at h; exact absurd h.1 (by decide)))
                    rw [hrd] at k5
                    clear hl hnext hflt hrd
                    go_wp2_with (at_builtin; refine Lib.wpList_append_run _ rfl _ _ _ _ rfl _ _ rfl rfl _ _ hrn ?_)
                    go_roundw
                    case rel => exact ⟨q + 1, D2, acc ++ [o], A2, c2, by omega, by go_num, by rw [List.length_append]; rfl, by rw [List.length_append]; exact HO4.out, by rw [List.length_append, HAL.out]; rfl, HO2.out, HD2.out, HN.out, HRB7.out.grow HB4.out⟩
                    case measure => simp [intOf]; omega
                · have d1 : decide ((q : Int) < (k : Int) - 1) = false := decide_eq_false hl
                  have HN := Lib.hid (hnext.out (fun h => h.2 (by omega)))
                  clear hl hnext hflt
                  cases hrd : D2.rdy
                  all_goals
                    rw [hrd] at k5
                    clear hrd
                    go_wp2_with (at_builtin; refine Lib.wpList_append_run _ rfl _ _ _ _ rfl _ _ rfl rfl _ _ hrn ?_)
                    go_roundw
                    case rel => exact ⟨q + 1, D2, acc ++ [o], A2, c2, by omega, by go_num, by rw [List.length_append]; rfl, by rw [List.length_append]; exact HO4.out, by rw [List.length_append, HAL.out]; rfl, HO2.out, HD2.out, HN.out, HRB7.out.grow HB4.out⟩
                    case measure => simp [intOf]; omega
            · have HF := Lib.hid (qgo_err (w := xs.drop (q + 1)) (acc := acc) hE)
              rw [HGO.out] at HF
              rw [stpD_err hE] at HS1 HD2
              generalize Dq.stpE x = ev at HS1 HF hE
              have hne : (ev != 0) = true := by simpa using hE
              generalize Dq.stpO x = o at HS1
              clear hE HO2
              go_wp2_with fail
              have hbf : Below wr.heap.size wr wr.drew := below_drewN (Below.refl _ _) 1
              refine wp_region_heldX (X := fun k => ([10] : List Nat).contains k) (S := fun W => W.cell? ⟨w.heap.size, 0, none⟩ = some (.int .i64 Dq.i) ∧ W.cell? ⟨w.heap.size, 1, none⟩ = some (.int .i64 Dq.st) ∧ W.cell? ⟨w.heap.size, 2, none⟩ = some (.slice H.A H.n H.c) ∧ W.cell? ⟨w.heap.size, 3, none⟩ = some (.slice H.B H.m H.d) ∧ W.cell? ⟨w.heap.size, 4, none⟩ = some (.int .i64 Dq.s) ∧ W.cell? ⟨w.heap.size, 5, none⟩ = some (.bool Dq.rdy) ∧ W.cell? ⟨w.heap.size, 6, none⟩ = some (.slice H.L H.l H.lc) ∧ W.cell? ⟨w.heap.size, 7, none⟩ = some (.int .i64 Dq.rc) ∧ W.cell? ⟨w.heap.size, 8, none⟩ = some (.int .i64 Dq.f1) ∧ W.cell? ⟨w.heap.size, 9, none⟩ = some (.int .i64 Dq.f2) ∧ W.cell? ⟨w.heap.size, 10, none⟩ = some (.int .i64 Dq.f3) ∧ W.cell? ⟨w.heap.size, 11, none⟩ = some (.int .u64 (Dq.sd : Int)) ∧ W.cell? ⟨w.heap.size, 12, none⟩ = some (.int .i64 Dq.sp) ∧ W.cell? ⟨w.heap.size, 13, none⟩ = some (.int .i64 Dq.rs) ∧ W.cell? ⟨w.heap.size, 14, none⟩ = some (.int .i64 Dq.tm) ∧ W.cell? ⟨bx, ox + q, none⟩ = some (.int .i64 x)) (by kernel_rfl) ?_
              refine wpAnyX_takeL (L := [10]) (i := 0) (v := ?_) rfl (by kernel_rfl) (by kernel_rfl) (by kernel_rfl) (by kernel_rfl) (fun _ _ _ h => h) (Or.inl ⟨by rfl, ?_⟩) ((HSX.out _ hbf)) ?_
              rotate_left
              · (intro W hSW; (try dsimp only at hSW); obtain ⟨z0, z1, z2, z3, z4, z5, z6, z7, z8, z9, z10, z11, z12, z13, z14, z15⟩ := hSW; go_simp; try with_reducible rfl)
              (try simp only [Act.put, List.getElem_toArray, List.getElem_cons_zero, List.getElem_cons_succ, List.setIfInBounds_toArray, List.set_cons_zero, List.set_cons_succ])
              refine wpAnyX_pure (i := 1) (v := ?_) rfl (by kernel_rfl) (by kernel_rfl) (by kernel_rfl) (fun _ _ _ h => h) (Or.inl ⟨by rfl, ?_⟩) ?_
              rotate_left
              · (intro W _; go_simp; try with_reducible rfl)
              (try simp only [Act.put, List.getElem_toArray, List.getElem_cons_zero, List.getElem_cons_succ, List.setIfInBounds_toArray, List.set_cons_zero, List.set_cons_succ])
              refine wpAnyX_pure (i := 2) (v := ?_) rfl (by kernel_rfl) (by kernel_rfl) (by kernel_rfl) (fun _ _ _ h => h) (Or.inl ⟨by rfl, ?_⟩) ?_
              rotate_left
              · (intro W _; go_simp; try with_reducible rfl)
              (try simp only [Act.put, List.getElem_toArray, List.getElem_cons_zero, List.getElem_cons_succ, List.setIfInBounds_toArray, List.set_cons_zero, List.set_cons_succ])
              refine wpAnyX_pure (i := 3) (v := ?_) rfl (by kernel_rfl) (by kernel_rfl) (by kernel_rfl) (fun _ _ _ h => h) (Or.inl ⟨by rfl, ?_⟩) ?_
              rotate_left
              · (intro W _; go_simp; try with_reducible rfl)
              (try simp only [Act.put, List.getElem_toArray, List.getElem_cons_zero, List.getElem_cons_succ, List.setIfInBounds_toArray, List.set_cons_zero, List.set_cons_succ])
              refine wpAnyX_takeL (L := [10]) (i := 4) (v := ?_) rfl (by kernel_rfl) (by kernel_rfl) (by kernel_rfl) (by kernel_rfl) (fun _ _ _ h => h) (Or.inl ⟨by rfl, ?_⟩) ((HSX.out _ hbf)) ?_
              rotate_left
              · (intro W hSW; (try dsimp only at hSW); obtain ⟨z0, z1, z2, z3, z4, z5, z6, z7, z8, z9, z10, z11, z12, z13, z14, z15⟩ := hSW; go_simp; try with_reducible rfl)
              (try simp only [Act.put, List.getElem_toArray, List.getElem_cons_zero, List.getElem_cons_succ, List.setIfInBounds_toArray, List.set_cons_zero, List.set_cons_succ])
              refine wpAnyX_one (i := 5) rfl (by kernel_rfl) (fun K hK => ?_)
              go_simp
              go_at_call 20
              refine (HS1.out _ hbf).mono ?_
              rintro e w9 ⟨rfl, b9⟩
              have hbf := bt hbf b9
              have HBF := Lib.hid hbf
              clear b9
              refine hK.out _ _ (fun _ _ => HSX.out _ hbf) ?_
              (try simp only [Act.put, List.getElem_toArray, List.getElem_cons_zero, List.getElem_cons_succ, List.setIfInBounds_toArray, List.set_cons_zero, List.set_cons_succ])
              refine wpAnyX_pure (i := 6) (v := ?_) rfl (by kernel_rfl) (by kernel_rfl) (by kernel_rfl) (fun _ _ _ h => h) (Or.inl ⟨by rfl, ?_⟩) ?_
              rotate_left
              · (intro W _; go_simp; try with_reducible rfl)
              (try simp only [Act.put, List.getElem_toArray, List.getElem_cons_zero, List.getElem_cons_succ, List.setIfInBounds_toArray, List.set_cons_zero, List.set_cons_succ])
              refine wpAnyX_pure (i := 7) (v := ?_) rfl (by kernel_rfl) (by kernel_rfl) (by kernel_rfl) (fun _ _ _ h => h) (Or.inl ⟨by rfl, ?_⟩) ?_
              rotate_left
              · (intro W _; go_simp; try with_reducible rfl)
              (try simp only [Act.put, List.getElem_toArray, List.getElem_cons_zero, List.getElem_cons_succ, List.setIfInBounds_toArray, List.set_cons_zero, List.set_cons_succ])
              refine wpAnyX_pure (i := 8) (v := ?_) rfl (by kernel_rfl) (by kernel_rfl) (by kernel_rfl) (fun _ _ _ h => h) (Or.inl ⟨by rfl, ?_⟩) ?_
              rotate_left
              · (intro W _; go_simp; try with_reducible rfl)
              (try simp only [Act.put, List.getElem_toArray, List.getElem_cons_zero, List.getElem_cons_succ, List.setIfInBounds_toArray, List.set_cons_zero, List.set_cons_succ])
              refine wpAnyX_pure (i := 9) (v := ?_) rfl (by kernel_rfl) (by kernel_rfl) (by kernel_rfl) (fun _ _ _ h => h) (Or.inl ⟨by rfl, ?_⟩) ?_
              rotate_left
              · (intro W _; go_simp; try with_reducible rfl)
              (try simp only [Act.put, List.getElem_toArray, List.getElem_cons_zero, List.getElem_cons_succ, List.setIfInBounds_toArray, List.set_cons_zero, List.set_cons_succ])
              refine wpAnyX_one (i := 10) rfl (by kernel_rfl) (fun K hK => ?_)
              refine wp_store_row 32 _ _ rfl w.heap.size (dvC Dq H) rfl rfl 32 (dvC Dq H) (HRQ.out.on HBF.out).box (by rw [HSZ.out]; kernel_rfl) (by first | rfl | (rw [HSZ.out]; rfl)) (dvC_one _ _) (hK.out _ _ (fun h => absurd h (by decide)) ?_)
              (try simp only [Act.put, List.getElem_toArray, List.getElem_cons_zero, List.getElem_cons_succ, List.setIfInBounds_toArray, List.set_cons_zero, List.set_cons_succ])
              refine wpAnyX_pure (i := 11) (v := ?_) rfl (by kernel_rfl) (by kernel_rfl) (by kernel_rfl) (fun _ _ _ h => h) (Or.inl ⟨by rfl, ?_⟩) ?_
              rotate_left
              · (intro W _; go_simp; try with_reducible rfl)
              (try simp only [Act.put, List.getElem_toArray, List.getElem_cons_zero, List.getElem_cons_succ, List.setIfInBounds_toArray, List.set_cons_zero, List.set_cons_succ])
              refine wpAnyX_pure (i := 12) (v := ?_) rfl (by kernel_rfl) (by kernel_rfl) (by kernel_rfl) (fun _ _ _ h => h) (Or.inl ⟨by rfl, ?_⟩) ?_
              rotate_left
              · (intro W _; go_simp; try with_reducible rfl)
              (try simp only [Act.put, List.getElem_toArray, List.getElem_cons_zero, List.getElem_cons_succ, List.setIfInBounds_toArray, List.set_cons_zero, List.set_cons_succ])
              refine wpAnyX_done (by kernel_rfl) ?_ _
              have HRB7 := Lib.hid ((HRQ.out.on HBF.out).put Dq)
              have HRB := HRB7
              go_upto_region 16 with fail
              refine wp_region_list ?_
              refine wpList_load_row rfl 32 _ rfl w.heap.size rfl 32 (dvC Dq H) (0, 0) _ HRB.out.box Try.underlying32 rfl (by rw [HSZ.out]; kernel_rfl) ?_
              go_wp2_with (refine wpList_store_row rfl 32 _ _ rfl (w.heap.size + 1) (dvC Dq H) rfl rfl 32 zcD HRB.out.res (by rw [HSZ.out]; kernel_rfl) (by rw [HSZ.out]; rfl) (dvC_one _ _) ?_)
              refine bodyPost_ret (results_dev3 (by rfl) _ _ (w.heap.size + 1) (dvC Dq H) (HSZ.out _ _) rfl (HRB.out.res.row _)) rfl ⟨none, 0, by rw [HQR.out, HF.out]; rfl, by rw [HQR.out, HF.out]; exact Owned.nil _ _, by rw [HQR.out, HF.out]; exact (HD2.out.below HRB.out.fin), HRB.out.fin⟩
          · obtain rfl : q = k := by omega
            have hnil : xs.drop q = [] := List.drop_eq_nil_of_le (by rw [HX0.out.1]; exact Nat.le_refl _)
            rw [hnil] at hgo
            have HF : Hid (R = (Dq, acc, 0)) := Lib.hid hgo.symm
            have HRB := HRQ
            have HOF : Hid (Owned (wr.setRow (w.heap.size + 1) (dvC Dq H)) w.heap.size (.slice A' acc.length c') acc) := Lib.hid ((hown.keptT (hrb.res.keptRow (by decide) _)).lower (by omega))
            clear hown hal hOq hDq hgo hrb hnil
            go_upto_region 20 with fail
            refine wp_region_list ?_
            refine wpList_load_row rfl 32 _ rfl w.heap.size rfl 32 (dvC Dq H) (0, 0) _ HRB.out.box Try.underlying32 rfl (by rw [HSZ.out]; kernel_rfl) ?_
            go_wp2_with (refine wpList_store_row rfl 32 _ _ rfl (w.heap.size + 1) (dvC Dq H) rfl rfl 32 zcD HRB.out.res (by rw [HSZ.out]; kernel_rfl) (by rw [HSZ.out]; rfl) (dvC_one _ _) ?_)
            refine bodyPost_ret (results_dev3 (by rfl) _ _ (w.heap.size + 1) (dvC Dq H) (HSZ.out _ _) rfl (HRB.out.res.row _)) rfl ⟨A', c', by rw [HQR.out, HF.out]; rfl, by rw [HQR.out, HF.out]; exact HOF.out, by rw [HQR.out, HF.out]; exact (HDQ.out.below HRB.out.fin), HRB.out.fin⟩
      · have HRS : Hid (∀ (W : World), DevR W D H → Calls Try.prog 18 #[.agg (dvC D H)] W fun e w' => e = .returned (.tuple #[.agg (dvC D H), .int .i64 11]) ∧ DevR w' D H ∧ Below W.heap.size W w') := Lib.hid (fun W hW => by
          have h := rdreset D H W hW HSD.out
          unfold DD.resetD DD.resetE DD.rstD DD.rstE at h
          rw [if_pos hE0, if_pos hE0, if_neg hcr, if_neg hcr] at h
          exact h)
        have HQ : Hid (D.query xs = (D, [], 11)) := Lib.hid (by rw [HR1.out]; unfold DD.qry; rw [if_neg hcr])
        clear hcr hE0 HR1
        go_wp2_with fail
        refine (HRS.out _ (HD.out _ HB3.out)).mono ?_
        rintro e w5 ⟨rfl, -, b5⟩
        have HRB5 := Lib.hid (HRB3.out.on b5)
        have HRB := Lib.hid (HRB5.out.put D)
        clear b5
        go_wp2_with (first | (refine wpList_store_row rfl 32 _ _ rfl w.heap.size (dvC D H) rfl rfl 32 (dvC D H) HRB5.out.box (by rw [HSZ.out]; kernel_rfl) (by first | rfl | (rw [HSZ.out]; rfl)) (dvC_one _ _) ?_) | (refine wpList_load_row rfl 32 _ rfl w.heap.size rfl 32 (dvC D H) (0, 0) _ HRB.out.box Try.underlying32 rfl (by rw [HSZ.out]; kernel_rfl) ?_) | (refine wpList_store_row rfl 32 _ _ rfl (w.heap.size + 1) (dvC D H) rfl rfl 32 zcD HRB.out.res (by rw [HSZ.out]; kernel_rfl) (by rw [HSZ.out]; rfl) (dvC_one _ _) ?_))
        refine bodyPost_ret (results_dev3 (by rfl) _ _ (w.heap.size + 1) (dvC D H) (HSZ.out _ _) rfl (HRB.out.res.row _)) rfl ⟨none, 0, by rw [HQ.out]; rfl, by rw [HQ.out]; exact Owned.nil _ _, by rw [HQ.out]; exact (HD0.out.below HRB.out.fin), HRB.out.fin⟩
    · have HR1 : Hid (D.query xs = (D, [], chk xs D.i)) := Lib.hid (by rw [HR0.out, if_neg hc])
      generalize chk xs D.i = v at hc HR1 ⊢
      have hne : (v != 0) = true := by simpa using hc
      have HRB := HRB3
      clear hc HR0 k0
      go_upto_region 5 with fail
      refine wp_region_list ?_
      refine wpList_load_row rfl 32 _ rfl w.heap.size rfl 32 (dvC D H) (0, 0) _ HRB.out.box Try.underlying32 rfl (by rw [HSZ.out]; kernel_rfl) ?_
      go_wp2_with (refine wpList_store_row rfl 32 _ _ rfl (w.heap.size + 1) (dvC D H) rfl rfl 32 zcD HRB.out.res (by rw [HSZ.out]; kernel_rfl) (by rw [HSZ.out]; rfl) (dvC_one _ _) ?_)
      refine bodyPost_ret (results_dev3 (by rfl) _ _ (w.heap.size + 1) (dvC D H) (HSZ.out _ _) rfl (HRB.out.res.row _)) rfl ⟨none, 0, by rw [HR1.out]; rfl, by rw [HR1.out]; exact Owned.nil _ _, by rw [HR1.out]; exact (HD0.out.below HRB.out.fin), HRB.out.fin⟩
  · have HR : Hid (D.query xs = (D, [], D.err)) := Lib.hid (by unfold DD.query; rw [if_neg h0])
    obtain ⟨v, hv⟩ : ∃ v, v = D.err := ⟨_, rfl⟩
    rw [← hv] at h0 HR HV ⊢
    have hne : (v != 0) = true := by simpa using h0
    clear h0 hv hszD b3
    go_wp2_with fail
    have hbf : Below w2.heap.size w2 w3.drew := bt HB3.out (below_drewN (Below.refl _ _) 1)
    refine wp_region_heldX (X := fun k => ([] : List Nat).contains k) (S := fun W => W.cell? ⟨w.heap.size, 0, none⟩ = some (.int .i64 D.i) ∧ W.cell? ⟨w.heap.size, 1, none⟩ = some (.int .i64 D.st) ∧ W.cell? ⟨w.heap.size, 2, none⟩ = some (.slice H.A H.n H.c) ∧ W.cell? ⟨w.heap.size, 3, none⟩ = some (.slice H.B H.m H.d) ∧ W.cell? ⟨w.heap.size, 4, none⟩ = some (.int .i64 D.s) ∧ W.cell? ⟨w.heap.size, 5, none⟩ = some (.bool D.rdy) ∧ W.cell? ⟨w.heap.size, 6, none⟩ = some (.slice H.L H.l H.lc) ∧ W.cell? ⟨w.heap.size, 7, none⟩ = some (.int .i64 D.rc) ∧ W.cell? ⟨w.heap.size, 8, none⟩ = some (.int .i64 D.f1) ∧ W.cell? ⟨w.heap.size, 9, none⟩ = some (.int .i64 D.f2) ∧ W.cell? ⟨w.heap.size, 10, none⟩ = some (.int .i64 D.f3) ∧ W.cell? ⟨w.heap.size, 11, none⟩ = some (.int .u64 (D.sd : Int)) ∧ W.cell? ⟨w.heap.size, 12, none⟩ = some (.int .i64 D.sp) ∧ W.cell? ⟨w.heap.size, 13, none⟩ = some (.int .i64 D.rs) ∧ W.cell? ⟨w.heap.size, 14, none⟩ = some (.int .i64 D.tm)) (by kernel_rfl) ?_
    refine wpAnyX_takeL (L := []) (i := 0) (v := ?_) rfl (by kernel_rfl) (by kernel_rfl) (by kernel_rfl) (by kernel_rfl) (fun _ _ _ h => h) (Or.inl ⟨by rfl, ?_⟩) (HS.out _ hbf) ?_
    rotate_left
    · (intro W hSW; (try dsimp only at hSW); obtain ⟨z0, z1, z2, z3, z4, z5, z6, z7, z8, z9, z10, z11, z12, z13, z14⟩ := hSW; go_simp; try with_reducible rfl)
    (try simp only [Act.put, List.getElem_toArray, List.getElem_cons_zero, List.getElem_cons_succ, List.setIfInBounds_toArray, List.set_cons_zero, List.set_cons_succ])
    refine wpAnyX_takeL (L := []) (i := 1) (v := ?_) rfl (by kernel_rfl) (by kernel_rfl) (by kernel_rfl) (by kernel_rfl) (fun _ _ _ h => h) (Or.inl ⟨by rfl, ?_⟩) (HS.out _ hbf) ?_
    rotate_left
    · (intro W hSW; (try dsimp only at hSW); obtain ⟨z0, z1, z2, z3, z4, z5, z6, z7, z8, z9, z10, z11, z12, z13, z14⟩ := hSW; go_simp; try with_reducible rfl)
    (try simp only [Act.put, List.getElem_toArray, List.getElem_cons_zero, List.getElem_cons_succ, List.setIfInBounds_toArray, List.set_cons_zero, List.set_cons_succ])
    refine wpAnyX_one (i := 2) rfl (by kernel_rfl) (fun K hK => ?_)
    go_simp
    go_at_call 16
    refine (HV.out _ rfl _ hbf).mono ?_
    rintro e w5 ⟨rfl, b5⟩
    have hbf := bt hbf b5
    have HBF := Lib.hid hbf
    refine hK.out _ _ (fun _ _ => HS.out _ hbf) ?_
    clear b5
    (try simp only [Act.put, List.getElem_toArray, List.getElem_cons_zero, List.getElem_cons_succ, List.setIfInBounds_toArray, List.set_cons_zero, List.set_cons_succ])
    refine wpAnyX_one (i := 3) rfl (by kernel_rfl) (fun K hK => ?_)
    refine wp_store_row 32 _ _ rfl (w.heap.size + 1) (dvC D H) rfl rfl 32 zcD (HBZ.out _ HBF.out) (by rw [HSZ.out]; kernel_rfl) (by rw [HSZ.out]; rfl) (dvC_one _ _) (hK.out _ _ (fun _ _ => (by have := ((HBK.out _ HBF.out).rowOther (g' := w.heap.size + 1) (by omega) (dvC D H)).dev; unfold DevC at this; exact this)) ?_)
    (try simp only [Act.put, List.getElem_toArray, List.getElem_cons_zero, List.getElem_cons_succ, List.setIfInBounds_toArray, List.set_cons_zero, List.set_cons_succ])
    refine wpAnyX_pure (i := 4) (v := ?_) rfl (by kernel_rfl) (by kernel_rfl) (by kernel_rfl) (fun _ _ _ h => h) (Or.inl ⟨by rfl, ?_⟩) ?_
    rotate_left
    · (intro W _; go_simp; try with_reducible rfl)
    (try simp only [Act.put, List.getElem_toArray, List.getElem_cons_zero, List.getElem_cons_succ, List.setIfInBounds_toArray, List.set_cons_zero, List.set_cons_succ])
    refine wpAnyX_pure (i := 5) (v := ?_) rfl (by kernel_rfl) (by kernel_rfl) (by kernel_rfl) (fun _ _ _ h => h) (Or.inl ⟨by rfl, ?_⟩) ?_
    rotate_left
    · (intro W _; go_simp; try with_reducible rfl)
    (try simp only [Act.put, List.getElem_toArray, List.getElem_cons_zero, List.getElem_cons_succ, List.setIfInBounds_toArray, List.set_cons_zero, List.set_cons_succ])
    refine wpAnyX_done (by kernel_rfl) ?_ _
    have hF : Hid (DevR (w5.setRow (w.heap.size + 1) (dvC D H)) D H ∧ Below w.heap.size w (w5.setRow (w.heap.size + 1) (dvC D H)) ∧ Blk (w5.setRow (w.heap.size + 1) (dvC D H)) (w.heap.size + 1) (dvC D H) 32) := Lib.hid (by
      have hb : Below w.heap.size w (w5.setRow (w.heap.size + 1) (dvC D H)) := below_setRow (HB2.out.trans (HBF.out.mono HB2.out.size)) (by omega) _
      exact ⟨HD0.out.below hb, hb, (HBZ.out _ HBF.out).row _⟩)
    go_wp2
    refine bodyPost_ret (results_dev3 (by rfl) _ _ (w.heap.size + 1) (dvC D H) (HSZ.out _ _) rfl hF.out.2.2) rfl ⟨none, 0, by rw [HR.out]; rfl, by rw [HR.out]; exact Owned.nil _ _, by rw [HR.out]; exact hF.out.1, hF.out.2.1⟩
end Go.Proofs.Ytcoihbpadbnilaa
end

section
/- The law DeviceQueries: the walk. -/
namespace Go.Proofs.Ytcoihbpadbnilaa
open Go.RowKit

theorem run_load_blk {P : Program} {o : Oper} {a : Act} {w : World} (ty : TypeId) (x : Operand) (ho : o.op = .load ty x)
    (g : Nat) (hx : a.eval x = .pointer (some ⟨g, 0, none⟩)) (t : TypeId) (cs : Array Value) (fr : Nat × Nat) (d : TypeDesc) (hg : w.heap[g]? = some (.cells cs t fr))
    (hu : P.underlying ty = some d) (hd : (match d with | .struct _ | .array _ _ => true | _ => false) = true) (hi : (P.info? ty).map (·.size) = some cs.size) : (execOp a.eval o).run P w = .ok (.value (.agg cs)) w := by
  unfold execOp
  simp only [ho, hx, Instr.loadAt, Instr.sureAddr, Sem.run_bind, Sem.run_pure, Result.andThen_ok, run_loadVar_row w g t ty cs fr d hg hu hd hi]

theorem qgo_len : ∀ (u : List Int) (D : DD) (acc : List Int), (qgo D u acc).2.1.length ≤ acc.length + u.length
  | [], _, _ => Nat.le_refl _
  | a :: u, D, acc => by
    by_cases e : D.stpE a = 0
    · by_cases f : D.stpO a = -1 ∨ (D.stpD a).rdy = false ∧ ¬ u = []
      · rw [qgo_fault e f]; exact Nat.zero_le _
      · rw [qgo_on e f]
        have := qgo_len u (D.stpD a) (acc ++ [D.stpO a])
        rw [List.length_append] at this
        simp at this ⊢
        omega
    · rw [qgo_err e]; exact Nat.zero_le _
theorem query_len (D : DD) (u : List Int) : (D.query u).2.1.length ≤ u.length := by
  unfold DD.query
  by_cases h : D.err = 0
  · rw [if_pos h]
    by_cases c : chk u D.i = 0
    · rw [if_pos c]
      unfold DD.qry
      by_cases r : D.canR
      · rw [if_pos r]; have := qgo_len u D.rst []; simpa using this
      · rw [if_neg r]; exact Nat.zero_le _
    · rw [if_neg c]; exact Nat.zero_le _
  · rw [if_neg h]; exact Nat.zero_le _

set_option linter.unusedSimpArgs false in
set_option linter.unusedVariables false in
set_option maxHeartbeats 16000000 in
set_option maxRecDepth 100000 in
theorem queries19_walk (D : DD) (H : DH) (X : Option Addr) (k cx : Nat) (xs : List Int) (w : World) (hD : DevR w D H) (hX : Ints w X k xs) (hs : D.sd < 18446744073709551616) :
    Calls Try.prog 5 #[dvA D H, .slice X k cx] w fun e w' => e = .returned (.bool true) ∧ Below w.heap.size w w' := by
  have hl := query_len D xs
  rw [hX.1] at hl
  obtain ⟨Q, hQ⟩ : ∃ Q, Q = D.query xs := ⟨_, rfl⟩
  rw [← hQ] at hl
  have HQ := Lib.hid hQ
  clear hQ
  obtain ⟨w0, hw0⟩ : ∃ w0, w0 = w.alloc (.cells (dvC D H) 32) := ⟨_, rfl⟩
  have hb0 : Below w.heap.size w w0 := by rw [hw0]; exact alloc_below _ _
  have m0 : Blk w0 w.heap.size (dvC D H) 32 := by rw [hw0]; exact blk_new _ _ _
  have HB0 := Lib.hid hb0
  have HM := Lib.hid (fun (W : World) (h : Below w0.heap.size w0 W) => m0.on h)
  have HD := Lib.hid (fun (W : World) (h : Below w0.heap.size w0 W) => (hD.below hb0).below h)
  have HX := Lib.hid (fun (W : World) (h : Below w0.heap.size w0 W) => (hX.below hb0).below h)
  have HXB := Lib.hid hX.2.1
  have HSD := Lib.hid hs
  have HW0 := Lib.hid hw0
  have hbc := Below.refl w0.heap.size w0
  obtain ⟨k0, k1, k2, k3, k4, k5, k6, k7, k8, k9, k10, k11, k12, k13, k14⟩ := m0.dev
  rw [hw0] at k0 k1 k2 k3 k6 k7
  have hszD : ∀ D H, (dvC D H).size = 15 := fun _ _ => rfl
  have HSZ := Lib.hid hszD
  clear hw0 hb0 m0 hD hX hs hszD k4 k5 k8 k9 k10 k11 k12 k13 k14
  unfold dvA
  go_enter Try.func5, Try.ntmps5
  go_wp2_with fail
  rw [← HW0.out]
  refine (rgreat19 _ _ _ _ _ _ _ _ _ _ _ _ D.nx D.ot _ (HD.out _ hbc).nx (HD.out _ hbc).ot).mono ?_
  rintro e w1 ⟨b1, rfl, a1⟩
  have hbc := bt hbc a1
  clear k0 k1 k2 k3 k6 k7 a1
  cases b1 with
  | true =>
    go_wp2_with fail
    refine (awake19 _).mono ?_
    rintro e w9 ⟨rfl, a9⟩
    go_wp2
    go_ret
    exact ⟨rfl, bt HB0.out (bt hbc a9)⟩
  | false =>
    have d3 : decide ((2000 : Int) < (k : Int)) = decide ((2000 : Int) < (k : Int)) := rfl
    clear d3
    by_cases c1 : 100 < k
    · have d1 : decide ((100 : Int) < (k : Int)) = true := decide_eq_true (by omega)
      by_cases c2 : k ≤ 1024
      · have d2 : decide ((k : Int) ≤ 1024) = true := decide_eq_true (by omega)
        clear c1 c2
        go_wp2_with fail
        refine (awake19 _).mono ?_
        rintro e w9 ⟨rfl, a9⟩
        go_wp2
        go_ret
        exact ⟨rfl, bt HB0.out (bt hbc a9)⟩
      · have d2 : decide ((k : Int) ≤ 1024) = false := decide_eq_false (by omega)
        by_cases c3 : 2000 < k
        · have d3 : decide ((2000 : Int) < (k : Int)) = true := decide_eq_true (by omega)
          clear c1 c2 c3
          go_wp2_with fail
          refine (awake19 _).mono ?_
          rintro e w9 ⟨rfl, a9⟩
          go_wp2
          go_ret
          exact ⟨rfl, bt HB0.out (bt hbc a9)⟩
        · have d3 : decide ((2000 : Int) < (k : Int)) = false := decide_eq_false (by omega)
          clear c1 c2 c3
          go_upto_region 3 with fail
          refine wp_region_list ?_
          refine wpList_load_row rfl 32 _ rfl w.heap.size rfl 32 (dvC D H) (0, 0) _ (HM.out _ hbc) Try.underlying32 rfl (by rw [HSZ.out]; kernel_rfl) ?_
          go_wp2_with fail
          refine (pdquery D H X k cx xs _ (HD.out _ hbc) (HX.out _ hbc) HSD.out).mono ?_
          rintro e w2 ⟨H1, A1, c1, rfl, o1, d1', a2⟩
          rw [← HQ.out] at o1 d1' ⊢
          have hbc := bt hbc a2
          have h1 := Owned.ints o1 (by have := HXB.out; omega)
          have d1' := d1'.dev
          obtain ⟨W2, hW2⟩ : ∃ W2, W2 = w2.alloc (.cells (dvC Q.1 H1) 32) := ⟨_, rfl⟩
          have e2 : Below w2.heap.size w2 W2 := by rw [hW2]; exact alloc_below _ _
          have m2 : Blk W2 w2.heap.size (dvC Q.1 H1) 32 := by rw [hW2]; exact blk_new _ _ _
          have h1 := h1.below e2
          have d1' := d1'.below e2
          have hbc := bt hbc e2
          have HW2 := Lib.hid hW2
          clear a2 o1 e2 hW2
          unfold dvA
          rw [dvC_def Q.1 H1]
          go_upto_region 4 with fail
          rw [← dvC_def, ← HW2.out]
          refine wp_region_list ?_
          refine wpList_load_row rfl 32 _ rfl w.heap.size rfl 32 (dvC D H) (0, 0) _ (HM.out _ hbc) Try.underlying32 rfl (by rw [HSZ.out]; kernel_rfl) ?_
          go_wp2_with fail
          refine (rdquery D H X k cx xs _ (HD.out _ hbc) (HX.out _ hbc) HSD.out).mono ?_
          rintro e w3 ⟨A3, c3, rfl, o3, d3', a3⟩
          rw [← HQ.out] at o3 d3' ⊢
          have hbc := bt hbc a3
          have h3 := Owned.ints o3 (by have := HXB.out; omega)
          have h1 := h1.below a3
          have d1' := d1'.below a3
          have m2 := m2.on a3
          obtain ⟨W3, hW3⟩ : ∃ W3, W3 = w3.alloc (.cells (dvC Q.1 H) 32) := ⟨_, rfl⟩
          have e3 : Below w3.heap.size w3 W3 := by rw [hW3]; exact alloc_below _ _
          have m3 : Blk W3 w3.heap.size (dvC Q.1 H) 32 := by rw [hW3]; exact blk_new _ _ _
          have h1 := h1.below e3
          have h3 := h3.below e3
          have m2 := m2.on e3
          have d1' := d1'.below e3
          have d3' := d3'.below e3
          have hbc := bt hbc e3
          have HW3 := Lib.hid hW3
          clear a3 o3 e3 hW3
          unfold dvA
          rw [dvC_def Q.1 H]
          go_upto_region 5 with fail
          rw [← dvC_def, ← HW3.out]
          refine wp_region_list ?_
          refine wpList_load_row rfl 32 _ rfl w2.heap.size rfl 32 (dvC Q.1 H1) (0, 0) _ (m2) Try.underlying32 rfl (by rw [HSZ.out]; kernel_rfl) ?_
          go_wp2_with (refine wpList_load_row rfl 32 _ rfl w3.heap.size rfl 32 (dvC Q.1 H) (0, 0) _ (m3) Try.underlying32 rfl (by rw [HSZ.out]; kernel_rfl) ?_)
          have hS := rdsame Q.1 H1 H W3 d1' d3'
          unfold dvA at hS
          refine hS.mono ?_
          rintro e w4 ⟨rfl, a4⟩
          have h1 := h1.below a4
          have h3 := h3.below a4
          have hbc := bt hbc a4
          have HS := Lib.hid (rsame A1 A3 Q.2.1.length c1 Q.2.1.length c3 Q.2.1 Q.2.1 true w4 h1 h3 (by simp))
          clear a4 h1 h3 d1' d3' m2 m3 hS hl
          go_wp2_with fail
          refine HS.out.mono ?_
          rintro e w5 ⟨rfl, q5, hq⟩
          have hbc := bt hbc (show Below w4.heap.size w4 w5 by rw [hq]; exact below_drewN (Below.refl _ _) q5)
          clear hq HS
          go_wp2_with fail
          refine (awake19 _).mono ?_
          rintro e w9 ⟨rfl, a9⟩
          go_wp2
          go_ret
          exact ⟨rfl, bt HB0.out (bt hbc a9)⟩
    · have d1 : decide ((100 : Int) < (k : Int)) = false := decide_eq_false (by omega)
      have d3 : decide ((2000 : Int) < (k : Int)) = false := decide_eq_false (by omega)
      clear c1
      go_upto_region 3 with fail
      refine wp_region_list ?_
      refine wpList_load_row rfl 32 _ rfl w.heap.size rfl 32 (dvC D H) (0, 0) _ (HM.out _ hbc) Try.underlying32 rfl (by rw [HSZ.out]; kernel_rfl) ?_
      go_wp2_with fail
      refine (pdquery D H X k cx xs _ (HD.out _ hbc) (HX.out _ hbc) HSD.out).mono ?_
      rintro e w2 ⟨H1, A1, c1, rfl, o1, d1', a2⟩
      rw [← HQ.out] at o1 d1' ⊢
      have hbc := bt hbc a2
      have h1 := Owned.ints o1 (by have := HXB.out; omega)
      have d1' := d1'.dev
      obtain ⟨W2, hW2⟩ : ∃ W2, W2 = w2.alloc (.cells (dvC Q.1 H1) 32) := ⟨_, rfl⟩
      have e2 : Below w2.heap.size w2 W2 := by rw [hW2]; exact alloc_below _ _
      have m2 : Blk W2 w2.heap.size (dvC Q.1 H1) 32 := by rw [hW2]; exact blk_new _ _ _
      have h1 := h1.below e2
      have d1' := d1'.below e2
      have hbc := bt hbc e2
      have HW2 := Lib.hid hW2
      clear a2 o1 e2 hW2
      unfold dvA
      rw [dvC_def Q.1 H1]
      go_upto_region 4 with fail
      rw [← dvC_def, ← HW2.out]
      refine wp_region_list ?_
      refine wpList_load_row rfl 32 _ rfl w.heap.size rfl 32 (dvC D H) (0, 0) _ (HM.out _ hbc) Try.underlying32 rfl (by rw [HSZ.out]; kernel_rfl) ?_
      go_wp2_with fail
      refine (rdquery D H X k cx xs _ (HD.out _ hbc) (HX.out _ hbc) HSD.out).mono ?_
      rintro e w3 ⟨A3, c3, rfl, o3, d3', a3⟩
      rw [← HQ.out] at o3 d3' ⊢
      have hbc := bt hbc a3
      have h3 := Owned.ints o3 (by have := HXB.out; omega)
      have h1 := h1.below a3
      have d1' := d1'.below a3
      have m2 := m2.on a3
      obtain ⟨W3, hW3⟩ : ∃ W3, W3 = w3.alloc (.cells (dvC Q.1 H) 32) := ⟨_, rfl⟩
      have e3 : Below w3.heap.size w3 W3 := by rw [hW3]; exact alloc_below _ _
      have m3 : Blk W3 w3.heap.size (dvC Q.1 H) 32 := by rw [hW3]; exact blk_new _ _ _
      have h1 := h1.below e3
      have h3 := h3.below e3
      have m2 := m2.on e3
      have d1' := d1'.below e3
      have d3' := d3'.below e3
      have hbc := bt hbc e3
      have HW3 := Lib.hid hW3
      clear a3 o3 e3 hW3
      unfold dvA
      rw [dvC_def Q.1 H]
      go_upto_region 5 with fail
      rw [← dvC_def, ← HW3.out]
      refine wp_region_list ?_
      refine wpList_load_row rfl 32 _ rfl w2.heap.size rfl 32 (dvC Q.1 H1) (0, 0) _ (m2) Try.underlying32 rfl (by rw [HSZ.out]; kernel_rfl) ?_
      go_wp2_with (refine wpList_load_row rfl 32 _ rfl w3.heap.size rfl 32 (dvC Q.1 H) (0, 0) _ (m3) Try.underlying32 rfl (by rw [HSZ.out]; kernel_rfl) ?_)
      have hS := rdsame Q.1 H1 H W3 d1' d3'
      unfold dvA at hS
      refine hS.mono ?_
      rintro e w4 ⟨rfl, a4⟩
      have h1 := h1.below a4
      have h3 := h3.below a4
      have hbc := bt hbc a4
      have HS := Lib.hid (rsame A1 A3 Q.2.1.length c1 Q.2.1.length c3 Q.2.1 Q.2.1 true w4 h1 h3 (by simp))
      clear a4 h1 h3 d1' d3' m2 m3 hS hl
      go_wp2_with fail
      refine HS.out.mono ?_
      rintro e w5 ⟨rfl, q5, hq⟩
      have hbc := bt hbc (show Below w4.heap.size w4 w5 by rw [hq]; exact below_drewN (Below.refl _ _) q5)
      clear hq HS
      go_wp2_with fail
      refine (awake19 _).mono ?_
      rintro e w9 ⟨rfl, a9⟩
      go_wp2
      go_ret
      exact ⟨rfl, bt HB0.out (bt hbc a9)⟩
end Go.Proofs.Ytcoihbpadbnilaa
end

section
/- What a well formed number is. -/
namespace Go.Proofs.Ytcoihbpadbnilaa

theorem u64_nat {a : Int} (h : (Lit.int .u64 a).wf = true) : ∃ s : Nat, a = s ∧ s < 18446744073709551616 := by
  obtain ⟨h1, h2⟩ := (Lit.wf_int_iff _ _).1 h
  simp [IntKind.min, IntKind.max, IntKind.signed, IntKind.bits] at h1 h2
  exact ⟨a.toNat, by omega, by omega⟩
theorem u8_nat {a : Int} (h : (Lit.int .u8 a).wf = true) : ∃ s : Nat, a = s ∧ s < 256 := by
  obtain ⟨h1, h2⟩ := (Lit.wf_int_iff _ _).1 h
  simp [IntKind.min, IntKind.max, IntKind.signed, IntKind.bits] at h1 h2
  exact ⟨a.toNat, by omega, by omega⟩
theorem i64_in {a : Int} (h : (Lit.int .i64 a).wf = true) : -9223372036854775808 ≤ a ∧ a ≤ 9223372036854775807 := by
  obtain ⟨h1, h2⟩ := (Lit.wf_int_iff _ _).1 h
  simp [IntKind.min, IntKind.max, IntKind.signed, IntKind.bits] at h1 h2
  exact ⟨h1, h2⟩
end Go.Proofs.Ytcoihbpadbnilaa
end

section
/- A slice of numbers of any kind that reads as a list. -/
namespace Go.Proofs.Ytcoihbpadbnilaa
open Go.RowKit

/-- The slice '.slice A n _' holds the numbers xs of the kind kd, which fit it. -/
def Nums (kd : IntKind) (w : World) (A : Option Addr) (n : Nat) (xs : List Int) : Prop :=
  xs.length = n ∧ n ≤ 17592186044416 ∧ (0 < n → ∃ b off, A = some ⟨b, off, none⟩ ∧ b < w.heap.size ∧ ∀ j, j < n → w.cell? ⟨b, off + j, none⟩ = some (.int kd (xs[j]?.getD 0))) ∧
  ∀ j, j < n → (Lit.int kd (xs[j]?.getD 0)).wf = true

theorem Nums.below {kd : IntKind} {w w' : World} {A : Option Addr} {n : Nat} {xs : List Int} (h : Nums kd w A n xs) (hb : Below w.heap.size w w') : Nums kd w' A n xs :=
  ⟨h.1, h.2.1, fun hn => by
    obtain ⟨b, off, e, hlt, hc⟩ := h.2.2.1 hn
    exact ⟨b, off, e, Nat.lt_of_lt_of_le hlt hb.size, fun j hj => (hb.cell hlt).trans (hc j hj)⟩, h.2.2.2⟩

theorem Nums.at_ {kd : IntKind} {w : World} {A : Option Addr} {n : Nat} {xs : List Int} (h : Nums kd w A n xs) {k : Nat} (hk : k < n) :
    ∃ b off, A = some ⟨b, off, none⟩ ∧ b < w.heap.size ∧ w.cell? ⟨b, off + k, none⟩ = some (.int kd (xs[k]?.getD 0)) := by
  obtain ⟨b, off, e, hlt, hc⟩ := h.2.2.1 (by omega)
  exact ⟨b, off, e, hlt, hc k hk⟩

theorem Nums.of_in {kd : IntKind} {w : World} {A : Option Addr} {n cap : Nat} {zs : List Int} (hn : n ≤ 17592186044416)
    (h : (A = none ∧ n = 0 ∧ cap = 0 ∧ zs = []) ∨
      ∃ x, A = some x ∧ n ≤ cap ∧ cap ≤ maxLen ∧ zs.length = cap ∧ (∀ i, i < zs.length → w.cell? (x.add i) = some (.int kd (zs.getD i 0))) ∧ ∀ n ∈ zs, (Lit.int kd n).wf = true) :
    Nums kd w A n (zs.take n) := by
  rcases h with ⟨rfl, rfl, rfl, rfl⟩ | ⟨x, rfl, h1, _, h2, hc, hw⟩
  · exact ⟨rfl, by omega, fun h => absurd h (by omega), fun j h => absurd h (by omega)⟩
  · refine ⟨by rw [List.length_take]; omega, hn, fun h0 => ?_, fun j hj => ?_⟩
    · obtain ⟨b, off, spot⟩ := x
      have hc0 := hc 0 (by omega)
      have hspot : spot = none := by simpa [Addr.add] using World.cell?_spot hc0
      subst hspot
      refine ⟨b, off, rfl, by have := block_lt hc0; simpa [Addr.add] using this, fun j hj => ?_⟩
      have := hc j (by omega)
      rw [show (⟨b, off, none⟩ : Addr).add j = ⟨b, off + j, none⟩ by unfold Addr.add; split <;> simp_all] at this
      rw [this]
      simp [List.getD, hj]
    · apply hw
      rw [List.getElem?_take, if_pos hj, List.getElem?_eq_getElem (by omega)]
      exact List.getElem_mem _
end Go.Proofs.Ytcoihbpadbnilaa
end

section
/- What the rows hand over: slices of numbers, with the form's reach. -/
namespace Go.Proofs.Ytcoihbpadbnilaa
open Go.ChangeShapes Go.WideShapes Go.ChangeAt Go.RowKit Go.Joins Go.Deep

theorem bsz {w w' : World} {o : Obj} (h : Below (w.heap.size + 1) (w.alloc o) w') : w.heap.size + 1 ≤ w'.heap.size := by have := h.size; simpa using this

section
variable {H : Type} {enc : TypeId × Value → H}

/-- A change's contract with the reach at hand. -/
theorem handed_sized {C : Checked} {os : Os} {f : FuncId} {fn : Func} {s : ChangeSpec} {conds : List PathCond} {apart fresh handsOn again : Bool}
    (own : ownKnob C.prog.godebug = none) (started : os.Started) (noInit : C.prog.inits.idxOf? f = none) (hfn : C.prog.funcs[f]? = some fn)
    (witness : ∃ (w : World) (tape : Tape) (i : Input), w.os = os ∧ (w.forCall tape i).Shaped C.prog ∧ i.vars = [] ∧ Input.okWide C.prog (w.forCall tape i) .any w.heap.size f i ∧
      s.pre6 enc C.prog fn conds apart (w.forCall tape i).memory i.args ∧ ({} : Assume).holds C.prog (lone (Frame.enter C.prog f i.args .normal) [] (w.forCall tape i)))
    (contract : ∀ (W : World) (base : Nat) (args : Array Value) (ds gs : List (DataW H)) (before : List MemPlace),
      (∀ (j : Nat) t v, fn.params[j]? = some t → args[j]? = some v → Value.okWide C.prog W .any base t v) →
      DataW.Whole enc C.prog fn.params.toList s.vars apart W args.toList ds gs before →
      (DataW.weightsEach C.prog (fn.params.toList ++ s.plain.varTypes C.prog) (ds ++ gs)).all (· ≤ reachBytes) = true →
      Calls C.prog f args W fun e W' => ∃ v, e = .returned v ∧ s.post enc C.prog fn apart fresh handsOn again W args v W') :
    ReturnsInHanded {} C os f .any (s.pre6 enc C.prog fn conds apart) (s.post enc C.prog fn apart fresh handsOn again) := by
  have e : s.pre6 enc C.prog fn conds apart = fun w args => (s.pre enc C.prog fn conds apart w args ∧ True) ∧ sizedMet enc C.prog fn (OpenSpec.ofChange s) apart w args := by
    funext w args
    unfold ChangeSpec.pre6
    rw [and_true]
  rw [e] at witness ⊢
  exact returnsInHanded_of_change_and (X := fun _ _ => True) (fun _ _ _ _ _ => trivial) own started noInit hfn witness (fun W base args ds gs before h1 h2 _ h4 _ _ => contract W base args ds gs before h1 h2 h4)

/-- What a datum weighs is within the reach. -/
def Light (P : Program) (t : TypeId) (d : DataW H) : Prop := ∀ n ∈ d.weights P t, n ≤ reachBytes
theorem light_of {P : Program} {ts : List TypeId} {ds : List (DataW H)} (h : (DataW.weightsEach P ts ds).all (· ≤ reachBytes) = true) {j : Nat} {t : TypeId} {d : DataW H} (ht : ts[j]? = some t) (hd : ds[j]? = some d) : Light P t d := fun n hn => by
  have := List.all_eq_true.1 h _ (DataW.weights_mem_each ht hd n hn)
  simpa using this

theorem add_none {b off k : Nat} : (⟨b, off, none⟩ : Addr).add k = ⟨b, off + k, none⟩ := by unfold Addr.add; split <;> simp_all
theorem reach_num : reachBytes = 140737488351232 := rfl

variable {w : World} {base : Nat} {held : Bool} {fuel : Nat} {cs : List Value} {x : DataW H × List MemPlace}

/-- A slice of ints that came in. -/
theorem open_intsw (hb3 : Try.prog.bytesOf 3 = 8) (h : DataW.trod enc Try.prog w base (fun _ => true) held fuel 25 cs = some x) (hl : Light Try.prog 25 x.1) :
    ∃ A n c zs, cs = [.slice A n c] ∧ n ≤ c ∧ Ints w A n zs ∧ (∀ z, z ∈ zs → (Lit.int .i64 z).wf = true) := by
  rcases open_ints Try.underlying25 Try.underlying3 (by kernel_rfl) h with ⟨hcs, hx⟩ | ⟨a, l, c, zs, hcs, _, hlc, hm, hz, hx, hcell, hwz⟩
  · exact ⟨none, 0, 0, [], hcs, Nat.le_refl _, ⟨rfl, by omega, fun h => absurd h (by omega)⟩, by simp⟩
  · simp only [if_true] at hz
    subst hx
    have := hl (((lits (H := H) .i64 (zs.take l)).length + (lits (H := H) .i64 (zs.drop l)).length) * 8) (by simp [DataW.weights, Try.underlying25, hb3])
    rw [reach_num] at this
    simp only [lits, List.length_map, List.length_take, List.length_drop] at this
    have hb : l ≤ 17592186044416 := by omega
    exact ⟨some a, l, c, zs.take l, hcs, hlc, Ints.of_in (cap := c) hb (.inr ⟨a, rfl, hlc, hm, hz, hcell, hwz⟩), fun z hz => hwz z (List.mem_of_mem_take hz)⟩

theorem weightsAll_mem {P : Program} {e : TypeId} : ∀ {l : List (DataW H)} {d : DataW H} {n : Nat}, d ∈ l → n ∈ d.weights P e → n ∈ DataW.weightsAll P e l
  | [], _, _, h, _ => absurd h (by simp)
  | d0 :: l, d, n, h, hn => by
    rw [DataW.weightsAll, List.mem_append]
    rcases List.mem_cons.1 h with e | h
    · subst e; exact .inl hn
    · exact .inr (weightsAll_mem h hn)
end
end Go.Proofs.Ytcoihbpadbnilaa
end

section
/- What the rows hand over: slices of lists, machines, with the form's reach. -/
namespace Go.Proofs.Ytcoihbpadbnilaa
open Go.ChangeShapes Go.WideShapes Go.ChangeAt Go.RowKit Go.Joins Go.Deep

section
variable {H : Type} {enc : TypeId × Value → H} {w : World} {base : Nat} {held : Bool} {fuel : Nat} {cs : List Value} {x : DataW H × List MemPlace}

/-- A slice of slices of ints that came in. -/
theorem open_lists (hb3 : Try.prog.bytesOf 3 = 8) (hb4 : Try.prog.bytesOf 25 = 24) (h : DataW.trod enc Try.prog w base (fun _ => true) held fuel 22 cs = some x) (hl : Light Try.prog 22 x.1) :
    ∃ A n c xss, cs = [.slice A n c] ∧ n ≤ c ∧ Lists w A n xss := by
  rcases open_int_rows Try.underlying22 Try.underlying25 Try.underlying3 (by kernel_rfl) (by kernel_rfl) h with ⟨hcs, hx⟩ | ⟨a, l, c, A, L, C, Z, hcs, _, hlc, hm, hx, hcell⟩
  · exact ⟨none, 0, 0, [], hcs, Nat.le_refl _, ⟨rfl, by omega, fun h => absurd h (by omega)⟩⟩
  · subst hx
    refine ⟨some a, l, c, (List.range l).map fun r => (Z r).take (L r), hcs, hlc, by simp, ?_, fun h0 => ?_⟩
    · have := hl ((((List.range l).map fun r => intRow (H := H) .i64 (A r) (L r) (Z r)).length + ((List.range (c - l)).map fun j => intRow (H := H) .i64 (A (l + j)) (L (l + j)) (Z (l + j))).length) * 24) (by simp [DataW.weights, Try.underlying22, hb4])
      rw [reach_num] at this
      simp only [List.length_map, List.length_range] at this
      omega
    · obtain ⟨b, off, spot⟩ := a
      have hc0 := (hcell 0 (by omega)).1
      have hspot : spot = none := by simpa [Addr.add] using World.cell?_spot hc0
      subst hspot
      refine ⟨b, off, rfl, by have := block_lt hc0; simpa [Addr.add] using this, fun j hj => ?_⟩
      obtain ⟨h1, h2, h3, h4, h5, h6, h7⟩ := hcell j (by omega)
      have e : ((List.range l).map fun r => (Z r).take (L r)).getD j [] = (Z j).take (L j) := by simp [List.getD, hj]
      rw [add_none] at h1
      refine ⟨A j, L j, C j, h1, ?_⟩
      rw [e]
      cases hA : A j with
      | none =>
        have hC := h6 hA
        exact Ints.of_in (cap := C j) (by omega) (.inl ⟨rfl, by omega, hC, List.eq_nil_of_length_eq_zero (by omega)⟩)
      | some y =>
        have hw : Light Try.prog 25 (intRow (H := H) .i64 (A j) (L j) (Z j)) := fun n hn => hl n (by
          simp only [DataW.weights, Try.underlying22]
          exact List.mem_cons_of_mem _ (List.mem_append_left _ (weightsAll_mem (List.mem_map.2 ⟨j, List.mem_range.2 hj, rfl⟩) hn)))
        rw [hA] at hw
        have := hw (((lits (H := H) .i64 ((Z j).take (L j))).length + (lits (H := H) .i64 ((Z j).drop (L j))).length) * 8) (by simp [intRow, DataW.weights, Try.underlying25, hb3])
        rw [reach_num] at this
        simp only [lits, List.length_map, List.length_take, List.length_drop] at this
        exact Ints.of_in (cap := C j) (by omega) (.inr ⟨y, rfl, h2, h3, h4, fun i hi => (h7 y hA).2 i (by omega), h5⟩)

theorem cells_mealy : Try.prog.cellsOf 24 = 4 := by kernel_rfl
set_option maxRecDepth 100000 in
/-- A machine that came in. -/
theorem open_mealy (hb3 : Try.prog.bytesOf 3 = 8) (hb4 : Try.prog.bytesOf 25 = 24) {r : Reach} {b0 : Nat} {v : Value} {d : DataW H} {p : List MemPlace} (hv : Value.okWide Try.prog w r b0 24 v) (h : DataW.Trod enc Try.prog w base (fun _ => true) held 24 v d p) (hl : Light Try.prog 24 d) :
    ∃ i st A n c B m e nx ot, v = .agg #[.int .i64 i, .int .i64 st, .slice A n c, .slice B m e] ∧ Lists w A n nx ∧ Lists w B m ot ∧ (Lit.int .i64 i).wf = true ∧ (Lit.int .i64 st).wf = true := by
  obtain ⟨c0, c1, c2, c3, y0, y1, y2, y3, f, rfl, hd, _, h0, h1, h2, h3⟩ := open_agg4 Try.underlying24 (by kernel_rfl) cells_mealy hv h
  obtain ⟨i, e0, _, w0⟩ := DataW.trod_int Try.underlying3 h0
  obtain ⟨st, e1, _, w1⟩ := DataW.trod_int Try.underlying3 h1
  subst hd
  have hw : ∀ n, n ∈ y2.1.weights Try.prog 22 ∨ n ∈ y3.1.weights Try.prog 22 → n ≤ reachBytes := fun n hn => hl n (by
    simp only [DataW.weights, Try.underlying24]
    rcases hn with hn | hn
    · exact DataW.weights_mem_each (j := 2) rfl rfl n hn
    · exact DataW.weights_mem_each (j := 3) rfl rfl n hn)
  obtain ⟨A, n, c, nx, e2, _, l2⟩ := open_lists hb3 hb4 h2 (fun n hn => hw n (.inl hn))
  obtain ⟨B, m, e, ot, e3, _, l3⟩ := open_lists hb3 hb4 h3 (fun n hn => hw n (.inr hn))
  simp at e0 e1 e2 e3
  subst e0 e1 e2 e3
  exact ⟨i, st, A, n, c, B, m, e, nx, ot, rfl, l2, l3, w0, w1⟩
end
end Go.Proofs.Ytcoihbpadbnilaa
end

section
/- What the rows hand over: the structs of the laws of device. -/
namespace Go.Proofs.Ytcoihbpadbnilaa
open Go.ChangeShapes Go.WideShapes Go.ChangeAt Go.RowKit Go.Joins Go.Deep

theorem arr_9 {α : Type} {cs : Array α} (h : cs.size = 9) : ∃ c0 c1 c2 c3 c4 c5 c6 c7 c8, cs = #[c0, c1, c2, c3, c4, c5, c6, c7, c8] := by
  obtain ⟨l⟩ := cs
  match l, h with
  | [c0, c1, c2, c3, c4, c5, c6, c7, c8], _ => exact ⟨c0, c1, c2, c3, c4, c5, c6, c7, c8, rfl⟩
theorem arr_11 {α : Type} {cs : Array α} (h : cs.size = 11) : ∃ c0 c1 c2 c3 c4 c5 c6 c7 c8 c9 c10, cs = #[c0, c1, c2, c3, c4, c5, c6, c7, c8, c9, c10] := by
  obtain ⟨l⟩ := cs
  match l, h with
  | [c0, c1, c2, c3, c4, c5, c6, c7, c8, c9, c10], _ => exact ⟨c0, c1, c2, c3, c4, c5, c6, c7, c8, c9, c10, rfl⟩
theorem arr_15 {α : Type} {cs : Array α} (h : cs.size = 15) : ∃ c0 c1 c2 c3 c4 c5 c6 c7 c8 c9 c10 c11 c12 c13 c14, cs = #[c0, c1, c2, c3, c4, c5, c6, c7, c8, c9, c10, c11, c12, c13, c14] := by
  obtain ⟨l⟩ := cs
  match l, h with
  | [c0, c1, c2, c3, c4, c5, c6, c7, c8, c9, c10, c11, c12, c13, c14], _ => exact ⟨c0, c1, c2, c3, c4, c5, c6, c7, c8, c9, c10, c11, c12, c13, c14, rfl⟩
section
variable {H : Type} {enc : TypeId × Value → H} {w : World} {base : Nat} {held : Bool}
theorem cells_4_1_1_2_3_1_1_1_1 {P : Program} {t : TypeId} {f0 f1 f2 f3 f4 f5 f6 f7 f8 : Field} {fuel : Nat} {c0 c1 c2 c3 c4 c5 c6 c7 c8 c9 c10 c11 c12 c13 c14 : Value} {x : DataW H × List MemPlace} (hs : P.underlying t = some (.struct #[f0, f1, f2, f3, f4, f5, f6, f7, f8]))
    (hO : [f0.offset, P.cellsOf f0.type, f1.offset, P.cellsOf f1.type, f2.offset, P.cellsOf f2.type, f3.offset, P.cellsOf f3.type, f4.offset, P.cellsOf f4.type, f5.offset, P.cellsOf f5.type, f6.offset, P.cellsOf f6.type, f7.offset, P.cellsOf f7.type, f8.offset, P.cellsOf f8.type] = ([0, 4, 4, 1, 5, 1, 6, 2, 8, 3, 11, 1, 12, 1, 13, 1, 14, 1] : List Nat)) (h : DataW.trod enc P w base (fun _ => true) held fuel t [c0, c1, c2, c3, c4, c5, c6, c7, c8, c9, c10, c11, c12, c13, c14] = some x) :
    ∃ (y0 y1 y2 y3 y4 y5 y6 y7 y8 : DataW H × List MemPlace) (n : Nat), x.1 = .agg [y0.1, y1.1, y2.1, y3.1, y4.1, y5.1, y6.1, y7.1, y8.1] ∧ DataW.trod enc P w base (fun _ => true) held n f0.type [c0, c1, c2, c3] = some y0 ∧ DataW.trod enc P w base (fun _ => true) held n f1.type [c4] = some y1 ∧ DataW.trod enc P w base (fun _ => true) held n f2.type [c5] = some y2 ∧ DataW.trod enc P w base (fun _ => true) held n f3.type [c6, c7] = some y3 ∧ DataW.trod enc P w base (fun _ => true) held n f4.type [c8, c9, c10] = some y4 ∧ DataW.trod enc P w base (fun _ => true) held n f5.type [c11] = some y5 ∧ DataW.trod enc P w base (fun _ => true) held n f6.type [c12] = some y6 ∧ DataW.trod enc P w base (fun _ => true) held n f7.type [c13] = some y7 ∧ DataW.trod enc P w base (fun _ => true) held n f8.type [c14] = some y8 := by
  obtain ⟨xs, n, _, rfl, _, hlen, hg⟩ := DataW.trod_struct hs h
  simp only [List.cons.injEq, and_true] at hO
  obtain ⟨o0, k0, o1, k1, o2, k2, o3, k3, o4, k4, o5, k5, o6, k6, o7, k7, o8, k8⟩ := hO
  match xs, hlen, hg with
  | [y0, y1, y2, y3, y4, y5, y6, y7, y8], _, hg =>
    exact ⟨y0, y1, y2, y3, y4, y5, y6, y7, y8, n, rfl, by simpa [o0, k0] using hg 0 f0 rfl, by simpa [o1, k1] using hg 1 f1 rfl, by simpa [o2, k2] using hg 2 f2 rfl, by simpa [o3, k3] using hg 3 f3 rfl, by simpa [o4, k4] using hg 4 f4 rfl, by simpa [o5, k5] using hg 5 f5 rfl, by simpa [o6, k6] using hg 6 f6 rfl, by simpa [o7, k7] using hg 7 f7 rfl, by simpa [o8, k8] using hg 8 f8 rfl⟩
theorem cells_1_1_1_1 {P : Program} {t : TypeId} {f0 f1 f2 f3 : Field} {fuel : Nat} {c0 c1 c2 c3 : Value} {x : DataW H × List MemPlace} (hs : P.underlying t = some (.struct #[f0, f1, f2, f3]))
    (hO : [f0.offset, P.cellsOf f0.type, f1.offset, P.cellsOf f1.type, f2.offset, P.cellsOf f2.type, f3.offset, P.cellsOf f3.type] = ([0, 1, 1, 1, 2, 1, 3, 1] : List Nat)) (h : DataW.trod enc P w base (fun _ => true) held fuel t [c0, c1, c2, c3] = some x) :
    ∃ (y0 y1 y2 y3 : DataW H × List MemPlace) (n : Nat), x.1 = .agg [y0.1, y1.1, y2.1, y3.1] ∧ DataW.trod enc P w base (fun _ => true) held n f0.type [c0] = some y0 ∧ DataW.trod enc P w base (fun _ => true) held n f1.type [c1] = some y1 ∧ DataW.trod enc P w base (fun _ => true) held n f2.type [c2] = some y2 ∧ DataW.trod enc P w base (fun _ => true) held n f3.type [c3] = some y3 := by
  obtain ⟨xs, n, _, rfl, _, hlen, hg⟩ := DataW.trod_struct hs h
  simp only [List.cons.injEq, and_true] at hO
  obtain ⟨o0, k0, o1, k1, o2, k2, o3, k3⟩ := hO
  match xs, hlen, hg with
  | [y0, y1, y2, y3], _, hg =>
    exact ⟨y0, y1, y2, y3, n, rfl, by simpa [o0, k0] using hg 0 f0 rfl, by simpa [o1, k1] using hg 1 f1 rfl, by simpa [o2, k2] using hg 2 f2 rfl, by simpa [o3, k3] using hg 3 f3 rfl⟩
theorem cells_1_1 {P : Program} {t : TypeId} {f0 f1 : Field} {fuel : Nat} {c0 c1 : Value} {x : DataW H × List MemPlace} (hs : P.underlying t = some (.struct #[f0, f1]))
    (hO : [f0.offset, P.cellsOf f0.type, f1.offset, P.cellsOf f1.type] = ([0, 1, 1, 1] : List Nat)) (h : DataW.trod enc P w base (fun _ => true) held fuel t [c0, c1] = some x) :
    ∃ (y0 y1 : DataW H × List MemPlace) (n : Nat), x.1 = .agg [y0.1, y1.1] ∧ DataW.trod enc P w base (fun _ => true) held n f0.type [c0] = some y0 ∧ DataW.trod enc P w base (fun _ => true) held n f1.type [c1] = some y1 := by
  obtain ⟨xs, n, _, rfl, _, hlen, hg⟩ := DataW.trod_struct hs h
  simp only [List.cons.injEq, and_true] at hO
  obtain ⟨o0, k0, o1, k1⟩ := hO
  match xs, hlen, hg with
  | [y0, y1], _, hg =>
    exact ⟨y0, y1, n, rfl, by simpa [o0, k0] using hg 0 f0 rfl, by simpa [o1, k1] using hg 1 f1 rfl⟩
theorem cells_1_1_1 {P : Program} {t : TypeId} {f0 f1 f2 : Field} {fuel : Nat} {c0 c1 c2 : Value} {x : DataW H × List MemPlace} (hs : P.underlying t = some (.struct #[f0, f1, f2]))
    (hO : [f0.offset, P.cellsOf f0.type, f1.offset, P.cellsOf f1.type, f2.offset, P.cellsOf f2.type] = ([0, 1, 1, 1, 2, 1] : List Nat)) (h : DataW.trod enc P w base (fun _ => true) held fuel t [c0, c1, c2] = some x) :
    ∃ (y0 y1 y2 : DataW H × List MemPlace) (n : Nat), x.1 = .agg [y0.1, y1.1, y2.1] ∧ DataW.trod enc P w base (fun _ => true) held n f0.type [c0] = some y0 ∧ DataW.trod enc P w base (fun _ => true) held n f1.type [c1] = some y1 ∧ DataW.trod enc P w base (fun _ => true) held n f2.type [c2] = some y2 := by
  obtain ⟨xs, n, _, rfl, _, hlen, hg⟩ := DataW.trod_struct hs h
  simp only [List.cons.injEq, and_true] at hO
  obtain ⟨o0, k0, o1, k1, o2, k2⟩ := hO
  match xs, hlen, hg with
  | [y0, y1, y2], _, hg =>
    exact ⟨y0, y1, y2, n, rfl, by simpa [o0, k0] using hg 0 f0 rfl, by simpa [o1, k1] using hg 1 f1 rfl, by simpa [o2, k2] using hg 2 f2 rfl⟩
theorem cells_4_2_1_1_1 {P : Program} {t : TypeId} {f0 f1 f2 f3 f4 : Field} {fuel : Nat} {c0 c1 c2 c3 c4 c5 c6 c7 c8 : Value} {x : DataW H × List MemPlace} (hs : P.underlying t = some (.struct #[f0, f1, f2, f3, f4]))
    (hO : [f0.offset, P.cellsOf f0.type, f1.offset, P.cellsOf f1.type, f2.offset, P.cellsOf f2.type, f3.offset, P.cellsOf f3.type, f4.offset, P.cellsOf f4.type] = ([0, 4, 4, 2, 6, 1, 7, 1, 8, 1] : List Nat)) (h : DataW.trod enc P w base (fun _ => true) held fuel t [c0, c1, c2, c3, c4, c5, c6, c7, c8] = some x) :
    ∃ (y0 y1 y2 y3 y4 : DataW H × List MemPlace) (n : Nat), x.1 = .agg [y0.1, y1.1, y2.1, y3.1, y4.1] ∧ DataW.trod enc P w base (fun _ => true) held n f0.type [c0, c1, c2, c3] = some y0 ∧ DataW.trod enc P w base (fun _ => true) held n f1.type [c4, c5] = some y1 ∧ DataW.trod enc P w base (fun _ => true) held n f2.type [c6] = some y2 ∧ DataW.trod enc P w base (fun _ => true) held n f3.type [c7] = some y3 ∧ DataW.trod enc P w base (fun _ => true) held n f4.type [c8] = some y4 := by
  obtain ⟨xs, n, _, rfl, _, hlen, hg⟩ := DataW.trod_struct hs h
  simp only [List.cons.injEq, and_true] at hO
  obtain ⟨o0, k0, o1, k1, o2, k2, o3, k3, o4, k4⟩ := hO
  match xs, hlen, hg with
  | [y0, y1, y2, y3, y4], _, hg =>
    exact ⟨y0, y1, y2, y3, y4, n, rfl, by simpa [o0, k0] using hg 0 f0 rfl, by simpa [o1, k1] using hg 1 f1 rfl, by simpa [o2, k2] using hg 2 f2 rfl, by simpa [o3, k3] using hg 3 f3 rfl, by simpa [o4, k4] using hg 4 f4 rfl⟩
theorem cells_4_2_3_1_1 {P : Program} {t : TypeId} {f0 f1 f2 f3 f4 : Field} {fuel : Nat} {c0 c1 c2 c3 c4 c5 c6 c7 c8 c9 c10 : Value} {x : DataW H × List MemPlace} (hs : P.underlying t = some (.struct #[f0, f1, f2, f3, f4]))
    (hO : [f0.offset, P.cellsOf f0.type, f1.offset, P.cellsOf f1.type, f2.offset, P.cellsOf f2.type, f3.offset, P.cellsOf f3.type, f4.offset, P.cellsOf f4.type] = ([0, 4, 4, 2, 6, 3, 9, 1, 10, 1] : List Nat)) (h : DataW.trod enc P w base (fun _ => true) held fuel t [c0, c1, c2, c3, c4, c5, c6, c7, c8, c9, c10] = some x) :
    ∃ (y0 y1 y2 y3 y4 : DataW H × List MemPlace) (n : Nat), x.1 = .agg [y0.1, y1.1, y2.1, y3.1, y4.1] ∧ DataW.trod enc P w base (fun _ => true) held n f0.type [c0, c1, c2, c3] = some y0 ∧ DataW.trod enc P w base (fun _ => true) held n f1.type [c4, c5] = some y1 ∧ DataW.trod enc P w base (fun _ => true) held n f2.type [c6, c7, c8] = some y2 ∧ DataW.trod enc P w base (fun _ => true) held n f3.type [c9] = some y3 ∧ DataW.trod enc P w base (fun _ => true) held n f4.type [c10] = some y4 := by
  obtain ⟨xs, n, _, rfl, _, hlen, hg⟩ := DataW.trod_struct hs h
  simp only [List.cons.injEq, and_true] at hO
  obtain ⟨o0, k0, o1, k1, o2, k2, o3, k3, o4, k4⟩ := hO
  match xs, hlen, hg with
  | [y0, y1, y2, y3, y4], _, hg =>
    exact ⟨y0, y1, y2, y3, y4, n, rfl, by simpa [o0, k0] using hg 0 f0 rfl, by simpa [o1, k1] using hg 1 f1 rfl, by simpa [o2, k2] using hg 2 f2 rfl, by simpa [o3, k3] using hg 3 f3 rfl, by simpa [o4, k4] using hg 4 f4 rfl⟩
set_option maxRecDepth 100000 in
theorem open_device {r : Reach} {b0 : Nat} {v : Value} {d : DataW H} {p : List MemPlace} (hv : Value.okWide Try.prog w r b0 32 v) (h : DataW.Trod enc Try.prog w base (fun _ => true) held 32 v d p) (hl : Light Try.prog 32 d) :
    ∃ (a1 : Int) (a2 : Int) (A3 : Option Addr) (n3 : Nat) (m3 : Nat) (z3 : List (List Int)) (A4 : Option Addr) (n4 : Nat) (m4 : Nat) (z4 : List (List Int)) (a5 : Int) (a6 : Bool) (A7 : Option Addr) (n7 : Nat) (m7 : Nat) (z7 : List Int) (a8 : Int) (a9 : Int) (a10 : Int) (a11 : Int) (a12 : Int) (a13 : Int) (a14 : Int) (a15 : Int), v = .agg #[.int .i64 a1, .int .i64 a2, .slice A3 n3 m3, .slice A4 n4 m4, .int .i64 a5, .bool a6, .slice A7 n7 m7, .int .i64 a8, .int .i64 a9, .int .i64 a10, .int .i64 a11, .int .u64 a12, .int .i64 a13, .int .i64 a14, .int .i64 a15] ∧ (Lit.int .i64 a1).wf = true ∧ (Lit.int .i64 a2).wf = true ∧ Lists w A3 n3 z3 ∧ Lists w A4 n4 z4 ∧ (Lit.int .i64 a5).wf = true ∧ Ints w A7 n7 z7 ∧ (Lit.int .i64 a8).wf = true ∧ (Lit.int .i64 a9).wf = true ∧ (Lit.int .i64 a10).wf = true ∧ (Lit.int .i64 a11).wf = true ∧ (Lit.int .u64 a12).wf = true ∧ (Lit.int .i64 a13).wf = true ∧ (Lit.int .i64 a14).wf = true ∧ (Lit.int .i64 a15).wf = true := by
  obtain ⟨cs, rfl, hsz⟩ := okWide_struct Try.underlying32 hv
  obtain ⟨c0, c1, c2, c3, c4, c5, c6, c7, c8, c9, c10, c11, c12, c13, c14, rfl⟩ := arr_15 (hsz.trans (by kernel_rfl : Try.prog.cellsOf 32 = 15))
  obtain ⟨fuel, hf⟩ := h
  simp only [Value.cells] at hf
  obtain ⟨uy0, uy1, uy2, uy3, uy4, uy5, uy6, uy7, uy8, un, ud, uh0, uh1, uh2, uh3, uh4, uh5, uh6, uh7, uh8⟩ := cells_4_1_1_2_3_1_1_1_1 Try.underlying32 (by kernel_rfl) hf
  dsimp only at ud
  have ug0 : Light Try.prog 24 uy0.1 := fun n hn => hl n (by rw [ud]; simp only [DataW.weights, Try.underlying32]; exact DataW.weights_mem_each (j := 0) rfl rfl n hn)
  obtain ⟨ux0y0, ux0y1, ux0y2, ux0y3, ux0n, ux0d, ux0h0, ux0h1, ux0h2, ux0h3⟩ := cells_1_1_1_1 Try.underlying24 (by kernel_rfl) uh0
  obtain ⟨a1, e1, _, w1⟩ := DataW.trod_int Try.underlying3 ux0h0
  obtain ⟨a2, e2, _, w2⟩ := DataW.trod_int Try.underlying3 ux0h1
  obtain ⟨A3, n3, m3, z3, e3, q3, l3⟩ := open_lists (by kernel_rfl) (by kernel_rfl) ux0h2 (fun n hn => ug0 n (by rw [ux0d]; simp only [DataW.weights, Try.underlying24]; exact DataW.weights_mem_each (j := 2) rfl rfl n hn))
  obtain ⟨A4, n4, m4, z4, e4, q4, l4⟩ := open_lists (by kernel_rfl) (by kernel_rfl) ux0h3 (fun n hn => ug0 n (by rw [ux0d]; simp only [DataW.weights, Try.underlying24]; exact DataW.weights_mem_each (j := 3) rfl rfl n hn))
  obtain ⟨a5, e5, _, w5⟩ := DataW.trod_int Try.underlying3 uh1
  obtain ⟨a6, e6, _⟩ := DataW.trod_bool Try.underlying4 uh2
  have ug3 : Light Try.prog 27 uy3.1 := fun n hn => hl n (by rw [ud]; simp only [DataW.weights, Try.underlying32]; exact DataW.weights_mem_each (j := 3) rfl rfl n hn)
  obtain ⟨ux3y0, ux3y1, ux3n, ux3d, ux3h0, ux3h1⟩ := cells_1_1 Try.underlying27 (by kernel_rfl) uh3
  obtain ⟨A7, n7, m7, z7, e7, q7, l7, _⟩ := open_intsw (by kernel_rfl) ux3h0 (fun n hn => ug3 n (by rw [ux3d]; simp only [DataW.weights, Try.underlying27]; exact DataW.weights_mem_each (j := 0) rfl rfl n hn))
  obtain ⟨a8, e8, _, w8⟩ := DataW.trod_int Try.underlying3 ux3h1
  have ug4 : Light Try.prog 29 uy4.1 := fun n hn => hl n (by rw [ud]; simp only [DataW.weights, Try.underlying32]; exact DataW.weights_mem_each (j := 4) rfl rfl n hn)
  obtain ⟨ux4y0, ux4y1, ux4y2, ux4n, ux4d, ux4h0, ux4h1, ux4h2⟩ := cells_1_1_1 Try.underlying29 (by kernel_rfl) uh4
  obtain ⟨a9, e9, _, w9⟩ := DataW.trod_int Try.underlying3 ux4h0
  obtain ⟨a10, e10, _, w10⟩ := DataW.trod_int Try.underlying3 ux4h1
  obtain ⟨a11, e11, _, w11⟩ := DataW.trod_int Try.underlying3 ux4h2
  obtain ⟨a12, e12, _, w12⟩ := DataW.trod_int Try.underlying30 uh5
  obtain ⟨a13, e13, _, w13⟩ := DataW.trod_int Try.underlying3 uh6
  obtain ⟨a14, e14, _, w14⟩ := DataW.trod_int Try.underlying3 uh7
  obtain ⟨a15, e15, _, w15⟩ := DataW.trod_int Try.underlying3 uh8
  simp at e1 e2 e3 e4 e5 e6 e7 e8 e9 e10 e11 e12 e13 e14 e15
  subst e1 e2 e3 e4 e5 e6 e7 e8 e9 e10 e11 e12 e13 e14 e15
  exact ⟨a1, a2, A3, n3, m3, z3, A4, n4, m4, z4, a5, a6, A7, n7, m7, z7, a8, a9, a10, a11, a12, a13, a14, a15, rfl, w1, w2, l3, l4, w5, l7, w8, w9, w10, w11, w12, w13, w14, w15⟩
set_option maxRecDepth 100000 in
theorem open_faithful {r : Reach} {b0 : Nat} {v : Value} {d : DataW H} {p : List MemPlace} (hv : Value.okWide Try.prog w r b0 60 v) (h : DataW.Trod enc Try.prog w base (fun _ => true) held 60 v d p) (hl : Light Try.prog 60 d) :
    ∃ (a1 : Int) (a2 : Int) (A3 : Option Addr) (n3 : Nat) (m3 : Nat) (z3 : List (List Int)) (A4 : Option Addr) (n4 : Nat) (m4 : Nat) (z4 : List (List Int)) (A5 : Option Addr) (n5 : Nat) (m5 : Nat) (z5 : List Int) (a6 : Int) (a7 : Int) (A8 : Option Addr) (n8 : Nat) (m8 : Nat) (z8 : List Int) (A9 : Option Addr) (n9 : Nat) (m9 : Nat) (z9 : List Int), v = .agg #[.int .i64 a1, .int .i64 a2, .slice A3 n3 m3, .slice A4 n4 m4, .slice A5 n5 m5, .int .i64 a6, .int .u64 a7, .slice A8 n8 m8, .slice A9 n9 m9] ∧ (Lit.int .i64 a1).wf = true ∧ (Lit.int .i64 a2).wf = true ∧ Lists w A3 n3 z3 ∧ Lists w A4 n4 z4 ∧ Ints w A5 n5 z5 ∧ (Lit.int .i64 a6).wf = true ∧ (Lit.int .u64 a7).wf = true ∧ Ints w A8 n8 z8 ∧ Ints w A9 n9 z9 := by
  obtain ⟨cs, rfl, hsz⟩ := okWide_struct Try.underlying60 hv
  obtain ⟨c0, c1, c2, c3, c4, c5, c6, c7, c8, rfl⟩ := arr_9 (hsz.trans (by kernel_rfl : Try.prog.cellsOf 60 = 9))
  obtain ⟨fuel, hf⟩ := h
  simp only [Value.cells] at hf
  obtain ⟨uy0, uy1, uy2, uy3, uy4, un, ud, uh0, uh1, uh2, uh3, uh4⟩ := cells_4_2_1_1_1 Try.underlying60 (by kernel_rfl) hf
  dsimp only at ud
  have ug0 : Light Try.prog 24 uy0.1 := fun n hn => hl n (by rw [ud]; simp only [DataW.weights, Try.underlying60]; exact DataW.weights_mem_each (j := 0) rfl rfl n hn)
  obtain ⟨ux0y0, ux0y1, ux0y2, ux0y3, ux0n, ux0d, ux0h0, ux0h1, ux0h2, ux0h3⟩ := cells_1_1_1_1 Try.underlying24 (by kernel_rfl) uh0
  obtain ⟨a1, e1, _, w1⟩ := DataW.trod_int Try.underlying3 ux0h0
  obtain ⟨a2, e2, _, w2⟩ := DataW.trod_int Try.underlying3 ux0h1
  obtain ⟨A3, n3, m3, z3, e3, q3, l3⟩ := open_lists (by kernel_rfl) (by kernel_rfl) ux0h2 (fun n hn => ug0 n (by rw [ux0d]; simp only [DataW.weights, Try.underlying24]; exact DataW.weights_mem_each (j := 2) rfl rfl n hn))
  obtain ⟨A4, n4, m4, z4, e4, q4, l4⟩ := open_lists (by kernel_rfl) (by kernel_rfl) ux0h3 (fun n hn => ug0 n (by rw [ux0d]; simp only [DataW.weights, Try.underlying24]; exact DataW.weights_mem_each (j := 3) rfl rfl n hn))
  have ug1 : Light Try.prog 27 uy1.1 := fun n hn => hl n (by rw [ud]; simp only [DataW.weights, Try.underlying60]; exact DataW.weights_mem_each (j := 1) rfl rfl n hn)
  obtain ⟨ux1y0, ux1y1, ux1n, ux1d, ux1h0, ux1h1⟩ := cells_1_1 Try.underlying27 (by kernel_rfl) uh1
  obtain ⟨A5, n5, m5, z5, e5, q5, l5, _⟩ := open_intsw (by kernel_rfl) ux1h0 (fun n hn => ug1 n (by rw [ux1d]; simp only [DataW.weights, Try.underlying27]; exact DataW.weights_mem_each (j := 0) rfl rfl n hn))
  obtain ⟨a6, e6, _, w6⟩ := DataW.trod_int Try.underlying3 ux1h1
  obtain ⟨a7, e7, _, w7⟩ := DataW.trod_int Try.underlying30 uh2
  obtain ⟨A8, n8, m8, z8, e8, q8, l8, _⟩ := open_intsw (by kernel_rfl) uh3 (fun n hn => hl n (by rw [ud]; simp only [DataW.weights, Try.underlying60]; exact DataW.weights_mem_each (j := 3) rfl rfl n hn))
  obtain ⟨A9, n9, m9, z9, e9, q9, l9, _⟩ := open_intsw (by kernel_rfl) uh4 (fun n hn => hl n (by rw [ud]; simp only [DataW.weights, Try.underlying60]; exact DataW.weights_mem_each (j := 4) rfl rfl n hn))
  simp at e1 e2 e3 e4 e5 e6 e7 e8 e9
  subst e1 e2 e3 e4 e5 e6 e7 e8 e9
  exact ⟨a1, a2, A3, n3, m3, z3, A4, n4, m4, z4, A5, n5, m5, z5, a6, a7, A8, n8, m8, z8, A9, n9, m9, z9, rfl, w1, w2, l3, l4, l5, w6, w7, l8, l9⟩
set_option maxRecDepth 100000 in
theorem open_errors {r : Reach} {b0 : Nat} {v : Value} {d : DataW H} {p : List MemPlace} (hv : Value.okWide Try.prog w r b0 70 v) (h : DataW.Trod enc Try.prog w base (fun _ => true) held 70 v d p) (hl : Light Try.prog 70 d) :
    ∃ (a1 : Int) (a2 : Int) (A3 : Option Addr) (n3 : Nat) (m3 : Nat) (z3 : List (List Int)) (A4 : Option Addr) (n4 : Nat) (m4 : Nat) (z4 : List (List Int)) (A5 : Option Addr) (n5 : Nat) (m5 : Nat) (z5 : List Int) (a6 : Int) (a7 : Int) (a8 : Int) (a9 : Int) (a10 : Int) (A11 : Option Addr) (n11 : Nat) (m11 : Nat) (z11 : List Int), v = .agg #[.int .i64 a1, .int .i64 a2, .slice A3 n3 m3, .slice A4 n4 m4, .slice A5 n5 m5, .int .i64 a6, .int .i64 a7, .int .i64 a8, .int .i64 a9, .int .u64 a10, .slice A11 n11 m11] ∧ (Lit.int .i64 a1).wf = true ∧ (Lit.int .i64 a2).wf = true ∧ Lists w A3 n3 z3 ∧ Lists w A4 n4 z4 ∧ Ints w A5 n5 z5 ∧ (Lit.int .i64 a6).wf = true ∧ (Lit.int .i64 a7).wf = true ∧ (Lit.int .i64 a8).wf = true ∧ (Lit.int .i64 a9).wf = true ∧ (Lit.int .u64 a10).wf = true ∧ Ints w A11 n11 z11 := by
  obtain ⟨cs, rfl, hsz⟩ := okWide_struct Try.underlying70 hv
  obtain ⟨c0, c1, c2, c3, c4, c5, c6, c7, c8, c9, c10, rfl⟩ := arr_11 (hsz.trans (by kernel_rfl : Try.prog.cellsOf 70 = 11))
  obtain ⟨fuel, hf⟩ := h
  simp only [Value.cells] at hf
  obtain ⟨uy0, uy1, uy2, uy3, uy4, un, ud, uh0, uh1, uh2, uh3, uh4⟩ := cells_4_2_3_1_1 Try.underlying70 (by kernel_rfl) hf
  dsimp only at ud
  have ug0 : Light Try.prog 24 uy0.1 := fun n hn => hl n (by rw [ud]; simp only [DataW.weights, Try.underlying70]; exact DataW.weights_mem_each (j := 0) rfl rfl n hn)
  obtain ⟨ux0y0, ux0y1, ux0y2, ux0y3, ux0n, ux0d, ux0h0, ux0h1, ux0h2, ux0h3⟩ := cells_1_1_1_1 Try.underlying24 (by kernel_rfl) uh0
  obtain ⟨a1, e1, _, w1⟩ := DataW.trod_int Try.underlying3 ux0h0
  obtain ⟨a2, e2, _, w2⟩ := DataW.trod_int Try.underlying3 ux0h1
  obtain ⟨A3, n3, m3, z3, e3, q3, l3⟩ := open_lists (by kernel_rfl) (by kernel_rfl) ux0h2 (fun n hn => ug0 n (by rw [ux0d]; simp only [DataW.weights, Try.underlying24]; exact DataW.weights_mem_each (j := 2) rfl rfl n hn))
  obtain ⟨A4, n4, m4, z4, e4, q4, l4⟩ := open_lists (by kernel_rfl) (by kernel_rfl) ux0h3 (fun n hn => ug0 n (by rw [ux0d]; simp only [DataW.weights, Try.underlying24]; exact DataW.weights_mem_each (j := 3) rfl rfl n hn))
  have ug1 : Light Try.prog 27 uy1.1 := fun n hn => hl n (by rw [ud]; simp only [DataW.weights, Try.underlying70]; exact DataW.weights_mem_each (j := 1) rfl rfl n hn)
  obtain ⟨ux1y0, ux1y1, ux1n, ux1d, ux1h0, ux1h1⟩ := cells_1_1 Try.underlying27 (by kernel_rfl) uh1
  obtain ⟨A5, n5, m5, z5, e5, q5, l5, _⟩ := open_intsw (by kernel_rfl) ux1h0 (fun n hn => ug1 n (by rw [ux1d]; simp only [DataW.weights, Try.underlying27]; exact DataW.weights_mem_each (j := 0) rfl rfl n hn))
  obtain ⟨a6, e6, _, w6⟩ := DataW.trod_int Try.underlying3 ux1h1
  have ug2 : Light Try.prog 29 uy2.1 := fun n hn => hl n (by rw [ud]; simp only [DataW.weights, Try.underlying70]; exact DataW.weights_mem_each (j := 2) rfl rfl n hn)
  obtain ⟨ux2y0, ux2y1, ux2y2, ux2n, ux2d, ux2h0, ux2h1, ux2h2⟩ := cells_1_1_1 Try.underlying29 (by kernel_rfl) uh2
  obtain ⟨a7, e7, _, w7⟩ := DataW.trod_int Try.underlying3 ux2h0
  obtain ⟨a8, e8, _, w8⟩ := DataW.trod_int Try.underlying3 ux2h1
  obtain ⟨a9, e9, _, w9⟩ := DataW.trod_int Try.underlying3 ux2h2
  obtain ⟨a10, e10, _, w10⟩ := DataW.trod_int Try.underlying30 uh3
  obtain ⟨A11, n11, m11, z11, e11, q11, l11, _⟩ := open_intsw (by kernel_rfl) uh4 (fun n hn => hl n (by rw [ud]; simp only [DataW.weights, Try.underlying70]; exact DataW.weights_mem_each (j := 4) rfl rfl n hn))
  simp at e1 e2 e3 e4 e5 e6 e7 e8 e9 e10 e11
  subst e1 e2 e3 e4 e5 e6 e7 e8 e9 e10 e11
  exact ⟨a1, a2, A3, n3, m3, z3, A4, n4, m4, z4, A5, n5, m5, z5, a6, a7, a8, a9, a10, A11, n11, m11, z11, rfl, w1, w2, l3, l4, l5, w6, w7, w8, w9, w10, l11⟩
end
end Go.Proofs.Ytcoihbpadbnilaa
end
