/- Lemmas of the proofs of this seat, of the parts Dvg, Dvh, Dvi, Dvj, Dvk, Dvl, Dvm, Hrow, Litl, Gat19, Awak19, Rvf, Eqm, Samem, Rvg, Valr, Rva, Rvb. Conditions: none. -/
import Derived.Test.YtcoihbpadbnilaaDa
import Derived.Deep.DeepCutAuto
import Derived.BigQuiet
import Derived.Lib.SliceRun
import Derived.Maps.AppendAt
section
/- device: the runner's step, whole. -/
namespace Go.Proofs.Ytcoihbpadbnilaa
open Go.RowKit

set_option linter.unusedSimpArgs false in
set_option maxHeartbeats 8000000 in
set_option maxRecDepth 100000 in
theorem pstep19 (g i st n : Nat) (D : DD) (H : DH) (av : Int) (w0 w : World) (hB : Blk w g (dvC D H) 84) (hO : DOk D i st n) (hR : DevR w0 D H) (hb : Below w0.heap.size w0 w) (hg : w0.heap.size ≤ g) :
    Calls Try.prog 42 #[.pointer (some ⟨g, 0, none⟩), .int .i64 av] w fun e w' => e = .returned (.tuple #[.int .i64 (D.stpO av), .int .i64 (D.stpE av)]) ∧ Runs g w w' (dvC (D.stpD av) H) := by
  have HB := Lib.hid hB
  have HO := Lib.hid hO
  have k5 : w.cell? ⟨g, 5, none⟩ = some (.bool D.rdy) := hB.cell 5
  have k0 : w.cell? ⟨g, 0, none⟩ = some (.int .i64 D.i) := hB.cell 0
  have k12 : w.cell? ⟨g, 12, none⟩ = some (.int .i64 D.sp) := hB.cell 12
  have k6 : w.cell? ⟨g, 6, none⟩ = some (.slice H.L H.l H.lc) := hB.cell 6
  have f12 := hB.free 12
  by_cases h1 : D.rdy = true
  · rw [h1] at k5
    by_cases h2 : 0 ≤ av ∧ av < D.i
    · have d1 : decide (av < (0 : Int)) = false := decide_eq_false (by omega)
      have d2 : decide (D.i ≤ av) = false := decide_eq_false (by omega)
      obtain ⟨a, rfl⟩ : ∃ a : Nat, av = a := ⟨av.toNat, by omega⟩
      have hai : a < i := by have := hO.ei; omega
      have hal : a < H.l := by have := hR.cs.1; have := hO.cl; omega
      have hcs : Hid (D.cs.getD ((a : Nat) : Int).toNat 0 = D.cs.getD a 0) := Lib.hid (by rw [Int.toNat_natCast])
      have hco := hO.cost hai
      have hcn1 := hO.cnt.1
      have hcn2 := hO.cnt.2.2
      obtain ⟨bL, oL, hL, hbL, hcL⟩ := hR.cs.at_ hal
      rw [hL] at k6
      have kc := (hb.cell (p := ⟨bL, oL + a, none⟩) hbL).trans hcL
      generalize hcost : D.cs.getD a 0 = cost at hco kc hcL hcs
      have HAF := Lib.hid (fun (r : Bool) (hr : r = decide (D.tm ≤ 1125899906842624 - cost)) => paffords g D H cost r w hB hco hr)
      by_cases h3 : D.sp < 1125899906842624
      · have d3 : decide ((1125899906842624 : Int) ≤ D.sp) = false := decide_eq_false (by omega)
        by_cases h4 : D.tm ≤ 1125899906842624 - cost
        · have HA2 := Lib.hid (HAF.out true (decide_eq_true h4).symm)
          have hE : D.stpE a = 0 := by unfold DD.stpE; rw [if_pos h1, if_pos h2, hcs.out, if_pos ⟨h3, h4⟩]
          obtain ⟨s, hs⟩ : ∃ s : Nat, D.s = s := ⟨D.s.toNat, by have := hO.s0; omega⟩
          have hsn : s < n := by have := hO.s1; omega
          have hnl : H.n = n := by rw [← hO.m.nxl]; exact hR.nx.1.symm
          have hml : H.m = n := by rw [← hO.m.otl]; exact hR.ot.1.symm
          obtain ⟨g1, p1, A1, m1, n1, hA, hg1, hd1, hr1⟩ := hR.nx.at_ (k := s) (by omega)
          obtain ⟨g2, p2, A2, m2, n2, hBB, hg2, hd2, hr2⟩ := hR.ot.at_ (k := s) (by omega)
          have hi1 := (hO.m.row s hsn).1
          have hi2 := (hO.m.row s hsn).2.1
          have hl1 := hr1.1
          have hl2 := hr2.1
          obtain rfl : m1 = i := by omega
          obtain rfl : m2 = m1 := by omega
          obtain ⟨g3, p3, rfl, hg3, hy1⟩ := hr1.at_ hai
          obtain ⟨g4, p4, rfl, hg4, hy2⟩ := hr2.at_ hai
          rw [hO.m.nN_eq hsn hai] at hy1
          change w0.cell? _ = some (.int .i64 (oN D.ot s a)) at hy2
          have hor : 0 ≤ oN D.ot s a ∧ oN D.ot s a ≤ 1048576 := by have h := (hO.m.row s hsn).2.2 a hai; exact ⟨h.2.2.1, h.2.2.2⟩
          have hT : Hid ((nN D.nx D.s.toNat ((a : Nat) : Int).toNat : Int) = (nN D.nx s a : Nat)) := Lib.hid (by rw [hs, Int.toNat_natCast, Int.toNat_natCast])
          have hU : Hid (oN D.ot D.s.toNat ((a : Nat) : Int).toNat = oN D.ot s a) := Lib.hid (by rw [hs, Int.toNat_natCast, Int.toNat_natCast])
          generalize nN D.nx s a = t at hy1 hT
          generalize oN D.ot s a = o at hy2 hU hor
          have w1 : IntKind.i64.wrap (D.sp + 1) = D.sp + 1 := by rw [IntKind.wrap_i64]; omega
          have w2 : IntKind.i64.wrap (D.tm + cost) = D.tm + cost := by rw [IntKind.wrap_i64]; omega
          have tr : ∀ (g o : Nat) (v : Value), g < w0.heap.size → w0.cell? ⟨g, o, none⟩ = some v → ∀ W, Below w0.heap.size w0 W → W.cell? ⟨g, o, none⟩ = some v := fun g o v h h2 W hW => (hW.cell (p := ⟨g, o, none⟩) h).trans h2
          have E1 := Lib.hid (tr _ _ _ hg1 hd1)
          have E2 := Lib.hid (tr _ _ _ hg2 hd2)
          have E3 := Lib.hid (tr _ _ _ hg3 hy1)
          have E4 := Lib.hid (tr _ _ _ hg4 hy2)
          have EC := Lib.hid (tr _ _ _ hbL hcL)
          have HBB := Lib.hid hb
          have hal2 : (a : Int) < (H.l : Int) := by omega
          have HDI := Lib.hid (fun (W : World) (hB : Blk W g (dvC { D with s := (t : Int), sp := D.sp + 1, tm := D.tm + cost } H) 84) => pdisturb g { D with s := (t : Int), sp := D.sp + 1, tm := D.tm + cost } H o W hB hO.pos hor hO.sd)
          have hst : Hid (D.stpD (a : Int) = DD.dist { D with s := (t : Int), sp := D.sp + 1, tm := D.tm + cost } ∧ D.stpO (a : Int) = rcv (Drx D.sd 10000 : Int) D.f1 D.f2 o) := Lib.hid ⟨by
            unfold DD.stpD; rw [if_pos hE]; unfold DD.stp DD.dist; rw [hT.out, hcs.out, h1]; congr 1; show (!crs _ _ _ _) = if crs _ _ _ _ = true then false else true; cases crs (Drx D.sd 10000 : Int) D.f1 D.f2 D.f3 <;> rfl, by unfold DD.stpO; rw [if_pos hE, hU.out]⟩
          have HE := Lib.hid hE
          have HS := Lib.hid hs
          have HH := Lib.hid hA
          have HH2 := Lib.hid hBB
          have HL := Lib.hid hL
          have HNL := Lib.hid hnl
          have HML := Lib.hid hml
          clear tr hy1 hy2 hd1 hd2 hcL hg1 hg2 hg3 hg4 hbL hi1 hi2 hl1 hl2 hr1 hr2 HAF h1 h2 h3 h4 hE hB hO hR hcost hs hco hcn1 hcn2 hT hU hcs hA hBB hL hb
          go_enter Try.func42, Try.ntmps42
          go_wp2_with fail
          refine HA2.out.mono ?_
          rintro e w2' ⟨rfl, rfl⟩
          go_wp2_with fail
          obtain ⟨W1, hW1⟩ : ∃ W1, W1 = w.setCell ⟨g, 12, none⟩ (.int .i64 (D.sp + 1)) := ⟨_, rfl⟩
          have l1 : Runs g w W1 (dvC { D with sp := D.sp + 1 } H) := by rw [hW1]; exact (Runs.start HB.out).set 12 (.int .i64 (D.sp + 1))
          have b1 := l1.blk
          rw [← hW1]
          have L1 := Lib.hid l1
          clear hW1 k5 k0 k12 k6 f12 kc
          have hl0 := HBB.out.trans (l1.below.mono hg)
          have k14 : W1.cell? ⟨g, 14, none⟩ = some (.int .i64 D.tm) := b1.cell 14
          have k6 : W1.cell? ⟨g, 6, none⟩ = some (.slice (some ⟨bL, oL, none⟩) H.l H.lc) := by rw [← HL.out]; exact b1.cell 6
          have kc := EC.out W1 hl0
          have f14 := b1.free 14
          have hS1 : W1.drew.cell? ⟨g, 14, none⟩ = some (.int .i64 D.tm) ∧ W1.drew.cell? ⟨g, 6, none⟩ = some (.slice (some ⟨bL, oL, none⟩) H.l H.lc) ∧ W1.drew.cell? ⟨bL, oL + a, none⟩ = some (.int .i64 cost) := ⟨k14, k6, kc⟩
          clear b1 l1 hl0
          refine wp_region_heldX (X := fun k => ([18] : List Nat).contains k) (S := fun W => W.cell? ⟨g, 14, none⟩ = some (.int .i64 D.tm) ∧ W.cell? ⟨g, 6, none⟩ = some (.slice (some ⟨bL, oL, none⟩) H.l H.lc) ∧ W.cell? ⟨bL, oL + a, none⟩ = some (.int .i64 cost)) (by kernel_rfl) ?_
          refine wpAnyX_pure (i := 0) (v := ?_) rfl (by kernel_rfl) (by kernel_rfl) (by kernel_rfl) (fun _ _ _ h => h) (Or.inl ⟨by rfl, ?_⟩) ?_
          rotate_left
          · (intro W _; go_simp; try with_reducible rfl)
          (try simp only [Act.put, List.getElem_toArray, List.getElem_cons_zero, List.getElem_cons_succ, List.setIfInBounds_toArray, List.set_cons_zero, List.set_cons_succ])
          refine wpAnyX_pure (i := 1) (v := ?_) rfl (by kernel_rfl) (by kernel_rfl) (by kernel_rfl) (fun _ _ _ h => h) (Or.inl ⟨by rfl, ?_⟩) ?_
          rotate_left
          · (intro W _; go_simp; try with_reducible rfl)
          (try simp only [Act.put, List.getElem_toArray, List.getElem_cons_zero, List.getElem_cons_succ, List.setIfInBounds_toArray, List.set_cons_zero, List.set_cons_succ])
          refine wpAnyX_pure (i := 2) (v := ?_) rfl (by kernel_rfl) (by kernel_rfl) (by kernel_rfl) (fun _ _ _ h => h) (Or.inl ⟨by rfl, ?_⟩) ?_
          rotate_left
          · (intro W _; go_simp; try with_reducible rfl)
          (try simp only [Act.put, List.getElem_toArray, List.getElem_cons_zero, List.getElem_cons_succ, List.setIfInBounds_toArray, List.set_cons_zero, List.set_cons_succ])
          refine wpAnyX_pure (i := 3) (v := ?_) rfl (by kernel_rfl) (by kernel_rfl) (by kernel_rfl) (fun _ _ _ h => h) (Or.inl ⟨by rfl, ?_⟩) ?_
          rotate_left
          · (intro W _; go_simp; try with_reducible rfl)
          (try simp only [Act.put, List.getElem_toArray, List.getElem_cons_zero, List.getElem_cons_succ, List.setIfInBounds_toArray, List.set_cons_zero, List.set_cons_succ])
          refine wpAnyX_takeL (L := [18]) (i := 4) (v := ?_) rfl (by kernel_rfl) (by kernel_rfl) (by kernel_rfl) (by kernel_rfl) (fun _ _ _ h => h) (Or.inl ⟨by rfl, ?_⟩) (hS1) ?_
          rotate_left
          · (intro W hSW; (try dsimp only at hSW); obtain ⟨z0, z1, z2⟩ := hSW; go_simp; try with_reducible rfl)
          (try simp only [Act.put, List.getElem_toArray, List.getElem_cons_zero, List.getElem_cons_succ, List.setIfInBounds_toArray, List.set_cons_zero, List.set_cons_succ])
          refine wpAnyX_pure (i := 5) (v := ?_) rfl (by kernel_rfl) (by kernel_rfl) (by kernel_rfl) (fun _ _ _ h => h) (Or.inl ⟨by rfl, ?_⟩) ?_
          rotate_left
          · (intro W _; go_simp; try with_reducible rfl)
          (try simp only [Act.put, List.getElem_toArray, List.getElem_cons_zero, List.getElem_cons_succ, List.setIfInBounds_toArray, List.set_cons_zero, List.set_cons_succ])
          refine wpAnyX_pure (i := 6) (v := ?_) rfl (by kernel_rfl) (by kernel_rfl) (by kernel_rfl) (fun _ _ _ h => h) (Or.inl ⟨by rfl, ?_⟩) ?_
          rotate_left
          · (intro W _; go_simp; try with_reducible rfl)
          (try simp only [Act.put, List.getElem_toArray, List.getElem_cons_zero, List.getElem_cons_succ, List.setIfInBounds_toArray, List.set_cons_zero, List.set_cons_succ])
          refine wpAnyX_pure (i := 7) (v := ?_) rfl (by kernel_rfl) (by kernel_rfl) (by kernel_rfl) (fun _ _ _ h => h) (Or.inl ⟨by rfl, ?_⟩) ?_
          rotate_left
          · (intro W _; go_simp; try with_reducible rfl)
          (try simp only [Act.put, List.getElem_toArray, List.getElem_cons_zero, List.getElem_cons_succ, List.setIfInBounds_toArray, List.set_cons_zero, List.set_cons_succ])
          refine wpAnyX_pure (i := 8) (v := ?_) rfl (by kernel_rfl) (by kernel_rfl) (by kernel_rfl) (fun _ _ _ h => h) (Or.inl ⟨by rfl, ?_⟩) ?_
          rotate_left
          · (intro W _; go_simp; try with_reducible rfl)
          (try simp only [Act.put, List.getElem_toArray, List.getElem_cons_zero, List.getElem_cons_succ, List.setIfInBounds_toArray, List.set_cons_zero, List.set_cons_succ])
          refine wpAnyX_pure (i := 9) (v := ?_) rfl (by kernel_rfl) (by kernel_rfl) (by kernel_rfl) (fun _ _ _ h => h) (Or.inl ⟨by rfl, ?_⟩) ?_
          rotate_left
          · (intro W _; go_simp; try with_reducible rfl)
          (try simp only [Act.put, List.getElem_toArray, List.getElem_cons_zero, List.getElem_cons_succ, List.setIfInBounds_toArray, List.set_cons_zero, List.set_cons_succ])
          refine wpAnyX_takeL (L := [18]) (i := 10) (v := ?_) rfl (by kernel_rfl) (by kernel_rfl) (by kernel_rfl) (by kernel_rfl) (fun _ _ _ h => h) (Or.inl ⟨by rfl, ?_⟩) (hS1) ?_
          rotate_left
          · (intro W hSW; (try dsimp only at hSW); obtain ⟨z0, z1, z2⟩ := hSW; go_simp; try with_reducible rfl)
          (try simp only [Act.put, List.getElem_toArray, List.getElem_cons_zero, List.getElem_cons_succ, List.setIfInBounds_toArray, List.set_cons_zero, List.set_cons_succ])
          refine wpAnyX_pure (i := 11) (v := ?_) rfl (by kernel_rfl) (by kernel_rfl) (by kernel_rfl) (fun _ _ _ h => h) (Or.inl ⟨by rfl, ?_⟩) ?_
          rotate_left
          · (intro W _; go_simp; try with_reducible rfl)
          (try simp only [Act.put, List.getElem_toArray, List.getElem_cons_zero, List.getElem_cons_succ, List.setIfInBounds_toArray, List.set_cons_zero, List.set_cons_succ])
          refine wpAnyX_pure (i := 12) (v := ?_) rfl (by kernel_rfl) (by kernel_rfl) (by kernel_rfl) (fun _ _ _ h => h) (Or.inl ⟨by rfl, ?_⟩) ?_
          rotate_left
          · (intro W _; go_simp; try with_reducible rfl)
          (try simp only [Act.put, List.getElem_toArray, List.getElem_cons_zero, List.getElem_cons_succ, List.setIfInBounds_toArray, List.set_cons_zero, List.set_cons_succ])
          refine wpAnyX_takeL (L := [18]) (i := 13) (v := ?_) rfl (by kernel_rfl) (by kernel_rfl) (by kernel_rfl) (by kernel_rfl) (fun _ _ _ h => h) (Or.inl ⟨by rfl, ?_⟩) (hS1) ?_
          rotate_left
          · (intro W hSW; (try dsimp only at hSW); obtain ⟨z0, z1, z2⟩ := hSW; go_simp; try with_reducible rfl)
          (try simp only [Act.put, List.getElem_toArray, List.getElem_cons_zero, List.getElem_cons_succ, List.setIfInBounds_toArray, List.set_cons_zero, List.set_cons_succ])
          refine wpAnyX_pure (i := 14) (v := ?_) rfl (by kernel_rfl) (by kernel_rfl) (by kernel_rfl) (fun _ _ _ h => h) (Or.inl ⟨by rfl, ?_⟩) ?_
          rotate_left
          · (intro W _; go_simp; try with_reducible rfl)
          (try simp only [Act.put, List.getElem_toArray, List.getElem_cons_zero, List.getElem_cons_succ, List.setIfInBounds_toArray, List.set_cons_zero, List.set_cons_succ])
          refine wpAnyX_pure (i := 15) (v := ?_) rfl (by kernel_rfl) (by kernel_rfl) (by kernel_rfl) (fun _ _ _ h => h) (Or.inl ⟨by rfl, ?_⟩) ?_
          rotate_left
          · (intro W _; go_simp; try with_reducible rfl)
          (try simp only [Act.put, List.getElem_toArray, List.getElem_cons_zero, List.getElem_cons_succ, List.setIfInBounds_toArray, List.set_cons_zero, List.set_cons_succ])
          refine wpAnyX_pure (i := 16) (v := ?_) rfl (by kernel_rfl) (by kernel_rfl) (by kernel_rfl) (fun _ _ _ h => h) (Or.inl ⟨by rfl, ?_⟩) ?_
          rotate_left
          · (intro W _; go_simp; try with_reducible rfl)
          (try simp only [Act.put, List.getElem_toArray, List.getElem_cons_zero, List.getElem_cons_succ, List.setIfInBounds_toArray, List.set_cons_zero, List.set_cons_succ])
          refine wpAnyX_pure (i := 17) (v := ?_) rfl (by kernel_rfl) (by kernel_rfl) (by kernel_rfl) (fun _ _ _ h => h) (Or.inl ⟨by rfl, ?_⟩) ?_
          rotate_left
          · (intro W _; go_simp; try with_reducible rfl)
          (try simp only [Act.put, List.getElem_toArray, List.getElem_cons_zero, List.getElem_cons_succ, List.setIfInBounds_toArray, List.set_cons_zero, List.set_cons_succ])
          refine wpAnyX_one (i := 18) rfl (by kernel_rfl) (fun K hK => ?_)
          go_simp
          refine hK.out _ _ (fun h => absurd h (by decide)) ?_
          (try simp only [Act.put, List.getElem_toArray, List.getElem_cons_zero, List.getElem_cons_succ, List.setIfInBounds_toArray, List.set_cons_zero, List.set_cons_succ])
          refine wpAnyX_done (by kernel_rfl) ?_ _
          obtain ⟨W2, hW2⟩ : ∃ W2, W2 = (W1.setCell ⟨g, 14, none⟩ (.int .i64 (D.tm + cost))).drew := ⟨_, rfl⟩
          have l2 : Runs g w W2 (dvC { D with sp := D.sp + 1, tm := D.tm + cost } H) := by rw [hW2]; exact (L1.out.set 14 (.int .i64 (D.tm + cost))).drew 1
          have b2 := l2.blk
          rw [← hW2]
          have L2 := Lib.hid l2
          clear hW2 k14 k6 kc f14 hS1
          have hl0 := HBB.out.trans (l2.below.mono hg)
          have k2 : W2.cell? ⟨g, 2, none⟩ = some (.slice (some ⟨g1, p1, none⟩) n H.c) := by rw [← HH.out, ← HNL.out]; exact b2.cell 2
          have k3 : W2.cell? ⟨g, 3, none⟩ = some (.slice (some ⟨g2, p2, none⟩) n H.d) := by rw [← HH2.out, ← HML.out]; exact b2.cell 3
          have k4 : W2.cell? ⟨g, 4, none⟩ = some (.int .i64 s) := by rw [← HS.out]; exact b2.cell 4
          have f4 := b2.free 4
          have e1 := E1.out W2 hl0
          have e2 := E2.out W2 hl0
          have e3 := E3.out W2 hl0
          have e4 := E4.out W2 hl0
          clear b2 l2 hl0
          go_wp2
          go_quiet (fail)
          go_wp2_with fail
          have hS2 : ∀ k, (W2.drewN k).drew.cell? ⟨g, 2, none⟩ = some (.slice (some ⟨g1, p1, none⟩) n H.c) ∧ (W2.drewN k).drew.cell? ⟨g, 4, none⟩ = some (.int .i64 s) ∧ (W2.drewN k).drew.cell? ⟨g1, p1 + s, none⟩ = some (.slice (some ⟨g3, p3, none⟩) m2 n1) ∧ (W2.drewN k).drew.cell? ⟨g3, p3 + a, none⟩ = some (.int .i64 t) := fun _ => ⟨k2, k4, e1, e3⟩
          refine wp_region_heldX (X := fun k => ([20] : List Nat).contains k) (S := fun W => W.cell? ⟨g, 2, none⟩ = some (.slice (some ⟨g1, p1, none⟩) n H.c) ∧ W.cell? ⟨g, 4, none⟩ = some (.int .i64 s) ∧ W.cell? ⟨g1, p1 + s, none⟩ = some (.slice (some ⟨g3, p3, none⟩) m2 n1) ∧ W.cell? ⟨g3, p3 + a, none⟩ = some (.int .i64 t)) (by kernel_rfl) ?_
          refine wpAnyX_pure (i := 0) (v := ?_) rfl (by kernel_rfl) (by kernel_rfl) (by kernel_rfl) (fun _ _ _ h => h) (Or.inl ⟨by rfl, ?_⟩) ?_
          rotate_left
          · (intro W _; go_simp; try with_reducible rfl)
          (try simp only [Act.put, List.getElem_toArray, List.getElem_cons_zero, List.getElem_cons_succ, List.setIfInBounds_toArray, List.set_cons_zero, List.set_cons_succ])
          refine wpAnyX_pure (i := 1) (v := ?_) rfl (by kernel_rfl) (by kernel_rfl) (by kernel_rfl) (fun _ _ _ h => h) (Or.inl ⟨by rfl, ?_⟩) ?_
          rotate_left
          · (intro W _; go_simp; try with_reducible rfl)
          (try simp only [Act.put, List.getElem_toArray, List.getElem_cons_zero, List.getElem_cons_succ, List.setIfInBounds_toArray, List.set_cons_zero, List.set_cons_succ])
          refine wpAnyX_pure (i := 2) (v := ?_) rfl (by kernel_rfl) (by kernel_rfl) (by kernel_rfl) (fun _ _ _ h => h) (Or.inl ⟨by rfl, ?_⟩) ?_
          rotate_left
          · (intro W _; go_simp; try with_reducible rfl)
          (try simp only [Act.put, List.getElem_toArray, List.getElem_cons_zero, List.getElem_cons_succ, List.setIfInBounds_toArray, List.set_cons_zero, List.set_cons_succ])
          refine wpAnyX_pure (i := 3) (v := ?_) rfl (by kernel_rfl) (by kernel_rfl) (by kernel_rfl) (fun _ _ _ h => h) (Or.inl ⟨by rfl, ?_⟩) ?_
          rotate_left
          · (intro W _; go_simp; try with_reducible rfl)
          (try simp only [Act.put, List.getElem_toArray, List.getElem_cons_zero, List.getElem_cons_succ, List.setIfInBounds_toArray, List.set_cons_zero, List.set_cons_succ])
          refine wpAnyX_pure (i := 4) (v := ?_) rfl (by kernel_rfl) (by kernel_rfl) (by kernel_rfl) (fun _ _ _ h => h) (Or.inl ⟨by rfl, ?_⟩) ?_
          rotate_left
          · (intro W _; go_simp; try with_reducible rfl)
          (try simp only [Act.put, List.getElem_toArray, List.getElem_cons_zero, List.getElem_cons_succ, List.setIfInBounds_toArray, List.set_cons_zero, List.set_cons_succ])
          refine wpAnyX_pure (i := 5) (v := ?_) rfl (by kernel_rfl) (by kernel_rfl) (by kernel_rfl) (fun _ _ _ h => h) (Or.inl ⟨by rfl, ?_⟩) ?_
          rotate_left
          · (intro W _; go_simp; try with_reducible rfl)
          (try simp only [Act.put, List.getElem_toArray, List.getElem_cons_zero, List.getElem_cons_succ, List.setIfInBounds_toArray, List.set_cons_zero, List.set_cons_succ])
          refine wpAnyX_takeL (L := [20]) (i := 6) (v := ?_) rfl (by kernel_rfl) (by kernel_rfl) (by kernel_rfl) (by kernel_rfl) (fun _ _ _ h => h) (Or.inl ⟨by rfl, ?_⟩) (hS2 _) ?_
          rotate_left
          · (intro W hSW; (try dsimp only at hSW); obtain ⟨z0, z1, z2, z3⟩ := hSW; go_simp; try with_reducible rfl)
          (try simp only [Act.put, List.getElem_toArray, List.getElem_cons_zero, List.getElem_cons_succ, List.setIfInBounds_toArray, List.set_cons_zero, List.set_cons_succ])
          refine wpAnyX_pure (i := 7) (v := ?_) rfl (by kernel_rfl) (by kernel_rfl) (by kernel_rfl) (fun _ _ _ h => h) (Or.inl ⟨by rfl, ?_⟩) ?_
          rotate_left
          · (intro W _; go_simp; try with_reducible rfl)
          (try simp only [Act.put, List.getElem_toArray, List.getElem_cons_zero, List.getElem_cons_succ, List.setIfInBounds_toArray, List.set_cons_zero, List.set_cons_succ])
          refine wpAnyX_pure (i := 8) (v := ?_) rfl (by kernel_rfl) (by kernel_rfl) (by kernel_rfl) (fun _ _ _ h => h) (Or.inl ⟨by rfl, ?_⟩) ?_
          rotate_left
          · (intro W _; go_simp; try with_reducible rfl)
          (try simp only [Act.put, List.getElem_toArray, List.getElem_cons_zero, List.getElem_cons_succ, List.setIfInBounds_toArray, List.set_cons_zero, List.set_cons_succ])
          refine wpAnyX_pure (i := 9) (v := ?_) rfl (by kernel_rfl) (by kernel_rfl) (by kernel_rfl) (fun _ _ _ h => h) (Or.inl ⟨by rfl, ?_⟩) ?_
          rotate_left
          · (intro W _; go_simp; try with_reducible rfl)
          (try simp only [Act.put, List.getElem_toArray, List.getElem_cons_zero, List.getElem_cons_succ, List.setIfInBounds_toArray, List.set_cons_zero, List.set_cons_succ])
          refine wpAnyX_pure (i := 10) (v := ?_) rfl (by kernel_rfl) (by kernel_rfl) (by kernel_rfl) (fun _ _ _ h => h) (Or.inl ⟨by rfl, ?_⟩) ?_
          rotate_left
          · (intro W _; go_simp; try with_reducible rfl)
          (try simp only [Act.put, List.getElem_toArray, List.getElem_cons_zero, List.getElem_cons_succ, List.setIfInBounds_toArray, List.set_cons_zero, List.set_cons_succ])
          refine wpAnyX_takeL (L := [20]) (i := 11) (v := ?_) rfl (by kernel_rfl) (by kernel_rfl) (by kernel_rfl) (by kernel_rfl) (fun _ _ _ h => h) (Or.inl ⟨by rfl, ?_⟩) (hS2 _) ?_
          rotate_left
          · (intro W hSW; (try dsimp only at hSW); obtain ⟨z0, z1, z2, z3⟩ := hSW; go_simp; try with_reducible rfl)
          (try simp only [Act.put, List.getElem_toArray, List.getElem_cons_zero, List.getElem_cons_succ, List.setIfInBounds_toArray, List.set_cons_zero, List.set_cons_succ])
          refine wpAnyX_pure (i := 12) (v := ?_) rfl (by kernel_rfl) (by kernel_rfl) (by kernel_rfl) (fun _ _ _ h => h) (Or.inl ⟨by rfl, ?_⟩) ?_
          rotate_left
          · (intro W _; go_simp; try with_reducible rfl)
          (try simp only [Act.put, List.getElem_toArray, List.getElem_cons_zero, List.getElem_cons_succ, List.setIfInBounds_toArray, List.set_cons_zero, List.set_cons_succ])
          refine wpAnyX_takeL (L := [20]) (i := 13) (v := ?_) rfl (by kernel_rfl) (by kernel_rfl) (by kernel_rfl) (by kernel_rfl) (fun _ _ _ h => h) (Or.inl ⟨by rfl, ?_⟩) (hS2 _) ?_
          rotate_left
          · (intro W hSW; (try dsimp only at hSW); obtain ⟨z0, z1, z2, z3⟩ := hSW; go_simp; try with_reducible rfl)
          (try simp only [Act.put, List.getElem_toArray, List.getElem_cons_zero, List.getElem_cons_succ, List.setIfInBounds_toArray, List.set_cons_zero, List.set_cons_succ])
          refine wpAnyX_pure (i := 14) (v := ?_) rfl (by kernel_rfl) (by kernel_rfl) (by kernel_rfl) (fun _ _ _ h => h) (Or.inl ⟨by rfl, ?_⟩) ?_
          rotate_left
          · (intro W _; go_simp; try with_reducible rfl)
          (try simp only [Act.put, List.getElem_toArray, List.getElem_cons_zero, List.getElem_cons_succ, List.setIfInBounds_toArray, List.set_cons_zero, List.set_cons_succ])
          refine wpAnyX_pure (i := 15) (v := ?_) rfl (by kernel_rfl) (by kernel_rfl) (by kernel_rfl) (fun _ _ _ h => h) (Or.inl ⟨by rfl, ?_⟩) ?_
          rotate_left
          · (intro W _; go_simp; try with_reducible rfl)
          (try simp only [Act.put, List.getElem_toArray, List.getElem_cons_zero, List.getElem_cons_succ, List.setIfInBounds_toArray, List.set_cons_zero, List.set_cons_succ])
          refine wpAnyX_takeL (L := [20]) (i := 16) (v := ?_) rfl (by kernel_rfl) (by kernel_rfl) (by kernel_rfl) (by kernel_rfl) (fun _ _ _ h => h) (Or.inl ⟨by rfl, ?_⟩) (hS2 _) ?_
          rotate_left
          · (intro W hSW; (try dsimp only at hSW); obtain ⟨z0, z1, z2, z3⟩ := hSW; go_simp; try with_reducible rfl)
          (try simp only [Act.put, List.getElem_toArray, List.getElem_cons_zero, List.getElem_cons_succ, List.setIfInBounds_toArray, List.set_cons_zero, List.set_cons_succ])
          refine wpAnyX_pure (i := 17) (v := ?_) rfl (by kernel_rfl) (by kernel_rfl) (by kernel_rfl) (fun _ _ _ h => h) (Or.inl ⟨by rfl, ?_⟩) ?_
          rotate_left
          · (intro W _; go_simp; try with_reducible rfl)
          (try simp only [Act.put, List.getElem_toArray, List.getElem_cons_zero, List.getElem_cons_succ, List.setIfInBounds_toArray, List.set_cons_zero, List.set_cons_succ])
          refine wpAnyX_pure (i := 18) (v := ?_) rfl (by kernel_rfl) (by kernel_rfl) (by kernel_rfl) (fun _ _ _ h => h) (Or.inl ⟨by rfl, ?_⟩) ?_
          rotate_left
          · (intro W _; go_simp; try with_reducible rfl)
          (try simp only [Act.put, List.getElem_toArray, List.getElem_cons_zero, List.getElem_cons_succ, List.setIfInBounds_toArray, List.set_cons_zero, List.set_cons_succ])
          refine wpAnyX_pure (i := 19) (v := ?_) rfl (by kernel_rfl) (by kernel_rfl) (by kernel_rfl) (fun _ _ _ h => h) (Or.inl ⟨by rfl, ?_⟩) ?_
          rotate_left
          · (intro W _; go_simp; try with_reducible rfl)
          (try simp only [Act.put, List.getElem_toArray, List.getElem_cons_zero, List.getElem_cons_succ, List.setIfInBounds_toArray, List.set_cons_zero, List.set_cons_succ])
          refine wpAnyX_one (i := 20) rfl (by kernel_rfl) (fun K hK => ?_)
          go_simp
          refine hK.out _ _ (fun h => absurd h (by decide)) ?_
          (try simp only [Act.put, List.getElem_toArray, List.getElem_cons_zero, List.getElem_cons_succ, List.setIfInBounds_toArray, List.set_cons_zero, List.set_cons_succ])
          refine wpAnyX_done (by kernel_rfl) ?_ _
          clear hS2 e1 e2 e3 e4 k2 k3 k4 f4
          go_wp2_with fail
          refine (HDI.out ((W2.drewN _).setCell ⟨g, 4, none⟩ (.int .i64 (t : Int))) (((L2.out.drew _).set 4 (.int .i64 (t : Int))).blk)).mono ?_
          rintro e w9 ⟨rfl, l9⟩
          have L9 := Lib.hid (((L2.out.drew _).set 4 (.int .i64 (t : Int))).andThen l9)
          clear l9
          go_wp2
          go_ret2
          exact ⟨by rw [HE.out, hst.out.2]; rfl, by rw [hst.out.1]; exact L9.out⟩
        · have HA2 := Lib.hid (HAF.out false (decide_eq_false h4).symm)
          have hE : D.stpE a = 11 := by unfold DD.stpE; rw [if_pos h1, if_pos h2, hcs.out, if_neg fun h => h4 h.2]
          have HR : Hid (D.stpE a = 11 ∧ D.stpO a = 0 ∧ D.stpD a = D) := Lib.hid ⟨hE, by unfold DD.stpO; rw [if_neg (by rw [hE]; decide)], by unfold DD.stpD; rw [if_neg (by rw [hE]; decide)]⟩
          have hal2 : (a : Int) < (H.l : Int) := by omega
          clear HAF h1 h2 h3 h4 hE hB hO hR hL hcost hco hcn1 hcn2 hcs hb hbL hcL f12
          go_enter Try.func42, Try.ntmps42
          go_wp2_with fail
          refine HA2.out.mono ?_
          rintro e w2' ⟨rfl, rfl⟩
          go_wp2
          go_ret2
          exact ⟨by rw [HR.out.1, HR.out.2.1]; rfl, by rw [HR.out.2.2]; exact Runs.start HB.out⟩
      · have d3 : decide ((1125899906842624 : Int) ≤ D.sp) = true := decide_eq_true (by omega)
        have hE : D.stpE a = 11 := by unfold DD.stpE; rw [if_pos h1, if_pos h2, if_neg fun h => h3 h.1]
        have HR : Hid (D.stpE a = 11 ∧ D.stpO a = 0 ∧ D.stpD a = D) := Lib.hid ⟨hE, by unfold DD.stpO; rw [if_neg (by rw [hE]; decide)], by unfold DD.stpD; rw [if_neg (by rw [hE]; decide)]⟩
        clear HAF h1 h2 h3 hE hB hO hR hL hcost hco hcn1 hcn2 hcs hb hbL hcL f12
        go_enter Try.func42, Try.ntmps42
        go_wp2
        go_ret2
        exact ⟨by rw [HR.out.1, HR.out.2.1]; rfl, by rw [HR.out.2.2]; exact Runs.start HB.out⟩
    · have hE : D.stpE av = 2 := by unfold DD.stpE; rw [if_pos h1, if_neg h2]
      have HR : Hid (D.stpE av = 2 ∧ D.stpO av = 0 ∧ D.stpD av = D) := Lib.hid ⟨hE, by unfold DD.stpO; rw [if_neg (by rw [hE]; decide)], by unfold DD.stpD; rw [if_neg (by rw [hE]; decide)]⟩
      by_cases h0 : av < 0
      · have d1 : decide (av < (0 : Int)) = true := decide_eq_true h0
        clear h0 h1 h2 hE hB hO hR hb f12
        go_enter Try.func42, Try.ntmps42
        go_wp2
        go_ret2
        exact ⟨by rw [HR.out.1, HR.out.2.1]; rfl, by rw [HR.out.2.2]; exact Runs.start HB.out⟩
      · have d1 : decide (av < (0 : Int)) = false := decide_eq_false h0
        have d2 : decide (D.i ≤ av) = true := decide_eq_true (by omega)
        clear h0 h1 h2 hE hB hO hR hb f12
        go_enter Try.func42, Try.ntmps42
        go_wp2
        go_ret2
        exact ⟨by rw [HR.out.1, HR.out.2.1]; rfl, by rw [HR.out.2.2]; exact Runs.start HB.out⟩
  · have hE : D.stpE av = 10 := by unfold DD.stpE; rw [if_neg h1]
    have HR : Hid (D.stpE av = 10 ∧ D.stpO av = 0 ∧ D.stpD av = D) := Lib.hid ⟨hE, by unfold DD.stpO; rw [if_neg (by rw [hE]; decide)], by unfold DD.stpD; rw [if_neg (by rw [hE]; decide)]⟩
    have h1 : D.rdy = false := by simpa using h1
    rw [h1] at k5
    clear h1 hE hB hO hR hb f12
    go_enter Try.func42, Try.ntmps42
    go_wp2
    go_ret2
    exact ⟨by rw [HR.out.1, HR.out.2.1]; rfl, by rw [HR.out.2.2]; exact Runs.start HB.out⟩
end Go.Proofs.Ytcoihbpadbnilaa
end

section
/- device: the runner's query. -/
namespace Go.Proofs.Ytcoihbpadbnilaa
open Go.RowKit

theorem DevR.stp {w : World} {D : DD} {H : DH} (h : DevR w D H) (a : Int) : DevR w (D.stpD a) H := by
  unfold DD.stpD
  by_cases e : D.stpE a = 0
  · rw [if_pos e]; exact ⟨h.nx, h.ot, h.cs⟩
  · rw [if_neg e]; exact h
theorem DevR.rst {w : World} {D : DD} {H : DH} (h : DevR w D H) : DevR w D.rstD H := by
  unfold DD.rstD
  by_cases e : D.canR
  · rw [if_pos e]; exact ⟨h.nx, h.ot, h.cs⟩
  · rw [if_neg e]; exact h
theorem DevR.rst1 {w : World} {D : DD} {H : DH} (h : DevR w D H) : DevR w D.rst H := ⟨h.nx, h.ot, h.cs⟩

theorem qgo_err {D : DD} {a : Int} {w acc : List Int} (h : ¬ D.stpE a = 0) : qgo D (a :: w) acc = (D, [], D.stpE a) := by
  show (if D.stpE a = 0 then _ else _) = _
  rw [if_neg h]
theorem qgo_fault {D : DD} {a : Int} {w acc : List Int} (h : D.stpE a = 0) (h1 : D.stpO a = -1 ∨ (D.stpD a).rdy = false ∧ ¬ w = []) : qgo D (a :: w) acc = (D.stpD a, [], 14) := by
  show (if D.stpE a = 0 then (if _ then _ else _) else _) = _
  rw [if_pos h, if_pos h1]
theorem qgo_on {D : DD} {a : Int} {w acc : List Int} (h : D.stpE a = 0) (h1 : ¬ (D.stpO a = -1 ∨ (D.stpD a).rdy = false ∧ ¬ w = [])) : qgo D (a :: w) acc = qgo (D.stpD a) w (acc ++ [D.stpO a]) := by
  show (if D.stpE a = 0 then (if _ then _ else _) else _) = _
  rw [if_pos h, if_neg h1]
theorem drop_cons {xs : List Int} {q : Nat} (h : q < xs.length) : xs.drop q = xs.getD q 0 :: xs.drop (q + 1) := by
  rw [List.drop_eq_getElem_cons h, List.getD_eq_getElem?_getD, List.getElem?_eq_getElem h]; rfl

set_option maxHeartbeats 8000000 in
set_option maxRecDepth 100000 in
theorem pquery19 (g i st n : Nat) (D : DD) (H : DH) (X : Option Addr) (k cx : Nat) (xs : List Int) (w0 w : World) (hB : Blk w g (dvC D H) 84) (hO : DOk D i st n) (hR : DevR w0 D H) (hX : Ints w0 X k xs) (hk : k ≤ 1024) (hb : Below w0.heap.size w0 w) (hg : w0.heap.size ≤ g) :
    Calls Try.prog 44 #[.pointer (some ⟨g, 0, none⟩), .slice X k cx] w fun e w' => ∃ A' c', e = .returned (.tuple #[.slice A' (D.qry xs).2.1.length c', .int .i64 (D.qry xs).2.2]) ∧ Owned w' w.heap.size (.slice A' (D.qry xs).2.1.length c') (D.qry xs).2.1 ∧ Runs g w w' (dvC (D.qry xs).1 H) := by
  have hgl := hB.lt
  have hxl := hX.1
  have HXL := Lib.hid hxl
  have HRS := Lib.hid (preset g D H w hB hO.aff hO.cnt)
  have HB := Lib.hid hB
  have HBB := Lib.hid hb
  have HX := Lib.hid hX
  by_cases hc : D.canR
  · have hE : D.rstE = 0 := by unfold DD.rstE; rw [if_pos hc]
    have hD : D.rstD = D.rst := by unfold DD.rstD; rw [if_pos hc]
    have hQ : D.qry xs = qgo D.rst xs [] := by unfold DD.qry; rw [if_pos hc]
    rw [hE, hD] at HRS
    have HQ := Lib.hid hQ
    have HO := Lib.hid (hO.rst hc)
    have HR := Lib.hid hR.rst1
    have HST := Lib.hid (fun (Dq : DD) (x : Int) (W : World) (hBq : Blk W g (dvC Dq H) 84) (hOq : DOk Dq i st n) (hRq : DevR w0 Dq H) (hbq : Below w0.heap.size w0 W) => pstep19 g i st n Dq H x w0 W hBq hOq hRq hbq hg)
    generalize D.qry xs = R at HQ ⊢
    clear hE hD hQ hc hB hO hR hb hX hxl
    go_enter Try.func44, Try.ntmps44
    go_wp2_with fail
    refine HRS.out.mono ?_
    rintro e w1 ⟨rfl, r1⟩
    have R1 := Lib.hid r1
    clear r1
    go_wp2
    go_loopw [20, 7] (fun kv ov wr => ∃ (q : Nat) (Dq : DD) (acc : List Int) (A' : Option Addr) (c' : Nat), q ≤ k ∧ kv = .int .i64 q ∧ ov = .slice A' acc.length c' ∧ Owned wr w.heap.size (.slice A' acc.length c') acc ∧ acc.length = q ∧ DOk Dq i st n ∧ DevR w0 Dq H ∧ qgo Dq (xs.drop q) acc = R ∧ Runs g w wr (dvC Dq H)) (fun kv _ _ => k - (intOf kv).toNat)
    case atStart => exact ⟨0, D.rst, [], none, 0, Nat.zero_le _, rfl, rfl, Owned.nil _ _, rfl, HO.out, HR.out, by rw [List.drop_zero]; exact HQ.out.symm, R1.out⟩
    case round =>
      obtain ⟨q, Dq, acc, A', c', hq, rfl, rfl, hown, hal, hOq, hRq, hgo, hrun⟩ := hrel
      have HOW := Lib.hid hown
      have HAL := Lib.hid hal
      have HOQ := Lib.hid hOq
      have HRQ := Lib.hid hRq
      have HRU := Lib.hid hrun
      have hbw : Below w0.heap.size w0 wr := HBB.out.trans (hrun.below.mono hg)
      by_cases hlt : q < k
      · obtain ⟨bx, ox, hXe, hbx, hcx⟩ := HX.out.at_ hlt
        have kx := (hbw.cell (p := ⟨bx, ox + q, none⟩) hbx).trans hcx
        rw [drop_cons (by rw [HXL.out]; exact hlt)] at hgo
        have hrest : (xs.drop (q + 1) = []) ↔ q + 1 = k := by
          rw [List.drop_eq_nil_iff, HXL.out]; omega
        have HRE := Lib.hid hrest
        have HXE := Lib.hid hXe
        subst hXe
        generalize xs.getD q 0 = x at kx hgo hcx
        have HGO := Lib.hid hgo
        have HS1 := Lib.hid (HST.out Dq x wr hrun.blk hOq hRq hbw)
        have HO2 := Lib.hid (hOq.stpD x)
        have HR2 := Lib.hid (hRq.stp x)
        have hzr := hrun.below.size
        clear hown hal hOq hRq hgo hrun hbw hbx hcx hrest
        by_cases hE : Dq.stpE x = 0
        · rw [hE] at HS1
          have HE := Lib.hid hE
          generalize ho : Dq.stpO x = o at HS1
          generalize hd : Dq.stpD x = D2 at HS1 HO2 HR2
          have HOO := Lib.hid ho
          have HDD := Lib.hid hd
          clear hE ho hd
          go_wp2_with fail
          refine HS1.out.mono ?_
          rintro e w3 ⟨rfl, r3⟩
          have R3 := Lib.hid (HRU.out.andThen r3)
          have k5 : w3.cell? ⟨g, 5, none⟩ = some (.bool D2.rdy) := r3.blk.cell 5
          have HOW3 := Lib.hid (HOW.out.keptT (r3.kept _ (by decide)))
          have wk : IntKind.i64.wrap ((k : Int) - 1) = (k : Int) - 1 := by rw [IntKind.wrap_i64]; omega
          have hz3 := r3.below.size
          clear r3 kx
          by_cases h1 : o = -1
          · subst h1
            have HF := Lib.hid (qgo_fault (w := xs.drop (q + 1)) (acc := acc) HE.out (.inl HOO.out))
            rw [HGO.out] at HF
            by_cases hl : (q : Int) = (k : Int) - 1
            · have d1 : ((q : Int) == (k : Int) - 1) = true := by rw [hl]; simp
              clear hl
              go_wp2
              go_ret2
              exact ⟨none, 0, by rw [HF.out]; rfl, by rw [HF.out]; exact Owned.nil _ _, by rw [HF.out, HDD.out]; exact R3.out⟩
            · have d1 : ((q : Int) == (k : Int) - 1) = false := by rw [beq_eq_false_iff_ne]; exact hl
              clear hl
              go_wp2
              go_ret2
              exact ⟨none, 0, by rw [HF.out]; rfl, by rw [HF.out]; exact Owned.nil _ _, by rw [HF.out, HDD.out]; exact R3.out⟩
          · have d0 : (o == (-1 : Int)) = false := by rw [beq_eq_false_iff_ne]; exact h1
            have hnext : Hid (¬ (D2.rdy = false ∧ ¬ q + 1 = k) → qgo D2 (xs.drop (q + 1)) (acc ++ [o]) = R) := Lib.hid (fun h => by
              rw [← HGO.out, qgo_on HE.out (by rw [HOO.out, HDD.out, HRE.out]; exact fun hh => hh.elim h1 h), HOO.out, HDD.out])
            have hflt : Hid (D2.rdy = false ∧ ¬ q + 1 = k → R = (D2, [], 14)) := Lib.hid (fun h => by
              rw [← HGO.out, qgo_fault HE.out (.inr (by rw [HDD.out, HRE.out]; exact h)), HDD.out])
            obtain ⟨A2, c2, w4, hrn, ho4, hb4, _⟩ := run_append_one HOW3.out o (Nat.le_trans hzr hz3) (by rw [HAL.out]; omega)
            have HO4 := Lib.hid ho4
            have HB4 := Lib.hid hb4
            clear h1 ho4 hb4
            by_cases hl : (q : Int) = (k : Int) - 1
            · have d1 : ((q : Int) == (k : Int) - 1) = true := by rw [hl]; simp
              have HN := Lib.hid (hnext.out (fun h => h.2 (by omega)))
              clear hl hnext hflt
              cases hrd : D2.rdy
              all_goals
                rw [hrd] at k5
                clear hrd
                go_wp2_with (at_builtin; refine Lib.wpList_append_run _ rfl _ _ _ _ rfl _ _ rfl rfl _ _ hrn ?_)
                go_roundw
                case rel => exact ⟨q + 1, D2, acc ++ [o], A2, c2, by omega, by go_num, by rw [List.length_append]; rfl, by rw [List.length_append]; exact HO4.out, by rw [List.length_append, HAL.out]; rfl, HO2.out, HR2.out, HN.out, R3.out.grow hgl HB4.out⟩
                case measure => simp [intOf]; omega
            · have d1 : ((q : Int) == (k : Int) - 1) = false := by rw [beq_eq_false_iff_ne]; exact hl
              cases hrd : D2.rdy
              · have HF := Lib.hid (hflt.out ⟨hrd, by omega⟩)
                rw [hrd] at k5
                clear hl hnext hflt hrd hrn
                go_wp2
                go_ret2
                exact ⟨none, 0, by rw [HF.out]; rfl, by rw [HF.out]; exact Owned.nil _ _, by rw [HF.out]; exact R3.out⟩
              · have HN := Lib.hid (hnext.out (fun h => by rw [hrd] at h; exact absurd h.1 (by decide)))
                rw [hrd] at k5
                clear hl hnext hflt hrd
                go_wp2_with (at_builtin; refine Lib.wpList_append_run _ rfl _ _ _ _ rfl _ _ rfl rfl _ _ hrn ?_)
                go_roundw
                case rel => exact ⟨q + 1, D2, acc ++ [o], A2, c2, by omega, by go_num, by rw [List.length_append]; rfl, by rw [List.length_append]; exact HO4.out, by rw [List.length_append, HAL.out]; rfl, HO2.out, HR2.out, HN.out, R3.out.grow hgl HB4.out⟩
                case measure => simp [intOf]; omega
        · have HF := Lib.hid (qgo_err (w := xs.drop (q + 1)) (acc := acc) hE)
          rw [HGO.out] at HF
          have hd : Dq.stpD x = Dq := by unfold DD.stpD; rw [if_neg hE]
          rw [hd] at HS1
          generalize Dq.stpE x = ev at HS1 HF hE
          have hne : (ev != 0) = true := by simpa using hE
          generalize Dq.stpO x = o at HS1
          clear hE hd HO2 HR2
          go_wp2_with fail
          refine HS1.out.mono ?_
          rintro e w3 ⟨rfl, r3⟩
          have R3 := Lib.hid (HRU.out.andThen r3)
          clear r3
          go_wp2
          go_ret2
          exact ⟨none, 0, by rw [HF.out]; rfl, by rw [HF.out]; exact Owned.nil _ _, by rw [HF.out]; exact R3.out⟩
      · obtain rfl : q = k := by omega
        have hnil : xs.drop q = [] := List.drop_eq_nil_of_le (by rw [HXL.out]; exact Nat.le_refl _)
        rw [hnil] at hgo
        have HGO : Hid (R = (Dq, acc, 0)) := Lib.hid hgo.symm
        clear hown hal hOq hRq hgo hrun hbw hnil
        go_wp2
        go_ret2
        exact ⟨A', c', by rw [HGO.out]; rfl, by rw [HGO.out]; exact HOW.out, by rw [HGO.out]; exact HRU.out⟩
  · have hE : D.rstE = 11 := by unfold DD.rstE; rw [if_neg hc]
    have hD : D.rstD = D := by unfold DD.rstD; rw [if_neg hc]
    have hQ : D.qry xs = (D, [], 11) := by unfold DD.qry; rw [if_neg hc]
    rw [hE, hD] at HRS
    rw [hQ]
    clear hE hD hQ hc hB hO hR hb hX hxl
    go_enter Try.func44, Try.ntmps44
    go_wp2_with fail
    refine HRS.out.mono ?_
    rintro e w1 ⟨rfl, r1⟩
    have R1 := Lib.hid r1
    clear r1
    go_wp2
    go_ret2
    exact ⟨none, 0, rfl, Owned.nil _ _, R1.out⟩
end Go.Proofs.Ytcoihbpadbnilaa
end

section
/- device: Reset. -/
namespace Go.Proofs.Ytcoihbpadbnilaa
open Go.RowKit

theorem results_dev2 {fn : Func} {p u : Tmp} (h : fn.results = #[.cell p 32, .tmp u]) (tmps : Array Value) (w : World) (g : Nat) (cs : Array Value) (hs : cs.size = 15)
    (hp : tmps.getD p undef = .pointer (some ⟨g, 0, none⟩)) (hg : Blk w g cs 32) :
    (results fn tmps).run Try.prog w = .ok (.tuple #[.agg cs, tmps.getD u undef]) w := by
  rw [results_cell_tmp h, hp]
  have hl := run_loadVar_row (P := Try.prog) w g 32 32 cs (0, 0) _ hg Try.underlying32 rfl (by rw [hs]; kernel_rfl)
  simp [asAddr, hl]
theorem dvC_def (D : DD) (H : DH) : dvC D H = #[.int .i64 D.i, .int .i64 D.st, .slice H.A H.n H.c, .slice H.B H.m H.d, .int .i64 D.s, .bool D.rdy, .slice H.L H.l H.lc, .int .i64 D.rc, .int .i64 D.f1, .int .i64 D.f2, .int .i64 D.f3, .int .u64 (D.sd : Int), .int .i64 D.sp, .int .i64 D.rs, .int .i64 D.tm] := rfl
def zcD : Array Value := #[.int .i64 0, .int .i64 0, .slice none 0 0, .slice none 0 0, .int .i64 0, .bool false, .slice none 0 0, .int .i64 0, .int .i64 0, .int .i64 0, .int .i64 0, .int .u64 0, .int .i64 0, .int .i64 0, .int .i64 0]

/-- Reset, Step and Query of a device, valid or not. -/
def DD.resetD (D : DD) : DD := if D.err = 0 then D.rstD else D
def DD.resetE (D : DD) : Int := if D.err = 0 then D.rstE else D.err
noncomputable def DD.stepD (D : DD) (a : Int) : DD := if D.err = 0 then D.stpD a else D
noncomputable def DD.stepO (D : DD) (a : Int) : Int := if D.err = 0 then D.stpO a else 0
def DD.stepE (D : DD) (a : Int) : Int := if D.err = 0 then D.stpE a else D.err
noncomputable def DD.query (D : DD) (w : List Int) : DD × List Int × Int := if D.err = 0 then (if chk w D.i = 0 then D.qry w else (D, [], chk w D.i)) else (D, [], D.err)

theorem pcopiedO {D : DD} {H : DH} {i st n : Nat} (w : World) (hO : DOk D i st n) (hD : DevR w D H) :
    Calls Try.prog 30 #[dvA D H] w fun e w' => ∃ H', e = .returned (dvA D H') ∧ DevN w' w.heap.size D H' ∧ Below w.heap.size w w' := by
  have e1 := hD.nx.1
  have e2 := hD.ot.1
  have e3 := hO.m.nxl
  have e4 := hO.m.otl
  have e5 := hO.m.n2
  have e6 := hO.m.i2
  refine pcopied19 D H w hD (by omega) (by omega) (fun xs hx => ?_) (fun xs hx => ?_)
  · obtain ⟨s, hs, rfl⟩ := List.getElem_of_mem hx
    have := (hO.m.row s (by omega)).1
    rw [List.getD_eq_getElem?_getD, List.getElem?_eq_getElem hs] at this
    have : D.nx[s].length = i := this
    omega
  · obtain ⟨s, hs, rfl⟩ := List.getElem_of_mem hx
    have := (hO.m.row s (by omega)).2.1
    rw [List.getD_eq_getElem?_getD, List.getElem?_eq_getElem hs] at this
    have : D.ot[s].length = i := this
    omega

set_option maxHeartbeats 4000000 in
set_option maxRecDepth 100000 in
theorem pdreset (D : DD) (H : DH) (w : World) (hD : DevR w D H) (hs : D.sd < 18446744073709551616) :
    Calls Try.prog 17 #[dvA D H] w fun e w' => ∃ H', e = .returned (.tuple #[dvA D.resetD H', .int .i64 D.resetE]) ∧ DevG w w' H D.resetD H' ∧ Below w.heap.size w w' := by
  obtain ⟨w1, hw1⟩ : ∃ w1, w1 = w.alloc (.cells (dvC D H) 32) := ⟨_, rfl⟩
  obtain ⟨w2, hw2⟩ : ∃ w2, w2 = w1.alloc (.cells zcD 32) := ⟨_, rfl⟩
  have b1 : Below w.heap.size w w1 := by rw [hw1]; exact alloc_below _ _
  have z1 : w1.heap.size = w.heap.size + 1 := by rw [hw1]; simp
  have b2 : Below w1.heap.size w1 w2 := by rw [hw2]; exact alloc_below _ _
  have z2 : w2.heap.size = w.heap.size + 1 + 1 := by rw [hw2]; simp [z1]
  have m1 : Blk w1 w.heap.size (dvC D H) 32 := by rw [hw1]; exact blk_new _ _ _
  have m2 : Blk w2 (w.heap.size + 1) zcD 32 := by rw [hw2, ← z1]; exact blk_new _ _ _
  have b12 := bt b1 b2
  have HB2 := Lib.hid b12
  have HBK := Lib.hid (fun (W : World) (h : Below w2.heap.size w2 W) => (m1.on b2).on h)
  have HBZ := Lib.hid (fun (W : World) (h : Below w2.heap.size w2 W) => m2.on h)
  have HD := Lib.hid (fun (W : World) (h : Below w2.heap.size w2 W) => (hD.below b12).below h)
  have HD0 := Lib.hid hD
  have HV := Lib.hid (fun (r : Int) (hr : r = D.err) => pdvalid D H r w2 (hD.below b12) hr)
  rw [hw1] at hw2
  have HW2 := Lib.hid hw2
  have hbk := m1.on b2
  rw [hw2] at hbk
  have HBW := Lib.hid hbk
  clear hw1 hw2 b1 b2 m1 m2 b12 hD hbk
  have hszD : ∀ D H, (dvC D H).size = 15 := fun _ _ => rfl
  have HSZ := Lib.hid hszD
  unfold dvA
  unfold dvA at HV
  unfold zcD at HBW HW2
  go_enter Try.func17, Try.ntmps17
  go_wp2_with (refine wpList_load_row rfl 32 _ rfl w.heap.size rfl 32 (dvC D H) (0, 0) _ HBW.out Try.underlying32 rfl (by rw [HSZ.out]; kernel_rfl) ?_)
  rw [← HW2.out]
  refine (HV.out _ rfl).mono ?_
  rintro e w3 ⟨rfl, b3⟩
  have HB3 := Lib.hid b3
  have hb3k := HBK.out _ b3
  have HB3K := Lib.hid hb3k
  clear b3 hb3k
  by_cases h0 : D.err = 0
  · have HR : Hid (D.resetD = D.rstD ∧ D.resetE = D.rstE) := Lib.hid ⟨by unfold DD.resetD; rw [if_pos h0], by unfold DD.resetE; rw [if_pos h0]⟩
    obtain ⟨i, st, n, hO⟩ := DD.err_zero h0 hs
    have HOK := Lib.hid hO
    clear hO
    rw [h0]
    clear h0 hszD
    go_upto_region 4 with fail
    refine wp_region_list ?_
    refine wpList_load_row rfl 32 _ rfl w.heap.size rfl 32 (dvC D H) (0, 0) _ HB3K.out Try.underlying32 rfl (by rw [HSZ.out]; kernel_rfl) ?_
    unfold dvC
    go_upto_region 5 with fail
    rw [← dvC_def D H]
    obtain ⟨W4, hW4⟩ : ∃ W4, W4 = w3.alloc (.cells (dvC D H) 84) := ⟨_, rfl⟩
    have b4 : Below w3.heap.size w3 W4 := by rw [hW4]; exact alloc_below _ _
    have m4 : Blk W4 w3.heap.size (dvC D H) 84 := by rw [hW4]; exact blk_new _ _ _
    have HRS := Lib.hid (preset w3.heap.size D H W4 m4 HOK.out.aff HOK.out.cnt)
    have HB4 := Lib.hid b4
    rw [← hW4]
    clear hW4 b4 m4
    go_wp2_with fail
    refine HRS.out.mono ?_
    rintro e w5 ⟨rfl, r5⟩
    have HR5 := Lib.hid r5
    have HBK5 := Lib.hid r5.blk
    clear r5
    go_upto_region 6 with fail
    refine wp_region_list ?_
    go_wp2_with (refine wpList_load_row rfl 32 _ rfl w3.heap.size rfl 84 (dvC D.rstD H) (0, 0) _ HBK5.out Try.underlying32 rfl (by rw [HSZ.out]; kernel_rfl) ?_)
    have hb5 : Below w3.heap.size w3 w5 := HB4.out.trans HR5.out.below
    have hb25 := HB3.out.trans (hb5.mono HB3.out.size)
    have HB25 := Lib.hid hb25
    have HCP := Lib.hid (pcopiedO w5 HOK.out.rstD (HD.out _ hb25).rst)
    clear hb5 hb25
    refine HCP.out.mono ?_
    rintro e w6 ⟨H', rfl, hD6, b6⟩
    have hb26 := HB25.out.trans (b6.mono HB25.out.size)
    have hz6 := HBZ.out _ hb26
    have HZ6 := Lib.hid hz6
    have hF : Hid (DevN (w6.setRow (w.heap.size + 1) (dvC D.rstD H')) w.heap.size D.rstD H' ∧ Below w.heap.size w (w6.setRow (w.heap.size + 1) (dvC D.rstD H')) ∧ Blk (w6.setRow (w.heap.size + 1) (dvC D.rstD H')) (w.heap.size + 1) (dvC D.rstD H') 32) := Lib.hid (by
      refine ⟨(hD6.row (by have := HB25.out.size; omega) _).lower (by have := HB25.out.size; omega), below_setRow (HB2.out.trans (hb26.mono HB2.out.size)) (by omega) _, hz6.row _⟩)
    clear hD6 b6 hb26 hz6
    go_wp2_with (refine wpList_store_row rfl 32 _ _ rfl (w.heap.size + 1) (dvC D.rstD H') rfl rfl 32 zcD HZ6.out (by rw [HSZ.out]; kernel_rfl) (by rw [HSZ.out]; rfl) (dvC_one _ _) ?_)
    refine bodyPost_ret (results_dev2 (by rfl) _ _ (w.heap.size + 1) (dvC D.rstD H') (HSZ.out _ _) rfl hF.out.2.2) rfl ⟨H', by rw [HR.out.1, HR.out.2]; rfl, by rw [HR.out.1]; exact .inl hF.out.1, hF.out.2.1⟩
  · have HR : Hid (D.resetD = D ∧ D.resetE = D.err) := Lib.hid ⟨by unfold DD.resetD; rw [if_neg h0], by unfold DD.resetE; rw [if_neg h0]⟩
    have hz3 := HBZ.out _ HB3.out
    have hF : Hid (DevR (w3.setRow (w.heap.size + 1) (dvC D H)) D H ∧ Below w.heap.size w (w3.setRow (w.heap.size + 1) (dvC D H)) ∧ Blk (w3.setRow (w.heap.size + 1) (dvC D H)) (w.heap.size + 1) (dvC D H) 32) := Lib.hid (by
      have hb : Below w.heap.size w (w3.setRow (w.heap.size + 1) (dvC D H)) := below_setRow (HB2.out.trans (HB3.out.mono HB2.out.size)) (by omega) _
      exact ⟨HD0.out.below hb, hb, hz3.row _⟩)
    have HZ3 := Lib.hid hz3
    generalize D.err = v at h0 HR ⊢
    have hne : (v != 0) = true := by simpa using h0
    clear h0 hz3 hszD
    go_upto_region 3 with fail
    refine wp_region_list ?_
    refine wpList_load_row rfl 32 _ rfl w.heap.size rfl 32 (dvC D H) (0, 0) _ HB3K.out Try.underlying32 rfl (by rw [HSZ.out]; kernel_rfl) ?_
    go_wp2_with (refine wpList_store_row rfl 32 _ _ rfl (w.heap.size + 1) (dvC D H) rfl rfl 32 zcD HZ3.out (by rw [HSZ.out]; kernel_rfl) (by rw [HSZ.out]; rfl) (dvC_one _ _) ?_)
    refine bodyPost_ret (results_dev2 (by rfl) _ _ (w.heap.size + 1) (dvC D H) (HSZ.out _ _) rfl hF.out.2.2) rfl ⟨H, by rw [HR.out.1, HR.out.2]; rfl, by rw [HR.out.1]; exact .inr ⟨rfl, hF.out.1⟩, hF.out.2.1⟩
end Go.Proofs.Ytcoihbpadbnilaa
end

section
/- device: Step. -/
namespace Go.Proofs.Ytcoihbpadbnilaa
open Go.RowKit

theorem results_dev3 {fn : Func} {p u v : Tmp} (h : fn.results = #[.cell p 32, .tmp u, .tmp v]) (tmps : Array Value) (w : World) (g : Nat) (cs : Array Value) (hs : cs.size = 15)
    (hp : tmps.getD p undef = .pointer (some ⟨g, 0, none⟩)) (hg : Blk w g cs 32) :
    (results fn tmps).run Try.prog w = .ok (.tuple #[.agg cs, tmps.getD u undef, tmps.getD v undef]) w := by
  have hl := run_loadVar_row (P := Try.prog) w g 32 32 cs (0, 0) _ hg Try.underlying32 rfl (by rw [hs]; kernel_rfl)
  unfold results
  rw [h]
  have hp2 : tmps[p]?.getD undef = .pointer (some ⟨g, 0, none⟩) := by simpa [Array.getD_eq_getD_getElem?] using hp
  simp [hp2, asAddr, hl]

set_option maxHeartbeats 4000000 in
set_option maxRecDepth 100000 in
theorem pdstep (D : DD) (H : DH) (a : Int) (w : World) (hD : DevR w D H) (hs : D.sd < 18446744073709551616) :
    Calls Try.prog 19 #[dvA D H, .int .i64 a] w fun e w' => ∃ H', e = .returned (.tuple #[dvA (D.stepD a) H', .int .i64 (D.stepO a), .int .i64 (D.stepE a)]) ∧ DevG w w' H (D.stepD a) H' ∧ Below w.heap.size w w' := by
  obtain ⟨w1, hw1⟩ : ∃ w1, w1 = w.alloc (.cells (dvC D H) 32) := ⟨_, rfl⟩
  obtain ⟨w2, hw2⟩ : ∃ w2, w2 = w1.alloc (.cells zcD 32) := ⟨_, rfl⟩
  have b1 : Below w.heap.size w w1 := by rw [hw1]; exact alloc_below _ _
  have z1 : w1.heap.size = w.heap.size + 1 := by rw [hw1]; simp
  have b2 : Below w1.heap.size w1 w2 := by rw [hw2]; exact alloc_below _ _
  have z2 : w2.heap.size = w.heap.size + 1 + 1 := by rw [hw2]; simp [z1]
  have m1 : Blk w1 w.heap.size (dvC D H) 32 := by rw [hw1]; exact blk_new _ _ _
  have m2 : Blk w2 (w.heap.size + 1) zcD 32 := by rw [hw2, ← z1]; exact blk_new _ _ _
  have b12 := bt b1 b2
  have HB2 := Lib.hid b12
  have HBK := Lib.hid (fun (W : World) (h : Below w2.heap.size w2 W) => (m1.on b2).on h)
  have HBZ := Lib.hid (fun (W : World) (h : Below w2.heap.size w2 W) => m2.on h)
  have HD := Lib.hid (fun (W : World) (h : Below w2.heap.size w2 W) => (hD.below b12).below h)
  have HD0 := Lib.hid hD
  have HV := Lib.hid (fun (r : Int) (hr : r = D.err) => pdvalid D H r w2 (hD.below b12) hr)
  rw [hw1] at hw2
  have HW2 := Lib.hid hw2
  have hbk := m1.on b2
  rw [hw2] at hbk
  have HBW := Lib.hid hbk
  clear hw1 hw2 b1 b2 m1 m2 b12 hD hbk
  have hszD : ∀ D H, (dvC D H).size = 15 := fun _ _ => rfl
  have HSZ := Lib.hid hszD
  unfold dvA
  unfold dvA at HV
  unfold zcD at HBW HW2
  go_enter Try.func19, Try.ntmps19
  go_wp2_with (refine wpList_load_row rfl 32 _ rfl w.heap.size rfl 32 (dvC D H) (0, 0) _ HBW.out Try.underlying32 rfl (by rw [HSZ.out]; kernel_rfl) ?_)
  rw [← HW2.out]
  refine (HV.out _ rfl).mono ?_
  rintro e w3 ⟨rfl, b3⟩
  have HB3 := Lib.hid b3
  have hb3k := HBK.out _ b3
  have HB3K := Lib.hid hb3k
  clear b3 hb3k
  by_cases h0 : D.err = 0
  · have HR : Hid (D.stepD a = D.stpD a ∧ D.stepO a = D.stpO a ∧ D.stepE a = D.stpE a) := Lib.hid ⟨by unfold DD.stepD; rw [if_pos h0], by unfold DD.stepO; rw [if_pos h0], by unfold DD.stepE; rw [if_pos h0]⟩
    obtain ⟨i, st, n, hO⟩ := DD.err_zero h0 hs
    have HOK := Lib.hid hO
    clear hO
    rw [h0]
    clear h0 hszD
    go_upto_region 4 with fail
    refine wp_region_list ?_
    refine wpList_load_row rfl 32 _ rfl w.heap.size rfl 32 (dvC D H) (0, 0) _ HB3K.out Try.underlying32 rfl (by rw [HSZ.out]; kernel_rfl) ?_
    unfold dvC
    go_upto_region 5 with fail
    rw [← dvC_def D H]
    obtain ⟨W4, hW4⟩ : ∃ W4, W4 = w3.alloc (.cells (dvC D H) 84) := ⟨_, rfl⟩
    have b4 : Below w3.heap.size w3 W4 := by rw [hW4]; exact alloc_below _ _
    have m4 : Blk W4 w3.heap.size (dvC D H) 84 := by rw [hW4]; exact blk_new _ _ _
    have HRS := Lib.hid (pstep19 w3.heap.size i st n D H a w2 W4 m4 HOK.out (HD.out _ (Below.refl _ _)) (bt HB3.out b4) HB3.out.size)
    have HB4 := Lib.hid b4
    rw [← hW4]
    clear hW4 b4 m4
    go_wp2_with fail
    refine HRS.out.mono ?_
    rintro e w5 ⟨rfl, r5⟩
    have HR5 := Lib.hid r5
    have HBK5 := Lib.hid r5.blk
    clear r5
    go_upto_region 6 with fail
    refine wp_region_list ?_
    go_wp2_with (refine wpList_load_row rfl 32 _ rfl w3.heap.size rfl 84 (dvC (D.stpD a) H) (0, 0) _ HBK5.out Try.underlying32 rfl (by rw [HSZ.out]; kernel_rfl) ?_)
    have hb5 : Below w3.heap.size w3 w5 := HB4.out.trans HR5.out.below
    have hb25 := HB3.out.trans (hb5.mono HB3.out.size)
    have HB25 := Lib.hid hb25
    have HCP := Lib.hid (pcopiedO w5 (HOK.out.stpD a) ((HD.out _ hb25).stp a))
    clear hb5 hb25
    refine HCP.out.mono ?_
    rintro e w6 ⟨H', rfl, hD6, b6⟩
    have hb26 := HB25.out.trans (b6.mono HB25.out.size)
    have hz6 := HBZ.out _ hb26
    have HZ6 := Lib.hid hz6
    have hF : Hid (DevN (w6.setRow (w.heap.size + 1) (dvC (D.stpD a) H')) w.heap.size (D.stpD a) H' ∧ Below w.heap.size w (w6.setRow (w.heap.size + 1) (dvC (D.stpD a) H')) ∧ Blk (w6.setRow (w.heap.size + 1) (dvC (D.stpD a) H')) (w.heap.size + 1) (dvC (D.stpD a) H') 32) := Lib.hid (by
      refine ⟨(hD6.row (by have := HB25.out.size; omega) _).lower (by have := HB25.out.size; omega), below_setRow (HB2.out.trans (hb26.mono HB2.out.size)) (by omega) _, hz6.row _⟩)
    clear hD6 b6 hb26 hz6
    go_wp2_with (refine wpList_store_row rfl 32 _ _ rfl (w.heap.size + 1) (dvC (D.stpD a) H') rfl rfl 32 zcD HZ6.out (by rw [HSZ.out]; kernel_rfl) (by rw [HSZ.out]; rfl) (dvC_one _ _) ?_)
    refine bodyPost_ret (results_dev3 (by rfl) _ _ (w.heap.size + 1) (dvC (D.stpD a) H') (HSZ.out _ _) rfl hF.out.2.2) rfl ⟨H', by rw [HR.out.1, HR.out.2.1, HR.out.2.2]; rfl, by rw [HR.out.1]; exact .inl hF.out.1, hF.out.2.1⟩
  · have HR : Hid (D.stepD a = D ∧ D.stepO a = 0 ∧ D.stepE a = D.err) := Lib.hid ⟨by unfold DD.stepD; rw [if_neg h0], by unfold DD.stepO; rw [if_neg h0], by unfold DD.stepE; rw [if_neg h0]⟩
    have hz3 := HBZ.out _ HB3.out
    have hF : Hid (DevR (w3.setRow (w.heap.size + 1) (dvC D H)) D H ∧ Below w.heap.size w (w3.setRow (w.heap.size + 1) (dvC D H)) ∧ Blk (w3.setRow (w.heap.size + 1) (dvC D H)) (w.heap.size + 1) (dvC D H) 32) := Lib.hid (by
      have hb : Below w.heap.size w (w3.setRow (w.heap.size + 1) (dvC D H)) := below_setRow (HB2.out.trans (HB3.out.mono HB2.out.size)) (by omega) _
      exact ⟨HD0.out.below hb, hb, hz3.row _⟩)
    have HZ3 := Lib.hid hz3
    generalize D.err = v at h0 HR ⊢
    have hne : (v != 0) = true := by simpa using h0
    clear h0 hz3 hszD
    go_upto_region 3 with fail
    refine wp_region_list ?_
    refine wpList_load_row rfl 32 _ rfl w.heap.size rfl 32 (dvC D H) (0, 0) _ HB3K.out Try.underlying32 rfl (by rw [HSZ.out]; kernel_rfl) ?_
    go_wp2_with (refine wpList_store_row rfl 32 _ _ rfl (w.heap.size + 1) (dvC D H) rfl rfl 32 zcD HZ3.out (by rw [HSZ.out]; kernel_rfl) (by rw [HSZ.out]; rfl) (dvC_one _ _) ?_)
    refine bodyPost_ret (results_dev3 (by rfl) _ _ (w.heap.size + 1) (dvC D H) (HSZ.out _ _) rfl hF.out.2.2) rfl ⟨H, by rw [HR.out.1, HR.out.2.1, HR.out.2.2]; rfl, by rw [HR.out.1]; exact .inr ⟨rfl, hF.out.1⟩, hF.out.2.1⟩
end Go.Proofs.Ytcoihbpadbnilaa
end

section
/- device: Query. -/
namespace Go.Proofs.Ytcoihbpadbnilaa
open Go.RowKit

theorem qgo_ok {i st n : Nat} : ∀ (u : List Int) (D : DD) (acc : List Int), DOk D i st n → DOk (qgo D u acc).1 i st n
  | [], _, _, h => h
  | a :: u, D, acc, h => by
    by_cases e : D.stpE a = 0
    · by_cases f : D.stpO a = -1 ∨ (D.stpD a).rdy = false ∧ ¬ u = []
      · rw [qgo_fault e f]; exact h.stpD a
      · rw [qgo_on e f]; exact qgo_ok u _ _ (h.stpD a)
    · rw [qgo_err e]; exact h
theorem qgo_dev {w : World} {H : DH} : ∀ (u : List Int) (D : DD) (acc : List Int), DevR w D H → DevR w (qgo D u acc).1 H
  | [], _, _, h => h
  | a :: u, D, acc, h => by
    by_cases e : D.stpE a = 0
    · by_cases f : D.stpO a = -1 ∨ (D.stpD a).rdy = false ∧ ¬ u = []
      · rw [qgo_fault e f]; exact h.stp a
      · rw [qgo_on e f]; exact qgo_dev u _ _ (h.stp a)
    · rw [qgo_err e]; exact h
theorem DOk.qry {D : DD} {i st n : Nat} (h : DOk D i st n) (u : List Int) : DOk (D.qry u).1 i st n := by
  unfold DD.qry
  by_cases c : D.canR
  · rw [if_pos c]; exact qgo_ok u _ _ (h.rst c)
  · rw [if_neg c]; exact h
theorem DevR.qry {w : World} {H : DH} {D : DD} (h : DevR w D H) (u : List Int) : DevR w (D.qry u).1 H := by
  unfold DD.qry
  by_cases c : D.canR
  · rw [if_pos c]; exact qgo_dev u _ _ h.rst1
  · rw [if_neg c]; exact h

set_option maxHeartbeats 4000000 in
set_option maxRecDepth 100000 in
theorem pdquery (D : DD) (H : DH) (X : Option Addr) (k cx : Nat) (xs : List Int) (w : World) (hD : DevR w D H) (hX : Ints w X k xs) (hs : D.sd < 18446744073709551616) :
    Calls Try.prog 21 #[dvA D H, .slice X k cx] w fun e w' => ∃ H' A' c', e = .returned (.tuple #[dvA (D.query xs).1 H', .slice A' (D.query xs).2.1.length c', .int .i64 (D.query xs).2.2]) ∧ Owned w' w.heap.size (.slice A' (D.query xs).2.1.length c') (D.query xs).2.1 ∧ DevG w w' H (D.query xs).1 H' ∧ Below w.heap.size w w' := by
  obtain ⟨w1, hw1⟩ : ∃ w1, w1 = w.alloc (.cells (dvC D H) 32) := ⟨_, rfl⟩
  obtain ⟨w2, hw2⟩ : ∃ w2, w2 = w1.alloc (.cells zcD 32) := ⟨_, rfl⟩
  have b1 : Below w.heap.size w w1 := by rw [hw1]; exact alloc_below _ _
  have z1 : w1.heap.size = w.heap.size + 1 := by rw [hw1]; simp
  have b2 : Below w1.heap.size w1 w2 := by rw [hw2]; exact alloc_below _ _
  have z2 : w2.heap.size = w.heap.size + 1 + 1 := by rw [hw2]; simp [z1]
  have m1 : Blk w1 w.heap.size (dvC D H) 32 := by rw [hw1]; exact blk_new _ _ _
  have m2 : Blk w2 (w.heap.size + 1) zcD 32 := by rw [hw2, ← z1]; exact blk_new _ _ _
  have b12 := bt b1 b2
  have HB2 := Lib.hid b12
  have HBK := Lib.hid (fun (W : World) (h : Below w2.heap.size w2 W) => (m1.on b2).on h)
  have HBZ := Lib.hid (fun (W : World) (h : Below w2.heap.size w2 W) => m2.on h)
  have HD := Lib.hid (fun (W : World) (h : Below w2.heap.size w2 W) => (hD.below b12).below h)
  have HD0 := Lib.hid hD
  have HX := Lib.hid (fun (W : World) (h : Below w2.heap.size w2 W) => (hX.below b12).below h)
  have HV := Lib.hid (fun (r : Int) (hr : r = D.err) => pdvalid D H r w2 (hD.below b12) hr)
  rw [hw1] at hw2
  have HW2 := Lib.hid hw2
  have hbk := m1.on b2
  rw [hw2] at hbk
  have HBW := Lib.hid hbk
  clear hw1 hw2 b1 b2 m1 m2 b12 hD hX hbk
  have hszD : ∀ D H, (dvC D H).size = 15 := fun _ _ => rfl
  have HSZ := Lib.hid hszD
  unfold dvA
  unfold dvA at HV
  unfold zcD at HBW HW2
  go_enter Try.func21, Try.ntmps21
  go_wp2_with (refine wpList_load_row rfl 32 _ rfl w.heap.size rfl 32 (dvC D H) (0, 0) _ HBW.out Try.underlying32 rfl (by rw [HSZ.out]; kernel_rfl) ?_)
  rw [← HW2.out]
  refine (HV.out _ rfl).mono ?_
  rintro e w3 ⟨rfl, b3⟩
  have HB3 := Lib.hid b3
  have hb3k := HBK.out _ b3
  have HB3K := Lib.hid hb3k
  clear b3 hb3k
  by_cases h0 : D.err = 0
  · obtain ⟨i, st, n, hO⟩ := DD.err_zero h0 hs
    have HOK := Lib.hid hO
    clear hO
    have k0 : w3.cell? ⟨w.heap.size, 0, none⟩ = some (.int .i64 D.i) := HB3K.out.cell 0
    have HCK := Lib.hid (wcheck X k cx D.i xs w3 (HX.out _ HB3.out))
    rw [h0]
    have H0 := Lib.hid h0
    clear h0 hszD
    go_wp2_with fail
    refine HCK.out.mono ?_
    rintro e w3' ⟨rfl, rfl⟩
    by_cases hc : chk xs D.i = 0
    · have HR : Hid (D.query xs = D.qry xs) := Lib.hid (by unfold DD.query; rw [if_pos H0.out, if_pos hc])
      rw [hc]
      have hk := Lib.hid (chk_zero hc).2.2.1
      have HXL := Lib.hid (HX.out _ HB3.out).1
      clear hc
      go_upto_region 7 with fail
      refine wp_region_list ?_
      refine wpList_load_row rfl 32 _ rfl w.heap.size rfl 32 (dvC D H) (0, 0) _ HB3K.out Try.underlying32 rfl (by rw [HSZ.out]; kernel_rfl) ?_
      unfold dvC
      go_upto_region 8 with fail
      rw [← dvC_def D H]
      obtain ⟨W4, hW4⟩ : ∃ W4, W4 = w3.alloc (.cells (dvC D H) 84) := ⟨_, rfl⟩
      have b4 : Below w3.heap.size w3 W4 := by rw [hW4]; exact alloc_below _ _
      have m4 : Blk W4 w3.heap.size (dvC D H) 84 := by rw [hW4]; exact blk_new _ _ _
      have HRS := Lib.hid (pquery19 w3.heap.size i st n D H X k cx xs w2 W4 m4 HOK.out (HD.out _ (Below.refl _ _)) (HX.out _ (Below.refl _ _)) (by have := hk.out; have := HXL.out; omega) (bt HB3.out b4) HB3.out.size)
      have HOQ := Lib.hid (HOK.out.qry xs)
      have HDQ := Lib.hid (fun (W : World) (h : DevR W D H) => h.qry xs)
      generalize D.qry xs = R at HR HRS HOQ HDQ
      have HB4 := Lib.hid b4
      rw [← hW4]
      clear hW4 b4 m4 k0
      go_wp2_with fail
      refine HRS.out.mono ?_
      rintro e w5 ⟨A5, c5, rfl, o5, r5⟩
      have HR5 := Lib.hid r5
      have HBK5 := Lib.hid r5.blk
      have HO5 := Lib.hid o5
      clear r5 o5
      go_upto_region 9 with fail
      refine wp_region_list ?_
      go_wp2_with (refine wpList_load_row rfl 32 _ rfl w3.heap.size rfl 84 (dvC R.1 H) (0, 0) _ HBK5.out Try.underlying32 rfl (by rw [HSZ.out]; kernel_rfl) ?_)
      have hb5 : Below w3.heap.size w3 w5 := HB4.out.trans HR5.out.below
      have hb25 := HB3.out.trans (hb5.mono HB3.out.size)
      have HB25 := Lib.hid hb25
      have HCP := Lib.hid (pcopiedO w5 HOQ.out (HDQ.out _ (HD.out _ hb25)))
      clear hb5 hb25
      refine HCP.out.mono ?_
      rintro e w6 ⟨H', rfl, hD6, b6⟩
      have hb26 := HB25.out.trans (b6.mono HB25.out.size)
      have hz6 := HBZ.out _ hb26
      have HZ6 := Lib.hid hz6
      have hF : Hid (DevN (w6.setRow (w.heap.size + 1) (dvC R.1 H')) w.heap.size R.1 H' ∧ Below w.heap.size w (w6.setRow (w.heap.size + 1) (dvC R.1 H')) ∧ Blk (w6.setRow (w.heap.size + 1) (dvC R.1 H')) (w.heap.size + 1) (dvC R.1 H') 32 ∧ Owned (w6.setRow (w.heap.size + 1) (dvC R.1 H')) w.heap.size (.slice A5 R.2.1.length c5) R.2.1) := Lib.hid (by
        have s4 : w3.heap.size ≤ W4.heap.size := HB4.out.size
        have s3 := HB3.out.size
        refine ⟨(hD6.row (by have := HB25.out.size; omega) _).lower (by have := HB25.out.size; omega), below_setRow (HB2.out.trans (hb26.mono HB2.out.size)) (by omega) _, hz6.row _, ?_⟩
        exact ((HO5.out.kept b6).keptT (hz6.keptRow (by decide) _)).lower (by omega))
      clear hD6 b6 hb26 hz6
      go_wp2_with (refine wpList_store_row rfl 32 _ _ rfl (w.heap.size + 1) (dvC R.1 H') rfl rfl 32 zcD HZ6.out (by rw [HSZ.out]; kernel_rfl) (by rw [HSZ.out]; rfl) (dvC_one _ _) ?_)
      refine bodyPost_ret (results_dev3 (by rfl) _ _ (w.heap.size + 1) (dvC R.1 H') (HSZ.out _ _) rfl hF.out.2.2.1) rfl ⟨H', A5, c5, by rw [HR.out]; rfl, by rw [HR.out]; exact hF.out.2.2.2, by rw [HR.out]; exact .inl hF.out.1, hF.out.2.1⟩
    · have HR : Hid (D.query xs = (D, [], chk xs D.i)) := Lib.hid (by unfold DD.query; rw [if_pos H0.out, if_neg hc])
      have hz3 := HBZ.out _ HB3.out
      have hF : Hid (DevR (w3.setRow (w.heap.size + 1) (dvC D H)) D H ∧ Below w.heap.size w (w3.setRow (w.heap.size + 1) (dvC D H)) ∧ Blk (w3.setRow (w.heap.size + 1) (dvC D H)) (w.heap.size + 1) (dvC D H) 32) := Lib.hid (by
        have hb : Below w.heap.size w (w3.setRow (w.heap.size + 1) (dvC D H)) := below_setRow (HB2.out.trans (HB3.out.mono HB2.out.size)) (by omega) _
        exact ⟨HD0.out.below hb, hb, hz3.row _⟩)
      have HZ3 := Lib.hid hz3
      generalize chk xs D.i = v at hc HR ⊢
      have hne : (v != 0) = true := by simpa using hc
      clear hc hz3 k0
      go_upto_region 6 with fail
      refine wp_region_list ?_
      refine wpList_load_row rfl 32 _ rfl w.heap.size rfl 32 (dvC D H) (0, 0) _ HB3K.out Try.underlying32 rfl (by rw [HSZ.out]; kernel_rfl) ?_
      go_wp2_with (refine wpList_store_row rfl 32 _ _ rfl (w.heap.size + 1) (dvC D H) rfl rfl 32 zcD HZ3.out (by rw [HSZ.out]; kernel_rfl) (by rw [HSZ.out]; rfl) (dvC_one _ _) ?_)
      refine bodyPost_ret (results_dev3 (by rfl) _ _ (w.heap.size + 1) (dvC D H) (HSZ.out _ _) rfl hF.out.2.2) rfl ⟨H, none, 0, by rw [HR.out]; rfl, by rw [HR.out]; exact Owned.nil _ _, by rw [HR.out]; exact .inr ⟨rfl, hF.out.1⟩, hF.out.2.1⟩
  · have HR : Hid (D.query xs = (D, [], D.err)) := Lib.hid (by unfold DD.query; rw [if_neg h0])
    have hz3 := HBZ.out _ HB3.out
    have hF : Hid (DevR (w3.setRow (w.heap.size + 1) (dvC D H)) D H ∧ Below w.heap.size w (w3.setRow (w.heap.size + 1) (dvC D H)) ∧ Blk (w3.setRow (w.heap.size + 1) (dvC D H)) (w.heap.size + 1) (dvC D H) 32) := Lib.hid (by
      have hb : Below w.heap.size w (w3.setRow (w.heap.size + 1) (dvC D H)) := below_setRow (HB2.out.trans (HB3.out.mono HB2.out.size)) (by omega) _
      exact ⟨HD0.out.below hb, hb, hz3.row _⟩)
    have HZ3 := Lib.hid hz3
    generalize D.err = v at h0 HR ⊢
    have hne : (v != 0) = true := by simpa using h0
    clear h0 hz3 hszD
    go_upto_region 3 with fail
    refine wp_region_list ?_
    refine wpList_load_row rfl 32 _ rfl w.heap.size rfl 32 (dvC D H) (0, 0) _ HB3K.out Try.underlying32 rfl (by rw [HSZ.out]; kernel_rfl) ?_
    go_wp2_with (refine wpList_store_row rfl 32 _ _ rfl (w.heap.size + 1) (dvC D H) rfl rfl 32 zcD HZ3.out (by rw [HSZ.out]; kernel_rfl) (by rw [HSZ.out]; rfl) (dvC_one _ _) ?_)
    refine bodyPost_ret (results_dev3 (by rfl) _ _ (w.heap.size + 1) (dvC D H) (HSZ.out _ _) rfl hF.out.2.2) rfl ⟨H, none, 0, by rw [HR.out]; rfl, by rw [HR.out]; exact Owned.nil _ _, by rw [HR.out]; exact .inr ⟨rfl, hF.out.1⟩, hF.out.2.1⟩
end Go.Proofs.Ytcoihbpadbnilaa
end

section
/- device: New. -/
namespace Go.Proofs.Ytcoihbpadbnilaa
open Go.RowKit

/-- A new device, and no device. -/
def newD (i st : Int) (nx ot : List (List Int)) (cs : List Int) (rc f1 f2 f3 : Int) (sd : Nat) : DD := ⟨i, st, nx, ot, st, false, cs, rc, f1, f2, f3, sd, 0, 0, 0⟩
def noD : DD := ⟨0, 0, [], [], 0, false, [], 0, 0, 0, 0, 0, 0, 0, 0⟩
def noH : DH := ⟨none, 0, 0, none, 0, 0, none, 0, 0⟩
theorem noR (w : World) : DevR w noD noH := ⟨⟨rfl, Nat.zero_le _, fun h => absurd h (by decide)⟩, ⟨rfl, Nat.zero_le _, fun h => absurd h (by decide)⟩, ⟨rfl, Nat.zero_le _, fun h => absurd h (by decide)⟩⟩
theorem noN (w : World) (base : Nat) : DevN w base noD noH := fun W _ => noR W
def DD.fresh (D : DD) : DD := if D.err = 0 then D else noD

set_option maxHeartbeats 8000000 in
set_option maxRecDepth 100000 in
theorem pdnew (i st rc f1 f2 f3 : Int) (A B L : Option Addr) (n c m d l lc : Nat) (nx ot : List (List Int)) (cs : List Int) (sd : Nat) (w : World) (hx : Lists w A n nx) (ho : Lists w B m ot) (hcs : Ints w L l cs) (hs : sd < 18446744073709551616) :
    Calls Try.prog 10 #[.agg #[.int .i64 i, .int .i64 st, .slice A n c, .slice B m d], .agg #[.slice L l lc, .int .i64 rc], .agg #[.int .i64 f1, .int .i64 f2, .int .i64 f3], .int .u64 (sd : Int)] w fun e w' =>
      ∃ H', e = .returned (.tuple #[dvA (newD i st nx ot cs rc f1 f2 f3 sd).fresh H', .int .i64 (newD i st nx ot cs rc f1 f2 f3 sd).err]) ∧ DevN w' w.heap.size (newD i st nx ot cs rc f1 f2 f3 sd).fresh H' ∧ Below w.heap.size w w' := by
  obtain ⟨H, hH⟩ : ∃ H : DH, H = ⟨A, n, c, B, m, d, L, l, lc⟩ := ⟨_, rfl⟩
  obtain ⟨D, hDD⟩ : ∃ D, D = newD i st nx ot cs rc f1 f2 f3 sd := ⟨_, rfl⟩
  rw [← hDD]
  obtain ⟨w1, hw1⟩ : ∃ w1, w1 = w.alloc (.cells #[.int .i64 i, .int .i64 st, .slice A n c, .slice B m d] 24) := ⟨_, rfl⟩
  obtain ⟨w2, hw2⟩ : ∃ w2, w2 = w1.alloc (.cells #[.slice L l lc, .int .i64 rc] 27) := ⟨_, rfl⟩
  obtain ⟨w3, hw3⟩ : ∃ w3, w3 = w2.alloc (.cells #[.int .i64 f1, .int .i64 f2, .int .i64 f3] 29) := ⟨_, rfl⟩
  obtain ⟨w4, hw4⟩ : ∃ w4, w4 = w3.alloc (.cells zcD 32) := ⟨_, rfl⟩
  have b1 : Below w.heap.size w w1 := by rw [hw1]; exact alloc_below _ _
  have b2 : Below w1.heap.size w1 w2 := by rw [hw2]; exact alloc_below _ _
  have b3 : Below w2.heap.size w2 w3 := by rw [hw3]; exact alloc_below _ _
  have b4 : Below w3.heap.size w3 w4 := by rw [hw4]; exact alloc_below _ _
  have z1 : w1.heap.size = w.heap.size + 1 := by rw [hw1]; simp
  have z2 : w2.heap.size = w.heap.size + 1 + 1 := by rw [hw2]; simp [z1]
  have z3 : w3.heap.size = w.heap.size + 1 + 1 + 1 := by rw [hw3]; simp [z2]
  have z4 : w4.heap.size = w.heap.size + 1 + 1 + 1 + 1 := by rw [hw4]; simp [z3]
  have m1 : Blk w4 w.heap.size #[.int .i64 i, .int .i64 st, .slice A n c, .slice B m d] 24 := ((((by rw [hw1]; exact blk_new _ _ _ : Blk w1 w.heap.size _ _)).on b2).on b3).on b4
  have m2 : Blk w4 (w.heap.size + 1) #[.slice L l lc, .int .i64 rc] 27 := (((by rw [hw2, ← z1]; exact blk_new _ _ _ : Blk w2 (w.heap.size + 1) _ _)).on b3).on b4
  have m3 : Blk w4 (w.heap.size + 1 + 1) #[.int .i64 f1, .int .i64 f2, .int .i64 f3] 29 := ((by rw [hw3, ← z2]; exact blk_new _ _ _ : Blk w3 (w.heap.size + 1 + 1) _ _)).on b4
  have m4 : Blk w4 (w.heap.size + 1 + 1 + 1) zcD 32 := by rw [hw4, ← z3]; exact blk_new _ _ _
  have b14 : Below w.heap.size w w4 := bt b1 (bt b2 (bt b3 b4))
  have k0 : w4.cell? ⟨w.heap.size, 0, none⟩ = some (.int .i64 i) := m1.cell 0
  have k1 : w4.cell? ⟨w.heap.size, 1, none⟩ = some (.int .i64 st) := m1.cell 1
  have k2 : w4.cell? ⟨w.heap.size, 2, none⟩ = some (.slice A n c) := m1.cell 2
  have k3 : w4.cell? ⟨w.heap.size, 3, none⟩ = some (.slice B m d) := m1.cell 3
  have l0 : w4.cell? ⟨w.heap.size + 1, 0, none⟩ = some (.slice L l lc) := m2.cell 0
  have l1 : w4.cell? ⟨w.heap.size + 1, 1, none⟩ = some (.int .i64 rc) := m2.cell 1
  have q0 : w4.cell? ⟨w.heap.size + 1 + 1, 0, none⟩ = some (.int .i64 f1) := m3.cell 0
  have q1 : w4.cell? ⟨w.heap.size + 1 + 1, 1, none⟩ = some (.int .i64 f2) := m3.cell 1
  have q2 : w4.cell? ⟨w.heap.size + 1 + 1, 2, none⟩ = some (.int .i64 f3) := m3.cell 2
  have hw : w4 = (((w.alloc (.cells #[.int .i64 i, .int .i64 st, .slice A n c, .slice B m d] 24)).alloc (.cells #[.slice L l lc, .int .i64 rc] 27)).alloc (.cells #[.int .i64 f1, .int .i64 f2, .int .i64 f3] 29)).alloc (.cells zcD 32) := by rw [hw4, hw3, hw2, hw1]
  obtain ⟨W5, hW5⟩ : ∃ W5, W5 = w4.alloc (.cells (dvC D H) 32) := ⟨_, rfl⟩
  have b5 : Below w4.heap.size w4 W5 := by rw [hW5]; exact alloc_below _ _
  have m5 : Blk W5 w4.heap.size (dvC D H) 32 := by rw [hW5]; exact blk_new _ _ _
  have hD : DevR W5 D H := by rw [hH, hDD]; exact ⟨(hx.below b14).below b5, (ho.below b14).below b5, (hcs.below b14).below b5⟩
  have hsd : D.sd < 18446744073709551616 := by rw [hDD]; exact hs
  have HD := Lib.hid (fun (W : World) (h : Below W5.heap.size W5 W) => hD.below h)
  have HV := Lib.hid (fun (r : Int) (hr : r = D.err) => pdvalid D H r W5 hD hr)
  have HB5 := Lib.hid b5
  have HB14 := Lib.hid b14
  have HM5 := Lib.hid (fun (W : World) (h : Below W5.heap.size W5 W) => m5.on h)
  have HZ := Lib.hid (fun (W : World) (h : Below W5.heap.size W5 W) => (m4.on b5).on h)
  have HLIT : Hid (#[.int .i64 i, .int .i64 st, .slice A n c, .slice B m d, .int .i64 st, .bool false, .slice L l lc, .int .i64 rc, .int .i64 f1, .int .i64 f2, .int .i64 f3, .int .u64 (sd : Int), .int .i64 0, .int .i64 0, .int .i64 0] = dvC D H) := Lib.hid (by rw [hH, hDD]; rfl)
  rw [hw] at k0 k1 k2 k3 l0 l1 q0 q1 q2
  have HW := Lib.hid hw
  have HW5 := Lib.hid hW5
  have hszD : ∀ D H, (dvC D H).size = 15 := fun _ _ => rfl
  have HSZ := Lib.hid hszD
  have HFR : Hid (D.fresh = if D.err = 0 then D else noD) := Lib.hid rfl
  have hok : D.err = 0 → ∃ i st n, DOk D i st n := fun h => DD.err_zero h hsd
  have HOK := Lib.hid hok
  clear hw1 hw2 hw3 hw4 hw hW5 b1 b2 b3 b4 b14 b5 m1 m2 m3 m4 m5 hD hx ho hcs hs hsd hok hszD hH hDD
  unfold zcD at HW k0 k1 k2 k3 l0 l1 q0 q1 q2
  go_enter Try.func10, Try.ntmps10
  go_upto_region 2 with fail
  rw [← HW.out, HLIT.out, ← HW5.out]
  clear k0 k1 k2 k3 l0 l1 q0 q1 q2
  refine wp_region_list ?_
  refine wpList_load_row rfl 32 _ rfl w4.heap.size (by rw [z4]; rfl) 32 (dvC D H) (0, 0) _ (HM5.out _ (Below.refl _ _)) Try.underlying32 rfl (by rw [HSZ.out]; kernel_rfl) ?_
  go_wp2_with fail
  refine (HV.out _ rfl).mono ?_
  rintro e w6 ⟨rfl, b6⟩
  have HB6 := Lib.hid b6
  clear b6
  by_cases h0 : D.err = 0
  · obtain ⟨i', st', n', hO⟩ := HOK.out h0
    have HF : Hid (D.fresh = D) := Lib.hid (by rw [HFR.out, if_pos h0])
    have HE := Lib.hid h0
    have HCP := Lib.hid (pcopiedO w6 hO (HD.out _ HB6.out))
    rw [h0]
    clear h0 hO
    go_upto_region 5 with fail
    refine wp_region_list ?_
    refine wpList_load_row rfl 32 _ rfl w4.heap.size (by rw [z4]; rfl) 32 (dvC D H) (0, 0) _ (HM5.out _ HB6.out) Try.underlying32 rfl (by rw [HSZ.out]; kernel_rfl) ?_
    go_wp2_with fail
    refine HCP.out.mono ?_
    rintro e w7 ⟨H', rfl, hD7, b7⟩
    have hz7 := HZ.out _ (bt HB6.out b7)
    have HZ7 := Lib.hid hz7
    have hF : Hid (DevN (w7.setRow (w.heap.size + 1 + 1 + 1) (dvC D H')) w.heap.size D H' ∧ Below w.heap.size w (w7.setRow (w.heap.size + 1 + 1 + 1) (dvC D H')) ∧ Blk (w7.setRow (w.heap.size + 1 + 1 + 1) (dvC D H')) (w.heap.size + 1 + 1 + 1) (dvC D H') 32) := Lib.hid (by
      have s5 : w4.heap.size ≤ W5.heap.size := HB5.out.size
      have s6 := HB6.out.size
      refine ⟨(hD7.row (by omega) _).lower (by omega), below_setRow ?_ (by omega) _, hz7.row _⟩
      exact HB14.out.trans ((HB5.out.trans ((bt HB6.out b7).mono s5)).mono (by omega)))
    clear hD7 b7 hz7
    go_wp2_with (refine wpList_store_row rfl 32 _ _ rfl (w.heap.size + 1 + 1 + 1) (dvC D H') rfl rfl 32 zcD HZ7.out (by rw [HSZ.out]; kernel_rfl) (by rw [HSZ.out]; rfl) (dvC_one _ _) ?_)
    refine bodyPost_ret (results_dev2 (by rfl) _ _ (w.heap.size + 1 + 1 + 1) (dvC D H') (HSZ.out _ _) rfl hF.out.2.2) rfl ⟨H', by rw [HF.out, HE.out]; rfl, by rw [HF.out]; exact hF.out.1, hF.out.2.1⟩
  · have HF : Hid (D.fresh = noD) := Lib.hid (by rw [HFR.out, if_neg h0])
    have hz6 := HZ.out _ HB6.out
    have HZ6 := Lib.hid hz6
    have hF : Hid (DevN (w6.setRow (w.heap.size + 1 + 1 + 1) (dvC noD noH)) w.heap.size noD noH ∧ Below w.heap.size w (w6.setRow (w.heap.size + 1 + 1 + 1) (dvC noD noH)) ∧ Blk (w6.setRow (w.heap.size + 1 + 1 + 1) (dvC noD noH)) (w.heap.size + 1 + 1 + 1) (dvC noD noH) 32) := Lib.hid (by
      have s5 : w4.heap.size ≤ W5.heap.size := HB5.out.size
      have s6 := HB6.out.size
      refine ⟨noN _ _, below_setRow ?_ (by omega) _, hz6.row _⟩
      exact HB14.out.trans ((HB5.out.trans (HB6.out.mono s5)).mono (by omega)))
    obtain ⟨v, hv⟩ : ∃ v, v = D.err := ⟨_, rfl⟩
    rw [← hv] at h0 ⊢
    have HVV := Lib.hid hv
    have hne : (v != 0) = true := by simpa using h0
    clear h0 hz6 hv
    go_wp2_with (refine wpList_store_row rfl 32 _ _ rfl (w.heap.size + 1 + 1 + 1) (dvC noD noH) rfl rfl 32 zcD HZ6.out (by rw [HSZ.out]; kernel_rfl) (by rw [HSZ.out]; rfl) (dvC_one _ _) ?_)
    refine bodyPost_ret (results_dev2 (by rfl) _ _ (w.heap.size + 1 + 1 + 1) (dvC noD noH) (HSZ.out _ _) rfl hF.out.2.2) rfl ⟨noH, by rw [HF.out, ← HVV.out]; rfl, by rw [HF.out]; exact hF.out.1, hF.out.2.1⟩
end Go.Proofs.Ytcoihbpadbnilaa
end

section
/- device: Cost. -/
namespace Go.Proofs.Ytcoihbpadbnilaa
open Go.RowKit

theorem dCost_next {cs : List Int} {rc : Int} {u : List Int} {q : Nat} (h : q < u.length) : dCost cs rc (u.take (q + 1)) = dCost cs rc (u.take q) + cs.getD (u.getD q 0).toNat 0 := by
  have e : u.take (q + 1) = u.take q ++ [u.getD q 0] := by rw [List.getD_eq_getElem?_getD]; exact take_next h
  unfold dCost
  rw [e, List.foldl_append]
  rfl
theorem dCost_range {cs : List Int} {rc : Int} (hA : dAff cs rc) (u : List Int) (hu : ∀ x, x ∈ u → 0 ≤ x ∧ x < cs.length) : ∀ q, q ≤ u.length → 0 ≤ dCost cs rc (u.take q) ∧ dCost cs rc (u.take q) ≤ 1048576 * ((q : Int) + 1)
  | 0, _ => by rw [List.take_zero]; have := hA.1; show 0 ≤ rc ∧ rc ≤ _; omega
  | q + 1, hq => by
    have ih := dCost_range hA u hu q (by omega)
    rw [dCost_next (by omega)]
    have hm := hu (u.getD q 0) (by rw [List.getD_eq_getElem?_getD, List.getElem?_eq_getElem (by omega)]; exact List.getElem_mem _)
    have hc := hA.2 (cs.getD (u.getD q 0).toNat 0) (by rw [List.getD_eq_getElem?_getD, List.getElem?_eq_getElem (by omega)]; exact List.getElem_mem _)
    have e : 1048576 * (((q + 1 : Nat) : Int) + 1) = 1048576 * ((q : Int) + 1) + 1048576 := by omega
    omega

set_option maxHeartbeats 4000000 in
set_option maxRecDepth 100000 in
theorem pdcost (L X : Option Addr) (l lc k cx : Nat) (cs u : List Int) (rc : Int) (w : World) (hcs : Ints w L l cs) (hX : Ints w X k u) :
    Calls Try.prog 12 #[.agg #[.slice L l lc, .int .i64 rc], .slice X k cx] w fun e w' => e = .returned (.tuple #[.int .i64 (dCostN cs rc u), .int .i64 (dCostE cs rc u)]) ∧ Below w.heap.size w w' := by
  obtain ⟨w1, hw1⟩ : ∃ w1, w1 = w.alloc (.cells #[.slice L l lc, .int .i64 rc] 27) := ⟨_, rfl⟩
  have b1 : Below w.heap.size w w1 := by rw [hw1]; exact alloc_below _ _
  have m1 : Blk w1 w.heap.size #[.slice L l lc, .int .i64 rc] 27 := by rw [hw1]; exact blk_new _ _ _
  have HK := Lib.hid (fun (W : World) (h : Below w1.heap.size w1 W) => (show W.cell? ⟨w.heap.size, 0, none⟩ = some (.slice L l lc) ∧ W.cell? ⟨w.heap.size, 1, none⟩ = some (.int .i64 rc) from ⟨(m1.on h).cell 0, (m1.on h).cell 1⟩))
  obtain ⟨k0, k1⟩ := HK.out w1 (Below.refl _ _)
  rw [hw1] at k0 k1
  have hl := hcs.1
  have hk := hX.1
  have HB1 := Lib.hid b1
  have HW1 := Lib.hid hw1
  have HA := Lib.hid (fun (r : Bool) (hr : r = decide (dAff cs rc)) => paffordable L l lc cs rc r w1 (hcs.below b1) hr)
  have HC := Lib.hid (fun (W : World) (h : Below w1.heap.size w1 W) => wcheck X k cx l u W ((hX.below b1).below h))
  have HCS := Lib.hid (fun (W : World) (h : Below w1.heap.size w1 W) => (hcs.below b1).below h)
  have HX := Lib.hid (fun (W : World) (h : Below w1.heap.size w1 W) => (hX.below b1).below h)
  have HCE : Hid (dCostE cs rc u = if (1 ≤ l ∧ l ≤ 64) ∧ dAff cs rc then chk u l else 2) := Lib.hid (by unfold dCostE; rw [hl])
  have HCN : Hid (dCostN cs rc u = if dCostE cs rc u = 0 then dCost cs rc u else 0) := Lib.hid rfl
  have HL := Lib.hid hl
  have HKK := Lib.hid hk
  clear hw1 b1 m1 hcs hX hl hk
  by_cases h1 : 1 ≤ l
  · have d1 : decide ((l : Int) < 1) = false := decide_eq_false (by omega)
    by_cases h2 : l ≤ 64
    · have d2 : decide ((64 : Int) < (l : Int)) = false := decide_eq_false (by omega)
      by_cases hA : dAff cs rc
      · have HA2 := Lib.hid (HA.out true (decide_eq_true hA).symm)
        rw [if_pos ⟨⟨h1, h2⟩, hA⟩] at HCE
        have HAF := Lib.hid hA
        clear HA hA h1 h2
        go_enter Try.func12, Try.ntmps12
        go_wp2_with fail
        rw [← HW1.out]
        refine HA2.out.mono ?_
        rintro e w2 ⟨rfl, b2⟩
        have HB2 := Lib.hid b2
        clear k0 k1
        obtain ⟨k0, k1⟩ := HK.out _ b2
        clear b2
        go_wp2_with fail
        refine (HC.out _ HB2.out).mono ?_
        rintro e w3 ⟨rfl, rfl⟩
        by_cases hc : chk u l = 0
        · have HE : Hid (dCostE cs rc u = 0 ∧ dCostN cs rc u = dCost cs rc u) := Lib.hid ⟨by rw [HCE.out, hc], by rw [HCN.out, HCE.out, if_pos hc]⟩
          have hW : ∀ x, x ∈ u → 0 ≤ x ∧ x < (l : Int) := Syms.mem (chk_zero hc).2.2.2
          have hku := (chk_zero hc).2.2.1
          have HU := Lib.hid hW
          have HRG := Lib.hid (fun (q : Nat) (hq : q ≤ u.length) => dCost_range HAF.out u (by rw [HL.out]; exact hW) q hq)
          have HNX := Lib.hid (fun (q : Nat) (hq : q < u.length) => dCost_next (cs := cs) (rc := rc) hq)
          rw [hc]
          have hk1 : k ≤ 1024 := by rw [HKK.out] at hku; exact hku
          clear hc hW hku HC HA2
          go_wp2
          go_loopw [35, 8] (fun kv tv wr => ∃ q : Nat, q ≤ k ∧ kv = .int .i64 q ∧ tv = .int .i64 (dCost cs rc (u.take q)) ∧ Below w2.heap.size w2 wr) (fun kv _ _ => k - (intOf kv).toNat)
          case atStart => exact ⟨0, Nat.zero_le _, rfl, by rw [List.take_zero]; rfl, Below.refl _ _⟩
          case round =>
            obtain ⟨q, hq, rfl, rfl, hbr⟩ := hrel
            have HBR := Lib.hid hbr
            by_cases hlt : q < k
            · have hb1r := bt HB2.out hbr
              obtain ⟨bx, ox, hXe, hbx, cx1⟩ := (HX.out _ hb1r).at_ hlt
              have hin := HU.out (u.getD q 0) (by rw [List.getD_eq_getElem?_getD, List.getElem?_eq_getElem (by rw [HKK.out]; exact hlt)]; exact List.getElem_mem _)
              have hnx := HNX.out q (by rw [HKK.out]; exact hlt)
              have hr1 := HRG.out q (by rw [HKK.out]; omega)
              have hr2 := HRG.out (q + 1) (by rw [HKK.out]; omega)
              generalize u.getD q 0 = x at cx1 hin hnx
              obtain ⟨a, rfl⟩ : ∃ a : Nat, x = a := ⟨x.toNat, by omega⟩
              have hal : a < l := by omega
              rw [Int.toNat_natCast] at hnx
              obtain ⟨bc, oc, hLe, hbc, cc1⟩ := (HCS.out _ hb1r).at_ hal
              obtain ⟨k0, k1⟩ := HK.out _ hb1r
              rw [hLe] at k0
              have HXE := Lib.hid hXe
              subst hXe
              generalize cs.getD a 0 = co at cc1 hnx
              generalize dCost cs rc (u.take q) = tq at hnx hr1 ⊢
              have hw2 : IntKind.i64.wrap (tq + co) = tq + co := by rw [IntKind.wrap_i64]; omega
              have hal2 : (a : Int) < (l : Int) := by omega
              have HN := Lib.hid hnx
              clear hnx hr1 hr2 hin hb1r hbx hbc hLe hbr
              go_wp2
              go_roundw
              case rel => exact ⟨q + 1, by omega, by go_num, by rw [HN.out], HBR.out⟩
              case measure => simp [intOf]; omega
            · obtain rfl : q = k := by omega
              rw [List.take_of_length_le (l := u) (i := q) (by rw [HKK.out]; exact Nat.le_refl _)]
              clear hbr
              go_wp2
              go_ret2
              exact ⟨by rw [HE.out.1, HE.out.2]; rfl, HB1.out.trans ((bt HB2.out HBR.out).mono HB1.out.size)⟩
        · have HE : Hid (dCostE cs rc u = chk u l ∧ dCostN cs rc u = 0) := Lib.hid ⟨HCE.out, by rw [HCN.out, HCE.out, if_neg hc]⟩
          obtain ⟨v, hv⟩ : ∃ v, v = chk u l := ⟨_, rfl⟩
          rw [← hv] at hc HE ⊢
          have hne : (v != 0) = true := by simpa using hc
          clear hc hv k0 k1
          go_wp2
          go_ret2
          exact ⟨by rw [HE.out.1, HE.out.2]; rfl, HB1.out.trans (HB2.out.mono HB1.out.size)⟩
      · have HA2 := Lib.hid (HA.out false (decide_eq_false hA).symm)
        rw [if_neg fun h => hA h.2] at HCE
        have HE : Hid (dCostE cs rc u = 2 ∧ dCostN cs rc u = 0) := Lib.hid ⟨HCE.out, by rw [HCN.out, HCE.out]; rfl⟩
        clear HA hA h1 h2
        go_enter Try.func12, Try.ntmps12
        go_wp2_with fail
        rw [← HW1.out]
        refine HA2.out.mono ?_
        rintro e w2 ⟨rfl, b2⟩
        have HB2 := Lib.hid b2
        clear k0 k1 b2
        go_wp2
        go_ret2
        exact ⟨by rw [HE.out.1, HE.out.2]; rfl, HB1.out.trans (HB2.out.mono HB1.out.size)⟩
    · have d2 : decide ((64 : Int) < (l : Int)) = true := decide_eq_true (by omega)
      rw [if_neg fun h => h2 h.1.2] at HCE
      have HE : Hid (dCostE cs rc u = 2 ∧ dCostN cs rc u = 0) := Lib.hid ⟨HCE.out, by rw [HCN.out, HCE.out]; rfl⟩
      clear HA h1 h2
      go_enter Try.func12, Try.ntmps12
      go_wp2
      go_ret2
      exact ⟨by rw [HE.out.1, HE.out.2]; rfl, by rw [← HW1.out]; exact HB1.out⟩
  · have d1 : decide ((l : Int) < 1) = true := decide_eq_true (by omega)
    rw [if_neg fun h => h1 h.1.1] at HCE
    have HE : Hid (dCostE cs rc u = 2 ∧ dCostN cs rc u = 0) := Lib.hid ⟨HCE.out, by rw [HCN.out, HCE.out]; rfl⟩
    clear HA h1
    go_enter Try.func12, Try.ntmps12
    go_wp2
    go_ret2
    exact ⟨by rw [HE.out.1, HE.out.2]; rfl, by rw [← HW1.out]; exact HB1.out⟩
end Go.Proofs.Ytcoihbpadbnilaa
end

section
/- Rows of headers that a call owns, each with what it reads as; append of headers. -/
namespace Go.Proofs.Ytcoihbpadbnilaa
open Go.RowKit

/-- A header and the list that it reads as. -/
abbrev HL := Value × List Int
/-- The slice value v is a row of the headers of ps in a block from base on, which the call may write. -/
def HRow (w : World) (base : Nat) (v : Value) (ps : List HL) : Prop := w.ownsRow base 25 1 v ps.length (ps.map Prod.fst) ∧ ∀ p, p ∈ ps → ∃ A n c, p.1 = .slice A n c
/-- The header p reads as its list, in a block below top. -/
def InAt (w : World) (top : Nat) (p : HL) : Prop := ∃ A n c, p.1 = .slice A n c ∧ Ints w A n p.2 ∧ n ≤ c ∧ ∀ a, A = some a → 0 < n → a.block < top
/-- The slice '.slice A n _' holds the headers of ps. -/
def Hds (w : World) (A : Option Addr) (n : Nat) (ps : List HL) : Prop :=
  ps.length = n ∧ n ≤ 17592186044416 ∧ (0 < n → ∃ b off, A = some ⟨b, off, none⟩ ∧ b < w.heap.size ∧ ∀ j p, ps[j]? = some p → w.cell? ⟨b, off + j, none⟩ = some p.1) ∧ ∀ p, p ∈ ps → ∃ A n c, p.1 = .slice A n c

theorem InAt.below {w w' : World} {top : Nat} {p : HL} (h : InAt w top p) (hb : Below w.heap.size w w') : InAt w' top p := by
  obtain ⟨A, n, c, e, hi, hc, ht⟩ := h
  exact ⟨A, n, c, e, hi.below hb, hc, ht⟩
theorem InAt.mono {w : World} {top top' : Nat} {p : HL} (h : InAt w top p) (hb : top ≤ top') : InAt w top' p := by
  obtain ⟨A, n, c, e, hi, hc, ht⟩ := h
  exact ⟨A, n, c, e, hi, hc, fun a ha hn => Nat.lt_of_lt_of_le (ht a ha hn) hb⟩
/-- What lies below top reads as before where what lies there is as before. -/
theorem InAt.on {w w' : World} {top : Nat} {p : HL} (h : InAt w top p) (hb : Below top w w') : InAt w' top p := by
  obtain ⟨A, n, c, e, hi, hnc, ht⟩ := h
  refine ⟨A, n, c, e, ⟨hi.1, hi.2.1, fun hn => ?_⟩, hnc, ht⟩
  obtain ⟨b, off, rfl, hlt, hc⟩ := hi.2.2 hn
  have hbt : b < top := ht _ rfl hn
  refine ⟨b, off, rfl, ?_, fun j hj => (hb.cell (p := ⟨b, off + j, none⟩) hbt).trans (hc j hj)⟩
  have h0 := (hb.cell (p := ⟨b, off + 0, none⟩) hbt).trans (hc 0 hn)
  exact block_lt h0
theorem Hds.below {w w' : World} {A : Option Addr} {n : Nat} {ps : List HL} (h : Hds w A n ps) (hb : Below w.heap.size w w') : Hds w' A n ps :=
  ⟨h.1, h.2.1, fun hn => by
    obtain ⟨b, off, e, hlt, hc⟩ := h.2.2.1 hn
    exact ⟨b, off, e, Nat.lt_of_lt_of_le hlt hb.size, fun j p hp => (hb.cell hlt).trans (hc j p hp)⟩, h.2.2.2⟩
theorem Hds.at_ {w : World} {A : Option Addr} {n : Nat} {ps : List HL} (h : Hds w A n ps) {k : Nat} (hk : k < n) :
    ∃ b off B m d xs, A = some ⟨b, off, none⟩ ∧ b < w.heap.size ∧ ps[k]? = some (.slice B m d, xs) ∧ w.cell? ⟨b, off + k, none⟩ = some (.slice B m d) := by
  obtain ⟨b, off, e, hlt, hc⟩ := h.2.2.1 (by omega)
  have hl := h.1
  have hp : ps[k]? = some ps[k] := List.getElem?_eq_getElem (by omega)
  obtain ⟨B, m, d, e2⟩ := h.2.2.2 ps[k] (List.getElem_mem _)
  refine ⟨b, off, B, m, d, ps[k].2, e, hlt, ?_, ?_⟩
  · rw [hp, ← e2]
  · rw [hc k _ hp, e2]
/-- The slice '.slice A n _' holds the lists xss, none longer than its capacity. -/
def ListsC (w : World) (A : Option Addr) (n : Nat) (xss : List (List Int)) : Prop :=
  xss.length = n ∧ n ≤ 17592186044416 ∧ (0 < n → ∃ b off, A = some ⟨b, off, none⟩ ∧ b < w.heap.size ∧
    ∀ j, j < n → ∃ Aj nj cj, w.cell? ⟨b, off + j, none⟩ = some (.slice Aj nj cj) ∧ nj ≤ cj ∧ Ints w Aj nj (xss.getD j []))
theorem ListsC.lists {w : World} {A : Option Addr} {n : Nat} {xss : List (List Int)} (h : ListsC w A n xss) : Lists w A n xss :=
  ⟨h.1, h.2.1, fun hn => by
    obtain ⟨b, off, e, hlt, hc⟩ := h.2.2 hn
    refine ⟨b, off, e, hlt, fun j hj => ?_⟩
    obtain ⟨Aj, nj, cj, h1, _, h2⟩ := hc j hj
    exact ⟨Aj, nj, cj, h1, h2⟩⟩
theorem ListsC.below {w w' : World} {A : Option Addr} {n : Nat} {xss : List (List Int)} (h : ListsC w A n xss) (hb : Below w.heap.size w w') : ListsC w' A n xss :=
  ⟨h.1, h.2.1, fun hn => by
    obtain ⟨b, off, e, hlt, hc⟩ := h.2.2 hn
    refine ⟨b, off, e, Nat.lt_of_lt_of_le hlt hb.size, fun j hj => ?_⟩
    obtain ⟨Aj, nj, cj, h1, h0, h2⟩ := hc j hj
    exact ⟨Aj, nj, cj, (hb.cell hlt).trans h1, h0, h2.below hb⟩⟩
theorem ListsC.at_ {w : World} {A : Option Addr} {n : Nat} {xss : List (List Int)} (h : ListsC w A n xss) {k : Nat} (hk : k < n) :
    ∃ b off Aj nj cj, A = some ⟨b, off, none⟩ ∧ b < w.heap.size ∧ w.cell? ⟨b, off + k, none⟩ = some (.slice Aj nj cj) ∧ nj ≤ cj ∧ Ints w Aj nj (xss.getD k []) := by
  obtain ⟨b, off, e, hlt, hc⟩ := h.2.2 (by omega)
  obtain ⟨Aj, nj, cj, h1, h0, h2⟩ := hc k hk
  exact ⟨b, off, Aj, nj, cj, e, hlt, h1, h0, h2⟩
theorem ListsC.len {w : World} {A : Option Addr} {n : Nat} {xss : List (List Int)} (h : ListsC w A n xss) : ∀ x, x ∈ xss → x.length ≤ 17592186044416 := fun x hx => by
  obtain ⟨j, hj, rfl⟩ := List.getElem_of_mem hx
  obtain ⟨_, _, Aj, nj, cj, _, _, _, _, hi⟩ := h.at_ (k := j) (by rw [← h.1]; exact hj)
  have e : xss.getD j [] = xss[j] := by rw [List.getD_eq_getElem?_getD, List.getElem?_eq_getElem hj]; rfl
  rw [e] at hi
  rw [hi.1]; exact hi.2.1
/-- The headers of a list of lists. -/
theorem ListsC.hds {w : World} {A : Option Addr} {n : Nat} {xss : List (List Int)} (h : ListsC w A n xss) : ∃ ps : List HL, ps.map Prod.snd = xss ∧ Hds w A n ps ∧ ∀ p, p ∈ ps → InAt w w.heap.size p := by
  rcases Nat.eq_zero_or_pos n with h0 | h0
  · have hx : xss = [] := List.eq_nil_of_length_eq_zero (by rw [h.1, h0])
    subst hx
    exact ⟨[], rfl, ⟨by simp [h0], h.2.1, fun hn => absurd hn (by omega), fun p hp => absurd hp (by simp)⟩, fun p hp => absurd hp (by simp)⟩
  · obtain ⟨b, off, e, hlt, hc⟩ := h.2.2 h0
    have hex : ∀ j, ∃ p : HL, j < n → p.2 = xss.getD j [] ∧ w.cell? ⟨b, off + j, none⟩ = some p.1 ∧ InAt w w.heap.size p := fun j => by
      by_cases hj : j < n
      · obtain ⟨Aj, nj, cj, h1, h0, h2⟩ := hc j hj
        refine ⟨(.slice Aj nj cj, xss.getD j []), fun _ => ⟨rfl, h1, Aj, nj, cj, rfl, h2, h0, fun a ha hn => ?_⟩⟩
        obtain ⟨b', o', e', hlt', _⟩ := h2.2.2 hn
        rw [ha] at e'
        cases e'
        exact hlt'
      · exact ⟨default, fun h => absurd h hj⟩
    have hex2 := hex
    obtain ⟨f, hf⟩ : ∃ f : Nat → HL, ∀ j, j < n → (f j).2 = xss.getD j [] ∧ w.cell? ⟨b, off + j, none⟩ = some (f j).1 ∧ InAt w w.heap.size (f j) :=
      ⟨fun j => Classical.choose (hex2 j), fun j => Classical.choose_spec (hex2 j)⟩
    have hget : ∀ j p, ((List.range n).map f)[j]? = some p → j < n ∧ p = f j := fun j p hp => by
      rw [List.getElem?_map] at hp
      cases hr : (List.range n)[j]? with
      | none => rw [hr] at hp; simp at hp
      | some q =>
        rw [hr] at hp
        have hq := List.getElem?_eq_some_iff.1 hr
        obtain ⟨hq1, hq2⟩ := hq
        simp at hq1 hq2
        subst hq2
        simp at hp
        exact ⟨hq1, hp.symm⟩
    have hmem : ∀ p, p ∈ (List.range n).map f → ∃ j, j < n ∧ p = f j := fun p hp => by
      obtain ⟨j, hj, rfl⟩ := List.mem_map.1 hp
      exact ⟨j, List.mem_range.1 hj, rfl⟩
    refine ⟨(List.range n).map f, ?_, ⟨by simp, h.2.1, fun _ => ⟨b, off, e, hlt, fun j p hp => ?_⟩, fun p hp => ?_⟩, fun p hp => ?_⟩
    · apply List.ext_getElem
      · simp [h.1]
      · intro j h1 h2
        simp at h1
        have := (hf j h1).1
        simp [this, List.getD, List.getElem?_eq_getElem h2]
    · obtain ⟨hj, rfl⟩ := hget j p hp
      exact (hf j hj).2.1
    · obtain ⟨j, hj, rfl⟩ := hmem p hp
      obtain ⟨A, n, c, e, _⟩ := (hf j hj).2.2
      exact ⟨A, n, c, e⟩
    · obtain ⟨j, hj, rfl⟩ := hmem p hp
      exact (hf j hj).2.2

theorem HRow.nil (w : World) (base : Nat) : HRow w base (.slice none 0 0) [] := ⟨World.ownsRow_nil _ _ _ _, fun p hp => absurd hp (by simp)⟩
theorem HRow.form {w : World} {base : Nat} {v : Value} {ps : List HL} (h : HRow w base v ps) : ∃ A c, v = .slice A ps.length c := by
  rcases h.1.2 with ⟨rfl, h0⟩ | ⟨g, cap, cur, rfl, _⟩
  · exact ⟨none, 0, by rw [h0]⟩
  · exact ⟨_, _, rfl⟩
theorem HRow.lt {w : World} {base : Nat} {v : Value} {ps : List HL} (h : HRow w base v ps) : ∀ k, v.ownBlock = some k → base ≤ k ∧ k < w.heap.size := World.ownsRow.lt h.1
theorem HRow.kept {w w' : World} {base : Nat} {v : Value} {ps : List HL} (h : HRow w base v ps) (hb : Below w.heap.size w w') : HRow w' base v ps := by
  refine ⟨⟨h.1.1, ?_⟩, h.2⟩
  rcases h.1.2 with e | ⟨g, cap, cur, hv, hbg, hg, r⟩
  · exact .inl e
  · exact .inr ⟨g, cap, cur, hv, hbg, (hb.block g (heap_lt hg)).trans hg, r⟩
theorem HRow.lower {w : World} {base base' : Nat} {v : Value} {ps : List HL} (h : HRow w base v ps) (hb : base' ≤ base) : HRow w base' v ps := by
  refine ⟨⟨h.1.1, ?_⟩, h.2⟩
  rcases h.1.2 with e | ⟨g, cap, cur, hv, hbg, r⟩
  · exact .inl e
  · exact .inr ⟨g, cap, cur, hv, by omega, r⟩
theorem HRow.hds {w : World} {base : Nat} {A : Option Addr} {n c : Nat} {ps : List HL} (h : HRow w base (.slice A n c) ps) (hm : ps.length ≤ 17592186044416) : Hds w A n ps := by
  have hn : n = ps.length := by obtain ⟨A', c', e⟩ := h.form; cases e; rfl
  subst hn
  refine ⟨rfl, hm, fun h0 => ?_, h.2⟩
  rcases h.1.2 with ⟨e, h1⟩ | ⟨g, cap, cur, e, _, hg, _⟩
  · omega
  · cases e
    refine ⟨g, 0, rfl, heap_lt hg, fun j p hp => ?_⟩
    have hj : j < ps.length := (List.getElem?_eq_some_iff.1 hp).1
    have h3 := World.ownsRow.cellAt h.1 j (by omega)
    rw [Nat.zero_add, h3, List.getElem?_map, hp]; rfl
/-- A row of headers whose rows read as lists is a list of lists. -/
theorem Hds.lists {w : World} {top : Nat} {A : Option Addr} {n : Nat} {ps : List HL} (h : Hds w A n ps) (hi : ∀ p, p ∈ ps → InAt w top p) : ListsC w A n (ps.map Prod.snd) := by
  refine ⟨by rw [List.length_map]; exact h.1, h.2.1, fun h0 => ?_⟩
  obtain ⟨b, off, e, hlt, hc⟩ := h.2.2.1 h0
  refine ⟨b, off, e, hlt, fun j hj => ?_⟩
  have hl := h.1
  have hp : ps[j]? = some ps[j] := List.getElem?_eq_getElem (by omega)
  obtain ⟨B, m, d, e2, h2, h0, _⟩ := hi ps[j] (List.getElem_mem _)
  refine ⟨B, m, d, by rw [hc j _ hp, e2], h0, ?_⟩
  have : (ps.map Prod.snd).getD j [] = ps[j].2 := by rw [List.getD_eq_getElem?_getD, List.getElem?_map, hp]; rfl
  rw [this]; exact h2
theorem Hds.in_at {w : World} {A : Option Addr} {n : Nat} {ps : List HL} (h : Hds w A n ps) {top : Nat} (hi : ∀ p, p ∈ ps → InAt w top p) {k : Nat} (hk : k < n) :
    ∃ b off B m d, A = some ⟨b, off, none⟩ ∧ b < w.heap.size ∧ ps[k]? = some (.slice B m d, (ps.map Prod.snd).getD k []) ∧ w.cell? ⟨b, off + k, none⟩ = some (.slice B m d) ∧ m ≤ d ∧ Ints w B m ((ps.map Prod.snd).getD k []) ∧ InAt w top (.slice B m d, (ps.map Prod.snd).getD k []) := by
  obtain ⟨b, off, B, m, d, xs, e, hlt, hp, hc⟩ := h.at_ hk
  have hx : (ps.map Prod.snd).getD k [] = xs := by rw [List.getD_eq_getElem?_getD, List.getElem?_map, hp]; rfl
  rw [hx]
  have hin := hi _ (List.mem_of_getElem? hp)
  have h3 := hin
  obtain ⟨B', m', d', e2, h2, h0, _⟩ := h3
  cases e2
  exact ⟨b, off, B, m, d, e, hlt, hp, hc, h0, h2, hin⟩

/-- append(v, ys...) of headers onto a row of headers. -/
theorem run_append_heads {w : World} {base : Nat} {v : Value} {ps qs : List HL} {A : Option Addr} {m c : Nat} (h : HRow w base v ps) (hy : Hds w A m qs) (hbase : base ≤ w.heap.size) (hlen : (ps ++ qs).length ≤ 1759218604441) :
    ∃ v' w', (Builtin.append_ #[22, 22] 22 #[v, .slice A m c]).run Try.prog w = .ok v' w' ∧ HRow w' base v' (ps ++ qs) ∧ w.grownBy w' v.ownBlock ∧ Below base w w' := by
  obtain ⟨i, hi, hz0, hz1, hz2⟩ := info_parts infol
  have hsplit : ∀ k, v.ownBlock = some k → base ≤ k := fun k hk => (h.lt k hk).1
  have hforms : ∀ p, p ∈ ps ++ qs → ∃ A n c, p.1 = .slice A n c := fun p hp => by
    rcases List.mem_append.1 hp with hp | hp
    · exact h.2 p hp
    · exact hy.2.2.2 p hp
  rcases Nat.eq_zero_or_pos m with h0 | h0
  · have hys : qs = [] := List.eq_nil_of_length_eq_zero (by rw [hy.1, h0])
    subst h0 hys
    cases A with
    | none =>
      refine ⟨v, w, ?_, by simpa using h, World.grownBy.refl w _, Below.refl _ _⟩
      rcases h.1.2 with ⟨rfl, _⟩ | ⟨g, cap, cur, rfl, _, _, hnc, _⟩
      · simp [Builtin.append_, run_underlying Try.underlying22, sizeOf, typeInfo, hi, Builtin.lenOf, Builtin.firstCells]
      · simp [Builtin.append_, run_underlying Try.underlying22, sizeOf, typeInfo, hi, Builtin.lenOf, Builtin.firstCells, hnc, storeCells]
    | some a =>
      obtain ⟨v', w', hr, h1, h2, _⟩ := run_append_own (P := Try.prog) w base 22 22 25 i (.slice none 0 0) 1 24 Try.underlying22 hi hz0 hz1 hz2 rfl (by decide) v _ _ h.1 a 0 c [] (by simp) (by simp) (by simp)
        (by simp at hlen; unfold maxLen; omega) (by simp at hlen; omega) hbase
      exact ⟨v', w', hr, ⟨by simpa using h1, hforms⟩, h2, (Below.refl _ _).grown h2 hbase hsplit⟩
  · obtain ⟨b, off, rfl, hb, hc⟩ := hy.2.2.1 h0
    have hql := hy.1
    obtain ⟨v', w', hr, h1, h2, _⟩ := run_append_own (P := Try.prog) w base 22 22 25 i (.slice none 0 0) 1 24 Try.underlying22 hi hz0 hz1 hz2 rfl (by decide) v _ _ h.1 ⟨b, off, none⟩ m c (qs.map Prod.fst)
      (by simp [hql])
      (by
        intro j u hu
        rw [List.getElem?_map] at hu
        cases hq : qs[j]? with
        | none => rw [hq] at hu; simp at hu
        | some p =>
          rw [hq] at hu
          simp at hu
          subst hu
          rw [show (⟨b, off, none⟩ : Addr).add j = ⟨b, off + j, none⟩ by unfold Addr.add; split <;> simp_all]
          exact hc j p hq)
      (by
        intro u hu
        obtain ⟨p, hp, rfl⟩ := List.mem_map.1 hu
        obtain ⟨A, n, c, e⟩ := hy.2.2.2 p hp
        rw [e]; rfl)
      (by rw [List.length_append] at hlen; rw [← hql]; unfold maxLen; omega) (by rw [List.length_append] at hlen; rw [← hql]; omega) hbase
    refine ⟨v', w', hr, ⟨?_, hforms⟩, h2, (Below.refl _ _).grown h2 hbase hsplit⟩
    rw [List.length_append, List.map_append, hql]
    exact h1

/-- append(v, x) of one header. -/
theorem run_append_head {w : World} {base : Nat} {v : Value} {ps : List HL} {B : Option Addr} {m d : Nat} (h : HRow w base v ps) (xs : List Int) (hbase : base ≤ w.heap.size) (hl : ps.length < 1759218604441) :
    ∃ A c w', (Builtin.append_ #[22, 22] 22 #[v, .slice (some ⟨w.heap.size, 0, none⟩) 1 1]).run Try.prog (w.alloc (.cells #[.slice B m d] 25)) = .ok (.slice A (ps.length + 1) c) w' ∧
      HRow w' base (.slice A (ps.length + 1) c) (ps ++ [(.slice B m d, xs)]) ∧ w.grownBy w' v.ownBlock ∧ Below base w w' := by
  have hbz := alloc_below w (.cells #[.slice B m d] 25)
  have hd : Hds (w.alloc (.cells #[.slice B m d] 25)) (some ⟨w.heap.size, 0, none⟩) 1 [(.slice B m d, xs)] := by
    refine ⟨rfl, by omega, fun _ => ⟨w.heap.size, 0, rfl, by simp, fun j p hp => ?_⟩, fun p hp => ?_⟩
    · cases j with
      | zero =>
        simp at hp
        subst hp
        have := cell_of_row (w.alloc (.cells #[.slice B m d] 25)) w.heap.size 0 #[.slice B m d] 25 (0, 0) (heap_alloc_new w _)
        rw [Nat.zero_add, this]; rfl
      | succ j => simp at hp
    · simp at hp; subst hp; exact ⟨B, m, d, rfl⟩
  obtain ⟨v', w', hr, h1, h2, h3⟩ := run_append_heads (c := 1) (h.kept hbz) hd (Nat.le_trans hbase hbz.size) (by simp; omega)
  obtain ⟨A, c, e⟩ := h1.form
  rw [List.length_append] at e
  subst e
  refine ⟨A, c, w', hr, h1, ?_, (hbz.mono hbase).trans h3⟩
  exact ⟨h2.os, h2.tape, h2.output, Nat.le_trans hbz.size h2.size, fun k hk hne => (h2.block k (Nat.lt_of_lt_of_le hk hbz.size) hne).trans (hbz.block k hk)⟩
end Go.Proofs.Ytcoihbpadbnilaa
end

section
/- Lists of words that literals make. -/
namespace Go.Proofs.Ytcoihbpadbnilaa
open Go.RowKit

/-- The words' cells, one block each. -/
def litA (W : World) : List (List Int) → World
  | [] => W
  | x :: r => litA (W.alloc (.cells (lit x) 3)) r
/-- Their headers, from block b on. -/
def litH (b : Nat) : List (List Int) → List Value
  | [] => []
  | x :: r => .slice (some ⟨b, 0, none⟩) x.length x.length :: litH (b + 1) r
/-- The world with the list's own cells. -/
def litL (W : World) (b : Nat) (xss : List (List Int)) : World := (litA W xss).alloc (.cells (litH b xss).toArray 25)
theorem litA_below (W : World) (xss : List (List Int)) : Below W.heap.size W (litA W xss) := by
  induction xss generalizing W with
  | nil => exact Below.refl _ _
  | cons x r ih => exact (alloc_below W _).trans ((ih _).mono (by simp))
theorem litA_size (W : World) (xss : List (List Int)) : (litA W xss).heap.size = W.heap.size + xss.length := by
  induction xss generalizing W with
  | nil => rfl
  | cons x r ih =>
    show (litA (W.alloc (.cells (lit x) 3)) r).heap.size = _
    rw [ih]; simp; omega
theorem litH_len (b : Nat) (xss : List (List Int)) : (litH b xss).length = xss.length := by
  induction xss generalizing b with
  | nil => rfl
  | cons x r ih => simp [litH, ih]
theorem litH_get (b : Nat) (xss : List (List Int)) (j : Nat) (hj : j < xss.length) : (litH b xss)[j]? = some (.slice (some ⟨b + j, 0, none⟩) (xss.getD j []).length (xss.getD j []).length) := by
  induction xss generalizing b j with
  | nil => simp at hj
  | cons x r ih =>
    cases j with
    | zero => simp [litH]
    | succ j =>
      have := ih (b + 1) j (by simpa using hj)
      simp only [litH, List.getElem?_cons_succ, this]
      rw [show b + 1 + j = b + (j + 1) by omega]
      simp
theorem litA_ints (W : World) (xss : List (List Int)) (j : Nat) (hj : j < xss.length) (hl : ∀ x, x ∈ xss → x.length ≤ 1000) : Ints (litA W xss) (some ⟨W.heap.size + j, 0, none⟩) (xss.getD j []).length (xss.getD j []) := by
  induction xss generalizing W j with
  | nil => simp at hj
  | cons x r ih =>
    cases j with
    | zero =>
      have h := Ints.new W x (lit x) x.length rfl rfl (by have := hl x List.mem_cons_self; omega)
      have hb := litA_below (W.alloc (.cells (lit x) 3)) r
      exact h.below hb
    | succ j =>
      have := ih (W.alloc (.cells (lit x) 3)) j (by simpa using hj) (fun y hy => hl y (List.mem_cons_of_mem _ hy))
      have e : (W.alloc (.cells (lit x) 3)).heap.size + j = W.heap.size + (j + 1) := by simp; omega
      rw [e] at this
      show Ints (litA (W.alloc (.cells (lit x) 3)) r) _ ((x :: r).getD (j + 1) []).length ((x :: r).getD (j + 1) [])
      simpa using this
theorem litL_below (W : World) (b : Nat) (xss : List (List Int)) : Below W.heap.size W (litL W b xss) := (litA_below W xss).trans ((alloc_below _ _).mono (litA_below W xss).size)
theorem litL_size (W : World) (b : Nat) (xss : List (List Int)) : (litL W b xss).heap.size = W.heap.size + xss.length + 1 := by
  show ((litA W xss).alloc _).heap.size = _
  simp [litA_size]
theorem litL_lists (W : World) (b : Nat) (xss : List (List Int)) (n : Nat) (hb : W.heap.size = b) (hn : n = xss.length) (hl : ∀ x, x ∈ xss → x.length ≤ 1000) (hm : xss.length ≤ 1000) : ListsC (litL W b xss) (some ⟨b + n, 0, none⟩) n xss := by
  subst hn hb
  have hb := alloc_below (litA W xss) (.cells (litH W.heap.size xss).toArray 25)
  refine ⟨rfl, by omega, fun _ => ⟨W.heap.size + xss.length, 0, rfl, ?_, fun j hj => ?_⟩⟩
  · show W.heap.size + xss.length < ((litA W xss).alloc _).heap.size
    simp [litA_size]
  · refine ⟨_, _, _, ?_, Nat.le_refl _, (litA_ints W xss j hj hl).below hb⟩
    have := cell_of_row (litL W W.heap.size xss) (W.heap.size + xss.length) j (litH W.heap.size xss).toArray 25 (0, 0) (by
      have := heap_alloc_new (litA W xss) (.cells (litH W.heap.size xss).toArray 25)
      rw [litA_size] at this
      exact this)
    rw [Nat.zero_add, this]
    simpa using litH_get W.heap.size xss j hj
end Go.Proofs.Ytcoihbpadbnilaa
end

section
/- device: the device of the examples, and what it does. -/
namespace Go.Proofs.Ytcoihbpadbnilaa
open Go.RowKit

def gN : List (List Int) := [[1, 0], [1, 0]]
def gO : List (List Int) := [[1, 0], [1, 2]]
/-- The device of the examples: not yet ready, and later on. -/
def gD (f1 f2 f3 : Int) : DD := ⟨2, 0, gN, gO, 0, false, [5, 3], 100, f1, f2, f3, 7, 0, 0, 0⟩
def gS (s sp tm : Int) (sd : Nat) (rdy : Bool) (f1 f2 f3 : Int) : DD := ⟨2, 0, gN, gO, s, rdy, [5, 3], 100, f1, f2, f3, sd, sp, 1, tm⟩
theorem gD_err {f1 f2 f3 : Int} (h : dPos f1 f2 f3) : (gD f1 f2 f3).err = 0 := by
  unfold DD.err
  have h0 : vld 2 0 gN gO = 0 := by decide +kernel
  have h1 : (0 : Int) ≤ 0 ∧ (0 : Int) < (gN.length : Int) := by decide
  have h2 : (([5, 3] : List Int).length : Int) = 2 := by decide
  have h3 : dAff [5, 3] 100 := by decide
  have h4 : dCnt 0 0 0 := by decide
  rw [if_pos (show vld (gD f1 f2 f3).i (gD f1 f2 f3).st (gD f1 f2 f3).nx (gD f1 f2 f3).ot = 0 from h0), if_pos (show 0 ≤ (gD f1 f2 f3).s ∧ (gD f1 f2 f3).s < ((gD f1 f2 f3).nx.length : Int) from h1), if_pos (show ((gD f1 f2 f3).cs.length : Int) = (gD f1 f2 f3).i from h2), if_pos (show dAff (gD f1 f2 f3).cs (gD f1 f2 f3).rc ∧ dPos (gD f1 f2 f3).f1 (gD f1 f2 f3).f2 (gD f1 f2 f3).f3 ∧ dCnt (gD f1 f2 f3).sp (gD f1 f2 f3).rs (gD f1 f2 f3).tm from ⟨h3, h, h4⟩)]
theorem gD_rst (f1 f2 f3 : Int) : (gD f1 f2 f3).rst = gS 0 0 100 7 true f1 f2 f3 := rfl
theorem gD_can (f1 f2 f3 : Int) : (gD f1 f2 f3).canR := ⟨by show (0 : Int) < _; decide, by show (0 : Int) ≤ 1125899906842624 - 100; decide⟩
theorem gD_query {f1 f2 f3 : Int} (h : dPos f1 f2 f3) (u : List Int) (hu : chk u 2 = 0) : (gD f1 f2 f3).query u = qgo (gS 0 0 100 7 true f1 f2 f3) u [] := by
  unfold DD.query
  rw [if_pos (gD_err h), if_pos (show chk u (gD f1 f2 f3).i = 0 from hu)]
  unfold DD.qry
  rw [if_pos (gD_can f1 f2 f3), gD_rst]
section
variable {s sp tm a f1 f2 f3 : Int} {sd : Nat}
theorem gS_E (ha : 0 ≤ a ∧ a < 2) (h1 : sp < 1125899906842624) (h2 : tm ≤ 1125899906842624 - [5, 3].getD a.toNat 0) : (gS s sp tm sd true f1 f2 f3).stpE a = 0 := by
  unfold DD.stpE
  rw [if_pos (show (gS s sp tm sd true f1 f2 f3).rdy = true from rfl), if_pos (show 0 ≤ a ∧ a < (gS s sp tm sd true f1 f2 f3).i from ha), if_pos (show (gS s sp tm sd true f1 f2 f3).sp < 1125899906842624 ∧ (gS s sp tm sd true f1 f2 f3).tm ≤ 1125899906842624 - (gS s sp tm sd true f1 f2 f3).cs.getD a.toNat 0 from ⟨h1, h2⟩)]
theorem gS_D (h : (gS s sp tm sd true f1 f2 f3).stpE a = 0) {t c : Int} {r : Bool} (ht : (nN gN s.toNat a.toNat : Int) = t) (hc : tm + [5, 3].getD a.toNat 0 = c) (hr : (!crs (Drx sd 10000 : Int) f1 f2 f3) = r) : (gS s sp tm sd true f1 f2 f3).stpD a = gS t (sp + 1) c (Drs sd 10000) r f1 f2 f3 := by
  unfold DD.stpD
  rw [if_pos h]
  subst ht hc hr
  rfl
theorem gS_O (h : (gS s sp tm sd true f1 f2 f3).stpE a = 0) {o : Int} (ho : rcv (Drx sd 10000 : Int) f1 f2 (oN gO s.toNat a.toNat) = o) : (gS s sp tm sd true f1 f2 f3).stpO a = o := by
  unfold DD.stpO
  rw [if_pos h]
  exact ho
end
theorem x_lt (sd : Nat) : (Drx sd 10000 : Int) < 10000 := by have := Drx_lt (s := sd) (n := 10000) ⟨by decide, by decide⟩; omega
theorem crs_0 (sd : Nat) : (!crs (Drx sd 10000 : Int) 0 0 0) = true := by unfold crs; rw [decide_eq_false (by omega)]; rfl
theorem crs_l (sd : Nat) : (!crs (Drx sd 10000 : Int) 10000 0 0) = true := by have := x_lt sd; unfold crs; rw [decide_eq_false (by omega)]; rfl
theorem crs_w (sd : Nat) : (!crs (Drx sd 10000 : Int) 0 10000 0) = true := by have := x_lt sd; unfold crs; rw [decide_eq_false (by omega)]; rfl
theorem crs_c (sd : Nat) : (!crs (Drx sd 10000 : Int) 0 0 10000) = false := by have := x_lt sd; unfold crs; rw [decide_eq_true (by omega)]; rfl
theorem rcv_0 (sd : Nat) (o : Int) : rcv (Drx sd 10000 : Int) 0 0 o = o := by unfold rcv; rw [if_neg (by omega), if_neg (by omega)]
theorem rcv_l (sd : Nat) (o : Int) : rcv (Drx sd 10000 : Int) 10000 0 o = -1 := by have := x_lt sd; unfold rcv; rw [if_pos (by omega)]
theorem rcv_w (sd : Nat) (o : Int) : rcv (Drx sd 10000 : Int) 0 10000 o = wrg o := by have := x_lt sd; unfold rcv; rw [if_neg (by omega), if_pos (by omega)]
noncomputable def g1 : Nat := Drs 7 10000
noncomputable def g2 : Nat := Drs g1 10000
noncomputable def g3 : Nat := Drs g2 10000
theorem gq_0 : (gD 0 0 0).query [1, 0, 1] = (gS 0 3 111 g3 true 0 0 0, [0, 1, 2], 0) := by
  rw [gD_query (by decide) _ (by decide)]
  have e0 : (gS 0 0 100 7 true 0 0 0).stpE 1 = 0 := gS_E (by decide) (by decide) (by decide)
  have d0 : (gS 0 0 100 7 true 0 0 0).stpD 1 = gS 0 1 103 g1 true 0 0 0 := gS_D e0 (by decide) (by decide) (crs_0 _)
  have o0 : (gS 0 0 100 7 true 0 0 0).stpO 1 = 0 := gS_O e0 ((rcv_0 _ _).trans (by decide))
  have e1 : (gS 0 1 103 g1 true 0 0 0).stpE 0 = 0 := gS_E (by decide) (by decide) (by decide)
  have d1 : (gS 0 1 103 g1 true 0 0 0).stpD 0 = gS 1 2 108 g2 true 0 0 0 := gS_D e1 (by decide) (by decide) (crs_0 _)
  have o1 : (gS 0 1 103 g1 true 0 0 0).stpO 0 = 1 := gS_O e1 ((rcv_0 _ _).trans (by decide))
  have e2 : (gS 1 2 108 g2 true 0 0 0).stpE 1 = 0 := gS_E (by decide) (by decide) (by decide)
  have d2 : (gS 1 2 108 g2 true 0 0 0).stpD 1 = gS 0 3 111 g3 true 0 0 0 := gS_D e2 (by decide) (by decide) (crs_0 _)
  have o2 : (gS 1 2 108 g2 true 0 0 0).stpO 1 = 2 := gS_O e2 ((rcv_0 _ _).trans (by decide))
  rw [qgo_on e0 (by rw [o0, d0]; decide), o0, d0, qgo_on e1 (by rw [o1, d1]; decide), o1, d1, qgo_on e2 (by rw [o2, d2]; decide), o2, d2]
  rfl
theorem gq_l : (gD 10000 0 0).query [1, 0, 1] = (gS 0 1 103 g1 true 10000 0 0, [], 14) := by
  rw [gD_query (by decide) _ (by decide)]
  have e0 : (gS 0 0 100 7 true 10000 0 0).stpE 1 = 0 := gS_E (by decide) (by decide) (by decide)
  have d0 : (gS 0 0 100 7 true 10000 0 0).stpD 1 = gS 0 1 103 g1 true 10000 0 0 := gS_D e0 (by decide) (by decide) (crs_l _)
  have o0 : (gS 0 0 100 7 true 10000 0 0).stpO 1 = (-1) := gS_O e0 ((rcv_l _ _).trans (by decide))
  rw [qgo_fault e0 (.inl o0), d0]
theorem gq_w : (gD 0 10000 0).query [1, 0, 1] = (gS 0 3 111 g3 true 0 10000 0, [1, 2, 3], 0) := by
  rw [gD_query (by decide) _ (by decide)]
  have e0 : (gS 0 0 100 7 true 0 10000 0).stpE 1 = 0 := gS_E (by decide) (by decide) (by decide)
  have d0 : (gS 0 0 100 7 true 0 10000 0).stpD 1 = gS 0 1 103 g1 true 0 10000 0 := gS_D e0 (by decide) (by decide) (crs_w _)
  have o0 : (gS 0 0 100 7 true 0 10000 0).stpO 1 = 1 := gS_O e0 ((rcv_w _ _).trans (by decide))
  have e1 : (gS 0 1 103 g1 true 0 10000 0).stpE 0 = 0 := gS_E (by decide) (by decide) (by decide)
  have d1 : (gS 0 1 103 g1 true 0 10000 0).stpD 0 = gS 1 2 108 g2 true 0 10000 0 := gS_D e1 (by decide) (by decide) (crs_w _)
  have o1 : (gS 0 1 103 g1 true 0 10000 0).stpO 0 = 2 := gS_O e1 ((rcv_w _ _).trans (by decide))
  have e2 : (gS 1 2 108 g2 true 0 10000 0).stpE 1 = 0 := gS_E (by decide) (by decide) (by decide)
  have d2 : (gS 1 2 108 g2 true 0 10000 0).stpD 1 = gS 0 3 111 g3 true 0 10000 0 := gS_D e2 (by decide) (by decide) (crs_w _)
  have o2 : (gS 1 2 108 g2 true 0 10000 0).stpO 1 = 3 := gS_O e2 ((rcv_w _ _).trans (by decide))
  rw [qgo_on e0 (by rw [o0, d0]; decide), o0, d0, qgo_on e1 (by rw [o1, d1]; decide), o1, d1, qgo_on e2 (by rw [o2, d2]; decide), o2, d2]
  rfl
theorem gq_c : (gD 0 0 10000).query [0] = (gS 1 1 105 g1 false 0 0 10000, [1], 0) := by
  rw [gD_query (by decide) _ (by decide)]
  have e0 : (gS 0 0 100 7 true 0 0 10000).stpE 0 = 0 := gS_E (by decide) (by decide) (by decide)
  have d0 : (gS 0 0 100 7 true 0 0 10000).stpD 0 = gS 1 1 105 g1 false 0 0 10000 := gS_D e0 (by decide) (by decide) (crs_c _)
  have o0 : (gS 0 0 100 7 true 0 0 10000).stpO 0 = 1 := gS_O e0 ((rcv_0 _ _).trans (by decide))
  rw [qgo_on e0 (by rw [o0, d0]; exact fun h => h.elim (by decide) (fun h => h.2 rfl)), o0, d0]
  rfl
theorem gq_d : (gD 0 0 10000).query [0, 0] = (gS 1 1 105 g1 false 0 0 10000, [], 14) := by
  rw [gD_query (by decide) _ (by decide)]
  have e0 : (gS 0 0 100 7 true 0 0 10000).stpE 0 = 0 := gS_E (by decide) (by decide) (by decide)
  have d0 : (gS 0 0 100 7 true 0 0 10000).stpD 0 = gS 1 1 105 g1 false 0 0 10000 := gS_D e0 (by decide) (by decide) (crs_c _)
  have o0 : (gS 0 0 100 7 true 0 0 10000).stpO 0 = 1 := gS_O e0 ((rcv_0 _ _).trans (by decide))
  rw [qgo_fault e0 (.inr ⟨by rw [d0]; rfl, by decide⟩), d0]

theorem gq_step : ∀ {D : DD}, D = gD 0 0 0 → D.stepE 0 = 10 ∧ D.stepO 0 = 0 := by
  rintro _ rfl
  have h := gD_err (f1 := 0) (f2 := 0) (f3 := 0) (by decide)
  unfold DD.stepE DD.stepO DD.stpO DD.stpE
  rw [if_pos h, if_pos h, if_neg (show ¬ (gD 0 0 0).rdy = true by decide), if_neg (by decide)]
  exact ⟨rfl, rfl⟩
theorem gq_cost : dCostE [5, 3] 100 [1, 0, 1] = 0 ∧ dCostN [5, 3] 100 [1, 0, 1] = 111 := by decide +kernel

set_option maxHeartbeats 8000000 in
set_option maxRecDepth 100000 in
theorem pgate19 (f1 f2 f3 : Int) (w : World) (hp : dPos f1 f2 f3) :
    Calls Try.prog 29 #[.agg #[.int .i64 f1, .int .i64 f2, .int .i64 f3]] w fun e w' => ∃ H', e = .returned (dvA (gD f1 f2 f3) H') ∧ DevN w' w.heap.size (gD f1 f2 f3) H' ∧ Below w.heap.size w w' := by
  obtain ⟨W0, hW0⟩ : ∃ W0, W0 = (w.alloc (.cells #[.int .i64 f1, .int .i64 f2, .int .i64 f3] 29)).alloc (.cells #[.int .i64 0, .int .i64 0, .slice none 0 0, .slice none 0 0, .int .i64 0, .bool false, .slice none 0 0, .int .i64 0, .int .i64 0, .int .i64 0, .int .i64 0, .int .u64 0, .int .i64 0, .int .i64 0, .int .i64 0] 32) := ⟨_, rfl⟩
  have b0 : Below w.heap.size w W0 := by rw [hW0]; exact bt (alloc_below _ _) (alloc_below _ _)
  have z0 : W0.heap.size = w.heap.size + 1 + 1 := by rw [hW0]; simp
  have mF : Blk W0 w.heap.size #[.int .i64 f1, .int .i64 f2, .int .i64 f3] 29 := by rw [hW0]; exact (blk_new _ _ _).on (alloc_below _ _)
  have mZ : Blk W0 (w.heap.size + 1) zcD 32 := by rw [hW0, show w.heap.size + 1 = (w.alloc (.cells #[.int .i64 f1, .int .i64 f2, .int .i64 f3] 29)).heap.size by simp]; exact blk_new _ _ _
  obtain ⟨N, hN⟩ : ∃ N, N = (((W0).alloc (.cells #[.int .i64 1, .int .i64 0] 3)).alloc (.cells #[.int .i64 1, .int .i64 0] 3)).alloc (.cells #[.slice (some ⟨w.heap.size + 1 + 1, 0, none⟩) 2 2, .slice (some ⟨w.heap.size + 1 + 1 + 1, 0, none⟩) 2 2] 25) := ⟨_, rfl⟩
  have fN : Lists N (some ⟨w.heap.size + 1 + 1 + 1 + 1, 0, none⟩) 2 gN ∧ Below W0.heap.size W0 N ∧ N.heap.size = w.heap.size + 1 + 1 + 1 + 1 + 1 := by
    rw [hN]
    exact ⟨(litL_lists W0 (w.heap.size + 1 + 1) gN 2 z0 rfl (by decide) (by decide)).lists, litL_below W0 (w.heap.size + 1 + 1) gN, (litL_size W0 (w.heap.size + 1 + 1) gN).trans (by rw [z0]; rfl)⟩
  obtain ⟨n0, bn, zN⟩ := fN
  obtain ⟨O, hO⟩ : ∃ O, O = (((N).alloc (.cells #[.int .i64 1, .int .i64 0] 3)).alloc (.cells #[.int .i64 1, .int .i64 2] 3)).alloc (.cells #[.slice (some ⟨w.heap.size + 1 + 1 + 1 + 1 + 1, 0, none⟩) 2 2, .slice (some ⟨w.heap.size + 1 + 1 + 1 + 1 + 1 + 1, 0, none⟩) 2 2] 25) := ⟨_, rfl⟩
  have fO : Lists O (some ⟨w.heap.size + 1 + 1 + 1 + 1 + 1 + 1 + 1, 0, none⟩) 2 gO ∧ Below N.heap.size N O ∧ O.heap.size = w.heap.size + 1 + 1 + 1 + 1 + 1 + 1 + 1 + 1 := by
    rw [hO]
    exact ⟨(litL_lists N (w.heap.size + 1 + 1 + 1 + 1 + 1) gO 2 zN rfl (by decide) (by decide)).lists, litL_below N (w.heap.size + 1 + 1 + 1 + 1 + 1) gO, (litL_size N (w.heap.size + 1 + 1 + 1 + 1 + 1) gO).trans (by rw [zN]; rfl)⟩
  obtain ⟨o0, bo, zO⟩ := fO
  obtain ⟨X, hX⟩ : ∃ X, X = O.alloc (.cells #[.int .i64 2, .int .i64 0, .slice (some ⟨w.heap.size + 1 + 1 + 1 + 1, 0, none⟩) 2 2, .slice (some ⟨w.heap.size + 1 + 1 + 1 + 1 + 1 + 1 + 1, 0, none⟩) 2 2] 24) := ⟨_, rfl⟩
  have bx : Below O.heap.size O X := by rw [hX]; exact alloc_below _ _
  have mx : Blk X (w.heap.size + 1 + 1 + 1 + 1 + 1 + 1 + 1 + 1) #[.int .i64 2, .int .i64 0, .slice (some ⟨w.heap.size + 1 + 1 + 1 + 1, 0, none⟩) 2 2, .slice (some ⟨w.heap.size + 1 + 1 + 1 + 1 + 1 + 1 + 1, 0, none⟩) 2 2] 24 := by rw [hX, ← zO]; exact blk_new _ _ _
  obtain ⟨Y, hY⟩ : ∃ Y, Y = X.alloc (.cells #[.int .i64 5, .int .i64 3] 3) := ⟨_, rfl⟩
  have by_ : Below X.heap.size X Y := by rw [hY]; exact alloc_below _ _
  have c0 : Ints Y (some ⟨X.heap.size, 0, none⟩) 2 [5, 3] := by rw [hY]; exact Ints.new X [5, 3] _ 2 rfl rfl (by simp)
  have bX0 : Below W0.heap.size W0 X := bt bn (bt bo bx)
  have HY : Hid (Y = (((((((((w.alloc (.cells #[.int .i64 f1, .int .i64 f2, .int .i64 f3] 29)).alloc (.cells #[.int .i64 0, .int .i64 0, .slice none 0 0, .slice none 0 0, .int .i64 0, .bool false, .slice none 0 0, .int .i64 0, .int .i64 0, .int .i64 0, .int .i64 0, .int .u64 0, .int .i64 0, .int .i64 0, .int .i64 0] 32)).alloc (.cells #[.int .i64 1, .int .i64 0] 3)).alloc (.cells #[.int .i64 1, .int .i64 0] 3)).alloc (.cells #[.slice (some ⟨w.heap.size + 1 + 1, 0, none⟩) 2 2, .slice (some ⟨w.heap.size + 1 + 1 + 1, 0, none⟩) 2 2] 25)).alloc (.cells #[.int .i64 1, .int .i64 0] 3)).alloc (.cells #[.int .i64 1, .int .i64 2] 3)).alloc (.cells #[.slice (some ⟨w.heap.size + 1 + 1 + 1 + 1 + 1, 0, none⟩) 2 2, .slice (some ⟨w.heap.size + 1 + 1 + 1 + 1 + 1 + 1, 0, none⟩) 2 2] 25)).alloc (.cells #[.int .i64 2, .int .i64 0, .slice (some ⟨w.heap.size + 1 + 1 + 1 + 1, 0, none⟩) 2 2, .slice (some ⟨w.heap.size + 1 + 1 + 1 + 1 + 1 + 1 + 1, 0, none⟩) 2 2] 24)).alloc (.cells #[.int .i64 5, .int .i64 3] 3)) := Lib.hid (by rw [hY, hX, hO, hN, hW0])
  have HX : Hid (X = ((((((((w.alloc (.cells #[.int .i64 f1, .int .i64 f2, .int .i64 f3] 29)).alloc (.cells #[.int .i64 0, .int .i64 0, .slice none 0 0, .slice none 0 0, .int .i64 0, .bool false, .slice none 0 0, .int .i64 0, .int .i64 0, .int .i64 0, .int .i64 0, .int .u64 0, .int .i64 0, .int .i64 0, .int .i64 0] 32)).alloc (.cells #[.int .i64 1, .int .i64 0] 3)).alloc (.cells #[.int .i64 1, .int .i64 0] 3)).alloc (.cells #[.slice (some ⟨w.heap.size + 1 + 1, 0, none⟩) 2 2, .slice (some ⟨w.heap.size + 1 + 1 + 1, 0, none⟩) 2 2] 25)).alloc (.cells #[.int .i64 1, .int .i64 0] 3)).alloc (.cells #[.int .i64 1, .int .i64 2] 3)).alloc (.cells #[.slice (some ⟨w.heap.size + 1 + 1 + 1 + 1 + 1, 0, none⟩) 2 2, .slice (some ⟨w.heap.size + 1 + 1 + 1 + 1 + 1 + 1, 0, none⟩) 2 2] 25)).alloc (.cells #[.int .i64 2, .int .i64 0, .slice (some ⟨w.heap.size + 1 + 1 + 1 + 1, 0, none⟩) 2 2, .slice (some ⟨w.heap.size + 1 + 1 + 1 + 1 + 1 + 1 + 1, 0, none⟩) 2 2] 24)) := Lib.hid (by rw [hX, hO, hN, hW0])
  have mfx := (mF.on bX0).on by_
  have j0 : Y.cell? ⟨w.heap.size, 0, none⟩ = some (.int .i64 f1) := mfx.cell 0
  have j1 : Y.cell? ⟨w.heap.size, 1, none⟩ = some (.int .i64 f2) := mfx.cell 1
  have j2 : Y.cell? ⟨w.heap.size, 2, none⟩ = some (.int .i64 f3) := mfx.cell 2
  rw [hY] at j0 j1 j2
  have p0 : X.cell? ⟨w.heap.size + 1 + 1 + 1 + 1 + 1 + 1 + 1 + 1, 0, none⟩ = some (.int .i64 2) := mx.cell 0
  have p1 : X.cell? ⟨w.heap.size + 1 + 1 + 1 + 1 + 1 + 1 + 1 + 1, 1, none⟩ = some (.int .i64 0) := mx.cell 1
  have p2 : X.cell? ⟨w.heap.size + 1 + 1 + 1 + 1 + 1 + 1 + 1 + 1, 2, none⟩ = some (.slice (some ⟨w.heap.size + 1 + 1 + 1 + 1, 0, none⟩) 2 2) := mx.cell 2
  have p3 : X.cell? ⟨w.heap.size + 1 + 1 + 1 + 1 + 1 + 1 + 1 + 1, 3, none⟩ = some (.slice (some ⟨w.heap.size + 1 + 1 + 1 + 1 + 1 + 1 + 1, 0, none⟩) 2 2) := mx.cell 3
  have HB := Lib.hid (show Below w.heap.size w Y from bt b0 (bt bX0 by_))
  have HZ := Lib.hid ((mZ.on bX0).on by_)
  have HN := Lib.hid ((n0.below (bt bo bx)).below by_)
  have HO := Lib.hid ((o0.below bx).below by_)
  have HC := Lib.hid c0
  have HNW : Hid ((newD 2 0 gN gO [5, 3] 100 f1 f2 f3 7).fresh = gD f1 f2 f3 ∧ (newD 2 0 gN gO [5, 3] 100 f1 f2 f3 7).err = 0) := Lib.hid ⟨by unfold DD.fresh; rw [if_pos (show (newD 2 0 gN gO [5, 3] 100 f1 f2 f3 7).err = 0 from gD_err hp)]; rfl, gD_err hp⟩
  have HYX := Lib.hid hY
  have hszD : ∀ D H, (dvC D H).size = 15 := fun _ _ => rfl
  have HSZ := Lib.hid hszD
  clear hW0 hN hO hX hY b0 z0 mF mZ n0 bn zN o0 bo zO bx mx by_ c0 bX0 mfx hszD hp
  go_enter Try.func29, Try.ntmps29
  go_upto_region 2 with fail
  rw [← HX.out]
  go_wp2_with fail
  rw [← HYX.out]
  refine (pdnew 2 0 100 f1 f2 f3 _ _ _ 2 2 2 2 2 2 gN gO [5, 3] 7 _ HN.out HO.out HC.out (by decide)).mono ?_
  rintro e w1 ⟨H', rfl, hd, b1⟩
  rw [HNW.out.1, HNW.out.2]
  rw [HNW.out.1] at hd
  obtain ⟨D, hDD⟩ : ∃ D, D = gD f1 f2 f3 := ⟨_, rfl⟩
  rw [← hDD] at hd ⊢
  have HD := Lib.hid hd
  have HB1 := Lib.hid b1
  have HZ1 := Lib.hid (HZ.out.on b1)
  obtain ⟨W2, hW2⟩ : ∃ W2, W2 = w1.alloc (.cells (dvC D H') 32) := ⟨_, rfl⟩
  have m2 : Blk W2 w1.heap.size (dvC D H') 32 := by rw [hW2]; exact blk_new _ _ _
  have b2 : Below w1.heap.size w1 W2 := by rw [hW2]; exact alloc_below _ _
  have hF : Hid (DevN (W2.setRow (w.heap.size + 1) (dvC D H')) w.heap.size D H' ∧ Below w.heap.size w (W2.setRow (w.heap.size + 1) (dvC D H')) ∧ Blk (W2.setRow (w.heap.size + 1) (dvC D H')) (w.heap.size + 1) (dvC D H') 32) := Lib.hid (by
    have hb : Below w.heap.size w (W2.setRow (w.heap.size + 1) (dvC D H')) := below_setRow (bt HB.out (bt b1 b2)) (by omega) _
    have hsY : w.heap.size + 1 < Y.heap.size := HZ.out.lt
    exact ⟨((hd.below b2).row hsY _).lower (by omega), hb, (HZ1.out.on b2).row _⟩)
  have HM2 := Lib.hid m2
  have HZ2 := Lib.hid (HZ1.out.on b2)
  have HDD := Lib.hid hDD
  have HW2 := Lib.hid hW2
  clear hd b1 j0 j1 j2 p0 p1 p2 p3 hDD m2 b2 hW2
  unfold dvA dvC
  go_upto_region 3 with fail
  rw [← dvC_def, ← HW2.out]
  refine wp_region_list ?_
  refine wpList_load_row rfl 32 _ rfl w1.heap.size rfl 32 (dvC D H') (0, 0) _ HM2.out Try.underlying32 rfl (by rw [HSZ.out]; kernel_rfl) ?_
  go_wp2_with (refine wpList_store_row rfl 32 _ _ rfl (w.heap.size + 1) (dvC D H') rfl rfl 32 zcD HZ2.out (by rw [HSZ.out]; kernel_rfl) (by rw [HSZ.out]; rfl) (dvC_one _ _) ?_)
  refine bodyPost_ret (results_dev1 (by rfl) _ _ (w.heap.size + 1) (dvC D H') (HSZ.out _ _) rfl hF.out.2.2) rfl ⟨H', by rw [← HDD.out]; rfl, by rw [← HDD.out]; exact hF.out.1, hF.out.2.1⟩
end Go.Proofs.Ytcoihbpadbnilaa
end

section
/- device: the examples of the chapter. -/
namespace Go.Proofs.Ytcoihbpadbnilaa
open Go.RowKit

/-- Same of a list and a literal that is equal to it. -/
theorem rsame_lit (w : World) (A : Option Addr) (n c : Nat) (cs : Array Value) (m : Nat) (xs : List Int) (h : Ints w A n xs) (h1 : cs = lit xs) (h2 : m = xs.length) (l1 : xs.length ≤ 1000) :
    Calls Try.prog 23 #[.slice A n c, .slice (some ⟨w.heap.size, 0, none⟩) m m] (w.alloc (.cells cs 3)) fun e w' => e = .returned (.bool true) ∧ Below w.heap.size w w' := by
  refine (rsame _ _ _ _ _ _ xs xs true _ (h.below (alloc_below w _)) (Ints.new w xs cs m h1 h2 (by omega)) (by simp)).mono ?_
  rintro e w' ⟨rfl, q, hq⟩
  exact ⟨rfl, by rw [hq]; exact below_drewN (alloc_below w _) q⟩
theorem aq_0 (H : DH) (X : Option Addr) (w : World) (hD : DevR w (gD 0 0 0) H) (hX : Ints w X 3 [1, 0, 1]) :
    Calls Try.prog 21 #[dvA (gD 0 0 0) H, .slice X 3 3] w fun e w' => ∃ (H' : DH) (A' : Option Addr) (c' : Nat) (sd : Nat), e = .returned (.tuple #[.agg #[.int .i64 2, .int .i64 0, .slice H'.A H'.n H'.c, .slice H'.B H'.m H'.d, .int .i64 0, .bool true, .slice H'.L H'.l H'.lc, .int .i64 100, .int .i64 0, .int .i64 0, .int .i64 0, .int .u64 (sd : Nat), .int .i64 3, .int .i64 1, .int .i64 111], .slice A' 3 c', .int .i64 0]) ∧ Ints w' A' 3 [0, 1, 2] ∧ Below w.heap.size w w' := by
  refine (pdquery (gD 0 0 0) H X 3 3 [1, 0, 1] w hD hX (by decide)).mono ?_
  rintro e w' ⟨H', A', c', rfl, h1, h2, h3⟩
  rw [gq_0] at h1 h2 ⊢
  exact ⟨H', A', c', g3, rfl, Owned.ints h1 (by simp), h3⟩
theorem aq_l (H : DH) (X : Option Addr) (w : World) (hD : DevR w (gD 10000 0 0) H) (hX : Ints w X 3 [1, 0, 1]) :
    Calls Try.prog 21 #[dvA (gD 10000 0 0) H, .slice X 3 3] w fun e w' => ∃ (H' : DH) (A' : Option Addr) (c' : Nat) (sd : Nat), e = .returned (.tuple #[.agg #[.int .i64 2, .int .i64 0, .slice H'.A H'.n H'.c, .slice H'.B H'.m H'.d, .int .i64 0, .bool true, .slice H'.L H'.l H'.lc, .int .i64 100, .int .i64 10000, .int .i64 0, .int .i64 0, .int .u64 (sd : Nat), .int .i64 1, .int .i64 1, .int .i64 103], .slice A' 0 c', .int .i64 14]) ∧ Ints w' A' 0 [] ∧ Below w.heap.size w w' := by
  refine (pdquery (gD 10000 0 0) H X 3 3 [1, 0, 1] w hD hX (by decide)).mono ?_
  rintro e w' ⟨H', A', c', rfl, h1, h2, h3⟩
  rw [gq_l] at h1 h2 ⊢
  exact ⟨H', A', c', g1, rfl, Owned.ints h1 (by simp), h3⟩
theorem aq_w (H : DH) (X : Option Addr) (w : World) (hD : DevR w (gD 0 10000 0) H) (hX : Ints w X 3 [1, 0, 1]) :
    Calls Try.prog 21 #[dvA (gD 0 10000 0) H, .slice X 3 3] w fun e w' => ∃ (H' : DH) (A' : Option Addr) (c' : Nat) (sd : Nat), e = .returned (.tuple #[.agg #[.int .i64 2, .int .i64 0, .slice H'.A H'.n H'.c, .slice H'.B H'.m H'.d, .int .i64 0, .bool true, .slice H'.L H'.l H'.lc, .int .i64 100, .int .i64 0, .int .i64 10000, .int .i64 0, .int .u64 (sd : Nat), .int .i64 3, .int .i64 1, .int .i64 111], .slice A' 3 c', .int .i64 0]) ∧ Ints w' A' 3 [1, 2, 3] ∧ Below w.heap.size w w' := by
  refine (pdquery (gD 0 10000 0) H X 3 3 [1, 0, 1] w hD hX (by decide)).mono ?_
  rintro e w' ⟨H', A', c', rfl, h1, h2, h3⟩
  rw [gq_w] at h1 h2 ⊢
  exact ⟨H', A', c', g3, rfl, Owned.ints h1 (by simp), h3⟩
theorem aq_c (H : DH) (X : Option Addr) (w : World) (hD : DevR w (gD 0 0 10000) H) (hX : Ints w X 1 [0]) :
    Calls Try.prog 21 #[dvA (gD 0 0 10000) H, .slice X 1 1] w fun e w' => ∃ (H' : DH) (A' : Option Addr) (c' : Nat) (sd : Nat), e = .returned (.tuple #[.agg #[.int .i64 2, .int .i64 0, .slice H'.A H'.n H'.c, .slice H'.B H'.m H'.d, .int .i64 1, .bool false, .slice H'.L H'.l H'.lc, .int .i64 100, .int .i64 0, .int .i64 0, .int .i64 10000, .int .u64 (sd : Nat), .int .i64 1, .int .i64 1, .int .i64 105], .slice A' 1 c', .int .i64 0]) ∧ Ints w' A' 1 [1] ∧ Below w.heap.size w w' := by
  refine (pdquery (gD 0 0 10000) H X 1 1 [0] w hD hX (by decide)).mono ?_
  rintro e w' ⟨H', A', c', rfl, h1, h2, h3⟩
  rw [gq_c] at h1 h2 ⊢
  exact ⟨H', A', c', g1, rfl, Owned.ints h1 (by simp), h3⟩
theorem aq_d (H : DH) (X : Option Addr) (w : World) (hD : DevR w (gD 0 0 10000) H) (hX : Ints w X 2 [0, 0]) :
    Calls Try.prog 21 #[dvA (gD 0 0 10000) H, .slice X 2 2] w fun e w' => ∃ (H' : DH) (A' : Option Addr) (c' : Nat) (sd : Nat), e = .returned (.tuple #[.agg #[.int .i64 2, .int .i64 0, .slice H'.A H'.n H'.c, .slice H'.B H'.m H'.d, .int .i64 1, .bool false, .slice H'.L H'.l H'.lc, .int .i64 100, .int .i64 0, .int .i64 0, .int .i64 10000, .int .u64 (sd : Nat), .int .i64 1, .int .i64 1, .int .i64 105], .slice A' 0 c', .int .i64 14]) ∧ Ints w' A' 0 [] ∧ Below w.heap.size w w' := by
  refine (pdquery (gD 0 0 10000) H X 2 2 [0, 0] w hD hX (by decide)).mono ?_
  rintro e w' ⟨H', A', c', rfl, h1, h2, h3⟩
  rw [gq_d] at h1 h2 ⊢
  exact ⟨H', A', c', g1, rfl, Owned.ints h1 (by simp), h3⟩
theorem gstepD (D : DD) (h1 : D.err = 0) (h2 : D.rdy = false) (a : Int) : D.stepD a = D := by
  unfold DD.stepD
  rw [if_pos h1]
  unfold DD.stpD DD.stpE
  rw [if_neg (by rw [if_neg (by rw [h2]; decide)]; decide)]
theorem aq_s (H : DH) (w : World) (hD : DevR w (gD 0 0 0) H) :
    Calls Try.prog 19 #[dvA (gD 0 0 0) H, .int .i64 0] w fun e w' => ∃ (H' : DH), e = .returned (.tuple #[.agg #[.int .i64 2, .int .i64 0, .slice H'.A H'.n H'.c, .slice H'.B H'.m H'.d, .int .i64 0, .bool false, .slice H'.L H'.l H'.lc, .int .i64 100, .int .i64 0, .int .i64 0, .int .i64 0, .int .u64 7, .int .i64 0, .int .i64 0, .int .i64 0], .int .i64 0, .int .i64 10]) ∧ Below w.heap.size w w' := by
  refine (pdstep (gD 0 0 0) H 0 w hD (by decide)).mono ?_
  rintro e w' ⟨H', rfl, h2, h3⟩
  rw [gstepD _ (gD_err (by decide)) rfl, (gq_step rfl).1, (gq_step rfl).2]
  exact ⟨H', rfl, h3⟩

set_option maxHeartbeats 16000000 in
set_option maxRecDepth 100000 in
theorem awake19 (w : World) : Calls Try.prog 9 #[] w fun e w' => e = .returned (.bool true) ∧ Below w.heap.size w w' := by
  have hbc := Below.refl w.heap.size w
  go_enter Try.func9, Try.ntmps9
  go_wp2_with fail
  refine (pgate19 0 0 0 _ (by decide)).mono ?_
  rintro e v1 ⟨H1, rfl, d1, a1⟩
  have hbc := bt hbc a1
  go_wp2_with fail
  refine (aq_0 H1 _ _ (d1.dev.below (alloc_below _ _)) (Ints.new v1 [1, 0, 1] _ 3 rfl rfl (by simp))).mono ?_
  rintro e u1 ⟨G1, A1, c1, s1, rfl, o1, b1⟩
  have b1 := bt (alloc_below _ _) b1
  have hbc := bt hbc b1
  obtain ⟨W1, hW1⟩ : ∃ W1, W1 = u1.alloc (.cells #[.int .i64 2, .int .i64 0, .slice G1.A G1.n G1.c, .slice G1.B G1.m G1.d, .int .i64 0, .bool true, .slice G1.L G1.l G1.lc, .int .i64 100, .int .i64 0, .int .i64 0, .int .i64 0, .int .u64 (s1 : Nat), .int .i64 3, .int .i64 1, .int .i64 111] 32) := ⟨_, rfl⟩
  have e1 : Below u1.heap.size u1 W1 := by rw [hW1]; exact alloc_below _ _
  have m1 : Blk W1 u1.heap.size #[.int .i64 2, .int .i64 0, .slice G1.A G1.n G1.c, .slice G1.B G1.m G1.d, .int .i64 0, .bool true, .slice G1.L G1.l G1.lc, .int .i64 100, .int .i64 0, .int .i64 0, .int .i64 0, .int .u64 (s1 : Nat), .int .i64 3, .int .i64 1, .int .i64 111] 32 := by rw [hW1]; exact blk_new _ _ _
  have o1 := o1.below e1
  have hbc := bt hbc e1
  clear a1 b1 d1 e1
  go_wp2_with fail
  rw [← hW1]
  refine (pgate19 10000 0 0 _ (by decide)).mono ?_
  rintro e v2 ⟨H2, rfl, d2, a2⟩
  have o1 := o1.below a2
  have m1 := m1.on a2
  have hbc := bt hbc a2
  go_wp2_with fail
  refine (aq_l H2 _ _ (d2.dev.below (alloc_below _ _)) (Ints.new v2 [1, 0, 1] _ 3 rfl rfl (by simp))).mono ?_
  rintro e u2 ⟨G2, A2, c2, s2, rfl, o2, b2⟩
  have b2 := bt (alloc_below _ _) b2
  have o1 := o1.below b2
  have m1 := m1.on b2
  have hbc := bt hbc b2
  obtain ⟨W2, hW2⟩ : ∃ W2, W2 = u2.alloc (.cells #[.int .i64 2, .int .i64 0, .slice G2.A G2.n G2.c, .slice G2.B G2.m G2.d, .int .i64 0, .bool true, .slice G2.L G2.l G2.lc, .int .i64 100, .int .i64 10000, .int .i64 0, .int .i64 0, .int .u64 (s2 : Nat), .int .i64 1, .int .i64 1, .int .i64 103] 32) := ⟨_, rfl⟩
  have e2 : Below u2.heap.size u2 W2 := by rw [hW2]; exact alloc_below _ _
  have m2 : Blk W2 u2.heap.size #[.int .i64 2, .int .i64 0, .slice G2.A G2.n G2.c, .slice G2.B G2.m G2.d, .int .i64 0, .bool true, .slice G2.L G2.l G2.lc, .int .i64 100, .int .i64 10000, .int .i64 0, .int .i64 0, .int .u64 (s2 : Nat), .int .i64 1, .int .i64 1, .int .i64 103] 32 := by rw [hW2]; exact blk_new _ _ _
  have o1 := o1.below e2
  have m1 := m1.on e2
  have hbc := bt hbc e2
  clear a2 b2 d2 e2 o2
  go_wp2_with fail
  rw [← hW2]
  refine (pgate19 0 10000 0 _ (by decide)).mono ?_
  rintro e v3 ⟨H3, rfl, d3, a3⟩
  have o1 := o1.below a3
  have m1 := m1.on a3
  have m2 := m2.on a3
  have hbc := bt hbc a3
  go_wp2_with fail
  refine (aq_w H3 _ _ (d3.dev.below (alloc_below _ _)) (Ints.new v3 [1, 0, 1] _ 3 rfl rfl (by simp))).mono ?_
  rintro e u3 ⟨G3, A3, c3, s3, rfl, o3, b3⟩
  have b3 := bt (alloc_below _ _) b3
  have o1 := o1.below b3
  have m1 := m1.on b3
  have m2 := m2.on b3
  have hbc := bt hbc b3
  obtain ⟨W3, hW3⟩ : ∃ W3, W3 = u3.alloc (.cells #[.int .i64 2, .int .i64 0, .slice G3.A G3.n G3.c, .slice G3.B G3.m G3.d, .int .i64 0, .bool true, .slice G3.L G3.l G3.lc, .int .i64 100, .int .i64 0, .int .i64 10000, .int .i64 0, .int .u64 (s3 : Nat), .int .i64 3, .int .i64 1, .int .i64 111] 32) := ⟨_, rfl⟩
  have e3 : Below u3.heap.size u3 W3 := by rw [hW3]; exact alloc_below _ _
  have m3 : Blk W3 u3.heap.size #[.int .i64 2, .int .i64 0, .slice G3.A G3.n G3.c, .slice G3.B G3.m G3.d, .int .i64 0, .bool true, .slice G3.L G3.l G3.lc, .int .i64 100, .int .i64 0, .int .i64 10000, .int .i64 0, .int .u64 (s3 : Nat), .int .i64 3, .int .i64 1, .int .i64 111] 32 := by rw [hW3]; exact blk_new _ _ _
  have o3 := o3.below e3
  have o1 := o1.below e3
  have m1 := m1.on e3
  have m2 := m2.on e3
  have hbc := bt hbc e3
  clear a3 b3 d3 e3 m3
  go_wp2_with fail
  rw [← hW3]
  refine (pgate19 0 0 10000 _ (by decide)).mono ?_
  rintro e v4 ⟨H4, rfl, d4, a4⟩
  have o1 := o1.below a4
  have o3 := o3.below a4
  have m1 := m1.on a4
  have m2 := m2.on a4
  have hbc := bt hbc a4
  go_wp2_with fail
  refine (aq_c H4 _ _ (d4.dev.below (alloc_below _ _)) (Ints.new v4 [0] _ 1 rfl rfl (by simp))).mono ?_
  rintro e u4 ⟨G4, A4, c4, s4, rfl, o4, b4⟩
  have b4 := bt (alloc_below _ _) b4
  have o1 := o1.below b4
  have o3 := o3.below b4
  have m1 := m1.on b4
  have m2 := m2.on b4
  have hbc := bt hbc b4
  obtain ⟨W4, hW4⟩ : ∃ W4, W4 = u4.alloc (.cells #[.int .i64 2, .int .i64 0, .slice G4.A G4.n G4.c, .slice G4.B G4.m G4.d, .int .i64 1, .bool false, .slice G4.L G4.l G4.lc, .int .i64 100, .int .i64 0, .int .i64 0, .int .i64 10000, .int .u64 (s4 : Nat), .int .i64 1, .int .i64 1, .int .i64 105] 32) := ⟨_, rfl⟩
  have e4 : Below u4.heap.size u4 W4 := by rw [hW4]; exact alloc_below _ _
  have m4 : Blk W4 u4.heap.size #[.int .i64 2, .int .i64 0, .slice G4.A G4.n G4.c, .slice G4.B G4.m G4.d, .int .i64 1, .bool false, .slice G4.L G4.l G4.lc, .int .i64 100, .int .i64 0, .int .i64 0, .int .i64 10000, .int .u64 (s4 : Nat), .int .i64 1, .int .i64 1, .int .i64 105] 32 := by rw [hW4]; exact blk_new _ _ _
  have o4 := o4.below e4
  have o1 := o1.below e4
  have o3 := o3.below e4
  have m1 := m1.on e4
  have m2 := m2.on e4
  have hbc := bt hbc e4
  clear a4 b4 d4 e4
  go_wp2_with fail
  rw [← hW4]
  refine (pgate19 0 0 10000 _ (by decide)).mono ?_
  rintro e v5 ⟨H5, rfl, d5, a5⟩
  have o1 := o1.below a5
  have o3 := o3.below a5
  have o4 := o4.below a5
  have m1 := m1.on a5
  have m2 := m2.on a5
  have m4 := m4.on a5
  have hbc := bt hbc a5
  go_wp2_with fail
  refine (aq_d H5 _ _ (d5.dev.below (alloc_below _ _)) (Ints.new v5 [0, 0] _ 2 rfl rfl (by simp))).mono ?_
  rintro e u5 ⟨G5, A5, c5, s5, rfl, o5, b5⟩
  have b5 := bt (alloc_below _ _) b5
  have o1 := o1.below b5
  have o3 := o3.below b5
  have o4 := o4.below b5
  have m1 := m1.on b5
  have m2 := m2.on b5
  have m4 := m4.on b5
  have hbc := bt hbc b5
  obtain ⟨W5, hW5⟩ : ∃ W5, W5 = u5.alloc (.cells #[.int .i64 2, .int .i64 0, .slice G5.A G5.n G5.c, .slice G5.B G5.m G5.d, .int .i64 1, .bool false, .slice G5.L G5.l G5.lc, .int .i64 100, .int .i64 0, .int .i64 0, .int .i64 10000, .int .u64 (s5 : Nat), .int .i64 1, .int .i64 1, .int .i64 105] 32) := ⟨_, rfl⟩
  have e5 : Below u5.heap.size u5 W5 := by rw [hW5]; exact alloc_below _ _
  have m5 : Blk W5 u5.heap.size #[.int .i64 2, .int .i64 0, .slice G5.A G5.n G5.c, .slice G5.B G5.m G5.d, .int .i64 1, .bool false, .slice G5.L G5.l G5.lc, .int .i64 100, .int .i64 0, .int .i64 0, .int .i64 10000, .int .u64 (s5 : Nat), .int .i64 1, .int .i64 1, .int .i64 105] 32 := by rw [hW5]; exact blk_new _ _ _
  have o1 := o1.below e5
  have o3 := o3.below e5
  have o4 := o4.below e5
  have m1 := m1.on e5
  have m2 := m2.on e5
  have m4 := m4.on e5
  have hbc := bt hbc e5
  clear a5 b5 d5 e5 m5 o5
  go_wp2_with fail
  rw [← hW5]
  refine (pgate19 0 0 0 _ (by decide)).mono ?_
  rintro e v6 ⟨H6, rfl, d6, a6⟩
  have o1 := o1.below a6
  have o3 := o3.below a6
  have o4 := o4.below a6
  have m1 := m1.on a6
  have m2 := m2.on a6
  have m4 := m4.on a6
  have hbc := bt hbc a6
  go_wp2_with fail
  refine (aq_s H6 _ d6.dev).mono ?_
  rintro e u6 ⟨G6, rfl, b6⟩
  have o1 := o1.below b6
  have o3 := o3.below b6
  have o4 := o4.below b6
  have m1 := m1.on b6
  have m2 := m2.on b6
  have m4 := m4.on b6
  have hbc := bt hbc b6
  obtain ⟨W6, hW6⟩ : ∃ W6, W6 = u6.alloc (.cells #[.int .i64 2, .int .i64 0, .slice G6.A G6.n G6.c, .slice G6.B G6.m G6.d, .int .i64 0, .bool false, .slice G6.L G6.l G6.lc, .int .i64 100, .int .i64 0, .int .i64 0, .int .i64 0, .int .u64 7, .int .i64 0, .int .i64 0, .int .i64 0] 32) := ⟨_, rfl⟩
  have e6 : Below u6.heap.size u6 W6 := by rw [hW6]; exact alloc_below _ _
  have m6 : Blk W6 u6.heap.size #[.int .i64 2, .int .i64 0, .slice G6.A G6.n G6.c, .slice G6.B G6.m G6.d, .int .i64 0, .bool false, .slice G6.L G6.l G6.lc, .int .i64 100, .int .i64 0, .int .i64 0, .int .i64 0, .int .u64 7, .int .i64 0, .int .i64 0, .int .i64 0] 32 := by rw [hW6]; exact blk_new _ _ _
  have o1 := o1.below e6
  have o3 := o3.below e6
  have o4 := o4.below e6
  have m1 := m1.on e6
  have m2 := m2.on e6
  have m4 := m4.on e6
  have hbc := bt hbc e6
  clear a6 b6 d6 e6 m6
  go_wp2_with fail
  rw [← hW6]
  have zz : W6.heap.size = u6.heap.size + 1 := by rw [hW6]; simp
  have ca : Ints ((W6.alloc (.cells #[.int .i64 5, .int .i64 3] 3)).alloc (.cells #[.int .i64 1, .int .i64 0, .int .i64 1] 3)) (some ⟨u6.heap.size + 1, 0, none⟩) 2 [5, 3] := by
    rw [← zz]
    exact (Ints.new W6 [5, 3] _ 2 rfl rfl (by simp)).below (alloc_below _ _)
  have cc : Ints ((W6.alloc (.cells #[.int .i64 5, .int .i64 3] 3)).alloc (.cells #[.int .i64 1, .int .i64 0, .int .i64 1] 3)) (some ⟨u6.heap.size + 1 + 1, 0, none⟩) 3 [1, 0, 1] := by
    rw [← zz, show W6.heap.size + 1 = (W6.alloc (.cells #[.int .i64 5, .int .i64 3] 3)).heap.size by simp]
    exact Ints.new (W6.alloc (.cells #[.int .i64 5, .int .i64 3] 3)) [1, 0, 1] _ 3 rfl rfl (by simp)
  refine (pdcost _ _ 2 2 3 3 [5, 3] [1, 0, 1] 100 _ ca cc).mono ?_
  rintro e u7 ⟨rfl, b7⟩
  have b7 := bt (bt (alloc_below W6 (.cells #[.int .i64 5, .int .i64 3] 3)) (alloc_below _ _)) b7
  rw [gq_cost.1, gq_cost.2]
  have o1 := o1.below b7
  have o3 := o3.below b7
  have o4 := o4.below b7
  have m1 := m1.on b7
  have m2 := m2.on b7
  have m4 := m4.on b7
  have hbc := bt hbc b7
  clear b7 cc ca zz
  go_wp2_with fail
  refine (rsame_lit _ _ _ _ _ 3 [0, 1, 2] o1 rfl rfl (by decide)).mono ?_
  rintro e u8 ⟨rfl, b8⟩
  have o3 := o3.below b8
  have o4 := o4.below b8
  have m1 := m1.on b8
  have m2 := m2.on b8
  have m4 := m4.on b8
  have hbc := bt hbc b8
  clear o1 b8
  have k1 : u8.cell? ⟨u1.heap.size, 14, none⟩ = some (.int .i64 111) := m1.cell 14
  have k2 : u8.cell? ⟨u1.heap.size, 12, none⟩ = some (.int .i64 3) := m1.cell 12
  have k3 : u8.cell? ⟨u1.heap.size, 13, none⟩ = some (.int .i64 1) := m1.cell 13
  have k4 : u8.cell? ⟨u1.heap.size, 4, none⟩ = some (.int .i64 0) := m1.cell 4
  have k5 : u8.cell? ⟨u1.heap.size, 5, none⟩ = some (.bool true) := m1.cell 5
  have k6 : u8.cell? ⟨u2.heap.size, 14, none⟩ = some (.int .i64 103) := m2.cell 14
  have k7 : u8.cell? ⟨u2.heap.size, 12, none⟩ = some (.int .i64 1) := m2.cell 12
  have k8 : u8.cell? ⟨u4.heap.size, 5, none⟩ = some (.bool false) := m4.cell 5
  clear m1 m2
  go_wp2_with fail
  refine (rsame_lit _ _ _ _ _ 3 [1, 2, 3] o3 rfl rfl (by decide)).mono ?_
  rintro e u9 ⟨rfl, b9⟩
  have o4 := o4.below b9
  have m4 := m4.on b9
  have hbc := bt hbc b9
  clear o3 b9 k1 k2 k3 k4 k5 k6 k7 k8
  go_wp2_with fail
  refine (rsame_lit _ _ _ _ _ 1 [1] o4 rfl rfl (by decide)).mono ?_
  rintro e u10 ⟨rfl, b10⟩
  have m4 := m4.on b10
  have hbc := bt hbc b10
  have k8 : u10.cell? ⟨u4.heap.size, 5, none⟩ = some (.bool false) := m4.cell 5
  clear o4 b10 m4
  have HBC := Lib.hid hbc
  clear hbc
  go_wp2
  go_ret
  exact ⟨rfl, HBC.out⟩
end Go.Proofs.Ytcoihbpadbnilaa
end

section
/- device, the reference: Great. -/
namespace Go.Proofs.Ytcoihbpadbnilaa
open Go.RowKit

def SomeB (w : World) (e : Ending) (w' : World) : Prop := ∃ b : Bool, e = .returned (.bool b) ∧ Below w.heap.size w w'
set_option maxHeartbeats 4000000 in
set_option maxRecDepth 100000 in
theorem rgreat19 (i st rc : Int) (A B L : Option Addr) (n c m d l lc : Nat) (nx ot : List (List Int)) (w : World) (hx : Lists w A n nx) (ho : Lists w B m ot) :
    Calls Try.prog 8 #[.agg #[.int .i64 i, .int .i64 st, .slice A n c, .slice B m d], .agg #[.slice L l lc, .int .i64 rc]] w (SomeB w) := by
  obtain ⟨w1, hw1⟩ : ∃ w1, w1 = (w.alloc (.cells #[.int .i64 i, .int .i64 st, .slice A n c, .slice B m d] 24)).alloc (.cells #[.slice L l lc, .int .i64 rc] 27) := ⟨_, rfl⟩
  have hb0 : Below w.heap.size w w1 := by rw [hw1]; exact bt (alloc_below _ _) (alloc_below _ _)
  have m1 : Blk w1 w.heap.size #[.int .i64 i, .int .i64 st, .slice A n c, .slice B m d] 24 := by rw [hw1]; exact (blk_new _ _ _).on (alloc_below _ _)
  have m2 : Blk w1 (w.heap.size + 1) #[.slice L l lc, .int .i64 rc] 27 := by rw [hw1, show w.heap.size + 1 = (w.alloc (.cells #[.int .i64 i, .int .i64 st, .slice A n c, .slice B m d] 24)).heap.size by simp]; exact blk_new _ _ _
  have k2 : w1.cell? ⟨w.heap.size, 2, none⟩ = some (.slice A n c) := m1.cell 2
  have k3 : w1.cell? ⟨w.heap.size, 3, none⟩ = some (.slice B m d) := m1.cell 3
  have l0 : w1.cell? ⟨w.heap.size + 1, 0, none⟩ = some (.slice L l lc) := m2.cell 0
  have hn := hx.2.1
  have hm := ho.2.1
  have HB := Lib.hid hb0
  clear m1 m2
  go_enter Try.func8, Try.ntmps8
  go_wp2
  rw [← hw1]
  clear hw1
  go_loop [5] (fun kv => ∃ k : Nat, k ≤ n ∧ kv = .int .i64 k) (fun kv => n - (intOf kv).toNat)
  case atStart => exact ⟨0, Nat.zero_le _, rfl⟩
  case round =>
    obtain ⟨k, hk, rfl⟩ := hrel
    by_cases hlt : k < n ∧ k < 13
    · obtain ⟨hlt, h13⟩ := hlt
      have d13 : decide ((k : Int) < 13) = true := decide_eq_true (by omega)
      obtain ⟨g1, o1, A1, n1, c1, rfl, hg1, hd1, hr1⟩ := hx.at_ hlt
      have e1 := (HB.out.cell (p := ⟨g1, o1 + k, none⟩) hg1).trans hd1
      clear hd1
      go_wp2
      · go_ret
        exact ⟨_, rfl, HB.out⟩
      · go_round
        case rel => exact ⟨k + 1, by omega, by go_num⟩
        case measure => simp [intOf]; omega
    · by_cases hkn : k < n
      · have d13 : decide ((k : Int) < 13) = false := decide_eq_false (by omega)
        go_wp2
        go_loop [6] (fun kv => ∃ k : Nat, k ≤ m ∧ kv = .int .i64 k) (fun kv => m - (intOf kv).toNat)
        case atStart => exact ⟨0, Nat.zero_le _, rfl⟩
        case round =>
          obtain ⟨q, hq, rfl⟩ := hrel
          by_cases hlt2 : q < m ∧ q < 21
          · obtain ⟨hlt2, h21⟩ := hlt2
            have d21 : decide ((q : Int) < 21) = true := decide_eq_true (by omega)
            obtain ⟨g1, o1, A1, n1, c1, rfl, hg1, hd1, hr1⟩ := ho.at_ hlt2
            have e1 := (HB.out.cell (p := ⟨g1, o1 + q, none⟩) hg1).trans hd1
            clear hd1
            go_wp2
            · go_ret
              exact ⟨_, rfl, HB.out⟩
            · go_round
              case rel => exact ⟨q + 1, by omega, by go_num⟩
              case measure => simp [intOf]; omega
          · by_cases hqm : q < m
            · have d21 : decide ((q : Int) < 21) = false := decide_eq_false (by omega)
              go_wp2
              all_goals
                go_ret
                exact ⟨_, rfl, HB.out⟩
            · go_wp2
              all_goals
                go_ret
                exact ⟨_, rfl, HB.out⟩
      · go_wp2
        go_loop [6] (fun kv => ∃ k : Nat, k ≤ m ∧ kv = .int .i64 k) (fun kv => m - (intOf kv).toNat)
        case atStart => exact ⟨0, Nat.zero_le _, rfl⟩
        case round =>
          obtain ⟨q, hq, rfl⟩ := hrel
          by_cases hlt2 : q < m ∧ q < 21
          · obtain ⟨hlt2, h21⟩ := hlt2
            have d21 : decide ((q : Int) < 21) = true := decide_eq_true (by omega)
            obtain ⟨g1, o1, A1, n1, c1, rfl, hg1, hd1, hr1⟩ := ho.at_ hlt2
            have e1 := (HB.out.cell (p := ⟨g1, o1 + q, none⟩) hg1).trans hd1
            clear hd1
            go_wp2
            · go_ret
              exact ⟨_, rfl, HB.out⟩
            · go_round
              case rel => exact ⟨q + 1, by omega, by go_num⟩
              case measure => simp [intOf]; omega
          · by_cases hqm : q < m
            · have d21 : decide ((q : Int) < 21) = false := decide_eq_false (by omega)
              go_wp2
              all_goals
                go_ret
                exact ⟨_, rfl, HB.out⟩
            · go_wp2
              all_goals
                go_ret
                exact ⟨_, rfl, HB.out⟩
end Go.Proofs.Ytcoihbpadbnilaa
end

section
/- Lists and machines that are equal: Equal, EqualFunc, equal, Same; the reference's Ints, Lists, Same. -/
namespace Go.Proofs.Ytcoihbpadbnilaa
open Go.RowKit

set_option maxHeartbeats 1000000 in
theorem rints (A B : Option Addr) (n c m d : Nat) (xs ys : List Int) (b : Bool) (w : World) (hx : Ints w A n xs) (hy : Ints w B m ys) (hb : b = decide (xs = ys)) :
    Calls Try.prog 61 #[.slice A n c, .slice B m d] w fun e w' => e = .returned (.bool b) ∧ ∃ q, w' = w.drewN q := by
  have L1 := Lib.hid hx.1
  have L2 := Lib.hid hy.1
  have hn := hx.2.1
  have hm := hy.2.1
  by_cases hnm : n = m
  · subst hnm
    have HB := Lib.hid hb
    clear hb
    go_enter Try.func61, Try.ntmps61
    go_wp2
    go_loopw [5] (fun i wr => ∃ j q : Nat, j ≤ n ∧ i = .int .i64 j ∧ AgreeL 0 xs ys j ∧ wr = w.drewN q) (fun i _ => n - (intOf i).toNat)
    case atStart => exact ⟨0, 0, Nat.zero_le _, rfl, AgreeL.zero _ _ _, rfl⟩
    case round =>
      obtain ⟨j, q, hj, rfl, heq, rfl⟩ := hrel
      have HE := Lib.hid heq
      clear heq
      by_cases hlt : j < n
      · obtain ⟨g1, o1, rfl, _, hc1⟩ := hx.at_ hlt
        obtain ⟨g2, o2, rfl, _, hc2⟩ := hy.at_ hlt
        by_cases he : xs.getD j 0 = ys.getD j 0
        · have hnx := Lib.hid (HE.out.succ he)
          rw [← he] at hc2
          generalize xs.getD j 0 = y at hc1 hc2
          clear he
          go_wp2
          go_quiet (fail)
          go_wp2
          go_roundw
          case rel => exact ⟨j + 1, _, by omega, by go_num, hnx.out, rfl⟩
          case measure => simp [intOf]; omega
        · have hfin : Hid (b = false) := Lib.hid (HB.out.trans (decide_eq_false fun e => he (by rw [e])))
          have hne : (xs.getD j 0 != ys.getD j 0) = true := by simpa using he
          generalize xs.getD j 0 = y at hc1 hne
          generalize ys.getD j 0 = z at hc2 hne
          clear he
          go_wp2
          go_quiet (fail)
          go_wp2
          go_ret
          exact ⟨ret_bool hfin.out.symm, by first | exact ⟨_, rfl⟩ | exact ⟨_, World.drewN_drewN _ _ _⟩⟩
      · obtain rfl : j = n := by omega
        have hfin : Hid (b = true) := Lib.hid (HB.out.trans (decide_eq_true (HE.out.all L1.out L2.out)))
        go_wp2
        go_ret
        exact ⟨ret_bool hfin.out.symm, by first | exact ⟨_, rfl⟩ | exact ⟨_, World.drewN_drewN _ _ _⟩⟩
  · have hfin : Hid (b = false) := Lib.hid (hb.trans (decide_eq_false fun e => hnm (by rw [← L1.out, ← L2.out, e])))
    have hd : ((n : Int) != (m : Int)) = true := by simp; omega
    clear hnm hb
    go_enter Try.func61, Try.ntmps61
    go_wp2
    go_ret
    exact ⟨ret_bool hfin.out.symm, 0, rfl⟩

theorem drew_trans {w wr w2 : World} (h : ∃ q, wr = w.drewN q) (h2 : ∃ q, w2 = wr.drewN q) : ∃ q, w2 = w.drewN q := by
  obtain ⟨q, rfl⟩ := h2
  exact drew_more h q

set_option maxHeartbeats 1000000 in
theorem rlists (A B : Option Addr) (n c m d : Nat) (xs ys : List (List Int)) (b : Bool) (w : World) (hx : Lists w A n xs) (hy : Lists w B m ys) (hb : b = decide (xs = ys)) :
    Calls Try.prog 47 #[.slice A n c, .slice B m d] w fun e w' => e = .returned (.bool b) ∧ ∃ q, w' = w.drewN q := by
  have L1 := Lib.hid hx.1
  have L2 := Lib.hid hy.1
  have hn := hx.2.1
  have hm := hy.2.1
  by_cases hnm : n = m
  · subst hnm
    have HB := Lib.hid hb
    clear hb
    go_enter Try.func47, Try.ntmps47
    go_wp2
    go_loopw [5] (fun i wr => ∃ j : Nat, j ≤ n ∧ i = .int .i64 j ∧ AgreeL [] xs ys j ∧ ∃ q, wr = w.drewN q) (fun i _ => n - (intOf i).toNat)
    case atStart => exact ⟨0, Nat.zero_le _, rfl, AgreeL.zero _ _ _, 0, rfl⟩
    case round =>
      obtain ⟨j, hj, rfl, heq, hw⟩ := hrel
      have hx' : Lists wr A n xs := by obtain ⟨q, rfl⟩ := hw; exact hx
      have hy' : Lists wr B n ys := by obtain ⟨q, rfl⟩ := hw; exact hy
      have HW := Lib.hid hw
      clear hw
      have HE := Lib.hid heq
      clear heq
      by_cases hlt : j < n
      · obtain ⟨g1, o1, A1, n1, c1, rfl, _, hc1, hi1⟩ := hx'.at_ hlt
        obtain ⟨g2, o2, A2, n2, c2, rfl, _, hc2, hi2⟩ := hy'.at_ hlt
        by_cases he : xs.getD j [] = ys.getD j []
        · have hnx := Lib.hid (HE.out.succ he)
          have hd := Lib.hid ((decide_eq_true he).symm)
          clear he
          go_wp2
          go_quiet ((go_at_call 61; exact Calls.quiet_of (rints _ _ _ _ _ _ _ _ _ _ hi1 hi2 hd.out)))
          go_wp2
          go_roundw
          case rel => exact ⟨j + 1, by omega, by go_num, hnx.out, drew_more HW.out _⟩
          case measure => simp [intOf]; omega
        · have hfin : Hid (b = false) := Lib.hid (HB.out.trans (decide_eq_false fun e => he (by rw [e])))
          have hd := Lib.hid ((decide_eq_false he).symm)
          clear he
          go_wp2
          go_quiet ((go_at_call 61; exact Calls.quiet_of (rints _ _ _ _ _ _ _ _ _ _ hi1 hi2 hd.out)))
          go_wp2
          go_ret
          exact ⟨ret_bool hfin.out.symm, by first | exact drew_more HW.out _ | exact HW.out⟩
      · obtain rfl : j = n := by omega
        have hfin : Hid (b = true) := Lib.hid (HB.out.trans (decide_eq_true (HE.out.all L1.out L2.out)))
        go_wp2
        go_ret
        exact ⟨ret_bool hfin.out.symm, by first | exact drew_more HW.out _ | exact HW.out⟩
  · have hfin : Hid (b = false) := Lib.hid (hb.trans (decide_eq_false fun e => hnm (by rw [← L1.out, ← L2.out, e])))
    have hd : ((n : Int) != (m : Int)) = true := by simp; omega
    clear hnm hb
    go_enter Try.func47, Try.ntmps47
    go_wp2
    go_ret
    exact ⟨ret_bool hfin.out.symm, 0, rfl⟩

end Go.Proofs.Ytcoihbpadbnilaa
end

section
/- Same of two machines by the two texts. -/
namespace Go.Proofs.Ytcoihbpadbnilaa
open Go.RowKit

set_option maxHeartbeats 1000000 in
set_option maxRecDepth 100000 in
theorem rsamem (i st i2 st2 : Int) (A B C D : Option Addr) (n c m d p e q f : Nat) (nx ot nx2 ot2 : List (List Int)) (b : Bool) (w : World) (hx : Lists w A n nx) (ho : Lists w B m ot) (hx2 : Lists w C p nx2) (ho2 : Lists w D q ot2)
    (hb : b = decide (i = i2 ∧ st = st2 ∧ nx = nx2 ∧ ot = ot2)) :
    Calls Try.prog 27 #[.agg #[.int .i64 i, .int .i64 st, .slice A n c, .slice B m d], .agg #[.int .i64 i2, .int .i64 st2, .slice C p e, .slice D q f]] w fun e w' => e = .returned (.bool b) ∧ Below w.heap.size w w' := by
  have hb0 := alloc_below w (.cells #[.int .i64 i, .int .i64 st, .slice A n c, .slice B m d] 24)
  have hb1 := bt hb0 (alloc_below (w.alloc (.cells #[.int .i64 i, .int .i64 st, .slice A n c, .slice B m d] 24)) (.cells #[.int .i64 i2, .int .i64 st2, .slice C p e, .slice D q f] 24))
  by_cases h1 : i = i2
  · by_cases h2 : st = st2
    · by_cases h3 : nx = nx2
      · have z1 : (i == i2) = true := by simpa using h1
        have z2 : (st == st2) = true := by simpa using h2
        have H3 := Lib.hid ((decide_eq_true h3).symm)
        have hfin : Hid (b = decide (ot = ot2)) := Lib.hid (by rw [hb, decide_eq_decide]; exact ⟨fun H => H.2.2.2, fun H => ⟨h1, h2, h3, H⟩⟩)
        clear hb h1 h2 h3
        go_enter Try.func27, Try.ntmps27
        go_wp2_with fail
        refine (rlists _ _ _ _ _ _ _ _ _ _ (hx.below hb1) (hx2.below hb1) H3.out).mono ?_
        rintro e w1 ⟨rfl, q1, rfl⟩
        go_wp2_with fail
        refine (rlists _ _ _ _ _ _ _ _ _ _ (ho.below (below_drewN hb1 q1)) (ho2.below (below_drewN hb1 q1)) hfin.out).mono ?_
        rintro e w1 ⟨rfl, q2, rfl⟩
        go_wp2
        go_ret
        exact ⟨rfl, below_drewN hb1 _⟩
      · have z1 : (i == i2) = true := by simpa using h1
        have z2 : (st == st2) = true := by simpa using h2
        have H3 := Lib.hid ((decide_eq_false h3).symm)
        have hfin : Hid (b = false) := Lib.hid (hb.trans (decide_eq_false fun H => h3 H.2.2.1))
        clear hb h1 h2 h3
        go_enter Try.func27, Try.ntmps27
        go_wp2_with fail
        refine (rlists _ _ _ _ _ _ _ _ _ _ (hx.below hb1) (hx2.below hb1) H3.out).mono ?_
        rintro e w1 ⟨rfl, q1, rfl⟩
        go_wp2
        go_ret
        exact ⟨ret_bool hfin.out.symm, below_drewN hb1 q1⟩
    · have z1 : (i == i2) = true := by simpa using h1
      have z2 : (st == st2) = false := by simpa using h2
      have hfin : Hid (b = false) := Lib.hid (hb.trans (decide_eq_false fun H => h2 H.2.1))
      clear hb h1 h2
      go_enter Try.func27, Try.ntmps27
      go_wp2
      go_ret
      exact ⟨ret_bool hfin.out.symm, hb1⟩
  · have z1 : (i == i2) = false := by simpa using h1
    have hfin : Hid (b = false) := Lib.hid (hb.trans (decide_eq_false fun H => h1 H.1))
    clear hb h1
    go_enter Try.func27, Try.ntmps27
    go_wp2
    go_ret
    exact ⟨ret_bool hfin.out.symm, hb1⟩

end Go.Proofs.Ytcoihbpadbnilaa
end

section
/- device, the reference: Same of equal devices. -/
namespace Go.Proofs.Ytcoihbpadbnilaa
open Go.RowKit

set_option linter.unusedSimpArgs false in
set_option maxHeartbeats 8000000 in
set_option maxRecDepth 100000 in
theorem rdsame (D : DD) (H H2 : DH) (w : World) (h1 : DevR w D H) (h2 : DevR w D H2) :
    Calls Try.prog 14 #[dvA D H, dvA D H2] w fun e w' => e = .returned (.bool true) ∧ Below w.heap.size w w' := by
  obtain ⟨w1, hw1⟩ : ∃ w1, w1 = w.alloc (.cells (dvC D H) 32) := ⟨_, rfl⟩
  obtain ⟨w2, hw2⟩ : ∃ w2, w2 = w1.alloc (.cells (dvC D H2) 32) := ⟨_, rfl⟩
  have b1 : Below w.heap.size w w1 := by rw [hw1]; exact alloc_below _ _
  have z1 : w1.heap.size = w.heap.size + 1 := by rw [hw1]; simp
  have b2 : Below w1.heap.size w1 w2 := by rw [hw2]; exact alloc_below _ _
  have m1 : Blk w2 w.heap.size (dvC D H) 32 := (by rw [hw1]; exact blk_new _ _ _ : Blk w1 w.heap.size (dvC D H) 32).on b2
  have m2 : Blk w2 (w.heap.size + 1) (dvC D H2) 32 := by rw [hw2, ← z1]; exact blk_new _ _ _
  have b12 := bt b1 b2
  have HB2 := Lib.hid b12
  have HS1 := Lib.hid (fun (W : World) (h : Below w2.heap.size w2 W) => (m1.on h).dev)
  have HS2 := Lib.hid (fun (W : World) (h : Below w2.heap.size w2 W) => (m2.on h).dev)
  unfold DevC at HS1 HS2
  have HD1 := Lib.hid (fun (W : World) (h : Below w2.heap.size w2 W) => (h1.below b12).below h)
  have HD2 := Lib.hid (fun (W : World) (h : Below w2.heap.size w2 W) => (h2.below b12).below h)
  rw [hw1] at hw2
  have HW2 := Lib.hid hw2
  obtain ⟨k0, k1, k2, k3, k4, k5, k6, k7, k8, k9, k10, k11, k12, k13, k14⟩ := HS1.out _ (Below.refl _ _)
  obtain ⟨l0, l1, l2, l3, l4, l5, l6, l7, l8, l9, l10, l11, l12, l13, l14⟩ := HS2.out _ (Below.refl _ _)
  rw [hw2] at k0 k1 k2 k3 l0 l1 l2 l3
  clear hw1 hw2 b1 b2 m1 m2 b12 z1 h1 h2 k4 k5 k6 k7 k8 k9 k10 k11 k12 k13 k14 l4 l5 l6 l7 l8 l9 l10 l11 l12 l13 l14
  unfold dvA
  go_enter Try.func14, Try.ntmps14
  go_wp2_with fail
  rw [← HW2.out]
  refine (rsamem _ _ _ _ _ _ _ _ _ _ _ _ _ _ _ _ _ _ _ _ true _ (HD1.out _ (Below.refl _ _)).nx (HD1.out _ (Below.refl _ _)).ot (HD2.out _ (Below.refl _ _)).nx (HD2.out _ (Below.refl _ _)).ot (by simp)).mono ?_
  rintro e w3 ⟨rfl, b3⟩
  have HB3 := Lib.hid b3
  clear k0 k1 k2 k3 l0 l1 l2 l3 b3
  obtain ⟨k0, k1, k2, k3, k4, k5, k6, k7, k8, k9, k10, k11, k12, k13, k14⟩ := HS1.out _ HB3.out
  obtain ⟨l0, l1, l2, l3, l4, l5, l6, l7, l8, l9, l10, l11, l12, l13, l14⟩ := HS2.out _ HB3.out
  clear k0 k1 k2 k3 l0 l1 l2 l3
  go_wp2_with fail
  refine (rsame _ _ _ _ _ _ _ _ true _ (HD1.out _ HB3.out).cs (HD2.out _ HB3.out).cs (by simp)).mono ?_
  rintro e w4 ⟨rfl, q, hq⟩
  have b4 : Below w3.heap.size w3 w4 := by rw [hq]; exact below_drewN (Below.refl _ _) q
  have hbc := bt HB3.out b4
  have HBC := Lib.hid hbc
  clear hq b4 k4 k5 k6 k7 k8 k9 k10 k11 k12 k13 k14 l4 l5 l6 l7 l8 l9 l10 l11 l12 l13 l14
  obtain ⟨k0, k1, k2, k3, k4, k5, k6, k7, k8, k9, k10, k11, k12, k13, k14⟩ := HS1.out _ hbc
  obtain ⟨l0, l1, l2, l3, l4, l5, l6, l7, l8, l9, l10, l11, l12, l13, l14⟩ := HS2.out _ hbc
  clear k0 k1 k2 k3 k4 k5 k6 l0 l1 l2 l3 l4 l5 l6 hbc
  go_wp2
  go_ret
  exact ⟨rfl, bt HB2.out HBC.out⟩
end Go.Proofs.Ytcoihbpadbnilaa
end

section
/- Valid of a machine by the reference. -/
namespace Go.Proofs.Ytcoihbpadbnilaa
open Go.RowKit

set_option maxHeartbeats 2000000 in
set_option maxRecDepth 100000 in
theorem rvalid (i st : Int) (A B : Option Addr) (n c m d : Nat) (nx ot : List (List Int)) (w : World) (hx : Lists w A n nx) (ho : Lists w B m ot) :
    Calls Try.prog 37 #[.agg #[.int .i64 i, .int .i64 st, .slice A n c, .slice B m d]] w fun e w' => e = .returned (.int .i64 (vld i st nx ot)) ∧ Below w.heap.size w w' := by
  have L1 := Lib.hid hx.1
  have L2 := Lib.hid ho.1
  have hn := hx.2.1
  have hm := ho.2.1
  have hb0 := alloc_below w (.cells #[.int .i64 i, .int .i64 st, .slice A n c, .slice B m d] 24)
  have hsz0 : (w.alloc (.cells #[.int .i64 i, .int .i64 st, .slice A n c, .slice B m d] 24)).heap.size = w.heap.size + 1 := by simp
  have HZ := Lib.hid hsz0
  clear hsz0
  by_cases hi : 1 ≤ i ∧ i ≤ 64
  · have HI := Lib.hid hi
    obtain ⟨hi1, hi2⟩ := hi
    have i1 : decide (i < 1) = false := by simpa using hi1
    have i2 : decide (64 < i) = false := by simpa using hi2
    by_cases h0 : n = 0
    · have hfin := Lib.hid (vld_empty (st := st) (ot := ot) HI.out (by rw [L1.out]; exact h0))
      subst h0
      go_enter Try.func37, Try.ntmps37
      go_wp2
      go_ret
      exact ⟨ret_int hfin.out.symm, hb0⟩
    · have z0 : ((n : Int) == 0) = false := by simp; omega
      by_cases h1 : 128 < n
      · have hfin := Lib.hid (vld_many (st := st) (ot := ot) HI.out (by rw [L1.out]; exact h1))
        clear h0
        go_enter Try.func37, Try.ntmps37
        go_wp2
        go_ret
        exact ⟨ret_int hfin.out.symm, hb0⟩
      · have z1 : decide ((128 : Int) < (n : Int)) = false := by simp; omega
        by_cases h2 : 0 ≤ st ∧ st < n
        · have H2 := Lib.hid h2
          have s1 : decide (st < 0) = false := by simpa using h2.1
          have s2 : decide ((n : Int) ≤ st) = false := by simpa using h2.2
          by_cases h3 : m = n
          · subst h3
            have z3 : ((m : Int) != (m : Int)) = false := by simp
            have hrows := Lib.hid (vld_rows (i := i) (st := st) (nx := nx) (ot := ot) HI.out (by rw [L1.out]; exact h0) (by rw [L1.out]; exact h1) (by rw [L1.out]; exact H2.out) (by rw [L1.out, L2.out]))
            clear h0 h2
            go_enter Try.func37, Try.ntmps37
            go_wp2
            go_loopw [3] (fun x wr => ∃ j : Nat, j ≤ m ∧ x = .int .i64 j ∧ (∀ t, t < j → rowAt i nx ot t = 0) ∧ Below (w.heap.size + 1) (w.alloc (.cells #[.int .i64 i, .int .i64 st, .slice A m c, .slice B m d] 24)) wr) (fun x _ => m - (intOf x).toNat)
            case atStart => exact ⟨0, Nat.zero_le _, rfl, fun t h => absurd h (by omega), Below.refl _ _⟩
            case round =>
              obtain ⟨j, hj, rfl, hok, hbr⟩ := hrel
              have hbw := hb0.trans (hbr.mono (Nat.le_succ _))
              have hsz1 : w.heap.size + 1 ≤ wr.heap.size := by have := hbr.size; simpa using this
              have HK := Lib.hid hok
              clear hok
              obtain ⟨k0, k1, k2, k3⟩ := box4 hbr
              by_cases hlt : j < m
              · have HV := Lib.hid (show rowAt i nx ot j = rowE i m (nx.getD j []) (ot.getD j []) by unfold rowAt; rw [L1.out])
                by_cases he : rowE i m (nx.getD j []) (ot.getD j []) = 0
                · have hnx := Lib.hid (show ∀ t, t < j + 1 → rowAt i nx ot t = 0 from fun t ht => by
                    by_cases e : t = j
                    · subst e; rw [HV.out]; exact he
                    · exact HK.out t (by omega))
                  have HE := Lib.hid he
                  clear he
                  go_wp2_with fail
                  refine (rrow _ _ _ _ _ _ _ _ _ _ _ _ (hx.below hbw) (ho.below hbw) hlt hlt).mono ?_
                  rintro e w2 ⟨rfl, b2⟩
                  have b3 := hbr.trans (b2.mono hsz1)
                  rw [HE.out]
                  obtain ⟨k0, k1, k2, k3⟩ := box4 b3
                  go_wp2
                  go_roundw
                  case rel => exact ⟨j + 1, by omega, by go_num, hnx.out, b3⟩
                  case measure => simp [intOf]; omega
                · have hfin := Lib.hid (hrows.out.trans (fstE_bad HK.out (by rw [HV.out]; exact he) (by rw [L1.out]; exact hlt)))
                  have he2 : (rowE i m (nx.getD j []) (ot.getD j []) != 0) = true := by simpa using he
                  go_wp2_with fail
                  refine (rrow _ _ _ _ _ _ _ _ _ _ _ _ (hx.below hbw) (ho.below hbw) hlt hlt).mono ?_
                  rintro e w2 ⟨rfl, b2⟩
                  have b3 := hbr.trans (b2.mono hsz1)
                  have HF := Lib.hid (hfin.out.trans HV.out)
                  clear hfin HV
                  generalize rowE i m (nx.getD j []) (ot.getD j []) = E at he2 he HF
                  clear he
                  go_wp2
                  go_ret
                  exact ⟨ret_int HF.out.symm, hb0.trans (b3.mono (Nat.le_succ _))⟩
              · obtain rfl : j = m := by omega
                have hfin := Lib.hid (hrows.out.trans (fstE_ok (by rw [L1.out]; exact HK.out)))
                go_wp2
                go_ret
                exact ⟨ret_int hfin.out.symm, hbw⟩
          · have z3 : ((m : Int) != (n : Int)) = true := by simp; omega
            have hfin := Lib.hid (vld_out (i := i) (st := st) (nx := nx) (ot := ot) HI.out (by rw [L1.out]; exact h0) (by rw [L1.out]; exact h1) (by rw [L1.out]; exact H2.out) (by rw [L1.out, L2.out]; exact h3))
            clear h0 h3
            go_enter Try.func37, Try.ntmps37
            go_wp2
            go_ret
            exact ⟨ret_int hfin.out.symm, hb0⟩
        · have hfin := Lib.hid (vld_start (i := i) (st := st) (nx := nx) (ot := ot) HI.out (by rw [L1.out]; exact h0) (by rw [L1.out]; exact h1) (by rw [L1.out]; exact h2))
          by_cases h3 : 0 ≤ st
          · have s1 : decide (st < 0) = false := by simpa using h3
            have s2 : decide ((n : Int) ≤ st) = true := by simp; omega
            clear h0 h2
            go_enter Try.func37, Try.ntmps37
            go_wp2
            go_ret
            exact ⟨ret_int hfin.out.symm, hb0⟩
          · have s1 : decide (st < 0) = true := by simpa using h3
            clear h0 h2
            go_enter Try.func37, Try.ntmps37
            go_wp2
            go_ret
            exact ⟨ret_int hfin.out.symm, hb0⟩
  · have hfin := Lib.hid (vld_in (st := st) (nx := nx) (ot := ot) hi)
    by_cases hi1 : 1 ≤ i
    · have hi2 : 64 < i := by omega
      have t1 : ¬ i < 1 := by omega
      clear hi
      go_enter Try.func37, Try.ntmps37
      go_wp2
      go_ret
      exact ⟨ret_int hfin.out.symm, hb0⟩
    · have t1 : i < 1 := by omega
      clear hi hi1
      go_enter Try.func37, Try.ntmps37
      go_wp2
      go_ret
      exact ⟨ret_int hfin.out.symm, hb0⟩
end Go.Proofs.Ytcoihbpadbnilaa
end

section
/- device, the reference: rate, counter, costs, Fits, Valid. -/
namespace Go.Proofs.Ytcoihbpadbnilaa
open Go.RowKit

theorem rrate (a : Int) (r : Bool) (hr : r = decide (0 ≤ a ∧ a ≤ 10000)) (w : World) : Calls Try.prog 39 #[.int .i64 a] w fun e w' => e = .returned (.bool r) ∧ w = w' := by
  by_cases h1 : 0 ≤ a
  · have d1 : decide ((0 : Int) ≤ a) = true := decide_eq_true h1
    by_cases h2 : a ≤ 10000
    · obtain rfl : r = true := hr.trans (decide_eq_true ⟨h1, h2⟩)
      have d2 : decide (a ≤ 10000) = true := decide_eq_true h2
      clear hr
      go_enter Try.func39, Try.ntmps39
      go_wp2
      go_ret
      exact ⟨rfl, rfl⟩
    · obtain rfl : r = false := hr.trans (decide_eq_false fun h => h2 h.2)
      have d2 : decide (a ≤ 10000) = false := decide_eq_false h2
      clear hr
      go_enter Try.func39, Try.ntmps39
      go_wp2
      go_ret
      exact ⟨rfl, rfl⟩
  · obtain rfl : r = false := hr.trans (decide_eq_false fun h => h1 h.1)
    have d1 : decide ((0 : Int) ≤ a) = false := decide_eq_false h1
    clear hr
    go_enter Try.func39, Try.ntmps39
    go_wp2
    go_ret
    exact ⟨rfl, rfl⟩
theorem rcounter (a : Int) (r : Bool) (hr : r = decide (0 ≤ a ∧ a ≤ 1125899906842624)) (w : World) : Calls Try.prog 40 #[.int .i64 a] w fun e w' => e = .returned (.bool r) ∧ w = w' := by
  by_cases h1 : 0 ≤ a
  · have d1 : decide ((0 : Int) ≤ a) = true := decide_eq_true h1
    by_cases h2 : a ≤ 1125899906842624
    · obtain rfl : r = true := hr.trans (decide_eq_true ⟨h1, h2⟩)
      have d2 : decide (a ≤ 1125899906842624) = true := decide_eq_true h2
      clear hr
      go_enter Try.func40, Try.ntmps40
      go_wp2
      go_ret
      exact ⟨rfl, rfl⟩
    · obtain rfl : r = false := hr.trans (decide_eq_false fun h => h2 h.2)
      have d2 : decide (a ≤ 1125899906842624) = false := decide_eq_false h2
      clear hr
      go_enter Try.func40, Try.ntmps40
      go_wp2
      go_ret
      exact ⟨rfl, rfl⟩
  · obtain rfl : r = false := hr.trans (decide_eq_false fun h => h1 h.1)
    have d1 : decide ((0 : Int) ≤ a) = false := decide_eq_false h1
    clear hr
    go_enter Try.func40, Try.ntmps40
    go_wp2
    go_ret
    exact ⟨rfl, rfl⟩

set_option maxHeartbeats 2000000 in
theorem rcosts (L : Option Addr) (l lc : Nat) (cs : List Int) (rc : Int) (r : Bool) (w : World) (hx : Ints w L l cs) (hr : r = decide (dAff cs rc)) :
    Calls Try.prog 33 #[.agg #[.slice L l lc, .int .i64 rc]] w fun e w' => e = .returned (.bool r) ∧ Below w.heap.size w w' := by
  obtain ⟨w1, hw1⟩ : ∃ w1, w1 = w.alloc (.cells #[.slice L l lc, .int .i64 rc] 27) := ⟨_, rfl⟩
  have b1 : Below w.heap.size w w1 := by rw [hw1]; exact alloc_below _ _
  have m1 : Blk w1 w.heap.size #[.slice L l lc, .int .i64 rc] 27 := by rw [hw1]; exact blk_new _ _ _
  have k0 : w1.cell? ⟨w.heap.size, 0, none⟩ = some (.slice L l lc) := m1.cell 0
  have k1 : w1.cell? ⟨w.heap.size, 1, none⟩ = some (.int .i64 rc) := m1.cell 1
  have HK := Lib.hid (And.intro k0 k1)
  rw [hw1] at k0 k1
  have HW1 := Lib.hid hw1
  have HB1 := Lib.hid b1
  have HL := Lib.hid hx.1
  have HX := Lib.hid (hx.below b1)
  have HR := Lib.hid hr
  have hl := hx.2.1
  clear hw1 m1 b1 hx hr
  go_enter Try.func33, Try.ntmps33
  go_wp2
  rw [← HW1.out]
  clear k0 k1
  obtain ⟨k0, k1⟩ := HK.out
  go_loop [3] (fun kv => ∃ q : Nat, q ≤ l ∧ kv = .int .i64 q ∧ ∀ j, j < q → 0 ≤ cs.getD j 0 ∧ cs.getD j 0 ≤ 1048576) (fun kv => l - (intOf kv).toNat)
  case atStart => exact ⟨0, Nat.zero_le _, rfl, fun j hj => absurd hj (by omega)⟩
  case round =>
    obtain ⟨q, hq, rfl, hall⟩ := hrel
    have HA := Lib.hid hall
    clear hall
    by_cases hlt : q < l
    · obtain ⟨b, o, hLe, _, hc⟩ := HX.out.at_ hlt
      rw [hLe] at k0
      have hin : Hid (cs.getD q 0 ∈ cs) := Lib.hid (by rw [List.getD_eq_getElem?_getD, List.getElem?_eq_getElem (by rw [HL.out]; exact hlt)]; exact List.getElem_mem _)
      have HN : Hid (0 ≤ cs.getD q 0 ∧ cs.getD q 0 ≤ 1048576 → ∀ j, j < q + 1 → 0 ≤ cs.getD j 0 ∧ cs.getD j 0 ≤ 1048576) := Lib.hid (fun h j hj => by
        by_cases e : j = q
        · subst e; exact h
        · exact HA.out j (by omega))
      have HLE := Lib.hid hLe
      subst hLe
      have HF : Hid (¬ (0 ≤ cs.getD q 0 ∧ cs.getD q 0 ≤ 1048576) → r = false) := Lib.hid (fun h => HR.out.trans (decide_eq_false fun hh => h (hh.2 _ hin.out)))
      generalize hxx : cs.getD q 0 = x at hc HN HF
      clear hxx hin
      by_cases h1 : x < 0
      · have d1 : decide (x < (0 : Int)) = true := decide_eq_true h1
        have HFF := Lib.hid (HF.out (by omega))
        clear h1
        go_wp2
        go_ret
        exact ⟨by rw [HFF.out]; rfl, HB1.out⟩
      · have d1 : decide (x < (0 : Int)) = false := decide_eq_false h1
        by_cases h2 : 1048576 < x
        · have d2 : decide ((1048576 : Int) < x) = true := decide_eq_true h2
          have HFF := Lib.hid (HF.out (by omega))
          clear h1 h2
          go_wp2
          go_ret
          exact ⟨by rw [HFF.out]; rfl, HB1.out⟩
        · have d2 : decide ((1048576 : Int) < x) = false := decide_eq_false h2
          have HNN := Lib.hid (HN.out (by omega))
          clear h1 h2
          go_wp2
          go_round
          case rel => exact ⟨q + 1, by omega, by go_num, HNN.out⟩
          case measure => simp [intOf]; omega
    · obtain rfl : q = l := by omega
      have HALL : Hid (∀ x, x ∈ cs → 0 ≤ x ∧ x ≤ 1048576) := Lib.hid (fun x hx => by
        obtain ⟨j, hj, rfl⟩ := List.getElem_of_mem hx
        have := HA.out j (by rw [← HL.out]; exact hj)
        rw [List.getD_eq_getElem?_getD, List.getElem?_eq_getElem hj] at this
        exact this)
      by_cases h1 : 0 ≤ rc
      · have d1 : decide ((0 : Int) ≤ rc) = true := decide_eq_true h1
        by_cases h2 : rc ≤ 1048576
        · have d2 : decide (rc ≤ (1048576 : Int)) = true := decide_eq_true h2
          have HFF : Hid (r = true) := Lib.hid (HR.out.trans (decide_eq_true ⟨⟨h1, h2⟩, HALL.out⟩))
          clear h1 h2
          go_wp2
          go_ret
          exact ⟨by rw [HFF.out]; rfl, HB1.out⟩
        · have d2 : decide (rc ≤ (1048576 : Int)) = false := decide_eq_false h2
          have HFF : Hid (r = false) := Lib.hid (HR.out.trans (decide_eq_false fun h => h2 h.1.2))
          clear h1 h2
          go_wp2
          go_ret
          exact ⟨by rw [HFF.out]; rfl, HB1.out⟩
      · have d1 : decide ((0 : Int) ≤ rc) = false := decide_eq_false h1
        have HFF : Hid (r = false) := Lib.hid (HR.out.trans (decide_eq_false fun h => h1 h.1.1))
        clear h1
        go_wp2
        go_ret
        exact ⟨by rw [HFF.out]; rfl, HB1.out⟩

/-- Does a latency fit? -/
def fitE (cs : List Int) (rc i : Int) : Int := if (cs.length : Int) = i then (if dAff cs rc then 0 else 2) else 1
theorem rfits (L : Option Addr) (l lc : Nat) (cs : List Int) (rc i : Int) (r : Int) (w : World) (hx : Ints w L l cs) (hr : r = fitE cs rc i) :
    Calls Try.prog 38 #[.agg #[.slice L l lc, .int .i64 rc], .int .i64 i] w fun e w' => e = .returned (.int .i64 r) ∧ Below w.heap.size w w' := by
  obtain ⟨w1, hw1⟩ : ∃ w1, w1 = w.alloc (.cells #[.slice L l lc, .int .i64 rc] 27) := ⟨_, rfl⟩
  have b1 : Below w.heap.size w w1 := by rw [hw1]; exact alloc_below _ _
  have m1 : Blk w1 w.heap.size #[.slice L l lc, .int .i64 rc] 27 := by rw [hw1]; exact blk_new _ _ _
  have k0 : w1.cell? ⟨w.heap.size, 0, none⟩ = some (.slice L l lc) := m1.cell 0
  have k1 : w1.cell? ⟨w.heap.size, 1, none⟩ = some (.int .i64 rc) := m1.cell 1
  rw [hw1] at k0 k1
  have HW1 := Lib.hid hw1
  have HB1 := Lib.hid b1
  have HC := Lib.hid (fun (r : Bool) (hr : r = decide (dAff cs rc)) => rcosts L l lc cs rc r w1 (hx.below b1) hr)
  have HR : Hid (r = if (l : Int) = i then (if dAff cs rc then 0 else 2) else 1) := Lib.hid (by rw [hr]; unfold fitE; rw [hx.1])
  clear hw1 m1 b1 hx hr
  by_cases h1 : (l : Int) = i
  · have d1 : ((l : Int) != i) = false := by rw [h1]; simp
    rw [if_pos h1] at HR
    by_cases h2 : dAff cs rc
    · rw [if_pos h2] at HR
      have HC2 := Lib.hid (HC.out true (decide_eq_true h2).symm)
      clear HC h1 h2
      go_enter Try.func38, Try.ntmps38
      go_wp2_with fail
      rw [← HW1.out]
      refine HC2.out.mono ?_
      rintro e w2 ⟨rfl, b2⟩
      have HB2 := Lib.hid (bt HB1.out b2)
      clear b2 k0 k1
      go_wp2
      go_ret
      exact ⟨by rw [HR.out]; rfl, HB2.out⟩
    · rw [if_neg h2] at HR
      have HC2 := Lib.hid (HC.out false (decide_eq_false h2).symm)
      clear HC h1 h2
      go_enter Try.func38, Try.ntmps38
      go_wp2_with fail
      rw [← HW1.out]
      refine HC2.out.mono ?_
      rintro e w2 ⟨rfl, b2⟩
      have HB2 := Lib.hid (bt HB1.out b2)
      clear b2 k0 k1
      go_wp2
      go_ret
      exact ⟨by rw [HR.out]; rfl, HB2.out⟩
  · have d1 : ((l : Int) != i) = true := by rw [bne_iff_ne]; exact h1
    rw [if_neg h1] at HR
    clear HC h1
    go_enter Try.func38, Try.ntmps38
    go_wp2
    go_ret
    exact ⟨by rw [HR.out]; rfl, by rw [← HW1.out]; exact HB1.out⟩

set_option maxHeartbeats 8000000 in
set_option maxRecDepth 100000 in
theorem rdvalid (D : DD) (H : DH) (r : Int) (w : World) (hD : DevR w D H) (hr : r = D.err) : Calls Try.prog 16 #[dvA D H] w fun e w' => e = .returned (.int .i64 r) ∧ Below w.heap.size w w' := by
  obtain ⟨w1, hw1⟩ : ∃ w1, w1 = (w.alloc (.cells (dvC D H) 32)).alloc (.cells #[.int .i64 D.f1, .int .i64 D.f2, .int .i64 D.f3] 29) := ⟨_, rfl⟩
  have b0 : Below w.heap.size w (w.alloc (.cells (dvC D H) 32)) := alloc_below _ _
  have b1 : Below w.heap.size w w1 := by rw [hw1]; exact bt b0 (alloc_below _ _)
  have m1 : Blk w1 w.heap.size (dvC D H) 32 := by rw [hw1]; exact (blk_new _ _ _).on (alloc_below _ _)
  have m2 : Blk w1 (w.heap.size + 1) #[.int .i64 D.f1, .int .i64 D.f2, .int .i64 D.f3] 29 := by
    rw [hw1]
    have := blk_new (w.alloc (.cells (dvC D H) 32)) #[.int .i64 D.f1, .int .i64 D.f2, .int .i64 D.f3] 29
    simpa using this
  have HW1 := Lib.hid hw1
  have HB1 := Lib.hid b1
  have HM1 := Lib.hid m1
  have HF := Lib.hid (fun (W : World) (h : Below w1.heap.size w1 W) => (show W.cell? ⟨w.heap.size + 1, 0, none⟩ = some (.int .i64 D.f1) ∧ W.cell? ⟨w.heap.size + 1, 1, none⟩ = some (.int .i64 D.f2) ∧ W.cell? ⟨w.heap.size + 1, 2, none⟩ = some (.int .i64 D.f3) from ⟨(m2.on h).cell 0, (m2.on h).cell 1, (m2.on h).cell 2⟩))
  have HD1 := Lib.hid (hD.below b1)
  have hn : (D.nx.length : Int) = (H.n : Int) := by rw [hD.nx.1]
  have hl : (D.cs.length : Int) = (H.l : Int) := by rw [hD.cs.1]
  have HR : Hid (r = if vld D.i D.st D.nx D.ot = 0 then (if 0 ≤ D.s ∧ D.s < (H.n : Int) then (if (H.l : Int) = D.i then (if dAff D.cs D.rc ∧ dPos D.f1 D.f2 D.f3 ∧ dCnt D.sp D.rs D.tm then 0 else 2) else 1) else 2) else vld D.i D.st D.nx D.ot) := Lib.hid (by rw [hr]; unfold DD.err; rw [hn, hl])
  have HFT : Hid (fitE D.cs D.rc D.i = if (H.l : Int) = D.i then (if dAff D.cs D.rc then 0 else 2) else 1) := Lib.hid (by unfold fitE; rw [hl])
  have HV := Lib.hid (fun (W : World) (h : Below w1.heap.size w1 W) => rvalid D.i D.st H.A H.B H.n H.c H.m H.d D.nx D.ot W (HD1.out.nx.below h) (HD1.out.ot.below h))
  have HFI := Lib.hid (fun (r : Int) (hr : r = fitE D.cs D.rc D.i) (W : World) (h : Below w1.heap.size w1 W) => rfits H.L H.l H.lc D.cs D.rc D.i r W (HD1.out.cs.below h) hr)
  obtain ⟨k0, k1, k2, k3, k4, k5, k6, k7, k8, k9, k10, k11, k12, k13, k14⟩ := m1.dev
  have k8' : (w.alloc (.cells (dvC D H) 32)).cell? ⟨w.heap.size, 8, none⟩ = some (.int .i64 D.f1) := (blk_new _ _ _).cell 8
  have k9' : (w.alloc (.cells (dvC D H) 32)).cell? ⟨w.heap.size, 9, none⟩ = some (.int .i64 D.f2) := (blk_new _ _ _).cell 9
  have k10' : (w.alloc (.cells (dvC D H) 32)).cell? ⟨w.heap.size, 10, none⟩ = some (.int .i64 D.f3) := (blk_new _ _ _).cell 10
  rw [hw1] at k0 k1 k2 k3
  clear hw1 m1 m2 b0 b1 hD hr hn hl k4 k5 k6 k7 k8 k9 k10 k11 k12 k13 k14
  unfold dvA
  go_enter Try.func16, Try.ntmps16
  go_wp2_with fail
  rw [← HW1.out]
  refine (HV.out _ (Below.refl _ _)).mono ?_
  rintro e w2 ⟨rfl, b2⟩
  have HB2 := Lib.hid b2
  clear k0 k1 k2 k3 b2 k8' k9' k10'
  by_cases h0 : vld D.i D.st D.nx D.ot = 0
  · rw [if_pos h0] at HR
    rw [h0]
    obtain ⟨k0, k1, k2, k3, k4, k5, k6, k7, k8, k9, k10, k11, k12, k13, k14⟩ := DevC.of HM1.out HB2.out
    by_cases h1 : 0 ≤ D.s ∧ D.s < (H.n : Int)
    · have d1 : decide (D.s < (0 : Int)) = false := decide_eq_false (by omega)
      have d2 : decide ((H.n : Int) ≤ D.s) = false := decide_eq_false (by omega)
      rw [if_pos h1] at HR
      have HFI2 := Lib.hid (HFI.out _ rfl w2 HB2.out)
      clear h0 h1 k8 k9 k10 k11 k12 k13 k14
      go_wp2_with fail
      refine HFI2.out.mono ?_
      rintro e w3 ⟨rfl, b3⟩
      have hb3 := bt HB2.out b3
      have HB3 := Lib.hid hb3
      clear b3 k0 k1 k2 k3 k4 k5 k6 k7
      by_cases h2 : fitE D.cs D.rc D.i = 0
      · rw [h2]
        have hli : (H.l : Int) = D.i := by
          by_cases e : (H.l : Int) = D.i
          · exact e
          · rw [HFT.out, if_neg e] at h2; exact absurd h2 (by decide)
        have hA : dAff D.cs D.rc := by
          by_cases e : dAff D.cs D.rc
          · exact e
          · rw [HFT.out, if_pos hli, if_neg e] at h2; exact absurd h2 (by decide)
        rw [if_pos hli] at HR
        have HRP : Hid (¬ dPos D.f1 D.f2 D.f3 → r = 2) := Lib.hid (fun h => by rw [HR.out, if_neg fun hh => h hh.2.1])
        have HRC : Hid (¬ dCnt D.sp D.rs D.tm → r = 2) := Lib.hid (fun h => by rw [HR.out, if_neg fun hh => h hh.2.2])
        have HRZ : Hid (dPos D.f1 D.f2 D.f3 ∧ dCnt D.sp D.rs D.tm → r = 0) := Lib.hid (fun h => by rw [HR.out, if_pos ⟨hA, h⟩])
        obtain ⟨k0, k1, k2, k3, k4, k5, k6, k7, k8, k9, k10, k11, k12, k13, k14⟩ := DevC.of HM1.out hb3
        obtain ⟨q0, q1, q2⟩ := HF.out _ hb3
        clear h2 hli hA k0 k1 k2 k3 k4 k5 k6 k7 k8 k9 k10 k11
        by_cases c_f1 : 0 ≤ D.f1 ∧ D.f1 ≤ 10000
        · have HX := Lib.hid (rrate D.f1 true (decide_eq_true c_f1).symm w3)
          go_wp2_with fail
          refine HX.out.mono ?_
          rintro e w4 ⟨rfl, rfl⟩
          by_cases c_f2 : 0 ≤ D.f2 ∧ D.f2 ≤ 10000
          · have HX := Lib.hid (rrate D.f2 true (decide_eq_true c_f2).symm w3)
            go_wp2_with fail
            refine HX.out.mono ?_
            rintro e w4 ⟨rfl, rfl⟩
            by_cases c_f3 : 0 ≤ D.f3 ∧ D.f3 ≤ 10000
            · have HX := Lib.hid (rrate D.f3 true (decide_eq_true c_f3).symm w3)
              go_wp2_with fail
              refine HX.out.mono ?_
              rintro e w4 ⟨rfl, rfl⟩
              have ws1 : IntKind.i64.wrap (D.f1 + D.f2) = D.f1 + D.f2 := by rw [IntKind.wrap_i64]; omega
              have ws2 : IntKind.i64.wrap (D.f1 + D.f2 + D.f3) = D.f1 + D.f2 + D.f3 := by rw [IntKind.wrap_i64]; omega
              by_cases hs : 10000 < D.f1 + D.f2 + D.f3
              · have ds : decide ((10000 : Int) < D.f1 + D.f2 + D.f3) = true := decide_eq_true hs
                have HZ := Lib.hid (HRP.out (fun h => by unfold dPos at h; omega))
                clear hs c_f1 c_f2 c_f3
                go_wp2
                go_ret
                exact ⟨by rw [HZ.out]; rfl, bt HB1.out HB3.out⟩
              · have ds : decide ((10000 : Int) < D.f1 + D.f2 + D.f3) = false := decide_eq_false hs
                have HPOS : Hid (dPos D.f1 D.f2 D.f3) := Lib.hid (by unfold dPos; omega)
                clear hs c_f1 c_f2 c_f3
                by_cases c_sp : 0 ≤ D.sp ∧ D.sp ≤ 1125899906842624
                · have HX := Lib.hid (rcounter D.sp true (decide_eq_true c_sp).symm w3)
                  go_wp2_with fail
                  refine HX.out.mono ?_
                  rintro e w4 ⟨rfl, rfl⟩
                  by_cases c_rs : 0 ≤ D.rs ∧ D.rs ≤ 1125899906842624
                  · have HX := Lib.hid (rcounter D.rs true (decide_eq_true c_rs).symm w3)
                    go_wp2_with fail
                    refine HX.out.mono ?_
                    rintro e w4 ⟨rfl, rfl⟩
                    by_cases c_tm : 0 ≤ D.tm ∧ D.tm ≤ 1125899906842624
                    · have HX := Lib.hid (rcounter D.tm true (decide_eq_true c_tm).symm w3)
                      go_wp2_with fail
                      refine HX.out.mono ?_
                      rintro e w4 ⟨rfl, rfl⟩
                      have HZ := Lib.hid (HRZ.out ⟨HPOS.out, ⟨by exact c_sp, by exact c_rs, by exact c_tm⟩⟩)
                      clear c_sp c_rs c_tm
                      go_wp2
                      go_ret
                      exact ⟨by rw [HZ.out]; rfl, bt HB1.out HB3.out⟩
                    · have HX := Lib.hid (rcounter D.tm false (decide_eq_false c_tm).symm w3)
                      have HZ := Lib.hid (HRC.out (fun h => c_tm (by unfold dCnt at h; omega)))
                      clear c_tm
                      go_wp2_with fail
                      refine HX.out.mono ?_
                      rintro e w4 ⟨rfl, rfl⟩
                      go_wp2
                      go_ret
                      exact ⟨by rw [HZ.out]; rfl, bt HB1.out HB3.out⟩
                  · have HX := Lib.hid (rcounter D.rs false (decide_eq_false c_rs).symm w3)
                    have HZ := Lib.hid (HRC.out (fun h => c_rs (by unfold dCnt at h; omega)))
                    clear c_rs
                    go_wp2_with fail
                    refine HX.out.mono ?_
                    rintro e w4 ⟨rfl, rfl⟩
                    go_wp2
                    go_ret
                    exact ⟨by rw [HZ.out]; rfl, bt HB1.out HB3.out⟩
                · have HX := Lib.hid (rcounter D.sp false (decide_eq_false c_sp).symm w3)
                  have HZ := Lib.hid (HRC.out (fun h => c_sp (by unfold dCnt at h; omega)))
                  clear c_sp
                  go_wp2_with fail
                  refine HX.out.mono ?_
                  rintro e w4 ⟨rfl, rfl⟩
                  go_wp2
                  go_ret
                  exact ⟨by rw [HZ.out]; rfl, bt HB1.out HB3.out⟩
            · have HX := Lib.hid (rrate D.f3 false (decide_eq_false c_f3).symm w3)
              have HZ := Lib.hid (HRP.out (fun h => c_f3 (by unfold dPos at h; omega)))
              clear c_f3
              go_wp2_with fail
              refine HX.out.mono ?_
              rintro e w4 ⟨rfl, rfl⟩
              go_wp2
              go_ret
              exact ⟨by rw [HZ.out]; rfl, bt HB1.out HB3.out⟩
          · have HX := Lib.hid (rrate D.f2 false (decide_eq_false c_f2).symm w3)
            have HZ := Lib.hid (HRP.out (fun h => c_f2 (by unfold dPos at h; omega)))
            clear c_f2
            go_wp2_with fail
            refine HX.out.mono ?_
            rintro e w4 ⟨rfl, rfl⟩
            go_wp2
            go_ret
            exact ⟨by rw [HZ.out]; rfl, bt HB1.out HB3.out⟩
        · have HX := Lib.hid (rrate D.f1 false (decide_eq_false c_f1).symm w3)
          have HZ := Lib.hid (HRP.out (fun h => c_f1 (by unfold dPos at h; omega)))
          clear c_f1
          go_wp2_with fail
          refine HX.out.mono ?_
          rintro e w4 ⟨rfl, rfl⟩
          go_wp2
          go_ret
          exact ⟨by rw [HZ.out]; rfl, bt HB1.out HB3.out⟩
      · have HRE : Hid (r = fitE D.cs D.rc D.i) := Lib.hid (by
          rw [HR.out, HFT.out]
          by_cases e : (H.l : Int) = D.i
          · rw [if_pos e, if_pos e]
            by_cases e2 : dAff D.cs D.rc
            · rw [HFT.out, if_pos e, if_pos e2] at h2; exact absurd rfl h2
            · rw [if_neg e2, if_neg fun hh => e2 hh.1]
          · rw [if_neg e, if_neg e])
        have HFI3 := Lib.hid (HFI.out _ rfl w3 hb3)
        obtain ⟨v, hv⟩ : ∃ v, v = fitE D.cs D.rc D.i := ⟨_, rfl⟩
        rw [← hv] at h2 HRE HFI3 ⊢
        have hne : (v != 0) = true := by simpa using h2
        obtain ⟨k0, k1, k2, k3, k4, k5, k6, k7, k8, k9, k10, k11, k12, k13, k14⟩ := DevC.of HM1.out hb3
        clear h2 hv k1 k2 k3 k4 k5 k8 k9 k10 k11 k12 k13 k14 hb3
        go_wp2_with fail
        refine HFI3.out.mono ?_
        rintro e w4 ⟨rfl, b4⟩
        have HB4 := Lib.hid (bt HB3.out b4)
        clear b4 k0 k6 k7
        go_wp2
        go_ret
        exact ⟨by rw [HRE.out]; rfl, bt HB1.out HB4.out⟩
    · rw [if_neg h1] at HR
      clear k5 k6 k7 k8 k9 k10 k11 k12 k13 k14
      by_cases h2 : D.s < 0
      · have d1 : decide (D.s < (0 : Int)) = true := decide_eq_true h2
        clear h0 h1 h2
        go_wp2
        go_ret
        exact ⟨by rw [HR.out]; rfl, bt HB1.out HB2.out⟩
      · have d1 : decide (D.s < (0 : Int)) = false := decide_eq_false h2
        have d2 : decide ((H.n : Int) ≤ D.s) = true := decide_eq_true (by omega)
        clear h0 h1 h2
        go_wp2
        go_ret
        exact ⟨by rw [HR.out]; rfl, bt HB1.out HB2.out⟩
  · rw [if_neg h0] at HR
    obtain ⟨v, hv⟩ : ∃ v, v = vld D.i D.st D.nx D.ot := ⟨_, rfl⟩
    rw [← hv] at h0 HR HV ⊢
    have hne : (v != 0) = true := by simpa using h0
    obtain ⟨k0, k1, k2, k3, k4, k5, k6, k7, k8, k9, k10, k11, k12, k13, k14⟩ := DevC.of HM1.out HB2.out
    clear h0 hv k4 k5 k6 k7 k8 k9 k10 k11 k12 k13 k14
    go_wp2_with fail
    refine (HV.out _ HB2.out).mono ?_
    rintro e w3 ⟨rfl, b3⟩
    have HB3 := Lib.hid (bt HB2.out b3)
    clear b3 k0 k1 k2 k3
    go_wp2
    go_ret
    exact ⟨by rw [HR.out]; rfl, bt HB1.out HB3.out⟩
end Go.Proofs.Ytcoihbpadbnilaa
end

section
/- device, the reference: Reset. -/
namespace Go.Proofs.Ytcoihbpadbnilaa
open Go.RowKit

set_option linter.unusedSimpArgs false in
set_option maxHeartbeats 8000000 in
set_option maxRecDepth 100000 in
theorem rdreset (D : DD) (H : DH) (w : World) (hD : DevR w D H) (hs : D.sd < 18446744073709551616) :
    Calls Try.prog 18 #[dvA D H] w fun e w' => e = .returned (.tuple #[dvA D.resetD H, .int .i64 D.resetE]) ∧ DevR w' D.resetD H ∧ Below w.heap.size w w' := by
  obtain ⟨w1, hw1⟩ : ∃ w1, w1 = w.alloc (.cells (dvC D H) 32) := ⟨_, rfl⟩
  obtain ⟨w2, hw2⟩ : ∃ w2, w2 = w1.alloc (.cells zcD 32) := ⟨_, rfl⟩
  have b1 : Below w.heap.size w w1 := by rw [hw1]; exact alloc_below _ _
  have z1 : w1.heap.size = w.heap.size + 1 := by rw [hw1]; simp
  have b2 : Below w1.heap.size w1 w2 := by rw [hw2]; exact alloc_below _ _
  have z2 : w2.heap.size = w.heap.size + 1 + 1 := by rw [hw2]; simp [z1]
  have m1 : Blk w1 w.heap.size (dvC D H) 32 := by rw [hw1]; exact blk_new _ _ _
  have m2 : Blk w2 (w.heap.size + 1) zcD 32 := by rw [hw2, ← z1]; exact blk_new _ _ _
  have b12 := bt b1 b2
  have HB2 := Lib.hid b12
  have HBK := Lib.hid (fun (W : World) (h : Below w2.heap.size w2 W) => (m1.on b2).on h)
  have HBZ := Lib.hid (fun (W : World) (h : Below w2.heap.size w2 W) => m2.on h)
  have HD := Lib.hid (fun (W : World) (h : Below w2.heap.size w2 W) => (hD.below b12).below h)
  have HD0 := Lib.hid hD
  have HV := Lib.hid (fun (r : Int) (hr : r = D.err) (W : World) (h : Below w2.heap.size w2 W) => rdvalid D H r W ((hD.below b12).below h) hr)
  have HS := Lib.hid (fun (W : World) (h : Below w2.heap.size w2 W) => (HBK.out W h).dev)
  unfold DevC at HS
  rw [hw1] at hw2
  have HW2 := Lib.hid hw2
  have hbk := m1.on b2
  rw [hw2] at hbk
  have HBW := Lib.hid hbk
  clear hw1 hw2 b1 b2 m1 m2 b12 hD hbk
  have hszD : ∀ D H, (dvC D H).size = 15 := fun _ _ => rfl
  have HSZ := Lib.hid hszD
  unfold dvA
  unfold dvA at HV
  unfold zcD at HBW HW2
  go_enter Try.func18, Try.ntmps18
  go_wp2_with (refine wpList_load_row rfl 32 _ rfl w.heap.size rfl 32 (dvC D H) (0, 0) _ HBW.out Try.underlying32 rfl (by rw [HSZ.out]; kernel_rfl) ?_)
  rw [← HW2.out]
  refine (HV.out _ rfl _ (Below.refl _ _)).mono ?_
  rintro e w3 ⟨rfl, b3⟩
  have HB3 := Lib.hid b3
  by_cases h0 : D.err = 0
  · obtain ⟨i, st, n, hO⟩ := DD.err_zero h0 hs
    have hrc := hO.aff.1
    have hrs := hO.cnt.2.1
    have htm := hO.cnt.2.2
    have HR0 : Hid (D.resetD = D.rstD ∧ D.resetE = D.rstE) := Lib.hid ⟨by unfold DD.resetD; rw [if_pos h0], by unfold DD.resetE; rw [if_pos h0]⟩
    rw [h0]
    obtain ⟨k0, k1, k2, k3, k4, k5, k6, k7, k8, k9, k10, k11, k12, k13, k14⟩ := HS.out _ b3
    have w1' : IntKind.i64.wrap (D.rs + 1) = D.rs + 1 := by rw [IntKind.wrap_i64]; omega
    have w2' : IntKind.i64.wrap (D.tm + D.rc) = D.tm + D.rc := by rw [IntKind.wrap_i64]; omega
    have hb := HBK.out _ b3
    clear h0 hszD b3 hO k0 k2 k3 k6 k8 k9 k10 k11 k12
    by_cases h1 : D.rs < 1125899906842624
    · have HC1 := Lib.hid (rcounter (D.rs + 1) true (decide_eq_true (by omega)).symm w3)
      by_cases h2 : D.tm ≤ 1125899906842624 - D.rc
      · have HC2 := Lib.hid (rcounter (D.tm + D.rc) true (decide_eq_true (by omega)).symm w3)
        have HR : Hid (D.rstE = 0 ∧ D.rstD = D.rst) := Lib.hid ⟨by unfold DD.rstE; rw [if_pos ⟨h1, h2⟩], by unfold DD.rstD; rw [if_pos ⟨h1, h2⟩]⟩
        have f4 := hb.free 4
        have f5 := hb.free 5
        have f13 := hb.free 13
        have f14 := hb.free 14
        have HBB := Lib.hid hb
        clear h1 h2 hrc hrs htm hb
        go_wp2_with fail
        refine HC1.out.mono ?_
        rintro e w4 ⟨rfl, rfl⟩
        go_wp2_with fail
        refine HC2.out.mono ?_
        rintro e w4 ⟨rfl, rfl⟩
        go_upto_region 9 with fail
        obtain ⟨W4, hW4⟩ : ∃ W4, W4 = (((w3.setCell ⟨w.heap.size, 4, none⟩ (.int .i64 D.st)).setCell ⟨w.heap.size, 5, none⟩ (.bool true)).setCell ⟨w.heap.size, 13, none⟩ (.int .i64 (D.rs + 1))).setCell ⟨w.heap.size, 14, none⟩ (.int .i64 (D.tm + D.rc)) := ⟨_, rfl⟩
        have m4 : Blk W4 w.heap.size (dvC D.rst H) 32 := by rw [hW4]; exact ((((HBB.out.set 4 (.int .i64 D.st)).set 5 (.bool true)).set 13 (.int .i64 (D.rs + 1))).set 14 (.int .i64 (D.tm + D.rc)))
        have n4 : Blk W4 (w.heap.size + 1) zcD 32 := by rw [hW4]; exact ((((HBZ.out _ HB3.out).other (by omega) _).other (by omega) _).other (by omega) _).other (by omega) _
        have b4 : Below w.heap.size w W4 := by rw [hW4]; exact ((((HB2.out.trans (HB3.out.mono HB2.out.size)).setCell (p := ⟨w.heap.size, 4, none⟩) (Nat.le_refl _) _).setCell (p := ⟨w.heap.size, 5, none⟩) (Nat.le_refl _) _).setCell (p := ⟨w.heap.size, 13, none⟩) (Nat.le_refl _) _).setCell (p := ⟨w.heap.size, 14, none⟩) (Nat.le_refl _) _
        rw [← hW4]
        have HM4 := Lib.hid m4
        have HN4 := Lib.hid n4
        have hF : Hid (DevR (W4.setRow (w.heap.size + 1) (dvC D.rst H)) D.rst H ∧ Below w.heap.size w (W4.setRow (w.heap.size + 1) (dvC D.rst H)) ∧ Blk (W4.setRow (w.heap.size + 1) (dvC D.rst H)) (w.heap.size + 1) (dvC D.rst H) 32) := Lib.hid (by
          have hb : Below w.heap.size w (W4.setRow (w.heap.size + 1) (dvC D.rst H)) := below_setRow b4 (by omega) _
          exact ⟨(HD0.out.below hb).rst1, hb, n4.row _⟩)
        clear hW4 m4 n4 b4 k1 k4 k5 k7 k13 k14 f4 f5 f13 f14
        refine wp_region_list ?_
        refine wpList_load_row rfl 32 _ rfl w.heap.size rfl 32 (dvC D.rst H) (0, 0) _ HM4.out Try.underlying32 rfl (by rw [HSZ.out]; kernel_rfl) ?_
        go_wp2_with (refine wpList_store_row rfl 32 _ _ rfl (w.heap.size + 1) (dvC D.rst H) rfl rfl 32 zcD HN4.out (by rw [HSZ.out]; kernel_rfl) (by rw [HSZ.out]; rfl) (dvC_one _ _) ?_)
        refine bodyPost_ret (results_dev2 (by rfl) _ _ (w.heap.size + 1) (dvC D.rst H) (HSZ.out _ _) rfl hF.out.2.2) rfl ⟨by rw [HR0.out.1, HR0.out.2, HR.out.1, HR.out.2]; rfl, by rw [HR0.out.1, HR.out.2]; exact hF.out.1, hF.out.2.1⟩
      · have HC2 := Lib.hid (rcounter (D.tm + D.rc) false (decide_eq_false (by omega)).symm w3)
        have HR : Hid (D.rstE = 11 ∧ D.rstD = D) := Lib.hid ⟨by unfold DD.rstE; rw [if_neg fun h => h2 h.2], by unfold DD.rstD; rw [if_neg fun h => h2 h.2]⟩
        clear h1 h2 hrc hrs htm hb
        go_wp2_with fail
        refine HC1.out.mono ?_
        rintro e w4 ⟨rfl, rfl⟩
        go_wp2_with fail
        refine HC2.out.mono ?_
        rintro e w4 ⟨rfl, rfl⟩
        have HZ3 := Lib.hid (HBZ.out _ HB3.out)
        have HK3 := Lib.hid (HBK.out _ HB3.out)
        have hF : Hid (DevR (w3.setRow (w.heap.size + 1) (dvC D H)) D H ∧ Below w.heap.size w (w3.setRow (w.heap.size + 1) (dvC D H)) ∧ Blk (w3.setRow (w.heap.size + 1) (dvC D H)) (w.heap.size + 1) (dvC D H) 32) := Lib.hid (by
          have hb : Below w.heap.size w (w3.setRow (w.heap.size + 1) (dvC D H)) := below_setRow (HB2.out.trans (HB3.out.mono HB2.out.size)) (by omega) _
          exact ⟨HD0.out.below hb, hb, HZ3.out.row _⟩)
        clear k1 k4 k5 k7 k13 k14
        go_upto_region 4 with fail
        refine wp_region_list ?_
        refine wpList_load_row rfl 32 _ rfl w.heap.size rfl 32 (dvC D H) (0, 0) _ HK3.out Try.underlying32 rfl (by rw [HSZ.out]; kernel_rfl) ?_
        go_wp2_with (refine wpList_store_row rfl 32 _ _ rfl (w.heap.size + 1) (dvC D H) rfl rfl 32 zcD HZ3.out (by rw [HSZ.out]; kernel_rfl) (by rw [HSZ.out]; rfl) (dvC_one _ _) ?_)
        refine bodyPost_ret (results_dev2 (by rfl) _ _ (w.heap.size + 1) (dvC D H) (HSZ.out _ _) rfl hF.out.2.2) rfl ⟨by rw [HR0.out.1, HR0.out.2, HR.out.1, HR.out.2]; rfl, by rw [HR0.out.1, HR.out.2]; exact hF.out.1, hF.out.2.1⟩
    · have HC1 := Lib.hid (rcounter (D.rs + 1) false (decide_eq_false (by omega)).symm w3)
      have HR : Hid (D.rstE = 11 ∧ D.rstD = D) := Lib.hid ⟨by unfold DD.rstE; rw [if_neg fun h => h1 h.1], by unfold DD.rstD; rw [if_neg fun h => h1 h.1]⟩
      clear h1 hrc hrs htm hb
      go_wp2_with fail
      refine HC1.out.mono ?_
      rintro e w4 ⟨rfl, rfl⟩
      have HZ3 := Lib.hid (HBZ.out _ HB3.out)
      have HK3 := Lib.hid (HBK.out _ HB3.out)
      have hF : Hid (DevR (w3.setRow (w.heap.size + 1) (dvC D H)) D H ∧ Below w.heap.size w (w3.setRow (w.heap.size + 1) (dvC D H)) ∧ Blk (w3.setRow (w.heap.size + 1) (dvC D H)) (w.heap.size + 1) (dvC D H) 32) := Lib.hid (by
        have hb : Below w.heap.size w (w3.setRow (w.heap.size + 1) (dvC D H)) := below_setRow (HB2.out.trans (HB3.out.mono HB2.out.size)) (by omega) _
        exact ⟨HD0.out.below hb, hb, HZ3.out.row _⟩)
      clear k1 k4 k5 k7 k13 k14
      go_upto_region 4 with fail
      refine wp_region_list ?_
      refine wpList_load_row rfl 32 _ rfl w.heap.size rfl 32 (dvC D H) (0, 0) _ HK3.out Try.underlying32 rfl (by rw [HSZ.out]; kernel_rfl) ?_
      go_wp2_with (refine wpList_store_row rfl 32 _ _ rfl (w.heap.size + 1) (dvC D H) rfl rfl 32 zcD HZ3.out (by rw [HSZ.out]; kernel_rfl) (by rw [HSZ.out]; rfl) (dvC_one _ _) ?_)
      refine bodyPost_ret (results_dev2 (by rfl) _ _ (w.heap.size + 1) (dvC D H) (HSZ.out _ _) rfl hF.out.2.2) rfl ⟨by rw [HR0.out.1, HR0.out.2, HR.out.1, HR.out.2]; rfl, by rw [HR0.out.1, HR.out.2]; exact hF.out.1, hF.out.2.1⟩
  · have HR : Hid (D.resetD = D ∧ D.resetE = D.err) := Lib.hid ⟨by unfold DD.resetD; rw [if_neg h0], by unfold DD.resetE; rw [if_neg h0]⟩
    obtain ⟨v, hv⟩ : ∃ v, v = D.err := ⟨_, rfl⟩
    rw [← hv] at h0 HR HV ⊢
    have hne : (v != 0) = true := by simpa using h0
    clear h0 hv hszD b3
    go_wp2_with fail
    have hbf : Below w2.heap.size w2 w3.drew := bt HB3.out (below_drewN (Below.refl _ _) 1)
    refine wp_region_heldX (X := fun k => ([] : List Nat).contains k) (S := fun W => W.cell? ⟨w.heap.size, 0, none⟩ = some (.int .i64 D.i) ∧ W.cell? ⟨w.heap.size, 1, none⟩ = some (.int .i64 D.st) ∧ W.cell? ⟨w.heap.size, 2, none⟩ = some (.slice H.A H.n H.c) ∧ W.cell? ⟨w.heap.size, 3, none⟩ = some (.slice H.B H.m H.d) ∧ W.cell? ⟨w.heap.size, 4, none⟩ = some (.int .i64 D.s) ∧ W.cell? ⟨w.heap.size, 5, none⟩ = some (.bool D.rdy) ∧ W.cell? ⟨w.heap.size, 6, none⟩ = some (.slice H.L H.l H.lc) ∧ W.cell? ⟨w.heap.size, 7, none⟩ = some (.int .i64 D.rc) ∧ W.cell? ⟨w.heap.size, 8, none⟩ = some (.int .i64 D.f1) ∧ W.cell? ⟨w.heap.size, 9, none⟩ = some (.int .i64 D.f2) ∧ W.cell? ⟨w.heap.size, 10, none⟩ = some (.int .i64 D.f3) ∧ W.cell? ⟨w.heap.size, 11, none⟩ = some (.int .u64 (D.sd : Int)) ∧ W.cell? ⟨w.heap.size, 12, none⟩ = some (.int .i64 D.sp) ∧ W.cell? ⟨w.heap.size, 13, none⟩ = some (.int .i64 D.rs) ∧ W.cell? ⟨w.heap.size, 14, none⟩ = some (.int .i64 D.tm)) (by kernel_rfl) ?_
    refine wpAnyX_takeL (L := []) (i := 0) (v := ?_) rfl (by kernel_rfl) (by kernel_rfl) (by kernel_rfl) (by kernel_rfl) (fun _ _ _ h => h) (Or.inl ⟨by rfl, ?_⟩) (HS.out _ hbf) ?_
    rotate_left
    · (intro W hSW; (try dsimp only at hSW); obtain ⟨z0, z1, z2, z3, z4, z5, z6, z7, z8, z9, z10, z11, z12, z13, z14⟩ := hSW; go_simp; try with_reducible rfl)
    (try simp only [Act.put, List.getElem_toArray, List.getElem_cons_zero, List.getElem_cons_succ, List.setIfInBounds_toArray, List.set_cons_zero, List.set_cons_succ])
    refine wpAnyX_takeL (L := []) (i := 1) (v := ?_) rfl (by kernel_rfl) (by kernel_rfl) (by kernel_rfl) (by kernel_rfl) (fun _ _ _ h => h) (Or.inl ⟨by rfl, ?_⟩) (HS.out _ hbf) ?_
    rotate_left
    · (intro W hSW; (try dsimp only at hSW); obtain ⟨z0, z1, z2, z3, z4, z5, z6, z7, z8, z9, z10, z11, z12, z13, z14⟩ := hSW; go_simp; try with_reducible rfl)
    (try simp only [Act.put, List.getElem_toArray, List.getElem_cons_zero, List.getElem_cons_succ, List.setIfInBounds_toArray, List.set_cons_zero, List.set_cons_succ])
    refine wpAnyX_one (i := 2) rfl (by kernel_rfl) (fun K hK => ?_)
    go_simp
    go_at_call 16
    refine (HV.out _ rfl _ hbf).mono ?_
    rintro e w5 ⟨rfl, b5⟩
    have hbf := bt hbf b5
    have HBF := Lib.hid hbf
    refine hK.out _ _ (fun _ _ => HS.out _ hbf) ?_
    clear b5
    (try simp only [Act.put, List.getElem_toArray, List.getElem_cons_zero, List.getElem_cons_succ, List.setIfInBounds_toArray, List.set_cons_zero, List.set_cons_succ])
    refine wpAnyX_one (i := 3) rfl (by kernel_rfl) (fun K hK => ?_)
    refine wp_store_row 32 _ _ rfl (w.heap.size + 1) (dvC D H) rfl rfl 32 zcD (HBZ.out _ HBF.out) (by rw [HSZ.out]; kernel_rfl) (by rw [HSZ.out]; rfl) (dvC_one _ _) (hK.out _ _ (fun _ _ => (by have := ((HBK.out _ HBF.out).rowOther (g' := w.heap.size + 1) (by omega) (dvC D H)).dev; unfold DevC at this; exact this)) ?_)
    (try simp only [Act.put, List.getElem_toArray, List.getElem_cons_zero, List.getElem_cons_succ, List.setIfInBounds_toArray, List.set_cons_zero, List.set_cons_succ])
    refine wpAnyX_pure (i := 4) (v := ?_) rfl (by kernel_rfl) (by kernel_rfl) (by kernel_rfl) (fun _ _ _ h => h) (Or.inl ⟨by rfl, ?_⟩) ?_
    rotate_left
    · (intro W _; go_simp; try with_reducible rfl)
    (try simp only [Act.put, List.getElem_toArray, List.getElem_cons_zero, List.getElem_cons_succ, List.setIfInBounds_toArray, List.set_cons_zero, List.set_cons_succ])
    refine wpAnyX_done (by kernel_rfl) ?_ _
    have hF : Hid (DevR (w5.setRow (w.heap.size + 1) (dvC D H)) D H ∧ Below w.heap.size w (w5.setRow (w.heap.size + 1) (dvC D H)) ∧ Blk (w5.setRow (w.heap.size + 1) (dvC D H)) (w.heap.size + 1) (dvC D H) 32) := Lib.hid (by
      have hb : Below w.heap.size w (w5.setRow (w.heap.size + 1) (dvC D H)) := below_setRow (HB2.out.trans (HBF.out.mono HB2.out.size)) (by omega) _
      exact ⟨HD0.out.below hb, hb, (HBZ.out _ HBF.out).row _⟩)
    go_wp2
    refine bodyPost_ret (results_dev2 (by rfl) _ _ (w.heap.size + 1) (dvC D H) (HSZ.out _ _) rfl hF.out.2.2) rfl ⟨by rw [HR.out.1, HR.out.2]; rfl, by rw [HR.out.1]; exact hF.out.1, hF.out.2.1⟩
end Go.Proofs.Ytcoihbpadbnilaa
end
