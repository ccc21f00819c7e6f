/- Lemmas of the proofs of this seat, of the parts Fstw, Eqdp, Eqsp, Isop, Trimq, Eqm, Samem, Isow, Eqr, Hrow. Conditions: none. -/
import Derived.Test.YtdedgpgdmnfijaaNbb
import Derived.BigRegion
import Derived.Deep.RegionHeld3
import Derived.Test.YtdedgpgdmnfijaaNba
import Derived.Lib.SliceRun
import Derived.Maps.AppendAt
section
/- The first distinguishing word. -/
namespace Go.Proofs.Ytdedgpgdmnfijaa
open Go.RowKit

theorem run_append_arr {w : World} {base : Nat} {v : Value} {E : List Ent} (h : Rws w base 82 4 v (E.map cellsA)) (e : Ent) (hbase : base ≤ w.heap.size) (hn : E.length < 1099511627776) :
    ∃ A c w1, (Builtin.append_ #[83, 83] 83 #[v, .slice (some ⟨w.heap.size, 0, none⟩) 1 1]).run Try.prog (w.alloc (.cells #[.int .i64 e.p, .int .i64 e.q, .int .i64 e.j, .int .i64 e.x] 82)) = .ok (.slice A (E.length + 1) c) w1 ∧
      Rws w1 base 82 4 (.slice A (E.length + 1) c) ((E ++ [e]).map cellsA) ∧ Below base w w1 ∧ ∀ t', t' ≠ 82 → KeptT t' w w1 := by
  obtain ⟨i, hi, hz0, hz1, hz2⟩ := info_parts infoa
  have hl : (E.map cellsA).length = E.length := by simp
  obtain ⟨A, c, w1, h1, h2, h3, h4⟩ := run_append_rws Try.underlying83 hi hz0 hz1 hz2 rfl (by decide) (by decide) h (cellsA e) rfl (fun u hu => by simp [cellsA] at hu; rcases hu with rfl | rfl | rfl | rfl <;> rfl) hbase (by rw [hl]; exact hn)
  rw [hl] at h1 h2
  exact ⟨A, c, w1, h1, by rw [List.map_append]; exact h2, h3, h4⟩

/-- What the search keeps in memory. -/
structure Fst (w3 W : World) (b3 gs : Nat) (v : Value) (E : List Ent) : Prop where
  row : Rws W b3 82 4 v (E.map cellsA)
  sq : Sq W gs (fun a b => decide (hasE E a b))
  bel : Below b3 w3 W
section
variable {w3 W W' : World} {b3 gs : Nat} {v : Value} {E : List Ent}
theorem Fst.on (h : Fst w3 W b3 gs v E) (hb : Below W.heap.size W W') (hz : b3 ≤ W.heap.size) : Fst w3 W' b3 gs v E := ⟨h.row.kept hb, h.sq.kept hb, h.bel.trans (hb.mono hz)⟩
theorem Fst.mark (hr : Rws W b3 82 4 v (E.map cellsA)) (hs : Sq W gs (fun a b => decide (hasE E a b))) (hb : Below b3 w3 W) (hgs : b3 ≤ gs) (e : Ent) (hq : e.q < 128) :
    Rws (W.setCell ⟨gs, e.p * 128 + e.q, none⟩ (.bool true)) b3 82 4 v (E.map cellsA) ∧ Sq (W.setCell ⟨gs, e.p * 128 + e.q, none⟩ (.bool true)) gs (fun a b => decide (hasE (E ++ [e]) a b)) ∧ Below b3 w3 (W.setCell ⟨gs, e.p * 128 + e.q, none⟩ (.bool true)) := by
  refine ⟨hr.keptT (KeptT.off hs (by decide) (.bool true)), ?_, hb.setCell (p := ⟨gs, e.p * 128 + e.q, none⟩) hgs (.bool true)⟩
  have h1 := hs.set (p := e.p) (q := e.q) hq
  rw [seenE e.p e.q rfl rfl] at h1
  exact h1
theorem Fst.push (h : Fst w3 W b3 gs v E) (hgs : b3 ≤ gs) (hz : b3 ≤ W.heap.size) (e : Ent) (hq : e.q < 128) (hn : E.length < 1099511627776) :
    ∃ A c W1, (Builtin.append_ #[83, 83] 83 #[v, .slice (some ⟨W.heap.size, 0, none⟩) 1 1]).run Try.prog ((W.setCell ⟨gs, e.p * 128 + e.q, none⟩ (.bool true)).alloc (.cells #[.int .i64 e.p, .int .i64 e.q, .int .i64 e.j, .int .i64 e.x] 82)) = .ok (.slice A (E.length + 1) c) W1 ∧
      Fst w3 W1 b3 gs (.slice A (E.length + 1) c) (E ++ [e]) ∧ KeptT 69 W W1 := by
  obtain ⟨h1, h2, h3⟩ := Fst.mark h.row h.sq h.bel hgs e hq
  have hz2 : (W.setCell ⟨gs, e.p * 128 + e.q, none⟩ (.bool true)).heap.size = W.heap.size := by simp
  obtain ⟨A, c, W1, r1, r2, r3, r4⟩ := run_append_arr h1 e (by rw [hz2]; exact hz) hn
  rw [hz2] at r1
  have hk1 : KeptT 69 W (W.setCell ⟨gs, e.p * 128 + e.q, none⟩ (.bool true)) := KeptT.off h.sq (by decide) (.bool true)
  exact ⟨A, c, W1, r1, ⟨r2, h2.keptT (r4 _ (by decide)), h3.trans r3⟩, hk1.trans (r4 _ (by decide))⟩
end

theorem Pb.made (w : World) (k p q : Nat) : Pb ((((w.alloc (.cells #[.int .i64 0, .int .i64 0] 69)).drewN k).setCell ⟨w.heap.size, 0, none⟩ (.int .i64 p)).setCell ⟨w.heap.size, 1, none⟩ (.int .i64 q)) w.heap.size p q ∧
    Below w.heap.size w ((((w.alloc (.cells #[.int .i64 0, .int .i64 0] 69)).drewN k).setCell ⟨w.heap.size, 0, none⟩ (.int .i64 p)).setCell ⟨w.heap.size, 1, none⟩ (.int .i64 q)) := by
  have h0 : ((w.alloc (.cells #[.int .i64 0, .int .i64 0] 69)).drewN k).heap[w.heap.size]? = some (.cells #[.int .i64 0, .int .i64 0] 69 (0, 0)) := heap_alloc_new w _
  refine ⟨?_, (((below_drewN (alloc_below w _) k).setCell (p := ⟨w.heap.size, 0, none⟩) (Nat.le_refl _) _).setCell (p := ⟨w.heap.size, 1, none⟩) (Nat.le_refl _) _)⟩
  exact heap_setCell_same _ _ 1 _ _ (.int .i64 q) (heap_setCell_same _ _ 0 _ _ (.int .i64 p) h0)

set_option maxHeartbeats 8000000 in
set_option maxRecDepth 100000 in
theorem pfirst (i st1 st2 n m s t : Nat) (A B C D : Option Addr) (c d c2 d2 : Nat) (nx1 ot1 nx2 ot2 : List (List Int)) (w : World) (hx1 : Lists w A n nx1) (ho1 : Lists w B n ot1) (hx2 : Lists w C m nx2) (ho2 : Lists w D m ot2) (hM : Mok i st1 n nx1 ot1) (hN : Mok i st2 m nx2 ot2) (hs : s < n) (ht : t < m) :
    Calls Try.prog 45 #[.agg #[.int .i64 i, .int .i64 st1, .slice A n c, .slice B n d], .agg #[.int .i64 i, .int .i64 st2, .slice C m c2, .slice D m d2], .agg #[.int .i64 s, .int .i64 t]] w fun e w' => ∃ A' c',
      e = .returned (.tuple #[.slice A' ((dst nx1 ot1 nx2 ot2 i n m s t).getD []).length c', .bool (dst nx1 ot1 nx2 ot2 i n m s t).isSome]) ∧ Owned w' w.heap.size (.slice A' ((dst nx1 ot1 nx2 ot2 i n m s t).getD []).length c') ((dst nx1 ot1 nx2 ot2 i n m s t).getD []) ∧ Below w.heap.size w w' := by
  have hn2 := hM.n2
  have hm2 := hN.n2
  have hi64 := hM.i2
  have hs8 : s < 128 := by omega
  have ht8 : t < 128 := by omega
  obtain ⟨R, hR⟩ : ∃ R, R = dst nx1 ot1 nx2 ot2 i n m s t := ⟨_, rfl⟩
  rw [← hR]
  have HR := Lib.hid (show srch nx1 nx2 ot1 ot2 i (n * m) [⟨s, t, 0, 0, []⟩] 0 = R from hR.symm)
  clear hR
  obtain ⟨w3, hw3⟩ : ∃ w3, w3 = ((w.alloc (.cells #[.int .i64 i, .int .i64 st1, .slice A n c, .slice B n d] 24)).alloc (.cells #[.int .i64 i, .int .i64 st2, .slice C m c2, .slice D m d2] 24)).alloc (.cells #[.int .i64 s, .int .i64 t] 69) := ⟨_, rfl⟩
  obtain ⟨w5, hw5⟩ : ∃ w5, w5 = (w3.alloc (.cells #[.int .i64 s, .int .i64 t, .int .i64 0, .int .i64 0] 82)).alloc (.cells Try.zeroCells85 85) := ⟨_, rfl⟩
  have hz3 : w3.heap.size = w.heap.size + 1 + 1 + 1 := by rw [hw3]; simp
  have hz5 : w5.heap.size = w.heap.size + 1 + 1 + 1 + 1 + 1 := by rw [hw5]; simp [hz3]
  have hb3 : Below w.heap.size w w3 := by rw [hw3]; exact bt (bt (alloc_below _ _) (alloc_below _ _)) (alloc_below _ _)
  have hb5 : Below (w.heap.size + 1 + 1 + 1) w3 w5 := by rw [hw5, ← hz3]; exact bt (alloc_below _ _) (alloc_below _ _)
  have hA3 : Mblk w3 w.heap.size (.int .i64 i) (.int .i64 st1) (.slice A n c) (.slice B n d) := by
    rw [hw3]
    refine Mblk.kept (mealy_box w (.int .i64 i) (.int .i64 st1) (.slice A n c) (.slice B n d)) (bt (alloc_below _ _) (alloc_below _ _)) (by simp)
  have hB3 : Mblk w3 (w.heap.size + 1) (.int .i64 i) (.int .i64 st2) (.slice C m c2) (.slice D m d2) := by
    rw [hw3]
    have := mealy_box (w.alloc (.cells #[.int .i64 i, .int .i64 st1, .slice A n c, .slice B n d] 24)) (.int .i64 i) (.int .i64 st2) (.slice C m c2) (.slice D m d2)
    refine Mblk.kept ?_ (alloc_below _ _) (by simp)
    simpa using this
  have hP3 : Pb w3 (w.heap.size + 1 + 1) s t := by
    rw [hw3]
    have := Pb.new ((w.alloc (.cells #[.int .i64 i, .int .i64 st1, .slice A n c, .slice B n d] 24)).alloc (.cells #[.int .i64 i, .int .i64 st2, .slice C m c2, .slice D m d2] 24)) s t
    simpa using this
  have hR5 : Rws w5 (w.heap.size + 1 + 1 + 1) 82 4 (.slice (some ⟨w.heap.size + 1 + 1 + 1, 0, none⟩) 1 1) ([(⟨s, t, 0, 0, []⟩ : Ent)].map cellsA) := by
    rw [hw5]
    have := Rws.one w3 (w.heap.size + 1 + 1 + 1) 82 (cellsA ⟨s, t, 0, 0, []⟩) (by omega)
    rw [hz3] at this
    exact this.kept (alloc_below _ _)
  have hS5 : Sq w5 (w.heap.size + 1 + 1 + 1 + 1) (fun _ _ => false) := by
    rw [hw5]
    have := Sq.new (w3.alloc (.cells #[.int .i64 s, .int .i64 t, .int .i64 0, .int .i64 0] 82))
    simpa [hz3] using this
  have hP5 : Pb w5 (w.heap.size + 1 + 1) s t := (hb5.block _ (by omega)).trans hP3
  obtain ⟨p0, p1⟩ := hP5.cells
  obtain ⟨q0, q1⟩ := hS5.at_ hs8 ht8
  have HW3 := Lib.hid hw3
  have HW5 := Lib.hid hw5
  have HA3 := Lib.hid hA3
  have HB3 := Lib.hid hB3
  have HR5 := Lib.hid hR5
  have HS5 := Lib.hid hS5
  have H3 := Lib.hid hb3
  have H5 := Lib.hid hb5
  have HZ3 := Lib.hid hz3
  have HZ5 := Lib.hid hz5
  obtain ⟨gs, hgs⟩ : ∃ gs, gs = w.heap.size + 1 + 1 + 1 + 1 := ⟨_, rfl⟩
  obtain ⟨g3, hg3⟩ : ∃ g3, g3 = w.heap.size + 1 + 1 + 1 := ⟨_, rfl⟩
  rw [← hgs] at q0 q1
  have HGS := Lib.hid hgs
  have HG3 := Lib.hid hg3
  clear hw3 hw5 hA3 hB3 hP3 hR5 hS5 hP5 hz3 hz5 hb3 hb5 hgs hg3
  go_enter Try.func45, Try.ntmps45
  go_wp2
  rw [← HW3.out, ← HW5.out, ← HGS.out, ← HG3.out]
  go_region
  have HF6 := Lib.hid (show Fst w3 ((w5.setCell ⟨gs, s * 128 + t, none⟩ (.bool true)).drew) g3 gs (.slice (some ⟨g3, 0, none⟩) 1 1) [⟨s, t, 0, 0, []⟩] by
    have h1 := HS5.out
    rw [sq_nil, ← HGS.out] at h1
    have h2 := h1.set (p := s) (q := t) ht8
    rw [seenE (e := ⟨s, t, 0, 0, []⟩) s t rfl rfl] at h2
    refine ⟨?_, h2, ?_⟩
    · have h3 := HR5.out
      rw [← HG3.out] at h3
      exact (h3.keptT (KeptT.off h1 (by decide) (.bool true))).keptT (KeptT.of_below ((Below.refl _ _).drew))
    · have h4 := H5.out
      rw [← HG3.out] at h4
      exact (h4.setCell (p := ⟨gs, s * 128 + t, none⟩) (by show g3 ≤ gs; rw [HGS.out, HG3.out]; omega) (.bool true)).drew)
  have hg3 : w.heap.size + 3 = g3 := by rw [HG3.out]
  have hgs3 : g3 ≤ gs := by rw [HGS.out, HG3.out]; omega
  have hz3 : w3.heap.size = g3 := by rw [HZ3.out, HG3.out]
  have HA3 := Lib.hid (show Mblk w3 w.heap.size (.int .i64 i) (.int .i64 st1) (.slice A n c) (.slice B n d) from HA3.out)
  clear p0 p1 q0 q1 HS5 HR5 H5 HZ5 HW5 HW3 HZ3
  go_wp2
  generalize (w5.setCell ⟨gs, s * 128 + t, none⟩ (.bool true)).drew = w6 at HF6
  go_loopw [8, 10] (fun v8 v10 wr => ∃ (j : Nat) (E : List Ent) (A' : Option Addr) (c' : Nat), v10 = .int .i64 j ∧ v8 = .slice A' E.length c' ∧ j ≤ E.length ∧ Ens n m s t E ∧ srch nx1 nx2 ot1 ot2 i (n * m) E j = R ∧ Fst w3 wr g3 gs (.slice A' E.length c') E) (fun _ v10 _ => n * m - (intOf v10).toNat)
  case atStart => exact ⟨0, [⟨s, t, 0, 0, []⟩], some ⟨g3, 0, none⟩, 1, rfl, rfl, Nat.zero_le _, Ens.one hs ht, HR.out, HF6.out⟩
  case round =>
    obtain ⟨j, E, A', c', rfl, rfl, hjl, hE, hS, hF⟩ := hrel
    have HE := Lib.hid hE
    have HS := Lib.hid hS
    have hlen := hE.len
    have hnm : n * m ≤ 16384 := Nat.mul_le_mul hn2 hm2
    have hzr : g3 ≤ wr.heap.size := by have := hF.bel.size; omega
    by_cases hlt : j < E.length
    · obtain ⟨g, cg, eA, hg, hArv⟩ := hF.row.arv (by omega)
      cases eA
      have ha := hArv.2 j hlt
      have hpq := hE.lt _ (getDE_mem hlt)
      obtain ⟨e, he⟩ : ∃ e, e = E.getD j Ent.zero := ⟨_, rfl⟩
      rw [← he] at ha hpq
      have HEE := Lib.hid he
      obtain ⟨a0, a1, _, _⟩ := ha
      obtain ⟨hp, hq⟩ := hpq
      obtain ⟨w7, hw7⟩ : ∃ w7, w7 = wr.alloc (.cells #[.int .i64 e.p, .int .i64 e.q] 69) := ⟨_, rfl⟩
      have hb7 := alloc_below wr (.cells #[.int .i64 e.p, .int .i64 e.q] 69)
      have hP7 := Pb.new wr e.p e.q
      rw [← hw7] at hb7 hP7
      have hF7 := hF.on hb7 hzr
      obtain ⟨k0, _⟩ := (HA3.out.kept hF7.bel (by omega)).cells
      rw [hw7] at k0
      obtain ⟨gp, hgp⟩ : ∃ gp, gp = wr.heap.size := ⟨_, rfl⟩
      rw [← hgp] at hP7
      have HW7 := Lib.hid hw7
      have HP7 := Lib.hid hP7
      have HF7 := Lib.hid hF7
      have HGP := Lib.hid hgp
      have hzg : g3 ≤ gp := by omega
      clear hE hS hF hArv he hw7 hb7 hP7 hF7 hgp
      go_wp2
      rw [← HW7.out, ← HGP.out]
      clear a0 a1 k0 
      have HI := Lib.hid (show ∀ x, x ≤ i → Ens n m s t (addS nx1 nx2 j e E x) by rw [HEE.out]; exact addS_ens hM hN HE.out hlt)
      go_loopw [8, 36] (fun v8 v36 wq => ∃ (x : Nat) (A2 : Option Addr) (c2 : Nat), x ≤ i ∧ v36 = .int .i64 x ∧ v8 = .slice A2 (addS nx1 nx2 j e E x).length c2 ∧ fD ot1 ot2 e x = none ∧ Fst w3 wq g3 gs (.slice A2 (addS nx1 nx2 j e E x).length c2) (addS nx1 nx2 j e E x) ∧ Pb wq gp e.p e.q) (fun _ v36 _ => i - (intOf v36).toNat)
      case atStart => exact ⟨0, _, _, Nat.zero_le _, rfl, rfl, rfl, HF7.out, HP7.out⟩
      case round =>
        obtain ⟨x, A2, c3, hx, rfl, rfl, hfd, hF2, hP2⟩ := hrel
        have hE2 := HI.out x hx
        have hlen2 := hE2.len
        obtain ⟨T, hT⟩ := addS_pre (nx1 := nx1) (nx2 := nx2) j e E x
        have hj2 : j < (addS nx1 nx2 j e E x).length := by rw [hT, List.length_append]; omega
        have he2 : (addS nx1 nx2 j e E x).getD j Ent.zero = e := by rw [hT, getDE_pre hlt]; exact HEE.out.symm
        have HE2 := Lib.hid hE2
        have Hj2 := Lib.hid hj2
        have He2 := Lib.hid he2
        have HFD := Lib.hid hfd
        have HF2 := Lib.hid hF2
        have HP2 := Lib.hid hP2
        have hzq : g3 ≤ wr.heap.size := by have := hF2.bel.size; omega
        have hbw : Below w.heap.size w wr := H3.out.trans (hF2.bel.mono (by omega))
        clear hE2 hT hj2 he2 hfd hF2 hP2
        by_cases hxi : x < i
        · obtain ⟨k0, k1, k2, k3, _⟩ := (HA3.out.kept HF2.out.bel (by omega)).cells
          obtain ⟨l0, l1, l2, l3, _⟩ := (HB3.out.kept HF2.out.bel (by omega)).cells
          obtain ⟨p0, p1⟩ := HP2.out.cells
          obtain ⟨gB, oB, B1, nB, cB, eB, hgB, hdB, hrB⟩ := ho1.at_ hp
          obtain ⟨gD, oD, D1, nD, cD, eD, hgD, hdD, hrD⟩ := ho2.at_ hq
          obtain ⟨gA, oA, A1, nA, cA, eA, hgA, hdA, hrA⟩ := hx1.at_ hp
          obtain ⟨gC, oC, C1, nC, cC, eC, hgC, hdC, hrC⟩ := hx2.at_ hq
          have m1 := hrA.1
          have m2 := hrB.1
          have m3 := hrC.1
          have m4 := hrD.1
          have w1 := (hM.row e.p hp).1
          have w2 := (hM.row e.p hp).2.1
          have w3' := (hN.row e.q hq).1
          have w4 := (hN.row e.q hq).2.1
          obtain rfl : i = nA := by omega
          obtain rfl : i = nB := by omega
          obtain rfl : i = nC := by omega
          obtain rfl : i = nD := by omega
          clear m1 m2 m3 m4 w1 w2 w3' w4
          obtain ⟨hB1, iB1, eB1, lB, vB⟩ := hrB.at_ hxi
          obtain ⟨hD1, iD1, eD1, lD, vD⟩ := hrD.at_ hxi
          obtain ⟨hA1, iA1, eA1, lA, vA⟩ := hrA.at_ hxi
          obtain ⟨hC1, iC1, eC1, lC, vC⟩ := hrC.at_ hxi
          clear hrA hrB hrC hrD
          subst eA eB eC eD eA1 eB1 eC1 eD1
          have hdA := (hbw.cell (p := ⟨gA, oA + e.p, none⟩) hgA).trans hdA
          have hdB := (hbw.cell (p := ⟨gB, oB + e.p, none⟩) hgB).trans hdB
          have hdC := (hbw.cell (p := ⟨gC, oC + e.q, none⟩) hgC).trans hdC
          have hdD := (hbw.cell (p := ⟨gD, oD + e.q, none⟩) hgD).trans hdD
          have vA := (hbw.cell (p := ⟨hA1, iA1 + x, none⟩) lA).trans vA
          have vB := (hbw.cell (p := ⟨hB1, iB1 + x, none⟩) lB).trans vB
          have vC := (hbw.cell (p := ⟨hC1, iC1 + x, none⟩) lC).trans vC
          have vD := (hbw.cell (p := ⟨hD1, iD1 + x, none⟩) lD).trans vD
          have rB : (ot1.getD e.p []).getD x 0 = oN ot1 e.p x := rfl
          have rD : (ot2.getD e.q []).getD x 0 = oN ot2 e.q x := rfl
          have rA : (nx1.getD e.p []).getD x 0 = ((nN nx1 e.p x : Nat) : Int) := hM.nN_eq hp hxi
          have rC : (nx2.getD e.q []).getD x 0 = ((nN nx2 e.q x : Nat) : Int) := hN.nN_eq hq hxi
          rw [rB] at vB
          rw [rD] at vD
          rw [rA] at vA
          rw [rC] at vC
          clear rA rB rC rD hgA hgB hgC hgD lA lB lC lD
          by_cases hd : oN ot1 e.p x = oN ot2 e.q x
          · have hee : (oN ot1 e.p x != oN ot2 e.q x) = false := by simpa using hd
            have HXI := Lib.hid hxi
            have HFN := Lib.hid (fD_step HFD.out hd)
            have hp' := hM.nN_lt hp hxi
            have hq' := hN.nN_lt hq hxi
            have HST := Lib.hid (show addS nx1 nx2 j e E (x + 1) = addE (addS nx1 nx2 j e E x) (nxE nx1 nx2 j e x) from rfl)
            obtain ⟨e', hE'⟩ : ∃ e', e' = nxE nx1 nx2 j e x := ⟨_, rfl⟩
            have f1 : nN nx1 e.p x = e'.p := by rw [hE']; rfl
            have f2 : nN nx2 e.q x = e'.q := by rw [hE']; rfl
            have f3 : e'.j = j := by rw [hE']; rfl
            have f4 : e'.x = x := by rw [hE']; rfl
            rw [← hE'] at HST
            rw [f1] at vA hp'
            rw [f2] at vC hq'
            have F3 := Lib.hid f3
            have F4 := Lib.hid f4
            generalize oN ot1 e.p x = y1 at vB hee
            generalize oN ot2 e.q x = y2 at vD hee
            clear hd f1 f2 f3 f4 hE'
            go_wp2
            go_quiet (fail)
            clear hee vB vD hdB hdD
            have hcm : ∀ k o, (wr.drewN k).alloc o = (wr.alloc o).drewN k := fun _ _ => rfl
            have HK := Lib.hid (show ∀ W : World, Below wr.heap.size wr W → W.cell? ⟨w.heap.size, 2, none⟩ = some (.slice (some ⟨gA, oA, none⟩) n c) ∧ W.cell? ⟨w.heap.size + 1, 2, none⟩ = some (.slice (some ⟨gC, oC, none⟩) m c2) ∧ W.cell? ⟨gp, 0, none⟩ = some (.int .i64 e.p) ∧ W.cell? ⟨gp, 1, none⟩ = some (.int .i64 e.q) ∧ W.cell? ⟨gA, oA + e.p, none⟩ = some (.slice (some ⟨hA1, iA1, none⟩) i cA) ∧ W.cell? ⟨gC, oC + e.q, none⟩ = some (.slice (some ⟨hC1, iC1, none⟩) i cC) ∧ W.cell? ⟨hA1, iA1 + x, none⟩ = some (.int .i64 e'.p) ∧ W.cell? ⟨hC1, iC1 + x, none⟩ = some (.int .i64 e'.q) from fun W h =>
              ⟨(h.cell (block_lt k2)).trans k2, (h.cell (block_lt l2)).trans l2, (h.cell (block_lt p0)).trans p0, (h.cell (block_lt p1)).trans p1, (h.cell (block_lt hdA)).trans hdA, (h.cell (block_lt hdC)).trans hdC, (h.cell (block_lt vA)).trans vA, (h.cell (block_lt vC)).trans vC⟩)
            clear k0 k1 k2 k3 l0 l1 l2 l3 p0 p1 hdA hdC vA vC
            go_wp2
            go_region_held3 (fun W => W.cell? ⟨w.heap.size, 2, none⟩ = some (.slice (some ⟨gA, oA, none⟩) n c) ∧ W.cell? ⟨w.heap.size + 1, 2, none⟩ = some (.slice (some ⟨gC, oC, none⟩) m c2) ∧ W.cell? ⟨gp, 0, none⟩ = some (.int .i64 e.p) ∧ W.cell? ⟨gp, 1, none⟩ = some (.int .i64 e.q) ∧ W.cell? ⟨gA, oA + e.p, none⟩ = some (.slice (some ⟨hA1, iA1, none⟩) i cA) ∧ W.cell? ⟨gC, oC + e.q, none⟩ = some (.slice (some ⟨hC1, iC1, none⟩) i cC) ∧ W.cell? ⟨hA1, iA1 + x, none⟩ = some (.int .i64 e'.p) ∧ W.cell? ⟨hC1, iC1 + x, none⟩ = some (.int .i64 e'.q)) (first | exact HK.out _ ((below_drewN (Below.refl _ wr) _).drew) | exact HK.out _ (below_drewN (Below.refl _ wr) _) | exact HK.out _ (below_drewN (alloc_below wr _) _) | exact HK.out _ (((below_drewN (alloc_below wr _) _).setCell (p := ⟨wr.heap.size, 0, none⟩) (Nat.le_refl _) _).setCell (p := ⟨wr.heap.size, 1, none⟩) (Nat.le_refl _) _)) (fail)
            obtain ⟨hPn, hbn⟩ := Pb.made wr (nq + 1) e'.p e'.q
            generalize ((((wr.alloc (.cells #[.int .i64 0, .int .i64 0] 69)).drewN (nq + 1)).setCell ⟨wr.heap.size, 0, none⟩ (.int .i64 e'.p)).setCell ⟨wr.heap.size, 1, none⟩ (.int .i64 e'.q)) = wn at hPn hbn ⊢
            have hFn := HF2.out.on hbn hzq
            have hPp := HP2.out.below hbn
            have hzn : g3 ≤ wn.heap.size := by have := hbn.size; omega
            clear hcm HK hbn hbw HF2 HP2
            obtain ⟨p0, p1⟩ := hPn.cells
            obtain ⟨q0, q1⟩ := hFn.sq.at_ (p := e'.p) (q := e'.q) (by omega) (by omega)
            have hq8 : e'.q < 128 := by omega
            have hp8 : e'.p < 128 := by omega
            have HFn := Lib.hid hFn
            have HPp := Lib.hid hPp
            have HPn := Lib.hid hPn
            clear hFn hPp hPn
            generalize wr.heap.size = gn at p0 p1 HPn ⊢
            by_cases hh : hasE (addS nx1 nx2 j e E x) e'.p e'.q
            · have HAE := Lib.hid (addE_in hh)
              rw [decide_eq_true hh] at q0
              clear hh
              go_wp2
              go_quiet (fail)
              go_wp2
              go_roundw
              case rel => exact ⟨x + 1, A2, c3, HXI.out, by go_num, by rw [HST.out, HAE.out], HFN.out, by rw [HST.out, HAE.out]; exact HFn.out.on (below_drewN (Below.refl _ wn) _) hzn, HPp.out.below (below_drewN (Below.refl _ wn) _)⟩
              case measure => have := HXI.out; simp [intOf]; omega
            · have HAE := Lib.hid (addE_out hh)
              rw [decide_eq_false hh] at q0
              clear hh
              go_wp2
              go_quiet (fail)
              have bq := below_drewN (Below.refl wn.heap.size wn) (nq + 1)
              have hFq := HFn.out.on bq hzn
              obtain ⟨A5, c5, W5, hr, hF5, hk5⟩ := hFq.push hgs3 hzn e' hq8 (by omega)
              rw [F3.out, F4.out] at hr
              have hP15 : Pb ((wn.drewN (nq + 1)).setCell ⟨gs, e'.p * 128 + e'.q, none⟩ (.bool true)) gn e'.p e'.q := KeptT.off hFq.sq (by decide) (.bool true) _ _ (HPn.out.below bq)
              obtain ⟨p2, p3⟩ := hP15.cells
              have HF5 := Lib.hid hF5
              have HP5 := Lib.hid (show Pb W5 gp e.p e.q from hk5 gp _ (HPp.out.below bq))
              have HL5 := Lib.hid (show (addS nx1 nx2 j e E (x + 1)).length = (addS nx1 nx2 j e E x).length + 1 by rw [HST.out, HAE.out, List.length_append]; rfl)
              have hr : (Builtin.append_ #[83, 83] 83 #[.slice A2 (addS nx1 nx2 j e E x).length c3, .slice (some ⟨wn.heap.size, 0, none⟩) 1 1]).run Try.prog _ = _ := hr
              clear hP15 hF5 hk5 hFq bq
              go_wp2
              go_region
              clear p0 p1 q0 q1
              go_wp2_with (at_builtin; refine Lib.wpList_append_run _ rfl _ _ _ _ rfl _ _ rfl rfl _ _ hr ?_)
              clear p2 p3 hr
              go_wp2
              go_roundw
              case rel => exact ⟨x + 1, A5, c5, HXI.out, by go_num, by rw [HL5.out], HFN.out, by rw [HL5.out, HST.out, HAE.out]; exact HF5.out, HP5.out⟩
              case measure => have := HXI.out; simp [intOf]; omega
          · have hne : (oN ot1 e.p x != oN ot2 e.q x) = true := by simpa using hd
            have HRR := Lib.hid (show R = some (e.w ++ [(x : Int)]) by
              rw [← HS.out, srch_hit hM hN HE.out hlt (by rw [← HEE.out]; exact fD_hit HFD.out hd hxi), ← HEE.out])
            generalize oN ot1 e.p x = y1 at vB hne
            generalize oN ot2 e.q x = y2 at vD hne
            clear hd hdA hdC vA vC k0 k1 k2 l0 l1 l2
            go_wp2
            go_quiet (fail)
            obtain ⟨g9, c9, e9, hg9, hA9⟩ := HF2.out.row.arv (by have := Hj2.out; omega)
            have hA9 := hA9.below (below_drewN (Below.refl _ wr) nq)
            cases e9
            go_wp2_with fail
            refine (paccess g9 c3 j n m s t _ _ hA9 HE2.out Hj2.out (by omega)).mono ?_
            rintro r w8 ⟨A8, c8, rfl, hO8, hb8⟩
            rw [He2.out] at hO8 ⊢
            have hbw8 := (below_drewN hbw nq).trans (hb8.mono (below_drewN hbw nq).size)
            have hO8 := hO8.lower (base' := w.heap.size) (below_drewN hbw nq).size
            have hel : e.w.length ≤ 16384 := by rw [← He2.out]; have := HE2.out.wl j Hj2.out; have := Hj2.out; omega
            obtain ⟨A10, c10, w10, hr, hO10, hb10, _⟩ := run_append_one hO8 (x : Int) hbw8.size (by omega)
            have HO10 := Lib.hid hO10
            have hbw10 := hbw8.trans hb10
            clear hO8 hO10 hb8 hb10
            go_wp2_with (at_builtin; refine Lib.wpList_append_run _ rfl _ _ _ _ rfl _ _ rfl rfl _ _ hr ?_)
            go_wp2
            go_ret2
            rw [HRR.out]
            exact ⟨A10, c10, by rw [Option.getD_some, List.length_append]; rfl, by rw [Option.getD_some, List.length_append]; exact HO10.out, hbw10⟩
        · have hxe : x = i := by omega
          have HXE := Lib.hid hxe
          have HON := Lib.hid (show srch nx1 nx2 ot1 ot2 i (n * m) (addS nx1 nx2 j e E i) (j + 1) = R by
            have h1 := HFD.out
            rw [hxe, HEE.out] at h1
            have h2 := srch_on hM hN HE.out hlt h1
            rw [← HEE.out] at h2
            rw [h2, HS.out])
          have HJ2 := Lib.hid (show j + 1 ≤ (addS nx1 nx2 j e E x).length by have := Hj2.out; omega)
          clear hxe
          go_wp2
          go_roundw
          case rel =>
            have h1 := HF2.out
            have h2 := HE2.out
            have h3 := HJ2.out
            rw [HXE.out] at h1 h2 h3 ⊢
            exact ⟨j + 1, addS nx1 nx2 j e E i, A2, c3, by go_num, rfl, h3, h2, HON.out, h1⟩
          case measure => simp [intOf]; omega
    · go_wp2
      go_ret2
      rw [← HS.out, srch_end hlt]
      exact ⟨none, 0, rfl, World.ownsRow_nil _ _ _ _, H3.out.trans (hF.bel.mono (by omega))⟩
end Go.Proofs.Ytdedgpgdmnfijaa
end

section
/- equiv: Check, Distinguish, Equal, Upto and States. -/
namespace Go.Proofs.Ytdedgpgdmnfijaa
open Go.RowKit

set_option maxRecDepth 100000 in
theorem pchk2 (i1 st1 i2 st2 : Int) (A B C D : Option Addr) (n c m d n2 c2 m2 d2 : Nat) (nx1 ot1 nx2 ot2 : List (List Int)) (w : World) (hx1 : Lists w A n nx1) (ho1 : Lists w B m ot1) (hx2 : Lists w C n2 nx2) (ho2 : Lists w D m2 ot2) :
    Calls Try.prog 44 #[.agg #[.int .i64 i1, .int .i64 st1, .slice A n c, .slice B m d], .agg #[.int .i64 i2, .int .i64 st2, .slice C n2 c2, .slice D m2 d2]] w fun e w' => e = .returned (.int .i64 (chk2 i1 st1 nx1 ot1 i2 st2 nx2 ot2)) ∧ Below w.heap.size w w' := by
  obtain ⟨hb0, hB1, hB2⟩ := pair_boxes w i1 st1 i2 st2 A B C D n c m d n2 c2 m2 d2
  obtain ⟨w0, hw0⟩ : ∃ w0, w0 = (w.alloc (.cells #[.int .i64 i1, .int .i64 st1, .slice A n c, .slice B m d] 24)).alloc (.cells #[.int .i64 i2, .int .i64 st2, .slice C n2 c2, .slice D m2 d2] 24) := ⟨_, rfl⟩
  rw [← hw0] at hb0 hB1 hB2
  have HW0 := Lib.hid hw0
  have HB1 := Lib.hid hB1
  have HB2 := Lib.hid hB2
  clear hw0 hB1 hB2
  obtain ⟨k0, k1, k2, k3, _⟩ := HB1.out.cells
  rw [HW0.out] at k0 k1 k2 k3
  go_enter Try.func44, Try.ntmps44
  go_wp2_with fail
  rw [← HW0.out]
  refine (pvalid _ _ _ _ _ _ _ _ _ _ _ (hx1.below hb0) (ho1.below hb0)).mono ?_
  rintro e w1 ⟨rfl, a1⟩
  have HB1 := Lib.hid (HB1.out.on9 a1)
  have HB2 := Lib.hid (HB2.out.on9 a1)
  have b1 := bt hb0 a1
  clear hb0 a1 k0 k1 k2 k3
  by_cases h1 : vld i1 st1 nx1 ot1 = 0
  · obtain ⟨k0, k1, k2, k3, _⟩ := HB2.out.cells
    have H1 := Lib.hid h1
    rw [h1]
    clear h1
    go_wp2_with fail
    refine (pvalid _ _ _ _ _ _ _ _ _ _ _ (hx2.below b1) (ho2.below b1)).mono ?_
    rintro e w2 ⟨rfl, a2⟩
    have b2 := bt b1 a2
    obtain ⟨k0, _⟩ := (HB1.out.on9 a2).cells
    obtain ⟨l0, _⟩ := (HB2.out.on9 a2).cells
    clear b1 a2 k1 k2 k3
    by_cases h2 : vld i2 st2 nx2 ot2 = 0
    · have H2 := Lib.hid h2
      rw [h2]
      clear h2
      by_cases h3 : i1 = i2
      · have hc : (i1 != i2) = false := by simp [h3]
        have H3 := Lib.hid (show chk2 i1 st1 nx1 ot1 i2 st2 nx2 ot2 = 0 by unfold chk2; rw [if_neg (by simp [H1.out]), if_neg (by simp [H2.out]), if_pos h3])
        clear h3
        go_wp2
        go_ret
        exact ⟨by rw [H3.out]; rfl, b2⟩
      · have hc : (i1 != i2) = true := by simpa using h3
        have H3 := Lib.hid (show chk2 i1 st1 nx1 ot1 i2 st2 nx2 ot2 = 15 by unfold chk2; rw [if_neg (by simp [H1.out]), if_neg (by simp [H2.out]), if_neg h3])
        clear h3
        go_wp2
        go_ret
        exact ⟨by rw [H3.out]; rfl, b2⟩
    · have hne : (vld i2 st2 nx2 ot2 != 0) = true := by simpa using h2
      have H3 := Lib.hid (show chk2 i1 st1 nx1 ot1 i2 st2 nx2 ot2 = vld i2 st2 nx2 ot2 by unfold chk2; rw [if_neg (by simp [H1.out]), if_pos h2])
      generalize vld i2 st2 nx2 ot2 = E at hne H3 ⊢
      clear h2
      go_wp2
      go_ret
      exact ⟨by rw [H3.out]; rfl, b2⟩
  · have hne : (vld i1 st1 nx1 ot1 != 0) = true := by simpa using h1
    have H3 := Lib.hid (show chk2 i1 st1 nx1 ot1 i2 st2 nx2 ot2 = vld i1 st1 nx1 ot1 by unfold chk2; rw [if_pos h1])
    generalize vld i1 st1 nx1 ot1 = E at hne H3 ⊢
    clear h1
    go_wp2
    go_ret
    exact ⟨by rw [H3.out]; rfl, b1⟩

set_option maxRecDepth 100000 in
theorem pdist (i1 st1 i2 st2 : Int) (A B C D : Option Addr) (n c m d n2 c2 m2 d2 : Nat) (nx1 ot1 nx2 ot2 : List (List Int)) (w : World) (hx1 : Lists w A n nx1) (ho1 : Lists w B m ot1) (hx2 : Lists w C n2 nx2) (ho2 : Lists w D m2 ot2) :
    Calls Try.prog 20 #[.agg #[.int .i64 i1, .int .i64 st1, .slice A n c, .slice B m d], .agg #[.int .i64 i2, .int .i64 st2, .slice C n2 c2, .slice D m2 d2]] w fun e w' => ∃ A' c', e = .returned (.tuple #[.slice A' ((dres i1 st1 nx1 ot1 i2 st2 nx2 ot2).1.getD []).length c', .bool (dres i1 st1 nx1 ot1 i2 st2 nx2 ot2).1.isSome, .int .i64 (dres i1 st1 nx1 ot1 i2 st2 nx2 ot2).2]) ∧
      Owned w' w.heap.size (.slice A' ((dres i1 st1 nx1 ot1 i2 st2 nx2 ot2).1.getD []).length c') ((dres i1 st1 nx1 ot1 i2 st2 nx2 ot2).1.getD []) ∧ Below w.heap.size w w' := by
  obtain ⟨hb0, hB1, hB2⟩ := pair_boxes w i1 st1 i2 st2 A B C D n c m d n2 c2 m2 d2
  obtain ⟨w0, hw0⟩ : ∃ w0, w0 = (w.alloc (.cells #[.int .i64 i1, .int .i64 st1, .slice A n c, .slice B m d] 24)).alloc (.cells #[.int .i64 i2, .int .i64 st2, .slice C n2 c2, .slice D m2 d2] 24) := ⟨_, rfl⟩
  rw [← hw0] at hb0 hB1 hB2
  have HW0 := Lib.hid hw0
  have HB1 := Lib.hid hB1
  have HB2 := Lib.hid hB2
  clear hw0 hB1 hB2
  obtain ⟨k0, k1, k2, k3, _⟩ := HB1.out.cells
  obtain ⟨l0, l1, l2, l3, _⟩ := HB2.out.cells
  rw [HW0.out] at k0 k1 k2 k3 l0 l1 l2 l3
  obtain ⟨D0, hD0⟩ : ∃ D0, D0 = dres i1 st1 nx1 ot1 i2 st2 nx2 ot2 := ⟨_, rfl⟩
  rw [← hD0]
  have HD0 := Lib.hid hD0
  clear hD0
  go_enter Try.func20, Try.ntmps20
  go_wp2_with fail
  rw [← HW0.out]
  refine (pchk2 _ _ _ _ _ _ _ _ _ _ _ _ _ _ _ _ _ _ _ _ _ (hx1.below hb0) (ho1.below hb0) (hx2.below hb0) (ho2.below hb0)).mono ?_
  rintro e w1 ⟨rfl, a1⟩
  have hB1 := HB1.out.on9 a1
  have hB2 := HB2.out.on9 a1
  have b1 := bt hb0 a1
  clear hb0 a1 k0 k1 k2 k3 l0 l1 l2 l3
  by_cases h1 : chk2 i1 st1 nx1 ot1 i2 st2 nx2 ot2 = 0
  · have hd : D0 = (dst nx1 ot1 nx2 ot2 i1.toNat nx1.length nx2.length st1.toNat st2.toNat, 0) := by rw [HD0.out]; unfold dres; rw [if_pos h1]
    rw [h1]
    obtain ⟨v1, v2, rfl⟩ := chk2_zero h1
    clear HD0 h1
    obtain ⟨i', s', n', rfl, rfl, hM⟩ := vld_zero v1
    obtain ⟨i'', s'', n'', e1, rfl, hN⟩ := vld_zero v2
    obtain rfl : i' = i'' := by omega
    have e1 := hx1.1
    have e2 := ho1.1
    have e3 := hM.nxl
    have e4 := hM.otl
    have e5 := hx2.1
    have e6 := ho2.1
    have e7 := hN.nxl
    have e8 := hN.otl
    obtain rfl : n = n' := by omega
    obtain rfl : n = m := by omega
    obtain rfl : n2 = n'' := by omega
    obtain rfl : n2 = m2 := by omega
    rw [e3, e7] at hd
    simp only [Int.toNat_natCast] at hd
    clear e1 e2 e3 e4 e5 e6 e7 e8 v1 v2
    have HD := Lib.hid hd
    clear hd
    obtain ⟨k0, k1, k2, k3, _⟩ := hB1.cells
    obtain ⟨l0, l1, l2, l3, _⟩ := hB2.cells
    clear hB1 hB2
    go_wp2_with fail
    refine (pfirst _ _ _ _ _ _ _ _ _ _ _ _ _ _ _ _ _ _ _ _ (hx1.below b1) (ho1.below b1) (hx2.below b1) (ho2.below b1) hM hN hM.st hN.st).mono ?_
    rintro e w2 ⟨A', c', rfl, hO, a2⟩
    have b2 := bt b1 a2
    have hO := hO.lower (base' := w.heap.size) b1.size
    generalize dst nx1 ot1 nx2 ot2 i' n n2 s' s'' = R at HD hO ⊢
    have HO := Lib.hid hO
    clear hO
    go_wp2
    go_ret3
    rw [HD.out]
    exact ⟨A', c', rfl, HO.out, b2⟩
  · have hd : D0 = (none, chk2 i1 st1 nx1 ot1 i2 st2 nx2 ot2) := by rw [HD0.out]; unfold dres; rw [if_neg h1]
    have hne : (chk2 i1 st1 nx1 ot1 i2 st2 nx2 ot2 != 0) = true := by simpa using h1
    have HD := Lib.hid hd
    clear hd HD0
    generalize chk2 i1 st1 nx1 ot1 i2 st2 nx2 ot2 = E at hne HD ⊢
    clear h1
    go_wp2
    go_ret3
    rw [HD.out]
    exact ⟨none, 0, rfl, World.ownsRow_nil _ _ _ _, b1⟩

set_option maxRecDepth 100000 in
theorem pequ (i1 st1 i2 st2 : Int) (A B C D : Option Addr) (n c m d n2 c2 m2 d2 : Nat) (nx1 ot1 nx2 ot2 : List (List Int)) (w : World) (hx1 : Lists w A n nx1) (ho1 : Lists w B m ot1) (hx2 : Lists w C n2 nx2) (ho2 : Lists w D m2 ot2) :
    Calls Try.prog 22 #[.agg #[.int .i64 i1, .int .i64 st1, .slice A n c, .slice B m d], .agg #[.int .i64 i2, .int .i64 st2, .slice C n2 c2, .slice D m2 d2]] w fun e w' => e = .returned (.tuple #[.bool (eqb (dres i1 st1 nx1 ot1 i2 st2 nx2 ot2)), .int .i64 (dres i1 st1 nx1 ot1 i2 st2 nx2 ot2).2]) ∧ Below w.heap.size w w' := by
  obtain ⟨hb0, hB1, hB2⟩ := pair_boxes w i1 st1 i2 st2 A B C D n c m d n2 c2 m2 d2
  obtain ⟨w0, hw0⟩ : ∃ w0, w0 = (w.alloc (.cells #[.int .i64 i1, .int .i64 st1, .slice A n c, .slice B m d] 24)).alloc (.cells #[.int .i64 i2, .int .i64 st2, .slice C n2 c2, .slice D m2 d2] 24) := ⟨_, rfl⟩
  rw [← hw0] at hb0 hB1 hB2
  have HW0 := Lib.hid hw0
  have HB1 := Lib.hid hB1
  have HB2 := Lib.hid hB2
  clear hw0 hB1 hB2
  obtain ⟨k0, k1, k2, k3, _⟩ := HB1.out.cells
  obtain ⟨l0, l1, l2, l3, _⟩ := HB2.out.cells
  rw [HW0.out] at k0 k1 k2 k3 l0 l1 l2 l3
  obtain ⟨D0, hD0⟩ : ∃ D0, D0 = dres i1 st1 nx1 ot1 i2 st2 nx2 ot2 := ⟨_, rfl⟩
  rw [← hD0]
  have HD0 := Lib.hid hD0
  clear hD0
  go_enter Try.func22, Try.ntmps22
  go_wp2_with fail
  rw [← HW0.out]
  refine (pdist _ _ _ _ _ _ _ _ _ _ _ _ _ _ _ _ _ _ _ _ _ (hx1.below hb0) (ho1.below hb0) (hx2.below hb0) (ho2.below hb0)).mono ?_
  rintro e w1 ⟨A', c', rfl, _, a1⟩
  have b1 := bt hb0 a1
  clear hb0 a1 k0 k1 k2 k3 l0 l1 l2 l3
  rw [← HD0.out]
  clear HD0
  obtain ⟨o, E⟩ := D0
  by_cases hE : E = 0
  · subst hE
    cases o
    all_goals
      go_wp2
      go_ret2
      exact ⟨rfl, b1⟩
  · have hc : (E == 0) = false := by simpa using hE
    have HC := Lib.hid hc
    clear hE
    go_wp2
    go_ret2
    refine ⟨?_, b1⟩
    show _ = Ending.returned (.tuple #[.bool ((E == 0) && !o.isSome), .int .i64 E])
    rw [HC.out]
    rfl

set_option maxRecDepth 100000 in
theorem pupto (i1 st1 i2 st2 : Int) (A B C D : Option Addr) (n c m d n2 c2 m2 d2 : Nat) (nx1 ot1 nx2 ot2 : List (List Int)) (k : Int) (w : World) (hx1 : Lists w A n nx1) (ho1 : Lists w B m ot1) (hx2 : Lists w C n2 nx2) (ho2 : Lists w D m2 ot2) :
    Calls Try.prog 29 #[.agg #[.int .i64 i1, .int .i64 st1, .slice A n c, .slice B m d], .agg #[.int .i64 i2, .int .i64 st2, .slice C n2 c2, .slice D m2 d2], .int .i64 k] w fun e w' => e = .returned (.tuple #[.bool (upb (dres i1 st1 nx1 ot1 i2 st2 nx2 ot2) k), .int .i64 (dres i1 st1 nx1 ot1 i2 st2 nx2 ot2).2]) ∧ Below w.heap.size w w' := by
  obtain ⟨hb0, hB1, hB2⟩ := pair_boxes w i1 st1 i2 st2 A B C D n c m d n2 c2 m2 d2
  obtain ⟨w0, hw0⟩ : ∃ w0, w0 = (w.alloc (.cells #[.int .i64 i1, .int .i64 st1, .slice A n c, .slice B m d] 24)).alloc (.cells #[.int .i64 i2, .int .i64 st2, .slice C n2 c2, .slice D m2 d2] 24) := ⟨_, rfl⟩
  rw [← hw0] at hb0 hB1 hB2
  have HW0 := Lib.hid hw0
  have HB1 := Lib.hid hB1
  have HB2 := Lib.hid hB2
  clear hw0 hB1 hB2
  obtain ⟨k0, k1, k2, k3, _⟩ := HB1.out.cells
  obtain ⟨l0, l1, l2, l3, _⟩ := HB2.out.cells
  rw [HW0.out] at k0 k1 k2 k3 l0 l1 l2 l3
  obtain ⟨D0, hD0⟩ : ∃ D0, D0 = dres i1 st1 nx1 ot1 i2 st2 nx2 ot2 := ⟨_, rfl⟩
  rw [← hD0]
  have HD0 := Lib.hid hD0
  clear hD0
  go_enter Try.func29, Try.ntmps29
  go_wp2_with fail
  rw [← HW0.out]
  refine (pdist _ _ _ _ _ _ _ _ _ _ _ _ _ _ _ _ _ _ _ _ _ (hx1.below hb0) (ho1.below hb0) (hx2.below hb0) (ho2.below hb0)).mono ?_
  rintro e w1 ⟨A', c', rfl, _, a1⟩
  have b1 := bt hb0 a1
  clear hb0 a1 k0 k1 k2 k3 l0 l1 l2 l3
  rw [← HD0.out]
  clear HD0
  obtain ⟨o, E⟩ := D0
  by_cases hE : E = 0
  · subst hE
    cases o with
    | none =>
      go_wp2
      go_ret2
      exact ⟨rfl, b1⟩
    | some u =>
      go_wp2
      go_ret2
      exact ⟨rfl, b1⟩
  · have hc : (E == 0) = false := by simpa using hE
    have HC := Lib.hid (show upb (o, E) k = false by unfold upb; rw [hc]; rfl)
    clear hE
    go_wp2
    go_ret2
    exact ⟨by rw [HC.out]; rfl, b1⟩
end Go.Proofs.Ytdedgpgdmnfijaa
end

section
/- equiv: States. -/
namespace Go.Proofs.Ytdedgpgdmnfijaa
open Go.RowKit

theorem pisst9 (i st : Int) (A B : Option Addr) (n c m d : Nat) (s : Int) (b : Bool) (w : World) (_ : n ≤ 17592186044416) (hb : b = decide (0 ≤ s ∧ s < n)) :
    Calls Try.prog 48 #[.agg #[.int .i64 i, .int .i64 st, .slice A n c, .slice B m d], .int .i64 s] w fun e w' => e = .returned (.bool b) ∧ Below w.heap.size w w' := by
  by_cases h1 : 0 ≤ s
  · by_cases h2 : s < n
    · have hf := Lib.hid (hb.trans (decide_eq_true ⟨h1, h2⟩))
      have d2 : decide (s < (n : Int)) = true := decide_eq_true h2
      clear hb
      go_enter Try.func48, Try.ntmps48
      go_wp2
      go_ret
      exact ⟨ret_bool hf.out.symm, alloc_below _ _⟩
    · have hf := Lib.hid (hb.trans (decide_eq_false (fun H => h2 H.2)))
      have d2 : decide (s < (n : Int)) = false := decide_eq_false h2
      clear hb
      go_enter Try.func48, Try.ntmps48
      go_wp2
      go_ret
      exact ⟨ret_bool hf.out.symm, alloc_below _ _⟩
  · have hf := Lib.hid (hb.trans (decide_eq_false (fun H => h1 H.1)))
    have d2 : decide ((0 : Int) ≤ s) = false := decide_eq_false h1
    clear hb
    go_enter Try.func48, Try.ntmps48
    go_wp2
    go_ret
    exact ⟨ret_bool hf.out.symm, alloc_below _ _⟩
set_option maxRecDepth 100000 in
theorem pstates (i st : Int) (A B : Option Addr) (n c m d : Nat) (nx ot : List (List Int)) (s t : Int) (w : World) (hx : Lists w A n nx) (ho : Lists w B m ot) :
    Calls Try.prog 25 #[.agg #[.int .i64 i, .int .i64 st, .slice A n c, .slice B m d], .int .i64 s, .int .i64 t] w fun e w' => ∃ A' c', e = .returned (.tuple #[.slice A' ((sres i st nx ot s t).1.getD []).length c', .bool (sres i st nx ot s t).1.isSome, .int .i64 (sres i st nx ot s t).2]) ∧
      Owned w' w.heap.size (.slice A' ((sres i st nx ot s t).1.getD []).length c') ((sres i st nx ot s t).1.getD []) ∧ Below w.heap.size w w' := by
  have hb0 := alloc_below w (.cells #[.int .i64 i, .int .i64 st, .slice A n c, .slice B m d] 24)
  have HB1 := Lib.hid (mealy_box w (.int .i64 i) (.int .i64 st) (.slice A n c) (.slice B m d))
  obtain ⟨D0, hD0⟩ : ∃ D0, D0 = sres i st nx ot s t := ⟨_, rfl⟩
  rw [← hD0]
  have HD0 := Lib.hid hD0
  clear hD0
  go_enter Try.func25, Try.ntmps25
  go_wp2_with fail
  refine (pvalid _ _ _ _ _ _ _ _ _ _ _ (hx.below hb0) (ho.below hb0)).mono ?_
  rintro e w1 ⟨rfl, a1⟩
  have HB1 := Lib.hid (HB1.out.on9 a1)
  have b1 := bt hb0 a1
  clear hb0 a1
  by_cases hv : vld i st nx ot = 0
  · rw [hv]
    have HV := Lib.hid hv
    obtain ⟨i', s', n', rfl, rfl, hM⟩ := vld_zero hv
    have e1 := hx.1
    have e2 := ho.1
    have e3 := hM.nxl
    have e4 := hM.otl
    obtain rfl : n = n' := by omega
    obtain rfl : n = m := by omega
    clear e1 e2 e4 hv
    have hn := hx.2.1
    obtain ⟨k0, k1, k2, k3, _⟩ := HB1.out.cells
    go_wp2_with fail
    refine (pisst9 _ _ _ _ _ _ _ _ s _ _ hn rfl).mono ?_
    rintro e w2 ⟨rfl, a2⟩
    have HB2 := Lib.hid (HB1.out.on9 a2)
    have b2 := bt b1 a2
    clear k0 k1 k2 k3 b1 a2
    obtain ⟨k0, k1, k2, k3, _⟩ := HB2.out.cells
    by_cases h12 : 0 ≤ s ∧ s < (n : Int)
    · obtain ⟨h1, h2⟩ := h12
      rw [decide_eq_true (show 0 ≤ s ∧ s < (n : Int) from ⟨h1, h2⟩)]
      go_wp2_with fail
      refine (pisst9 _ _ _ _ _ _ _ _ t _ _ hn rfl).mono ?_
      rintro e w3 ⟨rfl, a3⟩
      have HB3 := Lib.hid (HB2.out.on9 a3)
      have b3 := bt b2 a3
      clear k0 k1 k2 k3 b2 a3
      obtain ⟨k0, k1, k2, k3, _⟩ := HB3.out.cells
      by_cases h34 : 0 ≤ t ∧ t < (n : Int)
      · obtain ⟨h3, h4⟩ := h34
        rw [decide_eq_true (show 0 ≤ t ∧ t < (n : Int) from ⟨h3, h4⟩)]
        obtain ⟨S, rfl⟩ : ∃ S : Nat, s = S := ⟨s.toNat, by omega⟩
        obtain ⟨T, rfl⟩ : ∃ T : Nat, t = T := ⟨t.toNat, by omega⟩
        have HD := Lib.hid (show D0 = (dst nx ot nx ot i' n n S T, 0) by rw [HD0.out]; unfold sres; rw [if_neg (by simp [HV.out]), if_pos (by rw [e3]; exact ⟨⟨h1, h2⟩, h3, h4⟩), e3]; rfl)
        have hS : S < n := by omega
        have hT : T < n := by omega
        clear HD0
        go_wp2_with fail
        refine (pfirst i' s' s' n n S T _ _ _ _ _ _ _ _ _ _ _ _ _ (hx.below b3) (ho.below b3) (hx.below b3) (ho.below b3) hM hM hS hT).mono ?_
        rintro e w9 ⟨A', c', rfl, hO, a9⟩
        have b9 := bt b3 a9
        have hO := hO.lower (base' := w.heap.size) b3.size
        generalize dst nx ot nx ot i' n n S T = R at HD hO ⊢
        have HO := Lib.hid hO
        clear hO
        go_wp2
        go_ret3
        rw [HD.out]
        exact ⟨A', c', rfl, HO.out, b9⟩
      · rw [decide_eq_false h34]
        have HD := Lib.hid (show D0 = (none, 2) by rw [HD0.out]; unfold sres; rw [if_neg (by simp [HV.out]), if_neg (by rw [e3]; exact fun H => h34 H.2)])
        clear HD0 h34 h1 h2
        go_wp2
        go_ret3
        rw [HD.out]
        exact ⟨none, 0, rfl, World.ownsRow_nil _ _ _ _, b3⟩
    · rw [decide_eq_false h12]
      have HD := Lib.hid (show D0 = (none, 2) by rw [HD0.out]; unfold sres; rw [if_neg (by simp [HV.out]), if_neg (by rw [e3]; exact fun H => h12 H.1)])
      clear HD0 h12
      go_wp2
      go_ret3
      rw [HD.out]
      exact ⟨none, 0, rfl, World.ownsRow_nil _ _ _ _, b2⟩
  · have hne : (vld i st nx ot != 0) = true := by simpa using hv
    have HD := Lib.hid (show D0 = (none, vld i st nx ot) by rw [HD0.out]; unfold sres; rw [if_pos hv])
    clear HD0
    generalize vld i st nx ot = E at hne HD ⊢
    clear hv
    go_wp2
    go_ret3
    rw [HD.out]
    exact ⟨none, 0, rfl, World.ownsRow_nil _ _ _ _, b1⟩
end Go.Proofs.Ytdedgpgdmnfijaa
end

section
/- Isomorphic machines: the maths. -/
namespace Go.Proofs.Ytdedgpgdmnfijaa

def isoV (R1 R2 : List Nat) (s : Nat) : Nat := R2.getD (ixN R1 s) 0
/-- The state of the second machine for each state of the first. -/
def isoL (R1 R2 : List Nat) (n : Nat) : List Int := (List.range n).map fun s => ((isoV R1 R2 s : Nat) : Int)
def asgL (R1 R2 : List Nat) (n k : Nat) : List Int := (List.range n).map fun s => if s ∈ R1.take k then ((isoV R1 R2 s : Nat) : Int) else 0
def isoC (i : Nat) (nx1 ot1 : List (List Int)) (st1 n : Nat) (nx2 ot2 : List (List Int)) (st2 m : Nat) : Prop :=
  (rch nx1 i st1).length = n ∧ (rch nx2 i st2).length = m ∧ trN nx1 i (rch nx1 i st1) = trN nx2 i (rch nx2 i st2) ∧ trO ot1 (rch nx1 i st1) = trO ot2 (rch nx2 i st2)
instance (i : Nat) (nx1 ot1 : List (List Int)) (st1 n : Nat) (nx2 ot2 : List (List Int)) (st2 m : Nat) : Decidable (isoC i nx1 ot1 st1 n nx2 ot2 st2 m) := inferInstanceAs (Decidable (_ ∧ _ ∧ _ ∧ _))
/-- What Iso finds. -/
def ires (i1 st1 : Int) (nx1 ot1 : List (List Int)) (i2 st2 : Int) (nx2 ot2 : List (List Int)) : Option (List Int) × Int :=
  if chk2 i1 st1 nx1 ot1 i2 st2 nx2 ot2 = 0 then (if isoC i1.toNat nx1 ot1 st1.toNat nx1.length nx2 ot2 st2.toNat nx2.length then some (isoL (rch nx1 i1.toNat st1.toNat) (rch nx2 i1.toNat st2.toNat) nx1.length) else none, 0)
  else (none, chk2 i1 st1 nx1 ot1 i2 st2 nx2 ot2)
theorem isoL_len (R1 R2 : List Nat) (n : Nat) : (isoL R1 R2 n).length = n := by simp [isoL]
theorem asgL_len (R1 R2 : List Nat) (n k : Nat) : (asgL R1 R2 n k).length = n := by simp [asgL]
theorem isoL_at {R1 R2 : List Nat} {n s : Nat} (h : s < n) : (isoL R1 R2 n).getD s 0 = ((isoV R1 R2 s : Nat) : Int) := by unfold isoL; simp [List.getD, h]
theorem asgL_zero (R1 R2 : List Nat) (n : Nat) : asgL R1 R2 n 0 = List.replicate n 0 := by
  apply List.ext_getElem
  · simp [asgL]
  · intro k h1 h2; simp [asgL]
theorem asgL_set {R1 R2 : List Nat} {n k : Nat} (hd : R1.Nodup) (hk : k < R1.length) : (asgL R1 R2 n k).set (R1.getD k 0) ((R2.getD k 0 : Nat) : Int) = asgL R1 R2 n (k + 1) := by
  have ht : R1.take (k + 1) = R1.take k ++ [R1.getD k 0] := by
    rw [List.take_add_one, List.getD_eq_getElem?_getD, List.getElem?_eq_getElem hk]; rfl
  apply List.ext_getElem
  · simp [asgL]
  · intro m h1 h2
    rw [List.getElem_set]
    have hm : m < n := by simpa [asgL] using h2
    by_cases e : R1.getD k 0 = m
    · rw [if_pos e]
      simp only [asgL, List.getElem_map, List.getElem_range]
      rw [ht, if_pos (by rw [← e]; simp)]
      unfold isoV
      rw [← e, ixN_of hd hk]
    · rw [if_neg e]
      simp only [asgL, List.getElem_map, List.getElem_range]
      have : m ∈ R1.take (k + 1) ↔ m ∈ R1.take k := by
        rw [ht, List.mem_append]
        constructor
        · rintro (h | h)
          · exact h
          · simp only [List.mem_singleton] at h; exact absurd h.symm e
        · exact .inl
      by_cases h3 : m ∈ R1.take k
      · rw [if_pos h3, if_pos (this.2 h3)]
      · rw [if_neg h3, if_neg (fun h => h3 (this.1 h))]
theorem asgL_end {R1 R2 : List Nat} {n : Nat} (h : ∀ s, s < n → s ∈ R1) : asgL R1 R2 n R1.length = isoL R1 R2 n := by
  unfold asgL isoL
  rw [List.take_length]
  apply List.map_congr_left
  intro s hs
  rw [if_pos (h s (List.mem_range.1 hs))]
theorem Stt.all {n : Nat} {l : List Nat} (h : Stt n l) (hl : l.length = n) : ∀ s, s < n → s ∈ l := fun s hs => by
  by_cases hm : s ∈ l
  · exact hm
  · exfalso
    have h2 : Stt n (l ++ [s]) := ⟨by
      rw [List.nodup_append]
      exact ⟨h.1, by simp, fun a ha b hb e => by simp at hb; subst hb; subst e; exact hm ha⟩, fun x hx => by
      rcases List.mem_append.1 hx with hx | hx
      · exact h.2 x hx
      · simp at hx; omega⟩
    have := h2.len
    rw [List.length_append] at this
    simp at this
    omega
theorem list_ext_d {β : Type} {l k : List β} (d : β) (h1 : l.length = k.length) (h : ∀ s, s < l.length → l.getD s d = k.getD s d) : l = k := by
  apply List.ext_getElem h1
  intro s hs ht
  have := h s hs
  rwa [List.getD_eq_getElem?_getD, List.getD_eq_getElem?_getD, List.getElem?_eq_getElem hs, List.getElem?_eq_getElem ht] at this
theorem getD_mem0 {l : List Nat} {k : Nat} (h : k < l.length) : l.getD k 0 ∈ l := getD_mem h
theorem map_at {α β : Type} (f : α → β) (l : List α) (a : α) (b : β) {k : Nat} (h : k < l.length) : (l.map f).getD k b = f (l.getD k a) := by
  rw [List.getD_eq_getElem?_getD, List.getD_eq_getElem?_getD, List.getElem?_map, List.getElem?_eq_getElem h]; rfl
section
variable {i st1 st2 n : Nat} {nx1 ot1 nx2 ot2 : List (List Int)} {R1 R2 : List Nat}
theorem isoV_lt (h1 : Stt n R1) (h2 : Stt n R2) (l1 : R1.length = n) (l2 : R2.length = n) {s : Nat} (hs : s < n) : isoV R1 R2 s < n := by
  have := ixN_lt (h1.all l1 s hs)
  exact h2.2 _ (getD_mem0 (by omega))
/-- The trimmed machines are the same just if all transitions correspond. -/
theorem iso_iff (hM : Mok i st1 n nx1 ot1) (hN : Mok i st2 n nx2 ot2) (h1 : Stt n R1) (h2 : Stt n R2) (l1 : R1.length = n) (l2 : R2.length = n) :
    (trN nx1 i R1 = trN nx2 i R2 ∧ trO ot1 R1 = trO ot2 R2) ↔ ∀ s, s < n → ∀ x, x < i → oN ot1 s x = oN ot2 (isoV R1 R2 s) x ∧ isoV R1 R2 (nN nx1 s x) = nN nx2 (isoV R1 R2 s) x := by
  constructor
  · rintro ⟨e1, e2⟩ s hs x hx
    have hm := h1.all l1 s hs
    have hk := ixN_lt hm
    have hsa := ixN_at hm
    have hv : isoV R1 R2 s = R2.getD (ixN R1 s) 0 := rfl
    rw [hv]
    generalize ixN R1 s = k at hk hsa hv
    subst hsa
    have a1 : (trN nx1 i R1).getD k [] = (trN nx2 i R2).getD k [] := by rw [e1]
    have a2 : (trO ot1 R1).getD k [] = (trO ot2 R2).getD k [] := by rw [e2]
    unfold trN at a1
    unfold trO at a2
    rw [map_at _ _ 0 _ hk, map_at _ _ 0 _ (by omega)] at a1 a2
    refine ⟨?_, ?_⟩
    · unfold oN; rw [a2]
    · have a3 : (trR nx1 i R1 (R1.getD k 0)).getD x 0 = (trR nx2 i R2 (R2.getD k 0)).getD x 0 := by rw [a1]
      rw [trR_at hx, trR_at hx] at a3
      unfold isoV
      rw [show ixN R1 (nN nx1 (R1.getD k 0) x) = ixN R2 (nN nx2 (R2.getD k 0) x) by omega]
      exact ixN_at (h2.all l2 _ (hN.nN_lt (h2.2 _ (getD_mem0 (by omega))) hx))
  · intro h
    have hk : ∀ k, k < n → isoV R1 R2 (R1.getD k 0) = R2.getD k 0 := fun k hk => by
      unfold isoV; rw [ixN_of h1.1 (by omega)]
    refine ⟨list_ext_d [] (by simp [trN]; omega) fun k hkl => ?_, list_ext_d [] (by simp [trO]; omega) fun k hkl => ?_⟩
    · have hkn : k < n := by simpa [trN, l1] using hkl
      unfold trN
      rw [map_at _ _ 0 _ (by omega), map_at _ _ 0 _ (by omega)]
      unfold trR
      apply List.map_congr_left
      intro a ha
      have ha := List.mem_range.1 ha
      have hs := h1.2 _ (getD_mem0 (l := R1) (k := k) (by omega))
      obtain ⟨_, hb⟩ := h _ hs a ha
      rw [hk k hkn] at hb
      have hn1 := hM.nN_lt hs ha
      have hm := h1.all l1 _ hn1
      unfold isoV at hb
      rw [← hb, ixN_of h2.1 (by have := ixN_lt hm; omega)]
    · have hkn : k < n := by simpa [trO, l1] using hkl
      unfold trO
      rw [map_at _ _ 0 _ (by omega), map_at _ _ 0 _ (by omega)]
      have hs := h1.2 _ (getD_mem0 (l := R1) (k := k) (by omega))
      have ht := h2.2 _ (getD_mem0 (l := R2) (k := k) (by omega))
      have w1 := (hM.row _ hs).2.1
      have w2 := (hN.row _ ht).2.1
      refine list_ext_d 0 (by rw [w1, w2]) fun a ha => ?_
      rw [w1] at ha
      obtain ⟨hb, _⟩ := h _ hs a ha
      rw [hk k hkn] at hb
      exact hb
theorem iso_lens (hM : trN nx1 i R1 = trN nx2 i R2) : R1.length = R2.length := by
  have := congrArg List.length hM
  simpa [trN] using this
end
end Go.Proofs.Ytdedgpgdmnfijaa
end

section
/- What trimming keeps. -/
namespace Go.Proofs.Ytdedgpgdmnfijaa

section
variable {i st n : Nat} {nx ot : List (List Int)}

theorem tr_row {R : List Nat} {j : Nat} (hj : j < R.length) : (trN nx i R).getD j [] = trR nx i R (R.getD j 0) := by
  unfold trN; rw [List.getD_eq_getElem?_getD, List.getElem?_map, List.getElem?_eq_getElem hj, List.getD_eq_getElem?_getD, List.getElem?_eq_getElem hj]; rfl
theorem tr_out {R : List Nat} {j : Nat} (hj : j < R.length) : (trO ot R).getD j [] = ot.getD (R.getD j 0) [] := by
  unfold trO; rw [List.getD_eq_getElem?_getD, List.getElem?_map, List.getElem?_eq_getElem hj, List.getD_eq_getElem?_getD (l := R), List.getElem?_eq_getElem hj]; rfl
theorem tr_nN {R : List Nat} {j a : Nat} (hj : j < R.length) (ha : a < i) : nN (trN nx i R) j a = ixN R (nN nx (R.getD j 0) a) := by
  unfold nN; rw [tr_row hj, trR_at ha]; unfold nN; simp
theorem tr_oN {R : List Nat} {j a : Nat} (hj : j < R.length) : oN (trO ot R) j a = oN ot (R.getD j 0) a := by
  unfold oN; rw [tr_out hj]

theorem Mok.tr (hM : Mok i st n nx ot) : Mok i 0 (rch nx i st).length (trN nx i (rch nx i st)) (trO ot (rch nx i st)) := by
  have hs := hM.rch_stt
  have hl := hs.len
  have h0 : 0 < (rch nx i st).length := by obtain ⟨t, ht⟩ := rch_pre nx i st; rw [ht]; simp
  refine ⟨hM.i1, hM.i2, h0, by have := hM.n2; omega, h0, by simp [trN], by simp [trO], fun s h => ?_⟩
  have hm := getD_mem h
  have hr := hM.row _ (hs.2 _ hm)
  rw [tr_row h, tr_out h]
  refine ⟨trR_len _ _ _ _, hr.2.1, fun a ha => ?_⟩
  rw [trR_at ha]
  have := ixN_lt (hM.rch_in hm ha)
  exact ⟨by omega, by omega, (hr.2.2 a ha).2.2⟩

theorem tr_run (hM : Mok i st n nx ot) : ∀ (u : List Int) (s : Nat), s ∈ rch nx i st → (∀ x, x ∈ u → 0 ≤ x ∧ x < i) → runO (trN nx i (rch nx i st)) (trO ot (rch nx i st)) (ixN (rch nx i st) s) u = runO nx ot s u
  | [], _, _, _ => rfl
  | x :: u, s, hs, hu => by
    have hx := hu x (by simp)
    have ha : x.toNat < i := by omega
    show oN _ (ixN (rch nx i st) s) x.toNat :: runO _ _ (nN _ (ixN (rch nx i st) s) x.toNat) u = oN ot s x.toNat :: runO nx ot (nN nx s x.toNat) u
    rw [tr_oN (ixN_lt hs), tr_nN (ixN_lt hs) ha, ixN_at hs, tr_run hM u _ (hM.rch_in hs ha) fun y hy => hu y (by simp [hy])]

theorem ixN_st (nx : List (List Int)) (i st : Nat) : ixN (rch nx i st) st = 0 := by
  obtain ⟨t, ht⟩ := rch_pre nx i st
  rw [ht]; unfold ixN; simp
theorem st_mem (nx : List (List Int)) (i st : Nat) : st ∈ rch nx i st := by obtain ⟨t, ht⟩ := rch_pre nx i st; rw [ht]; simp

theorem addN_map {R : List Nat} {l : List Nat} {x : Nat} (hl : ∀ y, y ∈ l → y ∈ R) (hx : x ∈ R) : addN (l.map (ixN R)) (ixN R x) = (addN l x).map (ixN R) := by
  have h : ixN R x ∈ l.map (ixN R) ↔ x ∈ l := by
    rw [List.mem_map]
    constructor
    · rintro ⟨y, hy, e⟩
      have := congrArg (fun j => R.getD j 0) e
      simp only [ixN_at (hl y hy), ixN_at hx] at this
      rw [← this]; exact hy
    · intro h; exact ⟨x, h, rfl⟩
  unfold addN
  by_cases hm : x ∈ l
  · rw [if_pos (h.2 hm), if_pos hm]
  · rw [if_neg (fun H => hm (h.1 H)), if_neg hm, List.map_append]; rfl
theorem addN_sub {R l : List Nat} {x : Nat} (hl : ∀ y, y ∈ l → y ∈ R) (hx : x ∈ R) : ∀ y, y ∈ addN l x → y ∈ R := by
  unfold addN; split
  · exact hl
  · intro y hy; rw [List.mem_append] at hy
    rcases hy with hy | hy
    · exact hl y hy
    · simp at hy; subst hy; exact hx
theorem addR_map (hM : Mok i st n nx ot) {l : List Nat} {s : Nat} (hl : ∀ y, y ∈ l → y ∈ rch nx i st) (hs : s ∈ rch nx i st) : ∀ a, a ≤ i →
    addR (trN nx i (rch nx i st)) (ixN (rch nx i st) s) (l.map (ixN (rch nx i st))) a = (addR nx s l a).map (ixN (rch nx i st)) ∧ ∀ y, y ∈ addR nx s l a → y ∈ rch nx i st
  | 0, _ => ⟨rfl, hl⟩
  | a + 1, h => by
    obtain ⟨h1, h2⟩ := addR_map hM hl hs a (by omega)
    have hin := hM.rch_in hs (show a < i by omega)
    refine ⟨?_, addN_sub h2 hin⟩
    show addN (addR _ _ _ a) (nN _ _ a) = (addN _ _).map _
    rw [h1, tr_nN (ixN_lt hs) (by omega), ixN_at hs, addN_map h2 hin]
theorem bfs_map (hM : Mok i st n nx ot) : ∀ (k : Nat) (l : List Nat) (j : Nat), (∀ y, y ∈ l → y ∈ rch nx i st) →
    bfs (trN nx i (rch nx i st)) i k (l.map (ixN (rch nx i st))) j = (bfs nx i k l j).map (ixN (rch nx i st))
  | 0, _, _, _ => rfl
  | k + 1, l, j, hl => by
    show (if j < (l.map _).length then _ else _) = List.map _ (if j < l.length then _ else _)
    rw [List.length_map]
    by_cases hj : j < l.length
    · have hm := getD_mem hj
      obtain ⟨h1, h2⟩ := addR_map hM hl (hl _ hm) i (Nat.le_refl _)
      have e : (l.map (ixN (rch nx i st))).getD j 0 = ixN (rch nx i st) (l.getD j 0) := by
        rw [List.getD_eq_getElem?_getD, List.getElem?_map, List.getElem?_eq_getElem hj, List.getD_eq_getElem?_getD, List.getElem?_eq_getElem hj]; rfl
      rw [if_pos hj, if_pos hj, e, h1]
      exact bfs_map hM k _ _ h2
    · rw [if_neg hj, if_neg hj]

theorem bfs_more (hM : Mok i st n nx ot) {l : List Nat} {j : Nat} (h : Stt n l) : ∀ k, bfs nx i (n + k) l j = bfs nx i n l j
  | 0 => rfl
  | k + 1 => by rw [← Nat.add_assoc, bfs_fuel hM (n + k) l j h (by omega), bfs_more hM h k]

theorem map_ixN {R : List Nat} (hR : R.Nodup) : R.map (ixN R) = List.range R.length := by
  apply List.ext_getElem
  · simp
  · intro m h1 h2
    have hm : m < R.length := by simpa using h1
    rw [List.getElem_map, List.getElem_range]
    have := ixN_of hR hm
    rw [List.getD_eq_getElem?_getD, List.getElem?_eq_getElem hm] at this
    exact this

theorem tr_rch (hM : Mok i st n nx ot) : rch (trN nx i (rch nx i st)) i 0 = List.range (rch nx i st).length := by
  have hT := hM.tr
  have hl := hM.rch_stt.len
  have h := bfs_map hM nx.length [st] 0 (fun y hy => by simp at hy; subst hy; exact st_mem nx i y)
  rw [show [st].map (ixN (rch nx i st)) = [0] by show [ixN _ _] = _; rw [ixN_st]] at h
  show bfs _ i (trN nx i (rch nx i st)).length [0] 0 = _
  rw [hT.nxl]
  have hm := bfs_more hT (j := 0) (Stt.one hT.n1) (n - (rch nx i st).length)
  rw [show (rch nx i st).length + (n - (rch nx i st).length) = n by omega] at hm
  rw [← hm, ← hM.nxl, h]
  exact map_ixN hM.rch_stt.1

theorem ixN_range {k x : Nat} (h : x < k) : ixN (List.range k) x = x := by
  have hm : x ∈ List.range k := List.mem_range.2 h
  have h1 := ixN_at hm
  have h2 := ixN_lt hm
  rw [List.length_range] at h2
  rw [List.getD_eq_getElem?_getD, List.getElem?_eq_getElem (by rw [List.length_range]; exact h2), List.getElem_range] at h1
  exact h1
theorem getD_range {k j : Nat} (h : j < k) : (List.range k).getD j 0 = j := by
  rw [List.getD_eq_getElem?_getD, List.getElem?_eq_getElem (by rw [List.length_range]; exact h), List.getElem_range]; rfl

theorem tr_again (hM : Mok i st n nx ot) : trN (trN nx i (rch nx i st)) i (List.range (rch nx i st).length) = trN nx i (rch nx i st) := by
  have hT := hM.tr
  apply List.ext_getElem
  · simp [trN]
  · intro m h1 h2
    have hm : m < (rch nx i st).length := by simpa [trN] using h2
    have e1 := tr_row (nx := trN nx i (rch nx i st)) (i := i) (R := List.range (rch nx i st).length) (j := m) (by simpa using hm)
    have e2 := tr_row (nx := nx) (i := i) hm
    rw [List.getD_eq_getElem?_getD, List.getElem?_eq_getElem h1, getD_range hm] at e1
    rw [List.getD_eq_getElem?_getD, List.getElem?_eq_getElem h2] at e2
    have e1 : (trN (trN nx i (rch nx i st)) i (List.range (rch nx i st).length))[m] = _ := e1
    have e2 : (trN nx i (rch nx i st))[m] = _ := e2
    rw [e1, e2]
    unfold trR
    apply List.map_congr_left
    intro a ha
    have ha : a < i := List.mem_range.1 ha
    have hlt := hT.nN_lt hm ha
    rw [ixN_range hlt, tr_nN hm ha]
theorem tr_again_out (ot : List (List Int)) (R : List Nat) : trO (trO ot R) (List.range R.length) = trO ot R := by
  apply List.ext_getElem
  · simp [trO]
  · intro m h1 h2
    have hm : m < R.length := by simpa [trO] using h2
    have e1 := tr_out (ot := trO ot R) (R := List.range R.length) (j := m) (by simpa using hm)
    rw [List.getD_eq_getElem?_getD, List.getElem?_eq_getElem h1, getD_range hm, List.getD_eq_getElem?_getD, List.getElem?_eq_getElem h2] at e1
    exact e1
end
end Go.Proofs.Ytdedgpgdmnfijaa
end

section
/- Lists and machines that are equal: Equal, EqualFunc, equal, Same; the reference's Ints, Lists, Same. -/
namespace Go.Proofs.Ytdedgpgdmnfijaa
open Go.RowKit

set_option maxHeartbeats 1000000 in
theorem rints (A B : Option Addr) (n c m d : Nat) (xs ys : List Int) (b : Bool) (w : World) (hx : Ints w A n xs) (hy : Ints w B m ys) (hb : b = decide (xs = ys)) :
    Calls Try.prog 61 #[.slice A n c, .slice B m d] w fun e w' => e = .returned (.bool b) ∧ ∃ q, w' = w.drewN q := by
  have L1 := Lib.hid hx.1
  have L2 := Lib.hid hy.1
  have hn := hx.2.1
  have hm := hy.2.1
  by_cases hnm : n = m
  · subst hnm
    have HB := Lib.hid hb
    clear hb
    go_enter Try.func61, Try.ntmps61
    go_wp2
    go_loopw [5] (fun i wr => ∃ j q : Nat, j ≤ n ∧ i = .int .i64 j ∧ AgreeL 0 xs ys j ∧ wr = w.drewN q) (fun i _ => n - (intOf i).toNat)
    case atStart => exact ⟨0, 0, Nat.zero_le _, rfl, AgreeL.zero _ _ _, rfl⟩
    case round =>
      obtain ⟨j, q, hj, rfl, heq, rfl⟩ := hrel
      have HE := Lib.hid heq
      clear heq
      by_cases hlt : j < n
      · obtain ⟨g1, o1, rfl, _, hc1⟩ := hx.at_ hlt
        obtain ⟨g2, o2, rfl, _, hc2⟩ := hy.at_ hlt
        by_cases he : xs.getD j 0 = ys.getD j 0
        · have hnx := Lib.hid (HE.out.succ he)
          rw [← he] at hc2
          generalize xs.getD j 0 = y at hc1 hc2
          clear he
          go_wp2
          go_quiet (fail)
          go_wp2
          go_roundw
          case rel => exact ⟨j + 1, _, by omega, by go_num, hnx.out, rfl⟩
          case measure => simp [intOf]; omega
        · have hfin : Hid (b = false) := Lib.hid (HB.out.trans (decide_eq_false fun e => he (by rw [e])))
          have hne : (xs.getD j 0 != ys.getD j 0) = true := by simpa using he
          generalize xs.getD j 0 = y at hc1 hne
          generalize ys.getD j 0 = z at hc2 hne
          clear he
          go_wp2
          go_quiet (fail)
          go_wp2
          go_ret
          exact ⟨ret_bool hfin.out.symm, by first | exact ⟨_, rfl⟩ | exact ⟨_, World.drewN_drewN _ _ _⟩⟩
      · obtain rfl : j = n := by omega
        have hfin : Hid (b = true) := Lib.hid (HB.out.trans (decide_eq_true (HE.out.all L1.out L2.out)))
        go_wp2
        go_ret
        exact ⟨ret_bool hfin.out.symm, by first | exact ⟨_, rfl⟩ | exact ⟨_, World.drewN_drewN _ _ _⟩⟩
  · have hfin : Hid (b = false) := Lib.hid (hb.trans (decide_eq_false fun e => hnm (by rw [← L1.out, ← L2.out, e])))
    have hd : ((n : Int) != (m : Int)) = true := by simp; omega
    clear hnm hb
    go_enter Try.func61, Try.ntmps61
    go_wp2
    go_ret
    exact ⟨ret_bool hfin.out.symm, 0, rfl⟩

set_option maxHeartbeats 1000000 in
theorem sequal (A B : Option Addr) (n c m d : Nat) (xs ys : List Int) (b : Bool) (w : World) (hx : Ints w A n xs) (hy : Ints w B m ys) (hb : b = decide (xs = ys)) :
    Calls Try.prog 72 #[.slice A n c, .slice B m d] w fun e w' => e = .returned (.bool b) ∧ ∃ q, w' = w.drewN q := by
  have L1 := Lib.hid hx.1
  have L2 := Lib.hid hy.1
  have hn := hx.2.1
  have hm := hy.2.1
  by_cases hnm : n = m
  · subst hnm
    have HB := Lib.hid hb
    clear hb
    go_enter Try.func72, Try.ntmps72
    go_wp2
    go_loopw [13] (fun i wr => ∃ j q : Nat, j ≤ n ∧ i = .int .i64 j ∧ AgreeL 0 xs ys j ∧ wr = w.drewN q) (fun i _ => n - (intOf i).toNat)
    case atStart => exact ⟨0, 0, Nat.zero_le _, rfl, AgreeL.zero _ _ _, rfl⟩
    case round =>
      obtain ⟨j, q, hj, rfl, heq, rfl⟩ := hrel
      have HE := Lib.hid heq
      clear heq
      by_cases hlt : j < n
      · obtain ⟨g1, o1, rfl, _, hc1⟩ := hx.at_ hlt
        obtain ⟨g2, o2, rfl, _, hc2⟩ := hy.at_ hlt
        by_cases he : xs.getD j 0 = ys.getD j 0
        · have hnx := Lib.hid (HE.out.succ he)
          rw [← he] at hc2
          generalize xs.getD j 0 = y at hc1 hc2
          clear he
          go_wp2
          go_quiet (fail)
          go_wp2
          go_roundw
          case rel => exact ⟨j + 1, _, by omega, by go_num, hnx.out, rfl⟩
          case measure => simp [intOf]; omega
        · have hfin : Hid (b = false) := Lib.hid (HB.out.trans (decide_eq_false fun e => he (by rw [e])))
          have hne : (xs.getD j 0 != ys.getD j 0) = true := by simpa using he
          generalize xs.getD j 0 = y at hc1 hne
          generalize ys.getD j 0 = z at hc2 hne
          clear he
          go_wp2
          go_quiet (fail)
          go_wp2
          go_ret
          exact ⟨ret_bool hfin.out.symm, by first | exact ⟨_, rfl⟩ | exact ⟨_, World.drewN_drewN _ _ _⟩⟩
      · obtain rfl : j = n := by omega
        have hfin : Hid (b = true) := Lib.hid (HB.out.trans (decide_eq_true (HE.out.all L1.out L2.out)))
        go_wp2
        go_ret
        exact ⟨ret_bool hfin.out.symm, by first | exact ⟨_, rfl⟩ | exact ⟨_, World.drewN_drewN _ _ _⟩⟩
  · have hfin : Hid (b = false) := Lib.hid (hb.trans (decide_eq_false fun e => hnm (by rw [← L1.out, ← L2.out, e])))
    have hd : ((n : Int) != (m : Int)) = true := by simp; omega
    clear hnm hb
    go_enter Try.func72, Try.ntmps72
    go_wp2
    go_ret
    exact ⟨ret_bool hfin.out.symm, 0, rfl⟩

theorem drew_trans {w wr w2 : World} (h : ∃ q, wr = w.drewN q) (h2 : ∃ q, w2 = wr.drewN q) : ∃ q, w2 = w.drewN q := by
  obtain ⟨q, rfl⟩ := h2
  exact drew_more h q

set_option maxHeartbeats 1000000 in
theorem rlists (A B : Option Addr) (n c m d : Nat) (xs ys : List (List Int)) (b : Bool) (w : World) (hx : Lists w A n xs) (hy : Lists w B m ys) (hb : b = decide (xs = ys)) :
    Calls Try.prog 43 #[.slice A n c, .slice B m d] w fun e w' => e = .returned (.bool b) ∧ ∃ q, w' = w.drewN q := by
  have L1 := Lib.hid hx.1
  have L2 := Lib.hid hy.1
  have hn := hx.2.1
  have hm := hy.2.1
  by_cases hnm : n = m
  · subst hnm
    have HB := Lib.hid hb
    clear hb
    go_enter Try.func43, Try.ntmps43
    go_wp2
    go_loopw [5] (fun i wr => ∃ j : Nat, j ≤ n ∧ i = .int .i64 j ∧ AgreeL [] xs ys j ∧ ∃ q, wr = w.drewN q) (fun i _ => n - (intOf i).toNat)
    case atStart => exact ⟨0, Nat.zero_le _, rfl, AgreeL.zero _ _ _, 0, rfl⟩
    case round =>
      obtain ⟨j, hj, rfl, heq, hw⟩ := hrel
      have hx' : Lists wr A n xs := by obtain ⟨q, rfl⟩ := hw; exact hx
      have hy' : Lists wr B n ys := by obtain ⟨q, rfl⟩ := hw; exact hy
      have HW := Lib.hid hw
      clear hw
      have HE := Lib.hid heq
      clear heq
      by_cases hlt : j < n
      · obtain ⟨g1, o1, A1, n1, c1, rfl, _, hc1, hi1⟩ := hx'.at_ hlt
        obtain ⟨g2, o2, A2, n2, c2, rfl, _, hc2, hi2⟩ := hy'.at_ hlt
        by_cases he : xs.getD j [] = ys.getD j []
        · have hnx := Lib.hid (HE.out.succ he)
          have hd := Lib.hid ((decide_eq_true he).symm)
          clear he
          go_wp2
          go_quiet ((go_at_call 61; exact Calls.quiet_of (rints _ _ _ _ _ _ _ _ _ _ hi1 hi2 hd.out)))
          go_wp2
          go_roundw
          case rel => exact ⟨j + 1, by omega, by go_num, hnx.out, drew_more HW.out _⟩
          case measure => simp [intOf]; omega
        · have hfin : Hid (b = false) := Lib.hid (HB.out.trans (decide_eq_false fun e => he (by rw [e])))
          have hd := Lib.hid ((decide_eq_false he).symm)
          clear he
          go_wp2
          go_quiet ((go_at_call 61; exact Calls.quiet_of (rints _ _ _ _ _ _ _ _ _ _ hi1 hi2 hd.out)))
          go_wp2
          go_ret
          exact ⟨ret_bool hfin.out.symm, by first | exact drew_more HW.out _ | exact HW.out⟩
      · obtain rfl : j = n := by omega
        have hfin : Hid (b = true) := Lib.hid (HB.out.trans (decide_eq_true (HE.out.all L1.out L2.out)))
        go_wp2
        go_ret
        exact ⟨ret_bool hfin.out.symm, by first | exact drew_more HW.out _ | exact HW.out⟩
  · have hfin : Hid (b = false) := Lib.hid (hb.trans (decide_eq_false fun e => hnm (by rw [← L1.out, ← L2.out, e])))
    have hd : ((n : Int) != (m : Int)) = true := by simp; omega
    clear hnm hb
    go_enter Try.func43, Try.ntmps43
    go_wp2
    go_ret
    exact ⟨ret_bool hfin.out.symm, 0, rfl⟩

set_option maxHeartbeats 1000000 in
theorem sequalf (A B : Option Addr) (n c m d : Nat) (xs ys : List (List Int)) (b : Bool) (w : World) (hx : Lists w A n xs) (hy : Lists w B m ys) (hb : b = decide (xs = ys)) :
    Calls Try.prog 71 #[.slice A n c, .slice B m d, .func (.func 72) #[] #[]] w fun e w' => e = .returned (.bool b) ∧ ∃ q, w' = w.drewN q := by
  have L1 := Lib.hid hx.1
  have L2 := Lib.hid hy.1
  have hn := hx.2.1
  have hm := hy.2.1
  by_cases hnm : n = m
  · subst hnm
    have HB := Lib.hid hb
    clear hb
    go_enter Try.func71, Try.ntmps71
    go_wp2
    go_loopw [17] (fun i wr => ∃ j : Nat, j ≤ n ∧ i = .int .i64 j ∧ AgreeL [] xs ys j ∧ ∃ q, wr = w.drewN q) (fun i _ => n - (intOf i).toNat)
    case atStart => exact ⟨0, Nat.zero_le _, rfl, AgreeL.zero _ _ _, 0, rfl⟩
    case round =>
      obtain ⟨j, hj, rfl, heq, hw⟩ := hrel
      have hx' : Lists wr A n xs := by obtain ⟨q, rfl⟩ := hw; exact hx
      have hy' : Lists wr B n ys := by obtain ⟨q, rfl⟩ := hw; exact hy
      have HW := Lib.hid hw
      clear hw
      have HE := Lib.hid heq
      clear heq
      by_cases hlt : j < n
      · obtain ⟨g1, o1, A1, n1, c1, rfl, _, hc1, hi1⟩ := hx'.at_ hlt
        obtain ⟨g2, o2, A2, n2, c2, rfl, _, hc2, hi2⟩ := hy'.at_ hlt
        by_cases he : xs.getD j [] = ys.getD j []
        · have hnx := Lib.hid (HE.out.succ he)
          have hd := Lib.hid ((decide_eq_true he).symm)
          clear he
          go_wp2_with fail
          refine (sequal _ _ _ _ _ _ _ _ _ _ hi1 hi2 hd.out).mono ?_
          rintro e w' ⟨rfl, q, rfl⟩
          go_wp2
          go_roundw
          case rel => exact ⟨j + 1, by omega, by go_num, hnx.out, drew_more HW.out _⟩
          case measure => simp [intOf]; omega
        · have hfin : Hid (b = false) := Lib.hid (HB.out.trans (decide_eq_false fun e => he (by rw [e])))
          have hd := Lib.hid ((decide_eq_false he).symm)
          clear he
          go_wp2_with fail
          refine (sequal _ _ _ _ _ _ _ _ _ _ hi1 hi2 hd.out).mono ?_
          rintro e w' ⟨rfl, q, rfl⟩
          go_wp2
          go_ret
          exact ⟨ret_bool hfin.out.symm, by first | exact drew_more HW.out _ | exact HW.out⟩
      · obtain rfl : j = n := by omega
        have hfin : Hid (b = true) := Lib.hid (HB.out.trans (decide_eq_true (HE.out.all L1.out L2.out)))
        go_wp2
        go_ret
        exact ⟨ret_bool hfin.out.symm, by first | exact drew_more HW.out _ | exact HW.out⟩
  · have hfin : Hid (b = false) := Lib.hid (hb.trans (decide_eq_false fun e => hnm (by rw [← L1.out, ← L2.out, e])))
    have hd : ((n : Int) != (m : Int)) = true := by simp; omega
    clear hnm hb
    go_enter Try.func71, Try.ntmps71
    go_wp2
    go_ret
    exact ⟨ret_bool hfin.out.symm, 0, rfl⟩

set_option maxHeartbeats 1000000 in
theorem pequal (A B : Option Addr) (n c m d : Nat) (xs ys : List (List Int)) (b : Bool) (w : World) (hx : Lists w A n xs) (hy : Lists w B m ys) (hb : b = decide (xs = ys)) :
    Calls Try.prog 54 #[.slice A n c, .slice B m d] w fun e w' => e = .returned (.bool b) ∧ ∃ q, w' = w.drewN q := by
  have HB := Lib.hid hb
  clear hb
  go_enter Try.func54, Try.ntmps54
  go_wp2_with fail
  refine (sequalf _ _ _ _ _ _ _ _ _ _ hx hy HB.out).mono ?_
  rintro e w' ⟨rfl, q, rfl⟩
  go_wp2
  go_ret
  exact ⟨rfl, q, rfl⟩
end Go.Proofs.Ytdedgpgdmnfijaa
end

section
/- Same of two machines by the two texts. -/
namespace Go.Proofs.Ytdedgpgdmnfijaa
open Go.RowKit

set_option maxHeartbeats 1000000 in
set_option maxRecDepth 100000 in
theorem psame (i st i2 st2 : Int) (A B C D : Option Addr) (n c m d p e q f : Nat) (nx ot nx2 ot2 : List (List Int)) (b : Bool) (w : World) (hx : Lists w A n nx) (ho : Lists w B m ot) (hx2 : Lists w C p nx2) (ho2 : Lists w D q ot2)
    (hb : b = decide (i = i2 ∧ st = st2 ∧ nx = nx2 ∧ ot = ot2)) :
    Calls Try.prog 35 #[.agg #[.int .i64 i, .int .i64 st, .slice A n c, .slice B m d], .agg #[.int .i64 i2, .int .i64 st2, .slice C p e, .slice D q f]] w fun e w' => e = .returned (.bool b) ∧ Below w.heap.size w w' := by
  have hb0 := alloc_below w (.cells #[.int .i64 i, .int .i64 st, .slice A n c, .slice B m d] 24)
  have hb1 := bt hb0 (alloc_below (w.alloc (.cells #[.int .i64 i, .int .i64 st, .slice A n c, .slice B m d] 24)) (.cells #[.int .i64 i2, .int .i64 st2, .slice C p e, .slice D q f] 24))
  by_cases h1 : i = i2
  · by_cases h2 : st = st2
    · by_cases h3 : nx = nx2
      · have z1 : (i == i2) = true := by simpa using h1
        have z2 : (st == st2) = true := by simpa using h2
        have H3 := Lib.hid ((decide_eq_true h3).symm)
        have hfin : Hid (b = decide (ot = ot2)) := Lib.hid (by rw [hb, decide_eq_decide]; exact ⟨fun H => H.2.2.2, fun H => ⟨h1, h2, h3, H⟩⟩)
        clear hb h1 h2 h3
        go_enter Try.func35, Try.ntmps35
        go_wp2_with fail
        refine (pequal _ _ _ _ _ _ _ _ _ _ (hx.below hb1) (hx2.below hb1) H3.out).mono ?_
        rintro e w1 ⟨rfl, q1, rfl⟩
        go_wp2_with fail
        refine (pequal _ _ _ _ _ _ _ _ _ _ (ho.below (below_drewN hb1 q1)) (ho2.below (below_drewN hb1 q1)) hfin.out).mono ?_
        rintro e w1 ⟨rfl, q2, rfl⟩
        go_wp2
        go_ret
        exact ⟨rfl, below_drewN hb1 _⟩
      · have z1 : (i == i2) = true := by simpa using h1
        have z2 : (st == st2) = true := by simpa using h2
        have H3 := Lib.hid ((decide_eq_false h3).symm)
        have hfin : Hid (b = false) := Lib.hid (hb.trans (decide_eq_false fun H => h3 H.2.2.1))
        clear hb h1 h2 h3
        go_enter Try.func35, Try.ntmps35
        go_wp2_with fail
        refine (pequal _ _ _ _ _ _ _ _ _ _ (hx.below hb1) (hx2.below hb1) H3.out).mono ?_
        rintro e w1 ⟨rfl, q1, rfl⟩
        go_wp2
        go_ret
        exact ⟨ret_bool hfin.out.symm, below_drewN hb1 q1⟩
    · have z1 : (i == i2) = true := by simpa using h1
      have z2 : (st == st2) = false := by simpa using h2
      have hfin : Hid (b = false) := Lib.hid (hb.trans (decide_eq_false fun H => h2 H.2.1))
      clear hb h1 h2
      go_enter Try.func35, Try.ntmps35
      go_wp2
      go_ret
      exact ⟨ret_bool hfin.out.symm, hb1⟩
  · have z1 : (i == i2) = false := by simpa using h1
    have hfin : Hid (b = false) := Lib.hid (hb.trans (decide_eq_false fun H => h1 H.1))
    clear hb h1
    go_enter Try.func35, Try.ntmps35
    go_wp2
    go_ret
    exact ⟨ret_bool hfin.out.symm, hb1⟩

set_option maxHeartbeats 1000000 in
set_option maxRecDepth 100000 in
theorem rsamem (i st i2 st2 : Int) (A B C D : Option Addr) (n c m d p e q f : Nat) (nx ot nx2 ot2 : List (List Int)) (b : Bool) (w : World) (hx : Lists w A n nx) (ho : Lists w B m ot) (hx2 : Lists w C p nx2) (ho2 : Lists w D q ot2)
    (hb : b = decide (i = i2 ∧ st = st2 ∧ nx = nx2 ∧ ot = ot2)) :
    Calls Try.prog 16 #[.agg #[.int .i64 i, .int .i64 st, .slice A n c, .slice B m d], .agg #[.int .i64 i2, .int .i64 st2, .slice C p e, .slice D q f]] w fun e w' => e = .returned (.bool b) ∧ Below w.heap.size w w' := by
  have hb0 := alloc_below w (.cells #[.int .i64 i, .int .i64 st, .slice A n c, .slice B m d] 24)
  have hb1 := bt hb0 (alloc_below (w.alloc (.cells #[.int .i64 i, .int .i64 st, .slice A n c, .slice B m d] 24)) (.cells #[.int .i64 i2, .int .i64 st2, .slice C p e, .slice D q f] 24))
  by_cases h1 : i = i2
  · by_cases h2 : st = st2
    · by_cases h3 : nx = nx2
      · have z1 : (i == i2) = true := by simpa using h1
        have z2 : (st == st2) = true := by simpa using h2
        have H3 := Lib.hid ((decide_eq_true h3).symm)
        have hfin : Hid (b = decide (ot = ot2)) := Lib.hid (by rw [hb, decide_eq_decide]; exact ⟨fun H => H.2.2.2, fun H => ⟨h1, h2, h3, H⟩⟩)
        clear hb h1 h2 h3
        go_enter Try.func16, Try.ntmps16
        go_wp2_with fail
        refine (rlists _ _ _ _ _ _ _ _ _ _ (hx.below hb1) (hx2.below hb1) H3.out).mono ?_
        rintro e w1 ⟨rfl, q1, rfl⟩
        go_wp2_with fail
        refine (rlists _ _ _ _ _ _ _ _ _ _ (ho.below (below_drewN hb1 q1)) (ho2.below (below_drewN hb1 q1)) hfin.out).mono ?_
        rintro e w1 ⟨rfl, q2, rfl⟩
        go_wp2
        go_ret
        exact ⟨rfl, below_drewN hb1 _⟩
      · have z1 : (i == i2) = true := by simpa using h1
        have z2 : (st == st2) = true := by simpa using h2
        have H3 := Lib.hid ((decide_eq_false h3).symm)
        have hfin : Hid (b = false) := Lib.hid (hb.trans (decide_eq_false fun H => h3 H.2.2.1))
        clear hb h1 h2 h3
        go_enter Try.func16, Try.ntmps16
        go_wp2_with fail
        refine (rlists _ _ _ _ _ _ _ _ _ _ (hx.below hb1) (hx2.below hb1) H3.out).mono ?_
        rintro e w1 ⟨rfl, q1, rfl⟩
        go_wp2
        go_ret
        exact ⟨ret_bool hfin.out.symm, below_drewN hb1 q1⟩
    · have z1 : (i == i2) = true := by simpa using h1
      have z2 : (st == st2) = false := by simpa using h2
      have hfin : Hid (b = false) := Lib.hid (hb.trans (decide_eq_false fun H => h2 H.2.1))
      clear hb h1 h2
      go_enter Try.func16, Try.ntmps16
      go_wp2
      go_ret
      exact ⟨ret_bool hfin.out.symm, hb1⟩
  · have z1 : (i == i2) = false := by simpa using h1
    have hfin : Hid (b = false) := Lib.hid (hb.trans (decide_eq_false fun H => h1 H.1))
    clear hb h1
    go_enter Try.func16, Try.ntmps16
    go_wp2
    go_ret
    exact ⟨ret_bool hfin.out.symm, hb1⟩

end Go.Proofs.Ytdedgpgdmnfijaa
end

section
/- Iso. -/
namespace Go.Proofs.Ytdedgpgdmnfijaa
open Go.RowKit

set_option maxHeartbeats 8000000 in
set_option maxRecDepth 100000 in
theorem piso (i1 st1 i2 st2 : Int) (A B C D : Option Addr) (n c m d n2 c2 m2 d2 : Nat) (nx1 ot1 nx2 ot2 : List (List Int)) (w : World) (hx1 : Lists w A n nx1) (ho1 : Lists w B m ot1) (hx2 : Lists w C n2 nx2) (ho2 : Lists w D m2 ot2) :
    Calls Try.prog 27 #[.agg #[.int .i64 i1, .int .i64 st1, .slice A n c, .slice B m d], .agg #[.int .i64 i2, .int .i64 st2, .slice C n2 c2, .slice D m2 d2]] w fun e w' => ∃ A' c', e = .returned (.tuple #[.slice A' ((ires i1 st1 nx1 ot1 i2 st2 nx2 ot2).1.getD []).length c', .bool (ires i1 st1 nx1 ot1 i2 st2 nx2 ot2).1.isSome, .int .i64 (ires i1 st1 nx1 ot1 i2 st2 nx2 ot2).2]) ∧
      Owned w' w.heap.size (.slice A' ((ires i1 st1 nx1 ot1 i2 st2 nx2 ot2).1.getD []).length c') ((ires i1 st1 nx1 ot1 i2 st2 nx2 ot2).1.getD []) ∧ Below w.heap.size w w' := by
  obtain ⟨hb0, hB1, hB2⟩ := pair_boxes w i1 st1 i2 st2 A B C D n c m d n2 c2 m2 d2
  obtain ⟨w0, hw0⟩ : ∃ w0, w0 = (w.alloc (.cells #[.int .i64 i1, .int .i64 st1, .slice A n c, .slice B m d] 24)).alloc (.cells #[.int .i64 i2, .int .i64 st2, .slice C n2 c2, .slice D m2 d2] 24) := ⟨_, rfl⟩
  rw [← hw0] at hb0 hB1 hB2
  have HW0 := Lib.hid hw0
  have HB1 := Lib.hid hB1
  have HB2 := Lib.hid hB2
  clear hw0 hB1 hB2
  obtain ⟨k0, k1, k2, k3, _⟩ := HB1.out.cells
  obtain ⟨l0, l1, l2, l3, _⟩ := HB2.out.cells
  rw [HW0.out] at k0 k1 k2 k3 l0 l1 l2 l3
  obtain ⟨D0, hD0⟩ : ∃ D0, D0 = ires i1 st1 nx1 ot1 i2 st2 nx2 ot2 := ⟨_, rfl⟩
  rw [← hD0]
  have HD0 := Lib.hid hD0
  clear hD0
  go_enter Try.func27, Try.ntmps27
  go_wp2_with fail
  rw [← HW0.out]
  refine (pchk2 _ _ _ _ _ _ _ _ _ _ _ _ _ _ _ _ _ _ _ _ _ (hx1.below hb0) (ho1.below hb0) (hx2.below hb0) (ho2.below hb0)).mono ?_
  rintro e w1 ⟨rfl, a1⟩
  have hB1 := HB1.out.on9 a1
  have hB2 := HB2.out.on9 a1
  have b1 := bt hb0 a1
  clear hb0 a1 k0 k1 k2 k3 l0 l1 l2 l3
  by_cases h1 : chk2 i1 st1 nx1 ot1 i2 st2 nx2 ot2 = 0
  · have hd : D0 = (if isoC i1.toNat nx1 ot1 st1.toNat nx1.length nx2 ot2 st2.toNat nx2.length then some (isoL (rch nx1 i1.toNat st1.toNat) (rch nx2 i1.toNat st2.toNat) nx1.length) else none, 0) := by rw [HD0.out]; unfold ires; rw [if_pos h1]
    rw [h1]
    obtain ⟨v1, v2, rfl⟩ := chk2_zero h1
    clear HD0 h1
    obtain ⟨i', s', n', rfl, rfl, hM⟩ := vld_zero v1
    obtain ⟨i'', s'', n'', e1, rfl, hN⟩ := vld_zero v2
    obtain rfl : i' = i'' := by omega
    have e1 := hx1.1
    have e2 := ho1.1
    have e3 := hM.nxl
    have e4 := hM.otl
    have e5 := hx2.1
    have e6 := ho2.1
    have e7 := hN.nxl
    have e8 := hN.otl
    obtain rfl : n = n' := by omega
    obtain rfl : n = m := by omega
    obtain rfl : n2 = n'' := by omega
    obtain rfl : n2 = m2 := by omega
    rw [e3, e7] at hd
    simp only [Int.toNat_natCast] at hd
    clear e1 e2 e3 e4 e5 e6 e7 e8 v1 v2
    have HD := Lib.hid hd
    clear hd
    have hn := hx1.2.1
    have hn2 := hM.n2
    have hm2 := hN.n2
    have HX1 := Lib.hid (fun (W : World) (h : Below w1.heap.size w1 W) => (hx1.below b1).below h)
    have HO1 := Lib.hid (fun (W : World) (h : Below w1.heap.size w1 W) => (ho1.below b1).below h)
    have HX2 := Lib.hid (fun (W : World) (h : Below w1.heap.size w1 W) => (hx2.below b1).below h)
    have HO2 := Lib.hid (fun (W : World) (h : Below w1.heap.size w1 W) => (ho2.below b1).below h)
    have HB1 := Lib.hid hB1
    have HB2 := Lib.hid hB2
    have HS := Lib.hid (show ∀ W : World, Below w1.heap.size w1 W → W.cell? ⟨w.heap.size, 0, none⟩ = some (.int .i64 i') ∧ W.cell? ⟨w.heap.size, 1, none⟩ = some (.int .i64 s') ∧ W.cell? ⟨w.heap.size, 2, none⟩ = some (.slice A n c) ∧ W.cell? ⟨w.heap.size, 3, none⟩ = some (.slice B n d) ∧ W.cell? ⟨w.heap.size + 1, 0, none⟩ = some (.int .i64 i') ∧ W.cell? ⟨w.heap.size + 1, 1, none⟩ = some (.int .i64 s'') ∧ W.cell? ⟨w.heap.size + 1, 2, none⟩ = some (.slice C n2 c2) ∧ W.cell? ⟨w.heap.size + 1, 3, none⟩ = some (.slice D n2 d2) from fun W h => by
      obtain ⟨k0, k1, k2, k3, _⟩ := (HB1.out.on9 h).cells
      obtain ⟨l0, l1, l2, l3, _⟩ := (HB2.out.on9 h).cells
      exact ⟨k0, k1, k2, k3, l0, l1, l2, l3⟩)
    have HSZ := Lib.hid b1
    have hbc : Below w1.heap.size w1 w1.drew := (Below.refl _ w1).drew
    clear hB1 hB2 hx1 ho1 hx2 ho2 b1
    go_wp2
    go_region_held3 (fun W => W.cell? ⟨w.heap.size, 0, none⟩ = some (.int .i64 i') ∧ W.cell? ⟨w.heap.size, 1, none⟩ = some (.int .i64 s') ∧ W.cell? ⟨w.heap.size, 2, none⟩ = some (.slice A n c) ∧ W.cell? ⟨w.heap.size, 3, none⟩ = some (.slice B n d) ∧ W.cell? ⟨w.heap.size + 1, 0, none⟩ = some (.int .i64 i') ∧ W.cell? ⟨w.heap.size + 1, 1, none⟩ = some (.int .i64 s'') ∧ W.cell? ⟨w.heap.size + 1, 2, none⟩ = some (.slice C n2 c2) ∧ W.cell? ⟨w.heap.size + 1, 3, none⟩ = some (.slice D n2 d2)) (first | exact HS.out _ hbc) ((go_at_call 50; refine (preach_ok _ _ _ _ _ _ _ _ _ _ (by first | exact HX1.out _ hbc | exact HX2.out _ hbc) (by first | exact HO1.out _ hbc | exact HO2.out _ hbc) (by first | exact hM | exact hN)).mono ?_; first
      | (have hO9 := hOR1; rintro e w' ⟨AR2, cR2, rfl, hOR2, b'⟩; have hOR1 := hOR1.kept b'; have hOR2 := hOR2.lower (base' := w.heap.size) (Nat.le_trans HSZ.out.size hbc.size); have hbc := bt hbc b'; clear hO9)
      | (rintro e w' ⟨AR1, cR1, rfl, hOR1, b'⟩; have hOR1 := hOR1.lower (base' := w.heap.size) (Nat.le_trans HSZ.out.size hbc.size); have hbc := bt hbc b')))
    obtain ⟨w2, hw2⟩ : ∃ w2, w2 = w' := ⟨_, rfl⟩
    rw [← hw2] at hOR1 hOR2 hbc ⊢
    clear hw2
    have hS1 := hM.rch_stt
    have hS2 := hN.rch_stt
    have hT1 := hM.tr
    have hT2 := hN.tr
    obtain ⟨R1, hR1⟩ : ∃ R1, R1 = rch nx1 i' s' := ⟨_, rfl⟩
    obtain ⟨R2, hR2⟩ : ∃ R2, R2 = rch nx2 i' s'' := ⟨_, rfl⟩
    have HD := Lib.hid (show D0 = (if R1.length = n ∧ R2.length = n2 ∧ trN nx1 i' R1 = trN nx2 i' R2 ∧ trO ot1 R1 = trO ot2 R2 then some (isoL R1 R2 n) else none, 0) by rw [hR1, hR2, HD.out]; rfl)
    rw [← hR1] at hOR1 hS1 hT1
    rw [← hR2] at hOR2 hS2 hT2
    rw [← hR1, ← hR2]
    have HR1 := Lib.hid hR1
    have HR2 := Lib.hid hR2
    clear hR1 hR2
    have HOR1 := Lib.hid hOR1
    have HOR2 := Lib.hid hOR2
    have HBC := Lib.hid hbc
    have HS1 := Lib.hid hS1
    have HS2 := Lib.hid hS2
    obtain ⟨k0, k1, k2, k3, l0, l1, l2, l3⟩ := HS.out _ hbc
    have b2 : Below w.heap.size w w2 := HSZ.out.trans (hbc.mono HSZ.out.size)
    clear hOR1 hOR2 hbc hS1 hS2
    by_cases h1 : R1.length = n
    · by_cases h2 : R2.length = n2
      · have hT1 : Mok i' 0 n (trN nx1 i' R1) (trO ot1 R1) := by rw [← h1]; exact hT1
        have hT2 : Mok i' 0 n2 (trN nx2 i' R2) (trO ot2 R2) := by rw [← h2]; exact hT2
        have HL1 := Lib.hid h1
        have HL2 := Lib.hid h2
        have c1 : ((R1.length : Int) != (n : Int)) = false := by rw [h1]; simp
        have c2' : ((R2.length : Int) != (n2 : Int)) = false := by rw [h2]; simp
        clear h1 h2
        go_wp2_with fail
        refine (ptrim_ok _ _ _ _ _ _ _ _ _ _ (HX1.out _ HBC.out) (HO1.out _ HBC.out) hM).mono ?_
        rintro e w3 ⟨A3, c3, B3, d3, rfl, hN3, hO3, a3⟩
        rw [← HR1.out, HL1.out] at hN3 hO3
        rw [← HR1.out, HL1.out]
        have x3 := lists_ownedM hT1 hN3
        have y3 := lists_ownedO hT1 hO3
        have HB3 := Lib.hid (bt HBC.out a3)
        obtain ⟨w4, hw4⟩ : ∃ w4, w4 = w3.alloc (.cells #[.int .i64 i', .int .i64 0, .slice A3 n c3, .slice B3 n d3] 24) := ⟨_, rfl⟩
        have a4 := alloc_below w3 (.cells #[.int .i64 i', .int .i64 0, .slice A3 n c3, .slice B3 n d3] 24)
        have Y4 := mealy_box w3 (.int .i64 i') (.int .i64 0) (.slice A3 n c3) (.slice B3 n d3)
        rw [← hw4] at a4 Y4
        have HB4 := Lib.hid (bt HB3.out a4)
        have HY4 := Lib.hid Y4
        have x4 := x3.below a4
        have y4 := y3.below a4
        have HW4 := Lib.hid hw4
        have H24 := Lib.hid (bt a3 a4)
        have kk := HS.out _ HB4.out
        clear k0 k1 k2 k3 l0 l1 l2 l3 hN3 hO3 x3 y3 a3 a4 Y4 hw4
        obtain ⟨k0, k1, k2, k3, l0, l1, l2, l3⟩ := kk
        rw [HW4.out] at l0 l1 l2 l3
        clear k0 k1 k2 k3
        go_wp2_with fail
        try rw [← HW4.out]
        refine (ptrim_ok _ _ _ _ _ _ _ _ _ _ (HX2.out _ HB4.out) (HO2.out _ HB4.out) hN).mono ?_
        rintro e w5 ⟨A5, c5, B5, d5, rfl, hN5, hO5, a5⟩
        rw [← HR2.out, HL2.out] at hN5 hO5
        rw [← HR2.out, HL2.out]
        have x5 := lists_ownedM hT2 hN5
        have y5 := lists_ownedO hT2 hO5
        have HB5 := Lib.hid (bt HB4.out a5)
        obtain ⟨w6, hw6⟩ : ∃ w6, w6 = w5.alloc (.cells #[.int .i64 i', .int .i64 0, .slice A5 n2 c5, .slice B5 n2 d5] 24) := ⟨_, rfl⟩
        have a6 := alloc_below w5 (.cells #[.int .i64 i', .int .i64 0, .slice A5 n2 c5, .slice B5 n2 d5] 24)
        have Z6 := mealy_box w5 (.int .i64 i') (.int .i64 0) (.slice A5 n2 c5) (.slice B5 n2 d5)
        rw [← hw6] at a6 Z6
        have HW6 := Lib.hid hw6
        have HB6 := Lib.hid (bt HB5.out a6)
        have H26 := Lib.hid (bt H24.out (bt a5 a6))
        have hY6 := HY4.out.on9 (bt a5 a6)
        have x6 := x5.below a6
        have y6 := y5.below a6
        have u6 := x4.below (bt a5 a6)
        have v6 := y4.below (bt a5 a6)
        obtain ⟨k0, k1, k2, k3, _⟩ := hY6.cells
        obtain ⟨z0, z1, z2, z3, _⟩ := Z6.cells
        rw [HW6.out] at k0 k1 k2 k3 z0 z1 z2 z3
        clear l0 l1 l2 l3 hN5 hO5 x5 y5 x4 y4 a5 a6 Z6 hw6 hY6
        go_wp2_with fail
        try rw [← HW6.out]
        refine (psame i' 0 i' 0 A3 B3 A5 B5 n c3 n d3 n2 c5 n2 d5 _ _ _ _ _ _ u6 v6 x6 y6 rfl).mono ?_
        rintro e w7 ⟨rfl, a7⟩
        have HB7 := Lib.hid (bt HB6.out a7)
        have H27 := Lib.hid (bt H26.out a7)
        have b7 : Below w.heap.size w w7 := b2.trans (H27.out.mono b2.size)
        clear k0 k1 k2 k3 z0 z1 z2 z3 u6 v6 x6 y6 a7
        by_cases hs : trN nx1 i' R1 = trN nx2 i' R2 ∧ trO ot1 R1 = trO ot2 R2
        · have HS3 := Lib.hid hs
          rw [decide_eq_true (show (i' : Int) = (i' : Int) ∧ (0 : Int) = 0 ∧ trN nx1 i' R1 = trN nx2 i' R2 ∧ trO ot1 R1 = trO ot2 R2 from ⟨rfl, rfl, hs⟩)]
          have hll := iso_lens hs.1
          have hDD := HD.out
          rw [if_pos ⟨HL1.out, HL2.out, hs⟩] at hDD
          have HDN := Lib.hid hDD
          have hnn : n = n2 := by rw [← HL1.out, ← HL2.out]; exact hll
          have hI1 := Owned.ints (HOR1.out.kept H27.out) (by rw [zs_len, HL1.out]; omega)
          have hI2 := Owned.ints (HOR2.out.kept H27.out) (by rw [zs_len, HL2.out]; omega)
          rw [HL1.out] at hI1
          rw [HL2.out] at hI2
          subst hnn
          have HI1 := Lib.hid hI1
          have HI2 := Lib.hid hI2
          clear hs hll hDD c1 c2' hI1 hI2
          obtain ⟨gt, hgt⟩ : ∃ gt, gt = w7.heap.size := ⟨_, rfl⟩
          have HGT := Lib.hid hgt
          have hgt2 : w.heap.size ≤ gt := by have := b7.size; omega
          clear hgt
          have hl1 : (R1.length : Int) = (n : Int) := by rw [HL1.out]
          go_wp2_with (refine wpList_make_ints _ rfl _ _ rfl .i64 .i64 n rfl rfl hn ?_; intro w8 ho8 b8)
          rw [← HGT.out] at ho8 b8
          try rw [← HGT.out]
          have HO8 := Lib.hid ho8
          have HB8 := Lib.hid b8
          clear ho8 b8
          go_wp2
          go_loopw [60] (fun v wr => ∃ k : Nat, k ≤ n ∧ v = .int .i64 k ∧ Owned wr gt (.slice (some ⟨gt, 0, none⟩) n n) (asgL R1 R2 n k) ∧ Below gt w7 wr) (fun v _ => n - (intOf v).toNat)
          case atStart => exact ⟨0, Nat.zero_le _, rfl, by rw [asgL_zero]; exact HO8.out, HB8.out⟩
          case round =>
            obtain ⟨k, hk, rfl, hOw, hbr⟩ := hrel
            by_cases hkl : k < n
            · have HKL := Lib.hid hkl
              have hset := asgL_set (R1 := R1) (R2 := R2) (n := n) (k := k) HS1.out.1 (by rw [HL1.out]; exact hkl)
              have ht : R1.getD k 0 < n := HS1.out.2 _ (getD_mem0 (by rw [HL1.out]; exact hkl))
              obtain ⟨gA, oA, eA, lA, vA⟩ := HI1.out.at_ hkl
              obtain ⟨gB, oB, eB, lB, vB⟩ := HI2.out.at_ hkl
              subst eA eB
              rw [zs_at] at vA
              rw [zs_at] at vB
              have vA := (hbr.cell (p := ⟨gA, oA + k, none⟩) (by rw [HGT.out]; exact lA)).trans vA
              have vB := (hbr.cell (p := ⟨gB, oB + k, none⟩) (by rw [HGT.out]; exact lB)).trans vB
              generalize R1.getD k 0 = t at hset ht vA
              generalize R2.getD k 0 = u at hset vB
              obtain ⟨bq, oq, eq, _, hcq⟩ := (hOw.ints (by rw [asgL_len]; omega)).at_ ht
              cases eq
              obtain ⟨gq, eg, _, _, hfz⟩ := hOw.head (by omega)
              cases eg
              have hf := hfz t
              rw [Nat.zero_add] at hcq
              have hs1 := hOw.stored t (u : Int)
              rw [hset] at hs1
              have HSS := Lib.hid (And.intro hs1 (hbr.setCell (p := ⟨gt, t, none⟩) (Nat.le_refl _) (.int .i64 u)))
              clear hset hOw hbr hs1 hfz lA lB
              go_wp2
              go_roundw
              case rel => exact ⟨k + 1, HKL.out, by go_num, HSS.out.1, HSS.out.2⟩
              case measure => have := HKL.out; simp [intOf]; omega
            · obtain rfl : k = n := by omega
              have hend := asgL_end (R1 := R1) (R2 := R2) (n := k) (fun s hs => HS1.out.all HL1.out s hs)
              rw [HL1.out] at hend
              rw [hend] at hOw
              have HOW := Lib.hid (hOw.lower (base' := w.heap.size) hgt2)
              have hbb : Below w.heap.size w wr := b7.trans (hbr.mono hgt2)
              clear hOw hend hbr
              go_wp2
              go_ret3
              rw [HDN.out]
              exact ⟨some ⟨gt, 0, none⟩, k, by rw [show ((some (isoL R1 R2 k), (0 : Int)).1.getD []).length = k from isoL_len _ _ _]; rfl, by rw [show ((some (isoL R1 R2 k), (0 : Int)).1.getD []).length = k from isoL_len _ _ _]; exact HOW.out, hbb⟩
        · have hDD := HD.out
          rw [if_neg (fun H => hs H.2.2)] at hDD
          have HD := Lib.hid hDD
          rw [decide_eq_false (fun H => hs H.2.2)]
          clear hs hDD c1 c2'
          go_wp2
          go_ret3
          rw [HD.out]
          exact ⟨none, 0, rfl, World.ownsRow_nil _ _ _ _, b7⟩
      · have hDD := HD.out
        rw [if_neg (fun H => h2 H.2.1)] at hDD
        have HD := Lib.hid hDD
        have c1 : ((R1.length : Int) != (n : Int)) = false := by rw [h1]; simp
        have c2' : ((R2.length : Int) != (n2 : Int)) = true := by rw [bne_iff_ne]; omega
        clear h1 h2 hDD
        go_wp2
        go_ret3
        rw [HD.out]
        exact ⟨none, 0, rfl, World.ownsRow_nil _ _ _ _, b2⟩
    · have hDD := HD.out
      rw [if_neg (fun H => h1 H.1)] at hDD
      have HD := Lib.hid hDD
      have c1 : ((R1.length : Int) != (n : Int)) = true := by rw [bne_iff_ne]; omega
      clear h1 hDD
      go_wp2
      go_ret3
      rw [HD.out]
      exact ⟨none, 0, rfl, World.ownsRow_nil _ _ _ _, b2⟩
  · have hd : D0 = (none, chk2 i1 st1 nx1 ot1 i2 st2 nx2 ot2) := by rw [HD0.out]; unfold ires; rw [if_neg h1]
    have hne : (chk2 i1 st1 nx1 ot1 i2 st2 nx2 ot2 != 0) = true := by simpa using h1
    have HD := Lib.hid hd
    clear hd HD0
    generalize chk2 i1 st1 nx1 ot1 i2 st2 nx2 ot2 = E at hne HD ⊢
    clear h1
    go_wp2
    go_ret3
    rw [HD.out]
    exact ⟨none, 0, rfl, World.ownsRow_nil _ _ _ _, b1⟩
end Go.Proofs.Ytdedgpgdmnfijaa
end

section
/- The reference: Equal. -/
namespace Go.Proofs.Ytdedgpgdmnfijaa
open Go.RowKit

set_option maxHeartbeats 1000000 in
theorem requal (A B : Option Addr) (n c m d : Nat) (xs ys : List Int) (b : Bool) (w : World) (hx : Ints w A n xs) (hy : Ints w B m ys) (hb : b = decide (xs = ys)) :
    Calls Try.prog 24 #[.slice A n c, .slice B m d] w fun e w' => e = .returned (.bool b) ∧ ∃ q, w' = w.drewN q := by
  have L1 := Lib.hid hx.1
  have L2 := Lib.hid hy.1
  have hn := hx.2.1
  have hm := hy.2.1
  by_cases hnm : n = m
  · subst hnm
    have HB := Lib.hid hb
    clear hb
    go_enter Try.func24, Try.ntmps24
    go_wp2
    go_loopw [5] (fun i wr => ∃ j q : Nat, j ≤ n ∧ i = .int .i64 j ∧ AgreeL 0 xs ys j ∧ wr = w.drewN q) (fun i _ => n - (intOf i).toNat)
    case atStart => exact ⟨0, 0, Nat.zero_le _, rfl, AgreeL.zero _ _ _, rfl⟩
    case round =>
      obtain ⟨j, q, hj, rfl, heq, rfl⟩ := hrel
      have HE := Lib.hid heq
      clear heq
      by_cases hlt : j < n
      · obtain ⟨g1, o1, rfl, _, hc1⟩ := hx.at_ hlt
        obtain ⟨g2, o2, rfl, _, hc2⟩ := hy.at_ hlt
        by_cases he : xs.getD j 0 = ys.getD j 0
        · have hnx := Lib.hid (HE.out.succ he)
          rw [← he] at hc2
          generalize xs.getD j 0 = y at hc1 hc2
          clear he
          go_wp2
          go_quiet (fail)
          go_wp2
          go_roundw
          case rel => exact ⟨j + 1, _, by omega, by go_num, hnx.out, rfl⟩
          case measure => simp [intOf]; omega
        · have hfin : Hid (b = false) := Lib.hid (HB.out.trans (decide_eq_false fun e => he (by rw [e])))
          have hne : (xs.getD j 0 != ys.getD j 0) = true := by simpa using he
          generalize xs.getD j 0 = y at hc1 hne
          generalize ys.getD j 0 = z at hc2 hne
          clear he
          go_wp2
          go_quiet (fail)
          go_wp2
          go_ret
          exact ⟨ret_bool hfin.out.symm, by first | exact ⟨_, rfl⟩ | exact ⟨_, World.drewN_drewN _ _ _⟩⟩
      · obtain rfl : j = n := by omega
        have hfin : Hid (b = true) := Lib.hid (HB.out.trans (decide_eq_true (HE.out.all L1.out L2.out)))
        go_wp2
        go_ret
        exact ⟨ret_bool hfin.out.symm, by first | exact ⟨_, rfl⟩ | exact ⟨_, World.drewN_drewN _ _ _⟩⟩
  · have hfin : Hid (b = false) := Lib.hid (hb.trans (decide_eq_false fun e => hnm (by rw [← L1.out, ← L2.out, e])))
    have hd : ((n : Int) != (m : Int)) = true := by simp; omega
    clear hnm hb
    go_enter Try.func24, Try.ntmps24
    go_wp2
    go_ret
    exact ⟨ret_bool hfin.out.symm, 0, rfl⟩

end Go.Proofs.Ytdedgpgdmnfijaa
end

section
/- Rows of headers that a call owns, each with what it reads as; append of headers. -/
namespace Go.Proofs.Ytdedgpgdmnfijaa
open Go.RowKit

/-- A header and the list that it reads as. -/
abbrev HL := Value × List Int
/-- The slice value v is a row of the headers of ps in a block from base on, which the call may write. -/
def HRow (w : World) (base : Nat) (v : Value) (ps : List HL) : Prop := w.ownsRow base 33 1 v ps.length (ps.map Prod.fst) ∧ ∀ p, p ∈ ps → ∃ A n c, p.1 = .slice A n c
/-- The header p reads as its list, in a block below top. -/
def InAt (w : World) (top : Nat) (p : HL) : Prop := ∃ A n c, p.1 = .slice A n c ∧ Ints w A n p.2 ∧ n ≤ c ∧ ∀ a, A = some a → 0 < n → a.block < top
/-- The slice '.slice A n _' holds the headers of ps. -/
def Hds (w : World) (A : Option Addr) (n : Nat) (ps : List HL) : Prop :=
  ps.length = n ∧ n ≤ 17592186044416 ∧ (0 < n → ∃ b off, A = some ⟨b, off, none⟩ ∧ b < w.heap.size ∧ ∀ j p, ps[j]? = some p → w.cell? ⟨b, off + j, none⟩ = some p.1) ∧ ∀ p, p ∈ ps → ∃ A n c, p.1 = .slice A n c

theorem InAt.below {w w' : World} {top : Nat} {p : HL} (h : InAt w top p) (hb : Below w.heap.size w w') : InAt w' top p := by
  obtain ⟨A, n, c, e, hi, hc, ht⟩ := h
  exact ⟨A, n, c, e, hi.below hb, hc, ht⟩
theorem InAt.mono {w : World} {top top' : Nat} {p : HL} (h : InAt w top p) (hb : top ≤ top') : InAt w top' p := by
  obtain ⟨A, n, c, e, hi, hc, ht⟩ := h
  exact ⟨A, n, c, e, hi, hc, fun a ha hn => Nat.lt_of_lt_of_le (ht a ha hn) hb⟩
/-- What lies below top reads as before where what lies there is as before. -/
theorem InAt.on {w w' : World} {top : Nat} {p : HL} (h : InAt w top p) (hb : Below top w w') : InAt w' top p := by
  obtain ⟨A, n, c, e, hi, hnc, ht⟩ := h
  refine ⟨A, n, c, e, ⟨hi.1, hi.2.1, fun hn => ?_⟩, hnc, ht⟩
  obtain ⟨b, off, rfl, hlt, hc⟩ := hi.2.2 hn
  have hbt : b < top := ht _ rfl hn
  refine ⟨b, off, rfl, ?_, fun j hj => (hb.cell (p := ⟨b, off + j, none⟩) hbt).trans (hc j hj)⟩
  have h0 := (hb.cell (p := ⟨b, off + 0, none⟩) hbt).trans (hc 0 hn)
  exact block_lt h0
theorem Hds.below {w w' : World} {A : Option Addr} {n : Nat} {ps : List HL} (h : Hds w A n ps) (hb : Below w.heap.size w w') : Hds w' A n ps :=
  ⟨h.1, h.2.1, fun hn => by
    obtain ⟨b, off, e, hlt, hc⟩ := h.2.2.1 hn
    exact ⟨b, off, e, Nat.lt_of_lt_of_le hlt hb.size, fun j p hp => (hb.cell hlt).trans (hc j p hp)⟩, h.2.2.2⟩
theorem Hds.at_ {w : World} {A : Option Addr} {n : Nat} {ps : List HL} (h : Hds w A n ps) {k : Nat} (hk : k < n) :
    ∃ b off B m d xs, A = some ⟨b, off, none⟩ ∧ b < w.heap.size ∧ ps[k]? = some (.slice B m d, xs) ∧ w.cell? ⟨b, off + k, none⟩ = some (.slice B m d) := by
  obtain ⟨b, off, e, hlt, hc⟩ := h.2.2.1 (by omega)
  have hl := h.1
  have hp : ps[k]? = some ps[k] := List.getElem?_eq_getElem (by omega)
  obtain ⟨B, m, d, e2⟩ := h.2.2.2 ps[k] (List.getElem_mem _)
  refine ⟨b, off, B, m, d, ps[k].2, e, hlt, ?_, ?_⟩
  · rw [hp, ← e2]
  · rw [hc k _ hp, e2]
/-- The slice '.slice A n _' holds the lists xss, none longer than its capacity. -/
def ListsC (w : World) (A : Option Addr) (n : Nat) (xss : List (List Int)) : Prop :=
  xss.length = n ∧ n ≤ 17592186044416 ∧ (0 < n → ∃ b off, A = some ⟨b, off, none⟩ ∧ b < w.heap.size ∧
    ∀ j, j < n → ∃ Aj nj cj, w.cell? ⟨b, off + j, none⟩ = some (.slice Aj nj cj) ∧ nj ≤ cj ∧ Ints w Aj nj (xss.getD j []))
theorem ListsC.lists {w : World} {A : Option Addr} {n : Nat} {xss : List (List Int)} (h : ListsC w A n xss) : Lists w A n xss :=
  ⟨h.1, h.2.1, fun hn => by
    obtain ⟨b, off, e, hlt, hc⟩ := h.2.2 hn
    refine ⟨b, off, e, hlt, fun j hj => ?_⟩
    obtain ⟨Aj, nj, cj, h1, _, h2⟩ := hc j hj
    exact ⟨Aj, nj, cj, h1, h2⟩⟩
theorem ListsC.below {w w' : World} {A : Option Addr} {n : Nat} {xss : List (List Int)} (h : ListsC w A n xss) (hb : Below w.heap.size w w') : ListsC w' A n xss :=
  ⟨h.1, h.2.1, fun hn => by
    obtain ⟨b, off, e, hlt, hc⟩ := h.2.2 hn
    refine ⟨b, off, e, Nat.lt_of_lt_of_le hlt hb.size, fun j hj => ?_⟩
    obtain ⟨Aj, nj, cj, h1, h0, h2⟩ := hc j hj
    exact ⟨Aj, nj, cj, (hb.cell hlt).trans h1, h0, h2.below hb⟩⟩
theorem ListsC.at_ {w : World} {A : Option Addr} {n : Nat} {xss : List (List Int)} (h : ListsC w A n xss) {k : Nat} (hk : k < n) :
    ∃ b off Aj nj cj, A = some ⟨b, off, none⟩ ∧ b < w.heap.size ∧ w.cell? ⟨b, off + k, none⟩ = some (.slice Aj nj cj) ∧ nj ≤ cj ∧ Ints w Aj nj (xss.getD k []) := by
  obtain ⟨b, off, e, hlt, hc⟩ := h.2.2 (by omega)
  obtain ⟨Aj, nj, cj, h1, h0, h2⟩ := hc k hk
  exact ⟨b, off, Aj, nj, cj, e, hlt, h1, h0, h2⟩
theorem ListsC.len {w : World} {A : Option Addr} {n : Nat} {xss : List (List Int)} (h : ListsC w A n xss) : ∀ x, x ∈ xss → x.length ≤ 17592186044416 := fun x hx => by
  obtain ⟨j, hj, rfl⟩ := List.getElem_of_mem hx
  obtain ⟨_, _, Aj, nj, cj, _, _, _, _, hi⟩ := h.at_ (k := j) (by rw [← h.1]; exact hj)
  have e : xss.getD j [] = xss[j] := by rw [List.getD_eq_getElem?_getD, List.getElem?_eq_getElem hj]; rfl
  rw [e] at hi
  rw [hi.1]; exact hi.2.1
/-- The headers of a list of lists. -/
theorem ListsC.hds {w : World} {A : Option Addr} {n : Nat} {xss : List (List Int)} (h : ListsC w A n xss) : ∃ ps : List HL, ps.map Prod.snd = xss ∧ Hds w A n ps ∧ ∀ p, p ∈ ps → InAt w w.heap.size p := by
  rcases Nat.eq_zero_or_pos n with h0 | h0
  · have hx : xss = [] := List.eq_nil_of_length_eq_zero (by rw [h.1, h0])
    subst hx
    exact ⟨[], rfl, ⟨by simp [h0], h.2.1, fun hn => absurd hn (by omega), fun p hp => absurd hp (by simp)⟩, fun p hp => absurd hp (by simp)⟩
  · obtain ⟨b, off, e, hlt, hc⟩ := h.2.2 h0
    have hex : ∀ j, ∃ p : HL, j < n → p.2 = xss.getD j [] ∧ w.cell? ⟨b, off + j, none⟩ = some p.1 ∧ InAt w w.heap.size p := fun j => by
      by_cases hj : j < n
      · obtain ⟨Aj, nj, cj, h1, h0, h2⟩ := hc j hj
        refine ⟨(.slice Aj nj cj, xss.getD j []), fun _ => ⟨rfl, h1, Aj, nj, cj, rfl, h2, h0, fun a ha hn => ?_⟩⟩
        obtain ⟨b', o', e', hlt', _⟩ := h2.2.2 hn
        rw [ha] at e'
        cases e'
        exact hlt'
      · exact ⟨default, fun h => absurd h hj⟩
    have hex2 := hex
    obtain ⟨f, hf⟩ : ∃ f : Nat → HL, ∀ j, j < n → (f j).2 = xss.getD j [] ∧ w.cell? ⟨b, off + j, none⟩ = some (f j).1 ∧ InAt w w.heap.size (f j) :=
      ⟨fun j => Classical.choose (hex2 j), fun j => Classical.choose_spec (hex2 j)⟩
    have hget : ∀ j p, ((List.range n).map f)[j]? = some p → j < n ∧ p = f j := fun j p hp => by
      rw [List.getElem?_map] at hp
      cases hr : (List.range n)[j]? with
      | none => rw [hr] at hp; simp at hp
      | some q =>
        rw [hr] at hp
        have hq := List.getElem?_eq_some_iff.1 hr
        obtain ⟨hq1, hq2⟩ := hq
        simp at hq1 hq2
        subst hq2
        simp at hp
        exact ⟨hq1, hp.symm⟩
    have hmem : ∀ p, p ∈ (List.range n).map f → ∃ j, j < n ∧ p = f j := fun p hp => by
      obtain ⟨j, hj, rfl⟩ := List.mem_map.1 hp
      exact ⟨j, List.mem_range.1 hj, rfl⟩
    refine ⟨(List.range n).map f, ?_, ⟨by simp, h.2.1, fun _ => ⟨b, off, e, hlt, fun j p hp => ?_⟩, fun p hp => ?_⟩, fun p hp => ?_⟩
    · apply List.ext_getElem
      · simp [h.1]
      · intro j h1 h2
        simp at h1
        have := (hf j h1).1
        simp [this, List.getD, List.getElem?_eq_getElem h2]
    · obtain ⟨hj, rfl⟩ := hget j p hp
      exact (hf j hj).2.1
    · obtain ⟨j, hj, rfl⟩ := hmem p hp
      obtain ⟨A, n, c, e, _⟩ := (hf j hj).2.2
      exact ⟨A, n, c, e⟩
    · obtain ⟨j, hj, rfl⟩ := hmem p hp
      exact (hf j hj).2.2

theorem HRow.nil (w : World) (base : Nat) : HRow w base (.slice none 0 0) [] := ⟨World.ownsRow_nil _ _ _ _, fun p hp => absurd hp (by simp)⟩
theorem HRow.form {w : World} {base : Nat} {v : Value} {ps : List HL} (h : HRow w base v ps) : ∃ A c, v = .slice A ps.length c := by
  rcases h.1.2 with ⟨rfl, h0⟩ | ⟨g, cap, cur, rfl, _⟩
  · exact ⟨none, 0, by rw [h0]⟩
  · exact ⟨_, _, rfl⟩
theorem HRow.lt {w : World} {base : Nat} {v : Value} {ps : List HL} (h : HRow w base v ps) : ∀ k, v.ownBlock = some k → base ≤ k ∧ k < w.heap.size := World.ownsRow.lt h.1
theorem HRow.kept {w w' : World} {base : Nat} {v : Value} {ps : List HL} (h : HRow w base v ps) (hb : Below w.heap.size w w') : HRow w' base v ps := by
  refine ⟨⟨h.1.1, ?_⟩, h.2⟩
  rcases h.1.2 with e | ⟨g, cap, cur, hv, hbg, hg, r⟩
  · exact .inl e
  · exact .inr ⟨g, cap, cur, hv, hbg, (hb.block g (heap_lt hg)).trans hg, r⟩
theorem HRow.lower {w : World} {base base' : Nat} {v : Value} {ps : List HL} (h : HRow w base v ps) (hb : base' ≤ base) : HRow w base' v ps := by
  refine ⟨⟨h.1.1, ?_⟩, h.2⟩
  rcases h.1.2 with e | ⟨g, cap, cur, hv, hbg, r⟩
  · exact .inl e
  · exact .inr ⟨g, cap, cur, hv, by omega, r⟩
theorem HRow.hds {w : World} {base : Nat} {A : Option Addr} {n c : Nat} {ps : List HL} (h : HRow w base (.slice A n c) ps) (hm : ps.length ≤ 17592186044416) : Hds w A n ps := by
  have hn : n = ps.length := by obtain ⟨A', c', e⟩ := h.form; cases e; rfl
  subst hn
  refine ⟨rfl, hm, fun h0 => ?_, h.2⟩
  rcases h.1.2 with ⟨e, h1⟩ | ⟨g, cap, cur, e, _, hg, _⟩
  · omega
  · cases e
    refine ⟨g, 0, rfl, heap_lt hg, fun j p hp => ?_⟩
    have hj : j < ps.length := (List.getElem?_eq_some_iff.1 hp).1
    have h3 := World.ownsRow.cellAt h.1 j (by omega)
    rw [Nat.zero_add, h3, List.getElem?_map, hp]; rfl
/-- A row of headers whose rows read as lists is a list of lists. -/
theorem Hds.lists {w : World} {top : Nat} {A : Option Addr} {n : Nat} {ps : List HL} (h : Hds w A n ps) (hi : ∀ p, p ∈ ps → InAt w top p) : ListsC w A n (ps.map Prod.snd) := by
  refine ⟨by rw [List.length_map]; exact h.1, h.2.1, fun h0 => ?_⟩
  obtain ⟨b, off, e, hlt, hc⟩ := h.2.2.1 h0
  refine ⟨b, off, e, hlt, fun j hj => ?_⟩
  have hl := h.1
  have hp : ps[j]? = some ps[j] := List.getElem?_eq_getElem (by omega)
  obtain ⟨B, m, d, e2, h2, h0, _⟩ := hi ps[j] (List.getElem_mem _)
  refine ⟨B, m, d, by rw [hc j _ hp, e2], h0, ?_⟩
  have : (ps.map Prod.snd).getD j [] = ps[j].2 := by rw [List.getD_eq_getElem?_getD, List.getElem?_map, hp]; rfl
  rw [this]; exact h2
theorem Hds.in_at {w : World} {A : Option Addr} {n : Nat} {ps : List HL} (h : Hds w A n ps) {top : Nat} (hi : ∀ p, p ∈ ps → InAt w top p) {k : Nat} (hk : k < n) :
    ∃ b off B m d, A = some ⟨b, off, none⟩ ∧ b < w.heap.size ∧ ps[k]? = some (.slice B m d, (ps.map Prod.snd).getD k []) ∧ w.cell? ⟨b, off + k, none⟩ = some (.slice B m d) ∧ m ≤ d ∧ Ints w B m ((ps.map Prod.snd).getD k []) ∧ InAt w top (.slice B m d, (ps.map Prod.snd).getD k []) := by
  obtain ⟨b, off, B, m, d, xs, e, hlt, hp, hc⟩ := h.at_ hk
  have hx : (ps.map Prod.snd).getD k [] = xs := by rw [List.getD_eq_getElem?_getD, List.getElem?_map, hp]; rfl
  rw [hx]
  have hin := hi _ (List.mem_of_getElem? hp)
  have h3 := hin
  obtain ⟨B', m', d', e2, h2, h0, _⟩ := h3
  cases e2
  exact ⟨b, off, B, m, d, e, hlt, hp, hc, h0, h2, hin⟩

/-- append(v, ys...) of headers onto a row of headers. -/
theorem run_append_heads {w : World} {base : Nat} {v : Value} {ps qs : List HL} {A : Option Addr} {m c : Nat} (h : HRow w base v ps) (hy : Hds w A m qs) (hbase : base ≤ w.heap.size) (hlen : (ps ++ qs).length ≤ 1759218604441) :
    ∃ v' w', (Builtin.append_ #[22, 22] 22 #[v, .slice A m c]).run Try.prog w = .ok v' w' ∧ HRow w' base v' (ps ++ qs) ∧ w.grownBy w' v.ownBlock ∧ Below base w w' := by
  obtain ⟨i, hi, hz0, hz1, hz2⟩ := info_parts infol
  have hsplit : ∀ k, v.ownBlock = some k → base ≤ k := fun k hk => (h.lt k hk).1
  have hforms : ∀ p, p ∈ ps ++ qs → ∃ A n c, p.1 = .slice A n c := fun p hp => by
    rcases List.mem_append.1 hp with hp | hp
    · exact h.2 p hp
    · exact hy.2.2.2 p hp
  rcases Nat.eq_zero_or_pos m with h0 | h0
  · have hys : qs = [] := List.eq_nil_of_length_eq_zero (by rw [hy.1, h0])
    subst h0 hys
    cases A with
    | none =>
      refine ⟨v, w, ?_, by simpa using h, World.grownBy.refl w _, Below.refl _ _⟩
      rcases h.1.2 with ⟨rfl, _⟩ | ⟨g, cap, cur, rfl, _, _, hnc, _⟩
      · simp [Builtin.append_, run_underlying Try.underlying22, sizeOf, typeInfo, hi, Builtin.lenOf, Builtin.firstCells]
      · simp [Builtin.append_, run_underlying Try.underlying22, sizeOf, typeInfo, hi, Builtin.lenOf, Builtin.firstCells, hnc, storeCells]
    | some a =>
      obtain ⟨v', w', hr, h1, h2, _⟩ := run_append_own (P := Try.prog) w base 22 22 33 i (.slice none 0 0) 1 24 Try.underlying22 hi hz0 hz1 hz2 rfl (by decide) v _ _ h.1 a 0 c [] (by simp) (by simp) (by simp)
        (by simp at hlen; unfold maxLen; omega) (by simp at hlen; omega) hbase
      exact ⟨v', w', hr, ⟨by simpa using h1, hforms⟩, h2, (Below.refl _ _).grown h2 hbase hsplit⟩
  · obtain ⟨b, off, rfl, hb, hc⟩ := hy.2.2.1 h0
    have hql := hy.1
    obtain ⟨v', w', hr, h1, h2, _⟩ := run_append_own (P := Try.prog) w base 22 22 33 i (.slice none 0 0) 1 24 Try.underlying22 hi hz0 hz1 hz2 rfl (by decide) v _ _ h.1 ⟨b, off, none⟩ m c (qs.map Prod.fst)
      (by simp [hql])
      (by
        intro j u hu
        rw [List.getElem?_map] at hu
        cases hq : qs[j]? with
        | none => rw [hq] at hu; simp at hu
        | some p =>
          rw [hq] at hu
          simp at hu
          subst hu
          rw [show (⟨b, off, none⟩ : Addr).add j = ⟨b, off + j, none⟩ by unfold Addr.add; split <;> simp_all]
          exact hc j p hq)
      (by
        intro u hu
        obtain ⟨p, hp, rfl⟩ := List.mem_map.1 hu
        obtain ⟨A, n, c, e⟩ := hy.2.2.2 p hp
        rw [e]; rfl)
      (by rw [List.length_append] at hlen; rw [← hql]; unfold maxLen; omega) (by rw [List.length_append] at hlen; rw [← hql]; omega) hbase
    refine ⟨v', w', hr, ⟨?_, hforms⟩, h2, (Below.refl _ _).grown h2 hbase hsplit⟩
    rw [List.length_append, List.map_append, hql]
    exact h1

/-- append(v, x) of one header. -/
theorem run_append_head {w : World} {base : Nat} {v : Value} {ps : List HL} {B : Option Addr} {m d : Nat} (h : HRow w base v ps) (xs : List Int) (hbase : base ≤ w.heap.size) (hl : ps.length < 1759218604441) :
    ∃ A c w', (Builtin.append_ #[22, 22] 22 #[v, .slice (some ⟨w.heap.size, 0, none⟩) 1 1]).run Try.prog (w.alloc (.cells #[.slice B m d] 33)) = .ok (.slice A (ps.length + 1) c) w' ∧
      HRow w' base (.slice A (ps.length + 1) c) (ps ++ [(.slice B m d, xs)]) ∧ w.grownBy w' v.ownBlock ∧ Below base w w' := by
  have hbz := alloc_below w (.cells #[.slice B m d] 33)
  have hd : Hds (w.alloc (.cells #[.slice B m d] 33)) (some ⟨w.heap.size, 0, none⟩) 1 [(.slice B m d, xs)] := by
    refine ⟨rfl, by omega, fun _ => ⟨w.heap.size, 0, rfl, by simp, fun j p hp => ?_⟩, fun p hp => ?_⟩
    · cases j with
      | zero =>
        simp at hp
        subst hp
        have := cell_of_row (w.alloc (.cells #[.slice B m d] 33)) w.heap.size 0 #[.slice B m d] 33 (0, 0) (heap_alloc_new w _)
        rw [Nat.zero_add, this]; rfl
      | succ j => simp at hp
    · simp at hp; subst hp; exact ⟨B, m, d, rfl⟩
  obtain ⟨v', w', hr, h1, h2, h3⟩ := run_append_heads (c := 1) (h.kept hbz) hd (Nat.le_trans hbase hbz.size) (by simp; omega)
  obtain ⟨A, c, e⟩ := h1.form
  rw [List.length_append] at e
  subst e
  refine ⟨A, c, w', hr, h1, ?_, (hbz.mono hbase).trans h3⟩
  exact ⟨h2.os, h2.tape, h2.output, Nat.le_trans hbz.size h2.size, fun k hk hne => (h2.block k (Nat.lt_of_lt_of_le hk hbz.size) hne).trans (hbz.block k hk)⟩
end Go.Proofs.Ytdedgpgdmnfijaa
end
