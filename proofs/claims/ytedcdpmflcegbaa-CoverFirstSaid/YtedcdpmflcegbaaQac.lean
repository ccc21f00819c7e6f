/- Lemmas of the proofs of this seat, of the parts Seek, Expl, Accs, Trnw, Accg, Path, Trkm, Bisp, Trkv, Near, Dstq, Cmpw. Conditions: none. -/
import Derived.Test.YtedcdpmflcegbaaQab
import Derived.BigRegion
import Derived.Deep.RegionHeld3
import Derived.WalkMore
import Derived.Shelf.Abstract
import Derived.Test.YtedcdpmflcegbaaQaa
import Derived.Deep.WholeRow
import Derived.Test.YtedcdpmflcegbaaProg
import Derived.WalkSpells
import Derived.WalkLawsBesides
import Derived.Outline
import Derived.Deep.QuietTactic
import Derived.BigQuiet
section
/- The search for states. -/
namespace Go.Proofs.Ytedcdpmflcegbaa
open Go.RowKit Go.Shelf

theorem run_append_arc {w : World} {base : Nat} {v : Value} {E : List Ent} (h : Rws w base 95 3 v (E.map cellsC)) (e : Ent) (hbase : base ≤ w.heap.size) (hn : E.length < 1099511627776) :
    ∃ A c w1, (Builtin.append_ #[60, 60] 60 #[v, .slice (some ⟨w.heap.size, 0, none⟩) 1 1]).run Try.prog (w.alloc (.cells #[.int .i64 e.p, .int .i64 e.j, .int .i64 e.x] 95)) = .ok (.slice A (E.length + 1) c) w1 ∧
      Rws w1 base 95 3 (.slice A (E.length + 1) c) ((E ++ [e]).map cellsC) ∧ Below base w w1 ∧ ∀ t', t' ≠ 95 → KeptT t' w w1 := by
  obtain ⟨i, hi, hz0, hz1, hz2⟩ := info_parts infoca
  have hl : (E.map cellsC).length = E.length := by simp
  obtain ⟨A, c, w1, h1, h2, h3, h4⟩ := run_append_rws Try.underlying60 hi hz0 hz1 hz2 rfl (by decide) (by decide) h (cellsC e) rfl (fun u hu => by simp [cellsC] at hu; rcases hu with rfl | rfl | rfl <;> rfl) hbase (by rw [hl]; exact hn)
  rw [hl] at h1 h2
  exact ⟨A, c, w1, h1, by rw [List.map_append]; exact h2, h3, h4⟩

theorem ln_one {s : Nat} (w : World) : Ln (w.alloc (.cells (Try.zeroCells70.setIfInBounds s (.bool true)) 70)) w.heap.size (fun a => a == s) := by
  have := heap_alloc_new w (.cells (Try.zeroCells70.setIfInBounds s (.bool true)) 70)
  unfold Ln
  rw [this, ln_zero]
  have e : lnOf (fun _ => false) = List.replicate 128 false := by
    unfold lnOf
    rw [List.map_const', List.length_range]
  have e2 := lnOf_set (fun _ => false) s
  simp only [Bool.false_or] at e2
  rw [← e, ← e2]
  simp [List.map_set]
theorem ln_two {s : Nat} : (fun a => a == s) = fun a => decide (hasE [(⟨s, 0, 0, 0, []⟩ : Ent)] a 0) := by
  have := seenL (E := []) (e := ⟨s, 0, 0, 0, []⟩) s rfl rfl
  rw [List.nil_append] at this
  rw [← this]
  funext a
  simp [hasE]

/-- What the search keeps in memory. -/
structure Fsc (w3 W : World) (b3 gs : Nat) (v : Value) (E : List Ent) : Prop where
  row : Rws W b3 95 3 v (E.map cellsC)
  ln : Ln W gs (fun a => decide (hasE E a 0))
  bel : Below b3 w3 W
section
variable {w3 W W' : World} {b3 gs : Nat} {v : Value} {E : List Ent}
theorem Fsc.on (h : Fsc w3 W b3 gs v E) (hb : Below W.heap.size W W') (hz : b3 ≤ W.heap.size) : Fsc w3 W' b3 gs v E := ⟨h.row.kept hb, h.ln.kept hb, h.bel.trans (hb.mono hz)⟩
theorem Fsc.mark (hr : Rws W b3 95 3 v (E.map cellsC)) (hs : Ln W gs (fun a => decide (hasE E a 0))) (hb : Below b3 w3 W) (hgs : b3 ≤ gs) (e : Ent) (hq : e.q = 0) :
    Rws (W.setCell ⟨gs, e.p, none⟩ (.bool true)) b3 95 3 v (E.map cellsC) ∧ Ln (W.setCell ⟨gs, e.p, none⟩ (.bool true)) gs (fun a => decide (hasE (E ++ [e]) a 0)) ∧ Below b3 w3 (W.setCell ⟨gs, e.p, none⟩ (.bool true)) := by
  refine ⟨hr.keptT (KeptT.off hs (by decide) (.bool true)), ?_, hb.setCell (p := ⟨gs, e.p, none⟩) hgs (.bool true)⟩
  have h1 := hs.set e.p
  rw [seenL e.p rfl hq] at h1
  exact h1
theorem Fsc.push (h : Fsc w3 W b3 gs v E) (hgs : b3 ≤ gs) (hz : b3 ≤ W.heap.size) (e : Ent) (hq : e.q = 0) (hn : E.length < 1099511627776) :
    ∃ A c W1, (Builtin.append_ #[60, 60] 60 #[v, .slice (some ⟨W.heap.size, 0, none⟩) 1 1]).run Try.prog ((W.setCell ⟨gs, e.p, none⟩ (.bool true)).alloc (.cells #[.int .i64 e.p, .int .i64 e.j, .int .i64 e.x] 95)) = .ok (.slice A (E.length + 1) c) W1 ∧
      Fsc w3 W1 b3 gs (.slice A (E.length + 1) c) (E ++ [e]) := by
  obtain ⟨h1, h2, h3⟩ := Fsc.mark h.row h.ln h.bel hgs e hq
  have hz2 : (W.setCell ⟨gs, e.p, none⟩ (.bool true)).heap.size = W.heap.size := by simp
  obtain ⟨A, c, W1, r1, r2, r3, r4⟩ := run_append_arc h1 e (by rw [hz2]; exact hz) hn
  rw [hz2] at r1
  exact ⟨A, c, W1, r1, ⟨r2, h2.keptT (r4 _ (by decide)), h3.trans r3⟩⟩
end

set_option maxHeartbeats 8000000 in
set_option maxRecDepth 100000 in
theorem pseek (f : Nat) (caps : Array Value) (i st n s : Nat) (A B : Option Addr) (c d : Nat) (nx ot : List (List Int)) (w : World) (h : Nat → Nat → Bool) (hx : Lists w A n nx) (hM : Mok i st n nx ot) (hs : s < n)
    (ef : ∀ args w, (callFunc f args).run Try.prog w = .ok (.enter f args) w)
    (hf : ∀ W, Below w.heap.size w W → ∀ p x, p < n → x < i → Calls Try.prog f (#[.int .i64 (p : Int), .int .i64 (x : Int)] ++ caps) W fun e w' => e = .returned (.bool (h p x)) ∧ ∃ q, w' = W.drewN q) :
    Calls Try.prog 55 #[.agg #[.int .i64 i, .int .i64 st, .slice A n c, .slice B n d], .int .i64 s, .func (.func f) #[] caps] w fun e w' => ∃ A' c',
      e = .returned (.tuple #[.slice A' (seekE nx h i n s).1.length c', .bool (seekE nx h i n s).2]) ∧ Rws w' w.heap.size 95 3 (.slice A' (seekE nx h i n s).1.length c') ((seekE nx h i n s).1.map cellsC) ∧ Below w.heap.size w w' := by
  have hn2 := hM.n2
  have hi64 := hM.i2
  have hs8 : s < 128 := by omega
  obtain ⟨R, hR⟩ : ∃ R, R = seekE nx h i n s := ⟨_, rfl⟩
  rw [← hR]
  have HR := Lib.hid (show sk nx h i n [⟨s, 0, 0, 0, []⟩] 0 = R from hR.symm)
  clear hR
  obtain ⟨w1, hw1⟩ : ∃ w1, w1 = w.alloc (.cells #[.int .i64 i, .int .i64 st, .slice A n c, .slice B n d] 24) := ⟨_, rfl⟩
  obtain ⟨w2, hw2⟩ : ∃ w2, w2 = (w1.alloc (.cells #[.int .i64 s, .int .i64 0, .int .i64 0] 95)).alloc (.cells (Try.zeroCells70.setIfInBounds s (.bool true)) 70) := ⟨_, rfl⟩
  have hz1 : w1.heap.size = w.heap.size + 1 := by rw [hw1]; simp
  have hb1 : Below w.heap.size w w1 := by rw [hw1]; exact alloc_below _ _
  obtain ⟨g1, hg1⟩ : ∃ g1, g1 = w.heap.size + 1 := ⟨_, rfl⟩
  obtain ⟨gs, hgs⟩ : ∃ gs, gs = g1 + 1 := ⟨_, rfl⟩
  have hA1 : Mblk w1 w.heap.size (.int .i64 i) (.int .i64 st) (.slice A n c) (.slice B n d) := by
    rw [hw1]
    exact mealy_box w (.int .i64 i) (.int .i64 st) (.slice A n c) (.slice B n d)
  have hF2 : Fsc w1 w2 g1 gs (.slice (some ⟨g1, 0, none⟩) 1 1) [⟨s, 0, 0, 0, []⟩] := by
    refine ⟨?_, ?_, ?_⟩
    · rw [hw2, hg1]
      have := Rws.one w1 (w.heap.size + 1) 95 (cellsC ⟨s, 0, 0, 0, []⟩) (by omega)
      rw [hz1] at this
      exact this.kept (alloc_below _ _)
    · rw [hw2, hgs, hg1]
      have := ln_one (s := s) (w1.alloc (.cells #[.int .i64 s, .int .i64 0, .int .i64 0] 95))
      rw [ln_two] at this
      simpa [hz1] using this
    · rw [hw2, hg1, ← hz1]; exact bt (alloc_below _ _) (alloc_below _ _)
  have HW1 := Lib.hid hw1
  have HW2 := Lib.hid hw2
  have HA1 := Lib.hid hA1
  have HF2 := Lib.hid hF2
  have H1 := Lib.hid hb1
  have HF := Lib.hid hf
  have HGS := Lib.hid hgs
  have HG1 := Lib.hid hg1
  have hzs : Try.zeroCells70.size = 128 := Try.zeroCells70_size
  have hgs1 : g1 ≤ gs := by omega
  have hg1w : w.heap.size + 1 = g1 := by omega
  have hz1' : w1.heap.size = g1 := by omega
  clear hw1 hw2 hA1 hz1 hb1 hgs hg1 hf hF2
  go_enter Try.func55, Try.ntmps55
  go_wp2
  go_step3
  go_wp2
  go_step3
  rw [← HW1.out, ← HW2.out, ← HGS.out]
  go_wp2
  clear hzs HW1 HW2
  go_loopw [8, 10, 11] (fun v8 v10 v11 wr => ∃ (j : Nat) (E : List Ent) (A' : Option Addr) (c' : Nat), v11 = .int .i64 j ∧ v10 = .bool false ∧ v8 = .slice A' E.length c' ∧ j ≤ E.length ∧ Ens n 1 s 0 E ∧ sk nx h i n E j = R ∧ Fsc w1 wr g1 gs (.slice A' E.length c') E) (fun _ _ v11 _ => n - (intOf v11).toNat)
  case atStart => exact ⟨0, [⟨s, 0, 0, 0, []⟩], some ⟨g1, 0, none⟩, 1, rfl, rfl, rfl, Nat.zero_le _, Ens.one hs (by decide), HR.out, HF2.out⟩
  case round =>
    obtain ⟨j, E, A', c', rfl, rfl, rfl, hjl, hE, hS, hF⟩ := hrel
    have HE := Lib.hid hE
    have HS := Lib.hid hS
    have hlen := hE.len
    have hzr : g1 ≤ wr.heap.size := by have := hF.bel.size; omega
    by_cases hlt : j < E.length
    · obtain ⟨g, cg, eA, hg, hCrv⟩ := hF.row.crv (by omega)
      cases eA
      have ha := hCrv.2 j hlt
      have hpq := hE.lt _ (getDE_mem hlt)
      obtain ⟨e, he⟩ : ∃ e, e = E.getD j Ent.zero := ⟨_, rfl⟩
      rw [← he] at ha hpq
      have HEE := Lib.hid he
      obtain ⟨a0, _, _⟩ := ha
      have hp := hpq.1
      obtain ⟨k0, k1, k2, k3, _⟩ := (HA1.out.kept hF.bel (by omega)).cells
      obtain ⟨gA, oA, A1, nA, cA, eA, hgA, hdA, hrA⟩ := hx.at_ hp
      have m1 := hrA.1
      have w1' := (hM.row e.p hp).1
      obtain rfl : i = nA := by omega
      have hbw : Below w.heap.size w wr := H1.out.trans (hF.bel.mono (by omega))
      subst eA
      have hdA := (hbw.cell (p := ⟨gA, oA + e.p, none⟩) hgA).trans hdA
      have HF := Lib.hid hF
      have HRA := Lib.hid hrA
      have HI := Lib.hid (show ∀ x, x ≤ i → Ens n 1 s 0 (addS nx (oneN i) j e E x) by rw [HEE.out]; exact addS_ens hM (one_ok hM) HE.out hlt)
      clear hE hS hF hCrv he hpq m1 w1' hrA hgA
      go_wp2
      go_quiet (fail)
      have bq : Below wr.heap.size wr (wr.drewN nq) := below_drewN (Below.refl _ wr) nq
      have HF3 := Lib.hid (HF.out.on bq hzr)
      generalize wr.drewN nq = w3 at HF3
      clear bq a0 k0 k1 k2 k3 hdA hbw HF hzr hg
      go_wp2
      go_loopw [8, 10, 35] (fun v8 v10 v35 wq => ∃ (x : Nat) (A2 : Option Addr) (c2 : Nat), x ≤ i ∧ v35 = .int .i64 x ∧ v10 = .bool false ∧ v8 = .slice A2 (addS nx (oneN i) j e E x).length c2 ∧ fH h e x = none ∧ Fsc w1 wq g1 gs (.slice A2 (addS nx (oneN i) j e E x).length c2) (addS nx (oneN i) j e E x)) (fun _ _ v35 _ => i - (intOf v35).toNat)
      case atStart => exact ⟨0, _, _, Nat.zero_le _, rfl, rfl, rfl, rfl, HF3.out⟩
      case round =>
        obtain ⟨x, A2, cg, hxl, rfl, rfl, rfl, hfd, hF2⟩ := hrel
        have hE2 := HI.out x hxl
        have hlen2 := hE2.len
        obtain ⟨T, hT⟩ := addS_pre (nx1 := nx) (nx2 := oneN i) j e E x
        have hj2 : j < (addS nx (oneN i) j e E x).length := by rw [hT, List.length_append]; omega
        have he2 : (addS nx (oneN i) j e E x).getD j Ent.zero = e := by rw [hT, getDE_pre hlt]; exact HEE.out.symm
        have HE2 := Lib.hid hE2
        have Hj2 := Lib.hid hj2
        have He2 := Lib.hid he2
        have HFD := Lib.hid hfd
        have HF2 := Lib.hid hF2
        have hzq : g1 ≤ wr.heap.size := by have := hF2.bel.size; omega
        have hbw : Below w.heap.size w wr := H1.out.trans (hF2.bel.mono (by omega))
        clear hE2 hT hfd
        by_cases hxi : x < i
        · obtain ⟨g, c9, eA, hg, hCrv⟩ := hF2.row.crv (by omega)
          cases eA
          obtain ⟨a0, _, _⟩ := hCrv.2 j hj2
          rw [he2] at a0
          obtain ⟨hA2, iA2, eA2, lA, vA⟩ := HRA.out.at_ hxi
          subst eA2
          have rA : (nx.getD e.p []).getD x 0 = ((nN nx e.p x : Nat) : Int) := hM.nN_eq hp hxi
          rw [rA] at vA
          have vA := (hbw.cell (p := ⟨hA2, iA2 + x, none⟩) lA).trans vA
          have hpl := hM.nN_lt hp hxi
          obtain ⟨e', hE'⟩ : ∃ e', e' = nxE nx (oneN i) j e x := ⟨_, rfl⟩
          have f1 : nN nx e.p x = e'.p := by rw [hE']; rfl
          have f2 : e'.q = 0 := by rw [hE']; exact nxE_q hxi
          have f3 : e'.j = j := by rw [hE']; rfl
          have f4 : e'.x = x := by rw [hE']; rfl
          have HST := Lib.hid (show addS nx (oneN i) j e E (x + 1) = addE (addS nx (oneN i) j e E x) e' by rw [hE']; rfl)
          rw [f1] at vA hpl
          obtain ⟨q0, q1⟩ := hF2.ln.at_ (p := e'.p) (by omega)
          have hp8 : e'.p < 128 := by omega
          have HEP := Lib.hid hE'
          have F2 := Lib.hid f2
          have F3 := Lib.hid f3
          have F4 := Lib.hid f4
          have HXI := Lib.hid hxi
          have HCW := Lib.hid (HF.out wr hbw e.p x hp hxi)
          have HBW := Lib.hid hbw
          clear rA lA hE' f1 f2 f3 f4 hF2 hCrv hj2 he2 hg hbw hxl
          by_cases hh : h e.p x = true
          · rw [hh] at HCW
            go_wp2_with (go_at_fn f; fail)
            refine HCW.out.mono ?_
            rintro r w' ⟨rfl, q, rfl⟩
            have bq := below_drewN (Below.refl wr.heap.size wr) q
            have hFq := HF2.out.on bq hzq
            obtain ⟨A5, c5, W5, hr, hF5⟩ := hFq.push hgs1 hzq e' F2.out (by omega)
            rw [F3.out, F4.out] at hr
            have HF5 := Lib.hid hF5
            have q0' := (hFq.ln.at_ hp8).1
            have q1' := (hFq.ln.at_ hp8).2
            have HRR := Lib.hid (show R = (addS nx (oneN i) j e E x ++ [e'], true) by
              rw [← HS.out, sk_hit HE.out hlt (by rw [← HEE.out]; exact fH_hit HFD.out hh HXI.out), ← HEE.out, HEP.out])
            have hr : (Builtin.append_ #[60, 60] 60 #[.slice (some ⟨g, 0, none⟩) (addS nx (oneN i) j e E x).length cg, .slice (some ⟨wr.heap.size, 0, none⟩) 1 1]).run Try.prog _ = _ := hr
            clear hF5 hFq bq a0 vA q0 q1 hh
            go_wp2_with (at_builtin; refine Lib.wpList_append_run _ rfl _ _ _ _ rfl _ _ rfl rfl _ _ hr ?_)
            try rw [Exit.noGoto_ret]
            go_ret2
            have h9 := HF5.out
            have hl9 : (addS nx (oneN i) j e E x ++ [e']).length = (addS nx (oneN i) j e E x).length + 1 := by rw [List.length_append]; rfl
            rw [HRR.out]
            refine ⟨A5, c5, by rw [hl9]; rfl, ?_, H1.out.trans (h9.bel.mono (by omega))⟩
            rw [hl9]
            exact ⟨h9.row.1, h9.row.2.1, h9.row.2.2.imp id (by rintro ⟨g8, c8, r8, a1, a2, a3⟩; exact ⟨g8, c8, r8, a1, by omega, a3⟩)⟩
          · have hhf : h e.p x = false := by simpa using hh
            rw [hhf] at HCW
            have HFN := Lib.hid (fH_step HFD.out hhf)
            clear hh hhf
            by_cases hh : hasE (addS nx (oneN i) j e E x) e'.p e'.q
            · have HAE := Lib.hid (addE_in hh)
              have hh0 := hh
              rw [F2.out] at hh0
              rw [decide_eq_true hh0] at q0
              clear hh hh0
              go_wp2_with (go_at_fn f; fail)
              refine HCW.out.mono ?_
              rintro r w' ⟨rfl, q, rfl⟩
              go_wp2
              go_roundw
              case rel => exact ⟨x + 1, some ⟨g, 0, none⟩, cg, HXI.out, by go_num, rfl, by rw [HST.out, HAE.out], HFN.out, by rw [HST.out, HAE.out]; exact HF2.out.on (below_drewN (Below.refl _ wr) _) hzq⟩
              case measure => have := HXI.out; simp [intOf]; omega
            · have HAE := Lib.hid (addE_out hh)
              have hh0 := hh
              rw [F2.out] at hh0
              rw [decide_eq_false hh0] at q0
              clear hh hh0
              go_wp2_with (go_at_fn f; fail)
              refine HCW.out.mono ?_
              rintro r w' ⟨rfl, q, rfl⟩
              have bq := below_drewN (Below.refl wr.heap.size wr) q
              have hFq := HF2.out.on bq hzq
              obtain ⟨A5, c5, W5, hr, hF5⟩ := hFq.push hgs1 hzq e' F2.out (by omega)
              rw [F3.out, F4.out] at hr
              have HF5 := Lib.hid hF5
              have hr : (Builtin.append_ #[60, 60] 60 #[.slice (some ⟨g, 0, none⟩) (addS nx (oneN i) j e E x).length cg, .slice (some ⟨wr.heap.size, 0, none⟩) 1 1]).run Try.prog _ = _ := hr
              have HL5 := Lib.hid (show (addS nx (oneN i) j e E (x + 1)).length = (addS nx (oneN i) j e E x).length + 1 by rw [HST.out, HAE.out, List.length_append]; rfl)
              clear hF5 hFq bq a0 vA
              go_wp2_with (at_builtin; refine Lib.wpList_append_run _ rfl _ _ _ _ rfl _ _ rfl rfl _ _ hr ?_)
              go_roundw
              case rel => exact ⟨x + 1, A5, c5, HXI.out, by go_num, rfl, by rw [HL5.out], HFN.out, by rw [HL5.out, HST.out, HAE.out]; exact HF5.out⟩
              case measure => have := HXI.out; simp [intOf]; omega
        · have hxe : x = i := by omega
          have HXE := Lib.hid hxe
          have HON := Lib.hid (show sk nx h i n (addS nx (oneN i) j e E i) (j + 1) = R by
            have h1 := HFD.out
            rw [hxe, HEE.out] at h1
            have h2 := sk_on hM HE.out hlt h1
            rw [← HEE.out] at h2
            rw [h2, HS.out])
          have HJ2 := Lib.hid (show j + 1 ≤ (addS nx (oneN i) j e E x).length by have := Hj2.out; omega)
          clear hxe
          go_wp2
          go_roundw
          case rel =>
            have h1 := HF2.out
            have h2 := HE2.out
            have h3 := HJ2.out
            rw [HXE.out] at h1 h2 h3 ⊢
            exact ⟨j + 1, addS nx (oneN i) j e E i, A2, cg, by go_num, rfl, rfl, h3, h2, HON.out, h1⟩
          case measure => simp [intOf]; omega
    · have hRR : R = (E, false) := by rw [← HS.out, sk_end hlt]
      have HRR := Lib.hid hRR
      clear hRR
      go_wp2
      try rw [Exit.noGoto_ret]
      go_ret2
      rw [HRR.out]
      have h9 := hF
      exact ⟨A', c', rfl, ⟨h9.row.1, h9.row.2.1, h9.row.2.2.imp id (by rintro ⟨g8, c8, r8, a1, a2, a3⟩; exact ⟨g8, c8, r8, a1, by omega, a3⟩)⟩, H1.out.trans (h9.bel.mono (by omega))⟩
end Go.Proofs.Ytedcdpmflcegbaa
end

section
/- Explore, and the states and words that it finds. -/
namespace Go.Proofs.Ytedcdpmflcegbaa
open Go.RowKit Go.Shelf

theorem entX : ∀ args w, (callFunc 56 args).run Try.prog w = .ok (.enter 56 args) w := enters_of Try.func56 (by kernel_rfl) rfl
theorem pexp1 (p x : Nat) (W : World) : Calls Try.prog 56 #[.int .i64 (p : Int), .int .i64 (x : Int)] W fun e w' => e = .returned (.bool false) ∧ ∃ q, w' = W.drewN q := by
  go_enter Try.func56, Try.ntmps56
  go_wp2
  go_ret
  exact ⟨rfl, by first | exact ⟨0, rfl⟩ | exact ⟨_, rfl⟩⟩

set_option maxHeartbeats 4000000 in
theorem pexplore (i st n s : Nat) (A B : Option Addr) (c d : Nat) (nx ot : List (List Int)) (w : World) (hx : Lists w A n nx) (hM : Mok i st n nx ot) (hs : s < n) :
    Calls Try.prog 30 #[.agg #[.int .i64 i, .int .i64 st, .slice A n c, .slice B n d], .int .i64 s] w fun e w' => ∃ A' c',
      e = .returned (.slice A' (exs nx i n s).length c') ∧ Rws w' w.heap.size 95 3 (.slice A' (exs nx i n s).length c') ((exs nx i n s).map cellsC) ∧ Below w.heap.size w w' := by
  have hb0 := alloc_below w (.cells #[.int .i64 i, .int .i64 st, .slice A n c, .slice B n d] 24)
  obtain ⟨k0, k1, k2, k3, _⟩ := (mealy_box w (.int .i64 i) (.int .i64 st) (.slice A n c) (.slice B n d)).cells
  have hsk := pseek 56 #[] i st n s A B c d nx ot _ (fun _ _ => false) (hx.below hb0) hM hs entX (fun W _ p x _ _ => pexp1 p x W)
  rw [seekE_off hM hs] at hsk
  have HSK := Lib.hid hsk
  clear hsk
  go_enter Try.func30, Try.ntmps30
  go_wp2_with fail
  refine HSK.out.mono ?_
  rintro e w1 ⟨A', c', rfl, hR, hb⟩
  have HR := Lib.hid hR
  have HB := Lib.hid (bt hb0 hb)
  clear hR hb
  go_wp2
  go_ret
  exact ⟨A', c', rfl, ⟨HR.out.1, HR.out.2.1, HR.out.2.2.imp id (by rintro ⟨g8, c8, r8, a1, a2, a3⟩; exact ⟨g8, c8, r8, a1, by simp at a2; omega, a3⟩)⟩, HB.out⟩

set_option maxHeartbeats 4000000 in
theorem pstates (g c : Nat) (E : List Ent) (w : World) (hR : Crv w g E) (hl : E.length ≤ 1048576) :
    Calls Try.prog 32 #[.slice (some ⟨g, 0, none⟩) E.length c] w fun e w' => ∃ A' c', e = .returned (.slice A' E.length c') ∧ Owned w' w.heap.size (.slice A' E.length c') (E.map fun y => (y.p : Int)) ∧ Below w.heap.size w w' := by
  have HR := Lib.hid hR
  clear hR
  go_enter Try.func32, Try.ntmps32
  go_wp2
  go_loopw [3, 8] (fun v3 v8 wr => ∃ (j : Nat) (A2 : Option Addr) (c2 : Nat), j ≤ E.length ∧ v8 = .int .i64 j ∧ v3 = .slice A2 j c2 ∧ Owned wr w.heap.size (.slice A2 j c2) ((E.take j).map fun y => (y.p : Int)) ∧ Below w.heap.size w wr) (fun _ v8 _ => E.length - (intOf v8).toNat)
  case atStart => exact ⟨0, none, 0, Nat.zero_le _, rfl, rfl, World.ownsRow_nil _ _ _ _, Below.refl _ _⟩
  case round =>
    obtain ⟨j, A2, c2, hj, rfl, rfl, hO, hb⟩ := hrel
    by_cases hlt : j < E.length
    · obtain ⟨a0, a1, a2⟩ := (HR.out.below hb).2 j hlt
      have hnx : (E.take (j + 1)).map (fun y => (y.p : Int)) = (E.take j).map (fun y => (y.p : Int)) ++ [((E.getD j Ent.zero).p : Int)] := by
        rw [List.take_succ_eq_append_getElem hlt, List.map_append, getDE_get hlt]; rfl
      have HNX := Lib.hid hnx
      generalize (E.getD j Ent.zero).p = p at a0 HNX
      generalize (E.getD j Ent.zero).j = p1 at a1
      generalize (E.getD j Ent.zero).x = p2 at a2
      have hb9 := alloc_below wr (.cells #[.int .i64 p, .int .i64 p1, .int .i64 p2] 95)
      have hlj : ((E.take j).map fun y => (y.p : Int)).length = j := by rw [List.length_map, List.length_take]; omega
      obtain ⟨A3, c3, w3, hr, hO3, hb3, _⟩ := run_append_one (hO.kept hb9) (p : Int) (Nat.le_trans hb.size hb9.size) (by omega)
      rw [hlj] at hr hO3
      have HO3 := Lib.hid hO3
      have HB3 := Lib.hid ((hb.trans (hb9.mono hb.size)).trans hb3)
      have hz9 : (wr.alloc (.cells #[.int .i64 p, .int .i64 p1, .int .i64 p2] 95)).heap.size = wr.heap.size + 1 := by simp
      rw [hz9] at hr
      clear hnx hb9 hO3 hb3 hb hO hlj hz9
      go_wp2_with (at_builtin; refine Lib.wpList_append_run _ rfl _ _ _ _ rfl _ _ rfl rfl _ _ hr ?_)
      clear hr a0 a1 a2
      go_wp2
      go_roundw
      case rel => exact ⟨j + 1, A3, c3, by omega, by go_num, rfl, by rw [HNX.out]; exact HO3.out, HB3.out⟩
      case measure => simp [intOf]; omega
    · obtain rfl : j = E.length := by omega
      rw [List.take_of_length_le (Nat.le_refl _)] at hO
      have HO := Lib.hid hO
      clear hO
      go_wp2
      go_ret
      exact ⟨A2, c2, rfl, HO.out, hb⟩
end Go.Proofs.Ytedcdpmflcegbaa
end

section
/- Access, StateCover, Transitions. -/
namespace Go.Proofs.Ytedcdpmflcegbaa
open Go.RowKit Go.Shelf

def psL (E : List Ent) : List Int := E.map fun y => (y.p : Int)
def wsL (E : List Ent) : List (List Int) := E.map Ent.w
theorem psL_len (E : List Ent) : (psL E).length = E.length := by simp [psL]
theorem wsL_len (E : List Ent) : (wsL E).length = E.length := by simp [wsL]
theorem wsL_take {E : List Ent} {k : Nat} (hk : k < E.length) : wsL (E.take (k + 1)) = wsL (E.take k) ++ [(E.getD k Ent.zero).w] := by
  unfold wsL
  rw [List.take_succ_eq_append_getElem hk, List.map_append, getDE_get hk]; rfl

set_option maxHeartbeats 4000000 in
theorem pacc_bad (i st : Int) (A B : Option Addr) (n c m d : Nat) (nx ot : List (List Int)) (w : World) (hx : Lists w A n nx) (ho : Lists w B m ot) (hv : ¬ vld i st nx ot = 0) :
    Calls Try.prog 11 #[.agg #[.int .i64 i, .int .i64 st, .slice A n c, .slice B m d]] w fun e w' => e = .returned (.tuple #[.slice none 0 0, .slice none 0 0, .int .i64 (vld i st nx ot)]) ∧ Below w.heap.size w w' := by
  have hb0 := alloc_below w (.cells #[.int .i64 i, .int .i64 st, .slice A n c, .slice B m d] 24)
  have hne : (vld i st nx ot != 0) = true := by simpa using hv
  obtain ⟨E, hE⟩ : ∃ E, E = vld i st nx ot := ⟨_, rfl⟩
  rw [← hE] at hne ⊢
  have HE := Lib.hid hE
  clear hE
  go_enter Try.func11, Try.ntmps11
  go_wp2_with fail
  refine (pvalid _ _ _ _ _ _ _ _ _ _ _ (hx.below hb0) (ho.below hb0)).mono ?_
  rintro e w1 ⟨rfl, b1⟩
  rw [← HE.out]
  clear hv
  go_wp2
  go_ret3
  exact ⟨rfl, bt hb0 b1⟩

set_option maxHeartbeats 4000000 in
set_option maxRecDepth 100000 in
theorem pacc_ok (i st n : Nat) (A B : Option Addr) (c d : Nat) (nx ot : List (List Int)) (w : World) (hx : Lists w A n nx) (ho : Lists w B n ot) (hM : Mok i st n nx ot) :
    Calls Try.prog 11 #[.agg #[.int .i64 i, .int .i64 st, .slice A n c, .slice B n d]] w fun e w' => ∃ A1 c1 A2 c2, e = .returned (.tuple #[.slice A1 (exs nx i n st).length c1, .slice A2 (exs nx i n st).length c2, .int .i64 0]) ∧
      Owned w' w.heap.size (.slice A1 (exs nx i n st).length c1) (psL (exs nx i n st)) ∧ OwnedL w' w.heap.size (.slice A2 (exs nx i n st).length c2) (wsL (exs nx i n st)) ∧ Below w.heap.size w w' := by
  have hst := hM.st
  have hn2 := hM.n2
  have hv := hM.vld
  have hE := exs_ens (i := i) hM hst
  have hEl := hE.len
  have hch := hE.chn
  obtain ⟨E, hEE⟩ : ∃ E, E = exs nx i n st := ⟨_, rfl⟩
  have HEX := Lib.hid (fun (W : World) (h : Lists W A n nx) => pexplore i st n st A B c d nx ot W h hM hst)
  rw [← hEE] at hE hEl hch HEX ⊢
  clear hEE hE
  have hb0 := alloc_below w (.cells #[.int .i64 i, .int .i64 st, .slice A n c, .slice B n d] 24)
  have hB := mealy_box w (.int .i64 i) (.int .i64 st) (.slice A n c) (.slice B n d)
  have HCH := Lib.hid hch
  have hne := hch.ne
  clear hch
  go_enter Try.func11, Try.ntmps11
  go_wp2_with fail
  refine (pvalid _ _ _ _ _ _ _ _ _ _ _ (hx.below hb0) (ho.below hb0)).mono ?_
  rintro e w1 ⟨rfl, a1⟩
  have hB1 := hB.kept a1 (by simp)
  have b1 := bt hb0 a1
  obtain ⟨k0, k1, k2, k3, _⟩ := hB1.cells
  have HB1 := Lib.hid b1
  rw [hv]
  clear hB hb0 a1 hB1 b1
  go_wp2_with fail
  refine (HEX.out w1 (hx.below HB1.out)).mono ?_
  rintro e w2 ⟨A', c', rfl, hR, hb⟩
  obtain ⟨g, cg, eA, hg, _⟩ := hR.crv hne
  cases eA
  have HC := Lib.hid hR
  have HB2 := Lib.hid (bt HB1.out hb)
  clear hR hb k0 k1 k2 k3
  go_wp2
  go_loopw [7, 20] (fun v7 v20 wr => ∃ (j : Nat) (A2 : Option Addr) (c2 : Nat), j ≤ E.length ∧ v20 = .int .i64 j ∧ v7 = .slice A2 j c2 ∧ OwnedL wr w.heap.size (.slice A2 j c2) (wsL (E.take j)) ∧ Rws wr w1.heap.size 95 3 (.slice (some ⟨g, 0, none⟩) E.length c') (E.map cellsC) ∧ Below w.heap.size w wr) (fun _ v20 _ => E.length - (intOf v20).toNat)
  case atStart => exact ⟨0, none, 0, Nat.zero_le _, rfl, rfl, OwnedL.nil _ _, HC.out, HB2.out⟩
  case round =>
    obtain ⟨j, A2, c2, hj, rfl, rfl, hO, hC, hb⟩ := hrel
    obtain ⟨g', cg', eA, hg, hCr⟩ := hC.crv hne
    cases eA
    by_cases hlt : j < E.length
    · have hpw := Lib.hid (pword g c' j E wr hCr HCH.out hlt (by omega))
      have HNX := Lib.hid (wsL_take hlt)
      have hlj : (wsL (E.take j)).length = j := by rw [wsL_len, List.length_take]; omega
      have HC := Lib.hid hC
      have HO := Lib.hid hO
      have HB := Lib.hid hb
      generalize (E.getD j Ent.zero).w = u at hpw HNX
      clear hC hO hb hCr
      go_wp2_with fail
      refine hpw.out.mono ?_
      rintro e w3 ⟨A4, c4, rfl, hO4, hb4⟩
      have hb5 := HB.out.trans (hb4.mono HB.out.size)
      have hO5 := HO.out.kept hb4
      obtain ⟨A3, c3, w5, hr, hO3, hb3, hk3, _, _⟩ := run_append_list hO5 (hO4.lower HB.out.size) hb5.size (by omega)
      rw [hlj] at hr hO3
      have HO3 := Lib.hid hO3
      have HB3 := Lib.hid (hb5.trans hb3)
      have HC3 := Lib.hid ((HC.out.kept hb4).keptT (hk3 _ (by decide)))
      clear hlj hO3 hb3 hb5 hO5 hO4 hb4 hk3
      go_wp2_with (at_builtin; refine Lib.wpList_append_run _ rfl _ _ _ _ rfl _ _ rfl rfl _ _ hr ?_)
      clear hr
      go_wp2
      go_roundw
      case rel => exact ⟨j + 1, A3, c3, by omega, by go_num, rfl, by rw [HNX.out]; exact HO3.out, HC3.out, HB3.out⟩
      case measure => simp [intOf]; omega
    · obtain rfl : j = E.length := by omega
      rw [List.take_of_length_le (Nat.le_refl _)] at hO
      have HO := Lib.hid hO
      have hps := Lib.hid (pstates g c' E wr hCr (by omega))
      have HB := Lib.hid hb
      clear hO hC hb hCr
      go_wp2_with fail
      refine hps.out.mono ?_
      rintro e w3 ⟨A4, c4, rfl, hO4, hb4⟩
      have HO4 := Lib.hid hO4
      have HB4 := Lib.hid hb4
      clear hO4 hb4
      go_wp2
      go_ret3
      exact ⟨A4, c4, A2, c2, rfl, HO4.out.lower HB.out.size, HO.out.kept HB4.out, HB.out.trans (HB4.out.mono HB.out.size)⟩
end Go.Proofs.Ytedcdpmflcegbaa
end

section
/- Join of two words; transitions. -/
namespace Go.Proofs.Ytedcdpmflcegbaa
open Go.RowKit Go.Shelf

/-- A list of two lists, as a literal makes it. -/
theorem Lists.twoc (w : World) (A B : Option Addr) (n c m d : Nat) (xs ys : List Int) (h : Ints w A n xs) (k : Ints w B m ys) :
    Lists (w.alloc (.cells #[.slice A n c, .slice B m d] 27)) (some ⟨w.heap.size, 0, none⟩) 2 [xs, ys] := by
  have hb := alloc_below w (.cells #[.slice A n c, .slice B m d] 27)
  refine ⟨rfl, by omega, fun _ => ⟨w.heap.size, 0, rfl, by simp, fun j hj => ?_⟩⟩
  have hc := cell_of_row (w.alloc (.cells #[.slice A n c, .slice B m d] 27)) w.heap.size j #[.slice A n c, .slice B m d] 27 (0, 0) (heap_alloc_new w _)
  rw [Nat.zero_add, hc]
  match j, hj with
  | 0, _ => exact ⟨A, n, c, rfl, h.below hb⟩
  | 1, _ => exact ⟨B, m, d, rfl, k.below hb⟩
/-- Join of two words. -/
theorem wjoin2c (A B : Option Addr) (n c m d : Nat) (xs ys : List Int) (w : World) (h : Ints w A n xs) (k : Ints w B m ys) (hl : n + m ≤ 17592186044416) :
    Calls Try.prog 35 #[.slice (some ⟨w.heap.size, 0, none⟩) 2 2] (w.alloc (.cells #[.slice A n c, .slice B m d] 27)) fun e w' => ∃ A' c', e = .returned (.slice A' (n + m) c') ∧ Owned w' w.heap.size (.slice A' (n + m) c') (xs ++ ys) ∧ Below w.heap.size w w' := by
  refine (wjoin _ _ _ [xs, ys] _ (Lists.twoc w A B n c m d xs ys h k) (by simp; rw [h.1, k.1]; exact hl)).mono ?_
  rintro e w' ⟨v, rfl, hv, hb⟩
  rw [show ([xs, ys] : List (List Int)).flatten = xs ++ ys by simp] at hv
  obtain ⟨A', c', e⟩ := hv.form
  rw [List.length_append, h.1, k.1] at e
  subst e
  exact ⟨A', c', rfl, hv.lower (by simp), (alloc_below w _).trans (hb.mono (by simp))⟩

/-- The words of the transitions from a list of words. -/
def trW (i : Nat) (us : List (List Int)) : List (List Int) := us.flatMap fun u => (List.range i).map fun (x : Nat) => u ++ [(x : Int)]
theorem trW_len (i : Nat) : ∀ us, (trW i us).length = us.length * i
  | [] => by simp [trW]
  | u :: us => by
    have := trW_len i us
    unfold trW at this ⊢
    rw [List.flatMap_cons, List.length_append, this, List.length_map, List.length_range, List.length_cons, Nat.add_mul]; omega
theorem trW_snoc (i : Nat) (us : List (List Int)) (u : List Int) : trW i (us ++ [u]) = trW i us ++ (List.range i).map fun (x : Nat) => u ++ [(x : Int)] := by
  unfold trW
  rw [List.flatMap_append]
  simp

theorem pscov_bad (i st : Int) (A B : Option Addr) (n c m d : Nat) (nx ot : List (List Int)) (w : World) (hx : Lists w A n nx) (ho : Lists w B m ot) (hv : ¬ vld i st nx ot = 0) :
    Calls Try.prog 13 #[.agg #[.int .i64 i, .int .i64 st, .slice A n c, .slice B m d]] w fun e w' => e = .returned (.tuple #[.slice none 0 0, .int .i64 (vld i st nx ot)]) ∧ Below w.heap.size w w' := by
  have hb0 := alloc_below w (.cells #[.int .i64 i, .int .i64 st, .slice A n c, .slice B m d] 24)
  obtain ⟨E, hE⟩ : ∃ E, E = vld i st nx ot := ⟨_, rfl⟩
  rw [← hE]
  have HE := Lib.hid hE
  have HV := Lib.hid hv
  clear hE hv
  go_enter Try.func13, Try.ntmps13
  go_wp2_with fail
  refine (pacc_bad _ _ _ _ _ _ _ _ _ _ _ (hx.below hb0) (ho.below hb0) HV.out).mono ?_
  rintro e w1 ⟨rfl, b1⟩
  rw [← HE.out]
  go_wp2
  go_ret2
  exact ⟨rfl, bt hb0 b1⟩
theorem pscov_ok (i st n : Nat) (A B : Option Addr) (c d : Nat) (nx ot : List (List Int)) (w : World) (hx : Lists w A n nx) (ho : Lists w B n ot) (hM : Mok i st n nx ot) :
    Calls Try.prog 13 #[.agg #[.int .i64 i, .int .i64 st, .slice A n c, .slice B n d]] w fun e w' => ∃ A2 c2, e = .returned (.tuple #[.slice A2 (exs nx i n st).length c2, .int .i64 0]) ∧
      OwnedL w' w.heap.size (.slice A2 (exs nx i n st).length c2) (wsL (exs nx i n st)) ∧ Below w.heap.size w w' := by
  have hb0 := alloc_below w (.cells #[.int .i64 i, .int .i64 st, .slice A n c, .slice B n d] 24)
  go_enter Try.func13, Try.ntmps13
  go_wp2_with fail
  refine (pacc_ok _ _ _ _ _ _ _ _ _ _ (hx.below hb0) (ho.below hb0) hM).mono ?_
  rintro e w1 ⟨A1, c1, A2, c2, rfl, _, hL, b1⟩
  have HL := Lib.hid hL
  clear hL
  go_wp2
  go_ret2
  exact ⟨A2, c2, rfl, HL.out.lower (by simp), bt hb0 b1⟩

set_option maxHeartbeats 4000000 in
set_option maxRecDepth 100000 in
theorem ptrans_ok (i st n : Nat) (A B : Option Addr) (c d : Nat) (nx ot : List (List Int)) (w : World) (hx : Lists w A n nx) (ho : Lists w B n ot) (hM : Mok i st n nx ot) :
    Calls Try.prog 15 #[.agg #[.int .i64 i, .int .i64 st, .slice A n c, .slice B n d]] w fun e w' => ∃ A2 c2, e = .returned (.tuple #[.slice A2 ((exs nx i n st).length * i) c2, .int .i64 0]) ∧
      OwnedL w' w.heap.size (.slice A2 ((exs nx i n st).length * i) c2) (trW i (wsL (exs nx i n st))) ∧ Below w.heap.size w w' := by
  have hn2 := hM.n2
  have hi64 := hM.i2
  have hE := exs_ens (i := i) hM hM.st
  have hEl := hE.len
  have hch := hE.chn
  have hb0 := alloc_below w (.cells #[.int .i64 i, .int .i64 st, .slice A n c, .slice B n d] 24)
  have hB := mealy_box w (.int .i64 i) (.int .i64 st) (.slice A n c) (.slice B n d)
  have hsc := pscov_ok i st n A B c d nx ot _ (hx.below hb0) (ho.below hb0) hM
  generalize exs nx i n st = E at hE hEl hch hsc ⊢
  have HSC := Lib.hid hsc
  have HCH := Lib.hid hch
  clear hsc hE hch
  go_enter Try.func15, Try.ntmps15
  go_wp2_with fail
  refine HSC.out.mono ?_
  rintro e w1 ⟨A1, c1, rfl, hL, b1⟩
  have hB1 := hB.kept b1 (by simp)
  have hgt : w.heap.size < w1.heap.size := by have := b1.size; simp at this; omega
  have HLS := Lib.hid (hL.lists (by rw [wsL_len]; omega) (fun xs hx => by
    obtain ⟨k, hk, e⟩ := List.mem_iff_getElem.1 hx
    have := HCH.out.wl k (by rw [← wsL_len E]; exact hk)
    rw [wsL_len] at hk
    have e2 : xs = (E.getD k Ent.zero).w := by rw [← e]; simp [wsL, getDE_get hk]
    rw [e2]; omega))
  have HB := Lib.hid (bt hb0 b1)
  have HM1 := Lib.hid hB1
  clear hL hB hb0 b1 hB1
  go_wp2
  go_loopw [6, 17] (fun v6 v17 wr => ∃ (j : Nat) (A2 : Option Addr) (c2 : Nat), j ≤ E.length ∧ v17 = .int .i64 j ∧ v6 = .slice A2 (j * i) c2 ∧ OwnedL wr w1.heap.size (.slice A2 (j * i) c2) (trW i (wsL (E.take j))) ∧ Below w1.heap.size w1 wr) (fun _ v17 _ => E.length - (intOf v17).toNat)
  case atStart => exact ⟨0, none, 0, Nat.zero_le _, rfl, by rw [Nat.zero_mul], by rw [Nat.zero_mul]; exact OwnedL.nil _ _, Below.refl _ _⟩
  case round =>
    obtain ⟨j, A2, c2, hj, rfl, rfl, hO, hb⟩ := hrel
    by_cases hlt : j < E.length
    · obtain ⟨gA, oA, A3, nA, cA, eA, hgA, hdA, hrA⟩ := HLS.out.at_ hlt
      subst eA
      have hdA := (hb.cell (p := ⟨gA, oA + j, none⟩) hgA).trans hdA
      have HRA := Lib.hid (fun (W : World) (h : Below w1.heap.size w1 W) => hrA.below h)
      have hu : (wsL E).getD j [] = (E.getD j Ent.zero).w := by
        rw [List.getD_eq_getElem?_getD, wsL, List.getElem?_map, List.getElem?_eq_getElem hlt]
        show (E[j]).w = _
        rw [getDE_get hlt]
      have hul := HCH.out.wl j hlt
      have HNX := Lib.hid (show trW i (wsL (E.take (j + 1))) = trW i (wsL (E.take j)) ++ (List.range i).map fun (x : Nat) => (wsL E).getD j [] ++ [(x : Int)] by rw [wsL_take hlt, trW_snoc, hu])
      rw [← hu] at hul
      generalize (wsL E).getD j [] = u at HRA HNX hul
      obtain ⟨k0, k1, k2, k3, _⟩ := (HM1.out.kept hb hgt).cells
      have hlj : (trW i (wsL (E.take j))).length = j * i := by rw [trW_len, wsL_len, List.length_take, Nat.min_eq_left (by omega)]
      have hji : j * i ≤ 128 * 64 := Nat.mul_le_mul (by omega) hi64
      generalize trW i (wsL (E.take j)) = L at hO HNX hlj
      obtain ⟨K, hK⟩ : ∃ K, K = j * i := ⟨_, rfl⟩
      rw [← hK] at hO hji hlj ⊢
      have HK := Lib.hid hK
      have HO := Lib.hid hO
      have HB2 := Lib.hid hb
      have HLJ := Lib.hid hlj
      clear hK
      clear hO hb hrA hgA hu hlj
      go_wp2
      go_loopw [6, 23] (fun v6 v23 wq => ∃ (x : Nat) (A4 : Option Addr) (c4 : Nat), x ≤ i ∧ v23 = .int .i64 x ∧ v6 = .slice A4 (K + x) c4 ∧ OwnedL wq w1.heap.size (.slice A4 (K + x) c4) (L ++ (List.range x).map fun (x : Nat) => u ++ [(x : Int)]) ∧ Below w1.heap.size w1 wq) (fun _ v23 _ => i - (intOf v23).toNat)
      case atStart => exact ⟨0, A2, c2, Nat.zero_le _, rfl, rfl, by simpa using HO.out, HB2.out⟩
      case round =>
        obtain ⟨x, A4, c4, hx', rfl, rfl, hO, hb⟩ := hrel
        by_cases hlx : x < i
        · have hI := HRA.out _ hb
          have hun := hI.1
          have hJ := wjoin2c A3 (some ⟨wr.heap.size, 0, none⟩) nA cA 1 1 u [(x : Int)] _ (hI.below (alloc_below wr (.cells #[.int .i64 (x : Int)] 3))) (Ints.one wr (x : Int)) (by omega)
          have hz1 : (wr.alloc (.cells #[.int .i64 (x : Int)] 3)).heap.size = wr.heap.size + 1 := by simp
          rw [hz1] at hJ
          have HJ := Lib.hid hJ
          have HO4 := Lib.hid hO
          have HB4 := Lib.hid hb
          clear hJ hI hO hb k0 k1 k2 k3 hz1
          go_wp2_with fail
          refine HJ.out.mono ?_
          rintro e w3 ⟨A5, c5, rfl, hO5, hb5⟩
          have hb6 : Below wr.heap.size wr w3 := (alloc_below wr (.cells #[.int .i64 (x : Int)] 3)).trans (hb5.mono (by omega))
          have hO6 := HO4.out.kept hb6
          have hs3 := HB4.out.size
          have hs4 := hb6.size
          obtain ⟨A6, c6, w5, hr, hO7, hb7, _, _, _⟩ := run_append_list hO6 (hO5.lower (by omega)) (by omega) (by rw [List.length_append, List.length_map, List.length_range, HLJ.out]; omega)
          have hl6 : (L ++ (List.range x).map fun (x : Nat) => u ++ [(x : Int)]).length = K + x := by rw [List.length_append, List.length_map, List.length_range, HLJ.out]
          rw [hl6] at hr hO7
          have HO7 := Lib.hid hO7
          have HB7 := Lib.hid ((HB4.out.trans (hb6.mono hs3)).trans hb7)
          clear hO5 hb5 hb6 hO6 hO7 hb7 hl6
          go_wp2_with (at_builtin; refine Lib.wpList_append_run _ rfl _ _ _ _ rfl _ _ rfl rfl _ _ hr ?_)
          clear hr
          go_wp2
          go_roundw
          case rel => exact ⟨x + 1, A6, c6, by omega, by go_num, rfl, by rw [List.range_succ, List.map_append, ← List.append_assoc]; exact HO7.out, HB7.out⟩
          case measure => simp [intOf]; omega
        · obtain rfl : x = i := by omega
          have HO4 := Lib.hid hO
          have HB4 := Lib.hid hb
          clear hO hb k0 k1 k2 k3
          go_wp2
          go_roundw
          case rel => exact ⟨j + 1, A4, c4, by omega, by go_num, by rw [Nat.succ_mul, ← HK.out], by rw [Nat.succ_mul, ← HK.out, HNX.out]; exact HO4.out, HB4.out⟩
          case measure => simp [intOf]; omega
    · obtain rfl : j = E.length := by omega
      rw [List.take_of_length_le (Nat.le_refl _)] at hO
      have HO := Lib.hid hO
      have HB2 := Lib.hid hb
      clear hO hb
      go_wp2
      go_ret2
      exact ⟨A2, c2, rfl, HO.out.lower HB.out.size, HB.out.trans (HB2.out.mono HB.out.size)⟩

set_option maxHeartbeats 4000000 in
theorem ptrans_bad (i st : Int) (A B : Option Addr) (n c m d : Nat) (nx ot : List (List Int)) (w : World) (hx : Lists w A n nx) (ho : Lists w B m ot) (hv : ¬ vld i st nx ot = 0) :
    Calls Try.prog 15 #[.agg #[.int .i64 i, .int .i64 st, .slice A n c, .slice B m d]] w fun e w' => e = .returned (.tuple #[.slice none 0 0, .int .i64 (vld i st nx ot)]) ∧ Below w.heap.size w w' := by
  have hb0 := alloc_below w (.cells #[.int .i64 i, .int .i64 st, .slice A n c, .slice B m d] 24)
  obtain ⟨E, hE⟩ : ∃ E, E = vld i st nx ot := ⟨_, rfl⟩
  rw [← hE]
  have HE := Lib.hid hE
  have HV := Lib.hid hv
  clear hE hv
  go_enter Try.func15, Try.ntmps15
  go_wp2_with fail
  refine (pscov_bad _ _ _ _ _ _ _ _ _ _ _ (hx.below hb0) (ho.below hb0) HV.out).mono ?_
  rintro e w1 ⟨rfl, b1⟩
  rw [← HE.out]
  have HB1 := Lib.hid (bt hb0 b1)
  clear b1 hb0
  go_wp2
  go_loopw [6, 17] (fun v6 v17 wr => v6 = .slice none 0 0 ∧ v17 = .int .i64 0 ∧ wr = w1) (fun _ _ _ => 0)
  case atStart => exact ⟨rfl, rfl, rfl⟩
  case round =>
    obtain ⟨rfl, rfl, rfl⟩ := hrel
    go_wp2
    go_ret2
    exact ⟨rfl, HB1.out⟩
end Go.Proofs.Ytedcdpmflcegbaa
end

section
/- Access, StateCover, Transitions of the program, of any machine. -/
namespace Go.Proofs.Ytedcdpmflcegbaa
open Go.RowKit Go.Shelf

def accR (i st : Int) (nx ot : List (List Int)) : List Ent × Int := if vld i st nx ot = 0 then (exs nx i.toNat nx.length st.toNat, 0) else ([], vld i st nx ot)
theorem accR_ok {i st n : Nat} {nx ot : List (List Int)} (hM : Mok i st n nx ot) : accR i st nx ot = (exs nx i n st, 0) := by
  unfold accR
  rw [if_pos hM.vld, hM.nxl, Int.toNat_natCast, Int.toNat_natCast]
theorem accR_bad {i st : Int} {nx ot : List (List Int)} (h : ¬ vld i st nx ot = 0) : accR i st nx ot = ([], vld i st nx ot) := if_neg h
def trnR (i st : Int) (nx ot : List (List Int)) : List (List Int) := trW i.toNat (wsL (accR i st nx ot).1)
theorem pacc (i st : Int) (A B : Option Addr) (n c m d : Nat) (nx ot : List (List Int)) (w : World) (hx : Lists w A n nx) (ho : Lists w B m ot) :
    Calls Try.prog 11 #[.agg #[.int .i64 i, .int .i64 st, .slice A n c, .slice B m d]] w fun e w' => ∃ A1 c1 A2 c2, e = .returned (.tuple #[.slice A1 (accR i st nx ot).1.length c1, .slice A2 (accR i st nx ot).1.length c2, .int .i64 (accR i st nx ot).2]) ∧
      Owned w' w.heap.size (.slice A1 (accR i st nx ot).1.length c1) (psL (accR i st nx ot).1) ∧ OwnedL w' w.heap.size (.slice A2 (accR i st nx ot).1.length c2) (wsL (accR i st nx ot).1) ∧ Below w.heap.size w w' := by
  by_cases hv : vld i st nx ot = 0
  · obtain ⟨i', st', n', rfl, rfl, hM⟩ := vld_zero hv
    have e1 := hx.1
    have e2 := ho.1
    have e3 := hM.nxl
    have e4 := hM.otl
    obtain rfl : n = n' := by omega
    obtain rfl : n = m := by omega
    rw [accR_ok hM]
    exact pacc_ok i' st' n A B c d nx ot w hx ho hM
  · rw [accR_bad hv]
    refine (pacc_bad i st A B n c m d nx ot w hx ho hv).mono ?_
    rintro e w' ⟨rfl, hb⟩
    exact ⟨none, 0, none, 0, rfl, World.ownsRow_nil _ _ _ _, OwnedL.nil _ _, hb⟩
theorem pscov (i st : Int) (A B : Option Addr) (n c m d : Nat) (nx ot : List (List Int)) (w : World) (hx : Lists w A n nx) (ho : Lists w B m ot) :
    Calls Try.prog 13 #[.agg #[.int .i64 i, .int .i64 st, .slice A n c, .slice B m d]] w fun e w' => ∃ A2 c2, e = .returned (.tuple #[.slice A2 (accR i st nx ot).1.length c2, .int .i64 (accR i st nx ot).2]) ∧
      OwnedL w' w.heap.size (.slice A2 (accR i st nx ot).1.length c2) (wsL (accR i st nx ot).1) ∧ Below w.heap.size w w' := by
  by_cases hv : vld i st nx ot = 0
  · obtain ⟨i', st', n', rfl, rfl, hM⟩ := vld_zero hv
    have e1 := hx.1
    have e2 := ho.1
    have e3 := hM.nxl
    have e4 := hM.otl
    obtain rfl : n = n' := by omega
    obtain rfl : n = m := by omega
    rw [accR_ok hM]
    exact pscov_ok i' st' n A B c d nx ot w hx ho hM
  · rw [accR_bad hv]
    refine (pscov_bad i st A B n c m d nx ot w hx ho hv).mono ?_
    rintro e w' ⟨rfl, hb⟩
    exact ⟨none, 0, rfl, OwnedL.nil _ _, hb⟩
theorem ptrans (i st : Int) (A B : Option Addr) (n c m d : Nat) (nx ot : List (List Int)) (w : World) (hx : Lists w A n nx) (ho : Lists w B m ot) :
    Calls Try.prog 15 #[.agg #[.int .i64 i, .int .i64 st, .slice A n c, .slice B m d]] w fun e w' => ∃ A2 c2, e = .returned (.tuple #[.slice A2 (trnR i st nx ot).length c2, .int .i64 (accR i st nx ot).2]) ∧
      OwnedL w' w.heap.size (.slice A2 (trnR i st nx ot).length c2) (trnR i st nx ot) ∧ Below w.heap.size w w' := by
  unfold trnR
  by_cases hv : vld i st nx ot = 0
  · obtain ⟨i', st', n', rfl, rfl, hM⟩ := vld_zero hv
    have e1 := hx.1
    have e2 := ho.1
    have e3 := hM.nxl
    have e4 := hM.otl
    obtain rfl : n = n' := by omega
    obtain rfl : n = m := by omega
    rw [accR_ok hM, trW_len, wsL_len, Int.toNat_natCast]
    exact ptrans_ok i' st' n A B c d nx ot w hx ho hM
  · rw [accR_bad hv]
    refine (ptrans_bad i st A B n c m d nx ot w hx ho hv).mono ?_
    rintro e w' ⟨rfl, hb⟩
    exact ⟨none, 0, rfl, OwnedL.nil _ _, hb⟩
end Go.Proofs.Ytedcdpmflcegbaa
end

section
/- Path of the program. -/
namespace Go.Proofs.Ytedcdpmflcegbaa
open Go.RowKit Go.Shelf

/-- The first place of a number in a list. -/
def fi (xs : List Int) (v : Int) : Option Nat := xs.findIdx? (fun x => x == v)
theorem fi_hit {xs : List Int} {v : Int} {k : Nat} (hk : k < xs.length) (h : xs.getD k 0 = v) (hn : ∀ j, j < k → ¬ xs.getD j 0 = v) : fi xs v = some k := by
  unfold fi
  rw [List.findIdx?_eq_some_iff_getElem]
  have e : ∀ j (hj : j < xs.length), xs[j] = xs.getD j 0 := fun j hj => by rw [List.getD_eq_getElem?_getD, List.getElem?_eq_getElem hj]; rfl
  refine ⟨hk, by rw [e k hk, h]; simp, fun j hj => ?_⟩
  rw [e j (by omega)]
  simpa using hn j hj
theorem fi_miss {xs : List Int} {v : Int} (hn : ∀ j, j < xs.length → ¬ xs.getD j 0 = v) : fi xs v = none := by
  unfold fi
  rw [List.findIdx?_eq_none_iff]
  intro x hx
  obtain ⟨j, hj, rfl⟩ := List.mem_iff_getElem.1 hx
  have := hn j hj
  rw [List.getD_eq_getElem?_getD, List.getElem?_eq_getElem hj] at this
  simpa using this
theorem fi_some {xs : List Int} {v : Int} {k : Nat} (h : fi xs v = some k) : k < xs.length ∧ xs.getD k 0 = v ∧ ∀ j, j < k → ¬ xs.getD j 0 = v := by
  unfold fi at h
  rw [List.findIdx?_eq_some_iff_getElem] at h
  obtain ⟨h1, h2, h3⟩ := h
  have e : ∀ j (hj : j < xs.length), xs[j] = xs.getD j 0 := fun j hj => by rw [List.getD_eq_getElem?_getD, List.getElem?_eq_getElem hj]; rfl
  refine ⟨h1, by rw [← e k h1]; simpa using h2, fun j hj => ?_⟩
  have := h3 j hj
  rw [e j (by omega)] at this
  simpa using this
theorem fi_none {xs : List Int} {v : Int} (h : fi xs v = none) : ∀ j, j < xs.length → ¬ xs.getD j 0 = v := by
  unfold fi at h
  rw [List.findIdx?_eq_none_iff] at h
  intro j hj
  have := h xs[j] (List.getElem_mem hj)
  rw [List.getD_eq_getElem?_getD, List.getElem?_eq_getElem hj]
  simpa using this
def ixI (xs : List Int) (v : Int) : Int := match fi xs v with
  | some k => (k : Int)
  | none => -1

set_option maxHeartbeats 1000000 in
theorem sindex (A : Option Addr) (n c : Nat) (xs : List Int) (v : Int) (w : World) (h : Ints w A n xs) :
    Calls Try.prog 37 #[.slice A n c, .int .i64 v] w fun e w' => e = .returned (.int .i64 (ixI xs v)) ∧ Below w.heap.size w w' := by
  have L := Lib.hid h.1
  have hn := h.2.1
  go_enter Try.func37, Try.ntmps37
  go_wp2
  go_loop [8] (fun i => ∃ j : Nat, j ≤ n ∧ i = .int .i64 j ∧ ∀ m, m < j → ¬ xs.getD m 0 = v) (fun i => n - (intOf i).toNat)
  case atStart => exact ⟨0, Nat.zero_le _, rfl, fun m h => absurd h (by omega)⟩
  case round =>
    obtain ⟨j, hj, rfl, hne⟩ := hrel
    have HN := Lib.hid hne
    clear hne
    by_cases hlt : j < n
    · obtain ⟨b, off, rfl, _, hcell⟩ := h.at_ hlt
      by_cases hx : xs.getD j 0 = v
      · have hfin := Lib.hid (fi_hit (by rw [L.out]; exact hlt) hx HN.out)
        have ht : (v == xs.getD j 0) = true := by rw [hx]; simp
        generalize xs.getD j 0 = y at hcell ht
        clear hx
        go_wp2
        go_ret
        exact ⟨by unfold ixI; rw [hfin.out]; rfl, Below.refl _ _⟩
      · have HN2 := Lib.hid (show ∀ m, m < j + 1 → ¬ xs.getD m 0 = v from fun m hm => by
          by_cases h9 : m = j
          · subst h9; exact hx
          · exact HN.out m (by omega))
        have ht : (v == xs.getD j 0) = false := by simpa using fun h => hx h.symm
        generalize xs.getD j 0 = y at hcell ht
        clear hx
        go_wp2
        go_round
        case rel => exact ⟨j + 1, by omega, by go_num, HN2.out⟩
        case measure => simp [intOf]; omega
    · obtain rfl : j = n := by omega
      have hfin := Lib.hid (fi_miss (fun m hm => HN.out m (by rw [L.out] at hm; exact hm)))
      go_wp2
      go_ret
      exact ⟨by unfold ixI; rw [hfin.out]; rfl, Below.refl _ _⟩

theorem cisst (i st : Int) (A B : Option Addr) (n c m d : Nat) (s : Int) (b : Bool) (w : World) (_ : n ≤ 17592186044416) (hb : b = decide (0 ≤ s ∧ s < n)) :
    Calls Try.prog 36 #[.agg #[.int .i64 i, .int .i64 st, .slice A n c, .slice B m d], .int .i64 s] w fun e w' => e = .returned (.bool b) ∧ Below w.heap.size w w' := by
  by_cases h1 : 0 ≤ s
  · by_cases h2 : s < n
    · have hf := Lib.hid (hb.trans (decide_eq_true ⟨h1, h2⟩))
      have d2 : decide (s < (n : Int)) = true := decide_eq_true h2
      clear hb
      go_enter Try.func36, Try.ntmps36
      go_wp2
      go_ret
      exact ⟨ret_bool hf.out.symm, alloc_below _ _⟩
    · have hf := Lib.hid (hb.trans (decide_eq_false (fun H => h2 H.2)))
      have d2 : decide (s < (n : Int)) = false := decide_eq_false h2
      clear hb
      go_enter Try.func36, Try.ntmps36
      go_wp2
      go_ret
      exact ⟨ret_bool hf.out.symm, alloc_below _ _⟩
  · have hf := Lib.hid (hb.trans (decide_eq_false (fun H => h1 H.1)))
    have d2 : decide ((0 : Int) ≤ s) = false := decide_eq_false h1
    clear hb
    go_enter Try.func36, Try.ntmps36
    go_wp2
    go_ret
    exact ⟨ret_bool hf.out.symm, alloc_below _ _⟩

/-- What Path answers. -/
def pthW (E : List Ent) (t : Int) : Option (List Int) := (fi (psL E) t).map fun k => (E.getD k Ent.zero).w
def pthR (i st : Int) (nx ot : List (List Int)) (s t : Int) : Option (List Int) × Int :=
  if vld i st nx ot = 0 then
    if (0 ≤ s ∧ s < nx.length) ∧ (0 ≤ t ∧ t < nx.length) then (pthW (exs nx i.toNat nx.length s.toNat) t, 0) else (none, 2)
  else (none, vld i st nx ot)
set_option maxHeartbeats 4000000 in
set_option maxRecDepth 100000 in
theorem ppath (i st : Int) (A B : Option Addr) (n c m d : Nat) (nx ot : List (List Int)) (s t : Int) (w : World) (hx : Lists w A n nx) (ho : Lists w B m ot) :
    Calls Try.prog 19 #[.agg #[.int .i64 i, .int .i64 st, .slice A n c, .slice B m d], .int .i64 s, .int .i64 t] w fun e w' => ∃ A1 c1, e = .returned (.tuple #[.slice A1 ((pthR i st nx ot s t).1.getD []).length c1, .bool (pthR i st nx ot s t).1.isSome, .int .i64 (pthR i st nx ot s t).2]) ∧
      Owned w' w.heap.size (.slice A1 ((pthR i st nx ot s t).1.getD []).length c1) ((pthR i st nx ot s t).1.getD []) ∧ Below w.heap.size w w' := by
  have hb0 := alloc_below w (.cells #[.int .i64 i, .int .i64 st, .slice A n c, .slice B m d] 24)
  have hB := mealy_box w (.int .i64 i) (.int .i64 st) (.slice A n c) (.slice B m d)
  obtain ⟨R, hR⟩ : ∃ R, R = pthR i st nx ot s t := ⟨_, rfl⟩
  rw [← hR]
  unfold pthR at hR
  have hn1 := hx.1
  have hn2 := hx.2.1
  by_cases hv : vld i st nx ot = 0
  · rw [if_pos hv] at hR
    have HR := Lib.hid hR
    obtain ⟨i', st', n', rfl, rfl, hM⟩ := vld_zero hv
    have e3 := hM.nxl
    have e4 := hM.otl
    have e5 := ho.1
    obtain rfl : n = n' := by omega
    obtain rfl : n = m := by omega
    have HM := Lib.hid hM
    have hn128 := hM.n2
    clear hR e3 e4 e5 hM
    go_enter Try.func19, Try.ntmps19
    go_wp2_with fail
    refine (pvalid _ _ _ _ _ _ _ _ _ _ _ (hx.below hb0) (ho.below hb0)).mono ?_
    rintro e w1 ⟨rfl, a1⟩
    have hB1 := hB.kept a1 (by simp)
    have b1 := bt hb0 a1
    obtain ⟨k0, k1, k2, k3, _⟩ := hB1.cells
    have HBX := Lib.hid (fun (W : World) (h : Below w1.heap.size w1 W) => hB1.kept h (by have := a1.size; simp at this; omega))
    rw [hv]
    have HB1 := Lib.hid b1
    have hnl := hn1
    clear hB hb0 a1 hB1 b1 hv
    by_cases hs : 0 ≤ s ∧ s < (n : Int)
    · go_wp2_with fail
      refine (cisst _ _ _ _ _ _ _ _ _ true _ hn2 (decide_eq_true hs).symm).mono ?_
      rintro e w2 ⟨rfl, b2⟩
      clear k0 k1 k2 k3
      obtain ⟨k0, k1, k2, k3, _⟩ := (HBX.out w2 b2).cells
      have HB2 := Lib.hid b2
      clear b2
      by_cases ht : 0 ≤ t ∧ t < (n : Int)
      · go_wp2_with fail
        refine (cisst _ _ _ _ _ _ _ _ _ true _ hn2 (decide_eq_true ht).symm).mono ?_
        rintro e w3 ⟨rfl, b3⟩
        have b23 := bt HB2.out b3
        clear k0 k1 k2 k3
        obtain ⟨k0, k1, k2, k3, _⟩ := (HBX.out w3 b23).cells
        obtain ⟨s', rfl⟩ : ∃ s' : Nat, s = s' := ⟨s.toNat, by omega⟩
        have hsn : s' < n := by omega
        have hE := exs_ens (i := i') HM.out hsn
        have HPX := Lib.hid (pexplore i' st' n s' A B c d nx ot w3 ((hx.below HB1.out).below b23) HM.out hsn)
        have hR2 := HR.out
        rw [if_pos (by rw [hnl]; exact ⟨hs, ht⟩), Int.toNat_natCast, Int.toNat_natCast, hnl] at hR2
        have hlen := hE.len
        have hch := hE.chn
        generalize exs nx i' n s' = E at hE HPX hR2 hlen hch
        have HR2 := Lib.hid hR2
        have HCH := Lib.hid hch
        have HB3 := Lib.hid (bt HB1.out b23)
        clear hE hR2 hch b3 b23
        go_wp2_with fail
        refine HPX.out.mono ?_
        rintro e w4 ⟨A4, c4, rfl, hR4, b4⟩
        obtain ⟨g, cg, eA, hg, hCr⟩ := hR4.crv HCH.out.ne
        cases eA
        have hps := Lib.hid (pstates g c4 E w4 hCr (by omega))
        have HCR := Lib.hid hCr
        have HB4 := Lib.hid (bt HB3.out b4)
        clear hR4 hCr b4 k0 k1 k2 k3
        go_wp2_with fail
        refine hps.out.mono ?_
        rintro e w5 ⟨A5, c5, rfl, hO5, b5⟩
        have hI5 := hO5.ints (by simp; omega)
        have HB5 := Lib.hid (bt HB4.out b5)
        have HCR5 := Lib.hid (HCR.out.below b5)
        have HIX := Lib.hid (sindex A5 E.length c5 (psL E) t w5 hI5)
        clear hO5 b5 hI5
        go_wp2_with fail
        refine HIX.out.mono ?_
        rintro e w6 ⟨rfl, b6⟩
        have HB6 := Lib.hid (bt HB5.out b6)
        have HCR6 := Lib.hid (HCR5.out.below b6)
        clear b6
        cases hfi : fi (psL E) t with
        | none =>
          have HR3 := Lib.hid (show R = (none, 0) by rw [HR2.out, pthW, hfi]; rfl)
          rw [show ixI (psL E) t = -1 by unfold ixI; rw [hfi]]
          clear hfi
          go_wp2
          go_ret3
          rw [HR3.out]
          exact ⟨none, 0, rfl, World.ownsRow_nil _ _ _ _, HB6.out⟩
        | some k =>
          have hk := (fi_some hfi).1
          rw [psL_len] at hk
          have HR3 := Lib.hid (show R = (some (E.getD k Ent.zero).w, 0) by rw [HR2.out, pthW, hfi]; rfl)
          rw [show ixI (psL E) t = (k : Int) by unfold ixI; rw [hfi]]
          have hpw := Lib.hid (pword g c4 k E w6 HCR6.out HCH.out hk (by omega))
          generalize (E.getD k Ent.zero).w = u at HR3 hpw
          have d1 : decide ((k : Int) < 0) = false := decide_eq_false (by omega)
          clear hfi
          go_wp2_with fail
          refine hpw.out.mono ?_
          rintro e w7 ⟨A7, c7, rfl, hO7, b7⟩
          have HO7 := Lib.hid hO7
          have HB7 := Lib.hid (bt HB6.out b7)
          clear hO7 b7
          go_wp2
          go_ret3
          rw [HR3.out]
          exact ⟨A7, c7, rfl, HO7.out.lower HB6.out.size, HB7.out⟩
      · have hR2 := HR.out
        rw [if_neg (by rw [hnl]; exact fun h => ht h.2)] at hR2
        have HR2 := Lib.hid hR2
        clear hR2
        go_wp2_with fail
        refine (cisst _ _ _ _ _ _ _ _ _ false _ hn2 (decide_eq_false ht).symm).mono ?_
        rintro e w3 ⟨rfl, b3⟩
        have HB3 := Lib.hid (bt HB1.out (bt HB2.out b3))
        clear b3 k0 k1 k2 k3
        go_wp2
        go_ret3
        rw [HR2.out]
        exact ⟨none, 0, rfl, World.ownsRow_nil _ _ _ _, HB3.out⟩
    · have hR2 := HR.out
      rw [if_neg (by rw [hnl]; exact fun h => hs h.1)] at hR2
      have HR2 := Lib.hid hR2
      clear hR2
      go_wp2_with fail
      refine (cisst _ _ _ _ _ _ _ _ _ false _ hn2 (decide_eq_false hs).symm).mono ?_
      rintro e w3 ⟨rfl, b3⟩
      have HB3 := Lib.hid (bt HB1.out b3)
      clear b3 k0 k1 k2 k3
      go_wp2
      go_ret3
      rw [HR2.out]
      exact ⟨none, 0, rfl, World.ownsRow_nil _ _ _ _, HB3.out⟩
  · rw [if_neg hv] at hR
    have HR := Lib.hid hR
    obtain ⟨E, hE⟩ : ∃ E, E = vld i st nx ot := ⟨_, rfl⟩
    have HE := Lib.hid hE
    rw [← hE] at hv
    clear hR hE hB
    have hne : (E != 0) = true := by simpa using hv
    go_enter Try.func19, Try.ntmps19
    go_wp2_with fail
    refine (pvalid _ _ _ _ _ _ _ _ _ _ _ (hx.below hb0) (ho.below hb0)).mono ?_
    rintro e w1 ⟨rfl, b1⟩
    rw [← HE.out]
    clear hv
    go_wp2
    go_ret3
    rw [HR.out, ← HE.out]
    exact ⟨none, 0, rfl, World.ownsRow_nil _ _ _ _, bt hb0 b1⟩
end Go.Proofs.Ytedcdpmflcegbaa
end

section
/- The tracker in memory. -/
namespace Go.Proofs.Ytedcdpmflcegbaa
open Go.RowKit

/-- What a tracker counts. -/
structure Tk where
  pos : Nat
  vis : Nat → Bool
  tk : Nat → Nat → Bool
  ns : Nat
  nt : Nat
def Tk.zero (s : Nat) : Tk := ⟨s, fun _ => false, fun _ _ => false, 0, 0⟩
def Tk.vst (T : Tk) : Tk := if T.vis T.pos then T else { T with vis := fun a => T.vis a || a == T.pos, ns := T.ns + 1 }
def Tk.mrk (T : Tk) (x : Nat) : Tk := if T.tk T.pos x then T else { T with tk := fun p y => T.tk p y || (p == T.pos && y == x), nt := T.nt + 1 }
def Tk.to (T : Tk) (s : Nat) : Tk := { T with pos := s }
def Tk.go (nx : List (List Int)) (T : Tk) (x : Nat) : Tk := (((T.mrk x).to (nN nx T.pos x)).vst)
def Tk.fol (nx : List (List Int)) (T : Tk) : List Int → Tk
  | [] => T
  | a :: l => (T.go nx a.toNat).fol nx l
theorem Tk.mrk_pos (T : Tk) (x : Nat) : (T.mrk x).pos = T.pos := by unfold Tk.mrk; split <;> rfl
theorem Tk.vst_pos (T : Tk) : T.vst.pos = T.pos := by unfold Tk.vst; split <;> rfl
theorem Tk.go_pos (nx : List (List Int)) (T : Tk) (x : Nat) : (T.go nx x).pos = nN nx T.pos x := by unfold Tk.go; rw [Tk.vst_pos]; rfl
theorem Tk.fol_app (nx : List (List Int)) : ∀ (u v : List Int) (T : Tk), T.fol nx (u ++ v) = (T.fol nx u).fol nx v
  | [], _, _ => rfl
  | a :: u, v, T => by show (T.go nx a.toNat).fol nx (u ++ v) = _; rw [Tk.fol_app nx u v]; rfl
theorem Tk.fol_pos (nx : List (List Int)) : ∀ (u : List Int) (T : Tk), (T.fol nx u).pos = runS nx T.pos u
  | [], _ => rfl
  | a :: u, T => by show ((T.go nx a.toNat).fol nx u).pos = _; rw [Tk.fol_pos nx u, Tk.go_pos]; rfl
theorem Tk.mrk_n (T : Tk) (x : Nat) : T.nt ≤ (T.mrk x).nt ∧ (T.mrk x).nt ≤ T.nt + 1 ∧ (T.mrk x).ns = T.ns := by unfold Tk.mrk; split <;> simp
theorem Tk.vst_n (T : Tk) : T.ns ≤ T.vst.ns ∧ T.vst.ns ≤ T.ns + 1 ∧ T.vst.nt = T.nt := by unfold Tk.vst; split <;> simp
theorem Tk.go_n (nx : List (List Int)) (T : Tk) (x : Nat) : T.nt ≤ (T.go nx x).nt ∧ (T.go nx x).nt ≤ T.nt + 1 ∧ T.ns ≤ (T.go nx x).ns ∧ (T.go nx x).ns ≤ T.ns + 1 := by
  unfold Tk.go
  have h1 := Tk.mrk_n T x
  have h2 := Tk.vst_n ((T.mrk x).to (nN nx T.pos x))
  have h3 : ((T.mrk x).to (nN nx T.pos x)).ns = (T.mrk x).ns := rfl
  have h4 : ((T.mrk x).to (nN nx T.pos x)).nt = (T.mrk x).nt := rfl
  omega
theorem Tk.fol_n (nx : List (List Int)) : ∀ (u : List Int) (T : Tk), T.nt ≤ (T.fol nx u).nt ∧ (T.fol nx u).nt ≤ T.nt + u.length ∧ T.ns ≤ (T.fol nx u).ns ∧ (T.fol nx u).ns ≤ T.ns + u.length
  | [], _ => by simp [Tk.fol]
  | a :: u, T => by
    have h1 := Tk.go_n nx T a.toNat
    have h2 := Tk.fol_n nx u (T.go nx a.toNat)
    have h3 : T.fol nx (a :: u) = (T.go nx a.toNat).fol nx u := rfl
    rw [h3, List.length_cons]
    omega

/-- A grid of truth values as cells. -/
def gdOf (f : Nat → Nat → Bool) : List Bool := (List.range 8192).map fun k => f (k / 64) (k % 64)
theorem gdOf_len (f : Nat → Nat → Bool) : (gdOf f).length = 8192 := by simp [gdOf]
theorem gdOf_at (f : Nat → Nat → Bool) {p q : Nat} (hp : p < 128) (hq : q < 64) : (gdOf f)[p * 64 + q]? = some (f p q) := by
  unfold gdOf
  rw [List.getElem?_map, List.getElem?_range (by omega)]
  show some (f ((p * 64 + q) / 64) ((p * 64 + q) % 64)) = _
  rw [show (p * 64 + q) / 64 = p by omega, show (p * 64 + q) % 64 = q by omega]
theorem gdOf_set (f : Nat → Nat → Bool) {p q : Nat} (hq : q < 64) : (gdOf f).set (p * 64 + q) true = gdOf fun a b => f a b || (a == p && b == q) := by
  apply List.ext_getElem
  · simp [gdOf]
  · intro k h1 h2
    have hk : k < 8192 := by simpa [gdOf] using h2
    rw [List.getElem_set]
    by_cases e : p * 64 + q = k
    · subst e
      simp only [gdOf, if_true, List.getElem_map, List.getElem_range]
      rw [show (p * 64 + q) / 64 = p by omega, show (p * 64 + q) % 64 = q by omega]
      simp
    · rw [if_neg e]
      simp only [gdOf, List.getElem_map, List.getElem_range]
      have : ¬ (k / 64 = p ∧ k % 64 = q) := by omega
      by_cases h3 : k / 64 = p
      · have h4 : ¬ k % 64 = q := fun h => this ⟨h3, h⟩
        simp [h4]
      · simp [h3]
/-- The cells of a tracker. -/
def trkL (a b X Y : Value) (T : Tk) : List Value := [a, b, X, Y, .int .i64 (T.pos : Int)] ++ ((lnOf T.vis).map Value.bool ++ ((gdOf T.tk).map Value.bool ++ [.int .i64 (T.ns : Int), .int .i64 (T.nt : Int)]))
theorem trkL_len (a b X Y : Value) (T : Tk) : (trkL a b X Y T).length = 8327 := by
  unfold trkL
  simp [lnOf_len, gdOf_len]
def Trk (w : World) (g : Nat) (a b X Y : Value) (T : Tk) : Prop := w.heap[g]? = some (.cells (trkL a b X Y T).toArray 74 (0, 0))
theorem app_at {A B : List Value} {k m : Nat} (h : k = A.length + m) : (A ++ B)[k]? = B[m]? := by
  subst h
  rw [List.getElem?_append_right (by omega)]
  congr 1
  omega
theorem app_pre {A B : List Value} {k : Nat} (h : k < A.length) : (A ++ B)[k]? = A[k]? := List.getElem?_append_left h
theorem set_at {A B : List Value} {k m : Nat} {v : Value} (h : k = A.length + m) : (A ++ B).set k v = A ++ B.set m v := by
  subst h
  rw [List.set_append_right _ _ (by omega)]
  congr 2
  omega
theorem set_pre {A B : List Value} {k : Nat} {v : Value} (h : k < A.length) : (A ++ B).set k v = A.set k v ++ B := List.set_append_left _ _ h
section
variable {w w' : World} {g : Nat} {a b X Y : Value} {T : Tk}
theorem Trk.cell (h : Trk w g a b X Y T) (k : Nat) : w.cell? ⟨g, k, none⟩ = (trkL a b X Y T)[k]? := by
  rw [cell_of_row w g k _ _ (0, 0) h]
  simp
theorem Trk.frz (h : Trk w g a b X Y T) (k : Nat) : w.frozen? ⟨g, k, none⟩ = false := frozen_of_row w g _ _ _ h
theorem Trk.fix (h : Trk w g a b X Y T) : w.cell? ⟨g, 0, none⟩ = some a ∧ w.cell? ⟨g, 1, none⟩ = some b ∧ w.cell? ⟨g, 2, none⟩ = some X ∧ w.cell? ⟨g, 3, none⟩ = some Y ∧ w.cell? ⟨g, 4, none⟩ = some (.int .i64 (T.pos : Int)) :=
  ⟨h.cell 0, h.cell 1, h.cell 2, h.cell 3, h.cell 4⟩
theorem Trk.vis (h : Trk w g a b X Y T) {p : Nat} (hp : p < 128) : w.cell? ⟨g, 5 + p, none⟩ = some (.bool (T.vis p)) := by
  rw [h.cell, trkL, app_at (m := p) (by simp), app_pre (by rw [List.length_map, lnOf_len]; exact hp), List.getElem?_map, lnOf_at _ hp]
  rfl
theorem Trk.tkn (h : Trk w g a b X Y T) {p x : Nat} (hp : p < 128) (hx : x < 64) : w.cell? ⟨g, 133 + p * 64 + x, none⟩ = some (.bool (T.tk p x)) := by
  rw [h.cell, trkL, app_at (m := 128 + (p * 64 + x)) (by simp; omega), app_at (m := p * 64 + x) (by rw [List.length_map, lnOf_len]), app_pre (by rw [List.length_map, gdOf_len]; omega), List.getElem?_map, gdOf_at _ hp hx]
  rfl
theorem Trk.cnt (h : Trk w g a b X Y T) : w.cell? ⟨g, 8325, none⟩ = some (.int .i64 (T.ns : Int)) ∧ w.cell? ⟨g, 8326, none⟩ = some (.int .i64 (T.nt : Int)) := by
  constructor
  · rw [h.cell, trkL, app_at (m := 8320) (by simp), app_at (m := 8192) (by rw [List.length_map, lnOf_len]), app_at (m := 0) (by rw [List.length_map, gdOf_len])]
    rfl
  · rw [h.cell, trkL, app_at (m := 8321) (by simp), app_at (m := 8193) (by rw [List.length_map, lnOf_len]), app_at (m := 1) (by rw [List.length_map, gdOf_len])]
    rfl
theorem Trk.set (h : Trk w g a b X Y T) (k : Nat) (v : Value) {T' : Tk} (e : (trkL a b X Y T).set k v = trkL a b X Y T') : Trk (w.setCell ⟨g, k, none⟩ v) g a b X Y T' := by
  have := heap_setCell_same w g k _ _ v h
  unfold Trk
  rw [this, ← e]
  simp
theorem Trk.setPos (h : Trk w g a b X Y T) (s : Nat) : Trk (w.setCell ⟨g, 4, none⟩ (.int .i64 (s : Int))) g a b X Y (T.to s) := h.set _ _ rfl
theorem Trk.setVis (h : Trk w g a b X Y T) (p : Nat) (hp : p < 128) : Trk (w.setCell ⟨g, 5 + p, none⟩ (.bool true)) g a b X Y { T with vis := fun a => T.vis a || a == p } := by
  refine h.set _ _ ?_
  rw [trkL, set_at (m := p) (by simp), set_pre (by rw [List.length_map, lnOf_len]; exact hp), ← List.map_set, lnOf_set]
  rfl
theorem Trk.setTkn (h : Trk w g a b X Y T) (p x : Nat) (hp : p < 128) (hx : x < 64) : Trk (w.setCell ⟨g, 133 + p * 64 + x, none⟩ (.bool true)) g a b X Y { T with tk := fun a y => T.tk a y || (a == p && y == x) } := by
  refine h.set _ _ ?_
  rw [trkL, set_at (m := 128 + (p * 64 + x)) (by simp; omega), set_at (m := p * 64 + x) (by rw [List.length_map, lnOf_len]), set_pre (by rw [List.length_map, gdOf_len]; omega), ← List.map_set, gdOf_set _ hx]
  rfl
theorem Trk.setNs (h : Trk w g a b X Y T) (m : Nat) : Trk (w.setCell ⟨g, 8325, none⟩ (.int .i64 (m : Int))) g a b X Y { T with ns := m } := by
  refine h.set _ _ ?_
  rw [trkL, set_at (m := 8320) (by simp), set_at (m := 8192) (by rw [List.length_map, lnOf_len]), set_at (m := 0) (by rw [List.length_map, gdOf_len])]
  rfl
theorem Trk.setNt (h : Trk w g a b X Y T) (m : Nat) : Trk (w.setCell ⟨g, 8326, none⟩ (.int .i64 (m : Int))) g a b X Y { T with nt := m } := by
  refine h.set _ _ ?_
  rw [trkL, set_at (m := 8321) (by simp), set_at (m := 8193) (by rw [List.length_map, lnOf_len]), set_at (m := 1) (by rw [List.length_map, gdOf_len])]
  rfl
theorem Trk.kept (h : Trk w g a b X Y T) {k : Nat} (hb : Below k w w') (hg : g < k) : Trk w' g a b X Y T := (hb.block g hg).trans h
theorem Trk.below (h : Trk w g a b X Y T) (hb : Below w.heap.size w w') : Trk w' g a b X Y T := h.kept hb (heap_lt h)
theorem Trk.keptT (h : Trk w g a b X Y T) (hk : KeptT 74 w w') : Trk w' g a b X Y T := hk g _ h
end
/-- The zero tracker. -/
def chkT : List Value → Bool
  | .int .i64 a :: .int .i64 b :: .slice none 0 0 :: .slice none 0 0 :: .int .i64 c :: l => a == 0 && (b == 0 && (c == 0 && (allF (l.take 8320) && match l.drop 8320 with
    | [.int .i64 d, .int .i64 e] => d == 0 && e == 0
    | _ => false)))
  | _ => false
theorem trk_chk : chkT Try.zeroCells74.toList = true := by kernel_rfl
theorem trk_zero : Try.zeroCells74.toList = trkL (.int .i64 0) (.int .i64 0) (.slice none 0 0) (.slice none 0 0) (Tk.zero 0) := by
  have h := trk_chk
  have hs : Try.zeroCells74.toList.length = 8327 := by rw [Array.length_toList]; exact Try.zeroCells74_size
  generalize Try.zeroCells74.toList = L at h hs
  unfold chkT at h
  split at h
  next a b c l =>
    simp only [Bool.and_eq_true, beq_iff_eq] at h
    obtain ⟨rfl, rfl, rfl, h4, h5⟩ := h
    have h6 := allF_eq h4
    have hl : l.length = 8322 := by simpa using hs
    rw [List.length_take, hl] at h6
    split at h5
    next d e hd =>
      simp only [Bool.and_eq_true, beq_iff_eq] at h5
      obtain ⟨rfl, rfl⟩ := h5
      have h7 : l = List.replicate 8320 (Value.bool false) ++ [.int .i64 0, .int .i64 0] := by
        rw [← List.take_append_drop 8320 l, h6, hd]
        rfl
      have e1 : (lnOf (fun _ => false)).map Value.bool = List.replicate 128 (Value.bool false) := by
        unfold lnOf
        rw [List.map_const', List.length_range, List.map_replicate]
      have e2 : (gdOf (fun _ _ => false)).map Value.bool = List.replicate 8192 (Value.bool false) := by
        unfold gdOf
        rw [List.map_const', List.length_range, List.map_replicate]
      show _ = [_, _, _, _, _] ++ ((lnOf (fun _ => false)).map Value.bool ++ ((gdOf (fun _ _ => false)).map Value.bool ++ [_, _]))
      rw [e1, e2, ← List.append_assoc (List.replicate 128 _), List.replicate_append_replicate, h7]
      rfl
    next => exact absurd h5 (by simp)
  next => exact absurd h (by simp)
theorem trk_info : (Try.prog.info? 74).map (·.size) = some 8327 := by kernel_rfl
/-- The store of a literal. -/
theorem trk_store (w : World) (a b X Y : Value) (s : Nat) (ha : a.oneCell' = true) (hb : b.oneCell' = true) (hX : X.oneCell' = true) (hY : Y.oneCell' = true) (L : List Value) (hL : L = trkL a b X Y (Tk.zero s)) :
    (storeCells ⟨w.heap.size, 0, none⟩ L).run Try.prog (w.alloc (.cells Try.zeroCells74 74)) = .ok () (w.alloc (.cells (trkL a b X Y (Tk.zero s)).toArray 74)) := by
  subst hL
  have hz : (trkL a b X Y (Tk.zero s)).toArray.size = 8327 := by rw [List.size_toArray, trkL_len]
  have h := run_storeCells_new (P := Try.prog) w 74 Try.zeroCells74 (trkL a b X Y (Tk.zero s)).toArray (by rw [hz]; exact trk_info) (by rw [hz]; exact Try.zeroCells74_size) (by
    rw [Array.all_eq_true']
    intro x hx
    rw [List.mem_toArray, trkL] at hx
    simp only [List.mem_append, List.mem_cons, List.mem_map, List.not_mem_nil, or_false] at hx
    rcases hx with (rfl | rfl | rfl | rfl | rfl) | ⟨b, _, rfl⟩ | ⟨b, _, rfl⟩ | rfl | rfl <;> first | assumption | rfl)
  exact h
theorem Trk.new (w : World) (a b X Y : Value) (T : Tk) : Trk (w.alloc (.cells (trkL a b X Y T).toArray 74)) w.heap.size a b X Y T := heap_alloc_new w _
theorem trk_lit4 (a b X Y : Value) : (((Try.zeroCells74.toList.set 0 a).set 1 b).set 2 X).set 3 Y = trkL a b X Y (Tk.zero 0) := by rw [trk_zero]; rfl
theorem trk_lit5 (a b X Y : Value) (s : Nat) : ((((Try.zeroCells74.toList.set 0 a).set 1 b).set 2 X).set 3 Y).set 4 (.int .i64 (s : Int)) = trkL a b X Y (Tk.zero s) := by rw [trk_zero]; rfl
end Go.Proofs.Ytedcdpmflcegbaa
end

section
/- States with the same outputs. -/
namespace Go.Proofs.Ytedcdpmflcegbaa

/-- A word over i symbols. -/
def Wd (i : Nat) (u : List Int) : Prop := ∀ x, x ∈ u → 0 ≤ x ∧ x < i
theorem Wd.nil (i : Nat) : Wd i [] := fun x h => by simp at h
theorem Wd.cons {i a : Nat} {u : List Int} (ha : a < i) (h : Wd i u) : Wd i ((a : Int) :: u) := fun x hx => by
  rcases List.mem_cons.1 hx with rfl | hx
  · omega
  · exact h x hx
theorem Wd.tail {i : Nat} {x : Int} {u : List Int} (h : Wd i (x :: u)) : Wd i u := fun y hy => h y (by simp [hy])
theorem Wd.head {i : Nat} {x : Int} {u : List Int} (h : Wd i (x :: u)) : ∃ a : Nat, x = a ∧ a < i := ⟨x.toNat, by have := h x (by simp); omega, by have := h x (by simp); omega⟩

/-- Two states have the same outputs for all words. -/
def Bis (i : Nat) (nx ot : List (List Int)) (s : Nat) (mx mt : List (List Int)) (t : Nat) : Prop := ∀ u, Wd i u → runO nx ot s u = runO mx mt t u
section
variable {i : Nat} {nx ot mx mt lx lt : List (List Int)} {s t r a : Nat}
theorem Bis.refl (i : Nat) (nx ot : List (List Int)) (s : Nat) : Bis i nx ot s nx ot s := fun _ _ => rfl
theorem Bis.symm (h : Bis i nx ot s mx mt t) : Bis i mx mt t nx ot s := fun u hu => (h u hu).symm
theorem Bis.trans (h : Bis i nx ot s mx mt t) (k : Bis i mx mt t lx lt r) : Bis i nx ot s lx lt r := fun u hu => (h u hu).trans (k u hu)
theorem Bis.out (h : Bis i nx ot s mx mt t) (ha : a < i) : oN ot s a = oN mt t a := by
  have := h [(a : Int)] ((Wd.nil i).cons ha)
  simpa [runO] using this
theorem Bis.next (h : Bis i nx ot s mx mt t) (ha : a < i) : Bis i nx ot (nN nx s a) mx mt (nN mx t a) := fun u hu => by
  have := h ((a : Int) :: u) (hu.cons ha)
  simp only [runO, Int.toNat_natCast, List.cons.injEq] at this
  exact this.2
end

end Go.Proofs.Ytedcdpmflcegbaa
end

section
/- The tracker visits and follows. -/
namespace Go.Proofs.Ytedcdpmflcegbaa
open Go.RowKit

/-- Only the tracker's block g, and what lies behind it, may have turned; blocks of other types are kept. -/
def Trw (g : Nat) (w w' : World) : Prop := Below g w w' ∧ ∀ t, t ≠ 74 → KeptT t w w'
theorem Trw.refl (g : Nat) (w : World) : Trw g w w := ⟨Below.refl _ _, fun _ _ => KeptT.refl _ _⟩
theorem Trw.trans {g : Nat} {a b c : World} (h : Trw g a b) (k : Trw g b c) : Trw g a c := ⟨h.1.trans k.1, fun t ht => (h.2 t ht).trans (k.2 t ht)⟩
theorem Trw.drewN {g : Nat} {a b : World} (h : Trw g a b) (q : Nat) : Trw g a (b.drewN q) := ⟨below_drewN h.1 q, fun t ht => (h.2 t ht).trans (KeptT.drewN t b q)⟩
theorem Trw.set {g : Nat} {w : World} {a b X Y : Value} {T : Tk} (h : Trk w g a b X Y T) (k : Nat) (v : Value) : Trw g w (w.setCell ⟨g, k, none⟩ v) := ⟨(Below.refl g w).setCell (p := ⟨g, k, none⟩) (Nat.le_refl _) v, fun _ ht => KeptT.off h ht v⟩

set_option maxHeartbeats 4000000 in
set_option maxRecDepth 100000 in
theorem pvisit (g : Nat) (a b X Y : Value) (T : Tk) (w : World) (hT : Trk w g a b X Y T) (hp : T.pos < 128) (hn : T.ns < 4611686018427387904) :
    Calls Try.prog 44 #[.pointer (some ⟨g, 0, none⟩)] w fun e w' => e = .returned (.tuple #[]) ∧ Trk w' g a b X Y T.vst ∧ Trw g w w' := by
  obtain ⟨_, _, _, _, k4⟩ := hT.fix
  have kv := hT.vis hp
  have HT := Lib.hid hT
  have fv := hT.frz (5 + T.pos)
  clear hT
  cases hv : T.vis T.pos with
  | true =>
    rw [hv] at kv
    have HV := Lib.hid (show T.vst = T by unfold Tk.vst; rw [if_pos hv])
    generalize hP : T.pos = P at k4 kv hp fv
    clear hv hP
    go_enter Try.func44, Try.ntmps44
    go_wp2
    go_quiet (fail)
    go_wp2
    go_end0
    exact ⟨rfl, by rw [HV.out]; exact HT.out, (Trw.refl g w).drewN _⟩
  | false =>
    rw [hv] at kv
    have HV := Lib.hid (show T.vst = { T with vis := fun a => T.vis a || a == T.pos, ns := T.ns + 1 } by unfold Tk.vst; rw [hv]; rfl)
    have HP8 := Lib.hid hp
    generalize hP : T.pos = P at k4 kv hp fv
    have HP := Lib.hid hP
    clear hv hP
    go_enter Try.func44, Try.ntmps44
    go_wp2
    go_quiet (fail)
    go_wp2
    go_region
    have hT1 : Trk (w.drewN (nq + 1)) g a b X Y T := HT.out
    have hW2 := (Trw.drewN (Trw.refl g w) (nq + 1)).trans (Trw.set hT1 (5 + P) (.bool true))
    have hT2 := hT1.setVis T.pos HP8.out
    rw [HP.out] at hT2
    generalize (w.drewN (nq + 1)).setCell ⟨g, 5 + P, none⟩ (.bool true) = w2 at hT2 hW2 ⊢
    obtain ⟨c0, _⟩ := hT2.cnt
    have f0 := hT2.frz 8325
    have c0 : w2.cell? ⟨g, 8325, none⟩ = some (.int .i64 (T.ns : Int)) := c0
    have HT2 := Lib.hid hT2
    have HW2 := Lib.hid hW2
    clear hT1 hT2 hW2 k4 kv fv
    go_wp2
    go_end0
    refine ⟨rfl, ?_, HW2.out.trans (Trw.set HT2.out 8325 _)⟩
    rw [HV.out]
    have h := HT2.out.setNs (T.ns + 1)
    rw [Int.natCast_add] at h
    rw [HP.out]
    exact h
theorem Tk.fol_snoc (nx : List (List Int)) (u : List Int) (x : Int) (T : Tk) : T.fol nx (u ++ [x]) = (T.fol nx u).go nx x.toNat := by rw [Tk.fol_app]; rfl
theorem take_snoc {u : List Int} {j : Nat} (h : j < u.length) : u.take (j + 1) = u.take j ++ [u.getD j 0] := by
  rw [List.take_succ_eq_append_getElem h, List.getD_eq_getElem?_getD, List.getElem?_eq_getElem h]; rfl
theorem runS_lt {i st n : Nat} {nx ot : List (List Int)} (hM : Mok i st n nx ot) : ∀ (u : List Int) (s : Nat), s < n → Wd i u → runS nx s u < n
  | [], s, hs, _ => hs
  | x :: u, s, hs, hu => by
    obtain ⟨a, rfl, ha⟩ := hu.head
    show runS nx (nN nx s ((a : Int)).toNat) u < n
    rw [Int.toNat_natCast]
    exact runS_lt hM u _ (hM.nN_lt hs ha) hu.tail

set_option maxHeartbeats 8000000 in
set_option maxRecDepth 100000 in
theorem pfollow (g i n k e : Nat) (st : Nat) (A D : Option Addr) (c : Nat) (Y : Value) (nx ot : List (List Int)) (T : Tk) (ws : List Int) (w0 w : World) (hx : Lists w0 A n nx) (hb0 : Below w0.heap.size w0 w) (hg0 : w0.heap.size ≤ g) (hM : Mok i st n nx ot) (hT : Trk w g (.int .i64 i) (.int .i64 st) (.slice A n c) Y T) (hp : T.pos < n) (hW : Wd i ws) (hD : ∀ W, Trw g w W → Ints W D k ws) (h1 : T.ns + k < 4611686018427387904) (h2 : T.nt + k < 4611686018427387904) :
    Calls Try.prog 40 #[.pointer (some ⟨g, 0, none⟩), .slice D k e] w fun r w' => r = .returned (.tuple #[]) ∧ Trk w' g (.int .i64 i) (.int .i64 st) (.slice A n c) Y (T.fol nx ws) ∧ Trw g w w' := by
  have hk := (hD w (Trw.refl g w)).1
  have hk2 := (hD w (Trw.refl g w)).2.1
  have hi64 := hM.i2
  have hn2 := hM.n2
  have HT := Lib.hid hT
  have HD := Lib.hid hD
  have HWW := Lib.hid hW
  have HB0 := Lib.hid hb0
  clear hT hD hW hb0
  go_enter Try.func40, Try.ntmps40
  go_wp2
  go_loopw [8] (fun v8 wr => ∃ (j : Nat), j ≤ k ∧ v8 = .int .i64 j ∧ Trk wr g (.int .i64 i) (.int .i64 st) (.slice A n c) Y (T.fol nx (ws.take j)) ∧ Trw g w wr) (fun v8 _ => k - (intOf v8).toNat)
  case atStart => exact ⟨0, Nat.zero_le _, rfl, by rw [List.take_zero]; exact HT.out, Trw.refl g w⟩
  case round =>
    obtain ⟨j, hj, rfl, hT, hw⟩ := hrel
    by_cases hlt : j < k
    · obtain ⟨gD, oD, eD, hgD, hcD⟩ := (HD.out wr hw).at_ hlt
      subst eD
      have hmem := HWW.out (ws.getD j 0) (by rw [List.getD_eq_getElem?_getD, List.getElem?_eq_getElem (by omega)]; exact List.getElem_mem _)
      obtain ⟨y, hy⟩ : ∃ y : Nat, ws.getD j 0 = y := ⟨(ws.getD j 0).toNat, by omega⟩
      rw [hy] at hcD hmem
      have hyi : y < i := by omega
      have hnx : T.fol nx (ws.take (j + 1)) = (T.fol nx (ws.take j)).go nx y := by rw [take_snoc (by omega), Tk.fol_snoc, hy, Int.toNat_natCast]
      have HNX := Lib.hid hnx
      have hn1 := Tk.fol_n nx (ws.take j) T
      rw [List.length_take] at hn1
      have hps : (T.fol nx (ws.take j)).pos < n := by rw [Tk.fol_pos]; exact runS_lt hM _ _ hp fun x hx => HWW.out x (List.mem_of_mem_take hx)
      generalize T.fol nx (ws.take j) = T1 at hT hn1 hps HNX
      obtain ⟨k0, k1, k2, k3, k4⟩ := hT.fix
      have kt := hT.tkn (p := T1.pos) (x := y) (by omega) (by omega)
      have ft := hT.frz (133 + T1.pos * 64 + y)
      obtain ⟨gA, oA, A1, nA, cA, eA, hgA, hdA, hrA⟩ := hx.at_ hps
      have m1 := hrA.1
      have w1' := (hM.row T1.pos hps).1
      obtain rfl : i = nA := by omega
      subst eA
      obtain ⟨hA2, iA2, eA2, lA, vA⟩ := hrA.at_ hyi
      subst eA2
      have rA : (nx.getD T1.pos []).getD y 0 = ((nN nx T1.pos y : Nat) : Int) := hM.nN_eq hps hyi
      rw [rA] at vA
      have hq := hM.nN_lt hps hyi
      have hbw : Below w0.heap.size w0 wr := HB0.out.trans (hw.1.mono hg0)
      have hdA := (hbw.cell (p := ⟨gA, oA + T1.pos, none⟩) hgA).trans hdA
      have vA := (hbw.cell (p := ⟨hA2, iA2 + y, none⟩) lA).trans vA
      have HT1 := Lib.hid hT
      have HW := Lib.hid hw
      have hpos8 : T1.pos < 128 := by omega
      obtain ⟨P, hP⟩ : ∃ P, P = T1.pos := ⟨_, rfl⟩
      rw [← hP] at k4 kt ft hdA hpos8 hps
      obtain ⟨q, hqq⟩ : ∃ q, q = nN nx T1.pos y := ⟨_, rfl⟩
      rw [← hqq] at vA hq
      have HQ := Lib.hid hqq
      have HP := Lib.hid hP
      have HKA := Lib.hid (show ∀ W, Trw g wr W → W.cell? ⟨gA, oA + P, none⟩ = some (.slice (some ⟨hA2, iA2, none⟩) i cA) ∧ W.cell? ⟨hA2, iA2 + y, none⟩ = some (.int .i64 q) from fun W h => by
        have h9 := h.1.mono hg0
        exact ⟨(h9.cell (p := ⟨gA, oA + P, none⟩) hgA).trans hdA, (h9.cell (p := ⟨hA2, iA2 + y, none⟩) lA).trans vA⟩)
      clear hT hw m1 w1' hrA rA hmem hy hnx hP hqq hbw hgD lA
      cases htk : T1.tk P y with
      | true =>
        rw [htk] at kt
        have HMK := Lib.hid (show T1.mrk y = T1 by unfold Tk.mrk; rw [← HP.out, if_pos htk])
        clear htk
        go_wp2
        go_quiet (fail)
        clear kt ft k4 k0 k1 k2 k3 hdA vA hcD
        have hW2 := (Trw.refl g wr).drewN nq
        have hT2 : Trk (wr.drewN nq) g (.int .i64 i) (.int .i64 st) (.slice (some ⟨gA, oA, none⟩) n c) Y (T1.mrk y) := by rw [HMK.out]; exact HT1.out
        generalize wr.drewN nq = w2 at hW2 hT2 ⊢
        have hpm : (T1.mrk y).pos = P := by rw [Tk.mrk_pos, ← HP.out]
        have hnm := Tk.mrk_n T1 y
        have HG2 := Lib.hid (show T1.go nx y = ((T1.mrk y).to q).vst by rw [HQ.out]; rfl)
        generalize T1.mrk y = T2 at hT2 hpm hnm HG2
        obtain ⟨k0, k1, k2, k3, k4⟩ := hT2.fix
        rw [hpm] at k4
        obtain ⟨hdA, vA⟩ := HKA.out w2 hW2
        have f4 := hT2.frz 4
        have HT2 := Lib.hid hT2
        have HW2 := Lib.hid hW2
        clear hT2 hW2
        go_wp2
        go_region
        clear k0 k1 k2 k3 k4 hdA vA f4
        have hT3 : Trk (w2.setCell ⟨g, 4, none⟩ (.int .i64 q)).drew g (.int .i64 i) (.int .i64 st) (.slice (some ⟨gA, oA, none⟩) n c) Y (T2.to q) := HT2.out.setPos q
        have hW3 : Trw g wr (w2.setCell ⟨g, 4, none⟩ (.int .i64 q)).drew := (HW2.out.trans (Trw.set HT2.out 4 (.int .i64 q))).drewN 1
        generalize (w2.setCell ⟨g, 4, none⟩ (.int .i64 q)).drew = w3 at hT3 hW3 ⊢
        have HW3 := Lib.hid hW3
        clear hW3
        go_wp2_with fail
        refine (pvisit g _ _ _ _ _ w3 hT3 (by show q < 128; omega) (by show T2.ns < _; omega)).mono ?_
        rintro r w4 ⟨rfl, hT4, hW4⟩
        rw [← HG2.out, ← HNX.out] at hT4
        have HT4 := Lib.hid hT4
        have HW4 := Lib.hid ((HW.out.trans HW3.out).trans hW4)
        clear hT4 hW4 hT3
        go_wp2
        go_roundw
        case rel => exact ⟨j + 1, by omega, by go_num, HT4.out, HW4.out⟩
        case measure => simp [intOf]; omega
      | false =>
        rw [htk] at kt
        have HMK := Lib.hid (show T1.mrk y = { T1 with tk := fun p z => T1.tk p z || (p == P && z == y), nt := T1.nt + 1 } by unfold Tk.mrk; rw [← HP.out, htk]; rw [HP.out]; rfl)
        clear htk
        go_wp2
        go_quiet (fail)
        have hT2 : Trk (wr.drewN nq) g (.int .i64 i) (.int .i64 st) (.slice (some ⟨gA, oA, none⟩) n c) Y T1 := HT1.out
        have hW2 : Trw g wr (wr.drewN nq) := (Trw.refl g wr).drewN nq
        go_wp2
        go_region
        clear kt ft k4 k0 k1 k2 k3 hdA vA hcD
        have hW2 := ((Trw.refl g wr).drewN (nq + 1)).trans (Trw.set (show Trk (wr.drewN (nq + 1)) g _ _ _ _ _ from HT1.out) (133 + P * 64 + y) (.bool true))
        have hT2 := (show Trk (wr.drewN (nq + 1)) g _ _ _ _ _ from HT1.out).setTkn P y hpos8 (by omega)
        generalize (wr.drewN (nq + 1)).setCell ⟨g, 133 + P * 64 + y, none⟩ (.bool true) = w1 at hW2 hT2 ⊢
        obtain ⟨_, c1⟩ := hT2.cnt
        have c1 : w1.cell? ⟨g, 8326, none⟩ = some (.int .i64 (T1.nt : Int)) := c1
        have f1 := hT2.frz 8326
        have HT2 := Lib.hid hT2
        have HW2 := Lib.hid hW2
        clear hT2 hW2
        have hKA : Hid (∀ W, Trw g w1 W → W.cell? ⟨gA, oA + P, none⟩ = some (.slice (some ⟨hA2, iA2, none⟩) i cA) ∧ W.cell? ⟨hA2, iA2 + y, none⟩ = some (.int .i64 q)) := Lib.hid fun W h => HKA.out W (HW2.out.trans h)
        have h9 := HT2.out.setNt (T1.nt + 1)
        rw [Int.natCast_add] at h9
        have h8 := HW2.out.trans (Trw.set HT2.out 8326 (.int .i64 ((T1.nt : Int) + ((1 : Nat) : Int))))
        have hcast : ((1 : Nat) : Int) = 1 := rfl
        rw [hcast] at h8 h9
        rw [show ({ T1 with tk := fun p z => T1.tk p z || (p == P && z == y), nt := T1.nt + 1 } : Tk) = T1.mrk y from HMK.out.symm] at h9
        have hpm : (T1.mrk y).pos = P := by rw [Tk.mrk_pos, ← HP.out]
        have hnm := Tk.mrk_n T1 y
        have HG2 := Lib.hid (show T1.go nx y = ((T1.mrk y).to q).vst by rw [HQ.out]; rfl)
        have hnt1 : (T1.nt : Int) + 1 < 9223372036854775808 := by omega
        generalize T1.mrk y = T2 at h9 hpm hnm HG2
        obtain ⟨w2, hw2⟩ : ∃ w2, w2 = w1.setCell ⟨g, 8326, none⟩ (.int .i64 ((T1.nt : Int) + 1)) := ⟨_, rfl⟩
        rw [← hw2] at h8 h9
        obtain ⟨k0, k1, k2, k3, k4⟩ := h9.fix
        rw [hpm] at k4
        obtain ⟨hdA, vA⟩ := HKA.out w2 h8
        have f4 := h9.frz 4
        have HT2 := Lib.hid h9
        have HW2 := Lib.hid h8
        rw [hw2] at k0 k1 k2 k3 k4 hdA vA f4
        have HWW2 := Lib.hid hw2
        clear h8 h9 hcast hw2
        go_wp2
        go_region
        rw [← HWW2.out]
        clear k0 k1 k2 k3 k4 hdA vA f4
        have hT3 : Trk (w2.setCell ⟨g, 4, none⟩ (.int .i64 q)).drew g (.int .i64 i) (.int .i64 st) (.slice (some ⟨gA, oA, none⟩) n c) Y (T2.to q) := HT2.out.setPos q
        have hW3 : Trw g wr (w2.setCell ⟨g, 4, none⟩ (.int .i64 q)).drew := (HW2.out.trans (Trw.set HT2.out 4 (.int .i64 q))).drewN 1
        generalize (w2.setCell ⟨g, 4, none⟩ (.int .i64 q)).drew = w3 at hT3 hW3 ⊢
        have HW3 := Lib.hid hW3
        clear hW3
        go_wp2_with fail
        refine (pvisit g _ _ _ _ _ w3 hT3 (by show q < 128; omega) (by show T2.ns < _; omega)).mono ?_
        rintro r w4 ⟨rfl, hT4, hW4⟩
        rw [← HG2.out, ← HNX.out] at hT4
        have HT4 := Lib.hid hT4
        have HW4 := Lib.hid ((HW.out.trans HW3.out).trans hW4)
        clear hT4 hW4 hT3
        go_wp2
        go_roundw
        case rel => exact ⟨j + 1, by omega, by go_num, HT4.out, HW4.out⟩
        case measure => simp [intOf]; omega
    · obtain rfl : j = k := by omega
      rw [List.take_of_length_le (by omega)] at hT
      go_wp2
      go_end0
      exact ⟨rfl, hT, hw⟩
end Go.Proofs.Ytedcdpmflcegbaa
end

section
/- The nearest transition that is left. -/
namespace Go.Proofs.Ytedcdpmflcegbaa
open Go.RowKit Go.Shelf

theorem entN : ∀ args w, (callFunc 59 args).run Try.prog w = .ok (.enter 59 args) w := enters_of Try.func59 (by kernel_rfl) rfl

set_option maxHeartbeats 1000000 in
theorem pnear1 (g b p x : Nat) (a1 a2 X Y : Value) (T : Tk) (W : World) (hT : Trk W g a1 a2 X Y T) (hb : W.cell? ⟨b, 0, none⟩ = some (.pointer (some ⟨g, 0, none⟩))) (hp : p < 128) (hx : x < 64) :
    Calls Try.prog 59 #[.int .i64 (p : Int), .int .i64 (x : Int), .pointer (some ⟨b, 0, none⟩)] W fun e w' => e = .returned (.bool (!T.tk p x)) ∧ ∃ q, w' = W.drewN q := by
  have kt := hT.tkn hp hx
  generalize T.tk p x = v at kt
  go_enter Try.func59, Try.ntmps59
  go_wp2
  go_ret
  exact ⟨rfl, by first | exact ⟨0, rfl⟩ | exact ⟨_, rfl⟩⟩

/-- The word of the nearest transition. -/
def nrW (nx : List (List Int)) (T : Tk) (i n : Nat) : Option (List Int) := (frs (fun p x => !T.tk p x) i (exs nx i n T.pos)).map fun y => y.1.w ++ [(y.2 : Int)]
theorem sk_chn {nx ot : List (List Int)} {h : Nat → Nat → Bool} {i st n s : Nat} (hM : Mok i st n nx ot) : ∀ (k : Nat) (E : List Ent) (j : Nat), Ens n 1 s 0 E → Chn (sk nx h i k E j).1 ∧ (sk nx h i k E j).1.length ≤ n + 1
  | 0, E, j, hE => ⟨hE.chn, by have := hE.len; show E.length ≤ _; omega⟩
  | k + 1, E, j, hE => by
    rw [sk]
    by_cases hj : j < E.length
    · rw [if_pos hj]
      cases hf : fH h (E.getD j Ent.zero) i with
      | none => exact sk_chn hM k _ _ (addS_ens hM (one_ok hM) hE hj i (Nat.le_refl _))
      | some x =>
        have hx := (fH_some hf).1
        have h1 := addS_ens hM (one_ok hM) hE hj x (by omega)
        obtain ⟨T, hT⟩ := addS_pre (nx1 := nx) (nx2 := oneN i) j (E.getD j Ent.zero) E x
        refine ⟨h1.chn.add (by rw [hT, List.length_append]; show j < _; omega) ?_, by have := h1.len; rw [List.length_append]; show _ + 1 ≤ _; omega⟩
        show _ = ((addS nx (oneN i) j (E.getD j Ent.zero) E x).getD j Ent.zero).w ++ _
        rw [hT, getDE_pre hj]; rfl
    · rw [if_neg hj]
      exact ⟨hE.chn, by have := hE.len; show E.length ≤ _; omega⟩
theorem seek_chn {nx ot : List (List Int)} {h : Nat → Nat → Bool} {i st n s : Nat} (hM : Mok i st n nx ot) (hs : s < n) : Chn (seekE nx h i n s).1 ∧ (seekE nx h i n s).1.length ≤ n + 1 := sk_chn hM n _ 0 (Ens.one hs (by decide))
theorem nrW_none {nx ot : List (List Int)} {T : Tk} {i st n : Nat} (hM : Mok i st n nx ot) (hp : T.pos < n) (h : nrW nx T i n = none) : (seekE nx (fun p x => !T.tk p x) i n T.pos).2 = false := by
  have h1 := seekE_frs (h := fun p x => !T.tk p x) hM hp
  unfold nrW at h
  cases hf : frs (fun p x => !T.tk p x) i (exs nx i n T.pos) with
  | some y => rw [hf] at h; exact absurd h (by simp)
  | none => rw [hf] at h1; rw [h1]
theorem nrW_some {nx ot : List (List Int)} {T : Tk} {i st n : Nat} {u : List Int} (hM : Mok i st n nx ot) (hp : T.pos < n) (h : nrW nx T i n = some u) : (seekE nx (fun p x => !T.tk p x) i n T.pos).2 = true ∧ ((seekE nx (fun p x => !T.tk p x) i n T.pos).1.getD ((seekE nx (fun p x => !T.tk p x) i n T.pos).1.length - 1) Ent.zero).w = u := by
  have h1 := seekE_frs (h := fun p x => !T.tk p x) hM hp
  unfold nrW at h
  cases hf : frs (fun p x => !T.tk p x) i (exs nx i n T.pos) with
  | none => rw [hf] at h; exact absurd h (by simp)
  | some y =>
    obtain ⟨e, x⟩ := y
    rw [hf] at h h1
    obtain ⟨F, a, h2⟩ := h1
    rw [h2]
    refine ⟨rfl, ?_⟩
    have e1 : (F ++ [nxE nx (oneN i) a e x]).length - 1 = F.length := by rw [List.length_append]; rfl
    show ((F ++ [nxE nx (oneN i) a e x]).getD ((F ++ [nxE nx (oneN i) a e x]).length - 1) Ent.zero).w = u
    rw [e1, getDE_last]
    exact Option.some.inj h

set_option maxHeartbeats 4000000 in
set_option maxRecDepth 100000 in
theorem pnearest (g i st n : Nat) (A B : Option Addr) (c d : Nat) (nx ot : List (List Int)) (T : Tk) (w0 w : World) (hx : Lists w0 A n nx) (hb0 : Below w0.heap.size w0 w) (hM : Mok i st n nx ot) (hT : Trk w g (.int .i64 i) (.int .i64 st) (.slice A n c) (.slice B n d) T) (hp : T.pos < n) :
    Calls Try.prog 39 #[.pointer (some ⟨g, 0, none⟩)] w fun r w' => ∃ A' c', r = .returned (.tuple #[.slice A' ((nrW nx T i n).getD []).length c', .bool (nrW nx T i n).isSome]) ∧ Owned w' w.heap.size (.slice A' ((nrW nx T i n).getD []).length c') ((nrW nx T i n).getD []) ∧ Below w.heap.size w w' := by
  have hi64 := hM.i2
  have hn2 := hM.n2
  have hg := heap_lt hT
  obtain ⟨w1, hw1⟩ : ∃ w1, w1 = w.alloc (.cells #[.pointer (some ⟨g, 0, none⟩)] 96) := ⟨_, rfl⟩
  have hb1 : Below w.heap.size w w1 := by rw [hw1]; exact alloc_below _ _
  have hbx : w1.heap[w.heap.size]? = some (.cells #[.pointer (some ⟨g, 0, none⟩)] 96 (0, 0)) := by rw [hw1]; exact heap_alloc_new w _
  have hz1 : w1.heap.size = w.heap.size + 1 := by rw [hw1]; simp
  have hT1 := hT.below hb1
  have HT := Lib.hid hT1
  have HX := Lib.hid (show ∀ W, Below w1.heap.size w1 W → Lists W A n nx from fun W h => hx.below (hb0.trans ((hb1.trans (h.mono hb1.size)).mono hb0.size)))
  have HP := Lib.hid (show ∀ W, Below w1.heap.size w1 W → W.cell? ⟨w.heap.size, 0, none⟩ = some (.pointer (some ⟨g, 0, none⟩)) from fun W h => by
    rw [cell_of_row W w.heap.size 0 _ _ (0, 0) ((h.block _ (by omega)).trans hbx)]; rfl)
  have HS := Lib.hid (show ∀ W, Below w1.heap.size w1 W → W.cell? ⟨w.heap.size, 0, none⟩ = some (.pointer (some ⟨g, 0, none⟩)) ∧ W.cell? ⟨g, 0, none⟩ = some (.int .i64 i) ∧ W.cell? ⟨g, 1, none⟩ = some (.int .i64 st) ∧ W.cell? ⟨g, 2, none⟩ = some (.slice A n c) ∧ W.cell? ⟨g, 3, none⟩ = some (.slice B n d) ∧ W.cell? ⟨g, 4, none⟩ = some (.int .i64 (T.pos : Int)) from fun W h => by
    obtain ⟨k0, k1, k2, k3, k4⟩ := (HT.out.below h).fix
    exact ⟨HP.out W h, k0, k1, k2, k3, k4⟩)
  have HSK := Lib.hid (show ∀ W, Below w1.heap.size w1 W → Calls Try.prog 55 #[.agg #[.int .i64 i, .int .i64 st, .slice A n c, .slice B n d], .int .i64 T.pos, .func (.func 59) #[] #[.pointer (some ⟨w.heap.size, 0, none⟩)]] W fun e w' => ∃ A' c',
      e = .returned (.tuple #[.slice A' (seekE nx (fun p x => !T.tk p x) i n T.pos).1.length c', .bool (seekE nx (fun p x => !T.tk p x) i n T.pos).2]) ∧ Rws w' W.heap.size 95 3 (.slice A' (seekE nx (fun p x => !T.tk p x) i n T.pos).1.length c') ((seekE nx (fun p x => !T.tk p x) i n T.pos).1.map cellsC) ∧ Below W.heap.size W w' from fun W h => by
    refine pseek 59 #[.pointer (some ⟨w.heap.size, 0, none⟩)] i st n T.pos A B c d nx ot W _ (HX.out W h) hM hp entN fun W2 h2 p x hp2 hx2 => ?_
    have h3 := h.trans (h2.mono h.size)
    exact pnear1 g w.heap.size p x _ _ _ _ T W2 (HT.out.below h3) (HP.out W2 h3) (by omega) (by omega))
  obtain ⟨Q, hQ⟩ : ∃ Q, Q = seekE nx (fun p x => !T.tk p x) i n T.pos := ⟨_, rfl⟩
  have HQ := Lib.hid hQ
  rw [← hQ] at HSK
  have hbc : Below w1.heap.size w1 w1.drew := (Below.refl _ w1).drew
  have HW1 := Lib.hid hw1
  have HB1 := Lib.hid hb1
  clear hT hw1 hb1 hbx hT1 hQ
  go_enter Try.func39, Try.ntmps39
  go_wp2
  rw [← HW1.out]
  go_region_held3 (fun W => W.cell? ⟨w.heap.size, 0, none⟩ = some (.pointer (some ⟨g, 0, none⟩)) ∧ W.cell? ⟨g, 0, none⟩ = some (.int .i64 i) ∧ W.cell? ⟨g, 1, none⟩ = some (.int .i64 st) ∧ W.cell? ⟨g, 2, none⟩ = some (.slice A n c) ∧ W.cell? ⟨g, 3, none⟩ = some (.slice B n d) ∧ W.cell? ⟨g, 4, none⟩ = some (.int .i64 (T.pos : Int))) (first | exact HS.out _ hbc) ((go_at_call 55; refine (HSK.out _ hbc).mono ?_; rintro e w' ⟨A', c', rfl, hR', b'⟩; have hbc := bt hbc b'))
  obtain ⟨w2, hw2⟩ : ∃ w2, w2 = w' := ⟨_, rfl⟩
  rw [← hw2] at hR' hbc ⊢
  clear hw2
  have HB2 := Lib.hid (HB1.out.trans (hbc.mono HB1.out.size))
  obtain ⟨hch, hlen⟩ := seek_chn (h := fun p x => !T.tk p x) hM hp
  rw [← HQ.out] at hch hlen
  clear hbc HW1
  cases hr : nrW nx T i n with
  | none =>
    have hq := nrW_none hM hp hr
    rw [← HQ.out] at hq
    rw [hq]
    have HR := Lib.hid hr
    clear hr hq hch hR'
    go_wp2
    go_ret2
    rw [HR.out]
    exact ⟨none, 0, rfl, World.ownsRow_nil _ _ _ _, HB2.out⟩
  | some u =>
    obtain ⟨hq, hu⟩ := nrW_some hM hp hr
    rw [← HQ.out] at hq hu
    rw [hq]
    obtain ⟨k, hk⟩ : ∃ k, Q.1.length = k + 1 := ⟨Q.1.length - 1, by have := hch.ne; omega⟩
    obtain ⟨g3, c3, e3, hg3, hC3⟩ := hR'.crv hch.ne
    cases e3
    have hk1 : Q.1.length - 1 = k := by omega
    rw [hk1] at hu
    have hpw := Lib.hid (pword g3 c' k Q.1 w2 hC3 hch (by omega) (by omega))
    rw [hu, hk] at hpw
    have hul : u.length ≤ k := by rw [← hu]; exact hch.wl k (by omega)
    rw [hk]
    have hkb : k ≤ 128 := by omega
    have HR := Lib.hid hr
    clear hr hq hu hch hR' hC3 hk1 hk hlen
    go_wp2_with fail
    refine hpw.out.mono ?_
    rintro e w3 ⟨A4, c4, rfl, hO, hb⟩
    go_wp2
    go_ret2
    rw [HR.out]
    exact ⟨A4, c4, rfl, hO.lower HB2.out.size, HB2.out.trans (hb.mono HB2.out.size)⟩
end Go.Proofs.Ytedcdpmflcegbaa
end

section
/- A distinguishing word is found just if the outputs differ. -/
namespace Go.Proofs.Ytedcdpmflcegbaa

theorem fD_some {ot1 ot2 : List (List Int)} {e : Ent} {y : Nat} : ∀ {x : Nat}, fD ot1 ot2 e x = some y → y < x ∧ ¬ oN ot1 e.p y = oN ot2 e.q y ∧ ∀ a, a < y → oN ot1 e.p a = oN ot2 e.q a
  | 0, h => by simp [fD] at h
  | x + 1, h => by
    rw [fD] at h
    cases h1 : fD ot1 ot2 e x with
    | some z =>
      rw [h1] at h
      injection h with h
      subst h
      obtain ⟨a, b, c⟩ := fD_some h1
      exact ⟨by omega, b, c⟩
    | none =>
      rw [h1] at h
      by_cases h2 : oN ot1 e.p x = oN ot2 e.q x
      · simp [h2] at h
      · simp [h2] at h
        subst h
        exact ⟨by omega, h2, fD_none h1⟩
theorem runS_app (nx : List (List Int)) : ∀ (u v : List Int) (s : Nat), runS nx s (u ++ v) = runS nx (runS nx s u) v
  | [], _, _ => rfl
  | x :: u, v, s => by
    show runS nx (nN nx s x.toNat) (u ++ v) = _
    rw [runS_app nx u v]; rfl
theorem runO_app (nx ot : List (List Int)) : ∀ (u v : List Int) (s : Nat), runO nx ot s (u ++ v) = runO nx ot s u ++ runO nx ot (runS nx s u) v
  | [], _, _ => rfl
  | x :: u, v, s => by
    show oN ot s x.toNat :: runO nx ot (nN nx s x.toNat) (u ++ v) = _
    rw [runO_app nx ot u v]; rfl
theorem Wd.app {i : Nat} {u v : List Int} (h : Wd i u) (k : Wd i v) : Wd i (u ++ v) := fun x hx => (List.mem_append.1 hx).elim (h x) (k x)
theorem Wd.one {i a : Nat} (h : a < i) : Wd i [(a : Int)] := (Wd.nil i).cons h
/-- What the words of the entries do. -/
def Gd (nx1 nx2 ot1 ot2 : List (List Int)) (i s t : Nat) (e : Ent) : Prop := Wd i e.w ∧ runS nx1 s e.w = e.p ∧ runS nx2 t e.w = e.q ∧ runO nx1 ot1 s e.w = runO nx2 ot2 t e.w
section
variable {nx1 nx2 ot1 ot2 : List (List Int)} {i n m s t j : Nat} {E : List Ent} {e : Ent}
theorem Gd.next (h : Gd nx1 nx2 ot1 ot2 i s t e) {x : Nat} (hx : x < i) (ho : oN ot1 e.p x = oN ot2 e.q x) : Gd nx1 nx2 ot1 ot2 i s t (nxE nx1 nx2 j e x) := by
  obtain ⟨h1, h2, h3, h4⟩ := h
  refine ⟨h1.app (Wd.one hx), ?_, ?_, ?_⟩
  · show runS nx1 s (e.w ++ [(x : Int)]) = _
    rw [runS_app, h2]; rfl
  · show runS nx2 t (e.w ++ [(x : Int)]) = _
    rw [runS_app, h3]; rfl
  · show runO nx1 ot1 s (e.w ++ [(x : Int)]) = runO nx2 ot2 t (e.w ++ [(x : Int)])
    rw [runO_app, runO_app, h4, h2, h3]
    show _ ++ [oN ot1 e.p x] = _ ++ [oN ot2 e.q x]
    rw [ho]
theorem mem_addE {x : Ent} (h : x ∈ addE E e) : x ∈ E ∨ x = e := by
  unfold addE at h
  split at h
  · exact .inl h
  · rcases List.mem_append.1 h with h | h
    · exact .inl h
    · simp at h; exact .inr h
theorem Gd.addS (hE : ∀ x, x ∈ E → Gd nx1 nx2 ot1 ot2 i s t x) (he : Gd nx1 nx2 ot1 ot2 i s t e) : ∀ x, x ≤ i → (∀ a, a < x → oN ot1 e.p a = oN ot2 e.q a) → ∀ y, y ∈ _root_.Go.Proofs.Ytedcdpmflcegbaa.addS nx1 nx2 j e E x → Gd nx1 nx2 ot1 ot2 i s t y
  | 0, _, _, y, hy => hE y hy
  | x + 1, hx, ho, y, hy => by
    rcases mem_addE hy with hy | rfl
    · exact Gd.addS hE he x (by omega) (fun a ha => ho a (by omega)) y hy
    · exact he.next (by omega) (ho x (by omega))
theorem srch_sound {v : List Int} : ∀ (k : Nat) (E : List Ent) (j : Nat), (∀ x, x ∈ E → Gd nx1 nx2 ot1 ot2 i s t x) → srch nx1 nx2 ot1 ot2 i k E j = some v →
    ∃ w x, v = w ++ [((x : Nat) : Int)] ∧ x < i ∧ Wd i w ∧ runO nx1 ot1 s w = runO nx2 ot2 t w ∧ ¬ oN ot1 (runS nx1 s w) x = oN ot2 (runS nx2 t w) x
  | 0, _, _, _, h => by simp [srch] at h
  | k + 1, E, j, hE, h => by
    rw [srch] at h
    by_cases hj : j < E.length
    · rw [if_pos hj] at h
      have he := hE _ (getDE_mem hj)
      cases hd : fD ot1 ot2 (E.getD j Ent.zero) i with
      | some x =>
        rw [hd] at h
        injection h with h
        obtain ⟨h1, h2, _⟩ := fD_some hd
        obtain ⟨g1, g2, g3, g4⟩ := he
        exact ⟨_, x, h.symm, h1, g1, g4, by rw [g2, g3]; exact h2⟩
      | none =>
        rw [hd] at h
        exact srch_sound k _ _ (fun y hy => Gd.addS hE he i (Nat.le_refl _) (fD_none hd) y hy) h
    · rw [if_neg hj] at h; exact absurd h (by simp)
theorem dst_sound {v : List Int} (h : dst nx1 ot1 nx2 ot2 i n m s t = some v) :
    ∃ w x, v = w ++ [((x : Nat) : Int)] ∧ x < i ∧ Wd i w ∧ runO nx1 ot1 s w = runO nx2 ot2 t w ∧ ¬ oN ot1 (runS nx1 s w) x = oN ot2 (runS nx2 t w) x := by
  refine srch_sound _ _ _ (fun x hx => ?_) h
  simp at hx
  subst hx
  exact ⟨Wd.nil i, rfl, rfl, rfl⟩
theorem dst_not {v : List Int} (h : dst nx1 ot1 nx2 ot2 i n m s t = some v) : ¬ Bis i nx1 ot1 s nx2 ot2 t := fun hb => by
  obtain ⟨w, x, _, hx, hw, _, hd⟩ := dst_sound h
  have h1 := hb (w ++ [(x : Int)]) (hw.app (Wd.one hx))
  rw [runO_app, runO_app, hb w hw] at h1
  have h2 := List.append_cancel_left h1
  simp only [runO, Int.toNat_natCast, List.cons.injEq] at h2
  exact hd h2.1
theorem hasE_mono {E T : List Ent} {p q : Nat} (h : hasE E p q) : hasE (E ++ T) p q := by unfold hasE at h ⊢; rw [List.map_append]; exact List.mem_append.2 (.inl h)
theorem addS_has (j : Nat) (e : Ent) (E : List Ent) : ∀ x y, y < x → hasE (_root_.Go.Proofs.Ytedcdpmflcegbaa.addS nx1 nx2 j e E x) (nN nx1 e.p y) (nN nx2 e.q y)
  | 0, y, h => absurd h (by omega)
  | x + 1, y, h => by
    show hasE (addE (_root_.Go.Proofs.Ytedcdpmflcegbaa.addS nx1 nx2 j e E x) (nxE nx1 nx2 j e x)) _ _
    by_cases e1 : y = x
    · subst e1
      by_cases h2 : hasE (_root_.Go.Proofs.Ytedcdpmflcegbaa.addS nx1 nx2 j e E y) (nN nx1 e.p y) (nN nx2 e.q y)
      · rw [addE_in h2]; exact h2
      · rw [addE_out (e := nxE nx1 nx2 j e y) h2]
        unfold hasE
        rw [List.map_append]
        exact List.mem_append.2 (.inr (by simp [Ent.pr, nxE]))
    · have ih := addS_has j e E x y (by omega)
      unfold addE
      split
      · exact ih
      · exact hasE_mono ih
/-- An entry whose pairs behind have been found, and whose outputs are equal. -/
def Cl (nx1 nx2 ot1 ot2 : List (List Int)) (i : Nat) (E : List Ent) (e : Ent) : Prop := ∀ x, x < i → oN ot1 e.p x = oN ot2 e.q x ∧ hasE E (nN nx1 e.p x) (nN nx2 e.q x)
theorem srch_closed {st1 st2 : Nat} (hM : Mok i st1 n nx1 ot1) (hN : Mok i st2 m nx2 ot2) : ∀ (k : Nat) (E : List Ent) (j : Nat), Ens n m s t E → j ≤ E.length → n * m ≤ k + j → (∀ a, a < j → Cl nx1 nx2 ot1 ot2 i E (E.getD a Ent.zero)) → srch nx1 nx2 ot1 ot2 i k E j = none →
    ∃ F, Ens n m s t F ∧ ∀ a, a < F.length → Cl nx1 nx2 ot1 ot2 i F (F.getD a Ent.zero)
  | 0, E, j, hE, hj, hk, hc, _ => by
    have := hE.len
    exact ⟨E, hE, fun a ha => hc a (by omega)⟩
  | k + 1, E, j, hE, hj, hk, hc, h => by
    rw [srch] at h
    by_cases hl : j < E.length
    · rw [if_pos hl] at h
      cases hd : fD ot1 ot2 (E.getD j Ent.zero) i with
      | some x => rw [hd] at h; exact absurd h (by simp)
      | none =>
        rw [hd] at h
        have hE2 := addS_ens hM hN hE hl i (Nat.le_refl _)
        obtain ⟨T, hT⟩ := addS_pre (nx1 := nx1) (nx2 := nx2) j (E.getD j Ent.zero) E i
        have hle : E.length ≤ (_root_.Go.Proofs.Ytedcdpmflcegbaa.addS nx1 nx2 j (E.getD j Ent.zero) E i).length := by rw [hT, List.length_append]; omega
        refine srch_closed hM hN k _ _ hE2 (by omega) (by omega) (fun a ha => ?_) h
        have hg : (_root_.Go.Proofs.Ytedcdpmflcegbaa.addS nx1 nx2 j (E.getD j Ent.zero) E i).getD a Ent.zero = E.getD a Ent.zero := by rw [hT, getDE_pre (by omega)]
        rw [hg]
        by_cases ha2 : a = j
        · subst ha2
          exact fun x hx => ⟨fD_none hd x hx, addS_has a _ E i x hx⟩
        · intro x hx
          obtain ⟨c1, c2⟩ := hc a (by omega) x hx
          exact ⟨c1, by rw [hT]; exact hasE_mono c2⟩
    · exact ⟨E, hE, fun a ha => hc a (by omega)⟩
theorem hasE_get {E : List Ent} {p q : Nat} (h : hasE E p q) : ∃ a, a < E.length ∧ (E.getD a Ent.zero).p = p ∧ (E.getD a Ent.zero).q = q := by
  unfold hasE at h
  obtain ⟨e, he, e2⟩ := List.mem_map.1 h
  obtain ⟨a, ha, rfl⟩ := List.getElem_of_mem he
  refine ⟨a, ha, ?_⟩
  rw [List.getD_eq_getElem?_getD, List.getElem?_eq_getElem ha]
  unfold Ent.pr at e2
  injection e2 with e3 e4
  exact ⟨e3, e4⟩
theorem closed_bis {F : List Ent} (h : ∀ a, a < F.length → Cl nx1 nx2 ot1 ot2 i F (F.getD a Ent.zero)) : ∀ (u : List Int) (a : Nat), a < F.length → Wd i u → runO nx1 ot1 (F.getD a Ent.zero).p u = runO nx2 ot2 (F.getD a Ent.zero).q u
  | [], _, _, _ => rfl
  | x :: u, a, ha, hu => by
    obtain ⟨y, rfl, hy⟩ := hu.head
    obtain ⟨c1, c2⟩ := h a ha y hy
    obtain ⟨b, hb, e1, e2⟩ := hasE_get c2
    have ih := closed_bis h u b hb hu.tail
    rw [e1, e2] at ih
    simp only [runO, Int.toNat_natCast]
    rw [c1, ih]
theorem dst_none {st1 st2 : Nat} (hM : Mok i st1 n nx1 ot1) (hN : Mok i st2 m nx2 ot2) (hs : s < n) (ht : t < m) : dst nx1 ot1 nx2 ot2 i n m s t = none ↔ Bis i nx1 ot1 s nx2 ot2 t := by
  constructor
  · intro h
    obtain ⟨F, hF, hc⟩ := srch_closed hM hN _ _ 0 (Ens.one hs ht) (Nat.zero_le _) (by omega) (fun a ha => absurd ha (by omega)) h
    intro u hu
    have h1 := closed_bis hc u 0 hF.ne hu
    rw [hF.z.1, hF.z.2.1] at h1
    exact h1
  · intro hb
    cases h : dst nx1 ot1 nx2 ot2 i n m s t with
    | none => rfl
    | some v => exact absurd hb (dst_not h)
end
end Go.Proofs.Ytedcdpmflcegbaa
end

section
/- word.Lex and word.Compare. -/
namespace Go.Proofs.Ytedcdpmflcegbaa
open Go.RowKit

theorem isnan (k : Int) (w : World) : Calls Try.prog 67 #[.int .i64 k] w fun e w' => e = .returned (.bool false) ∧ w = w' := by
  go_enter Try.func67, Try.ntmps67
  go_wp2
  go_ret
  exact ⟨rfl, rfl⟩

theorem ccmp (a b : Int) (w : World) : Calls Try.prog 51 #[.int .i64 a, .int .i64 b] w fun e w' => e = .returned (.int .i64 (cmpI a b)) ∧ w = w' := by
  by_cases h : a < b
  · have H := Lib.hid (show cmpI a b = -1 by unfold cmpI; rw [if_pos h])
    go_enter Try.func51, Try.ntmps51
    go_wp2_with (go_at_call 67; refine (isnan _ _).mono ?_; rintro e w' ⟨rfl, rfl⟩)
    go_ret
    exact ⟨ret_int H.out.symm, rfl⟩
  · by_cases h' : b < a
    · have H := Lib.hid (show cmpI a b = 1 by unfold cmpI; rw [if_neg h, if_pos h'])
      go_enter Try.func51, Try.ntmps51
      go_wp2_with (go_at_call 67; refine (isnan _ _).mono ?_; rintro e w' ⟨rfl, rfl⟩)
      go_ret
      exact ⟨ret_int H.out.symm, rfl⟩
    · have H := Lib.hid (show cmpI a b = 0 by unfold cmpI; rw [if_neg h, if_neg h'])
      go_enter Try.func51, Try.ntmps51
      go_wp2_with (go_at_call 67; refine (isnan _ _).mono ?_; rintro e w' ⟨rfl, rfl⟩)
      go_ret
      exact ⟨ret_int H.out.symm, rfl⟩

theorem cmpI_zero {a b : Int} (h : a = b) : cmpI a b = 0 := by unfold cmpI; rw [if_neg (by omega), if_neg (by omega)]
theorem cmpI_ne {a b : Int} (h : a ≠ b) : cmpI a b ≠ 0 := by unfold cmpI; split; decide; split; decide; omega

set_option maxHeartbeats 400000 in
theorem scompare (A B : Option Addr) (n c m d : Nat) (xs ys : List Int) (w : World) (hx : Ints w A n xs) (hy : Ints w B m ys) :
    Calls Try.prog 68 #[.slice A n c, .slice B m d] w fun e w' => e = .returned (.int .i64 (lexi xs ys)) ∧ ∃ q, w' = w.drewN q := by
  have L1 := Lib.hid hx.1
  have L2 := Lib.hid hy.1
  have hn := hx.2.1
  have hm := hy.2.1
  go_enter Try.func68, Try.ntmps68
  go_wp2
  go_loopw [11] (fun i wr => ∃ j : Nat, j ≤ n ∧ j ≤ m ∧ i = .int .i64 j ∧ Agree xs ys j ∧ ∃ q, wr = w.drewN q) (fun i _ => n - (intOf i).toNat)
  case atStart => exact ⟨0, Nat.zero_le _, Nat.zero_le _, rfl, Agree.zero _ _, 0, rfl⟩
  case round =>
    obtain ⟨j, hj1, hj2, rfl, ha, q, rfl⟩ := hrel
    by_cases hl1 : j < n
    · obtain ⟨b1, o1, rfl, _, hc1⟩ := hx.at_ (k := j) (by omega)
      by_cases hl2 : j < m
      · obtain ⟨b2, o2, rfl, _, hc2⟩ := hy.at_ (k := j) (by omega)
        by_cases he : xs[j]?.getD 0 = ys[j]?.getD 0
        · have ha' := Lib.hid (ha.succ (by simpa using he))
          have hz := Lib.hid (cmpI_zero he)
          clear he ha
          go_wp2_with (go_at_call 51; refine (ccmp _ _ _).mono ?_; rintro e w' ⟨rfl, rfl⟩; rw [hz.out])
          go_roundw
          case rel => exact ⟨j + 1, by omega, by omega, by go_num, ha'.out, _, rfl⟩
          case measure => simp [intOf]; omega
        · have hfin := Lib.hid (lexi_of (j := j) (by rw [L1.out]; omega) (by rw [L2.out]; omega) ha (by simpa using he))
          have hz : (cmpI (xs[j]?.getD 0) (ys[j]?.getD 0) != 0) = true := by simpa using cmpI_ne he
          clear he ha
          go_wp2_with (go_at_call 51; refine (ccmp _ _ _).mono ?_; rintro e w' ⟨rfl, rfl⟩)
          go_ret
          exact ⟨ret_int (by rw [hfin.out]; simp), _, rfl⟩
      · have hfin := Lib.hid (lexi_long (xs := xs) (ys := ys) (by rw [L1.out, L2.out]; omega) (by rw [L2.out]; exact (by omega : j = m) ▸ ha))
        clear ha
        go_wp2
        go_ret
        exact ⟨ret_int (by rw [hfin.out]), _, rfl⟩
    · by_cases hl2 : n < m
      · have hfin := Lib.hid (lexi_short (xs := xs) (ys := ys) (by rw [L1.out, L2.out]; omega) (by rw [L1.out]; exact (by omega : j = n) ▸ ha))
        clear ha
        go_wp2
        go_ret
        exact ⟨ret_int (by rw [hfin.out]), _, rfl⟩
      · have hfin := Lib.hid (lexi_same (xs := xs) (ys := ys) (by rw [L1.out, L2.out]; omega) (by rw [L1.out]; exact (by omega : j = n) ▸ ha))
        clear ha
        go_wp2
        go_ret
        exact ⟨ret_int (by rw [hfin.out]), _, rfl⟩

theorem wlex (A B : Option Addr) (n c m d : Nat) (xs ys : List Int) (w : World) (hx : Ints w A n xs) (hy : Ints w B m ys) :
    Calls Try.prog 52 #[.slice A n c, .slice B m d] w fun e w' => e = .returned (.int .i64 (lexi xs ys)) ∧ ∃ q, w' = w.drewN q := by
  go_enter Try.func52, Try.ntmps52
  go_wp2_with (go_at_call 68; refine (scompare _ _ _ _ _ _ xs ys _ hx hy).mono ?_; rintro e w' ⟨rfl, q, rfl⟩)
  go_ret
  exact ⟨rfl, _, rfl⟩

theorem shlex_lt {xs ys : List Int} (h : xs.length < ys.length) : shlex xs ys = -1 := by unfold shlex; rw [if_pos h]
theorem shlex_gt {xs ys : List Int} (h : ys.length < xs.length) : shlex xs ys = 1 := by unfold shlex; rw [if_neg (by omega), if_pos h]
theorem shlex_eq {xs ys : List Int} (h : xs.length = ys.length) : shlex xs ys = lexi xs ys := by unfold shlex; rw [if_neg (by omega), if_neg (by omega)]

theorem wcompare (A B : Option Addr) (n c m d : Nat) (xs ys : List Int) (w : World) (hx : Ints w A n xs) (hy : Ints w B m ys) :
    Calls Try.prog 28 #[.slice A n c, .slice B m d] w fun e w' => e = .returned (.int .i64 (shlex xs ys)) ∧ ∃ q, w' = w.drewN q := by
  have L1 := Lib.hid hx.1
  have L2 := Lib.hid hy.1
  by_cases h : n = m
  · subst h
    have hfin := Lib.hid (shlex_eq (xs := xs) (ys := ys) (by rw [L1.out, L2.out]))
    go_enter Try.func28, Try.ntmps28
    go_wp2_with (go_at_call 52; refine (wlex _ _ _ _ _ _ xs ys _ hx hy).mono ?_; rintro e w' ⟨rfl, q, rfl⟩)
    go_ret
    exact ⟨ret_int (by rw [hfin.out]), _, rfl⟩
  · have hd : ((n : Int) != (m : Int)) = true := by simp; omega
    by_cases hlt : n < m
    · have hfin := Lib.hid (shlex_lt (xs := xs) (ys := ys) (by rw [L1.out, L2.out]; exact hlt))
      have hz := Lib.hid (show cmpI (n : Int) (m : Int) = -1 by unfold cmpI; rw [if_pos (by omega)])
      go_enter Try.func28, Try.ntmps28
      go_wp2_with (go_at_call 51; refine (ccmp _ _ _).mono ?_; rintro e w' ⟨rfl, rfl⟩; rw [hz.out])
      go_ret
      exact ⟨ret_int (by rw [hfin.out]), 0, rfl⟩
    · have hfin := Lib.hid (shlex_gt (xs := xs) (ys := ys) (by rw [L1.out, L2.out]; omega))
      have hz := Lib.hid (show cmpI (n : Int) (m : Int) = 1 by unfold cmpI; rw [if_neg (by omega), if_pos (by omega)])
      go_enter Try.func28, Try.ntmps28
      go_wp2_with (go_at_call 51; refine (ccmp _ _ _).mono ?_; rintro e w' ⟨rfl, rfl⟩; rw [hz.out])
      go_ret
      exact ⟨ret_int (by rw [hfin.out]), 0, rfl⟩
end Go.Proofs.Ytedcdpmflcegbaa
end
