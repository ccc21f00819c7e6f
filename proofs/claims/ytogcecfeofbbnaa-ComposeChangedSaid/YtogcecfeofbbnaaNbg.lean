/- Lemmas of the proofs of this seat, of the parts Eqr, Openl, L14f. Conditions: none. -/
import Derived.Test.YtogcecfeofbbnaaNaa
import Derived.Test.YtogcecfeofbbnaaNah
import Derived.Test.YtogcecfeofbbnaaNbf
import Derived.Test.YtogcecfeofbbnaaNad
import Derived.Test.YtogcecfeofbbnaaNaf
import Derived.Test.YtogcecfeofbbnaaNac
import Derived.Test.YtogcecfeofbbnaaNae
import Derived.BigQuiet
import Derived.Deep.QuietTactic
import Derived.Deep.DeepCutAuto
section
/- The reference: Equal. -/
namespace Go.Proofs.Ytogcecfeofbbnaa
open Go.RowKit

set_option maxHeartbeats 1000000 in
theorem requal (A B : Option Addr) (n c m d : Nat) (xs ys : List Int) (b : Bool) (w : World) (hx : Ints w A n xs) (hy : Ints w B m ys) (hb : b = decide (xs = ys)) :
    Calls Try.prog 19 #[.slice A n c, .slice B m d] w fun e w' => e = .returned (.bool b) ∧ ∃ q, w' = w.drewN q := by
  have L1 := Lib.hid hx.1
  have L2 := Lib.hid hy.1
  have hn := hx.2.1
  have hm := hy.2.1
  by_cases hnm : n = m
  · subst hnm
    have HB := Lib.hid hb
    clear hb
    go_enter Try.func19, Try.ntmps19
    go_wp2
    go_loopw [5] (fun i wr => ∃ j q : Nat, j ≤ n ∧ i = .int .i64 j ∧ AgreeL 0 xs ys j ∧ wr = w.drewN q) (fun i _ => n - (intOf i).toNat)
    case atStart => exact ⟨0, 0, Nat.zero_le _, rfl, AgreeL.zero _ _ _, rfl⟩
    case round =>
      obtain ⟨j, q, hj, rfl, heq, rfl⟩ := hrel
      have HE := Lib.hid heq
      clear heq
      by_cases hlt : j < n
      · obtain ⟨g1, o1, rfl, _, hc1⟩ := hx.at_ hlt
        obtain ⟨g2, o2, rfl, _, hc2⟩ := hy.at_ hlt
        by_cases he : xs.getD j 0 = ys.getD j 0
        · have hnx := Lib.hid (HE.out.succ he)
          rw [← he] at hc2
          generalize xs.getD j 0 = y at hc1 hc2
          clear he
          go_wp2
          go_quiet (fail)
          go_wp2
          go_roundw
          case rel => exact ⟨j + 1, _, by omega, by go_num, hnx.out, rfl⟩
          case measure => simp [intOf]; omega
        · have hfin : Hid (b = false) := Lib.hid (HB.out.trans (decide_eq_false fun e => he (by rw [e])))
          have hne : (xs.getD j 0 != ys.getD j 0) = true := by simpa using he
          generalize xs.getD j 0 = y at hc1 hne
          generalize ys.getD j 0 = z at hc2 hne
          clear he
          go_wp2
          go_quiet (fail)
          go_wp2
          go_ret
          exact ⟨ret_bool hfin.out.symm, by first | exact ⟨_, rfl⟩ | exact ⟨_, World.drewN_drewN _ _ _⟩⟩
      · obtain rfl : j = n := by omega
        have hfin : Hid (b = true) := Lib.hid (HB.out.trans (decide_eq_true (HE.out.all L1.out L2.out)))
        go_wp2
        go_ret
        exact ⟨ret_bool hfin.out.symm, by first | exact ⟨_, rfl⟩ | exact ⟨_, World.drewN_drewN _ _ _⟩⟩
  · have hfin : Hid (b = false) := Lib.hid (hb.trans (decide_eq_false fun e => hnm (by rw [← L1.out, ← L2.out, e])))
    have hd : ((n : Int) != (m : Int)) = true := by simp; omega
    clear hnm hb
    go_enter Try.func19, Try.ntmps19
    go_wp2
    go_ret
    exact ⟨ret_bool hfin.out.symm, 0, rfl⟩

end Go.Proofs.Ytogcecfeofbbnaa
end

section
/- Opening an array of two slices of ints. -/
namespace Go.Proofs.Ytogcecfeofbbnaa
open Go.RowKit Go.Joins

theorem cells_arrL : Try.prog.cellsOf 61 = 2 := by kernel_rfl
theorem cells_slL : Try.prog.cellsOf 27 = 1 := by kernel_rfl
theorem okWide_arrL {P : Program} {w : World} {r : Reach} {b0 n : Nat} {t e : TypeId} {v : Value} (ht : P.underlying t = some (.array n e)) (hv : Value.okWide P w r b0 t v) : ∃ cs, v = .agg cs ∧ cs.size = P.cellsOf t := by
  unfold Value.okWide at hv
  rw [ht] at hv
  obtain ⟨cs, h1, h2, _⟩ := hv
  exact ⟨cs, h1, h2⟩
set_option maxRecDepth 100000 in
theorem open_arrL (hb3 : Try.prog.bytesOf 3 = 8) {H : Type} {enc : TypeId × Value → H} {w : World} {base : Nat} {held : Bool} {r : Reach} {b0 : Nat} {v : Value} {d : DataW H} {p : List MemPlace} (hv : Value.okWide Try.prog w r b0 61 v) (h : DataW.Trod enc Try.prog w base (fun _ => true) held 61 v d p) (hl : Light Try.prog 61 d) :
    ∃ A n c z B m e u, v = .agg #[.slice A n c, .slice B m e] ∧ Ints w A n z ∧ Ints w B m u := by
  obtain ⟨cs, rfl, hsz⟩ := okWide_arrL Try.underlying61 hv
  rw [cells_arrL] at hsz
  obtain ⟨c0, c1, rfl⟩ : ∃ c0 c1, cs = #[c0, c1] := by
    obtain ⟨l⟩ := cs
    match l, hsz with
    | [x, y], _ => exact ⟨x, y, rfl⟩
  obtain ⟨fuel, hf⟩ := h
  obtain ⟨xs, m, _, hd, _, hlx, hx⟩ := DataW.trod_array Try.underlying61 hf
  have h0 := hx 0 (by decide)
  have h1 := hx 1 (by decide)
  have hdd : d = .agg (xs.map (·.1)) := congrArg Prod.fst hd
  subst hdd
  have hw : ∀ (j : Nat) (hj : j < xs.length), Light Try.prog 27 (xs[j]'hj).1 := fun j hj n hn => hl n (by
    simp only [DataW.weights, Try.underlying61]
    exact weightsAll_mem (List.mem_map.2 ⟨xs[j], List.getElem_mem _, rfl⟩) hn)
  have hw0 := hw 0 (by omega)
  have hw1 := hw 1 (by omega)
  rw [cells_slL, List.getElem?_eq_getElem (by omega)] at h0 h1
  have h0 : DataW.trod enc Try.prog w base (fun _ => true) held m 27 [c0] = _ := h0
  have h1 : DataW.trod enc Try.prog w base (fun _ => true) held m 27 [c1] = _ := h1
  obtain ⟨A, n, c, z, e0, _, o0, _⟩ := open_intsw hb3 h0 hw0
  obtain ⟨B, k, e, u, e1, _, o1, _⟩ := open_intsw hb3 h1 hw1
  simp at e0 e1
  subst e0 e1
  exact ⟨A, n, c, z, B, k, e, u, rfl, o0, o1⟩
end Go.Proofs.Ytogcecfeofbbnaa
end

section
/- The law ComposeChanged: the walk. -/
namespace Go.Proofs.Ytogcecfeofbbnaa
open Go.RowKit

theorem frm_two {i st n : Nat} {nx ot : List (List Int)} (hM : Mok i st n nx ot) (xs : List Int) : frm i st nx ot st xs = if chk xs i = 0 then (runO nx ot st xs, (runS nx st xs : Int), 0) else ([], 0, chk xs i) := by
  by_cases h : chk xs i = 0
  · rw [if_pos h, hM.frm hM.st h]
  · rw [if_neg h]
    exact frm_word hM.vld (by rw [hM.nxl]; have := hM.st; omega) h
theorem chk_wd {xs : List Int} {i : Nat} (h : chk xs i = 0) : Wd i xs := (chk_zero h).2.2.2.mem
theorem wd_chk {u : List Int} {i : Nat} (hW : Wd i u) (h1 : 1 ≤ i) (h2 : i ≤ 64) (hl : u.length ≤ 1024) : chk u i = 0 := by
  refine chk_ok (by omega) (by omega) fun j hj => ?_
  have := hW (u.getD j 0) (by rw [List.getD_eq_getElem?_getD, List.getElem?_eq_getElem hj]; exact List.getElem_mem _)
  exact this
/-- What a run says, in short. -/
theorem frm_lenC {i st n : Nat} {nx ot : List (List Int)} (hM : Mok i st n nx ot) (xs : List Int) : ∃ X s f, frm i st nx ot st xs = (X, s, f) ∧ X.length ≤ 1024 ∧ (chk xs i = 0 → X = runO nx ot st xs ∧ f = 0) ∧ (¬ chk xs i = 0 → X = [] ∧ f = chk xs i) := by
  rw [frm_two hM]
  by_cases h : chk xs i = 0
  · rw [if_pos h]
    exact ⟨_, _, _, rfl, by rw [runO_len]; exact (chk_zero h).2.2.1, fun _ => ⟨rfl, rfl⟩, fun h2 => absurd h h2⟩
  · rw [if_neg h]
    exact ⟨_, _, _, rfl, Nat.zero_le _, fun h2 => absurd h2 h, fun _ => ⟨rfl, rfl⟩⟩
theorem rs_trun {i st n : Nat} {nx ot : List (List Int)} (hM : Mok i st n nx ot) {l : List Int} (hC : Chs i l) (h0 : 0 < l.length) {xs : List Int} (h : Wd l.length xs) :
    runO (trN (rsN l nx) l.length (rch (rsN l nx) l.length st)) (trO (rsN l ot) (rch (rsN l nx) l.length st)) 0 xs = runO nx ot st (rsW l xs) := by
  have h1 := tr_run (hM.rs hC h0) xs st (st_mem _ _ _) h
  rw [ixN_st] at h1
  rw [h1, rs_run hM hC xs st hM.st h]
theorem mp_trun {i st n : Nat} {nx ot : List (List Int)} (hM : Mok i st n nx ot) {outs : List Int} (hA : AllO outs ot) {xs : List Int} (h : Wd i xs) :
    runO (trN nx i (rch nx i st)) (trO (mpO outs ot) (rch nx i st)) 0 xs = (runO nx ot st xs).map fun x => outs.getD x.toNat 0 := by
  have h1 := tr_run (hM.mpO hA) xs st (st_mem _ _ _) h
  rw [ixN_st] at h1
  rw [h1, mp_run hM outs xs st hM.st h]
/-- What Restrict answers, either way. -/
def RokP (w' : World) (base i st : Nat) (l : List Int) (nx ot : List (List Int)) (a r : Nat) (A : Option Addr) (c : Nat) (B : Option Addr) (d : Nat) (v : Int) : Prop :=
  (v = 0 ∧ chcE i l = 0 ∧ a = l.length ∧ r = (rch (rsN l nx) l.length st).length ∧ OwnedL w' base (.slice A r c) (trN (rsN l nx) l.length (rch (rsN l nx) l.length st)) ∧ OwnedL w' base (.slice B r d) (trO (rsN l ot) (rch (rsN l nx) l.length st))) ∨ ¬ v = 0
theorem prestrict_both (i st n : Nat) (A B C : Option Addr) (c d m e : Nat) (nx ot : List (List Int)) (l : List Int) (w : World) (hx : Lists w A n nx) (ho : Lists w B n ot) (hC : Ints w C m l) (hM : Mok i st n nx ot) :
    Calls Try.prog 39 #[.agg #[.int .i64 i, .int .i64 st, .slice A n c, .slice B n d], .slice C m e] w fun r w' => ∃ (a k : Nat) (A5 : Option Addr) (c5 : Nat) (B5 : Option Addr) (d5 : Nat) (v : Int),
      r = .returned (.tuple #[.agg #[.int .i64 a, .int .i64 0, .slice A5 k c5, .slice B5 k d5], .int .i64 v]) ∧ RokP w' w.heap.size i st l nx ot a k A5 c5 B5 d5 v ∧ Below w.heap.size w w' := by
  by_cases h : chcE i l = 0
  · refine (prestrict i st n A B C c d m e nx ot l w hx ho hC hM h).mono ?_
    rintro r w' ⟨⟨A5, c5, B5, d5, rfl, o5, p5⟩, hb⟩
    exact ⟨_, _, A5, c5, B5, d5, 0, rfl, .inl ⟨rfl, h, rfl, rfl, o5, p5⟩, hb⟩
  · refine (prestrict_no i st n A B C c d m e nx ot l w hx ho hC hM h).mono ?_
    rintro r w' ⟨rfl, hb⟩
    exact ⟨0, 0, none, 0, none, 0, _, rfl, .inr h, hb⟩
theorem run_append_oneW {w : World} {base : Nat} {v : Value} {xs : List Int} (h : Owned w base v xs) (x : Int) (hbase : base ≤ w.heap.size) (hl : xs.length < 17592186044416) :
    ∃ A c w', (Builtin.append_ #[27, 27] 27 #[v, .slice (some ⟨w.heap.size, 0, none⟩) 1 1]).run Try.prog (w.alloc (.cells #[.int .i64 x] 3)) = .ok (.slice A (xs.length + 1) c) w' ∧
      Owned w' base (.slice A (xs.length + 1) c) (xs ++ [x]) ∧ Below base w w' ∧ (∀ t, t ≠ 3 → KeptT t w w') ∧ KeptB v.ownBlock w w' ∧ Moved w v (.slice A (xs.length + 1) c) := by
  obtain ⟨i, hi, hz0, hz1, hz2⟩ := info_parts info3
  have hbz := alloc_below w (.cells #[.int .i64 x] 3)
  have ho1 := h.kept hbz
  obtain ⟨v', w', hr, h1, h2, _, hmv⟩ := run_append_own_at (P := Try.prog) (w.alloc (.cells #[.int .i64 x] 3)) base 27 27 3 i (.int .i64 0) 1 8 Try.underlying27 hi hz0 hz1 hz2 rfl (by decide) v _ _ ho1 ⟨w.heap.size, 0, none⟩ 1 1 [.int .i64 x] (by simp)
    (by
      intro j u hu
      cases j with
      | zero =>
        simp at hu
        subst hu
        simp [Addr.add]
      | succ j => simp at hu)
    (by intro u hu; simp at hu; subst hu; rfl) (by unfold maxLen; omega) (by omega) (Nat.le_trans hbase hbz.size)
  have hs : ∀ t, t ≠ 3 → KeptT t w w' := fun t ht => (KeptT.of_below hbz).trans (KeptT.grown h2 ho1 ht)
  have hform : ∃ A c, v' = .slice A (xs.length + 1) c := by
    rcases h1.2 with ⟨rfl, h0⟩ | ⟨g, cap, cur, rfl, _⟩
    · have := h1.1; rw [h0] at this; simp at this
    · exact ⟨_, _, rfl⟩
  obtain ⟨A, c, rfl⟩ := hform
  have hkb : KeptB v.ownBlock w w' := fun g o e hne => (h2.block g (Nat.lt_of_lt_of_le (heap_lt e) hbz.size) (fun e2 => hne e2.symm)).trans ((hbz.block g (heap_lt e)).trans e)
  have hmoved : Moved w v (.slice A (xs.length + 1) c) := by
    rcases hmv with e | e
    · exact .inl e
    · exact .inr ⟨_, by simp, e⟩
  refine ⟨A, c, w', hr, ?_, (hbz.mono hbase).trans ((Below.refl _ _).grown h2 (Nat.le_trans hbase hbz.size) (fun k hk => (World.ownsRow.lt ho1 k hk).1)), hs, hkb, hmoved⟩
  unfold Owned
  rw [List.length_append, List.map_append]
  exact h1
set_option linter.unusedSimpArgs false in
set_option linter.unusedVariables false in
set_option maxHeartbeats 8000000 in
set_option maxRecDepth 100000 in
theorem chan14_walk (i1 st1 : Int) (A B : Option Addr) (n c m d : Nat) (nx ot : List (List Int)) (C0 C1 : Option Addr) (n0 c0 n1 c1 : Nat) (l0 l1 : List Int) (E : Option Addr) (ln cp : Nat) (xs : List Int) (w : World) (hx1 : Lists w A n nx) (ho1 : Lists w B m ot) (hC0 : Ints w C0 n0 l0) (hC1 : Ints w C1 n1 l1) (hE : Ints w E ln xs) :
    Calls Try.prog 13 #[.agg #[.int .i64 i1, .int .i64 st1, .slice A n c, .slice B m d], .agg #[.slice C0 n0 c0, .slice C1 n1 c1], .slice E ln cp] w fun e w' => e = .returned (.bool true) ∧ Below w.heap.size w w' := by
  obtain ⟨wm, hwm⟩ : ∃ wm, wm = w.alloc (.cells #[.int .i64 i1, .int .i64 st1, .slice A n c, .slice B m d] 24) := ⟨_, rfl⟩
  obtain ⟨w0, hw0⟩ : ∃ w0, w0 = wm.alloc (.cells #[.slice C0 n0 c0, .slice C1 n1 c1] 61) := ⟨_, rfl⟩
  have hzm : wm.heap.size = w.heap.size + 1 := by rw [hwm]; simp
  have hbm : Below w.heap.size w wm := by rw [hwm]; exact alloc_below _ _
  have hb0 : Below w.heap.size w w0 := by rw [hw0]; exact hbm.alloc (by omega) _
  have hz0 : w0.heap.size = w.heap.size + 1 + 1 := by rw [hw0]; simp [hzm]
  have hG : Mblk w0 w.heap.size (.int .i64 i1) (.int .i64 st1) (.slice A n c) (.slice B m d) := by
    have h1 : Mblk wm w.heap.size (.int .i64 i1) (.int .i64 st1) (.slice A n c) (.slice B m d) := by rw [hwm]; exact mealy_box w _ _ _ _
    rw [hw0]
    exact h1.kept (alloc_below _ _) (by omega)
  have hA : w0.heap[w.heap.size + 1]? = some (.cells #[.slice C0 n0 c0, .slice C1 n1 c1] 61 (0, 0)) := by rw [hw0, ← hzm]; exact heap_alloc_new wm _
  have HW0 := Lib.hid (hw0.trans (by rw [hwm]))
  have HB0 := Lib.hid hb0
  have HX := Lib.hid (fun (W : World) (h : Below w0.heap.size w0 W) => (hx1.below hb0).below h)
  have HO := Lib.hid (fun (W : World) (h : Below w0.heap.size w0 W) => (ho1.below hb0).below h)
  have HC0 := Lib.hid (fun (W : World) (h : Below w0.heap.size w0 W) => (hC0.below hb0).below h)
  have HC1 := Lib.hid (fun (W : World) (h : Below w0.heap.size w0 W) => (hC1.below hb0).below h)
  have HE := Lib.hid (fun (W : World) (h : Below w0.heap.size w0 W) => (hE.below hb0).below h)
  have HG := Lib.hid (fun (W : World) (h : Below w0.heap.size w0 W) => hG.on h)
  have HA := Lib.hid (show ∀ (W : World), Below w0.heap.size w0 W → W.cell? ⟨w.heap.size + 1, 0, none⟩ = some (.slice C0 n0 c0) ∧ W.cell? ⟨w.heap.size + 1, 1, none⟩ = some (.slice C1 n1 c1) from fun W h => by
    have h2 := (h.block _ (heap_lt hA)).trans hA
    exact ⟨cell_of_row W _ 0 _ _ (0, 0) h2, cell_of_row W _ 1 _ _ (0, 0) h2⟩)
  have hl0 := hC0.1
  have hl1 := hC1.1
  have hlx := hE.1
  have hln := hE.2.1
  have hbc := Below.refl w0.heap.size w0
  obtain ⟨k0, k1, k2, k3, _⟩ := hG.cells
  rw [HW0.out] at k0 k1 k2 k3
  clear hwm hw0 hzm hbm hb0 hz0 hG hA hx1 ho1 hC0 hC1 hE
  have HL0 := Lib.hid hl0
  have HL1 := Lib.hid hl1
  have HLX := Lib.hid hlx
  clear hl0 hl1 hlx
  go_enter Try.func13, Try.ntmps13
  go_wp2_with fail
  rw [← HW0.out]
  refine (rgreat10 _ _ _ _ _ _ _ _ _ _ _ (HX.out _ hbc) (HO.out _ hbc)).mono ?_
  rintro e w1 ⟨b1, rfl, hs1, a1⟩
  have hbc := bt hbc a1
  clear k0 k1 k2 k3 a1 hs1
  cases b1
  case true =>
    go_wp2_with fail
    refine (awake14 _).mono ?_
    rintro e wz ⟨rfl, az⟩
    have hbz := bt HB0.out (bt hbc az)
    go_wp2_with fail
    go_ret
    exact ⟨rfl, hbz⟩
  obtain ⟨k0, k1, k2, k3, _⟩ := (HG.out _ hbc).cells
  go_wp2_with fail
  refine (rvalid _ _ _ _ _ _ _ _ _ _ _ (HX.out _ hbc) (HO.out _ hbc)).mono ?_
  rintro e w3 ⟨rfl, a3⟩
  have hbc := bt hbc a3
  clear k0 k1 k2 k3 a3
  by_cases hv1 : vld i1 st1 nx ot = 0
  case neg =>
    have t1 : (vld i1 st1 nx ot != 0) = true := by simpa using hv1
    generalize vld i1 st1 nx ot = V1 at t1 hv1
    clear hv1
    go_wp2_with fail
    refine (awake14 _).mono ?_
    rintro e wz ⟨rfl, az⟩
    have hbz := bt HB0.out (bt hbc az)
    go_wp2_with fail
    go_ret
    exact ⟨rfl, hbz⟩
  obtain ⟨i, st, n', rfl, rfl, hM⟩ := vld_zero hv1
  obtain rfl : n = n' := by rw [← hM.nxl]; exact (HX.out _ (Below.refl _ _)).1.symm
  obtain rfl : n = m := by rw [← hM.otl]; exact (HO.out _ (Below.refl _ _)).1
  rw [hv1]
  have hi1 := hM.i1
  have hi2 := hM.i2
  have HM := Lib.hid hM
  clear hv1 hM
  obtain ⟨y0, y1⟩ := HA.out _ hbc
  by_cases hn0 : 100 < n0
  case pos =>
    have t1 : decide ((100 : Int) < (n0 : Int)) = true := by simp; omega
    have t2 : decide (100 < n0) = true := by simp; omega
    go_wp2_with fail
    refine (awake14 _).mono ?_
    rintro e wz ⟨rfl, az⟩
    have hbz := bt HB0.out (bt hbc az)
    go_wp2_with fail
    go_ret
    exact ⟨rfl, hbz⟩
  have t1 : decide ((100 : Int) < (n0 : Int)) = false := by simp; omega
  have t2 : decide (100 < n0) = false := by simp; omega
  by_cases hn1 : 100 < n1
  case pos =>
    have t3 : decide ((100 : Int) < (n1 : Int)) = true := by simp; omega
    have t4 : decide (100 < n1) = true := by simp; omega
    go_wp2_with fail
    refine (awake14 _).mono ?_
    rintro e wz ⟨rfl, az⟩
    have hbz := bt HB0.out (bt hbc az)
    go_wp2_with fail
    go_ret
    exact ⟨rfl, hbz⟩
  have t3 : decide ((100 : Int) < (n1 : Int)) = false := by simp; omega
  have t4 : decide (100 < n1) = false := by simp; omega
  obtain ⟨k0, k1, k2, k3, _⟩ := (HG.out _ hbc).cells
  go_wp2_with fail
  clear t1 t2 t3 t4
  refine (prestrict_both i st n A B C0 c d n0 c0 nx ot l0 w3 (HX.out _ hbc) (HO.out _ hbc) (HC0.out _ hbc) HM.out).mono ?_
  rintro e w5 ⟨a, r, A5, c5, B5, d5, v, rfl, hR5, a5⟩
  have hb5 := bt hbc a5
  obtain ⟨X5, hX5⟩ : ∃ X5, X5 = w5.alloc (.cells #[.int .i64 a, .int .i64 0, .slice A5 r c5, .slice B5 r d5] 24) := ⟨_, rfl⟩
  have bx5 : Below w5.heap.size w5 X5 := by rw [hX5]; exact alloc_below _ _
  have hMB : Mblk X5 w5.heap.size (.int .i64 a) (.int .i64 0) (.slice A5 r c5) (.slice B5 r d5) := by rw [hX5]; exact mealy_box w5 _ _ _ _
  have HMB := Lib.hid hMB
  have HBX5 := Lib.hid bx5
  have HR5 := Lib.hid hR5
  have hbc := bt hb5 bx5
  have HX5 := Lib.hid hX5
  have HBC := Lib.hid hbc
  clear k0 k1 k2 k3 y0 y1 a5 hb5 hX5 bx5 hMB hR5 hbc
  go_upto_if 50 with fail
  rw [← HX5.out]
  go_cut [9, 10, 11, 12, 13, 14] from 51 to 106 (fun _ _ _ _ _ _ wx => Below w0.heap.size w0 wx)
  case first =>
    rcases HR5.out with ⟨hv0, hce, ha5, hr5, o5, t5⟩ | hv0
    case inr =>
      have t1 : (v == 0) = false := by simpa using hv0
      clear hv0
      go_wp2_with fail
      go_meet
      exact HBC.out
    subst hv0
    obtain ⟨hCh, hlp⟩ := chcE_zero hce
    have hMr := (HM.out.rs hCh hlp).tr
    rw [← hr5, ← ha5] at hMr
    rw [← ha5] at o5 t5
    have hr2 := hMr.n2
    have HN5 := Lib.hid ((lists_ownedM hMr o5).below HBX5.out)
    have HT5 := Lib.hid ((lists_ownedO hMr t5).below HBX5.out)
    have HCH := Lib.hid hCh
    have HLP := Lib.hid hlp
    have HA5 := Lib.hid ha5
    obtain ⟨X, s6, f, hfr, hXl, hfok, hfno⟩ := frm_lenC hMr xs
    have HFR := Lib.hid hfr
    have HFK := Lib.hid hfok
    have HFN := Lib.hid hfno
    obtain ⟨m0, m1, m2, m3, _⟩ := HMB.out.cells
    clear hce hCh hlp hr5 o5 t5 hMr hfr hfok hfno ha5
    go_wp2_with fail
    refine (prunw a (0 : Nat) A5 B5 E r c5 r d5 ln cp _ _ xs X5 HN5.out HT5.out (HE.out _ HBC.out)).mono ?_
    rintro e w6 ⟨A6, c6, rfl, o6, a6⟩
    rw [HFR.out] at o6 ⊢
    dsimp only at o6 ⊢
    have hbc := bt HBC.out a6
    have HBC6 := Lib.hid hbc
    have HO6 := Lib.hid o6
    clear m0 m1 m2 m3 a6 o6 hbc
    go_wp2_with fail
    go_loopw [11, 59] (fun v11 v59 wr => ∃ (j : Nat) (AV : Option Addr) (cV : Nat), v11 = .slice AV (rsV l0 (xs.take j)).length cV ∧ v59 = .int .i64 j ∧ j ≤ ln ∧ Owned wr w6.heap.size (.slice AV (rsV l0 (xs.take j)).length cV) (rsV l0 (xs.take j)) ∧ Below w6.heap.size w6 wr) (fun _ v59 _ => ln - (intOf v59).toNat)
    case atStart => exact ⟨0, none, 0, rfl, rfl, Nat.zero_le _, Owned.nil _ _, Below.refl _ _⟩
    case round =>
      obtain ⟨j, AV, cV, rfl, rfl, hj, hV, hbr⟩ := hrel
      have HV := Lib.hid hV
      have HBR := Lib.hid hbr
      have HBR8 := Lib.hid hbr
      have hbw := bt HBC6.out hbr
      by_cases hlt : j < ln
      · obtain ⟨gE, oE, rfl, fE, dE⟩ := (HE.out _ HBC6.out).at_ hlt
        obtain ⟨y2, _⟩ := HA.out _ hbw
        have y1 := (hbr.cell (p := ⟨gE, oE + j, none⟩) fE).trans dE
        have dE6 := dE
        have hnx : rsV l0 (xs.take (j + 1)) = if 0 ≤ xs.getD j 0 ∧ xs.getD j 0 < l0.length then rsV l0 (xs.take j) ++ [l0.getD (xs.getD j 0).toNat 0] else rsV l0 (xs.take j) := by
          rw [take_next (by rw [HLX.out]; exact hlt), ← List.getD_eq_getElem?_getD]
          exact rsV_app l0 _ _
        have p1 : (0 : Int) ≤ (j : Int) := by omega
        have p2 : (j : Int) < (ln : Int) := by omega
        have LL := HL0.out
        by_cases hx0 : xs.getD j 0 < 0
        · obtain ⟨x, hx⟩ : ∃ x, x = xs.getD j 0 := ⟨_, rfl⟩
          rw [← hx] at y1 hx0 hnx
          clear hx dE dE6 hV hbr LL
          have t1 : decide ((0 : Int) ≤ x) = false := by simp; omega
          have t1' : decide (x < 0) = true := by simp; omega
          rw [if_neg (by omega)] at hnx
          have HNX := Lib.hid hnx
          have HS := Lib.hid (show wr.drew.cell? ⟨gE, oE + j, none⟩ = some (.int .i64 x) ∧ wr.drew.cell? ⟨w.heap.size + 1, 0, none⟩ = some (.slice C0 n0 c0) from ⟨y1, y2⟩)
          clear hnx hx0
          go_wp2_with fail
          refine wp_region_heldX (X := fun k => ([] : List Nat).contains k) (S := fun W => W.cell? ⟨gE, oE + j, none⟩ = some (.int .i64 x) ∧ W.cell? ⟨w.heap.size + 1, 0, none⟩ = some (.slice C0 n0 c0)) (by kernel_rfl) ?_
          refine wpAnyX_pure (i := 0) (v := ?_) rfl (by kernel_rfl) (by kernel_rfl) (by kernel_rfl) (fun _ _ _ h => h) (Or.inl ⟨by rfl, ?_⟩) ?_
          rotate_left
          · (intro W _; go_simp; try with_reducible rfl)
          (try simp only [Act.put, List.getElem_toArray, List.getElem_cons_zero, List.getElem_cons_succ, List.setIfInBounds_toArray, List.set_cons_zero, List.set_cons_succ])
          refine wpAnyX_pure (i := 1) (v := ?_) rfl (by kernel_rfl) (by kernel_rfl) (by kernel_rfl) (fun _ _ _ h => h) (Or.inl ⟨by rfl, ?_⟩) ?_
          rotate_left
          · (intro W _; go_simp; try with_reducible rfl)
          (try simp only [Act.put, List.getElem_toArray, List.getElem_cons_zero, List.getElem_cons_succ, List.setIfInBounds_toArray, List.set_cons_zero, List.set_cons_succ])
          refine wpAnyX_pure (i := 2) (v := ?_) rfl (by kernel_rfl) (by kernel_rfl) (by kernel_rfl) (fun _ _ _ h => h) (Or.inl ⟨by rfl, ?_⟩) ?_
          rotate_left
          · (intro W _; go_simp; try with_reducible rfl)
          (try simp only [Act.put, List.getElem_toArray, List.getElem_cons_zero, List.getElem_cons_succ, List.setIfInBounds_toArray, List.set_cons_zero, List.set_cons_succ])
          refine wpAnyX_takeL (L := []) (i := 3) (v := ?_) rfl (by kernel_rfl) (by kernel_rfl) (by kernel_rfl) (by kernel_rfl) (fun _ _ _ h => h) (Or.inl ⟨by rfl, ?_⟩) (HS.out) ?_
          rotate_left
          · (intro W hSW; (try dsimp only at hSW); obtain ⟨z0, z1⟩ := hSW; go_simp; try with_reducible rfl)
          (try simp only [Act.put, List.getElem_toArray, List.getElem_cons_zero, List.getElem_cons_succ, List.setIfInBounds_toArray, List.set_cons_zero, List.set_cons_succ])
          refine wpAnyX_pure (i := 4) (v := ?_) rfl (by kernel_rfl) (by kernel_rfl) (by kernel_rfl) (fun _ _ _ h => h) (Or.inl ⟨by rfl, ?_⟩) ?_
          rotate_left
          · (intro W _; go_simp; try with_reducible rfl)
          (try simp only [Act.put, List.getElem_toArray, List.getElem_cons_zero, List.getElem_cons_succ, List.setIfInBounds_toArray, List.set_cons_zero, List.set_cons_succ])
          refine wpAnyX_pure (i := 5) (v := ?_) rfl (by kernel_rfl) (by kernel_rfl) (by kernel_rfl) (fun _ _ _ h => h) (Or.inl ⟨by rfl, ?_⟩) ?_
          rotate_left
          · (intro W _; go_simp; try with_reducible rfl)
          (try simp only [Act.put, List.getElem_toArray, List.getElem_cons_zero, List.getElem_cons_succ, List.setIfInBounds_toArray, List.set_cons_zero, List.set_cons_succ])
          refine wpAnyX_pure (i := 6) (v := undef) rfl (by kernel_rfl) (by kernel_rfl) (by kernel_rfl) (fun _ _ _ h => h) (Or.inr ⟨by rfl, rfl⟩) ?_
          (try simp only [Act.put, List.getElem_toArray, List.getElem_cons_zero, List.getElem_cons_succ, List.setIfInBounds_toArray, List.set_cons_zero, List.set_cons_succ])
          refine wpAnyX_pure (i := 7) (v := undef) rfl (by kernel_rfl) (by kernel_rfl) (by kernel_rfl) (fun _ _ _ h => h) (Or.inr ⟨by rfl, rfl⟩) ?_
          (try simp only [Act.put, List.getElem_toArray, List.getElem_cons_zero, List.getElem_cons_succ, List.setIfInBounds_toArray, List.set_cons_zero, List.set_cons_succ])
          refine wpAnyX_pure (i := 8) (v := undef) rfl (by kernel_rfl) (by kernel_rfl) (by kernel_rfl) (fun _ _ _ h => h) (Or.inr ⟨by rfl, rfl⟩) ?_
          (try simp only [Act.put, List.getElem_toArray, List.getElem_cons_zero, List.getElem_cons_succ, List.setIfInBounds_toArray, List.set_cons_zero, List.set_cons_succ])
          refine wpAnyX_pure (i := 9) (v := undef) rfl (by kernel_rfl) (by kernel_rfl) (by kernel_rfl) (fun _ _ _ h => h) (Or.inr ⟨by rfl, rfl⟩) ?_
          (try simp only [Act.put, List.getElem_toArray, List.getElem_cons_zero, List.getElem_cons_succ, List.setIfInBounds_toArray, List.set_cons_zero, List.set_cons_succ])
          refine wpAnyX_pure (i := 10) (v := undef) rfl (by kernel_rfl) (by kernel_rfl) (by kernel_rfl) (fun _ _ _ h => h) (Or.inr ⟨by rfl, rfl⟩) ?_
          (try simp only [Act.put, List.getElem_toArray, List.getElem_cons_zero, List.getElem_cons_succ, List.setIfInBounds_toArray, List.set_cons_zero, List.set_cons_succ])
          refine wpAnyX_pure (i := 11) (v := undef) rfl (by kernel_rfl) (by kernel_rfl) (by kernel_rfl) (fun _ _ _ h => h) (Or.inr ⟨by rfl, rfl⟩) ?_
          (try simp only [Act.put, List.getElem_toArray, List.getElem_cons_zero, List.getElem_cons_succ, List.setIfInBounds_toArray, List.set_cons_zero, List.set_cons_succ])
          refine wpAnyX_pure (i := 12) (v := undef) rfl (by kernel_rfl) (by kernel_rfl) (by kernel_rfl) (fun _ _ _ h => h) (Or.inr ⟨by rfl, rfl⟩) ?_
          (try simp only [Act.put, List.getElem_toArray, List.getElem_cons_zero, List.getElem_cons_succ, List.setIfInBounds_toArray, List.set_cons_zero, List.set_cons_succ])
          refine wpAnyX_pure (i := 13) (v := undef) rfl (by kernel_rfl) (by kernel_rfl) (by kernel_rfl) (fun _ _ _ h => h) (Or.inr ⟨by rfl, rfl⟩) ?_
          (try simp only [Act.put, List.getElem_toArray, List.getElem_cons_zero, List.getElem_cons_succ, List.setIfInBounds_toArray, List.set_cons_zero, List.set_cons_succ])
          refine wpAnyX_pure (i := 14) (v := ?_) rfl (by kernel_rfl) (by kernel_rfl) (by kernel_rfl) (fun _ _ _ h => h) (Or.inl ⟨by rfl, ?_⟩) ?_
          rotate_left
          · (intro W _; go_simp; try with_reducible rfl)
          (try simp only [Act.put, List.getElem_toArray, List.getElem_cons_zero, List.getElem_cons_succ, List.setIfInBounds_toArray, List.set_cons_zero, List.set_cons_succ])
          refine wpAnyX_done (by kernel_rfl) ?_ _
          clear y1 y2
          go_wp2_with fail
          go_roundw
          case rel => exact ⟨j + 1, AV, cV, by rw [HNX.out], by go_num, by omega, by rw [HNX.out]; exact HV.out.kept (below_drewN (Below.refl _ _) 1), below_drewN HBR.out 1⟩
          case measure => simp [intOf]; omega
        · obtain ⟨x, hx⟩ : ∃ x : Nat, xs.getD j 0 = (x : Int) := ⟨(xs.getD j 0).toNat, by omega⟩
          rw [hx] at y1 hnx dE6
          have t1 : decide ((0 : Int) ≤ (x : Int)) = true := by simp
          clear hx dE hV hbr hx0 LL
          by_cases hxn : x < n0
          · skip
            have t2 : decide ((x : Int) < (n0 : Int)) = true := by simp; omega
            have t2' : decide (x < n0) = true := by simp; omega
            rw [if_pos (by have := HL0.out; omega), Int.toNat_natCast] at hnx
            obtain ⟨g0, o0, rfl, f0, d0⟩ := (HC0.out _ HBC6.out).at_ hxn
            obtain ⟨z, hz⟩ : ∃ z, z = l0.getD x 0 := ⟨_, rfl⟩
            rw [← hz] at hnx d0
            have HNX := Lib.hid hnx
            have HW := Lib.hid (show ∀ W : World, Below w6.heap.size w6 W → W.cell? ⟨gE, oE + j, none⟩ = some (.int .i64 (x : Nat)) ∧ W.cell? ⟨w.heap.size + 1, 0, none⟩ = some (.slice (some ⟨g0, o0, none⟩) n0 c0) ∧ W.cell? ⟨g0, o0 + x, none⟩ = some (.int .i64 z) from fun W h => ⟨(h.cell (p := ⟨gE, oE + j, none⟩) fE).trans dE6, (HA.out _ (bt HBC6.out h)).1, (h.cell (p := ⟨g0, o0 + x, none⟩) f0).trans d0⟩)
            have q5 : (0 : Int) ≤ (x : Int) := by omega
            have q6 : (x : Int) < (n0 : Int) := by omega
            have hVl : (rsV l0 (xs.take j)).length < 17592186044416 := by have := rsV_len l0 (xs.take j); rw [List.length_take] at this; omega
            have hz8 := HBR.out.size
            have hBD : Below w6.heap.size w6 wr.drew := below_drewN HBR.out 1
            clear hnx hxn hz f0 d0 dE6
            go_wp2_with fail
            refine wp_region_heldX (X := fun k => ([] : List Nat).contains k) (S := fun W => W.cell? ⟨gE, oE + j, none⟩ = some (.int .i64 (x : Nat)) ∧ W.cell? ⟨w.heap.size + 1, 0, none⟩ = some (.slice (some ⟨g0, o0, none⟩) n0 c0) ∧ W.cell? ⟨g0, o0 + x, none⟩ = some (.int .i64 z)) (by kernel_rfl) ?_
            refine wpAnyX_pure (i := 0) (v := ?_) rfl (by kernel_rfl) (by kernel_rfl) (by kernel_rfl) (fun _ _ _ h => h) (Or.inl ⟨by rfl, ?_⟩) ?_
            rotate_left
            · (intro W _; go_simp; try with_reducible rfl)
            (try simp only [Act.put, List.getElem_toArray, List.getElem_cons_zero, List.getElem_cons_succ, List.setIfInBounds_toArray, List.set_cons_zero, List.set_cons_succ])
            refine wpAnyX_pure (i := 1) (v := ?_) rfl (by kernel_rfl) (by kernel_rfl) (by kernel_rfl) (fun _ _ _ h => h) (Or.inl ⟨by rfl, ?_⟩) ?_
            rotate_left
            · (intro W _; go_simp; try with_reducible rfl)
            (try simp only [Act.put, List.getElem_toArray, List.getElem_cons_zero, List.getElem_cons_succ, List.setIfInBounds_toArray, List.set_cons_zero, List.set_cons_succ])
            refine wpAnyX_pure (i := 2) (v := ?_) rfl (by kernel_rfl) (by kernel_rfl) (by kernel_rfl) (fun _ _ _ h => h) (Or.inl ⟨by rfl, ?_⟩) ?_
            rotate_left
            · (intro W _; go_simp; try with_reducible rfl)
            (try simp only [Act.put, List.getElem_toArray, List.getElem_cons_zero, List.getElem_cons_succ, List.setIfInBounds_toArray, List.set_cons_zero, List.set_cons_succ])
            refine wpAnyX_takeL (L := []) (i := 3) (v := ?_) rfl (by kernel_rfl) (by kernel_rfl) (by kernel_rfl) (by kernel_rfl) (fun _ _ _ h => h) (Or.inl ⟨by rfl, ?_⟩) (HW.out _ hBD) ?_
            rotate_left
            · (intro W hSW; (try dsimp only at hSW); obtain ⟨z0, z1, z2⟩ := hSW; go_simp; try with_reducible rfl)
            (try simp only [Act.put, List.getElem_toArray, List.getElem_cons_zero, List.getElem_cons_succ, List.setIfInBounds_toArray, List.set_cons_zero, List.set_cons_succ])
            refine wpAnyX_pure (i := 4) (v := ?_) rfl (by kernel_rfl) (by kernel_rfl) (by kernel_rfl) (fun _ _ _ h => h) (Or.inl ⟨by rfl, ?_⟩) ?_
            rotate_left
            · (intro W _; go_simp; try with_reducible rfl)
            (try simp only [Act.put, List.getElem_toArray, List.getElem_cons_zero, List.getElem_cons_succ, List.setIfInBounds_toArray, List.set_cons_zero, List.set_cons_succ])
            refine wpAnyX_pure (i := 5) (v := ?_) rfl (by kernel_rfl) (by kernel_rfl) (by kernel_rfl) (fun _ _ _ h => h) (Or.inl ⟨by rfl, ?_⟩) ?_
            rotate_left
            · (intro W _; go_simp; try with_reducible rfl)
            (try simp only [Act.put, List.getElem_toArray, List.getElem_cons_zero, List.getElem_cons_succ, List.setIfInBounds_toArray, List.set_cons_zero, List.set_cons_succ])
            refine wpAnyX_pure (i := 6) (v := ?_) rfl (by kernel_rfl) (by kernel_rfl) (by kernel_rfl) (fun _ _ _ h => h) (Or.inl ⟨by rfl, ?_⟩) ?_
            rotate_left
            · (intro W _; go_simp; try with_reducible rfl)
            (try simp only [Act.put, List.getElem_toArray, List.getElem_cons_zero, List.getElem_cons_succ, List.setIfInBounds_toArray, List.set_cons_zero, List.set_cons_succ])
            refine wpAnyX_pure (i := 7) (v := ?_) rfl (by kernel_rfl) (by kernel_rfl) (by kernel_rfl) (fun _ _ _ h => h) (Or.inl ⟨by rfl, ?_⟩) ?_
            rotate_left
            · (intro W _; go_simp; try with_reducible rfl)
            (try simp only [Act.put, List.getElem_toArray, List.getElem_cons_zero, List.getElem_cons_succ, List.setIfInBounds_toArray, List.set_cons_zero, List.set_cons_succ])
            refine wpAnyX_pure (i := 8) (v := ?_) rfl (by kernel_rfl) (by kernel_rfl) (by kernel_rfl) (fun _ _ _ h => h) (Or.inl ⟨by rfl, ?_⟩) ?_
            rotate_left
            · (intro W _; go_simp; try with_reducible rfl)
            (try simp only [Act.put, List.getElem_toArray, List.getElem_cons_zero, List.getElem_cons_succ, List.setIfInBounds_toArray, List.set_cons_zero, List.set_cons_succ])
            refine wpAnyX_takeL (L := []) (i := 9) (v := ?_) rfl (by kernel_rfl) (by kernel_rfl) (by kernel_rfl) (by kernel_rfl) (fun _ _ _ h => h) (Or.inl ⟨by rfl, ?_⟩) (HW.out _ hBD) ?_
            rotate_left
            · (intro W hSW; (try dsimp only at hSW); obtain ⟨z0, z1, z2⟩ := hSW; go_simp; try with_reducible rfl)
            (try simp only [Act.put, List.getElem_toArray, List.getElem_cons_zero, List.getElem_cons_succ, List.setIfInBounds_toArray, List.set_cons_zero, List.set_cons_succ])
            refine wpAnyX_pure (i := 10) (v := ?_) rfl (by kernel_rfl) (by kernel_rfl) (by kernel_rfl) (fun _ _ _ h => h) (Or.inl ⟨by rfl, ?_⟩) ?_
            rotate_left
            · (intro W _; go_simp; try with_reducible rfl)
            (try simp only [Act.put, List.getElem_toArray, List.getElem_cons_zero, List.getElem_cons_succ, List.setIfInBounds_toArray, List.set_cons_zero, List.set_cons_succ])
            refine wpAnyX_takeL (L := []) (i := 11) (v := ?_) rfl (by kernel_rfl) (by kernel_rfl) (by kernel_rfl) (by kernel_rfl) (fun _ _ _ h => h) (Or.inl ⟨by rfl, ?_⟩) (HW.out _ hBD) ?_
            rotate_left
            · (intro W hSW; (try dsimp only at hSW); obtain ⟨z0, z1, z2⟩ := hSW; go_simp; try with_reducible rfl)
            (try simp only [Act.put, List.getElem_toArray, List.getElem_cons_zero, List.getElem_cons_succ, List.setIfInBounds_toArray, List.set_cons_zero, List.set_cons_succ])
            refine wpAnyX_pure (i := 12) (v := ?_) rfl (by kernel_rfl) (by kernel_rfl) (by kernel_rfl) (fun _ _ _ h => h) (Or.inl ⟨by rfl, ?_⟩) ?_
            rotate_left
            · (intro W _; go_simp; try with_reducible rfl)
            (try simp only [Act.put, List.getElem_toArray, List.getElem_cons_zero, List.getElem_cons_succ, List.setIfInBounds_toArray, List.set_cons_zero, List.set_cons_succ])
            refine wpAnyX_pure (i := 13) (v := ?_) rfl (by kernel_rfl) (by kernel_rfl) (by kernel_rfl) (fun _ _ _ h => h) (Or.inl ⟨by rfl, ?_⟩) ?_
            rotate_left
            · (intro W _; go_simp; try with_reducible rfl)
            (try simp only [Act.put, List.getElem_toArray, List.getElem_cons_zero, List.getElem_cons_succ, List.setIfInBounds_toArray, List.set_cons_zero, List.set_cons_succ])
            refine wpAnyX_pure (i := 14) (v := ?_) rfl (by kernel_rfl) (by kernel_rfl) (by kernel_rfl) (fun _ _ _ h => h) (Or.inl ⟨by rfl, ?_⟩) ?_
            rotate_left
            · (intro W _; go_simp; try with_reducible rfl)
            (try simp only [Act.put, List.getElem_toArray, List.getElem_cons_zero, List.getElem_cons_succ, List.setIfInBounds_toArray, List.set_cons_zero, List.set_cons_succ])
            refine wpAnyX_done (by kernel_rfl) ?_ _
            obtain ⟨W0, hW0⟩ : ∃ W0, W0 = wr.drew := ⟨_, rfl⟩
            have bW0 : Below wr.heap.size wr W0 := by rw [hW0]; exact below_drewN (Below.refl _ _) 1
            rw [← hW0]
            clear hW0 hBD y1 y2
            obtain ⟨V0, hV0⟩ : ∃ V0, V0 = W0.drew := ⟨_, rfl⟩
            have bV0 : Below wr.heap.size wr V0 := by rw [hV0]; exact below_drewN bW0 1
            have oV0 := HV.out.kept bV0
            have hBV : Below w6.heap.size w6 V0 := HBR.out.trans (bV0.mono hz8)
            obtain ⟨A2, c2, W1, r1, o2, b2, _⟩ := run_append_oneW oV0 z hBV.size hVl
            have HB1 := Lib.hid (hBV.trans b2)
            clear oV0 b2 bV0 bW0
            go_wp2_with fail
            refine wp_region_heldX (X := fun k => ([] : List Nat).contains k) (S := fun W => W.cell? ⟨gE, oE + j, none⟩ = some (.int .i64 (x : Nat)) ∧ W.cell? ⟨w.heap.size + 1, 0, none⟩ = some (.slice (some ⟨g0, o0, none⟩) n0 c0) ∧ W.cell? ⟨g0, o0 + x, none⟩ = some (.int .i64 z)) (by kernel_rfl) ?_
            rw [← hV0]
            clear hV0
            refine wpAnyX_pure (i := 0) (v := ?_) rfl (by kernel_rfl) (by kernel_rfl) (by kernel_rfl) (fun _ _ _ h => h) (Or.inl ⟨by rfl, ?_⟩) ?_
            rotate_left
            · (intro W _; go_simp; try with_reducible rfl)
            (try simp only [Act.put, List.getElem_toArray, List.getElem_cons_zero, List.getElem_cons_succ, List.setIfInBounds_toArray, List.set_cons_zero, List.set_cons_succ])
            refine wpAnyX_pure (i := 1) (v := ?_) rfl (by kernel_rfl) (by kernel_rfl) (by kernel_rfl) (fun _ _ _ h => h) (Or.inl ⟨by rfl, ?_⟩) ?_
            rotate_left
            · (intro W _; go_simp; try with_reducible rfl)
            (try simp only [Act.put, List.getElem_toArray, List.getElem_cons_zero, List.getElem_cons_succ, List.setIfInBounds_toArray, List.set_cons_zero, List.set_cons_succ])
            refine wpAnyX_takeL (L := []) (i := 2) (v := ?_) rfl (by kernel_rfl) (by kernel_rfl) (by kernel_rfl) (by kernel_rfl) (fun _ _ _ h => h) (Or.inl ⟨by rfl, ?_⟩) (HW.out _ hBV) ?_
            rotate_left
            · (intro W hSW; (try dsimp only at hSW); obtain ⟨z0, z1, z2⟩ := hSW; go_simp; try with_reducible rfl)
            (try simp only [Act.put, List.getElem_toArray, List.getElem_cons_zero, List.getElem_cons_succ, List.setIfInBounds_toArray, List.set_cons_zero, List.set_cons_succ])
            refine wpAnyX_pure (i := 3) (v := ?_) rfl (by kernel_rfl) (by kernel_rfl) (by kernel_rfl) (fun _ _ _ h => h) (Or.inl ⟨by rfl, ?_⟩) ?_
            rotate_left
            · (intro W _; go_simp; try with_reducible rfl)
            (try simp only [Act.put, List.getElem_toArray, List.getElem_cons_zero, List.getElem_cons_succ, List.setIfInBounds_toArray, List.set_cons_zero, List.set_cons_succ])
            refine wpAnyX_pure (i := 4) (v := ?_) rfl (by kernel_rfl) (by kernel_rfl) (by kernel_rfl) (fun _ _ _ h => h) (Or.inl ⟨by rfl, ?_⟩) ?_
            rotate_left
            · (intro W _; go_simp; try with_reducible rfl)
            (try simp only [Act.put, List.getElem_toArray, List.getElem_cons_zero, List.getElem_cons_succ, List.setIfInBounds_toArray, List.set_cons_zero, List.set_cons_succ])
            refine wpAnyX_pure (i := 5) (v := ?_) rfl (by kernel_rfl) (by kernel_rfl) (by kernel_rfl) (fun _ _ _ h => h) (Or.inl ⟨by rfl, ?_⟩) ?_
            rotate_left
            · (intro W _; go_simp; try with_reducible rfl)
            (try simp only [Act.put, List.getElem_toArray, List.getElem_cons_zero, List.getElem_cons_succ, List.setIfInBounds_toArray, List.set_cons_zero, List.set_cons_succ])
            refine wpAnyX_takeL (L := []) (i := 6) (v := ?_) rfl (by kernel_rfl) (by kernel_rfl) (by kernel_rfl) (by kernel_rfl) (fun _ _ _ h => h) (Or.inl ⟨by rfl, ?_⟩) (HW.out _ hBV) ?_
            rotate_left
            · (intro W hSW; (try dsimp only at hSW); obtain ⟨z0, z1, z2⟩ := hSW; go_simp; try with_reducible rfl)
            (try simp only [Act.put, List.getElem_toArray, List.getElem_cons_zero, List.getElem_cons_succ, List.setIfInBounds_toArray, List.set_cons_zero, List.set_cons_succ])
            refine wpAnyX_pure (i := 7) (v := ?_) rfl (by kernel_rfl) (by kernel_rfl) (by kernel_rfl) (fun _ _ _ h => h) (Or.inl ⟨by rfl, ?_⟩) ?_
            rotate_left
            · (intro W _; go_simp; try with_reducible rfl)
            (try simp only [Act.put, List.getElem_toArray, List.getElem_cons_zero, List.getElem_cons_succ, List.setIfInBounds_toArray, List.set_cons_zero, List.set_cons_succ])
            refine wpAnyX_takeL (L := []) (i := 8) (v := ?_) rfl (by kernel_rfl) (by kernel_rfl) (by kernel_rfl) (by kernel_rfl) (fun _ _ _ h => h) (Or.inl ⟨by rfl, ?_⟩) (HW.out _ hBV) ?_
            rotate_left
            · (intro W hSW; (try dsimp only at hSW); obtain ⟨z0, z1, z2⟩ := hSW; go_simp; try with_reducible rfl)
            (try simp only [Act.put, List.getElem_toArray, List.getElem_cons_zero, List.getElem_cons_succ, List.setIfInBounds_toArray, List.set_cons_zero, List.set_cons_succ])
            refine wpAnyX_one (i := 9) rfl (by kernel_rfl) (fun K hK => ?_)
            go_simp
            refine hK.out _ _ (fun _ _ => HW.out _ (bt hBV (alloc_below _ _))) ?_
            (try simp only [Act.put, List.getElem_toArray, List.getElem_cons_zero, List.getElem_cons_succ, List.setIfInBounds_toArray, List.set_cons_zero, List.set_cons_succ])
            refine wpAnyX_one (i := 10) rfl (by kernel_rfl) (fun K hK => ?_)
            refine step_app rfl _ _ _ _ rfl _ _ rfl rfl _ _ r1 ?_
            refine hK.out _ _ (fun _ _ => HW.out _ HB1.out) ?_
            (try simp only [Act.put, List.getElem_toArray, List.getElem_cons_zero, List.getElem_cons_succ, List.setIfInBounds_toArray, List.set_cons_zero, List.set_cons_succ])
            refine wpAnyX_pure (i := 11) (v := ?_) rfl (by kernel_rfl) (by kernel_rfl) (by kernel_rfl) (fun _ _ _ h => h) (Or.inl ⟨by rfl, ?_⟩) ?_
            rotate_left
            · (intro W _; go_simp; try with_reducible rfl)
            (try simp only [Act.put, List.getElem_toArray, List.getElem_cons_zero, List.getElem_cons_succ, List.setIfInBounds_toArray, List.set_cons_zero, List.set_cons_succ])
            refine wpAnyX_done (by kernel_rfl) ?_ _
            have HO2 := Lib.hid o2
            have LN := Lib.hid (show (rsV l0 (xs.take (j + 1))).length = (rsV l0 (xs.take j)).length + 1 by rw [HNX.out, List.length_append]; rfl)
            clear r1 o2 hBV hVl
            go_wp2_with fail
            go_roundw
            case rel =>
              (repeat apply Exists.intro)
              refine ⟨?ra, ?rb⟩
              case rb => rfl
              case ra => exact ⟨j + 1, A2, c2, by rw [LN.out], by go_num, by omega, by rw [LN.out, HNX.out]; exact HO2.out, HB1.out⟩
            case measure => simp [intOf]; omega
          · skip
            have t2 : decide ((x : Int) < (n0 : Int)) = false := by simp; omega
            have t2' : decide (x < n0) = false := by simp; omega
            rw [if_neg (by have := HL0.out; omega)] at hnx
            have HNX := Lib.hid hnx
            have HS := Lib.hid (show wr.drew.cell? ⟨gE, oE + j, none⟩ = some (.int .i64 (x : Nat)) ∧ wr.drew.cell? ⟨w.heap.size + 1, 0, none⟩ = some (.slice C0 n0 c0) from ⟨y1, y2⟩)
            clear hnx hxn
            go_wp2_with fail
            refine wp_region_heldX (X := fun k => ([] : List Nat).contains k) (S := fun W => W.cell? ⟨gE, oE + j, none⟩ = some (.int .i64 (x : Nat)) ∧ W.cell? ⟨w.heap.size + 1, 0, none⟩ = some (.slice C0 n0 c0)) (by kernel_rfl) ?_
            refine wpAnyX_pure (i := 0) (v := ?_) rfl (by kernel_rfl) (by kernel_rfl) (by kernel_rfl) (fun _ _ _ h => h) (Or.inl ⟨by rfl, ?_⟩) ?_
            rotate_left
            · (intro W _; go_simp; try with_reducible rfl)
            (try simp only [Act.put, List.getElem_toArray, List.getElem_cons_zero, List.getElem_cons_succ, List.setIfInBounds_toArray, List.set_cons_zero, List.set_cons_succ])
            refine wpAnyX_pure (i := 1) (v := ?_) rfl (by kernel_rfl) (by kernel_rfl) (by kernel_rfl) (fun _ _ _ h => h) (Or.inl ⟨by rfl, ?_⟩) ?_
            rotate_left
            · (intro W _; go_simp; try with_reducible rfl)
            (try simp only [Act.put, List.getElem_toArray, List.getElem_cons_zero, List.getElem_cons_succ, List.setIfInBounds_toArray, List.set_cons_zero, List.set_cons_succ])
            refine wpAnyX_pure (i := 2) (v := ?_) rfl (by kernel_rfl) (by kernel_rfl) (by kernel_rfl) (fun _ _ _ h => h) (Or.inl ⟨by rfl, ?_⟩) ?_
            rotate_left
            · (intro W _; go_simp; try with_reducible rfl)
            (try simp only [Act.put, List.getElem_toArray, List.getElem_cons_zero, List.getElem_cons_succ, List.setIfInBounds_toArray, List.set_cons_zero, List.set_cons_succ])
            refine wpAnyX_takeL (L := []) (i := 3) (v := ?_) rfl (by kernel_rfl) (by kernel_rfl) (by kernel_rfl) (by kernel_rfl) (fun _ _ _ h => h) (Or.inl ⟨by rfl, ?_⟩) (HS.out) ?_
            rotate_left
            · (intro W hSW; (try dsimp only at hSW); obtain ⟨z0, z1⟩ := hSW; go_simp; try with_reducible rfl)
            (try simp only [Act.put, List.getElem_toArray, List.getElem_cons_zero, List.getElem_cons_succ, List.setIfInBounds_toArray, List.set_cons_zero, List.set_cons_succ])
            refine wpAnyX_pure (i := 4) (v := ?_) rfl (by kernel_rfl) (by kernel_rfl) (by kernel_rfl) (fun _ _ _ h => h) (Or.inl ⟨by rfl, ?_⟩) ?_
            rotate_left
            · (intro W _; go_simp; try with_reducible rfl)
            (try simp only [Act.put, List.getElem_toArray, List.getElem_cons_zero, List.getElem_cons_succ, List.setIfInBounds_toArray, List.set_cons_zero, List.set_cons_succ])
            refine wpAnyX_pure (i := 5) (v := ?_) rfl (by kernel_rfl) (by kernel_rfl) (by kernel_rfl) (fun _ _ _ h => h) (Or.inl ⟨by rfl, ?_⟩) ?_
            rotate_left
            · (intro W _; go_simp; try with_reducible rfl)
            (try simp only [Act.put, List.getElem_toArray, List.getElem_cons_zero, List.getElem_cons_succ, List.setIfInBounds_toArray, List.set_cons_zero, List.set_cons_succ])
            refine wpAnyX_pure (i := 6) (v := ?_) rfl (by kernel_rfl) (by kernel_rfl) (by kernel_rfl) (fun _ _ _ h => h) (Or.inl ⟨by rfl, ?_⟩) ?_
            rotate_left
            · (intro W _; go_simp; try with_reducible rfl)
            (try simp only [Act.put, List.getElem_toArray, List.getElem_cons_zero, List.getElem_cons_succ, List.setIfInBounds_toArray, List.set_cons_zero, List.set_cons_succ])
            refine wpAnyX_pure (i := 7) (v := ?_) rfl (by kernel_rfl) (by kernel_rfl) (by kernel_rfl) (fun _ _ _ h => h) (Or.inl ⟨by rfl, ?_⟩) ?_
            rotate_left
            · (intro W _; go_simp; try with_reducible rfl)
            (try simp only [Act.put, List.getElem_toArray, List.getElem_cons_zero, List.getElem_cons_succ, List.setIfInBounds_toArray, List.set_cons_zero, List.set_cons_succ])
            refine wpAnyX_pure (i := 8) (v := ?_) rfl (by kernel_rfl) (by kernel_rfl) (by kernel_rfl) (fun _ _ _ h => h) (Or.inl ⟨by rfl, ?_⟩) ?_
            rotate_left
            · (intro W _; go_simp; try with_reducible rfl)
            (try simp only [Act.put, List.getElem_toArray, List.getElem_cons_zero, List.getElem_cons_succ, List.setIfInBounds_toArray, List.set_cons_zero, List.set_cons_succ])
            refine wpAnyX_takeL (L := []) (i := 9) (v := ?_) rfl (by kernel_rfl) (by kernel_rfl) (by kernel_rfl) (by kernel_rfl) (fun _ _ _ h => h) (Or.inl ⟨by rfl, ?_⟩) (HS.out) ?_
            rotate_left
            · (intro W hSW; (try dsimp only at hSW); obtain ⟨z0, z1⟩ := hSW; go_simp; try with_reducible rfl)
            (try simp only [Act.put, List.getElem_toArray, List.getElem_cons_zero, List.getElem_cons_succ, List.setIfInBounds_toArray, List.set_cons_zero, List.set_cons_succ])
            refine wpAnyX_pure (i := 10) (v := ?_) rfl (by kernel_rfl) (by kernel_rfl) (by kernel_rfl) (fun _ _ _ h => h) (Or.inl ⟨by rfl, ?_⟩) ?_
            rotate_left
            · (intro W _; go_simp; try with_reducible rfl)
            (try simp only [Act.put, List.getElem_toArray, List.getElem_cons_zero, List.getElem_cons_succ, List.setIfInBounds_toArray, List.set_cons_zero, List.set_cons_succ])
            refine wpAnyX_takeL (L := []) (i := 11) (v := ?_) rfl (by kernel_rfl) (by kernel_rfl) (by kernel_rfl) (by kernel_rfl) (fun _ _ _ h => h) (Or.inl ⟨by rfl, ?_⟩) (HS.out) ?_
            rotate_left
            · (intro W hSW; (try dsimp only at hSW); obtain ⟨z0, z1⟩ := hSW; go_simp; try with_reducible rfl)
            (try simp only [Act.put, List.getElem_toArray, List.getElem_cons_zero, List.getElem_cons_succ, List.setIfInBounds_toArray, List.set_cons_zero, List.set_cons_succ])
            refine wpAnyX_pure (i := 12) (v := ?_) rfl (by kernel_rfl) (by kernel_rfl) (by kernel_rfl) (fun _ _ _ h => h) (Or.inl ⟨by rfl, ?_⟩) ?_
            rotate_left
            · (intro W _; go_simp; try with_reducible rfl)
            (try simp only [Act.put, List.getElem_toArray, List.getElem_cons_zero, List.getElem_cons_succ, List.setIfInBounds_toArray, List.set_cons_zero, List.set_cons_succ])
            refine wpAnyX_pure (i := 13) (v := ?_) rfl (by kernel_rfl) (by kernel_rfl) (by kernel_rfl) (fun _ _ _ h => h) (Or.inl ⟨by rfl, ?_⟩) ?_
            rotate_left
            · (intro W _; go_simp; try with_reducible rfl)
            (try simp only [Act.put, List.getElem_toArray, List.getElem_cons_zero, List.getElem_cons_succ, List.setIfInBounds_toArray, List.set_cons_zero, List.set_cons_succ])
            refine wpAnyX_pure (i := 14) (v := ?_) rfl (by kernel_rfl) (by kernel_rfl) (by kernel_rfl) (fun _ _ _ h => h) (Or.inl ⟨by rfl, ?_⟩) ?_
            rotate_left
            · (intro W _; go_simp; try with_reducible rfl)
            (try simp only [Act.put, List.getElem_toArray, List.getElem_cons_zero, List.getElem_cons_succ, List.setIfInBounds_toArray, List.set_cons_zero, List.set_cons_succ])
            refine wpAnyX_done (by kernel_rfl) ?_ _
            clear y1 y2
            go_wp2_with fail
            go_roundw
            case rel => exact ⟨j + 1, AV, cV, by rw [HNX.out], by go_num, by omega, by rw [HNX.out]; exact HV.out.kept (below_drewN (Below.refl _ _) 1), below_drewN HBR.out 1⟩
            case measure => simp [intOf]; omega
      · obtain rfl : j = ln := by omega
        have hX : xs.take j = xs := List.take_of_length_le (by rw [HLX.out]; exact Nat.le_refl _)
        rw [hX] at hV ⊢
        have hVl := rsV_len l0 xs
        rw [HLX.out] at hVl
        obtain ⟨nv, hnv⟩ : ∃ nv, nv = (rsV l0 xs).length := ⟨_, rfl⟩
        rw [← hnv] at hV hVl ⊢
        have HVI := Lib.hid (hV.ints (by rw [← hnv]; omega))
        obtain ⟨Y, s7, g, hgr, hYl, hgok, hgno⟩ := frm_lenC HM.out (rsV l0 xs)
        have HGR := Lib.hid hgr
        have HGK := Lib.hid hgok
        obtain ⟨k0, k1, k2, k3, _⟩ := (HG.out _ hbw).cells
        have HBW := Lib.hid hbw
        clear hX hV hbr hgr hgok hgno hnv hbw
        go_wp2_with fail
        refine (prunw i st A B AV n c n d nv cV nx ot (rsV l0 xs) wr (HX.out _ HBW.out) (HO.out _ HBW.out) HVI.out).mono ?_
        rintro e w7 ⟨A7, c7, rfl, o7, a7⟩
        rw [HGR.out] at o7 ⊢
        dsimp only at o7 ⊢
        have hb7 := bt HBW.out a7
        have HB7 := Lib.hid hb7
        have HI6 := Lib.hid ((HO6.out.kept (bt HBR.out a7)).ints (by omega))
        have HI7 := Lib.hid (o7.ints (by omega))
        clear k0 k1 k2 k3 a7 o7 hb7
        by_cases hch : chk xs a = 0
        · obtain ⟨e1, e2⟩ := HFK.out hch
          have hwd := chk_wd hch
          rw [HA5.out] at hwd
          have hev := rsV_all hwd
          have hlx2 : (rsW l0 xs).length = xs.length := by unfold rsW; rw [List.length_map]
          have hcw : chk (rsV l0 xs) i = 0 := by
            rw [hev]
            exact wd_chk (rsW_wd HCH.out hwd) hi1 hi2 (by rw [hlx2]; exact (chk_zero hch).2.2.1)
          obtain ⟨e3, e4⟩ := HGK.out hcw
          have hXY : X = Y := by rw [e1, e3, hev, HA5.out]; exact rs_trun HM.out HCH.out HLP.out hwd
          subst e2 e4
          have HEQ := Lib.hid (requal A6 A7 X.length c6 Y.length c7 X Y true w7 HI6.out HI7.out (by simp [hXY]))
          clear hch e1 hwd hev hlx2 hcw e3 hXY
          go_wp2_with fail
          refine HEQ.out.mono ?_
          rintro e w8 ⟨rfl, q, rfl⟩
          go_wp2_with fail
          go_meet
          exact below_drewN HB7.out _
        · have e2 := (HFN.out hch).2
          have t1 : (f == 0) = false := by rw [e2]; simpa using hch
          clear hch e2
          go_wp2_with fail
          go_meet
          exact HB7.out
  case rest =>
    have hbc := hcut
    obtain ⟨k0, k1, k2, k3, _⟩ := (HG.out _ hbc).cells
    obtain ⟨y0, y1⟩ := HA.out _ hbc
    clear hcut
    go_wp2_with fail
    refine (pmap i st n A B C1 c d n1 c1 nx ot l1 wc (HX.out _ hbc) (HO.out _ hbc) (HC1.out _ hbc) HM.out).mono ?_
    rintro e w5' ⟨h5, a5⟩
    have hb5 := bt hbc a5
    clear k0 k1 k2 k3 y0 y1
    rcases h5 with ⟨hAll, A9, c9, B9, d9, rfl, o9, t9⟩ | ⟨hno, rfl⟩
    case inr =>
      unfold NoM
      have hbc := bt hb5 (alloc_below w5' (.cells #[.int .i64 0, .int .i64 0, .slice none 0 0, .slice none 0 0] 24))
      clear hno a5 hb5
      go_wp2_with fail
      refine (awake14 _).mono ?_
      rintro e wz ⟨rfl, az⟩
      have hbz := bt HB0.out (bt hbc az)
      go_wp2_with fail
      go_ret
      exact ⟨rfl, hbz⟩
    have hMm := (HM.out.mpO hAll).tr
    obtain ⟨N9, hN9⟩ : ∃ N9, N9 = trN nx i (rch nx i st) := ⟨_, rfl⟩
    obtain ⟨T9, hT9⟩ : ∃ T9, T9 = trO (mpO l1 ot) (rch nx i st) := ⟨_, rfl⟩
    obtain ⟨r9, hr9⟩ : ∃ r9, r9 = (rch nx i st).length := ⟨_, rfl⟩
    have hTR := fun (h : Wd i xs) => mp_trun HM.out hAll h
    rw [← hN9, ← hT9] at hTR
    rw [← hN9, ← hT9, ← hr9] at hMm
    rw [← hN9, ← hr9] at o9
    rw [← hT9, ← hr9] at t9
    rw [← hr9]
    have hr29 := hMm.n2
    obtain ⟨X9, hX9⟩ : ∃ X9, X9 = w5'.alloc (.cells #[.int .i64 i, .int .i64 0, .slice A9 r9 c9, .slice B9 r9 d9] 24) := ⟨_, rfl⟩
    have bx9 : Below w5'.heap.size w5' X9 := by rw [hX9]; exact alloc_below _ _
    have hbc := bt hb5 bx9
    have hMB9 : Mblk X9 w5'.heap.size (.int .i64 i) (.int .i64 0) (.slice A9 r9 c9) (.slice B9 r9 d9) := by rw [hX9]; exact mealy_box w5' _ _ _ _
    have HMB9 := Lib.hid hMB9
    have HN9 := Lib.hid ((lists_ownedM hMm o9).below bx9)
    have HT9 := Lib.hid ((lists_ownedO hMm t9).below bx9)
    have HTR := Lib.hid hTR
    have HALL := Lib.hid hAll
    obtain ⟨X, s6, f, hfr, hXl, hfok, hfno⟩ := frm_lenC HM.out xs
    obtain ⟨Y, s7, g, hgr, hYl, hgok, hgno⟩ := frm_lenC hMm xs
    have hfg : f = g := by
      by_cases h : chk xs i = 0
      · rw [(hfok h).2, (hgok h).2]
      · rw [(hfno h).2, (hgno h).2]
    subst hfg
    have HPT := Lib.hid (show Y.length = X.length ∧ ∀ j, j < X.length → ∃ x : Nat, X.getD j 0 = (x : Int) ∧ x < n1 ∧ Y.getD j 0 = l1.getD x 0 from by
      by_cases h : chk xs i = 0
      · have hw := chk_wd h
        rw [(hfok h).1, (hgok h).1]
        have h2 := HTR.out hw
        refine ⟨by rw [runO_len, runO_len], fun j hj => ?_⟩
        have h3 := run_good HM.out HALL.out xs st HM.out.st hw ((runO nx ot st xs).getD j 0) (by rw [List.getD_eq_getElem?_getD, List.getElem?_eq_getElem hj]; exact List.getElem_mem _)
        rw [HL1.out] at h3
        refine ⟨((runO nx ot st xs).getD j 0).toNat, by omega, by omega, ?_⟩
        rw [show runO N9 T9 (0 : Nat) xs = _ from h2, List.getD_eq_getElem?_getD, List.getElem?_map, List.getD_eq_getElem?_getD (l := runO nx ot st xs), List.getElem?_eq_getElem hj]
        rfl
      · rw [(hfno h).1, (hgno h).1]
        exact ⟨rfl, fun j hj => absurd hj (by simp)⟩)
    have HFR := Lib.hid hfr
    have HGR := Lib.hid hgr
    have HX9 := Lib.hid hX9
    have HBC9 := Lib.hid hbc
    obtain ⟨k0, k1, k2, k3, _⟩ := (HG.out _ hbc).cells
    rw [hX9] at k0 k1 k2 k3
    clear a5 hb5 hMm hN9 hT9 hr9 hTR o9 t9 bx9 hMB9 hAll hfr hgr hfok hfno hgok hgno hX9 hbc
    go_wp2_with fail
    rw [← HX9.out]
    refine (prunw i st A B E n c n d ln cp nx ot xs X9 (HX.out _ HBC9.out) (HO.out _ HBC9.out) (HE.out _ HBC9.out)).mono ?_
    rintro e w6 ⟨A6, c6, rfl, o6, a6⟩
    rw [HFR.out] at o6 ⊢
    dsimp only at o6 ⊢
    have HB6 := Lib.hid a6
    have hbc := bt HBC9.out a6
    have HBC6 := Lib.hid hbc
    have HO6 := Lib.hid o6
    obtain ⟨m0, m1, m2, m3, _⟩ := (HMB9.out.on a6).cells
    clear k0 k1 k2 k3 a6 o6 hbc
    go_wp2_with fail
    refine (prunw i (0 : Nat) A9 B9 E r9 c9 r9 d9 ln cp N9 T9 xs w6 (HN9.out.below HB6.out) (HT9.out.below HB6.out) (HE.out _ HBC6.out)).mono ?_
    rintro e w7 ⟨A7, c7, rfl, o7, a7⟩
    rw [HGR.out] at o7 ⊢
    dsimp only at o7 ⊢
    have HBC7 := Lib.hid (bt HBC6.out a7)
    have HI6 := Lib.hid ((HO6.out.kept a7).ints (by omega))
    have HI7 := Lib.hid (o7.ints (by omega))
    rw [HPT.out.1] at HI7 ⊢
    obtain ⟨L, hL⟩ : ∃ L, L = X.length := ⟨_, rfl⟩
    have HPU := Lib.hid HPT.out.2
    rw [← hL] at HI6 HI7 HPU ⊢
    have hLl : L ≤ 1024 := by omega
    have u1 : (f != f) = false := by simp
    have u2 : ((L : Int) != (L : Int)) = false := by simp
    have u3 : (L != L) = false := by simp
    clear m0 m1 m2 m3 a7 o7 hL hXl hYl
    go_wp2_with fail
    go_loopw [145] (fun v wr => ∃ j : Nat, v = .int .i64 j ∧ j ≤ L ∧ Below w7.heap.size w7 wr) (fun v _ => L - (intOf v).toNat)
    case atStart => exact ⟨0, rfl, Nat.zero_le _, Below.refl _ _⟩
    case round =>
      obtain ⟨j, rfl, hj, hbr⟩ := hrel
      have HBR := Lib.hid hbr
      by_cases hlt : j < L
      · obtain ⟨x, hx, hxn, hy⟩ := HPU.out j hlt
        obtain ⟨g6, z6, rfl, f6, d6⟩ := HI6.out.at_ hlt
        obtain ⟨g7, z7, rfl, f7, d7⟩ := HI7.out.at_ hlt
        obtain ⟨g8, z8, rfl, f8, d8⟩ := (HC1.out _ (Below.refl _ _)).at_ hxn
        have hbw := bt HBC7.out hbr
        have d6 := (hbr.cell (p := ⟨g6, z6 + j, none⟩) f6).trans d6
        have d7 := (hbr.cell (p := ⟨g7, z7 + j, none⟩) f7).trans d7
        have d8 := (hbw.cell (p := ⟨g8, z8 + x, none⟩) f8).trans d8
        obtain ⟨_, y1⟩ := HA.out _ hbw
        rw [hx] at d6
        rw [hy] at d7
        obtain ⟨z, hz⟩ : ∃ z, z = l1.getD x 0 := ⟨_, rfl⟩
        rw [← hz] at d7 d8
        have t1 : (z != z) = false := by simp
        have t2 : decide ((x : Int) < 0) = false := by simp
        have t3 : decide ((n1 : Int) ≤ (x : Int)) = false := by simp; omega
        have t3' : decide (n1 ≤ x) = false := by simp; omega
        have p1 : (0 : Int) ≤ (j : Int) := by omega
        have p2 : (j : Int) < (L : Int) := by omega
        have p3 : (0 : Int) ≤ (x : Int) := by omega
        have p4 : (x : Int) < (n1 : Int) := by omega
        clear hx hy hz hbr hbw f6 f7 f8
        go_wp2_with fail
        go_quiet (fail)
        clear d6 d7 d8 y1
        go_wp2_with fail
        go_roundw
        case rel => exact ⟨j + 1, by go_num, by omega, below_drewN HBR.out _⟩
        case measure => simp [intOf]; omega
      · have HJL := Lib.hid (show j = L by omega)
        have hbc := bt HBC7.out hbr
        clear hbr
        go_wp2_with fail
        refine (awake14 _).mono ?_
        rintro e wz ⟨rfl, az⟩
        have hbz := bt HB0.out (bt hbc az)
        go_wp2_with fail
        go_ret
        exact ⟨rfl, hbz⟩
end Go.Proofs.Ytogcecfeofbbnaa
end
