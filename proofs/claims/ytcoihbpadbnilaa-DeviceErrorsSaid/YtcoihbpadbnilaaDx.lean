/- Lemmas of the proofs of this seat, of the parts Dfp, Dmd, Fromr, L19f. Conditions: none. -/
import Derived.Test.YtcoihbpadbnilaaDb
import Derived.Test.YtcoihbpadbnilaaDa
import Derived.Test.YtcoihbpadbnilaaDc
section
/- device: a query of a device without faults. -/
namespace Go.Proofs.Ytcoihbpadbnilaa

theorem rcv_none (x : Nat) (o : Int) : rcv (x : Int) 0 0 o = o := by unfold rcv; rw [if_neg (by omega), if_neg (by omega)]
theorem crs_none (x : Nat) : crs (x : Int) 0 0 0 = false := by unfold crs; exact decide_eq_false (by omega)
/-- A device without faults. -/
structure DF (D : DD) (i st n : Nat) : Prop where
  ok : DOk D i st n
  f1 : D.f1 = 0
  f2 : D.f2 = 0
  f3 : D.f3 = 0
theorem dCost_app (cs : List Int) (rc : Int) (u v : List Int) : dCost cs rc (u ++ v) = dCost cs (dCost cs rc u) v := List.foldl_append
theorem dCost_cons (cs : List Int) (t a : Int) (u : List Int) : dCost cs t (a :: u) = dCost cs (t + cs.getD a.toNat 0) u := rfl
theorem dCost_add (cs : List Int) : ∀ (u : List Int) (t : Int), dCost cs t u = t + dCost cs 0 u
  | [], t => by show t = t + 0; omega
  | a :: u, t => by rw [dCost_cons, dCost_cons, dCost_add cs u, dCost_add cs u (0 + _)]; omega
/-- The steps of a query without faults. -/
theorem qgo_faith : ∀ (u : List Int) (D : DD) (acc : List Int) (i st n : Nat), DF D i st n → D.rdy = true → (∀ x, x ∈ u → 0 ≤ x ∧ x < (i : Int)) → D.sp + (u.length : Int) ≤ 1125899906842624 → D.tm + 1048576 * (u.length : Int) ≤ 1125899906842624 →
    ∃ D' : DD, qgo D u acc = (D', acc ++ runO D.nx D.ot D.s.toNat u, 0) ∧ DF D' i st n ∧ D'.rdy = true ∧ D'.i = D.i ∧ D'.st = D.st ∧ D'.nx = D.nx ∧ D'.ot = D.ot ∧ D'.cs = D.cs ∧ D'.rc = D.rc ∧ D'.s = (runS D.nx D.s.toNat u : Nat) ∧ D'.sp = D.sp + (u.length : Int) ∧ D'.rs = D.rs ∧ D'.tm = dCost D.cs D.tm u
  | [], D, acc, i, st, n, h, hr, _, _, _ => ⟨D, by rw [show runO D.nx D.ot D.s.toNat [] = [] from rfl, List.append_nil]; rfl, h, hr, rfl, rfl, rfl, rfl, rfl, rfl, by show D.s = (D.s.toNat : Int); have := h.ok.s0; omega, by simp, rfl, rfl⟩
  | a :: u, D, acc, i, st, n, h, hr, hu, hsp, htm => by
    have ha := hu a (List.mem_cons_self ..)
    have hc := h.ok.cost (a := a.toNat) (by omega)
    simp only [List.length_cons] at hsp htm
    have hE : D.stpE a = 0 := by
      unfold DD.stpE
      rw [if_pos hr, if_pos (by rw [h.ok.ei]; exact ha), if_pos (by constructor <;> omega)]
    have hO : D.stpO a = oN D.ot D.s.toNat a.toNat := by
      unfold DD.stpO
      rw [if_pos hE, h.f1, h.f2]
      exact rcv_none _ _
    have hD : D.stpD a = D.stp a := by unfold DD.stpD; rw [if_pos hE]
    have hR : (D.stp a).rdy = true := by
      unfold DD.stp
      show (!crs _ D.f1 D.f2 D.f3) = true
      rw [h.f1, h.f2, h.f3, crs_none]; rfl
    have hok : DF (D.stpD a) i st n := ⟨h.ok.stpD a, by rw [hD]; exact h.f1, by rw [hD]; exact h.f2, by rw [hD]; exact h.f3⟩
    have hpos : 0 ≤ oN D.ot D.s.toNat a.toNat := by
      have := h.ok.s0
      have := h.ok.s1
      exact ((h.ok.m.row D.s.toNat (by omega)).2.2 a.toNat (by omega)).2.2.1
    have hno : ¬ (D.stpO a = -1 ∨ (D.stpD a).rdy = false ∧ ¬ u = []) := by
      rw [hO, hD, hR]
      intro hh
      rcases hh with hh | hh
      · omega
      · exact absurd hh.1 (by decide)
    obtain ⟨D', e1, e2, e3, e4, e5, e6, e7, e8, e9, e10, e11, e12, e13⟩ := qgo_faith u (D.stpD a) (acc ++ [D.stpO a]) i st n hok (by rw [hD]; exact hR) (fun x hx => hu x (List.mem_cons_of_mem _ hx)) (by rw [hD]; show D.sp + 1 + (u.length : Int) ≤ _; omega) (by rw [hD]; show D.tm + D.cs.getD a.toNat 0 + _ ≤ _; omega)
    rw [hD] at e4 e5 e6 e7 e8 e9 e10 e11 e12 e13
    rw [qgo_on hE hno, e1, hO, hD]
    have hs : (D.stp a).s.toNat = nN D.nx D.s.toNat a.toNat := by unfold DD.stp; exact Int.toNat_natCast _
    rw [hs] at e10 ⊢
    refine ⟨D', ?_, e2, e3, e4, e5, e6, e7, e8, e9, e10, ?_, e12, e13⟩
    · show (D', acc ++ [oN D.ot D.s.toNat a.toNat] ++ runO D.nx D.ot (nN D.nx D.s.toNat a.toNat) u, (0 : Int)) = (D', acc ++ (oN D.ot D.s.toNat a.toNat :: runO D.nx D.ot (nN D.nx D.s.toNat a.toNat) u), 0)
      rw [List.append_assoc]; rfl
    · rw [e11]; show D.sp + 1 + (u.length : Int) = _; simp only [List.length_cons]; omega

/-- A query of a device without faults. -/
theorem query_faith {D : DD} {i st n : Nat} (h : DF D i st n) {u : List Int} (hu : chk u i = 0) (hl : u.length ≤ 60) (h1 : D.sp ≤ 60) (h2 : D.rs ≤ 60) (h3 : D.tm ≤ 100000000) :
    ∃ D' : DD, D.query u = (D', runO D.nx D.ot st u, 0) ∧ DF D' i st n ∧ D'.rdy = true ∧ D'.i = D.i ∧ D'.st = D.st ∧ D'.nx = D.nx ∧ D'.ot = D.ot ∧ D'.cs = D.cs ∧ D'.rc = D.rc ∧ D'.s = (runS D.nx st u : Nat) ∧ D'.sp = D.sp + (u.length : Int) ∧ D'.rs = D.rs + 1 ∧ D'.tm = D.tm + dCost D.cs D.rc u := by
  have hrc := h.ok.aff.1
  have hcn := h.ok.cnt
  have hcan : D.canR := ⟨by omega, by omega⟩
  have hsy := Syms.mem (chk_zero hu).2.2.2
  have hE : D.query u = qgo D.rst u [] := by
    unfold DD.query
    rw [if_pos h.ok.err, if_pos (by rw [h.ok.ei]; exact hu)]
    unfold DD.qry
    rw [if_pos hcan]
  have hst : D.rst.s.toNat = st := by show D.st.toNat = st; rw [h.ok.est]; exact Int.toNat_natCast _
  obtain ⟨D', e1, e2, e3, e4, e5, e6, e7, e8, e9, e10, e11, e12, e13⟩ := qgo_faith u D.rst [] i st n ⟨h.ok.rst hcan, h.f1, h.f2, h.f3⟩ rfl hsy (by show D.sp + _ ≤ _; omega) (by show D.tm + D.rc + _ ≤ _; omega)
  rw [hst] at e1 e10
  refine ⟨D', by rw [hE, e1]; rfl, e2, e3, e4, e5, e6, e7, e8, e9, e10, e11, e12, ?_⟩
  rw [e13]
  show dCost D.cs (D.tm + D.rc) u = D.tm + dCost D.cs D.rc u
  rw [dCost_add D.cs u (D.tm + D.rc), dCost_add D.cs u D.rc]
  omega
theorem cost_faith {D : DD} {i st n : Nat} (h : DOk D i st n) {u : List Int} (hu : chk u i = 0) : dCostE D.cs D.rc u = 0 ∧ dCostN D.cs D.rc u = dCost D.cs D.rc u := by
  have hc := chk_zero hu
  have hi := h.m.i2
  have h0 : dCostE D.cs D.rc u = 0 := by
    unfold dCostE
    rw [if_pos ⟨by rw [h.cl]; omega, h.aff⟩, h.cl]
    exact hu
  exact ⟨h0, by unfold dCostN; rw [if_pos h0]⟩
theorem cost_range {D : DD} {i st n : Nat} (h : DOk D i st n) {u : List Int} (hu : chk u i = 0) (hl : u.length ≤ 60) : 0 ≤ dCost D.cs D.rc u ∧ dCost D.cs D.rc u ≤ 70000000 := by
  have := dCost_range h.aff u (by rw [h.cl]; exact Syms.mem (chk_zero hu).2.2.2) u.length (Nat.le_refl _)
  rw [List.take_of_length_le (Nat.le_refl _)] at this
  omega
end Go.Proofs.Ytcoihbpadbnilaa
end

section
/- device: made, of the laws. -/
namespace Go.Proofs.Ytcoihbpadbnilaa
open Go.RowKit

def MadeP (w : World) (D : DD) (e : Ending) (w' : World) : Prop := ∃ (ok : Bool) (D' : DD) (H' : DH), e = .returned (.tuple #[dvA D' H', .bool ok]) ∧ (ok = true → D' = D ∧ D.err = 0) ∧ DevN w' w.heap.size D' H' ∧ Below w.heap.size w w'
set_option maxHeartbeats 8000000 in
set_option maxRecDepth 100000 in
theorem pmade (i st rc f1 f2 f3 : Int) (A B L : Option Addr) (n c m d l lc : Nat) (nx ot : List (List Int)) (cs : List Int) (sd : Nat) (w : World) (hx : Lists w A n nx) (ho : Lists w B m ot) (hcs : Ints w L l cs) (hs : sd < 18446744073709551616) :
    Calls Try.prog 24 #[.agg #[.int .i64 i, .int .i64 st, .slice A n c, .slice B m d], .agg #[.slice L l lc, .int .i64 rc], .agg #[.int .i64 f1, .int .i64 f2, .int .i64 f3], .int .u64 (sd : Int)] w (MadeP w (newD i st nx ot cs rc f1 f2 f3 sd)) := by
  obtain ⟨w1, hw1⟩ : ∃ w1, w1 = w.alloc (.cells #[.int .i64 i, .int .i64 st, .slice A n c, .slice B m d] 24) := ⟨_, rfl⟩
  obtain ⟨w2, hw2⟩ : ∃ w2, w2 = w1.alloc (.cells #[.slice L l lc, .int .i64 rc] 27) := ⟨_, rfl⟩
  obtain ⟨w3, hw3⟩ : ∃ w3, w3 = w2.alloc (.cells #[.int .i64 f1, .int .i64 f2, .int .i64 f3] 29) := ⟨_, rfl⟩
  obtain ⟨w4, hw4⟩ : ∃ w4, w4 = w3.alloc (.cells zcD 32) := ⟨_, rfl⟩
  have b1 : Below w.heap.size w w1 := by rw [hw1]; exact alloc_below _ _
  have b2 : Below w1.heap.size w1 w2 := by rw [hw2]; exact alloc_below _ _
  have b3 : Below w2.heap.size w2 w3 := by rw [hw3]; exact alloc_below _ _
  have b4 : Below w3.heap.size w3 w4 := by rw [hw4]; exact alloc_below _ _
  have z1 : w1.heap.size = w.heap.size + 1 := by rw [hw1]; simp
  have z2 : w2.heap.size = w.heap.size + 1 + 1 := by rw [hw2]; simp [z1]
  have z3 : w3.heap.size = w.heap.size + 1 + 1 + 1 := by rw [hw3]; simp [z2]
  have z4 : w4.heap.size = w.heap.size + 1 + 1 + 1 + 1 := by rw [hw4]; simp [z3]
  have m1 : Blk w4 w.heap.size #[.int .i64 i, .int .i64 st, .slice A n c, .slice B m d] 24 := ((((by rw [hw1]; exact blk_new _ _ _ : Blk w1 w.heap.size _ _)).on b2).on b3).on b4
  have m2 : Blk w4 (w.heap.size + 1) #[.slice L l lc, .int .i64 rc] 27 := (((by rw [hw2, ← z1]; exact blk_new _ _ _ : Blk w2 (w.heap.size + 1) _ _)).on b3).on b4
  have m3 : Blk w4 (w.heap.size + 1 + 1) #[.int .i64 f1, .int .i64 f2, .int .i64 f3] 29 := ((by rw [hw3, ← z2]; exact blk_new _ _ _ : Blk w3 (w.heap.size + 1 + 1) _ _)).on b4
  have m4 : Blk w4 (w.heap.size + 1 + 1 + 1) zcD 32 := by rw [hw4, ← z3]; exact blk_new _ _ _
  have b14 : Below w.heap.size w w4 := bt b1 (bt b2 (bt b3 b4))
  have k0 : w4.cell? ⟨w.heap.size, 0, none⟩ = some (.int .i64 i) := m1.cell 0
  have k1 : w4.cell? ⟨w.heap.size, 1, none⟩ = some (.int .i64 st) := m1.cell 1
  have k2 : w4.cell? ⟨w.heap.size, 2, none⟩ = some (.slice A n c) := m1.cell 2
  have k3 : w4.cell? ⟨w.heap.size, 3, none⟩ = some (.slice B m d) := m1.cell 3
  have l0 : w4.cell? ⟨w.heap.size + 1, 0, none⟩ = some (.slice L l lc) := m2.cell 0
  have l1 : w4.cell? ⟨w.heap.size + 1, 1, none⟩ = some (.int .i64 rc) := m2.cell 1
  have q0 : w4.cell? ⟨w.heap.size + 1 + 1, 0, none⟩ = some (.int .i64 f1) := m3.cell 0
  have q1 : w4.cell? ⟨w.heap.size + 1 + 1, 1, none⟩ = some (.int .i64 f2) := m3.cell 1
  have q2 : w4.cell? ⟨w.heap.size + 1 + 1, 2, none⟩ = some (.int .i64 f3) := m3.cell 2
  have hw : w4 = (((w.alloc (.cells #[.int .i64 i, .int .i64 st, .slice A n c, .slice B m d] 24)).alloc (.cells #[.slice L l lc, .int .i64 rc] 27)).alloc (.cells #[.int .i64 f1, .int .i64 f2, .int .i64 f3] 29)).alloc (.cells zcD 32) := by rw [hw4, hw3, hw2, hw1]
  have HB := Lib.hid b14
  have HM1 := Lib.hid (fun (W : World) (h : Below w4.heap.size w4 W) => m1.on h)
  have HM2 := Lib.hid (fun (W : World) (h : Below w4.heap.size w4 W) => m2.on h)
  have HM3 := Lib.hid (fun (W : World) (h : Below w4.heap.size w4 W) => m3.on h)
  have HZ := Lib.hid (fun (W : World) (h : Below w4.heap.size w4 W) => m4.on h)
  have HX := Lib.hid (fun (W : World) (h : Below w4.heap.size w4 W) => (hx.below b14).below h)
  have HO := Lib.hid (fun (W : World) (h : Below w4.heap.size w4 W) => (ho.below b14).below h)
  have HC := Lib.hid (fun (W : World) (h : Below w4.heap.size w4 W) => (hcs.below b14).below h)
  have HW := Lib.hid hw
  have HSD := Lib.hid hs
  have hszD : ∀ D H, (dvC D H).size = 15 := fun _ _ => rfl
  have HSZ := Lib.hid hszD
  rw [hw] at k0 k1 k2 k3 l0 l1
  clear hw1 hw2 hw3 hw4 hw b1 b2 b3 b4 b14 m1 m2 m3 m4 hx ho hcs hs hszD q0 q1 q2
  unfold zcD at HW k0 k1 k2 k3 l0 l1
  go_enter Try.func24, Try.ntmps24
  go_wp2_with fail
  rw [← HW.out]
  refine (rgreat19 i st rc A B L n c m d l lc nx ot _ (HX.out _ (Below.refl _ _)) (HO.out _ (Below.refl _ _))).mono ?_
  rintro e w5 ⟨b1, rfl, a5⟩
  have HB5 := Lib.hid a5
  have HZ5 := Lib.hid (HZ.out _ a5)
  clear k0 k1 k2 k3 l0 l1
  cases b1 with
  | true =>
    clear a5
    have hb : Hid (Below w.heap.size w (w5.setRow (w.heap.size + 1 + 1 + 1) (dvC noD noH))) := Lib.hid (below_setRow (bt HB.out HB5.out) (by omega) _)
    go_wp2_with (refine wpList_store_row rfl 32 _ _ rfl (w.heap.size + 1 + 1 + 1) (dvC noD noH) rfl rfl 32 zcD HZ5.out (by rw [HSZ.out]; kernel_rfl) (by rw [HSZ.out]; rfl) (dvC_one _ _) ?_)
    exact bodyPost_ret (results_dev2 (by rfl) _ _ (w.heap.size + 1 + 1 + 1) (dvC noD noH) (HSZ.out _ _) rfl (HZ5.out.row _)) rfl ⟨false, noD, noH, rfl, fun h => absurd h (by decide), noN _ _, hb.out⟩
  | false =>
    have n1 := HM1.out _ a5
    have n2 := HM2.out _ a5
    have n3 := HM3.out _ a5
    have k0 : w5.cell? ⟨w.heap.size, 0, none⟩ = some (.int .i64 i) := n1.cell 0
    have k1 : w5.cell? ⟨w.heap.size, 1, none⟩ = some (.int .i64 st) := n1.cell 1
    have k2 : w5.cell? ⟨w.heap.size, 2, none⟩ = some (.slice A n c) := n1.cell 2
    have k3 : w5.cell? ⟨w.heap.size, 3, none⟩ = some (.slice B m d) := n1.cell 3
    have l0 : w5.cell? ⟨w.heap.size + 1, 0, none⟩ = some (.slice L l lc) := n2.cell 0
    have l1 : w5.cell? ⟨w.heap.size + 1, 1, none⟩ = some (.int .i64 rc) := n2.cell 1
    have q0 : w5.cell? ⟨w.heap.size + 1 + 1, 0, none⟩ = some (.int .i64 f1) := n3.cell 0
    have q1 : w5.cell? ⟨w.heap.size + 1 + 1, 1, none⟩ = some (.int .i64 f2) := n3.cell 1
    have q2 : w5.cell? ⟨w.heap.size + 1 + 1, 2, none⟩ = some (.int .i64 f3) := n3.cell 2
    clear n1 n2 n3 a5
    go_upto_region 3 with fail
    go_wp2_with fail
    refine (pdnew i st rc f1 f2 f3 A B L n c m d l lc nx ot cs sd _ (HX.out _ HB5.out) (HO.out _ HB5.out) (HC.out _ HB5.out) HSD.out).mono ?_
    rintro e w6 ⟨H', rfl, d6, a6⟩
    obtain ⟨D, hD⟩ : ∃ D, D = newD i st nx ot cs rc f1 f2 f3 sd := ⟨_, rfl⟩
    rw [← hD] at d6 ⊢
    have hFR : D.err = 0 → D.fresh = D := fun h => by unfold DD.fresh; rw [if_pos h]
    have HFR := Lib.hid hFR
    generalize D.fresh = F at d6 HFR ⊢
    have HDD := Lib.hid hD
    obtain ⟨W6, hW6⟩ : ∃ W6, W6 = w6.alloc (.cells (dvC F H') 32) := ⟨_, rfl⟩
    have e6 : Below w6.heap.size w6 W6 := by rw [hW6]; exact alloc_below _ _
    have m6 : Blk W6 w6.heap.size (dvC F H') 32 := by rw [hW6]; exact blk_new _ _ _
    have HM6 := Lib.hid m6
    have HZ6 := Lib.hid ((HZ5.out.on a6).on e6)
    have HF : Hid (DevN (W6.setRow (w.heap.size + 1 + 1 + 1) (dvC F H')) w.heap.size F H' ∧ Below w.heap.size w (W6.setRow (w.heap.size + 1 + 1 + 1) (dvC F H'))) := Lib.hid (by
      have hz := HZ5.out.lt
      have hb1 := HB.out.size
      exact ⟨((d6.below e6).row hz _).lower (by omega), below_setRow (bt HB.out (bt HB5.out (bt a6 e6))) (by omega) _⟩)
    have HW6 := Lib.hid hW6
    clear k0 k1 k2 k3 l0 l1 q0 q1 q2 d6 hD hFR hW6 e6 m6 a6
    obtain ⟨er, her⟩ : ∃ er, er = D.err := ⟨_, rfl⟩
    rw [← her] at HFR ⊢
    have HER := Lib.hid her
    clear her
    unfold dvA
    rw [dvC_def F H']
    go_upto_region 4 with fail
    rw [← dvC_def, ← HW6.out]
    refine wp_region_list ?_
    refine wpList_load_row rfl 32 _ rfl w6.heap.size rfl 32 (dvC F H') (0, 0) _ HM6.out Try.underlying32 rfl (by rw [HSZ.out]; kernel_rfl) ?_
    go_wp2_with (refine wpList_store_row rfl 32 _ _ rfl (w.heap.size + 1 + 1 + 1) (dvC F H') rfl rfl 32 zcD HZ6.out (by rw [HSZ.out]; kernel_rfl) (by rw [HSZ.out]; rfl) (dvC_one _ _) ?_)
    refine bodyPost_ret (results_dev2 (by rfl) _ _ (w.heap.size + 1 + 1 + 1) (dvC F H') (HSZ.out _ _) rfl (HZ6.out.row _)) rfl ?_
    refine ⟨(er == 0), F, H', rfl, fun h => ?_, HF.out.1, HF.out.2⟩
    have h0 : er = 0 := by simpa using h
    exact ⟨by rw [HFR.out h0, HDD.out], by rw [← HDD.out, ← HER.out]; exact h0⟩
end Go.Proofs.Ytcoihbpadbnilaa
end

section
/- From, Run and Step by the reference. -/
namespace Go.Proofs.Ytcoihbpadbnilaa
open Go.RowKit

set_option maxHeartbeats 2000000 in
set_option maxRecDepth 100000 in
theorem rfrom (i st : Int) (A B D : Option Addr) (n c m d k e : Nat) (nx ot : List (List Int)) (s : Int) (xs : List Int) (w : World) (hx : Lists w A n nx) (ho : Lists w B m ot) (hD : Ints w D k xs) :
    Calls Try.prog 26 #[.agg #[.int .i64 i, .int .i64 st, .slice A n c, .slice B m d], .int .i64 s, .slice D k e] w fun e w' => ∃ A' c',
      e = .returned (.tuple #[.slice A' (frm i st nx ot s xs).1.length c', .int .i64 (frm i st nx ot s xs).2.1, .int .i64 (frm i st nx ot s xs).2.2]) ∧ Owned w' w.heap.size (.slice A' (frm i st nx ot s xs).1.length c') (frm i st nx ot s xs).1 ∧ Below w.heap.size w w' := by
  have L1 := Lib.hid hx.1
  have LD := Lib.hid hD.1
  have hn := hx.2.1
  have hk := hD.2.1
  have hb0 := alloc_below w (.cells #[.int .i64 i, .int .i64 st, .slice A n c, .slice B m d] 24)
  have HZ := Lib.hid (show (w.alloc (.cells #[.int .i64 i, .int .i64 st, .slice A n c, .slice B m d] 24)).heap.size = w.heap.size + 1 by simp)
  by_cases hv : vld i st nx ot = 0
  · have HV := Lib.hid hv
    obtain ⟨i, st, n', rfl, rfl, hM⟩ := vld_zero hv
    obtain rfl : n = n' := by have := hM.nxl; rw [L1.out] at this; exact this
    obtain rfl : m = n := by have := hM.otl; rw [ho.1] at this; exact this
    clear hv
    by_cases hs : 0 ≤ s ∧ s < m
    · have HS := Lib.hid hs
      have s1 : decide (s < 0) = false := by simpa using hs.1
      have s2 : decide ((m : Int) ≤ s) = false := by simpa using hs.2
      by_cases hc : chk xs i = 0
      · obtain ⟨s, rfl⟩ : ∃ t : Nat, s = t := ⟨s.toNat, by omega⟩
        have hfin := Lib.hid (frm_ok (s := s) HV.out (by rw [L1.out]; omega) hc)
        have s3 : decide (m ≤ s) = false := by simp; omega
        have HC := Lib.hid hc
        clear hs hc
        go_enter Try.func26, Try.ntmps26
        go_wp2_with fail
        refine (rvalid _ _ _ _ _ _ _ _ _ _ _ (hx.below hb0) (ho.below hb0)).mono ?_
        rintro e w1 ⟨rfl, b1⟩
        rw [HZ.out] at b1
        rw [HV.out]
        obtain ⟨k0, k1, k2, k3⟩ := box4 b1
        have bw := hb0.trans (b1.mono (Nat.le_succ _))
        go_wp2_with fail
        refine (rcheck _ _ _ _ _ _ (hD.below bw)).mono ?_
        rintro e w3 ⟨rfl, rfl⟩
        rw [HC.out]
        have hsy := Lib.hid (chk_zero HC.out).2.2.2.mem
        have hsn : s < m := by have := HS.out; omega
        go_wp2_with fail
        refine (routs _ _ _ _ _ _ _ _ _ _ _ _ _ _ _ hM (hx.below bw) (ho.below bw) hsn (hD.below bw) hsy.out).mono ?_
        rintro e w4 ⟨A4, c4, rfl, ho4, b4⟩
        have ho4 := Lib.hid (ho4.lower bw.size)
        have b4 := Lib.hid (bt bw b4)
        go_wp2
        go_ret3
        have hlen : (runO nx ot s xs).length = k := by rw [runO_len, LD.out]
        exact ⟨A4, c4, by rw [hfin.out]; exact ret_from hlen.symm rfl rfl, by rw [hfin.out]; show Owned _ _ (.slice A4 (runO nx ot s xs).length c4) _; rw [hlen]; exact ho4.out, b4.out⟩
      · have hfin := Lib.hid (frm_word HV.out (by rw [L1.out]; exact HS.out) hc)
        have hne : (chk xs i != 0) = true := by simpa using hc
        clear hs
        go_enter Try.func26, Try.ntmps26
        go_wp2_with fail
        refine (rvalid _ _ _ _ _ _ _ _ _ _ _ (hx.below hb0) (ho.below hb0)).mono ?_
        rintro e w1 ⟨rfl, b1⟩
        rw [HZ.out] at b1
        rw [HV.out]
        obtain ⟨k0, k1, k2, k3⟩ := box4 b1
        have bw := hb0.trans (b1.mono (Nat.le_succ _))
        go_wp2_with fail
        refine (rcheck _ _ _ _ _ _ (hD.below bw)).mono ?_
        rintro e w3 ⟨rfl, rfl⟩
        generalize chk xs i = E at hne hfin hc
        clear hc
        go_wp2
        go_ret3
        exact ⟨none, 0, by rw [hfin.out]; rfl, by rw [hfin.out]; exact Owned.nil _ _, bw⟩
    · have hfin := Lib.hid (frm_state (xs := xs) HV.out (by rw [L1.out]; exact hs))
      have hor : s < 0 ∨ (0 ≤ s ∧ (m : Int) ≤ s) := by omega
      clear hs
      rcases hor with h1 | ⟨h1, h2⟩
      · have t1 : decide (s < 0) = true := decide_eq_true h1
        go_enter Try.func26, Try.ntmps26
        go_wp2_with fail
        refine (rvalid _ _ _ _ _ _ _ _ _ _ _ (hx.below hb0) (ho.below hb0)).mono ?_
        rintro e w1 ⟨rfl, b1⟩
        rw [HZ.out] at b1
        rw [HV.out]
        obtain ⟨k0, k1, k2, k3⟩ := box4 b1
        have bw := hb0.trans (b1.mono (Nat.le_succ _))
        go_wp2
        go_ret3
        exact ⟨none, 0, by rw [hfin.out]; rfl, by rw [hfin.out]; exact Owned.nil _ _, bw⟩
      · have t1 : decide (s < 0) = false := by simpa using h1
        have t2 : decide ((m : Int) ≤ s) = true := decide_eq_true h2
        go_enter Try.func26, Try.ntmps26
        go_wp2_with fail
        refine (rvalid _ _ _ _ _ _ _ _ _ _ _ (hx.below hb0) (ho.below hb0)).mono ?_
        rintro e w1 ⟨rfl, b1⟩
        rw [HZ.out] at b1
        rw [HV.out]
        obtain ⟨k0, k1, k2, k3⟩ := box4 b1
        have bw := hb0.trans (b1.mono (Nat.le_succ _))
        go_wp2
        go_ret3
        exact ⟨none, 0, by rw [hfin.out]; rfl, by rw [hfin.out]; exact Owned.nil _ _, bw⟩
  · have hfin := Lib.hid (frm_bad (s := s) (xs := xs) hv)
    have hne : (vld i st nx ot != 0) = true := by simpa using hv
    go_enter Try.func26, Try.ntmps26
    go_wp2_with fail
    refine (rvalid _ _ _ _ _ _ _ _ _ _ _ (hx.below hb0) (ho.below hb0)).mono ?_
    rintro e w1 ⟨rfl, b1⟩
    generalize vld i st nx ot = E at hne hfin hv
    clear hv
    go_wp2
    go_ret3
    exact ⟨none, 0, by rw [hfin.out]; rfl, by rw [hfin.out]; exact Owned.nil _ _, bt hb0 b1⟩

set_option maxHeartbeats 1000000 in
set_option maxRecDepth 100000 in
theorem rrunw (i st : Int) (A B D : Option Addr) (n c m d k e : Nat) (nx ot : List (List Int)) (xs : List Int) (w : World) (hx : Lists w A n nx) (ho : Lists w B m ot) (hD : Ints w D k xs) :
    Calls Try.prog 25 #[.agg #[.int .i64 i, .int .i64 st, .slice A n c, .slice B m d], .slice D k e] w fun e w' => ∃ A' c',
      e = .returned (.tuple #[.slice A' (frm i st nx ot st xs).1.length c', .int .i64 (frm i st nx ot st xs).2.2]) ∧ Owned w' w.heap.size (.slice A' (frm i st nx ot st xs).1.length c') (frm i st nx ot st xs).1 ∧ Below w.heap.size w w' := by
  have hb0 := alloc_below w (.cells #[.int .i64 i, .int .i64 st, .slice A n c, .slice B m d] 24)
  go_enter Try.func25, Try.ntmps25
  go_wp2_with fail
  refine (rfrom _ _ _ _ _ _ _ _ _ _ _ _ _ _ _ _ (hx.below hb0) (ho.below hb0) (hD.below hb0)).mono ?_
  rintro e w1 ⟨A1, c1, rfl, h1, b1⟩
  have h2 := Lib.hid (h1.lower (base' := w.heap.size) hb0.size)
  have b2 := Lib.hid (bt hb0 b1)
  clear h1 b1
  go_wp2
  go_ret2
  exact ⟨A1, c1, rfl, h2.out, b2.out⟩

end Go.Proofs.Ytcoihbpadbnilaa
end

section
/- The law DeviceFaithful: the walk. -/
namespace Go.Proofs.Ytcoihbpadbnilaa
open Go.RowKit

/-- A box of a machine and one of its costs. -/
def TwoB (w : World) (c3 c4 : Array Value) (u v : Value) (wx : World) : Prop := ∃ g k : Nat, u = .pointer (some ⟨g, 0, none⟩) ∧ v = .pointer (some ⟨k, 0, none⟩) ∧ Blk wx g c3 24 ∧ Blk wx k c4 27 ∧ Below w.heap.size w wx
theorem blk_ab (w : World) (cs c2 : Array Value) (t t2 : TypeId) : Blk ((w.alloc (.cells cs t)).alloc (.cells c2 t2)) w.heap.size cs t ∧ Blk ((w.alloc (.cells cs t)).alloc (.cells c2 t2)) (w.heap.size + 1) c2 t2 := by
  refine ⟨(blk_new w cs t).on (alloc_below _ _), ?_⟩
  rw [show w.heap.size + 1 = (w.alloc (.cells cs t)).heap.size by simp]
  exact blk_new _ _ _
theorem dv_0 {D : DD} {H : DH} {x : Int} (h : D.i = x) : (dvC D H)[0]? = some (.int .i64 x) := by subst h; rfl
theorem dv_1 {D : DD} {H : DH} {x : Int} (h : D.st = x) : (dvC D H)[1]? = some (.int .i64 x) := by subst h; rfl
theorem dv_4 {D : DD} {H : DH} {x : Int} (h : D.s = x) : (dvC D H)[4]? = some (.int .i64 x) := by subst h; rfl
theorem dv_5 {D : DD} {H : DH} {x : Bool} (h : D.rdy = x) : (dvC D H)[5]? = some (.bool x) := by subst h; rfl
theorem dv_12 {D : DD} {H : DH} {x : Int} (h : D.sp = x) : (dvC D H)[12]? = some (.int .i64 x) := by subst h; rfl
theorem dv_13 {D : DD} {H : DH} {x : Int} (h : D.rs = x) : (dvC D H)[13]? = some (.int .i64 x) := by subst h; rfl
theorem dv_14 {D : DD} {H : DH} {x : Int} (h : D.tm = x) : (dvC D H)[14]? = some (.int .i64 x) := by subst h; rfl
theorem frm_eq {i1 st1 : Int} {nx ot : List (List Int)} {i st n : Nat} (hM : Mok i st n nx ot) (h1 : i1 = i) (h2 : st1 = st) {u : List Int} (hu : chk u i1 = 0) : frm i1 st1 nx ot st1 u = (runO nx ot st u, (runS nx st u : Int), 0) := by
  subst h1 h2
  exact hM.frm hM.st hu

set_option linter.unusedSimpArgs false in
set_option linter.unusedVariables false in
set_option maxHeartbeats 16000000 in
set_option maxRecDepth 100000 in
theorem faithful19_walk (i1 st1 : Int) (A B : Option Addr) (n c m d : Nat) (nx ot : List (List Int)) (L : Option Addr) (l lc : Nat) (cs : List Int) (rc : Int) (sd : Nat) (V : Option Addr) (k1 e1 : Nat) (vs : List Int) (X : Option Addr) (k2 e2 : Nat) (xs : List Int) (w : World)
    (hx : Lists w A n nx) (ho : Lists w B m ot) (hcs : Ints w L l cs) (hV : Ints w V k1 vs) (hX : Ints w X k2 xs) (hs : sd < 18446744073709551616) :
    Calls Try.prog 6 #[.agg #[.int .i64 i1, .int .i64 st1, .slice A n c, .slice B m d, .slice L l lc, .int .i64 rc, .int .u64 (sd : Int), .slice V k1 e1, .slice X k2 e2]] w fun e w' => e = .returned (.bool true) ∧ Below w.heap.size w w' := by
  obtain ⟨w0, hw0⟩ : ∃ w0, w0 = w.alloc (.cells #[.int .i64 i1, .int .i64 st1, .slice A n c, .slice B m d, .slice L l lc, .int .i64 rc, .int .u64 (sd : Int), .slice V k1 e1, .slice X k2 e2] 60) := ⟨_, rfl⟩
  have hb0 : Below w.heap.size w w0 := by rw [hw0]; exact alloc_below _ _
  have m0 : Blk w0 w.heap.size #[.int .i64 i1, .int .i64 st1, .slice A n c, .slice B m d, .slice L l lc, .int .i64 rc, .int .u64 (sd : Int), .slice V k1 e1, .slice X k2 e2] 60 := by rw [hw0]; exact blk_new _ _ _
  have HB0 := Lib.hid hb0
  have hHS : ∀ (W : World), Below w0.heap.size w0 W → (W.cell? ⟨w.heap.size, 0, none⟩ = some (.int .i64 i1) ∧ W.cell? ⟨w.heap.size, 1, none⟩ = some (.int .i64 st1) ∧ W.cell? ⟨w.heap.size, 2, none⟩ = some (.slice A n c) ∧ W.cell? ⟨w.heap.size, 3, none⟩ = some (.slice B m d) ∧ W.cell? ⟨w.heap.size, 4, none⟩ = some (.slice L l lc) ∧ W.cell? ⟨w.heap.size, 5, none⟩ = some (.int .i64 rc) ∧ W.cell? ⟨w.heap.size, 6, none⟩ = some (.int .u64 (sd : Int)) ∧ W.cell? ⟨w.heap.size, 7, none⟩ = some (.slice V k1 e1) ∧ W.cell? ⟨w.heap.size, 8, none⟩ = some (.slice X k2 e2)) := fun W h => ⟨(m0.on h).cell 0, (m0.on h).cell 1, (m0.on h).cell 2, (m0.on h).cell 3, (m0.on h).cell 4, (m0.on h).cell 5, (m0.on h).cell 6, (m0.on h).cell 7, (m0.on h).cell 8⟩
  have HSS := Lib.hid hHS
  have HN := Lib.hid (fun (W : World) (h : Below w0.heap.size w0 W) => (hx.below hb0).below h)
  have HO := Lib.hid (fun (W : World) (h : Below w0.heap.size w0 W) => (ho.below hb0).below h)
  have HC := Lib.hid (fun (W : World) (h : Below w0.heap.size w0 W) => (hcs.below hb0).below h)
  have HV := Lib.hid (fun (W : World) (h : Below w0.heap.size w0 W) => (hV.below hb0).below h)
  have HX := Lib.hid (fun (W : World) (h : Below w0.heap.size w0 W) => (hX.below hb0).below h)
  have HVL := Lib.hid hV.1
  have HXL := Lib.hid hX.1
  have HSD := Lib.hid hs
  have HW0 := Lib.hid hw0
  have hszD : ∀ D H, (dvC D H).size = 15 := fun _ _ => rfl
  have HSZ := Lib.hid hszD
  have hbc := Below.refl w0.heap.size w0
  clear hw0 hb0 m0 hx ho hcs hV hX hs hszD hHS
  go_enter Try.func6, Try.ntmps6
  go_upto_region 1 with fail
  rw [← HW0.out]
  go_cut [3, 4, 5, 6, 7] from 27 to 36 (fun v3 v4 v5 v6 v7 wx => TwoB w0 #[.int .i64 i1, .int .i64 st1, .slice A n c, .slice B m d] #[.slice L l lc, .int .i64 rc] v3 v4 wx ∧ v5 = .int .u64 (sd : Int) ∧ v6 = .slice V k1 e1 ∧ v7 = .slice X k2 e2)
  case first =>
    have hbf : Below w0.heap.size w0 w0.drew := below_drewN (Below.refl _ _) 1
    have hzd1 : w0.heap.size ≤ w0.drew.heap.size := Nat.le_refl _
    have hzd2 : w0.drew.heap.size ≤ w0.heap.size := Nat.le_refl _
    refine wp_region_heldX (X := fun k => ([] : List Nat).contains k) (S := fun W => W.cell? ⟨w.heap.size, 0, none⟩ = some (.int .i64 i1) ∧ W.cell? ⟨w.heap.size, 1, none⟩ = some (.int .i64 st1) ∧ W.cell? ⟨w.heap.size, 2, none⟩ = some (.slice A n c) ∧ W.cell? ⟨w.heap.size, 3, none⟩ = some (.slice B m d) ∧ W.cell? ⟨w.heap.size, 4, none⟩ = some (.slice L l lc) ∧ W.cell? ⟨w.heap.size, 5, none⟩ = some (.int .i64 rc) ∧ W.cell? ⟨w.heap.size, 6, none⟩ = some (.int .u64 (sd : Int)) ∧ W.cell? ⟨w.heap.size, 7, none⟩ = some (.slice V k1 e1) ∧ W.cell? ⟨w.heap.size, 8, none⟩ = some (.slice X k2 e2)) (by kernel_rfl) ?_
    refine wpAnyX_pure (i := 0) (v := ?_) rfl (by kernel_rfl) (by kernel_rfl) (by kernel_rfl) (fun _ _ _ h => h) (Or.inl ⟨by rfl, ?_⟩) ?_
    rotate_left
    · (intro W _; go_simp; try with_reducible rfl)
    (try simp only [Act.put, List.getElem_toArray, List.getElem_cons_zero, List.getElem_cons_succ, List.setIfInBounds_toArray, List.set_cons_zero, List.set_cons_succ])
    refine wpAnyX_takeL (L := []) (i := 1) (v := ?_) rfl (by kernel_rfl) (by kernel_rfl) (by kernel_rfl) (by kernel_rfl) (fun _ _ _ h => h) (Or.inl ⟨by rfl, ?_⟩) (HSS.out _ hbf) ?_
    rotate_left
    · (intro W hSW; (try dsimp only at hSW); obtain ⟨z0, z1, z2, z3, z4, z5, z6, z7, z8⟩ := hSW; go_simp; try with_reducible rfl)
    (try simp only [Act.put, List.getElem_toArray, List.getElem_cons_zero, List.getElem_cons_succ, List.setIfInBounds_toArray, List.set_cons_zero, List.set_cons_succ])
    refine wpAnyX_pure (i := 2) (v := ?_) rfl (by kernel_rfl) (by kernel_rfl) (by kernel_rfl) (fun _ _ _ h => h) (Or.inl ⟨by rfl, ?_⟩) ?_
    rotate_left
    · (intro W _; go_simp; try with_reducible rfl)
    (try simp only [Act.put, List.getElem_toArray, List.getElem_cons_zero, List.getElem_cons_succ, List.setIfInBounds_toArray, List.set_cons_zero, List.set_cons_succ])
    refine wpAnyX_takeL (L := []) (i := 3) (v := ?_) rfl (by kernel_rfl) (by kernel_rfl) (by kernel_rfl) (by kernel_rfl) (fun _ _ _ h => h) (Or.inl ⟨by rfl, ?_⟩) (HSS.out _ hbf) ?_
    rotate_left
    · (intro W hSW; (try dsimp only at hSW); obtain ⟨z0, z1, z2, z3, z4, z5, z6, z7, z8⟩ := hSW; go_simp; try with_reducible rfl)
    (try simp only [Act.put, List.getElem_toArray, List.getElem_cons_zero, List.getElem_cons_succ, List.setIfInBounds_toArray, List.set_cons_zero, List.set_cons_succ])
    refine wpAnyX_pure (i := 4) (v := ?_) rfl (by kernel_rfl) (by kernel_rfl) (by kernel_rfl) (fun _ _ _ h => h) (Or.inl ⟨by rfl, ?_⟩) ?_
    rotate_left
    · (intro W _; go_simp; try with_reducible rfl)
    (try simp only [Act.put, List.getElem_toArray, List.getElem_cons_zero, List.getElem_cons_succ, List.setIfInBounds_toArray, List.set_cons_zero, List.set_cons_succ])
    refine wpAnyX_takeL (L := []) (i := 5) (v := ?_) rfl (by kernel_rfl) (by kernel_rfl) (by kernel_rfl) (by kernel_rfl) (fun _ _ _ h => h) (Or.inl ⟨by rfl, ?_⟩) (HSS.out _ hbf) ?_
    rotate_left
    · (intro W hSW; (try dsimp only at hSW); obtain ⟨z0, z1, z2, z3, z4, z5, z6, z7, z8⟩ := hSW; go_simp; try with_reducible rfl)
    (try simp only [Act.put, List.getElem_toArray, List.getElem_cons_zero, List.getElem_cons_succ, List.setIfInBounds_toArray, List.set_cons_zero, List.set_cons_succ])
    refine wpAnyX_pure (i := 6) (v := ?_) rfl (by kernel_rfl) (by kernel_rfl) (by kernel_rfl) (fun _ _ _ h => h) (Or.inl ⟨by rfl, ?_⟩) ?_
    rotate_left
    · (intro W _; go_simp; try with_reducible rfl)
    (try simp only [Act.put, List.getElem_toArray, List.getElem_cons_zero, List.getElem_cons_succ, List.setIfInBounds_toArray, List.set_cons_zero, List.set_cons_succ])
    refine wpAnyX_takeL (L := []) (i := 7) (v := ?_) rfl (by kernel_rfl) (by kernel_rfl) (by kernel_rfl) (by kernel_rfl) (fun _ _ _ h => h) (Or.inl ⟨by rfl, ?_⟩) (HSS.out _ hbf) ?_
    rotate_left
    · (intro W hSW; (try dsimp only at hSW); obtain ⟨z0, z1, z2, z3, z4, z5, z6, z7, z8⟩ := hSW; go_simp; try with_reducible rfl)
    (try simp only [Act.put, List.getElem_toArray, List.getElem_cons_zero, List.getElem_cons_succ, List.setIfInBounds_toArray, List.set_cons_zero, List.set_cons_succ])
    refine wpAnyX_pure (i := 8) (v := ?_) rfl (by kernel_rfl) (by kernel_rfl) (by kernel_rfl) (fun _ _ _ h => h) (Or.inl ⟨by rfl, ?_⟩) ?_
    rotate_left
    · (intro W _; go_simp; try with_reducible rfl)
    (try simp only [Act.put, List.getElem_toArray, List.getElem_cons_zero, List.getElem_cons_succ, List.setIfInBounds_toArray, List.set_cons_zero, List.set_cons_succ])
    refine wpAnyX_takeL (L := []) (i := 9) (v := ?_) rfl (by kernel_rfl) (by kernel_rfl) (by kernel_rfl) (by kernel_rfl) (fun _ _ _ h => h) (Or.inl ⟨by rfl, ?_⟩) (HSS.out _ hbf) ?_
    rotate_left
    · (intro W hSW; (try dsimp only at hSW); obtain ⟨z0, z1, z2, z3, z4, z5, z6, z7, z8⟩ := hSW; go_simp; try with_reducible rfl)
    (try simp only [Act.put, List.getElem_toArray, List.getElem_cons_zero, List.getElem_cons_succ, List.setIfInBounds_toArray, List.set_cons_zero, List.set_cons_succ])
    refine wpAnyX_two (i := 10) (j := 11) rfl rfl (by kernel_rfl) (fun K hK => ?_) (fun K hK => ?_)
    · go_simp
      refine hK.out _ _ (fun _ _ => HSS.out _ (bt hbf (alloc_below _ _))) ?_
      (try simp only [Act.put, List.getElem_toArray, List.getElem_cons_zero, List.getElem_cons_succ, List.setIfInBounds_toArray, List.set_cons_zero, List.set_cons_succ])
      refine wpAnyX_one (i := 11) rfl (by kernel_rfl) (fun K hK => ?_)
      go_simp
      refine hK.out _ _ (fun _ _ => HSS.out _ (bt (bt hbf (alloc_below _ _)) (alloc_below _ _))) ?_
      (try simp only [Act.put, List.getElem_toArray, List.getElem_cons_zero, List.getElem_cons_succ, List.setIfInBounds_toArray, List.set_cons_zero, List.set_cons_succ])
      have hT := blk_ab w0.drew #[.int .i64 0, .int .i64 0, .slice none 0 0, .slice none 0 0] #[.slice none 0 0, .int .i64 0] 24 27
      refine wpAnyX_one (i := 12) rfl (by kernel_rfl) (fun K hK => ?_)
      refine wp_store_row 24 _ _ rfl (w0.heap.size) (#[.int .i64 i1, .int .i64 st1, .slice A n c, .slice B m d]) rfl rfl 24 (#[.int .i64 0, .int .i64 0, .slice none 0 0, .slice none 0 0]) (hT.1) (by kernel_rfl) (by rfl) (by simp [Value.oneCell']) (hK.out _ _ (fun _ _ => HSS.out _ (below_setRow (bt (bt hbf (alloc_below w0.drew (.cells #[.int .i64 0, .int .i64 0, .slice none 0 0, .slice none 0 0] 24))) (alloc_below _ (.cells #[.slice none 0 0, .int .i64 0] 27))) (by omega) _)) ?_)
      (try simp only [Act.put, List.getElem_toArray, List.getElem_cons_zero, List.getElem_cons_succ, List.setIfInBounds_toArray, List.set_cons_zero, List.set_cons_succ])
      refine wpAnyX_one (i := 13) rfl (by kernel_rfl) (fun K hK => ?_)
      refine wp_store_row 27 _ _ rfl (w0.heap.size + 1) (#[.slice L l lc, .int .i64 rc]) rfl rfl 27 (#[.slice none 0 0, .int .i64 0]) ((hT.2).rowOther (by omega) _) (by kernel_rfl) (by rfl) (by simp [Value.oneCell']) (hK.out _ _ (fun _ _ => HSS.out _ (below_setRow (below_setRow (bt (bt hbf (alloc_below w0.drew (.cells #[.int .i64 0, .int .i64 0, .slice none 0 0, .slice none 0 0] 24))) (alloc_below _ (.cells #[.slice none 0 0, .int .i64 0] 27))) (by omega) _) (by omega) _)) ?_)
      (try simp only [Act.put, List.getElem_toArray, List.getElem_cons_zero, List.getElem_cons_succ, List.setIfInBounds_toArray, List.set_cons_zero, List.set_cons_succ])
      refine wpAnyX_pure (i := 14) (v := ?_) rfl (by kernel_rfl) (by kernel_rfl) (by kernel_rfl) (fun _ _ _ h => h) (Or.inl ⟨by rfl, ?_⟩) ?_
      rotate_left
      · (intro W _; go_simp; try with_reducible rfl)
      (try simp only [Act.put, List.getElem_toArray, List.getElem_cons_zero, List.getElem_cons_succ, List.setIfInBounds_toArray, List.set_cons_zero, List.set_cons_succ])
      refine wpAnyX_pure (i := 15) (v := ?_) rfl (by kernel_rfl) (by kernel_rfl) (by kernel_rfl) (fun _ _ _ h => h) (Or.inl ⟨by rfl, ?_⟩) ?_
      rotate_left
      · (intro W _; go_simp; try with_reducible rfl)
      (try simp only [Act.put, List.getElem_toArray, List.getElem_cons_zero, List.getElem_cons_succ, List.setIfInBounds_toArray, List.set_cons_zero, List.set_cons_succ])
      refine wpAnyX_pure (i := 16) (v := ?_) rfl (by kernel_rfl) (by kernel_rfl) (by kernel_rfl) (fun _ _ _ h => h) (Or.inl ⟨by rfl, ?_⟩) ?_
      rotate_left
      · (intro W _; go_simp; try with_reducible rfl)
      (try simp only [Act.put, List.getElem_toArray, List.getElem_cons_zero, List.getElem_cons_succ, List.setIfInBounds_toArray, List.set_cons_zero, List.set_cons_succ])
      refine wpAnyX_done (by kernel_rfl) ?_ _
      go_wp2_with fail
      go_meet
      exact ⟨⟨w0.heap.size, w0.heap.size + 1, rfl, rfl, ((hT.1).row _).rowOther (by omega) _, ((hT.2).rowOther (by omega) _).row _, below_setRow (below_setRow (bt (bt hbf (alloc_below w0.drew (.cells #[.int .i64 0, .int .i64 0, .slice none 0 0, .slice none 0 0] 24))) (alloc_below _ (.cells #[.slice none 0 0, .int .i64 0] 27))) (by omega) _) (by omega) _⟩, rfl, rfl, rfl⟩
    · go_simp
      refine hK.out _ _ (fun _ _ => HSS.out _ (bt hbf (alloc_below _ _))) ?_
      (try simp only [Act.put, List.getElem_toArray, List.getElem_cons_zero, List.getElem_cons_succ, List.setIfInBounds_toArray, List.set_cons_zero, List.set_cons_succ])
      refine wpAnyX_one (i := 10) rfl (by kernel_rfl) (fun K hK => ?_)
      go_simp
      refine hK.out _ _ (fun _ _ => HSS.out _ (bt (bt hbf (alloc_below _ _)) (alloc_below _ _))) ?_
      (try simp only [Act.put, List.getElem_toArray, List.getElem_cons_zero, List.getElem_cons_succ, List.setIfInBounds_toArray, List.set_cons_zero, List.set_cons_succ])
      have hT := blk_ab w0.drew #[.slice none 0 0, .int .i64 0] #[.int .i64 0, .int .i64 0, .slice none 0 0, .slice none 0 0] 27 24
      refine wpAnyX_one (i := 12) rfl (by kernel_rfl) (fun K hK => ?_)
      refine wp_store_row 24 _ _ rfl (w0.heap.size + 1) (#[.int .i64 i1, .int .i64 st1, .slice A n c, .slice B m d]) rfl rfl 24 (#[.int .i64 0, .int .i64 0, .slice none 0 0, .slice none 0 0]) (hT.2) (by kernel_rfl) (by rfl) (by simp [Value.oneCell']) (hK.out _ _ (fun _ _ => HSS.out _ (below_setRow (bt (bt hbf (alloc_below w0.drew (.cells #[.slice none 0 0, .int .i64 0] 27))) (alloc_below _ (.cells #[.int .i64 0, .int .i64 0, .slice none 0 0, .slice none 0 0] 24))) (by omega) _)) ?_)
      (try simp only [Act.put, List.getElem_toArray, List.getElem_cons_zero, List.getElem_cons_succ, List.setIfInBounds_toArray, List.set_cons_zero, List.set_cons_succ])
      refine wpAnyX_one (i := 13) rfl (by kernel_rfl) (fun K hK => ?_)
      refine wp_store_row 27 _ _ rfl (w0.heap.size) (#[.slice L l lc, .int .i64 rc]) rfl rfl 27 (#[.slice none 0 0, .int .i64 0]) ((hT.1).rowOther (by omega) _) (by kernel_rfl) (by rfl) (by simp [Value.oneCell']) (hK.out _ _ (fun _ _ => HSS.out _ (below_setRow (below_setRow (bt (bt hbf (alloc_below w0.drew (.cells #[.slice none 0 0, .int .i64 0] 27))) (alloc_below _ (.cells #[.int .i64 0, .int .i64 0, .slice none 0 0, .slice none 0 0] 24))) (by omega) _) (by omega) _)) ?_)
      (try simp only [Act.put, List.getElem_toArray, List.getElem_cons_zero, List.getElem_cons_succ, List.setIfInBounds_toArray, List.set_cons_zero, List.set_cons_succ])
      refine wpAnyX_pure (i := 14) (v := ?_) rfl (by kernel_rfl) (by kernel_rfl) (by kernel_rfl) (fun _ _ _ h => h) (Or.inl ⟨by rfl, ?_⟩) ?_
      rotate_left
      · (intro W _; go_simp; try with_reducible rfl)
      (try simp only [Act.put, List.getElem_toArray, List.getElem_cons_zero, List.getElem_cons_succ, List.setIfInBounds_toArray, List.set_cons_zero, List.set_cons_succ])
      refine wpAnyX_pure (i := 15) (v := ?_) rfl (by kernel_rfl) (by kernel_rfl) (by kernel_rfl) (fun _ _ _ h => h) (Or.inl ⟨by rfl, ?_⟩) ?_
      rotate_left
      · (intro W _; go_simp; try with_reducible rfl)
      (try simp only [Act.put, List.getElem_toArray, List.getElem_cons_zero, List.getElem_cons_succ, List.setIfInBounds_toArray, List.set_cons_zero, List.set_cons_succ])
      refine wpAnyX_pure (i := 16) (v := ?_) rfl (by kernel_rfl) (by kernel_rfl) (by kernel_rfl) (fun _ _ _ h => h) (Or.inl ⟨by rfl, ?_⟩) ?_
      rotate_left
      · (intro W _; go_simp; try with_reducible rfl)
      (try simp only [Act.put, List.getElem_toArray, List.getElem_cons_zero, List.getElem_cons_succ, List.setIfInBounds_toArray, List.set_cons_zero, List.set_cons_succ])
      refine wpAnyX_done (by kernel_rfl) ?_ _
      go_wp2_with fail
      go_meet
      exact ⟨⟨w0.heap.size + 1, w0.heap.size, rfl, rfl, ((hT.2).row _).rowOther (by omega) _, ((hT.1).rowOther (by omega) _).row _, below_setRow (below_setRow (bt (bt hbf (alloc_below w0.drew (.cells #[.slice none 0 0, .int .i64 0] 27))) (alloc_below _ (.cells #[.int .i64 0, .int .i64 0, .slice none 0 0, .slice none 0 0] 24))) (by omega) _) (by omega) _⟩, rfl, rfl, rfl⟩
  case rest =>
    obtain ⟨⟨g3, g4, rfl, rfl, m3, m4, b1⟩, rfl, rfl, rfl⟩ := hcut
    obtain ⟨V1, rfl⟩ : ∃ V1 : World, V1 = wc := ⟨_, rfl⟩
    have hbc := bt hbc b1
    clear b1
    have k0 : V1.cell? ⟨g3, 0, none⟩ = some (.int .i64 i1) := m3.cell 0
    have k1' : V1.cell? ⟨g3, 1, none⟩ = some (.int .i64 st1) := m3.cell 1
    have k2' : V1.cell? ⟨g3, 2, none⟩ = some (.slice A n c) := m3.cell 2
    have k3 : V1.cell? ⟨g3, 3, none⟩ = some (.slice B m d) := m3.cell 3
    have l0 : V1.cell? ⟨g4, 0, none⟩ = some (.slice L l lc) := m4.cell 0
    have l1 : V1.cell? ⟨g4, 1, none⟩ = some (.int .i64 rc) := m4.cell 1
    go_wp2_with fail
    refine (pmade i1 st1 rc 0 0 0 A B L n c m d l lc nx ot cs sd _ (HN.out _ hbc) (HO.out _ hbc) (HC.out _ hbc) HSD.out).mono ?_
    rintro e u1 ⟨ok, D0, H0, rfl, hok, dn, a1⟩
    have m3 := m3.on a1
    have m4 := m4.on a1
    have hbc := bt hbc a1
    obtain ⟨U1, hU1⟩ : ∃ U1, U1 = u1.alloc (.cells (dvC D0 H0) 32) := ⟨_, rfl⟩
    have e1' : Below u1.heap.size u1 U1 := by rw [hU1]; exact alloc_below _ _
    have m8 : Blk U1 u1.heap.size (dvC D0 H0) 32 := by rw [hU1]; exact blk_new _ _ _
    have d0 := dn.dev.below e1'
    have m3 := m3.on e1'
    have m4 := m4.on e1'
    have hbc := bt hbc e1'
    have HOK := Lib.hid hok
    have HU1 := Lib.hid hU1
    clear k0 k1' k2' k3 l0 l1
    clear a1 hok dn e1' hU1
    unfold dvA
    rw [dvC_def D0 H0]
    go_upto_region 3 with fail
    rw [← dvC_def, ← HU1.out]
    cases ok with
    | false =>
      have HBC := Lib.hid hbc
      clear hbc m3 m4 m8 d0
      go_wp2_with fail
      refine (awake19 _).mono ?_
      rintro e w9 ⟨rfl, a9⟩
      go_wp2
      go_ret
      exact ⟨rfl, bt HB0.out (bt HBC.out a9)⟩
    | true =>
      obtain ⟨hD0, hE0⟩ := HOK.out rfl
      obtain ⟨i, st, nn, hDO⟩ := DD.err_zero hE0 HSD.out
      have hei : i1 = i := hDO.ei
      have hes : st1 = st := hDO.est
      have HDF : Hid (DF D0 i st nn) := Lib.hid (by rw [hD0]; exact ⟨hDO, rfl, rfl, rfl⟩)
      have HD0 := Lib.hid hD0
      have HMK := Lib.hid (show Mok i st nn nx ot from hDO.m)
      have HEI := Lib.hid hei
      have HES := Lib.hid hes
      clear hD0 hE0 hDO hei hes HOK
      by_cases c1 : 60 < k1
      · have d1 : decide ((60 : Int) < (k1 : Int)) = true := decide_eq_true (by omega)
        have HBC := Lib.hid hbc
        clear c1 hbc m3 m4 m8 d0
        go_wp2_with fail
        refine (awake19 _).mono ?_
        rintro e w9 ⟨rfl, a9⟩
        go_wp2
        go_ret
        exact ⟨rfl, bt HB0.out (bt HBC.out a9)⟩
      · have d1 : decide ((60 : Int) < (k1 : Int)) = false := decide_eq_false (by omega)
        by_cases c2 : 60 < k2
        · have d2 : decide ((60 : Int) < (k2 : Int)) = true := decide_eq_true (by omega)
          have HBC := Lib.hid hbc
          clear c1 c2 hbc m3 m4 m8 d0
          go_wp2_with fail
          refine (awake19 _).mono ?_
          rintro e w9 ⟨rfl, a9⟩
          go_wp2
          go_ret
          exact ⟨rfl, bt HB0.out (bt HBC.out a9)⟩
        · have d2 : decide ((60 : Int) < (k2 : Int)) = false := decide_eq_false (by omega)
          have hk1 : k1 ≤ 60 := by omega
          have hk2 : k2 ≤ 60 := by omega
          clear c1 c2
          obtain ⟨Fv, hFv⟩ : ∃ F, F = frm i1 st1 nx ot st1 vs := ⟨_, rfl⟩
          obtain ⟨Fx, hFx⟩ : ∃ F, F = frm i1 st1 nx ot st1 xs := ⟨_, rfl⟩
          have k0 : U1.cell? ⟨g3, 0, none⟩ = some (.int .i64 i1) := m3.cell 0
          have k1' : U1.cell? ⟨g3, 1, none⟩ = some (.int .i64 st1) := m3.cell 1
          have k2' : U1.cell? ⟨g3, 2, none⟩ = some (.slice A n c) := m3.cell 2
          have k3 : U1.cell? ⟨g3, 3, none⟩ = some (.slice B m d) := m3.cell 3
          have l0 : U1.cell? ⟨g4, 0, none⟩ = some (.slice L l lc) := m4.cell 0
          have l1 : U1.cell? ⟨g4, 1, none⟩ = some (.int .i64 rc) := m4.cell 1
          go_upto_region 5 with fail
          go_wp2_with fail
          refine (rrunw i1 st1 A B V n c m d k1 e1 nx ot vs _ (HN.out _ hbc) (HO.out _ hbc) (HV.out _ hbc)).mono ?_
          rintro e u2 ⟨A2, c2, rfl, o2, a2⟩
          rw [← hFv] at o2 ⊢
          have m8 := m8.on a2
          have m3 := m3.on a2
          have m4 := m4.on a2
          have hbc := bt hbc a2
          have d0 := d0.below a2
          have o2 := Owned.ints o2 (by rw [hFv]; have := @frm_len i1 st1 nx ot st1 vs; omega)
          have HFv := Lib.hid hFv
          clear k0 k1' k2' k3 l0 l1
          clear a2 hFv
          have k0 : u2.cell? ⟨g3, 0, none⟩ = some (.int .i64 i1) := m3.cell 0
          have k1' : u2.cell? ⟨g3, 1, none⟩ = some (.int .i64 st1) := m3.cell 1
          have k2' : u2.cell? ⟨g3, 2, none⟩ = some (.slice A n c) := m3.cell 2
          have k3 : u2.cell? ⟨g3, 3, none⟩ = some (.slice B m d) := m3.cell 3
          have l0 : u2.cell? ⟨g4, 0, none⟩ = some (.slice L l lc) := m4.cell 0
          have l1 : u2.cell? ⟨g4, 1, none⟩ = some (.int .i64 rc) := m4.cell 1
          clear l0 l1
          go_wp2_with fail
          refine (rrunw i1 st1 A B X n c m d k2 e2 nx ot xs _ (HN.out _ hbc) (HO.out _ hbc) (HX.out _ hbc)).mono ?_
          rintro e u3 ⟨A3, c3, rfl, o3, a3⟩
          rw [← hFx] at o3 ⊢
          have m8 := m8.on a3
          have m3 := m3.on a3
          have m4 := m4.on a3
          have hbc := bt hbc a3
          have d0 := d0.below a3
          have o2 := o2.below a3
          have o3 := Owned.ints o3 (by rw [hFx]; have := @frm_len i1 st1 nx ot st1 xs; omega)
          have HFx := Lib.hid hFx
          clear k0 k1' k2' k3 a3 hFx
          by_cases hz1 : Fv.2.2 = 0
          · by_cases hz2 : Fx.2.2 = 0
            · have hcv : chk vs i1 = 0 := by obtain ⟨_, _, _, _, _, _, _, _, _, h⟩ := frm_zero (i := i1) (st := st1) (nx := nx) (ot := ot) (s := st1) (xs := vs) (by rw [← HFv.out]; exact hz1); exact h
              have hcx : chk xs i1 = 0 := by obtain ⟨_, _, _, _, _, _, _, _, _, h⟩ := frm_zero (i := i1) (st := st1) (nx := nx) (ot := ot) (s := st1) (xs := xs) (by rw [← HFx.out]; exact hz2); exact h
              have hfv := frm_eq HMK.out HEI.out HES.out hcv
              have hfx := frm_eq HMK.out HEI.out HES.out hcx
              rw [← HFv.out] at hfv
              rw [← HFx.out] at hfx
              have hcv' : chk vs i = 0 := by rw [← HEI.out]; exact hcv
              have hcx' : chk xs i = 0 := by rw [← HEI.out]; exact hcx
              have hlv : vs.length ≤ 60 := by rw [HVL.out]; exact hk1
              have hlx : xs.length ≤ 60 := by rw [HXL.out]; exact hk2
              have hr1 := cost_range HDF.out.ok hcv' hlv
              have hr2 := cost_range HDF.out.ok hcx' hlx
              obtain ⟨cv, hcv0⟩ : ∃ cv, cv = dCost D0.cs D0.rc vs := ⟨_, rfl⟩
              obtain ⟨cx, hcx0⟩ : ∃ cx, cx = dCost D0.cs D0.rc xs := ⟨_, rfl⟩
              rw [← hcv0] at hr1
              rw [← hcx0] at hr2
              have p1 : D0.sp = 0 := by rw [HD0.out]; rfl
              have p2 : D0.rs = 0 := by rw [HD0.out]; rfl
              have p3 : D0.tm = 0 := by rw [HD0.out]; rfl
              obtain ⟨D1, q1, f1, r1, i1', s1', n1', t1', y1', z1', x1, sp1, rs1, tm1⟩ := query_faith HDF.out hcv' hlv (by omega) (by omega) (by omega)
              obtain ⟨D2, q2, f2, r2, i2', s2', n2', t2', y2', z2', x2, sp2, rs2, tm2⟩ := query_faith f1 hcx' hlx (by rw [sp1, p1]; omega) (by rw [rs1, p2]; omega) (by rw [tm1, p3, ← hcv0]; omega)
              have hnx0 : D0.nx = nx := by rw [HD0.out]; rfl
              have hot0 : D0.ot = ot := by rw [HD0.out]; rfl
              have hcs0 : D0.cs = cs := by rw [HD0.out]; rfl
              have hrc0 : D0.rc = rc := by rw [HD0.out]; rfl
              have hi0 : D0.i = i1 := by rw [HD0.out]; rfl
              have hst0 : D0.st = st1 := by rw [HD0.out]; rfl
              have HQ1 : Hid (D0.query vs = (D1, runO nx ot st vs, 0)) := Lib.hid (by rw [q1, hnx0, hot0])
              have HQ2 : Hid (D1.query xs = (D2, runO nx ot st xs, 0)) := Lib.hid (by rw [q2, n1', t1', hnx0, hot0])
              have HFV : Hid (Fv = (runO nx ot st vs, (runS nx st vs : Int), 0)) := Lib.hid hfv
              have HFX : Hid (Fx = (runO nx ot st xs, (runS nx st xs : Int), 0)) := Lib.hid hfx
              have HT1 : Hid (D1.tm = cv) := Lib.hid (by rw [tm1, p3, ← hcv0]; omega)
              have HT2 : Hid (D2.tm = cv + cx) := Lib.hid (by rw [tm2, tm1, p3, y1', z1', ← hcv0, ← hcx0]; omega)
              have HS2 : Hid (D2.sp = (k1 : Int) + (k2 : Int)) := Lib.hid (by rw [sp2, sp1, p1, HVL.out, HXL.out]; omega)
              have HR2 : Hid (D2.rs = 2) := Lib.hid (by rw [rs2, rs1, p2]; rfl)
              have HY2 : Hid (D2.rdy = true) := Lib.hid r2
              have HX2 : Hid (D2.s = (runS nx st xs : Nat)) := Lib.hid (by rw [x2, n1', hnx0])
              have HI2 : Hid (D2.i = i1 ∧ D2.st = st1 ∧ D2.nx = nx ∧ D2.ot = ot) := Lib.hid ⟨by rw [i2', i1', hi0], by rw [s2', s1', hst0], by rw [n2', n1', hnx0], by rw [t2', t1', hot0]⟩
              have HSD1 := Lib.hid f1.ok.sd
              have HSD0 := Lib.hid HDF.out.ok.sd
              have HCV : Hid (dCostE cs rc vs = 0 ∧ dCostN cs rc vs = cv) := Lib.hid (by have h := cost_faith HDF.out.ok hcv'; rw [hcs0, hrc0] at h hcv0; rw [hcv0]; exact h)
              have HCX : Hid (dCostE cs rc xs = 0 ∧ dCostN cs rc xs = cx) := Lib.hid (by have h := cost_faith HDF.out.ok hcx'; rw [hcs0, hrc0] at h hcx0; rw [hcx0]; exact h)
              have hz1' : (Fv.2.2 != 0) = false := by rw [hz1]; rfl
              have hz2' : (Fx.2.2 != 0) = false := by rw [hz2]; rfl
              have hrl1 : (runO nx ot st vs).length = k1 := by rw [runO_len, HVL.out]
              have hrl2 : (runO nx ot st xs).length = k2 := by rw [runO_len, HXL.out]
              have ww : IntKind.i64.wrap (cv + cx) = cv + cx := by rw [IntKind.wrap_i64]; omega
              have HRL := Lib.hid (And.intro hrl1 hrl2)
              clear hcv hcx hfv hfx hcv' hcx' hlv hlx hcv0 hcx0 p1 p2 p3 q1 f1 r1 i1' s1' n1' t1' y1' z1' x1 sp1 rs1 tm1 q2 f2 r2 i2' s2' n2' t2' y2' z2' x2 sp2 rs2 tm2 hnx0 hot0 hcs0 hrc0 hi0 hst0 hz1 hz2 hrl1 hrl2
              go_upto_region 9 with fail
              refine wp_region_list ?_
              refine wpList_load_row rfl 32 _ rfl u1.heap.size rfl 32 (dvC D0 H0) (0, 0) _ m8 Try.underlying32 rfl (by rw [HSZ.out]; kernel_rfl) ?_
              go_wp2_with fail
              refine (pdquery D0 H0 V k1 e1 vs _ d0 (HV.out _ hbc) HSD0.out).mono ?_
              rintro e u4 ⟨H1, A4, c4, rfl, o4, dg, a4⟩
              rw [HQ1.out] at o4 dg ⊢
              have o4 := Owned.ints o4 (by show (runO nx ot st vs).length ≤ _; rw [HRL.out.1]; omega)
              have d1' := dg.dev
              have m3 := m3.on a4
              have m4 := m4.on a4
              have o2 := o2.below a4
              have o3 := o3.below a4
              have hbc := bt hbc a4
              obtain ⟨U4, hU4⟩ : ∃ U4, U4 = u4.alloc (.cells (dvC D1 H1) 32) := ⟨_, rfl⟩
              have e4 : Below u4.heap.size u4 U4 := by rw [hU4]; exact alloc_below _ _
              have m14 : Blk U4 u4.heap.size (dvC D1 H1) 32 := by rw [hU4]; exact blk_new _ _ _
              have HU4 := Lib.hid hU4
              have m3 := m3.on e4
              have m4 := m4.on e4
              have o2 := o2.below e4
              have o3 := o3.below e4
              have o4 := o4.below e4
              have d1' := d1'.below e4
              have hbc := bt hbc e4
              clear a4 dg e4 hU4 m8 d0
              dsimp only
              unfold dvA
              rw [dvC_def D1 H1]
              go_upto_region 10 with fail
              rw [← dvC_def, ← HU4.out]
              refine wp_region_list ?_
              refine wpList_load_row rfl 32 _ rfl u4.heap.size rfl 32 (dvC D1 H1) (0, 0) _ m14 Try.underlying32 rfl (by rw [HSZ.out]; kernel_rfl) ?_
              go_wp2_with fail
              refine (pdquery D1 H1 X k2 e2 xs _ d1' (HX.out _ hbc) HSD1.out).mono ?_
              rintro e u5 ⟨H2, A5, c5, rfl, o5, dg, a5⟩
              rw [HQ2.out] at o5 dg ⊢
              have o5 := Owned.ints o5 (by show (runO nx ot st xs).length ≤ _; rw [HRL.out.2]; omega)
              have d2' := dg.dev
              have m3 := m3.on a5
              have m4 := m4.on a5
              have o2 := o2.below a5
              have o3 := o3.below a5
              have o4 := o4.below a5
              have m14 := m14.on a5
              have hbc := bt hbc a5
              obtain ⟨U5, hU5⟩ : ∃ U5, U5 = u5.alloc (.cells (dvC D2 H2) 32) := ⟨_, rfl⟩
              have e5 : Below u5.heap.size u5 U5 := by rw [hU5]; exact alloc_below _ _
              have m17 : Blk U5 u5.heap.size (dvC D2 H2) 32 := by rw [hU5]; exact blk_new _ _ _
              have HU5 := Lib.hid hU5
              have m3 := m3.on e5
              have m4 := m4.on e5
              have o2 := o2.below e5
              have o3 := o3.below e5
              have o4 := o4.below e5
              have o5 := o5.below e5
              have d2' := d2'.below e5
              have m14 := m14.on e5
              have hbc := bt hbc e5
              clear a5 dg e5 hU5 d1'
              dsimp only
              unfold dvA
              rw [dvC_def D2 H2]
              go_upto_region 11 with fail
              rw [← dvC_def, ← HU5.out]
              have k0 : U5.cell? ⟨g3, 0, none⟩ = some (.int .i64 i1) := m3.cell 0
              have k1' : U5.cell? ⟨g3, 1, none⟩ = some (.int .i64 st1) := m3.cell 1
              have k2' : U5.cell? ⟨g3, 2, none⟩ = some (.slice A n c) := m3.cell 2
              have k3 : U5.cell? ⟨g3, 3, none⟩ = some (.slice B m d) := m3.cell 3
              have l0 : U5.cell? ⟨g4, 0, none⟩ = some (.slice L l lc) := m4.cell 0
              have l1 : U5.cell? ⟨g4, 1, none⟩ = some (.int .i64 rc) := m4.cell 1
              go_wp2_with fail
              refine (pdcost L V l lc k1 e1 cs vs rc _ (HC.out _ hbc) (HV.out _ hbc)).mono ?_
              rintro e u6 ⟨rfl, a6⟩
              rw [HCV.out.1, HCV.out.2]
              have m3 := m3.on a6
              have m4 := m4.on a6
              have o2 := o2.below a6
              have o3 := o3.below a6
              have o4 := o4.below a6
              have o5 := o5.below a6
              have d2' := d2'.below a6
              have m14 := m14.on a6
              have m17 := m17.on a6
              have hbc := bt hbc a6
              clear k0 k1' k2' k3 l0 l1
              clear a6
              have k0 : u6.cell? ⟨g3, 0, none⟩ = some (.int .i64 i1) := m3.cell 0
              have k1' : u6.cell? ⟨g3, 1, none⟩ = some (.int .i64 st1) := m3.cell 1
              have k2' : u6.cell? ⟨g3, 2, none⟩ = some (.slice A n c) := m3.cell 2
              have k3 : u6.cell? ⟨g3, 3, none⟩ = some (.slice B m d) := m3.cell 3
              have l0 : u6.cell? ⟨g4, 0, none⟩ = some (.slice L l lc) := m4.cell 0
              have l1 : u6.cell? ⟨g4, 1, none⟩ = some (.int .i64 rc) := m4.cell 1
              go_wp2_with fail
              refine (pdcost L X l lc k2 e2 cs xs rc _ (HC.out _ hbc) (HX.out _ hbc)).mono ?_
              rintro e u7 ⟨rfl, a7⟩
              rw [HCX.out.1, HCX.out.2]
              have m3 := m3.on a7
              have m4 := m4.on a7
              have o2 := o2.below a7
              have o3 := o3.below a7
              have o4 := o4.below a7
              have o5 := o5.below a7
              have d2' := d2'.below a7
              have m14 := m14.on a7
              have m17 := m17.on a7
              have hbc := bt hbc a7
              clear k0 k1' k2' k3 l0 l1
              clear a7
              have k0 : u7.cell? ⟨g3, 0, none⟩ = some (.int .i64 i1) := m3.cell 0
              have k1' : u7.cell? ⟨g3, 1, none⟩ = some (.int .i64 st1) := m3.cell 1
              have k2' : u7.cell? ⟨g3, 2, none⟩ = some (.slice A n c) := m3.cell 2
              have k3 : u7.cell? ⟨g3, 3, none⟩ = some (.slice B m d) := m3.cell 3
              have l0 : u7.cell? ⟨g4, 0, none⟩ = some (.slice L l lc) := m4.cell 0
              have l1 : u7.cell? ⟨g4, 1, none⟩ = some (.int .i64 rc) := m4.cell 1
              go_wp2_with fail
              refine (rfrom i1 st1 A B X n c m d k2 e2 nx ot st1 xs _ (HN.out _ hbc) (HO.out _ hbc) (HX.out _ hbc)).mono ?_
              rintro e u8 ⟨A8, c8, rfl, -, a8⟩
              rw [← HFx.out, HFX.out]
              dsimp only
              have m3 := m3.on a8
              have m4 := m4.on a8
              have o2 := o2.below a8
              have o3 := o3.below a8
              have o4 := o4.below a8
              have o5 := o5.below a8
              have d2' := d2'.below a8
              have m14 := m14.on a8
              have m17 := m17.on a8
              have hbc := bt hbc a8
              clear k0 k1' k2' k3 l0 l1
              clear a8
              have HB1 := Lib.hid (rsame A4 A2 (runO nx ot st vs).length c4 Fv.1.length c2 (runO nx ot st vs) Fv.1 true u8 o4 o2 (by rw [HFV.out]; simp))
              go_wp2_with fail
              refine HB1.out.mono ?_
              rintro e u9 ⟨rfl, q9, hq9⟩
              have a9 : Below u8.heap.size u8 u9 := by rw [hq9]; exact below_drewN (Below.refl _ _) q9
              have m3 := m3.on a9
              have m14 := m14.on a9
              have m17 := m17.on a9
              have d2' := d2'.below a9
              have o3 := o3.below a9
              have o5 := o5.below a9
              have hbc := bt hbc a9
              rw [HFX.out] at o3
              have HB2 := Lib.hid (rsame A5 A3 (runO nx ot st xs).length c5 (runO nx ot st xs).length c3 (runO nx ot st xs) (runO nx ot st xs) true u9 o5 o3 (by simp))
              clear hq9 a9 o2 o4 o3 o5 HB1 m4
              go_wp2_with fail
              refine HB2.out.mono ?_
              rintro e u10 ⟨rfl, q10, hq10⟩
              have a10 : Below u9.heap.size u9 u10 := by rw [hq10]; exact below_drewN (Below.refl _ _) q10
              have m3 := m3.on a10
              have m14 := m14.on a10
              have m17 := m17.on a10
              have d2' := d2'.below a10
              have hbc := bt hbc a10
              have r14 : u10.cell? ⟨u4.heap.size, 14, none⟩ = some (.int .i64 cv) := (m14.cell 14).trans (dv_14 HT1.out)
              have s14 : u10.cell? ⟨u5.heap.size, 14, none⟩ = some (.int .i64 (cv + cx)) := (m17.cell 14).trans (dv_14 HT2.out)
              have s12 : u10.cell? ⟨u5.heap.size, 12, none⟩ = some (.int .i64 ((k1 : Int) + (k2 : Int))) := (m17.cell 12).trans (dv_12 HS2.out)
              have s13 : u10.cell? ⟨u5.heap.size, 13, none⟩ = some (.int .i64 2) := (m17.cell 13).trans (dv_13 HR2.out)
              have s5 : u10.cell? ⟨u5.heap.size, 5, none⟩ = some (.bool true) := (m17.cell 5).trans (dv_5 HY2.out)
              have s4 : u10.cell? ⟨u5.heap.size, 4, none⟩ = some (.int .i64 (runS nx st xs : Nat)) := (m17.cell 4).trans (dv_4 HX2.out)
              have s0 : u10.cell? ⟨u5.heap.size, 0, none⟩ = some (.int .i64 i1) := (m17.cell 0).trans (dv_0 HI2.out.1)
              have s1 : u10.cell? ⟨u5.heap.size, 1, none⟩ = some (.int .i64 st1) := (m17.cell 1).trans (dv_1 HI2.out.2.1)
              have s2 : u10.cell? ⟨u5.heap.size, 2, none⟩ = some (.slice H2.A H2.n H2.c) := m17.cell 2
              have s3 : u10.cell? ⟨u5.heap.size, 3, none⟩ = some (.slice H2.B H2.m H2.d) := m17.cell 3
              have k0 : u10.cell? ⟨g3, 0, none⟩ = some (.int .i64 i1) := m3.cell 0
              have k1' : u10.cell? ⟨g3, 1, none⟩ = some (.int .i64 st1) := m3.cell 1
              have k2' : u10.cell? ⟨g3, 2, none⟩ = some (.slice A n c) := m3.cell 2
              have k3 : u10.cell? ⟨g3, 3, none⟩ = some (.slice B m d) := m3.cell 3
              have hnx2 := d2'.nx
              have hot2 := d2'.ot
              rw [HI2.out.2.2.1] at hnx2
              rw [HI2.out.2.2.2] at hot2
              have HSM := Lib.hid (rsamem i1 st1 i1 st1 H2.A H2.B A B H2.n H2.c H2.m H2.d n c m d nx ot nx ot true u10 hnx2 hot2 (HN.out _ hbc) (HO.out _ hbc) (by simp))
              clear hq10 a10 HB2 m3 m14 m17 d2' hnx2 hot2
              generalize runS nx st xs = sx at s4 ⊢
              go_wp2_with fail
              refine HSM.out.mono ?_
              rintro e u11 ⟨rfl, a11⟩
              have HBC := Lib.hid (bt hbc a11)
              clear a11 hbc HSM k0 k1' k2' k3 r14 s14 s12 s13 s5 s4 s0 s1 s2 s3 hr1 hr2 ww
              go_wp2_with fail
              refine (awake19 _).mono ?_
              rintro e w9 ⟨rfl, a9⟩
              go_wp2
              go_ret
              exact ⟨rfl, bt HB0.out (bt HBC.out a9)⟩
            · have hz1' : (Fv.2.2 != 0) = false := by rw [hz1]; rfl
              have hz2' : (Fx.2.2 != 0) = true := by simpa using hz2
              have HBC := Lib.hid hbc
              clear hz1 hz2 hbc m3 m4 m8 d0 o2 o3
              go_wp2_with fail
              refine (awake19 _).mono ?_
              rintro e w9 ⟨rfl, a9⟩
              go_wp2
              go_ret
              exact ⟨rfl, bt HB0.out (bt HBC.out a9)⟩
          · have hz1' : (Fv.2.2 != 0) = true := by simpa using hz1
            have HBC := Lib.hid hbc
            clear hz1 hbc m3 m4 m8 d0 o2 o3
            go_wp2_with fail
            refine (awake19 _).mono ?_
            rintro e w9 ⟨rfl, a9⟩
            go_wp2
            go_ret
            exact ⟨rfl, bt HB0.out (bt HBC.out a9)⟩
end Go.Proofs.Ytcoihbpadbnilaa
end
