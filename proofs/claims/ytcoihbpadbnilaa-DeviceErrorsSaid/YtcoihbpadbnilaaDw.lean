/- Lemmas of the proofs of this seat, of the parts Dep, Reachr, Pairi, L19e. Conditions: none. -/
import Derived.Test.YtcoihbpadbnilaaDx
import Derived.Test.YtcoihbpadbnilaaDa
import Derived.Test.YtcoihbpadbnilaaDb
import Derived.Test.YtcoihbpadbnilaaDc
import Derived.Test.YtcoihbpadbnilaaDy
section
/- device: a query of a device with faults, step by step. -/
namespace Go.Proofs.Ytcoihbpadbnilaa

theorem rcv_lost {x : Nat} {f1 f2 o : Int} (ho : 0 ≤ o) (h : rcv (x : Int) f1 f2 o = -1) : 0 < f1 := by
  unfold rcv wrg at h
  by_cases h1 : (x : Int) < f1
  · omega
  · rw [if_neg h1] at h
    by_cases h2 : (x : Int) < f1 + f2
    · rw [if_pos h2] at h
      by_cases h3 : o = 1048576
      · rw [if_pos h3] at h; omega
      · rw [if_neg h3] at h; omega
    · rw [if_neg h2] at h; omega
theorem rcv_wrong {x : Nat} {f1 f2 o : Int} (h : ¬ rcv (x : Int) f1 f2 o = -1) (hn : ¬ rcv (x : Int) f1 f2 o = o) : 0 < f2 ∧ rcv (x : Int) f1 f2 o - o ≤ 1 ∧ o - rcv (x : Int) f1 f2 o ≤ 1 := by
  unfold rcv wrg at h hn ⊢
  by_cases h1 : (x : Int) < f1
  · rw [if_pos h1] at h; exact absurd rfl h
  · rw [if_neg h1] at hn ⊢
    by_cases h2 : (x : Int) < f1 + f2
    · rw [if_pos h2]
      by_cases h3 : o = 1048576
      · rw [if_pos h3]; omega
      · rw [if_neg h3]; omega
    · rw [if_neg h2] at hn; exact absurd rfl hn
theorem rcv_all {x : Nat} {f2 o : Int} (h : x < 10000) : rcv (x : Int) 10000 f2 o = -1 := by unfold rcv; rw [if_pos (by omega)]
theorem crs_pos {x : Nat} {f1 f2 f3 : Int} (h : crs (x : Int) f1 f2 f3 = true) : 0 < f3 := by
  unfold crs at h
  have := of_decide_eq_true h
  omega
/-- Where a query is behind q steps. -/
structure EJ (D0 : DD) (i st n : Nat) (xs : List Int) (R : DD × List Int × Int) (q : Nat) (D : DD) (acc : List Int) : Prop where
  ok : DOk D i st n
  ei : D.i = D0.i
  nx : D.nx = D0.nx
  ot : D.ot = D0.ot
  cs : D.cs = D0.cs
  f1 : D.f1 = D0.f1
  f2 : D.f2 = D0.f2
  f3 : D.f3 = D0.f3
  sp : D.sp = q
  tm : 0 ≤ D.tm ∧ D.tm ≤ 1048576 * ((q : Int) + 1)
  len : acc.length = q
  fin : q = xs.length → R = (D, acc, 0)
  go : q < xs.length → D.rdy = true → qgo D (xs.drop q) acc = R
  flt : q < xs.length → D.rdy = false → R = (D, [], 14)
  crash : D.rdy = false → 0 < D0.f3
/-- A device ahead of all work, and a word that it takes. -/
structure EStart (D0 : DD) (i st n : Nat) (xs : List Int) : Prop where
  ok : DOk D0 i st n
  sp : D0.sp = 0
  rs : D0.rs = 0
  tm : D0.tm = 0
  chk : chk xs i = 0
  len : xs.length ≤ 60
section
variable {D0 D : DD} {i st n q : Nat} {xs acc : List Int} {R : DD × List Int × Int}
theorem EStart.can (h : EStart D0 i st n xs) : D0.canR := by
  have := h.ok.aff.1
  have := h.rs
  have := h.tm
  exact ⟨by omega, by omega⟩
theorem EStart.query (h : EStart D0 i st n xs) : D0.query xs = qgo D0.rst xs [] := by
  unfold DD.query
  rw [if_pos h.ok.err, if_pos (by rw [h.ok.ei]; exact h.chk)]
  unfold DD.qry
  rw [if_pos h.can]
theorem EStart.reset (h : EStart D0 i st n xs) : D0.resetD = D0.rst ∧ D0.resetE = 0 := by
  unfold DD.resetD DD.resetE DD.rstD DD.rstE
  rw [if_pos h.ok.err, if_pos h.ok.err, if_pos h.can, if_pos h.can]
  exact ⟨rfl, rfl⟩
theorem EStart.sym (h : EStart D0 i st n xs) {q : Nat} (hq : q < xs.length) : 0 ≤ xs.getD q 0 ∧ xs.getD q 0 < (i : Int) :=
  (chk_zero h.chk).2.2.2 q hq
theorem EStart.start (h : EStart D0 i st n xs) : EJ D0 i st n xs (D0.query xs) 0 D0.rst [] := by
  have hrc := h.ok.aff.1
  have htm := h.tm
  refine ⟨h.ok.rst h.can, rfl, rfl, rfl, rfl, rfl, rfl, rfl, h.sp, ?_, rfl, fun h0 => ?_, fun _ _ => h.query.symm, fun _ hr => absurd hr (by show ¬ (true : Bool) = false; decide), fun hr => absurd hr (by show ¬ (true : Bool) = false; decide)⟩
  · show 0 ≤ D0.tm + D0.rc ∧ D0.tm + D0.rc ≤ _; omega
  · rw [h.query, List.eq_nil_of_length_eq_zero h0.symm]; rfl
theorem EJ.stpE (h : EJ D0 i st n xs R q D acc) (hs : EStart D0 i st n xs) (hq : q < xs.length) (hr : D.rdy = true) : D.stpE (xs.getD q 0) = 0 := by
  have ha := hs.sym hq
  have hc := h.ok.cost (a := (xs.getD q 0).toNat) (by omega)
  have hsp := h.sp
  have htm := h.tm
  have hl := hs.len
  unfold DD.stpE
  rw [if_pos hr, if_pos (by rw [h.ok.ei]; exact ha), if_pos (by constructor <;> omega)]
theorem EJ.step (h : EJ D0 i st n xs R q D acc) (hs : EStart D0 i st n xs) (hq : q < xs.length) (hr : D.rdy = true) : D.stepD (xs.getD q 0) = D.stp (xs.getD q 0) ∧ D.stepE (xs.getD q 0) = 0 ∧ D.stepO (xs.getD q 0) = rcv (Drx D.sd 10000 : Int) D.f1 D.f2 (oN D.ot D.s.toNat (xs.getD q 0).toNat) := by
  have hE := h.stpE hs hq hr
  unfold DD.stepD DD.stepE DD.stepO DD.stpD DD.stpO
  rw [if_pos h.ok.err, if_pos h.ok.err, if_pos h.ok.err, if_pos hE, if_pos hE]
  exact ⟨rfl, hE, rfl⟩
theorem EJ.lost (h : EJ D0 i st n xs R q D acc) (hs : EStart D0 i st n xs) (hq : q < xs.length) (hr : D.rdy = true) (hl : D.stepO (xs.getD q 0) = -1) : R = (D.stepD (xs.getD q 0), [], 14) ∧ 0 < D0.f1 := by
  have hE := h.stpE hs hq hr
  obtain ⟨e1, e2, e3⟩ := h.step hs hq hr
  have hO : D.stpO (xs.getD q 0) = -1 := by rw [← hl]; unfold DD.stepO; rw [if_pos h.ok.err]
  have hD : D.stpD (xs.getD q 0) = D.stepD (xs.getD q 0) := by unfold DD.stepD; rw [if_pos h.ok.err]
  refine ⟨?_, ?_⟩
  · rw [← h.go hq hr, drop_cons hq, qgo_fault hE (.inl hO), hD]
  · rw [e3, h.f1, h.f2] at hl
    have ha := hs.sym hq
    have hs0 := h.ok.s0
    have hs1 := h.ok.s1
    have hp := ((h.ok.m.row D.s.toNat (by omega)).2.2 (xs.getD q 0).toNat (by omega)).2.2.1
    exact rcv_lost hp hl
theorem EJ.wrong (h : EJ D0 i st n xs R q D acc) (hs : EStart D0 i st n xs) (hq : q < xs.length) (hr : D.rdy = true) (hl : ¬ D.stepO (xs.getD q 0) = -1) {o : Int} (ho : o = oN D.ot D.s.toNat (xs.getD q 0).toNat) (hn : ¬ D.stepO (xs.getD q 0) = o) : 0 < D0.f2 ∧ D.stepO (xs.getD q 0) - o ≤ 1 ∧ o - D.stepO (xs.getD q 0) ≤ 1 := by
  obtain ⟨e1, e2, e3⟩ := h.step hs hq hr
  rw [e3] at hl hn ⊢
  rw [← ho] at hl hn ⊢
  have := rcv_wrong hl hn
  rw [h.f2] at this
  rw [h.f2]
  exact this
theorem EJ.next (h : EJ D0 i st n xs R q D acc) (hs : EStart D0 i st n xs) (hq : q < xs.length) (hr : D.rdy = true) (hl : ¬ D.stepO (xs.getD q 0) = -1) : EJ D0 i st n xs R (q + 1) (D.stepD (xs.getD q 0)) (acc ++ [D.stepO (xs.getD q 0)]) := by
  have hE := h.stpE hs hq hr
  obtain ⟨e1, e2, e3⟩ := h.step hs hq hr
  have hO : D.stpO (xs.getD q 0) = D.stepO (xs.getD q 0) := by unfold DD.stepO; rw [if_pos h.ok.err]
  have hD : D.stpD (xs.getD q 0) = D.stepD (xs.getD q 0) := by unfold DD.stepD; rw [if_pos h.ok.err]
  have ha := hs.sym hq
  have hc := h.ok.cost (a := (xs.getD q 0).toNat) (by omega)
  have hsp := h.sp
  have htm := h.tm
  have hgo := h.go hq hr
  rw [drop_cons hq] at hgo
  have hnil : xs.drop (q + 1) = [] ↔ q + 1 = xs.length := by rw [List.drop_eq_nil_iff]; omega
  have hok : DOk (D.stepD (xs.getD q 0)) i st n := by rw [← hD]; exact h.ok.stpD _
  refine ⟨hok, by rw [e1]; exact h.ei, by rw [e1]; exact h.nx, by rw [e1]; exact h.ot, by rw [e1]; exact h.cs, by rw [e1]; exact h.f1, by rw [e1]; exact h.f2, by rw [e1]; exact h.f3, by rw [e1]; show D.sp + 1 = _; omega, ?_, by rw [List.length_append, h.len]; rfl, fun hf => ?_, fun hf hr2 => ?_, fun hf hr2 => ?_, fun hr2 => ?_⟩
  · rw [e1]; show 0 ≤ D.tm + D.cs.getD (xs.getD q 0).toNat 0 ∧ D.tm + D.cs.getD (xs.getD q 0).toNat 0 ≤ _; omega
  · rw [qgo_on hE (by rw [hO, hnil]; exact fun hh => hh.elim hl (fun hh => hh.2 hf)), hO, hD] at hgo
    rw [← hgo, hnil.2 hf]; rfl
  · rw [qgo_on hE (by rw [hO, hD]; exact fun hh => hh.elim hl (fun hh => absurd hh.1 (by rw [hr2]; decide))), hO, hD] at hgo
    exact hgo
  · rw [qgo_fault hE (.inr ⟨by rw [hD]; exact hr2, by rw [hnil]; omega⟩), hD] at hgo
    exact hgo.symm
  · rw [e1] at hr2
    have : crs (Drx D.sd 10000 : Int) D.f1 D.f2 D.f3 = true := by
      have h2 : (!crs (Drx D.sd 10000 : Int) D.f1 D.f2 D.f3) = false := hr2
      simpa using h2
    have := crs_pos this
    rw [h.f3] at this
    exact this
/-- With all outputs lost a query of a word that is not empty fails. -/
theorem EStart.all (h : EStart D0 i st n xs) (h1 : D0.f1 = 10000) (hl : 0 < xs.length) : (D0.query xs).2.2 = 14 := by
  have hj := h.start
  obtain ⟨e1, e2, e3⟩ := hj.step h hl rfl
  have hx := Drx_lt (s := D0.rst.sd) (n := 10000) ⟨by decide, by decide⟩
  have hm : D0.rst.stepO (xs.getD 0 0) = -1 := by
    rw [e3, show D0.rst.f1 = 10000 from h1]
    exact rcv_all hx
  rw [(hj.lost h hl rfl hm).1]
end
end Go.Proofs.Ytcoihbpadbnilaa
end

section
/- The reference: has, index, Reach. -/
namespace Go.Proofs.Ytcoihbpadbnilaa
open Go.RowKit

theorem mem_take_succ {xs : List Int} {j : Nat} {v : Int} (h : ∀ m, m < j → xs.getD m 0 ≠ v) (h2 : xs.getD j 0 ≠ v) : ∀ m, m < j + 1 → xs.getD m 0 ≠ v := fun m hm => by
  by_cases e : m = j
  · subst e; exact h2
  · exact h m (by omega)

end Go.Proofs.Ytcoihbpadbnilaa
end

section
/- Two rows of numbers that grow side by side. -/
namespace Go.Proofs.Ytcoihbpadbnilaa
open Go.RowKit

theorem Owned.lt {w : World} {base : Nat} {v : Value} {xs : List Int} (h : Owned w base v xs) : ∀ k, v.ownBlock = some k → base ≤ k ∧ k < w.heap.size := World.ownsRow.lt h
theorem Owned.keptB {w w' : World} {base : Nat} {u v : Value} {xs : List Int} (h : Owned w base v xs) (hk : KeptB u.ownBlock w w') (ha : Apart u v) : Owned w' base v xs := by
  refine ⟨h.1, ?_⟩
  rcases h.2 with e | ⟨g, cap, cur, hv, hbg, hg, r⟩
  · exact .inl e
  · exact .inr ⟨g, cap, cur, hv, hbg, hk g _ hg (fun e => ha g e (by rw [hv]; rfl)), r⟩
theorem Apart.movedI {w : World} {base : Nat} {v v' u : Value} {xs : List Int} (h : Apart v u) (hm : Moved w v v') (hu : Owned w base u xs) : Apart v' u := by
  rcases hm with e | ⟨g, hg, e⟩
  · intro k hk; rw [e] at hk; exact h k hk
  · intro k hk h2
    rw [e] at hk
    injection hk with hk
    have := (hu.lt k h2).2
    omega

/-- append of one number; every other block is as it was. -/
theorem run_append_onek {w : World} {base : Nat} {v : Value} {xs : List Int} (h : Owned w base v xs) (x : Int) (hbase : base ≤ w.heap.size) (hl : xs.length < 17592186044416) :
    ∃ A c w', (Builtin.append_ #[25, 25] 25 #[v, .slice (some ⟨w.heap.size, 0, none⟩) 1 1]).run Try.prog (w.alloc (.cells #[.int .i64 x] 3)) = .ok (.slice A (xs.length + 1) c) w' ∧
      Owned w' base (.slice A (xs.length + 1) c) (xs ++ [x]) ∧ Below base w w' ∧ KeptB v.ownBlock w w' ∧ Moved w v (.slice A (xs.length + 1) c) := by
  obtain ⟨i, hi, hz0, hz1, hz2⟩ := info_parts info3
  have hbz := alloc_below w (.cells #[.int .i64 x] 3)
  have ho1 : (w.alloc (.cells #[.int .i64 x] 3)).ownsRow base 3 1 v xs.length (xs.map (Value.int .i64)) := h.kept hbz
  obtain ⟨v', w', hr, h1, h2, _, hmv⟩ := run_append_own_at (P := Try.prog) (w.alloc (.cells #[.int .i64 x] 3)) base 25 25 3 i (.int .i64 0) 1 8 Try.underlying25 hi hz0 hz1 hz2 rfl (by decide) v _ _ ho1 ⟨w.heap.size, 0, none⟩ 1 1 [.int .i64 x] (by simp)
    (by
      intro j u hu
      cases j with
      | zero =>
        simp at hu
        subst hu
        simp [Addr.add]
      | succ j => simp at hu)
    (by intro u hu; simp at hu; subst hu; rfl) (by unfold maxLen; omega) (by omega) (Nat.le_trans hbase hbz.size)
  have hown : Owned w' base v' (xs ++ [x]) := by
    unfold Owned
    rw [List.length_append, List.map_append]
    exact h1
  obtain ⟨A, c, rfl⟩ := hown.form
  rw [List.length_append] at hr hown
  have hkb : KeptB v.ownBlock w w' := fun g o e hne => (h2.block g (Nat.lt_of_lt_of_le (heap_lt e) hbz.size) (fun e2 => hne e2.symm)).trans ((hbz.block g (heap_lt e)).trans e)
  refine ⟨A, c, w', hr, hown, (hbz.mono hbase).trans ((Below.refl _ _).grown h2 (Nat.le_trans hbase hbz.size) (fun k hk => (World.ownsRow.lt ho1 k hk).1)), hkb, ?_⟩
  rcases hmv with e | e
  · exact .inl (by rw [List.length_append] at e; exact e)
  · exact .inr ⟨(w.alloc (.cells #[.int .i64 x] 3)).heap.size, by simp, by rw [List.length_append] at e; exact e⟩

/-- append to one of two rows, behind any number of draws. -/
theorem pair_app {wr : World} {base q : Nat} {A : Option Addr} {c : Nat} {u : Value} {xs ys : List Int} (h : Owned wr base (.slice A q c) xs) (hu : Owned wr base u ys) (ha : Apart (.slice A q c) u) (x : Int) (hbase : base ≤ wr.heap.size) (hl : xs.length < 17592186044416) :
    ∃ F : Nat → (Option Addr × Nat) × World, ∀ k, (Builtin.append_ #[25, 25] 25 #[.slice A q c, .slice (some ⟨wr.heap.size, 0, none⟩) 1 1]).run Try.prog ((wr.drewN k).alloc (.cells #[.int .i64 x] 3)) = .ok (.slice (F k).1.1 (q + 1) (F k).1.2) (F k).2 ∧
      Owned (F k).2 base (.slice (F k).1.1 (q + 1) (F k).1.2) (xs ++ [x]) ∧ Owned (F k).2 base u ys ∧ Apart (.slice (F k).1.1 (q + 1) (F k).1.2) u ∧ Below base wr (F k).2 := by
  have hq : q = xs.length := by obtain ⟨A', c', e⟩ := h.form; cases e; rfl
  refine skol (p := fun k (r : (Option Addr × Nat) × World) => (Builtin.append_ #[25, 25] 25 #[.slice A q c, .slice (some ⟨wr.heap.size, 0, none⟩) 1 1]).run Try.prog ((wr.drewN k).alloc (.cells #[.int .i64 x] 3)) = .ok (.slice r.1.1 (q + 1) r.1.2) r.2 ∧
      Owned r.2 base (.slice r.1.1 (q + 1) r.1.2) (xs ++ [x]) ∧ Owned r.2 base u ys ∧ Apart (.slice r.1.1 (q + 1) r.1.2) u ∧ Below base wr r.2) fun k => ?_
  obtain ⟨A', c', w', h1, h2, h3, h4, h5⟩ := run_append_onek (h.drew k) x hbase hl
  rw [← hq] at h1 h2 h5
  exact ⟨((A', c'), w'), h1, h2, (hu.drew k).keptB h4 ha, ha.movedI h5 (hu.drew k), (below_drewN (Below.refl _ _) k).trans h3⟩
end Go.Proofs.Ytcoihbpadbnilaa
end

section
/- The law DeviceErrors: the walk. -/
namespace Go.Proofs.Ytcoihbpadbnilaa
open Go.RowKit

theorem wpAnyX_three {P : Program} {md : Region.Mode} {ops : Array Oper} {Q : Exit → Act → World → Prop} {S : World → Prop} {X : Nat → Bool} {i j k : Nat} {o u v : Oper} {fuel : Nat} {listed : Array Bool} {a : Act} {w : World} (ho : ops[i]? = some o) (hu : ops[j]? = some u) (hv : ops[k]? = some v) (hr : Region.ready md ops listed = [i, j, k])
    (h : ∀ K' : Act → World → Prop, Shut (∀ a w', (X i = false → S w → S w') → wpAnyX P md ops Q S X fuel (listed.setIfInBounds i true) a w' → K' a w') → if Region.wanted o (yielded ops a.tmps) = true then Oper.wp P o a w K' Q else K' (a.put o.dst undef) w)
    (h2 : ∀ K' : Act → World → Prop, Shut (∀ a w', (X j = false → S w → S w') → wpAnyX P md ops Q S X fuel (listed.setIfInBounds j true) a w' → K' a w') → if Region.wanted u (yielded ops a.tmps) = true then Oper.wp P u a w K' Q else K' (a.put u.dst undef) w)
    (h3 : ∀ K' : Act → World → Prop, Shut (∀ a w', (X k = false → S w → S w') → wpAnyX P md ops Q S X fuel (listed.setIfInBounds k true) a w' → K' a w') → if Region.wanted v (yielded ops a.tmps) = true then Oper.wp P v a w K' Q else K' (a.put v.dst undef) w) : wpAnyX P md ops Q S X (fuel + 1) listed a w := by
  refine ⟨fun h0 => ?_, fun l hl => ?_⟩
  · rw [hr] at h0; cases h0
  · rw [hr] at hl
    rcases List.mem_cons.1 hl with rfl | hl
    · exact wpOp_step ho (fun K' hK => h K' (fun a w hS hW => hK a w ⟨hS, hW⟩))
    · rcases List.mem_cons.1 hl with rfl | hl
      · exact wpOp_step hu (fun K' hK => h2 K' (fun a w hS hW => hK a w ⟨hS, hW⟩))
      · obtain rfl := List.mem_singleton.1 hl
        exact wpOp_step hv (fun K' hK => h3 K' (fun a w hS hW => hK a w ⟨hS, hW⟩))
/-- Boxes of a machine, its costs and its faults. -/
def ThreeB (w : World) (c3 c4 c5 : Array Value) (u v x : Value) (wx : World) : Prop := ∃ g k p : Nat, u = .pointer (some ⟨g, 0, none⟩) ∧ v = .pointer (some ⟨k, 0, none⟩) ∧ x = .pointer (some ⟨p, 0, none⟩) ∧ Blk wx g c3 24 ∧ Blk wx k c4 27 ∧ Blk wx p c5 29 ∧ Below w.heap.size w wx
theorem blk_abc (w : World) (c1 c2 c3 : Array Value) (t1 t2 t3 : TypeId) : Blk (((w.alloc (.cells c1 t1)).alloc (.cells c2 t2)).alloc (.cells c3 t3)) w.heap.size c1 t1 ∧ Blk (((w.alloc (.cells c1 t1)).alloc (.cells c2 t2)).alloc (.cells c3 t3)) (w.heap.size + 1) c2 t2 ∧ Blk (((w.alloc (.cells c1 t1)).alloc (.cells c2 t2)).alloc (.cells c3 t3)) (w.heap.size + 1 + 1) c3 t3 := by
  refine ⟨((blk_new w c1 t1).on (alloc_below _ _)).on (alloc_below _ _), ?_, ?_⟩
  · rw [show w.heap.size + 1 = (w.alloc (.cells c1 t1)).heap.size by simp]
    exact (blk_new _ _ _).on (alloc_below _ _)
  · rw [show w.heap.size + 1 + 1 = ((w.alloc (.cells c1 t1)).alloc (.cells c2 t2)).heap.size by simp]
    exact blk_new _ _ _
/-- Only one block, and a row's own, may differ. -/
structure Off (g : Nat) (o : Option Nat) (w W : World) : Prop where
  os : W.os = w.os
  tape : W.tape = w.tape
  output : W.output = w.output
  size : w.heap.size ≤ W.heap.size
  block : ∀ b, b ≠ g → o ≠ some b → b < w.heap.size → W.heap[b]? = w.heap[b]?
/-- A device whose lists don't lie in a block, nor in a row's. -/
def AvR (g : Nat) (o : Option Nat) (w : World) (D : DD) (H : DH) : Prop := ∀ W, Off g o w W → DevR W D H
section
variable {g k : Nat} {o : Option Nat} {w w' w1 u V : World} {D D2 : DD} {H Ha Hb : DH}
theorem Off.refl (g : Nat) (o : Option Nat) (w : World) : Off g o w w := ⟨rfl, rfl, rfl, Nat.le_refl _, fun _ _ _ _ => rfl⟩
theorem Off.of (h : Below w.heap.size w w') : Off g o w w' := ⟨h.os, h.tape, h.output, h.size, fun b _ _ hb => h.block b hb⟩
theorem Off.trans {a b c : World} (h : Off g o a b) (k : Off g o b c) : Off g o a c := ⟨k.os.trans h.os, k.tape.trans h.tape, k.output.trans h.output, Nat.le_trans h.size k.size, fun x hx ho hb => (k.block x hx ho (Nat.lt_of_lt_of_le hb h.size)).trans (h.block x hx ho hb)⟩
theorem Off.row (g : Nat) (o : Option Nat) (w : World) (cs : Array Value) : Off g o w (w.setRow g cs) := by
  have h := below_setRow (Below.refl 0 w) (Nat.zero_le g) cs
  exact ⟨h.os, h.tape, h.output, h.size, fun b hb _ _ => setRow_other _ _ _ _ hb⟩
theorem AvR.dev (h : AvR g o w D H) : DevR w D H := h w (Off.refl g o w)
theorem AvR.on (h : AvR g o w D H) (hb : Below w.heap.size w w') : AvR g o w' D H := fun W hW => h W ((Off.of hb).trans hW)
theorem AvR.row (h : AvR g o w D H) (cs : Array Value) : AvR g o (w.setRow g cs) D H := fun W hW => h W ((Off.row g o w cs).trans hW)
theorem AvR.new (h : DevR w D H) (hg : w.heap.size ≤ g) : AvR g none w D H := fun W hW => h.below ⟨hW.os, hW.tape, hW.output, hW.size, fun b hb => hW.block b (by omega) (by simp) hb⟩
theorem AvR.next (h : AvR g o w D Ha) (hb : Below w.heap.size w w1) (b9 : Below w1.heap.size w1 u) (hg : g < w.heap.size) (ho : ∀ b, o = some b → b < w.heap.size) (ht : ∀ (W : World) (X : DH), DevR W D X → DevR W D2 X) (hd : DevG w1 u Ha D2 Hb) : AvR g o u D2 Hb := by
  have hs := hb.size
  rcases hd with hd | ⟨rfl, _⟩
  · exact fun W hW => hd W fun b h1 h2 => hW.block b (by omega) (fun e => by have := ho b e; omega) h2
  · exact fun W hW => ht _ _ (((h.on hb).on b9) W hW)
theorem AvR.newB {cs : Array Value} (h : AvR g o V D Ha) (hb : Below V.heap.size V w1) (b9 : Below w1.heap.size w1 u) (hg : g < V.heap.size) (ho : ∀ b, o = some b → b < V.heap.size) (ht : ∀ (W : World) (X : DH), DevR W D X → DevR W D2 X) (hd : DevG w1 u Ha D2 Hb) (h1 : V.heap.size ≤ k) (h2 : k < w1.heap.size) : AvR g o (u.setRow k cs) D2 Hb := by
  have hs := hb.size
  have hs9 := b9.size
  have hbu := bt hb b9
  have hr := below_setRow hbu (B := V.heap.size) (by omega) cs (g := k)
  rcases hd with hd | ⟨rfl, _⟩
  · refine fun W hW => hd W fun b hb1 hb2 => ?_
    rw [hW.block b (by omega) (fun e => by have := ho b e; omega) (by simpa using hb2), setRow_other _ _ _ _ (by omega)]
  · exact fun W hW => ht _ _ (h W ((Off.of hr).trans hW))
theorem AvR.app {v v' : Value} {base : Nat} (h : AvR g v.ownBlock w D H) (hb : Below base w w') (hk : KeptB v.ownBlock w w') (hm : Moved w v v') : AvR g v'.ownBlock w' D H := by
  refine fun W hW => h W ⟨hW.os.trans hb.os, hW.tape.trans hb.tape, hW.output.trans hb.output, Nat.le_trans hb.size hW.size, fun b h1 h2 h3 => ?_⟩
  have hv : v'.ownBlock ≠ some b := by
    rcases hm with e | ⟨g', hg', e⟩
    · rw [e]; exact h2
    · rw [e]; intro hh; injection hh with hh; omega
  rw [hW.block b h1 hv (Nat.lt_of_lt_of_le h3 hb.size)]
  obtain ⟨ob, hob⟩ : ∃ ob, w.heap[b]? = some ob := ⟨w.heap[b], Array.getElem?_eq_getElem h3⟩
  rw [hk b ob hob h2, hob]
end
theorem Owned.blt {w : World} {base : Nat} {v : Value} {xs : List Int} (h : Owned w base v xs) : ∀ b, v.ownBlock = some b → b < w.heap.size := by
  intro b hb
  rcases h.2 with ⟨rfl, _⟩ | ⟨g', cap, cur, rfl, _, hh, _⟩
  · cases hb
  · have : b = g' := by simpa [Value.ownBlock] using hb.symm
    subst this
    exact heap_lt hh
theorem dvq_4 {D : DD} {H : DH} {x : Int} (h : D.s = x) : (dvC D H)[4]? = some (.int .i64 x) := by subst h; rfl
theorem dvq_12 {D : DD} {H : DH} {x : Int} (h : D.sp = x) : (dvC D H)[12]? = some (.int .i64 x) := by subst h; rfl
theorem dvq_14 {D : DD} {H : DH} {x : Int} (h : D.tm = x) : (dvC D H)[14]? = some (.int .i64 x) := by subst h; rfl
/-- What the program's step leaves. -/
def CutE (g : Nat) (ob : Option Nat) (V : World) (D : DD) (o e : Int) (u v x : Value) (wx : World) : Prop := ∃ Hb, NewD V D Hb u wx ∧ v = .int .i64 o ∧ x = .int .i64 e ∧ AvR g ob wx D Hb

set_option linter.unusedSimpArgs false in
set_option linter.unusedVariables false in
set_option maxHeartbeats 16000000 in
set_option maxRecDepth 100000 in
theorem errors19_walk (i1 st1 : Int) (A B : Option Addr) (n c m d : Nat) (nx ot : List (List Int)) (L : Option Addr) (l lc : Nat) (cs : List Int) (rc f1 f2 f3 : Int) (sd : Nat) (X : Option Addr) (k e : Nat) (xs : List Int) (w : World)
    (hx : Lists w A n nx) (ho : Lists w B m ot) (hcs : Ints w L l cs) (hX : Ints w X k xs) (hs : sd < 18446744073709551616) :
    Calls Try.prog 7 #[.agg #[.int .i64 i1, .int .i64 st1, .slice A n c, .slice B m d, .slice L l lc, .int .i64 rc, .int .i64 f1, .int .i64 f2, .int .i64 f3, .int .u64 (sd : Int), .slice X k e]] w fun e w' => e = .returned (.bool true) ∧ Below w.heap.size w w' := by
  obtain ⟨w0, hw0⟩ : ∃ w0, w0 = w.alloc (.cells #[.int .i64 i1, .int .i64 st1, .slice A n c, .slice B m d, .slice L l lc, .int .i64 rc, .int .i64 f1, .int .i64 f2, .int .i64 f3, .int .u64 (sd : Int), .slice X k e] 70) := ⟨_, rfl⟩
  have hb0 : Below w.heap.size w w0 := by rw [hw0]; exact alloc_below _ _
  have m0 : Blk w0 w.heap.size #[.int .i64 i1, .int .i64 st1, .slice A n c, .slice B m d, .slice L l lc, .int .i64 rc, .int .i64 f1, .int .i64 f2, .int .i64 f3, .int .u64 (sd : Int), .slice X k e] 70 := by rw [hw0]; exact blk_new _ _ _
  have HB0 := Lib.hid hb0
  have hHS : ∀ (W : World), Below w0.heap.size w0 W → (W.cell? ⟨w.heap.size, 0, none⟩ = some (.int .i64 i1) ∧ W.cell? ⟨w.heap.size, 1, none⟩ = some (.int .i64 st1) ∧ W.cell? ⟨w.heap.size, 2, none⟩ = some (.slice A n c) ∧ W.cell? ⟨w.heap.size, 3, none⟩ = some (.slice B m d) ∧ W.cell? ⟨w.heap.size, 4, none⟩ = some (.slice L l lc) ∧ W.cell? ⟨w.heap.size, 5, none⟩ = some (.int .i64 rc) ∧ W.cell? ⟨w.heap.size, 6, none⟩ = some (.int .i64 f1) ∧ W.cell? ⟨w.heap.size, 7, none⟩ = some (.int .i64 f2) ∧ W.cell? ⟨w.heap.size, 8, none⟩ = some (.int .i64 f3) ∧ W.cell? ⟨w.heap.size, 9, none⟩ = some (.int .u64 (sd : Int)) ∧ W.cell? ⟨w.heap.size, 10, none⟩ = some (.slice X k e)) := fun W h => ⟨(m0.on h).cell 0, (m0.on h).cell 1, (m0.on h).cell 2, (m0.on h).cell 3, (m0.on h).cell 4, (m0.on h).cell 5, (m0.on h).cell 6, (m0.on h).cell 7, (m0.on h).cell 8, (m0.on h).cell 9, (m0.on h).cell 10⟩
  have HSS := Lib.hid hHS
  have HN := Lib.hid (fun (W : World) (h : Below w0.heap.size w0 W) => (hx.below hb0).below h)
  have HO := Lib.hid (fun (W : World) (h : Below w0.heap.size w0 W) => (ho.below hb0).below h)
  have HC := Lib.hid (fun (W : World) (h : Below w0.heap.size w0 W) => (hcs.below hb0).below h)
  have HX := Lib.hid (fun (W : World) (h : Below w0.heap.size w0 W) => (hX.below hb0).below h)
  have HXL := Lib.hid hX.1
  have HXB := Lib.hid hX.2.1
  have HSD := Lib.hid hs
  have HW0 := Lib.hid hw0
  have hszD : ∀ D H, (dvC D H).size = 15 := fun _ _ => rfl
  have HSZ := Lib.hid hszD
  have hbc := Below.refl w0.heap.size w0
  clear hw0 hb0 m0 hx ho hcs hX hs hszD hHS
  go_enter Try.func7, Try.ntmps7
  go_upto_region 1 with fail
  rw [← HW0.out]
  go_cut [3, 4, 5, 6, 7] from 26 to 35 (fun v3 v4 v5 v6 v7 wx => ThreeB w0 #[.int .i64 i1, .int .i64 st1, .slice A n c, .slice B m d] #[.slice L l lc, .int .i64 rc] #[.int .i64 f1, .int .i64 f2, .int .i64 f3] v3 v4 v5 wx ∧ v6 = .int .u64 (sd : Int) ∧ v7 = .slice X k e)
  case first =>
    as_aux_lemma =>
      have hbf : Below w0.heap.size w0 w0.drew := below_drewN (Below.refl _ _) 1
      have hzd1 : w0.heap.size ≤ w0.drew.heap.size := Nat.le_refl _
      have hzd2 : w0.drew.heap.size ≤ w0.heap.size := Nat.le_refl _
      refine wp_region_heldX (X := fun k => ([] : List Nat).contains k) (S := fun W => W.cell? ⟨w.heap.size, 0, none⟩ = some (.int .i64 i1) ∧ W.cell? ⟨w.heap.size, 1, none⟩ = some (.int .i64 st1) ∧ W.cell? ⟨w.heap.size, 2, none⟩ = some (.slice A n c) ∧ W.cell? ⟨w.heap.size, 3, none⟩ = some (.slice B m d) ∧ W.cell? ⟨w.heap.size, 4, none⟩ = some (.slice L l lc) ∧ W.cell? ⟨w.heap.size, 5, none⟩ = some (.int .i64 rc) ∧ W.cell? ⟨w.heap.size, 6, none⟩ = some (.int .i64 f1) ∧ W.cell? ⟨w.heap.size, 7, none⟩ = some (.int .i64 f2) ∧ W.cell? ⟨w.heap.size, 8, none⟩ = some (.int .i64 f3) ∧ W.cell? ⟨w.heap.size, 9, none⟩ = some (.int .u64 (sd : Int)) ∧ W.cell? ⟨w.heap.size, 10, none⟩ = some (.slice X k e)) (by kernel_rfl) ?_
      refine wpAnyX_pure (i := 0) (v := ?_) rfl (by kernel_rfl) (by kernel_rfl) (by kernel_rfl) (fun _ _ _ h => h) (Or.inl ⟨by rfl, ?_⟩) ?_
      rotate_left
      · (intro W _; go_simp; try with_reducible rfl)
      (try simp only [Act.put, List.getElem_toArray, List.getElem_cons_zero, List.getElem_cons_succ, List.setIfInBounds_toArray, List.set_cons_zero, List.set_cons_succ])
      refine wpAnyX_takeL (L := []) (i := 1) (v := ?_) rfl (by kernel_rfl) (by kernel_rfl) (by kernel_rfl) (by kernel_rfl) (fun _ _ _ h => h) (Or.inl ⟨by rfl, ?_⟩) (HSS.out _ hbf) ?_
      rotate_left
      · (intro W hSW; (try dsimp only at hSW); obtain ⟨z0, z1, z2, z3, z4, z5, z6, z7, z8, z9, z10⟩ := hSW; go_simp; try with_reducible rfl)
      (try simp only [Act.put, List.getElem_toArray, List.getElem_cons_zero, List.getElem_cons_succ, List.setIfInBounds_toArray, List.set_cons_zero, List.set_cons_succ])
      refine wpAnyX_pure (i := 2) (v := ?_) rfl (by kernel_rfl) (by kernel_rfl) (by kernel_rfl) (fun _ _ _ h => h) (Or.inl ⟨by rfl, ?_⟩) ?_
      rotate_left
      · (intro W _; go_simp; try with_reducible rfl)
      (try simp only [Act.put, List.getElem_toArray, List.getElem_cons_zero, List.getElem_cons_succ, List.setIfInBounds_toArray, List.set_cons_zero, List.set_cons_succ])
      refine wpAnyX_takeL (L := []) (i := 3) (v := ?_) rfl (by kernel_rfl) (by kernel_rfl) (by kernel_rfl) (by kernel_rfl) (fun _ _ _ h => h) (Or.inl ⟨by rfl, ?_⟩) (HSS.out _ hbf) ?_
      rotate_left
      · (intro W hSW; (try dsimp only at hSW); obtain ⟨z0, z1, z2, z3, z4, z5, z6, z7, z8, z9, z10⟩ := hSW; go_simp; try with_reducible rfl)
      (try simp only [Act.put, List.getElem_toArray, List.getElem_cons_zero, List.getElem_cons_succ, List.setIfInBounds_toArray, List.set_cons_zero, List.set_cons_succ])
      refine wpAnyX_pure (i := 4) (v := ?_) rfl (by kernel_rfl) (by kernel_rfl) (by kernel_rfl) (fun _ _ _ h => h) (Or.inl ⟨by rfl, ?_⟩) ?_
      rotate_left
      · (intro W _; go_simp; try with_reducible rfl)
      (try simp only [Act.put, List.getElem_toArray, List.getElem_cons_zero, List.getElem_cons_succ, List.setIfInBounds_toArray, List.set_cons_zero, List.set_cons_succ])
      refine wpAnyX_takeL (L := []) (i := 5) (v := ?_) rfl (by kernel_rfl) (by kernel_rfl) (by kernel_rfl) (by kernel_rfl) (fun _ _ _ h => h) (Or.inl ⟨by rfl, ?_⟩) (HSS.out _ hbf) ?_
      rotate_left
      · (intro W hSW; (try dsimp only at hSW); obtain ⟨z0, z1, z2, z3, z4, z5, z6, z7, z8, z9, z10⟩ := hSW; go_simp; try with_reducible rfl)
      (try simp only [Act.put, List.getElem_toArray, List.getElem_cons_zero, List.getElem_cons_succ, List.setIfInBounds_toArray, List.set_cons_zero, List.set_cons_succ])
      refine wpAnyX_pure (i := 6) (v := ?_) rfl (by kernel_rfl) (by kernel_rfl) (by kernel_rfl) (fun _ _ _ h => h) (Or.inl ⟨by rfl, ?_⟩) ?_
      rotate_left
      · (intro W _; go_simp; try with_reducible rfl)
      (try simp only [Act.put, List.getElem_toArray, List.getElem_cons_zero, List.getElem_cons_succ, List.setIfInBounds_toArray, List.set_cons_zero, List.set_cons_succ])
      refine wpAnyX_takeL (L := []) (i := 7) (v := ?_) rfl (by kernel_rfl) (by kernel_rfl) (by kernel_rfl) (by kernel_rfl) (fun _ _ _ h => h) (Or.inl ⟨by rfl, ?_⟩) (HSS.out _ hbf) ?_
      rotate_left
      · (intro W hSW; (try dsimp only at hSW); obtain ⟨z0, z1, z2, z3, z4, z5, z6, z7, z8, z9, z10⟩ := hSW; go_simp; try with_reducible rfl)
      (try simp only [Act.put, List.getElem_toArray, List.getElem_cons_zero, List.getElem_cons_succ, List.setIfInBounds_toArray, List.set_cons_zero, List.set_cons_succ])
      refine wpAnyX_pure (i := 8) (v := ?_) rfl (by kernel_rfl) (by kernel_rfl) (by kernel_rfl) (fun _ _ _ h => h) (Or.inl ⟨by rfl, ?_⟩) ?_
      rotate_left
      · (intro W _; go_simp; try with_reducible rfl)
      (try simp only [Act.put, List.getElem_toArray, List.getElem_cons_zero, List.getElem_cons_succ, List.setIfInBounds_toArray, List.set_cons_zero, List.set_cons_succ])
      refine wpAnyX_takeL (L := []) (i := 9) (v := ?_) rfl (by kernel_rfl) (by kernel_rfl) (by kernel_rfl) (by kernel_rfl) (fun _ _ _ h => h) (Or.inl ⟨by rfl, ?_⟩) (HSS.out _ hbf) ?_
      rotate_left
      · (intro W hSW; (try dsimp only at hSW); obtain ⟨z0, z1, z2, z3, z4, z5, z6, z7, z8, z9, z10⟩ := hSW; go_simp; try with_reducible rfl)
      (try simp only [Act.put, List.getElem_toArray, List.getElem_cons_zero, List.getElem_cons_succ, List.setIfInBounds_toArray, List.set_cons_zero, List.set_cons_succ])
      refine wpAnyX_three (i := 10) (j := 11) (k := 12) rfl rfl rfl (by kernel_rfl) (fun K hK => ?_) (fun K hK => ?_) (fun K hK => ?_)
      · go_simp
        refine hK.out _ _ (fun _ _ => HSS.out _ (bt hbf (alloc_below _ _))) ?_
        (try simp only [Act.put, List.getElem_toArray, List.getElem_cons_zero, List.getElem_cons_succ, List.setIfInBounds_toArray, List.set_cons_zero, List.set_cons_succ])
        refine wpAnyX_two (i := 11) (j := 12) rfl rfl (by kernel_rfl) (fun K hK => ?_) (fun K hK => ?_)
        · go_simp
          refine hK.out _ _ (fun _ _ => HSS.out _ (bt (bt hbf (alloc_below _ _)) (alloc_below _ _))) ?_
          (try simp only [Act.put, List.getElem_toArray, List.getElem_cons_zero, List.getElem_cons_succ, List.setIfInBounds_toArray, List.set_cons_zero, List.set_cons_succ])
          refine wpAnyX_one (i := 12) rfl (by kernel_rfl) (fun K hK => ?_)
          go_simp
          refine hK.out _ _ (fun _ _ => HSS.out _ (bt (bt (bt hbf (alloc_below _ _)) (alloc_below _ _)) (alloc_below _ _))) ?_
          (try simp only [Act.put, List.getElem_toArray, List.getElem_cons_zero, List.getElem_cons_succ, List.setIfInBounds_toArray, List.set_cons_zero, List.set_cons_succ])
          have hT := blk_abc w0.drew #[.int .i64 0, .int .i64 0, .slice none 0 0, .slice none 0 0] #[.slice none 0 0, .int .i64 0] #[.int .i64 0, .int .i64 0, .int .i64 0] 24 27 29
          refine wpAnyX_one (i := 13) rfl (by kernel_rfl) (fun K hK => ?_)
          refine wp_store_row 24 _ _ rfl (w0.heap.size) (#[.int .i64 i1, .int .i64 st1, .slice A n c, .slice B m d]) rfl rfl 24 (#[.int .i64 0, .int .i64 0, .slice none 0 0, .slice none 0 0]) (hT.1) (by kernel_rfl) (by rfl) (by simp [Value.oneCell']) (hK.out _ _ (fun _ _ => HSS.out _ (below_setRow (bt (bt (bt hbf (alloc_below w0.drew (.cells #[.int .i64 0, .int .i64 0, .slice none 0 0, .slice none 0 0] 24))) (alloc_below _ (.cells #[.slice none 0 0, .int .i64 0] 27))) (alloc_below _ (.cells #[.int .i64 0, .int .i64 0, .int .i64 0] 29))) (by omega) _)) ?_)
          (try simp only [Act.put, List.getElem_toArray, List.getElem_cons_zero, List.getElem_cons_succ, List.setIfInBounds_toArray, List.set_cons_zero, List.set_cons_succ])
          refine wpAnyX_one (i := 14) rfl (by kernel_rfl) (fun K hK => ?_)
          refine wp_store_row 27 _ _ rfl (w0.heap.size + 1) (#[.slice L l lc, .int .i64 rc]) rfl rfl 27 (#[.slice none 0 0, .int .i64 0]) ((hT.2.1).rowOther (by omega) _) (by kernel_rfl) (by rfl) (by simp [Value.oneCell']) (hK.out _ _ (fun _ _ => HSS.out _ (below_setRow (below_setRow (bt (bt (bt hbf (alloc_below w0.drew (.cells #[.int .i64 0, .int .i64 0, .slice none 0 0, .slice none 0 0] 24))) (alloc_below _ (.cells #[.slice none 0 0, .int .i64 0] 27))) (alloc_below _ (.cells #[.int .i64 0, .int .i64 0, .int .i64 0] 29))) (by omega) _) (by omega) _)) ?_)
          (try simp only [Act.put, List.getElem_toArray, List.getElem_cons_zero, List.getElem_cons_succ, List.setIfInBounds_toArray, List.set_cons_zero, List.set_cons_succ])
          refine wpAnyX_one (i := 15) rfl (by kernel_rfl) (fun K hK => ?_)
          refine wp_store_row 29 _ _ rfl (w0.heap.size + 1 + 1) (#[.int .i64 f1, .int .i64 f2, .int .i64 f3]) rfl rfl 29 (#[.int .i64 0, .int .i64 0, .int .i64 0]) (((hT.2.2).rowOther (by omega) _).rowOther (by omega) _) (by kernel_rfl) (by rfl) (by simp [Value.oneCell']) (hK.out _ _ (fun _ _ => HSS.out _ (below_setRow (below_setRow (below_setRow (bt (bt (bt hbf (alloc_below w0.drew (.cells #[.int .i64 0, .int .i64 0, .slice none 0 0, .slice none 0 0] 24))) (alloc_below _ (.cells #[.slice none 0 0, .int .i64 0] 27))) (alloc_below _ (.cells #[.int .i64 0, .int .i64 0, .int .i64 0] 29))) (by omega) _) (by omega) _) (by omega) _)) ?_)
          (try simp only [Act.put, List.getElem_toArray, List.getElem_cons_zero, List.getElem_cons_succ, List.setIfInBounds_toArray, List.set_cons_zero, List.set_cons_succ])
          refine wpAnyX_pure (i := 16) (v := ?_) rfl (by kernel_rfl) (by kernel_rfl) (by kernel_rfl) (fun _ _ _ h => h) (Or.inl ⟨by rfl, ?_⟩) ?_
          rotate_left
          · (intro W _; go_simp; try with_reducible rfl)
          (try simp only [Act.put, List.getElem_toArray, List.getElem_cons_zero, List.getElem_cons_succ, List.setIfInBounds_toArray, List.set_cons_zero, List.set_cons_succ])
          refine wpAnyX_pure (i := 17) (v := ?_) rfl (by kernel_rfl) (by kernel_rfl) (by kernel_rfl) (fun _ _ _ h => h) (Or.inl ⟨by rfl, ?_⟩) ?_
          rotate_left
          · (intro W _; go_simp; try with_reducible rfl)
          (try simp only [Act.put, List.getElem_toArray, List.getElem_cons_zero, List.getElem_cons_succ, List.setIfInBounds_toArray, List.set_cons_zero, List.set_cons_succ])
          refine wpAnyX_done (by kernel_rfl) ?_ _
          go_wp2_with fail
          go_meet
          exact ⟨⟨w0.heap.size, w0.heap.size + 1, w0.heap.size + 1 + 1, rfl, rfl, rfl, (((hT.1).row _).rowOther (by omega) _).rowOther (by omega) _, (((hT.2.1).rowOther (by omega) _).row _).rowOther (by omega) _, (((hT.2.2).rowOther (by omega) _).rowOther (by omega) _).row _, (below_setRow (below_setRow (below_setRow (bt (bt (bt hbf (alloc_below w0.drew (.cells #[.int .i64 0, .int .i64 0, .slice none 0 0, .slice none 0 0] 24))) (alloc_below _ (.cells #[.slice none 0 0, .int .i64 0] 27))) (alloc_below _ (.cells #[.int .i64 0, .int .i64 0, .int .i64 0] 29))) (by omega) _) (by omega) _) (by omega) _)⟩, rfl, rfl⟩
        · go_simp
          refine hK.out _ _ (fun _ _ => HSS.out _ (bt (bt hbf (alloc_below _ _)) (alloc_below _ _))) ?_
          (try simp only [Act.put, List.getElem_toArray, List.getElem_cons_zero, List.getElem_cons_succ, List.setIfInBounds_toArray, List.set_cons_zero, List.set_cons_succ])
          refine wpAnyX_one (i := 11) rfl (by kernel_rfl) (fun K hK => ?_)
          go_simp
          refine hK.out _ _ (fun _ _ => HSS.out _ (bt (bt (bt hbf (alloc_below _ _)) (alloc_below _ _)) (alloc_below _ _))) ?_
          (try simp only [Act.put, List.getElem_toArray, List.getElem_cons_zero, List.getElem_cons_succ, List.setIfInBounds_toArray, List.set_cons_zero, List.set_cons_succ])
          have hT := blk_abc w0.drew #[.int .i64 0, .int .i64 0, .slice none 0 0, .slice none 0 0] #[.int .i64 0, .int .i64 0, .int .i64 0] #[.slice none 0 0, .int .i64 0] 24 29 27
          refine wpAnyX_one (i := 13) rfl (by kernel_rfl) (fun K hK => ?_)
          refine wp_store_row 24 _ _ rfl (w0.heap.size) (#[.int .i64 i1, .int .i64 st1, .slice A n c, .slice B m d]) rfl rfl 24 (#[.int .i64 0, .int .i64 0, .slice none 0 0, .slice none 0 0]) (hT.1) (by kernel_rfl) (by rfl) (by simp [Value.oneCell']) (hK.out _ _ (fun _ _ => HSS.out _ (below_setRow (bt (bt (bt hbf (alloc_below w0.drew (.cells #[.int .i64 0, .int .i64 0, .slice none 0 0, .slice none 0 0] 24))) (alloc_below _ (.cells #[.int .i64 0, .int .i64 0, .int .i64 0] 29))) (alloc_below _ (.cells #[.slice none 0 0, .int .i64 0] 27))) (by omega) _)) ?_)
          (try simp only [Act.put, List.getElem_toArray, List.getElem_cons_zero, List.getElem_cons_succ, List.setIfInBounds_toArray, List.set_cons_zero, List.set_cons_succ])
          refine wpAnyX_one (i := 14) rfl (by kernel_rfl) (fun K hK => ?_)
          refine wp_store_row 27 _ _ rfl (w0.heap.size + 1 + 1) (#[.slice L l lc, .int .i64 rc]) rfl rfl 27 (#[.slice none 0 0, .int .i64 0]) ((hT.2.2).rowOther (by omega) _) (by kernel_rfl) (by rfl) (by simp [Value.oneCell']) (hK.out _ _ (fun _ _ => HSS.out _ (below_setRow (below_setRow (bt (bt (bt hbf (alloc_below w0.drew (.cells #[.int .i64 0, .int .i64 0, .slice none 0 0, .slice none 0 0] 24))) (alloc_below _ (.cells #[.int .i64 0, .int .i64 0, .int .i64 0] 29))) (alloc_below _ (.cells #[.slice none 0 0, .int .i64 0] 27))) (by omega) _) (by omega) _)) ?_)
          (try simp only [Act.put, List.getElem_toArray, List.getElem_cons_zero, List.getElem_cons_succ, List.setIfInBounds_toArray, List.set_cons_zero, List.set_cons_succ])
          refine wpAnyX_one (i := 15) rfl (by kernel_rfl) (fun K hK => ?_)
          refine wp_store_row 29 _ _ rfl (w0.heap.size + 1) (#[.int .i64 f1, .int .i64 f2, .int .i64 f3]) rfl rfl 29 (#[.int .i64 0, .int .i64 0, .int .i64 0]) (((hT.2.1).rowOther (by omega) _).rowOther (by omega) _) (by kernel_rfl) (by rfl) (by simp [Value.oneCell']) (hK.out _ _ (fun _ _ => HSS.out _ (below_setRow (below_setRow (below_setRow (bt (bt (bt hbf (alloc_below w0.drew (.cells #[.int .i64 0, .int .i64 0, .slice none 0 0, .slice none 0 0] 24))) (alloc_below _ (.cells #[.int .i64 0, .int .i64 0, .int .i64 0] 29))) (alloc_below _ (.cells #[.slice none 0 0, .int .i64 0] 27))) (by omega) _) (by omega) _) (by omega) _)) ?_)
          (try simp only [Act.put, List.getElem_toArray, List.getElem_cons_zero, List.getElem_cons_succ, List.setIfInBounds_toArray, List.set_cons_zero, List.set_cons_succ])
          refine wpAnyX_pure (i := 16) (v := ?_) rfl (by kernel_rfl) (by kernel_rfl) (by kernel_rfl) (fun _ _ _ h => h) (Or.inl ⟨by rfl, ?_⟩) ?_
          rotate_left
          · (intro W _; go_simp; try with_reducible rfl)
          (try simp only [Act.put, List.getElem_toArray, List.getElem_cons_zero, List.getElem_cons_succ, List.setIfInBounds_toArray, List.set_cons_zero, List.set_cons_succ])
          refine wpAnyX_pure (i := 17) (v := ?_) rfl (by kernel_rfl) (by kernel_rfl) (by kernel_rfl) (fun _ _ _ h => h) (Or.inl ⟨by rfl, ?_⟩) ?_
          rotate_left
          · (intro W _; go_simp; try with_reducible rfl)
          (try simp only [Act.put, List.getElem_toArray, List.getElem_cons_zero, List.getElem_cons_succ, List.setIfInBounds_toArray, List.set_cons_zero, List.set_cons_succ])
          refine wpAnyX_done (by kernel_rfl) ?_ _
          go_wp2_with fail
          go_meet
          exact ⟨⟨w0.heap.size, w0.heap.size + 1 + 1, w0.heap.size + 1, rfl, rfl, rfl, (((hT.1).row _).rowOther (by omega) _).rowOther (by omega) _, (((hT.2.2).rowOther (by omega) _).row _).rowOther (by omega) _, (((hT.2.1).rowOther (by omega) _).rowOther (by omega) _).row _, (below_setRow (below_setRow (below_setRow (bt (bt (bt hbf (alloc_below w0.drew (.cells #[.int .i64 0, .int .i64 0, .slice none 0 0, .slice none 0 0] 24))) (alloc_below _ (.cells #[.int .i64 0, .int .i64 0, .int .i64 0] 29))) (alloc_below _ (.cells #[.slice none 0 0, .int .i64 0] 27))) (by omega) _) (by omega) _) (by omega) _)⟩, rfl, rfl⟩
      · go_simp
        refine hK.out _ _ (fun _ _ => HSS.out _ (bt hbf (alloc_below _ _))) ?_
        (try simp only [Act.put, List.getElem_toArray, List.getElem_cons_zero, List.getElem_cons_succ, List.setIfInBounds_toArray, List.set_cons_zero, List.set_cons_succ])
        refine wpAnyX_two (i := 10) (j := 12) rfl rfl (by kernel_rfl) (fun K hK => ?_) (fun K hK => ?_)
        · go_simp
          refine hK.out _ _ (fun _ _ => HSS.out _ (bt (bt hbf (alloc_below _ _)) (alloc_below _ _))) ?_
          (try simp only [Act.put, List.getElem_toArray, List.getElem_cons_zero, List.getElem_cons_succ, List.setIfInBounds_toArray, List.set_cons_zero, List.set_cons_succ])
          refine wpAnyX_one (i := 12) rfl (by kernel_rfl) (fun K hK => ?_)
          go_simp
          refine hK.out _ _ (fun _ _ => HSS.out _ (bt (bt (bt hbf (alloc_below _ _)) (alloc_below _ _)) (alloc_below _ _))) ?_
          (try simp only [Act.put, List.getElem_toArray, List.getElem_cons_zero, List.getElem_cons_succ, List.setIfInBounds_toArray, List.set_cons_zero, List.set_cons_succ])
          have hT := blk_abc w0.drew #[.slice none 0 0, .int .i64 0] #[.int .i64 0, .int .i64 0, .slice none 0 0, .slice none 0 0] #[.int .i64 0, .int .i64 0, .int .i64 0] 27 24 29
          refine wpAnyX_one (i := 13) rfl (by kernel_rfl) (fun K hK => ?_)
          refine wp_store_row 24 _ _ rfl (w0.heap.size + 1) (#[.int .i64 i1, .int .i64 st1, .slice A n c, .slice B m d]) rfl rfl 24 (#[.int .i64 0, .int .i64 0, .slice none 0 0, .slice none 0 0]) (hT.2.1) (by kernel_rfl) (by rfl) (by simp [Value.oneCell']) (hK.out _ _ (fun _ _ => HSS.out _ (below_setRow (bt (bt (bt hbf (alloc_below w0.drew (.cells #[.slice none 0 0, .int .i64 0] 27))) (alloc_below _ (.cells #[.int .i64 0, .int .i64 0, .slice none 0 0, .slice none 0 0] 24))) (alloc_below _ (.cells #[.int .i64 0, .int .i64 0, .int .i64 0] 29))) (by omega) _)) ?_)
          (try simp only [Act.put, List.getElem_toArray, List.getElem_cons_zero, List.getElem_cons_succ, List.setIfInBounds_toArray, List.set_cons_zero, List.set_cons_succ])
          refine wpAnyX_one (i := 14) rfl (by kernel_rfl) (fun K hK => ?_)
          refine wp_store_row 27 _ _ rfl (w0.heap.size) (#[.slice L l lc, .int .i64 rc]) rfl rfl 27 (#[.slice none 0 0, .int .i64 0]) ((hT.1).rowOther (by omega) _) (by kernel_rfl) (by rfl) (by simp [Value.oneCell']) (hK.out _ _ (fun _ _ => HSS.out _ (below_setRow (below_setRow (bt (bt (bt hbf (alloc_below w0.drew (.cells #[.slice none 0 0, .int .i64 0] 27))) (alloc_below _ (.cells #[.int .i64 0, .int .i64 0, .slice none 0 0, .slice none 0 0] 24))) (alloc_below _ (.cells #[.int .i64 0, .int .i64 0, .int .i64 0] 29))) (by omega) _) (by omega) _)) ?_)
          (try simp only [Act.put, List.getElem_toArray, List.getElem_cons_zero, List.getElem_cons_succ, List.setIfInBounds_toArray, List.set_cons_zero, List.set_cons_succ])
          refine wpAnyX_one (i := 15) rfl (by kernel_rfl) (fun K hK => ?_)
          refine wp_store_row 29 _ _ rfl (w0.heap.size + 1 + 1) (#[.int .i64 f1, .int .i64 f2, .int .i64 f3]) rfl rfl 29 (#[.int .i64 0, .int .i64 0, .int .i64 0]) (((hT.2.2).rowOther (by omega) _).rowOther (by omega) _) (by kernel_rfl) (by rfl) (by simp [Value.oneCell']) (hK.out _ _ (fun _ _ => HSS.out _ (below_setRow (below_setRow (below_setRow (bt (bt (bt hbf (alloc_below w0.drew (.cells #[.slice none 0 0, .int .i64 0] 27))) (alloc_below _ (.cells #[.int .i64 0, .int .i64 0, .slice none 0 0, .slice none 0 0] 24))) (alloc_below _ (.cells #[.int .i64 0, .int .i64 0, .int .i64 0] 29))) (by omega) _) (by omega) _) (by omega) _)) ?_)
          (try simp only [Act.put, List.getElem_toArray, List.getElem_cons_zero, List.getElem_cons_succ, List.setIfInBounds_toArray, List.set_cons_zero, List.set_cons_succ])
          refine wpAnyX_pure (i := 16) (v := ?_) rfl (by kernel_rfl) (by kernel_rfl) (by kernel_rfl) (fun _ _ _ h => h) (Or.inl ⟨by rfl, ?_⟩) ?_
          rotate_left
          · (intro W _; go_simp; try with_reducible rfl)
          (try simp only [Act.put, List.getElem_toArray, List.getElem_cons_zero, List.getElem_cons_succ, List.setIfInBounds_toArray, List.set_cons_zero, List.set_cons_succ])
          refine wpAnyX_pure (i := 17) (v := ?_) rfl (by kernel_rfl) (by kernel_rfl) (by kernel_rfl) (fun _ _ _ h => h) (Or.inl ⟨by rfl, ?_⟩) ?_
          rotate_left
          · (intro W _; go_simp; try with_reducible rfl)
          (try simp only [Act.put, List.getElem_toArray, List.getElem_cons_zero, List.getElem_cons_succ, List.setIfInBounds_toArray, List.set_cons_zero, List.set_cons_succ])
          refine wpAnyX_done (by kernel_rfl) ?_ _
          go_wp2_with fail
          go_meet
          exact ⟨⟨w0.heap.size + 1, w0.heap.size, w0.heap.size + 1 + 1, rfl, rfl, rfl, (((hT.2.1).row _).rowOther (by omega) _).rowOther (by omega) _, (((hT.1).rowOther (by omega) _).row _).rowOther (by omega) _, (((hT.2.2).rowOther (by omega) _).rowOther (by omega) _).row _, (below_setRow (below_setRow (below_setRow (bt (bt (bt hbf (alloc_below w0.drew (.cells #[.slice none 0 0, .int .i64 0] 27))) (alloc_below _ (.cells #[.int .i64 0, .int .i64 0, .slice none 0 0, .slice none 0 0] 24))) (alloc_below _ (.cells #[.int .i64 0, .int .i64 0, .int .i64 0] 29))) (by omega) _) (by omega) _) (by omega) _)⟩, rfl, rfl⟩
        · go_simp
          refine hK.out _ _ (fun _ _ => HSS.out _ (bt (bt hbf (alloc_below _ _)) (alloc_below _ _))) ?_
          (try simp only [Act.put, List.getElem_toArray, List.getElem_cons_zero, List.getElem_cons_succ, List.setIfInBounds_toArray, List.set_cons_zero, List.set_cons_succ])
          refine wpAnyX_one (i := 10) rfl (by kernel_rfl) (fun K hK => ?_)
          go_simp
          refine hK.out _ _ (fun _ _ => HSS.out _ (bt (bt (bt hbf (alloc_below _ _)) (alloc_below _ _)) (alloc_below _ _))) ?_
          (try simp only [Act.put, List.getElem_toArray, List.getElem_cons_zero, List.getElem_cons_succ, List.setIfInBounds_toArray, List.set_cons_zero, List.set_cons_succ])
          have hT := blk_abc w0.drew #[.slice none 0 0, .int .i64 0] #[.int .i64 0, .int .i64 0, .int .i64 0] #[.int .i64 0, .int .i64 0, .slice none 0 0, .slice none 0 0] 27 29 24
          refine wpAnyX_one (i := 13) rfl (by kernel_rfl) (fun K hK => ?_)
          refine wp_store_row 24 _ _ rfl (w0.heap.size + 1 + 1) (#[.int .i64 i1, .int .i64 st1, .slice A n c, .slice B m d]) rfl rfl 24 (#[.int .i64 0, .int .i64 0, .slice none 0 0, .slice none 0 0]) (hT.2.2) (by kernel_rfl) (by rfl) (by simp [Value.oneCell']) (hK.out _ _ (fun _ _ => HSS.out _ (below_setRow (bt (bt (bt hbf (alloc_below w0.drew (.cells #[.slice none 0 0, .int .i64 0] 27))) (alloc_below _ (.cells #[.int .i64 0, .int .i64 0, .int .i64 0] 29))) (alloc_below _ (.cells #[.int .i64 0, .int .i64 0, .slice none 0 0, .slice none 0 0] 24))) (by omega) _)) ?_)
          (try simp only [Act.put, List.getElem_toArray, List.getElem_cons_zero, List.getElem_cons_succ, List.setIfInBounds_toArray, List.set_cons_zero, List.set_cons_succ])
          refine wpAnyX_one (i := 14) rfl (by kernel_rfl) (fun K hK => ?_)
          refine wp_store_row 27 _ _ rfl (w0.heap.size) (#[.slice L l lc, .int .i64 rc]) rfl rfl 27 (#[.slice none 0 0, .int .i64 0]) ((hT.1).rowOther (by omega) _) (by kernel_rfl) (by rfl) (by simp [Value.oneCell']) (hK.out _ _ (fun _ _ => HSS.out _ (below_setRow (below_setRow (bt (bt (bt hbf (alloc_below w0.drew (.cells #[.slice none 0 0, .int .i64 0] 27))) (alloc_below _ (.cells #[.int .i64 0, .int .i64 0, .int .i64 0] 29))) (alloc_below _ (.cells #[.int .i64 0, .int .i64 0, .slice none 0 0, .slice none 0 0] 24))) (by omega) _) (by omega) _)) ?_)
          (try simp only [Act.put, List.getElem_toArray, List.getElem_cons_zero, List.getElem_cons_succ, List.setIfInBounds_toArray, List.set_cons_zero, List.set_cons_succ])
          refine wpAnyX_one (i := 15) rfl (by kernel_rfl) (fun K hK => ?_)
          refine wp_store_row 29 _ _ rfl (w0.heap.size + 1) (#[.int .i64 f1, .int .i64 f2, .int .i64 f3]) rfl rfl 29 (#[.int .i64 0, .int .i64 0, .int .i64 0]) (((hT.2.1).rowOther (by omega) _).rowOther (by omega) _) (by kernel_rfl) (by rfl) (by simp [Value.oneCell']) (hK.out _ _ (fun _ _ => HSS.out _ (below_setRow (below_setRow (below_setRow (bt (bt (bt hbf (alloc_below w0.drew (.cells #[.slice none 0 0, .int .i64 0] 27))) (alloc_below _ (.cells #[.int .i64 0, .int .i64 0, .int .i64 0] 29))) (alloc_below _ (.cells #[.int .i64 0, .int .i64 0, .slice none 0 0, .slice none 0 0] 24))) (by omega) _) (by omega) _) (by omega) _)) ?_)
          (try simp only [Act.put, List.getElem_toArray, List.getElem_cons_zero, List.getElem_cons_succ, List.setIfInBounds_toArray, List.set_cons_zero, List.set_cons_succ])
          refine wpAnyX_pure (i := 16) (v := ?_) rfl (by kernel_rfl) (by kernel_rfl) (by kernel_rfl) (fun _ _ _ h => h) (Or.inl ⟨by rfl, ?_⟩) ?_
          rotate_left
          · (intro W _; go_simp; try with_reducible rfl)
          (try simp only [Act.put, List.getElem_toArray, List.getElem_cons_zero, List.getElem_cons_succ, List.setIfInBounds_toArray, List.set_cons_zero, List.set_cons_succ])
          refine wpAnyX_pure (i := 17) (v := ?_) rfl (by kernel_rfl) (by kernel_rfl) (by kernel_rfl) (fun _ _ _ h => h) (Or.inl ⟨by rfl, ?_⟩) ?_
          rotate_left
          · (intro W _; go_simp; try with_reducible rfl)
          (try simp only [Act.put, List.getElem_toArray, List.getElem_cons_zero, List.getElem_cons_succ, List.setIfInBounds_toArray, List.set_cons_zero, List.set_cons_succ])
          refine wpAnyX_done (by kernel_rfl) ?_ _
          go_wp2_with fail
          go_meet
          exact ⟨⟨w0.heap.size + 1 + 1, w0.heap.size, w0.heap.size + 1, rfl, rfl, rfl, (((hT.2.2).row _).rowOther (by omega) _).rowOther (by omega) _, (((hT.1).rowOther (by omega) _).row _).rowOther (by omega) _, (((hT.2.1).rowOther (by omega) _).rowOther (by omega) _).row _, (below_setRow (below_setRow (below_setRow (bt (bt (bt hbf (alloc_below w0.drew (.cells #[.slice none 0 0, .int .i64 0] 27))) (alloc_below _ (.cells #[.int .i64 0, .int .i64 0, .int .i64 0] 29))) (alloc_below _ (.cells #[.int .i64 0, .int .i64 0, .slice none 0 0, .slice none 0 0] 24))) (by omega) _) (by omega) _) (by omega) _)⟩, rfl, rfl⟩
      · go_simp
        refine hK.out _ _ (fun _ _ => HSS.out _ (bt hbf (alloc_below _ _))) ?_
        (try simp only [Act.put, List.getElem_toArray, List.getElem_cons_zero, List.getElem_cons_succ, List.setIfInBounds_toArray, List.set_cons_zero, List.set_cons_succ])
        refine wpAnyX_two (i := 10) (j := 11) rfl rfl (by kernel_rfl) (fun K hK => ?_) (fun K hK => ?_)
        · go_simp
          refine hK.out _ _ (fun _ _ => HSS.out _ (bt (bt hbf (alloc_below _ _)) (alloc_below _ _))) ?_
          (try simp only [Act.put, List.getElem_toArray, List.getElem_cons_zero, List.getElem_cons_succ, List.setIfInBounds_toArray, List.set_cons_zero, List.set_cons_succ])
          refine wpAnyX_one (i := 11) rfl (by kernel_rfl) (fun K hK => ?_)
          go_simp
          refine hK.out _ _ (fun _ _ => HSS.out _ (bt (bt (bt hbf (alloc_below _ _)) (alloc_below _ _)) (alloc_below _ _))) ?_
          (try simp only [Act.put, List.getElem_toArray, List.getElem_cons_zero, List.getElem_cons_succ, List.setIfInBounds_toArray, List.set_cons_zero, List.set_cons_succ])
          have hT := blk_abc w0.drew #[.int .i64 0, .int .i64 0, .int .i64 0] #[.int .i64 0, .int .i64 0, .slice none 0 0, .slice none 0 0] #[.slice none 0 0, .int .i64 0] 29 24 27
          refine wpAnyX_one (i := 13) rfl (by kernel_rfl) (fun K hK => ?_)
          refine wp_store_row 24 _ _ rfl (w0.heap.size + 1) (#[.int .i64 i1, .int .i64 st1, .slice A n c, .slice B m d]) rfl rfl 24 (#[.int .i64 0, .int .i64 0, .slice none 0 0, .slice none 0 0]) (hT.2.1) (by kernel_rfl) (by rfl) (by simp [Value.oneCell']) (hK.out _ _ (fun _ _ => HSS.out _ (below_setRow (bt (bt (bt hbf (alloc_below w0.drew (.cells #[.int .i64 0, .int .i64 0, .int .i64 0] 29))) (alloc_below _ (.cells #[.int .i64 0, .int .i64 0, .slice none 0 0, .slice none 0 0] 24))) (alloc_below _ (.cells #[.slice none 0 0, .int .i64 0] 27))) (by omega) _)) ?_)
          (try simp only [Act.put, List.getElem_toArray, List.getElem_cons_zero, List.getElem_cons_succ, List.setIfInBounds_toArray, List.set_cons_zero, List.set_cons_succ])
          refine wpAnyX_one (i := 14) rfl (by kernel_rfl) (fun K hK => ?_)
          refine wp_store_row 27 _ _ rfl (w0.heap.size + 1 + 1) (#[.slice L l lc, .int .i64 rc]) rfl rfl 27 (#[.slice none 0 0, .int .i64 0]) ((hT.2.2).rowOther (by omega) _) (by kernel_rfl) (by rfl) (by simp [Value.oneCell']) (hK.out _ _ (fun _ _ => HSS.out _ (below_setRow (below_setRow (bt (bt (bt hbf (alloc_below w0.drew (.cells #[.int .i64 0, .int .i64 0, .int .i64 0] 29))) (alloc_below _ (.cells #[.int .i64 0, .int .i64 0, .slice none 0 0, .slice none 0 0] 24))) (alloc_below _ (.cells #[.slice none 0 0, .int .i64 0] 27))) (by omega) _) (by omega) _)) ?_)
          (try simp only [Act.put, List.getElem_toArray, List.getElem_cons_zero, List.getElem_cons_succ, List.setIfInBounds_toArray, List.set_cons_zero, List.set_cons_succ])
          refine wpAnyX_one (i := 15) rfl (by kernel_rfl) (fun K hK => ?_)
          refine wp_store_row 29 _ _ rfl (w0.heap.size) (#[.int .i64 f1, .int .i64 f2, .int .i64 f3]) rfl rfl 29 (#[.int .i64 0, .int .i64 0, .int .i64 0]) (((hT.1).rowOther (by omega) _).rowOther (by omega) _) (by kernel_rfl) (by rfl) (by simp [Value.oneCell']) (hK.out _ _ (fun _ _ => HSS.out _ (below_setRow (below_setRow (below_setRow (bt (bt (bt hbf (alloc_below w0.drew (.cells #[.int .i64 0, .int .i64 0, .int .i64 0] 29))) (alloc_below _ (.cells #[.int .i64 0, .int .i64 0, .slice none 0 0, .slice none 0 0] 24))) (alloc_below _ (.cells #[.slice none 0 0, .int .i64 0] 27))) (by omega) _) (by omega) _) (by omega) _)) ?_)
          (try simp only [Act.put, List.getElem_toArray, List.getElem_cons_zero, List.getElem_cons_succ, List.setIfInBounds_toArray, List.set_cons_zero, List.set_cons_succ])
          refine wpAnyX_pure (i := 16) (v := ?_) rfl (by kernel_rfl) (by kernel_rfl) (by kernel_rfl) (fun _ _ _ h => h) (Or.inl ⟨by rfl, ?_⟩) ?_
          rotate_left
          · (intro W _; go_simp; try with_reducible rfl)
          (try simp only [Act.put, List.getElem_toArray, List.getElem_cons_zero, List.getElem_cons_succ, List.setIfInBounds_toArray, List.set_cons_zero, List.set_cons_succ])
          refine wpAnyX_pure (i := 17) (v := ?_) rfl (by kernel_rfl) (by kernel_rfl) (by kernel_rfl) (fun _ _ _ h => h) (Or.inl ⟨by rfl, ?_⟩) ?_
          rotate_left
          · (intro W _; go_simp; try with_reducible rfl)
          (try simp only [Act.put, List.getElem_toArray, List.getElem_cons_zero, List.getElem_cons_succ, List.setIfInBounds_toArray, List.set_cons_zero, List.set_cons_succ])
          refine wpAnyX_done (by kernel_rfl) ?_ _
          go_wp2_with fail
          go_meet
          exact ⟨⟨w0.heap.size + 1, w0.heap.size + 1 + 1, w0.heap.size, rfl, rfl, rfl, (((hT.2.1).row _).rowOther (by omega) _).rowOther (by omega) _, (((hT.2.2).rowOther (by omega) _).row _).rowOther (by omega) _, (((hT.1).rowOther (by omega) _).rowOther (by omega) _).row _, (below_setRow (below_setRow (below_setRow (bt (bt (bt hbf (alloc_below w0.drew (.cells #[.int .i64 0, .int .i64 0, .int .i64 0] 29))) (alloc_below _ (.cells #[.int .i64 0, .int .i64 0, .slice none 0 0, .slice none 0 0] 24))) (alloc_below _ (.cells #[.slice none 0 0, .int .i64 0] 27))) (by omega) _) (by omega) _) (by omega) _)⟩, rfl, rfl⟩
        · go_simp
          refine hK.out _ _ (fun _ _ => HSS.out _ (bt (bt hbf (alloc_below _ _)) (alloc_below _ _))) ?_
          (try simp only [Act.put, List.getElem_toArray, List.getElem_cons_zero, List.getElem_cons_succ, List.setIfInBounds_toArray, List.set_cons_zero, List.set_cons_succ])
          refine wpAnyX_one (i := 10) rfl (by kernel_rfl) (fun K hK => ?_)
          go_simp
          refine hK.out _ _ (fun _ _ => HSS.out _ (bt (bt (bt hbf (alloc_below _ _)) (alloc_below _ _)) (alloc_below _ _))) ?_
          (try simp only [Act.put, List.getElem_toArray, List.getElem_cons_zero, List.getElem_cons_succ, List.setIfInBounds_toArray, List.set_cons_zero, List.set_cons_succ])
          have hT := blk_abc w0.drew #[.int .i64 0, .int .i64 0, .int .i64 0] #[.slice none 0 0, .int .i64 0] #[.int .i64 0, .int .i64 0, .slice none 0 0, .slice none 0 0] 29 27 24
          refine wpAnyX_one (i := 13) rfl (by kernel_rfl) (fun K hK => ?_)
          refine wp_store_row 24 _ _ rfl (w0.heap.size + 1 + 1) (#[.int .i64 i1, .int .i64 st1, .slice A n c, .slice B m d]) rfl rfl 24 (#[.int .i64 0, .int .i64 0, .slice none 0 0, .slice none 0 0]) (hT.2.2) (by kernel_rfl) (by rfl) (by simp [Value.oneCell']) (hK.out _ _ (fun _ _ => HSS.out _ (below_setRow (bt (bt (bt hbf (alloc_below w0.drew (.cells #[.int .i64 0, .int .i64 0, .int .i64 0] 29))) (alloc_below _ (.cells #[.slice none 0 0, .int .i64 0] 27))) (alloc_below _ (.cells #[.int .i64 0, .int .i64 0, .slice none 0 0, .slice none 0 0] 24))) (by omega) _)) ?_)
          (try simp only [Act.put, List.getElem_toArray, List.getElem_cons_zero, List.getElem_cons_succ, List.setIfInBounds_toArray, List.set_cons_zero, List.set_cons_succ])
          refine wpAnyX_one (i := 14) rfl (by kernel_rfl) (fun K hK => ?_)
          refine wp_store_row 27 _ _ rfl (w0.heap.size + 1) (#[.slice L l lc, .int .i64 rc]) rfl rfl 27 (#[.slice none 0 0, .int .i64 0]) ((hT.2.1).rowOther (by omega) _) (by kernel_rfl) (by rfl) (by simp [Value.oneCell']) (hK.out _ _ (fun _ _ => HSS.out _ (below_setRow (below_setRow (bt (bt (bt hbf (alloc_below w0.drew (.cells #[.int .i64 0, .int .i64 0, .int .i64 0] 29))) (alloc_below _ (.cells #[.slice none 0 0, .int .i64 0] 27))) (alloc_below _ (.cells #[.int .i64 0, .int .i64 0, .slice none 0 0, .slice none 0 0] 24))) (by omega) _) (by omega) _)) ?_)
          (try simp only [Act.put, List.getElem_toArray, List.getElem_cons_zero, List.getElem_cons_succ, List.setIfInBounds_toArray, List.set_cons_zero, List.set_cons_succ])
          refine wpAnyX_one (i := 15) rfl (by kernel_rfl) (fun K hK => ?_)
          refine wp_store_row 29 _ _ rfl (w0.heap.size) (#[.int .i64 f1, .int .i64 f2, .int .i64 f3]) rfl rfl 29 (#[.int .i64 0, .int .i64 0, .int .i64 0]) (((hT.1).rowOther (by omega) _).rowOther (by omega) _) (by kernel_rfl) (by rfl) (by simp [Value.oneCell']) (hK.out _ _ (fun _ _ => HSS.out _ (below_setRow (below_setRow (below_setRow (bt (bt (bt hbf (alloc_below w0.drew (.cells #[.int .i64 0, .int .i64 0, .int .i64 0] 29))) (alloc_below _ (.cells #[.slice none 0 0, .int .i64 0] 27))) (alloc_below _ (.cells #[.int .i64 0, .int .i64 0, .slice none 0 0, .slice none 0 0] 24))) (by omega) _) (by omega) _) (by omega) _)) ?_)
          (try simp only [Act.put, List.getElem_toArray, List.getElem_cons_zero, List.getElem_cons_succ, List.setIfInBounds_toArray, List.set_cons_zero, List.set_cons_succ])
          refine wpAnyX_pure (i := 16) (v := ?_) rfl (by kernel_rfl) (by kernel_rfl) (by kernel_rfl) (fun _ _ _ h => h) (Or.inl ⟨by rfl, ?_⟩) ?_
          rotate_left
          · (intro W _; go_simp; try with_reducible rfl)
          (try simp only [Act.put, List.getElem_toArray, List.getElem_cons_zero, List.getElem_cons_succ, List.setIfInBounds_toArray, List.set_cons_zero, List.set_cons_succ])
          refine wpAnyX_pure (i := 17) (v := ?_) rfl (by kernel_rfl) (by kernel_rfl) (by kernel_rfl) (fun _ _ _ h => h) (Or.inl ⟨by rfl, ?_⟩) ?_
          rotate_left
          · (intro W _; go_simp; try with_reducible rfl)
          (try simp only [Act.put, List.getElem_toArray, List.getElem_cons_zero, List.getElem_cons_succ, List.setIfInBounds_toArray, List.set_cons_zero, List.set_cons_succ])
          refine wpAnyX_done (by kernel_rfl) ?_ _
          go_wp2_with fail
          go_meet
          exact ⟨⟨w0.heap.size + 1 + 1, w0.heap.size + 1, w0.heap.size, rfl, rfl, rfl, (((hT.2.2).row _).rowOther (by omega) _).rowOther (by omega) _, (((hT.2.1).rowOther (by omega) _).row _).rowOther (by omega) _, (((hT.1).rowOther (by omega) _).rowOther (by omega) _).row _, (below_setRow (below_setRow (below_setRow (bt (bt (bt hbf (alloc_below w0.drew (.cells #[.int .i64 0, .int .i64 0, .int .i64 0] 29))) (alloc_below _ (.cells #[.slice none 0 0, .int .i64 0] 27))) (alloc_below _ (.cells #[.int .i64 0, .int .i64 0, .slice none 0 0, .slice none 0 0] 24))) (by omega) _) (by omega) _) (by omega) _)⟩, rfl, rfl⟩
  case rest =>
    obtain ⟨⟨g3, g4, g5, rfl, rfl, rfl, m3, m4, m5, b1⟩, rfl, rfl⟩ := hcut
    obtain ⟨V1, rfl⟩ : ∃ V1 : World, V1 = wc := ⟨_, rfl⟩
    have hbc := bt hbc b1
    clear b1
    have k0 : V1.cell? ⟨g3, 0, none⟩ = some (.int .i64 i1) := m3.cell 0
    have k1 : V1.cell? ⟨g3, 1, none⟩ = some (.int .i64 st1) := m3.cell 1
    have k2 : V1.cell? ⟨g3, 2, none⟩ = some (.slice A n c) := m3.cell 2
    have k3 : V1.cell? ⟨g3, 3, none⟩ = some (.slice B m d) := m3.cell 3
    have l0 : V1.cell? ⟨g4, 0, none⟩ = some (.slice L l lc) := m4.cell 0
    have l1 : V1.cell? ⟨g4, 1, none⟩ = some (.int .i64 rc) := m4.cell 1
    have p0 : V1.cell? ⟨g5, 0, none⟩ = some (.int .i64 f1) := m5.cell 0
    have p1 : V1.cell? ⟨g5, 1, none⟩ = some (.int .i64 f2) := m5.cell 1
    have p2 : V1.cell? ⟨g5, 2, none⟩ = some (.int .i64 f3) := m5.cell 2
    go_wp2_with fail
    refine (pmade i1 st1 rc f1 f2 f3 A B L n c m d l lc nx ot cs sd _ (HN.out _ hbc) (HO.out _ hbc) (HC.out _ hbc) HSD.out).mono ?_
    rintro e u1 ⟨ok, D0, H0, rfl, hok, dn, a1⟩
    have m3 := m3.on a1
    have m4 := m4.on a1
    have m5 := m5.on a1
    have hbc := bt hbc a1
    obtain ⟨U1, hU1⟩ : ∃ U1, U1 = u1.alloc (.cells (dvC D0 H0) 32) := ⟨_, rfl⟩
    have e1' : Below u1.heap.size u1 U1 := by rw [hU1]; exact alloc_below _ _
    have m8 : Blk U1 u1.heap.size (dvC D0 H0) 32 := by rw [hU1]; exact blk_new _ _ _
    have d0 := dn.dev.below e1'
    have m3 := m3.on e1'
    have m4 := m4.on e1'
    have m5 := m5.on e1'
    have hbc := bt hbc e1'
    have HOK := Lib.hid hok
    have HU1 := Lib.hid hU1
    clear k0 k1 k2 k3 l0 l1 p0 p1 p2
    clear a1 hok dn e1' hU1
    unfold dvA
    rw [dvC_def D0 H0]
    go_upto_region 3 with fail
    rw [← dvC_def, ← HU1.out]
    cases ok with
    | false =>
      have HBC := Lib.hid hbc
      clear hbc m3 m4 m5 m8 d0
      go_wp2_with fail
      refine (awake19 _).mono ?_
      rintro e w9 ⟨rfl, a9⟩
      go_wp2
      go_ret
      exact ⟨rfl, bt HB0.out (bt HBC.out a9)⟩
    | true =>
      obtain ⟨hD0, hE0⟩ := HOK.out rfl
      obtain ⟨i, st, nn, hDO⟩ := DD.err_zero hE0 HSD.out
      have hei : i1 = i := hDO.ei
      have hes : st1 = st := hDO.est
      have HDO : Hid (DOk D0 i st nn) := Lib.hid (by rw [hD0]; exact hDO)
      have HD0 := Lib.hid hD0
      have HMK := Lib.hid (show Mok i st nn nx ot from hDO.m)
      have HEI := Lib.hid hei
      have HES := Lib.hid hes
      clear hD0 hE0 hDO hei hes HOK
      by_cases c1 : 60 < k
      · have d1 : decide ((60 : Int) < (k : Int)) = true := decide_eq_true (by omega)
        have HBC := Lib.hid hbc
        clear c1 hbc m3 m4 m5 m8 d0
        go_wp2_with fail
        refine (awake19 _).mono ?_
        rintro e w9 ⟨rfl, a9⟩
        go_wp2
        go_ret
        exact ⟨rfl, bt HB0.out (bt HBC.out a9)⟩
      · have d1 : decide ((60 : Int) < (k : Int)) = false := decide_eq_false (by omega)
        have hk60 : k ≤ 60 := by omega
        clear c1
        have k0 : U1.cell? ⟨g3, 0, none⟩ = some (.int .i64 i1) := m3.cell 0
        go_upto_region 5 with fail
        go_wp2_with fail
        refine (rcheck X k e i1 xs _ (HX.out _ hbc)).mono ?_
        rintro e u2 ⟨rfl, rfl⟩
        clear k0
        by_cases hc : chk xs i1 = 0
        · have HES0 : Hid (EStart D0 i st nn xs) := Lib.hid ⟨HDO.out, by rw [HD0.out]; rfl, by rw [HD0.out]; rfl, by rw [HD0.out]; rfl, by rw [← HEI.out]; exact hc, by rw [HXL.out]; exact hk60⟩
          obtain ⟨R, hR⟩ : ∃ R, R = D0.query xs := ⟨_, rfl⟩
          have HR := Lib.hid hR.symm
          have HRL : Hid (R.2.1.length ≤ 60) := Lib.hid (by rw [hR]; have := query_len D0 xs; rw [HXL.out] at this; omega)
          have HSD0 := Lib.hid HDO.out.sd
          rw [hc]
          clear hc hR
          go_upto_region 7 with fail
          refine wp_region_list ?_
          refine wpList_load_row rfl 32 _ rfl u1.heap.size rfl 32 (dvC D0 H0) (0, 0) _ (m8) Try.underlying32 rfl (by rw [HSZ.out]; kernel_rfl) ?_
          go_wp2_with fail
          refine (pdquery D0 H0 X k e xs _ d0 (HX.out _ hbc) HSD0.out).mono ?_
          rintro e u3 ⟨H1, A1, c1, rfl, o1, dg, a3⟩
          rw [HR.out] at o1 dg ⊢
          have o1 := Owned.ints o1 (by have := HRL.out; omega)
          have r1 := dg.dev
          have d0 := d0.below a3
          have m3 := m3.on a3
          have m4 := m4.on a3
          have m5 := m5.on a3
          have m8 := m8.on a3
          have hbc := bt hbc a3
          obtain ⟨U3, hU3⟩ : ∃ U3, U3 = u3.alloc (.cells (dvC R.1 H1) 32) := ⟨_, rfl⟩
          have e3 : Below u3.heap.size u3 U3 := by rw [hU3]; exact alloc_below _ _
          have m10 : Blk U3 u3.heap.size (dvC R.1 H1) 32 := by rw [hU3]; exact blk_new _ _ _
          have HU3 := Lib.hid hU3
          have o1 := o1.below e3
          have r1 := r1.below e3
          have d0 := d0.below e3
          have m3 := m3.on e3
          have m4 := m4.on e3
          have m5 := m5.on e3
          have m8 := m8.on e3
          have hbc := bt hbc e3
          clear a3 dg e3 hU3
          unfold dvA
          rw [dvC_def R.1 H1]
          go_upto_region 8 with fail
          rw [← dvC_def, ← HU3.out]
          refine wp_region_list ?_
          refine wpList_load_row rfl 32 _ rfl u1.heap.size rfl 32 (dvC D0 H0) (0, 0) _ (m8) Try.underlying32 rfl (by rw [HSZ.out]; kernel_rfl) ?_
          go_wp2_with fail
          refine (pdquery D0 H0 X k e xs _ d0 (HX.out _ hbc) HSD0.out).mono ?_
          rintro e u4 ⟨H2, A2, c2, rfl, o2, dg, a4⟩
          rw [HR.out] at o2 dg ⊢
          have o2 := Owned.ints o2 (by have := HRL.out; omega)
          have r2 := dg.dev
          have d0 := d0.below a4
          have o1 := o1.below a4
          have r1 := r1.below a4
          have m3 := m3.on a4
          have m4 := m4.on a4
          have m5 := m5.on a4
          have m8 := m8.on a4
          have m10 := m10.on a4
          have hbc := bt hbc a4
          obtain ⟨U4, hU4⟩ : ∃ U4, U4 = u4.alloc (.cells (dvC R.1 H2) 32) := ⟨_, rfl⟩
          have e4 : Below u4.heap.size u4 U4 := by rw [hU4]; exact alloc_below _ _
          have m13 : Blk U4 u4.heap.size (dvC R.1 H2) 32 := by rw [hU4]; exact blk_new _ _ _
          have HU4 := Lib.hid hU4
          have o1 := o1.below e4
          have o2 := o2.below e4
          have r1 := r1.below e4
          have r2 := r2.below e4
          have d0 := d0.below e4
          have m3 := m3.on e4
          have m4 := m4.on e4
          have m5 := m5.on e4
          have m8 := m8.on e4
          have m10 := m10.on e4
          have hbc := bt hbc e4
          clear a4 dg e4 hU4
          unfold dvA
          rw [dvC_def R.1 H2]
          go_upto_region 9 with fail
          rw [← dvC_def, ← HU4.out]
          have HO1 := Lib.hid o1
          have HR1 := Lib.hid r1
          have HBC4 := Lib.hid hbc
          have HM3 := Lib.hid m3
          have HM4 := Lib.hid m4
          have HM5 := Lib.hid m5
          have HM8 := Lib.hid m8
          have HM10 := Lib.hid m10
          have HDD0 := Lib.hid d0
          have HALL : Hid (f1 = 10000 → 0 < k → R.2.2 = 14) := Lib.hid (fun h h2 => by rw [← HR.out]; exact HES0.out.all (by rw [HD0.out]; exact h) (by rw [HXL.out]; exact h2))
          go_cut [100] from 72 to 100 (fun v100 wx => v100 = .bool false ∧ Below U4.heap.size U4 wx)
          case first =>
            as_aux_lemma =>
              refine wp_region_list ?_
              refine wpList_load_row rfl 32 _ rfl u3.heap.size rfl 32 (dvC R.1 H1) (0, 0) _ (m10) Try.underlying32 rfl (by rw [HSZ.out]; kernel_rfl) ?_
              go_wp2_with (refine wpList_load_row rfl 32 _ rfl u4.heap.size rfl 32 (dvC R.1 H2) (0, 0) _ (m13) Try.underlying32 rfl (by rw [HSZ.out]; kernel_rfl) ?_)
              have hS := rdsame R.1 H1 H2 U4 r1 r2
              unfold dvA at hS
              refine hS.mono ?_
              rintro e u5 ⟨rfl, a5⟩
              have HSL := Lib.hid (rsame A1 A2 R.2.1.length c1 R.2.1.length c2 R.2.1 R.2.1 true u5 (o1.below a5) (o2.below a5) (by simp))
              have HA5 := Lib.hid a5
              have m5 := m5.on a5
              clear a5 hS o1 o2 r1 r2 d0 m3 m4 m8 m10 m13 hbc
              go_wp2_with fail
              refine HSL.out.mono ?_
              rintro e u6 ⟨rfl, q6, hq6⟩
              have a6 : Below u5.heap.size u5 u6 := by rw [hq6]; exact below_drewN (Below.refl _ _) q6
              have p0 : u6.cell? ⟨g5, 0, none⟩ = some (.int .i64 f1) := (m5.on a6).cell 0
              have HA6 := Lib.hid (bt HA5.out a6)
              clear hq6 a6 HSL m5
              by_cases hf : f1 = 10000
              · by_cases hk0 : 0 < k
                · have t1 : (f1 == (10000 : Int)) = true := by rw [hf]; rfl
                  have t2 : decide (0 < k) = true := decide_eq_true hk0
                  have t3 : (R.2.2 != (14 : Int)) = false := by rw [HALL.out hf hk0]; rfl
                  clear hf hk0
                  go_wp2_with fail
                  go_meet
                  exact ⟨rfl, HA6.out⟩
                · have t1 : (f1 == (10000 : Int)) = true := by rw [hf]; rfl
                  have t2 : decide (0 < k) = false := decide_eq_false hk0
                  clear hf hk0
                  go_wp2_with fail
                  go_meet
                  exact ⟨rfl, HA6.out⟩
              · have t1 : (f1 == (10000 : Int)) = false := by rw [beq_eq_false_iff_ne]; exact hf
                clear hf
                go_wp2_with fail
                go_meet
                exact ⟨rfl, HA6.out⟩
          case rest =>
            obtain ⟨rfl, b5⟩ := hcut
            obtain ⟨V5, rfl⟩ : ∃ V5 : World, V5 = wc := ⟨_, rfl⟩
            clear m3 m4 m5 m8 m10 m13 o1 o2 r1 r2 d0 hbc
            have hbc := bt HBC4.out b5
            have m3 := HM3.out.on b5
            have m4 := HM4.out.on b5
            have m5 := HM5.out.on b5
            have m8 := HM8.out.on b5
            have m10 := HM10.out.on b5
            have o1 := HO1.out.below b5
            have r1 := HR1.out.below b5
            have d0 := HDD0.out.below b5
            clear b5
            have HRE : Hid (D0.resetD = D0.rst ∧ D0.resetE = 0) := Lib.hid HES0.out.reset
            go_upto_region 11 with fail
            refine wp_region_list ?_
            refine wpList_load_row rfl 32 _ rfl u1.heap.size rfl 32 (dvC D0 H0) (0, 0) _ (m8) Try.underlying32 rfl (by rw [HSZ.out]; kernel_rfl) ?_
            go_wp2_with fail
            refine (pdreset D0 H0 _ d0 HSD0.out).mono ?_
            rintro e u6 ⟨Hc, rfl, dg, a6⟩
            rw [HRE.out.1] at dg ⊢
            rw [HRE.out.2]
            have hbc := bt hbc a6
            have m3 := m3.on a6
            have m4 := m4.on a6
            have m5 := m5.on a6
            have m10 := m10.on a6
            have o1 := o1.below a6
            have r1 := r1.below a6
            have hav : AvR u6.heap.size none u6 D0.rst Hc := AvR.new dg.dev (Nat.le_refl _)
            obtain ⟨W, hW⟩ : ∃ W, W = u6.alloc (.cells (dvC D0.rst Hc) 32) := ⟨_, rfl⟩
            have e6 : Below u6.heap.size u6 W := by rw [hW]; exact alloc_below _ _
            have m16 : Blk W u6.heap.size (dvC D0.rst Hc) 32 := by rw [hW]; exact blk_new _ _ _
            have hzW : u6.heap.size + 1 ≤ W.heap.size := m16.lt
            have HAV := Lib.hid (hav.on e6)
            have HM16 := Lib.hid m16
            have HE6 := Lib.hid e6
            have HBU := Lib.hid hbc
            have HM3 := Lib.hid m3
            have HM4 := Lib.hid m4
            have HM5 := Lib.hid m5
            have HM10 := Lib.hid m10
            have HO1 := Lib.hid o1
            have HR1 := Lib.hid r1
            have HWW := Lib.hid hW
            clear hbc m3 m4 m5 m8 m10 o1 r1 d0 hav dg a6 e6 m16 hW
            unfold dvA
            rw [dvC_def D0.rst Hc]
            go_upto_region 12 with fail
            rw [← dvC_def, ← HWW.out]
            have k5 : W.cell? ⟨u6.heap.size, 5, none⟩ = some (.bool true) := HM16.out.cell 5
            have k1 : W.cell? ⟨g3, 1, none⟩ = some (.int .i64 st1) := (HM3.out.on HE6.out).cell 1
            have l1 : W.cell? ⟨g4, 1, none⟩ = some (.int .i64 rc) := (HM4.out.on HE6.out).cell 1
            go_wp2_with fail
            go_quiet (fail)
            have HEJ : Hid (EJ D0 i st nn xs R 0 D0.rst []) := Lib.hid (by rw [← HR.out]; exact HES0.out.start)
            have hs0 : D0.rst.s = st1 := by rw [HD0.out]; rfl
            have ht0 : D0.rst.tm = rc := by rw [HD0.out]; show (0 : Int) + rc = rc; omega
            have HS0 := Lib.hid hs0
            have HT0 := Lib.hid ht0
            clear k5 k1 l1 hs0 ht0
            go_wp2
            go_loopw [18, 19, 20, 21] (fun v18 v19 v20 v21 wr => ∃ (q : Nat) (Dq : DD) (Hq : DH) (acc : List Int) (A' : Option Addr) (c' : Nat), q ≤ k ∧ v21 = .int .i64 q ∧ v18 = .int .i64 Dq.s ∧ v19 = .int .i64 Dq.tm ∧ v20 = .slice A' acc.length c' ∧ Owned wr (u6.heap.size + 1) (.slice A' acc.length c') acc ∧ Blk wr u6.heap.size (dvC Dq Hq) 32 ∧ AvR u6.heap.size (Value.slice A' acc.length c').ownBlock wr Dq Hq ∧ EJ D0 i st nn xs R q Dq acc ∧ Below u6.heap.size u6 wr ∧ u6.heap.size + 1 ≤ wr.heap.size) (fun _ _ _ v21 _ => k - (intOf v21).toNat)
            case atStart => exact ⟨0, D0.rst, Hc, [], none, 0, Nat.zero_le _, rfl, by rw [HS0.out], by rw [HT0.out], rfl, Owned.nil _ _, HM16.out, (show AvR u6.heap.size none _ _ _ from HAV.out.on (below_drewN (Below.refl _ _) _)), HEJ.out, below_drewN HE6.out _, hzW⟩
            case round =>
              obtain ⟨q, Dq, Hq, acc, A', c', hq, rfl, rfl, rfl, rfl, hown, n16, hav, hej, hbq, hzq⟩ := hrel
              obtain ⟨V0, rfl⟩ : ∃ V0 : World, V0 = wr := ⟨_, rfl⟩
              have HOW := Lib.hid hown
              have N16 := Lib.hid n16
              have HAQ := Lib.hid hav
              have HEQ := Lib.hid hej
              have HBQ := Lib.hid hbq
              have hacc : acc.length = q := hej.len
              have HACC := Lib.hid hacc
              clear hown hav hacc
              by_cases hlt : q < k
              · have hqx : q < xs.length := by rw [HXL.out]; exact hlt
                cases hrd : Dq.rdy with
                | false =>
                  as_aux_lemma =>
                    have hRf := hej.flt hqx hrd
                    have hcr := hej.crash hrd
                    have k5 : V0.cell? ⟨u6.heap.size, 5, none⟩ = some (.bool false) := (n16.cell 5).trans (by rw [← hrd]; rfl)
                    have HR1' : Hid (R.1 = Dq ∧ R.2.1 = [] ∧ R.2.2 = 14) := Lib.hid (by rw [hRf]; exact ⟨rfl, rfl, rfl⟩)
                    have hf3 : D0.f3 = f3 := by rw [HD0.out]; rfl
                    have t1 : (R.2.2 == (14 : Int)) = true := by rw [HR1'.out.2.2]; rfl
                    have t2 : ((R.2.1.length : Int) == 0) = true := by rw [HR1'.out.2.1]; rfl
                    have t3 : decide ((0 : Int) < f3) = true := decide_eq_true (by omega)
                    have m10 := HM10.out.on hbq
                    have m5 := HM5.out.on hbq
                    have r1 := HR1.out.below hbq
                    rw [HR1'.out.1] at m10 r1
                    have HBX := Lib.hid (bt HBU.out hbq)
                    clear k5
                    obtain ⟨a0, a1, a2, a3, a4, a5, a6, a7', a8, a9, a10, a11, a12, a13, a14⟩ := m10.dev
                    obtain ⟨b0, b1, b2, b3, b4, b5, b6, b7, b8, b9, b10, b11, b12, b13, b14⟩ := n16.dev
                    have hS := rdsame Dq H1 Hq V0 r1 HAQ.out.dev
                    unfold dvA dvC at hS
                    rw [hrd] at hS a5 b5
                    have HS := Lib.hid hS
                    clear hS hrd hRf hcr hf3 hej hqx hbq
                    go_wp2_with fail
                    refine HS.out.mono ?_
                    rintro e u7 ⟨rfl, a7⟩
                    have p0 : u7.cell? ⟨g5, 0, none⟩ = some (.int .i64 f1) := (m5.on a7).cell 0
                    have p1 : u7.cell? ⟨g5, 1, none⟩ = some (.int .i64 f2) := (m5.on a7).cell 1
                    have p2 : u7.cell? ⟨g5, 2, none⟩ = some (.int .i64 f3) := (m5.on a7).cell 2
                    have HBC := Lib.hid (bt HBX.out a7)
                    clear HS m5 m10 r1 n16 a7 a0 a1 a2 a3 a4 a5 a6 a7' a8 a9 a10 a11 a12 a13 a14 b0 b1 b2 b3 b4 b5 b6 b7 b8 b9 b10 b11 b12 b13 b14
                    go_wp2_with fail
                    refine (awake19 _).mono ?_
                    rintro e w9 ⟨rfl, a9⟩
                    go_wp2
                    go_ret
                    exact ⟨rfl, bt HB0.out (bt HBC.out a9)⟩
                | true =>
                  have k5 : V0.cell? ⟨u6.heap.size, 5, none⟩ = some (.bool true) := (n16.cell 5).trans (by rw [← hrd]; rfl)
                  obtain ⟨bx, ox, hXe, hbx, hcx⟩ := (HX.out _ HBU.out).at_ hlt
                  have hcx' := (hbq.cell (p := ⟨bx, ox + q, none⟩) hbx).trans hcx
                  have HXE := Lib.hid hXe
                  subst hXe
                  have hsy := HES0.out.sym hqx
                  obtain ⟨e1, e2, e3⟩ := hej.step HES0.out hqx hrd
                  have HLO := Lib.hid (fun h => hej.lost HES0.out hqx hrd h)
                  have HWR := Lib.hid (fun (h : ¬ Dq.stepO (xs.getD q 0) = -1) (o : Int) (ho : o = oN Dq.ot Dq.s.toNat (xs.getD q 0).toNat) (hn : ¬ Dq.stepO (xs.getD q 0) = o) => hej.wrong HES0.out hqx hrd h ho hn)
                  have HNX := Lib.hid (fun h => hej.next HES0.out hqx hrd h)
                  obtain ⟨sN, hsN⟩ : ∃ sN : Nat, Dq.s = sN := ⟨Dq.s.toNat, by have := hej.ok.s0; omega⟩
                  have hs1 := hej.ok.s1
                  have hD2s : (Dq.stepD (xs.getD q 0)).s = (nN nx sN (xs.getD q 0).toNat : Nat) ∧ (Dq.stepD (xs.getD q 0)).tm = Dq.tm + cs.getD (xs.getD q 0).toNat 0 ∧ (Dq.stepD (xs.getD q 0)).sp = (q : Int) + 1 := by
                    rw [e1]
                    refine ⟨?_, ?_, ?_⟩
                    · show ((nN Dq.nx Dq.s.toNat _ : Nat) : Int) = _
                      rw [hej.nx, hsN, Int.toNat_natCast, HD0.out]; rfl
                    · show Dq.tm + Dq.cs.getD _ 0 = _
                      rw [hej.cs, HD0.out]; rfl
                    · show Dq.sp + 1 = _
                      rw [hej.sp]
                  have hon : oN ot sN (xs.getD q 0).toNat = oN Dq.ot Dq.s.toNat (xs.getD q 0).toNat := by rw [hej.ot, hsN, Int.toNat_natCast, HD0.out]; rfl
                  have hcl : cs.length = i := by have := HDO.out.cl; rw [HD0.out] at this; exact this
                  have hcor := HDO.out.cost (a := (xs.getD q 0).toNat) (by omega)
                  rw [show D0.cs = cs by rw [HD0.out]; rfl] at hcor
                  have htmr := hej.tm
                  have htt := HEQ.out.ok.cnt
                  have HT : Hid (∀ (W : World) (Y : DH), DevR W Dq Y → DevR W (Dq.stepD (xs.getD q 0)) Y) := Lib.hid (fun W Y h => h.stepD _)
                  have hdsd := hej.ok.sd
                  have hCP : ∀ (W : World), Below V0.heap.size V0 W → Calls Try.prog 19 #[.agg (dvC Dq Hq), .int .i64 (xs.getD q 0)] W fun e w' => ∃ Hb, e = .returned (.tuple #[.agg (dvC (Dq.stepD (xs.getD q 0)) Hb), .int .i64 (Dq.stepO (xs.getD q 0)), .int .i64 0]) ∧ DevG W w' Hq (Dq.stepD (xs.getD q 0)) Hb ∧ Below W.heap.size W w' := fun W hW => by
                    have h := pdstep Dq Hq (xs.getD q 0) W (HAQ.out.on hW).dev hdsd
                    rw [e2] at h
                    exact h
                  obtain ⟨a, ha⟩ : ∃ a : Nat, xs.getD q 0 = a := ⟨(xs.getD q 0).toNat, by omega⟩
                  rw [ha] at hcx hcx' hsy HLO HWR HNX hD2s hon hcor HT hCP e3
                  rw [Int.toNat_natCast] at hD2s hon hcor
                  have hai : a < i := by omega
                  have HST := Lib.hid (fun (W : World) (h : Below V0.heap.size V0 W) => (show Blk W u6.heap.size (dvC Dq Hq) 32 ∧ W.cell? ⟨bx, ox + q, none⟩ = some (.int .i64 (a : Int)) from ⟨N16.out.on h, (h.cell (p := ⟨bx, ox + q, none⟩) (Nat.lt_of_lt_of_le hbx hbq.size)).trans hcx'⟩))
                  have HCON := Lib.hid hCP
                  have hbx2 : bx < V0.heap.size := Nat.lt_of_lt_of_le hbx hbq.size
                  generalize hD2 : Dq.stepD (a : Int) = D2 at HNX hD2s HT HCON HLO
                  generalize hO2 : Dq.stepO (a : Int) = O2 at HNX HCON HLO HWR
                  have HDS := Lib.hid hD2s
                  have HON := Lib.hid hon
                  have HCX := Lib.hid hcx
                  have HTM := Lib.hid (And.intro htmr hcor)
                  have HS1 := Lib.hid (And.intro hsN hs1)
                  have HCL := Lib.hid hcl
                  have hbxu := hbx
                  clear hcx hcx' hsy e1 e2 e3 hsN hs1 hD2s hon hcl hcor htmr htt hdsd hCP ha hD2 hO2 hrd hej n16
                  go_upto_region 21 with fail
                  clear k5
                  go_cut [22, 23, 24] from 146 to 155 (fun v22 v23 v24 wx => CutE u6.heap.size (Value.slice A' acc.length c').ownBlock V0 D2 O2 0 v22 v23 v24 wx)
                  case first =>
                    as_aux_lemma =>
                      have hbf : Below V0.heap.size V0 V0.drew := below_drewN (Below.refl _ _) 1
                      have hbf00 := hbf
                      refine wp_region_heldX (X := fun k => ([] : List Nat).contains k) (S := fun W => Blk W u6.heap.size (dvC Dq Hq) 32 ∧ W.cell? ⟨bx, ox + q, none⟩ = some (.int .i64 (a : Int))) (by kernel_rfl) ?_
                      refine wpAnyX_takeL (L := []) (i := 0) (v := .agg (dvC Dq Hq)) rfl (by kernel_rfl) (by kernel_rfl) (by kernel_rfl) (by kernel_rfl) (fun _ _ _ h => h) (Or.inl ⟨by rfl, fun W hSW => run_load_blk 32 _ rfl (u6.heap.size) rfl 32 (dvC Dq Hq) (0, 0) _ (hSW.1) Try.underlying32 rfl (by rw [HSZ.out]; kernel_rfl)⟩) (HST.out _ hbf) ?_
                      (try simp only [Act.put, List.getElem_toArray, List.getElem_cons_zero, List.getElem_cons_succ, List.setIfInBounds_toArray, List.set_cons_zero, List.set_cons_succ])
                      refine wpAnyX_pure (i := 1) (v := ?_) rfl (by kernel_rfl) (by kernel_rfl) (by kernel_rfl) (fun _ _ _ h => h) (Or.inl ⟨by rfl, ?_⟩) ?_
                      rotate_left
                      · (intro W _; go_simp; try with_reducible rfl)
                      (try simp only [Act.put, List.getElem_toArray, List.getElem_cons_zero, List.getElem_cons_succ, List.setIfInBounds_toArray, List.set_cons_zero, List.set_cons_succ])
                      refine wpAnyX_pure (i := 2) (v := ?_) rfl (by kernel_rfl) (by kernel_rfl) (by kernel_rfl) (fun _ _ _ h => h) (Or.inl ⟨by rfl, ?_⟩) ?_
                      rotate_left
                      · (intro W _; go_simp; try with_reducible rfl)
                      (try simp only [Act.put, List.getElem_toArray, List.getElem_cons_zero, List.getElem_cons_succ, List.setIfInBounds_toArray, List.set_cons_zero, List.set_cons_succ])
                      refine wpAnyX_pure (i := 3) (v := ?_) rfl (by kernel_rfl) (by kernel_rfl) (by kernel_rfl) (fun _ _ _ h => h) (Or.inl ⟨by rfl, ?_⟩) ?_
                      rotate_left
                      · (intro W _; go_simp; try with_reducible rfl)
                      (try simp only [Act.put, List.getElem_toArray, List.getElem_cons_zero, List.getElem_cons_succ, List.setIfInBounds_toArray, List.set_cons_zero, List.set_cons_succ])
                      refine wpAnyX_takeL (L := []) (i := 4) (v := ?_) rfl (by kernel_rfl) (by kernel_rfl) (by kernel_rfl) (by kernel_rfl) (fun _ _ _ h => h) (Or.inl ⟨by rfl, ?_⟩) ((HST.out _ hbf)) ?_
                      rotate_left
                      · (intro W hSW; (try dsimp only at hSW); obtain ⟨z0, z1⟩ := hSW; go_simp; try with_reducible rfl)
                      (try simp only [Act.put, List.getElem_toArray, List.getElem_cons_zero, List.getElem_cons_succ, List.setIfInBounds_toArray, List.set_cons_zero, List.set_cons_succ])
                      refine wpAnyX_two (i := 5) (j := 10) rfl rfl (by kernel_rfl) (fun K hK => ?_) (fun K hK => ?_)
                      · go_simp
                        go_at_call 19
                        refine (HCON.out _ hbf).mono ?_
                        rintro e u9 ⟨Hb, rfl, dg, b9⟩
                        have hbf0 := hbf
                        have hbf := bt hbf b9
                        refine hK.out _ _ (fun _ _ => HST.out _ hbf) ?_
                        (try simp only [Act.put, List.getElem_toArray, List.getElem_cons_zero, List.getElem_cons_succ, List.setIfInBounds_toArray, List.set_cons_zero, List.set_cons_succ])
                        refine wpAnyX_pure (i := 6) (v := ?_) rfl (by kernel_rfl) (by kernel_rfl) (by kernel_rfl) (fun _ _ _ h => h) (Or.inl ⟨by rfl, ?_⟩) ?_
                        rotate_left
                        · (intro W _; go_simp; try with_reducible rfl)
                        (try simp only [Act.put, List.getElem_toArray, List.getElem_cons_zero, List.getElem_cons_succ, List.setIfInBounds_toArray, List.set_cons_zero, List.set_cons_succ])
                        refine wpAnyX_pure (i := 7) (v := ?_) rfl (by kernel_rfl) (by kernel_rfl) (by kernel_rfl) (fun _ _ _ h => h) (Or.inl ⟨by rfl, ?_⟩) ?_
                        rotate_left
                        · (intro W _; go_simp; try with_reducible rfl)
                        (try simp only [Act.put, List.getElem_toArray, List.getElem_cons_zero, List.getElem_cons_succ, List.setIfInBounds_toArray, List.set_cons_zero, List.set_cons_succ])
                        refine wpAnyX_pure (i := 8) (v := ?_) rfl (by kernel_rfl) (by kernel_rfl) (by kernel_rfl) (fun _ _ _ h => h) (Or.inl ⟨by rfl, ?_⟩) ?_
                        rotate_left
                        · (intro W _; go_simp; try with_reducible rfl)
                        (try simp only [Act.put, List.getElem_toArray, List.getElem_cons_zero, List.getElem_cons_succ, List.setIfInBounds_toArray, List.set_cons_zero, List.set_cons_succ])
                        refine wpAnyX_pure (i := 9) (v := ?_) rfl (by kernel_rfl) (by kernel_rfl) (by kernel_rfl) (fun _ _ _ h => h) (Or.inl ⟨by rfl, ?_⟩) ?_
                        rotate_left
                        · (intro W _; go_simp; try with_reducible rfl)
                        (try simp only [Act.put, List.getElem_toArray, List.getElem_cons_zero, List.getElem_cons_succ, List.setIfInBounds_toArray, List.set_cons_zero, List.set_cons_succ])
                        refine wpAnyX_one (i := 10) rfl (by kernel_rfl) (fun K hK => ?_)
                        go_simp
                        have hbf0 := hbf
                        have hbf := bt hbf (alloc_below _ (.cells zcD 32))
                        unfold zcD at hbf
                        refine hK.out _ _ (fun _ _ => HST.out _ hbf) ?_
                        (try simp only [Act.put, List.getElem_toArray, List.getElem_cons_zero, List.getElem_cons_succ, List.setIfInBounds_toArray, List.set_cons_zero, List.set_cons_succ])
                        refine wpAnyX_one (i := 11) rfl (by kernel_rfl) (fun K hK => ?_)
                        refine wp_store_row 32 _ _ rfl (u9.heap.size) (dvC D2 Hb) rfl rfl 32 (zcD) (by have h := blk_new u9 zcD 32; unfold zcD at h ⊢; exact h) (by rw [HSZ.out]; kernel_rfl) (by first | rfl | (rw [HSZ.out]; rfl)) (dvC_one _ _) (hK.out _ _ (fun _ _ => (HST.out _ hbf).imp (fun h => h.rowOther (by have := hbf0.size; omega) _) (fun h => (cell_setRow_other _ _ _ _ (show bx ≠ u9.heap.size by have := hbf0.size; omega)).trans h)) ?_)
                        (try simp only [Act.put, List.getElem_toArray, List.getElem_cons_zero, List.getElem_cons_succ, List.setIfInBounds_toArray, List.set_cons_zero, List.set_cons_succ])
                        refine wpAnyX_pure (i := 12) (v := ?_) rfl (by kernel_rfl) (by kernel_rfl) (by kernel_rfl) (fun _ _ _ h => h) (Or.inl ⟨by rfl, ?_⟩) ?_
                        rotate_left
                        · (intro W _; go_simp; try with_reducible rfl)
                        (try simp only [Act.put, List.getElem_toArray, List.getElem_cons_zero, List.getElem_cons_succ, List.setIfInBounds_toArray, List.set_cons_zero, List.set_cons_succ])
                        refine wpAnyX_pure (i := 13) (v := ?_) rfl (by kernel_rfl) (by kernel_rfl) (by kernel_rfl) (fun _ _ _ h => h) (Or.inl ⟨by rfl, ?_⟩) ?_
                        rotate_left
                        · (intro W _; go_simp; try with_reducible rfl)
                        (try simp only [Act.put, List.getElem_toArray, List.getElem_cons_zero, List.getElem_cons_succ, List.setIfInBounds_toArray, List.set_cons_zero, List.set_cons_succ])
                        refine wpAnyX_done (by kernel_rfl) ?_ _
                        go_wp2_with fail
                        go_meet
                        exact ⟨Hb, ⟨u9.heap.size, rfl, by have := hbf0.size; omega, ((by have h := blk_new u9 zcD 32; unfold zcD at h; exact h : Blk _ u9.heap.size _ _)).row _, below_setRow hbf (by have := hbf0.size; omega) _⟩, rfl, rfl, (AvR.next HAQ.out hbf00 b9 (by omega) HOW.out.blt HT.out dg).on (below_setRow (alloc_below _ _) (Nat.le_refl _) _)⟩
                      · go_simp
                        have hbf0 := hbf
                        have hbf := bt hbf (alloc_below _ (.cells zcD 32))
                        unfold zcD at hbf
                        refine hK.out _ _ (fun _ _ => HST.out _ hbf) ?_
                        (try simp only [Act.put, List.getElem_toArray, List.getElem_cons_zero, List.getElem_cons_succ, List.setIfInBounds_toArray, List.set_cons_zero, List.set_cons_succ])
                        refine wpAnyX_one (i := 5) rfl (by kernel_rfl) (fun K hK => ?_)
                        go_simp
                        go_at_call 19
                        refine (HCON.out _ hbf).mono ?_
                        rintro e u9 ⟨Hb, rfl, dg, b9⟩
                        have hbf0 := hbf
                        have hbf := bt hbf b9
                        refine hK.out _ _ (fun _ _ => HST.out _ hbf) ?_
                        (try simp only [Act.put, List.getElem_toArray, List.getElem_cons_zero, List.getElem_cons_succ, List.setIfInBounds_toArray, List.set_cons_zero, List.set_cons_succ])
                        refine wpAnyX_pure (i := 6) (v := ?_) rfl (by kernel_rfl) (by kernel_rfl) (by kernel_rfl) (fun _ _ _ h => h) (Or.inl ⟨by rfl, ?_⟩) ?_
                        rotate_left
                        · (intro W _; go_simp; try with_reducible rfl)
                        (try simp only [Act.put, List.getElem_toArray, List.getElem_cons_zero, List.getElem_cons_succ, List.setIfInBounds_toArray, List.set_cons_zero, List.set_cons_succ])
                        refine wpAnyX_pure (i := 7) (v := ?_) rfl (by kernel_rfl) (by kernel_rfl) (by kernel_rfl) (fun _ _ _ h => h) (Or.inl ⟨by rfl, ?_⟩) ?_
                        rotate_left
                        · (intro W _; go_simp; try with_reducible rfl)
                        (try simp only [Act.put, List.getElem_toArray, List.getElem_cons_zero, List.getElem_cons_succ, List.setIfInBounds_toArray, List.set_cons_zero, List.set_cons_succ])
                        refine wpAnyX_pure (i := 8) (v := ?_) rfl (by kernel_rfl) (by kernel_rfl) (by kernel_rfl) (fun _ _ _ h => h) (Or.inl ⟨by rfl, ?_⟩) ?_
                        rotate_left
                        · (intro W _; go_simp; try with_reducible rfl)
                        (try simp only [Act.put, List.getElem_toArray, List.getElem_cons_zero, List.getElem_cons_succ, List.setIfInBounds_toArray, List.set_cons_zero, List.set_cons_succ])
                        refine wpAnyX_pure (i := 9) (v := ?_) rfl (by kernel_rfl) (by kernel_rfl) (by kernel_rfl) (fun _ _ _ h => h) (Or.inl ⟨by rfl, ?_⟩) ?_
                        rotate_left
                        · (intro W _; go_simp; try with_reducible rfl)
                        (try simp only [Act.put, List.getElem_toArray, List.getElem_cons_zero, List.getElem_cons_succ, List.setIfInBounds_toArray, List.set_cons_zero, List.set_cons_succ])
                        refine wpAnyX_one (i := 11) rfl (by kernel_rfl) (fun K hK => ?_)
                        refine wp_store_row 32 _ _ rfl (V0.heap.size) (dvC D2 Hb) rfl rfl 32 (zcD) (by have h := (blk_new V0.drew zcD 32).on b9; unfold zcD at h ⊢; exact h) (by rw [HSZ.out]; kernel_rfl) (by first | rfl | (rw [HSZ.out]; rfl)) (dvC_one _ _) (hK.out _ _ (fun _ _ => (HST.out _ hbf).imp (fun h => h.rowOther (by omega) _) (fun h => (cell_setRow_other _ _ _ _ (show bx ≠ V0.heap.size by omega)).trans h)) ?_)
                        (try simp only [Act.put, List.getElem_toArray, List.getElem_cons_zero, List.getElem_cons_succ, List.setIfInBounds_toArray, List.set_cons_zero, List.set_cons_succ])
                        refine wpAnyX_pure (i := 12) (v := ?_) rfl (by kernel_rfl) (by kernel_rfl) (by kernel_rfl) (fun _ _ _ h => h) (Or.inl ⟨by rfl, ?_⟩) ?_
                        rotate_left
                        · (intro W _; go_simp; try with_reducible rfl)
                        (try simp only [Act.put, List.getElem_toArray, List.getElem_cons_zero, List.getElem_cons_succ, List.setIfInBounds_toArray, List.set_cons_zero, List.set_cons_succ])
                        refine wpAnyX_pure (i := 13) (v := ?_) rfl (by kernel_rfl) (by kernel_rfl) (by kernel_rfl) (fun _ _ _ h => h) (Or.inl ⟨by rfl, ?_⟩) ?_
                        rotate_left
                        · (intro W _; go_simp; try with_reducible rfl)
                        (try simp only [Act.put, List.getElem_toArray, List.getElem_cons_zero, List.getElem_cons_succ, List.setIfInBounds_toArray, List.set_cons_zero, List.set_cons_succ])
                        refine wpAnyX_done (by kernel_rfl) ?_ _
                        go_wp2_with fail
                        go_meet
                        exact ⟨Hb, ⟨V0.heap.size, rfl, Nat.le_refl _, ((by have h := (blk_new V0.drew zcD 32).on b9; unfold zcD at h; exact h : Blk _ V0.heap.size _ _)).row _, below_setRow hbf (Nat.le_refl _) _⟩, rfl, rfl, AvR.newB HAQ.out hbf0 b9 (by omega) HOW.out.blt HT.out dg (Nat.le_refl _) (by simp)⟩
                  case rest =>
                    obtain ⟨Hb, ⟨g22, rfl, hg22, m22, b22⟩, rfl, rfl, hav22⟩ := hcut
                    obtain ⟨V1, rfl⟩ : ∃ V1 : World, V1 = wc := ⟨_, rfl⟩
                    have HM22 := Lib.hid m22
                    have HAV22 := Lib.hid hav22
                    have HB22 := Lib.hid b22
                    have hbV1 : Below u6.heap.size u6 V1 := bt hbq b22
                    have HBV1 := Lib.hid hbV1
                    obtain ⟨bB, oB, Bj, nj, cj, hBe, hbB, hcB, hIB⟩ := (HO.out w0 (Below.refl _ _)).at_ (k := sN) (by have h1 := (HO.out w0 (Below.refl _ _)).1; have h2 := HMK.out.otl; have h3 := HS1.out.1; have h4 := HS1.out.2; omega)
                    obtain ⟨bA, oA, Aj, nk, ck, hAe, hbA, hcA, hIA⟩ := (HN.out w0 (Below.refl _ _)).at_ (k := sN) (by have h1 := (HN.out w0 (Below.refl _ _)).1; have h2 := HMK.out.nxl; have h3 := HS1.out.1; have h4 := HS1.out.2; omega)
                    have hsn : sN < nn := by have h3 := HS1.out.1; have h4 := HS1.out.2; omega
                    have hrow := HMK.out.row sN hsn
                    have hnj : nj = i := by rw [← hIB.1]; exact hrow.2.1
                    have hnk : nk = i := by rw [← hIA.1]; exact hrow.1
                    obtain ⟨bo, oo, rfl, hbo, hco⟩ := hIB.at_ (k := a) (by omega)
                    obtain ⟨bn, on_, rfl, hbn, hcn⟩ := hIA.at_ (k := a) (by omega)
                    rw [HMK.out.nN_eq hsn hai] at hcn
                    change w0.cell? ⟨bo, oo + a, none⟩ = some (.int .i64 (oN ot sN a)) at hco
                    have hor : 0 ≤ oN ot sN a ∧ oN ot sN a ≤ 1048576 := ⟨(hrow.2.2 a hai).2.2.1, (hrow.2.2 a hai).2.2.2⟩
                    obtain ⟨bL, oL, hLe, hbL, hcL⟩ := (HC.out w0 (Below.refl _ _)).at_ (k := a) (by have h1 := (HC.out w0 (Below.refl _ _)).1; have h2 := HCL.out; omega)
                    have haj : a < nj := by omega
                    have hak : a < nk := by omega
                    have hal : a < l := by have h1 := (HC.out w0 (Below.refl _ _)).1; have h2 := HCL.out; omega
                    have hsm : sN < m := by have h1 := (HO.out w0 (Below.refl _ _)).1; have h2 := HMK.out.otl; omega
                    have hsn2 : sN < n := by have h1 := (HN.out w0 (Below.refl _ _)).1; have h2 := HMK.out.nxl; omega
                    obtain ⟨ov, hov⟩ : ∃ ov, ov = oN ot sN a := ⟨_, rfl⟩
                    obtain ⟨nv, hnv⟩ : ∃ nv, nv = nN nx sN a := ⟨_, rfl⟩
                    obtain ⟨co, hcoE⟩ : ∃ co, co = cs.getD a 0 := ⟨_, rfl⟩
                    rw [← hov] at hco hor
                    rw [← hnv] at hcn
                    rw [← hcoE] at hcL
                    have HOV := Lib.hid hov
                    have HNV := Lib.hid hnv.symm
                    have HCO := Lib.hid hcoE.symm
                    have hTM1 := HTM.out.1
                    have hTM2 := HTM.out.2
                    rw [← hcoE] at hTM2
                    have hBW : ∀ (W : World), Below V1.heap.size V1 W → Below w0.heap.size w0 W := fun W h => bt HBU.out (bt HBV1.out h)
                    have HQ22 := Lib.hid (fun (W : World) (h : Below V1.heap.size V1 W) => (show (fun W : World => W.cell? ⟨g3, 3, none⟩ = some (.slice (some ⟨bB, oB, none⟩) m d) ∧ W.cell? ⟨bB, oB + sN, none⟩ = some (.slice (some ⟨bo, oo, none⟩) nj cj) ∧ W.cell? ⟨bx, ox + q, none⟩ = some (.int .i64 (a : Int)) ∧ W.cell? ⟨bo, oo + a, none⟩ = some (.int .i64 ov)) W from ⟨by rw [← hBe]; exact (HM3.out.on (bt HBV1.out h)).cell 3, ((hBW W h).cell (p := ⟨bB, oB + sN, none⟩) hbB).trans hcB, ((bt HBV1.out h).cell (p := ⟨bx, ox + q, none⟩) hbxu).trans HCX.out, ((hBW W h).cell (p := ⟨bo, oo + a, none⟩) hbo).trans hco⟩))
                    have HQ23 := Lib.hid (fun (W : World) (h : Below V1.heap.size V1 W) => (show (fun W : World => W.cell? ⟨g4, 0, none⟩ = some (.slice (some ⟨bL, oL, none⟩) l lc) ∧ W.cell? ⟨bx, ox + q, none⟩ = some (.int .i64 (a : Int)) ∧ W.cell? ⟨bL, oL + a, none⟩ = some (.int .i64 co)) W from ⟨by rw [← hLe]; exact (HM4.out.on (bt HBV1.out h)).cell 0, ((bt HBV1.out h).cell (p := ⟨bx, ox + q, none⟩) hbxu).trans HCX.out, ((hBW W h).cell (p := ⟨bL, oL + a, none⟩) hbL).trans hcL⟩))
                    have HQ24 := Lib.hid (fun (W : World) (h : Below V1.heap.size V1 W) => (show (fun W : World => W.cell? ⟨g3, 2, none⟩ = some (.slice (some ⟨bA, oA, none⟩) n c) ∧ W.cell? ⟨bA, oA + sN, none⟩ = some (.slice (some ⟨bn, on_, none⟩) nk ck) ∧ W.cell? ⟨bx, ox + q, none⟩ = some (.int .i64 (a : Int)) ∧ W.cell? ⟨bn, on_ + a, none⟩ = some (.int .i64 (nv : Nat))) W from ⟨by rw [← hAe]; exact (HM3.out.on (bt HBV1.out h)).cell 2, ((hBW W h).cell (p := ⟨bA, oA + sN, none⟩) hbA).trans hcA, ((bt HBV1.out h).cell (p := ⟨bx, ox + q, none⟩) hbxu).trans HCX.out, ((hBW W h).cell (p := ⟨bn, on_ + a, none⟩) hbn).trans hcn⟩))
                    clear m22 hav22 b22 hBe hcB hIB hAe hcA hIA hrow hnj hnk hcn hco hLe hcL hov hnv hcoE hBW hbV1 hbB hbA hbo hbn hbL
                    have ww : IntKind.i64.wrap (Dq.tm + co) = Dq.tm + co := by rw [IntKind.wrap_i64]; omega
                    go_upto_region 22 with fail
                    rw [HS1.out.1]
                    have hbf : Below V1.heap.size V1 V1.drew := below_drewN (Below.refl _ _) 1
                    refine wp_region_heldX (X := fun k => ([] : List Nat).contains k) (S := fun W => W.cell? ⟨g3, 3, none⟩ = some (.slice (some ⟨bB, oB, none⟩) m d) ∧ W.cell? ⟨bB, oB + sN, none⟩ = some (.slice (some ⟨bo, oo, none⟩) nj cj) ∧ W.cell? ⟨bx, ox + q, none⟩ = some (.int .i64 (a : Int)) ∧ W.cell? ⟨bo, oo + a, none⟩ = some (.int .i64 ov)) (by kernel_rfl) ?_
                    refine wpAnyX_pure (i := 0) (v := ?_) rfl (by kernel_rfl) (by kernel_rfl) (by kernel_rfl) (fun _ _ _ h => h) (Or.inl ⟨by rfl, ?_⟩) ?_
                    rotate_left
                    · (intro W _; go_simp; try with_reducible rfl)
                    (try simp only [Act.put, List.getElem_toArray, List.getElem_cons_zero, List.getElem_cons_succ, List.setIfInBounds_toArray, List.set_cons_zero, List.set_cons_succ])
                    refine wpAnyX_takeL (L := []) (i := 1) (v := ?_) rfl (by kernel_rfl) (by kernel_rfl) (by kernel_rfl) (by kernel_rfl) (fun _ _ _ h => h) (Or.inl ⟨by rfl, ?_⟩) ((HQ22.out _ hbf)) ?_
                    rotate_left
                    · (intro W hSW; (try dsimp only at hSW); obtain ⟨z0, z1, z2, z3⟩ := hSW; go_simp; try with_reducible rfl)
                    (try simp only [Act.put, List.getElem_toArray, List.getElem_cons_zero, List.getElem_cons_succ, List.setIfInBounds_toArray, List.set_cons_zero, List.set_cons_succ])
                    refine wpAnyX_pure (i := 2) (v := ?_) rfl (by kernel_rfl) (by kernel_rfl) (by kernel_rfl) (fun _ _ _ h => h) (Or.inl ⟨by rfl, ?_⟩) ?_
                    rotate_left
                    · (intro W _; go_simp; try with_reducible rfl)
                    (try simp only [Act.put, List.getElem_toArray, List.getElem_cons_zero, List.getElem_cons_succ, List.setIfInBounds_toArray, List.set_cons_zero, List.set_cons_succ])
                    refine wpAnyX_pure (i := 3) (v := ?_) rfl (by kernel_rfl) (by kernel_rfl) (by kernel_rfl) (fun _ _ _ h => h) (Or.inl ⟨by rfl, ?_⟩) ?_
                    rotate_left
                    · (intro W _; go_simp; try with_reducible rfl)
                    (try simp only [Act.put, List.getElem_toArray, List.getElem_cons_zero, List.getElem_cons_succ, List.setIfInBounds_toArray, List.set_cons_zero, List.set_cons_succ])
                    refine wpAnyX_takeL (L := []) (i := 4) (v := ?_) rfl (by kernel_rfl) (by kernel_rfl) (by kernel_rfl) (by kernel_rfl) (fun _ _ _ h => h) (Or.inl ⟨by rfl, ?_⟩) ((HQ22.out _ hbf)) ?_
                    rotate_left
                    · (intro W hSW; (try dsimp only at hSW); obtain ⟨z0, z1, z2, z3⟩ := hSW; go_simp; try with_reducible rfl)
                    (try simp only [Act.put, List.getElem_toArray, List.getElem_cons_zero, List.getElem_cons_succ, List.setIfInBounds_toArray, List.set_cons_zero, List.set_cons_succ])
                    refine wpAnyX_pure (i := 5) (v := ?_) rfl (by kernel_rfl) (by kernel_rfl) (by kernel_rfl) (fun _ _ _ h => h) (Or.inl ⟨by rfl, ?_⟩) ?_
                    rotate_left
                    · (intro W _; go_simp; try with_reducible rfl)
                    (try simp only [Act.put, List.getElem_toArray, List.getElem_cons_zero, List.getElem_cons_succ, List.setIfInBounds_toArray, List.set_cons_zero, List.set_cons_succ])
                    refine wpAnyX_pure (i := 6) (v := ?_) rfl (by kernel_rfl) (by kernel_rfl) (by kernel_rfl) (fun _ _ _ h => h) (Or.inl ⟨by rfl, ?_⟩) ?_
                    rotate_left
                    · (intro W _; go_simp; try with_reducible rfl)
                    (try simp only [Act.put, List.getElem_toArray, List.getElem_cons_zero, List.getElem_cons_succ, List.setIfInBounds_toArray, List.set_cons_zero, List.set_cons_succ])
                    refine wpAnyX_pure (i := 7) (v := ?_) rfl (by kernel_rfl) (by kernel_rfl) (by kernel_rfl) (fun _ _ _ h => h) (Or.inl ⟨by rfl, ?_⟩) ?_
                    rotate_left
                    · (intro W _; go_simp; try with_reducible rfl)
                    (try simp only [Act.put, List.getElem_toArray, List.getElem_cons_zero, List.getElem_cons_succ, List.setIfInBounds_toArray, List.set_cons_zero, List.set_cons_succ])
                    refine wpAnyX_takeL (L := []) (i := 8) (v := ?_) rfl (by kernel_rfl) (by kernel_rfl) (by kernel_rfl) (by kernel_rfl) (fun _ _ _ h => h) (Or.inl ⟨by rfl, ?_⟩) ((HQ22.out _ hbf)) ?_
                    rotate_left
                    · (intro W hSW; (try dsimp only at hSW); obtain ⟨z0, z1, z2, z3⟩ := hSW; go_simp; try with_reducible rfl)
                    (try simp only [Act.put, List.getElem_toArray, List.getElem_cons_zero, List.getElem_cons_succ, List.setIfInBounds_toArray, List.set_cons_zero, List.set_cons_succ])
                    refine wpAnyX_pure (i := 9) (v := ?_) rfl (by kernel_rfl) (by kernel_rfl) (by kernel_rfl) (fun _ _ _ h => h) (Or.inl ⟨by rfl, ?_⟩) ?_
                    rotate_left
                    · (intro W _; go_simp; try with_reducible rfl)
                    (try simp only [Act.put, List.getElem_toArray, List.getElem_cons_zero, List.getElem_cons_succ, List.setIfInBounds_toArray, List.set_cons_zero, List.set_cons_succ])
                    refine wpAnyX_takeL (L := []) (i := 10) (v := ?_) rfl (by kernel_rfl) (by kernel_rfl) (by kernel_rfl) (by kernel_rfl) (fun _ _ _ h => h) (Or.inl ⟨by rfl, ?_⟩) ((HQ22.out _ hbf)) ?_
                    rotate_left
                    · (intro W hSW; (try dsimp only at hSW); obtain ⟨z0, z1, z2, z3⟩ := hSW; go_simp; try with_reducible rfl)
                    (try simp only [Act.put, List.getElem_toArray, List.getElem_cons_zero, List.getElem_cons_succ, List.setIfInBounds_toArray, List.set_cons_zero, List.set_cons_succ])
                    refine wpAnyX_pure (i := 11) (v := ?_) rfl (by kernel_rfl) (by kernel_rfl) (by kernel_rfl) (fun _ _ _ h => h) (Or.inl ⟨by rfl, ?_⟩) ?_
                    rotate_left
                    · (intro W _; go_simp; try with_reducible rfl)
                    (try simp only [Act.put, List.getElem_toArray, List.getElem_cons_zero, List.getElem_cons_succ, List.setIfInBounds_toArray, List.set_cons_zero, List.set_cons_succ])
                    refine wpAnyX_done (by kernel_rfl) ?_ _
                    go_wp2_with fail
                    have hbf2 : Below V1.heap.size V1 V1.drew.drew := below_drewN (Below.refl _ _) 2
                    refine wp_region_heldX (X := fun k => ([] : List Nat).contains k) (S := fun W => W.cell? ⟨g4, 0, none⟩ = some (.slice (some ⟨bL, oL, none⟩) l lc) ∧ W.cell? ⟨bx, ox + q, none⟩ = some (.int .i64 (a : Int)) ∧ W.cell? ⟨bL, oL + a, none⟩ = some (.int .i64 co)) (by kernel_rfl) ?_
                    refine wpAnyX_pure (i := 0) (v := ?_) rfl (by kernel_rfl) (by kernel_rfl) (by kernel_rfl) (fun _ _ _ h => h) (Or.inl ⟨by rfl, ?_⟩) ?_
                    rotate_left
                    · (intro W _; go_simp; try with_reducible rfl)
                    (try simp only [Act.put, List.getElem_toArray, List.getElem_cons_zero, List.getElem_cons_succ, List.setIfInBounds_toArray, List.set_cons_zero, List.set_cons_succ])
                    refine wpAnyX_pure (i := 1) (v := ?_) rfl (by kernel_rfl) (by kernel_rfl) (by kernel_rfl) (fun _ _ _ h => h) (Or.inl ⟨by rfl, ?_⟩) ?_
                    rotate_left
                    · (intro W _; go_simp; try with_reducible rfl)
                    (try simp only [Act.put, List.getElem_toArray, List.getElem_cons_zero, List.getElem_cons_succ, List.setIfInBounds_toArray, List.set_cons_zero, List.set_cons_succ])
                    refine wpAnyX_takeL (L := []) (i := 2) (v := ?_) rfl (by kernel_rfl) (by kernel_rfl) (by kernel_rfl) (by kernel_rfl) (fun _ _ _ h => h) (Or.inl ⟨by rfl, ?_⟩) ((HQ23.out _ hbf2)) ?_
                    rotate_left
                    · (intro W hSW; (try dsimp only at hSW); obtain ⟨z0, z1, z2⟩ := hSW; go_simp; try with_reducible rfl)
                    (try simp only [Act.put, List.getElem_toArray, List.getElem_cons_zero, List.getElem_cons_succ, List.setIfInBounds_toArray, List.set_cons_zero, List.set_cons_succ])
                    refine wpAnyX_pure (i := 3) (v := ?_) rfl (by kernel_rfl) (by kernel_rfl) (by kernel_rfl) (fun _ _ _ h => h) (Or.inl ⟨by rfl, ?_⟩) ?_
                    rotate_left
                    · (intro W _; go_simp; try with_reducible rfl)
                    (try simp only [Act.put, List.getElem_toArray, List.getElem_cons_zero, List.getElem_cons_succ, List.setIfInBounds_toArray, List.set_cons_zero, List.set_cons_succ])
                    refine wpAnyX_pure (i := 4) (v := ?_) rfl (by kernel_rfl) (by kernel_rfl) (by kernel_rfl) (fun _ _ _ h => h) (Or.inl ⟨by rfl, ?_⟩) ?_
                    rotate_left
                    · (intro W _; go_simp; try with_reducible rfl)
                    (try simp only [Act.put, List.getElem_toArray, List.getElem_cons_zero, List.getElem_cons_succ, List.setIfInBounds_toArray, List.set_cons_zero, List.set_cons_succ])
                    refine wpAnyX_pure (i := 5) (v := ?_) rfl (by kernel_rfl) (by kernel_rfl) (by kernel_rfl) (fun _ _ _ h => h) (Or.inl ⟨by rfl, ?_⟩) ?_
                    rotate_left
                    · (intro W _; go_simp; try with_reducible rfl)
                    (try simp only [Act.put, List.getElem_toArray, List.getElem_cons_zero, List.getElem_cons_succ, List.setIfInBounds_toArray, List.set_cons_zero, List.set_cons_succ])
                    refine wpAnyX_takeL (L := []) (i := 6) (v := ?_) rfl (by kernel_rfl) (by kernel_rfl) (by kernel_rfl) (by kernel_rfl) (fun _ _ _ h => h) (Or.inl ⟨by rfl, ?_⟩) ((HQ23.out _ hbf2)) ?_
                    rotate_left
                    · (intro W hSW; (try dsimp only at hSW); obtain ⟨z0, z1, z2⟩ := hSW; go_simp; try with_reducible rfl)
                    (try simp only [Act.put, List.getElem_toArray, List.getElem_cons_zero, List.getElem_cons_succ, List.setIfInBounds_toArray, List.set_cons_zero, List.set_cons_succ])
                    refine wpAnyX_pure (i := 7) (v := ?_) rfl (by kernel_rfl) (by kernel_rfl) (by kernel_rfl) (fun _ _ _ h => h) (Or.inl ⟨by rfl, ?_⟩) ?_
                    rotate_left
                    · (intro W _; go_simp; try with_reducible rfl)
                    (try simp only [Act.put, List.getElem_toArray, List.getElem_cons_zero, List.getElem_cons_succ, List.setIfInBounds_toArray, List.set_cons_zero, List.set_cons_succ])
                    refine wpAnyX_takeL (L := []) (i := 8) (v := ?_) rfl (by kernel_rfl) (by kernel_rfl) (by kernel_rfl) (by kernel_rfl) (fun _ _ _ h => h) (Or.inl ⟨by rfl, ?_⟩) ((HQ23.out _ hbf2)) ?_
                    rotate_left
                    · (intro W hSW; (try dsimp only at hSW); obtain ⟨z0, z1, z2⟩ := hSW; go_simp; try with_reducible rfl)
                    (try simp only [Act.put, List.getElem_toArray, List.getElem_cons_zero, List.getElem_cons_succ, List.setIfInBounds_toArray, List.set_cons_zero, List.set_cons_succ])
                    refine wpAnyX_pure (i := 9) (v := ?_) rfl (by kernel_rfl) (by kernel_rfl) (by kernel_rfl) (fun _ _ _ h => h) (Or.inl ⟨by rfl, ?_⟩) ?_
                    rotate_left
                    · (intro W _; go_simp; try with_reducible rfl)
                    (try simp only [Act.put, List.getElem_toArray, List.getElem_cons_zero, List.getElem_cons_succ, List.setIfInBounds_toArray, List.set_cons_zero, List.set_cons_succ])
                    refine wpAnyX_pure (i := 10) (v := ?_) rfl (by kernel_rfl) (by kernel_rfl) (by kernel_rfl) (fun _ _ _ h => h) (Or.inl ⟨by rfl, ?_⟩) ?_
                    rotate_left
                    · (intro W _; go_simp; try with_reducible rfl)
                    (try simp only [Act.put, List.getElem_toArray, List.getElem_cons_zero, List.getElem_cons_succ, List.setIfInBounds_toArray, List.set_cons_zero, List.set_cons_succ])
                    refine wpAnyX_done (by kernel_rfl) ?_ _
                    go_wp2_with fail
                    have hbf3 : Below V1.heap.size V1 V1.drew.drew.drew := below_drewN (Below.refl _ _) 3
                    refine wp_region_heldX (X := fun k => ([] : List Nat).contains k) (S := fun W => W.cell? ⟨g3, 2, none⟩ = some (.slice (some ⟨bA, oA, none⟩) n c) ∧ W.cell? ⟨bA, oA + sN, none⟩ = some (.slice (some ⟨bn, on_, none⟩) nk ck) ∧ W.cell? ⟨bx, ox + q, none⟩ = some (.int .i64 (a : Int)) ∧ W.cell? ⟨bn, on_ + a, none⟩ = some (.int .i64 (nv : Nat))) (by kernel_rfl) ?_
                    refine wpAnyX_pure (i := 0) (v := ?_) rfl (by kernel_rfl) (by kernel_rfl) (by kernel_rfl) (fun _ _ _ h => h) (Or.inl ⟨by rfl, ?_⟩) ?_
                    rotate_left
                    · (intro W _; go_simp; try with_reducible rfl)
                    (try simp only [Act.put, List.getElem_toArray, List.getElem_cons_zero, List.getElem_cons_succ, List.setIfInBounds_toArray, List.set_cons_zero, List.set_cons_succ])
                    refine wpAnyX_takeL (L := []) (i := 1) (v := ?_) rfl (by kernel_rfl) (by kernel_rfl) (by kernel_rfl) (by kernel_rfl) (fun _ _ _ h => h) (Or.inl ⟨by rfl, ?_⟩) ((HQ24.out _ hbf3)) ?_
                    rotate_left
                    · (intro W hSW; (try dsimp only at hSW); obtain ⟨z0, z1, z2, z3⟩ := hSW; go_simp; try with_reducible rfl)
                    (try simp only [Act.put, List.getElem_toArray, List.getElem_cons_zero, List.getElem_cons_succ, List.setIfInBounds_toArray, List.set_cons_zero, List.set_cons_succ])
                    refine wpAnyX_pure (i := 2) (v := ?_) rfl (by kernel_rfl) (by kernel_rfl) (by kernel_rfl) (fun _ _ _ h => h) (Or.inl ⟨by rfl, ?_⟩) ?_
                    rotate_left
                    · (intro W _; go_simp; try with_reducible rfl)
                    (try simp only [Act.put, List.getElem_toArray, List.getElem_cons_zero, List.getElem_cons_succ, List.setIfInBounds_toArray, List.set_cons_zero, List.set_cons_succ])
                    refine wpAnyX_pure (i := 3) (v := ?_) rfl (by kernel_rfl) (by kernel_rfl) (by kernel_rfl) (fun _ _ _ h => h) (Or.inl ⟨by rfl, ?_⟩) ?_
                    rotate_left
                    · (intro W _; go_simp; try with_reducible rfl)
                    (try simp only [Act.put, List.getElem_toArray, List.getElem_cons_zero, List.getElem_cons_succ, List.setIfInBounds_toArray, List.set_cons_zero, List.set_cons_succ])
                    refine wpAnyX_takeL (L := []) (i := 4) (v := ?_) rfl (by kernel_rfl) (by kernel_rfl) (by kernel_rfl) (by kernel_rfl) (fun _ _ _ h => h) (Or.inl ⟨by rfl, ?_⟩) ((HQ24.out _ hbf3)) ?_
                    rotate_left
                    · (intro W hSW; (try dsimp only at hSW); obtain ⟨z0, z1, z2, z3⟩ := hSW; go_simp; try with_reducible rfl)
                    (try simp only [Act.put, List.getElem_toArray, List.getElem_cons_zero, List.getElem_cons_succ, List.setIfInBounds_toArray, List.set_cons_zero, List.set_cons_succ])
                    refine wpAnyX_pure (i := 5) (v := ?_) rfl (by kernel_rfl) (by kernel_rfl) (by kernel_rfl) (fun _ _ _ h => h) (Or.inl ⟨by rfl, ?_⟩) ?_
                    rotate_left
                    · (intro W _; go_simp; try with_reducible rfl)
                    (try simp only [Act.put, List.getElem_toArray, List.getElem_cons_zero, List.getElem_cons_succ, List.setIfInBounds_toArray, List.set_cons_zero, List.set_cons_succ])
                    refine wpAnyX_pure (i := 6) (v := ?_) rfl (by kernel_rfl) (by kernel_rfl) (by kernel_rfl) (fun _ _ _ h => h) (Or.inl ⟨by rfl, ?_⟩) ?_
                    rotate_left
                    · (intro W _; go_simp; try with_reducible rfl)
                    (try simp only [Act.put, List.getElem_toArray, List.getElem_cons_zero, List.getElem_cons_succ, List.setIfInBounds_toArray, List.set_cons_zero, List.set_cons_succ])
                    refine wpAnyX_pure (i := 7) (v := ?_) rfl (by kernel_rfl) (by kernel_rfl) (by kernel_rfl) (fun _ _ _ h => h) (Or.inl ⟨by rfl, ?_⟩) ?_
                    rotate_left
                    · (intro W _; go_simp; try with_reducible rfl)
                    (try simp only [Act.put, List.getElem_toArray, List.getElem_cons_zero, List.getElem_cons_succ, List.setIfInBounds_toArray, List.set_cons_zero, List.set_cons_succ])
                    refine wpAnyX_takeL (L := []) (i := 8) (v := ?_) rfl (by kernel_rfl) (by kernel_rfl) (by kernel_rfl) (by kernel_rfl) (fun _ _ _ h => h) (Or.inl ⟨by rfl, ?_⟩) ((HQ24.out _ hbf3)) ?_
                    rotate_left
                    · (intro W hSW; (try dsimp only at hSW); obtain ⟨z0, z1, z2, z3⟩ := hSW; go_simp; try with_reducible rfl)
                    (try simp only [Act.put, List.getElem_toArray, List.getElem_cons_zero, List.getElem_cons_succ, List.setIfInBounds_toArray, List.set_cons_zero, List.set_cons_succ])
                    refine wpAnyX_pure (i := 9) (v := ?_) rfl (by kernel_rfl) (by kernel_rfl) (by kernel_rfl) (fun _ _ _ h => h) (Or.inl ⟨by rfl, ?_⟩) ?_
                    rotate_left
                    · (intro W _; go_simp; try with_reducible rfl)
                    (try simp only [Act.put, List.getElem_toArray, List.getElem_cons_zero, List.getElem_cons_succ, List.setIfInBounds_toArray, List.set_cons_zero, List.set_cons_succ])
                    refine wpAnyX_takeL (L := []) (i := 10) (v := ?_) rfl (by kernel_rfl) (by kernel_rfl) (by kernel_rfl) (by kernel_rfl) (fun _ _ _ h => h) (Or.inl ⟨by rfl, ?_⟩) ((HQ24.out _ hbf3)) ?_
                    rotate_left
                    · (intro W hSW; (try dsimp only at hSW); obtain ⟨z0, z1, z2, z3⟩ := hSW; go_simp; try with_reducible rfl)
                    (try simp only [Act.put, List.getElem_toArray, List.getElem_cons_zero, List.getElem_cons_succ, List.setIfInBounds_toArray, List.set_cons_zero, List.set_cons_succ])
                    refine wpAnyX_pure (i := 11) (v := ?_) rfl (by kernel_rfl) (by kernel_rfl) (by kernel_rfl) (fun _ _ _ h => h) (Or.inl ⟨by rfl, ?_⟩) ?_
                    rotate_left
                    · (intro W _; go_simp; try with_reducible rfl)
                    (try simp only [Act.put, List.getElem_toArray, List.getElem_cons_zero, List.getElem_cons_succ, List.setIfInBounds_toArray, List.set_cons_zero, List.set_cons_succ])
                    refine wpAnyX_done (by kernel_rfl) ?_ _
                    obtain ⟨V2, hV2⟩ : ∃ V2, V2 = V1.drew.drew.drew := ⟨_, rfl⟩
                    rw [← hV2] at hbf3 ⊢
                    have m22 := HM22.out.on hbf3
                    have HM2a := Lib.hid m22
                    have s4 : V2.cell? ⟨g22, 4, none⟩ = some (.int .i64 (nv : Nat)) := (m22.cell 4).trans (dvq_4 (by rw [HDS.out.1, HNV.out]))
                    have s14 : V2.cell? ⟨g22, 14, none⟩ = some (.int .i64 (Dq.tm + co)) := (m22.cell 14).trans (dvq_14 (by rw [HDS.out.2.1, HCO.out]))
                    have s12 : V2.cell? ⟨g22, 12, none⟩ = some (.int .i64 ((q : Int) + 1)) := (m22.cell 12).trans (dvq_12 HDS.out.2.2)
                    have HB2 := Lib.hid (bt HB22.out hbf3)
                    have HAV2 := Lib.hid (HAV22.out.on hbf3)
                    have wq : IntKind.i64.wrap ((q : Int) + 1) = (q : Int) + 1 := by rw [IntKind.wrap_i64]; omega
                    have hz2 := hbf3.size
                    have hz22 := HB22.out.size
                    clear hV2 hbf hbf2 hbf3 m22 ww
                    by_cases hO : O2 = -1
                    · obtain ⟨hRl, hf1⟩ := HLO.out hO
                      have hf1' : D0.f1 = f1 := by rw [HD0.out]; rfl
                      have HRl : Hid (R.1 = D2 ∧ R.2.1 = [] ∧ R.2.2 = 14) := Lib.hid (by rw [hRl]; exact ⟨rfl, rfl, rfl⟩)
                      have t1 : (R.2.2 == (14 : Int)) = true := by rw [HRl.out.2.2]; rfl
                      have t2 : ((R.2.1.length : Int) == 0) = true := by rw [HRl.out.2.1]; rfl
                      have t3 : decide ((0 : Int) < f1) = true := decide_eq_true (by omega)
                      have t0 : (O2 == (-1 : Int)) = true := by rw [hO]; rfl
                      have m10 := HM10.out.on (bt HBQ.out HB2.out)
                      have m5 := HM5.out.on (bt HBQ.out HB2.out)
                      have r1 := HR1.out.below (bt HBQ.out HB2.out)
                      rw [HRl.out.1] at m10 r1
                      have hS := rdsame D2 H1 Hb V2 r1 HAV2.out.dev
                      unfold dvA at hS
                      have HS := Lib.hid hS
                      have HBX := Lib.hid (bt HBU.out (bt HBQ.out HB2.out))
                      clear hS hRl hf1 hf1' hO
                      as_aux_lemma =>
                        go_upto_region 27 with fail
                        clear s4 s14 s12
                        obtain ⟨a0, a1, a2, a3, a4, a5, a6, a7', a8, a9, a10, a11, a12, a13, a14⟩ := m10.dev
                        obtain ⟨b0, b1, b2, b3, b4, b5, b6, b7, b8, b9, b10, b11, b12, b13, b14⟩ := HM2a.out.dev
                        go_wp2_with fail
                        refine HS.out.mono ?_
                        rintro e u7 ⟨rfl, a7⟩
                        have p0 : u7.cell? ⟨g5, 0, none⟩ = some (.int .i64 f1) := (m5.on a7).cell 0
                        have HBC := Lib.hid (bt HBX.out a7)
                        clear HS m5 m10 r1 a7 a0 a1 a2 a3 a4 a5 a6 a7' a8 a9 a10 a11 a12 a13 a14 b0 b1 b2 b3 b4 b5 b6 b7 b8 b9 b10 b11 b12 b13 b14
                        go_wp2_with fail
                        refine (awake19 _).mono ?_
                        rintro e w9 ⟨rfl, a9⟩
                        go_wp2
                        go_ret
                        exact ⟨rfl, bt HB0.out (bt HBC.out a9)⟩
                    · have t0 : (O2 == (-1 : Int)) = false := by rw [beq_eq_false_iff_ne]; exact hO
                      have HNO := Lib.hid hO
                      have HOW2 := Lib.hid (HOW.out.kept HB2.out)
                      obtain ⟨A4, c4, w4, hrn, ho4, hb4, hkb, hmv⟩ := run_append_onek HOW2.out O2 (by have := HB2.out.size; omega) (by have := HACC.out; omega)
                      have hb4' : Below u6.heap.size V2 w4 := hb4.mono (by omega)
                      have hKD : ∀ (g : Nat) (D : DD) (H : DH), Blk V2 g (dvC D H) 32 → Blk w4 g (dvC D H) 32 := fun g D H hg => hkb g _ hg (by
                        intro e
                        have hb := HOW2.out
                        rcases hb.2 with ⟨e2, _⟩ | ⟨g', cap, cur, e2, _, hh, _⟩
                        · rw [e2] at e; cases e
                        · rw [e2] at e
                          have : g = g' := by simpa [Value.ownBlock] using e.symm
                          subst this
                          unfold Blk at hg
                          rw [hg] at hh
                          injection hh with hh
                          injection hh with _ h2 _
                          exact absurd h2 (by decide))
                      have HM4a := Lib.hid (hKD _ _ _ HM2a.out)
                      have HN4a := Lib.hid (hKD _ _ _ (N16.out.on HB2.out))
                      have HOF : Hid (Owned (w4.setRow u6.heap.size (dvC D2 Hb)) (u6.heap.size + 1) (.slice A4 (acc.length + 1) c4) (acc ++ [O2])) := Lib.hid (ho4.keptT (HN4a.out.keptRow (by decide) _))
                      have HAF : Hid (AvR u6.heap.size (Value.slice A4 (acc.length + 1) c4).ownBlock (w4.setRow u6.heap.size (dvC D2 Hb)) D2 Hb) := Lib.hid ((AvR.app HAV2.out hb4 hkb hmv).row _)
                      have HBF : Hid (Below u6.heap.size u6 (w4.setRow u6.heap.size (dvC D2 Hb))) := Lib.hid (below_setRow ((bt HBQ.out HB2.out).trans hb4') (Nat.le_refl _) _)
                      have HZF : Hid (u6.heap.size + 1 ≤ (w4.setRow u6.heap.size (dvC D2 Hb)).heap.size) := Lib.hid (by have := HB2.out.size; have := hb4.size; simp; omega)
                      have HWRO : Hid (¬ O2 = ov → 0 < f2 ∧ O2 - ov ≤ 1 ∧ ov - O2 ≤ 1) := Lib.hid (fun h => by
                        have h2 := HWR.out HNO.out ov (by rw [HOV.out, HON.out, Int.toNat_natCast]) h
                        rw [show D0.f2 = f2 by rw [HD0.out]; rfl] at h2
                        exact h2)
                      have p1 : V2.cell? ⟨g5, 1, none⟩ = some (.int .i64 f2) := (HM5.out.on (bt HBQ.out HB2.out)).cell 1
                      clear hO ho4 hb4 hb4' hkb hmv hKD
                      by_cases hw : O2 = ov
                      · have t1 : (O2 != ov) = false := by rw [hw]; simp
                        clear hw p1
                        as_aux_lemma =>
                          go_upto_region 32 with (at_builtin; refine Lib.wpList_append_run _ rfl _ _ _ _ rfl _ _ rfl rfl _ _ hrn ?_)
                          clear wq
                          refine wp_region_list ?_
                          refine wpList_load_row rfl 32 _ rfl g22 rfl 32 (dvC D2 Hb) (0, 0) _ (HM4a.out) Try.underlying32 rfl (by rw [HSZ.out]; kernel_rfl) ?_
                          go_wp2_with (refine wpList_store_row rfl 32 _ _ rfl u6.heap.size (dvC D2 Hb) rfl rfl 32 (dvC Dq Hq) HN4a.out (by rw [HSZ.out]; kernel_rfl) (by rw [HSZ.out]; rfl) (dvC_one _ _) ?_)
                          go_roundw
                          case rel => exact ⟨q + 1, D2, Hb, acc ++ [O2], A4, c4, by omega, by go_num, by rw [HDS.out.1, HNV.out], by rw [HDS.out.2.1, HCO.out], by rw [List.length_append]; rfl, by rw [List.length_append]; exact HOF.out, HN4a.out.row _, by rw [List.length_append]; exact HAF.out, HNX.out HNO.out, HBF.out, HZF.out⟩
                          case measure => simp [intOf]; omega
                      · obtain ⟨hw1, hw2, hw3⟩ := HWRO.out hw
                        have t1 : (O2 != ov) = true := by simpa using hw
                        have t2 : (f2 == (0 : Int)) = false := by rw [beq_eq_false_iff_ne]; omega
                        have w1 : IntKind.i64.wrap (O2 - ov) = O2 - ov := by rw [IntKind.wrap_i64]; omega
                        have w2 : IntKind.i64.wrap (ov - O2) = ov - O2 := by rw [IntKind.wrap_i64]; omega
                        have t3 : decide ((1 : Int) < O2 - ov) = false := decide_eq_false (by omega)
                        have t4 : decide ((1 : Int) < ov - O2) = false := decide_eq_false (by omega)
                        clear hw hw1 hw2 hw3
                        as_aux_lemma =>
                          go_upto_region 32 with (at_builtin; refine Lib.wpList_append_run _ rfl _ _ _ _ rfl _ _ rfl rfl _ _ hrn ?_)
                          clear wq w1 w2 t2 t3 t4 p1
                          refine wp_region_list ?_
                          refine wpList_load_row rfl 32 _ rfl g22 rfl 32 (dvC D2 Hb) (0, 0) _ (HM4a.out) Try.underlying32 rfl (by rw [HSZ.out]; kernel_rfl) ?_
                          go_wp2_with (refine wpList_store_row rfl 32 _ _ rfl u6.heap.size (dvC D2 Hb) rfl rfl 32 (dvC Dq Hq) HN4a.out (by rw [HSZ.out]; kernel_rfl) (by rw [HSZ.out]; rfl) (dvC_one _ _) ?_)
                          go_roundw
                          case rel => exact ⟨q + 1, D2, Hb, acc ++ [O2], A4, c4, by omega, by go_num, by rw [HDS.out.1, HNV.out], by rw [HDS.out.2.1, HCO.out], by rw [List.length_append]; rfl, by rw [List.length_append]; exact HOF.out, HN4a.out.row _, by rw [List.length_append]; exact HAF.out, HNX.out HNO.out, HBF.out, HZF.out⟩
                          case measure => simp [intOf]; omega
              · obtain rfl : q = k := by omega
                have hfin := hej.fin (by rw [HXL.out])
                have HF : Hid (R.1 = Dq ∧ R.2.1 = acc ∧ R.2.2 = 0) := Lib.hid (by rw [hfin]; exact ⟨rfl, rfl, rfl⟩)
                as_aux_lemma =>
                  have t1 : (R.2.2 == (0 : Int)) = true := by rw [HF.out.2.2]; rfl
                  have m10 := HM10.out.on hbq
                  have r1 := HR1.out.below hbq
                  have o1 := HO1.out.below hbq
                  rw [HF.out.1] at m10 r1
                  rw [HF.out.2.1] at o1
                  have hown := HOW.out.ints (by have := HACC.out; have := HXB.out; omega)
                  have HBX := Lib.hid (bt HBU.out hbq)
                  have HLL : Hid (R.2.1.length = acc.length) := Lib.hid (by rw [HF.out.2.1])
                  clear hfin hej hbq
                  obtain ⟨a0, a1, a2, a3, a4, a5, a6, a7', a8, a9, a10, a11, a12, a13, a14⟩ := m10.dev
                  obtain ⟨b0, b1, b2, b3, b4, b5, b6, b7, b8, b9, b10, b11, b12, b13, b14⟩ := n16.dev
                  go_wp2_with fail
                  have hS := rdsame Dq H1 Hq V0 r1 HAQ.out.dev
                  unfold dvA at hS
                  refine hS.mono ?_
                  rintro e u7 ⟨rfl, a7⟩
                  have HSL := Lib.hid (rsame A1 A' acc.length c1 acc.length c' acc acc true u7 (o1.below a7) (hown.below a7) (by simp))
                  have HBX7 := Lib.hid (bt HBX.out a7)
                  clear hS m10 r1 n16 a7 o1 hown a0 a1 a2 a3 a4 a5 a6 a7' a8 a9 a10 a11 a12 a13 a14 b0 b1 b2 b3 b4 b5 b6 b7 b8 b9 b10 b11 b12 b13 b14
                  go_wp2_with fail
                  rw [HLL.out]
                  refine HSL.out.mono ?_
                  rintro e u8 ⟨rfl, q8, hq8⟩
                  have HBC := Lib.hid (bt HBX7.out (show Below u7.heap.size u7 u8 by rw [hq8]; exact below_drewN (Below.refl _ _) q8))
                  clear hq8 HSL
                  go_wp2_with fail
                  refine (awake19 _).mono ?_
                  rintro e w9 ⟨rfl, a9⟩
                  go_wp2
                  go_ret
                  exact ⟨rfl, bt HB0.out (bt HBC.out a9)⟩
        · obtain ⟨v, hv⟩ : ∃ v, v = chk xs i1 := ⟨_, rfl⟩
          rw [← hv] at hc ⊢
          have hne : (v != 0) = true := by simpa using hc
          have HBC := Lib.hid hbc
          clear hc hv hbc m3 m4 m5 m8 d0
          go_wp2_with fail
          refine (awake19 _).mono ?_
          rintro e w9 ⟨rfl, a9⟩
          go_wp2
          go_ret
          exact ⟨rfl, bt HB0.out (bt HBC.out a9)⟩
end Go.Proofs.Ytcoihbpadbnilaa
end
