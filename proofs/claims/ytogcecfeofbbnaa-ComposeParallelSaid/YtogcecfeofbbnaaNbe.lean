/- Lemmas of the proofs of this seat, of the parts Gcw, L14e. Conditions: none. -/
import Derived.Test.YtogcecfeofbbnaaNad
import Derived.Test.YtogcecfeofbbnaaNac
import Derived.Test.YtogcecfeofbbnaaNbd
section
/- Four rows of numbers that grow apart from one another; the lengths of what Parallel's law takes apart. -/
namespace Go.Proofs.Ytogcecfeofbbnaa
open Go.RowKit

theorem Apart.movedO {w : World} {base : Nat} {v v' u : Value} {xs : List Int} (h : Apart v u) (hm : Moved w v v') (hu : Owned w base u xs) : Apart v' u := by
  rcases hm with e | ⟨g, hg, e⟩
  · intro k hk; rw [e] at hk; exact h k hk
  · intro k hk h2
    rw [e] at hk
    injection hk with hk
    have := (hu.lt k h2).2
    omega
structure Four (W : World) (base : Nat) (a b c d : Value) (xa xb xc xd : List Int) : Prop where
  oa : Owned W base a xa
  ob : Owned W base b xb
  oc : Owned W base c xc
  od : Owned W base d xd
  ab : Apart a b
  ac : Apart a c
  ad : Apart a d
  bc : Apart b c
  bd : Apart b d
  cd : Apart c d
section
variable {W W' : World} {base : Nat} {a b c d : Value} {xa xb xc xd : List Int}
theorem Four.nil (W : World) (base : Nat) : Four W base (.slice none 0 0) (.slice none 0 0) (.slice none 0 0) (.slice none 0 0) [] [] [] [] :=
  ⟨Owned.nil _ _, Owned.nil _ _, Owned.nil _ _, Owned.nil _ _, Apart.nil _, Apart.nil _, Apart.nil _, Apart.nil _, Apart.nil _, Apart.nil _⟩
theorem Four.kept (h : Four W base a b c d xa xb xc xd) (hb : Below W.heap.size W W') : Four W' base a b c d xa xb xc xd :=
  ⟨h.oa.kept hb, h.ob.kept hb, h.oc.kept hb, h.od.kept hb, h.ab, h.ac, h.ad, h.bc, h.bd, h.cd⟩
theorem Four.swapB (h : Four W base a b c d xa xb xc xd) : Four W base b a c d xb xa xc xd := ⟨h.ob, h.oa, h.oc, h.od, h.ab.symm, h.bc, h.bd, h.ac, h.ad, h.cd⟩
theorem Four.swapC (h : Four W base a b c d xa xb xc xd) : Four W base c b a d xc xb xa xd := ⟨h.oc, h.ob, h.oa, h.od, h.bc.symm, h.ac.symm, h.cd, h.ab.symm, h.bd, h.ad⟩
theorem Four.swapD (h : Four W base a b c d xa xb xc xd) : Four W base d b c a xd xb xc xa := ⟨h.od, h.ob, h.oc, h.oa, h.bd.symm, h.cd.symm, h.ad.symm, h.bc, h.ab.symm, h.ac.symm⟩
theorem Four.app (h : Four W base a b c d xa xb xc xd) (x : Int) (hbase : base ≤ W.heap.size) (hl : xa.length < 1759218604441) :
    ∃ A k w', (Builtin.append_ #[27, 27] 27 #[a, .slice (some ⟨W.heap.size, 0, none⟩) 1 1]).run Try.prog (W.alloc (.cells #[.int .i64 x] 3)) = .ok (.slice A (xa.length + 1) k) w' ∧
      Four w' base (.slice A (xa.length + 1) k) b c d (xa ++ [x]) xb xc xd ∧ Below base W w' := by
  obtain ⟨A, k, w', hr, o, hb, _, hk, hm⟩ := run_append_oneB h.oa x hbase hl
  exact ⟨A, k, w', hr, ⟨o, h.ob.keptB hk h.ab, h.oc.keptB hk h.ac, h.od.keptB hk h.ad, h.ab.movedO hm h.ob, h.ac.movedO hm h.oc, h.ad.movedO hm h.od, h.bc, h.bd, h.cd⟩, hb⟩
end
theorem paU_len (i : Nat) (w : List Int) : (paU i w).length ≤ w.length := List.length_filter_le _ _
theorem paV_len (i : Nat) : ∀ w : List Int, (paV i w).length ≤ w.length
  | [] => Nat.le_refl _
  | x :: w => by
    have := paV_len i w
    show (if x < (i : Int) then paV i w else (x - i) :: paV i w).length ≤ w.length + 1
    split <;> (first | (simp only [List.length_cons]; omega) | omega)
theorem paA_len (i : Nat) : ∀ w z : List Int, (paA i w z).length ≤ w.length
  | [], [] => Nat.le_refl _
  | [], _ :: _ => Nat.le_refl _
  | _ :: _, [] => Nat.zero_le _
  | x :: w, y :: z => by
    have := paA_len i w z
    show (if x < (i : Int) then y :: paA i w z else paA i w z).length ≤ w.length + 1
    split <;> (first | (simp only [List.length_cons]; omega) | omega)
theorem paB_len (i g : Nat) : ∀ w z : List Int, (paB i g w z).length ≤ w.length
  | [], [] => Nat.le_refl _
  | [], _ :: _ => Nat.le_refl _
  | _ :: _, [] => Nat.zero_le _
  | x :: w, y :: z => by
    have := paB_len i g w z
    show (if x < (i : Int) then paB i g w z else (y - 1 - g) :: paB i g w z).length ≤ w.length + 1
    split <;> (first | (simp only [List.length_cons]; omega) | omega)
/-- One symbol more. -/
theorem pa_next {i g j : Nat} {xs z : List Int} (hj : j < xs.length) (hz : xs.length = z.length) :
    paU i (xs.take (j + 1)) = (if xs.getD j 0 < (i : Int) then paU i (xs.take j) ++ [xs.getD j 0] else paU i (xs.take j)) ∧
    paV i (xs.take (j + 1)) = (if xs.getD j 0 < (i : Int) then paV i (xs.take j) else paV i (xs.take j) ++ [xs.getD j 0 - i]) ∧
    paA i (xs.take (j + 1)) (z.take (j + 1)) = (if xs.getD j 0 < (i : Int) then paA i (xs.take j) (z.take j) ++ [z.getD j 0] else paA i (xs.take j) (z.take j)) ∧
    paB i g (xs.take (j + 1)) (z.take (j + 1)) = (if xs.getD j 0 < (i : Int) then paB i g (xs.take j) (z.take j) else paB i g (xs.take j) (z.take j) ++ [z.getD j 0 - 1 - g]) := by
  have e1 : xs.take (j + 1) = xs.take j ++ [xs.getD j 0] := by rw [take_next hj, List.getD_eq_getElem?_getD]
  have e2 : z.take (j + 1) = z.take j ++ [z.getD j 0] := by rw [take_next (show j < z.length by omega), List.getD_eq_getElem?_getD]
  have hl : (xs.take j).length = (z.take j).length := by rw [List.length_take, List.length_take, hz]
  rw [e1, e2]
  exact ⟨paU_app _ _, paV_app _ _, paA_app _ _ _ _ hl, paB_app _ _ _ _ hl⟩
end Go.Proofs.Ytogcecfeofbbnaa
end

section
/- The law ComposeParallel: the walk. -/
namespace Go.Proofs.Ytogcecfeofbbnaa
open Go.RowKit

set_option linter.unusedSimpArgs false
set_option linter.unusedVariables false
theorem wd_chk {u : List Int} {i : Nat} (hW : Wd i u) (h1 : 1 ≤ i) (h2 : i ≤ 64) (hl : u.length ≤ 1024) : chk u i = 0 := by
  refine chk_ok (by omega) (by omega) fun j hj => ?_
  have := hW (u.getD j 0) (by rw [List.getD_eq_getElem?_getD, List.getElem?_eq_getElem hj]; exact List.getElem_mem _)
  exact this
/-- What the run of Parallel says. -/
theorem para_runs {i st n i' st' n' sI : Nat} {nx ot nx' ot' : List (List Int)} (hM : Mok i st n nx ot) (hM' : Mok i' st' n' nx' ot') (hsI : sI = i + i') {R : List Ent} (hR : R = fdG (paF i nx nx') sI n n' st st') {xs : List Int} (h : chk xs sI = 0) (hf : Fits (paO i ot ot' (grt ot)) sI R) (hs64 : sI ≤ 64) :
    paA i xs (runO (autN (paF i nx nx') sI R) (outN (paO i ot ot' (grt ot)) sI R) 0 xs) = runO nx ot st (paU i xs) ∧ paB i (grt ot) xs (runO (autN (paF i nx nx') sI R) (outN (paO i ot ot' (grt ot)) sI R) 0 xs) = runO nx' ot' st' (paV i xs) ∧ chk (paU i xs) i = 0 ∧ chk (paV i xs) i' = 0 := by
  subst hsI
  have hL := (chk_zero h).2.2.1
  rw [fdG_run (O := paO i ot ot' (grt ot)) (pa_stp hM hM') hM.st hM'.st hR (chk_wd h)]
  obtain ⟨e1, e2, e3, e4, e5, e6⟩ := pa_out hM hM' (grt ot) xs st st' hM.st hM'.st (chk_wd h)
  have := hM.i1
  have := hM'.i1
  exact ⟨e1, e2, wd_chk e3 hM.i1 (by omega) (by omega), wd_chk e4 hM'.i1 (by omega) (by omega)⟩
set_option maxHeartbeats 8000000 in
set_option maxRecDepth 100000 in
theorem para14_walk (i1 st1 i2 st2 : Int) (A B C D : Option Addr) (n c m d n2 c2 m2 d2 : Nat) (nx ot nx' ot' : List (List Int)) (E : Option Addr) (ln cp : Nat) (xs : List Int) (w : World) (hx1 : Lists w A n nx) (ho1 : Lists w B m ot) (hx2 : Lists w C n2 nx') (ho2 : Lists w D m2 ot') (hE : Ints w E ln xs) :
    Calls Try.prog 12 #[.agg #[.int .i64 i1, .int .i64 st1, .slice A n c, .slice B m d], .agg #[.int .i64 i2, .int .i64 st2, .slice C n2 c2, .slice D m2 d2], .slice E ln cp] w fun e w' => e = .returned (.bool true) ∧ Below w.heap.size w w' := by
  obtain ⟨w0, hw0, hb0, hG, hG', hz0⟩ := pair_boxesM w i1 st1 i2 st2 A B C D n c m d n2 c2 m2 d2
  have HW0 := Lib.hid hw0
  have HB0 := Lib.hid hb0
  have HX1 := Lib.hid (fun (W : World) (h : Below w0.heap.size w0 W) => (hx1.below hb0).below h)
  have HO1 := Lib.hid (fun (W : World) (h : Below w0.heap.size w0 W) => (ho1.below hb0).below h)
  have HX2 := Lib.hid (fun (W : World) (h : Below w0.heap.size w0 W) => (hx2.below hb0).below h)
  have HO2 := Lib.hid (fun (W : World) (h : Below w0.heap.size w0 W) => (ho2.below hb0).below h)
  have HE := Lib.hid (fun (W : World) (h : Below w0.heap.size w0 W) => (hE.below hb0).below h)
  have HG1 := Lib.hid (fun (W : World) (h : Below w0.heap.size w0 W) => hG.on h)
  have HG2 := Lib.hid (fun (W : World) (h : Below w0.heap.size w0 W) => hG'.on h)
  have hbc := Below.refl w0.heap.size w0
  obtain ⟨k0, k1, k2, k3, _⟩ := hG.cells
  rw [HW0.out] at k0 k1 k2 k3
  clear hw0 hb0 hG hG' hz0 hx1 ho1 hx2 ho2 hE
  go_enter Try.func12, Try.ntmps12
  go_wp2_with fail
  rw [← HW0.out]
  refine (rgreat10 _ _ _ _ _ _ _ _ _ _ _ (HX1.out _ hbc) (HO1.out _ hbc)).mono ?_
  rintro e w1 ⟨b1, rfl, hs1, a1⟩
  have hbc := bt hbc a1
  have HS1 := Lib.hid hs1
  clear k0 k1 k2 k3 a1 hs1
  cases b1
  case true =>
    go_wp2_with fail
    refine (awake14 _).mono ?_
    rintro e wz ⟨rfl, az⟩
    have hbz := bt HB0.out (bt hbc az)
    go_wp2_with fail
    go_ret
    exact ⟨rfl, hbz⟩
  obtain ⟨l0, l1, l2, l3, _⟩ := (HG2.out _ hbc).cells
  go_wp2_with fail
  refine (rgreat10 _ _ _ _ _ _ _ _ _ _ _ (HX2.out _ hbc) (HO2.out _ hbc)).mono ?_
  rintro e w2 ⟨b2, rfl, hs2, a2⟩
  have hbc := bt hbc a2
  have HS2 := Lib.hid hs2
  clear l0 l1 l2 l3 a2 hs2
  cases b2
  case true =>
    go_wp2_with fail
    refine (awake14 _).mono ?_
    rintro e wz ⟨rfl, az⟩
    have hbz := bt HB0.out (bt hbc az)
    go_wp2_with fail
    go_ret
    exact ⟨rfl, hbz⟩
  obtain ⟨k0, k1, k2, k3, _⟩ := (HG1.out _ hbc).cells
  go_wp2_with fail
  refine (rvalid _ _ _ _ _ _ _ _ _ _ _ (HX1.out _ hbc) (HO1.out _ hbc)).mono ?_
  rintro e w3 ⟨rfl, a3⟩
  have hbc := bt hbc a3
  clear k0 k1 k2 k3 a3
  by_cases hv1 : vld i1 st1 nx ot = 0
  case neg =>
    have t1 : (vld i1 st1 nx ot != 0) = true := by simpa using hv1
    generalize vld i1 st1 nx ot = V1 at t1 hv1
    clear hv1
    go_wp2_with fail
    refine (awake14 _).mono ?_
    rintro e wz ⟨rfl, az⟩
    have hbz := bt HB0.out (bt hbc az)
    go_wp2_with fail
    go_ret
    exact ⟨rfl, hbz⟩
  obtain ⟨i, st, n', rfl, rfl, hM⟩ := vld_zero hv1
  obtain rfl : n = n' := by rw [← hM.nxl]; exact (HX1.out _ (Below.refl _ _)).1.symm
  obtain rfl : n = m := by rw [← hM.otl]; exact (HO1.out _ (Below.refl _ _)).1
  rw [hv1]
  have HM := Lib.hid hM
  clear hv1 hM
  obtain ⟨l0, l1, l2, l3, _⟩ := (HG2.out _ hbc).cells
  go_wp2_with fail
  refine (rvalid _ _ _ _ _ _ _ _ _ _ _ (HX2.out _ hbc) (HO2.out _ hbc)).mono ?_
  rintro e w4 ⟨rfl, a4⟩
  have hbc := bt hbc a4
  clear l0 l1 l2 l3 a4
  by_cases hv2 : vld i2 st2 nx' ot' = 0
  case neg =>
    have t1 : (vld i2 st2 nx' ot' != 0) = true := by simpa using hv2
    generalize vld i2 st2 nx' ot' = V2 at t1 hv2
    clear hv2
    go_wp2_with fail
    refine (awake14 _).mono ?_
    rintro e wz ⟨rfl, az⟩
    have hbz := bt HB0.out (bt hbc az)
    go_wp2_with fail
    go_ret
    exact ⟨rfl, hbz⟩
  obtain ⟨i', st', n2', rfl, rfl, hM'⟩ := vld_zero hv2
  obtain rfl : n2 = n2' := by rw [← hM'.nxl]; exact (HX2.out _ (Below.refl _ _)).1.symm
  obtain rfl : n2 = m2 := by rw [← hM'.otl]; exact (HO2.out _ (Below.refl _ _)).1
  rw [hv2]
  have HM' := Lib.hid hM'
  have hi2 := HM.out.i2
  have hi2' := hM'.i2
  clear hv2 hM'
  obtain ⟨k0, k1, k2, k3, _⟩ := (HG1.out _ hbc).cells
  obtain ⟨l0, l1, l2, l3, _⟩ := (HG2.out _ hbc).cells
  go_wp2_with fail
  have hi6 := (HS1.out trivial).2
  have hi6' := (HS2.out trivial).2
  obtain ⟨sI, hsI⟩ : ∃ sI, sI = i + i' := ⟨_, rfl⟩
  have hs64 : sI ≤ 64 := by omega
  obtain ⟨R, hR⟩ : ∃ R, R = fdG (paF i nx nx') sI n n2 st st' := ⟨_, rfl⟩
  refine (pparallel i st n i' st' n2 sI A B C D c d c2 d2 nx ot nx' ot' w4 (HX1.out _ hbc) (HO1.out _ hbc) (HX2.out _ hbc) (HO2.out _ hbc) HM.out HM'.out hsI hs64).mono ?_
  rintro e w5 ⟨h5, a5⟩
  rw [← hR] at h5
  have hb5 := bt hbc a5
  rcases h5 with ⟨hok, A5, c5, B5, d5, rfl, o5, t5⟩ | ⟨hok, rfl⟩
  case inr =>
    obtain ⟨X5, hX5⟩ : ∃ X5, X5 = w5.alloc (.cells #[.int .i64 0, .int .i64 0, .slice none 0 0, .slice none 0 0] 24) := ⟨_, rfl⟩
    have hbc := bt hb5 (show Below w5.heap.size w5 X5 by rw [hX5]; exact alloc_below _ _)
    clear k0 k1 k2 k3 l0 l1 l2 l3 a5 hb5 hR hok hsI
    have HX5 := Lib.hid hX5
    clear hX5
    go_wp2_with fail
    rw [← HX5.out]
    refine (awake14 _).mono ?_
    rintro e wz ⟨rfl, az⟩
    have hbz := bt HB0.out (bt hbc az)
    go_wp2_with fail
    go_ret
    exact ⟨rfl, hbz⟩
  have hst := pa_stp HM.out HM'.out
  rw [← hsI] at hst
  have hMR := fdG_mok hst HM.out.st HM'.out.st (by have := HM.out.i1; omega) hs64 hR hok
  have e3 := fun h => para_runs HM.out HM'.out hsI hR (xs := xs) h hok hs64
  obtain ⟨N, hN⟩ : ∃ N, N = autN (paF i nx nx') sI R := ⟨_, rfl⟩
  obtain ⟨T, hT⟩ : ∃ T, T = outN (paO i ot ot' (grt ot)) sI R := ⟨_, rfl⟩
  obtain ⟨r, hr⟩ : ∃ r, r = R.length := ⟨_, rfl⟩
  rw [← hN, ← hT] at e3
  rw [← hN, ← hT, ← hr] at hMR
  rw [← hN, ← hr] at o5
  rw [← hT, ← hr] at t5
  rw [← hr]
  have hr2 := hMR.n2
  obtain ⟨X5, hX5⟩ : ∃ X5, X5 = w5.alloc (.cells #[.int .i64 sI, .int .i64 0, .slice A5 r c5, .slice B5 r d5] 24) := ⟨_, rfl⟩
  have bx5 : Below w5.heap.size w5 X5 := by rw [hX5]; exact alloc_below _ _
  have hbc := bt hb5 bx5
  have hMB : Mblk X5 w5.heap.size (.int .i64 sI) (.int .i64 0) (.slice A5 r c5) (.slice B5 r d5) := by rw [hX5]; exact mealy_box w5 _ _ _ _
  have HMB := Lib.hid hMB
  have HN5 := Lib.hid ((lists_ownedM hMR o5).below bx5)
  have HT5 := Lib.hid ((lists_ownedO hMR t5).below bx5)
  have HMR := Lib.hid hMR
  have HE3 := Lib.hid e3
  have HSI := Lib.hid hsI
  clear k0 k1 k2 k3 l0 l1 l2 l3 a5 hb5 hR hok o5 t5 hMR hN hT hr bx5 e3 hMB hst hsI
  obtain ⟨m0, m1, m2, m3, _⟩ := HMB.out.cells
  have HX5 := Lib.hid hX5
  rw [hX5] at m0 m1 m2 m3
  clear hX5
  go_wp2_with fail
  rw [← HX5.out]
  refine (prunw sI (0 : Nat) A5 B5 E r c5 r d5 ln cp N T xs X5 HN5.out HT5.out (HE.out _ hbc)).mono ?_
  rintro e w8 ⟨A8, c8, rfl, o8, a8⟩
  rw [frm_two HMR.out] at o8 ⊢
  have hbd := a8
  have hbc := bt hbc a8
  clear m0 m1 m2 m3 a8
  obtain ⟨k0, k1, k2, k3, _⟩ := (HG1.out _ hbc).cells
  obtain ⟨l0, _⟩ := (HG2.out _ hbc).cells
  by_cases hch : chk xs sI = 0
  case neg =>
    rw [if_neg hch] at o8 ⊢
    dsimp only at o8 ⊢
    obtain ⟨v, hv⟩ : ∃ v, v = chk xs sI := ⟨_, rfl⟩
    rw [← hv] at hch ⊢
    have t1 : (v != 0) = true := by simpa using hch
    obtain ⟨m0, _⟩ := (HMB.out.on hbd).cells
    have es : (i : Int) + (i' : Int) = (sI : Int) := by have := HSI.out; omega
    clear hch hv o8
    go_wp2_with fail
    refine (awake14 _).mono ?_
    rintro e wz ⟨rfl, az⟩
    have hbz := bt HB0.out (bt hbc az)
    go_wp2_with fail
    go_ret
    exact ⟨rfl, hbz⟩
  rw [if_pos hch] at o8 ⊢
  dsimp only at o8 ⊢
  have HEw := Lib.hid (HE.out _ hbc)
  have HLX := Lib.hid (HE.out _ hbc).1
  have hZl : (runO N T 0 xs).length = ln := (runO_len N T xs 0).trans HLX.out
  have hE4 := HE3.out hch
  have hL := (chk_zero hch).2.2.1
  rw [HLX.out] at hL
  have HWD := Lib.hid (chk_wd hch)
  have HZN := Lib.hid (HMR.out.runO_nat xs 0 HMR.out.st (chk_wd hch))
  obtain ⟨Z, hZ⟩ : ∃ Z, Z = runO N T 0 xs := ⟨_, rfl⟩
  rw [← hZ] at o8 hZl hE4 HZN ⊢
  rw [hZl]
  have HLZ := Lib.hid hZl
  have HE4 := Lib.hid hE4
  rw [hZl] at o8
  have HZI := Lib.hid (o8.ints (by rw [hZl]; omega))
  have HBC := Lib.hid hbc
  have HBD := Lib.hid hbd
  clear hch hZ hZl hE4 o8 hbc hbd k0 k1 k2 k3 l0
  go_wp2_with fail
  go_loopw [11, 12, 13, 14, 71] (fun v11 v12 v13 v14 v71 wr => ∃ (j : Nat) (A1 A2 A3 A4 : Option Addr) (c1 c2 c3 c4 : Nat), v11 = .slice A1 (paU i (xs.take j)).length c1 ∧ v12 = .slice A2 (paV i (xs.take j)).length c2 ∧ v13 = .slice A3 (paA i (xs.take j) (Z.take j)).length c3 ∧ v14 = .slice A4 (paB i (grt ot) (xs.take j) (Z.take j)).length c4 ∧ v71 = .int .i64 j ∧ j ≤ ln ∧
      Four wr w8.heap.size (.slice A1 (paU i (xs.take j)).length c1) (.slice A2 (paV i (xs.take j)).length c2) (.slice A3 (paA i (xs.take j) (Z.take j)).length c3) (.slice A4 (paB i (grt ot) (xs.take j) (Z.take j)).length c4) (paU i (xs.take j)) (paV i (xs.take j)) (paA i (xs.take j) (Z.take j)) (paB i (grt ot) (xs.take j) (Z.take j)) ∧ Below w8.heap.size w8 wr) (fun _ _ _ _ v71 _ => ln - (intOf v71).toNat)
  case atStart => exact ⟨0, none, none, none, none, 0, 0, 0, 0, rfl, rfl, rfl, rfl, rfl, Nat.zero_le _, Four.nil _ _, Below.refl _ _⟩
  case round =>
    obtain ⟨j, A1, A2, A3, A4, s1, s2, s3, s4, rfl, rfl, rfl, rfl, rfl, hj, hF, hbr⟩ := hrel
    have HBR := Lib.hid hbr
    by_cases hlt : j < ln
    · obtain ⟨eU, eV, eA, eB⟩ := pa_next (i := i) (g := grt ot) (xs := xs) (z := Z) (j := j) (by rw [HLX.out]; exact hlt) (by rw [HLX.out, HLZ.out])
      obtain ⟨gE, oE, rfl, fE, dE⟩ := HEw.out.at_ hlt
      obtain ⟨gZ, oZ, rfl, fZ, dZ⟩ := HZI.out.at_ hlt
      have hx := HWD.out (xs.getD j 0) (by rw [List.getD_eq_getElem?_getD, List.getElem?_eq_getElem (by rw [HLX.out]; exact hlt)]; exact List.getElem_mem _)
      obtain ⟨a, ha⟩ : ∃ a : Nat, xs.getD j 0 = (a : Int) := ⟨(xs.getD j 0).toNat, by omega⟩
      obtain ⟨z, hz, hz2⟩ := HZN.out j (by rw [HLX.out]; exact hlt)
      rw [ha] at eU eV eA eB dE hx
      rw [hz] at eA eB dZ
      have HW := Lib.hid (show ∀ W : World, Below w8.heap.size w8 W → W.cell? ⟨gE, oE + j, none⟩ = some (.int .i64 a) ∧ W.cell? ⟨gZ, oZ + j, none⟩ = some (.int .i64 z) ∧ W.cell? ⟨w.heap.size, 0, none⟩ = some (.int .i64 i) ∧ W.cell? ⟨w.heap.size, 1, none⟩ = some (.int .i64 st) ∧ W.cell? ⟨w.heap.size, 2, none⟩ = some (.slice A n c) ∧ W.cell? ⟨w.heap.size, 3, none⟩ = some (.slice B n d) from fun W h => by
        obtain ⟨b0, b1, b2, b3, _⟩ := (HG1.out _ (bt HBC.out h)).cells
        exact ⟨(h.cell (p := ⟨gE, oE + j, none⟩) fE).trans dE, (h.cell (p := ⟨gZ, oZ + j, none⟩) fZ).trans dZ, b0, b1, b2, b3⟩)
      have lU : (paU i (xs.take j)).length ≤ 1024 := by have := paU_len i (xs.take j); rw [List.length_take] at this; omega
      have lV : (paV i (xs.take j)).length ≤ 1024 := by have := paV_len i (xs.take j); rw [List.length_take] at this; omega
      have lA : (paA i (xs.take j) (Z.take j)).length ≤ 1024 := by have := paA_len i (xs.take j) (Z.take j); rw [List.length_take] at this; omega
      have lB : (paB i (grt ot) (xs.take j) (Z.take j)).length ≤ 1024 := by have := paB_len i (grt ot) (xs.take j) (Z.take j); rw [List.length_take] at this; omega
      obtain ⟨u, hu⟩ : ∃ u, u = paU i (xs.take j) := ⟨_, rfl⟩
      obtain ⟨v, hv⟩ : ∃ v, v = paV i (xs.take j) := ⟨_, rfl⟩
      obtain ⟨oa, hoa⟩ : ∃ oa, oa = paA i (xs.take j) (Z.take j) := ⟨_, rfl⟩
      obtain ⟨ob, hob⟩ : ∃ ob, ob = paB i (grt ot) (xs.take j) (Z.take j) := ⟨_, rfl⟩
      rw [← hu, ← hv, ← hoa, ← hob] at hF ⊢
      rw [← hu] at eU lU
      rw [← hv] at eV lV
      rw [← hoa] at eA lA
      rw [← hob] at eB lB
      have HF := Lib.hid hF
      obtain ⟨nu, hnu⟩ : ∃ nu, nu = u.length := ⟨_, rfl⟩
      have p1 : (0 : Int) ≤ (j : Int) := by omega
      have p2 : (j : Int) < (ln : Int) := by omega
      have t0 : decide ((ln : Int) ≤ (j : Int)) = false := by simp; omega
      have t0' : decide (ln ≤ j) = false := by simp; omega
      obtain ⟨y0, y1, y2, y3, y4, y5⟩ := HW.out _ hbr
      clear hu hv hoa hob ha hz dE dZ fE fZ hbr hF hnu
      by_cases hai : a < i
      · have t1 : decide ((a : Int) < (i : Int)) = true := by simp; omega
        have t1' : decide (a < i) = true := by simp; omega
        rw [if_pos (by omega : (a : Int) < (i : Int))] at eU eV eA eB
        have EU := Lib.hid eU
        have EV := Lib.hid eV
        have EA := Lib.hid eA
        have EB := Lib.hid eB
        clear eU eV eA eB hx hai
        go_wp2_with fail
        have hBD := bt HBR.out (below_drewN (Below.refl _ _) 1)
        refine wp_region_heldX (X := fun k => ([] : List Nat).contains k) (S := fun W => W.cell? ⟨gE, oE + j, none⟩ = some (.int .i64 a) ∧ W.cell? ⟨gZ, oZ + j, none⟩ = some (.int .i64 z) ∧ W.cell? ⟨w.heap.size, 0, none⟩ = some (.int .i64 i) ∧ W.cell? ⟨w.heap.size, 1, none⟩ = some (.int .i64 st) ∧ W.cell? ⟨w.heap.size, 2, none⟩ = some (.slice A n c) ∧ W.cell? ⟨w.heap.size, 3, none⟩ = some (.slice B n d)) (by kernel_rfl) ?_
        refine wpAnyX_pure (i := 0) (v := ?_) rfl (by kernel_rfl) (by kernel_rfl) (by kernel_rfl) (fun _ _ _ h => h) (Or.inl ⟨by rfl, ?_⟩) ?_
        rotate_left
        · (intro W _; go_simp; try with_reducible rfl)
        (try simp only [Act.put, List.getElem_toArray, List.getElem_cons_zero, List.getElem_cons_succ, List.setIfInBounds_toArray, List.set_cons_zero, List.set_cons_succ])
        refine wpAnyX_pure (i := 1) (v := ?_) rfl (by kernel_rfl) (by kernel_rfl) (by kernel_rfl) (fun _ _ _ h => h) (Or.inl ⟨by rfl, ?_⟩) ?_
        rotate_left
        · (intro W _; go_simp; try with_reducible rfl)
        (try simp only [Act.put, List.getElem_toArray, List.getElem_cons_zero, List.getElem_cons_succ, List.setIfInBounds_toArray, List.set_cons_zero, List.set_cons_succ])
        refine wpAnyX_pure (i := 2) (v := ?_) rfl (by kernel_rfl) (by kernel_rfl) (by kernel_rfl) (fun _ _ _ h => h) (Or.inl ⟨by rfl, ?_⟩) ?_
        rotate_left
        · (intro W _; go_simp; try with_reducible rfl)
        (try simp only [Act.put, List.getElem_toArray, List.getElem_cons_zero, List.getElem_cons_succ, List.setIfInBounds_toArray, List.set_cons_zero, List.set_cons_succ])
        refine wpAnyX_takeL (L := []) (i := 3) (v := ?_) rfl (by kernel_rfl) (by kernel_rfl) (by kernel_rfl) (by kernel_rfl) (fun _ _ _ h => h) (Or.inl ⟨by rfl, ?_⟩) (HW.out _ hBD) ?_
        rotate_left
        · (intro W hSW; (try dsimp only at hSW); obtain ⟨z0, z1, z2, z3, z4, z5⟩ := hSW; go_simp; try with_reducible rfl)
        (try simp only [Act.put, List.getElem_toArray, List.getElem_cons_zero, List.getElem_cons_succ, List.setIfInBounds_toArray, List.set_cons_zero, List.set_cons_succ])
        refine wpAnyX_pure (i := 4) (v := ?_) rfl (by kernel_rfl) (by kernel_rfl) (by kernel_rfl) (fun _ _ _ h => h) (Or.inl ⟨by rfl, ?_⟩) ?_
        rotate_left
        · (intro W _; go_simp; try with_reducible rfl)
        (try simp only [Act.put, List.getElem_toArray, List.getElem_cons_zero, List.getElem_cons_succ, List.setIfInBounds_toArray, List.set_cons_zero, List.set_cons_succ])
        refine wpAnyX_takeL (L := []) (i := 5) (v := ?_) rfl (by kernel_rfl) (by kernel_rfl) (by kernel_rfl) (by kernel_rfl) (fun _ _ _ h => h) (Or.inl ⟨by rfl, ?_⟩) (HW.out _ hBD) ?_
        rotate_left
        · (intro W hSW; (try dsimp only at hSW); obtain ⟨z0, z1, z2, z3, z4, z5⟩ := hSW; go_simp; try with_reducible rfl)
        (try simp only [Act.put, List.getElem_toArray, List.getElem_cons_zero, List.getElem_cons_succ, List.setIfInBounds_toArray, List.set_cons_zero, List.set_cons_succ])
        refine wpAnyX_pure (i := 6) (v := ?_) rfl (by kernel_rfl) (by kernel_rfl) (by kernel_rfl) (fun _ _ _ h => h) (Or.inl ⟨by rfl, ?_⟩) ?_
        rotate_left
        · (intro W _; go_simp; try with_reducible rfl)
        (try simp only [Act.put, List.getElem_toArray, List.getElem_cons_zero, List.getElem_cons_succ, List.setIfInBounds_toArray, List.set_cons_zero, List.set_cons_succ])
        refine wpAnyX_done (by kernel_rfl) ?_ _
        obtain ⟨W0, hW0⟩ : ∃ W0, W0 = wr.drew := ⟨_, rfl⟩
        have bW0 : Below wr.heap.size wr W0 := by rw [hW0]; exact below_drewN (Below.refl _ _) 1
        rw [← hW0]
        have hB0 := bt HBR.out bW0
        have hF0 := HF.out.kept bW0
        clear hW0 hBD y0 y1 y2 y3 y4 y5
        obtain ⟨y0, y1, y2, y3, y4, y5⟩ := HW.out _ hB0
        obtain ⟨D1, e1, W1, r1, hF1, bW1⟩ := hF0.app (a : Int) hB0.size (by omega)
        have hB1 := hB0.trans bW1
        obtain ⟨x0, x1, x2, x3, x4, x5⟩ := HW.out _ hB1
        obtain ⟨D3, e3, W2, r2, hF2, bW2⟩ := hF1.swapC.app (z : Int) hB1.size (by omega)
        have HB2 := Lib.hid (hB1.trans bW2)
        have HF2 := Lib.hid hF2.swapC
        have L1 := Lib.hid (show (paU i (xs.take (j + 1))).length = u.length + 1 by rw [EU.out, List.length_append]; rfl)
        have L3 := Lib.hid (show (paA i (xs.take (j + 1)) (Z.take (j + 1))).length = oa.length + 1 by rw [EA.out, List.length_append]; rfl)
        clear hF0 hB0 bW0 hF1 bW1 hB1 hF2 bW2 lU lV lA lB
        go_wp2_with (at_builtin; first | (refine Lib.wpList_append_run _ rfl _ _ _ _ rfl _ _ rfl rfl _ _ r1 ?_) | (refine Lib.wpList_append_run _ rfl _ _ _ _ rfl _ _ rfl rfl _ _ r2 ?_))
        go_roundw
        case rel => exact ⟨j + 1, D1, A2, D3, A4, e1, s2, e3, s4, by rw [L1.out], by rw [EV.out], by rw [L3.out], by rw [EB.out], by go_num, by omega, by rw [L1.out, L3.out, EU.out, EV.out, EA.out, EB.out]; exact HF2.out, HB2.out⟩
        case measure => simp [intOf]; omega
      · have t1 : decide ((a : Int) < (i : Int)) = false := by simp; omega
        have t1' : decide (a < i) = false := by simp; omega
        rw [if_neg (by omega : ¬ (a : Int) < (i : Int))] at eU eV eA eB
        have EU := Lib.hid eU
        have EV := Lib.hid eV
        have EA := Lib.hid eA
        have EB := Lib.hid eB
        obtain ⟨b, hb⟩ : ∃ b : Nat, b = a - i := ⟨_, rfl⟩
        have eb : (a : Int) - (i : Int) = (b : Int) := by omega
        have hbl : b ≤ 64 := by omega
        clear eU eV eA eB hx hb
        go_wp2_with fail
        have hBD := bt HBR.out (below_drewN (Below.refl _ _) 1)
        refine wp_region_heldX (X := fun k => ([] : List Nat).contains k) (S := fun W => W.cell? ⟨gE, oE + j, none⟩ = some (.int .i64 a) ∧ W.cell? ⟨gZ, oZ + j, none⟩ = some (.int .i64 z) ∧ W.cell? ⟨w.heap.size, 0, none⟩ = some (.int .i64 i) ∧ W.cell? ⟨w.heap.size, 1, none⟩ = some (.int .i64 st) ∧ W.cell? ⟨w.heap.size, 2, none⟩ = some (.slice A n c) ∧ W.cell? ⟨w.heap.size, 3, none⟩ = some (.slice B n d)) (by kernel_rfl) ?_
        refine wpAnyX_pure (i := 0) (v := ?_) rfl (by kernel_rfl) (by kernel_rfl) (by kernel_rfl) (fun _ _ _ h => h) (Or.inl ⟨by rfl, ?_⟩) ?_
        rotate_left
        · (intro W _; go_simp; try with_reducible rfl)
        (try simp only [Act.put, List.getElem_toArray, List.getElem_cons_zero, List.getElem_cons_succ, List.setIfInBounds_toArray, List.set_cons_zero, List.set_cons_succ])
        refine wpAnyX_pure (i := 1) (v := ?_) rfl (by kernel_rfl) (by kernel_rfl) (by kernel_rfl) (fun _ _ _ h => h) (Or.inl ⟨by rfl, ?_⟩) ?_
        rotate_left
        · (intro W _; go_simp; try with_reducible rfl)
        (try simp only [Act.put, List.getElem_toArray, List.getElem_cons_zero, List.getElem_cons_succ, List.setIfInBounds_toArray, List.set_cons_zero, List.set_cons_succ])
        refine wpAnyX_pure (i := 2) (v := ?_) rfl (by kernel_rfl) (by kernel_rfl) (by kernel_rfl) (fun _ _ _ h => h) (Or.inl ⟨by rfl, ?_⟩) ?_
        rotate_left
        · (intro W _; go_simp; try with_reducible rfl)
        (try simp only [Act.put, List.getElem_toArray, List.getElem_cons_zero, List.getElem_cons_succ, List.setIfInBounds_toArray, List.set_cons_zero, List.set_cons_succ])
        refine wpAnyX_takeL (L := []) (i := 3) (v := ?_) rfl (by kernel_rfl) (by kernel_rfl) (by kernel_rfl) (by kernel_rfl) (fun _ _ _ h => h) (Or.inl ⟨by rfl, ?_⟩) (HW.out _ hBD) ?_
        rotate_left
        · (intro W hSW; (try dsimp only at hSW); obtain ⟨z0, z1, z2, z3, z4, z5⟩ := hSW; go_simp; try with_reducible rfl)
        (try simp only [Act.put, List.getElem_toArray, List.getElem_cons_zero, List.getElem_cons_succ, List.setIfInBounds_toArray, List.set_cons_zero, List.set_cons_succ])
        refine wpAnyX_pure (i := 4) (v := ?_) rfl (by kernel_rfl) (by kernel_rfl) (by kernel_rfl) (fun _ _ _ h => h) (Or.inl ⟨by rfl, ?_⟩) ?_
        rotate_left
        · (intro W _; go_simp; try with_reducible rfl)
        (try simp only [Act.put, List.getElem_toArray, List.getElem_cons_zero, List.getElem_cons_succ, List.setIfInBounds_toArray, List.set_cons_zero, List.set_cons_succ])
        refine wpAnyX_takeL (L := []) (i := 5) (v := ?_) rfl (by kernel_rfl) (by kernel_rfl) (by kernel_rfl) (by kernel_rfl) (fun _ _ _ h => h) (Or.inl ⟨by rfl, ?_⟩) (HW.out _ hBD) ?_
        rotate_left
        · (intro W hSW; (try dsimp only at hSW); obtain ⟨z0, z1, z2, z3, z4, z5⟩ := hSW; go_simp; try with_reducible rfl)
        (try simp only [Act.put, List.getElem_toArray, List.getElem_cons_zero, List.getElem_cons_succ, List.setIfInBounds_toArray, List.set_cons_zero, List.set_cons_succ])
        refine wpAnyX_pure (i := 6) (v := ?_) rfl (by kernel_rfl) (by kernel_rfl) (by kernel_rfl) (fun _ _ _ h => h) (Or.inl ⟨by rfl, ?_⟩) ?_
        rotate_left
        · (intro W _; go_simp; try with_reducible rfl)
        (try simp only [Act.put, List.getElem_toArray, List.getElem_cons_zero, List.getElem_cons_succ, List.setIfInBounds_toArray, List.set_cons_zero, List.set_cons_succ])
        refine wpAnyX_done (by kernel_rfl) ?_ _
        obtain ⟨W0, hW0⟩ : ∃ W0, W0 = wr.drew := ⟨_, rfl⟩
        have bW0 : Below wr.heap.size wr W0 := by rw [hW0]; exact below_drewN (Below.refl _ _) 1
        rw [← hW0]
        have hB0 := bt HBR.out bW0
        have hF0 := HF.out.kept bW0
        clear hW0 hBD y0 y1 y2 y3 y4 y5
        have hgl := HM.out.grt_le
        have ew : IntKind.i64.wrap ((a : Int) - (i : Int)) = (b : Int) := by rw [eb]; exact IntWalk.i64_in _ (by omega)
        have f1 : IntKind.i64.wrap ((z : Int) - 1) = (z : Int) - 1 := IntWalk.i64_in _ (by omega)
        have f2 : IntKind.i64.wrap ((z : Int) - 1 - (grt ot : Int)) = (z : Int) - 1 - (grt ot : Int) := IntWalk.i64_in _ (by omega)
        rw [eb] at EV
        clear eb
        go_wp2_with fail
        refine wp_region_heldX (X := fun k => ([] : List Nat).contains k) (S := fun W => W.cell? ⟨gE, oE + j, none⟩ = some (.int .i64 a) ∧ W.cell? ⟨gZ, oZ + j, none⟩ = some (.int .i64 z) ∧ W.cell? ⟨w.heap.size, 0, none⟩ = some (.int .i64 i) ∧ W.cell? ⟨w.heap.size, 1, none⟩ = some (.int .i64 st) ∧ W.cell? ⟨w.heap.size, 2, none⟩ = some (.slice A n c) ∧ W.cell? ⟨w.heap.size, 3, none⟩ = some (.slice B n d)) (by kernel_rfl) ?_
        obtain ⟨V0, hV0⟩ : ∃ V0, V0 = W0.drew := ⟨_, rfl⟩
        have bV0 : Below W0.heap.size W0 V0 := by rw [hV0]; exact below_drewN (Below.refl _ _) 1
        rw [← hV0]
        have hBV := bt hB0 bV0
        obtain ⟨D2, e2, W1, r1, hF1, bW1⟩ := (hF0.kept bV0).swapB.app (b : Int) hBV.size (by omega)
        have hF1 := hF1.swapB
        have hB1 := hBV.trans bW1
        clear hV0 bV0 hF0 bW0 bW1
        refine wpAnyX_pure (i := 0) (v := ?_) rfl (by kernel_rfl) (by kernel_rfl) (by kernel_rfl) (fun _ _ _ h => h) (Or.inl ⟨by rfl, ?_⟩) ?_
        rotate_left
        · (intro W _; go_simp; try with_reducible rfl)
        (try simp only [Act.put, List.getElem_toArray, List.getElem_cons_zero, List.getElem_cons_succ, List.setIfInBounds_toArray, List.set_cons_zero, List.set_cons_succ])
        refine wpAnyX_pure (i := 1) (v := ?_) rfl (by kernel_rfl) (by kernel_rfl) (by kernel_rfl) (fun _ _ _ h => h) (Or.inl ⟨by rfl, ?_⟩) ?_
        rotate_left
        · (intro W _; go_simp; try with_reducible rfl)
        (try simp only [Act.put, List.getElem_toArray, List.getElem_cons_zero, List.getElem_cons_succ, List.setIfInBounds_toArray, List.set_cons_zero, List.set_cons_succ])
        refine wpAnyX_pure (i := 2) (v := ?_) rfl (by kernel_rfl) (by kernel_rfl) (by kernel_rfl) (fun _ _ _ h => h) (Or.inl ⟨by rfl, ?_⟩) ?_
        rotate_left
        · (intro W _; go_simp; try with_reducible rfl)
        (try simp only [Act.put, List.getElem_toArray, List.getElem_cons_zero, List.getElem_cons_succ, List.setIfInBounds_toArray, List.set_cons_zero, List.set_cons_succ])
        refine wpAnyX_pure (i := 3) (v := ?_) rfl (by kernel_rfl) (by kernel_rfl) (by kernel_rfl) (fun _ _ _ h => h) (Or.inl ⟨by rfl, ?_⟩) ?_
        rotate_left
        · (intro W _; go_simp; try with_reducible rfl)
        (try simp only [Act.put, List.getElem_toArray, List.getElem_cons_zero, List.getElem_cons_succ, List.setIfInBounds_toArray, List.set_cons_zero, List.set_cons_succ])
        refine wpAnyX_takeL (L := []) (i := 4) (v := ?_) rfl (by kernel_rfl) (by kernel_rfl) (by kernel_rfl) (by kernel_rfl) (fun _ _ _ h => h) (Or.inl ⟨by rfl, ?_⟩) (HW.out _ hBV) ?_
        rotate_left
        · (intro W hSW; (try dsimp only at hSW); obtain ⟨z0, z1, z2, z3, z4, z5⟩ := hSW; go_simp; try with_reducible rfl)
        (try simp only [Act.put, List.getElem_toArray, List.getElem_cons_zero, List.getElem_cons_succ, List.setIfInBounds_toArray, List.set_cons_zero, List.set_cons_succ])
        refine wpAnyX_pure (i := 5) (v := ?_) rfl (by kernel_rfl) (by kernel_rfl) (by kernel_rfl) (fun _ _ _ h => h) (Or.inl ⟨by rfl, ?_⟩) ?_
        rotate_left
        · (intro W _; go_simp; try with_reducible rfl)
        (try simp only [Act.put, List.getElem_toArray, List.getElem_cons_zero, List.getElem_cons_succ, List.setIfInBounds_toArray, List.set_cons_zero, List.set_cons_succ])
        refine wpAnyX_takeL (L := []) (i := 6) (v := ?_) rfl (by kernel_rfl) (by kernel_rfl) (by kernel_rfl) (by kernel_rfl) (fun _ _ _ h => h) (Or.inl ⟨by rfl, ?_⟩) (HW.out _ hBV) ?_
        rotate_left
        · (intro W hSW; (try dsimp only at hSW); obtain ⟨z0, z1, z2, z3, z4, z5⟩ := hSW; go_simp; try with_reducible rfl)
        (try simp only [Act.put, List.getElem_toArray, List.getElem_cons_zero, List.getElem_cons_succ, List.setIfInBounds_toArray, List.set_cons_zero, List.set_cons_succ])
        refine wpAnyX_pure (i := 7) (v := ?_) rfl (by kernel_rfl) (by kernel_rfl) (by kernel_rfl) (fun _ _ _ h => h) (Or.inl ⟨by rfl, ?_⟩) ?_
        rotate_left
        · (intro W _; go_simp; try with_reducible rfl)
        (try simp only [Act.put, List.getElem_toArray, List.getElem_cons_zero, List.getElem_cons_succ, List.setIfInBounds_toArray, List.set_cons_zero, List.set_cons_succ])
        refine wpAnyX_one (i := 8) rfl (by kernel_rfl) (fun K hK => ?_)
        go_simp
        refine hK.out _ _ (fun _ _ => HW.out _ (bt hBV (alloc_below _ _))) ?_
        (try simp only [Act.put, List.getElem_toArray, List.getElem_cons_zero, List.getElem_cons_succ, List.setIfInBounds_toArray, List.set_cons_zero, List.set_cons_succ])
        refine wpAnyX_one (i := 9) rfl (by kernel_rfl) (fun K hK => ?_)
        refine step_app rfl _ _ _ _ rfl _ _ rfl rfl _ _ r1 ?_
        refine hK.out _ _ (fun _ _ => HW.out _ hB1) ?_
        (try simp only [Act.put, List.getElem_toArray, List.getElem_cons_zero, List.getElem_cons_succ, List.setIfInBounds_toArray, List.set_cons_zero, List.set_cons_succ])
        refine wpAnyX_pure (i := 10) (v := ?_) rfl (by kernel_rfl) (by kernel_rfl) (by kernel_rfl) (fun _ _ _ h => h) (Or.inl ⟨by rfl, ?_⟩) ?_
        rotate_left
        · (intro W _; go_simp; try with_reducible rfl)
        (try simp only [Act.put, List.getElem_toArray, List.getElem_cons_zero, List.getElem_cons_succ, List.setIfInBounds_toArray, List.set_cons_zero, List.set_cons_succ])
        refine wpAnyX_done (by kernel_rfl) ?_ _
        clear r1 hBV hB0
        go_wp2_with fail
        refine wp_region_heldX (X := fun k => ([] : List Nat).contains k) (S := fun W => W.cell? ⟨gE, oE + j, none⟩ = some (.int .i64 a) ∧ W.cell? ⟨gZ, oZ + j, none⟩ = some (.int .i64 z) ∧ W.cell? ⟨w.heap.size, 0, none⟩ = some (.int .i64 i) ∧ W.cell? ⟨w.heap.size, 1, none⟩ = some (.int .i64 st) ∧ W.cell? ⟨w.heap.size, 2, none⟩ = some (.slice A n c) ∧ W.cell? ⟨w.heap.size, 3, none⟩ = some (.slice B n d)) (by kernel_rfl) ?_
        obtain ⟨V1, hV1⟩ : ∃ V1, V1 = W1.drew := ⟨_, rfl⟩
        have bV1 : Below W1.heap.size W1 V1 := by rw [hV1]; exact below_drewN (Below.refl _ _) 1
        rw [← hV1]
        have hBV := bt hB1 bV1
        have hF2 := hF1.kept bV1
        clear hV1 bV1 hF1 hB1
        refine wpAnyX_pure (i := 0) (v := ?_) rfl (by kernel_rfl) (by kernel_rfl) (by kernel_rfl) (fun _ _ _ h => h) (Or.inl ⟨by rfl, ?_⟩) ?_
        rotate_left
        · (intro W _; go_simp; try with_reducible rfl)
        (try simp only [Act.put, List.getElem_toArray, List.getElem_cons_zero, List.getElem_cons_succ, List.setIfInBounds_toArray, List.set_cons_zero, List.set_cons_succ])
        refine wpAnyX_pure (i := 1) (v := ?_) rfl (by kernel_rfl) (by kernel_rfl) (by kernel_rfl) (fun _ _ _ h => h) (Or.inl ⟨by rfl, ?_⟩) ?_
        rotate_left
        · (intro W _; go_simp; try with_reducible rfl)
        (try simp only [Act.put, List.getElem_toArray, List.getElem_cons_zero, List.getElem_cons_succ, List.setIfInBounds_toArray, List.set_cons_zero, List.set_cons_succ])
        refine wpAnyX_pure (i := 2) (v := ?_) rfl (by kernel_rfl) (by kernel_rfl) (by kernel_rfl) (fun _ _ _ h => h) (Or.inl ⟨by rfl, ?_⟩) ?_
        rotate_left
        · (intro W _; go_simp; try with_reducible rfl)
        (try simp only [Act.put, List.getElem_toArray, List.getElem_cons_zero, List.getElem_cons_succ, List.setIfInBounds_toArray, List.set_cons_zero, List.set_cons_succ])
        refine wpAnyX_pure (i := 3) (v := ?_) rfl (by kernel_rfl) (by kernel_rfl) (by kernel_rfl) (fun _ _ _ h => h) (Or.inl ⟨by rfl, ?_⟩) ?_
        rotate_left
        · (intro W _; go_simp; try with_reducible rfl)
        (try simp only [Act.put, List.getElem_toArray, List.getElem_cons_zero, List.getElem_cons_succ, List.setIfInBounds_toArray, List.set_cons_zero, List.set_cons_succ])
        refine wpAnyX_takeL (L := []) (i := 4) (v := ?_) rfl (by kernel_rfl) (by kernel_rfl) (by kernel_rfl) (by kernel_rfl) (fun _ _ _ h => h) (Or.inl ⟨by rfl, ?_⟩) (HW.out _ hBV) ?_
        rotate_left
        · (intro W hSW; (try dsimp only at hSW); obtain ⟨z0, z1, z2, z3, z4, z5⟩ := hSW; go_simp; try with_reducible rfl)
        (try simp only [Act.put, List.getElem_toArray, List.getElem_cons_zero, List.getElem_cons_succ, List.setIfInBounds_toArray, List.set_cons_zero, List.set_cons_succ])
        refine wpAnyX_pure (i := 5) (v := ?_) rfl (by kernel_rfl) (by kernel_rfl) (by kernel_rfl) (fun _ _ _ h => h) (Or.inl ⟨by rfl, ?_⟩) ?_
        rotate_left
        · (intro W _; go_simp; try with_reducible rfl)
        (try simp only [Act.put, List.getElem_toArray, List.getElem_cons_zero, List.getElem_cons_succ, List.setIfInBounds_toArray, List.set_cons_zero, List.set_cons_succ])
        refine wpAnyX_takeL (L := []) (i := 6) (v := ?_) rfl (by kernel_rfl) (by kernel_rfl) (by kernel_rfl) (by kernel_rfl) (fun _ _ _ h => h) (Or.inl ⟨by rfl, ?_⟩) (HW.out _ hBV) ?_
        rotate_left
        · (intro W hSW; (try dsimp only at hSW); obtain ⟨z0, z1, z2, z3, z4, z5⟩ := hSW; go_simp; try with_reducible rfl)
        (try simp only [Act.put, List.getElem_toArray, List.getElem_cons_zero, List.getElem_cons_succ, List.setIfInBounds_toArray, List.set_cons_zero, List.set_cons_succ])
        refine wpAnyX_one (i := 7) rfl (by kernel_rfl) (fun K hK => ?_)
        go_simp
        go_at_call 44
        refine (rgreatest i st n A B c d nx ot _ (HX1.out _ (bt HBC.out hBV)) (HO1.out _ (bt HBC.out hBV)) HM.out).mono ?_
        rintro e w9 ⟨rfl, b9⟩
        have hB9 := bt hBV b9
        obtain ⟨D4, e4, W2, r2, hF3, bW2⟩ := (hF2.kept b9).swapD.app ((z : Int) - 1 - (grt ot : Int)) hB9.size (by omega)
        have hF3 := hF3.swapD
        have hB3 := hB9.trans bW2
        clear hF2 b9 bW2
        refine hK.out _ _ (fun _ _ => HW.out _ hB9) ?_
        (try simp only [Act.put, List.getElem_toArray, List.getElem_cons_zero, List.getElem_cons_succ, List.setIfInBounds_toArray, List.set_cons_zero, List.set_cons_succ])
        refine wpAnyX_pure (i := 8) (v := ?_) rfl (by kernel_rfl) (by kernel_rfl) (by kernel_rfl) (fun _ _ _ h => h) (Or.inl ⟨by rfl, ?_⟩) ?_
        rotate_left
        · (intro W _; go_simp; try with_reducible rfl)
        (try simp only [Act.put, List.getElem_toArray, List.getElem_cons_zero, List.getElem_cons_succ, List.setIfInBounds_toArray, List.set_cons_zero, List.set_cons_succ])
        refine wpAnyX_one (i := 9) rfl (by kernel_rfl) (fun K hK => ?_)
        go_simp
        refine hK.out _ _ (fun _ _ => HW.out _ (bt hB9 (alloc_below _ _))) ?_
        (try simp only [Act.put, List.getElem_toArray, List.getElem_cons_zero, List.getElem_cons_succ, List.setIfInBounds_toArray, List.set_cons_zero, List.set_cons_succ])
        refine wpAnyX_one (i := 10) rfl (by kernel_rfl) (fun K hK => ?_)
        refine step_app rfl _ _ _ _ rfl _ _ rfl rfl _ _ r2 ?_
        refine hK.out _ _ (fun _ _ => HW.out _ hB3) ?_
        (try simp only [Act.put, List.getElem_toArray, List.getElem_cons_zero, List.getElem_cons_succ, List.setIfInBounds_toArray, List.set_cons_zero, List.set_cons_succ])
        refine wpAnyX_pure (i := 11) (v := ?_) rfl (by kernel_rfl) (by kernel_rfl) (by kernel_rfl) (fun _ _ _ h => h) (Or.inl ⟨by rfl, ?_⟩) ?_
        rotate_left
        · (intro W _; go_simp; try with_reducible rfl)
        (try simp only [Act.put, List.getElem_toArray, List.getElem_cons_zero, List.getElem_cons_succ, List.setIfInBounds_toArray, List.set_cons_zero, List.set_cons_succ])
        refine wpAnyX_done (by kernel_rfl) ?_ _
        have HB2 := Lib.hid hB3
        have HF2 := Lib.hid hF3
        have L2 := Lib.hid (show (paV i (xs.take (j + 1))).length = v.length + 1 by rw [EV.out, List.length_append]; rfl)
        have L4 := Lib.hid (show (paB i (grt ot) (xs.take (j + 1)) (Z.take (j + 1))).length = ob.length + 1 by rw [EB.out, List.length_append]; rfl)
        clear hF3 hB3 hB9 hBV r2 lU lV lA lB ew f1 f2
        go_wp2_with fail
        go_roundw
        case rel => exact ⟨j + 1, A1, D2, A3, D4, s1, e2, s3, e4, by rw [EU.out], by rw [L2.out], by rw [EA.out], by rw [L4.out], by go_num, by omega, by rw [L2.out, L4.out, EU.out, EV.out, EA.out, EB.out]; exact HF2.out, HB2.out⟩
        case measure => simp [intOf]; omega
    · have hbc := bt HBC.out hbr
      have tX : xs.take j = xs := List.take_of_length_le (by rw [HLX.out]; omega)
      have tZ : Z.take j = Z := List.take_of_length_le (by rw [HLZ.out]; omega)
      have lU := paU_len i xs
      have lV := paV_len i xs
      rw [HLX.out] at lU lV
      obtain ⟨q1, q2, q3, q4⟩ := HE4.out
      rw [tX, tZ, q1, q2] at hF ⊢
      rw [runO_len, runO_len] at hF ⊢
      obtain ⟨u, hu⟩ : ∃ u, u = paU i xs := ⟨_, rfl⟩
      obtain ⟨v, hv⟩ : ∃ v, v = paV i xs := ⟨_, rfl⟩
      rw [← hu, ← hv] at hF ⊢
      rw [← hu] at q3 lU
      rw [← hv] at q4 lV
      have HC1 := Lib.hid q3
      have HC2 := Lib.hid q4
      have hxl := runO_len nx ot u st
      have hyl := runO_len nx' ot' v st'
      obtain ⟨X, hX⟩ : ∃ X, X = runO nx ot st u := ⟨_, rfl⟩
      obtain ⟨Y, hY⟩ : ∃ Y, Y = runO nx' ot' st' v := ⟨_, rfl⟩
      rw [← hX, ← hY] at hF
      rw [← hX] at hxl
      rw [← hY] at hyl
      have HXX := Lib.hid hX
      have HYY := Lib.hid hY
      have HXL := Lib.hid hxl
      have HYL := Lib.hid hyl
      have HF := Lib.hid hF
      obtain ⟨k0, k1, k2, k3, _⟩ := (HG1.out _ hbc).cells
      have hJ : j = ln := by omega
      have HJ := Lib.hid hJ
      clear tX tZ q1 q2 q3 q4 hu hv hX hY hxl hyl hF hJ
      go_wp2_with fail
      refine (prunw i st A B A1 n c n d u.length s1 nx ot u wr (HX1.out _ hbc) (HO1.out _ hbc) (HF.out.oa.ints (by omega))).mono ?_
      rintro e w9 ⟨A9, c9, rfl, o9, a9⟩
      rw [frm_two HM.out, if_pos HC1.out] at o9 ⊢
      dsimp only at o9 ⊢
      rw [← HXX.out] at o9 ⊢
      rw [HXL.out] at o9 ⊢
      have hF9 := HF.out.kept a9
      have hbc := bt hbc a9
      obtain ⟨l0, l1, l2, l3, _⟩ := (HG2.out _ hbc).cells
      clear k0 k1 k2 k3 a9
      go_wp2_with fail
      refine (prunw i' st' C D A2 n2 c2 n2 d2 v.length s2 nx' ot' v w9 (HX2.out _ hbc) (HO2.out _ hbc) (hF9.ob.ints (by omega))).mono ?_
      rintro e wa ⟨Aa, ca, rfl, oa, aa⟩
      rw [frm_two HM'.out, if_pos HC2.out] at oa ⊢
      dsimp only at oa ⊢
      rw [← HYY.out] at oa ⊢
      rw [HYL.out] at oa ⊢
      have hFa := hF9.kept aa
      have HQ1 := Lib.hid (requal A9 A3 u.length c9 u.length s3 X X true wa ((o9.kept aa).ints (by rw [HXL.out]; omega)) (hFa.oc.ints (by rw [HXL.out]; omega)) (by simp))
      have HI1 := Lib.hid (oa.ints (by rw [HYL.out]; omega))
      have HI2 := Lib.hid (hFa.od.ints (by rw [HYL.out]; omega))
      have hbc := bt hbc aa
      clear l0 l1 l2 l3 aa hF9 hFa oa o9
      go_wp2_with fail
      refine HQ1.out.mono ?_
      rintro e wb ⟨rfl, hq⟩
      have ab := rd_below hq
      have hbc := bt hbc ab
      clear hq
      go_wp2_with fail
      refine (requal Aa A4 v.length ca v.length s4 Y Y true wb (HI1.out.below ab) (HI2.out.below ab) (by simp)).mono ?_
      rintro e wc ⟨rfl, hq⟩
      have hbc := bt hbc (rd_below hq)
      clear hq ab
      go_wp2_with fail
      refine (awake14 _).mono ?_
      rintro e wz ⟨rfl, az⟩
      have hbz := bt HB0.out (bt hbc az)
      go_wp2_with fail
      go_ret
      exact ⟨rfl, hbz⟩
end Go.Proofs.Ytogcecfeofbbnaa
end
