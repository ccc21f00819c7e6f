/- Lemmas of the proofs of this seat, of the parts Gcx, Rcp14, L14g. Conditions: none. -/
import Derived.Test.YtogcecfeofbbnaaNag
import Derived.Test.YtogcecfeofbbnaaNad
import Derived.Test.YtogcecfeofbbnaaNbi
import Derived.Test.YtogcecfeofbbnaaNaf
import Derived.Test.YtogcecfeofbbnaaNah
section
/- What Product, Parallel and Cascade answer, valid or not. -/
namespace Go.Proofs.Ytogcecfeofbbnaa
open Go.RowKit

/-- A machine with Start 0, and an error. -/
abbrev RsX := Nat × List (List Int) × List (List Int) × Int
def RsP (X : RsX) (e : Ending) (w' : World) : Prop := ∃ A c B d, e = .returned (.tuple #[.agg #[.int .i64 X.1, .int .i64 0, .slice A X.2.1.length c, .slice B X.2.2.1.length d], .int .i64 X.2.2.2]) ∧ Lists w' A X.2.1.length X.2.1 ∧ Lists w' B X.2.2.1.length X.2.2.1
def cmpX (F : Nat × Nat → Nat → Nat × Nat) (O : Nat × Nat → Nat → Nat) (i n m s t : Nat) : RsX := if Fits O i (fdG F i n m s t) then (i, autN F i (fdG F i n m s t), outN O i (fdG F i n m s t), 0) else (0, [], [], 11)
def noX (v : Int) : RsX := (0, [], [], v)
theorem Lists.none (w : World) : Lists w none 0 [] := ⟨rfl, by omega, fun h => absurd h (by omega)⟩
theorem NoM.rs (v : Int) (w' : World) : RsP (noX v) (NoM v) w' := ⟨none, 0, none, 0, rfl, Lists.none _, Lists.none _⟩
theorem MacP.rs {base i n m s t : Nat} {F : Nat × Nat → Nat → Nat × Nat} {O : Nat × Nat → Nat → Nat} {e : Ending} {w' : World} (hF : Stp F i n m) (hs : s < n) (ht : t < m) (hi1 : 1 ≤ i) (hi : i ≤ 64)
    (h : MacP base i (autN F i (fdG F i n m s t)) (outN O i (fdG F i n m s t)) (fdG F i n m s t).length (Fits O i (fdG F i n m s t)) e w') : RsP (cmpX F O i n m s t) e w' := by
  unfold cmpX
  rcases h with ⟨hok, A, c, B, d, rfl, o1, o2⟩ | ⟨hok, rfl⟩
  · rw [if_pos hok]
    have hM := fdG_mok hF hs ht hi1 hi rfl hok
    refine ⟨A, c, B, d, ?_, ?_, ?_⟩
    · show _ = Ending.returned (.tuple #[.agg #[_, _, .slice A (autN F i (fdG F i n m s t)).length c, .slice B (outN O i (fdG F i n m s t)).length d], _])
      rw [autN_len, outN_len]
    · show Lists w' A (autN F i (fdG F i n m s t)).length (autN F i (fdG F i n m s t))
      rw [autN_len]; exact lists_ownedM hM o1
    · show Lists w' B (outN O i (fdG F i n m s t)).length (outN O i (fdG F i n m s t))
      rw [outN_len]; exact lists_ownedO hM o2
  · rw [if_neg hok]
    exact NoM.rs 11 w'
def prX (i1 st1 : Int) (nx ot : List (List Int)) (i2 st2 : Int) (nx' ot' : List (List Int)) : RsX :=
  if vld2m i1 st1 nx ot i2 st2 nx' ot' = 0 then (if i1 = i2 then cmpX (prF nx nx') (prO ot ot' (grt ot')) i1.toNat nx.length nx'.length st1.toNat st2.toNat else noX 15) else noX (vld2m i1 st1 nx ot i2 st2 nx' ot')
def paX (i1 st1 : Int) (nx ot : List (List Int)) (i2 st2 : Int) (nx' ot' : List (List Int)) : RsX :=
  if vld2m i1 st1 nx ot i2 st2 nx' ot' = 0 then (if i1 + i2 ≤ 64 then cmpX (paF i1.toNat nx nx') (paO i1.toNat ot ot' (grt ot)) (i1.toNat + i2.toNat) nx.length nx'.length st1.toNat st2.toNat else noX 2) else noX (vld2m i1 st1 nx ot i2 st2 nx' ot')
def caX (i1 st1 : Int) (nx ot : List (List Int)) (i2 st2 : Int) (nx' ot' : List (List Int)) : RsX :=
  if vld2m i1 st1 nx ot i2 st2 nx' ot' = 0 then (if (grt ot : Int) < i2 then cmpX (caF nx ot nx') (caO ot ot') i1.toNat nx.length nx'.length st1.toNat st2.toNat else noX 2) else noX (vld2m i1 st1 nx ot i2 st2 nx' ot')
section
variable {i st n i' st' n' : Nat} {nx ot nx' ot' : List (List Int)}
theorem vld2m_ok (hM : Mok i st n nx ot) (hM' : Mok i' st' n' nx' ot') : vld2m i st nx ot i' st' nx' ot' = 0 := by unfold vld2m; rw [if_pos hM.vld]; exact hM'.vld
theorem vld2m_zero {i1 st1 i2 st2 : Int} (h : vld2m i1 st1 nx ot i2 st2 nx' ot' = 0) : ∃ i st n i' st' n' : Nat, i1 = i ∧ st1 = st ∧ i2 = i' ∧ st2 = st' ∧ Mok i st n nx ot ∧ Mok i' st' n' nx' ot' := by
  unfold vld2m at h
  by_cases h1 : vld i1 st1 nx ot = 0
  · rw [if_pos h1] at h
    obtain ⟨i, st, n, e1, e2, hM⟩ := vld_zero h1
    obtain ⟨i', st', n', e3, e4, hM'⟩ := vld_zero h
    exact ⟨i, st, n, i', st', n', e1, e2, e3, e4, hM, hM'⟩
  · rw [if_neg h1] at h; exact absurd h h1
theorem prX_ok (hM : Mok i st n nx ot) (hM' : Mok i st' n' nx' ot') : prX i st nx ot i st' nx' ot' = cmpX (prF nx nx') (prO ot ot' (grt ot')) i n n' st st' := by
  unfold prX; rw [if_pos (vld2m_ok hM hM'), if_pos rfl, hM.nxl, hM'.nxl]; simp only [Int.toNat_natCast]
theorem prX_no (hM : Mok i st n nx ot) (hM' : Mok i' st' n' nx' ot') (h : ¬ i = i') : prX i st nx ot i' st' nx' ot' = noX 15 := by
  unfold prX; rw [if_pos (vld2m_ok hM hM'), if_neg (by omega)]
theorem paX_ok (hM : Mok i st n nx ot) (hM' : Mok i' st' n' nx' ot') (h : i + i' ≤ 64) : paX i st nx ot i' st' nx' ot' = cmpX (paF i nx nx') (paO i ot ot' (grt ot)) (i + i') n n' st st' := by
  unfold paX; rw [if_pos (vld2m_ok hM hM'), if_pos (by omega), hM.nxl, hM'.nxl]; simp only [Int.toNat_natCast]
theorem paX_no (hM : Mok i st n nx ot) (hM' : Mok i' st' n' nx' ot') (h : ¬ i + i' ≤ 64) : paX i st nx ot i' st' nx' ot' = noX 2 := by
  unfold paX; rw [if_pos (vld2m_ok hM hM'), if_neg (by omega)]
theorem caX_ok (hM : Mok i st n nx ot) (hM' : Mok i' st' n' nx' ot') (h : grt ot < i') : caX i st nx ot i' st' nx' ot' = cmpX (caF nx ot nx') (caO ot ot') i n n' st st' := by
  unfold caX; rw [if_pos (vld2m_ok hM hM'), if_pos (by omega), hM.nxl, hM'.nxl]; simp only [Int.toNat_natCast]
theorem caX_no (hM : Mok i st n nx ot) (hM' : Mok i' st' n' nx' ot') (h : ¬ grt ot < i') : caX i st nx ot i' st' nx' ot' = noX 2 := by
  unfold caX; rw [if_pos (vld2m_ok hM hM'), if_neg (by omega)]
theorem xX_bad {i1 st1 i2 st2 : Int} (h : ¬ vld2m i1 st1 nx ot i2 st2 nx' ot' = 0) : prX i1 st1 nx ot i2 st2 nx' ot' = noX (vld2m i1 st1 nx ot i2 st2 nx' ot') ∧ paX i1 st1 nx ot i2 st2 nx' ot' = noX (vld2m i1 st1 nx ot i2 st2 nx' ot') ∧ caX i1 st1 nx ot i2 st2 nx' ot' = noX (vld2m i1 st1 nx ot i2 st2 nx' ot') := by
  unfold prX paX caX; rw [if_neg h, if_neg h, if_neg h]; exact ⟨rfl, rfl, rfl⟩
end
section
variable (i1 st1 i2 st2 : Int) (A B A' B' : Option Addr) (n c m d n2 c2 m2 d2 : Nat) (nx ot nx' ot' : List (List Int)) (w : World)
theorem pproduct_all (hx : Lists w A n nx) (ho : Lists w B m ot) (hx' : Lists w A' n2 nx') (ho' : Lists w B' m2 ot') :
    Calls Try.prog 32 #[.agg #[.int .i64 i1, .int .i64 st1, .slice A n c, .slice B m d], .agg #[.int .i64 i2, .int .i64 st2, .slice A' n2 c2, .slice B' m2 d2]] w fun e w' => RsP (prX i1 st1 nx ot i2 st2 nx' ot') e w' ∧ Below w.heap.size w w' := by
  by_cases hv : vld2m i1 st1 nx ot i2 st2 nx' ot' = 0
  · obtain ⟨i, st, k, i', st', k', rfl, rfl, rfl, rfl, hM, hM'⟩ := vld2m_zero hv
    obtain rfl : n = k := by rw [← hM.nxl]; exact hx.1.symm
    obtain rfl : n = m := by rw [← hM.otl]; exact ho.1
    obtain rfl : n2 = k' := by rw [← hM'.nxl]; exact hx'.1.symm
    obtain rfl : n2 = m2 := by rw [← hM'.otl]; exact ho'.1
    by_cases h : i = i'
    · subst h
      refine (pproduct i st n st' n2 A B A' B' c d c2 d2 nx ot nx' ot' w hx ho hx' ho' hM hM').mono ?_
      rintro e w' ⟨h1, h2⟩
      rw [prX_ok hM hM']
      exact ⟨h1.rs (pr_stp hM hM') hM.st hM'.st hM.i1 hM.i2, h2⟩
    · refine (pproduct_con i st n i' st' n2 A B A' B' c d c2 d2 nx ot nx' ot' w hx ho hx' ho' hM hM' h).mono ?_
      rintro e w' ⟨rfl, h2⟩
      rw [prX_no hM hM' h]
      exact ⟨NoM.rs _ _, h2⟩
  · refine (pproduct_bad i1 st1 i2 st2 n m n2 m2 A B A' B' c d c2 d2 nx ot nx' ot' w hx ho hx' ho' hv).mono ?_
    rintro e w' ⟨rfl, h2⟩
    rw [(xX_bad hv).1]
    exact ⟨NoM.rs _ _, h2⟩
theorem pparallel_all (hx : Lists w A n nx) (ho : Lists w B m ot) (hx' : Lists w A' n2 nx') (ho' : Lists w B' m2 ot') :
    Calls Try.prog 34 #[.agg #[.int .i64 i1, .int .i64 st1, .slice A n c, .slice B m d], .agg #[.int .i64 i2, .int .i64 st2, .slice A' n2 c2, .slice B' m2 d2]] w fun e w' => RsP (paX i1 st1 nx ot i2 st2 nx' ot') e w' ∧ Below w.heap.size w w' := by
  by_cases hv : vld2m i1 st1 nx ot i2 st2 nx' ot' = 0
  · obtain ⟨i, st, k, i', st', k', rfl, rfl, rfl, rfl, hM, hM'⟩ := vld2m_zero hv
    obtain rfl : n = k := by rw [← hM.nxl]; exact hx.1.symm
    obtain rfl : n = m := by rw [← hM.otl]; exact ho.1
    obtain rfl : n2 = k' := by rw [← hM'.nxl]; exact hx'.1.symm
    obtain rfl : n2 = m2 := by rw [← hM'.otl]; exact ho'.1
    by_cases h : i + i' ≤ 64
    · refine (pparallel i st n i' st' n2 (i + i') A B A' B' c d c2 d2 nx ot nx' ot' w hx ho hx' ho' hM hM' rfl h).mono ?_
      rintro e w' ⟨h1, h2⟩
      rw [paX_ok hM hM' h]
      exact ⟨h1.rs (pa_stp hM hM') hM.st hM'.st (by have := hM.i1; omega) h, h2⟩
    · refine (pparallel_big i st n i' st' n2 A B A' B' c d c2 d2 nx ot nx' ot' w hx ho hx' ho' hM hM' (by omega)).mono ?_
      rintro e w' ⟨rfl, h2⟩
      rw [paX_no hM hM' h]
      exact ⟨NoM.rs _ _, h2⟩
  · refine (pparallel_bad i1 st1 i2 st2 n m n2 m2 A B A' B' c d c2 d2 nx ot nx' ot' w hx ho hx' ho' hv).mono ?_
    rintro e w' ⟨rfl, h2⟩
    rw [(xX_bad hv).2.1]
    exact ⟨NoM.rs _ _, h2⟩
theorem pcascade_all (hx : Lists w A n nx) (ho : Lists w B m ot) (hx' : Lists w A' n2 nx') (ho' : Lists w B' m2 ot') :
    Calls Try.prog 36 #[.agg #[.int .i64 i1, .int .i64 st1, .slice A n c, .slice B m d], .agg #[.int .i64 i2, .int .i64 st2, .slice A' n2 c2, .slice B' m2 d2]] w fun e w' => RsP (caX i1 st1 nx ot i2 st2 nx' ot') e w' ∧ Below w.heap.size w w' := by
  by_cases hv : vld2m i1 st1 nx ot i2 st2 nx' ot' = 0
  · obtain ⟨i, st, k, i', st', k', rfl, rfl, rfl, rfl, hM, hM'⟩ := vld2m_zero hv
    obtain rfl : n = k := by rw [← hM.nxl]; exact hx.1.symm
    obtain rfl : n = m := by rw [← hM.otl]; exact ho.1
    obtain rfl : n2 = k' := by rw [← hM'.nxl]; exact hx'.1.symm
    obtain rfl : n2 = m2 := by rw [← hM'.otl]; exact ho'.1
    by_cases h : grt ot < i'
    · refine (pcascade i st n i' st' n2 A B A' B' c d c2 d2 nx ot nx' ot' w hx ho hx' ho' hM hM' h).mono ?_
      rintro e w' ⟨h1, h2⟩
      rw [caX_ok hM hM' h]
      exact ⟨h1.rs (ca_stp hM hM' fun s a hs ha => Nat.lt_of_le_of_lt (hM.oM_grt hs ha) h) hM.st hM'.st hM.i1 hM.i2, h2⟩
    · refine (pcascade_bad2 i st n i' st' n2 A B A' B' c d c2 d2 nx ot nx' ot' w hx ho hx' ho' hM hM' h).mono ?_
      rintro e w' ⟨rfl, h2⟩
      rw [caX_no hM hM' h]
      exact ⟨NoM.rs _ _, h2⟩
  · refine (pcascade_bad i1 st1 i2 st2 n m n2 m2 A B A' B' c d c2 d2 nx ot nx' ot' w hx ho hx' ho' hv).mono ?_
    rintro e w' ⟨rfl, h2⟩
    rw [(xX_bad hv).2.2]
    exact ⟨NoM.rs _ _, h2⟩
end
end Go.Proofs.Ytogcecfeofbbnaa
end

section
/- Product, Parallel, Cascade of the reference. -/
namespace Go.Proofs.Ytogcecfeofbbnaa
open Go.RowKit

theorem prO_le {i st n st' n' : Nat} {nx ot nx' ot' : List (List Int)} (hM : Mok i st n nx ot) (hM' : Mok i st' n' nx' ot') (p q x : Nat) (hp : p < n) (hq : q < n') (hx : x < i) : prO ot ot' (grt ot') (p, q) x ≤ 4611686018427387904 := by
  have h1 := hM.oM_le hp hx
  have h2 := hM'.oM_le hq hx
  have h4 := hM'.grt_le
  have h3 : oM ot p x * (1 + grt ot') ≤ 1048576 * 1048577 := Nat.mul_le_mul h1 (by omega)
  have h5 : prO ot ot' (grt ot') (p, q) x = oM ot p x * (1 + grt ot') + oM ot' q x := rfl
  rw [h5]
  omega
theorem stpV_pr (nx ot nx' ot' : List (List Int)) (p q x : Nat) : stpV (nN nx p x, nN nx' q x) (oM ot p x * (1 + grt ot') + oM ot' q x) = stpV (prF nx nx' (p, q) x) (prO ot ot' (grt ot') (p, q) x) := rfl
set_option maxHeartbeats 2000000 in
set_option maxRecDepth 100000 in
theorem rcheck14 (i1 st1 i2 st2 : Int) (A B C D : Option Addr) (n c m d n2 c2 m2 d2 : Nat) (nx1 ot1 nx2 ot2 : List (List Int)) (w : World) (hx1 : Lists w A n nx1) (ho1 : Lists w B m ot1) (hx2 : Lists w C n2 nx2) (ho2 : Lists w D m2 ot2) :
    Calls Try.prog 71 #[.agg #[.int .i64 i1, .int .i64 st1, .slice A n c, .slice B m d], .agg #[.int .i64 i2, .int .i64 st2, .slice C n2 c2, .slice D m2 d2]] w fun e w' => e = .returned (.int .i64 (vld2m i1 st1 nx1 ot1 i2 st2 nx2 ot2)) ∧ Below w.heap.size w w' := by
  obtain ⟨w0, hw0, hb0, hB1, hB2, hz0⟩ := pair_boxesM w i1 st1 i2 st2 A B C D n c m d n2 c2 m2 d2
  have HW0 := Lib.hid hw0
  have HB0 := Lib.hid hb0
  have HX1 := Lib.hid (hx1.below hb0)
  have HO1 := Lib.hid (ho1.below hb0)
  have HX2 := Lib.hid (hx2.below hb0)
  have HO2 := Lib.hid (ho2.below hb0)
  have HB2 := Lib.hid hB2
  obtain ⟨k0, k1, k2, k3, _⟩ := hB1.cells
  rw [HW0.out] at k0 k1 k2 k3
  clear hw0 hb0 hB1 hB2 hz0 hx1 ho1 hx2 ho2
  go_enter Try.func71, Try.ntmps71
  go_wp2_with fail
  rw [← HW0.out]
  refine (rvalid _ _ _ _ _ _ _ _ _ _ _ HX1.out HO1.out).mono ?_
  rintro e w1 ⟨rfl, b1⟩
  clear k0 k1 k2 k3
  by_cases hv : vld i1 st1 nx1 ot1 = 0
  · rw [hv]
    have HE := Lib.hid (show vld2m i1 st1 nx1 ot1 i2 st2 nx2 ot2 = vld i2 st2 nx2 ot2 by unfold vld2m; rw [if_pos hv])
    obtain ⟨l0, l1, l2, l3, _⟩ := (HB2.out.on b1).cells
    have HB1 := Lib.hid b1
    clear hv b1
    go_wp2_with fail
    refine (rvalid _ _ _ _ _ _ _ _ _ _ _ (HX2.out.below HB1.out) (HO2.out.below HB1.out)).mono ?_
    rintro e w2 ⟨rfl, b2⟩
    have HB3 := Lib.hid (bt HB0.out (bt HB1.out b2))
    clear b2
    go_wp2_with fail
    go_ret
    exact ⟨by rw [HE.out]; rfl, HB3.out⟩
  · obtain ⟨x, hx0, hxe⟩ : ∃ x, ¬ x = 0 ∧ vld i1 st1 nx1 ot1 = x := ⟨_, hv, rfl⟩
    have HE := Lib.hid (show vld2m i1 st1 nx1 ot1 i2 st2 nx2 ot2 = x by unfold vld2m; rw [if_neg hv]; exact hxe)
    have HB1 := Lib.hid (bt HB0.out b1)
    have t1 : (x != 0) = true := by simpa using hx0
    rw [hxe]
    clear hv hxe b1
    go_wp2_with fail
    go_ret
    exact ⟨by rw [HE.out]; rfl, HB1.out⟩
set_option linter.unusedSimpArgs false in
set_option linter.unusedVariables false in
set_option maxHeartbeats 4000000 in
set_option maxRecDepth 100000 in
theorem rproduct_all (i1 st1 i2 st2 : Int) (A B A' B' : Option Addr) (n c m d n2 c2 m2 d2 : Nat) (nx ot nx' ot' : List (List Int)) (w : World) (hx : Lists w A n nx) (ho : Lists w B m ot) (hx' : Lists w A' n2 nx') (ho' : Lists w B' m2 ot') :
    Calls Try.prog 33 #[.agg #[.int .i64 i1, .int .i64 st1, .slice A n c, .slice B m d], .agg #[.int .i64 i2, .int .i64 st2, .slice A' n2 c2, .slice B' m2 d2]] w fun e w' => RsP (prX i1 st1 nx ot i2 st2 nx' ot') e w' ∧ Below w.heap.size w w' := by
  obtain ⟨w0, hw0, hb0, hG, hG', hR, hz0⟩ := three_boxesM w i1 st1 i2 st2 A B A' B' n c m d n2 c2 m2 d2
  obtain ⟨k0, k1, k2, k3, _⟩ := hG.cells
  obtain ⟨j0, j1, j2, j3, _⟩ := hG'.cells
  have HX := Lib.hid (fun (W : World) (h : Below w0.heap.size w0 W) => (hx.below hb0).below h)
  have HO := Lib.hid (fun (W : World) (h : Below w0.heap.size w0 W) => (ho.below hb0).below h)
  have HX' := Lib.hid (fun (W : World) (h : Below w0.heap.size w0 W) => (hx'.below hb0).below h)
  have HO' := Lib.hid (fun (W : World) (h : Below w0.heap.size w0 W) => (ho'.below hb0).below h)
  have HW0 := Lib.hid hw0
  have HB0 := Lib.hid hb0
  have HG := Lib.hid hG
  have HG' := Lib.hid hG'
  have HR := Lib.hid hR
  have HZ := Lib.hid hz0
  clear hw0 hb0 hG hG' hR hz0 hx ho hx' ho'
  rw [HW0.out] at k0 k1 k2 k3 j0 j1 j2 j3
  go_enter Try.func33, Try.ntmps33
  go_wp2_with fail
  rw [← HW0.out]
  refine (rcheck14 _ _ _ _ _ _ _ _ _ _ _ _ _ _ _ _ _ _ _ _ _ (HX.out _ (Below.refl _ _)) (HO.out _ (Below.refl _ _)) (HX'.out _ (Below.refl _ _)) (HO'.out _ (Below.refl _ _))).mono ?_
  rintro e w1 ⟨rfl, hbc⟩
  clear k0 k1 k2 k3 j0 j1 j2 j3
  by_cases hv : vld2m i1 st1 nx ot i2 st2 nx' ot' = 0
  case neg =>
    obtain ⟨x, hx0, hxe⟩ : ∃ x, ¬ x = 0 ∧ vld2m i1 st1 nx ot i2 st2 nx' ot' = x := ⟨_, hv, rfl⟩
    have HE := Lib.hid (show prX i1 st1 nx ot i2 st2 nx' ot' = noX x by rw [(xX_bad hv).1, hxe])
    have t1 : (x != 0) = true := by simpa using hx0
    rw [hxe]
    clear hv hxe
    have HRr := Lib.hid (HR.out.on hbc)
    obtain ⟨q0, q1, q2, q3, z0, z1, z2, z3⟩ := HRr.out.cells
    have HBC := Lib.hid hbc
    clear hbc
    go_wp2_with fail
    refine bodyPost_ret (results_mealy rfl _ _ (w.heap.size + 1 + 1) (.int .i64 0) (.int .i64 0) (.slice none 0 0) (.slice none 0 0) rfl (HRr.out.set4 _ _ _ _)) rfl ?_
    exact ⟨by rw [HE.out]; exact NoM.rs x _, below_set4 (by omega) (bt HB0.out HBC.out) _ _ _ _⟩
  rw [hv]
  obtain ⟨i, st, k, i', st', k', rfl, rfl, rfl, rfl, hM, hM'⟩ := vld2m_zero hv
  obtain rfl : n = k := by rw [← hM.nxl]; exact (HX.out _ (Below.refl _ _)).1.symm
  obtain rfl : n = m := by rw [← hM.otl]; exact (HO.out _ (Below.refl _ _)).1
  obtain rfl : n2 = k' := by rw [← hM'.nxl]; exact (HX'.out _ (Below.refl _ _)).1.symm
  obtain rfl : n2 = m2 := by rw [← hM'.otl]; exact (HO'.out _ (Below.refl _ _)).1
  have hi1 := hM.i1
  have hi2 := hM.i2
  have hi1' := hM'.i1
  have hi2' := hM'.i2
  have hn2 := hM.n2
  have hn2' := hM'.n2
  have hgr := hM.grt_le
  have hgr' := hM'.grt_le
  have HM := Lib.hid hM
  have HM' := Lib.hid hM'
  clear hv hM hM'
  obtain ⟨k0, k1, k2, k3, _⟩ := (HG.out.on hbc).cells
  obtain ⟨j0, j1, j2, j3, _⟩ := (HG'.out.on hbc).cells
  by_cases hc : i = i'
  case neg =>
    have HE := Lib.hid (show prX i st nx ot i' st' nx' ot' = noX 15 from prX_no HM.out HM'.out hc)
    have t1 : ((i : Int) != (i' : Int)) = true := by simp; omega
    have t1' : (i != i') = true := by simp; omega
    clear hc

    have HRr := Lib.hid (HR.out.on hbc)
    obtain ⟨q0, q1, q2, q3, z0, z1, z2, z3⟩ := HRr.out.cells
    have HBC := Lib.hid hbc
    clear hbc
    go_wp2_with fail
    refine bodyPost_ret (results_mealy rfl _ _ (w.heap.size + 1 + 1) (.int .i64 0) (.int .i64 0) (.slice none 0 0) (.slice none 0 0) rfl (HRr.out.set4 _ _ _ _)) rfl ?_
    exact ⟨by rw [HE.out]; exact NoM.rs 15 _, below_set4 (by omega) (bt HB0.out HBC.out) _ _ _ _⟩
  have HE := Lib.hid (show prX i st nx ot i' st' nx' ot' = cmpX (prF nx nx') (prO ot ot' (grt ot')) i n n2 st st' by have h9 := HM'.out; rw [← hc] at h9 ⊢; exact prX_ok HM.out h9)
  have HP := Lib.hid (show Mok i st' n2 nx' ot' by rw [hc]; exact HM'.out)
  have t1 : ((i : Int) != (i' : Int)) = false := by simp; omega
  have t1' : (i != i') = false := by simp; omega
  have HCC := Lib.hid hc
  clear hc

  have hst := HM.out.st
  have hst' := HM'.out.st
  have HBC := Lib.hid hbc
  have HPQ := Lib.hid (rpairs14 1 i n n2 st st' i i' (prF nx nx') (prO ot ot' (grt ot')) A B A' B' c d c2 d2 w1 (pr_stp HM.out HP.out) hst hst' (by omega) (by omega) (by omega) (by omega) (fun p q x hp hq hx => by
    exact prO_le HM.out HP.out p q x hp hq hx) (fun p q x hp hq hx W hW => by
    have h1 := rstepP i st n i' st' n2 p q x A B A' B' c d c2 d2 nx ot nx' ot' W (HX.out _ (bt HBC.out hW)) (HO.out _ (bt HBC.out hW)) (HX'.out _ (bt HBC.out hW)) (HO'.out _ (bt HBC.out hW)) HM.out HM'.out hp hq hx (by have := HCC.out; omega)
    rw [stpV_pr] at h1
    exact h1))
  clear hbc
  go_wp2_with fail
  refine HPQ.out.mono ?_
  rintro e w5 ⟨h5, b5⟩
  have b05 := bt HBC.out b5
  have HR5 := Lib.hid (HR.out.on b05)
  obtain ⟨q0, q1, q2, q3, z0, z1, z2, z3⟩ := HR5.out.cells
  have HB05 := Lib.hid (bt HB0.out b05)
  have HST9 := Lib.hid (And.intro hst hst')
  clear b5 b05
  rcases h5 with ⟨hok, A5, c5, B5, d5, rfl, o5, t5⟩ | ⟨hok, rfl⟩
  · have HOK := Lib.hid hok
    have HO5 := Lib.hid o5
    have HT5 := Lib.hid t5
    clear hok o5 t5
    go_wp2_with fail
    refine bodyPost_ret (results_mealy rfl _ _ (w.heap.size + 1 + 1) _ _ _ _ rfl (HR5.out.set4 _ _ _ _)) rfl ?_
    refine ⟨?_, below_set4 (by omega) HB05.out _ _ _ _⟩
    rw [HE.out]
    exact MacP.rs (pr_stp HM.out HP.out) HST9.out.1 HST9.out.2 (by omega) (by omega) (.inl ⟨HOK.out, A5, c5, B5, d5, rfl, HO5.out.keptT (HR5.out.set4' _ _ _ _ (by decide)) (HR5.out.set4' _ _ _ _ (by decide)), HT5.out.keptT (HR5.out.set4' _ _ _ _ (by decide)) (HR5.out.set4' _ _ _ _ (by decide))⟩)
  · have HOK := Lib.hid hok
    clear hok
    go_wp2_with fail
    refine bodyPost_ret (results_mealy rfl _ _ (w.heap.size + 1 + 1) (.int .i64 0) (.int .i64 0) (.slice none 0 0) (.slice none 0 0) rfl (HR5.out.set4 _ _ _ _)) rfl ?_
    refine ⟨?_, below_set4 (by omega) HB05.out _ _ _ _⟩
    rw [HE.out]
    exact MacP.rs (base := w.heap.size) (pr_stp HM.out HP.out) HST9.out.1 HST9.out.2 (by omega) (by omega) (MacP.bad HOK.out)
set_option linter.unusedSimpArgs false in
set_option linter.unusedVariables false in
set_option maxHeartbeats 4000000 in
set_option maxRecDepth 100000 in
theorem rparallel_all (i1 st1 i2 st2 : Int) (A B A' B' : Option Addr) (n c m d n2 c2 m2 d2 : Nat) (nx ot nx' ot' : List (List Int)) (w : World) (hx : Lists w A n nx) (ho : Lists w B m ot) (hx' : Lists w A' n2 nx') (ho' : Lists w B' m2 ot') :
    Calls Try.prog 35 #[.agg #[.int .i64 i1, .int .i64 st1, .slice A n c, .slice B m d], .agg #[.int .i64 i2, .int .i64 st2, .slice A' n2 c2, .slice B' m2 d2]] w fun e w' => RsP (paX i1 st1 nx ot i2 st2 nx' ot') e w' ∧ Below w.heap.size w w' := by
  obtain ⟨w0, hw0, hb0, hG, hG', hR, hz0⟩ := three_boxesM w i1 st1 i2 st2 A B A' B' n c m d n2 c2 m2 d2
  obtain ⟨k0, k1, k2, k3, _⟩ := hG.cells
  obtain ⟨j0, j1, j2, j3, _⟩ := hG'.cells
  have HX := Lib.hid (fun (W : World) (h : Below w0.heap.size w0 W) => (hx.below hb0).below h)
  have HO := Lib.hid (fun (W : World) (h : Below w0.heap.size w0 W) => (ho.below hb0).below h)
  have HX' := Lib.hid (fun (W : World) (h : Below w0.heap.size w0 W) => (hx'.below hb0).below h)
  have HO' := Lib.hid (fun (W : World) (h : Below w0.heap.size w0 W) => (ho'.below hb0).below h)
  have HW0 := Lib.hid hw0
  have HB0 := Lib.hid hb0
  have HG := Lib.hid hG
  have HG' := Lib.hid hG'
  have HR := Lib.hid hR
  have HZ := Lib.hid hz0
  clear hw0 hb0 hG hG' hR hz0 hx ho hx' ho'
  rw [HW0.out] at k0 k1 k2 k3 j0 j1 j2 j3
  go_enter Try.func35, Try.ntmps35
  go_wp2_with fail
  rw [← HW0.out]
  refine (rcheck14 _ _ _ _ _ _ _ _ _ _ _ _ _ _ _ _ _ _ _ _ _ (HX.out _ (Below.refl _ _)) (HO.out _ (Below.refl _ _)) (HX'.out _ (Below.refl _ _)) (HO'.out _ (Below.refl _ _))).mono ?_
  rintro e w1 ⟨rfl, hbc⟩
  clear k0 k1 k2 k3 j0 j1 j2 j3
  by_cases hv : vld2m i1 st1 nx ot i2 st2 nx' ot' = 0
  case neg =>
    obtain ⟨x, hx0, hxe⟩ : ∃ x, ¬ x = 0 ∧ vld2m i1 st1 nx ot i2 st2 nx' ot' = x := ⟨_, hv, rfl⟩
    have HE := Lib.hid (show paX i1 st1 nx ot i2 st2 nx' ot' = noX x by rw [(xX_bad hv).2.1, hxe])
    have t1 : (x != 0) = true := by simpa using hx0
    rw [hxe]
    clear hv hxe
    have HRr := Lib.hid (HR.out.on hbc)
    obtain ⟨q0, q1, q2, q3, z0, z1, z2, z3⟩ := HRr.out.cells
    have HBC := Lib.hid hbc
    clear hbc
    go_wp2_with fail
    refine bodyPost_ret (results_mealy rfl _ _ (w.heap.size + 1 + 1) (.int .i64 0) (.int .i64 0) (.slice none 0 0) (.slice none 0 0) rfl (HRr.out.set4 _ _ _ _)) rfl ?_
    exact ⟨by rw [HE.out]; exact NoM.rs x _, below_set4 (by omega) (bt HB0.out HBC.out) _ _ _ _⟩
  rw [hv]
  obtain ⟨i, st, k, i', st', k', rfl, rfl, rfl, rfl, hM, hM'⟩ := vld2m_zero hv
  obtain rfl : n = k := by rw [← hM.nxl]; exact (HX.out _ (Below.refl _ _)).1.symm
  obtain rfl : n = m := by rw [← hM.otl]; exact (HO.out _ (Below.refl _ _)).1
  obtain rfl : n2 = k' := by rw [← hM'.nxl]; exact (HX'.out _ (Below.refl _ _)).1.symm
  obtain rfl : n2 = m2 := by rw [← hM'.otl]; exact (HO'.out _ (Below.refl _ _)).1
  have hi1 := hM.i1
  have hi2 := hM.i2
  have hi1' := hM'.i1
  have hi2' := hM'.i2
  have hn2 := hM.n2
  have hn2' := hM'.n2
  have hgr := hM.grt_le
  have hgr' := hM'.grt_le
  have HM := Lib.hid hM
  have HM' := Lib.hid hM'
  clear hv hM hM'
  obtain ⟨k0, k1, k2, k3, _⟩ := (HG.out.on hbc).cells
  obtain ⟨j0, j1, j2, j3, _⟩ := (HG'.out.on hbc).cells
  by_cases hc : i + i' ≤ 64
  case neg =>
    have HE := Lib.hid (show paX i st nx ot i' st' nx' ot' = noX 2 from paX_no HM.out HM'.out hc)
    obtain ⟨sI, hsI⟩ : ∃ sI, sI = i + i' := ⟨_, rfl⟩
    have es : (i : Int) + (i' : Int) = (sI : Int) := by omega
    have t1 : decide ((64 : Int) < (sI : Int)) = true := by simp; omega
    have t1' : decide (64 < sI) = true := by simp; omega
    clear hc hsI

    have HRr := Lib.hid (HR.out.on hbc)
    obtain ⟨q0, q1, q2, q3, z0, z1, z2, z3⟩ := HRr.out.cells
    have HBC := Lib.hid hbc
    clear hbc
    go_wp2_with fail
    refine bodyPost_ret (results_mealy rfl _ _ (w.heap.size + 1 + 1) (.int .i64 0) (.int .i64 0) (.slice none 0 0) (.slice none 0 0) rfl (HRr.out.set4 _ _ _ _)) rfl ?_
    exact ⟨by rw [HE.out]; exact NoM.rs 2 _, below_set4 (by omega) (bt HB0.out HBC.out) _ _ _ _⟩
  have HE := Lib.hid (paX_ok HM.out HM'.out hc)
  obtain ⟨sI, hsI⟩ : ∃ sI, sI = i + i' := ⟨_, rfl⟩
  have es : (i : Int) + (i' : Int) = (sI : Int) := by omega
  have t1 : decide ((64 : Int) < (sI : Int)) = false := by simp; omega
  have t1' : decide (64 < sI) = false := by simp; omega
  have hs1 : 1 ≤ sI := by omega
  have hs2 : sI ≤ 64 := by omega
  rw [← hsI] at HE
  have HSI := Lib.hid hsI
  have HPS := Lib.hid (show Stp (paF i nx nx') sI n n2 by rw [hsI]; exact pa_stp HM.out HM'.out)
  clear hsI

  have hst := HM.out.st
  have hst' := HM'.out.st
  have HBC := Lib.hid hbc
  have HPQ := Lib.hid (rpairs14 2 sI n n2 st st' i i' (paF i nx nx') (paO i ot ot' (grt ot)) A B A' B' c d c2 d2 w1 (HPS.out) hst hst' (by omega) (by omega) (by omega) (by omega) (fun p q x hp hq hx => by
    show (if x < i then oM ot p x else 1 + grt ot + oM ot' q (x - i)) ≤ _
    by_cases hxi : x < i
    · rw [if_pos hxi]; have := HM.out.oM_le hp hxi; omega
    · rw [if_neg hxi]; have := HM'.out.oM_le hq (show x - i < i' by have := HSI.out; omega); omega) (fun p q x hp hq hx W hW => by
    show Calls _ _ _ _ fun e w' => e = .returned (stpV (if x < i then (nN nx p x, q) else (p, nN nx' q (x - i))) (if x < i then oM ot p x else 1 + grt ot + oM ot' q (x - i))) ∧ Below W.heap.size W w'
    by_cases hxi : x < i
    · rw [if_pos hxi, if_pos hxi]
      exact rstepL i st n i' st' n2 p q x A B A' B' c d c2 d2 nx ot nx' ot' W (HX.out _ (bt HBC.out hW)) (HO.out _ (bt HBC.out hW)) (HX'.out _ (bt HBC.out hW)) (HO'.out _ (bt HBC.out hW)) HM.out HM'.out hp hq hxi
    · rw [if_neg hxi, if_neg hxi]
      exact rstepR i st n i' st' n2 p q x A B A' B' c d c2 d2 nx ot nx' ot' W (HX.out _ (bt HBC.out hW)) (HO.out _ (bt HBC.out hW)) (HX'.out _ (bt HBC.out hW)) (HO'.out _ (bt HBC.out hW)) HM.out HM'.out hp hq (x - i) (by omega) (by have := HSI.out; omega)))
  clear hbc
  go_wp2_with fail
  refine HPQ.out.mono ?_
  rintro e w5 ⟨h5, b5⟩
  have b05 := bt HBC.out b5
  have HR5 := Lib.hid (HR.out.on b05)
  obtain ⟨q0, q1, q2, q3, z0, z1, z2, z3⟩ := HR5.out.cells
  have HB05 := Lib.hid (bt HB0.out b05)
  have HST9 := Lib.hid (And.intro hst hst')
  clear b5 b05
  rcases h5 with ⟨hok, A5, c5, B5, d5, rfl, o5, t5⟩ | ⟨hok, rfl⟩
  · have HOK := Lib.hid hok
    have HO5 := Lib.hid o5
    have HT5 := Lib.hid t5
    clear hok o5 t5
    go_wp2_with fail
    refine bodyPost_ret (results_mealy rfl _ _ (w.heap.size + 1 + 1) _ _ _ _ rfl (HR5.out.set4 _ _ _ _)) rfl ?_
    refine ⟨?_, below_set4 (by omega) HB05.out _ _ _ _⟩
    rw [HE.out]
    exact MacP.rs (HPS.out) HST9.out.1 HST9.out.2 (by omega) (by omega) (.inl ⟨HOK.out, A5, c5, B5, d5, rfl, HO5.out.keptT (HR5.out.set4' _ _ _ _ (by decide)) (HR5.out.set4' _ _ _ _ (by decide)), HT5.out.keptT (HR5.out.set4' _ _ _ _ (by decide)) (HR5.out.set4' _ _ _ _ (by decide))⟩)
  · have HOK := Lib.hid hok
    clear hok
    go_wp2_with fail
    refine bodyPost_ret (results_mealy rfl _ _ (w.heap.size + 1 + 1) (.int .i64 0) (.int .i64 0) (.slice none 0 0) (.slice none 0 0) rfl (HR5.out.set4 _ _ _ _)) rfl ?_
    refine ⟨?_, below_set4 (by omega) HB05.out _ _ _ _⟩
    rw [HE.out]
    exact MacP.rs (base := w.heap.size) (HPS.out) HST9.out.1 HST9.out.2 (by omega) (by omega) (MacP.bad HOK.out)
set_option linter.unusedSimpArgs false in
set_option linter.unusedVariables false in
set_option maxHeartbeats 4000000 in
set_option maxRecDepth 100000 in
theorem rcascade_all (i1 st1 i2 st2 : Int) (A B A' B' : Option Addr) (n c m d n2 c2 m2 d2 : Nat) (nx ot nx' ot' : List (List Int)) (w : World) (hx : Lists w A n nx) (ho : Lists w B m ot) (hx' : Lists w A' n2 nx') (ho' : Lists w B' m2 ot') :
    Calls Try.prog 37 #[.agg #[.int .i64 i1, .int .i64 st1, .slice A n c, .slice B m d], .agg #[.int .i64 i2, .int .i64 st2, .slice A' n2 c2, .slice B' m2 d2]] w fun e w' => RsP (caX i1 st1 nx ot i2 st2 nx' ot') e w' ∧ Below w.heap.size w w' := by
  obtain ⟨w0, hw0, hb0, hG, hG', hR, hz0⟩ := three_boxesM w i1 st1 i2 st2 A B A' B' n c m d n2 c2 m2 d2
  obtain ⟨k0, k1, k2, k3, _⟩ := hG.cells
  obtain ⟨j0, j1, j2, j3, _⟩ := hG'.cells
  have HX := Lib.hid (fun (W : World) (h : Below w0.heap.size w0 W) => (hx.below hb0).below h)
  have HO := Lib.hid (fun (W : World) (h : Below w0.heap.size w0 W) => (ho.below hb0).below h)
  have HX' := Lib.hid (fun (W : World) (h : Below w0.heap.size w0 W) => (hx'.below hb0).below h)
  have HO' := Lib.hid (fun (W : World) (h : Below w0.heap.size w0 W) => (ho'.below hb0).below h)
  have HW0 := Lib.hid hw0
  have HB0 := Lib.hid hb0
  have HG := Lib.hid hG
  have HG' := Lib.hid hG'
  have HR := Lib.hid hR
  have HZ := Lib.hid hz0
  clear hw0 hb0 hG hG' hR hz0 hx ho hx' ho'
  rw [HW0.out] at k0 k1 k2 k3 j0 j1 j2 j3
  go_enter Try.func37, Try.ntmps37
  go_wp2_with fail
  rw [← HW0.out]
  refine (rcheck14 _ _ _ _ _ _ _ _ _ _ _ _ _ _ _ _ _ _ _ _ _ (HX.out _ (Below.refl _ _)) (HO.out _ (Below.refl _ _)) (HX'.out _ (Below.refl _ _)) (HO'.out _ (Below.refl _ _))).mono ?_
  rintro e w1 ⟨rfl, hbc⟩
  clear k0 k1 k2 k3 j0 j1 j2 j3
  by_cases hv : vld2m i1 st1 nx ot i2 st2 nx' ot' = 0
  case neg =>
    obtain ⟨x, hx0, hxe⟩ : ∃ x, ¬ x = 0 ∧ vld2m i1 st1 nx ot i2 st2 nx' ot' = x := ⟨_, hv, rfl⟩
    have HE := Lib.hid (show caX i1 st1 nx ot i2 st2 nx' ot' = noX x by rw [(xX_bad hv).2.2, hxe])
    have t1 : (x != 0) = true := by simpa using hx0
    rw [hxe]
    clear hv hxe
    have HRr := Lib.hid (HR.out.on hbc)
    obtain ⟨q0, q1, q2, q3, z0, z1, z2, z3⟩ := HRr.out.cells
    have HBC := Lib.hid hbc
    clear hbc
    go_wp2_with fail
    refine bodyPost_ret (results_mealy rfl _ _ (w.heap.size + 1 + 1) (.int .i64 0) (.int .i64 0) (.slice none 0 0) (.slice none 0 0) rfl (HRr.out.set4 _ _ _ _)) rfl ?_
    exact ⟨by rw [HE.out]; exact NoM.rs x _, below_set4 (by omega) (bt HB0.out HBC.out) _ _ _ _⟩
  rw [hv]
  obtain ⟨i, st, k, i', st', k', rfl, rfl, rfl, rfl, hM, hM'⟩ := vld2m_zero hv
  obtain rfl : n = k := by rw [← hM.nxl]; exact (HX.out _ (Below.refl _ _)).1.symm
  obtain rfl : n = m := by rw [← hM.otl]; exact (HO.out _ (Below.refl _ _)).1
  obtain rfl : n2 = k' := by rw [← hM'.nxl]; exact (HX'.out _ (Below.refl _ _)).1.symm
  obtain rfl : n2 = m2 := by rw [← hM'.otl]; exact (HO'.out _ (Below.refl _ _)).1
  have hi1 := hM.i1
  have hi2 := hM.i2
  have hi1' := hM'.i1
  have hi2' := hM'.i2
  have hn2 := hM.n2
  have hn2' := hM'.n2
  have hgr := hM.grt_le
  have hgr' := hM'.grt_le
  have HM := Lib.hid hM
  have HM' := Lib.hid hM'
  clear hv hM hM'
  obtain ⟨k0, k1, k2, k3, _⟩ := (HG.out.on hbc).cells
  obtain ⟨j0, j1, j2, j3, _⟩ := (HG'.out.on hbc).cells
  by_cases hc : grt ot < i'
  case neg =>
    have HE := Lib.hid (show caX i st nx ot i' st' nx' ot' = noX 2 from caX_no HM.out HM'.out hc)
    have t1 : decide ((i' : Int) ≤ (grt ot : Int)) = true := by simp; omega
    have t1' : decide (i' ≤ grt ot) = true := by simp; omega
    clear hc
    have HBC1 := Lib.hid hbc
    have HSS := Lib.hid (show ∀ W : World, Below w1.heap.size w1 W → W.cell? ⟨w.heap.size, 0, none⟩ = some (.int .i64 i) ∧ W.cell? ⟨w.heap.size, 1, none⟩ = some (.int .i64 st) ∧ W.cell? ⟨w.heap.size, 2, none⟩ = some (.slice A n c) ∧ W.cell? ⟨w.heap.size, 3, none⟩ = some (.slice B n d) ∧ W.cell? ⟨w.heap.size + 1, 0, none⟩ = some (.int .i64 i') from fun W h => by
      obtain ⟨a0, a1, a2, a3, _⟩ := (HG.out.on (bt HBC1.out h)).cells
      obtain ⟨b0, _⟩ := (HG'.out.on (bt HBC1.out h)).cells
      exact ⟨a0, a1, a2, a3, b0⟩)
    have hb2 : Below w1.heap.size w1 w1.drew := below_drewN (Below.refl _ _) 1
    go_wp2_with fail
    go_region_held3 (fun W => W.cell? ⟨w.heap.size, 0, none⟩ = some (.int .i64 i) ∧ W.cell? ⟨w.heap.size, 1, none⟩ = some (.int .i64 st) ∧ W.cell? ⟨w.heap.size, 2, none⟩ = some (.slice A n c) ∧ W.cell? ⟨w.heap.size, 3, none⟩ = some (.slice B n d) ∧ W.cell? ⟨w.heap.size + 1, 0, none⟩ = some (.int .i64 i'))
      (exact HSS.out _ hb2)
      ((go_at_call 44; refine (rgreatest i st n A B c d nx ot _ (HX.out _ (bt HBC1.out hb2)) (HO.out _ (bt HBC1.out hb2)) HM.out).mono ?_; rintro e w3 ⟨rfl, b3⟩; have hb2 := bt hb2 b3))
    have hbc := bt HBC1.out hb2
    clear hb2 b3 k0 k1 k2 k3 j0 j1 j2 j3
    obtain ⟨k0, k1, k2, k3, _⟩ := (HG.out.on hbc).cells
    obtain ⟨j0, j1, j2, j3, _⟩ := (HG'.out.on hbc).cells
    have HRr := Lib.hid (HR.out.on hbc)
    obtain ⟨q0, q1, q2, q3, z0, z1, z2, z3⟩ := HRr.out.cells
    have HBC := Lib.hid hbc
    clear hbc
    go_wp2_with fail
    refine bodyPost_ret (results_mealy rfl _ _ (w.heap.size + 1 + 1) (.int .i64 0) (.int .i64 0) (.slice none 0 0) (.slice none 0 0) rfl (HRr.out.set4 _ _ _ _)) rfl ?_
    exact ⟨by rw [HE.out]; exact NoM.rs 2 _, below_set4 (by omega) (bt HB0.out HBC.out) _ _ _ _⟩
  have HE := Lib.hid (caX_ok HM.out HM'.out hc)
  have t1 : decide ((i' : Int) ≤ (grt ot : Int)) = false := by simp; omega
  have t1' : decide (i' ≤ grt ot) = false := by simp; omega
  have HBC1 := Lib.hid hbc
  have HSS := Lib.hid (show ∀ W : World, Below w1.heap.size w1 W → W.cell? ⟨w.heap.size, 0, none⟩ = some (.int .i64 i) ∧ W.cell? ⟨w.heap.size, 1, none⟩ = some (.int .i64 st) ∧ W.cell? ⟨w.heap.size, 2, none⟩ = some (.slice A n c) ∧ W.cell? ⟨w.heap.size, 3, none⟩ = some (.slice B n d) ∧ W.cell? ⟨w.heap.size + 1, 0, none⟩ = some (.int .i64 i') from fun W h => by
    obtain ⟨a0, a1, a2, a3, _⟩ := (HG.out.on (bt HBC1.out h)).cells
    obtain ⟨b0, _⟩ := (HG'.out.on (bt HBC1.out h)).cells
    exact ⟨a0, a1, a2, a3, b0⟩)
  have hb2 : Below w1.heap.size w1 w1.drew := below_drewN (Below.refl _ _) 1
  go_wp2_with fail
  go_region_held3 (fun W => W.cell? ⟨w.heap.size, 0, none⟩ = some (.int .i64 i) ∧ W.cell? ⟨w.heap.size, 1, none⟩ = some (.int .i64 st) ∧ W.cell? ⟨w.heap.size, 2, none⟩ = some (.slice A n c) ∧ W.cell? ⟨w.heap.size, 3, none⟩ = some (.slice B n d) ∧ W.cell? ⟨w.heap.size + 1, 0, none⟩ = some (.int .i64 i'))
    (exact HSS.out _ hb2)
    ((go_at_call 44; refine (rgreatest i st n A B c d nx ot _ (HX.out _ (bt HBC1.out hb2)) (HO.out _ (bt HBC1.out hb2)) HM.out).mono ?_; rintro e w3 ⟨rfl, b3⟩; have hb2 := bt hb2 b3))
  have hbc := bt HBC1.out hb2
  clear hb2 b3 k0 k1 k2 k3 j0 j1 j2 j3
  obtain ⟨k0, k1, k2, k3, _⟩ := (HG.out.on hbc).cells
  obtain ⟨j0, j1, j2, j3, _⟩ := (HG'.out.on hbc).cells
  have hst := HM.out.st
  have hst' := HM'.out.st
  have HBC := Lib.hid hbc
  have HPQ := Lib.hid (rpairs14 3 i n n2 st st' i i' (caF nx ot nx') (caO ot ot') A B A' B' c d c2 d2 w3 (ca_stp HM.out HM'.out fun s a hs ha => Nat.lt_of_le_of_lt (HM.out.oM_grt hs ha) hc) hst hst' (by omega) (by omega) (by omega) (by omega) (fun p q x hp hq hx => by
    show oM ot' q (oM ot p x) ≤ _
    have := HM'.out.oM_le hq (Nat.lt_of_le_of_lt (HM.out.oM_grt hp hx) hc)
    omega) (fun p q x hp hq hx W hW => by
    exact rstepC i st n i' st' n2 p q x A B A' B' c d c2 d2 nx ot nx' ot' W (HX.out _ (bt HBC.out hW)) (HO.out _ (bt HBC.out hW)) (HX'.out _ (bt HBC.out hW)) (HO'.out _ (bt HBC.out hW)) HM.out HM'.out hp hq (oM ot p x) hx rfl (Nat.lt_of_le_of_lt (HM.out.oM_grt hp hx) hc)))
  clear hbc
  go_wp2_with fail
  refine HPQ.out.mono ?_
  rintro e w5 ⟨h5, b5⟩
  have b05 := bt HBC.out b5
  have HR5 := Lib.hid (HR.out.on b05)
  obtain ⟨q0, q1, q2, q3, z0, z1, z2, z3⟩ := HR5.out.cells
  have HB05 := Lib.hid (bt HB0.out b05)
  have HST9 := Lib.hid (And.intro hst hst')
  clear b5 b05
  rcases h5 with ⟨hok, A5, c5, B5, d5, rfl, o5, t5⟩ | ⟨hok, rfl⟩
  · have HOK := Lib.hid hok
    have HO5 := Lib.hid o5
    have HT5 := Lib.hid t5
    clear hok o5 t5
    go_wp2_with fail
    refine bodyPost_ret (results_mealy rfl _ _ (w.heap.size + 1 + 1) _ _ _ _ rfl (HR5.out.set4 _ _ _ _)) rfl ?_
    refine ⟨?_, below_set4 (by omega) HB05.out _ _ _ _⟩
    rw [HE.out]
    exact MacP.rs (ca_stp HM.out HM'.out fun s a hs ha => Nat.lt_of_le_of_lt (HM.out.oM_grt hs ha) hc) HST9.out.1 HST9.out.2 (by omega) (by omega) (.inl ⟨HOK.out, A5, c5, B5, d5, rfl, HO5.out.keptT (HR5.out.set4' _ _ _ _ (by decide)) (HR5.out.set4' _ _ _ _ (by decide)), HT5.out.keptT (HR5.out.set4' _ _ _ _ (by decide)) (HR5.out.set4' _ _ _ _ (by decide))⟩)
  · have HOK := Lib.hid hok
    clear hok
    go_wp2_with fail
    refine bodyPost_ret (results_mealy rfl _ _ (w.heap.size + 1 + 1) (.int .i64 0) (.int .i64 0) (.slice none 0 0) (.slice none 0 0) rfl (HR5.out.set4 _ _ _ _)) rfl ?_
    refine ⟨?_, below_set4 (by omega) HB05.out _ _ _ _⟩
    rw [HE.out]
    exact MacP.rs (base := w.heap.size) (ca_stp HM.out HM'.out fun s a hs ha => Nat.lt_of_le_of_lt (HM.out.oM_grt hs ha) hc) HST9.out.1 HST9.out.2 (by omega) (by omega) (MacP.bad HOK.out)
end Go.Proofs.Ytogcecfeofbbnaa
end

section
/- The law ComposePairs: the walk. -/
namespace Go.Proofs.Ytogcecfeofbbnaa
open Go.RowKit

set_option linter.unusedSimpArgs false in
set_option linter.unusedVariables false in
set_option maxHeartbeats 8000000 in
set_option maxRecDepth 100000 in
theorem pairs14_walk (i1 st1 i2 st2 : Int) (A B C D : Option Addr) (n c m d n2 c2 m2 d2 : Nat) (nx ot nx' ot' : List (List Int)) (w : World) (hx1 : Lists w A n nx) (ho1 : Lists w B m ot) (hx2 : Lists w C n2 nx') (ho2 : Lists w D m2 ot') :
    Calls Try.prog 8 #[.agg #[.int .i64 i1, .int .i64 st1, .slice A n c, .slice B m d], .agg #[.int .i64 i2, .int .i64 st2, .slice C n2 c2, .slice D m2 d2]] w fun e w' => e = .returned (.bool true) ∧ Below w.heap.size w w' := by
  obtain ⟨w0, hw0, hb0, hG, hG', hz0⟩ := pair_boxesM w i1 st1 i2 st2 A B C D n c m d n2 c2 m2 d2
  have HW0 := Lib.hid hw0
  have HB0 := Lib.hid hb0
  have HX1 := Lib.hid (fun (W : World) (h : Below w0.heap.size w0 W) => (hx1.below hb0).below h)
  have HO1 := Lib.hid (fun (W : World) (h : Below w0.heap.size w0 W) => (ho1.below hb0).below h)
  have HX2 := Lib.hid (fun (W : World) (h : Below w0.heap.size w0 W) => (hx2.below hb0).below h)
  have HO2 := Lib.hid (fun (W : World) (h : Below w0.heap.size w0 W) => (ho2.below hb0).below h)
  have HG1 := Lib.hid (fun (W : World) (h : Below w0.heap.size w0 W) => hG.on h)
  have HG2 := Lib.hid (fun (W : World) (h : Below w0.heap.size w0 W) => hG'.on h)
  have hbc := Below.refl w0.heap.size w0
  obtain ⟨k0, k1, k2, k3, _⟩ := hG.cells
  rw [HW0.out] at k0 k1 k2 k3
  clear hw0 hb0 hG hG' hz0 hx1 ho1 hx2 ho2
  go_enter Try.func8, Try.ntmps8
  go_wp2_with fail
  rw [← HW0.out]
  refine (rgreat10 _ _ _ _ _ _ _ _ _ _ _ (HX1.out _ hbc) (HO1.out _ hbc)).mono ?_
  rintro e w1 ⟨b1, rfl, hs1, a1⟩
  have hbc := bt hbc a1
  clear k0 k1 k2 k3 a1 hs1
  cases b1
  case true =>
    go_wp2_with fail
    refine (awake14 _).mono ?_
    rintro e wz ⟨rfl, az⟩
    have hbz := bt HB0.out (bt hbc az)
    go_wp2_with fail
    go_ret
    exact ⟨rfl, hbz⟩
  obtain ⟨l0, l1, l2, l3, _⟩ := (HG2.out _ hbc).cells
  go_wp2_with fail
  refine (rgreat10 _ _ _ _ _ _ _ _ _ _ _ (HX2.out _ hbc) (HO2.out _ hbc)).mono ?_
  rintro e w2 ⟨b2, rfl, hs2, a2⟩
  have hbc := bt hbc a2
  clear l0 l1 l2 l3 a2 hs2
  cases b2
  case true =>
    go_wp2_with fail
    refine (awake14 _).mono ?_
    rintro e wz ⟨rfl, az⟩
    have hbz := bt HB0.out (bt hbc az)
    go_wp2_with fail
    go_ret
    exact ⟨rfl, hbz⟩
  obtain ⟨k0, k1, k2, k3, _⟩ := (HG1.out _ hbc).cells
  obtain ⟨l0, l1, l2, l3, _⟩ := (HG2.out _ hbc).cells
  go_wp2_with fail
  clear k0 k1 k2 k3 l0 l1 l2 l3
  obtain ⟨⟨pi, pN, pT, pv⟩, hP⟩ : ∃ P, P = prX i1 st1 nx ot i2 st2 nx' ot' := ⟨_, rfl⟩
  obtain ⟨⟨qi, qN, qT, qv⟩, hQ⟩ : ∃ P, P = paX i1 st1 nx ot i2 st2 nx' ot' := ⟨_, rfl⟩
  obtain ⟨⟨ri, rN, rT, rv⟩, hR⟩ : ∃ P, P = caX i1 st1 nx ot i2 st2 nx' ot' := ⟨_, rfl⟩
  have HP := Lib.hid hP
  have HQ := Lib.hid hQ
  have HR := Lib.hid hR
  have t1 : (pv == pv) = true := by simp
  have t2 : (qv == qv) = true := by simp
  have t3 : (rv == rv) = true := by simp
  clear hP hQ hR
  refine (pproduct_all i1 st1 i2 st2 A B C D n c m d n2 c2 m2 d2 nx ot nx' ot' w2 (HX1.out _ hbc) (HO1.out _ hbc) (HX2.out _ hbc) (HO2.out _ hbc)).mono ?_
  rintro e v5 ⟨hr, a5⟩
  rw [← HP.out] at hr
  obtain ⟨A5, c5, B5, d5, rfl, lN, lT⟩ := hr
  dsimp only at lN lT ⊢
  obtain ⟨X5, hX⟩ : ∃ X, X = v5.alloc (.cells #[.int .i64 pi, .int .i64 0, .slice A5 pN.length c5, .slice B5 pT.length d5] 24) := ⟨_, rfl⟩
  have bx : Below v5.heap.size v5 X5 := by rw [hX]; exact alloc_below _ _
  have HM5 := Lib.hid (show Mblk X5 v5.heap.size (.int .i64 pi) (.int .i64 0) (.slice A5 pN.length c5) (.slice B5 pT.length d5) by rw [hX]; exact mealy_box v5 _ _ _ _)
  have HN5 := Lib.hid (lN.below bx)
  have HT5 := Lib.hid (lT.below bx)
  have hbc := bt (bt hbc a5) bx
  have hb5 := Below.refl X5.heap.size X5
  have HX5 := Lib.hid hX
  obtain ⟨k0, k1, k2, k3, _⟩ := (HG1.out _ hbc).cells
  obtain ⟨l0, l1, l2, l3, _⟩ := (HG2.out _ hbc).cells
  rw [hX] at k0 k1 k2 k3 l0 l1 l2 l3
  clear hX a5 lN lT bx
  go_wp2_with fail
  rw [← HX5.out]
  clear k0 k1 k2 k3 l0 l1 l2 l3
  refine (rproduct_all i1 st1 i2 st2 A B C D n c m d n2 c2 m2 d2 nx ot nx' ot' X5 (HX1.out _ hbc) (HO1.out _ hbc) (HX2.out _ hbc) (HO2.out _ hbc)).mono ?_
  rintro e v6 ⟨hr, a6⟩
  rw [← HP.out] at hr
  obtain ⟨A6, c6, B6, d6, rfl, lN, lT⟩ := hr
  dsimp only at lN lT ⊢
  obtain ⟨X6, hX⟩ : ∃ X, X = v6.alloc (.cells #[.int .i64 pi, .int .i64 0, .slice A6 pN.length c6, .slice B6 pT.length d6] 24) := ⟨_, rfl⟩
  have bx : Below v6.heap.size v6 X6 := by rw [hX]; exact alloc_below _ _
  have HM6 := Lib.hid (show Mblk X6 v6.heap.size (.int .i64 pi) (.int .i64 0) (.slice A6 pN.length c6) (.slice B6 pT.length d6) by rw [hX]; exact mealy_box v6 _ _ _ _)
  have HN6 := Lib.hid (lN.below bx)
  have HT6 := Lib.hid (lT.below bx)
  have hbc := bt (bt hbc a6) bx
  have hb5 := bt (bt hb5 a6) bx
  have hb6 := Below.refl X6.heap.size X6
  have HX6 := Lib.hid hX
  obtain ⟨k0, k1, k2, k3, _⟩ := (HG1.out _ hbc).cells
  obtain ⟨l0, l1, l2, l3, _⟩ := (HG2.out _ hbc).cells
  rw [hX] at k0 k1 k2 k3 l0 l1 l2 l3
  clear hX a6 lN lT bx
  go_wp2_with fail
  rw [← HX6.out]
  clear k0 k1 k2 k3 l0 l1 l2 l3
  refine (pparallel_all i1 st1 i2 st2 A B C D n c m d n2 c2 m2 d2 nx ot nx' ot' X6 (HX1.out _ hbc) (HO1.out _ hbc) (HX2.out _ hbc) (HO2.out _ hbc)).mono ?_
  rintro e v7 ⟨hr, a7⟩
  rw [← HQ.out] at hr
  obtain ⟨A7, c7, B7, d7, rfl, lN, lT⟩ := hr
  dsimp only at lN lT ⊢
  obtain ⟨X7, hX⟩ : ∃ X, X = v7.alloc (.cells #[.int .i64 qi, .int .i64 0, .slice A7 qN.length c7, .slice B7 qT.length d7] 24) := ⟨_, rfl⟩
  have bx : Below v7.heap.size v7 X7 := by rw [hX]; exact alloc_below _ _
  have HM7 := Lib.hid (show Mblk X7 v7.heap.size (.int .i64 qi) (.int .i64 0) (.slice A7 qN.length c7) (.slice B7 qT.length d7) by rw [hX]; exact mealy_box v7 _ _ _ _)
  have HN7 := Lib.hid (lN.below bx)
  have HT7 := Lib.hid (lT.below bx)
  have hbc := bt (bt hbc a7) bx
  have hb5 := bt (bt hb5 a7) bx
  have hb6 := bt (bt hb6 a7) bx
  have hb7 := Below.refl X7.heap.size X7
  have HX7 := Lib.hid hX
  obtain ⟨k0, k1, k2, k3, _⟩ := (HG1.out _ hbc).cells
  obtain ⟨l0, l1, l2, l3, _⟩ := (HG2.out _ hbc).cells
  rw [hX] at k0 k1 k2 k3 l0 l1 l2 l3
  clear hX a7 lN lT bx
  go_wp2_with fail
  rw [← HX7.out]
  clear k0 k1 k2 k3 l0 l1 l2 l3
  refine (rparallel_all i1 st1 i2 st2 A B C D n c m d n2 c2 m2 d2 nx ot nx' ot' X7 (HX1.out _ hbc) (HO1.out _ hbc) (HX2.out _ hbc) (HO2.out _ hbc)).mono ?_
  rintro e v8 ⟨hr, a8⟩
  rw [← HQ.out] at hr
  obtain ⟨A8, c8, B8, d8, rfl, lN, lT⟩ := hr
  dsimp only at lN lT ⊢
  obtain ⟨X8, hX⟩ : ∃ X, X = v8.alloc (.cells #[.int .i64 qi, .int .i64 0, .slice A8 qN.length c8, .slice B8 qT.length d8] 24) := ⟨_, rfl⟩
  have bx : Below v8.heap.size v8 X8 := by rw [hX]; exact alloc_below _ _
  have HM8 := Lib.hid (show Mblk X8 v8.heap.size (.int .i64 qi) (.int .i64 0) (.slice A8 qN.length c8) (.slice B8 qT.length d8) by rw [hX]; exact mealy_box v8 _ _ _ _)
  have HN8 := Lib.hid (lN.below bx)
  have HT8 := Lib.hid (lT.below bx)
  have hbc := bt (bt hbc a8) bx
  have hb5 := bt (bt hb5 a8) bx
  have hb6 := bt (bt hb6 a8) bx
  have hb7 := bt (bt hb7 a8) bx
  have hb8 := Below.refl X8.heap.size X8
  have HX8 := Lib.hid hX
  obtain ⟨k0, k1, k2, k3, _⟩ := (HG1.out _ hbc).cells
  obtain ⟨l0, l1, l2, l3, _⟩ := (HG2.out _ hbc).cells
  rw [hX] at k0 k1 k2 k3 l0 l1 l2 l3
  clear hX a8 lN lT bx
  go_wp2_with fail
  rw [← HX8.out]
  clear k0 k1 k2 k3 l0 l1 l2 l3
  refine (pcascade_all i1 st1 i2 st2 A B C D n c m d n2 c2 m2 d2 nx ot nx' ot' X8 (HX1.out _ hbc) (HO1.out _ hbc) (HX2.out _ hbc) (HO2.out _ hbc)).mono ?_
  rintro e v9 ⟨hr, a9⟩
  rw [← HR.out] at hr
  obtain ⟨A9, c9, B9, d9, rfl, lN, lT⟩ := hr
  dsimp only at lN lT ⊢
  obtain ⟨X9, hX⟩ : ∃ X, X = v9.alloc (.cells #[.int .i64 ri, .int .i64 0, .slice A9 rN.length c9, .slice B9 rT.length d9] 24) := ⟨_, rfl⟩
  have bx : Below v9.heap.size v9 X9 := by rw [hX]; exact alloc_below _ _
  have HM9 := Lib.hid (show Mblk X9 v9.heap.size (.int .i64 ri) (.int .i64 0) (.slice A9 rN.length c9) (.slice B9 rT.length d9) by rw [hX]; exact mealy_box v9 _ _ _ _)
  have HN9 := Lib.hid (lN.below bx)
  have HT9 := Lib.hid (lT.below bx)
  have hbc := bt (bt hbc a9) bx
  have hb5 := bt (bt hb5 a9) bx
  have hb6 := bt (bt hb6 a9) bx
  have hb7 := bt (bt hb7 a9) bx
  have hb8 := bt (bt hb8 a9) bx
  have hb9 := Below.refl X9.heap.size X9
  have HX9 := Lib.hid hX
  obtain ⟨k0, k1, k2, k3, _⟩ := (HG1.out _ hbc).cells
  obtain ⟨l0, l1, l2, l3, _⟩ := (HG2.out _ hbc).cells
  rw [hX] at k0 k1 k2 k3 l0 l1 l2 l3
  clear hX a9 lN lT bx
  go_wp2_with fail
  rw [← HX9.out]
  clear k0 k1 k2 k3 l0 l1 l2 l3
  refine (rcascade_all i1 st1 i2 st2 A B C D n c m d n2 c2 m2 d2 nx ot nx' ot' X9 (HX1.out _ hbc) (HO1.out _ hbc) (HX2.out _ hbc) (HO2.out _ hbc)).mono ?_
  rintro e v10 ⟨hr, a10⟩
  rw [← HR.out] at hr
  obtain ⟨A10, c10, B10, d10, rfl, lN, lT⟩ := hr
  dsimp only at lN lT ⊢
  obtain ⟨X10, hX⟩ : ∃ X, X = v10.alloc (.cells #[.int .i64 ri, .int .i64 0, .slice A10 rN.length c10, .slice B10 rT.length d10] 24) := ⟨_, rfl⟩
  have bx : Below v10.heap.size v10 X10 := by rw [hX]; exact alloc_below _ _
  have HM10 := Lib.hid (show Mblk X10 v10.heap.size (.int .i64 ri) (.int .i64 0) (.slice A10 rN.length c10) (.slice B10 rT.length d10) by rw [hX]; exact mealy_box v10 _ _ _ _)
  have HN10 := Lib.hid (lN.below bx)
  have HT10 := Lib.hid (lT.below bx)
  have hbc := bt (bt hbc a10) bx
  have hb5 := bt (bt hb5 a10) bx
  have hb6 := bt (bt hb6 a10) bx
  have hb7 := bt (bt hb7 a10) bx
  have hb8 := bt (bt hb8 a10) bx
  have hb9 := bt (bt hb9 a10) bx
  have hb10 := Below.refl X10.heap.size X10
  have HX10 := Lib.hid hX
  obtain ⟨k0, k1, k2, k3, _⟩ := (HM5.out.on hb5).cells
  obtain ⟨l0, l1, l2, l3, _⟩ := (HM6.out.on hb6).cells
  rw [hX] at k0 k1 k2 k3 l0 l1 l2 l3
  clear hX a10 lN lT bx
  go_wp2_with fail
  rw [← HX10.out]
  clear k0 k1 k2 k3 l0 l1 l2 l3
  refine (rsamem pi 0 pi 0 A5 B5 A6 B6 pN.length c5 pT.length d5 pN.length c6 pT.length d6 pN pT pN pT true X10 (HN5.out.below hb5) (HT5.out.below hb5) (HN6.out.below hb6) (HT6.out.below hb6) (by simp)).mono ?_
  rintro e y0 ⟨rfl, a0⟩
  have hbc := bt hbc a0
  have hb7 := bt hb7 a0
  have hb8 := bt hb8 a0
  have hb9 := bt hb9 a0
  have hb10 := bt hb10 a0
  obtain ⟨k0, k1, k2, k3, _⟩ := (HM7.out.on hb7).cells
  obtain ⟨l0, l1, l2, l3, _⟩ := (HM8.out.on hb8).cells
  clear a0
  go_wp2_with fail
  clear k0 k1 k2 k3 l0 l1 l2 l3
  refine (rsamem qi 0 qi 0 A7 B7 A8 B8 qN.length c7 qT.length d7 qN.length c8 qT.length d8 qN qT qN qT true y0 (HN7.out.below hb7) (HT7.out.below hb7) (HN8.out.below hb8) (HT8.out.below hb8) (by simp)).mono ?_
  rintro e y1 ⟨rfl, a1⟩
  have hbc := bt hbc a1
  have hb9 := bt hb9 a1
  have hb10 := bt hb10 a1
  obtain ⟨k0, k1, k2, k3, _⟩ := (HM9.out.on hb9).cells
  obtain ⟨l0, l1, l2, l3, _⟩ := (HM10.out.on hb10).cells
  clear a1
  go_wp2_with fail
  clear k0 k1 k2 k3 l0 l1 l2 l3
  refine (rsamem ri 0 ri 0 A9 B9 A10 B10 rN.length c9 rT.length d9 rN.length c10 rT.length d10 rN rT rN rT true y1 (HN9.out.below hb9) (HT9.out.below hb9) (HN10.out.below hb10) (HT10.out.below hb10) (by simp)).mono ?_
  rintro e y2 ⟨rfl, a2⟩
  have hbc := bt hbc a2
  clear a2
  go_wp2_with fail
  refine (awake14 _).mono ?_
  rintro e wz ⟨rfl, az⟩
  have hbz := bt HB0.out (bt hbc az)
  go_wp2_with fail
  go_ret
  exact ⟨rfl, hbz⟩
end Go.Proofs.Ytogcecfeofbbnaa
end
