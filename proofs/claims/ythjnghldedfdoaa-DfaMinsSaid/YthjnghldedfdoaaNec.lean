/- Lemmas of the proofs of this seat, of the parts Dunc, Rcn7, Ral7, Dunk, Rmb7. Conditions: none. -/
import Derived.Test.YthjnghldedfdoaaNda
import Derived.Test.YthjnghldedfdoaaNea
import Derived.Test.YthjnghldedfdoaaNag
import Derived.Test.YthjnghldedfdoaaNca
import Derived.Test.YthjnghldedfdoaaNad
import Derived.BigRegion
import Derived.BigQuiet
section
/- Both sides' results of dfa, Combine and Differ, in one form. -/
namespace Go.Proofs.Ythjnghldedfdoaa
open Go.RowKit

theorem vld2_zero {i st : Int} {nx : List (List Int)} {ac : List Bool} {i' st' : Int} {nx' : List (List Int)} {ac' : List Bool} (h : vld2 i st nx ac i' st' nx' ac' = 0) :
    ∃ I s t n n' : Nat, i = I ∧ st = s ∧ i' = I ∧ st' = t ∧ Dok I s n nx ac ∧ Dok I t n' nx' ac' := by
  unfold vld2 at h
  by_cases h1 : vldD i st nx ac = 0
  · rw [if_pos h1] at h
    by_cases h2 : vldD i' st' nx' ac' = 0
    · rw [if_pos h2] at h
      by_cases h3 : i = i'
      · subst h3
        obtain ⟨I, s, n, e1, rfl, hM⟩ := vldD_zero h1
        obtain ⟨J, t, n', e2, rfl, hM'⟩ := vldD_zero h2
        obtain rfl : I = J := by omega
        exact ⟨I, s, t, n, n', e1, rfl, e1, rfl, hM, hM'⟩
      · rw [if_neg h3] at h; omega
    · rw [if_neg h2] at h; exact absurd h h2
  · rw [if_neg h1] at h; exact absurd h h1
def cmbV (op i st : Int) (nx : List (List Int)) (ac : List Bool) (i' st' : Int) (nx' : List (List Int)) (ac' : List Bool) : (Int × Int × List (List Int) × List Bool) × Int :=
  if 0 ≤ op ∧ op < 4 then (if vld2 i st nx ac i' st' nx' ac' = 0 then
    (if (cmE i.toNat st.toNat nx.length st'.toNat nx'.length nx nx').length ≤ 128 then (((i.toNat : Int), (0 : Int), autN (bothF nx nx') i.toNat (cmE i.toNat st.toNat nx.length st'.toNat nx'.length nx nx'), autA (opA op.toNat ac ac') (cmE i.toNat st.toNat nx.length st'.toNat nx'.length nx nx')), 0) else ((0, 0, [], []), 11))
    else ((0, 0, [], []), vld2 i st nx ac i' st' nx' ac')) else ((0, 0, [], []), 2)
def difV (i st : Int) (nx : List (List Int)) (ac : List Bool) (i' st' : Int) (nx' : List (List Int)) (ac' : List Bool) : (List Int × Bool) × Int :=
  if vld2 i st nx ac i' st' nx' ac' = 0 then (fwR (fun p => aN ac p.1 != aN ac' p.2) (cmE i.toNat st.toNat nx.length st'.toNat nx'.length nx nx'), 0) else (([], false), vld2 i st nx ac i' st' nx' ac')
section
variable (op i st i' st' : Int) (A B A' B' : Option Addr) (n c m d n' c' m' d' : Nat) (nx nx' : List (List Int)) (ac ac' : List Bool) (w : World) (hx : Lists w A n nx) (ha : Bools w B m ac) (hx' : Lists w A' n' nx') (ha' : Bools w B' m' ac')
include hx ha hx' ha'
theorem pcmbR : Calls Try.prog 22 #[.int .i64 op, .agg #[.int .i64 i, .int .i64 st, .slice A n c, .slice B m d], .agg #[.int .i64 i', .int .i64 st', .slice A' n' c', .slice B' m' d']] w (AutR (cmbV op i st nx ac i' st' nx' ac') w) := by
  by_cases ho : 0 ≤ op ∧ op < 4
  · by_cases hv : vld2 i st nx ac i' st' nx' ac' = 0
    · have hV : cmbV op i st nx ac i' st' nx' ac' = (if (cmE i.toNat st.toNat nx.length st'.toNat nx'.length nx nx').length ≤ 128 then (((i.toNat : Int), (0 : Int), autN (bothF nx nx') i.toNat (cmE i.toNat st.toNat nx.length st'.toNat nx'.length nx nx'), autA (opA op.toNat ac ac') (cmE i.toNat st.toNat nx.length st'.toNat nx'.length nx nx')), 0) else ((0, 0, [], []), 11)) := by unfold cmbV; rw [if_pos ho, if_pos hv]
      obtain ⟨I, s, t, N, N', rfl, rfl, rfl, rfl, hM, hM'⟩ := vld2_zero hv
      obtain ⟨k, rfl⟩ : ∃ k : Nat, op = k := ⟨op.toNat, by omega⟩
      obtain rfl : n = N := by rw [← hx.1]; exact hM.nxl
      obtain rfl : n = m := by rw [← ha.1]; exact hM.acl.symm
      obtain rfl : n' = N' := by rw [← hx'.1]; exact hM'.nxl
      obtain rfl : n' = m' := by rw [← ha'.1]; exact hM'.acl.symm
      refine (dcombine k I s t n n' (by omega) A B A' B' c d c' d' nx nx' ac ac' w hx ha hx' ha' hM hM').mono ?_
      rintro e w' ⟨h1, h2⟩
      rw [hV, hx.1, hx'.1]
      simp only [Int.toNat_natCast]
      exact AutP.toR (by have := hM.i2; omega) h1 h2
    · refine (dcombine_bad op i st i' st' A B A' B' n c m d n' c' m' d' nx nx' ac ac' w ho hx ha hx' ha' hv).mono ?_
      rintro e w' ⟨rfl, h3⟩
      rw [show cmbV op i st nx ac i' st' nx' ac' = ((0, 0, [], []), vld2 i st nx ac i' st' nx' ac') by unfold cmbV; rw [if_pos ho, if_neg hv]]
      exact AutR.bad h3
  · refine (dcombine_op op i st i' st' A B A' B' n c m d n' c' m' d' w ho).mono ?_
    rintro e w' ⟨rfl, h3⟩
    rw [show cmbV op i st nx ac i' st' nx' ac' = ((0, 0, [], []), 2) from if_neg ho]
    exact AutR.bad h3
theorem rcmbR : Calls Try.prog 23 #[.int .i64 op, .agg #[.int .i64 i, .int .i64 st, .slice A n c, .slice B m d], .agg #[.int .i64 i', .int .i64 st', .slice A' n' c', .slice B' m' d']] w (AutR (cmbV op i st nx ac i' st' nx' ac') w) := by
  by_cases ho : 0 ≤ op ∧ op < 4
  · by_cases hv : vld2 i st nx ac i' st' nx' ac' = 0
    · have hV : cmbV op i st nx ac i' st' nx' ac' = (if (cmE i.toNat st.toNat nx.length st'.toNat nx'.length nx nx').length ≤ 128 then (((i.toNat : Int), (0 : Int), autN (bothF nx nx') i.toNat (cmE i.toNat st.toNat nx.length st'.toNat nx'.length nx nx'), autA (opA op.toNat ac ac') (cmE i.toNat st.toNat nx.length st'.toNat nx'.length nx nx')), 0) else ((0, 0, [], []), 11)) := by unfold cmbV; rw [if_pos ho, if_pos hv]
      obtain ⟨I, s, t, N, N', rfl, rfl, rfl, rfl, hM, hM'⟩ := vld2_zero hv
      obtain ⟨k, rfl⟩ : ∃ k : Nat, op = k := ⟨op.toNat, by omega⟩
      obtain rfl : n = N := by rw [← hx.1]; exact hM.nxl
      obtain rfl : n = m := by rw [← ha.1]; exact hM.acl.symm
      obtain rfl : n' = N' := by rw [← hx'.1]; exact hM'.nxl
      obtain rfl : n' = m' := by rw [← ha'.1]; exact hM'.acl.symm
      refine (rcomb7 k I s t n n' (by omega) A B A' B' c d c' d' nx nx' ac ac' w hx ha hx' ha' hM hM').mono ?_
      rintro e w' ⟨h1, h2⟩
      rw [hV, hx.1, hx'.1]
      simp only [Int.toNat_natCast]
      exact AutP.toR (by have := hM.i2; omega) h1 h2
    · refine (rcomb7_bad op i st i' st' A B A' B' n c m d n' c' m' d' nx nx' ac ac' w ho hx ha hx' ha' hv).mono ?_
      rintro e w' ⟨rfl, h3⟩
      rw [show cmbV op i st nx ac i' st' nx' ac' = ((0, 0, [], []), vld2 i st nx ac i' st' nx' ac') by unfold cmbV; rw [if_pos ho, if_neg hv]]
      exact AutR.bad h3
  · refine (rcomb7_op op i st i' st' A B A' B' n c m d n' c' m' d' w ho).mono ?_
    rintro e w' ⟨rfl, h3⟩
    rw [show cmbV op i st nx ac i' st' nx' ac' = ((0, 0, [], []), 2) from if_neg ho]
    exact AutR.bad h3
theorem pdifR : Calls Try.prog 24 #[.agg #[.int .i64 i, .int .i64 st, .slice A n c, .slice B m d], .agg #[.int .i64 i', .int .i64 st', .slice A' n' c', .slice B' m' d']] w (WrdR (difV i st nx ac i' st' nx' ac') w) := by
  by_cases hv : vld2 i st nx ac i' st' nx' ac' = 0
  · have hV : difV i st nx ac i' st' nx' ac' = (fwR (fun p => aN ac p.1 != aN ac' p.2) (cmE i.toNat st.toNat nx.length st'.toNat nx'.length nx nx'), 0) := if_pos hv
    obtain ⟨I, s, t, N, N', rfl, rfl, rfl, rfl, hM, hM'⟩ := vld2_zero hv
    obtain rfl : n = N := by rw [← hx.1]; exact hM.nxl
    obtain rfl : n = m := by rw [← ha.1]; exact hM.acl.symm
    obtain rfl : n' = N' := by rw [← hx'.1]; exact hM'.nxl
    obtain rfl : n' = m' := by rw [← ha'.1]; exact hM'.acl.symm
    refine (ddiffer I s t n n' A B A' B' c d c' d' nx nx' ac ac' w hx ha hx' ha' hM hM').mono ?_
    rintro e w' ⟨A3, c3, rfl, h1, h3⟩
    rw [hV, hx.1, hx'.1]
    simp only [Int.toNat_natCast]
    refine ⟨A3, c3, rfl, h1.ints ?_, h3⟩
    have hl := (cm_ens hM hM').len
    have := hM.n2
    have := hM'.n2
    have hnn : n * n' ≤ 128 * 128 := Nat.mul_le_mul hM.n2 hM'.n2
    rcases fw_len (cm_ens hM hM') (fun p => aN ac p.1 != aN ac' p.2) with h | h <;> omega
  · refine (ddiffer_bad i st i' st' A B A' B' n c m d n' c' m' d' nx nx' ac ac' w hx ha hx' ha' hv).mono ?_
    rintro e w' ⟨rfl, h3⟩
    rw [show difV i st nx ac i' st' nx' ac' = (([], false), vld2 i st nx ac i' st' nx' ac') from if_neg hv]
    exact ⟨none, 0, rfl, ints_none7 _, h3⟩
theorem rdifR : Calls Try.prog 25 #[.agg #[.int .i64 i, .int .i64 st, .slice A n c, .slice B m d], .agg #[.int .i64 i', .int .i64 st', .slice A' n' c', .slice B' m' d']] w (WrdR (difV i st nx ac i' st' nx' ac') w) := by
  by_cases hv : vld2 i st nx ac i' st' nx' ac' = 0
  · have hV : difV i st nx ac i' st' nx' ac' = (fwR (fun p => aN ac p.1 != aN ac' p.2) (cmE i.toNat st.toNat nx.length st'.toNat nx'.length nx nx'), 0) := if_pos hv
    obtain ⟨I, s, t, N, N', rfl, rfl, rfl, rfl, hM, hM'⟩ := vld2_zero hv
    obtain rfl : n = N := by rw [← hx.1]; exact hM.nxl
    obtain rfl : n = m := by rw [← ha.1]; exact hM.acl.symm
    obtain rfl : n' = N' := by rw [← hx'.1]; exact hM'.nxl
    obtain rfl : n' = m' := by rw [← ha'.1]; exact hM'.acl.symm
    refine (rdiff7 I s t n n' A B A' B' c d c' d' nx nx' ac ac' w hx ha hx' ha' hM hM').mono ?_
    rintro e w' ⟨A3, c3, rfl, h1, h3⟩
    rw [hV, hx.1, hx'.1]
    simp only [Int.toNat_natCast]
    exact ⟨A3, c3, rfl, h1, h3⟩
  · refine (rdiff7_bad i st i' st' A B A' B' n c m d n' c' m' d' nx nx' ac ac' w hx ha hx' ha' hv).mono ?_
    rintro e w' ⟨rfl, h3⟩
    rw [show difV i st nx ac i' st' nx' ac' = (([], false), vld2 i st nx ac i' st' nx' ac') from if_neg hv]
    exact ⟨none, 0, rfl, ints_none7 _, h3⟩
end
end Go.Proofs.Ythjnghldedfdoaa
end

section
/- The reference's Count. -/
namespace Go.Proofs.Ythjnghldedfdoaa
open Go.RowKit

/-- A row by its entries. -/
def Rowp (xs : List Int) (n : Nat) (f : Nat → Int) : Prop := xs.length = n ∧ ∀ s, s < n → xs.getD s 0 = f s
theorem Rowp.zero (n : Nat) : Rowp (List.replicate n (0 : Int)) n fun _ => 0 := ⟨by simp, fun s hs => by rw [List.getD_eq_getElem?_getD, List.getElem?_replicate_of_lt hs]; rfl⟩
theorem Rowp.set {xs : List Int} {n : Nat} {f : Nat → Int} (h : Rowp xs n f) {j : Nat} (hj : j < n) (u : Int) : Rowp (xs.set j u) n fun s => if s = j then u else f s := by
  refine ⟨by rw [List.length_set]; exact h.1, fun s hs => ?_⟩
  rw [List.getD_eq_getElem?_getD, List.getElem?_set]
  by_cases e : j = s
  · subst e; rw [if_pos rfl, if_pos (by rw [h.1]; exact hj)]; simp
  · rw [if_neg e, ← List.getD_eq_getElem?_getD, h.2 s hs]
    show f s = if s = j then u else f s
    rw [if_neg (Ne.symm e)]
theorem Rowp.congr {xs : List Int} {n : Nat} {f g : Nat → Int} (h : Rowp xs n f) (e : ∀ s, s < n → f s = g s) : Rowp xs n g := ⟨h.1, fun s hs => (h.2 s hs).trans (e s hs)⟩
theorem cnts_zero7 {nx : List (List Int)} {ac : List Bool} {i n s : Nat} (hs : s < n) : (cnts nx ac i n 0).getD s 0 = if aN ac s then 1 else 0 := by
  unfold cnts
  rw [getD_rangeN hs]
theorem cnts_succ7 {nx : List (List Int)} {ac : List Bool} {i n s k : Nat} (hs : s < n) : (cnts nx ac i n (k + 1)).getD s 0 = lgS nx (cnts nx ac i n k) s i := by
  show (lgr nx i n (cnts nx ac i n k)).getD s 0 = _
  unfold lgr
  rw [getD_rangeN hs]
theorem Owned.atBlock {w w' : World} {base g n c : Nat} {xs : List Int} (h : Owned w base (.slice (some ⟨g, 0, none⟩) n c) xs) (hk : w'.heap[g]? = w.heap[g]?) : Owned w' base (.slice (some ⟨g, 0, none⟩) n c) xs := by
  refine ⟨h.1, ?_⟩
  rcases h.2 with e | ⟨g', cap, cur, hv, hbg, hg, r⟩
  · exact .inl e
  · cases hv
    exact .inr ⟨g, _, cur, rfl, hbg, hk.trans hg, r⟩
set_option maxHeartbeats 8000000 in
set_option maxRecDepth 100000 in
theorem rcount7 (i st n : Nat) (t : Int) (A B : Option Addr) (c d : Nat) (nx : List (List Int)) (ac : List Bool) (w : World) (hx : Lists w A n nx) (ha : Bools w B n ac) (hM : Dok i st n nx ac) :
    Calls Try.prog 29 #[.agg #[.int .i64 i, .int .i64 st, .slice A n c, .slice B n d], .int .i64 t] w fun e w' => e = .returned (.tuple #[.int .i64 (cntR nx ac i n st t).1, .int .i64 (cntR nx ac i n st t).2]) ∧ Below w.heap.size w w' := by
  obtain ⟨w0, hw0⟩ : ∃ w0, w0 = w.alloc (.cells #[.int .i64 i, .int .i64 st, .slice A n c, .slice B n d] 25) := ⟨_, rfl⟩
  have hb0 : Below w.heap.size w w0 := by rw [hw0]; exact alloc_below _ _
  have hB : Dblk w0 w.heap.size (.int .i64 i) (.int .i64 st) (.slice A n c) (.slice B n d) := by rw [hw0]; exact dfa_box _ _ _ _ _
  obtain ⟨k0, k1, k2, k3, _⟩ := hB.cells
  have hn := hM.n2
  have hi := hM.i2
  have hst := hM.st
  have HW0 := Lib.hid hw0
  have HB0 := Lib.hid hb0
  have HBX := Lib.hid (fun (W : World) (h : Below w0.heap.size w0 W) => (hB.on9 h).cells)
  have HX := Lib.hid (fun (W : World) (h : Below w0.heap.size w0 W) => And.intro ((hx.below hb0).below h) ((ha.below hb0).below h))
  have HV := Lib.hid hM.vld
  have HM := Lib.hid hM
  have HLA := Lib.hid ha.1
  clear hw0 hB hb0 hM
  rw [HW0.out] at k0 k1 k2 k3
  by_cases h1 : 0 ≤ t
  · have d1 : decide (t < 0) = false := decide_eq_false (by omega)
    by_cases h2 : t ≤ 1024
    · have d2 : decide (1024 < t) = false := decide_eq_false (by omega)
      obtain ⟨T, rfl⟩ : ∃ T : Nat, t = T := ⟨t.toNat, by omega⟩
      go_enter Try.func29, Try.ntmps29
      go_wp2_with fail
      rw [← HW0.out]
      refine (rval7 _ _ _ _ _ _ _ _ _ _ _ (HX.out _ (Below.refl _ _)).1 HLA.out (by omega)).mono ?_
      rintro e w1 ⟨rfl, b1⟩
      rw [HV.out]
      have HB1 := Lib.hid b1
      clear k0 k1 k2 k3
      obtain ⟨k0, k1, k2, k3, _⟩ := HBX.out _ b1
      clear b1
      go_wp2_with (refine wpList_make_ints _ rfl _ _ rfl .i64 .i64 n rfl rfl (by omega) ?_; intro w2 ho2 b2)
      have hb2 := HB1.out.trans (b2.mono HB1.out.size)
      have HB2 := Lib.hid hb2
      have HZ1 := HB1.out.size
      have HO2 := Lib.hid (ho2.lower (base' := w0.heap.size) HZ1)
      obtain ⟨g6, hg6⟩ : ∃ g6, g6 = w1.heap.size := ⟨_, rfl⟩
      rw [← hg6] at HO2
      rw [← hg6]
      clear k0 k1 k2 k3 ho2 b2 hb2 hg6
      go_wp2_with fail
      go_loopw [7] (fun v7 wr => ∃ (s : Nat) (xs : List Int), s ≤ n ∧ v7 = .int .i64 s ∧ Owned wr w0.heap.size (.slice (some ⟨g6, 0, none⟩) n n) xs ∧ Rowp xs n (fun j => if j < s then (if aN ac j then 1 else 0) else 0) ∧ Below w0.heap.size w0 wr) (fun v7 _ => n - (intOf v7).toNat)
      case atStart => exact ⟨0, _, Nat.zero_le _, rfl, HO2.out, (Rowp.zero n).congr fun s _ => by simp, HB2.out⟩
      case round =>
        obtain ⟨s, xs, hs, rfl, hO, hR, hbr⟩ := hrel
        have HO := Lib.hid hO
        have HR := Lib.hid hR
        have HBR := Lib.hid hbr
        obtain ⟨k0, k1, k2, k3, _⟩ := HBX.out _ hbr
        obtain ⟨ge, eg, hg1, hg2, hfz⟩ := hO.head (by have := hR.1; omega)
        cases eg
        by_cases hlt : s < n
        · obtain ⟨gB, oB, eB, _, xB⟩ := (HX.out _ hbr).2.at_ hlt
          subst eB
          obtain ⟨bq, oq, eq, _, hcq⟩ := (hO.ints (by rw [hR.1]; omega)).at_ hlt
          cases eq
          have hf := hfz s
          rw [Nat.zero_add] at hcq
          have hAN : ac.getD s false = aN ac s := rfl
          rw [hAN] at xB
          cases ha1 : aN ac s with
          | true =>
            rw [ha1] at xB
            have HS := Lib.hid (And.intro (hO.stored s 1) (And.intro ((hR.set hlt 1).congr (g := fun j => if j < s + 1 then (if aN ac j then 1 else 0) else 0) fun j hj => by
              by_cases e : j = s
              · subst e; simp [ha1]
              · have e2 : (j < s + 1) = (j < s) := propext ⟨fun h => by omega, fun h => by omega⟩
                simp [e, e2]) (hbr.setCell (p := ⟨g6, s, none⟩) hg1 (.int .i64 1))))
            clear hO hR hbr hfz hAN ha1
            go_wp2_with fail
            go_roundw
            case rel => exact ⟨s + 1, _, by omega, by go_num, HS.out.1, HS.out.2.1, HS.out.2.2⟩
            case measure => simp [intOf]; omega
          | false =>
            rw [ha1] at xB
            have HS := Lib.hid (hR.congr (g := fun j => if j < s + 1 then (if aN ac j then 1 else 0) else 0) fun j hj => by
              by_cases e : j = s
              · subst e; simp [ha1]
              · have e2 : (j < s + 1) = (j < s) := propext ⟨fun h => by omega, fun h => by omega⟩
                simp [e2])
            clear hO hR hbr hfz hAN ha1
            go_wp2_with fail
            go_roundw
            case rel => exact ⟨s + 1, _, by omega, by go_num, HO.out, HS.out, HBR.out⟩
            case measure => simp [intOf]; omega
        · obtain rfl : s = n := by omega
          have HR0 := Lib.hid (hR.congr (g := fun j => ((cnts nx ac i s 0).getD j 0 : Nat)) fun j hj => by
            rw [cnts_zero7 hj]
            show (if j < s then (if aN ac j then (1 : Int) else 0) else 0) = _
            rw [if_pos hj]
            cases aN ac j <;> rfl)
          clear hO hR hbr hfz k0 k1 k2 k3
          go_wp2_with fail
          obtain ⟨wq, rfl⟩ : ∃ wq : World, wq = wr := ⟨_, rfl⟩
          go_loopw [6, 8, 9, 10, 11] (fun v6 v8 _ _ _ wr => ∃ (k g : Nat) (ys : List Int), k ≤ T ∧ v6 = .slice (some ⟨g, 0, none⟩) s s ∧ v8 = .int .i64 k ∧ Owned wr w0.heap.size (.slice (some ⟨g, 0, none⟩) s s) ys ∧ Rowp ys s (fun j => ((cnts nx ac i s k).getD j 0 : Nat)) ∧ Below w0.heap.size w0 wr) (fun _ v8 _ _ _ _ => T - (intOf v8).toNat)
          case atStart => exact ⟨0, g6, xs, Nat.zero_le _, rfl, rfl, HO.out, HR0.out, HBR.out⟩
          case round =>
            obtain ⟨k, g, ys, hk, rfl, rfl, hO, hR, hbr⟩ := hrel
            have HOY := Lib.hid hO
            have HRY := Lib.hid hR
            have HBY := Lib.hid hbr
            obtain ⟨k0, k1, k2, k3, _⟩ := HBX.out _ hbr
            by_cases hlk : k < T
            · clear hO hR hbr
              go_wp2_with (refine wpList_make_ints _ rfl _ _ rfl .i64 .i64 s rfl rfl (by omega) ?_; intro w3 ho3 b3)
              obtain ⟨gn, hgn⟩ : ∃ gn, gn = wr.heap.size := ⟨_, rfl⟩
              have hzr := HBY.out.size
              have HO3 := Lib.hid (ho3.lower (base' := w0.heap.size) hzr)
              have HC3 := Lib.hid (HOY.out.kept b3)
              have HB3 := Lib.hid (HBY.out.trans (b3.mono hzr))
              obtain ⟨_, eg, _, hglt, _⟩ := HOY.out.head (by omega)
              cases eg
              have HNE := Lib.hid (show g ≠ gn by rw [hgn]; omega)
              have hgn0 : w0.heap.size ≤ gn := by rw [hgn]; exact hzr
              rw [← hgn] at HO3
              rw [← hgn]
              clear k0 k1 k2 k3 ho3 b3 hgn hglt
              go_wp2_with fail
              go_loopw [10, 11] (fun v10 _ wz => ∃ (j : Nat) (zs : List Int), j ≤ s ∧ v10 = .int .i64 j ∧ Owned wz w0.heap.size (.slice (some ⟨gn, 0, none⟩) s s) zs ∧ Rowp zs s (fun l => if l < j then ((cnts nx ac i s (k + 1)).getD l 0 : Nat) else 0) ∧ Owned wz w0.heap.size (.slice (some ⟨g, 0, none⟩) s s) ys ∧ Below w0.heap.size w0 wz) (fun v10 _ _ => s - (intOf v10).toNat)
              case atStart => exact ⟨0, _, Nat.zero_le _, rfl, HO3.out, (Rowp.zero s).congr fun l _ => by simp, HC3.out, HB3.out⟩
              case round =>
                obtain ⟨j, zs, hj, rfl, hO, hR, hC, hbr⟩ := hrel
                have HO := Lib.hid hO
                have HR := Lib.hid hR
                have HC := Lib.hid hC
                have HBZ := Lib.hid hbr
                by_cases hlj : j < s
                · have HR4 := Lib.hid (hR.congr (g := fun l => if l = j then (lgS nx (cnts nx ac i s k) j 0 : Nat) else if l < j then ((cnts nx ac i s (k + 1)).getD l 0 : Nat) else 0) fun l hl => by
                    by_cases e : l = j
                    · subst e; simp [lgS]
                    · simp [e])
                  clear hO hR hC hbr
                  go_wp2_with fail
                  go_loopw [11] (fun v11 wv => ∃ (a : Nat) (zz : List Int), a ≤ i ∧ v11 = .int .i64 a ∧ Owned wv w0.heap.size (.slice (some ⟨gn, 0, none⟩) s s) zz ∧ Rowp zz s (fun l => if l = j then (lgS nx (cnts nx ac i s k) j a : Nat) else if l < j then ((cnts nx ac i s (k + 1)).getD l 0 : Nat) else 0) ∧ Owned wv w0.heap.size (.slice (some ⟨g, 0, none⟩) s s) ys ∧ Below w0.heap.size w0 wv) (fun v11 _ => i - (intOf v11).toNat)
                  case atStart => exact ⟨0, zs, Nat.zero_le _, rfl, HO.out, HR4.out, HC.out, HBZ.out⟩
                  case round =>
                    obtain ⟨a, zz, ha, rfl, hO, hR, hC, hbr⟩ := hrel
                    have HO4 := Lib.hid hO
                    have HR5 := Lib.hid hR
                    have HC4 := Lib.hid hC
                    have HB4 := Lib.hid hbr
                    obtain ⟨k0, k1, k2, k3, _⟩ := HBX.out _ hbr
                    by_cases hla : a < i
                    · obtain ⟨gA, oA, A1, nA, cA, eA, _, hdA, hrA⟩ := (HX.out _ hbr).1.at_ hlj
                      subst eA
                      have hnA : nA = i := by rw [← hrA.1]; exact (HM.out.row j hlj).1
                      subst hnA
                      obtain ⟨gR, oR, eR, _, xR⟩ := hrA.at_ hla
                      subst eR
                      rw [HM.out.nN_eq hlj hla] at xR
                      have hul := HM.out.nN_lt hlj hla
                      obtain ⟨b1, o1, e1, _, y1⟩ := (hO.ints (by rw [hR.1]; omega)).at_ hlj
                      cases e1
                      rw [hR.2 j hlj, Nat.zero_add] at y1
                      replace y1 : wr.cell? ⟨gn, j, none⟩ = some (.int .i64 (lgS nx (cnts nx ac nA s k) j a : Nat)) := by rw [y1]; simp
                      obtain ⟨b2, o2, e2, _, y2⟩ := (hC.ints (by rw [HRY.out.1]; omega)).at_ hul
                      cases e2
                      rw [HRY.out.2 _ hul, Nat.zero_add] at y2
                      replace y2 : wr.cell? ⟨g, nN nx j a, none⟩ = some (.int .i64 ((cnts nx ac nA s k).getD (nN nx j a) 0 : Nat)) := y2
                      obtain ⟨ge, eg, hg1, _, hfz⟩ := hO.head (by omega)
                      cases eg
                      have hf := hfz j
                      have hv1 := lgS_le nx (cnts nx ac nA s k) j a
                      have hv2 := cnts_le nx ac nA s k _ hul
                      have HAC := Lib.hid (show lgS nx (cnts nx ac nA s k) j (a + 1) = addC (lgS nx (cnts nx ac nA s k) j a) ((cnts nx ac nA s k).getD (nN nx j a) 0) from rfl)
                      obtain ⟨v, hv⟩ : ∃ v, v = lgS nx (cnts nx ac nA s k) j (a + 1) := ⟨_, rfl⟩
                      have HS := Lib.hid (And.intro (hO.stored j (v : Nat)) (And.intro ((hR.set hlj (v : Nat)).congr (g := fun l => if l = j then (lgS nx (cnts nx ac nA s k) j (a + 1) : Nat) else if l < j then ((cnts nx ac nA s (k + 1)).getD l 0 : Nat) else 0) fun l hl => by
                        by_cases e : l = j
                        · subst e; simp [hv]
                        · simp [e]) (And.intro (hC.atBlock (heap_setCell_other wr ⟨gn, j, none⟩ g (.int .i64 (v : Nat)) HNE.out)) (hbr.setCell (p := ⟨gn, j, none⟩) hgn0 (.int .i64 (v : Nat))))))
                      rw [← hv] at HAC
                      clear hv
                      generalize lgS nx (cnts nx ac nA s k) j a = x at y1 hv1 HAC
                      generalize nN nx j a = u at xR hul y2 hv2 HAC
                      generalize (cnts nx ac nA s k).getD u 0 = y at y2 hv2 HAC
                      clear hO hR hC hbr hfz hrA
                      go_wp2_with fail
                      go_region
                      have HVV := Lib.hid (show ((x : Int) + if (4611686018427387905 : Int) - (x : Int) < (y : Int) then (4611686018427387905 : Int) - (x : Int) else (y : Int)) = (v : Nat) by
                        rw [HAC.out]
                        unfold addC
                        split <;> omega)
                      have HVW := Lib.hid (show ((x : Int) + min (y : Int) ((4611686018427387905 : Int) - (x : Int))) = (v : Nat) by
                        rw [HAC.out]
                        unfold addC
                        first | omega | (split <;> omega))
                      first | rw [HVV.out] | rw [HVW.out]
                      go_wp2_with fail
                      go_roundw
                      case rel => exact ⟨a + 1, _, by omega, by go_num, HS.out.1.kept (below_drewN (Below.refl _ _) 1), HS.out.2.1, HS.out.2.2.1.kept (below_drewN (Below.refl _ _) 1), below_drewN HS.out.2.2.2 1⟩
                      case measure => simp [intOf]; omega
                    · obtain rfl : a = i := by omega
                      have HRN := Lib.hid (hR.congr (g := fun l => if l < j + 1 then ((cnts nx ac a s (k + 1)).getD l 0 : Nat) else 0) fun l hl => by
                        by_cases e : l = j
                        · subst e; rw [cnts_succ7 hl]; simp
                        · have e2 : (l < j + 1) = (l < j) := propext ⟨fun h => by omega, fun h => by omega⟩
                          simp [e, e2])
                      clear hO hR hC hbr
                      go_wp2_with fail
                      go_roundw
                      case rel => exact ⟨j + 1, zz, by omega, by go_num, HO4.out, HRN.out, HC4.out, HB4.out⟩
                      case measure => simp [intOf]; omega
                · obtain rfl : j = s := by omega
                  have HRN := Lib.hid (hR.congr (g := fun l => ((cnts nx ac i j (k + 1)).getD l 0 : Nat)) fun l hl => by simp [hl])
                  clear hO hR hC hbr
                  go_wp2_with fail
                  go_roundw
                  case rel => exact ⟨k + 1, gn, zs, by omega, rfl, by go_num, HO.out, HRN.out, HBZ.out⟩
                  case measure => simp [intOf]; omega
            · obtain rfl : k = T := by omega
              obtain ⟨bq, oq, eq, _, hcq⟩ := (hO.ints (by rw [hR.1]; omega)).at_ hst
              cases eq
              rw [hR.2 st hst, Nat.zero_add] at hcq
              replace hcq : wr.cell? ⟨g, st, none⟩ = some (.int .i64 ((cnts nx ac i s k).getD st 0 : Nat)) := hcq
              have HQ := Lib.hid (show cntR nx ac i s st k = if (cnts nx ac i s k).getD st 0 ≤ 4611686018427387904 then ((((cnts nx ac i s k).getD st 0 : Nat) : Int), 0) else (0, 17) by
                unfold cntR
                rw [if_pos ⟨by omega, by omega⟩, Int.toNat_natCast])
              generalize (cnts nx ac i s k).getD st 0 = x at hcq HQ
              clear hO hR hbr
              go_wp2_with fail
              all_goals
                first
                  | (have hq : x ≤ 4611686018427387904 := by omega
                     go_ret2
                     exact ⟨by rw [HQ.out, if_pos hq]; rfl, bt HB0.out HBY.out⟩)
                  | (have hq : ¬ x ≤ 4611686018427387904 := by omega
                     go_ret2
                     exact ⟨by rw [HQ.out, if_neg hq]; rfl, bt HB0.out HBY.out⟩)
    · have d2 : decide (1024 < t) = true := decide_eq_true (by omega)
      have HF := Lib.hid (show cntR nx ac i n st t = (0, 2) by unfold cntR; rw [if_neg (by omega)])
      go_enter Try.func29, Try.ntmps29
      go_wp2_with fail
      rw [← HW0.out]
      refine (rval7 _ _ _ _ _ _ _ _ _ _ _ (HX.out _ (Below.refl _ _)).1 HLA.out (by omega)).mono ?_
      rintro e w1 ⟨rfl, b1⟩
      rw [HV.out]
      clear k0 k1 k2 k3
      obtain ⟨k0, k1, k2, k3, _⟩ := HBX.out _ b1
      go_wp2_with fail
      go_ret2
      exact ⟨by rw [HF.out]; rfl, bt HB0.out b1⟩
  · have d1 : decide (t < 0) = true := decide_eq_true (by omega)
    have HF := Lib.hid (show cntR nx ac i n st t = (0, 2) by unfold cntR; rw [if_neg (by omega)])
    go_enter Try.func29, Try.ntmps29
    go_wp2_with fail
    rw [← HW0.out]
    refine (rval7 _ _ _ _ _ _ _ _ _ _ _ (HX.out _ (Below.refl _ _)).1 HLA.out (by omega)).mono ?_
    rintro e w1 ⟨rfl, b1⟩
    rw [HV.out]
    clear k0 k1 k2 k3
    obtain ⟨k0, k1, k2, k3, _⟩ := HBX.out _ b1
    go_wp2_with fail
    go_ret2
    exact ⟨by rw [HF.out]; rfl, bt HB0.out b1⟩
end Go.Proofs.Ythjnghldedfdoaa
end

section
/- The reference's alike: two states beside a row of classes. -/
namespace Go.Proofs.Ythjnghldedfdoaa
open Go.RowKit

/-- Alike beside classes f. -/
def alk (f : Nat → Nat) (nx : List (List Int)) (i p q : Nat) : Bool := decide (f p = f q ∧ ∀ a, a < i → f (nN nx p a) = f (nN nx q a))
set_option maxHeartbeats 4000000 in
set_option maxRecDepth 100000 in
theorem ralike7 (i st n p q : Nat) (A B C : Option Addr) (c d e : Nat) (nx : List (List Int)) (ac : List Bool) (f : Nat → Nat) (xs : List Int) (w : World) (hx : Lists w A n nx) (hc : Ints w C n xs) (hM : Dok i st n nx ac) (hf : ∀ s, s < n → xs.getD s 0 = ((f s : Nat) : Int)) (hp : p < n) (hq : q < n) :
    Calls Try.prog 63 #[.agg #[.int .i64 i, .int .i64 st, .slice A n c, .slice B n d], .slice C n e, .int .i64 p, .int .i64 q] w fun e w' => e = .returned (.bool (alk f nx i p q)) ∧ Below w.heap.size w w' := by
  obtain ⟨w0, hw0⟩ : ∃ w0, w0 = w.alloc (.cells #[.int .i64 i, .int .i64 st, .slice A n c, .slice B n d] 25) := ⟨_, rfl⟩
  have hb0 : Below w.heap.size w w0 := by rw [hw0]; exact alloc_below _ _
  have hB : Dblk w0 w.heap.size (.int .i64 i) (.int .i64 st) (.slice A n c) (.slice B n d) := by rw [hw0]; exact dfa_box _ _ _ _ _
  have hn := hM.n2
  have hi := hM.i2
  have HW0 := Lib.hid hw0
  have HB0 := Lib.hid hb0
  have HBX := Lib.hid (fun (W : World) (h : Below w0.heap.size w0 W) => (hB.on9 h).cells)
  have HX := Lib.hid (fun (W : World) (h : Below w0.heap.size w0 W) => And.intro ((hx.below hb0).below h) ((hc.below hb0).below h))
  have HM := Lib.hid hM
  have HF := Lib.hid hf
  obtain ⟨gC, oC, rfl, _, _⟩ := hc.at_ hp
  obtain ⟨_, _, eC, _, xp⟩ := (HX.out w0 (Below.refl _ _)).2.at_ hp
  cases eC
  obtain ⟨_, _, eC, _, xq⟩ := (HX.out w0 (Below.refl _ _)).2.at_ hq
  cases eC
  rw [HF.out p hp] at xp
  rw [HF.out q hq] at xq
  have b1 : (0 : Int) ≤ (p : Int) := by omega
  have b2 : (p : Int) < (n : Int) := by omega
  have b3 : (0 : Int) ≤ (q : Int) := by omega
  have b4 : (q : Int) < (n : Int) := by omega
  clear hw0 hB hb0 hM hf
  rw [HW0.out] at xp xq
  by_cases hfe : f p = f q
  · have d1 : (((f p : Nat) : Int) != ((f q : Nat) : Int)) = false := by simp [hfe]
    have HFE := Lib.hid hfe
    clear hfe
    go_enter Try.func63, Try.ntmps63
    go_wp2_with fail
    go_quiet (fail)
    go_wp2_with fail
    rw [← HW0.out]
    clear xp xq d1
    go_loopw [9] (fun v9 wr => ∃ a : Nat, v9 = .int .i64 a ∧ a ≤ i ∧ (∀ b, b < a → f (nN nx p b) = f (nN nx q b)) ∧ Below w0.heap.size w0 wr) (fun v9 _ => i - (intOf v9).toNat)
    case atStart => exact ⟨0, rfl, Nat.zero_le _, fun b h => absurd h (by omega), below_drewN (Below.refl _ _) _⟩
    case round =>
      obtain ⟨a, rfl, ha, hall, hbr⟩ := hrel
      have HALL := Lib.hid hall
      have HBR := Lib.hid hbr
      obtain ⟨k0, k1, k2, k3, _⟩ := HBX.out _ hbr
      by_cases hla : a < i
      · obtain ⟨hLx, hC⟩ := HX.out _ hbr
        obtain ⟨gA, oA, A1, n1, c1, eA, _, hdA, hrA⟩ := hLx.at_ hp
        subst eA
        obtain ⟨_, _, A2, n2, c2, eA, _, hdB, hrB⟩ := hLx.at_ hq
        cases eA
        obtain rfl : i = n1 := by rw [← hrA.1]; exact (HM.out.row p hp).1.symm
        obtain rfl : i = n2 := by rw [← hrB.1]; exact (HM.out.row q hq).1.symm
        obtain ⟨g1, o1, e1, _, x1⟩ := hrA.at_ hla
        obtain ⟨g2, o2, e2, _, x2⟩ := hrB.at_ hla
        subst e1 e2
        rw [HM.out.nN_eq hp hla] at x1
        rw [HM.out.nN_eq hq hla] at x2
        have hs := HM.out.nN_lt hp hla
        have ht := HM.out.nN_lt hq hla
        obtain ⟨_, _, eC, _, y1⟩ := hC.at_ hs
        cases eC
        obtain ⟨_, _, eC, _, y2⟩ := hC.at_ ht
        cases eC
        rw [HF.out _ hs] at y1
        rw [HF.out _ ht] at y2
        have b5 : (0 : Int) ≤ (a : Int) := by omega
        have b6 : (a : Int) < (i : Int) := by omega
        by_cases hfa : f (nN nx p a) = f (nN nx q a)
        · have HFA := Lib.hid hfa
          have HNX := Lib.hid (fun b (hb : b < a + 1) => show f (nN nx p b) = f (nN nx q b) by
            by_cases e : b = a
            · subst e; exact hfa
            · exact HALL.out b (by omega))
          have d2 : (((f (nN nx p a) : Nat) : Int) != ((f (nN nx q a) : Nat) : Int)) = false := by simp [hfa]
          clear hfa
          generalize f (nN nx p a) = u1 at y1 d2
          generalize f (nN nx q a) = u2 at y2 d2
          generalize nN nx p a = s at x1 hs y1
          generalize nN nx q a = t at x2 ht y2
          have b7 : (0 : Int) ≤ (s : Int) := by omega
          have b8 : (s : Int) < (n : Int) := by omega
          have b9 : (0 : Int) ≤ (t : Int) := by omega
          have b10 : (t : Int) < (n : Int) := by omega
          clear hLx hC hrA hrB hall hbr
          go_wp2_with fail
          go_quiet (fail)
          go_wp2_with fail
          go_roundw
          case rel => exact ⟨a + 1, by go_num, by omega, HNX.out, below_drewN HBR.out _⟩
          case measure => simp [intOf]; omega
        · have HRES := Lib.hid (show alk f nx i p q = false from decide_eq_false fun h => hfa (h.2 a hla))
          have d2 : (((f (nN nx p a) : Nat) : Int) != ((f (nN nx q a) : Nat) : Int)) = true := by simp; omega
          clear hfa
          generalize f (nN nx p a) = u1 at y1 d2
          generalize f (nN nx q a) = u2 at y2 d2
          generalize nN nx p a = s at x1 hs y1
          generalize nN nx q a = t at x2 ht y2
          have b7 : (0 : Int) ≤ (s : Int) := by omega
          have b8 : (s : Int) < (n : Int) := by omega
          have b9 : (0 : Int) ≤ (t : Int) := by omega
          have b10 : (t : Int) < (n : Int) := by omega
          clear hLx hC hrA hrB hall hbr
          go_wp2_with fail
          go_quiet (fail)
          go_wp2_with fail
          go_ret
          exact ⟨by rw [HRES.out]; rfl, bt HB0.out (below_drewN HBR.out _)⟩
      · obtain rfl : a = i := by omega
        have HRES := Lib.hid (show alk f nx a p q = true from decide_eq_true ⟨HFE.out, hall⟩)
        have d1 : decide ((a : Int) < (a : Int)) = false := decide_eq_false (by omega)
        clear hall hbr
        go_wp2_with fail
        go_ret
        exact ⟨by rw [HRES.out]; rfl, bt HB0.out HBR.out⟩
  · have HRES := Lib.hid (show alk f nx i p q = false from decide_eq_false fun h => hfe h.1)
    have d1 : (((f p : Nat) : Int) != ((f q : Nat) : Int)) = true := by simp; omega
    clear hfe
    go_enter Try.func63, Try.ntmps63
    go_wp2_with fail
    go_quiet (fail)
    go_wp2_with fail
    rw [← HW0.out]
    go_ret
    exact ⟨by rw [HRES.out]; rfl, below_drewN HB0.out _⟩
end Go.Proofs.Ythjnghldedfdoaa
end

section
/- Count in one form. -/
namespace Go.Proofs.Ythjnghldedfdoaa
open Go.RowKit

set_option maxHeartbeats 4000000 in
set_option maxRecDepth 100000 in
theorem rcount7_bad (i st k : Int) (A B : Option Addr) (n c m d : Nat) (nx : List (List Int)) (ac : List Bool) (w : World) (hx : Lists w A n nx) (ha : Bools w B m ac) (hv : ¬ vldD i st nx ac = 0) :
    Calls Try.prog 29 #[.agg #[.int .i64 i, .int .i64 st, .slice A n c, .slice B m d], .int .i64 k] w fun e w' => e = .returned (.tuple #[.int .i64 0, .int .i64 (vldD i st nx ac)]) ∧ Below w.heap.size w w' := by
  obtain ⟨w0, hw0⟩ : ∃ w0, w0 = w.alloc (.cells #[.int .i64 i, .int .i64 st, .slice A n c, .slice B m d] 25) := ⟨_, rfl⟩
  have hb0 : Below w.heap.size w w0 := by rw [hw0]; exact alloc_below _ _
  have hB : Dblk w0 w.heap.size (.int .i64 i) (.int .i64 st) (.slice A n c) (.slice B m d) := by rw [hw0]; exact dfa_box _ _ _ _ _
  obtain ⟨k0, k1, k2, k3, _⟩ := hB.cells
  obtain ⟨x, hx0, hxe⟩ : ∃ x, ¬ x = 0 ∧ vldD i st nx ac = x := ⟨_, hv, rfl⟩
  have HXE := Lib.hid hxe
  have t1 : (x != 0) = true := by simpa using hx0
  have HW0 := Lib.hid hw0
  have HX := Lib.hid (hx.below hb0)
  have HLA := Lib.hid ha.1
  have hm := ha.2.1
  have HB0 := Lib.hid hb0
  have HB := Lib.hid hB
  clear hv hxe hw0 hB hb0
  rw [HW0.out] at k0 k1 k2 k3
  go_enter Try.func29, Try.ntmps29
  go_wp2_with fail
  rw [← HW0.out]
  refine (rval7 _ _ _ _ _ _ _ _ _ _ _ HX.out HLA.out hm).mono ?_
  rintro e w1 ⟨rfl, b1⟩
  rw [HXE.out]
  clear k0 k1 k2 k3
  obtain ⟨k0, k1, k2, k3, _⟩ := (HB.out.on9 b1).cells
  go_wp2_with fail
  refine (rval7 _ _ _ _ _ _ _ _ _ _ _ (HX.out.below b1) HLA.out hm).mono ?_
  rintro e w2 ⟨rfl, b2⟩
  go_wp2_with fail
  go_ret2
  exact ⟨rfl, bt HB0.out (bt b1 b2)⟩
def cntV (i st : Int) (nx : List (List Int)) (ac : List Bool) (k : Int) : Int × Int := if vldD i st nx ac = 0 then cntR nx ac i.toNat nx.length st.toNat k else (0, vldD i st nx ac)
section
variable (i st k : Int) (A B : Option Addr) (n c m d : Nat) (nx : List (List Int)) (ac : List Bool) (w : World) (hx : Lists w A n nx) (ha : Bools w B m ac)
include hx ha
theorem pcntR : Calls Try.prog 28 #[.agg #[.int .i64 i, .int .i64 st, .slice A n c, .slice B m d], .int .i64 k] w fun e w' => e = .returned (.tuple #[.int .i64 (cntV i st nx ac k).1, .int .i64 (cntV i st nx ac k).2]) ∧ Below w.heap.size w w' := by
  by_cases hv : vldD i st nx ac = 0
  · obtain ⟨i', st', n', rfl, rfl, hM⟩ := vldD_zero hv
    obtain rfl : n = n' := by rw [← hx.1]; exact hM.nxl
    obtain rfl : n = m := by rw [← ha.1]; exact hM.acl.symm
    refine (dcount i' st' n k A B c d nx ac w hx ha hM).mono ?_
    rintro e w' ⟨rfl, h3⟩
    rw [show cntV (i' : Int) st' nx ac k = cntR nx ac i' n st' k by unfold cntV; rw [if_pos hv, hx.1]; simp only [Int.toNat_natCast]]
    exact ⟨rfl, h3⟩
  · refine (dcount_bad i st k A B n c m d nx ac w hx ha hv).mono ?_
    rintro e w' ⟨rfl, h3⟩
    rw [show cntV i st nx ac k = (0, vldD i st nx ac) from if_neg hv]
    exact ⟨rfl, h3⟩
theorem rcntR : Calls Try.prog 29 #[.agg #[.int .i64 i, .int .i64 st, .slice A n c, .slice B m d], .int .i64 k] w fun e w' => e = .returned (.tuple #[.int .i64 (cntV i st nx ac k).1, .int .i64 (cntV i st nx ac k).2]) ∧ Below w.heap.size w w' := by
  by_cases hv : vldD i st nx ac = 0
  · obtain ⟨i', st', n', rfl, rfl, hM⟩ := vldD_zero hv
    obtain rfl : n = n' := by rw [← hx.1]; exact hM.nxl
    obtain rfl : n = m := by rw [← ha.1]; exact hM.acl.symm
    refine (rcount7 i' st' n k A B c d nx ac w hx ha hM).mono ?_
    rintro e w' ⟨rfl, h3⟩
    rw [show cntV (i' : Int) st' nx ac k = cntR nx ac i' n st' k by unfold cntV; rw [if_pos hv, hx.1]; simp only [Int.toNat_natCast]]
    exact ⟨rfl, h3⟩
  · refine (rcount7_bad i st k A B n c m d nx ac w hx ha hv).mono ?_
    rintro e w' ⟨rfl, h3⟩
    rw [show cntV i st nx ac k = (0, vldD i st nx ac) from if_neg hv]
    exact ⟨rfl, h3⟩
end
end Go.Proofs.Ythjnghldedfdoaa
end

section
/- The reference's Min: what it is held to, and the case of an automaton that is not valid. -/
namespace Go.Proofs.Ythjnghldedfdoaa
open Go.RowKit

/-- The pairs of the automaton with itself, its rows and its truth values by them, and the minimal ones. -/
def mmE (i st n : Nat) (nx : List (List Int)) : List Ent := cmE i st n st n nx nx
def mmT (i st n : Nat) (nx : List (List Int)) : List (List Int) := autN (bothF nx nx) i (mmE i st n nx)
def mmB (i st n : Nat) (nx : List (List Int)) (ac : List Bool) : List Bool := autA (opA 0 ac ac) (mmE i st n nx)
def mmC (i st n : Nat) (nx : List (List Int)) (ac : List Bool) (k : Nat) : Nat → Nat := lsc i (mmT i st n nx) (mmB i st n nx ac) k
def mmN (i st n : Nat) (nx : List (List Int)) (ac : List Bool) : List (List Int) := qN (mmT i st n nx) i (mmC i st n nx ac (mmE i st n nx).length) (mmE i st n nx).length
def mmA (i st n : Nat) (nx : List (List Int)) (ac : List Bool) : List Bool := qA (mmB i st n nx ac) (mmC i st n nx ac (mmE i st n nx).length) (mmE i st n nx).length
section
variable {i st n : Nat} {nx : List (List Int)} {ac : List Bool}
theorem mm_dok (h : Dok i st n nx ac) : Dok i 0 (mmE i st n nx).length (mmT i st n nx) (mmB i st n nx ac) := cm_dok 0 h h (Nat.le_trans (diag_len h) h.n2)
theorem mm_mn (h : Dok i st n nx ac) : Mn (fun u => aN ac (runS nx st u)) i (mmN i st n nx ac) (mmA i st n nx ac) := ref_mn h rfl (lsc_cls (mm_dok h))
end
/-- What is looked for among the states ahead of s. -/
theorem mm_stop {i k s t : Nat} {nx : List (List Int)} {ac : List Bool} (hl : t ≤ lsc i nx ac k s) (h : ¬ (t < s ∧ ¬ mo i nx ac k t s)) : t = lsc i nx ac k s := by
  rcases Nat.lt_or_ge t (lsc i nx ac k s) with h1 | h1
  · exact absurd ⟨Nat.lt_of_lt_of_le h1 (lsc_le i nx ac k s), lsc_least h1⟩ h
  · omega
theorem mm_next {i k s t : Nat} {nx : List (List Int)} {ac : List Bool} (hl : t ≤ lsc i nx ac k s) (h : ¬ mo i nx ac k t s) : t + 1 ≤ lsc i nx ac k s := by
  rcases Nat.lt_or_ge t (lsc i nx ac k s) with h1 | h1
  · exact h1
  · obtain rfl : t = lsc i nx ac k s := by omega
    exact absurd (lsc_mo i nx ac k s) h
theorem alk_mo {i k s t : Nat} {nx : List (List Int)} {ac : List Bool} : alk (lsc i nx ac k) nx i t s = decide (mo i nx ac (k + 1) t s) := by
  unfold alk
  apply decide_eq_decide.2
  constructor
  · rintro ⟨h1, h2⟩; exact ⟨lsc_eq.1 h1, fun a ha => lsc_eq.1 (h2 a ha)⟩
  · rintro ⟨h1, h2⟩; exact ⟨lsc_eq.2 h1, fun a ha => lsc_eq.2 (h2 a ha)⟩
section
variable {i k s : Nat} {nx : List (List Int)} {ac : List Bool}
theorem lsc_idem : lsc i nx ac k (lsc i nx ac k s) = lsc i nx ac k s := lsc_eq.2 (lsc_mo i nx ac k s)
theorem lsc_rep : lsc i nx ac k s = s ↔ ¬ lsc i nx ac k s ∈ grp (lsc i nx ac k) s := by
  constructor
  · intro h hm
    obtain ⟨r, hr, e⟩ := grp_mem _ hm
    have := lsc_le i nx ac k r
    omega
  · intro h
    have hle := lsc_le i nx ac k s
    rcases Nat.lt_or_ge (lsc i nx ac k s) s with h1 | h1
    · have := grp_has (lsc i nx ac k) h1
      rw [lsc_idem] at this
      exact absurd this h
    · omega
theorem mm_num : nmb (lsc i nx ac k) (lsc i nx ac k s) = nmb (lsc i nx ac k) s := (nmb_eq _).2 lsc_idem
theorem mm_new (h : lsc i nx ac k s = s) : nmb (lsc i nx ac k) s = (reps (lsc i nx ac k) s).length ∧ reps (lsc i nx ac k) (s + 1) = reps (lsc i nx ac k) s ++ [s] := by
  have hg := lsc_rep.1 h
  exact ⟨by rw [nmb_new _ hg, reps_len], reps_out hg⟩
theorem mm_old (h : ¬ lsc i nx ac k s = s) : reps (lsc i nx ac k) (s + 1) = reps (lsc i nx ac k) s := reps_in (Classical.not_not.mp fun hg => h (lsc_rep.2 hg))
theorem qA_new {A : List Bool} (h : lsc i nx ac k s = s) : qA A (lsc i nx ac k) (s + 1) = qA A (lsc i nx ac k) s ++ [aN A s] := by unfold qA; rw [(mm_new h).2, List.map_append]; rfl
theorem qA_old {A : List Bool} (h : ¬ lsc i nx ac k s = s) : qA A (lsc i nx ac k) (s + 1) = qA A (lsc i nx ac k) s := by unfold qA; rw [mm_old h]
theorem qN_new {M : List (List Int)} (h : lsc i nx ac k s = s) : qN M i (lsc i nx ac k) (s + 1) = qN M i (lsc i nx ac k) s ++ [qR M i (lsc i nx ac k) s] := qN_out (lsc_rep.1 h)
theorem qN_old {M : List (List Int)} (h : ¬ lsc i nx ac k s = s) : qN M i (lsc i nx ac k) (s + 1) = qN M i (lsc i nx ac k) s := qN_in (Classical.not_not.mp fun hg => h (lsc_rep.2 hg))
end
set_option maxHeartbeats 4000000 in
set_option maxRecDepth 100000 in
theorem rmin7_bad (i st : Int) (A B : Option Addr) (n c m d : Nat) (nx : List (List Int)) (ac : List Bool) (w : World) (hx : Lists w A n nx) (ha : Bools w B m ac) (hv : ¬ vldD i st nx ac = 0) :
    Calls Try.prog 27 #[.agg #[.int .i64 i, .int .i64 st, .slice A n c, .slice B m d]] w fun e w' => e = .returned (.tuple #[.agg #[.int .i64 0, .int .i64 0, .slice none 0 0, .slice none 0 0], .int .i64 (vldD i st nx ac)]) ∧ Below w.heap.size w w' := by
  obtain ⟨w0, hw0, hb0, hB, hR, hz0⟩ := cpl_boxes w i st A B n c m d
  obtain ⟨k0, k1, k2, k3, _⟩ := hB.cells
  have hv2 : vld2 i st nx ac i st nx ac = vldD i st nx ac := by unfold vld2; rw [if_neg hv]
  have hvv : ¬ vld2 i st nx ac i st nx ac = 0 := by rw [hv2]; exact hv
  obtain ⟨x, hx0, hxe⟩ : ∃ x, ¬ x = 0 ∧ vldD i st nx ac = x := ⟨_, hv, rfl⟩
  have HXE := Lib.hid hxe
  have HV2 := Lib.hid hv2
  have HVV := Lib.hid hvv
  have t1 : (x != 0) = true := by simpa using hx0
  have HW0 := Lib.hid hw0
  have HX := Lib.hid (hx.below hb0)
  have HA := Lib.hid (ha.below hb0)
  have HB0 := Lib.hid hb0
  have HB := Lib.hid hB
  have HR := Lib.hid hR
  have HZ := Lib.hid hz0
  clear hv hxe hw0 hB hb0 hR hz0 hv2 hvv
  rw [HW0.out] at k0 k1 k2 k3
  go_enter Try.func27, Try.ntmps27
  go_wp2_with fail
  rw [← HW0.out]
  refine (rcomb7_bad 0 _ _ _ _ _ _ _ _ _ _ _ _ _ _ _ _ _ _ _ _ _ (by omega) HX.out HA.out HX.out HA.out HVV.out).mono ?_
  rintro e w1 ⟨rfl, b1⟩
  rw [HV2.out, HXE.out]
  obtain ⟨w2, hw2⟩ : ∃ w2, w2 = w1.alloc (.cells #[.int .i64 0, .int .i64 0, .slice none 0 0, .slice none 0 0] 25) := ⟨_, rfl⟩
  have b2 : Below w1.heap.size w1 w2 := by rw [hw2]; exact alloc_below _ _
  have HW2 := Lib.hid hw2
  have hzz := HZ.out
  have HRr := Lib.hid (HR.out.kept (bt b1 b2) (show w.heap.size + 1 < w0.heap.size by omega))
  obtain ⟨q0, q1, q2, q3, z0, z1, z2, z3⟩ := HRr.out.cells
  rw [HW2.out] at q0 q1 q2 q3 z0 z1 z2 z3
  have HB2 := Lib.hid (bt HB0.out (bt b1 b2))
  clear hzz k0 k1 k2 k3 hw2 b1 b2
  go_wp2_with fail
  rw [← HW2.out]
  refine bodyPost_ret (results_dfa rfl _ _ (w.heap.size + 1) (.int .i64 0) (.int .i64 0) (.slice none 0 0) (.slice none 0 0) rfl (HRr.out.set4 _ _ _ _)) rfl ?_
  exact ⟨by rw [HXE.out]; rfl, below_set4 (by omega) HB2.out _ _ _ _⟩
end Go.Proofs.Ythjnghldedfdoaa
end
