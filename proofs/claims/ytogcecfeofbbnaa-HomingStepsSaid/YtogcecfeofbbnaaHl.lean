/- Lemmas of the proofs of this seat, of the parts L13d. Conditions: none. -/
import Derived.Test.YtogcecfeofbbnaaHh
section
/- The law HomingSteps: the walk. -/
namespace Go.Proofs.Ytogcecfeofbbnaa
open Go.RowKit

theorem Ints.head13 {w : World} {A : Option Addr} {n : Nat} {xs : List Int} (h : Ints w A n xs) {p : Nat} (hp : p ≤ n) : Ints w A p (xs.take p) :=
  ⟨by rw [List.length_take, h.1]; omega, Nat.le_trans hp h.2.1, fun h0 => by
    obtain ⟨b, off, e, hlt, hc⟩ := h.2.2 (by omega)
    exact ⟨b, off, e, hlt, fun j hj => by rw [hc j (by omega)]; simp [List.getD, hj]⟩⟩
theorem Owned.cap13 {w : World} {base n c : Nat} {A : Option Addr} {xs : List Int} (h : Owned w base (.slice A n c) xs) : n ≤ c := by
  rcases h.2 with ⟨e, h0⟩ | ⟨g, cap, cur, e, _, _, hn, _⟩
  · cases e; omega
  · cases e; exact hn
/-- The states that are reached from those of a list that answer with an output. -/
def hit13 (nx ot : List (List Int)) (a : Nat) (y : Int) (xs : List Int) : List Nat := (xs.filter fun s => decide (oN ot s.toNat a = y)).map fun s => nN nx s.toNat a
theorem hit13_next {nx ot : List (List Int)} {a : Nat} {y : Int} {xs : List Int} {j t : Nat} (hj : j < xs.length) (ht : xs.getD j 0 = t) : hit13 nx ot a y (xs.take (j + 1)) = if oN ot t a = y then hit13 nx ot a y (xs.take j) ++ [nN nx t a] else hit13 nx ot a y (xs.take j) := by
  have e : xs.take (j + 1) = xs.take j ++ [xs.getD j 0] := by rw [List.getD_eq_getElem?_getD]; exact take_next hj
  rw [e, ht]
  unfold hit13
  by_cases h : oN ot t a = y
  · rw [if_pos h, List.filter_append, List.map_append]
    simp [h]
  · rw [if_neg h, List.filter_append, List.map_append]
    simp [h]
theorem hit13_aft {nx ot : List (List Int)} {a : Nat} {y : Int} {xs : List Int} {x : Nat} : x ∈ hit13 nx ot a y xs ↔ (x : Int) ∈ aft nx ot xs a y := by
  rw [aft_mem]
  unfold hit13
  simp only [List.mem_map, List.mem_filter, decide_eq_true_eq]
  exact ⟨fun ⟨s, ⟨h1, h2⟩, h3⟩ => ⟨s, h1, h2, by omega⟩, fun ⟨s, h1, h2, h3⟩ => ⟨s, ⟨h1, h2⟩, by omega⟩⟩

/-- How many numbers below a number are hit. -/
def cnt13 (l : List Nat) (t : Nat) : Nat := ((List.range t).filter fun x => decide (x ∈ l)).length
theorem cnt13_next (l : List Nat) (t : Nat) : cnt13 l (t + 1) = if t ∈ l then cnt13 l t + 1 else cnt13 l t := by
  unfold cnt13
  rw [List.range_succ, List.filter_append, List.length_append]
  by_cases h : t ∈ l
  · rw [if_pos h]; simp [h]
  · rw [if_neg h]; simp [h]
theorem cnt13_at (l : List Nat) : ∀ {n t : Nat}, t < n → t ∈ l → cnt13 l t < cnt13 l n ∧ (zs ((List.range n).filter fun x => decide (x ∈ l))).getD (cnt13 l t) 0 = (t : Int)
  | 0, t, h, _ => absurd h (by omega)
  | n + 1, t, h, hl => by
    have hz : (zs ((List.range n).filter fun x => decide (x ∈ l))).length = cnt13 l n := zs_len _
    rw [cnt13_next, List.range_succ, List.filter_append, zs_append]
    by_cases e : t = n
    · subst e
      rw [if_pos hl]
      refine ⟨by omega, ?_⟩
      rw [List.getD_eq_getElem?_getD, List.getElem?_append_right (by rw [hz]; exact Nat.le_refl _), hz, Nat.sub_self]
      simp [hl, zs]
    · obtain ⟨h1, h2⟩ := cnt13_at l (n := n) (t := t) (by omega) hl
      refine ⟨by split <;> omega, ?_⟩
      rw [List.getD_eq_getElem?_getD, List.getElem?_append_left (by rw [hz]; exact h1), ← List.getD_eq_getElem?_getD]
      exact h2
theorem asc_hit {n : Nat} {al : List Int} {l : List Nat} (h1 : al.Pairwise (· < ·)) (h2 : ∀ x, x ∈ al → ∃ t : Nat, x = t ∧ t < n) (h3 : ∀ t : Nat, t ∈ l ↔ (t : Int) ∈ al) : al = zs ((List.range n).filter fun x => decide (x ∈ l)) := by
  refine asc_eq h1 (zs_asc (List.Pairwise.filter _ List.pairwise_lt_range)) fun x => ⟨fun h => ?_, fun h => ?_⟩
  · obtain ⟨t, rfl, ht⟩ := h2 x h
    rw [mem_zs]
    exact List.mem_filter.2 ⟨List.mem_range.2 ht, decide_eq_true ((h3 t).2 h)⟩
  · obtain ⟨t, ht, rfl⟩ := List.mem_map.1 h
    exact (h3 t).1 (of_decide_eq_true (List.mem_filter.1 ht).2)
section
variable {i st n : Nat} {nx ot : List (List Int)}
/-- All that the law needs to know. -/
theorem steps13 (hM : Mok i st n nx ot) {N s : Nat} {u : List Int} (hl : u.length = N + 1) (hc : chk u i = 0) (hs : s < n) : ∃ (a : Nat) (y : Int) (bl al : List Int) (t : Nat), u.getD N 0 = a ∧ a < i ∧ (runO nx ot s u).getD N 0 = y ∧
    frm i st nx ot s u = (runO nx ot s u, (t : Int), 0) ∧ t < n ∧
    posL i st nx ot (u.take N) ((runO nx ot s u).take N) = bl ∧ posE i st nx ot (u.take N) ((runO nx ot s u).take N) = 0 ∧ posL i st nx ot u (runO nx ot s u) = al ∧ posE i st nx ot u (runO nx ot s u) = 0 ∧
    bl.length ≤ n ∧ al.length ≤ n ∧ (∀ j, j < bl.length → ∃ z : Nat, bl.getD j 0 = z ∧ z < n) ∧ al = zs ((List.range n).filter fun x => decide (x ∈ hit13 nx ot a y bl)) ∧ t ∈ hit13 nx ot a y bl := by
  have hW : Wd i u := Syms.mem (chk_zero hc).2.2.2
  have hul := (chk_zero hc).2.2.1
  have h0 : hck i st nx ot u = 0 := by unfold hck; rw [if_pos hM.vld, hc]
  have hlo : (runO nx ot s u).length = N + 1 := by rw [runO_len, hl]
  have hin : 0 ≤ u.getD N 0 ∧ u.getD N 0 < i := hW _ (by rw [List.getD_eq_getElem?_getD, List.getElem?_eq_getElem (by omega)]; exact List.getElem_mem _)
  have hWt : Wd i (u.take N) := fun x hx => hW x (List.mem_of_mem_take hx)
  have htl : (u.take N).length = N := by rw [List.length_take]; omega
  have hct : chk (u.take N) i = 0 := chk_ok (by have := hM.i1; have := hM.i2; omega) (by omega) (fun m hm => hWt _ (by rw [List.getD_eq_getElem?_getD, List.getElem?_eq_getElem hm]; exact List.getElem_mem _))
  have h0t : hck i st nx ot (u.take N) = 0 := by unfold hck; rw [if_pos hM.vld, hct]
  have hlt : (u.take N).length = ((runO nx ot s u).take N).length := by rw [htl, List.length_take]; omega
  have hll : u.length = (runO nx ot s u).length := by omega
  have hct2 := cur_take (n := n) hM (w := u) (o := runO nx ot s u) (k := N) hW (by omega) (by omega)
  rw [List.take_of_length_le (by omega), List.take_of_length_le (by omega)] at hct2
  refine ⟨(u.getD N 0).toNat, _, cur n nx ot (u.take N) ((runO nx ot s u).take N), cur n nx ot u (runO nx ot s u), runS nx s u, by omega, by omega, rfl, frm_ok hM.vld (by rw [hM.nxl]; exact hs) hc, hM.runS_lt u s hs hW, ?_, ?_, ?_, ?_, cur_le _ _ _ _ _, cur_le _ _ _ _ _, fun j hj => ?_, ?_, ?_⟩
  · unfold posL; rw [if_pos ⟨h0t, hlt⟩, hM.nxl]
  · unfold posE; rw [if_pos h0t, if_pos hlt]
  · unfold posL; rw [if_pos ⟨h0, hll⟩, hM.nxl]
  · unfold posE; rw [if_pos h0, if_pos hll]
  · exact cur_nat (by rw [List.getD_eq_getElem?_getD, List.getElem?_eq_getElem hj]; exact List.getElem_mem _)
  · exact asc_hit (cur_asc _ _ _ _ _) (fun x hx => cur_nat hx) fun t => by rw [hit13_aft, ← hct2]
  · rw [hit13_aft, ← hct2]
    exact cur_self hM hW hs
end

set_option linter.unusedSimpArgs false in
set_option linter.unusedVariables false in
set_option maxHeartbeats 8000000 in
set_option maxRecDepth 100000 in
theorem steps13_walk (i1 st1 : Int) (A B : Option Addr) (n c m d : Nat) (nx ot : List (List Int)) (p : Nat) (U : Option Addr) (k cu : Nat) (u : List Int) (w : World) (hx1 : Lists w A n nx) (ho1 : Lists w B m ot) (hp : p < 256) (hU : Ints w U k u) (hcu : k ≤ cu) :
    Calls Try.prog 6 #[.agg #[.int .i64 i1, .int .i64 st1, .slice A n c, .slice B m d], .int .u8 p, .slice U k cu] w fun e w' => e = .returned (.bool true) ∧ Below w.heap.size w w' := by
  obtain ⟨w0, hw0⟩ : ∃ w0, w0 = w.alloc (.cells #[.int .i64 i1, .int .i64 st1, .slice A n c, .slice B m d] 24) := ⟨_, rfl⟩
  have hb0 : Below w.heap.size w w0 := by rw [hw0]; exact alloc_below _ _
  have hG : Mblk w0 w.heap.size (.int .i64 i1) (.int .i64 st1) (.slice A n c) (.slice B m d) := by rw [hw0]; exact mealy_box w _ _ _ _
  have HW0 := Lib.hid hw0
  have HB0 := Lib.hid hb0
  have HX := Lib.hid (fun (W : World) (h : Below w0.heap.size w0 W) => (hx1.below hb0).below h)
  have HO := Lib.hid (fun (W : World) (h : Below w0.heap.size w0 W) => (ho1.below hb0).below h)
  have HU := Lib.hid (fun (W : World) (h : Below w0.heap.size w0 W) => (hU.below hb0).below h)
  have hul := hU.1
  have hz0 : w0.heap.size = w.heap.size + 1 := by rw [hw0]; simp
  have HG := Lib.hid (fun (W : World) (h : Below w0.heap.size w0 W) => hG.kept h (show w.heap.size < w0.heap.size by omega))
  have hbc := Below.refl w0.heap.size w0
  obtain ⟨k0, k1, k2, k3, _⟩ := hG.cells
  rw [HW0.out] at k0 k1 k2 k3
  clear hw0 hb0 hG hz0 hx1 ho1 hU
  go_enter Try.func6, Try.ntmps6
  go_wp2_with fail
  rw [← HW0.out]
  refine (lsmall _ _ _ _ _ _ _ _ _ _ _ (HX.out _ hbc) (HO.out _ hbc)).mono ?_
  rintro e w1 ⟨b1, rfl, hs1, a1⟩
  have hbc := bt hbc a1
  clear k0 k1 k2 k3 a1
  cases b1 with
  | false =>
    clear hs1 hul
    go_wp2_with fail
    refine (awake13 _).mono ?_
    rintro e w9 ⟨rfl, a9⟩
    go_wp2
    go_ret
    exact ⟨rfl, bt HB0.out (bt hbc a9)⟩
  | true =>
    have HS1 := Lib.hid (hs1 rfl)
    clear hs1
    obtain ⟨k0, k1, k2, k3, _⟩ := (HG.out _ hbc).cells
    go_wp2_with fail
    refine (rvalid _ _ _ _ _ _ _ _ _ _ _ (HX.out _ hbc) (HO.out _ hbc)).mono ?_
    rintro e w2 ⟨rfl, a2⟩
    have hbc := bt hbc a2
    clear k0 k1 k2 k3 a2
    by_cases hm : vld i1 st1 nx ot = 0
    · rw [hm]
      by_cases hk : (60 : Int) < (k : Int)
      · have d1 : decide ((60 : Int) < (k : Int)) = true := decide_eq_true hk
        clear hm hul
        go_wp2_with fail
        refine (awake13 _).mono ?_
        rintro e w9 ⟨rfl, a9⟩
        go_wp2
        go_ret
        exact ⟨rfl, bt HB0.out (bt hbc a9)⟩
      · have d1 : decide ((60 : Int) < (k : Int)) = false := decide_eq_false hk
        by_cases hk0 : k = 0
        · have d2 : ((k : Int) == 0) = true := by rw [hk0]; rfl
          clear hm hul hk0
          go_wp2_with fail
          refine (awake13 _).mono ?_
          rintro e w9 ⟨rfl, a9⟩
          go_wp2
          go_ret
          exact ⟨rfl, bt HB0.out (bt hbc a9)⟩
        · obtain ⟨N, hkN⟩ : ∃ N, k = N + 1 := ⟨k - 1, by omega⟩
          have d2 : ((k : Int) == 0) = false := by rw [beq_eq_false_iff_ne]; omega
          have hk60 : k ≤ 60 := by omega
          have hNk : N < k := by omega
          have q1 : (k : Int) - 1 = (N : Int) := by omega
          have q2 : (N : Int) + 1 = (k : Int) := by omega
          have HKN := Lib.hid hkN
          obtain ⟨i, st, n', rfl, rfl, hM⟩ := vld_zero hm
          have hnn : n = n' := by rw [← hM.nxl]; exact (HX.out _ hbc).1.symm
          subst hnn
          have hmm : n = m := by rw [← hM.otl]; exact (HO.out _ hbc).1
          subst hmm
          obtain ⟨s, hsn, hmod⟩ : ∃ s : Nat, s < n ∧ ((p : Int)).tmod (n : Int) = (s : Int) := ⟨p % n, Nat.mod_lt _ hM.n1, by rw [Int.tmod_eq_emod_of_nonneg (by omega)]; rfl⟩
          have hn0 : ¬ n = 0 := by omega
          have hn128 := hM.n2
          have HMM := Lib.hid hM
          have HUL := Lib.hid (hul.trans hkN)
          clear hul hm hM hkN hk0 hk
          obtain ⟨k0, k1, k2, k3, _⟩ := (HG.out _ hbc).cells
          go_wp2_with fail
          refine (pfrom i st A B U n c n d k cu nx ot s u w2 (HX.out _ hbc) (HO.out _ hbc) (HU.out _ hbc)).mono ?_
          rintro e w3 ⟨A3, c3, rfl, o3, a3⟩
          have hbc := bt hbc a3
          have hz3 := hbc.size
          clear k0 k1 k2 k3
          by_cases hc : chk u i = 0
          · have HC := Lib.hid hc
            obtain ⟨a, y, bl, al, t, f1, f2, f3, f4, f5, f6, f7, f8, f9, f10, f11, f12, f13, f14⟩ := steps13 HMM.out HUL.out hc hsn
            have hol : (runO nx ot s u).length = k := by rw [runO_len, HUL.out, HKN.out]
            have e1 : (frm i st nx ot s u).1 = runO nx ot s u := by rw [f4]
            have e2 : (frm i st nx ot s u).2.1 = (t : Int) := by rw [f4]
            have e3 : (frm i st nx ot s u).2.2 = 0 := by rw [f4]
            rw [e1, hol] at o3
            rw [e1, e2, e3, hol]
            clear e1 e2 e3 f4
            generalize runO nx ot s u = O at o3 hol f3 f6 f7 f8 f9
            have hc3 := Owned.cap13 o3
            have h3 : Ints w3 A3 k O := o3.ints (by omega)
            have HOL := Lib.hid hol
            have F1 := Lib.hid f1
            have F3 := Lib.hid f3
            have F6 := Lib.hid f6
            have F7 := Lib.hid f7
            have F8 := Lib.hid f8
            have F9 := Lib.hid f9
            have F12 := Lib.hid f12
            have F13 := Lib.hid f13
            have F14 := Lib.hid f14
            clear f1 f3 f6 f7 f8 f9 f12 f13 f14 hc o3 a3 hol
            obtain ⟨bU, oU, rfl, hbU, cU⟩ := (HU.out w3 hbc).at_ hNk
            obtain ⟨bO, oO, rfl, hbO, cO⟩ := h3.at_ hNk
            rw [F1.out] at cU
            rw [F3.out] at cO
            have hNcu : (N : Int) ≤ (cu : Int) := by omega
            have hNc3 : (N : Int) ≤ (c3 : Int) := by omega
            have HBC3 := Lib.hid hbc
            have H3 := Lib.hid h3
            have HK6 := Lib.hid (fun (W : World) (h : Below w3.heap.size w3 W) => (show W.cell? ⟨w.heap.size, 0, none⟩ = some (.int .i64 i) ∧ W.cell? ⟨w.heap.size, 1, none⟩ = some (.int .i64 st) ∧ W.cell? ⟨w.heap.size, 2, none⟩ = some (.slice A n c) ∧ W.cell? ⟨w.heap.size, 3, none⟩ = some (.slice B n d) ∧ W.cell? ⟨bU, oU + N, none⟩ = some (.int .i64 a) ∧ W.cell? ⟨bO, oO + N, none⟩ = some (.int .i64 y) from ⟨(HG.out W (bt HBC3.out h)).cells.1, (HG.out W (bt HBC3.out h)).cells.2.1, (HG.out W (bt HBC3.out h)).cells.2.2.1, (HG.out W (bt HBC3.out h)).cells.2.2.2.1, (h.cell (p := ⟨bU, oU + N, none⟩) hbU).trans cU, (h.cell (p := ⟨bO, oO + N, none⟩) hbO).trans cO⟩))
            obtain ⟨k0, k1, k2, k3, _, _⟩ := HK6.out _ (Below.refl _ _)
            clear h3 hbc cU cO hbU hbO
            go_wp2_with fail
            go_region_held3 (fun w' => w'.cell? ⟨w.heap.size, 0, none⟩ = some (.int .i64 i) ∧ w'.cell? ⟨w.heap.size, 1, none⟩ = some (.int .i64 st) ∧ w'.cell? ⟨w.heap.size, 2, none⟩ = some (.slice A n c) ∧ w'.cell? ⟨w.heap.size, 3, none⟩ = some (.slice B n d))
              (first | exact ⟨(HK6.out _ (below_drewN (Below.refl _ _) 1)).1, (HK6.out _ (below_drewN (Below.refl _ _) 1)).2.1, (HK6.out _ (below_drewN (Below.refl _ _) 1)).2.2.1, (HK6.out _ (below_drewN (Below.refl _ _) 1)).2.2.2.1⟩ | exact ⟨(HK6.out _ (bt (below_drewN (Below.refl _ _) 1) a4)).1, (HK6.out _ (bt (below_drewN (Below.refl _ _) 1) a4)).2.1, (HK6.out _ (bt (below_drewN (Below.refl _ _) 1) a4)).2.2.1, (HK6.out _ (bt (below_drewN (Below.refl _ _) 1) a4)).2.2.2.1⟩ | go_keep)
              ((go_at_call 22; refine (ppossible i st A B (some ⟨bU, oU, none⟩) (some ⟨bO, oO, none⟩) n c n d N cu N c3 nx ot (u.take N) (O.take N) _ (HX.out _ (bt HBC3.out (below_drewN (Below.refl _ _) 1))) (HO.out _ (bt HBC3.out (below_drewN (Below.refl _ _) 1))) ((HU.out _ (bt HBC3.out (below_drewN (Below.refl _ _) 1))).head13 (by omega)) ((H3.out.below (below_drewN (Below.refl _ _) 1)).head13 (by omega))).mono ?_; rintro e w4 ⟨A4, c4, rfl, o4, a4⟩))
            have H4 : Hid (Ints w4 A4 bl.length bl) := Lib.hid (by rw [F6.out] at o4; exact o4.ints (by omega))
            rw [F6.out, F7.out]
            have hb4 : Below w3.heap.size w3 w4 := bt (below_drewN (Below.refl _ _) 1) a4
            have HB4 := Lib.hid hb4
            obtain ⟨k0, k1, k2, k3, _, _⟩ := HK6.out _ hb4
            clear o4 a4 hb4
            go_wp2_with fail
            refine (ppossible i st A B (some ⟨bU, oU, none⟩) (some ⟨bO, oO, none⟩) n c n d k cu k c3 nx ot u O w4 (HX.out _ (bt HBC3.out HB4.out)) (HO.out _ (bt HBC3.out HB4.out)) (HU.out _ (bt HBC3.out HB4.out)) (H3.out.below HB4.out)).mono ?_
            rintro e w5 ⟨A5, c5, rfl, o5, a5⟩
            have H5 : Hid (Ints w5 A5 al.length al) := Lib.hid (by rw [F8.out] at o5; exact o5.ints (by omega))
            rw [F8.out, F9.out]
            have hb5 := bt HB4.out a5
            have HB5 := Lib.hid hb5
            have H45 := Lib.hid (H4.out.below a5)
            clear k0 k1 k2 k3
            obtain ⟨k0, k1, k2, k3, q4, q5⟩ := HK6.out _ hb5
            clear o5 a5 hb5
            obtain ⟨bL, hbL⟩ : ∃ bL, bL = bl.length := ⟨_, rfl⟩
            obtain ⟨aL, haL⟩ : ∃ aL, aL = al.length := ⟨_, rfl⟩
            rw [← hbL] at H45 f10 F12 ⊢
            rw [← haL] at H5 f11 ⊢
            have HBL := Lib.hid hbL
            have HAL := Lib.hid haL
            clear hbL haL
            have hin : n ≤ 17592186044416 := by omega
            go_wp2_with (refine wpList_make_bools _ rfl _ _ rfl .i64 .i64 n rfl rfl hin ?_; intro w6 se6 b6)
            have HB6 := Lib.hid b6
            have HSE := Lib.hid se6
            clear b6 se6 k0 k1 k2 k3 q4 q5
            go_loopw [95] (fun kv wr => ∃ q : Nat, q ≤ bL ∧ kv = .int .i64 q ∧ Seen wr w5.heap.size (seenOf n (hit13 nx ot a y (bl.take q))) ∧ Below w5.heap.size w5 wr) (fun kv _ => bL - (intOf kv).toNat)
            case atStart => exact ⟨0, Nat.zero_le _, rfl, by rw [List.take_zero]; show Seen w6 w5.heap.size (seenOf n []); rw [seenOf_nil]; exact HSE.out, HB6.out⟩
            case round =>
              obtain ⟨q, hq, rfl, hse, hbr⟩ := hrel
              have HBR := Lib.hid hbr
              have hb3r := bt HB5.out hbr
              by_cases hlt : q < bL
              · obtain ⟨z, hz, hzn⟩ := F12.out q hlt
                obtain ⟨bq, oq, rfl, hbq, cq⟩ := (H45.out.below hbr).at_ hlt
                rw [hz] at cq
                obtain ⟨k0, k1, k2, k3, q4, q5⟩ := HK6.out _ hb3r
                have HXr := HX.out _ (bt HBC3.out hb3r)
                have HOr := HO.out _ (bt HBC3.out hb3r)
                obtain ⟨g1, p1, A1, n1, d1', hA, hg1, hd1, hr1⟩ := HXr.at_ hzn
                obtain ⟨g2, p2, A2, n2, d2', hB, hg2, hd2, hr2⟩ := HOr.at_ hzn
                have hi1 := (HMM.out.row z hzn).1
                have hi2 := (HMM.out.row z hzn).2.1
                have hl1 := hr1.1
                have hl2 := hr2.1
                obtain rfl : n1 = i := by omega
                obtain rfl : n2 = n1 := by omega
                obtain ⟨g3, p3, rfl, hg3, hy1⟩ := hr1.at_ f2
                obtain ⟨g4, p4, rfl, hg4, hy2⟩ := hr2.at_ f2
                rw [HMM.out.nN_eq hzn f2] at hy1
                change wr.cell? _ = some (.int .i64 (oN ot z a)) at hy2
                have hlt2 := HMM.out.nN_lt hzn f2
                have hnx := hit13_next (nx := nx) (ot := ot) (a := a) (y := y) (xs := bl) (j := q) (t := z) (by rw [← HBL.out]; exact hlt) hz
                obtain ⟨e4, e5⟩ := hse.at_ (x := nN nx z a) (by rw [seenOf_len]; exact hlt2)
                rw [seenOf_at hlt2] at e4
                subst hA hB
                generalize nN nx z a = tt at hy1 hlt2 hnx e4 e5
                have hst := hse.set tt true
                rw [seenOf_set] at hst
                have hbst := hbr.setCell (p := ⟨w5.heap.size, tt, none⟩) (Nat.le_refl _) (.bool true)
                have HST := Lib.hid hst
                have HBST := Lib.hid hbst
                have HSEE := Lib.hid hse
                have hzlt : (z : Int) < (n : Int) := by omega
                have hzge : decide ((n : Int) ≤ (z : Int)) = false := decide_eq_false (by omega)
                generalize decide (tt ∈ hit13 nx ot a y (bl.take q)) = bt0 at e4
                clear hl1 hl2 hi1 hi2 hst hbst hse HXr HOr hr1 hr2 hz hg1 hg2 hg3 hg4 hbq
                by_cases hoy : oN ot z a = y
                · rw [if_pos hoy] at hnx
                  rw [hoy] at hy2
                  have HNX := Lib.hid hnx
                  clear hnx hoy hbr hb3r
                  go_wp2
                  go_quiet (fail)
                  go_wp2
                  go_region
                  all_goals
                    go_wp2
                    go_roundw
                    case rel => exact ⟨q + 1, by omega, by go_num, by rw [HNX.out]; exact HST.out, by first | exact below_drewN HBST.out _ | exact HBST.out | exact (below_drewN HBR.out _).setCell (p := ⟨w5.heap.size, tt, none⟩) (Nat.le_refl _) (.bool true) | exact below_drewN ((below_drewN HBR.out _).setCell (p := ⟨w5.heap.size, tt, none⟩) (Nat.le_refl _) (.bool true)) _⟩
                    case measure => simp [intOf]; omega
                · rw [if_neg hoy] at hnx
                  have hoy' : ((oN ot z a : Int) == y) = false := by rw [beq_eq_false_iff_ne]; exact hoy
                  have HNX := Lib.hid hnx
                  generalize oN ot z a = oo at hy2 hoy'
                  clear hnx hoy hbr hb3r
                  go_wp2
                  go_quiet (fail)
                  go_wp2
                  go_roundw
                  case rel => exact ⟨q + 1, by omega, by go_num, by rw [HNX.out]; exact HSEE.out, below_drewN HBR.out _⟩
                  case measure => simp [intOf]; omega
              · obtain rfl : q = bL := by omega
                have hall := Lib.hid (List.take_of_length_le (l := bl) (i := q) (by rw [← HBL.out]; exact Nat.le_refl _))
                rw [hall.out] at hse
                have HSE2 := Lib.hid hse
                obtain ⟨HT, hHT⟩ : ∃ HT, HT = hit13 nx ot a y bl := ⟨_, rfl⟩
                rw [← hHT] at HSE2 F13 F14
                have HC0 := Lib.hid (fun (t : Nat) => cnt13_next HT t)
                have HC1 := Lib.hid (fun (t : Nat) (h : t < n) (h2 : t ∈ HT) => cnt13_at HT h h2)
                have HAC : Hid (aL = cnt13 HT n) := Lib.hid (by rw [HAL.out, F13.out, zs_len]; rfl)
                have HT14 := Lib.hid F14.out
                clear hHT hse hbr hb3r HSE
                go_wp2
                go_loopw [139, 19] (fun kv cv wq => ∃ q2 : Nat, q2 ≤ n ∧ kv = .int .i64 q2 ∧ cv = .int .i64 (cnt13 HT q2) ∧ wq = wr) (fun kv _ _ => n - (intOf kv).toNat)
                case atStart => exact ⟨0, Nat.zero_le _, rfl, by simp [cnt13], rfl⟩
                case round =>
                  obtain ⟨q2, hq2, rfl, rfl, rfl⟩ := hrel
                  by_cases hlt2 : q2 < n
                  · obtain ⟨e4, e5⟩ := HSE2.out.at_ (x := q2) (by rw [seenOf_len]; exact hlt2)
                    rw [seenOf_at hlt2] at e4
                    by_cases hin2 : q2 ∈ HT
                    · rw [decide_eq_true hin2] at e4
                      obtain ⟨g1, g2⟩ := HC1.out q2 hlt2 hin2
                      have g0 := HC0.out q2
                      rw [if_pos hin2] at g0
                      have hlt3 : cnt13 HT q2 < aL := by rw [HAC.out]; exact g1
                      obtain ⟨bq, oq, rfl, hbq, cq⟩ := (H5.out.below HBR.out).at_ hlt3
                      rw [F13.out, g2] at cq
                      have G0 := Lib.hid g0
                      generalize cnt13 HT q2 = kk at cq hlt3 G0 ⊢
                      have hge : decide ((aL : Int) ≤ (kk : Int)) = false := decide_eq_false (by omega)
                      have hne : ((q2 : Int) != (q2 : Int)) = false := by simp
                      clear g0 g1 g2 hin2 hbq
                      go_wp2
                      go_roundw
                      case rel => exact ⟨q2 + 1, by omega, by go_num, by rw [G0.out]; go_num, trivial⟩
                      case measure => simp [intOf]; omega
                    · rw [decide_eq_false hin2] at e4
                      have g0 := HC0.out q2
                      rw [if_neg hin2] at g0
                      have G0 := Lib.hid g0
                      generalize cnt13 HT q2 = kk at G0 ⊢
                      clear g0 hin2
                      go_wp2
                      go_roundw
                      case rel => exact ⟨q2 + 1, by omega, by go_num, by rw [G0.out], trivial⟩
                      case measure => simp [intOf]; omega
                  · obtain rfl : q2 = n := by omega
                    rw [← HAC.out]
                    obtain ⟨e4, e5⟩ := HSE2.out.at_ (x := t) (by rw [seenOf_len]; exact f5)
                    rw [seenOf_at f5, decide_eq_true HT14.out] at e4
                    have hbc := bt HBC3.out (bt HB5.out HBR.out)
                    go_wp2_with fail
                    refine (awake13 _).mono ?_
                    rintro e w9 ⟨rfl, a9⟩
                    go_wp2
                    go_ret
                    exact ⟨rfl, bt HB0.out (bt hbc a9)⟩
          · have HFW := Lib.hid (frm_word HMM.out.vld (by rw [HMM.out.nxl]; omega : 0 ≤ (s : Int) ∧ (s : Int) < nx.length) hc)
            rw [HFW.out] at o3 ⊢
            have hne : (chk u i != 0) = true := by simpa using hc
            generalize chk u i = x at hne ⊢
            clear hc o3 a3
            go_wp2_with fail
            refine (awake13 _).mono ?_
            rintro e w9 ⟨rfl, a9⟩
            go_wp2
            go_ret
            exact ⟨rfl, bt HB0.out (bt hbc a9)⟩
    · have hne : (vld i1 st1 nx ot != 0) = true := by simpa using hm
      generalize vld i1 st1 nx ot = x at hne ⊢
      clear hm hul
      go_wp2_with fail
      refine (awake13 _).mono ?_
      rintro e w9 ⟨rfl, a9⟩
      go_wp2
      go_ret
      exact ⟨rfl, bt HB0.out (bt hbc a9)⟩
end Go.Proofs.Ytogcecfeofbbnaa
end
