/- Lemmas of the proofs of this seat, of the parts Rmw7. Conditions: none. -/
import Derived.Test.YthjnghldedfdoaaNec
import Derived.Test.YthjnghldedfdoaaNea
import Derived.Deep.RegionHeld3
import Derived.BigQuiet
section
/- The reference's Min: the walk. -/
namespace Go.Proofs.Ythjnghldedfdoaa
open Go.RowKit

def cellN (w : World) (g s : Nat) : Nat := match w.cell? ⟨g, s, none⟩ with | some v => (intOf v).toNat | none => 0
theorem cellN_at {w : World} {g s t : Nat} (h : w.cell? ⟨g, s, none⟩ = some (.int .i64 t)) : cellN w g s = t := by unfold cellN; rw [h]; simp [intOf]
set_option linter.unusedSimpArgs false in
set_option maxHeartbeats 8000000 in
set_option maxRecDepth 100000 in
theorem rmin7 (i st n : Nat) (A B : Option Addr) (c d : Nat) (nx : List (List Int)) (ac : List Bool) (w : World) (hx : Lists w A n nx) (ha : Bools w B n ac) (hM : Dok i st n nx ac) :
    Calls Try.prog 27 #[.agg #[.int .i64 i, .int .i64 st, .slice A n c, .slice B n d]] w fun e w' => ∃ A' c' B' d',
      e = .returned (.tuple #[.agg #[.int .i64 i, .int .i64 0, .slice A' (mmN i st n nx ac).length c', .slice B' (mmN i st n nx ac).length d'], .int .i64 0]) ∧ OwnedL w' w.heap.size (.slice A' (mmN i st n nx ac).length c') (mmN i st n nx ac) ∧ Rws w' w.heap.size 4 1 (.slice B' (mmN i st n nx ac).length d') ((mmA i st n nx ac).map cellsB) ∧ Below w.heap.size w w' := by
  obtain ⟨w0, hw0, hb0, hB, hR, hz0⟩ := cpl_boxes w i st A B n c n d
  obtain ⟨k0, k1, k2, k3, _⟩ := hB.cells
  have HW0 := Lib.hid hw0
  have HX := Lib.hid (hx.below hb0)
  have HA := Lib.hid (ha.below hb0)
  have HB0 := Lib.hid hb0
  have HR := Lib.hid hR
  have HZ := Lib.hid hz0
  have HMM := Lib.hid hM
  have HD := Lib.hid (mm_dok hM)
  have HQ := Lib.hid (And.intro (show mmN i st n nx ac = qN (mmT i st n nx) i (lsc i (mmT i st n nx) (mmB i st n nx ac) (mmE i st n nx).length) (mmE i st n nx).length from rfl) (show mmA i st n nx ac = qA (mmB i st n nx ac) (lsc i (mmT i st n nx) (mmB i st n nx ac) (mmE i st n nx).length) (mmE i st n nx).length from rfl))
  clear hw0 hB hb0 hR hz0
  rw [HW0.out] at k0 k1 k2 k3
  go_enter Try.func27, Try.ntmps27
  go_wp2_with fail
  rw [← HW0.out]
  refine (rcomb7 0 i st st n n (by omega) A B A B c d c d nx nx ac ac w0 HX.out HA.out HX.out HA.out hM hM).mono ?_
  rintro e w1 ⟨h1, b1⟩
  have h2 := AutP.toR (by have := hM.i2; omega) h1 b1
  rw [if_pos (Nat.le_trans (diag_len hM) hM.n2)] at h2
  obtain ⟨A1, c1, B1, d1, he, xN, xB, _⟩ := h2
  have hTl : (mmT i st n nx).length = (mmE i st n nx).length := HD.out.nxl
  have hBl : (mmB i st n nx ac).length = (mmE i st n nx).length := HD.out.acl
  replace he : e = .returned (.tuple #[.agg #[.int .i64 i, .int .i64 0, .slice A1 (mmT i st n nx).length c1, .slice B1 (mmB i st n nx ac).length d1], .int .i64 0]) := he
  replace xN : Lists w1 A1 (mmT i st n nx).length (mmT i st n nx) := xN
  replace xB : Bools w1 B1 (mmB i st n nx ac).length (mmB i st n nx ac) := xB
  rw [hTl, hBl] at he
  rw [hTl] at xN
  rw [hBl] at xB
  subst he
  generalize mmT i st n nx = T at *
  generalize mmB i st n nx ac = D at *
  generalize (mmE i st n nx).length = N at *
  have hn := HD.out.n2
  have hn1 := HD.out.n1
  have hi := HD.out.i2
  obtain ⟨zs, hzs⟩ : ∃ zs, zs = w1.heap.size := ⟨_, rfl⟩
  obtain ⟨w2, hw2⟩ : ∃ w2, w2 = w1.alloc (.cells #[.int .i64 i, .int .i64 0, .slice A1 N c1, .slice B1 N d1] 25) := ⟨_, rfl⟩
  have b2 : Below w1.heap.size w1 w2 := by rw [hw2]; exact alloc_below _ _
  have D2 : Dblk w2 zs (.int .i64 i) (.int .i64 0) (.slice A1 N c1) (.slice B1 N d1) := by rw [hw2, hzs]; exact dfa_box _ _ _ _ _
  have HW2 := Lib.hid hw2
  have HZ2 := Lib.hid (show w2.heap.size = zs + 1 by rw [hw2, hzs]; simp)
  have HL := Lib.hid (fun (W : World) (h : Below w2.heap.size w2 W) => And.intro (D2.on9 h) (And.intro ((xN.below b2).below h) ((xB.below b2).below h)))
  have HB2 := Lib.hid (bt b1 b2)
  have hzb : w.heap.size + 2 ≤ w2.heap.size := by have h1 := b1.size; have h2 := b2.size; have h3 := HZ.out; omega
  have HZB := Lib.hid hzb
  obtain ⟨y0, y1, y2, y3, _⟩ := D2.cells
  rw [HW2.out] at y0 y1 y2 y3
  clear k0 k1 k2 k3 hw2 b2 D2 xN xB h1 b1 hTl hBl hM hx ha HX HA
  go_wp2_with (refine wpList_make_ints _ rfl _ _ rfl .i64 .i64 N rfl rfl (by omega) ?_; intro w3 ho3 b3)
  rw [← HW2.out] at ho3 b3
  try rw [← HW2.out]
  try rw [← hzs]
  obtain ⟨bz, hbz⟩ : ∃ bz, bz = w2.heap.size := ⟨_, rfl⟩
  have HBZ := Lib.hid hbz
  have HO3 := Lib.hid ho3
  have HB3 := Lib.hid b3
  rw [← hbz] at HO3 HB3 HL HZB HZ2
  rw [← HZ2.out]
  clear y0 y1 y2 y3 ho3 b3 hbz hzb hzs HW2
  go_wp2_with fail
  obtain ⟨wA, rfl⟩ : ∃ wA : World, wA = w3 := ⟨_, rfl⟩
  go_loopw [8] (fun v8 wr => ∃ (s : Nat) (xs : List Int), s ≤ N ∧ v8 = .int .i64 s ∧ Owned wr bz (.slice (some ⟨bz, 0, none⟩) N N) xs ∧ Rowp xs N (fun j => if j < s then ((lsc i T D 0 j : Nat) : Int) else 0) ∧ Below bz w2 wr) (fun v8 _ => N - (intOf v8).toNat)
  case atStart => exact ⟨0, _, Nat.zero_le _, rfl, HO3.out, (Rowp.zero N).congr fun j _ => by simp, HB3.out⟩
  case round =>
    obtain ⟨s, xs, hs, rfl, hO, hR, hbr⟩ := hrel
    have HO := Lib.hid hO
    have HRX := Lib.hid hR
    have HBR := Lib.hid hbr
    by_cases hlt : s < N
    · clear hO hR hbr
      go_wp2_with fail
      go_loopw [] (fun wq => ∃ (t : Nat) (ys : List Int), t ≤ lsc i T D 0 s ∧ Owned wq bz (.slice (some ⟨bz, 0, none⟩) N N) ys ∧ Rowp ys N (fun j => if j < s then ((lsc i T D 0 j : Nat) : Int) else if j = s then ((t : Nat) : Int) else 0) ∧ Below bz w2 wq) (fun wq => s - cellN wq bz s)
      case atStart => exact ⟨0, xs, Nat.zero_le _, HO.out, HRX.out.congr fun j _ => by split <;> simp, HBR.out⟩
      case round =>
        obtain ⟨t, ys, ht, hO, hR, hbr⟩ := hrel
        have HO2 := Lib.hid hO
        have HBR2 := Lib.hid hbr
        obtain ⟨_, eg, hg1, hg2, hfz⟩ := hO.head (by omega)
        cases eg
        obtain ⟨_, _, eq, _, hcq⟩ := (hO.ints (by rw [hR.1]; omega)).at_ hlt
        cases eq
        rw [Nat.zero_add] at hcq
        have hx2 := hR.2 s hlt
        simp only [Nat.lt_irrefl, if_false, if_true] at hx2
        rw [hx2] at hcq
        have hf := hfz s
        have HCN := Lib.hid (cellN_at hcq)
        obtain ⟨y0, y1, y2, y3, _⟩ := (HL.out _ hbr).1.cells
        have hls := lsc_le i T D 0 s
        have q1 : (0 : Int) ≤ (s : Int) := by omega
        have q2 : (s : Int) < (N : Int) := by omega
        have q3 : (0 : Int) ≤ (t : Int) := by omega
        have q4 : (t : Int) < (N : Int) := by omega
        have HRY := Lib.hid (fun (e : t = lsc i T D 0 s) => show Rowp ys N (fun j => if j < s + 1 then ((lsc i T D 0 j : Nat) : Int) else 0) from hR.congr fun j _ => by
          by_cases h1 : j < s
          · rw [if_pos h1, if_pos (by omega)]
          · by_cases h2 : j = s
            · subst h2; rw [if_neg h1, if_pos rfl, if_pos (by omega), ← e]
            · rw [if_neg h1, if_neg h2, if_neg (by omega)])
        by_cases hts : t < s
        · have d1 : decide ((t : Int) < (s : Int)) = true := decide_eq_true (by omega)
          have d1n : decide (t < s) = true := decide_eq_true hts
          obtain ⟨gD, oD, eD, _, v1⟩ := (HL.out _ hbr).2.2.at_ (show t < N by omega)
          obtain ⟨_, _, eD2, _, v2⟩ := (HL.out _ hbr).2.2.at_ hlt
          subst eD
          cases eD2
          by_cases hm : D.getD t false = D.getD s false
          · have HRN := Lib.hid (HRY.out (mm_stop ht fun h => h.2 hm))
            rw [hm] at v1
            generalize D.getD s false = pb at v1 v2
            have d2 : (pb != pb) = false := by simp
            clear hO hR hbr hfz hx2 hm ht
            go_wp2_with fail
            go_quiet (fail)
            go_wp2_with fail
            go_roundw
            case rel => exact ⟨s + 1, ys, by omega, by go_num, HO2.out.kept (below_drewN (Below.refl _ _) _), HRN.out, below_drewN HBR2.out _⟩
            case measure => simp [intOf]; omega
          · have HT2 := Lib.hid (mm_next (k := 0) ht hm)
            have HS := Lib.hid (fun (k : Nat) => And.intro ((HO2.out.kept (below_drewN (Below.refl _ wr) k)).stored s ((t : Int) + 1)) (And.intro (show Rowp (ys.set s ((t : Int) + 1)) N (fun j => if j < s then ((lsc i T D 0 j : Nat) : Int) else if j = s then ((t + 1 : Nat) : Int) else 0) from (hR.set hlt ((t : Int) + 1)).congr fun j _ => by
              by_cases h2 : j = s
              · subst h2; rw [if_pos rfl, if_neg (Nat.lt_irrefl _), if_pos rfl]; omega
              · rw [if_neg h2]
                show (if j < s then ((lsc i T D 0 j : Nat) : Int) else if j = s then ((t : Nat) : Int) else 0) = _
                rw [if_neg h2, if_neg h2]) ((below_drewN HBR2.out k).setCell (p := ⟨bz, s, none⟩) (Nat.le_refl _) (.int .i64 ((t : Int) + 1)))))
            have HCM := Lib.hid (fun (k : Nat) => show cellN ((wr.drewN k).setCell ⟨bz, s, none⟩ (.int .i64 ((t : Int) + 1))) bz s = t + 1 from cellN_at (by
              obtain ⟨_, _, eq, _, hc⟩ := ((HS.out k).1.ints (by rw [(HS.out k).2.1.1]; omega)).at_ hlt
              cases eq
              rw [Nat.zero_add] at hc
              have h3 := (HS.out k).2.1.2 s hlt
              simp only [Nat.lt_irrefl, if_false, if_true] at h3
              rw [h3] at hc
              exact hc))
            have e2 : D.getD s false = !(D.getD t false) := by cases h1 : D.getD t false <;> cases h2 : D.getD s false <;> simp_all
            rw [e2] at v2
            generalize D.getD t false = pa at v1 v2
            clear hO hR hbr hfz hx2 hm ht e2
            cases pa
            all_goals
              simp only [Bool.not_true, Bool.not_false] at v2
              go_wp2_with fail
              go_quiet (fail)
              go_wp2_with fail
              go_roundw
              case rel => exact ⟨t + 1, _, HT2.out, (HS.out _).1, (HS.out 0).2.1, (HS.out _).2.2⟩
              case measure => (rw [HCN.out, HCM.out]; omega)
        · have d1 : decide ((t : Int) < (s : Int)) = false := decide_eq_false (by omega)
          have d1n : decide (t < s) = false := decide_eq_false hts
          have HRN := Lib.hid (HRY.out (mm_stop ht fun h => hts h.1))
          clear hO hR hbr hfz hx2 ht
          go_wp2_with fail
          go_quiet (fail)
          go_wp2_with fail
          go_roundw
          case rel => exact ⟨s + 1, ys, by omega, by go_num, HO2.out.kept (below_drewN (Below.refl _ _) _), HRN.out, below_drewN HBR2.out _⟩
          case measure => simp [intOf]; omega
    · obtain rfl : s = N := by omega
      have HR0 := Lib.hid (show Rowp xs s (fun j => ((lsc i T D 0 j : Nat) : Int)) from hR.congr fun j hj => by rw [if_pos hj])
      clear hO hR hbr
      go_wp2_with fail
      obtain ⟨wB, rfl⟩ : ∃ wB : World, wB = wr := ⟨_, rfl⟩
      go_loopw [7, 9, 10, 11] (fun v7 v9 _ _ wr => ∃ (r g : Nat) (xs : List Int), r ≤ s ∧ v7 = .slice (some ⟨g, 0, none⟩) s s ∧ v9 = .int .i64 r ∧ Owned wr bz (.slice (some ⟨g, 0, none⟩) s s) xs ∧ Rowp xs s (fun j => ((lsc i T D r j : Nat) : Int)) ∧ Below bz w2 wr) (fun _ v9 _ _ _ => s - (intOf v9).toNat)
      case atStart => exact ⟨0, bz, xs, Nat.zero_le _, rfl, rfl, HO.out, HR0.out, HBR.out⟩
      case round =>
        clear xs HO HRX HBR HR0
        obtain ⟨r, g, xs, hr, rfl, rfl, hO, hR, hbr⟩ := hrel
        have HO := Lib.hid hO
        have HRX := Lib.hid hR
        have HBR := Lib.hid hbr
        by_cases hlr : r < s
        · clear hO hR hbr
          go_wp2_with (refine wpList_make_ints _ rfl _ _ rfl .i64 .i64 s rfl rfl (by omega) ?_; intro w5 ho5 b5)
          obtain ⟨g2, hg2⟩ : ∃ g2, g2 = wr.heap.size := ⟨_, rfl⟩
          have hzr : bz ≤ wr.heap.size := by rw [HBZ.out]; exact HBR.out.size
          have HO5 := Lib.hid (ho5.lower (base' := bz) hzr)
          have HC5 := Lib.hid (HO.out.kept b5)
          have HB5 := Lib.hid (HBR.out.trans (b5.mono hzr))
          obtain ⟨_, eg, _, hglt, _⟩ := HO.out.head (by omega)
          cases eg
          have HNE := Lib.hid (show g ≠ g2 by rw [hg2]; omega)
          have hgz : bz ≤ g2 := by rw [hg2]; exact hzr
          rw [← hg2] at HO5
          rw [← hg2]
          clear ho5 b5 hg2 hglt HO HBR
          go_wp2_with fail
          obtain ⟨wC, rfl⟩ : ∃ wC : World, wC = w5 := ⟨_, rfl⟩
          go_loopw [11] (fun v11 wz => ∃ (j : Nat) (zz : List Int), j ≤ s ∧ v11 = .int .i64 j ∧ Owned wz bz (.slice (some ⟨g2, 0, none⟩) s s) zz ∧ Rowp zz s (fun l => if l < j then ((lsc i T D (r + 1) l : Nat) : Int) else 0) ∧ Owned wz bz (.slice (some ⟨g, 0, none⟩) s s) xs ∧ Below bz w2 wz) (fun v11 _ => s - (intOf v11).toNat)
          case atStart => exact ⟨0, _, Nat.zero_le _, rfl, HO5.out, (Rowp.zero s).congr fun l _ => by simp, HC5.out, HB5.out⟩
          case round =>
            obtain ⟨j, zz, hj, rfl, hO, hR, hC, hbr⟩ := hrel
            have HO := Lib.hid hO
            have HRZ := Lib.hid hR
            have HC := Lib.hid hC
            have HBR := Lib.hid hbr
            by_cases hlj : j < s
            · clear hO hR hC hbr
              go_wp2_with fail
              go_loopw [] (fun wq => ∃ (t : Nat) (ys : List Int), t ≤ lsc i T D (r + 1) j ∧ Owned wq bz (.slice (some ⟨g2, 0, none⟩) s s) ys ∧ Rowp ys s (fun l => if l < j then ((lsc i T D (r + 1) l : Nat) : Int) else if l = j then ((t : Nat) : Int) else 0) ∧ Owned wq bz (.slice (some ⟨g, 0, none⟩) s s) xs ∧ Below bz w2 wq) (fun wq => j - cellN wq g2 j)
              case atStart => exact ⟨0, zz, Nat.zero_le _, HO.out, HRZ.out.congr fun l _ => by split <;> simp, HC.out, HBR.out⟩
              case round =>
                clear zz HO HRZ HC HBR
                obtain ⟨t, ys, ht, hO, hR, hC, hbr⟩ := hrel
                have HO := Lib.hid hO
                have HC := Lib.hid hC
                have HBR := Lib.hid hbr
                obtain ⟨_, eg, hg1, hg2, hfz⟩ := hO.head (by omega)
                cases eg
                obtain ⟨_, _, eq, _, hcq⟩ := (hO.ints (by rw [hR.1]; omega)).at_ hlj
                cases eq
                rw [Nat.zero_add] at hcq
                have hx2 := hR.2 j hlj
                simp only [Nat.lt_irrefl, if_false, if_true] at hx2
                rw [hx2] at hcq
                have hf := hfz j
                have HCN := Lib.hid (cellN_at hcq)
                obtain ⟨y0, y1, y2, y3, _⟩ := (HL.out _ hbr).1.cells
                have hls := lsc_le i T D (r + 1) j
                have hzr : bz ≤ wr.heap.size := by rw [HBZ.out]; exact hbr.size
                have q1 : (0 : Int) ≤ (j : Int) := by omega
                have q2 : (j : Int) < (s : Int) := by omega
                have hbc : Below wr.heap.size wr wr.drew := (Below.refl _ wr).drew
                have HRY := Lib.hid (fun (e : t = lsc i T D (r + 1) j) => show Rowp ys s (fun l => if l < j + 1 then ((lsc i T D (r + 1) l : Nat) : Int) else 0) from hR.congr fun l _ => by
                  by_cases h1 : l < j
                  · rw [if_pos h1, if_pos (by omega)]
                  · by_cases h2 : l = j
                    · subst h2; rw [if_neg h1, if_pos rfl, if_pos (by omega), ← e]
                    · rw [if_neg h1, if_neg h2, if_neg (by omega)])
                have HSW := Lib.hid (fun (W : World) (h : Below wr.heap.size wr W) => show W.cell? ⟨zs, 0, none⟩ = some (.int .i64 i) ∧ W.cell? ⟨zs, 1, none⟩ = some (.int .i64 0) ∧ W.cell? ⟨zs, 2, none⟩ = some (.slice A1 s c1) ∧ W.cell? ⟨zs, 3, none⟩ = some (.slice B1 s d1) ∧ W.cell? ⟨g2, j, none⟩ = some (.int .i64 t) from by
                  obtain ⟨y0, y1, y2, y3, _⟩ := (HL.out _ (HBR.out.trans (h.mono hzr))).1.cells
                  exact ⟨y0, y1, y2, y3, (h.cell (p := ⟨g2, j, none⟩) hg2).trans hcq⟩)
                by_cases hts : t < j
                · have f1 : decide ((t : Int) < (j : Int)) = true := decide_eq_true (by omega)
                  have f1n : decide (t < j) = true := decide_eq_true hts
                  by_cases hm : mo i T D (r + 1) t j
                  · have HRN := Lib.hid (HRY.out (mm_stop ht fun h => h.2 hm))
                    have HAL := Lib.hid (show alk (lsc i T D r) T i t j = true by rw [alk_mo]; exact decide_eq_true hm)
                    clear hO hR hC hbr hfz hx2 hm ht hcq
                    go_wp2_with fail
                    go_region_held3 (fun W => W.cell? ⟨zs, 0, none⟩ = some (.int .i64 i) ∧ W.cell? ⟨zs, 1, none⟩ = some (.int .i64 0) ∧ W.cell? ⟨zs, 2, none⟩ = some (.slice A1 s c1) ∧ W.cell? ⟨zs, 3, none⟩ = some (.slice B1 s d1) ∧ W.cell? ⟨g2, j, none⟩ = some (.int .i64 t))
                      (first | exact HSW.out _ hbc)
                      (first | (go_at_call 63; refine (ralike7 i 0 s t j A1 B1 (some ⟨g, 0, none⟩) c1 d1 s T D (lsc i T D r) xs _ (HL.out _ (HBR.out.trans (hbc.mono hzr))).2.1 ((HC.out.kept hbc).ints (by rw [HRX.out.1]; omega)) HD.out HRX.out.2 (by omega) hlj).mono ?_; rintro e w' ⟨rfl, b'⟩; rw [HAL.out]; have hbc := bt hbc b'))
                    all_goals
                      go_wp2_with fail
                      go_roundw
                      case rel => exact ⟨j + 1, ys, by omega, by go_num, HO.out.kept hbc, HRN.out, HC.out.kept hbc, HBR.out.trans (hbc.mono hzr)⟩
                      case measure => simp [intOf]; omega
                  · have HT2 := Lib.hid (mm_next ht hm)
                    have HAL := Lib.hid (show alk (lsc i T D r) T i t j = false by rw [alk_mo]; exact decide_eq_false hm)
                    have HRS := Lib.hid (show Rowp (ys.set j ((t : Int) + 1)) s (fun l => if l < j then ((lsc i T D (r + 1) l : Nat) : Int) else if l = j then ((t + 1 : Nat) : Int) else 0) from (hR.set hlj ((t : Int) + 1)).congr fun l _ => by
                      by_cases h2 : l = j
                      · subst h2; rw [if_pos rfl, if_neg (Nat.lt_irrefl _), if_pos rfl]; omega
                      · rw [if_neg h2]
                        show (if l < j then ((lsc i T D (r + 1) l : Nat) : Int) else if l = j then ((t : Nat) : Int) else 0) = _
                        rw [if_neg h2, if_neg h2])
                    have HS := Lib.hid (fun (W : World) (h : Below wr.heap.size wr W) => And.intro ((HO.out.kept h).stored j ((t : Int) + 1)) (And.intro ((HC.out.kept h).atBlock (heap_setCell_other W ⟨g2, j, none⟩ g (.int .i64 ((t : Int) + 1)) (show g ≠ g2 from HNE.out))) ((HBR.out.trans (h.mono hzr)).setCell (p := ⟨g2, j, none⟩) hgz (.int .i64 ((t : Int) + 1)))))
                    have HCM := Lib.hid (fun (W : World) (h : Below wr.heap.size wr W) => show cellN (W.setCell ⟨g2, j, none⟩ (.int .i64 ((t : Int) + 1))) g2 j = t + 1 from cellN_at (by
                      obtain ⟨_, _, eq, _, hc⟩ := ((HS.out W h).1.ints (by rw [HRS.out.1]; omega)).at_ hlj
                      cases eq
                      rw [Nat.zero_add] at hc
                      have h3 := HRS.out.2 j hlj
                      simp only [Nat.lt_irrefl, if_false, if_true] at h3
                      rw [h3] at hc
                      exact hc))
                    have HFZ := Lib.hid (fun (W : World) (h : Below wr.heap.size wr W) => show W.frozen? ⟨g2, j, none⟩ = false from by
                      obtain ⟨_, eg, _, _, hfz⟩ := (HO.out.kept h).head (by omega)
                      cases eg
                      exact hfz j)
                    clear hO hR hC hbr hfz hx2 hm ht hcq hf
                    go_wp2_with fail
                    go_region_held3 (fun W => W.cell? ⟨zs, 0, none⟩ = some (.int .i64 i) ∧ W.cell? ⟨zs, 1, none⟩ = some (.int .i64 0) ∧ W.cell? ⟨zs, 2, none⟩ = some (.slice A1 s c1) ∧ W.cell? ⟨zs, 3, none⟩ = some (.slice B1 s d1) ∧ W.cell? ⟨g2, j, none⟩ = some (.int .i64 t))
                      (first | exact HSW.out _ hbc)
                      (first | (go_at_call 63; refine (ralike7 i 0 s t j A1 B1 (some ⟨g, 0, none⟩) c1 d1 s T D (lsc i T D r) xs _ (HL.out _ (HBR.out.trans (hbc.mono hzr))).2.1 ((HC.out.kept hbc).ints (by rw [HRX.out.1]; omega)) HD.out HRX.out.2 (by omega) hlj).mono ?_; rintro e w' ⟨rfl, b'⟩; rw [HAL.out]; have hbc := bt hbc b'))
                    all_goals
                      have hc9 := (HSW.out _ hbc).2.2.2.2
                      have hf9 := HFZ.out _ hbc
                      go_wp2_with fail
                      go_roundw
                      case rel => exact ⟨t + 1, _, HT2.out, (HS.out _ hbc).1, HRS.out, (HS.out _ hbc).2.1, (HS.out _ hbc).2.2⟩
                      case measure => (rw [HCN.out, HCM.out _ hbc]; omega)
                · have f1 : decide ((t : Int) < (j : Int)) = false := decide_eq_false (by omega)
                  have f1n : decide (t < j) = false := decide_eq_false hts
                  have HRN := Lib.hid (HRY.out (mm_stop ht fun h => hts h.1))
                  clear hO hR hC hbr hfz hx2 ht
                  go_wp2_with fail
                  go_quiet (fail)
                  go_wp2_with fail
                  go_roundw
                  case rel => exact ⟨j + 1, ys, by omega, by go_num, HO.out.kept (below_drewN (Below.refl _ _) _), HRN.out, HC.out.kept (below_drewN (Below.refl _ _) _), below_drewN HBR.out _⟩
                  case measure => simp [intOf]; omega
            · obtain rfl : j = s := by omega
              have HR1 := Lib.hid (show Rowp zz j (fun l => ((lsc i T D (r + 1) l : Nat) : Int)) from hR.congr fun l hl => by rw [if_pos hl])
              clear hO hR hC hbr
              go_wp2_with fail
              go_roundw
              case rel => exact ⟨r + 1, g2, zz, by omega, rfl, by go_num, HO.out, HR1.out, HBR.out⟩
              case measure => simp [intOf]; omega
        · obtain rfl : r = s := by omega
          obtain ⟨C, hC⟩ : ∃ C, C = lsc i T D r := ⟨_, rfl⟩
          rw [← hC] at HQ hR
          have HNEW := Lib.hid (fun l (h : C l = l) => show nmb C l = (reps C l).length ∧ qA D C (l + 1) = qA D C l ++ [aN D l] ∧ qN T i C (l + 1) = qN T i C l ++ [qR T i C l] by subst hC; exact ⟨(mm_new h).1, qA_new h, qN_new h⟩)
          have HOLD := Lib.hid (fun l (h : ¬ C l = l) => show qA D C (l + 1) = qA D C l ∧ qN T i C (l + 1) = qN T i C l by subst hC; exact ⟨qA_old h, qN_old h⟩)
          have HCL := Lib.hid (show ∀ l, C l ≤ l ∧ C (C l) = C l ∧ nmb C (C l) = nmb C l from fun l => by subst hC; exact ⟨lsc_le i T D r l, lsc_idem, mm_num⟩)
          clear hC
          obtain ⟨wx, rfl⟩ : ∃ wx : World, wx = wr := ⟨_, rfl⟩
          obtain ⟨gq, hgq⟩ : ∃ gq, gq = wx.heap.size := ⟨_, rfl⟩
          have hzr : bz ≤ gq := by rw [hgq, HBZ.out]; exact hbr.size
          have HBW := Lib.hid (fun (W : World) (h : Below gq wx W) => show (W.cell? ⟨zs, 0, none⟩ = some (.int .i64 i) ∧ W.cell? ⟨zs, 2, none⟩ = some (.slice A1 r c1) ∧ W.cell? ⟨zs, 3, none⟩ = some (.slice B1 r d1)) ∧ Lists W A1 r T ∧ Bools W B1 r D ∧ Owned W bz (.slice (some ⟨g, 0, none⟩) r r) xs from by
            have h1 := HL.out _ (hbr.trans (h.mono hzr))
            obtain ⟨y0, y1, y2, y3, _⟩ := h1.1.cells
            exact ⟨⟨y0, y2, y3⟩, h1.2.1, h1.2.2, hO.kept (by rw [← hgq]; exact h)⟩)
          obtain ⟨w6, hw6⟩ : ∃ w6, w6 = wx.alloc (.cells #[.int .i64 i, .int .i64 0, .slice none 0 0, .slice none 0 0] 25) := ⟨_, rfl⟩
          have D6 : Dblk w6 gq (.int .i64 i) (.int .i64 0) (.slice none 0 0) (.slice none 0 0) := by rw [hw6, hgq]; exact dfa_box _ _ _ _ _
          have b6 : Below gq wx w6 := by rw [hw6, hgq]; exact alloc_below _ _
          have HZ6 := Lib.hid (show w6.heap.size = gq + 1 by rw [hw6, hgq]; simp)
          have HW6 := Lib.hid hw6
          have HGQ := Lib.hid hgq
          have HBQ0 := Lib.hid hbr
          have HXR := Lib.hid hR
          obtain ⟨⟨y0, y2, y3⟩, _⟩ := HBW.out _ (Below.refl _ _)
          clear hO hR hbr HO HRX HBR hw6
          go_wp2_with (refine wpList_make_ints _ rfl _ _ rfl .i64 .i64 r rfl rfl (by omega) ?_; intro w7 ho7 b7)
          rw [← HW6.out] at ho7 b7
          rw [HZ6.out] at ho7 b7
          try rw [← HW6.out]
          try rw [← HGQ.out]
          have D7 := D6.kept (by rw [HZ6.out]; exact b7) (show gq < w6.heap.size by rw [HZ6.out]; omega)
          have HD7 := Lib.hid (show Dres w7 gq gq i 0 [] (qA D C 0) none none 0 0 from ⟨D7, OwnedL.nil _ _, Rws.nil _ _ _ _⟩)
          have HO7 := Lib.hid ho7
          have HB7 := Lib.hid (b6.trans (b7.mono (show gq ≤ gq + 1 by omega)))
          clear y0 y2 y3 D6 b6 ho7 b7 D7 hgq
          go_wp2_with fail
          obtain ⟨wD, rfl⟩ : ∃ wD : World, wD = w7 := ⟨_, rfl⟩
          go_loopw [14] (fun v14 wz => ∃ (j : Nat) (zz : List Int) (AA : Option Addr) (cA : Nat), j ≤ r ∧ v14 = .int .i64 j ∧ Owned wz (gq + 1) (.slice (some ⟨gq + 1, 0, none⟩) r r) zz ∧ Rowp zz r (fun l => if l < j ∧ C l = l then ((nmb C l : Nat) : Int) else 0) ∧ Dres wz gq gq i 0 [] (qA D C j) none AA 0 cA ∧ Below gq wx wz) (fun v14 _ => r - (intOf v14).toNat)
          case atStart => exact ⟨0, _, none, 0, Nat.zero_le _, rfl, HO7.out, (Rowp.zero r).congr fun l _ => by simp, HD7.out, HB7.out⟩
          case round =>
            obtain ⟨j, zz, AA, cA, hj, rfl, hO, hR, hD, hbr⟩ := hrel
            have HO := Lib.hid hO
            have HRZ := Lib.hid hR
            have HDR := Lib.hid hD
            have HBR := Lib.hid hbr
            by_cases hlj : j < r
            · obtain ⟨⟨y0, y2, y3⟩, _, hBD, hCl⟩ := HBW.out _ hbr
              obtain ⟨_, _, eq, _, hcq⟩ := (hCl.ints (by rw [HXR.out.1]; omega)).at_ hlj
              cases eq
              rw [Nat.zero_add] at hcq
              have hx2 : xs.getD j 0 = ((C j : Nat) : Int) := HXR.out.2 j hlj
              rw [hx2] at hcq
              have q1 : (0 : Int) ≤ (j : Int) := by omega
              have q2 : (j : Int) < (r : Int) := by omega
              by_cases hc : C j = j
              · rw [hc] at hcq
                obtain ⟨gD, oD, eD, _, vD⟩ := hBD.at_ hlj
                subst eD
                obtain ⟨u0, u1, u2, u3, f0, f1, f2, f3⟩ := hD.1.cells
                obtain ⟨_, eg, _, _, hfz⟩ := hO.head (by omega)
                cases eg
                have hf := hfz j
                obtain ⟨_, _, eq, _, hcn⟩ := (hO.ints (by rw [hR.1]; omega)).at_ hlj
                cases eq
                rw [Nat.zero_add] at hcn
                have hbl : ∃ cur, wr.heap[gq + 1]? = some (.cells cur 3 (0, 0)) := by
                  rcases hO.2 with ⟨e, _⟩ | ⟨g', cap, cur, e, _, hg, _⟩
                  · cases e
                  · cases e; exact ⟨cur, hg⟩
                obtain ⟨cur, hbl⟩ := hbl
                have hll : (qA D C j).length = nmb C j := by rw [(HNEW.out j hc).1, qA_len]
                have hlb : (qA D C j).length ≤ j := by rw [qA_len]; exact reps_le C j
                obtain ⟨wS, hwS⟩ : ∃ wS, wS = wr.setCell ⟨gq + 1, j, none⟩ (.int .i64 ((qA D C j).length : Nat)) := ⟨_, rfl⟩
                have OS : Owned wS (gq + 1) (.slice (some ⟨gq + 1, 0, none⟩) r r) (zz.set j (((qA D C j).length : Nat) : Int)) := by rw [hwS]; exact hO.stored j _
                have DS : Dres wS gq gq i 0 [] (qA D C j) none AA 0 cA := by rw [hwS]; exact ⟨hD.1.keptT (KeptT.off (k := j) hbl (by decide) _), OwnedL.nil _ _, hD.2.2.keptT (KeptT.off (k := j) hbl (by decide) _)⟩
                have BS := hbr.setCell (p := ⟨gq + 1, j, none⟩) (show gq ≤ gq + 1 by omega) (.int .i64 ((qA D C j).length : Nat))
                rw [← hwS] at BS
                have HWS := Lib.hid hwS
                have hz : gq ≤ wS.drew.heap.size := by have := heap_lt DS.1; show gq ≤ wS.heap.size; omega
                have DSd : Dres wS.drew gq gq i 0 [] (qA D C j) none AA 0 cA := DS.kept (below_drewN (Below.refl _ wS) 1)
                obtain ⟨A9, c9, w9, hr9, hbw9, hK9, hR10, hB10, hT10, _⟩ := DSd.push_bool2 (aN D j) hz (Nat.le_refl gq) (by omega)
                have OF := (OS.kept (below_drewN (Below.refl _ wS) 1)).keptT (hT10 3 (by decide) (by decide))
                have HFN := Lib.hid (And.intro OF (And.intro hR10 ((below_drewN BS 1).trans hB10)))
                have HQA := Lib.hid (HNEW.out j hc).2.1
                have HRN := Lib.hid (show Rowp (zz.set j (((qA D C j).length : Nat) : Int)) r (fun l => if l < j + 1 ∧ C l = l then ((nmb C l : Nat) : Int) else 0) from (hR.set hlj _).congr fun l _ => by
                  by_cases h2 : l = j
                  · subst h2; rw [if_pos rfl, if_pos ⟨by omega, hc⟩, hll]
                  · rw [if_neg h2]
                    show (if l < j ∧ C l = l then ((nmb C l : Nat) : Int) else 0) = _
                    by_cases h3 : l < j ∧ C l = l
                    · rw [if_pos h3, if_pos ⟨by omega, h3.2⟩]
                    · rw [if_neg h3, if_neg (fun h => h3 ⟨by omega, h.2⟩)])
                have HSW := Lib.hid (fun (W : World) (h : Below gq wx W) (hc : W.cell? ⟨gq, 3, none⟩ = some (.slice AA (qA D C j).length cA)) => show W.cell? ⟨gq, 3, none⟩ = some (.slice AA (qA D C j).length cA) ∧ W.cell? ⟨zs, 3, none⟩ = some (.slice (some ⟨gD, oD, none⟩) r d1) ∧ W.cell? ⟨gD, oD + j, none⟩ = some (.bool (aN D j)) from by
                  obtain ⟨⟨_, _, y3⟩, _, hb, _⟩ := HBW.out _ h
                  obtain ⟨_, _, e9, _, v9⟩ := hb.at_ hlj
                  cases e9
                  exact ⟨hc, y3, v9⟩)
                obtain ⟨_, _, _, s3, _, _, _, t3⟩ := DS.1.cells
                obtain ⟨_, _, _, v3, _, _, _, g3⟩ := hK9.cells
                have HS8 := HSW.out wS.drew (below_drewN BS 1) s3
                have HS9 := HSW.out (wS.alloc (.cells #[.bool (aN D j)] 4)).drew (below_drewN (BS.alloc hz _) 1) (((alloc_below wS (.cells #[.bool (aN D j)] 4)).cell (p := ⟨gq, 3, none⟩) (heap_lt DS.1)).trans s3)
                have HS10 := HSW.out w9 ((below_drewN BS 1).trans hbw9) v3
                generalize zz.getD j 0 = z0 at hcn
                clear hO hR hD hbr hBD hCl hx2 hfz hbl hll hwS OS DS BS DSd hbw9 hK9 hR10 hB10 hT10 OF u0 u1 u2 f0 f1 f2
                go_wp2_with fail
                rw [← HWS.out]
                clear y0 y2 y3 u3 f3 hcq hcn hf vD s3 t3
                generalize aN D j = pb at *
                refine wp_region_heldE (k := 10) (S := fun W => W.cell? ⟨gq, 3, none⟩ = some (.slice AA (qA D C j).length cA) ∧ W.cell? ⟨zs, 3, none⟩ = some (.slice (some ⟨gD, oD, none⟩) r d1) ∧ W.cell? ⟨gD, oD + j, none⟩ = some (.bool pb)) (by kernel_rfl) ?_
                refine wpAnyE_take (i := 0) (v := ?_) rfl (by kernel_rfl) (by kernel_rfl) (by kernel_rfl) (by kernel_rfl) (fun _ _ _ h => h) (Or.inl ⟨by rfl, ?_⟩) (by exact HS8) ?_
                rotate_left
                · (intro W hSW; (try dsimp only at hSW); go_simp; try with_reducible rfl)
                (try simp only [Act.put, List.setIfInBounds_toArray, List.set_cons_zero, List.set_cons_succ])
                refine wpAnyE_take (i := 1) (v := ?_) rfl (by kernel_rfl) (by kernel_rfl) (by kernel_rfl) (by kernel_rfl) (fun _ _ _ h => h) (Or.inl ⟨by rfl, ?_⟩) (by exact HS8) ?_
                rotate_left
                · (intro W hSW; (try dsimp only at hSW); go_simp; try with_reducible rfl)
                (try simp only [Act.put, List.setIfInBounds_toArray, List.set_cons_zero, List.set_cons_succ])
                refine wpAnyE_take (i := 2) (v := ?_) rfl (by kernel_rfl) (by kernel_rfl) (by kernel_rfl) (by kernel_rfl) (fun _ _ _ h => h) (Or.inl ⟨by rfl, ?_⟩) (by exact HS8) ?_
                rotate_left
                · (intro W hSW; (try dsimp only at hSW); go_simp; try with_reducible rfl)
                (try simp only [Act.put, List.setIfInBounds_toArray, List.set_cons_zero, List.set_cons_succ])
                refine wpAnyE_take (i := 3) (v := ?_) rfl (by kernel_rfl) (by kernel_rfl) (by kernel_rfl) (by kernel_rfl) (fun _ _ _ h => h) (Or.inl ⟨by rfl, ?_⟩) (by exact HS8) ?_
                rotate_left
                · (intro W hSW; (try dsimp only at hSW); go_simp; try with_reducible rfl)
                (try simp only [Act.put, List.setIfInBounds_toArray, List.set_cons_zero, List.set_cons_succ])
                refine wpAnyE_take (i := 4) (v := ?_) rfl (by kernel_rfl) (by kernel_rfl) (by kernel_rfl) (by kernel_rfl) (fun _ _ _ h => h) (Or.inl ⟨by rfl, ?_⟩) (by exact HS8) ?_
                rotate_left
                · (intro W hSW; (try dsimp only at hSW); go_simp; try with_reducible rfl)
                (try simp only [Act.put, List.setIfInBounds_toArray, List.set_cons_zero, List.set_cons_succ])
                refine wpAnyE_take (i := 5) (v := ?_) rfl (by kernel_rfl) (by kernel_rfl) (by kernel_rfl) (by kernel_rfl) (fun _ _ _ h => h) (Or.inl ⟨by rfl, ?_⟩) (by exact HS8) ?_
                rotate_left
                · (intro W hSW; (try dsimp only at hSW); go_simp; try with_reducible rfl)
                (try simp only [Act.put, List.setIfInBounds_toArray, List.set_cons_zero, List.set_cons_succ])
                refine wpAnyE_take (i := 6) (v := ?_) rfl (by kernel_rfl) (by kernel_rfl) (by kernel_rfl) (by kernel_rfl) (fun _ _ _ h => h) (Or.inl ⟨by rfl, ?_⟩) (by exact HS8) ?_
                rotate_left
                · (intro W hSW; (try dsimp only at hSW); go_simp; try with_reducible rfl)
                (try simp only [Act.put, List.setIfInBounds_toArray, List.set_cons_zero, List.set_cons_succ])
                refine wpAnyE_one (i := 7) rfl (by kernel_rfl) (fun K hK => ?_)
                go_simp
                refine hK.out _ _ (fun _ => HS9) ?_
                (try simp only [Act.put, List.setIfInBounds_toArray, List.set_cons_zero, List.set_cons_succ])
                refine wpAnyE_one (i := 8) rfl (by kernel_rfl) (fun K hK => ?_)
                refine step_app rfl _ _ _ _ rfl _ _ rfl rfl _ _ hr9 ?_
                refine hK.out _ _ (fun _ => HS10) ?_
                (try simp only [Act.put, List.setIfInBounds_toArray, List.set_cons_zero, List.set_cons_succ])
                refine wpAnyE_one (i := 9) rfl (by kernel_rfl) (fun K hK => ?_)
                go_simp
                refine hK.out _ _ (fun _ => HS10) ?_
                (try simp only [Act.put, List.setIfInBounds_toArray, List.set_cons_zero, List.set_cons_succ])
                refine wpAnyE_one (i := 10) rfl (by kernel_rfl) (fun K hK => ?_)
                go_simp
                refine hK.out _ _ (fun h => absurd rfl h) ?_
                refine wpAnyE_done (by kernel_rfl) ?_ _
                go_wp2_with fail
                go_roundw
                case rel => exact ⟨j + 1, _, A9, c9, by omega, by go_num, HFN.out.1, HRN.out, by rw [HQA.out]; have := HFN.out.2.1; simpa using this, HFN.out.2.2⟩
                case measure => simp [intOf]; omega
              · have e1 : (((C j : Nat) : Int) == (j : Int)) = false := by rw [beq_eq_false_iff_ne]; omega
                have HRN := Lib.hid (show Rowp zz r (fun l => if l < j + 1 ∧ C l = l then ((nmb C l : Nat) : Int) else 0) from hR.congr fun l _ => by
                  by_cases h2 : l = j
                  · subst h2; rw [if_neg (fun h => hc h.2), if_neg (fun h => hc h.2)]
                  · by_cases h3 : l < j ∧ C l = l
                    · rw [if_pos h3, if_pos ⟨by omega, h3.2⟩]
                    · rw [if_neg h3, if_neg (fun h => h3 ⟨by omega, h.2⟩)])
                have HQA := Lib.hid (HOLD.out j hc).1
                generalize C j = cj at hcq e1 hc
                clear hO hR hD hbr hBD hCl hx2 hc
                go_wp2_with fail
                go_roundw
                case rel => exact ⟨j + 1, zz, AA, cA, by omega, by go_num, HO.out, HRN.out, by rw [HQA.out]; exact HDR.out, HBR.out⟩
                case measure => simp [intOf]; omega
            · obtain rfl : j = r := by omega
              have HRN := Lib.hid (show Rowp zz j (fun l => if C l = l then ((nmb C l : Nat) : Int) else 0) from hR.congr fun l hl => by
                by_cases h : C l = l
                · rw [if_pos h, if_pos ⟨hl, h⟩]
                · rw [if_neg h, if_neg (fun h2 => h h2.2)])
              clear hO hR hD hbr
              go_wp2_with fail
              obtain ⟨wE, rfl⟩ : ∃ wE : World, wE = wr := ⟨_, rfl⟩
              go_loopw [15, 16, 17] (fun v15 _ _ wz => ∃ (m : Nat) (AN : Option Addr) (cN : Nat), m ≤ j ∧ v15 = .int .i64 m ∧ Owned wz (gq + 1) (.slice (some ⟨gq + 1, 0, none⟩) j j) zz ∧ Dres wz gq gq i 0 (qN T i C m) (qA D C j) AN AA cN cA ∧ Below gq wx wz) (fun v15 _ _ _ => j - (intOf v15).toNat)
              case atStart => exact ⟨0, none, 0, Nat.zero_le _, rfl, HO.out, HDR.out, HBR.out⟩
              case round =>
                clear HO HDR HBR
                obtain ⟨m, AN, cN, hm, rfl, hO, hD, hbr⟩ := hrel
                have HO := Lib.hid hO
                have HDR := Lib.hid hD
                have HBR := Lib.hid hbr
                by_cases hlm : m < j
                · obtain ⟨⟨y0, y2, y3⟩, _, _, hCl⟩ := HBW.out _ hbr
                  obtain ⟨_, _, eq, _, hcq⟩ := (hCl.ints (by rw [HXR.out.1]; omega)).at_ hlm
                  cases eq
                  rw [Nat.zero_add] at hcq
                  have hx2 : xs.getD m 0 = ((C m : Nat) : Int) := HXR.out.2 m hlm
                  rw [hx2] at hcq
                  have q1 : (0 : Int) ≤ (m : Int) := by omega
                  have q2 : (m : Int) < (j : Int) := by omega
                  by_cases hc : C m = m
                  · rw [hc] at hcq
                    clear hO hD hbr hCl hx2
                    go_wp2_with fail
                    clear hcq y0 y2 y3
                    obtain ⟨wo, hwo⟩ : ∃ wo : World, wo = wr := ⟨_, rfl⟩
                    rw [← hwo] at HO HDR HBR ⊢
                    clear hwo
                    have hzo : gq ≤ wo.heap.size := by have := heap_lt HDR.out.1; omega
                    go_loopw [16, 17] (fun v16 v17 wq => ∃ (a : Nat) (AR : Option Addr) (cR : Nat), a ≤ i ∧ v17 = .int .i64 a ∧ v16 = .slice AR a cR ∧ Owned wq wo.heap.size (.slice AR a cR) ((qR T i C m).take a) ∧ Below wo.heap.size wo wq) (fun _ v17 _ => i - (intOf v17).toNat)
                    case atStart => exact ⟨0, none, 0, Nat.zero_le _, rfl, rfl, Owned.nil _ _, Below.refl _ _⟩
                    case round =>
                      obtain ⟨a, AR, cR, ha, rfl, rfl, hO2, hbq⟩ := hrel
                      have hbw : Below gq wx wr := HBR.out.trans (hbq.mono hzo)
                      obtain ⟨⟨y0, y2, y3⟩, hLT, _, hCl⟩ := HBW.out _ hbw
                      have hNum := HO.out.kept hbq
                      have htl : ((qR T i C m).take a).length = a := by rw [List.length_take, qR_len]; omega
                      by_cases hla : a < i
                      · obtain ⟨gA, oA, A2, n2, c2, eA, _, hdA, hrA⟩ := hLT.at_ hlm
                        subst eA
                        obtain rfl : i = n2 := by rw [← hrA.1]; exact (HD.out.row m hlm).1.symm
                        obtain ⟨g3, o3, e3, _, x3⟩ := hrA.at_ hla
                        subst e3
                        rw [HD.out.nN_eq hlm hla] at x3
                        have hs := HD.out.nN_lt hlm hla
                        obtain ⟨_, _, eq, _, x4⟩ := (hCl.ints (by rw [HXR.out.1]; omega)).at_ hs
                        cases eq
                        have h4 : xs.getD (nN T m a) 0 = ((C (nN T m a) : Nat) : Int) := HXR.out.2 _ hs
                        rw [Nat.zero_add, h4] at x4
                        have hcl : C (nN T m a) < j := Nat.lt_of_le_of_lt (HCL.out _).1 hs
                        obtain ⟨_, _, eq, _, x5⟩ := (hNum.ints (by rw [HRN.out.1]; omega)).at_ hcl
                        cases eq
                        have h5 : zz.getD (C (nN T m a)) 0 = ((nmb C (nN T m a) : Nat) : Int) := by
                          rw [HRN.out.2 _ hcl]
                          show (if C (C (nN T m a)) = C (nN T m a) then ((nmb C (C (nN T m a)) : Nat) : Int) else 0) = _
                          rw [if_pos (HCL.out _).2.1, (HCL.out _).2.2]
                        rw [Nat.zero_add, h5] at x5
                        have htk : (qR T i C m).take (a + 1) = (qR T i C m).take a ++ [((nmb C (nN T m a) : Nat) : Int)] := by
                          have h6 := qR_at (nx := T) (i := i) (f := C) (s := m) hla
                          rw [List.getD_eq_getElem?_getD, List.getElem?_eq_getElem (by rw [qR_len]; exact hla)] at h6
                          rw [List.take_succ_eq_append_getElem (by rw [qR_len]; exact hla)]
                          exact congrArg (fun z => (qR T i C m).take a ++ [z]) h6
                        obtain ⟨A5, c5, w5, hr5, hO5, hb5, _⟩ := run_append_oneB hO2 ((nmb C (nN T m a) : Nat) : Int) hbq.size (by rw [htl]; omega)
                        rw [htl] at hr5 hO5
                        rw [← htk] at hO5
                        have HF := Lib.hid (And.intro hO5 (hbq.trans hb5))
                        generalize nmb C (nN T m a) = u5 at x5 hr5
                        generalize C (nN T m a) = u4 at x4 x5 hcl
                        generalize nN T m a = u3 at x3 x4 hs
                        have q3 : (0 : Int) ≤ (a : Int) := by omega
                        have q4 : (a : Int) < (i : Int) := by omega
                        have q5 : (0 : Int) ≤ (u3 : Int) := by omega
                        have q6 : (u3 : Int) < (j : Int) := by omega
                        have q7 : (0 : Int) ≤ (u4 : Int) := by omega
                        have q8 : (u4 : Int) < (j : Int) := by omega
                        clear hO2 hbq hbw hLT hCl hNum htl hrA h4 h5 htk hO5 hb5
                        go_wp2_with (at_builtin; refine Lib.wpList_append_run _ rfl _ _ _ _ rfl _ _ rfl rfl _ _ hr5 ?_)
                        go_roundw
                        case rel => exact ⟨a + 1, A5, c5, by omega, by go_num, rfl, HF.out.1, HF.out.2⟩
                        case measure => simp [intOf]; omega
                      · obtain rfl : a = i := by omega
                        have hzq := hbq.size
                        have hOr : Owned wr gq (.slice AR a cR) (qR T a C m) := by
                          have h := hO2.lower hzo
                          rw [List.take_of_length_le (by rw [qR_len]; exact Nat.le_refl _)] at h
                          exact h
                        have hD2 := HDR.out.kept hbq
                        have hlq : (qN T a C m).length ≤ m := by rw [qN_len]; exact reps_le C m
                        obtain ⟨A7, c7, w7, hr7, hK7, hR8, hB8, hT8, _⟩ := hD2.push_row hOr (by omega) (Nat.le_refl gq) (by omega)
                        obtain ⟨z0, z1, z2, z3, f0, f1, f2, f3⟩ := hD2.1.cells
                        obtain ⟨z0', z1', z2', z3', f0', f1', f2', f3'⟩ := hK7.cells
                        have HH7 := Lib.hid (And.intro hR8 (And.intro (hbw.trans hB8) (hNum.keptT (hT8 3 (by decide) (by decide)))))
                        have HQN := Lib.hid (HNEW.out m hc).2.2
                        clear hO2 hbq hbw hLT hCl hNum htl hOr hD2 hK7 hR8 hB8 hT8 z0 z1 z3 f0 f1 f3 z0' z1' z3' f0' f1' f3'
                        go_wp2_with (at_builtin; refine Lib.wpList_append_run _ rfl _ _ _ _ rfl _ _ rfl rfl _ _ hr7 ?_)
                        go_roundw
                        case rel => exact ⟨m + 1, A7, c7, by omega, by go_num, HH7.out.2.2, by rw [HQN.out]; exact HH7.out.1, HH7.out.2.1⟩
                        case measure => simp [intOf]; omega
                  · have e1 : (((C m : Nat) : Int) != (m : Int)) = true := by simp; omega
                    have HQN := Lib.hid (HOLD.out m hc).2
                    generalize C m = cm at hcq e1 hc
                    clear hO hD hbr hCl hx2 hc
                    go_wp2_with fail
                    go_roundw
                    case rel => exact ⟨m + 1, AN, cN, by omega, by go_num, HO.out, by rw [HQN.out]; exact HDR.out, HBR.out⟩
                    case measure => simp [intOf]; omega
                · obtain rfl : m = j := by omega
                  have hle : (qA D C m).length = (qN T i C m).length := by rw [qA_len, qN_len]
                  obtain ⟨hk, hN9, hB9⟩ := hD
                  rw [hle] at hk hB9
                  obtain ⟨y0, y1, y2, y3, _⟩ := hk.cells
                  have hzz := HZ.out
                  have hz2 := HZB.out
                  have h0b := HB2.out.size
                  have hb0r : Below w0.heap.size w0 wr := bt HB2.out (by rw [← HBZ.out]; exact HBQ0.out.trans (hbr.mono hzr))
                  have HRr := Lib.hid (HR.out.kept hb0r (show w.heap.size + 1 < w0.heap.size by omega))
                  obtain ⟨k0, k1, k2, k3, z0, z1, z2, z3⟩ := HRr.out.cells
                  have HN9 := Lib.hid hN9
                  have HB9 := Lib.hid hB9
                  have HBF := Lib.hid (bt HB0.out hb0r)
                  have HZL := Lib.hid (show w.heap.size ≤ gq by omega)
                  clear hO hbr hk hN9 hB9 hle hzz hz2 h0b hb0r
                  go_wp2_with fail
                  refine bodyPost_ret (results_dfa rfl _ _ (w.heap.size + 1) _ _ _ _ rfl (HRr.out.set4 _ _ _ _)) rfl ?_
                  rw [HQ.out.1, HQ.out.2]
                  refine ⟨AN, cN, AA, cA, rfl, ?_, ?_, below_set4 (by omega) HBF.out _ _ _ _⟩
                  · exact (HN9.out.keptT (HRr.out.off4 _ _ _ _ (by decide)) (HRr.out.off4 _ _ _ _ (by decide))).lower HZL.out
                  · exact (HB9.out.keptT (HRr.out.off4 _ _ _ _ (by decide))).lower HZL.out
end Go.Proofs.Ythjnghldedfdoaa
end
