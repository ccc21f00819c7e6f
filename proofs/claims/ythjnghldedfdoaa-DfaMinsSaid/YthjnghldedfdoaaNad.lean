/- Lemmas of the proofs of this seat, of the parts Dval, Dsml, Dminp, Dcnt, Dnum, Revi, Dwrd, Dbeg, Dbgn. Conditions: none. -/
import Derived.Test.YthjnghldedfdoaaNac
import Derived.Test.YthjnghldedfdoaaNaa
import Derived.Test.YthjnghldedfdoaaNab
import Derived.Deep.RegionHeld3
import Derived.WalkLawsBesides
import Derived.RegionTactic
import Derived.ChangeAlike
import Derived.Deep.AppendLies
section
/- Valid of an automaton. -/
namespace Go.Proofs.Ythjnghldedfdoaa
open Go.RowKit

theorem disst (i st : Int) (A B : Option Addr) (n c m d : Nat) (s : Int) (b : Bool) (w : World) (_ : n ≤ 17592186044416) (hb : b = decide (0 ≤ s ∧ s < n)) :
    Calls Try.prog 49 #[.agg #[.int .i64 i, .int .i64 st, .slice A n c, .slice B m d], .int .i64 s] w fun e w' => e = .returned (.bool b) ∧ Below w.heap.size w w' := by
  by_cases h1 : 0 ≤ s
  · by_cases h2 : s < n
    · have hf := Lib.hid (hb.trans (decide_eq_true ⟨h1, h2⟩))
      have d2 : decide (s < (n : Int)) = true := decide_eq_true h2
      clear hb
      go_enter Try.func49, Try.ntmps49
      go_wp2
      go_ret
      exact ⟨ret_bool hf.out.symm, alloc_below _ _⟩
    · have hf := Lib.hid (hb.trans (decide_eq_false (fun H => h2 H.2)))
      have d2 : decide (s < (n : Int)) = false := decide_eq_false h2
      clear hb
      go_enter Try.func49, Try.ntmps49
      go_wp2
      go_ret
      exact ⟨ret_bool hf.out.symm, alloc_below _ _⟩
  · have hf := Lib.hid (hb.trans (decide_eq_false (fun H => h1 H.1)))
    have d2 : decide ((0 : Int) ≤ s) = false := decide_eq_false h1
    clear hb
    go_enter Try.func49, Try.ntmps49
    go_wp2
    go_ret
    exact ⟨ret_bool hf.out.symm, alloc_below _ _⟩


def RowG (n : Int) (r : List Int) (k : Nat) : Prop := ∀ m, m < k → 0 ≤ r.getD m 0 ∧ r.getD m 0 < n
theorem RowG.zero (n : Int) (r : List Int) : RowG n r 0 := fun m h => absurd h (by omega)
theorem RowG.succ {n : Int} {r : List Int} {k : Nat} (h : RowG n r k) (h1 : 0 ≤ r.getD k 0) (h2 : r.getD k 0 < n) : RowG n r (k + 1) := fun m hm => by
  by_cases e : m = k
  · subst e; exact ⟨h1, h2⟩
  · exact h m (by omega)
set_option maxHeartbeats 2000000 in
set_option maxRecDepth 100000 in
theorem pvalD (i st : Int) (A B : Option Addr) (n c m d : Nat) (nx : List (List Int)) (ac : List Bool) (w : World) (hx : Lists w A n nx) (ha : ac.length = m) (hm : m ≤ 17592186044416) :
    Calls Try.prog 18 #[.agg #[.int .i64 i, .int .i64 st, .slice A n c, .slice B m d]] w fun e w' => e = .returned (.int .i64 (vldD i st nx ac)) ∧ Below w.heap.size w w' := by
  have hb0 := alloc_below w (.cells #[.int .i64 i, .int .i64 st, .slice A n c, .slice B m d] 25)
  have hB := dfa_box w (.int .i64 i) (.int .i64 st) (.slice A n c) (.slice B m d)
  obtain ⟨w0, hw0⟩ : ∃ w0, w0 = w.alloc (.cells #[.int .i64 i, .int .i64 st, .slice A n c, .slice B m d] 25) := ⟨_, rfl⟩
  rw [← hw0] at hb0 hB
  have hz0 : w0.heap.size = w.heap.size + 1 := by rw [hw0]; simp
  have HW0 := Lib.hid hw0
  have HBX := Lib.hid (fun (W : World) (h : Below w0.heap.size w0 W) => hB.kept h (by omega))
  have HX := Lib.hid (fun (W : World) (h : Below w0.heap.size w0 W) => (hx.below hb0).below h)
  obtain ⟨k0, k1, k2, k3, _⟩ := hB.cells
  rw [HW0.out] at k0 k1 k2 k3
  have hn := hx.2.1
  have hnx := hx.1
  obtain ⟨V, hV⟩ : ∃ V, V = vldD i st nx ac := ⟨_, rfl⟩
  rw [← hV]
  have HV := Lib.hid hV
  clear hw0 hB hV
  by_cases h1 : 1 ≤ i ∧ i ≤ 1024
  · have d1 : decide (i < 1) = false := decide_eq_false (by omega)
    have d2 : decide (1024 < i) = false := decide_eq_false (by omega)
    by_cases h2 : n = 0
    · have HF := Lib.hid (show V = 19 by rw [HV.out, vldD_empty h1 (by omega)])
      have t1 : ((n : Int) == 0) = true := by rw [h2]; rfl
      clear h1 h2
      go_enter Try.func18, Try.ntmps18
      go_wp2_with fail
      rw [← HW0.out]
      go_ret
      exact ⟨by rw [HF.out]; rfl, hb0⟩
    · have t1 : ((n : Int) == 0) = false := by rw [beq_eq_false_iff_ne]; omega
      by_cases h3 : 128 < n
      · have HF := Lib.hid (show V = 11 by rw [HV.out, vldD_many h1 (by omega)])
        have t2 : decide ((128 : Int) < (n : Int)) = true := decide_eq_true (by omega)
        clear h1 h2 h3
        go_enter Try.func18, Try.ntmps18
        go_wp2_with fail
        rw [← HW0.out]
        go_ret
        exact ⟨by rw [HF.out]; rfl, hb0⟩
      · have t2 : decide ((128 : Int) < (n : Int)) = false := decide_eq_false (by omega)
        by_cases h4 : 0 ≤ st ∧ st < (n : Int)
        · by_cases h5 : m = n
          · subst h5
            have HF := Lib.hid (show V = fstE (fun s => rowD i nx.length (nx.getD s [])) nx.length by rw [HV.out, vldD_rows h1 (by omega) (by omega) (by rw [hnx]; exact h4) (by omega)])
            have t3 : ((m : Int) != (m : Int)) = false := by simp
            clear h2
            go_enter Try.func18, Try.ntmps18
            go_wp2_with fail
            rw [← HW0.out]
            refine (disst _ _ _ _ _ _ _ _ _ true _ hn (decide_eq_true h4).symm).mono ?_
            rintro e w1 ⟨rfl, b1⟩
            clear k0 k1 k2 k3
            obtain ⟨k0, k1, k2, k3, _⟩ := (HBX.out w1 b1).cells
            have HB1 := Lib.hid b1
            go_wp2_with fail
            clear t1 t2 t3 d1 d2 k0 k1 k2 k3
            go_loopw [38] (fun v38 wr => ∃ s : Nat, s ≤ m ∧ v38 = .int .i64 s ∧ (∀ t, t < s → rowD i nx.length (nx.getD t []) = 0) ∧ Below w0.heap.size w0 wr) (fun v38 _ => m - (intOf v38).toNat)
            case atStart => exact ⟨0, Nat.zero_le _, rfl, fun t h => absurd h (by omega), HB1.out⟩
            case round =>
              obtain ⟨s, hs, rfl, hall, hbr⟩ := hrel
              have HALL := Lib.hid hall
              have HBR := Lib.hid hbr
              obtain ⟨k0, k1, k2, k3, _⟩ := (HBX.out wr hbr).cells
              clear hall hbr
              by_cases hlt : s < m
              · obtain ⟨gA, oA, A1, nA, cA, eA, _, hdA, hrA⟩ := (HX.out wr HBR.out).at_ hlt
                subst eA
                have hl := hrA.1
                have hnA := hrA.2.1
                have HRW := Lib.hid (show ∀ x : Int, ¬ x = 0 → rowD i nx.length (nx.getD s []) = x → V = x from fun x h1 h2 => by
                  rw [HF.out, fstE_bad (f := fun s => rowD i nx.length (nx.getD s [])) HALL.out (by show ¬ rowD i nx.length (nx.getD s []) = 0; rw [h2]; exact h1) (by omega)]
                  exact h2)
                by_cases hi : (nA : Int) = i
                · subst hi
                  have t4 : ((nA : Int) != (nA : Int)) = false := by simp
                  have HOK := Lib.hid (fun (h : RowG (nx.length : Int) (nx.getD s []) nA) => show ∀ t, t < s + 1 → rowD (nA : Int) nx.length (nx.getD t []) = 0 from fun t ht => by
                    by_cases e : t = s
                    · subst e; exact rowD_ok (by rw [hl]) (by rw [hl]; exact h)
                    · exact HALL.out t (by omega))
                  have HBAD := Lib.hid (fun (k : Nat) (hk : k < nA) (h : ¬ (0 ≤ (nx.getD s []).getD k 0 ∧ (nx.getD s []).getD k 0 < (nx.length : Int))) => HRW.out 2 (by decide) (rowD_bad (by rw [hl]) (by rw [hl]; exact hk) h))
                  have HI := Lib.hid (fun (W : World) (h : Below wr.heap.size wr W) => hrA.below h)
                  have HLN := Lib.hid hl
                  generalize nx.getD s [] = r at HI HOK HBAD HLN
                  clear hrA hl
                  go_wp2_with fail
                  clear t4 hdA
                  go_loopw [49] (fun v49 wq => ∃ k : Nat, k ≤ nA ∧ v49 = .int .i64 k ∧ RowG (nx.length : Int) r k ∧ Below wr.heap.size wr wq) (fun v49 _ => nA - (intOf v49).toNat)
                  case atStart => exact ⟨0, Nat.zero_le _, rfl, RowG.zero _ _, Below.refl _ _⟩
                  case round =>
                    obtain ⟨k, hk, rfl, hrg, hbq⟩ := hrel
                    have HRG := Lib.hid hrg
                    have HBQ := Lib.hid hbq
                    clear hrg hbq
                    by_cases hlk : k < nA
                    · obtain ⟨g2, o2, e2, _, x2⟩ := (HI.out _ HBQ.out).at_ hlk
                      subst e2
                      have HB := Lib.hid (HBAD.out k hlk)
                      have HN := Lib.hid (fun h1 h2 => HRG.out.succ (k := k) h1 h2)
                      have hbw := HBR.out.trans (HBQ.out.mono HBR.out.size)
                      have HBW := Lib.hid hbw
                      clear k0 k1 k2 k3
                      obtain ⟨k0, k1, k2, k3, _⟩ := (HBX.out _ hbw).cells
                      generalize r.getD k 0 = y at x2 HB HN
                      clear hbw
                      by_cases hy : 0 ≤ y ∧ y < (m : Int)
                      · have HN2 := Lib.hid (HN.out hy.1 (by rw [hnx]; exact hy.2))
                        go_wp2_with fail
                        refine (disst _ _ _ _ _ _ _ _ _ true _ hn (decide_eq_true hy).symm).mono ?_
                        rintro e w3 ⟨rfl, b3⟩
                        have HB3 := Lib.hid (bt HBQ.out b3)
                        clear hy b3 k0 k1 k2 k3 x2
                        go_wp2_with fail
                        go_roundw
                        case rel => exact ⟨k + 1, by omega, by go_num, HN2.out, HB3.out⟩
                        case measure => simp [intOf]; omega
                      · have HN2 := Lib.hid (HB.out (by rw [hnx]; exact hy))
                        go_wp2_with fail
                        refine (disst _ _ _ _ _ _ _ _ _ false _ hn (decide_eq_false hy).symm).mono ?_
                        rintro e w3 ⟨rfl, b3⟩
                        have HB3 := Lib.hid (bt hb0 (bt HBW.out b3))
                        clear hy b3 k0 k1 k2 k3 x2
                        go_wp2_with fail
                        go_ret
                        exact ⟨by rw [HN2.out]; rfl, HB3.out⟩
                    · obtain rfl : k = nA := by omega
                      have HO2 := Lib.hid (HOK.out HRG.out)
                      have HB3 := Lib.hid (HBR.out.trans (HBQ.out.mono HBR.out.size))
                      clear k0 k1 k2 k3
                      go_wp2_with fail
                      go_roundw
                      case rel => exact ⟨s + 1, by omega, by go_num, HO2.out, HB3.out⟩
                      case measure => simp [intOf]; omega
                · have HN := Lib.hid (HRW.out 1 (by decide) (rowD_len (by rw [hl]; exact hi)))
                  have t4 : ((nA : Int) != i) = true := by simpa using hi
                  clear hi hl hrA
                  go_wp2_with fail
                  go_ret
                  exact ⟨by rw [HN.out]; rfl, bt hb0 HBR.out⟩
              · obtain rfl : s = m := by omega
                have HN := Lib.hid (show V = 0 by rw [HF.out]; exact fstE_ok fun t ht => HALL.out t (by omega))
                clear k0 k1 k2 k3
                go_wp2_with fail
                go_ret
                exact ⟨by rw [HN.out]; rfl, bt hb0 HBR.out⟩
          · have HF := Lib.hid (show V = 1 by rw [HV.out, vldD_acc h1 (by omega) (by omega) (by rw [hnx]; exact h4) (by omega)])
            have t3 : ((m : Int) != (n : Int)) = true := by simpa using fun h => h5 (by omega)
            clear h2 h5
            go_enter Try.func18, Try.ntmps18
            go_wp2_with fail
            rw [← HW0.out]
            refine (disst _ _ _ _ _ _ _ _ _ true _ hn (decide_eq_true h4).symm).mono ?_
            rintro e w1 ⟨rfl, b1⟩
            clear k0 k1 k2 k3
            obtain ⟨k0, k1, k2, k3, _⟩ := (HBX.out w1 b1).cells
            go_wp2_with fail
            go_ret
            exact ⟨by rw [HF.out]; rfl, bt hb0 b1⟩
        · have HF := Lib.hid (show V = 2 by rw [HV.out, vldD_start h1 (by omega) (by omega) (by rw [hnx]; exact h4)])
          clear h2
          go_enter Try.func18, Try.ntmps18
          go_wp2_with fail
          rw [← HW0.out]
          refine (disst _ _ _ _ _ _ _ _ _ false _ hn (decide_eq_false h4).symm).mono ?_
          rintro e w1 ⟨rfl, b1⟩
          go_wp2_with fail
          go_ret
          exact ⟨by rw [HF.out]; rfl, bt hb0 b1⟩
  · have HF := Lib.hid (show V = 2 by rw [HV.out, vldD_in h1])
    by_cases h2 : i < 1
    · have d1 : decide (i < 1) = true := decide_eq_true h2
      clear h1
      go_enter Try.func18, Try.ntmps18
      go_wp2_with fail
      rw [← HW0.out]
      go_ret
      exact ⟨by rw [HF.out]; rfl, hb0⟩
    · have d1 : decide (i < 1) = false := decide_eq_false h2
      have d2 : decide (1024 < i) = true := decide_eq_true (by omega)
      clear h1
      go_enter Try.func18, Try.ntmps18
      go_wp2_with fail
      rw [← HW0.out]
      go_ret
      exact ⟨by rw [HF.out]; rfl, hb0⟩
end Go.Proofs.Ythjnghldedfdoaa
end

section
/- bit, holds and validPair. -/
namespace Go.Proofs.Ythjnghldedfdoaa
open Go.RowKit

theorem dbit (b : Bool) (w : World) : Calls Try.prog 64 #[.bool b] w fun e w' => e = .returned (.int .i64 (if b then 1 else 0)) ∧ w = w' := by
  cases b
  · go_enter Try.func64, Try.ntmps64
    go_wp2
    go_ret
    exact ⟨rfl, rfl⟩
  · go_enter Try.func64, Try.ntmps64
    go_wp2
    go_ret
    exact ⟨rfl, rfl⟩

/-- What the operation k makes of two truth values: 0 and, 1 or, 2 and not, 3 either. -/
def opB (k : Nat) (x y : Bool) : Bool := if k = 0 then x && y else if k = 1 then x || y else if k = 2 then x && !y else x != y
set_option maxHeartbeats 1000000 in
theorem dholds (k : Nat) (x y : Bool) (w : World) (hk : k < 4) : Calls Try.prog 55 #[.int .i64 k, .bool x, .bool y] w fun e w' => e = .returned (.bool (opB k x y)) ∧ w = w' := by
  obtain rfl | rfl | rfl | rfl : k = 0 ∨ k = 1 ∨ k = 2 ∨ k = 3 := by omega
  all_goals
    cases x <;> cases y <;>
    · go_enter Try.func55, Try.ntmps55
      go_wp2
      go_ret
      exact ⟨rfl, rfl⟩
/-- The error of two automata together. -/
def vld2 (i st : Int) (nx : List (List Int)) (ac : List Bool) (i' st' : Int) (nx' : List (List Int)) (ac' : List Bool) : Int :=
  if vldD i st nx ac = 0 then (if vldD i' st' nx' ac' = 0 then (if i = i' then 0 else 15) else vldD i' st' nx' ac') else vldD i st nx ac
set_option maxHeartbeats 2000000 in
set_option maxRecDepth 100000 in
theorem pvpair (i st i' st' : Int) (A B A' B' : Option Addr) (n c m d n' c' m' d' : Nat) (nx nx' : List (List Int)) (ac ac' : List Bool) (w : World) (hx : Lists w A n nx) (ha : Bools w B m ac) (hx' : Lists w A' n' nx') (ha' : Bools w B' m' ac') :
    Calls Try.prog 53 #[.agg #[.int .i64 i, .int .i64 st, .slice A n c, .slice B m d], .agg #[.int .i64 i', .int .i64 st', .slice A' n' c', .slice B' m' d']] w fun e w' => e = .returned (.int .i64 (vld2 i st nx ac i' st' nx' ac')) ∧ Below w.heap.size w w' := by
  have hb0 := alloc_below w (.cells #[.int .i64 i, .int .i64 st, .slice A n c, .slice B m d] 25)
  have hB := dfa_box w (.int .i64 i) (.int .i64 st) (.slice A n c) (.slice B m d)
  obtain ⟨w0, hw0⟩ : ∃ w0, w0 = w.alloc (.cells #[.int .i64 i, .int .i64 st, .slice A n c, .slice B m d] 25) := ⟨_, rfl⟩
  rw [← hw0] at hb0 hB
  have hz0 : w0.heap.size = w.heap.size + 1 := by rw [hw0]; simp
  have hb1 := alloc_below w0 (.cells #[.int .i64 i', .int .i64 st', .slice A' n' c', .slice B' m' d'] 25)
  have hB' := dfa_box w0 (.int .i64 i') (.int .i64 st') (.slice A' n' c') (.slice B' m' d')
  obtain ⟨w1, hw1⟩ : ∃ w1, w1 = w0.alloc (.cells #[.int .i64 i', .int .i64 st', .slice A' n' c', .slice B' m' d'] 25) := ⟨_, rfl⟩
  rw [← hw1] at hb1 hB'
  have hz1 : w1.heap.size = w0.heap.size + 1 := by rw [hw1]; simp
  have hbb : Below w.heap.size w w1 := bt hb0 hb1
  have HWW : Hid (w1 = (w.alloc (.cells #[.int .i64 i, .int .i64 st, .slice A n c, .slice B m d] 25)).alloc (.cells #[.int .i64 i', .int .i64 st', .slice A' n' c', .slice B' m' d'] 25)) := Lib.hid (by rw [hw1, hw0])
  have HZ := Lib.hid (And.intro hz0 hz1)
  have HBX := Lib.hid (fun (W : World) (h : Below w1.heap.size w1 W) => And.intro ((hB.kept hb1 (by omega)).kept h (by omega)).cells (hB'.kept h (by omega)).cells)
  have HX := Lib.hid (fun (W : World) (h : Below w1.heap.size w1 W) => And.intro ((hx.below hbb).below h) (And.intro ((ha.below hbb).below h) (And.intro ((hx'.below hbb).below h) ((ha'.below hbb).below h))))
  obtain ⟨V, hV⟩ : ∃ V, V = vld2 i st nx ac i' st' nx' ac' := ⟨_, rfl⟩
  rw [← hV]
  have HV := Lib.hid hV
  have HBB := Lib.hid hbb
  have hn := Lib.hid hx.2.1
  have hm := Lib.hid ha.2.1
  have hn' := Lib.hid hx'.2.1
  have hm' := Lib.hid ha'.2.1
  obtain ⟨⟨k0, k1, k2, k3, _⟩, j0, j1, j2, j3, _⟩ := HBX.out w1 (Below.refl _ _)
  clear hw0 hw1 hB hB' hV hbb hb0 hb1
  rw [HWW.out, show w0.heap.size = w.heap.size + 1 from HZ.out.1] at j0 j1 j2 j3
  rw [HWW.out] at k0 k1 k2 k3
  clear hz0 hz1 hx ha hx' ha'
  by_cases h1 : vldD i st nx ac = 0
  · have H1 := Lib.hid h1
    by_cases h2 : vldD i' st' nx' ac' = 0
    · have H2 := Lib.hid h2
      clear h1 h2
      go_enter Try.func53, Try.ntmps53
      go_wp2_with fail
      rw [← HWW.out]
      refine (pvalD _ _ _ _ _ _ _ _ _ _ _ (HX.out _ (Below.refl _ _)).1 (HX.out _ (Below.refl _ _)).2.1.1 hm.out).mono ?_
      rintro e w2 ⟨rfl, b2⟩
      rw [H1.out]
      clear k0 k1 k2 k3 j0 j1 j2 j3
      obtain ⟨⟨k0, k1, k2, k3, _⟩, j0, j1, j2, j3, _⟩ := HBX.out w2 b2
      rw [show w0.heap.size = w.heap.size + 1 from HZ.out.1] at j0 j1 j2 j3
      go_wp2_with fail
      refine (pvalD _ _ _ _ _ _ _ _ _ _ _ (HX.out _ b2).2.2.1 (HX.out _ b2).2.2.2.1 hm'.out).mono ?_
      rintro e w3 ⟨rfl, b3⟩
      rw [H2.out]
      have b4 : Below w1.heap.size w1 w3 := bt b2 b3
      clear k0 k1 k2 k3 j0 j1 j2 j3
      obtain ⟨⟨k0, k1, k2, k3, _⟩, j0, j1, j2, j3, _⟩ := HBX.out w3 b4
      rw [show w0.heap.size = w.heap.size + 1 from HZ.out.1] at j0 j1 j2 j3
      by_cases h3 : i = i'
      · have HF := Lib.hid (show V = 0 by rw [HV.out]; unfold vld2; rw [if_pos H1.out, if_pos H2.out, if_pos h3])
        have t1 : (i != i') = false := by simpa using h3
        clear h3
        go_wp2_with fail
        go_ret
        exact ⟨by rw [HF.out]; rfl, bt HBB.out b4⟩
      · have HF := Lib.hid (show V = 15 by rw [HV.out]; unfold vld2; rw [if_pos H1.out, if_pos H2.out, if_neg h3])
        have t1 : (i != i') = true := by simpa using h3
        clear h3
        go_wp2_with fail
        go_ret
        exact ⟨by rw [HF.out]; rfl, bt HBB.out b4⟩
    · have HF := Lib.hid (show V = vldD i' st' nx' ac' by rw [HV.out]; unfold vld2; rw [if_pos h1, if_neg h2])
      obtain ⟨x, hx0, hxe⟩ : ∃ x, ¬ x = 0 ∧ vldD i' st' nx' ac' = x := ⟨_, h2, rfl⟩
      have HXE := Lib.hid hxe
      have t1 : (x != 0) = true := by simpa using hx0
      clear h1 h2 hxe
      go_enter Try.func53, Try.ntmps53
      go_wp2_with fail
      rw [← HWW.out]
      refine (pvalD _ _ _ _ _ _ _ _ _ _ _ (HX.out _ (Below.refl _ _)).1 (HX.out _ (Below.refl _ _)).2.1.1 hm.out).mono ?_
      rintro e w2 ⟨rfl, b2⟩
      rw [H1.out]
      clear k0 k1 k2 k3 j0 j1 j2 j3
      obtain ⟨⟨k0, k1, k2, k3, _⟩, j0, j1, j2, j3, _⟩ := HBX.out w2 b2
      rw [show w0.heap.size = w.heap.size + 1 from HZ.out.1] at j0 j1 j2 j3
      go_wp2_with fail
      refine (pvalD _ _ _ _ _ _ _ _ _ _ _ (HX.out _ b2).2.2.1 (HX.out _ b2).2.2.2.1 hm'.out).mono ?_
      rintro e w3 ⟨rfl, b3⟩
      rw [HXE.out]
      go_wp2_with fail
      go_ret
      exact ⟨by rw [HF.out, HXE.out]; rfl, bt HBB.out (bt b2 b3)⟩
  · have HF := Lib.hid (show V = vldD i st nx ac by rw [HV.out]; unfold vld2; rw [if_neg h1])
    obtain ⟨x, hx0, hxe⟩ : ∃ x, ¬ x = 0 ∧ vldD i st nx ac = x := ⟨_, h1, rfl⟩
    have HXE := Lib.hid hxe
    have t1 : (x != 0) = true := by simpa using hx0
    clear h1 hxe
    go_enter Try.func53, Try.ntmps53
    go_wp2_with fail
    rw [← HWW.out]
    refine (pvalD _ _ _ _ _ _ _ _ _ _ _ (HX.out _ (Below.refl _ _)).1 (HX.out _ (Below.refl _ _)).2.1.1 hm.out).mono ?_
    rintro e w2 ⟨rfl, b2⟩
    rw [HXE.out]
    go_wp2_with fail
    go_ret
    exact ⟨by rw [HF.out, HXE.out]; rfl, bt HBB.out b2⟩
end Go.Proofs.Ythjnghldedfdoaa
end

section
/- Minimal automata: what is told apart, quotients, and that they are determined by the words that are accepted. -/
namespace Go.Proofs.Ythjnghldedfdoaa

/-- Words behind which L goes on in the same way. -/
def Myh (L : List Int → Bool) (i : Nat) (u v : List Int) : Prop := ∀ z, Wd i z → L (u ++ z) = L (v ++ z)
/-- The minimal automaton of L. -/
def Mn (L : List Int → Bool) (i : Nat) (N : List (List Int)) (A : List Bool) : Prop :=
  ∃ (κ : Type) (f : List Int → κ) (W : List (List Int)), Can f L i N A W ∧ ∀ u v, Wd i u → Wd i v → (f u = f v ↔ Myh L i u v)
theorem Mn.uniq {L K : List Int → Bool} {i : Nat} {N M : List (List Int)} {A B : List Bool} (h : Mn L i N A) (k : Mn K i M B) (hl : ∀ u, Wd i u → L u = K u) : N = M ∧ A = B := by
  obtain ⟨κ, f, W, h1, h2⟩ := h
  obtain ⟨μ, g, V, k1, k2⟩ := k
  have := h1.uniq k1 (fun u v hu hv => (h2 u v hu hv).trans ((show Myh L i u v ↔ Myh K i u v from
    ⟨fun h z hz => by rw [← hl _ (hu.app hz), ← hl _ (hv.app hz)]; exact h z hz, fun h z hz => by rw [hl _ (hu.app hz), hl _ (hv.app hz)]; exact h z hz⟩).trans (k2 u v hu hv).symm)) hl
  exact ⟨this.1, this.2.1⟩
/-- States from which the same words are accepted. -/
def Ner (i : Nat) (nx : List (List Int)) (ac : List Bool) (s t : Nat) : Prop := ∀ u, Wd i u → aN ac (runS nx s u) = aN ac (runS nx t u)
section
variable {i st n st' n' : Nat} {nx nx' : List (List Int)} {ac ac' : List Bool} {s t a : Nat}
theorem Ner.refl (s : Nat) : Ner i nx ac s s := fun _ _ => rfl
theorem Ner.symm (h : Ner i nx ac s t) : Ner i nx ac t s := fun u hu => (h u hu).symm
theorem Ner.trans {r : Nat} (h : Ner i nx ac s t) (k : Ner i nx ac t r) : Ner i nx ac s r := fun u hu => (h u hu).trans (k u hu)
theorem Ner.acc (h : Ner i nx ac s t) : aN ac s = aN ac t := h [] (Wd.nil i)
theorem Ner.next (h : Ner i nx ac s t) (ha : a < i) : Ner i nx ac (nN nx s a) (nN nx t a) := fun u hu => by
  have := h ((a : Int) :: u) (hu.cons ha)
  simpa [runS] using this
theorem Dok.run_lt (h : Dok i st n nx ac) (hs : s < n) {u : List Int} (hu : Wd i u) : runS nx s u < n := h.runS_lt u s hs hu
/-- c names the classes of states from which the same words are accepted. -/
def Cls (i n : Nat) (nx : List (List Int)) (ac : List Bool) (c : Nat → Nat) : Prop := ∀ s t, s < n → t < n → (c s = c t ↔ Ner i nx ac s t)
def qA (ac : List Bool) (c : Nat → Nat) (n : Nat) : List Bool := (reps c n).map fun s => aN ac s
theorem qA_len (ac : List Bool) (c : Nat → Nat) (n : Nat) : (qA ac c n).length = (reps c n).length := by simp [qA]
theorem qA_at {c : Nat → Nat} {j : Nat} (h : j < (reps c n).length) : aN (qA ac c n) j = aN ac ((reps c n).getD j 0) := by
  unfold aN qA
  exact getD_map (fun s => ac.getD s false) _ 0 false h
theorem qN_nN {c : Nat → Nat} {j : Nat} (h : j < (reps c n).length) (ha : a < i) : nN (qN nx i c n) j a = nmb c (nN nx ((reps c n).getD j 0) a) := by
  show (((qN nx i c n).getD j []).getD a 0).toNat = _
  rw [qN_row nx i c h, qR_at ha, Int.toNat_natCast]
theorem Dok.quot (h : Dok i st n nx ac) (c : Nat → Nat) : Dok i (nmb c st) (reps c n).length (qN nx i c n) (qA ac c n) where
  i1 := h.i1
  i2 := h.i2
  n1 := by have := nmb_lt_reps c h.st; omega
  n2 := by have := reps_le c n; have := h.n2; omega
  st := nmb_lt_reps c h.st
  nxl := qN_len nx i c n
  acl := qA_len ac c n
  row := fun s hs => by
    rw [qN_row nx i c hs]
    refine ⟨qR_len nx i c _, fun a ha => ?_⟩
    rw [qR_at ha]
    have := nmb_lt_reps c (h.nN_lt (reps_get_lt c hs) ha)
    omega
theorem Dok.quot_run (h : Dok i st n nx ac) {c : Nat → Nat} (hc : Cls i n nx ac c) : ∀ (u : List Int) (s : Nat), s < n → Wd i u → runS (qN nx i c n) (nmb c s) u = nmb c (runS nx s u)
  | [], _, _, _ => rfl
  | x :: u, s, hs, hu => by
    obtain ⟨a, rfl, ha⟩ := hu.head
    have hr := reps_at c hs
    have hrl := reps_get_lt c (nmb_lt_reps c hs)
    have h1 : nN (qN nx i c n) (nmb c s) a = nmb c (nN nx s a) := by
      rw [qN_nN (nmb_lt_reps c hs) ha, nmb_eq]
      exact (hc _ _ (h.nN_lt hrl ha) (h.nN_lt hs ha)).2 (((hc _ _ hrl hs).1 hr).next ha)
    have ih := h.quot_run hc u (nN nx s a) (h.nN_lt hs ha) hu.tail
    show runS (qN nx i c n) (nN (qN nx i c n) (nmb c s) ((a : Int)).toNat) u = nmb c (runS nx (nN nx s ((a : Int)).toNat) u)
    rw [Int.toNat_natCast, h1, ih]
theorem quot_acc {c : Nat → Nat} (hc : Cls i n nx ac c) (hs : s < n) : aN (qA ac c n) (nmb c s) = aN ac s := by
  rw [qA_at (nmb_lt_reps c hs)]
  exact ((hc _ _ (reps_get_lt c (nmb_lt_reps c hs)) hs).1 (reps_at c hs)).acc
/-- The step of a pair of automata. -/
def bothF (nx nx' : List (List Int)) : Nat × Nat → Nat → Nat × Nat := fun p x => (nN nx p.1 x, nN nx' p.2 x)
theorem both_stp (h : Dok i st n nx ac) (h' : Dok i st' n' nx' ac') : Stp (bothF nx nx') i n n' := fun _ _ _ hp hq hx => ⟨h.nN_lt hp hx, h'.nN_lt hq hx⟩
theorem both_run (nx nx' : List (List Int)) : ∀ (u : List Int) (s t : Nat), runF (bothF nx nx') (s, t) u = (runS nx s u, runS nx' t u)
  | [], _, _ => rfl
  | x :: u, s, t => both_run nx nx' u (nN nx s x.toNat) (nN nx' t x.toNat)
def opA (k : Nat) (ac ac' : List Bool) : Nat × Nat → Bool := fun p => opB k (aN ac p.1) (aN ac' p.2)
/-- What is found from the two starts. -/
def cmE (i st n st' n' : Nat) (nx nx' : List (List Int)) : List Ent := fdG (bothF nx nx') i n n' st st'
theorem cm_ens (h : Dok i st n nx ac) (h' : Dok i st' n' nx' ac') : Ens n n' st st' (cmE i st n st' n' nx nx') := fdG_ens (both_stp h h') h.st h'.st
theorem cm_ord (h : Dok i st n nx ac) (h' : Dok i st' n' nx' ac') : OrdG (bothF nx nx') i st st' ((cmE i st n st' n' nx nx').length * i) (cmE i st n st' n' nx nx') := fdG_ord (both_stp h h') h.st h'.st
theorem cm_can (k : Nat) (h : Dok i st n nx ac) (h' : Dok i st' n' nx' ac') :
    Can (runF (bothF nx nx') (st, st')) (fun u => opA k ac ac' (runF (bothF nx nx') (st, st') u)) i (autN (bothF nx nx') i (cmE i st n st' n' nx nx')) (autA (opA k ac ac') (cmE i st n st' n' nx nx')) ((cmE i st n st' n' nx nx').map Ent.w) :=
  fdG_can _ (both_stp h h') h.st h'.st rfl
theorem cm_dok (k : Nat) (h : Dok i st n nx ac) (h' : Dok i st' n' nx' ac') (hl : (cmE i st n st' n' nx nx').length ≤ 128) : Dok i 0 (cmE i st n st' n' nx nx').length (autN (bothF nx nx') i (cmE i st n st' n' nx nx')) (autA (opA k ac ac') (cmE i st n st' n' nx nx')) where
  i1 := h.i1
  i2 := h.i2
  n1 := (cm_ord h h').ne
  n2 := hl
  st := (cm_ord h h').ne
  nxl := by simp [autN]
  acl := by simp [autA]
  row := fun s hs => by
    have hc := cm_can k h h'
    have hs2 : s < ((cmE i st n st' n' nx nx').map Ent.w).length := by simpa using hs
    refine ⟨hc.rl s hs2, fun a ha => ?_⟩
    obtain ⟨j, hj, e, _⟩ := hc.rx s a hs2 ha
    rw [List.length_map] at hj
    rw [e]
    omega
/-- An automaton beside itself: the pairs are its states. -/
theorem diag_len (h : Dok i st n nx ac) : (cmE i st n st n nx nx).length ≤ n := by
  have hE := cm_ens h h
  have hO := cm_ord h h
  have hd : ∀ e, e ∈ cmE i st n st n nx nx → e.p = e.q := fun e he => by
    have h1 := (hO.gd e he).2
    rw [both_run] at h1
    have h2 := congrArg Prod.fst h1
    have h3 := congrArg Prod.snd h1
    exact h2.symm.trans h3
  have h1 : ((cmE i st n st n nx nx).map Ent.p).Nodup := by
    have := hE.nd
    rw [List.nodup_iff_pairwise_ne, List.pairwise_map] at this ⊢
    refine List.Pairwise.imp_of_mem (fun {a b} ha hb hab e => hab ?_) this
    show (a.p, a.q) = (b.p, b.q)
    rw [← hd a ha, ← hd b hb, e]
  have h2 : Stt n ((cmE i st n st n nx nx).map Ent.p) := ⟨h1, fun y hy => by
    obtain ⟨e, he, rfl⟩ := List.mem_map.1 hy
    exact (hE.lt e he).1⟩
  have := h2.len
  simpa using this
theorem op_and (x : Bool) : opB 0 x x = x := by cases x <;> rfl
theorem opA_and (ac : List Bool) (s : Nat) : opA 0 ac ac (s, s) = aN ac s := op_and _
/-- What Min of the program makes. -/
theorem min_mn (h : Dok i st n nx ac) {c : Nat → Nat} (hc : Cls i n nx ac c) :
    Mn (fun u => aN ac (runS nx st u)) i (autN (bothF (qN nx i c n) (qN nx i c n)) i (cmE i (nmb c st) (reps c n).length (nmb c st) (reps c n).length (qN nx i c n) (qN nx i c n)))
      (autA (opA 0 (qA ac c n) (qA ac c n)) (cmE i (nmb c st) (reps c n).length (nmb c st) (reps c n).length (qN nx i c n) (qN nx i c n))) := by
  have hq := h.quot c
  have hcan := cm_can 0 hq hq
  refine ⟨Nat × Nat, _, _, ⟨hcan.cw, hcan.nl, hcan.al, hcan.rl, hcan.rx, fun k hk => ?_⟩, fun u v hu hv => ?_⟩
  · rw [hcan.ac k hk]
    have hw := hcan.cw.wd _ (getDW_mem hk)
    show opA 0 (qA ac c n) (qA ac c n) (runF _ _ _) = _
    rw [both_run, opA_and, h.quot_run hc _ _ h.st hw, quot_acc hc (h.run_lt h.st hw)]
  · rw [both_run, both_run, h.quot_run hc _ _ h.st hu, h.quot_run hc _ _ h.st hv]
    constructor
    · intro e z hz
      have e1 : c (runS nx st u) = c (runS nx st v) := (nmb_eq c).1 (congrArg Prod.fst e)
      have e2 := (hc _ _ (h.run_lt h.st hu) (h.run_lt h.st hv)).1 e1 z hz
      show aN ac (runS nx st (u ++ z)) = aN ac (runS nx st (v ++ z))
      rw [runS_app, runS_app]
      exact e2
    · intro e
      have e1 : nmb c (runS nx st u) = nmb c (runS nx st v) := (nmb_eq c).2 ((hc _ _ (h.run_lt h.st hu) (h.run_lt h.st hv)).2 fun z hz => by
        have := e z hz
        show aN ac (runS nx (runS nx st u) z) = aN ac (runS nx (runS nx st v) z)
        rw [← runS_app, ← runS_app]
        exact this)
      rw [e1]
theorem reps_asc (f : Nat → Nat) : ∀ n, (reps f n).Pairwise (· < ·)
  | 0 => by simp [reps]
  | n + 1 => by
    by_cases h : f n ∈ grp f n
    · rw [reps_in h]; exact reps_asc f n
    · rw [reps_out h, List.pairwise_append]
      exact ⟨reps_asc f n, by simp, fun a ha b hb => by simp at hb; subst hb; exact reps_lt f _ ha⟩
theorem reps_first (f : Nat → Nat) : ∀ (n : Nat) {r : Nat}, r ∈ reps f n → ∀ j, j < r → f j ≠ f r
  | 0, _, h => by simp [reps] at h
  | n + 1, r, h => by
    by_cases hn : f n ∈ grp f n
    · rw [reps_in hn] at h; exact reps_first f n h
    · rw [reps_out hn] at h
      rcases List.mem_append.1 h with h | h
      · exact reps_first f n h
      · simp at h
        subst h
        intro j hj e
        exact hn (e ▸ grp_has f hj)
/-- What Min of the reference makes. -/
theorem ref_mn (h : Dok i st n nx ac) {E : List Ent} (hE : E = cmE i st n st n nx nx) {c : Nat → Nat} (hc : Cls i E.length (autN (bothF nx nx) i E) (autA (opA 0 ac ac) E) c) :
    Mn (fun u => aN ac (runS nx st u)) i (qN (autN (bothF nx nx) i E) i c E.length) (qA (autA (opA 0 ac ac) E) c E.length) := by
  have hEn : Ens n n st st E := by rw [hE]; exact cm_ens h h
  have hO : OrdG (bothF nx nx) i st st (E.length * i) E := by rw [hE]; exact cm_ord h h
  have hF := both_stp h h
  have hT : Dok i 0 E.length (autN (bothF nx nx) i E) (autA (opA 0 ac ac) E) := by
    rw [hE]
    exact cm_dok 0 h h (Nat.le_trans (diag_len h) h.n2)
  generalize hTN : autN (bothF nx nx) i E = T at hc hT ⊢
  have hidx : ∀ u, Wd i u → plE E (runF (bothF nx nx) (st, st) u) < E.length := fun u hu => plE_lt (hO.has hu)
  have hat : ∀ u, Wd i u → (E.getD (plE E (runF (bothF nx nx) (st, st) u)) Ent.zero).pr = runF (bothF nx nx) (st, st) u := fun u hu => plE_at (hO.has hu)
  have hW : ∀ j, j < (reps c E.length).length → ((reps c E.length).map fun k => (E.getD k Ent.zero).w).getD j [] = (E.getD ((reps c E.length).getD j 0) Ent.zero).w := fun j hj => getD_map _ _ 0 _ hj
  have hfw : ∀ k, k < E.length → plE E (runF (bothF nx nx) (st, st) (E.getD k Ent.zero).w) = k := fun k hk => by rw [(hO.word hk).2, hEn.pl hk]
  refine ⟨Nat, fun u => c (plE E (runF (bothF nx nx) (st, st) u)), (reps c E.length).map fun k => (E.getD k Ent.zero).w, ⟨⟨fun u hu => ?_, ?_, fun v hv u hu hsl => ?_, fun u hu => ?_⟩, by rw [qN_len, List.length_map], by rw [qA_len, List.length_map], fun k hk => ?_, fun k x hk hx => ?_, fun k hk => ?_⟩, fun u v hu hv => ?_⟩
  · obtain ⟨k, hk, rfl⟩ := List.mem_map.1 hu
    exact (hO.word (reps_lt c _ hk)).1
  · rw [List.pairwise_map]
    exact List.Pairwise.imp_of_mem (fun {a b} ha hb hab => hO.sorted hEn hab (reps_lt c _ hb)) (reps_asc c E.length)
  · obtain ⟨k, hk, rfl⟩ := List.mem_map.1 hv
    have h1 := hO.least hEn (reps_lt c _ hk) hu hsl
    show c _ ≠ c _
    rw [hfw k (reps_lt c _ hk)]
    exact reps_first c _ hk _ h1
  · have h1 := hidx u hu
    have h2 := nmb_lt_reps c h1
    refine ⟨(E.getD ((reps c E.length).getD (nmb c (plE E (runF (bothF nx nx) (st, st) u))) 0) Ent.zero).w, List.mem_map.2 ⟨_, getD_mem h2, rfl⟩, ?_⟩
    show c _ = c _
    rw [hfw _ (reps_get_lt c h2), reps_at c h1]
  · rw [List.length_map] at hk
    rw [qN_row _ i c hk, qR_len]
  · rw [List.length_map] at hk ⊢
    have hr := reps_get_lt c hk
    have h1 : nN T ((reps c E.length).getD k 0) x < E.length := hT.nN_lt hr hx
    have h2 := nmb_lt_reps c h1
    refine ⟨nmb c (nN T ((reps c E.length).getD k 0) x), h2, by rw [qN_row _ i c hk, qR_at hx], ?_⟩
    show c _ = c _
    rw [hW _ h2, hW _ hk, hfw _ (reps_get_lt c h2), reps_at c h1, runF_app, (hO.word hr).2, ← hTN, autN_nN hr hx]
    rfl
  · rw [List.length_map] at hk
    have hr := reps_get_lt c hk
    show aN (qA (autA (opA 0 ac ac) E) c E.length) k = _
    rw [qA_at hk, hW _ hk]
    show (autA (opA 0 ac ac) E).getD _ false = _
    rw [autA_at _ hr, ← (hO.word hr).2, both_run, opA_and]
  · have hrun : ∀ u z, Wd i u → Wd i z → aN (autA (opA 0 ac ac) E) (runS T (plE E (runF (bothF nx nx) (st, st) u)) z) = aN ac (runS nx st (u ++ z)) := fun u z hu hz => by
      rw [← hTN]
      obtain ⟨a1, a2⟩ := aut_run hF hEn hO z _ (hidx u hu) hz
      show (autA (opA 0 ac ac) E).getD _ false = _
      rw [autA_at _ a1, a2, hat u hu, ← runF_app, both_run, opA_and]
    rw [hc _ _ (hidx u hu) (hidx v hv)]
    constructor
    · intro e z hz
      have := e z hz
      rw [hrun u z hu hz, hrun v z hv hz] at this
      exact this
    · intro e z hz
      rw [hrun u z hu hz, hrun v z hv hz]
      exact e z hz
/-- The same words are accepted from two states, as far as k symbols go. -/
def mo (i : Nat) (nx : List (List Int)) (ac : List Bool) : Nat → Nat → Nat → Prop
  | 0, s, t => aN ac s = aN ac t
  | k + 1, s, t => mo i nx ac k s t ∧ ∀ a, a < i → mo i nx ac k (nN nx s a) (nN nx t a)
instance moDec (i : Nat) (nx : List (List Int)) (ac : List Bool) : ∀ k s t, Decidable (mo i nx ac k s t)
  | 0, s, t => inferInstanceAs (Decidable (aN ac s = aN ac t))
  | k + 1, s, t => @instDecidableAnd _ _ (moDec i nx ac k s t) (@Nat.decidableBallLT i (fun a _ => mo i nx ac k (nN nx s a) (nN nx t a)) (fun a _ => moDec i nx ac k (nN nx s a) (nN nx t a)))
theorem mo_refl : ∀ (k s : Nat), mo i nx ac k s s
  | 0, _ => rfl
  | k + 1, s => ⟨mo_refl k s, fun _ _ => mo_refl k _⟩
theorem mo_symm : ∀ {k s t : Nat}, mo i nx ac k s t → mo i nx ac k t s
  | 0, _, _, h => Eq.symm h
  | _ + 1, _, _, h => ⟨mo_symm h.1, fun a ha => mo_symm (h.2 a ha)⟩
theorem mo_trans : ∀ {k s t r : Nat}, mo i nx ac k s t → mo i nx ac k t r → mo i nx ac k s r
  | 0, _, _, _, h, h' => Eq.trans h h'
  | _ + 1, _, _, _, h, h' => ⟨mo_trans h.1 h'.1, fun a ha => mo_trans (h.2 a ha) (h'.2 a ha)⟩
theorem mo_down {k s t : Nat} : ∀ (d : Nat), mo i nx ac (k + d) s t → mo i nx ac k s t
  | 0, h => h
  | d + 1, h => mo_down d h.1
theorem mo_of_ner : ∀ (k : Nat) {s t : Nat}, Ner i nx ac s t → mo i nx ac k s t
  | 0, _, _, h => h.acc
  | k + 1, _, _, h => ⟨mo_of_ner k h, fun _ ha => mo_of_ner k (h.next ha)⟩
/-- The least state of the class. -/
def lsc (i : Nat) (nx : List (List Int)) (ac : List Bool) (k s : Nat) : Nat := ((List.range s).find? fun t => decide (mo i nx ac k t s)).getD s
theorem lsc_le (i : Nat) (nx : List (List Int)) (ac : List Bool) (k s : Nat) : lsc i nx ac k s ≤ s := by
  unfold lsc
  cases h : (List.range s).find? fun t => decide (mo i nx ac k t s) with
  | none => simp
  | some t =>
    have := List.mem_of_find?_eq_some h
    rw [List.mem_range] at this
    simp; omega
theorem lsc_mo (i : Nat) (nx : List (List Int)) (ac : List Bool) (k s : Nat) : mo i nx ac k (lsc i nx ac k s) s := by
  unfold lsc
  cases h : (List.range s).find? fun t => decide (mo i nx ac k t s) with
  | none => exact mo_refl k s
  | some t => have := List.find?_some h; simpa using this
theorem find_least {p : Nat → Bool} : ∀ {s t : Nat}, (List.range s).find? p = some t → ∀ j, j < t → p j = false := by
  intro s t h j hj
  obtain ⟨_, l1, l2, e, hn⟩ := List.find?_eq_some_iff_append.1 h
  have hl : l1.length = t := by
    have h1 : (List.range s)[l1.length]? = some t := by rw [e]; simp
    have h2 : l1.length < s := by
      have := congrArg List.length e
      simp at this; omega
    rw [List.getElem?_range h2] at h1
    simpa using h1
  have h3 : j ∈ l1 := by
    have h1 : (List.range s)[j]? = some j := by
      have h2 : t < s := by have := List.mem_of_find?_eq_some h; simpa using this
      exact List.getElem?_range (by omega)
    rw [e, List.getElem?_append_left (by omega)] at h1
    exact List.mem_of_getElem? h1
  simpa using hn j h3
theorem lsc_least {k s j : Nat} (h : j < lsc i nx ac k s) : ¬ mo i nx ac k j s := by
  unfold lsc at h
  cases e : (List.range s).find? fun t => decide (mo i nx ac k t s) with
  | none =>
    rw [e] at h
    have := List.find?_eq_none.1 e j (by simpa using h)
    simpa using this
  | some t =>
    rw [e] at h
    have := find_least e j (by simpa using h)
    simpa using this
theorem lsc_eq {k s t : Nat} : lsc i nx ac k s = lsc i nx ac k t ↔ mo i nx ac k s t := by
  constructor
  · intro e
    have h1 := lsc_mo i nx ac k s
    have h2 := lsc_mo i nx ac k t
    rw [e] at h1
    exact mo_trans (mo_symm h1) h2
  · intro h
    rcases Nat.lt_trichotomy (lsc i nx ac k s) (lsc i nx ac k t) with h1 | h1 | h1
    · exact absurd (mo_trans (lsc_mo i nx ac k s) h) (lsc_least h1)
    · exact h1
    · exact absurd (mo_trans (lsc_mo i nx ac k t) (mo_symm h)) (lsc_least h1)
theorem mo_stable (h : Dok i st n nx ac) {k : Nat} (hk : ∀ s t, s < n → t < n → mo i nx ac k s t → mo i nx ac (k + 1) s t) : ∀ (u : List Int) (s t : Nat), s < n → t < n → Wd i u → mo i nx ac k s t → aN ac (runS nx s u) = aN ac (runS nx t u)
  | [], s, t, _, _, _, hm => by
    have h0 : mo i nx ac (0 + k) s t := by rw [Nat.zero_add]; exact hm
    exact mo_down k h0
  | x :: u, s, t, hs, ht, hu, hm => by
    obtain ⟨a, rfl, ha⟩ := hu.head
    have h1 := (hk s t hs ht hm).2 a ha
    have ih := mo_stable h hk u _ _ (h.nN_lt hs ha) (h.nN_lt ht ha) hu.tail h1
    show aN ac (runS nx (nN nx s ((a : Int)).toNat) u) = aN ac (runS nx (nN nx t ((a : Int)).toNat) u)
    rw [Int.toNat_natCast]
    exact ih
theorem mo_cnt : ∀ (j : Nat), 0 < n → (∀ m, m < j → ¬ ∀ s t, s < n → t < n → mo i nx ac m s t → mo i nx ac (m + 1) s t) → j + 1 ≤ cnt (lsc i nx ac j) n
  | 0, hn, _ => cnt_pos _ hn
  | j + 1, hn, h => by
    have ih := mo_cnt j hn fun m hm => h m (by omega)
    have := cnt_lt (c := lsc i nx ac j) (d := lsc i nx ac (j + 1)) (n := n) (fun s t _ _ e => lsc_eq.2 (lsc_eq.1 e).1) (fun H => h j (by omega) fun s t hs ht hm => lsc_eq.1 (H s t hs ht (lsc_eq.2 hm)))
    omega
/-- As many rounds as states. -/
theorem lsc_cls (h : Dok i st n nx ac) : Cls i n nx ac (lsc i nx ac n) := fun s t hs ht => by
  rw [lsc_eq]
  refine ⟨fun hm => ?_, mo_of_ner n⟩
  have hex : ∃ m, m < n ∧ ∀ s t, s < n → t < n → mo i nx ac m s t → mo i nx ac (m + 1) s t := by
    apply Classical.byContradiction
    intro H
    have h1 := mo_cnt (i := i) (nx := nx) (ac := ac) (n := n) n h.n1 fun m hm hh => H ⟨m, hm, hh⟩
    have h2 := cnt_le (lsc i nx ac n) n
    omega
  obtain ⟨m, hmn, hst⟩ := hex
  have h1 : mo i nx ac (m + (n - m)) s t := by rw [show m + (n - m) = n by omega]; exact hm
  exact fun u hu => mo_stable h hst u s t hs ht hu (mo_down _ h1)
end
end Go.Proofs.Ythjnghldedfdoaa
end

section
/- Counting accepted words: maths, rows of uint64, longer of the program. -/
namespace Go.Proofs.Ythjnghldedfdoaa
open Go.RowKit

/-- A sum that is cut. -/
def addC (x y : Nat) : Nat := min (x + y) 4611686018427387905
theorem addC_le (x y : Nat) : addC x y ≤ 4611686018427387905 := Nat.min_le_right _ _
/-- The sum over the first inputs. -/
def lgS (nx : List (List Int)) (cs : List Nat) (s : Nat) : Nat → Nat
  | 0 => 0
  | a + 1 => addC (lgS nx cs s a) (cs.getD (nN nx s a) 0)
theorem lgS_le (nx : List (List Int)) (cs : List Nat) (s : Nat) : ∀ a, lgS nx cs s a ≤ 4611686018427387905
  | 0 => Nat.zero_le _
  | _ + 1 => addC_le _ _
def lgr (nx : List (List Int)) (i n : Nat) (cs : List Nat) : List Nat := (List.range n).map fun s => lgS nx cs s i
theorem lgr_len (nx : List (List Int)) (i n : Nat) (cs : List Nat) : (lgr nx i n cs).length = n := by simp [lgr]
theorem getD_rangeN {f : Nat → Nat} {n s : Nat} (h : s < n) : ((List.range n).map f).getD s 0 = f s := by
  rw [List.getD_eq_getElem?_getD, List.getElem?_map, List.getElem?_range h]; rfl
/-- How many words of k symbols are accepted from each state. -/
def cnts (nx : List (List Int)) (ac : List Bool) (i n : Nat) : Nat → List Nat
  | 0 => (List.range n).map fun s => if aN ac s then 1 else 0
  | k + 1 => lgr nx i n (cnts nx ac i n k)
theorem cnts_len (nx : List (List Int)) (ac : List Bool) (i n : Nat) : ∀ k, (cnts nx ac i n k).length = n
  | 0 => by simp [cnts]
  | k + 1 => lgr_len _ _ _ _
theorem cnts_le (nx : List (List Int)) (ac : List Bool) (i n : Nat) : ∀ (k s : Nat), s < n → (cnts nx ac i n k).getD s 0 ≤ 4611686018427387905
  | 0, s, hs => by
    unfold cnts
    rw [getD_rangeN hs]
    split <;> omega
  | k + 1, s, hs => by
    show (lgr nx i n (cnts nx ac i n k)).getD s 0 ≤ _
    unfold lgr
    rw [getD_rangeN hs]
    exact lgS_le _ _ _ _
/-- What Count answers for a valid automaton. -/
def cntR (nx : List (List Int)) (ac : List Bool) (i n st : Nat) (k : Int) : Int × Int :=
  if 0 ≤ k ∧ k ≤ 1024 then (if (cnts nx ac i n k.toNat).getD st 0 ≤ 4611686018427387904 then (((cnts nx ac i n k.toNat).getD st 0 : Nat), 0) else (0, 17)) else (0, 2)

/-- A row of uint64. -/
def OwnU (w : World) (base g n c : Nat) (xs : List Nat) : Prop := w.ownsRow base 105 1 (.slice (some ⟨g, 0, none⟩) n c) n (xs.map fun x => Value.int .u64 (x : Nat)) ∧ xs.length = n
section
variable {w w' : World} {base g n c : Nat} {xs : List Nat}
theorem OwnU.at_ (h : OwnU w base g n c xs) {j : Nat} (hj : j < n) : w.cell? ⟨g, j, none⟩ = some (.int .u64 (xs.getD j 0 : Nat)) ∧ w.frozen? ⟨g, j, none⟩ = false := by
  refine ⟨?_, World.ownsRow.frozenAt h.1 j⟩
  rw [World.ownsRow.cellAt h.1 j (by omega), List.getElem?_map, List.getD_eq_getElem?_getD, List.getElem?_eq_getElem (by have := h.2; omega)]
  rfl
theorem OwnU.blk (h : OwnU w base g n c xs) : base ≤ g ∧ g < w.heap.size ∧ ∃ cur, w.heap[g]? = some (.cells cur 105 (0, 0)) := by
  rcases h.1.2 with ⟨e, _⟩ | ⟨g', cap, cur, e, hb, hg, _⟩
  · cases e
  · injection e with e1 _ _
    injection e1 with e1
    injection e1 with e1 _ _
    subst e1
    exact ⟨hb, heap_lt hg, cur, hg⟩
theorem OwnU.stored (h : OwnU w base g n c xs) (j u : Nat) : OwnU (w.setCell ⟨g, j, none⟩ (.int .u64 (u : Nat))) base g n c (xs.set j u) := by
  refine ⟨?_, by rw [List.length_set]; exact h.2⟩
  rw [List.map_set]
  exact (World.ownsRow.stored h.1 j (.int .u64 (u : Nat))).1
theorem OwnU.keptB (h : OwnU w base g n c xs) (hb : w'.heap[g]? = w.heap[g]?) : OwnU w' base g n c xs := by
  refine ⟨⟨h.1.1, ?_⟩, h.2⟩
  rcases h.1.2 with e | ⟨g', cap, cur, e, hbg, hg, r⟩
  · exact .inl e
  · have hg2 : g = g' := by
      injection e with e1 _ _
      injection e1 with e1
      injection e1
    subst hg2
    exact .inr ⟨g, cap, cur, e, hbg, hb.trans hg, r⟩
theorem OwnU.kept (h : OwnU w base g n c xs) (hb : Below w.heap.size w w') : OwnU w' base g n c xs := h.keptB (hb.block g h.blk.2.1)
theorem OwnU.lower {base' : Nat} (h : OwnU w base g n c xs) (hb : base' ≤ base) : OwnU w base' g n c xs :=
  ⟨⟨h.1.1, h.1.2.imp id (by rintro ⟨g, cap, cur, e1, h1, h2⟩; exact ⟨g, cap, cur, e1, by omega, h2⟩)⟩, h.2⟩
end
theorem infoU : (Try.prog.info? 105).map (fun i => (i.zero, i.size, i.bytes)) = some (some (.int .u64 0), 1, 8) := by kernel_rfl
theorem made_u64 (n : Nat) : (madeCells (Value.int .u64 0).cells (n * 1)).toList = (List.replicate n (0 : Nat)).map fun x => Value.int .u64 (x : Nat) := by
  rw [show (Value.int IntKind.u64 0).cells = #[Value.int .u64 0] from rfl, Nat.mul_one, toList_madeCells_one, List.map_replicate]
  rfl
/-- make([]uint64, n). -/
theorem wpList_make_u64 {ops : Array Oper} {rest : List Oper} {o : Oper} {a : Act} {Q : Exit → Act → World → Prop} (w : World) (hg : o.guard = none) (l c : Operand) (hop : o.op = Op.makeSlice 104 l c)
    (kl kc : IntKind) (n : Nat) (hl : a.eval l = .int kl n) (hc : a.eval c = .int kc n) (hn : n ≤ 17592186044416)
    (hK : ∀ w', OwnU w' w.heap.size w.heap.size n n (List.replicate n 0) → Below w.heap.size w w' → wpList Try.prog ops Q rest (a.put o.dst (.slice (some ⟨w.heap.size, 0, none⟩) n n)) w') :
    wpList Try.prog ops Q (o :: rest) a w := by
  obtain ⟨i, hi, hz0, hz1, hz2⟩ := info_parts infoU
  refine wpList_make_full w hg l c 104 hop w.heap.size 105 i _ 1 Try.underlying104 hi hz0 hz1 kl kc _ _ n hl hc rfl rfl (by rw [hz2]; omega) (by unfold maxLen; omega) (Nat.le_refl _) ?_
  intro w' h1 h2
  refine hK w' ⟨?_, by simp⟩ ((Below.refl _ _).grown h2 (Nat.le_refl _) (fun k hk => by cases hk))
  rw [← made_u64]
  exact h1
theorem set_rangeN {f : Nat → Nat} {K : List Nat} {n s : Nat} (hl : K.length = n) (hs : s < n) (h : ∀ t, t < s → K.getD t 0 = f t) : ∀ t, t < s + 1 → (K.set s (f s)).getD t 0 = f t := fun t ht => by
  rw [List.getD_eq_getElem?_getD, List.getElem?_set]
  by_cases e : s = t
  · subst e; rw [if_pos rfl, if_pos (by omega)]; rfl
  · rw [if_neg e, ← List.getD_eq_getElem?_getD]; exact h t (by omega)
theorem full_rangeN {f : Nat → Nat} {K : List Nat} {n : Nat} (hl : K.length = n) (h : ∀ t, t < n → K.getD t 0 = f t) : K = (List.range n).map f := by
  apply List.ext_getElem
  · simp [hl]
  · intro k h1 h2
    have := h k (by omega)
    rw [List.getD_eq_getElem?_getD, List.getElem?_eq_getElem h1] at this
    rw [List.getElem_map, List.getElem_range]
    exact this
set_option maxHeartbeats 4000000 in
set_option maxRecDepth 100000 in
theorem dlonger (i st n g gc : Nat) (A B : Option Addr) (c d base : Nat) (nx : List (List Int)) (cs : List Nat) (ac : List Bool) (w : World) (hx : Lists w A n nx) (hM : Dok i st n nx ac) (hc : OwnU w base g n gc cs) (hcs : ∀ s, s < n → cs.getD s 0 ≤ 4611686018427387905) :
    Calls Try.prog 65 #[.agg #[.int .i64 i, .int .i64 st, .slice A n c, .slice B n d], .slice (some ⟨g, 0, none⟩) n gc] w fun e w' => ∃ g' c', e = .returned (.slice (some ⟨g', 0, none⟩) n c') ∧ OwnU w' w.heap.size g' n c' (lgr nx i n cs) ∧ Below w.heap.size w w' := by
  obtain ⟨w0, hw0⟩ : ∃ w0, w0 = w.alloc (.cells #[.int .i64 i, .int .i64 st, .slice A n c, .slice B n d] 25) := ⟨_, rfl⟩
  have hb0 : Below w.heap.size w w0 := by rw [hw0]; exact alloc_below _ _
  have hB : Dblk w0 w.heap.size (.int .i64 i) (.int .i64 st) (.slice A n c) (.slice B n d) := by rw [hw0]; exact dfa_box _ _ _ _ _
  have hgl := hc.blk.2.1
  have hn := hM.n2
  have hi := hM.i2
  obtain ⟨z, hz⟩ : ∃ z, z = w.heap.size + 1 := ⟨_, rfl⟩
  have hzw : w0.heap.size = z := by rw [hw0, hz]; simp
  have HZ := Lib.hid hz
  have HZW := Lib.hid hzw
  have HW0 := Lib.hid hw0
  have HB0 := Lib.hid hb0
  have HBX := Lib.hid (fun (W : World) (h : Below z w0 W) => hB.kept h (show w.heap.size < z by omega))
  have HC := Lib.hid (fun (W : World) (h : Below w.heap.size w W) => hc.kept h)
  have HBW := Lib.hid (fun (W : World) (h : Below z w0 W) => show Below w.heap.size w W from bt hb0 (by rw [hzw]; exact h))
  have HM := Lib.hid hM
  have HCS := Lib.hid hcs
  clear hw0 hb0 hB hz hM hc hcs hzw
  go_enter Try.func65, Try.ntmps65
  go_wp2_with (refine wpList_make_u64 _ rfl _ _ rfl .i64 .i64 n rfl rfl (by omega) ?_; intro w3 ho3 b3; rw [← HW0.out] at ho3 b3; rw [HZW.out] at ho3 b3; obtain ⟨_, _, k2, _, _⟩ := (HBX.out w3 b3).cells)
  rw [← HZ.out]
  have HO3 := Lib.hid ho3
  have HB3 := Lib.hid b3
  clear ho3 b3 k2
  go_loopw [16] (fun v16 wr => ∃ (s : Nat) (K : List Nat), v16 = .int .i64 s ∧ s ≤ n ∧ (∀ t, t < s → K.getD t 0 = lgS nx cs t i) ∧ (∀ t, s ≤ t → t < n → K.getD t 0 = 0) ∧ OwnU wr z z n n K ∧ Below z w0 wr) (fun v16 _ => n - (intOf v16).toNat)
  case atStart => exact ⟨0, List.replicate n 0, rfl, Nat.zero_le _, fun t ht => absurd ht (by omega), fun t _ ht => by simp [List.getD, ht], HO3.out, HB3.out⟩
  case round =>
    obtain ⟨s, K, rfl, hs, hK, hK0, hO, hbr⟩ := hrel
    have HK := Lib.hid hK
    have HK0 := Lib.hid hK0
    have HO := Lib.hid hO
    have HBR := Lib.hid hbr
    clear hK hK0 hO hbr
    by_cases hlt : s < n
    · have hbw := HBW.out wr HBR.out
      obtain ⟨gA, oA, A1, nA, cA, eA, lA, hdA, hrA⟩ := hx.at_ hlt
      subst eA
      have hdA := (hbw.cell (p := ⟨gA, oA + s, none⟩) lA).trans hdA
      obtain rfl : nA = i := by rw [← hrA.1]; exact (HM.out.row s hlt).1
      have hs0 : (0 : Int) ≤ (s : Int) := by omega
      have hs1 : (s : Int) < (n : Int) := by omega
      clear hbw
      go_wp2_with fail
      obtain ⟨wo, rfl⟩ : ∃ wo : World, wo = wr := ⟨_, rfl⟩
      clear hdA
      go_loopw [23] (fun v23 wr => ∃ (a : Nat) (K2 : List Nat), v23 = .int .i64 a ∧ a ≤ nA ∧ K2 = K.set s (lgS nx cs s a) ∧ OwnU wr z z n n K2 ∧ Below z w0 wr) (fun v23 _ => nA - (intOf v23).toNat)
      case atStart =>
        refine ⟨0, K, rfl, Nat.zero_le _, ?_, HO.out, HBR.out⟩
        have h0 := HK0.out s (Nat.le_refl _) hlt
        have hl := HO.out.2
        rw [List.getD_eq_getElem?_getD, List.getElem?_eq_getElem (by omega)] at h0
        have h0 : K[s]'(by omega) = 0 := h0
        show K = K.set s 0
        rw [← h0, List.set_getElem_self]
      case round =>
        obtain ⟨a, K2, rfl, haa, hK2, hO2, hb2⟩ := hrel
        by_cases hla : a < nA
        · have hbw := HBW.out wr hb2
          obtain ⟨gR, oR, eR, lR, xR⟩ := hrA.at_ hla
          subst eR
          have xR := (hbw.cell (p := ⟨gR, oR + a, none⟩) lR).trans xR
          rw [HM.out.nN_eq hlt hla] at xR
          have hul := HM.out.nN_lt hlt hla
          obtain ⟨y1, f1⟩ := hO2.at_ hlt
          have hval : K2.getD s 0 = lgS nx cs s a := by
            rw [hK2, List.getD_eq_getElem?_getD, List.getElem?_set, if_pos rfl, if_pos (by have := HO.out.2; omega)]
            rfl
          rw [hval] at y1
          obtain ⟨y2, _⟩ := (HC.out wr hbw).at_ hul
          have hv1 := lgS_le nx cs s a
          have hv2 := HCS.out _ hul
          have hgg : g ≠ z := by rw [HZ.out]; omega
          have hnx : K2.set s (lgS nx cs s (a + 1)) = K.set s (lgS nx cs s (a + 1)) := by rw [hK2, List.set_set]
          have hst := hO2.stored s (lgS nx cs s (a + 1))
          rw [hnx] at hst
          have hbs := hb2.setCell (p := ⟨z, s, none⟩) (Nat.le_refl _) (.int .u64 (lgS nx cs s (a + 1) : Nat))
          have HST := Lib.hid hst
          have HBS := Lib.hid hbs
          have HAC := Lib.hid (show lgS nx cs s (a + 1) = addC (lgS nx cs s a) (cs.getD (nN nx s a) 0) from rfl)
          obtain ⟨v, hv⟩ : ∃ v, v = lgS nx cs s (a + 1) := ⟨_, rfl⟩
          rw [← hv] at HST HBS HAC
          have HVE := Lib.hid hv
          clear hv
          generalize lgS nx cs s a = x at y1 hv1 HAC
          generalize hU : nN nx s a = u at xR hul y2 hv2 HAC
          have HU := Lib.hid hU
          generalize cs.getD u 0 = y at y2 hv2 HAC
          have ha0 : (0 : Int) ≤ (a : Int) := by omega
          have ha1 : (a : Int) < (nA : Int) := by omega
          have hu0 : (0 : Int) ≤ (u : Int) := by omega
          have hu1 : (u : Int) < (n : Int) := by omega
          have hx0 : (0 : Int) ≤ (x : Int) := by omega
          have hy0 : (0 : Int) ≤ (y : Int) := by omega
          clear hval hK2 hnx hst hbs hO2 hb2 hbw hU
          go_wp2_with fail
          go_region
          have HVV := Lib.hid (show (if (4611686018427387905 : Int) < (x : Int) + (y : Int) then (4611686018427387905 : Int) else (x : Int) + (y : Int)) = (v : Nat) by
            rw [HAC.out]
            unfold addC
            split <;> omega)
          go_wp2_with fail
          rw [HVV.out]
          go_roundw
          case rel => exact ⟨a + 1, K.set s v, by go_num, by omega, by rw [HVE.out], HST.out.kept (below_drewN (Below.refl _ _) 1), below_drewN HBS.out 1⟩
          case measure => simp [intOf]; omega
        · obtain rfl : nA = a := by omega
          have HO2 := Lib.hid hO2
          have HB2 := Lib.hid hb2
          have HKK := Lib.hid (show ∀ t, t < s + 1 → K2.getD t 0 = lgS nx cs t nA by rw [hK2]; exact set_rangeN HO.out.2 hlt HK.out)
          have HKZ := Lib.hid (show ∀ t, s + 1 ≤ t → t < n → K2.getD t 0 = 0 from fun t h1 h2 => by
            rw [hK2, List.getD_eq_getElem?_getD, List.getElem?_set, if_neg (by omega), ← List.getD_eq_getElem?_getD]
            exact HK0.out t (by omega) h2)
          clear hK2 hO2 hb2
          go_wp2_with fail
          go_roundw
          case rel => exact ⟨s + 1, K2, by go_num, by omega, HKK.out, HKZ.out, HO2.out, HB2.out⟩
          case measure => simp [intOf]; omega
    · obtain rfl : n = s := by omega
      have HKE := Lib.hid (show K = lgr nx i n cs from full_rangeN HO.out.2 HK.out)
      go_wp2_with fail
      go_ret
      have h9 := HO.out
      rw [HKE.out] at h9
      exact ⟨z, n, rfl, h9.lower (by rw [HZ.out]; exact Nat.le_succ _), HBW.out wr HBR.out⟩
set_option maxHeartbeats 4000000 in
set_option maxRecDepth 100000 in
theorem dcount_bad (i st k : Int) (A B : Option Addr) (n c m d : Nat) (nx : List (List Int)) (ac : List Bool) (w : World) (hx : Lists w A n nx) (ha : Bools w B m ac) (hv : ¬ vldD i st nx ac = 0) :
    Calls Try.prog 28 #[.agg #[.int .i64 i, .int .i64 st, .slice A n c, .slice B m d], .int .i64 k] w fun e w' => e = .returned (.tuple #[.int .i64 0, .int .i64 (vldD i st nx ac)]) ∧ Below w.heap.size w w' := by
  obtain ⟨w0, hw0⟩ : ∃ w0, w0 = w.alloc (.cells #[.int .i64 i, .int .i64 st, .slice A n c, .slice B m d] 25) := ⟨_, rfl⟩
  have hb0 : Below w.heap.size w w0 := by rw [hw0]; exact alloc_below _ _
  have hB : Dblk w0 w.heap.size (.int .i64 i) (.int .i64 st) (.slice A n c) (.slice B m d) := by rw [hw0]; exact dfa_box _ _ _ _ _
  obtain ⟨k0, k1, k2, k3, _⟩ := hB.cells
  obtain ⟨x, hx0, hxe⟩ : ∃ x, ¬ x = 0 ∧ vldD i st nx ac = x := ⟨_, hv, rfl⟩
  have HXE := Lib.hid hxe
  have t1 : (x != 0) = true := by simpa using hx0
  have HW0 := Lib.hid hw0
  have HX := Lib.hid (hx.below hb0)
  have HA := Lib.hid (ha.below hb0)
  have HB0 := Lib.hid hb0
  clear hv hxe hw0 hB hb0
  rw [HW0.out] at k0 k1 k2 k3
  go_enter Try.func28, Try.ntmps28
  go_wp2_with fail
  rw [← HW0.out]
  refine (pvalD _ _ _ _ _ _ _ _ _ _ _ HX.out HA.out.1 HA.out.2.1).mono ?_
  rintro e w1 ⟨rfl, b1⟩
  rw [HXE.out]
  go_wp2_with fail
  go_ret2
  exact ⟨by rw [HXE.out]; rfl, bt HB0.out b1⟩
set_option maxHeartbeats 4000000 in
set_option maxRecDepth 100000 in
theorem dcount (i st n : Nat) (k : Int) (A B : Option Addr) (c d : Nat) (nx : List (List Int)) (ac : List Bool) (w : World) (hx : Lists w A n nx) (ha : Bools w B n ac) (hM : Dok i st n nx ac) :
    Calls Try.prog 28 #[.agg #[.int .i64 i, .int .i64 st, .slice A n c, .slice B n d], .int .i64 k] w fun e w' => e = .returned (.tuple #[.int .i64 (cntR nx ac i n st k).1, .int .i64 (cntR nx ac i n st k).2]) ∧ Below w.heap.size w w' := by
  obtain ⟨R, hR⟩ : ∃ R, R = cntR nx ac i n st k := ⟨_, rfl⟩
  rw [← hR]
  have HR := Lib.hid hR
  obtain ⟨w0, hw0⟩ : ∃ w0, w0 = w.alloc (.cells #[.int .i64 i, .int .i64 st, .slice A n c, .slice B n d] 25) := ⟨_, rfl⟩
  have hb0 : Below w.heap.size w w0 := by rw [hw0]; exact alloc_below _ _
  have hB : Dblk w0 w.heap.size (.int .i64 i) (.int .i64 st) (.slice A n c) (.slice B n d) := by rw [hw0]; exact dfa_box _ _ _ _ _
  obtain ⟨k0, k1, k2, k3, _⟩ := hB.cells
  have hn := hM.n2
  have hst := hM.st
  have HV := Lib.hid hM.vld
  have HW0 := Lib.hid hw0
  have HX := Lib.hid (hx.below hb0)
  have HA := Lib.hid (ha.below hb0)
  have HB0 := Lib.hid hb0
  have HB := Lib.hid hB
  have HM := Lib.hid hM
  clear hw0 hB hb0 hM hR
  rw [HW0.out] at k0 k1 k2 k3
  by_cases hk : 0 ≤ k ∧ k ≤ 1024
  · obtain ⟨q, rfl⟩ : ∃ q : Nat, k = q := ⟨k.toNat, by omega⟩
    have HRR := Lib.hid (show R = if (cnts nx ac i n q).getD st 0 ≤ 4611686018427387904 then ((((cnts nx ac i n q).getD st 0 : Nat) : Int), 0) else (0, 17) by
      rw [HR.out]; unfold cntR; rw [if_pos hk, Int.toNat_natCast])
    have hq : q ≤ 1024 := by omega
    have d1 : decide ((q : Int) < 0) = false := decide_eq_false (by omega)
    have d2 : decide ((1024 : Int) < (q : Int)) = false := decide_eq_false (by omega)
    clear hk
    go_enter Try.func28, Try.ntmps28
    go_wp2_with fail
    rw [← HW0.out]
    refine (pvalD _ _ _ _ _ _ _ _ _ _ _ HX.out HA.out.1 HA.out.2.1).mono ?_
    rintro e w1 ⟨rfl, b1⟩
    rw [HV.out]
    clear k0 k1 k2 k3
    obtain ⟨z, hz⟩ : ∃ z, z = w1.heap.size := ⟨_, rfl⟩
    have HZ := Lib.hid hz
    have HBX := Lib.hid (fun (W : World) (h : Below z w1 W) => (HB.out.on9 b1).kept h (show w.heap.size < z by rw [hz]; exact heap_lt (HB.out.on9 b1)))
    have HX1 := Lib.hid (fun (W : World) (h : Below z w1 W) => And.intro ((HX.out.below b1).below (by rw [← hz]; exact h)) ((HA.out.below b1).below (by rw [← hz]; exact h)))
    have HB1 := Lib.hid (bt HB0.out b1)
    obtain ⟨_, _, k2, k3, _⟩ := (HB.out.on9 b1).cells
    clear b1 hz
    go_wp2_with (refine wpList_make_u64 _ rfl _ _ rfl .i64 .i64 n rfl rfl (by omega) ?_; intro w3 ho3 b3; rw [← HZ.out] at ho3 b3; obtain ⟨_, _, k2', k3', _⟩ := (HBX.out w3 b3).cells)
    rw [← HZ.out]
    have HO3 := Lib.hid ho3
    have HB3 := Lib.hid b3
    clear ho3 b3 k2 k3 k2' k3'
    go_loopw [28] (fun v28 wr => ∃ (s : Nat) (K : List Nat), v28 = .int .i64 s ∧ s ≤ n ∧ (∀ t, t < s → K.getD t 0 = if aN ac t then 1 else 0) ∧ OwnU wr z z n n K ∧ Below z w1 wr) (fun v28 _ => n - (intOf v28).toNat)
    case atStart => exact ⟨0, List.replicate n 0, rfl, Nat.zero_le _, fun t ht => absurd ht (by omega), HO3.out, HB3.out⟩
    case round =>
      obtain ⟨s, K, rfl, hs, hK, hO, hbr⟩ := hrel
      by_cases hlt : s < n
      · obtain ⟨gB, oB, rfl, lB, xB⟩ := (HX1.out wr hbr).2.at_ hlt
        obtain ⟨y1, f1⟩ := hO.at_ hlt
        have HS := Lib.hid (set_rangeN (f := fun t => if aN ac t then 1 else 0) hO.2 hlt hK)
        have HST := Lib.hid (hO.stored s (if aN ac s then 1 else 0))
        have HBS := Lib.hid (hbr.setCell (p := ⟨z, s, none⟩) (Nat.le_refl _) (.int .u64 ((if aN ac s then 1 else 0 : Nat) : Nat)))
        change wr.cell? _ = some (.bool (aN ac s)) at xB
        generalize aN ac s = x at *
        generalize K.getD s 0 = y at y1
        clear hK hO hbr
        cases x
        all_goals
          go_wp2_with (first | (go_at_call 64; refine (dbit _ _).mono ?_; rintro e w9 ⟨rfl, rfl⟩))
          go_roundw
          case rel => exact ⟨s + 1, _, by go_num, by omega, HS.out, HST.out, HBS.out⟩
          case measure => simp [intOf]; omega
      · obtain rfl : n = s := by omega
        have HKE := Lib.hid (show K = cnts nx ac i n 0 from full_rangeN hO.2 hK)
        have HO := Lib.hid hO
        have HBR := Lib.hid hbr
        have hzr := hbr.size
        have HZR := Lib.hid (show z ≤ wr.heap.size by rw [HZ.out]; exact hbr.size)
        clear hK hO hbr hzr
        go_wp2_with fail
        obtain ⟨wo, rfl⟩ : ∃ wo : World, wo = wr := ⟨_, rfl⟩
        go_loopw [7, 41] (fun v7 v41 wr => ∃ (p g gc : Nat), v41 = .int .i64 p ∧ p ≤ q ∧ v7 = .slice (some ⟨g, 0, none⟩) n gc ∧ OwnU wr z g n gc (cnts nx ac i n p) ∧ Below z w1 wr) (fun _ v41 _ => q - (intOf v41).toNat)
        case atStart => exact ⟨0, z, n, rfl, Nat.zero_le _, rfl, by rw [← HKE.out]; exact HO.out, HBR.out⟩
        case round =>
          obtain ⟨p, g, gc, rfl, hp, rfl, hO, hbr⟩ := hrel
          have HO := Lib.hid hO
          have HBR := Lib.hid hbr
          have hzr : z ≤ wr.heap.size := by rw [HZ.out]; exact hbr.size
          obtain ⟨k0, k1, k2, k3, _⟩ := (HBX.out wr hbr).cells
          have HXR := Lib.hid (HX1.out wr hbr).1
          by_cases hlt : p < q
          · clear hO hbr
            go_wp2_with fail
            refine (dlonger i st n g gc _ _ _ _ z nx (cnts nx ac i n p) ac wr HXR.out HM.out HO.out (cnts_le nx ac i n p)).mono ?_
            rintro e w4 ⟨g4, c4, rfl, o4, b4⟩
            have HO4 := Lib.hid (o4.lower hzr)
            have HB4 := Lib.hid (HBR.out.trans (b4.mono hzr))
            clear o4 b4 k0 k1 k2 k3
            go_wp2_with fail
            go_roundw
            case rel => exact ⟨p + 1, g4, c4, by go_num, by omega, rfl, HO4.out, HB4.out⟩
            case measure => simp [intOf]; omega
          · obtain rfl : q = p := by omega
            obtain ⟨y1, _⟩ := hO.at_ hst
            have hle := cnts_le nx ac i n q st hst
            have hs0 : (0 : Int) ≤ (st : Int) := by omega
            have hs1 : (st : Int) < (n : Int) := by omega
            generalize (cnts nx ac i n q).getD st 0 = y at y1 hle HRR
            clear hO hbr
            by_cases hy : y ≤ 4611686018427387904
            · have hR2 : R = ((y : Int), 0) := by rw [HRR.out, if_pos hy]
              have HR2 := Lib.hid hR2
              have d3 : decide ((4611686018427387904 : Int) < (y : Int)) = false := decide_eq_false (by omega)
              clear hR2
              go_wp2_with fail
              go_ret2
              exact ⟨by rw [HR2.out]; rfl, bt HB1.out (by rw [← HZ.out]; exact HBR.out)⟩
            · have hR2 : R = (0, 17) := by rw [HRR.out, if_neg hy]
              have HR2 := Lib.hid hR2
              have d3 : decide ((4611686018427387904 : Int) < (y : Int)) = true := decide_eq_true (by omega)
              clear hR2
              go_wp2_with fail
              go_ret2
              exact ⟨by rw [HR2.out]; rfl, bt HB1.out (by rw [← HZ.out]; exact HBR.out)⟩
  · have hR2 : R = (0, 2) := by rw [HR.out]; unfold cntR; rw [if_neg hk]
    have HR2 := Lib.hid hR2
    clear hR2
    by_cases h0 : k < 0
    · have d1 : decide (k < 0) = true := decide_eq_true h0
      clear hk
      go_enter Try.func28, Try.ntmps28
      go_wp2_with fail
      rw [← HW0.out]
      refine (pvalD _ _ _ _ _ _ _ _ _ _ _ HX.out HA.out.1 HA.out.2.1).mono ?_
      rintro e w1 ⟨rfl, b1⟩
      rw [HV.out]
      clear k0 k1 k2 k3
      go_wp2_with fail
      go_ret2
      exact ⟨by rw [HR2.out]; rfl, bt HB0.out b1⟩
    · have d1 : decide (k < 0) = false := decide_eq_false h0
      have d2 : decide (1024 < k) = true := decide_eq_true (by omega)
      clear hk
      go_enter Try.func28, Try.ntmps28
      go_wp2_with fail
      rw [← HW0.out]
      refine (pvalD _ _ _ _ _ _ _ _ _ _ _ HX.out HA.out.1 HA.out.2.1).mono ?_
      rintro e w1 ⟨rfl, b1⟩
      rw [HV.out]
      clear k0 k1 k2 k3
      go_wp2_with fail
      go_ret2
      exact ⟨by rw [HR2.out]; rfl, bt HB0.out b1⟩
end Go.Proofs.Ythjnghldedfdoaa
end

section
/- The number of a pair: the walk. -/
namespace Go.Proofs.Ythjnghldedfdoaa
open Go.RowKit

theorem plcE_new {E : List Ent} {e : Ent} (h : ¬ hasE E e.p e.q) : plcE (E ++ [e]) e.p e.q = E.length := by
  unfold plcE
  rw [List.map_append, List.idxOf_append, if_neg (show ¬ (e.p, e.q) ∈ E.map Ent.pr from h)]
  simp [Ent.pr]
set_option maxHeartbeats 2000000 in
set_option maxRecDepth 100000 in
theorem dnumber {w : World} {base g : Nat} {E : List Ent} {A B : Option Addr} {c d gm : Nat} (h : Disc w base g E A B c d gm) (hg : base ≤ g) (e : Ent) (hp : e.p ≤ 4611686018427387904) (hq : e.q ≤ 4611686018427387904) (hz : base ≤ w.heap.size) (hn : E.length < 1099511627776) :
    Calls Try.prog 80 #[.pointer (some ⟨g, 0, none⟩), .agg #[.int .i64 e.p, .int .i64 e.q], .agg #[.int .i64 e.j, .int .i64 e.x]] w fun r w' => r = .returned (.int .i64 (plcE (addE E e) e.p e.q : Nat)) ∧ ∃ A' B' c' d', Disc w' base g (addE E e) A' B' c' d' gm ∧ Below base w w' ∧ (∀ t, t ≠ 82 → t ≠ 124 → t ≠ 119 → KeptT t w w') ∧ ∀ pb o, ShD w pb o g gm A B → ShD w' pb o g gm A' B' := by
  obtain ⟨w0, hw0⟩ : ∃ w0, w0 = (w.alloc (.cells #[.int .i64 e.p, .int .i64 e.q] 82)).alloc (.cells #[.int .i64 e.j, .int .i64 e.x] 124) := ⟨_, rfl⟩
  have hb : Below w.heap.size w w0 := by rw [hw0]; exact (alloc_below _ _).alloc (by simp) _
  have hbb : Below base w w0 := hb.mono hz
  have hz0 : base ≤ w0.heap.size := Nat.le_trans hz hb.size
  have h0 := h.kept hb
  have p1 : w0.heap[w.heap.size]? = some (.cells #[.int .i64 e.p, .int .i64 e.q] 82 (0, 0)) := by
    rw [hw0]
    exact ((alloc_below (w.alloc (.cells #[.int .i64 e.p, .int .i64 e.q] 82)) _).block _ (by simp)).trans (heap_alloc_new w _)
  have p2 : w0.heap[w.heap.size + 1]? = some (.cells #[.int .i64 e.j, .int .i64 e.x] 124 (0, 0)) := by
    rw [hw0]
    have := heap_alloc_new (w.alloc (.cells #[.int .i64 e.p, .int .i64 e.q] 82)) (.cells #[.int .i64 e.j, .int .i64 e.x] 124)
    simpa using this
  have HW := Lib.hid hw0
  have HB0 := Lib.hid hb
  have HP1 := Lib.hid p1
  have HP2 := Lib.hid p2
  obtain ⟨k0, k1, k2, f0, f1, f2⟩ := h0.cells
  have c1 := cell_of_row w0 w.heap.size 0 _ _ (0, 0) p1
  have c2 := cell_of_row w0 w.heap.size 1 _ _ (0, 0) p1
  by_cases hin : hasE E e.p e.q
  · have hr : (Instr.lookup 117 (.map (some gm)) (.agg #[.int .i64 e.p, .int .i64 e.q]) true).run Try.prog w0 = .ok (.tuple #[.int .i64 (plcE E e.p e.q : Nat), .bool true]) w0 := by
      have := h0.num.look_in keyT_pair (keyE_inj.2 hin)
      rw [keyE_idx] at this
      exact this
    have HR := Lib.hid (show ∀ q : Nat, (Instr.lookup 117 (.map (some gm)) (.agg #[.int .i64 e.p, .int .i64 e.q]) true).run Try.prog (w0.drewN q) = .ok (.tuple #[.int .i64 (plcE E e.p e.q : Nat), .bool true]) (w0.drewN q) from fun q => by
      have := (h0.num.drewN q).look_in keyT_pair (keyE_inj.2 hin)
      rw [keyE_idx] at this
      exact this)
    have HA := Lib.hid (addE_in hin)
    clear hw0 p1 p2
    go_enter Try.func80, Try.ntmps80
    go_wp2_with fail
    rw [← HW.out]
    go_region_held3 (fun w' => w'.cell? ⟨g, 2, none⟩ = some (.map (some gm)) ∧ w'.cell? ⟨w.heap.size, 0, none⟩ = some (.int .i64 e.p) ∧ w'.cell? ⟨w.heap.size, 1, none⟩ = some (.int .i64 e.q) ∧ (Instr.lookup 117 (.map (some gm)) (.agg #[.int .i64 e.p, .int .i64 e.q]) true).run Try.prog w' = .ok (.tuple #[.int .i64 (plcE E e.p e.q : Nat), .bool true]) w') (first | (refine ⟨by go_keep, by go_keep, by go_keep, ?_⟩; first | assumption | exact HR.out _)) (fail)
    go_wp2
    go_ret
    exact ⟨by rw [HA.out]; rfl, A, B, c, d, by rw [HA.out]; exact h0.kept (below_drewN (Below.refl _ _) 1), below_drewN hbb 1, fun t _ _ _ => KeptT.of_below (below_drewN HB0.out 1), fun pb o hs => ⟨((below_drewN HB0.out 1).block pb (heap_lt hs.1)).trans hs.1, hs.2⟩⟩
  · have hr : (Instr.lookup 117 (.map (some gm)) (.agg #[.int .i64 e.p, .int .i64 e.q]) true).run Try.prog w0 = .ok (.tuple #[.int .i64 0, .bool false]) w0 := h0.num.look_out keyT_pair (isK_pair hp hq) (fun H => hin (keyE_inj.1 H))
    have HR := Lib.hid (show ∀ q : Nat, (Instr.lookup 117 (.map (some gm)) (.agg #[.int .i64 e.p, .int .i64 e.q]) true).run Try.prog (w0.drewN q) = .ok (.tuple #[.int .i64 0, .bool false]) (w0.drewN q) from fun q => (h0.num.drewN q).look_out keyT_pair (isK_pair hp hq) (fun H => hin (keyE_inj.1 H)))
    have HA := Lib.hid (addE_out hin)
    have HP := Lib.hid (plcE_new hin)
    obtain ⟨wd, hwd⟩ : ∃ wd, wd = w0.drew := ⟨_, rfl⟩
    have hbd : Below w0.heap.size w0 wd := by rw [hwd]; exact below_drewN (Below.refl _ _) 1
    have hbe : Below w0.heap.size w0 wd.drew := below_drewN hbd 1
    have hzd : base ≤ wd.drew.heap.size := Nat.le_trans hz0 hbe.size
    have p1d := (hbe.block _ (heap_lt p1)).trans p1
    have p2d := (hbe.block _ (heap_lt p2)).trans p2
    have c1d := cell_of_row wd w.heap.size 0 _ _ (0, 0) p1d
    have c2d := cell_of_row wd w.heap.size 1 _ _ (0, 0) p1d
    obtain ⟨m0, m1, m2, _⟩ := (h0.kept hbd).cells
    have h1 := h0.kept hbe
    obtain ⟨w1, A1, x1, w2, B1, d1, w3, r1, r2, r3, e1, e2, e3, hD, b1, b2, b3, t1, t2, t3, b4, kt, ks⟩ := h1.grow hg e hin hp hq hzd hn
    have HKT := Lib.hid kt
    have HKS := Lib.hid ks
    have HBE := Lib.hid (hb.trans (hbe.mono hb.size))
    have q1 := t1 _ _ p1d
    have q2 := KeptT.off (k := 0) e2 (by decide) (.slice A1 (E.length + 1) x1) _ _ (t3 _ _ p2d)
    have v1 := cell_of_row w1 w.heap.size 0 _ _ (0, 0) q1
    have v2 := cell_of_row w1 w.heap.size 1 _ _ (0, 0) q1
    have g0 := cell_of_row w1 g 0 _ _ (0, 0) e1
    have g2 := cell_of_row w1 g 2 _ _ (0, 0) e1
    have l0 := cell_of_row w2 g 0 _ _ (0, 0) e2
    have l1 := frozen_of_row w2 g 0 _ _ e2
    have hs2 := heap_setCell_same w2 g 0 _ _ (Value.slice A1 (E.length + 1) x1) e2
    have s1 := cell_of_row (w2.setCell ⟨g, 0, none⟩ (Value.slice A1 (E.length + 1) x1)) g 1 _ _ (0, 0) hs2
    have v3 := cell_of_row (w2.setCell ⟨g, 0, none⟩ (Value.slice A1 (E.length + 1) x1)) (w.heap.size + 1) 0 _ _ (0, 0) q2
    have v4 := cell_of_row (w2.setCell ⟨g, 0, none⟩ (Value.slice A1 (E.length + 1) x1)) (w.heap.size + 1) 1 _ _ (0, 0) q2
    have u1 := cell_of_row w3 g 1 _ _ (0, 0) e3
    have u2 := frozen_of_row w3 g 1 _ _ e3
    have HDD := Lib.hid hD
    have HB4 := Lib.hid ((hbb.trans (hbe.mono hz0)).trans b4)
    have HWD := Lib.hid hwd
    clear kt ks hw0 p1 p2 hD b4 b1 b2 b3 t1 t2 t3 hwd hbd hbe hzd p1d p2d h1 e1 e2 e3 hs2 q1 q2
    go_enter Try.func80, Try.ntmps80
    go_wp2_with fail
    rw [← HW.out]
    go_region_held3 (fun w' => w'.cell? ⟨g, 2, none⟩ = some (.map (some gm)) ∧ w'.cell? ⟨w.heap.size, 0, none⟩ = some (.int .i64 e.p) ∧ w'.cell? ⟨w.heap.size, 1, none⟩ = some (.int .i64 e.q) ∧ (Instr.lookup 117 (.map (some gm)) (.agg #[.int .i64 e.p, .int .i64 e.q]) true).run Try.prog w' = .ok (.tuple #[.int .i64 0, .bool false]) w') (first | (refine ⟨by go_keep, by go_keep, by go_keep, ?_⟩; first | assumption | exact HR.out _)) (fail)
    rw [← HWD.out]
    clear k0 k1 k2 f0 f1 f2 c1 c2 hr
    go_wp2_with fail
    go_region_held3 (fun w' => w'.cell? ⟨g, 2, none⟩ = some (.map (some gm)) ∧ w'.cell? ⟨w.heap.size, 0, none⟩ = some (.int .i64 e.p) ∧ w'.cell? ⟨w.heap.size, 1, none⟩ = some (.int .i64 e.q)) (go_keep) (fail)
    clear g2 c1d c2d r1
    have g0b := ((alloc_below w1 (.cells #[.int .i64 e.p, .int .i64 e.q] 82)).cell (p := ⟨g, 0, none⟩) (block_lt g0)).trans g0
    go_wp2_with fail
    go_region_law (first | (refine step_app rfl _ _ _ _ rfl _ _ rfl rfl _ _ r2 ?_))
    all_goals
      clear r2 l0 l1 g0 g0b v1 v2
      have s1b := ((alloc_below (w2.setCell ⟨g, 0, none⟩ (Value.slice A1 (E.length + 1) x1)) (.cells #[.int .i64 e.j, .int .i64 e.x] 124)).cell (p := ⟨g, 1, none⟩) (block_lt s1)).trans s1
      go_wp2_with fail
      go_region_law (first | (refine step_app rfl _ _ _ _ rfl _ _ rfl rfl _ _ r3 ?_))
      all_goals
        go_wp2_with fail
        go_ret
        exact ⟨by rw [HA.out, HP.out]; rfl, A1, B1, x1, d1, by rw [HA.out]; exact HDD.out, HB4.out, fun t n1 n2 n3 => (KeptT.of_below HBE.out).trans (HKT.out t n1 n2 n3), fun pb o hs => HKS.out pb o ⟨(HBE.out.block pb (heap_lt hs.1)).trans hs.1, hs.2⟩⟩
end Go.Proofs.Ythjnghldedfdoaa
end

section
/- slices.Reverse of an owned row. -/
namespace Go.Proofs.Ythjnghldedfdoaa
open Go.RowKit

/-- The list when t numbers from each end have been exchanged. -/
def rv (xs : List Int) (t : Nat) : List Int := (List.range xs.length).map fun m => if m < t ∨ xs.length ≤ m + t then xs.getD (xs.length - 1 - m) 0 else xs.getD m 0

theorem rv_len (xs : List Int) (t : Nat) : (rv xs t).length = xs.length := by unfold rv; simp
theorem rv_get (xs : List Int) (t m : Nat) (h : m < xs.length) : (rv xs t)[m]? = some (if m < t ∨ xs.length ≤ m + t then xs.getD (xs.length - 1 - m) 0 else xs.getD m 0) := by
  unfold rv; simp [h]
theorem rv_zero (xs : List Int) : rv xs 0 = xs := by
  apply List.ext_getElem?
  intro m
  rcases Nat.lt_or_ge m xs.length with h | h
  · rw [rv_get xs 0 m h, if_neg (by omega)]; simp [List.getD, h]
  · rw [List.getElem?_eq_none (by rw [rv_len]; exact h), List.getElem?_eq_none h]
theorem rv_end (xs : List Int) (t : Nat) (ht : xs.length ≤ 2 * t + 1) : rv xs t = xs.reverse := by
  apply List.ext_getElem?
  intro m
  rcases Nat.lt_or_ge m xs.length with h | h
  · rw [rv_get xs t m h, List.getElem?_reverse h]
    have h1 : xs.length - 1 - m < xs.length := by omega
    by_cases hc : m < t ∨ xs.length ≤ m + t
    · rw [if_pos hc]; simp [List.getD, h1]
    · rw [if_neg hc]
      have : xs.length - 1 - m = m := by omega
      rw [this]; simp [List.getD, h]
  · rw [List.getElem?_eq_none (by rw [rv_len]; exact h), List.getElem?_eq_none (by simpa using h)]
theorem rv_lo (xs : List Int) (t : Nat) (h : 2 * t + 1 < xs.length) : (rv xs t).getD t 0 = xs[t]?.getD 0 := by
  rw [List.getD, rv_get xs t t (by omega), if_neg (by omega)]; simp
theorem rv_hi (xs : List Int) (t : Nat) (h : 2 * t + 1 < xs.length) : (rv xs t).getD (xs.length - 1 - t) 0 = xs[xs.length - 1 - t]?.getD 0 := by
  rw [List.getD, rv_get xs t _ (by omega), if_neg (by omega)]; simp
theorem rv_step (xs : List Int) (t : Nat) (h : 2 * t + 1 < xs.length) : ((rv xs t).set t (xs[xs.length - 1 - t]?.getD 0)).set (xs.length - 1 - t) (xs[t]?.getD 0) = rv xs (t + 1) := by
  apply List.ext_getElem?
  intro m
  rcases Nat.lt_or_ge m xs.length with hm | hm
  · rw [rv_get xs (t + 1) m hm, List.getElem?_set, List.getElem?_set, rv_get xs t m hm]
    simp only [List.length_set, rv_len]
    by_cases h1 : xs.length - 1 - t = m
    · rw [if_pos h1, if_pos (by omega), if_pos (by omega)]
      have : xs.length - 1 - m = t := by omega
      rw [this]; simp
    · rw [if_neg h1]
      by_cases h2 : t = m
      · rw [if_pos h2, if_pos (by omega), if_pos (by omega), h2]; simp
      · rw [if_neg h2]
        by_cases h3 : m < t ∨ xs.length ≤ m + t
        · rw [if_pos h3, if_pos (by omega)]
        · rw [if_neg h3, if_neg (by omega)]
  · rw [List.getElem?_eq_none (by simpa [rv_len] using hm), List.getElem?_eq_none (by rw [rv_len]; exact hm)]

set_option maxHeartbeats 1000000 in
theorem reverse (A : Option Addr) (n c base : Nat) (xs : List Int) (w : World) (hm : n ≤ 17592186044416) (h : Owned w base (.slice A n c) xs) :
    Calls Try.prog 91 #[.slice A n c] w fun e w' => e = .returned (.tuple #[]) ∧ Owned w' base (.slice A n c) xs.reverse ∧ Below base w w' := by
  have hn : xs.length = n := by obtain ⟨A', c', e⟩ := h.form; cases e; rfl
  have L := Lib.hid hn
  rw [← rv_zero xs] at h
  clear hn
  go_enter Try.func91, Try.ntmps91
  go_wp2
  go_loopw [2, 3] (fun i j wr => ∃ (t : Nat) (jj : Int), (2 * t ≤ n + 1) ∧ i = .int .i64 t ∧ jj = (n : Int) - 1 - t ∧ j = .int .i64 jj ∧ Owned wr base (.slice A n c) (rv xs t) ∧ Below base w wr) (fun i _ _ => n - (intOf i).toNat)
  case atStart => exact ⟨0, _, by omega, rfl, by simp, rfl, h, Below.refl _ _⟩
  case round =>
    clear h
    obtain ⟨t, jj, ht, rfl, hjj, rfl, hown, hbr⟩ := hrel
    by_cases hlt : 2 * t + 1 < n
    · obtain ⟨q, hq⟩ : ∃ q : Nat, q = n - 1 - t := ⟨_, rfl⟩
      obtain rfl : jj = (q : Int) := by omega
      have hqn : q < n := by omega
      have htq : t < q := by omega
      have htn : t < n := by omega
      obtain ⟨g, hA, hg1, hg2, hfr⟩ := hown.head (by omega)
      subst hA
      have hI := hown.ints (by rw [rv_len, L.out]; exact hm)
      obtain ⟨g', o', e, _, hc1⟩ := hI.at_ (k := t) (by omega)
      cases e
      obtain ⟨g', o', e, _, hc2⟩ := hI.at_ (k := q) (by omega)
      cases e
      have hst := (hown.stored t (xs[q]?.getD 0)).stored q (xs[t]?.getD 0)
      have hstep := rv_step xs t (by rw [L.out]; exact hlt)
      have h1 := rv_lo xs t (by rw [L.out]; exact hlt)
      have h2 := rv_hi xs t (by rw [L.out]; exact hlt)
      rw [L.out, ← hq] at hstep h2
      rw [h1, Nat.zero_add] at hc1
      rw [h2, Nat.zero_add] at hc2
      rw [hstep] at hst
      have HST := Lib.hid hst
      have HQ := Lib.hid hq
      have f1 := hfr t
      have f2 := hfr q
      clear hstep h1 h2 hI hfr hst hq hjj hown
      go_wp2
      go_region
      go_wp2
      go_roundw
      case rel => exact ⟨t + 1, _, by omega, by go_num, by have := HQ.out; omega, rfl, HST.out, ((hbr.setCell (by exact hg1) _).setCell (by exact hg1) _).drew⟩
      case measure => simp [intOf]; omega
    · have hend := Lib.hid (rv_end xs t (by rw [L.out]; omega))
      have hge : jj ≤ (t : Int) := by omega
      clear hjj
      go_wp2
      go_end0
      exact ⟨rfl, by rw [← hend.out]; exact hown, hbr⟩
end Go.Proofs.Ythjnghldedfdoaa
end

section
/- The access word of a pair. -/
namespace Go.Proofs.Ythjnghldedfdoaa
open Go.RowKit

theorem getO_at {E : List Ent} {k : Nat} (h : k < E.length) : (E.map cellsO).getD k [] = cellsO (E.getD k Ent.zero) := by
  rw [List.getD_eq_getElem?_getD, List.getD_eq_getElem?_getD, List.getElem?_map, List.getElem?_eq_getElem h]; rfl
theorem getL_at {E : List Ent} {k : Nat} (h : k < E.length) : (E.map cellsL).getD k [] = cellsL (E.getD k Ent.zero) := by
  rw [List.getD_eq_getElem?_getD, List.getD_eq_getElem?_getD, List.getElem?_map, List.getElem?_eq_getElem h]; rfl
set_option maxHeartbeats 2000000 in
set_option maxRecDepth 100000 in
theorem daccess {w : World} {base g n m s t : Nat} {E : List Ent} {A B : Option Addr} {c d gm : Nat} (h : Disc w base g E A B c d gm) (hE : Ens n m s t E) {k : Nat} (hk : k < E.length) (hn : E.length < 1099511627776) :
    Calls Try.prog 79 #[.pointer (some ⟨g, 0, none⟩), .int .i64 k] w fun r w' => ∃ A' c', r = .returned (.slice A' (E.getD k Ent.zero).w.length c') ∧ Owned w' w.heap.size (.slice A' (E.getD k Ent.zero).w.length c') (E.getD k Ent.zero).w ∧ Below w.heap.size w w' := by
  obtain ⟨W, hW⟩ : ∃ W, W = (E.getD k Ent.zero).w := ⟨_, rfl⟩
  rw [← hW]
  have hwl := hE.wl k hk
  rw [← hW] at hwl
  have HW := Lib.hid hW
  have HD := Lib.hid (fun (W : World) (hb : Below w.heap.size w W) => h.kept hb)
  have HE := Lib.hid hE
  clear hW hE
  go_enter Try.func79, Try.ntmps79
  go_wp2_with fail
  go_loopw [1, 5] (fun v1 v5 wr => ∃ (q : Nat) (A' : Option Addr) (c' : Nat) (l : List Int), q ≤ k ∧ v1 = .int .i64 q ∧ v5 = .slice A' l.length c' ∧ W = (E.getD q Ent.zero).w ++ l.reverse ∧ l.length + q ≤ k ∧ Owned wr w.heap.size (.slice A' l.length c') l ∧ Below w.heap.size w wr) (fun v1 _ _ => (intOf v1).toNat)
  case atStart => exact ⟨k, none, 0, [], Nat.le_refl _, rfl, rfl, by rw [HW.out]; simp, by simp, Owned.nil _ _, Below.refl _ _⟩
  case round =>
    obtain ⟨q, A', c', l, hq, rfl, rfl, hWe, hlq, hown, hbr⟩ := hrel
    have HWE := Lib.hid hWe
    have hDr := HD.out wr hbr
    obtain ⟨k0, k1, k2, _⟩ := hDr.cells
    have HBR := Lib.hid hbr
    have HDR := Lib.hid hDr
    clear hWe hbr hDr
    by_cases h0 : 0 < q
    · have hqE : q < E.length := by omega
      obtain ⟨bj, bw⟩ := HE.out.bk q h0 hqE
      have BW := Lib.hid bw
      obtain ⟨gb, cb, eb, _, hgb, _, hat⟩ := HDR.out.org.at_ (by rw [List.length_map]; omega)
      rw [List.length_map] at eb hat
      injection eb with eb _ _
      subst eb
      have x0 : wr.cell? ⟨gb, q * 2, none⟩ = some (.int .i64 ((E.getD q Ent.zero).j : Nat)) := by
        have := hat q 0 hqE (by decide)
        rw [getO_at hqE] at this
        exact this
      have x1 : wr.cell? ⟨gb, q * 2 + 1, none⟩ = some (.int .i64 ((E.getD q Ent.zero).x : Nat)) := by
        have := hat q 1 hqE (by decide)
        rw [getO_at hqE] at this
        exact this
      obtain ⟨A2, c2, w1, hr, ho, hb1, hk1⟩ := run_append_one hown ((E.getD q Ent.zero).x : Nat) HBR.out.size (by omega)
      have hb2 := HBR.out.trans hb1
      have hD1 := HD.out w1 hb2
      obtain ⟨j0, j1, j2, _⟩ := hD1.cells
      have y0 : w1.cell? ⟨gb, q * 2, none⟩ = some (.int .i64 ((E.getD q Ent.zero).j : Nat)) := by
        obtain ⟨gb', cb', eb', _, _, _, hat'⟩ := hD1.org.at_ (by rw [List.length_map]; omega)
        injection eb' with eb' _ _
        cases eb'
        have := hat' q 0 (by rw [List.length_map]; exact hqE) (by decide)
        rw [getO_at hqE] at this
        exact this
      have HO := Lib.hid ho
      have HB2 := Lib.hid hb2
      clear hat hD1 ho hb2 hb1 hk1 bw hown
      generalize hj : (E.getD q Ent.zero).j = j at *
      generalize hx : (E.getD q Ent.zero).x = x at *
      have hql : (q : Int) < (E.length : Int) := by omega
      have hq0 : (0 : Int) ≤ (q : Int) := by omega
      have t0 : decide ((0 : Int) < (q : Int)) = true := decide_eq_true (by omega)
      go_wp2_with (at_builtin; refine Lib.wpList_append_run _ rfl _ _ _ _ rfl _ _ rfl rfl _ _ hr ?_)
      go_roundw
      case rel => exact ⟨j, A2, c2, l ++ [(x : Int)], by omega, rfl, by rw [List.length_append]; rfl, by rw [HWE.out, BW.out, List.reverse_append, List.append_assoc]; rfl, by rw [List.length_append]; simp; omega, by rw [List.length_append]; exact HO.out, HB2.out⟩
      case measure => simp [intOf]; omega
    · obtain rfl : q = 0 := by omega
      have e1 : W = l.reverse := by rw [HWE.out, HE.out.z.2.2, List.nil_append]
      have E1 := Lib.hid e1
      have t0 : decide ((0 : Int) < ((0 : Nat) : Int)) = false := by decide
      clear e1
      go_wp2_with fail
      refine (reverse _ _ _ _ _ _ (by omega) hown).mono ?_
      rintro e w1 ⟨rfl, ho, hb⟩
      go_wp2_with fail
      go_ret
      have : W.length = l.length := by rw [E1.out, List.length_reverse]
      rw [this]
      exact ⟨A', c', rfl, by rw [E1.out]; exact ho, HBR.out.trans hb⟩
end Go.Proofs.Ythjnghldedfdoaa
end

section
/- Towards begin of a discovery: a map literal's first key; cells behind allocs, draws and the map's growth. -/
namespace Go.Proofs.Ythjnghldedfdoaa
open Go.RowKit

theorem NumIs.empty {k : TypeId} {w : World} {b : Nat} (h : w.heap[b]? = some (.map #[] 0)) : NumIs k w b [] := by
  have hlt := heap_lt h
  obtain ⟨W0, h0⟩ : ∃ W0 : World, W0.heap.size = b := ⟨{ w with heap := w.heap.extract 0 b }, by simp; omega⟩
  have h1 := NumIs.made k W0
  rw [h0] at h1
  refine h1.at_ (h.trans ?_)
  have := heap_alloc_new W0 (.map #[] 0)
  rw [h0] at this
  exact this.symm
/-- A map literal's first key at a step of a region that draws. -/
theorem step_ins {ops : Array Oper} {o : Oper} {a : Act} {w : World} {K : Act → World → Prop} {Q : Exit → Act → World → Prop} {E : Prop} (hgd : o.guard = none) (m x v : Operand)
    (ho : o.op = .insert 117 m x v) (b p q : Nat) (hm : a.eval m = .map (some b)) (hx : a.eval x = .agg #[.int .i64 p, .int .i64 q]) (hv : a.eval v = .int .i64 0)
    (hp : p ≤ 4611686018427387904) (hq : q ≤ 4611686018427387904) (hb : w.heap[b]? = some (.map #[] 0)) (h : ∀ w', NumIs 82 w' b [[(p : Int), (q : Int)]] → w.grownBy w' (some b) → K (a.put o.dst undef) w') :
    if Region.wanted o (yielded ops a.tmps) = true then Oper.wp Try.prog o a w K Q else E := by
  have hw : Region.wanted o (yielded ops a.tmps) = true := by simp [Region.wanted, hgd]
  rw [if_pos hw]
  obtain ⟨w', hrun, hN, hg⟩ := (NumIs.empty (k := 82) hb).put keyT_pair (isK_pair hp hq) (by simp) (by simp)
  have hrun : (Instr.mapUpdate 117 (.map (some b)) (.agg #[.int .i64 p, .int .i64 q]) (.int .i64 0)).run Try.prog w = .ok () w' := hrun
  unfold Oper.wp
  simp [execOp, ho, hm, hx, hv, hrun, Result.andThen]
  exact h w' hN hg
open Classical in
theorem put_all (p q : Nat) (hp : p ≤ 4611686018427387904) (hq : q ≤ 4611686018427387904) : ∃ PUT : World → Nat → World, ∀ W b, W.heap[b]? = some (.map #[] 0) → (Instr.mapUpdate 117 (.map (some b)) (.agg #[.int .i64 p, .int .i64 q]) (.int .i64 0)).run Try.prog W = .ok () (PUT W b) ∧ NumIs 82 (PUT W b) b [[(p : Int), (q : Int)]] ∧ W.grownBy (PUT W b) (some b) := by
  refine ⟨fun W b => if h : W.heap[b]? = some (.map #[] 0) then Classical.choose ((NumIs.empty (k := 82) h).put keyT_pair (isK_pair hp hq) (by simp) (by simp)) else W, fun W b h => ?_⟩
  simp only [dif_pos h]
  exact Classical.choose_spec ((NumIs.empty (k := 82) h).put keyT_pair (isK_pair hp hq) (by simp) (by simp))
theorem cell_drew {w : World} {p : Addr} {x : Value} (h : w.cell? p = some x) : w.drew.cell? p = some x := h
theorem cell_alloc {w : World} {p : Addr} {x : Value} (o : Obj) (h : w.cell? p = some x) : (w.alloc o).cell? p = some x := ((alloc_below w o).cell (World.block_lt_of_cell? w _ h)).trans h
theorem cell_grown {w w' : World} {b : Nat} {p : Addr} {x : Value} (hg : w.grownBy w' (some b)) (h : w.cell? p = some x) (hn : p.block ≠ b) : w'.cell? p = some x := by
  rw [hg.cell_far _ (World.block_lt_of_cell? w _ h) (by intro e; injection e with e; exact hn e)]
  exact h
end Go.Proofs.Ythjnghldedfdoaa
end

section
/- begin: the discovery of one pair. -/
namespace Go.Proofs.Ythjnghldedfdoaa
open Go.RowKit Go.ChangeMaps

/-- Block b is an empty map. -/
def EmpM (W : World) (b : Nat) : Prop := W.heap[b]? = some (.map #[] 0)
theorem EmpM.new {W : World} {b : Nat} (h : W.heap.size = b) : EmpM (W.alloc (.map #[] 0)) b := by subst h; exact heap_alloc_new _ _
theorem EmpM.alloc {W : World} {b : Nat} (h : EmpM W b) (o : Obj) : EmpM (W.alloc o) b := ((alloc_below W o).block b (heap_lt h)).trans h
theorem EmpM.alloc_iff {W : World} {b : Nat} (o : Obj) (h : b < W.heap.size) : EmpM (W.alloc o) b ↔ EmpM W b := by
  unfold EmpM
  rw [(alloc_below W o).block b h]
theorem EmpM.drew {W : World} {b : Nat} (h : EmpM W b) : EmpM W.drew b := h
theorem put_one (p q : Nat) (hp : p ≤ 4611686018427387904) (hq : q ≤ 4611686018427387904) (W : World) (b : Nat) (h : EmpM W b) :
    ∃ o, (Instr.mapUpdate 117 (.map (some b)) (.agg #[.int .i64 p, .int .i64 q]) (.int .i64 0)).run Try.prog W = .ok () (setBlock W b o) ∧ NumIs 82 (setBlock W b o) b [[(p : Int), (q : Int)]] := by
  have hE := NumIs.empty (k := 82) h
  obtain ⟨l, hl⟩ := isK_pair hp hq
  obtain ⟨w', r1, n1, g1⟩ := hE.put keyT_pair ⟨l, hl⟩ (by simp) (by simp)
  obtain ⟨_, _, _, D, ⟨es, ck, hb, F, hs, _⟩, _⟩ := hE
  obtain ⟨es', ck', r2, _⟩ := Maps.fit_store (R' := plainElem Try.prog 3) keyT_pair.law keyT_pair.und hb F (Nat.lt_of_le_of_lt hs (by unfold maxLen; simp)) (fun _ _ _ _ hz => hz) hl (plainElem_i64 (a := 0) (by omega))
  have e : w' = setBlock W b (.map es' ck') := by
    have h1 : (Instr.mapUpdate 117 (.map (some b)) (kv [(p : Int), (q : Int)]) (.int .i64 0)).run Try.prog W = .ok () w' := r1
    have h2 : (Instr.mapUpdate 117 (.map (some b)) (kv [(p : Int), (q : Int)]) (.int .i64 0)).run Try.prog W = .ok () (setBlock W b (.map es' ck')) := r2
    rw [h1] at h2
    injection h2
  subst e
  exact ⟨_, r1, n1⟩
theorem setBlock_other {W : World} {b g : Nat} (o : Obj) (h : g ≠ b) : (setBlock W b o).heap[g]? = W.heap[g]? := by
  show (W.heap.setIfInBounds b o)[g]? = W.heap[g]?
  rw [Array.getElem?_setIfInBounds_ne (Ne.symm h)]
open Classical in
/-- The first key of a map of the call's own, at any world. -/
theorem put_ex (p q : Nat) (hp : p ≤ 4611686018427387904) (hq : q ≤ 4611686018427387904) : ∃ PUT : World → Nat → World,
    (∀ W b, EmpM W b → (Instr.mapUpdate 117 (.map (some b)) (.agg #[.int .i64 p, .int .i64 q]) (.int .i64 0)).run Try.prog W = .ok () (PUT W b)) ∧
    (∀ W b, EmpM W b → NumIs 82 (PUT W b) b [[(p : Int), (q : Int)]]) ∧
    (∀ W b, (PUT W b).heap.size = W.heap.size) ∧ (∀ W b g, g ≠ b → (PUT W b).heap[g]? = W.heap[g]?) ∧
    (∀ W b (a : Addr), a.block ≠ b → (PUT W b).cell? a = W.cell? a) ∧ (∀ W b (a : Addr), a.block ≠ b → (PUT W b).frozen? a = W.frozen? a) ∧
    (∀ B W0 W b, Below B W0 W → B ≤ b → B ≤ W.heap.size → Below B W0 (PUT W b)) := by
  have hblk : ∀ (W : World) (b g : Nat) (o : Obj), g ≠ b → (setBlock W b o).heap[g]? = W.heap[g]? := fun W b g o h => setBlock_other o h
  have hsz : ∀ (W : World) (b : Nat) (o : Obj), (setBlock W b o).heap.size = W.heap.size := fun W b o => by simp [setBlock]
  refine ⟨fun W b => if h : EmpM W b then setBlock W b (Classical.choose (put_one p q hp hq W b h)) else W, fun W b h => ?_, fun W b h => ?_, fun W b => ?_, fun W b g h => ?_, fun W b a h => ?_, fun W b a h => ?_, fun B W0 W b h1 h2 h3 => ?_⟩
  · simp only [dif_pos h]; exact (Classical.choose_spec (put_one p q hp hq W b h)).1
  · simp only [dif_pos h]; exact (Classical.choose_spec (put_one p q hp hq W b h)).2
  · by_cases h : EmpM W b
    · simp only [dif_pos h]; exact hsz _ _ _
    · simp only [dif_neg h]
  · by_cases h' : EmpM W b
    · simp only [dif_pos h']; exact hblk _ _ _ _ h
    · simp only [dif_neg h']
  · by_cases h' : EmpM W b
    · simp only [dif_pos h']; exact World.cell?_of_block (hblk _ _ _ _ h)
    · simp only [dif_neg h']
  · by_cases h' : EmpM W b
    · simp only [dif_pos h']; exact World.frozen?_of_block (hblk _ _ _ _ h)
    · simp only [dif_neg h']
  · by_cases h' : EmpM W b
    · simp only [dif_pos h']
      refine h1.grown (row := some b) ⟨rfl, rfl, rfl, by rw [hsz]; exact Nat.le_refl _, fun g _ hg => hblk _ _ _ _ fun e => hg (by rw [e])⟩ h3 (fun k hk => by injection hk with hk; omega)
    · simp only [dif_neg h']; exact h1
def PBk (z p q : Nat) (W : World) : Prop := W.cell? ⟨z, 0, none⟩ = some (.int .i64 p) ∧ W.cell? ⟨z, 1, none⟩ = some (.int .i64 q)
theorem PBk.drew {z p q : Nat} {W : World} (h : PBk z p q W) : PBk z p q W.drew := h
theorem PBk.alloc {z p q : Nat} {W : World} {o : Obj} (h : PBk z p q W) : PBk z p q (W.alloc o) := ⟨cell_alloc o h.1, cell_alloc o h.2⟩
theorem PBk.set {z p q : Nat} {W : World} {g j : Nat} (v : Value) (h : g ≠ z) (k : PBk z p q W) : PBk z p q (W.setCell ⟨g, j, none⟩ v) :=
  ⟨(World.cell?_setCell_far _ _ _ _ h).trans k.1, (World.cell?_setCell_far _ _ _ _ h).trans k.2⟩
/-- Block g holds these cells. -/
def BlkN (W : World) (g : Nat) (C : Array Value) (t : TypeId) : Prop := W.heap[g]? = some (.cells C t (0, 0))
section
variable {W : World} {g : Nat} {C : Array Value} {t : TypeId}
theorem BlkN.out (h : BlkN W g C t) : W.heap[g]? = some (.cells C t (0, 0)) := h
theorem BlkN.new (h : W.heap.size = g) : BlkN (W.alloc (.cells C t)) g C t := by subst h; exact heap_alloc_new _ _
theorem BlkN.alloc {o : Obj} (h : BlkN W g C t) : BlkN (W.alloc o) g C t := ((alloc_below W o).block g (heap_lt h)).trans h
theorem BlkN.drew (h : BlkN W g C t) : BlkN W.drew g C t := h
theorem BlkN.set {g' j : Nat} (v : Value) (hn : g ≠ g') (h : BlkN W g C t) : BlkN (W.setCell ⟨g', j, none⟩ v) g C t := (heap_setCell_other W ⟨g', j, none⟩ g v hn).trans h
theorem BlkN.set3 {a b c x y u : Value} (h : BlkN W g #[a, b, c] t) : BlkN (((W.setCell ⟨g, 0, none⟩ x).setCell ⟨g, 1, none⟩ y).setCell ⟨g, 2, none⟩ u) g #[x, y, u] t :=
  heap_setCell_same _ g 2 _ _ u (heap_setCell_same _ g 1 _ _ y (heap_setCell_same W g 0 _ _ x h))
theorem BlkN.rws {base s : Nat} {e : TypeId} {l : List Value} (h : BlkN W g l.toArray e) (hb : base ≤ g) (hl : l.length = s) : Rws W base e s (.slice (some ⟨g, 0, none⟩) 1 1) [l] :=
  ⟨fun x hx => by simp at hx; rw [hx, hl], by simp [hl], .inr ⟨g, 1, l.toArray, rfl, hb, h, by simp, by decide, by simp [hl], by simp [← hl]⟩⟩
theorem NumIs.drew {k : TypeId} {ks : List (List Int)} (h : NumIs k W g ks) : NumIs k W.drew g ks := h.drewN 1
theorem NumIs.alloc {k : TypeId} {ks : List (List Int)} {o : Obj} (h : NumIs k W g ks) : NumIs k (W.alloc o) g ks := h.below (alloc_below W o) h.lt
theorem NumIs.set {k : TypeId} {ks : List (List Int)} {g' j : Nat} (v : Value) (hn : g ≠ g') (h : NumIs k W g ks) : NumIs k (W.setCell ⟨g', j, none⟩ v) g ks := h.setCell (a := ⟨g', j, none⟩) hn v
end
theorem below_drew1 {z : Nat} {w W : World} (h : Below z w W) : Below z w W.drew := below_drewN h 1
theorem below_alloc1 {z : Nat} {w W : World} {o : Obj} (hz : z ≤ W.heap.size) (h : Below z w W) : Below z w (W.alloc o) := h.alloc hz o
theorem below_set1 {z g j : Nat} {w W : World} {v : Value} (hz : z ≤ g) (h : Below z w W) : Below z w (W.setCell ⟨g, j, none⟩ v) := h.setCell (p := ⟨g, j, none⟩) hz v
/-- How begin ends. -/
theorem dbegin_end {z p q ga gb gm : Nat} {v0 v1 v3 v5 v8 v9 v10 : Value} {w W : World} (h1 : BlkN W (z + 1) #[.slice (some ⟨ga, 0, none⟩) 1 1, .slice (some ⟨gb, 0, none⟩) 1 1, .map (some gm)] 119)
    (h2 : BlkN W ga #[.int .i64 p, .int .i64 q] 82) (h3 : BlkN W gb #[.int .i64 0, .int .i64 0] 124) (h4 : NumIs 82 W gm [[(p : Int), (q : Int)]]) (ha : z ≤ ga) (hb : z ≤ gb) (hm : z ≤ gm) (hB : Below z w W) :
    bodyPost Try.prog Try.f78 (fun e w' => ∃ A B gm, e = .returned (.agg #[.slice A 1 1, .slice B 1 1, .map (some gm)]) ∧
      Rws w' z 82 2 (.slice A 1 1) [[.int .i64 p, .int .i64 q]] ∧ Rws w' z 124 2 (.slice B 1 1) [[.int .i64 0, .int .i64 0]] ∧ NumIs 82 w' gm [[(p : Int), (q : Int)]] ∧ z ≤ gm ∧ Below z w w') .ret
      { tmps := #[v0, v1, .pointer (some ⟨z + 1, 0, none⟩), v3, .slice (some ⟨ga, 0, none⟩) 1 1, v5, .slice (some ⟨gb, 0, none⟩) 1 1, .map (some gm), v8, v9, v10], defers := [] } W :=
  bodyPost_ret (results_cell_row (by rfl) _ _ (z + 1) 119 _ (0, 0) _ rfl h1 Try.underlying119 rfl (by kernel_rfl)) rfl
    ⟨_, _, gm, rfl, h2.rws (l := [.int .i64 p, .int .i64 q]) ha rfl, h3.rws (l := [.int .i64 0, .int .i64 0]) hb rfl, h4, hm, hB⟩
set_option maxHeartbeats 8000000 in
set_option maxRecDepth 100000 in
theorem dbegin (p q : Nat) (w : World) (hp : p ≤ 4611686018427387904) (hq : q ≤ 4611686018427387904) :
    Calls Try.prog 78 #[.agg #[.int .i64 p, .int .i64 q]] w fun e w' => ∃ A B gm, e = .returned (.agg #[.slice A 1 1, .slice B 1 1, .map (some gm)]) ∧
      Rws w' w.heap.size 82 2 (.slice A 1 1) [[.int .i64 p, .int .i64 q]] ∧ Rws w' w.heap.size 124 2 (.slice B 1 1) [[.int .i64 0, .int .i64 0]] ∧ NumIs 82 w' gm [[(p : Int), (q : Int)]] ∧ w.heap.size ≤ gm ∧ Below w.heap.size w w' := by
  obtain ⟨PUT, hrun, hnum, hsize, hblock, hcell, hfroz, hbel⟩ := put_ex p q hp hq
  obtain ⟨w0, hw0⟩ : ∃ w0, w0 = (w.alloc (.cells #[.int .i64 p, .int .i64 q] 82)).alloc (.cells #[.slice none 0 0, .slice none 0 0, .map none] 119) := ⟨_, rfl⟩
  have hb : Below w.heap.size w w0 := by rw [hw0]; exact (alloc_below _ _).alloc (by simp) _
  have hz : w0.heap.size = w.heap.size + 2 := by rw [hw0]; simp
  have p1 : w0.heap[w.heap.size]? = some (.cells #[.int .i64 p, .int .i64 q] 82 (0, 0)) := by
    rw [hw0]
    exact ((alloc_below (w.alloc (.cells #[.int .i64 p, .int .i64 q] 82)) _).block _ (by simp)).trans (heap_alloc_new w _)
  have p2 : w0.heap[w.heap.size + 1]? = some (.cells #[.slice none 0 0, .slice none 0 0, .map none] 119 (0, 0)) := by
    rw [hw0]
    have := heap_alloc_new (w.alloc (.cells #[.int .i64 p, .int .i64 q] 82)) (.cells #[.slice none 0 0, .slice none 0 0, .map none] 119)
    simpa using this
  have HW := Lib.hid hw0
  have HB := Lib.hid hb
  have HNUM := Lib.hid hnum
  have HBLK := Lib.hid (fun (W : World) (b g : Nat) (C : Array Value) (t : TypeId) (hn : g ≠ b) (h : BlkN W g C t) => show BlkN (PUT W b) g C t from (hblock W b g hn).trans h)
  have HBEL := Lib.hid hbel
  have HPUT := Lib.hid (fun (W : World) (b : Nat) (hne : w.heap.size ≠ b) (h : PBk w.heap.size p q W) => show PBk w.heap.size p q (PUT W b) from ⟨(hcell W b _ hne).trans h.1, (hcell W b _ hne).trans h.2⟩)
  have HP2 := Lib.hid (show BlkN w0 (w.heap.size + 1) _ _ from p2)
  have c0 := cell_of_row w0 w.heap.size 0 _ _ (0, 0) p1
  have c1 := cell_of_row w0 w.heap.size 1 _ _ (0, 0) p1
  have d0 := cell_of_row w0 (w.heap.size + 1) 0 _ _ (0, 0) p2
  have d1 := cell_of_row w0 (w.heap.size + 1) 1 _ _ (0, 0) p2
  have d2 := cell_of_row w0 (w.heap.size + 1) 2 _ _ (0, 0) p2
  have f0 := frozen_of_row w0 (w.heap.size + 1) 0 _ _ p2
  have f1 := frozen_of_row w0 (w.heap.size + 1) 1 _ _ p2
  have f2 := frozen_of_row w0 (w.heap.size + 1) 2 _ _ p2
  have m1 : ∀ (W : World) (b : Nat), W.heap.size = b → EmpM (W.alloc (.map #[] 0)) b := fun _ _ h => EmpM.new h
  have m2 : ∀ (W : World) (b : Nat) (o : Obj), b < W.heap.size → (EmpM (W.alloc o) b ↔ EmpM W b) := fun W b o h => EmpM.alloc_iff o h
  have m3 : ∀ (W : World) (b : Nat), EmpM W.drew b ↔ EmpM W b := fun _ _ => Iff.rfl
  have hmm := @run_makeMap Try.prog
  clear hw0 p1 p2 hb hnum hblock hbel
  go_enter Try.func78, Try.ntmps78
  go_wp2_with fail
  rw [← HW.out]
  have key : ∀ W : World, PBk w.heap.size p q W → W.cell? ⟨w.heap.size, 0, none⟩ = some (.int .i64 p) ∧ W.cell? ⟨w.heap.size, 1, none⟩ = some (.int .i64 q) := fun _ h => h
  have KEY := Lib.hid key
  have kz : PBk w.heap.size p q w0 := ⟨c0, c1⟩
  have KZ := Lib.hid kz
  clear key kz
  go_region_held3 (fun w' => w'.cell? ⟨w.heap.size, 0, none⟩ = some (.int .i64 p) ∧ w'.cell? ⟨w.heap.size, 1, none⟩ = some (.int .i64 q)) ((refine KEY.out _ ?_; repeat (first | (with_reducible exact KZ.out) | (with_reducible apply PBk.drew) | (with_reducible apply PBk.alloc) | (with_reducible apply HPUT.out _ _ (by omega)) | (with_reducible apply PBk.set _ (by omega))))) (fail)
  all_goals
    clear c0 c1 d0 d1 d2 f0 f1 f2 hmm hrun hcell hfroz
    go_wp2
    (try simp only [Exit.inBlock, Exit.then])
    refine dbegin_end ?_ ?_ ?_ ?_ (by omega) (by omega) (by omega) ?_
    · repeat (first | (with_reducible exact HP2.out) | (with_reducible apply BlkN.set3) | (with_reducible apply BlkN.drew) | (with_reducible apply BlkN.alloc) | (with_reducible apply HBLK.out _ _ _ _ _ (by omega)))
    · repeat (first | (with_reducible refine BlkN.new ?_; simp [hsize, hz]; done) | (with_reducible apply BlkN.drew) | (with_reducible apply BlkN.alloc) | (with_reducible apply HBLK.out _ _ _ _ _ (by omega)) | (with_reducible apply BlkN.set _ (by omega)))
    · repeat (first | (with_reducible refine BlkN.new ?_; simp [hsize, hz]; done) | (with_reducible apply BlkN.drew) | (with_reducible apply BlkN.alloc) | (with_reducible apply HBLK.out _ _ _ _ _ (by omega)) | (with_reducible apply BlkN.set _ (by omega)))
    · repeat (first | (with_reducible refine HNUM.out _ _ ?_) | (with_reducible refine EmpM.new ?_; simp [hz]; done) | (with_reducible apply EmpM.alloc) | (with_reducible apply EmpM.drew) | (with_reducible apply NumIs.drew) | (with_reducible apply NumIs.alloc) | (with_reducible apply NumIs.set _ (by omega)))
    · repeat (first | (with_reducible exact HB.out) | (with_reducible refine HBEL.out _ _ _ _ ?_ (by omega) (by simp [hz]; try omega)) | (with_reducible refine below_drew1 ?_) | (with_reducible refine below_alloc1 (by simp [hsize, hz]; try omega) ?_) | (with_reducible refine below_set1 (by omega) ?_))
end Go.Proofs.Ythjnghldedfdoaa
end
