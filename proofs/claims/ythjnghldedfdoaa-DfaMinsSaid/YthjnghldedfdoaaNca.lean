/- Lemmas of the proofs of this seat, of the parts Rvd7, Rpl7, Rps7, Rtw7, Rcp7, Rcm7, Rsh7, Duni. Conditions: none. -/
import Derived.Test.YthjnghldedfdoaaNad
import Derived.Test.YthjnghldedfdoaaNaa
import Derived.BigQuiet
import Derived.Test.YthjnghldedfdoaaNac
import Derived.Test.YthjnghldedfdoaaNae
import Derived.BigRegion
import Derived.Deep.RegionHeld3
import Derived.Test.YthjnghldedfdoaaNag
section
/- The reference's Valid of an automaton. -/
namespace Go.Proofs.Ythjnghldedfdoaa
open Go.RowKit

set_option maxHeartbeats 4000000 in
set_option maxRecDepth 100000 in
theorem rval7 (i st : Int) (A B : Option Addr) (n c m d : Nat) (nx : List (List Int)) (ac : List Bool) (w : World) (hx : Lists w A n nx) (ha : ac.length = m) (hm : m ≤ 17592186044416) :
    Calls Try.prog 19 #[.agg #[.int .i64 i, .int .i64 st, .slice A n c, .slice B m d]] w fun e w' => e = .returned (.int .i64 (vldD i st nx ac)) ∧ Below w.heap.size w w' := by
  have hb0 := alloc_below w (.cells #[.int .i64 i, .int .i64 st, .slice A n c, .slice B m d] 25)
  have hB := dfa_box w (.int .i64 i) (.int .i64 st) (.slice A n c) (.slice B m d)
  obtain ⟨w0, hw0⟩ : ∃ w0, w0 = w.alloc (.cells #[.int .i64 i, .int .i64 st, .slice A n c, .slice B m d] 25) := ⟨_, rfl⟩
  rw [← hw0] at hb0 hB
  have hz0 : w0.heap.size = w.heap.size + 1 := by rw [hw0]; simp
  have HW0 := Lib.hid hw0
  have HBX := Lib.hid (fun (W : World) (h : Below w0.heap.size w0 W) => hB.kept h (by omega))
  have HX := Lib.hid (fun (W : World) (h : Below w0.heap.size w0 W) => (hx.below hb0).below h)
  obtain ⟨k0, k1, k2, k3, _⟩ := hB.cells
  have HC0 := Lib.hid hB.cells
  have HB0 := Lib.hid hb0
  rw [HW0.out] at k0 k1 k2 k3
  have hn := hx.2.1
  have hnx := hx.1
  obtain ⟨V, hV⟩ : ∃ V, V = vldD i st nx ac := ⟨_, rfl⟩
  rw [← hV]
  have HV := Lib.hid hV
  clear hw0 hB hV hb0 hz0
  by_cases h1 : 1 ≤ i ∧ i ≤ 1024
  · by_cases h2 : n = 0
    · have HF := Lib.hid (show V = 19 by rw [HV.out, vldD_empty h1 (by omega)])
      have t1 : ((n : Int) == 0) = true := by rw [h2]; rfl
      have HS := Lib.hid (fun W => rsize i true ⟨fun _ => h1, fun _ => rfl⟩ W)
      clear h1 h2
      go_enter Try.func19, Try.ntmps19
      go_wp2_with fail
      rw [← HW0.out]
      refine (HS.out _).mono ?_
      rintro e w1 ⟨rfl, rfl⟩
      go_wp2_with fail
      go_ret
      exact ⟨by rw [HF.out]; rfl, HB0.out⟩
    · have t1 : ((n : Int) == 0) = false := by rw [beq_eq_false_iff_ne]; omega
      by_cases h3 : 128 < n
      · have HF := Lib.hid (show V = 11 by rw [HV.out, vldD_many h1 (by omega)])
        have t2 : decide ((128 : Int) < (n : Int)) = true := decide_eq_true (by omega)
        have HS := Lib.hid (fun W => rsize i true ⟨fun _ => h1, fun _ => rfl⟩ W)
        clear h1 h2 h3
        go_enter Try.func19, Try.ntmps19
        go_wp2_with fail
        rw [← HW0.out]
        refine (HS.out _).mono ?_
        rintro e w1 ⟨rfl, rfl⟩
        go_wp2_with fail
        go_ret
        exact ⟨by rw [HF.out]; rfl, HB0.out⟩
      · have t2 : decide ((128 : Int) < (n : Int)) = false := decide_eq_false (by omega)
        by_cases h4 : 0 ≤ st ∧ st < (n : Int)
        · have s1 : decide (st < 0) = false := decide_eq_false (by omega)
          have s2 : decide ((n : Int) ≤ st) = false := decide_eq_false (by omega)
          by_cases h5 : m = n
          · subst h5
            have HF := Lib.hid (show V = fstE (fun s => rowD i nx.length (nx.getD s [])) nx.length by rw [HV.out, vldD_rows h1 (by omega) (by omega) (by rw [hnx]; exact h4) (by omega)])
            have t3 : ((m : Int) != (m : Int)) = false := by simp
            have HS := Lib.hid (fun W => rsize i true ⟨fun _ => h1, fun _ => rfl⟩ W)
            clear h2 h1
            go_enter Try.func19, Try.ntmps19
            go_wp2_with fail
            rw [← HW0.out]
            refine (HS.out _).mono ?_
            rintro e w1 ⟨rfl, rfl⟩
            clear k0 k1 k2 k3
            obtain ⟨k0, k1, k2, k3, _⟩ := HC0.out
            go_wp2_with fail
            clear t1 t2 t3 s1 s2 k0 k1 k2 k3 h4
            go_loopw [4] (fun v38 wr => ∃ s : Nat, s ≤ m ∧ v38 = .int .i64 s ∧ (∀ t, t < s → rowD i nx.length (nx.getD t []) = 0) ∧ Below w0.heap.size w0 wr) (fun v38 _ => m - (intOf v38).toNat)
            case atStart => exact ⟨0, Nat.zero_le _, rfl, fun t h => absurd h (by omega), Below.refl _ _⟩
            case round =>
              obtain ⟨s, hs, rfl, hall, hbr⟩ := hrel
              have HALL := Lib.hid hall
              have HBR := Lib.hid hbr
              obtain ⟨k0, k1, k2, k3, _⟩ := (HBX.out wr hbr).cells
              clear hall hbr
              by_cases hlt : s < m
              · obtain ⟨gA, oA, A1, nA, cA, eA, _, hdA, hrA⟩ := (HX.out wr HBR.out).at_ hlt
                subst eA
                have hl := hrA.1
                have hnA := hrA.2.1
                have HRW := Lib.hid (show ∀ x : Int, ¬ x = 0 → rowD i nx.length (nx.getD s []) = x → V = x from fun x h1 h2 => by
                  rw [HF.out, fstE_bad (f := fun s => rowD i nx.length (nx.getD s [])) HALL.out (by show ¬ rowD i nx.length (nx.getD s []) = 0; rw [h2]; exact h1) (by omega)]
                  exact h2)
                by_cases hi : (nA : Int) = i
                · subst hi
                  have t4 : ((nA : Int) != (nA : Int)) = false := by simp
                  have HOK := Lib.hid (fun (h : RowG (nx.length : Int) (nx.getD s []) nA) => show ∀ t, t < s + 1 → rowD (nA : Int) nx.length (nx.getD t []) = 0 from fun t ht => by
                    by_cases e : t = s
                    · subst e; exact rowD_ok (by rw [hl]) (by rw [hl]; exact h)
                    · exact HALL.out t (by omega))
                  have HBAD := Lib.hid (fun (k : Nat) (hk : k < nA) (h : ¬ (0 ≤ (nx.getD s []).getD k 0 ∧ (nx.getD s []).getD k 0 < (nx.length : Int))) => HRW.out 2 (by decide) (rowD_bad (by rw [hl]) (by rw [hl]; exact hk) h))
                  have HI := Lib.hid (fun (W : World) (h : Below wr.heap.size wr W) => hrA.below h)
                  have HLN := Lib.hid hl
                  have HDA := Lib.hid (fun (W : World) (h : Below wr.heap.size wr W) => (h.cell (p := ⟨gA, oA + s, none⟩) (by assumption)).trans hdA)
                  generalize nx.getD s [] = r at HI HOK HBAD HLN
                  clear hrA hl
                  go_wp2_with fail
                  go_region
                  go_wp2_with fail
                  clear t4 hdA
                  go_loopw [5] (fun v49 wq => ∃ k : Nat, k ≤ nA ∧ v49 = .int .i64 k ∧ RowG (nx.length : Int) r k ∧ Below wr.heap.size wr wq) (fun v49 _ => nA - (intOf v49).toNat)
                  case atStart => exact ⟨0, Nat.zero_le _, rfl, RowG.zero _ _, below_drewN (Below.refl _ _) 1⟩
                  case round =>
                    obtain ⟨k, hk, rfl, hrg, hbq⟩ := hrel
                    have HRG := Lib.hid hrg
                    have HBQ := Lib.hid hbq
                    have hdA := HDA.out _ hbq
                    clear hrg hbq
                    by_cases hlk : k < nA
                    · obtain ⟨g2, o2, e2, _, x2⟩ := (HI.out _ HBQ.out).at_ hlk
                      subst e2
                      have HB := Lib.hid (HBAD.out k hlk)
                      have HN := Lib.hid (fun h1 h2 => HRG.out.succ (k := k) h1 h2)
                      have hbw := HBR.out.trans (HBQ.out.mono HBR.out.size)
                      have HBW := Lib.hid hbw
                      clear k0 k1 k2 k3
                      obtain ⟨k0, k1, k2, k3, _⟩ := (HBX.out _ hbw).cells
                      generalize r.getD k 0 = y at x2 HB HN
                      clear hbw
                      by_cases hy : 0 ≤ y
                      · have y1 : decide (y < 0) = false := decide_eq_false (by omega)
                        by_cases hy2 : y < (m : Int)
                        · have y2 : decide ((m : Int) ≤ y) = false := decide_eq_false (by omega)
                          have HN2 := Lib.hid (HN.out hy (by rw [hnx]; exact hy2))
                          clear hy hy2
                          go_wp2_with fail
                          go_roundw
                          case rel => exact ⟨k + 1, by omega, by go_num, HN2.out, HBQ.out⟩
                          case measure => simp [intOf]; omega
                        · have y2 : decide ((m : Int) ≤ y) = true := decide_eq_true (by omega)
                          have HN2 := Lib.hid (HB.out (by rw [hnx]; exact fun h => hy2 h.2))
                          clear hy hy2
                          go_wp2_with fail
                          go_ret
                          exact ⟨by rw [HN2.out]; rfl, bt HB0.out HBW.out⟩
                      · have y1 : decide (y < 0) = true := decide_eq_true (by omega)
                        have HN2 := Lib.hid (HB.out (by rw [hnx]; exact fun h => hy h.1))
                        clear hy
                        go_wp2_with fail
                        go_ret
                        exact ⟨by rw [HN2.out]; rfl, bt HB0.out HBW.out⟩
                    · obtain rfl : k = nA := by omega
                      have HO2 := Lib.hid (HOK.out HRG.out)
                      have HB3 := Lib.hid (HBR.out.trans (HBQ.out.mono HBR.out.size))
                      clear k0 k1 k2 k3
                      obtain ⟨k0, k1, k2, k3, _⟩ := (HBX.out _ HB3.out).cells
                      go_wp2_with fail
                      go_roundw
                      case rel => exact ⟨s + 1, by omega, by go_num, HO2.out, HB3.out⟩
                      case measure => simp [intOf]; omega
                · have HN := Lib.hid (HRW.out 1 (by decide) (rowD_len (by rw [hl]; exact hi)))
                  have t4 : ((nA : Int) != i) = true := by simpa using hi
                  clear hi hl hrA
                  go_wp2_with fail
                  go_region
                  go_wp2_with fail
                  go_ret
                  exact ⟨by rw [HN.out]; rfl, bt HB0.out (below_drewN HBR.out 1)⟩
              · obtain rfl : s = m := by omega
                have HN := Lib.hid (show V = 0 by rw [HF.out]; exact fstE_ok fun t ht => HALL.out t (by omega))
                clear k0 k1 k2 k3
                go_wp2_with fail
                go_ret
                exact ⟨by rw [HN.out]; rfl, bt HB0.out HBR.out⟩
          · have HF := Lib.hid (show V = 1 by rw [HV.out, vldD_acc h1 (by omega) (by omega) (by rw [hnx]; exact h4) (by omega)])
            have t3 : ((m : Int) != (n : Int)) = true := by simpa using fun h => h5 (by omega)
            have HS := Lib.hid (fun W => rsize i true ⟨fun _ => h1, fun _ => rfl⟩ W)
            clear h2 h5 h1
            go_enter Try.func19, Try.ntmps19
            go_wp2_with fail
            rw [← HW0.out]
            refine (HS.out _).mono ?_
            rintro e w1 ⟨rfl, rfl⟩
            clear k0 k1 k2 k3
            obtain ⟨k0, k1, k2, k3, _⟩ := HC0.out
            go_wp2_with fail
            go_ret
            exact ⟨by rw [HF.out]; rfl, HB0.out⟩
        · have HF := Lib.hid (show V = 2 by rw [HV.out, vldD_start h1 (by omega) (by omega) (by rw [hnx]; exact h4)])
          have HS := Lib.hid (fun W => rsize i true ⟨fun _ => h1, fun _ => rfl⟩ W)
          clear h2 h1
          by_cases h5 : 0 ≤ st
          · have s1 : decide (st < 0) = false := decide_eq_false (by omega)
            have s2 : decide ((n : Int) ≤ st) = true := decide_eq_true (by omega)
            clear h4 h5
            go_enter Try.func19, Try.ntmps19
            go_wp2_with fail
            rw [← HW0.out]
            refine (HS.out _).mono ?_
            rintro e w1 ⟨rfl, rfl⟩
            clear k0 k1 k2 k3
            obtain ⟨k0, k1, k2, k3, _⟩ := HC0.out
            go_wp2_with fail
            go_ret
            exact ⟨by rw [HF.out]; rfl, HB0.out⟩
          · have s1 : decide (st < 0) = true := decide_eq_true (by omega)
            clear h4 h5
            go_enter Try.func19, Try.ntmps19
            go_wp2_with fail
            rw [← HW0.out]
            refine (HS.out _).mono ?_
            rintro e w1 ⟨rfl, rfl⟩
            clear k0 k1 k2 k3
            obtain ⟨k0, k1, k2, k3, _⟩ := HC0.out
            go_wp2_with fail
            go_ret
            exact ⟨by rw [HF.out]; rfl, HB0.out⟩
  · have HF := Lib.hid (show V = 2 by rw [HV.out, vldD_in h1])
    have HS := Lib.hid (fun W => rsize i false ⟨fun h => absurd h (by decide), fun h => absurd h h1⟩ W)
    clear h1
    go_enter Try.func19, Try.ntmps19
    go_wp2_with fail
    rw [← HW0.out]
    refine (HS.out _).mono ?_
    rintro e w1 ⟨rfl, rfl⟩
    go_wp2_with fail
    go_ret
    exact ⟨by rw [HF.out]; rfl, HB0.out⟩
end Go.Proofs.Ythjnghldedfdoaa
end

section
/- The reference's place of a pair in a list of pairs. -/
namespace Go.Proofs.Ythjnghldedfdoaa
open Go.RowKit

/-- A list of pairs of states in memory. -/
def Pr7 (w : World) (A : Option Addr) (n : Nat) (L : List (Nat × Nat)) : Prop :=
  L.length = n ∧ n ≤ 17592186044416 ∧ (0 < n → ∃ b, A = some ⟨b, 0, none⟩ ∧ b < w.heap.size ∧ ∀ k, k < n → w.cell? ⟨b, k * 2, none⟩ = some (.int .i64 (L.getD k (0, 0)).1) ∧ w.cell? ⟨b, k * 2 + 1, none⟩ = some (.int .i64 (L.getD k (0, 0)).2))
theorem Pr7.below {w w' : World} {A : Option Addr} {n : Nat} {L : List (Nat × Nat)} (h : Pr7 w A n L) (hb : Below w.heap.size w w') : Pr7 w' A n L :=
  ⟨h.1, h.2.1, fun h0 => by
    obtain ⟨b, e, hlt, hc⟩ := h.2.2 h0
    exact ⟨b, e, Nat.lt_of_lt_of_le hlt hb.size, fun k hk => ⟨(hb.cell (p := ⟨b, k * 2, none⟩) hlt).trans (hc k hk).1, (hb.cell (p := ⟨b, k * 2 + 1, none⟩) hlt).trans (hc k hk).2⟩⟩⟩
/-- The first place of a pair, or the length. -/
def ixP : List (Nat × Nat) → Nat × Nat → Nat
  | [], _ => 0
  | y :: L, x => if y = x then 0 else ixP L x + 1
theorem ixP_at : ∀ {L : List (Nat × Nat)} {x : Nat × Nat} {k : Nat}, k < L.length → (∀ j, j < k → L.getD j (0, 0) ≠ x) → L.getD k (0, 0) = x → ixP L x = k
  | [], _, _, hk, _, _ => by simp at hk
  | y :: L, x, 0, _, _, he => if_pos he
  | y :: L, x, k + 1, hk, hb, he => by
    have h0 : y ≠ x := hb 0 (by omega)
    unfold ixP
    rw [if_neg h0, ixP_at (L := L) (k := k) (by simpa using hk) (fun j hj => hb (j + 1) (by omega)) he]
theorem ixP_none : ∀ {L : List (Nat × Nat)} {x : Nat × Nat}, (∀ j, j < L.length → L.getD j (0, 0) ≠ x) → ixP L x = L.length
  | [], _, _ => rfl
  | y :: L, x, hb => by
    have h0 : y ≠ x := hb 0 (by simp)
    unfold ixP
    rw [if_neg h0, ixP_none (L := L) (fun j hj => hb (j + 1) (by simpa using hj))]
    rfl
set_option maxHeartbeats 2000000 in
set_option maxRecDepth 100000 in
theorem rplace7 (A : Option Addr) (n c : Nat) (L : List (Nat × Nat)) (p q : Nat) (w : World) (h : Pr7 w A n L) :
    Calls Try.prog 58 #[.slice A n c, .agg #[.int .i64 p, .int .i64 q]] w fun e w' => e = .returned (.int .i64 (ixP L (p, q) : Nat)) ∧ Below w.heap.size w w' := by
  obtain ⟨w0, hw0⟩ : ∃ w0, w0 = w.alloc (.cells #[.int .i64 p, .int .i64 q] 93) := ⟨_, rfl⟩
  have hb0 : Below w.heap.size w w0 := by rw [hw0]; exact alloc_below _ _
  have p1 : w0.heap[w.heap.size]? = some (.cells #[.int .i64 p, .int .i64 q] 93 (0, 0)) := by rw [hw0]; exact heap_alloc_new w _
  have HC := Lib.hid (fun (W : World) (hW : Below w0.heap.size w0 W) => show W.cell? ⟨w.heap.size, 0, none⟩ = some (.int .i64 p) ∧ W.cell? ⟨w.heap.size, 1, none⟩ = some (.int .i64 q) from And.intro ((hW.cell (p := ⟨w.heap.size, 0, none⟩) (heap_lt p1)).trans (cell_of_row w0 w.heap.size 0 _ _ (0, 0) p1)) ((hW.cell (p := ⟨w.heap.size, 1, none⟩) (heap_lt p1)).trans (cell_of_row w0 w.heap.size 1 _ _ (0, 0) p1)))
  have HW0 := Lib.hid hw0
  have HB0 := Lib.hid hb0
  have HL := Lib.hid (fun (W : World) (hW : Below w0.heap.size w0 W) => (h.below hb0).below hW)
  have HLN := Lib.hid h.1
  have hn := h.2.1
  clear hw0 hb0 p1 h
  go_enter Try.func58, Try.ntmps58
  go_wp2_with fail
  rw [← HW0.out]
  go_loopw [5] (fun v5 wr => ∃ k : Nat, k ≤ n ∧ v5 = .int .i64 k ∧ (∀ j, j < k → L.getD j (0, 0) ≠ (p, q)) ∧ Below w0.heap.size w0 wr) (fun v5 _ => n - (intOf v5).toNat)
  case atStart => exact ⟨0, Nat.zero_le _, rfl, fun j h => absurd h (by omega), Below.refl _ _⟩
  case round =>
    obtain ⟨k, hk, rfl, hall, hbr⟩ := hrel
    have HALL := Lib.hid hall
    have HBR := Lib.hid hbr
    obtain ⟨s0, s1⟩ := HC.out _ hbr
    by_cases hlt : k < n
    · have dlt : decide ((k : Int) < (n : Int)) = true := decide_eq_true (by omega)
      obtain ⟨b, e, hbl, hcc⟩ := (HL.out _ hbr).2.2 (by omega)
      obtain ⟨x0, x1⟩ := hcc k hlt
      subst e
      have HKE := Lib.hid (show L.getD k (0, 0) = ((L.getD k (0, 0)).1, (L.getD k (0, 0)).2) from rfl)
      generalize (L.getD k (0, 0)).1 = a at x0 HKE
      generalize (L.getD k (0, 0)).2 = d at x1 HKE
      clear hall hbr hcc
      by_cases he : a = p ∧ d = q
      · obtain ⟨rfl, rfl⟩ := he
        have HF := Lib.hid (ixP_at (L := L) (x := (a, d)) (by rw [HLN.out]; exact hlt) HALL.out HKE.out)
        go_wp2_with fail
        go_quiet (fail)
        go_wp2_with fail
        go_ret
        exact ⟨by rw [HF.out]; rfl, bt HB0.out (below_drewN HBR.out _)⟩
      · have HN := Lib.hid (show ∀ j, j < k + 1 → L.getD j (0, 0) ≠ (p, q) from fun j hj => by
          by_cases e : j = k
          · subst e; rw [HKE.out]; exact fun h => he ⟨congrArg Prod.fst h, congrArg Prod.snd h⟩
          · exact HALL.out j (by omega))
        by_cases ha : a = p
        · subst ha
          have hd : d ≠ q := fun e => he ⟨rfl, e⟩
          have f1 : ((d : Int) == (q : Int)) = false := by rw [beq_eq_false_iff_ne]; omega
          have f2 : (d == q) = false := by simpa using hd
          have f3 : decide (d = q) = false := decide_eq_false hd
          clear he
          go_wp2_with fail
          go_quiet (fail)
          go_wp2_with fail
          go_roundw
          case rel => exact ⟨k + 1, by omega, by go_num, HN.out, below_drewN HBR.out _⟩
          case measure => simp [intOf]; omega
        · have f1 : ((a : Int) == (p : Int)) = false := by rw [beq_eq_false_iff_ne]; omega
          have f2 : (a == p) = false := by simpa using ha
          have f3 : decide (a = p) = false := decide_eq_false ha
          clear he
          go_wp2_with fail
          go_quiet (fail)
          go_wp2_with fail
          go_roundw
          case rel => exact ⟨k + 1, by omega, by go_num, HN.out, below_drewN HBR.out _⟩
          case measure => simp [intOf]; omega
    · obtain rfl : k = n := by omega
      have dlt : decide ((k : Int) < (k : Int)) = false := decide_eq_false (by omega)
      have HF := Lib.hid (ixP_none (L := L) (x := (p, q)) (by rw [HLN.out]; exact hall))
      clear hall hbr
      go_wp2_with fail
      go_quiet (fail)
      go_wp2_with fail
      go_ret
      exact ⟨by rw [HF.out, HLN.out]; rfl, bt HB0.out (below_drewN HBR.out _)⟩
end Go.Proofs.Ythjnghldedfdoaa
end

section
/- The reference's pairs that words reach. -/
namespace Go.Proofs.Ythjnghldedfdoaa
open Go.RowKit

theorem infoQ : (Try.prog.info? 93).map (fun i => (i.zero, i.size, i.bytes)) = some (some (.agg #[.int .i64 0, .int .i64 0]), 2, 16) := by kernel_rfl
def wsE (E : List Ent) : List (List Int) := E.map Ent.w
theorem wsE_len (E : List Ent) : (wsE E).length = E.length := by simp [wsE]
theorem wsE_at {E : List Ent} {k : Nat} (hk : k < E.length) : (wsE E).getD k [] = (E.getD k Ent.zero).w := getD_mapE _ _ hk
theorem ixP_in : ∀ {L : List (Nat × Nat)} {x : Nat × Nat}, x ∈ L → ixP L x < L.length
  | [], _, h => absurd h (by simp)
  | y :: L, x, h => by
    unfold ixP
    by_cases e : y = x
    · rw [if_pos e]; simp
    · rw [if_neg e]
      have := ixP_in (L := L) (x := x) (by rcases List.mem_cons.1 h with h | h; exact absurd h.symm e; exact h)
      simpa using this
theorem ixP_out {L : List (Nat × Nat)} {x : Nat × Nat} (h : ¬ x ∈ L) : ixP L x = L.length := ixP_none fun j hj e => h (by
  rw [← e, List.getD_eq_getElem?_getD, List.getElem?_eq_getElem hj]; exact List.getElem_mem hj)
/-- What the search of the reference keeps in memory. -/
structure Rpq (w1 W : World) (v u : Value) (E : List Ent) : Prop where
  ps : Rws W w1.heap.size 93 2 v (E.map cellsL)
  ws : OwnedL W w1.heap.size u (wsE E)
  bel : Below w1.heap.size w1 W
theorem Rpq.on {w1 W W' : World} {v u : Value} {E : List Ent} (h : Rpq w1 W v u E) (hb : Below W.heap.size W W') : Rpq w1 W' v u E := ⟨h.ps.kept hb, h.ws.kept hb, h.bel.trans (hb.mono h.bel.size)⟩
theorem getD_mapL {E : List Ent} {k : Nat} (hk : k < E.length) : (E.map cellsL).getD k [] = cellsL (E.getD k Ent.zero) := getD_mapE _ _ hk
theorem pr_at {E : List Ent} {k : Nat} (hk : k < E.length) : (E.map Ent.pr).getD k (0, 0) = (E.getD k Ent.zero).pr := getD_mapE _ _ hk
/-- The pairs as place reads them. -/
theorem Rws.pr7 {w : World} {base n c : Nat} {A : Option Addr} {E : List Ent} (h : Rws w base 93 2 (.slice A n c) (E.map cellsL)) (hn : E.length = n) (hm : n ≤ 17592186044416) : Pr7 w A n (E.map Ent.pr) := by
  refine ⟨by rw [List.length_map]; exact hn, hm, fun h0 => ?_⟩
  obtain ⟨g, c', e, _, hg, _, hc⟩ := h.at_ (by rw [List.length_map]; omega)
  cases e
  refine ⟨g, rfl, hg, fun k hk => ?_⟩
  have hk2 : k < E.length := by omega
  have h1 := hc k 0 (by rw [List.length_map]; exact hk2) (by omega)
  have h2 := hc k 1 (by rw [List.length_map]; exact hk2) (by omega)
  rw [getD_mapL hk2] at h1 h2
  rw [pr_at hk2]
  rw [Nat.add_zero] at h1
  exact ⟨h1, h2⟩
/-- The literal of the first pair and the literal of the first word. -/
theorem Rpq.start (w1 : World) (s t : Nat) : Rpq w1 ((w1.alloc (.cells #[.int .i64 (s : Int), .int .i64 (t : Int)] 93)).alloc (.cells #[.slice none 0 0] 26)) (.slice (some ⟨w1.heap.size, 0, none⟩) 1 1) (.slice (some ⟨w1.heap.size + 1, 0, none⟩) 1 1) [⟨s, t, 0, 0, []⟩] := by
  have h1 := Rws.one w1 w1.heap.size 93 [.int .i64 (s : Int), .int .i64 (t : Int)] (Nat.le_refl _)
  have hb := alloc_below (w1.alloc (.cells #[.int .i64 (s : Int), .int .i64 (t : Int)] 93)) (.cells #[.slice none 0 0] 26)
  have h2 := World.ownsRow_lit (e := 26) (size := 1) (base := w1.heap.size) (w1.alloc (.cells #[.int .i64 (s : Int), .int .i64 (t : Int)] 93)) #[.slice none 0 0] 1 (by simp) (by unfold maxLen; omega) (by simp)
  rw [show (w1.alloc (.cells #[.int .i64 (s : Int), .int .i64 (t : Int)] 93)).heap.size = w1.heap.size + 1 by simp] at h2
  refine ⟨h1.kept hb, ⟨[.slice none 0 0], h2, fun j hj => ?_⟩, (alloc_below _ _).alloc (by simp) _⟩
  obtain rfl : j = 0 := by simp [wsE] at hj; omega
  exact ⟨none, 0, rfl, Owned.nil _ _⟩
/-- append of one pair. -/
theorem run_append_q {w : World} {base : Nat} {v : Value} {E : List Ent} (h : Rws w base 93 2 v (E.map cellsL)) (e : Ent) (hbase : base ≤ w.heap.size) (hn : E.length < 1099511627776) :
    ∃ A c w1, (Builtin.append_ #[89, 89] 89 #[v, .slice (some ⟨w.heap.size, 0, none⟩) 1 1]).run Try.prog (w.alloc (.cells #[.int .i64 e.p, .int .i64 e.q] 93)) = .ok (.slice A (E.length + 1) c) w1 ∧
      Rws w1 base 93 2 (.slice A (E.length + 1) c) ((E ++ [e]).map cellsL) ∧ Below base w w1 ∧ ∀ t', t' ≠ 93 → KeptT t' w w1 := by
  obtain ⟨i, hi, hz0, hz1, hz2⟩ := info_parts infoQ
  have hl : (E.map cellsL).length = E.length := List.length_map _
  obtain ⟨A, c, w1, h1, h2, h3, h4⟩ := run_append_rws Try.underlying89 hi hz0 hz1 hz2 rfl (by decide) (by decide) h (cellsL e) rfl (fun u hu => by simp [cellsL] at hu; rcases hu with rfl | rfl <;> rfl) hbase (by rw [hl]; exact hn)
  rw [hl] at h1 h2
  exact ⟨A, c, w1, h1, by rw [List.map_append]; exact h2, h3, h4⟩
set_option maxHeartbeats 8000000 in
set_option maxRecDepth 100000 in
theorem rpairs7 (i st n st' n' most : Nat) (A B A' B' : Option Addr) (c m d c' m' d' : Nat) (nx nx' : List (List Int)) (ac ac' : List Bool) (w : World) (hx : Lists w A n nx) (hx' : Lists w A' n' nx') (hM : Dok i st n nx ac) (hM' : Dok i st' n' nx' ac') :
    Calls Try.prog 48 #[.agg #[.int .i64 i, .int .i64 st, .slice A n c, .slice B m d], .agg #[.int .i64 i, .int .i64 st', .slice A' n' c', .slice B' m' d'], .int .i64 most] w fun e w' =>
      ∃ (E T : List Ent) (A1 : Option Addr) (c1 : Nat) (A2 : Option Addr) (c2 : Nat), cmE i st n st' n' nx nx' = E ++ T ∧ (T = [] ∨ most < E.length) ∧ Ens n n' st st' E ∧
        e = .returned (.tuple #[.slice A1 E.length c1, .slice A2 E.length c2]) ∧ Rws w' w.heap.size 93 2 (.slice A1 E.length c1) (E.map cellsL) ∧ OwnedL w' w.heap.size (.slice A2 E.length c2) (wsE E) ∧ Below w.heap.size w w' := by
  obtain ⟨w1, hw1, hb1, hB, hB'⟩ := two_boxes w i st i st' A B A' B' n c m d n' c' m' d'
  have hF := both_stp hM hM'
  have hn := hM.n2
  have hn' := hM'.n2
  have hi := hM.i2
  have hnn : n * n' ≤ 16384 := Nat.mul_le_mul hn hn'
  have HZ1 := Lib.hid (show w1.heap.size = w.heap.size + 1 + 1 by rw [hw1]; simp)
  have HW1 := Lib.hid hw1
  have HB1 := Lib.hid hb1
  have HBX := Lib.hid (fun (W : World) (h : Below w1.heap.size w1 W) => And.intro (hB.on9 h).cells (hB'.on9 h).cells)
  have HX := Lib.hid (fun (W : World) (h : Below w1.heap.size w1 W) => And.intro ((hx.below hb1).below h) ((hx'.below hb1).below h))
  obtain ⟨R, hR⟩ : ∃ R, R = cmE i st n st' n' nx nx' := ⟨_, rfl⟩
  rw [← hR]
  have HR := Lib.hid (show exG (bothF nx nx') i (n * n') [⟨st, st', 0, 0, []⟩] 0 = R from hR.symm)
  have HM := Lib.hid (And.intro hM hM')
  have HF := Lib.hid hF
  have HST := Lib.hid (And.intro hM.st hM'.st)
  have HP0 := Lib.hid (Rpq.start w1 st st')
  obtain ⟨⟨k0, k1, k2, k3, _⟩, ⟨j0, j1, j2, j3, _⟩⟩ := HBX.out _ (Below.refl _ _)
  rw [HW1.out] at k0 k1 k2 k3 j0 j1 j2 j3
  clear hw1 hb1 hB hB' hR hM hM' hF
  go_enter Try.func48, Try.ntmps48
  go_wp2_with fail
  rw [← HW1.out]
  generalize (w1.alloc (.cells #[.int .i64 (st : Int), .int .i64 (st' : Int)] 93)).alloc (.cells #[.slice none 0 0] 26) = w2 at HP0 ⊢
  clear k0 k1 k2 k3 j0 j1 j2 j3
  have HZW := Lib.hid HB1.out.size
  go_loopw [8, 9, 10, 11, 12] (fun v8 v9 v10 _ _ wr => ∃ (j : Nat) (E : List Ent) (A6 A7 : Option Addr) (c6 c7 : Nat), v10 = .int .i64 j ∧ v8 = .slice A6 E.length c6 ∧ v9 = .slice A7 E.length c7 ∧ j ≤ E.length ∧ Ens n n' st st' E ∧ exG (bothF nx nx') i (n * n') E j = R ∧ Rpq w1 wr (.slice A6 E.length c6) (.slice A7 E.length c7) E) (fun _ _ v10 _ _ _ => n * n' - (intOf v10).toNat)
  case atStart => exact ⟨0, [⟨st, st', 0, 0, []⟩], _, _, 1, 1, rfl, rfl, rfl, Nat.zero_le _, Ens.one HST.out.1 HST.out.2, HR.out, by have h := HP0.out; rw [HZ1.out] at h; exact h⟩
  case round =>
    obtain ⟨j, E, A6, A7, c6, c7, rfl, rfl, rfl, hjl, hE, hX, hP⟩ := hrel
    have HE := Lib.hid hE
    have HEX := Lib.hid hX
    have HP := Lib.hid hP
    have hlen := hE.len
    by_cases hlt : j < E.length
    · have d1 : decide ((j : Int) < (E.length : Int)) = true := decide_eq_true (by omega)
      by_cases hmx : E.length ≤ most
      · have d2 : decide (E.length ≤ most) = true := decide_eq_true hmx
        obtain ⟨e, he⟩ : ∃ e, e = E.getD j Ent.zero := ⟨_, rfl⟩
        have hpq := hE.lt _ (getDE_mem hlt)
        rw [← he] at hpq
        have HI := Lib.hid (show ∀ x, x ≤ i → Ens n n' st st' (adG (bothF nx nx') j e E x) by rw [he]; exact adG_ens HF.out hE hlt)
        have HEE := Lib.hid he
        have HJ := Lib.hid hlt
        have HON := Lib.hid (show exG (bothF nx nx') i (n * n') (adG (bothF nx nx') j e E i) (j + 1) = R by rw [he, exG_on HF.out hE hlt]; exact hX)
        clear hE hX hP he hlt hmx
        go_wp2_with fail
        obtain ⟨wo, hwo⟩ : ∃ wo : World, wo = wr := ⟨_, rfl⟩
        rw [← hwo] at HP ⊢
        clear hwo
        go_loopw [8, 9, 11, 12] (fun v8 v9 v11 _ wr => ∃ (x : Nat) (A8 A9 : Option Addr) (c8 c9 : Nat), x ≤ i ∧ v11 = .int .i64 x ∧ v8 = .slice A8 (adG (bothF nx nx') j e E x).length c8 ∧ v9 = .slice A9 (adG (bothF nx nx') j e E x).length c9 ∧ Rpq w1 wr (.slice A8 (adG (bothF nx nx') j e E x).length c8) (.slice A9 (adG (bothF nx nx') j e E x).length c9) (adG (bothF nx nx') j e E x)) (fun _ _ v11 _ _ => i - (intOf v11).toNat)
        case atStart => exact ⟨0, A6, A7, c6, c7, Nat.zero_le _, rfl, rfl, rfl, HP.out⟩
        case round =>
          obtain ⟨x, A8, A9, c8, c9, hxl, rfl, rfl, rfl, hP2⟩ := hrel
          have hE2 := HI.out x hxl
          have hlen2 := hE2.len
          obtain ⟨T, hT⟩ := adG_pre (bothF nx nx') j e E x
          have hj2 : j < (adG (bothF nx nx') j e E x).length := by rw [hT, List.length_append]; have := HJ.out; omega
          have he2 : (adG (bothF nx nx') j e E x).getD j Ent.zero = e := by rw [hT, getDE_pre HJ.out]; exact HEE.out.symm
          have HE2 := Lib.hid hE2
          have Hj2 := Lib.hid hj2
          have He2 := Lib.hid he2
          have HP2 := Lib.hid hP2
          obtain ⟨⟨k0, k1, k2, k3, _⟩, ⟨j0, j1, j2, j3, _⟩⟩ := HBX.out _ hP2.bel
          by_cases hxi : x < i
          · have hbw : Below w.heap.size w wr := HB1.out.trans (hP2.bel.mono HZW.out)
            obtain ⟨hLx, hLx'⟩ := HX.out _ hP2.bel
            obtain ⟨g6, c6', e6, _, hg6, _, hc6⟩ := hP2.ps.at_ (by rw [List.length_map]; omega)
            have x6 := hc6 j 0 (by rw [List.length_map]; exact hj2) (by omega)
            have y6 := hc6 j 1 (by rw [List.length_map]; exact hj2) (by omega)
            rw [getD_mapL hj2, he2] at x6 y6
            rw [Nat.add_zero] at x6
            replace x6 : wr.cell? ⟨g6, j * 2, none⟩ = some (.int .i64 e.p) := x6
            replace y6 : wr.cell? ⟨g6, j * 2 + 1, none⟩ = some (.int .i64 e.q) := y6
            obtain rfl : A8 = some ⟨g6, 0, none⟩ := by injection e6
            clear e6
            obtain ⟨gA, oA, A1, nA, cA, eA, hgA, hdA, hrA⟩ := hLx.at_ hpq.1
            have w1' := (HM.out.1.row e.p hpq.1).1
            obtain rfl : i = nA := by rw [← hrA.1]; exact w1'.symm
            subst eA
            obtain ⟨hA2, iA2, eA2, lA, vA⟩ := hrA.at_ hxi
            subst eA2
            rw [HM.out.1.nN_eq hpq.1 hxi] at vA
            obtain ⟨gB, oB, B1, nB, cB, eB, hgB, hdB, hrB⟩ := hLx'.at_ hpq.2
            have w2' := (HM.out.2.row e.q hpq.2).1
            obtain rfl : i = nB := by rw [← hrB.1]; exact w2'.symm
            subst eB
            obtain ⟨hB2, iB2, eB2, lB, vB⟩ := hrB.at_ hxi
            subst eB2
            rw [HM.out.2.nN_eq hpq.2 hxi] at vB
            obtain ⟨e', hE'⟩ : ∃ e', e' = nxG (bothF nx nx') j e x := ⟨_, rfl⟩
            have f1 : nN nx e.p x = e'.p := by rw [hE']; rfl
            have f2 : nN nx' e.q x = e'.q := by rw [hE']; rfl
            have F5 := Lib.hid (show e'.w = e.w ++ [(x : Int)] by rw [hE']; rfl)
            have HST2 := Lib.hid (show adG (bothF nx nx') j e E (x + 1) = addE (adG (bothF nx nx') j e E x) e' by rw [hE']; rfl)
            rw [f1] at vA
            rw [f2] at vB
            have HS := Lib.hid (fun (W : World) (h : Below wr.heap.size wr W) => show W.cell? ⟨w.heap.size, 2, none⟩ = some (.slice (some ⟨gA, oA, none⟩) n c) ∧ W.cell? ⟨w.heap.size + 1, 2, none⟩ = some (.slice (some ⟨gB, oB, none⟩) n' c') ∧
              W.cell? ⟨g6, j * 2, none⟩ = some (.int .i64 e.p) ∧ W.cell? ⟨g6, j * 2 + 1, none⟩ = some (.int .i64 e.q) ∧ W.cell? ⟨gA, oA + e.p, none⟩ = some (.slice (some ⟨hA2, iA2, none⟩) i cA) ∧ W.cell? ⟨hA2, iA2 + x, none⟩ = some (.int .i64 e'.p) ∧
              W.cell? ⟨gB, oB + e.q, none⟩ = some (.slice (some ⟨hB2, iB2, none⟩) i cB) ∧ W.cell? ⟨hB2, iB2 + x, none⟩ = some (.int .i64 e'.q) from
              ⟨(h.cell (p := ⟨w.heap.size, 2, none⟩) (World.block_lt_of_cell? wr _ k2)).trans k2, (h.cell (p := ⟨w.heap.size + 1, 2, none⟩) (World.block_lt_of_cell? wr _ j2)).trans j2, (h.cell (p := ⟨g6, j * 2, none⟩) hg6).trans x6, (h.cell (p := ⟨g6, j * 2 + 1, none⟩) hg6).trans y6,
               (h.cell (p := ⟨gA, oA + e.p, none⟩) hgA).trans hdA, (h.cell (p := ⟨hA2, iA2 + x, none⟩) lA).trans vA, (h.cell (p := ⟨gB, oB + e.q, none⟩) hgB).trans hdB, (h.cell (p := ⟨hB2, iB2 + x, none⟩) lB).trans vB⟩)
            have hpl := HM.out.1.nN_lt hpq.1 hxi
            rw [f1] at hpl
            have hql := HM.out.2.nN_lt hpq.2 hxi
            rw [f2] at hql
            have b1 : (0 : Int) ≤ (j : Int) := by omega
            have b2 : (j : Int) < ((adG (bothF nx nx') j e E x).length : Int) := by omega
            have b3 : (0 : Int) ≤ (e.p : Int) := by omega
            have b4 : (e.p : Int) < (n : Int) := by omega
            have b5 : (0 : Int) ≤ (e.q : Int) := by omega
            have b6 : (e.q : Int) < (n' : Int) := by omega
            have b7 : (0 : Int) ≤ (x : Int) := by omega
            have b8 : (x : Int) < (i : Int) := by omega
            have HBW := Lib.hid hbw
            clear hP2 he2 hT hE2 hbw w1' w2' hrA hrB hc6 hE' f1 f2 hLx hLx' j0 j1 j3 k1 k3 hdA hdB vA vB x6 y6
            go_wp2_with fail
            go_region_held3 (fun w' => w'.cell? ⟨w.heap.size, 2, none⟩ = some (.slice (some ⟨gA, oA, none⟩) n c) ∧ w'.cell? ⟨w.heap.size + 1, 2, none⟩ = some (.slice (some ⟨gB, oB, none⟩) n' c') ∧
              w'.cell? ⟨g6, j * 2, none⟩ = some (.int .i64 e.p) ∧ w'.cell? ⟨g6, j * 2 + 1, none⟩ = some (.int .i64 e.q) ∧ w'.cell? ⟨gA, oA + e.p, none⟩ = some (.slice (some ⟨hA2, iA2, none⟩) i cA) ∧ w'.cell? ⟨hA2, iA2 + x, none⟩ = some (.int .i64 e'.p) ∧
              w'.cell? ⟨gB, oB + e.q, none⟩ = some (.slice (some ⟨hB2, iB2, none⟩) i cB) ∧ w'.cell? ⟨hB2, iB2 + x, none⟩ = some (.int .i64 e'.q))
              (first | exact HS.out _ (below_drewN (Below.refl _ _) 1) | exact HS.out _ (below_drewN (alloc_below _ _) 1) | exact HS.out _ (alloc_below _ _)) (fail)
            obtain ⟨w3, hw3⟩ : ∃ w3, w3 = (wr.alloc (.cells #[.int .i64 e'.p, .int .i64 e'.q] 93)).drew := ⟨_, rfl⟩
            have hb3 : Below wr.heap.size wr w3 := by rw [hw3]; exact below_drewN (alloc_below _ _) 1
            have p3 : w3.heap[wr.heap.size]? = some (.cells #[.int .i64 e'.p, .int .i64 e'.q] 93 (0, 0)) := by rw [hw3]; exact heap_alloc_new wr _
            obtain ⟨gp, hgp⟩ : ∃ gp, gp = wr.heap.size := ⟨_, rfl⟩
            rw [← hw3, ← hgp]
            rw [← hgp] at p3
            have hgl : gp < w3.heap.size := heap_lt p3
            have q0 := cell_of_row w3 gp 0 _ _ (0, 0) p3
            have q1 := cell_of_row w3 gp 1 _ _ (0, 0) p3
            have hP3 := HP2.out.on hb3
            have HPR := Lib.hid (hP3.ps.pr7 (n := (adG (bothF nx nx') j e E x).length) rfl (by omega))
            have HP3 := Lib.hid hP3
            have HLW := Lib.hid (show (adG (bothF nx nx') j e E x).length ≤ 16384 by omega)
            clear hw3 hgp k2 j2 p3 hP3 hb3
            generalize hEx : adG (bothF nx nx') j e E x = Ex at HE2 Hj2 He2 HP2 HST2 HPR HP3 HLW hj2 hlen2 b2 ⊢
            clear hEx
            by_cases hh : hasE Ex e'.p e'.q
            · have HAE := Lib.hid (addE_in hh)
              have hix := ixP_in (L := Ex.map Ent.pr) (x := (e'.p, e'.q)) hh
              rw [List.length_map] at hix
              have hIX : ∃ k, k = ixP (Ex.map Ent.pr) (e'.p, e'.q) := ⟨_, rfl⟩
              obtain ⟨k, hk⟩ := hIX
              rw [← hk] at hix
              have HK := Lib.hid hk
              have f1 : ((k : Int) == (Ex.length : Int)) = false := by rw [beq_eq_false_iff_ne]; omega
              have f2 : (k == Ex.length) = false := by rw [beq_eq_false_iff_ne]; omega
              have f3 : decide (k = Ex.length) = false := decide_eq_false (by omega)
              clear hh hk
              go_wp2_with fail
              refine (rplace7 _ _ _ _ e'.p e'.q _ HPR.out).mono ?_
              rintro r w4 ⟨rfl, b4⟩
              rw [← HK.out]
              have HP4 := Lib.hid (HP3.out.on b4)
              clear b4
              go_wp2_with fail
              go_roundw
              case rel => exact ⟨x + 1, _, A9, c8, c9, by omega, by go_num, by rw [HST2.out, HAE.out], by rw [HST2.out, HAE.out], by rw [HST2.out, HAE.out]; exact HP4.out⟩
              case measure => simp [intOf]; omega
            · have HAE := Lib.hid (addE_out hh)
              have HIX := Lib.hid (show ixP (Ex.map Ent.pr) (e'.p, e'.q) = Ex.length by rw [ixP_out hh, List.length_map])
              have f1 : ((Ex.length : Int) == (Ex.length : Int)) = true := by simp
              clear hh
              go_wp2_with fail
              refine (rplace7 _ _ _ _ e'.p e'.q _ HPR.out).mono ?_
              rintro r w4 ⟨rfl, b4⟩
              rw [HIX.out]
              have hP4 := HP3.out.on b4
              have r0 := (b4.cell (p := ⟨gp, 0, none⟩) hgl).trans q0
              have r1 := (b4.cell (p := ⟨gp, 1, none⟩) hgl).trans q1
              obtain ⟨A5, c5, w5, hr5, hO5, hb5, hk5⟩ := run_append_q hP4.ps e' hP4.bel.size (by omega)
              have hX5 := hP4.ws.keptT (hk5 _ (by decide)) (hk5 _ (by decide))
              have hb05 := hP4.bel.trans hb5
              have hz5 := hb05.size
              obtain ⟨g9, o9, Aw, nw, cw, e9, l9, x9, hIw⟩ := (hX5.lists (by rw [wsE_len]; omega) (fun u h9 => by
                obtain ⟨m, hm, e8⟩ := List.mem_iff_getElem.1 h9
                rw [wsE_len] at hm
                have h1 := wsE_at hm
                rw [List.getD_eq_getElem?_getD, List.getElem?_eq_getElem (by rw [wsE_len]; exact hm)] at h1
                have h2 := HE2.out.wl m hm
                have h3 : u = (Ex.getD m Ent.zero).w := by rw [← e8]; exact h1
                rw [h3]; omega)).at_ (show j < Ex.length from hj2)
              subst e9
              rw [wsE_at hj2, He2.out] at hIw
              have hel := HE2.out.wl j hj2
              rw [He2.out] at hel
              obtain rfl : nw = e.w.length := hIw.1.symm
              have x9a := ((alloc_below w5 (.cells #[] 3)).cell (p := ⟨g9, o9 + j, none⟩) l9).trans x9
              obtain ⟨v6, w6, hr6, hO6, _, hb6⟩ := run_append_ints (w5.alloc (.cells #[] 3)) w5.heap.size (.slice (some ⟨w5.heap.size, 0, none⟩) 0 0) [] e.w Aw e.w.length cw (Owned.literal w5 w5.heap.size [] #[] 0 (Nat.le_refl _) rfl rfl (by simp)) (hIw.below (alloc_below _ _)) (by simp) (by rw [List.nil_append]; omega)
              rw [List.nil_append] at hO6
              obtain ⟨A6', c6', rfl⟩ := hO6.form
              have hb56 : Below w5.heap.size w5 w6 := (alloc_below w5 _).trans hb6
              obtain ⟨A7', c7', w7, hr7, hO7, hb7, _⟩ := run_append_oneB hO6 (x : Int) hb56.size (by omega)
              have hb57 := hb56.trans hb7
              obtain ⟨A10, c10, w8, hr8, hX8, hb8, hk8, _⟩ := run_append_list (hX5.kept hb57) (show Owned w7 w1.heap.size (.slice A7' (e.w.length + 1) c7') (e.w ++ [(x : Int)]) from hO7.lower hz5) (show w1.heap.size ≤ w7.heap.size by have := hb57.size; omega) (by rw [wsE_len]; omega)
              rw [wsE_len] at hr8 hX8
              have HF8 := Lib.hid (show Rpq w1 w8 (.slice A5 (Ex.length + 1) c5) (.slice A10 (Ex.length + 1) c10) (Ex ++ [e']) from
                ⟨(hO5.kept hb57).keptT (hk8 _ (by decide)), by rw [show wsE (Ex ++ [e']) = wsE Ex ++ [e.w ++ [(x : Int)]] by simp [wsE, F5.out]]; exact hX8, (hb05.trans (hb57.mono hz5)).trans hb8⟩)
              have HL9 := Lib.hid (show (adG (bothF nx nx') j e E (x + 1)).length = Ex.length + 1 by rw [HST2.out, HAE.out, List.length_append]; rfl)
              have HEQ := Lib.hid (show adG (bothF nx nx') j e E (x + 1) = Ex ++ [e'] by rw [HST2.out, HAE.out])
              clear hP4 hO5 hb5 hk5 hX5 hb05 hIw hO6 hb6 hb56 hO7 hb7 hb57 hX8 hb8 hk8 b4 q0 q1
              go_wp2_with (at_builtin; first | (refine Lib.wpList_append_run _ rfl _ _ _ _ rfl _ _ rfl rfl _ _ hr5 ?_; clear hr5) | (refine Lib.wpList_append_run _ rfl _ _ _ _ rfl _ _ rfl rfl _ _ hr6 ?_; clear hr6) | (refine Lib.wpList_append_run _ rfl _ _ _ _ rfl _ _ rfl rfl _ _ hr7 ?_; clear hr7) | (refine Lib.wpList_append_run _ rfl _ _ _ _ rfl _ _ rfl rfl _ _ hr8 ?_; clear hr8))
              go_roundw
              case rel => exact ⟨x + 1, A5, A10, c5, c10, by omega, by go_num, by rw [HL9.out], by rw [HL9.out], by rw [HL9.out, HEQ.out]; exact HF8.out⟩
              case measure => simp [intOf]; omega
          · obtain rfl : x = i := by omega
            clear hP2 he2 hE2 hT
            go_wp2_with fail
            go_roundw
            case rel => exact ⟨j + 1, adG (bothF nx nx') j e E x, A8, A9, c8, c9, by go_num, rfl, rfl, hj2, HE2.out, HON.out, HP2.out⟩
            case measure => simp [intOf]; omega
      · have d2 : decide (E.length ≤ most) = false := decide_eq_false hmx
        have HPR := Lib.hid (exG_pre (bothF nx nx') i (n * n') E j)
        have HMX := Lib.hid hmx
        clear hE hX hP hmx
        go_wp2_with fail
        go_ret2
        obtain ⟨T, hT⟩ := HPR.out
        exact ⟨E, T, A6, c6, A7, c7, by rw [← HEX.out, hT], .inr (by have := HMX.out; omega), HE.out, rfl, HP.out.ps.lower HZW.out, HP.out.ws.lower HZW.out, HB1.out.trans (HP.out.bel.mono HZW.out)⟩
    · obtain rfl : j = E.length := by omega
      have d1 : decide ((E.length : Int) < (E.length : Int)) = false := decide_eq_false (by omega)
      have HPR := Lib.hid (exG_end (F := bothF nx nx') (i := i) (k := n * n') hlt)
      clear hE hX hP hlt
      go_wp2_with fail
      go_ret2
      exact ⟨E, [], A6, c6, A7, c7, by rw [← HEX.out, HPR.out, List.append_nil], .inl rfl, HE.out, rfl, HP.out.ps.lower HZW.out, HP.out.ws.lower HZW.out, HB1.out.trans (HP.out.bel.mono HZW.out)⟩
end Go.Proofs.Ythjnghldedfdoaa
end

section
/- The reference's two and holds. -/
namespace Go.Proofs.Ythjnghldedfdoaa
open Go.RowKit

set_option maxHeartbeats 1000000 in
theorem rholds7 (k : Nat) (x y : Bool) (w : World) (hk : k < 4) : Calls Try.prog 59 #[.int .i64 k, .bool x, .bool y] w fun e w' => e = .returned (.bool (opB k x y)) ∧ w = w' := by
  obtain rfl | rfl | rfl | rfl : k = 0 ∨ k = 1 ∨ k = 2 ∨ k = 3 := by omega
  all_goals
    cases x <;> cases y <;>
    · go_enter Try.func59, Try.ntmps59
      go_wp2
      go_ret
      exact ⟨rfl, rfl⟩
set_option maxHeartbeats 2000000 in
set_option maxRecDepth 100000 in
theorem rtwo7 (i st i' st' : Int) (A B A' B' : Option Addr) (n c m d n' c' m' d' : Nat) (nx nx' : List (List Int)) (ac ac' : List Bool) (w : World) (hx : Lists w A n nx) (ha : Bools w B m ac) (hx' : Lists w A' n' nx') (ha' : Bools w B' m' ac') :
    Calls Try.prog 57 #[.agg #[.int .i64 i, .int .i64 st, .slice A n c, .slice B m d], .agg #[.int .i64 i', .int .i64 st', .slice A' n' c', .slice B' m' d']] w fun e w' =>
      e = .returned (.int .i64 (vld2 i st nx ac i' st' nx' ac')) ∧ Below w.heap.size w w' := by
  obtain ⟨w0, hw0, hb0, hB, hB'⟩ := two_boxes w i st i' st' A B A' B' n c m d n' c' m' d'
  obtain ⟨k0, k1, k2, k3, _⟩ := hB.cells
  obtain ⟨j0, j1, j2, j3, _⟩ := hB'.cells
  have HW0 := Lib.hid hw0
  have HB0 := Lib.hid hb0
  have HBX := Lib.hid (fun (W : World) (h : Below w0.heap.size w0 W) => And.intro (hB.on9 h).cells (hB'.on9 h).cells)
  have HX := Lib.hid (fun (W : World) (h : Below w0.heap.size w0 W) => And.intro ((hx.below hb0).below h) ((hx'.below hb0).below h))
  have HLA := Lib.hid (And.intro ha.1 ha'.1)
  have hm := ha.2.1
  have hm' := ha'.2.1
  clear hw0 hB hB' hb0 hx hx' ha ha'
  rw [HW0.out] at k0 k1 k2 k3 j0 j1 j2 j3
  obtain ⟨V, hV⟩ : ∃ V, vldD i st nx ac = V := ⟨_, rfl⟩
  obtain ⟨V', hV'⟩ : ∃ V', vldD i' st' nx' ac' = V' := ⟨_, rfl⟩
  have HV := Lib.hid hV
  have HV' := Lib.hid hV'
  clear hV hV'
  by_cases h1 : V = 0
  · subst h1
    by_cases h2 : V' = 0
    · subst h2
      by_cases h3 : i = i'
      · subst h3
        have HF := Lib.hid (show vld2 i st nx ac i st' nx' ac' = 0 by unfold vld2; rw [if_pos HV.out, if_pos HV'.out, if_pos rfl])
        have t0 : (i != i) = false := by simp
        go_enter Try.func57, Try.ntmps57
        go_wp2_with fail
        rw [← HW0.out]
        refine (rval7 _ _ _ _ _ _ _ _ _ _ _ (HX.out _ (Below.refl _ _)).1 HLA.out.1 hm).mono ?_
        rintro e w1 ⟨rfl, b1⟩
        rw [HV.out]
        have HB1 := Lib.hid b1
        clear k0 k1 k2 k3 j0 j1 j2 j3
        obtain ⟨⟨k0, k1, k2, k3, _⟩, ⟨j0, j1, j2, j3, _⟩⟩ := HBX.out _ b1
        clear b1
        go_wp2_with fail
        refine (rval7 _ _ _ _ _ _ _ _ _ _ _ (HX.out _ HB1.out).2 HLA.out.2 hm').mono ?_
        rintro e w2 ⟨rfl, b2⟩
        rw [HV'.out]
        have HB2 := Lib.hid (bt HB1.out b2)
        clear k0 k1 k2 k3 j0 j1 j2 j3 b2
        obtain ⟨⟨k0, k1, k2, k3, _⟩, ⟨j0, j1, j2, j3, _⟩⟩ := HBX.out _ HB2.out
        go_wp2_with fail
        go_ret
        exact ⟨by rw [HF.out]; rfl, bt HB0.out HB2.out⟩
      · have HF := Lib.hid (show vld2 i st nx ac i' st' nx' ac' = 15 by unfold vld2; rw [if_pos HV.out, if_pos HV'.out, if_neg h3])
        have t0 : (i != i') = true := by simpa using h3
        clear h3
        go_enter Try.func57, Try.ntmps57
        go_wp2_with fail
        rw [← HW0.out]
        refine (rval7 _ _ _ _ _ _ _ _ _ _ _ (HX.out _ (Below.refl _ _)).1 HLA.out.1 hm).mono ?_
        rintro e w1 ⟨rfl, b1⟩
        rw [HV.out]
        have HB1 := Lib.hid b1
        clear k0 k1 k2 k3 j0 j1 j2 j3
        obtain ⟨⟨k0, k1, k2, k3, _⟩, ⟨j0, j1, j2, j3, _⟩⟩ := HBX.out _ b1
        clear b1
        go_wp2_with fail
        refine (rval7 _ _ _ _ _ _ _ _ _ _ _ (HX.out _ HB1.out).2 HLA.out.2 hm').mono ?_
        rintro e w2 ⟨rfl, b2⟩
        rw [HV'.out]
        have HB2 := Lib.hid (bt HB1.out b2)
        clear k0 k1 k2 k3 j0 j1 j2 j3 b2
        obtain ⟨⟨k0, k1, k2, k3, _⟩, ⟨j0, j1, j2, j3, _⟩⟩ := HBX.out _ HB2.out
        go_wp2_with fail
        go_ret
        exact ⟨by rw [HF.out]; rfl, bt HB0.out HB2.out⟩
    · have HF := Lib.hid (show vld2 i st nx ac i' st' nx' ac' = V' by unfold vld2; rw [if_pos HV.out, if_neg (by rw [HV'.out]; exact h2)]; exact HV'.out)
      have t1 : (V' != 0) = true := by simpa using h2
      clear h2
      go_enter Try.func57, Try.ntmps57
      go_wp2_with fail
      rw [← HW0.out]
      refine (rval7 _ _ _ _ _ _ _ _ _ _ _ (HX.out _ (Below.refl _ _)).1 HLA.out.1 hm).mono ?_
      rintro e w1 ⟨rfl, b1⟩
      rw [HV.out]
      have HB1 := Lib.hid b1
      clear k0 k1 k2 k3 j0 j1 j2 j3
      obtain ⟨⟨k0, k1, k2, k3, _⟩, ⟨j0, j1, j2, j3, _⟩⟩ := HBX.out _ b1
      clear b1
      go_wp2_with fail
      refine (rval7 _ _ _ _ _ _ _ _ _ _ _ (HX.out _ HB1.out).2 HLA.out.2 hm').mono ?_
      rintro e w2 ⟨rfl, b2⟩
      rw [HV'.out]
      have HB2 := Lib.hid (bt HB1.out b2)
      clear k0 k1 k2 k3 j0 j1 j2 j3 b2
      obtain ⟨⟨k0, k1, k2, k3, _⟩, ⟨j0, j1, j2, j3, _⟩⟩ := HBX.out _ HB2.out
      go_wp2_with fail
      refine (rval7 _ _ _ _ _ _ _ _ _ _ _ (HX.out _ HB2.out).2 HLA.out.2 hm').mono ?_
      rintro e w3 ⟨rfl, b3⟩
      rw [HV'.out]
      go_wp2_with fail
      go_ret
      exact ⟨by rw [HF.out]; rfl, bt HB0.out (bt HB2.out b3)⟩
  · have HF := Lib.hid (show vld2 i st nx ac i' st' nx' ac' = V by unfold vld2; rw [if_neg (by rw [HV.out]; exact h1)]; exact HV.out)
    have t1 : (V != 0) = true := by simpa using h1
    clear h1
    go_enter Try.func57, Try.ntmps57
    go_wp2_with fail
    rw [← HW0.out]
    refine (rval7 _ _ _ _ _ _ _ _ _ _ _ (HX.out _ (Below.refl _ _)).1 HLA.out.1 hm).mono ?_
    rintro e w1 ⟨rfl, b1⟩
    rw [HV.out]
    have HB1 := Lib.hid b1
    clear k0 k1 k2 k3 j0 j1 j2 j3
    obtain ⟨⟨k0, k1, k2, k3, _⟩, ⟨j0, j1, j2, j3, _⟩⟩ := HBX.out _ b1
    clear b1
    go_wp2_with fail
    refine (rval7 _ _ _ _ _ _ _ _ _ _ _ (HX.out _ HB1.out).1 HLA.out.1 hm).mono ?_
    rintro e w2 ⟨rfl, b2⟩
    rw [HV.out]
    go_wp2_with fail
    go_ret
    exact ⟨by rw [HF.out]; rfl, bt HB0.out (bt HB1.out b2)⟩
end Go.Proofs.Ythjnghldedfdoaa
end

section
/- The reference's copy of an automaton, and its complement. -/
namespace Go.Proofs.Ythjnghldedfdoaa
open Go.RowKit

/-- append at a step of a region that draws, where its result is known by a fact. -/
theorem step_app_y {P : Program} {ops : Array Oper} {o : Oper} {a : Act} {w : World} {K : Act → World → Prop} {Q : Exit → Act → World → Prop} {E : Prop} (hgd : o.guard = none) (s x : Operand) (t tn : TypeId)
    (ho : o.op = .call { callee := .builtin .append, args := #[s, x], argTypes := #[t, tn] }) (vs vx : Value) (hs : a.eval s = vs) (hx : a.eval x = vx) {R : Value → World → Prop}
    (hr : ∃ v' w', (Builtin.append_ #[t, tn] o.type #[vs, vx]).run P w = .ok v' w' ∧ R v' w') (h : ∀ v' w', R v' w' → K (a.put o.dst v') w') :
    if Region.wanted o (yielded ops a.tmps) = true then Oper.wp P o a w K Q else E := by
  obtain ⟨v', w', h1, h2⟩ := hr
  exact step_app hgd s x t tn ho vs vx hs hx v' w' h1 (h v' w' h2)
theorem flat_cellsB : ∀ bs : List Bool, (bs.map cellsB).flatten = bs.map Value.bool
  | [] => rfl
  | b :: bs => by rw [List.map_cons, List.flatten_cons, flat_cellsB bs]; rfl
theorem Rws.ofBools {w : World} {base : Nat} {v : Value} {bs : List Bool} {n : Nat} (h : w.ownsRow base 4 1 v n (bs.map Value.bool)) (hn : bs.length = n) : Rws w base 4 1 v (bs.map cellsB) := by
  subst hn
  refine ⟨fun l hl => ?_, ?_⟩
  · obtain ⟨b, _, rfl⟩ := List.mem_map.1 hl; rfl
  · rw [List.length_map, flat_cellsB]; exact h
theorem Rws.toBools {w : World} {base : Nat} {v : Value} {bs : List Bool} (h : Rws w base 4 1 v (bs.map cellsB)) : w.ownsRow base 4 1 v bs.length (bs.map Value.bool) := by
  have := h.2
  rw [List.length_map, flat_cellsB] at this
  exact this
/-- out[s] = b. -/
theorem Rws.storedB {w : World} {base g n c : Nat} {bs : List Bool} (h : Rws w base 4 1 (.slice (some ⟨g, 0, none⟩) n c) (bs.map cellsB)) (hn : bs.length = n) (j : Nat) (b : Bool) :
    Rws (w.setCell ⟨g, j, none⟩ (.bool b)) base 4 1 (.slice (some ⟨g, 0, none⟩) n c) ((bs.set j b).map cellsB) := by
  have h1 := h.toBools
  rw [hn] at h1
  have := (World.ownsRow.stored h1 j (.bool b)).1
  refine Rws.ofBools (n := n) ?_ (by rw [List.length_set]; exact hn)
  rw [List.map_set]
  exact this
def BlsP (base m : Nat) (ys : List Bool) (w : World) (v' : Value) (w' : World) : Prop :=
  ∃ A' c', v' = .slice A' m c' ∧ Rws w' base 4 1 (.slice A' m c') (ys.map cellsB) ∧ Below base w w' ∧ ∀ t', t' ≠ 4 → KeptT t' w w'
/-- append([]bool{}, ys...) -/
theorem run_append_bls (w : World) (base : Nat) (v : Value) (ys : List Bool) (A : Option Addr) (m c : Nat) (h : Rws w base 4 1 v (([] : List Bool).map cellsB)) (hy : Bools w A m ys) (h0 : 0 < m) (hm : m ≤ 1048576) (hbase : base ≤ w.heap.size) :
    ∃ v' w', (Builtin.append_ #[23, 23] 23 #[v, .slice A m c]).run Try.prog w = .ok v' w' ∧ BlsP base m ys w v' w' := by
  obtain ⟨i, hi, hz0, hz1, hz2⟩ := info_parts infoB
  have h1 := h.toBools
  have hsplit : ∀ k, v.ownBlock = some k → base ≤ k := fun k hk => (World.ownsRow.lt h1 k hk).1
  obtain ⟨b, off, rfl, hb, hc⟩ := hy.2.2 h0
  obtain ⟨v', w', hr, h2, h3, _⟩ := run_append_own (P := Try.prog) w base 23 23 4 i (.bool false) 1 1 Try.underlying23 hi hz0 hz1 hz2 rfl (by decide) v _ _ h1 ⟨b, off, none⟩ m c (ys.map Value.bool)
    (by simp [hy.1])
    (by
      intro j u hu
      have hj : j < ys.length := by
        rcases Nat.lt_or_ge j ys.length with hlt | hge
        · exact hlt
        · rw [List.getElem?_eq_none (by simpa using hge)] at hu; cases hu
      have hcj := hc j (by rw [← hy.1]; exact hj)
      rw [List.getElem?_map, List.getElem?_eq_getElem hj] at hu
      simp only [Option.map_some, Option.some.injEq] at hu
      subst hu
      rw [show (⟨b, off, none⟩ : Addr).add j = ⟨b, off + j, none⟩ by unfold Addr.add; split <;> simp_all]
      rw [hcj]; simp [List.getD, hj])
    (by intro u hu; simp at hu; rcases hu with ⟨_, rfl⟩ | ⟨_, rfl⟩ <;> rfl)
    (by simp; unfold maxLen; omega) (by simp; omega) hbase
  have hform : ∃ A' c', v' = .slice A' m c' := by
    rcases h2.2 with ⟨rfl, h4⟩ | ⟨g, cap, cur, rfl, _⟩
    · simp at h4; omega
    · exact ⟨_, _, by rw [List.length_nil, Nat.zero_add]⟩
  obtain ⟨A', c', rfl⟩ := hform
  refine ⟨_, w', hr, A', c', rfl, Rws.ofBools (n := m) ?_ hy.1, (Below.refl _ _).grown h3 hbase hsplit, fun t' ht' => KeptT.grown h3 h1 ht'⟩
  simpa using h2
theorem Rws.lit0 (W : World) (base : Nat) (hb : base ≤ W.heap.size) : Rws (W.alloc (.cells #[] 4)) base 4 1 (.slice (some ⟨W.heap.size, 0, none⟩) 0 0) (([] : List Bool).map cellsB) := by
  have := World.ownsRow_lit (e := 4) (size := 1) W #[] 0 hb (by unfold maxLen; omega) (by simp)
  exact Rws.ofBools (n := 0) (by simpa using this) rfl
/-- A row more. -/
theorem Dres.push_row2 {w : World} {base g i s : Nat} {N : List (List Int)} {A : List Bool} {AN AA : Option Addr} {cN cA : Nat} (h : Dres w base g i s N A AN AA cN cA) {B : Option Addr} {m d : Nat} {xs : List Int} (hx : Owned w base (.slice B m d) xs) (hbase : base ≤ w.heap.size) (hg : base ≤ g) (hl : N.length < 1759218604441) :
    ∃ A' c' w1, (Builtin.append_ #[22, 22] 22 #[.slice AN N.length cN, .slice (some ⟨w.heap.size, 0, none⟩) 1 1]).run Try.prog (w.alloc (.cells #[.slice B m d] 26)) = .ok (.slice A' (N.length + 1) c') w1 ∧ Below base w w1 ∧
      Dblk w1 g (.int .i64 i) (.int .i64 s) (.slice AN N.length cN) (.slice AA A.length cA) ∧ Dres (w1.setCell ⟨g, 2, none⟩ (.slice A' (N.length + 1) c')) base g i s (N ++ [xs]) A A' AA c' cA ∧ Below base w (w1.setCell ⟨g, 2, none⟩ (.slice A' (N.length + 1) c')) ∧
      (∀ t, t ≠ 26 → t ≠ 25 → KeptT t w (w1.setCell ⟨g, 2, none⟩ (.slice A' (N.length + 1) c'))) ∧ KeptM w (w1.setCell ⟨g, 2, none⟩ (.slice A' (N.length + 1) c')) := by
  obtain ⟨h1, h2, h3⟩ := h
  obtain ⟨A', c', w1, r, o, b, k, kb, mv⟩ := run_append_list h2 hx hbase hl
  have hD1 : Dblk w1 g _ _ _ _ := h1.keptT (k _ (by decide))
  refine ⟨A', c', w1, r, b, hD1, ⟨by rw [List.length_append]; exact hD1.set2 _, ?_, (h3.keptT (k _ (by decide))).keptT (KeptT.off hD1 (by decide) _)⟩, b.setCell (p := ⟨g, 2, none⟩) hg _, fun t n1 n2 => (k t n1).trans (KeptT.off hD1 n2 _), (kb.maps h2).trans (KeptM.off hD1 _)⟩
  rw [List.length_append]
  exact o.keptT (KeptT.off hD1 (by decide) _) (KeptT.off hD1 (by decide) _)
set_option maxHeartbeats 8000000 in
set_option maxRecDepth 100000 in
theorem rcopied7 (i st n : Nat) (A B : Option Addr) (c d : Nat) (nx : List (List Int)) (ac : List Bool) (w : World) (hx : Lists w A n nx) (ha : Bools w B n ac) (h0 : 0 < n) (hn : n ≤ 128) (hr6 : ∀ s, s < n → (nx.getD s []).length ≤ 1024) :
    Calls Try.prog 44 #[.agg #[.int .i64 i, .int .i64 st, .slice A n c, .slice B n d]] w fun e w' => ∃ A' c' B' d',
      e = .returned (.agg #[.int .i64 i, .int .i64 st, .slice A' n c', .slice B' n d']) ∧ OwnedL w' w.heap.size (.slice A' n c') nx ∧ Rws w' w.heap.size 4 1 (.slice B' n d') (ac.map cellsB) ∧ Below w.heap.size w w' := by
  obtain rfl := hx.1
  obtain ⟨w0, hw0, hb0, hB, hR, hz0⟩ := cpl_boxes w i st A B nx.length c nx.length d
  have HW0 := Lib.hid hw0
  have HX := Lib.hid (hx.below hb0)
  have HA := Lib.hid (fun (W : World) (h : Below w0.heap.size w0 W) => (ha.below hb0).below h)
  have HB0 := Lib.hid hb0
  have HR := Lib.hid hR
  have HZ := Lib.hid hz0
  have HCL := Lib.hid (fun (W : World) (h : Below w0.heap.size w0 W) => And.intro (hx.below (bt hb0 h)) (hB.on9 h).cells)
  clear hw0 hB hb0 hR hz0
  have HAL := Lib.hid (show ac.length = nx.length from ha.1)
  have hp : 0 < nx.length ∧ nx.length ≤ 1048576 := ⟨h0, by omega⟩
  obtain ⟨v1, u1, hr1, A1, c1, e1, hO1, hb1, hT1⟩ := run_append_bls (w0.alloc (.cells #[] 4)).drew w0.heap.size (.slice (some ⟨w0.heap.size, 0, none⟩) 0 0) ac B nx.length d ((Rws.lit0 w0 w0.heap.size (Nat.le_refl _)).kept (below_drewN (Below.refl _ _) 1)) (HA.out _ (below_drewN (alloc_below w0 _) 1)) hp.1 hp.2 (by simp)
  obtain ⟨v2, u2, hr2, A2, c2, e2, hO2, hb2, hT2⟩ := run_append_bls ((w0.alloc (.cells #[] 4)).alloc (.cells #[.int .i64 0, .int .i64 0, .slice none 0 0, .slice none 0 0] 25)).drew w0.heap.size (.slice (some ⟨w0.heap.size, 0, none⟩) 0 0) ac B nx.length d ((Rws.lit0 w0 w0.heap.size (Nat.le_refl _)).kept (below_drewN (alloc_below _ _) 1)) (HA.out _ (below_drewN ((alloc_below w0 _).alloc (by simp) _) 1)) hp.1 hp.2 (by simp; omega)
  obtain ⟨v3, u3, hr3, A3, c3, e3, hO3, hb3, hT3⟩ := run_append_bls ((w0.alloc (.cells #[.int .i64 0, .int .i64 0, .slice none 0 0, .slice none 0 0] 25)).alloc (.cells #[] 4)).drew w0.heap.size (.slice (some ⟨w0.heap.size + 1, 0, none⟩) 0 0) ac B nx.length d (by have := Rws.lit0 (w0.alloc (.cells #[.int .i64 0, .int .i64 0, .slice none 0 0, .slice none 0 0] 25)) w0.heap.size (by simp); rw [show (w0.alloc (.cells #[.int .i64 0, .int .i64 0, .slice none 0 0, .slice none 0 0] 25)).heap.size = w0.heap.size + 1 by simp] at this; exact this.kept (below_drewN (Below.refl _ _) 1)) (HA.out _ (below_drewN ((alloc_below w0 _).alloc (by simp) _) 1)) hp.1 hp.2 (by simp; omega)
  subst e1 e2 e3
  have HB1 : Below w0.heap.size w0 u1 := Below.trans (below_drewN (alloc_below _ _) 1) hb1
  have HB2 : Below w0.heap.size w0 u2 := Below.trans (below_drewN ((alloc_below _ _).alloc (by simp) _) 1) hb2
  have HB3 : Below w0.heap.size w0 u3 := Below.trans (below_drewN ((alloc_below _ _).alloc (by simp) _) 1) hb3
  have HD2 : Dblk u2 (w0.heap.size + 1) (.int .i64 0) (.int .i64 0) (.slice none 0 0) (.slice none 0 0) := hT2 _ (by decide) _ _ (by
    have := heap_alloc_new (w0.alloc (.cells #[] 4)) (.cells #[.int .i64 0, .int .i64 0, .slice none 0 0, .slice none 0 0] 25)
    rw [show (w0.alloc (.cells #[] 4)).heap.size = w0.heap.size + 1 by simp] at this
    exact this)
  have HD3 : Dblk u3 w0.heap.size (.int .i64 0) (.int .i64 0) (.slice none 0 0) (.slice none 0 0) := hT3 _ (by decide) _ _ ((((alloc_below (w0.alloc (.cells #[.int .i64 0, .int .i64 0, .slice none 0 0, .slice none 0 0] 25)) (.cells #[] 4)).block w0.heap.size (by simp))).trans (heap_alloc_new w0 _))
  have HF := Lib.hid (And.intro hO1 (And.intro hO2 hO3))
  obtain ⟨q20, q21, q22, q23, g20, g21, g22, g23⟩ := HD2.cells
  obtain ⟨q30, q31, q32, q33, g30, g31, g32, g33⟩ := HD3.cells
  have HDD := Lib.hid (And.intro HD2 HD3)
  have HBB := Lib.hid (And.intro HB1 (And.intro HB2 HB3))
  clear hO1 hO2 hO3 hb1 hb2 hb3 hT1 hT2 hT3 HD2 HD3 HB1 HB2 HB3
  go_enter Try.func44, Try.ntmps44
  go_wp2_with fail
  rw [← HW0.out]
  go_cut [3] from 5 to 13 (fun v3 wx => ∃ (g : Nat) (A2 : Option Addr) (c2 : Nat), v3 = .pointer (some ⟨g, 0, none⟩) ∧ w0.heap.size ≤ g ∧ Dres wx w0.heap.size g i st [] ac none A2 0 c2 ∧ Below w0.heap.size w0 wx)
  case first =>
    go_region_held3 (fun w' => w'.cell? ⟨w.heap.size, 0, none⟩ = some (.int .i64 i) ∧ w'.cell? ⟨w.heap.size, 1, none⟩ = some (.int .i64 st) ∧ w'.cell? ⟨w.heap.size, 3, none⟩ = some (.slice B nx.length d))
      (first
        | (refine ⟨(HCL.out _ ?_).2.1, (HCL.out _ ?_).2.2.1, (HCL.out _ ?_).2.2.2.2.1⟩ <;> (first | exact below_drewN (Below.refl _ _) 1 | exact below_drewN (alloc_below _ _) 1 | exact below_drewN ((alloc_below _ _).alloc (by simp) _) 1 | exact HBB.out.1 | exact HBB.out.2.1 | exact HBB.out.2.2 | exact HBB.out.1.alloc (by have := HBB.out.1.size; simp at this ⊢; omega) _ | exact below_set4 (Nat.le_succ _) HBB.out.2.1 _ _ _ _ | exact below_set4 (Nat.le_refl _) HBB.out.2.2 _ _ _ _)))
      ((first | (refine step_app rfl _ _ _ _ rfl (.slice (some ⟨w0.heap.size, 0, none⟩) 0 0) (.slice B nx.length d) rfl rfl ?zv1 ?zw1 ?zh1 ?_; case zh1 => with_reducible exact hr1) | (refine step_app rfl _ _ _ _ rfl (.slice (some ⟨w0.heap.size, 0, none⟩) 0 0) (.slice B nx.length d) rfl rfl ?zv2 ?zw2 ?zh2 ?_; case zh2 => with_reducible exact hr2) | (refine step_app rfl _ _ _ _ rfl (.slice (some ⟨w0.heap.size + 1, 0, none⟩) 0 0) (.slice B nx.length d) rfl rfl ?zv3 ?zw3 ?zh3 ?_; case zh3 => with_reducible exact hr3)))
    all_goals
      go_wp2_with fail
      go_meet
      first
        | ((with_reducible refine ⟨u1.heap.size, A1, c1, rfl, ?_, ?_, ?_⟩); exact HBB.out.1.size; (rw [Dres, HAL.out]; exact ⟨heap_alloc_new _ _, OwnedL.nil _ _, HF.out.1.kept (alloc_below _ _)⟩); exact HBB.out.1.alloc HBB.out.1.size _)
        | ((with_reducible refine ⟨w0.heap.size + 1, A2, c2, rfl, ?_, ?_, ?_⟩); exact Nat.le_succ _; (rw [Dres, HAL.out]; exact ⟨HDD.out.1.set4 _ _ _ _, OwnedL.nil _ _, HF.out.2.1.keptT (HDD.out.1.off4 _ _ _ _ (by decide))⟩); exact below_set4 (Nat.le_succ _) HBB.out.2.1 _ _ _ _)
        | ((with_reducible refine ⟨w0.heap.size, A3, c3, rfl, ?_, ?_, ?_⟩); exact Nat.le_refl _; (rw [Dres, HAL.out]; exact ⟨HDD.out.2.set4 _ _ _ _, OwnedL.nil _ _, HF.out.2.2.keptT (HDD.out.2.off4 _ _ _ _ (by decide))⟩); exact below_set4 (Nat.le_refl _) HBB.out.2.2 _ _ _ _)
  case rest =>
    obtain ⟨g, AA, cA, rfl, hg, hD, hb⟩ := hcut
    have HD := Lib.hid hD
    have HBb := Lib.hid hb
    have HN := Lib.hid hr6
    clear hr1 hr2 hr3 HF HDD HBB q20 q21 q22 q23 g20 g21 g22 g23 q30 q31 q32 q33 g30 g31 g32 g33 hD hb hr6 ha hx
    go_wp2_with fail
    go_loopw [4] (fun v4 wr => ∃ (s : Nat) (AN : Option Addr) (cN : Nat), v4 = .int .i64 s ∧ s ≤ nx.length ∧ Dres wr w0.heap.size g i st (nx.take s) ac AN AA cN cA ∧ Below w0.heap.size w0 wr) (fun v4 _ => nx.length - (intOf v4).toNat)
    case atStart => exact ⟨0, none, 0, rfl, Nat.zero_le _, HD.out, HBb.out⟩
    case round =>
      obtain ⟨s, AN, cN, rfl, hs, hDr, hbr⟩ := hrel
      have hNl : (nx.take s).length = s := by rw [List.length_take]; omega
      obtain ⟨hL, k0, k1, k2, k3, _⟩ := HCL.out _ hbr
      by_cases hlt : s < nx.length
      · obtain ⟨gA, oA, A1, n1, c1, rfl, hgA, hdA, hrA0⟩ := HX.out.at_ hlt
        have hrA := hrA0.below hbr
        have hzr := hbr.size
        have hl1 := HN.out s hlt
        obtain ⟨v6, w6, hr6, ho6, _, hb6⟩ := run_append_ints (wr.alloc (.cells #[] 3)).drew wr.heap.size (.slice (some ⟨wr.heap.size, 0, none⟩) 0 0) [] (nx.getD s []) A1 n1 c1
          ((Owned.literal wr wr.heap.size [] #[] 0 (Nat.le_refl _) rfl rfl (by simp)).kept (below_drewN (Below.refl _ _) 1)) (hrA.below (below_drewN (alloc_below _ _) 1)) (by simp) (by rw [List.nil_append]; omega)
        rw [List.nil_append] at ho6
        obtain ⟨A6, c6, rfl⟩ := ho6.form
        have hB6 : Below wr.heap.size wr w6 := (below_drewN (alloc_below wr _) 1).trans hb6
        have hD6 := hDr.kept hB6
        have hz6 := hB6.size
        obtain ⟨A7, c7, w7, hr7, hb7, hK7, hR8, hB8, _, _⟩ := hD6.push_row2 (ho6.lower hzr) (show w0.heap.size ≤ w6.heap.size by omega) hg (by rw [hNl]; omega)
        rw [hNl] at hr7 hK7
        rw [hNl] at hR8 hB8
        have hb06 := hbr.trans (hB6.mono hzr)
        have HS := Lib.hid (fun (W : World) (h : Below w0.heap.size w0 W) => show W.cell? ⟨w.heap.size, 2, none⟩ = some (.slice (some ⟨gA, oA, none⟩) nx.length c) ∧ W.cell? ⟨gA, oA + s, none⟩ = some (.slice A1 n1 c1) from ⟨(HCL.out W h).2.2.2.1, (h.cell (p := ⟨gA, oA + s, none⟩) hgA).trans hdA⟩)
        obtain ⟨_, _, y2, _, _, _, f2, _⟩ := hDr.1.cells
        rw [hNl] at y2
        have y2a := ((alloc_below wr (.cells #[] 3)).cell (p := ⟨g, 2, none⟩) (heap_lt hDr.1)).trans y2
        have y2b := (hB6.cell (p := ⟨g, 2, none⟩) (heap_lt hDr.1)).trans y2
        obtain ⟨A6s, hA6s⟩ : ∃ V, V = Value.slice A6 (nx.getD s []).length c6 := ⟨_, rfl⟩
        have y2c := ((alloc_below w6 (.cells #[.slice A6 (nx.getD s []).length c6] 26)).cell (p := ⟨g, 2, none⟩) (Nat.lt_of_lt_of_le (heap_lt hDr.1) hz6)).trans y2b
        obtain ⟨_, _, z2, _, _, _, f2', _⟩ := hK7.cells
        have HB := Lib.hid (And.intro hbr (And.intro hb06 (hb06.trans hb7)))
        have HRR := Lib.hid (And.intro hR8 (hb06.trans hB8))
        have hi0 : (0 : Int) ≤ (s : Int) := by omega
        have hi1 : (s : Int) < (nx.length : Int) := by omega
        have hLN := Lib.hid (show nx.take s ++ [nx.getD s []] = nx.take (s + 1) by
          rw [List.take_succ_eq_append_getElem hlt, List.getD_eq_getElem?_getD, List.getElem?_eq_getElem hlt]; rfl)
        have HZ6 := Lib.hid hz6
        have HZR := Lib.hid hzr
        generalize hn6 : (nx.getD s []).length = n6 at hr6 hr7 y2c hl1
        clear hL k0 k1 k3 hdA hrA hrA0 ho6 hb6 hB6 hD6 hb7 hK7 hR8 hB8 hb06 hDr hbr hn6 hA6s
        go_wp2_with fail
        obtain ⟨x1, x2⟩ := HS.out _ HB.out.1
        obtain ⟨x1a, x2a⟩ := HS.out _ (HB.out.1.alloc HZR.out (.cells #[] 3))
        go_region_law (first | (refine step_app rfl _ _ _ _ rfl (.slice (some ⟨wr.heap.size, 0, none⟩) 0 0) (.slice A1 n1 c1) rfl rfl ?zv71 ?zw71 ?zh71 ?_; case zh71 => with_reducible exact hr6) | (refine step_app rfl _ _ _ _ rfl (.slice AN s cN) (.slice (some ⟨w6.heap.size, 0, none⟩) 1 1) rfl rfl ?zv72 ?zw72 ?zh72 ?_; case zh72 => with_reducible exact hr7))
        all_goals
          clear y2 y2a y2b y2c z2 f2 f2' x1 x2 x1a x2a hr6 hr7
          go_wp2_with fail
          go_roundw
          case rel => exact ⟨s + 1, A7, c7, by go_num, by omega, by rw [← hLN.out]; exact HRR.out.1, HRR.out.2⟩
          case measure => simp [intOf]; omega
      · obtain rfl : s = nx.length := by omega
        have HT := Lib.hid (show nx.take nx.length = nx from List.take_length)
        have h9 := hDr
        rw [HT.out] at h9
        have hal : ac.length = nx.length := HAL.out
        rw [Dres, hal] at h9
        obtain ⟨y0, y1, y2, y3, _⟩ := h9.1.cells
        have H9 := Lib.hid h9
        have HBR := Lib.hid (bt HB0.out hbr)
        have HZ0 := Lib.hid HB0.out.size
        have hzz := HZ.out
        have HRr := Lib.hid (HR.out.kept hbr (show w.heap.size + 1 < w0.heap.size by omega))
        obtain ⟨q0, q1, q2, q3, z0, z1, z2, z3⟩ := HRr.out.cells
        clear hzz h9 hL hDr hbr hal hNl
        go_wp2_with fail
        (try simp only [Exit.inBlock, Exit.then])
        refine bodyPost_ret (results_dfa1 rfl _ _ (w.heap.size + 1) _ _ _ _ rfl (HRr.out.set4 _ _ _ _)) rfl ?_
        refine ⟨AN, cN, AA, cA, rfl, ?_, ?_, below_set4 (Nat.le_succ _) HBR.out _ _ _ _⟩
        · exact (H9.out.2.1.keptT (HRr.out.off4 _ _ _ _ (by decide)) (HRr.out.off4 _ _ _ _ (by decide))).lower HZ0.out
        · exact (H9.out.2.2.keptT (HRr.out.off4 _ _ _ _ (by decide))).lower HZ0.out
end Go.Proofs.Ythjnghldedfdoaa
end

section
/- The reference's complement. -/
namespace Go.Proofs.Ythjnghldedfdoaa
open Go.RowKit

/-- A list of truth values by its entries. -/
def Rowb (bs : List Bool) (n : Nat) (f : Nat → Bool) : Prop := bs.length = n ∧ ∀ s, s < n → bs.getD s false = f s
theorem Rowb.set {bs : List Bool} {n : Nat} {f : Nat → Bool} (h : Rowb bs n f) {j : Nat} (hj : j < n) (u : Bool) : Rowb (bs.set j u) n fun s => if s = j then u else f s := by
  refine ⟨by rw [List.length_set]; exact h.1, fun s hs => ?_⟩
  rw [List.getD_eq_getElem?_getD, List.getElem?_set]
  by_cases e : j = s
  · subst e; rw [if_pos rfl, if_pos (by rw [h.1]; exact hj)]; simp
  · rw [if_neg e, ← List.getD_eq_getElem?_getD, h.2 s hs]
    show f s = if s = j then u else f s
    rw [if_neg (Ne.symm e)]
theorem Rowb.congr {bs : List Bool} {n : Nat} {f g : Nat → Bool} (h : Rowb bs n f) (e : ∀ s, s < n → f s = g s) : Rowb bs n g := ⟨h.1, fun s hs => (h.2 s hs).trans (e s hs)⟩
theorem Rws.headB {w : World} {base n c : Nat} {A : Option Addr} {bs : List Bool} (h : Rws w base 4 1 (.slice A n c) (bs.map cellsB)) (hn : bs.length = n) (h0 : 0 < n) :
    ∃ g, A = some ⟨g, 0, none⟩ ∧ base ≤ g ∧ g < w.heap.size ∧ (∀ j, w.frozen? ⟨g, j, none⟩ = false) ∧ ∀ j, j < n → w.cell? ⟨g, j, none⟩ = some (.bool (bs.getD j false)) := by
  obtain ⟨g, c', e, h1, h2, _, h4⟩ := h.at_ (by rw [List.length_map]; omega)
  cases e
  refine ⟨g, rfl, h1, h2, fun j => ?_, fun j hj => ?_⟩
  · rcases h.2.2 with ⟨e, _⟩ | ⟨g', cap, cur, e, _, hg, _⟩
    · cases e
    · cases e
      exact frozen_of_row w g j cur 4 hg
  · have := h4 j 0 (by rw [List.length_map]; omega) (by omega)
    rw [Nat.mul_one, Nat.add_zero] at this
    have hjb : j < bs.length := by omega
    rw [this, List.getD_eq_getElem?_getD, List.getElem?_map, List.getElem?_eq_getElem hjb, List.getD_eq_getElem?_getD, List.getElem?_eq_getElem hjb]
    rfl
set_option maxHeartbeats 4000000 in
set_option maxRecDepth 100000 in
theorem rcompl7_bad (i st : Int) (A B : Option Addr) (n c m d : Nat) (nx : List (List Int)) (ac : List Bool) (w : World) (hx : Lists w A n nx) (ha : Bools w B m ac) (hv : ¬ vldD i st nx ac = 0) :
    Calls Try.prog 15 #[.agg #[.int .i64 i, .int .i64 st, .slice A n c, .slice B m d]] w fun e w' => e = .returned (.tuple #[.agg #[.int .i64 0, .int .i64 0, .slice none 0 0, .slice none 0 0], .int .i64 (vldD i st nx ac)]) ∧ Below w.heap.size w w' := by
  obtain ⟨w0, hw0, hb0, hB, hR, hz0⟩ := cpl_boxes w i st A B n c m d
  obtain ⟨k0, k1, k2, k3, _⟩ := hB.cells
  obtain ⟨x, hx0, hxe⟩ : ∃ x, ¬ x = 0 ∧ vldD i st nx ac = x := ⟨_, hv, rfl⟩
  have HXE := Lib.hid hxe
  have t1 : (x != 0) = true := by simpa using hx0
  have HW0 := Lib.hid hw0
  have HX := Lib.hid (hx.below hb0)
  have HLA := Lib.hid ha.1
  have hm := ha.2.1
  have HB0 := Lib.hid hb0
  have HB := Lib.hid hB
  have HR := Lib.hid hR
  have HZ := Lib.hid hz0
  clear hv hxe hw0 hB hb0 hR hz0
  rw [HW0.out] at k0 k1 k2 k3
  go_enter Try.func15, Try.ntmps15
  go_wp2_with fail
  rw [← HW0.out]
  refine (rval7 _ _ _ _ _ _ _ _ _ _ _ HX.out HLA.out hm).mono ?_
  rintro e w1 ⟨rfl, b1⟩
  rw [HXE.out]
  have HB1 := Lib.hid b1
  clear k0 k1 k2 k3
  obtain ⟨k0, k1, k2, k3, _⟩ := (HB.out.on9 b1).cells
  clear b1
  go_wp2_with fail
  refine (rval7 _ _ _ _ _ _ _ _ _ _ _ (HX.out.below HB1.out) HLA.out hm).mono ?_
  rintro e w2 ⟨rfl, b2⟩
  rw [HXE.out]
  have hzz := HZ.out
  have HRr := Lib.hid (HR.out.kept (bt HB1.out b2) (show w.heap.size + 1 < w0.heap.size by omega))
  obtain ⟨q0, q1, q2, q3, z0, z1, z2, z3⟩ := HRr.out.cells
  clear hzz k0 k1 k2 k3
  go_wp2_with fail
  refine bodyPost_ret (results_dfa rfl _ _ (w.heap.size + 1) (.int .i64 0) (.int .i64 0) (.slice none 0 0) (.slice none 0 0) rfl (HRr.out.set4 _ _ _ _)) rfl ?_
  exact ⟨by rw [HXE.out]; rfl, below_set4 (by omega) (bt HB0.out (bt HB1.out b2)) _ _ _ _⟩
set_option maxHeartbeats 8000000 in
set_option maxRecDepth 100000 in
theorem rcompl7 (i st n : Nat) (A B : Option Addr) (c d : Nat) (nx : List (List Int)) (ac : List Bool) (w : World) (hx : Lists w A n nx) (ha : Bools w B n ac) (hM : Dok i st n nx ac) :
    Calls Try.prog 15 #[.agg #[.int .i64 i, .int .i64 st, .slice A n c, .slice B n d]] w fun e w' => ∃ A' c' B' d',
      e = .returned (.tuple #[.agg #[.int .i64 i, .int .i64 st, .slice A' n c', .slice B' n d'], .int .i64 0]) ∧ OwnedL w' w.heap.size (.slice A' n c') nx ∧ Rws w' w.heap.size 4 1 (.slice B' n d') ((ac.map fun b => !b).map cellsB) ∧ Below w.heap.size w w' := by
  obtain ⟨w0, hw0, hb0, hB, hR, hz0⟩ := cpl_boxes w i st A B n c n d
  obtain ⟨k0, k1, k2, k3, _⟩ := hB.cells
  have hn := hM.n2
  have h0 := hM.n1
  have HV := Lib.hid hM.vld
  have HW0 := Lib.hid hw0
  have HX := Lib.hid (hx.below hb0)
  have HA := Lib.hid (ha.below hb0)
  have HB0 := Lib.hid hb0
  have HB := Lib.hid hB
  have HR := Lib.hid hR
  have HZ := Lib.hid hz0
  have HM := Lib.hid hM
  clear hw0 hB hb0 hR hM hz0
  rw [HW0.out] at k0 k1 k2 k3
  go_enter Try.func15, Try.ntmps15
  go_wp2_with fail
  rw [← HW0.out]
  refine (rval7 _ _ _ _ _ _ _ _ _ _ _ HX.out HA.out.1 (by omega)).mono ?_
  rintro e w1 ⟨rfl, b1⟩
  rw [HV.out]
  clear k0 k1 k2 k3
  obtain ⟨k0, k1, k2, k3, _⟩ := (HB.out.on9 b1).cells
  have HB1 := Lib.hid b1
  clear b1
  go_wp2_with fail
  refine (rcopied7 i st n A B c d nx ac w1 (HX.out.below HB1.out) (HA.out.below HB1.out) h0 hn (fun s hs => by rw [(HM.out.row s hs).1]; exact HM.out.i2)).mono ?_
  rintro e w2 ⟨A2, c2, B2, d2, rfl, oL, oB, b2⟩
  have HAL := Lib.hid ha.1
  obtain ⟨gB, eB, hgB, hgB2, _, _⟩ := oB.headB HAL.out h0
  subst eB
  obtain ⟨W3, hW3⟩ : ∃ W3, W3 = w2.alloc (.cells #[.int .i64 i, .int .i64 st, .slice A2 n c2, .slice (some ⟨gB, 0, none⟩) n d2] 25) := ⟨_, rfl⟩
  have b3 : Below w2.heap.size w2 W3 := by rw [hW3]; exact alloc_below _ _
  have D3 : Dblk W3 w2.heap.size (.int .i64 i) (.int .i64 st) (.slice A2 n c2) (.slice (some ⟨gB, 0, none⟩) n d2) := by rw [hW3]; exact dfa_box _ _ _ _ _
  have HW3 := Lib.hid hW3
  have hz2 := b2.size
  have HP := Lib.hid (And.intro D3 (And.intro (oB.kept b3) (And.intro (oL.kept b3) (bt b2 b3))))
  clear k0 k1 k2 k3 oL oB b2 b3 D3 hW3
  go_wp2_with fail
  rw [← HW3.out]
  have hgl : w1.heap.size ≤ w2.heap.size := hz2
  clear HW3
  go_loopw [5] (fun v5 wr => ∃ (s : Nat) (bs : List Bool), v5 = .int .i64 s ∧ s ≤ n ∧ Rowb bs n (fun j => if j < s then !(aN ac j) else aN ac j) ∧ Dblk wr w2.heap.size (.int .i64 i) (.int .i64 st) (.slice A2 n c2) (.slice (some ⟨gB, 0, none⟩) n d2) ∧ Rws wr w1.heap.size 4 1 (.slice (some ⟨gB, 0, none⟩) n d2) (bs.map cellsB) ∧ OwnedL wr w1.heap.size (.slice A2 n c2) nx ∧ Below w1.heap.size w1 wr) (fun v5 _ => n - (intOf v5).toNat)
  case atStart => exact ⟨0, ac, rfl, Nat.zero_le _, ⟨HAL.out, fun s hs => by simp [aN]⟩, HP.out.1, HP.out.2.1, HP.out.2.2.1, HP.out.2.2.2⟩
  case round =>
    obtain ⟨s, bs, rfl, hs, hR1, hD, hS, hL, hbr⟩ := hrel
    have HR1 := Lib.hid hR1
    obtain ⟨y0, y1, y2, y3, _⟩ := hD.cells
    by_cases hlt : s < n
    · obtain ⟨g', eg, _, _, hfz, hcc⟩ := hS.headB hR1.1 h0
      cases eg
      have f1 := hfz s
      have x1 := hcc s hlt
      have hbl : ∃ cur, wr.heap[gB]? = some (.cells cur 4 (0, 0)) := by
        rcases hS.2.2 with ⟨e, _⟩ | ⟨g', cap, cur, e, _, hg, _⟩
        · cases e
        · cases e; exact ⟨cur, hg⟩
      obtain ⟨cur, hbl⟩ := hbl
      have hx2 := hR1.2 s hlt
      simp only [Nat.lt_irrefl, if_false] at hx2
      rw [hx2] at x1
      have hi0 : (0 : Int) ≤ (s : Int) := by omega
      have hi1 : (s : Int) < (n : Int) := by omega
      have HN := Lib.hid (And.intro ((hR1.set hlt (!(aN ac s))).congr (g := fun j => if j < s + 1 then !(aN ac j) else aN ac j) fun j hj => by
        by_cases e : j = s
        · subst e; simp
        · have e2 : (j < s + 1) = (j < s) := propext ⟨fun h => by omega, fun h => by omega⟩
          simp [e, e2]) (And.intro (hD.keptT (KeptT.off (k := s) hbl (by decide) (.bool (!(aN ac s))))) (And.intro (hS.storedB hR1.1 s (!(aN ac s))) (And.intro (hL.keptT (KeptT.off (k := s) hbl (by decide) (.bool (!(aN ac s)))) (KeptT.off (k := s) hbl (by decide) (.bool (!(aN ac s))))) (hbr.setCell (p := ⟨gB, s, none⟩) hgB (.bool (!(aN ac s))))))))
      generalize aN ac s = x at x1 HN
      clear hR1 hD hS hL hbr hfz hcc hbl hx2
      go_wp2_with fail
      go_region
      go_wp2_with fail
      go_roundw
      case rel => exact ⟨s + 1, bs.set s (!x), by go_num, by omega, HN.out.1, HN.out.2.1, HN.out.2.2.1, HN.out.2.2.2.1, HN.out.2.2.2.2.drew⟩
      case measure => simp [intOf]; omega
    · obtain rfl : s = n := by omega
      have HBE := Lib.hid (show bs = ac.map fun b => !b from list_ext_d false (by rw [hR1.1, List.length_map, HAL.out]) fun j hj => by
        rw [hR1.1] at hj
        rw [hR1.2 j hj]
        show (if j < s then !aN ac j else aN ac j) = _
        rw [if_pos hj, List.getD_eq_getElem?_getD, List.getElem?_map, List.getElem?_eq_getElem (by rw [HAL.out]; exact hj)]
        unfold aN
        rw [List.getD_eq_getElem?_getD, List.getElem?_eq_getElem (by rw [HAL.out]; exact hj)]
        rfl)
      have hzz := HZ.out
      have HRr := Lib.hid (HR.out.kept (bt HB1.out hbr) (show w.heap.size + 1 < w0.heap.size by omega))
      obtain ⟨q0, q1, q2, q3, z0, z1, z2, z3⟩ := HRr.out.cells
      have HBR := Lib.hid (bt HB0.out (bt HB1.out hbr))
      have HZ1 := Lib.hid (bt HB0.out HB1.out).size
      have HH := Lib.hid (And.intro hL hS)
      clear hzz hR1 hD hS hL hbr
      go_wp2_with fail
      refine bodyPost_ret (results_dfa rfl _ _ (w.heap.size + 1) _ _ _ _ rfl (HRr.out.set4 _ _ _ _)) rfl ?_
      refine ⟨A2, c2, some ⟨gB, 0, none⟩, d2, rfl, ?_, ?_, below_set4 (by omega) HBR.out _ _ _ _⟩
      · exact (HH.out.1.keptT (HRr.out.off4 _ _ _ _ (by decide)) (HRr.out.off4 _ _ _ _ (by decide))).lower HZ1.out
      · have := HH.out.2
        rw [HBE.out] at this
        exact (this.keptT (HRr.out.off4 _ _ _ _ (by decide))).lower HZ1.out
end Go.Proofs.Ythjnghldedfdoaa
end

section
/- The reference's Shortest and Differ. -/
namespace Go.Proofs.Ythjnghldedfdoaa
open Go.RowKit

theorem fdG_wl {st n st' n' : Nat} {E : List Ent} (h : Ens n n' st st' E) (hl : E.length ≤ 16384) : ∀ u, u ∈ wsE E → u.length ≤ 17592186044416 := fun u h9 => by
  obtain ⟨m, hm, e8⟩ := List.mem_iff_getElem.1 h9
  rw [wsE_len] at hm
  have h1 := wsE_at hm
  rw [List.getD_eq_getElem?_getD, List.getElem?_eq_getElem (by rw [wsE_len]; exact hm)] at h1
  have h2 := h.wl m hm
  have h3 : u = (E.getD m Ent.zero).w := by rw [← e8]; exact h1
  rw [h3]; omega
theorem fw_len {n m s t : Nat} {E : List Ent} (h : Ens n m s t E) (wd : Nat × Nat → Bool) : (fwR wd E).1.length = 0 ∨ (fwR wd E).1.length < E.length := by
  unfold fwR fwE
  cases hf : E.find? fun e => wd e.pr with
  | none => exact .inl rfl
  | some e =>
    right
    obtain ⟨_, k, hk, e1, _⟩ := List.find?_eq_some_iff_getElem.1 hf
    have h1 := h.wl k hk
    rw [← getDE_at hk, e1] at h1
    show e.w.length < _
    omega
set_option maxHeartbeats 2000000 in
set_option maxRecDepth 100000 in
theorem rshort7_bad (i st : Int) (A B : Option Addr) (n c m d : Nat) (nx : List (List Int)) (ac : List Bool) (w : World) (hx : Lists w A n nx) (ha : Bools w B m ac) (hv : ¬ vldD i st nx ac = 0) :
    Calls Try.prog 17 #[.agg #[.int .i64 i, .int .i64 st, .slice A n c, .slice B m d]] w fun e w' => e = .returned (.tuple #[.slice none 0 0, .bool false, .int .i64 (vldD i st nx ac)]) ∧ Below w.heap.size w w' := by
  obtain ⟨w0, hw0⟩ : ∃ w0, w0 = w.alloc (.cells #[.int .i64 i, .int .i64 st, .slice A n c, .slice B m d] 25) := ⟨_, rfl⟩
  have hb0 : Below w.heap.size w w0 := by rw [hw0]; exact alloc_below _ _
  have hB : Dblk w0 w.heap.size (.int .i64 i) (.int .i64 st) (.slice A n c) (.slice B m d) := by rw [hw0]; exact dfa_box _ _ _ _ _
  obtain ⟨k0, k1, k2, k3, _⟩ := hB.cells
  obtain ⟨x, hx0, hxe⟩ : ∃ x, ¬ x = 0 ∧ vldD i st nx ac = x := ⟨_, hv, rfl⟩
  have HXE := Lib.hid hxe
  have t1 : (x != 0) = true := by simpa using hx0
  have HW0 := Lib.hid hw0
  have HX := Lib.hid (hx.below hb0)
  have HLA := Lib.hid ha.1
  have hm := ha.2.1
  have HB0 := Lib.hid hb0
  have HB := Lib.hid hB
  clear hv hxe hw0 hB hb0
  rw [HW0.out] at k0 k1 k2 k3
  go_enter Try.func17, Try.ntmps17
  go_wp2_with fail
  rw [← HW0.out]
  refine (rval7 _ _ _ _ _ _ _ _ _ _ _ HX.out HLA.out hm).mono ?_
  rintro e w1 ⟨rfl, b1⟩
  rw [HXE.out]
  have HB1 := Lib.hid b1
  clear k0 k1 k2 k3
  obtain ⟨k0, k1, k2, k3, _⟩ := (HB.out.on9 b1).cells
  clear b1
  go_wp2_with fail
  refine (rval7 _ _ _ _ _ _ _ _ _ _ _ (HX.out.below HB1.out) HLA.out hm).mono ?_
  rintro e w2 ⟨rfl, b2⟩
  rw [HXE.out]
  go_wp2_with fail
  go_ret3
  exact ⟨by rw [HXE.out]; rfl, bt HB0.out (bt HB1.out b2)⟩
set_option maxHeartbeats 4000000 in
set_option maxRecDepth 100000 in
theorem rshort7 (i st n : Nat) (A B : Option Addr) (c d : Nat) (nx : List (List Int)) (ac : List Bool) (w : World) (hx : Lists w A n nx) (ha : Bools w B n ac) (hM : Dok i st n nx ac) :
    Calls Try.prog 17 #[.agg #[.int .i64 i, .int .i64 st, .slice A n c, .slice B n d]] w fun e w' => ∃ A' c', e = .returned (.tuple #[.slice A' (fwR (fun p => aN ac p.1) (cmE i st n st n nx nx)).1.length c', .bool (fwR (fun p => aN ac p.1) (cmE i st n st n nx nx)).2, .int .i64 0]) ∧
      Ints w' A' (fwR (fun p => aN ac p.1) (cmE i st n st n nx nx)).1.length (fwR (fun p => aN ac p.1) (cmE i st n st n nx nx)).1 ∧ Below w.heap.size w w' := by
  obtain ⟨w0, hw0⟩ : ∃ w0, w0 = w.alloc (.cells #[.int .i64 i, .int .i64 st, .slice A n c, .slice B n d] 25) := ⟨_, rfl⟩
  have hb0 : Below w.heap.size w w0 := by rw [hw0]; exact alloc_below _ _
  have hB : Dblk w0 w.heap.size (.int .i64 i) (.int .i64 st) (.slice A n c) (.slice B n d) := by rw [hw0]; exact dfa_box _ _ _ _ _
  obtain ⟨k0, k1, k2, k3, _⟩ := hB.cells
  have HV := Lib.hid hM.vld
  have hn := hM.n2
  have HDL := Lib.hid (diag_len hM)
  have HW0 := Lib.hid hw0
  have HX := Lib.hid (fun (W : World) (h : Below w0.heap.size w0 W) => And.intro ((hx.below hb0).below h) ((ha.below hb0).below h))
  have HB0 := Lib.hid hb0
  have HB := Lib.hid (fun (W : World) (h : Below w0.heap.size w0 W) => (hB.on9 h).cells)
  have HM := Lib.hid hM
  obtain ⟨R, hR⟩ : ∃ R, R = cmE i st n st n nx nx := ⟨_, rfl⟩
  rw [← hR] at HDL ⊢
  have HR := Lib.hid hR
  clear hw0 hB hb0 hM hR
  rw [HW0.out] at k0 k1 k2 k3
  go_enter Try.func17, Try.ntmps17
  go_wp2_with fail
  rw [← HW0.out]
  refine (rval7 _ _ _ _ _ _ _ _ _ _ _ (HX.out _ (Below.refl _ _)).1 (HX.out _ (Below.refl _ _)).2.1 (by omega)).mono ?_
  rintro e w1 ⟨rfl, b1⟩
  rw [HV.out]
  have HB1 := Lib.hid b1
  clear k0 k1 k2 k3
  obtain ⟨k0, k1, k2, k3, _⟩ := HB.out _ b1
  clear b1
  go_wp2_with fail
  refine (rpairs7 i st n st n 128 A B A B c n d c n d nx nx ac ac w1 (HX.out _ HB1.out).1 (HX.out _ HB1.out).1 HM.out HM.out).mono ?_
  rintro e w2 ⟨E, T, A1, c1, A2, c2, hE, hT, hN, rfl, hP, hW, b2⟩
  rw [← HR.out] at hE
  have hTn : T = [] := by
    rcases hT with h | h
    · exact h
    · have := HDL.out; rw [hE, List.length_append] at this; omega
  subst hTn
  rw [List.append_nil] at hE
  subst hE
  have hLE := HDL.out
  have HN := Lib.hid hN
  have HWL := Lib.hid (hW.lists (by rw [wsE_len]; omega) (fdG_wl hN (by omega)))
  have HPP := Lib.hid hP
  have HB2 := Lib.hid (bt HB1.out b2)
  clear hN hW hP b2 k0 k1 k2 k3 hT
  go_wp2_with fail
  go_loopw [7] (fun v7 wr => ∃ j : Nat, v7 = .int .i64 j ∧ j ≤ R.length ∧ (∀ k, k < j → aN ac (R.getD k Ent.zero).pr.1 = false) ∧ Below w2.heap.size w2 wr) (fun v7 _ => R.length - (intOf v7).toNat)
  case atStart => exact ⟨0, rfl, Nat.zero_le _, fun k h => absurd h (by omega), Below.refl _ _⟩
  case round =>
    obtain ⟨j, rfl, hj, hall, hbr⟩ := hrel
    have HALL := Lib.hid hall
    have HBR := Lib.hid hbr
    obtain ⟨k0, k1, k2, k3, _⟩ := HB.out _ (bt HB2.out hbr)
    by_cases hlt : j < R.length
    · obtain ⟨g1, c1', e1, _, hg1, _, hc1⟩ := (HPP.out.kept hbr).at_ (by rw [List.length_map]; omega)
      obtain rfl : A1 = some ⟨g1, 0, none⟩ := by injection e1
      clear e1
      have x1 := hc1 j 0 (by rw [List.length_map]; exact hlt) (by omega)
      rw [getD_mapL hlt, Nat.add_zero] at x1
      replace x1 : wr.cell? ⟨g1, j * 2, none⟩ = some (.int .i64 (R.getD j Ent.zero).p) := x1
      have hp := (HN.out.lt _ (getDE_mem hlt)).1
      obtain ⟨gB, oB, rfl, lB, xB⟩ := (HX.out _ (bt HB2.out hbr)).2.at_ hp
      have HPJ := Lib.hid (show (R.getD j Ent.zero).pr.1 = (R.getD j Ent.zero).p from rfl)
      have hAN : ac.getD (R.getD j Ent.zero).p false = aN ac (R.getD j Ent.zero).p := rfl
      rw [hAN] at xB
      have HHIT := Lib.hid (fun (hb : ∀ k, k < j → aN ac (R.getD k Ent.zero).pr.1 = false) (h : aN ac (R.getD j Ent.zero).p = true) => show fwR (fun p => aN ac p.1) R = ((R.getD j Ent.zero).w, true) by
        have h9 := fwR_hit (wd := fun p => aN ac p.1) (E := R) (T := []) hlt hb h
        rw [List.append_nil] at h9; exact h9)
      obtain ⟨g2, o2, Aw, nw, cw, e2, l2, x2, hIw⟩ := (HWL.out.below hbr).at_ (show j < R.length from hlt)
      subst e2
      rw [wsE_at hlt] at hIw
      generalize (R.getD j Ent.zero).w = u at hIw HHIT
      obtain rfl : nw = u.length := hIw.1.symm
      have HIW := Lib.hid hIw
      have b1 : (0 : Int) ≤ (j : Int) := by omega
      have b2 : (j : Int) < (R.length : Int) := by omega
      have HHN := Lib.hid (fun (h : aN ac (R.getD j Ent.zero).p = false) k (hk : k < j + 1) => show aN ac (R.getD k Ent.zero).pr.1 = false by
        by_cases e : k = j
        · subst e; exact h
        · exact HALL.out k (by omega))
      generalize (R.getD j Ent.zero).p = p at x1 hp xB HHIT HHN
      have b3 : (0 : Int) ≤ (p : Int) := by omega
      have b4 : (p : Int) < (n : Int) := by omega
      cases hac : aN ac p with
      | true =>
        rw [hac] at xB
        have HF := Lib.hid (HHIT.out HALL.out hac)
        clear hac hall hbr hc1 hIw hAN
        go_wp2_with fail
        go_quiet (fail)
        go_wp2_with fail
        go_ret3
        refine ⟨Aw, cw, by rw [HF.out]; rfl, by rw [HF.out]; exact HIW.out.below (below_drewN (Below.refl _ _) _), bt HB0.out (bt HB2.out (below_drewN HBR.out _))⟩
      | false =>
        rw [hac] at xB
        have HF := Lib.hid (HHN.out hac)
        clear hac hall hbr hc1 hIw hAN
        go_wp2_with fail
        go_quiet (fail)
        go_wp2_with fail
        go_roundw
        case rel => exact ⟨j + 1, by go_num, by omega, HF.out, below_drewN HBR.out _⟩
        case measure => simp [intOf]; omega
    · obtain rfl : j = R.length := by omega
      have d1 : decide ((R.length : Int) < (R.length : Int)) = false := decide_eq_false (by omega)
      have HF := Lib.hid (fwR_miss (wd := fun p => aN ac p.1) hall)
      clear hall hbr
      go_wp2_with fail
      go_ret3
      refine ⟨none, 0, by rw [HF.out]; rfl, by rw [HF.out]; exact ⟨rfl, by simp, fun h => absurd h (by simp)⟩, bt HB0.out (bt HB2.out HBR.out)⟩
end Go.Proofs.Ythjnghldedfdoaa
end

section
/- Both sides' results of dfa in one form, whatever is handed in. -/
namespace Go.Proofs.Ythjnghldedfdoaa
open Go.RowKit

/-- A result: an automaton and a number. -/
def AutR (V : (Int × Int × List (List Int) × List Bool) × Int) (w : World) (e : Ending) (w' : World) : Prop :=
  ∃ (A : Option Addr) (c : Nat) (B : Option Addr) (d : Nat), e = .returned (.tuple #[.agg #[.int .i64 V.1.1, .int .i64 V.1.2.1, .slice A V.1.2.2.1.length c, .slice B V.1.2.2.2.length d], .int .i64 V.2]) ∧
    Lists w' A V.1.2.2.1.length V.1.2.2.1 ∧ Bools w' B V.1.2.2.2.length V.1.2.2.2 ∧ Below w.heap.size w w'
/-- A result: a word, whether there is one, a number. -/
def WrdR (V : (List Int × Bool) × Int) (w : World) (e : Ending) (w' : World) : Prop :=
  ∃ (A : Option Addr) (c : Nat), e = .returned (.tuple #[.slice A V.1.1.length c, .bool V.1.2, .int .i64 V.2]) ∧ Ints w' A V.1.1.length V.1.1 ∧ Below w.heap.size w w'
theorem lists_none7 (w : World) : Lists w none 0 [] := ⟨rfl, by simp, fun h => absurd h (by simp)⟩
theorem bools_none7 (w : World) : Bools w none 0 [] := ⟨rfl, by simp, fun h => absurd h (by simp)⟩
theorem ints_none7 (w : World) : Ints w none 0 [] := ⟨rfl, by simp, fun h => absurd h (by simp)⟩
theorem AutR.bad {x : Int} {w w' : World} (hb : Below w.heap.size w w') : AutR ((0, 0, [], []), x) w (.returned (.tuple #[.agg #[.int .i64 0, .int .i64 0, .slice none 0 0, .slice none 0 0], .int .i64 x])) w' :=
  ⟨none, 0, none, 0, rfl, lists_none7 _, bools_none7 _, hb⟩
theorem AutR.mk {i n : Nat} {st : Int} {N : List (List Int)} {bs : List Bool} {A B : Option Addr} {c d : Nat} {w w' : World} (hN : N.length = n) (hB : bs.length = n) (hn : n ≤ 128) (hi : i ≤ 1024) (hr : ∀ s, s < n → (N.getD s []).length = i) (hO : OwnedL w' w.heap.size (.slice A n c) N) (hS : Rws w' w.heap.size 4 1 (.slice B n d) (bs.map cellsB)) (hb : Below w.heap.size w w') :
    AutR ((i, st, N, bs), 0) w (.returned (.tuple #[.agg #[.int .i64 i, .int .i64 st, .slice A n c, .slice B n d], .int .i64 0])) w' := by
  refine ⟨A, c, B, d, by simp only [hN, hB], ?_, ?_, hb⟩
  · rw [← hN] at hO
    exact hO.lists_of (i := i) (by omega) hi (by rw [hN]; exact hr)
  · rw [← hB] at hS
    exact hS.bools rfl (by omega)
def cplV (i st : Int) (nx : List (List Int)) (ac : List Bool) : (Int × Int × List (List Int) × List Bool) × Int := if vldD i st nx ac = 0 then ((i, st, nx, ac.map fun b => !b), 0) else ((0, 0, [], []), vldD i st nx ac)
section
variable (i st : Int) (A B : Option Addr) (n c m d : Nat) (nx : List (List Int)) (ac : List Bool) (w : World) (hx : Lists w A n nx) (ha : Bools w B m ac)
include hx ha
theorem pcplR : Calls Try.prog 14 #[.agg #[.int .i64 i, .int .i64 st, .slice A n c, .slice B m d]] w (AutR (cplV i st nx ac) w) := by
  by_cases hv : vldD i st nx ac = 0
  · obtain ⟨i', st', n', rfl, rfl, hM⟩ := vldD_zero hv
    obtain rfl : n = n' := by rw [← hx.1]; exact hM.nxl
    obtain rfl : n = m := by rw [← ha.1]; exact hM.acl.symm
    refine (dcompl i' st' n A B c d nx ac w hx ha hM).mono ?_
    rintro e w' ⟨A', c', B', d', rfl, h1, h2, h3⟩
    rw [show cplV (i' : Int) st' nx ac = (((i' : Int), (st' : Int), nx, ac.map fun b => !b), 0) from if_pos hv]
    exact AutR.mk hM.nxl (by rw [List.length_map]; exact hM.acl) hM.n2 hM.i2 (fun s hs => (hM.row s hs).1) h1 h2 h3
  · refine (dcompl_bad i st A B n c m d nx ac w hx ha hv).mono ?_
    rintro e w' ⟨rfl, h3⟩
    rw [show cplV i st nx ac = ((0, 0, [], []), vldD i st nx ac) from if_neg hv]
    exact AutR.bad h3
theorem rcplR : Calls Try.prog 15 #[.agg #[.int .i64 i, .int .i64 st, .slice A n c, .slice B m d]] w (AutR (cplV i st nx ac) w) := by
  by_cases hv : vldD i st nx ac = 0
  · obtain ⟨i', st', n', rfl, rfl, hM⟩ := vldD_zero hv
    obtain rfl : n = n' := by rw [← hx.1]; exact hM.nxl
    obtain rfl : n = m := by rw [← ha.1]; exact hM.acl.symm
    refine (rcompl7 i' st' n A B c d nx ac w hx ha hM).mono ?_
    rintro e w' ⟨A', c', B', d', rfl, h1, h2, h3⟩
    rw [show cplV (i' : Int) st' nx ac = (((i' : Int), (st' : Int), nx, ac.map fun b => !b), 0) from if_pos hv]
    exact AutR.mk hM.nxl (by rw [List.length_map]; exact hM.acl) hM.n2 hM.i2 (fun s hs => (hM.row s hs).1) h1 h2 h3
  · refine (rcompl7_bad i st A B n c m d nx ac w hx ha hv).mono ?_
    rintro e w' ⟨rfl, h3⟩
    rw [show cplV i st nx ac = ((0, 0, [], []), vldD i st nx ac) from if_neg hv]
    exact AutR.bad h3
end
def shV (i st : Int) (nx : List (List Int)) (ac : List Bool) : (List Int × Bool) × Int := if vldD i st nx ac = 0 then (fwR (fun p => aN ac p.1) (cmE i.toNat st.toNat nx.length st.toNat nx.length nx nx), 0) else (([], false), vldD i st nx ac)
section
variable (i st : Int) (A B : Option Addr) (n c m d : Nat) (nx : List (List Int)) (ac : List Bool) (w : World) (hx : Lists w A n nx) (ha : Bools w B m ac)
include hx ha
theorem pshR : Calls Try.prog 16 #[.agg #[.int .i64 i, .int .i64 st, .slice A n c, .slice B m d]] w (WrdR (shV i st nx ac) w) := by
  by_cases hv : vldD i st nx ac = 0
  · obtain ⟨i', st', n', rfl, rfl, hM⟩ := vldD_zero hv
    obtain rfl : n = n' := by rw [← hx.1]; exact hM.nxl
    obtain rfl : n = m := by rw [← ha.1]; exact hM.acl.symm
    refine (dshortest i' st' n A B c d nx ac w hx ha hM).mono ?_
    rintro e w' ⟨A', c', rfl, h1, h3⟩
    rw [show shV (i' : Int) st' nx ac = (fwR (fun p => aN ac p.1) (cmE i' st' n st' n nx nx), 0) by unfold shV; rw [if_pos hv, hx.1]; simp only [Int.toNat_natCast]]
    refine ⟨A', c', rfl, h1.ints ?_, h3⟩
    have hl := diag_len hM
    have := hM.n2
    rcases fw_len (cm_ens hM hM) (fun p => aN ac p.1) with h | h <;> omega
  · refine (dshortest_bad i st A B n c m d nx ac w hx ha hv).mono ?_
    rintro e w' ⟨rfl, h3⟩
    rw [show shV i st nx ac = (([], false), vldD i st nx ac) from if_neg hv]
    exact ⟨none, 0, rfl, ints_none7 _, h3⟩
theorem rshR : Calls Try.prog 17 #[.agg #[.int .i64 i, .int .i64 st, .slice A n c, .slice B m d]] w (WrdR (shV i st nx ac) w) := by
  by_cases hv : vldD i st nx ac = 0
  · obtain ⟨i', st', n', rfl, rfl, hM⟩ := vldD_zero hv
    obtain rfl : n = n' := by rw [← hx.1]; exact hM.nxl
    obtain rfl : n = m := by rw [← ha.1]; exact hM.acl.symm
    refine (rshort7 i' st' n A B c d nx ac w hx ha hM).mono ?_
    rintro e w' ⟨A', c', rfl, h1, h3⟩
    rw [show shV (i' : Int) st' nx ac = (fwR (fun p => aN ac p.1) (cmE i' st' n st' n nx nx), 0) by unfold shV; rw [if_pos hv, hx.1]; simp only [Int.toNat_natCast]]
    exact ⟨A', c', rfl, h1, h3⟩
  · refine (rshort7_bad i st A B n c m d nx ac w hx ha hv).mono ?_
    rintro e w' ⟨rfl, h3⟩
    rw [show shV i st nx ac = (([], false), vldD i st nx ac) from if_neg hv]
    exact ⟨none, 0, rfl, ints_none7 _, h3⟩
end
end Go.Proofs.Ythjnghldedfdoaa
end
