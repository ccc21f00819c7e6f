/- Lemmas of the proofs of this seat, of the parts Dsm7, Dawk. Conditions: none. -/
import Derived.Test.YthjnghldedfdoaaNae
import Derived.Test.YthjnghldedfdoaaNag
import Derived.Test.YthjnghldedfdoaaNaf
section
/- The reference's Same of automata. -/
namespace Go.Proofs.Ythjnghldedfdoaa
open Go.RowKit

set_option maxHeartbeats 2000000 in
set_option maxRecDepth 100000 in
theorem rsame7 (i st i' st' : Int) (A B A' B' : Option Addr) (n c m d n' c' m' d' : Nat) (nx nx' : List (List Int)) (ac ac' : List Bool) (b : Bool) (w : World) (hx : Lists w A n nx) (ha : Bools w B m ac) (hx' : Lists w A' n' nx') (ha' : Bools w B' m' ac')
    (hb : b = decide (i = i' ∧ st = st' ∧ nx = nx' ∧ ac = ac')) :
    Calls Try.prog 20 #[.agg #[.int .i64 i, .int .i64 st, .slice A n c, .slice B m d], .agg #[.int .i64 i', .int .i64 st', .slice A' n' c', .slice B' m' d']] w fun e w' =>
      e = .returned (.bool b) ∧ Below w.heap.size w w' := by
  obtain ⟨w0, hw0, hb0, hB, hB'⟩ := two_boxes w i st i' st' A B A' B' n c m d n' c' m' d'
  obtain ⟨k0, k1, k2, k3, _⟩ := hB.cells
  obtain ⟨j0, j1, j2, j3, _⟩ := hB'.cells
  have HW0 := Lib.hid hw0
  have HB0 := Lib.hid hb0
  have HX := Lib.hid (hx.below hb0)
  have HA := Lib.hid (ha.below hb0)
  have HX' := Lib.hid (hx'.below hb0)
  have HA' := Lib.hid (ha'.below hb0)
  have HBX := Lib.hid (fun (q : Nat) => (hB.kept (below_drewN (Below.refl w0.heap.size w0) q) (by have := hB.on9 (Below.refl _ _); exact heap_lt hB)).cells)
  have HBX' := Lib.hid (fun (q : Nat) => (hB'.kept (below_drewN (Below.refl w0.heap.size w0) q) (heap_lt hB')).cells)
  have HBD := Lib.hid (fun (W : World) (h : Below w0.heap.size w0 W) => hB.on9 h)
  have HBD' := Lib.hid (fun (W : World) (h : Below w0.heap.size w0 W) => hB'.on9 h)
  have L1 := Lib.hid ha.1
  have L2 := Lib.hid ha'.1
  have hm := ha.2.1
  have hm' := ha'.2.1
  clear hw0 hb0 hB hB'
  rw [HW0.out] at k0 k1 k2 k3 j0 j1 j2 j3
  by_cases h1 : i = i'
  · by_cases h2 : st = st'
    · have z1 : (i != i') = false := by simpa using h1
      have z2 : (st != st') = false := by simpa using h2
      have H12 := Lib.hid (And.intro h1 h2)
      clear h1 h2
      by_cases h3 : nx = nx'
      · have H3 := Lib.hid ((decide_eq_true h3).symm)
        have H3' := Lib.hid h3
        clear h3
        by_cases h4 : m = m'
        · subst h4
          have z3 : ((m : Int) != (m : Int)) = false := by simp
          have HB := Lib.hid (show b = decide (ac = ac') by rw [hb, decide_eq_decide]; exact ⟨fun H => H.2.2.2, fun H => ⟨H12.out.1, H12.out.2, H3'.out, H⟩⟩)
          clear hb
          go_enter Try.func20, Try.ntmps20
          go_wp2_with fail
          rw [← HW0.out]
          refine (rsameWords _ _ _ _ _ _ _ _ _ _ HX.out HX'.out H3.out).mono ?_
          rintro e w1 ⟨rfl, q1, rfl⟩
          clear k0 k1 k2 k3 j0 j1 j2 j3
          obtain ⟨k0, k1, k2, k3, _⟩ := HBX.out q1
          obtain ⟨j0, j1, j2, j3, _⟩ := HBX'.out q1
          go_wp2_with fail
          clear k0 k1 k2 k3 j0 j1 j2 j3
          go_loopw [5] (fun v wr => ∃ j : Nat, j ≤ m ∧ v = .int .i64 j ∧ AgreeL false ac ac' j ∧ ∃ q, wr = w0.drewN q) (fun v _ => m - (intOf v).toNat)
          case atStart => exact ⟨0, Nat.zero_le _, rfl, AgreeL.zero _ _ _, q1, rfl⟩
          case round =>
            obtain ⟨j, hj, rfl, heq, hw⟩ := hrel
            have HE := Lib.hid heq
            clear heq
            have HBR := Lib.hid (show Below w0.heap.size w0 wr by obtain ⟨q, rfl⟩ := hw; exact below_drewN (Below.refl _ _) q)
            have HW := Lib.hid hw
            obtain ⟨k0, k1, k2, k3, _⟩ := show _ ∧ _ ∧ _ ∧ _ ∧ _ from (show Dblk wr _ _ _ _ _ from HBD.out wr HBR.out).cells
            obtain ⟨j0, j1, j2, j3, _⟩ := (show Dblk wr _ _ _ _ _ from HBD'.out wr HBR.out).cells
            clear hw
            by_cases hlt : j < m
            · obtain ⟨g1, o1, e1, _, hc1⟩ := (HA.out.below HBR.out).at_ hlt
              obtain ⟨g2, o2, e2, _, hc2⟩ := (HA'.out.below HBR.out).at_ hlt
              subst e1 e2
              by_cases he : ac.getD j false = ac'.getD j false
              · have hnx := Lib.hid (HE.out.succ he)
                rw [← he] at hc2
                clear he
                generalize ac.getD j false = a1 at hc1 hc2
                cases a1 <;>
                · go_wp2_with fail
                  go_region
                  go_wp2_with fail
                  go_roundw
                  case rel => exact ⟨j + 1, by omega, by go_num, hnx.out, drew_more HW.out _⟩
                  case measure => simp [intOf]; omega
              · have HF := Lib.hid (HB.out.trans (decide_eq_false fun e => he (by rw [e])))
                rw [show ac'.getD j false = !ac.getD j false by revert he; cases ac.getD j false <;> cases ac'.getD j false <;> simp] at hc2
                clear he
                generalize ac.getD j false = a1 at hc1 hc2
                cases a1 <;>
                · simp only [Bool.not_true, Bool.not_false] at hc2
                  go_wp2_with fail
                  go_region
                  go_wp2_with fail
                  go_ret
                  exact ⟨by rw [HF.out]; rfl, bt HB0.out (below_drewN HBR.out 1)⟩
            · obtain rfl : j = m := by omega
              have HF := Lib.hid (HB.out.trans (decide_eq_true (HE.out.all L1.out L2.out)))
              go_wp2_with fail
              go_ret
              exact ⟨by rw [HF.out]; rfl, bt HB0.out HBR.out⟩
        · have z3 : ((m : Int) != (m' : Int)) = true := by simp; omega
          have HF := Lib.hid (hb.trans (decide_eq_false fun H => h4 (by rw [← L1.out, ← L2.out, H.2.2.2])))
          clear hb h4
          go_enter Try.func20, Try.ntmps20
          go_wp2_with fail
          rw [← HW0.out]
          refine (rsameWords _ _ _ _ _ _ _ _ _ _ HX.out HX'.out H3.out).mono ?_
          rintro e w1 ⟨rfl, q1, rfl⟩
          clear k0 k1 k2 k3 j0 j1 j2 j3
          obtain ⟨k0, k1, k2, k3, _⟩ := HBX.out q1
          obtain ⟨j0, j1, j2, j3, _⟩ := HBX'.out q1
          go_wp2_with fail
          go_ret
          exact ⟨by rw [HF.out]; rfl, bt HB0.out (below_drewN (Below.refl _ _) _)⟩
      · have H3 := Lib.hid ((decide_eq_false h3).symm)
        have HF := Lib.hid (hb.trans (decide_eq_false fun H => h3 H.2.2.1))
        clear hb h3
        go_enter Try.func20, Try.ntmps20
        go_wp2_with fail
        rw [← HW0.out]
        refine (rsameWords _ _ _ _ _ _ _ _ _ _ HX.out HX'.out H3.out).mono ?_
        rintro e w1 ⟨rfl, q1, rfl⟩
        go_wp2_with fail
        go_ret
        exact ⟨by rw [HF.out]; rfl, bt HB0.out (below_drewN (Below.refl _ _) _)⟩
    · have z1 : (i != i') = false := by simpa using h1
      have z2 : (st != st') = true := by simpa using h2
      have HF := Lib.hid (hb.trans (decide_eq_false fun H => h2 H.2.1))
      clear hb h1 h2
      go_enter Try.func20, Try.ntmps20
      go_wp2_with fail
      rw [← HW0.out]
      go_ret
      exact ⟨by rw [HF.out]; rfl, HB0.out⟩
  · have z1 : (i != i') = true := by simpa using h1
    have HF := Lib.hid (hb.trans (decide_eq_false fun H => h1 H.1))
    clear hb h1
    go_enter Try.func20, Try.ntmps20
    go_wp2_with fail
    rw [← HW0.out]
    go_ret
    exact ⟨by rw [HF.out]; rfl, HB0.out⟩
end Go.Proofs.Ythjnghldedfdoaa
end

section
/- awake of the laws of dfa. -/
namespace Go.Proofs.Ythjnghldedfdoaa
open Go.RowKit

/-- An automaton in a box, with its lists. -/
def AutB (w : World) (g : Nat) (i st : Int) (A : Option Addr) (n c : Nat) (B : Option Addr) (d : Nat) (nx : List (List Int)) (ac : List Bool) : Prop :=
  Dblk w g (.int .i64 i) (.int .i64 st) (.slice A n c) (.slice B n d) ∧ Lists w A n nx ∧ Bools w B n ac
theorem AutB.on {w w' : World} {g : Nat} {i st : Int} {A B : Option Addr} {n c d : Nat} {nx : List (List Int)} {ac : List Bool} (h : AutB w g i st A n c B d nx ac) (hb : Below w.heap.size w w') : AutB w' g i st A n c B d nx ac := ⟨h.1.on9 hb, h.2.1.below hb, h.2.2.below hb⟩
theorem AutB.new {w : World} {i st : Int} {A B : Option Addr} {n c d : Nat} {nx : List (List Int)} {ac : List Bool} (h : Lists w A n nx) (k : Bools w B n ac) : AutB (w.alloc (.cells #[.int .i64 i, .int .i64 st, .slice A n c, .slice B n d] 25)) w.heap.size i st A n c B d nx ac :=
  ⟨dfa_box _ _ _ _ _, h.below (alloc_below _ _), k.below (alloc_below _ _)⟩
/-- A machine in a box, with its lists. -/
def MlyB (w : World) (g : Nat) (i st : Int) (A : Option Addr) (n c : Nat) (B : Option Addr) (d : Nat) (nx ot : List (List Int)) : Prop :=
  Yblk w g (.int .i64 i) (.int .i64 st) (.slice A n c) (.slice B n d) ∧ Lists w A n nx ∧ Lists w B n ot
theorem MlyB.on {w w' : World} {g : Nat} {i st : Int} {A B : Option Addr} {n c d : Nat} {nx ot : List (List Int)} (h : MlyB w g i st A n c B d nx ot) (hb : Below w.heap.size w w') : MlyB w' g i st A n c B d nx ot := ⟨h.1.on9 hb, h.2.1.below hb, h.2.2.below hb⟩
theorem MlyB.new {w : World} {i st : Int} {A B : Option Addr} {n c d : Nat} {nx ot : List (List Int)} (h : Lists w A n nx) (k : Lists w B n ot) : MlyB (w.alloc (.cells #[.int .i64 i, .int .i64 st, .slice A n c, .slice B n d] 58)) w.heap.size i st A n c B d nx ot :=
  ⟨yblk_new _ _ _ _ _, h.below (alloc_below _ _), k.below (alloc_below _ _)⟩
set_option maxHeartbeats 8000000 in
set_option maxRecDepth 100000 in
theorem awake7 (w : World) : Calls Try.prog 11 #[] w fun e w' => e = .returned (.bool true) ∧ Below w.heap.size w w' := by
  go_enter Try.func11, Try.ntmps11
  go_wp2_with fail
  refine (deven _).mono ?_
  rintro e w1 ⟨A1, c1, B1, d1, rfl, x1, a1, b1⟩
  obtain ⟨W1, hW1⟩ : ∃ W1, W1 = w1.alloc (.cells #[.int .i64 2, .int .i64 0, .slice A1 2 c1, .slice B1 2 d1] 25) := ⟨_, rfl⟩
  have bb : Below w1.heap.size w1 W1 := by rw [hW1]; exact alloc_below _ _
  have m1 : AutB W1 w1.heap.size 2 0 A1 2 c1 B1 d1 evN evA := by rw [hW1]; exact AutB.new x1 a1
  have H1 := Lib.hid hW1
  have hb : Below w.heap.size w W1 := bt b1 bb
  clear hW1 bb b1 x1 a1
  obtain ⟨k0, k1, k2, k3, _⟩ := m1.1.cells
  rw [H1.out] at k0 k1 k2 k3
  go_wp2_with fail
  rw [← H1.out]
  refine (dcompl 2 0 2 _ _ _ _ evN evA _ m1.2.1 m1.2.2 (ev_dok evA rfl)).mono ?_
  rintro e w2 ⟨A2, c2, B2, d2, rfl, x2, a2, b2⟩
  rw [q7_0] at a2
  have x2 := x2.lists_of (i := 2) (by decide) (by decide) (by decide)
  have a2 := a2.bools rfl (by decide)
  clear k0 k1 k2 k3
  obtain ⟨W2, hW2⟩ : ∃ W2, W2 = w2.alloc (.cells #[.int .i64 2, .int .i64 0, .slice A2 2 c2, .slice B2 2 d2] 25) := ⟨_, rfl⟩
  have bb : Below w2.heap.size w2 W2 := by rw [hW2]; exact alloc_below _ _
  have m2 : AutB W2 w2.heap.size 2 0 A2 2 c2 B2 d2 evN odA := by rw [hW2]; exact AutB.new x2 a2
  have H2 := Lib.hid hW2
  have hb : Below w.heap.size w W2 := bt hb (bt b2 bb)
  have m1 := m1.on (bt b2 bb)
  clear hW2 bb b2 x2 a2
  obtain ⟨k0, k1, k2, k3, _⟩ := m1.1.cells
  rw [H2.out] at k0 k1 k2 k3
  obtain ⟨j0, j1, j2, j3, _⟩ := m2.1.cells
  rw [H2.out] at j0 j1 j2 j3
  obtain ⟨U3, hU3⟩ : ∃ U3, U3 = W2.alloc (.cells #[.int .i64 1, .int .i64 0, .int .i64 1] 3) := ⟨_, rfl⟩
  have bb : Below W2.heap.size W2 U3 := by rw [hU3]; exact alloc_below _ _
  have i3 : Ints U3 (some ⟨W2.heap.size, 0, none⟩) 3 [1, 0, 1] := by rw [hU3]; exact Ints.new _ _ _ _ rfl rfl (by decide)
  have zz : W2.heap.size = w2.heap.size + 1 := by rw [H2.out]; simp
  rw [zz] at i3
  have m1 := m1.on bb
  have m2 := m2.on bb
  have hb := bt hb bb
  have HU3 := Lib.hid hU3
  clear hU3 bb zz
  go_wp2_with fail
  rw [← H2.out, ← HU3.out]
  refine (pacceptsD _ _ _ _ _ _ _ _ _ _ _ evN evA [1, 0, 1] _ m1.2.1 m1.2.2 i3).mono ?_
  rintro e w3 ⟨rfl, b3⟩
  rw [q7_1]
  have m1 := m1.on b3
  have m2 := m2.on b3
  have hb := bt hb b3
  clear b3 i3
  clear k0 k1 k2 k3 j0 j1 j2 j3
  obtain ⟨k0, k1, k2, k3, _⟩ := m1.1.cells
  obtain ⟨j0, j1, j2, j3, _⟩ := m2.1.cells
  go_wp2_with fail
  refine (dshortest 2 0 2 _ _ _ _ evN odA _ m2.2.1 m2.2.2 (ev_dok odA rfl)).mono ?_
  rintro e w4 ⟨A4, c4, rfl, o4, b4⟩
  rw [q7_2] at o4 ⊢
  have o4 := Owned.ints o4 (by decide)
  have m1 := m1.on b4
  have m2 := m2.on b4
  have hb := bt hb b4
  clear b4
  clear k0 k1 k2 k3 j0 j1 j2 j3
  obtain ⟨k0, k1, k2, k3, _⟩ := m1.1.cells
  obtain ⟨j0, j1, j2, j3, _⟩ := m2.1.cells
  go_wp2_with fail
  refine (dcount 2 0 2 3 _ _ _ _ evN evA _ m1.2.1 m1.2.2 (ev_dok evA rfl)).mono ?_
  rintro e w5 ⟨rfl, b5⟩
  rw [q7_3]
  have o4 := o4.below b5
  have m1 := m1.on b5
  have m2 := m2.on b5
  have hb := bt hb b5
  clear b5
  clear k0 k1 k2 k3 j0 j1 j2 j3
  obtain ⟨k0, k1, k2, k3, _⟩ := m1.1.cells
  obtain ⟨j0, j1, j2, j3, _⟩ := m2.1.cells
  go_wp2_with fail
  refine (dcombine 3 2 0 0 2 2 (by decide) _ _ _ _ _ _ _ _ evN evN evA odA _ m1.2.1 m1.2.2 m2.2.1 m2.2.2 (ev_dok evA rfl) (ev_dok odA rfl)).mono ?_
  rintro e w6 ⟨h6, b6⟩
  rw [q7_4, q7_5, q7_6] at h6
  unfold AutP at h6
  rw [if_pos (by decide)] at h6
  obtain ⟨A6, c6, B6, d6, rfl, x6, a6⟩ := h6
  have x6 := x6.lists_of (i := 2) (by decide) (by decide) (by decide)
  have a6 := a6.bools rfl (by decide)
  have o4 := o4.below b6
  have m1 := m1.on b6
  have m2 := m2.on b6
  have hb := bt hb b6
  clear b6
  clear k0 k1 k2 k3 j0 j1 j2 j3
  obtain ⟨W6, hW6⟩ : ∃ W6, W6 = w6.alloc (.cells #[.int .i64 2, .int .i64 0, .slice A6 2 c6, .slice B6 2 d6] 25) := ⟨_, rfl⟩
  have bb : Below w6.heap.size w6 W6 := by rw [hW6]; exact alloc_below _ _
  have m6 : AutB W6 w6.heap.size 2 0 A6 2 c6 B6 d6 evN [true, true] := by rw [hW6]; exact AutB.new x6 a6
  have H6 := Lib.hid hW6
  have o4 := o4.below bb
  have m1 := m1.on bb
  have m2 := m2.on bb
  have hb := bt hb bb
  clear hW6 bb x6 a6
  obtain ⟨l0, l1, l2, l3, _⟩ := m6.1.cells
  rw [H6.out] at l0 l1 l2 l3
  go_wp2_with fail
  rw [← H6.out]
  refine (dmin 2 0 2 _ _ _ _ evN [true, true] _ m6.2.1 m6.2.2 (ev_dok [true, true] rfl)).mono ?_
  rintro e w7 ⟨⟨N7, S7, A7, c7, B7, d7, rfl, hmn, _, _, x7, a7⟩, b7⟩
  obtain ⟨rfl, rfl⟩ := q7_13 hmn
  have x7 := x7.lists_of (i := 2) (by decide) (by decide) (by decide)
  have a7 := a7.bools rfl (by decide)
  have o4 := o4.below b7
  have m1 := m1.on b7
  have m2 := m2.on b7
  have m6 := m6.on b7
  have hb := bt hb b7
  clear b7 hmn
  clear l0 l1 l2 l3
  obtain ⟨W7, hW7⟩ : ∃ W7, W7 = w7.alloc (.cells #[.int .i64 2, .int .i64 0, .slice A7 1 c7, .slice B7 1 d7] 25) := ⟨_, rfl⟩
  have bb : Below w7.heap.size w7 W7 := by rw [hW7]; exact alloc_below _ _
  have m7 : AutB W7 w7.heap.size 2 0 A7 1 c7 B7 d7 [[0, 0]] [true] := by rw [hW7]; exact AutB.new x7 a7
  have H7 := Lib.hid hW7
  have o4 := o4.below bb
  have m1 := m1.on bb
  have m2 := m2.on bb
  have m6 := m6.on bb
  have hb := bt hb bb
  clear hW7 bb x7 a7
  obtain ⟨k0, k1, k2, k3, _⟩ := m1.1.cells
  rw [H7.out] at k0 k1 k2 k3
  obtain ⟨j0, j1, j2, j3, _⟩ := m2.1.cells
  rw [H7.out] at j0 j1 j2 j3
  go_wp2_with fail
  rw [← H7.out]
  refine (ddiffer 2 0 0 2 2 _ _ _ _ _ _ _ _ evN evN evA odA _ m1.2.1 m1.2.2 m2.2.1 m2.2.2 (ev_dok evA rfl) (ev_dok odA rfl)).mono ?_
  rintro e w8 ⟨A8, c8, rfl, _, b8⟩
  rw [q7_7]
  have o4 := o4.below b8
  have m1 := m1.on b8
  have m6 := m6.on b8
  have m7 := m7.on b8
  have hb := bt hb b8
  clear b8 m2
  clear k0 k1 k2 k3 j0 j1 j2 j3
  obtain ⟨k0, k1, k2, k3, _⟩ := m1.1.cells
  go_wp2_with fail
  refine (ddiffer 2 0 0 2 2 _ _ _ _ _ _ _ _ evN evN evA evA _ m1.2.1 m1.2.2 m1.2.1 m1.2.2 (ev_dok evA rfl) (ev_dok evA rfl)).mono ?_
  rintro e w9 ⟨A9, c9, rfl, _, b9⟩
  rw [q7_8]
  have o4 := o4.below b9
  have m1 := m1.on b9
  have m6 := m6.on b9
  have m7 := m7.on b9
  have hb := bt hb b9
  clear b9
  clear k0 k1 k2 k3
  obtain ⟨k0, k1, k2, k3, _⟩ := m1.1.cells
  go_wp2_with fail
  refine (dtom 2 0 2 _ _ _ _ evN evA _ m1.2.1 m1.2.2 (ev_dok evA rfl) (by decide)).mono ?_
  rintro e w10 ⟨A10, c10, B10, d10, rfl, x10, a10, b10⟩
  rw [q7_9] at a10
  have x10 := x10.lists_of (i := 2) (by decide) (by decide) (by decide)
  have a10 := a10.lists_of (i := 2) (by decide) (by decide) (by decide)
  have o4 := o4.below b10
  have m1 := m1.on b10
  have m6 := m6.on b10
  have m7 := m7.on b10
  have hb := bt hb b10
  clear b10
  clear k0 k1 k2 k3
  obtain ⟨W10, hW10⟩ : ∃ W10, W10 = w10.alloc (.cells #[.int .i64 2, .int .i64 0, .slice A10 2 c10, .slice B10 2 d10] 58) := ⟨_, rfl⟩
  have bb : Below w10.heap.size w10 W10 := by rw [hW10]; exact alloc_below _ _
  have m10 : MlyB W10 w10.heap.size 2 0 A10 2 c10 B10 d10 evN tO := by rw [hW10]; exact MlyB.new x10 a10
  have H10 := Lib.hid hW10
  have o4 := o4.below bb
  have m1 := m1.on bb
  have m6 := m6.on bb
  have m7 := m7.on bb
  have hb := bt hb bb
  clear hW10 bb x10 a10
  obtain ⟨l0, l1, l2, l3, _⟩ := m10.1.cells
  rw [H10.out] at l0 l1 l2 l3
  go_wp2_with fail
  rw [← H10.out]
  refine (dfromm 2 0 2 _ _ _ _ evN tO true _ m10.2.1 m10.2.2 ev_mok ev_bin).mono ?_
  rintro e w11 ⟨h11, b11⟩
  rw [q7_10, q7_11, q7_12] at h11
  unfold AutP at h11
  rw [if_pos (by decide)] at h11
  obtain ⟨A11, c11, B11, d11, rfl, x11, a11⟩ := h11
  have x11 := x11.lists_of (i := 2) (by decide) (by decide) (by decide)
  have a11 := a11.bools rfl (by decide)
  have o4 := o4.below b11
  have m1 := m1.on b11
  have m6 := m6.on b11
  have m7 := m7.on b11
  have m10 := m10.on b11
  have hb := bt hb b11
  clear b11
  clear l0 l1 l2 l3
  obtain ⟨W11, hW11⟩ : ∃ W11, W11 = w11.alloc (.cells #[.int .i64 2, .int .i64 0, .slice A11 2 c11, .slice B11 2 d11] 25) := ⟨_, rfl⟩
  have bb : Below w11.heap.size w11 W11 := by rw [hW11]; exact alloc_below _ _
  have m11 : AutB W11 w11.heap.size 2 0 A11 2 c11 B11 d11 evN evA := by rw [hW11]; exact AutB.new x11 a11
  have H11 := Lib.hid hW11
  have o4 := o4.below bb
  have m1 := m1.on bb
  have m6 := m6.on bb
  have m7 := m7.on bb
  have m10 := m10.on bb
  have hb := bt hb bb
  clear hW11 bb x11 a11
  obtain ⟨U12, hU12⟩ : ∃ U12, U12 = W11.alloc (.cells #[.int .i64 1] 3) := ⟨_, rfl⟩
  have bb : Below W11.heap.size W11 U12 := by rw [hU12]; exact alloc_below _ _
  have i12 : Ints U12 (some ⟨W11.heap.size, 0, none⟩) 1 [1] := by rw [hU12]; exact Ints.new _ _ _ _ rfl rfl (by decide)
  have zz : W11.heap.size = w11.heap.size + 1 := by rw [H11.out]; simp
  rw [zz] at i12
  have o4 := o4.below bb
  have m1 := m1.on bb
  have m6 := m6.on bb
  have m7 := m7.on bb
  have m10 := m10.on bb
  have m11 := m11.on bb
  have hb := bt hb bb
  have HU12 := Lib.hid hU12
  clear hU12 bb zz
  go_wp2_with fail
  rw [← H11.out, ← HU12.out]
  refine (rsameD _ _ _ _ _ _ [1] [1] true _ o4 i12 rfl).mono ?_
  rintro e w12 ⟨rfl, q, rfl⟩
  have bb : Below U12.heap.size U12 (U12.drewN q) := below_drewN (Below.refl _ _) q
  generalize U12.drewN q = w12 at bb ⊢
  have m1 := m1.on bb
  have m6 := m6.on bb
  have m7 := m7.on bb
  have m10 := m10.on bb
  have m11 := m11.on bb
  have hb := bt hb bb
  clear bb i12 o4
  obtain ⟨l0, l1, l2, l3, _⟩ := m6.1.cells
  obtain ⟨j0, j1, j2, j3, _⟩ := m7.1.cells
  obtain ⟨y1, y2, y3⟩ := aut_lit w12 w12.heap.size [[0, 0]] [true] 1 rfl rfl rfl (by decide) (by decide)
  have HLT : Hid ((litL w12 w12.heap.size [[0, 0]]).alloc (.cells ([true].map Value.bool).toArray 4) = ((w12.alloc (.cells #[.int .i64 0, .int .i64 0] 3)).alloc (.cells #[.slice (some ⟨w12.heap.size, 0, none⟩) 2 2] 26)).alloc (.cells #[.bool true] 4)) := Lib.hid rfl
  generalize (litL w12 w12.heap.size [[0, 0]]).alloc (.cells ([true].map Value.bool).toArray 4) = U13 at y1 y2 y3 HLT
  have m1 := m1.on y3
  have m10 := m10.on y3
  have m11 := m11.on y3
  have m7 := m7.on y3
  have hb := bt hb y3
  go_wp2_with fail
  rw [← HLT.out]
  refine (rsame7 2 0 2 0 _ _ _ _ 1 _ 1 _ 1 _ 1 _ [[0, 0]] [[0, 0]] [true] [true] true _ m7.2.1 m7.2.2 y1 y2 rfl).mono ?_
  rintro e w13 ⟨rfl, b13⟩
  have m1 := m1.on b13
  have m10 := m10.on b13
  have m11 := m11.on b13
  have hb := bt hb b13
  clear b13 y1 y2 y3 m6 m7
  clear l0 l1 l2 l3 j0 j1 j2 j3
  obtain ⟨l0, l1, l2, l3, _⟩ := m10.1.cells
  have y1 := (litL_lists w13 w13.heap.size tO 2 rfl rfl (by decide) (by decide)).lists
  have y3 := litL_below w13 w13.heap.size tO
  have HLT : Hid (litL w13 w13.heap.size tO = ((w13.alloc (.cells #[.int .i64 1, .int .i64 0] 3)).alloc (.cells #[.int .i64 0, .int .i64 1] 3)).alloc (.cells #[.slice (some ⟨w13.heap.size, 0, none⟩) 2 2, .slice (some ⟨w13.heap.size + 1, 0, none⟩) 2 2] 26)) := Lib.hid rfl
  generalize litL w13 w13.heap.size tO = U14 at y1 y3 HLT
  have m1 := m1.on y3
  have m10 := m10.on y3
  have m11 := m11.on y3
  have hb := bt hb y3
  go_wp2_with fail
  rw [← HLT.out]
  refine (rsameWords _ _ _ _ _ _ tO tO true _ m10.2.2 y1 rfl).mono ?_
  rintro e w14 ⟨rfl, q, rfl⟩
  have bb : Below U14.heap.size U14 (U14.drewN q) := below_drewN (Below.refl _ _) q
  generalize U14.drewN q = w14 at bb ⊢
  have m1 := m1.on bb
  have m11 := m11.on bb
  have hb := bt hb bb
  clear bb y1 y3 m10
  clear l0 l1 l2 l3
  obtain ⟨k0, k1, k2, k3, _⟩ := m1.1.cells
  obtain ⟨j0, j1, j2, j3, _⟩ := m11.1.cells
  go_wp2_with fail
  refine (rsame7 2 0 2 0 _ _ _ _ 2 _ 2 _ 2 _ 2 _ evN evN evA evA true _ m11.2.1 m11.2.2 m1.2.1 m1.2.2 rfl).mono ?_
  rintro e w15 ⟨rfl, b15⟩
  have hb := bt hb b15
  clear k0 k1 k2 k3 j0 j1 j2 j3
  go_wp2_with fail
  go_ret
  exact ⟨rfl, hb⟩
end Go.Proofs.Ythjnghldedfdoaa
end
