/- Lemmas of the proofs of this seat, of the parts L10e, L10f. Conditions: none. -/
import Derived.Test.YtedcdpmflcegbaaQad
import Derived.Test.YtedcdpmflcegbaaQaf
import Derived.Test.YtedcdpmflcegbaaQag
import Derived.Test.YtedcdpmflcegbaaQae
section
/- The law CoverFirst: the walk. -/
namespace Go.Proofs.Ytedcdpmflcegbaa
open Go.RowKit

set_option maxHeartbeats 8000000 in
set_option maxRecDepth 100000 in
theorem first10_walk (i st : Int) (A B : Option Addr) (n c m d : Nat) (nx ot : List (List Int)) (D : Option Addr) (k e : Nat) (u : List Int) (w : World) (hx : Lists w A n nx) (ho : Lists w B m ot) (hD : Ints w D k u) :
    Calls Try.prog 7 #[.agg #[.int .i64 i, .int .i64 st, .slice A n c, .slice B m d], .slice D k e] w fun e w' => e = .returned (.bool true) ∧ Below w.heap.size w w' := by
  have hb0 := alloc_below w (.cells #[.int .i64 i, .int .i64 st, .slice A n c, .slice B m d] 24)
  have hB0 := mealy_box w (.int .i64 i) (.int .i64 st) (.slice A n c) (.slice B m d)
  obtain ⟨w0, hw0⟩ : ∃ w0, w0 = w.alloc (.cells #[.int .i64 i, .int .i64 st, .slice A n c, .slice B m d] 24) := ⟨_, rfl⟩
  rw [← hw0] at hb0 hB0
  have HW0 := Lib.hid hw0
  have HX := Lib.hid (fun (W : World) (h : Below w0.heap.size w0 W) => (hx.below hb0).below h)
  have HO := Lib.hid (fun (W : World) (h : Below w0.heap.size w0 W) => (ho.below hb0).below h)
  have HB := Lib.hid (fun (W : World) (h : Below w0.heap.size w0 W) => hB0.on9 h)
  have hbc := Below.refl w0.heap.size w0
  have HDD := Lib.hid (fun (W : World) (h : Below w0.heap.size w0 W) => (hD.below hb0).below h)
  clear hD
  clear hw0 hB0 hx ho
  go_enter Try.func7, Try.ntmps7
  go_wp2_with fail
  rw [← HW0.out]
  refine (rgreat8 _ _ _ _ _ _ _ _ _ _ _ (HX.out _ hbc) (HO.out _ hbc)).mono ?_
  rintro e w1 ⟨g1, rfl, a1⟩
  have hbc := bt hbc a1
  clear a1
  cases g1
  · obtain ⟨k0, k1, k2, k3, _⟩ := (HB.out _ hbc).cells
    go_wp2_with fail
    refine (rvalid _ _ _ _ _ _ _ _ _ _ _ (HX.out _ hbc) (HO.out _ hbc)).mono ?_
    rintro e w2 ⟨rfl, a2⟩
    have hbc := bt hbc a2
    clear k0 k1 k2 k3 a2
    by_cases hv : vld i st nx ot = 0
    · rw [hv]
      obtain ⟨i', s', n', rfl, rfl, hM⟩ := vld_zero hv
      have e1 := (HX.out _ hbc).1
      have e2 := (HO.out _ hbc).1
      have e3 := hM.nxl
      have e4 := hM.otl
      obtain rfl : n = n' := by omega
      obtain rfl : n = m := by omega
      clear e1 e2 e3 e4 hv
      have HM := Lib.hid hM
      have hi1 := hM.i1
      have hi64 := hM.i2
      have hn128 := hM.n2
      have hst := hM.st
      have hE := exs_ens (i := i') hM hst
      have hlen := hE.len
      have hao := accR_ok hM
      have hps := pre_self (i := i') hM hst
      have hO := exs_ord (i := i') hM hst
      have HSELF := Lib.hid (fun k hk => pth_self (k := k) hM hk)
      have HLAST := Lib.hid (fun k hk => last_self (k := k) hM hk)
      have hlc := last_cases hM u
      obtain ⟨E, hEE⟩ : ∃ E, E = exs nx i' n s' := ⟨_, rfl⟩
      rw [← hEE] at hE hlen hao hps hlc HSELF HLAST hO
      have HE := Lib.hid hE
      have HAO := Lib.hid hao
      have HPS := Lib.hid hps
      have HLC := Lib.hid hlc
      have hne0 := hO.ne
      have hz0 := hO.z
      have HZ0 := Lib.hid hz0
      clear hE hao hps hlc hEE hM hO hz0
      obtain ⟨k0, k1, k2, k3, _⟩ := (HB.out _ hbc).cells
      go_wp2_with fail
      refine (pacc _ _ _ _ _ _ _ _ _ _ _ (HX.out _ hbc) (HO.out _ hbc)).mono ?_
      rintro e w3 ⟨P1, d1, L1, e1, rfl, p1, l1, a3⟩
      rw [HAO.out] at p1 l1 ⊢
      have hbc := bt hbc a3
      have p1 : Ints w3 P1 E.length (psL E) := p1.ints (by rw [psL_len]; show E.length ≤ _; omega)
      have hrow : ∀ x, x ∈ wsL E → x.length ≤ 128 := fun x h => by have := wsL_le HE.out x h; omega
      have l1 : ListsC w3 L1 E.length (wsL E) := l1.listsC (by rw [wsL_len]; show E.length ≤ _; omega) (fun x h => by have := hrow x h; omega)
      obtain ⟨g1, o1, A1, n1, c1, eL, _, x1, hi1⟩ := l1.lists.at_ hne0
      subst eL
      rw [wsL_at' hne0, HZ0.out] at hi1
      obtain rfl : n1 = 0 := hi1.1.symm
      have t1 : ((E.length : Int) != (E.length : Int)) = false := by simp
      have t2 : ((E.length : Int) == 0) = false := by rw [beq_eq_false_iff_ne]; omega
      have x1' := x1
      rw [Nat.add_zero] at x1'
      clear k0 k1 k2 k3 a3 hi1
      have hpp := Lib.hid (pPrefixes w3 _ E.length e1 128 (wsL E) l1 hrow (by omega))
      go_wp2_with fail
      refine hpp.out.mono ?_
      rintro e w4 ⟨v4, rfl, hv4, a4⟩
      rw [HPS.out] at hv4
      obtain ⟨A4, c4, rfl⟩ := hv4.form
      have l4 := (hv4.lists (by rw [wsL_len]; omega) (fun x h => by have := hrow x h; omega)).lists
      have l1 := l1.lists.below a4
      have p1 := p1.below a4
      have hbc := bt hbc a4
      clear hpp x1 x1' t1 t2 hv4 a4
      go_wp2_with fail
      refine (rsame10 _ _ _ _ _ _ (wsL E) (wsL E) true _ l4 l1 (by simp)).mono ?_
      rintro e w5 ⟨rfl, hq⟩
      have b5 := rd_below hq
      have l1 := l1.below b5
      have p1 := p1.below b5
      have hbc := bt hbc b5
      clear l4 hq b5
      obtain ⟨k0, k1, k2, k3, _⟩ := (HB.out _ hbc).cells
      go_wp2_with fail
      refine (plast _ _ _ _ _ _ _ _ _ _ _ _ _ _ _ (HX.out _ hbc) (HO.out _ hbc) (HDD.out _ hbc)).mono ?_
      rintro e w6 ⟨rfl, a6⟩
      have l1 := l1.below a6
      have p1 := p1.below a6
      have hbc := bt hbc a6
      clear k0 k1 k2 k3 a6
      have hlc := HLC.out
      generalize hR0 : lastR i' s' nx ot u = R0 at hlc ⊢
      have HLC2 := Lib.hid hlc
      have HL1 := Lib.hid (fun (W : World) (h : Below w6.heap.size w6 W) => l1.below h)
      have HP1 := Lib.hid (fun (W : World) (h : Below w6.heap.size w6 W) => p1.below h)
      have HB6 := Lib.hid hbc
      clear hlc hR0 l1 p1 hrow
      go_wp2
      go_loopw [9, 63] (fun v9 v63 wr => ∃ x : Nat, x ≤ E.length ∧ v63 = .int .i64 x ∧ (∃ b : Bool, v9 = .bool b ∧ (b = true ↔ (R0 < 0 ∨ ∃ c, c < x ∧ (((E.getD c Ent.zero).p : Nat) : Int) = R0))) ∧ Below w6.heap.size w6 wr) (fun _ v63 _ => E.length - (intOf v63).toNat)
      case atStart => exact ⟨0, Nat.zero_le _, rfl, ⟨decide (R0 < 0), rfl, by simp⟩, Below.refl _ _⟩
      case round =>
        obtain ⟨x, hx', rfl, ⟨b, rfl, hbb⟩, hb6⟩ := hrel
        have HBB := Lib.hid hbb
        have HBQ := Lib.hid hb6
        clear hbb hb6
        by_cases hlt : x < E.length
        · have hbc := bt HB6.out HBQ.out
          obtain ⟨k0, k1, k2, k3, _⟩ := (HB.out _ hbc).cells
          obtain ⟨g2, o2, e2, _, y1⟩ := (HP1.out _ HBQ.out).at_ hlt
          subst e2
          rw [psL_at' hlt] at y1
          obtain ⟨g3, o3, A3, n3, c3, e3, _, z1, hi3⟩ := (HL1.out _ HBQ.out).at_ hlt
          cases e3
          rw [wsL_at' hlt] at hi3
          have hself := HSELF.out x hlt
          have hlast := HLAST.out x hlt
          have hel := HE.out.wl x hlt
          have HLCX := Lib.hid (fun (h : (((E.getD x Ent.zero).p : Nat) : Int) = R0) => show shlex (E.getD x Ent.zero).w u ≤ 0 from by
            rcases HLC2.out with h1 | ⟨_, _, _, _, h2⟩
            · omega
            · exact h2 x hlt h)
          have HBN := Lib.hid (show (R0 < 0 ∨ ∃ c, c < x + 1 ∧ (((E.getD c Ent.zero).p : Nat) : Int) = R0) ↔ ((R0 < 0 ∨ ∃ c, c < x ∧ (((E.getD c Ent.zero).p : Nat) : Int) = R0) ∨ (((E.getD x Ent.zero).p : Nat) : Int) = R0) from by
            constructor
            · rintro (h | ⟨c, hc, h⟩)
              · exact .inl (.inl h)
              · by_cases hcx : c = x
                · subst hcx; exact .inr h
                · exact .inl (.inr ⟨c, by omega, h⟩)
            · rintro ((h | ⟨c, hc, h⟩) | h)
              · exact .inl h
              · exact .inr ⟨c, by omega, h⟩
              · exact .inr ⟨x, by omega, h⟩)
          have hpp := Lib.hid (fun (W : World) (h : Below wr.heap.size wr W) => ppath i' s' _ _ _ c _ d _ _ (s' : Int) (((E.getD x Ent.zero).p : Nat) : Int) _ (HX.out _ (bt hbc h)) (HO.out _ (bt hbc h)))
          rw [hself] at hpp
          have hll := Lib.hid (fun (W : World) (h : Below wr.heap.size wr W) => plast i' s' _ _ _ _ c _ d _ c3 _ _ (E.getD x Ent.zero).w _ (HX.out _ (bt hbc h)) (HO.out _ (bt hbc h)) (hi3.below h))
          rw [hlast] at hll
          obtain rfl : n3 = (E.getD x Ent.zero).w.length := hi3.1.symm
          have HI3 := Lib.hid (fun (W : World) (h : Below wr.heap.size wr W) => hi3.below h)
          generalize (E.getD x Ent.zero).p = px at y1 hpp hll HLCX HBN
          generalize (E.getD x Ent.zero).w = ux at hpp hll HLCX hel z1 HI3
          have HS := Lib.hid (show ∀ W, Below wr.heap.size wr W → W.cell? ⟨w.heap.size, 0, none⟩ = some (.int .i64 (i' : Int)) ∧ W.cell? ⟨w.heap.size, 1, none⟩ = some (.int .i64 (s' : Int)) ∧ W.cell? ⟨w.heap.size, 2, none⟩ = some (.slice A n c) ∧ W.cell? ⟨w.heap.size, 3, none⟩ = some (.slice B n d) ∧ W.cell? ⟨g2, o2 + x, none⟩ = some (.int .i64 (px : Int)) ∧ W.cell? ⟨g1, o1 + x, none⟩ = some (.slice A3 ux.length c3) from fun W h => ⟨(h.cell (block_lt k0)).trans k0, (h.cell (block_lt k1)).trans k1, (h.cell (block_lt k2)).trans k2, (h.cell (block_lt k3)).trans k3, (h.cell (block_lt y1)).trans y1, (h.cell (block_lt z1)).trans z1⟩)
          have HBC := Lib.hid hbc
          clear hbc hself hlast hi3
          have hbc : Below wr.heap.size wr wr.drew := (Below.refl _ wr).drew
          go_wp2_with fail
          go_region_held3 (fun W => W.cell? ⟨w.heap.size, 0, none⟩ = some (.int .i64 (i' : Int)) ∧ W.cell? ⟨w.heap.size, 1, none⟩ = some (.int .i64 (s' : Int)) ∧ W.cell? ⟨w.heap.size, 2, none⟩ = some (.slice A n c) ∧ W.cell? ⟨w.heap.size, 3, none⟩ = some (.slice B n d) ∧ W.cell? ⟨g2, o2 + x, none⟩ = some (.int .i64 (px : Int)) ∧ W.cell? ⟨g1, o1 + x, none⟩ = some (.slice A3 ux.length c3)) (first | exact HS.out _ hbc) ((go_at_call 19; refine (hpp.out _ hbc).mono ?_; rintro e2 w' ⟨A', c', rfl, hO', b'⟩; have hO' := hO'.ints (by show ux.length ≤ _; omega); have hbc := bt hbc b'))
          obtain ⟨w7, hw7⟩ : ∃ w7, w7 = w' := ⟨_, rfl⟩
          rw [← hw7] at hbc hO' ⊢
          clear hw7 hpp
          have HO7 := Lib.hid (fun (W : World) (h : Below w7.heap.size w7 W) => hO'.below h)
          obtain ⟨k0, k1, k2, k3, y1, z1⟩ := HS.out w7 hbc
          have HB7 := Lib.hid hbc
          clear hO' hbc
          have hbc : Below wr.heap.size wr w7.drew := HB7.out.drew
          have hb7 : Below w7.heap.size w7 w7.drew := (Below.refl _ w7).drew
          have t1 : ((px : Int) != (px : Int)) = false := by simp
          go_wp2_with fail
          go_region_held3 (fun W => W.cell? ⟨w.heap.size, 0, none⟩ = some (.int .i64 (i' : Int)) ∧ W.cell? ⟨w.heap.size, 1, none⟩ = some (.int .i64 (s' : Int)) ∧ W.cell? ⟨w.heap.size, 2, none⟩ = some (.slice A n c) ∧ W.cell? ⟨w.heap.size, 3, none⟩ = some (.slice B n d) ∧ W.cell? ⟨g2, o2 + x, none⟩ = some (.int .i64 (px : Int)) ∧ W.cell? ⟨g1, o1 + x, none⟩ = some (.slice A3 ux.length c3)) (first | exact HS.out _ hbc) (first | (go_at_call 27; refine (hll.out _ hbc).mono ?_; rintro e2 w' ⟨rfl, b'⟩; have hbc := bt hbc b'; have hb7 := bt hb7 b') | (go_at_call 17; refine (requal _ _ _ _ _ _ ux ux true _ (HO7.out _ hb7) (HI3.out _ hbc) (by simp)).mono ?_; rintro e2 w' ⟨rfl, hq⟩; have hbc := bt hbc (rd_below hq); have hb7 := bt hb7 (rd_below hq)))
          obtain ⟨w8, hw8⟩ : ∃ w8, w8 = w' := ⟨_, rfl⟩
          rw [← hw8] at hbc ⊢
          have HB8 := Lib.hid (HBQ.out.trans (hbc.mono HBQ.out.size))
          have HI8 := Lib.hid (HI3.out _ hbc)
          have HBA := Lib.hid (bt HBC.out hbc)
          clear k0 k1 k2 k3 y1 z1 t1 hb7 HO7 HB7 hll
          obtain ⟨_, _, _, _, y1, z1⟩ := HS.out w8 hbc
          clear hbc hw8
          by_cases hpr : (px : Int) = R0
          · have hcm := HLCX.out hpr
            have HPR := Lib.hid hpr
            have t2 : ((px : Int) == R0) = true := by rw [hpr]; simp
            have t3 : decide ((0 : Int) < shlex ux u) = false := decide_eq_false (by omega)
            have HT3 := Lib.hid t3
            have HCP := Lib.hid (wcompare A3 D ux.length c3 k e ux u w8 HI8.out (HDD.out _ HBA.out))
            clear hcm hpr t3
            go_wp2_with fail
            refine HCP.out.mono ?_
            rintro e2 w9 ⟨rfl, q9, rfl⟩
            have HB9 := Lib.hid (HB8.out.trans ((below_drewN (Below.refl w8.heap.size w8) q9).mono HB8.out.size))
            have t3 := HT3.out
            clear HCP y1 z1 t2
            generalize shlex ux u = sh at t3
            go_wp2
            go_roundw
            case rel => exact ⟨x + 1, by omega, by go_num, ⟨true, rfl, by rw [HBN.out]; exact ⟨fun _ => .inr HPR.out, fun _ => rfl⟩⟩, HB9.out⟩
            case measure => simp [intOf]; omega
          · have t2 : ((px : Int) == R0) = false := by simpa using hpr
            have HPR := Lib.hid hpr
            clear hpr z1
            go_wp2
            go_roundw
            case rel => exact ⟨x + 1, by omega, by go_num, ⟨b, rfl, by rw [HBN.out, HBB.out]; exact ⟨fun h => .inl h, fun h => h.elim id fun h9 => absurd h9 HPR.out⟩⟩, HB8.out⟩
            case measure => simp [intOf]; omega
        · obtain rfl : x = E.length := by omega
          have hb1 : b = true := HBB.out.2 (by
            rcases HLC2.out with h1 | ⟨c, hc, h2, _, _⟩
            · exact .inl (by omega)
            · exact .inr ⟨c, hc, h2.symm⟩)
          subst hb1
          have hbc := bt HB6.out HBQ.out
          go_wp2_with fail
          refine (awake10 _).mono ?_
          rintro e w9 ⟨rfl, a9⟩
          have hbc := bt hbc a9
          go_wp2
          go_ret
          exact ⟨rfl, bt hb0 hbc⟩
    · have hne : (vld i st nx ot != 0) = true := by simpa using hv
      generalize vld i st nx ot = E at hne ⊢
      clear hv
      go_wp2_with fail
      refine (awake10 _).mono ?_
      rintro e w9 ⟨rfl, a9⟩
      have hbc := bt hbc a9
      go_wp2
      go_ret
      exact ⟨rfl, bt hb0 hbc⟩
  · go_wp2_with fail
    refine (awake10 _).mono ?_
    rintro e w9 ⟨rfl, a9⟩
    have hbc := bt hbc a9
    go_wp2
    go_ret
    exact ⟨rfl, bt hb0 hbc⟩
end Go.Proofs.Ytedcdpmflcegbaa
end

section
/- The law CoverAll: the walk. -/
namespace Go.Proofs.Ytedcdpmflcegbaa
open Go.RowKit

/-- A list of one list, as a literal makes it. -/
theorem Lists.onec (w : World) (A : Option Addr) (n c : Nat) (xs : List Int) (h : Ints w A n xs) :
    Lists (w.alloc (.cells #[.slice A n c] 27)) (some ⟨w.heap.size, 0, none⟩) 1 [xs] := by
  have hb := alloc_below w (.cells #[.slice A n c] 27)
  refine ⟨rfl, by omega, fun _ => ⟨w.heap.size, 0, rfl, by simp, fun j hj => ?_⟩⟩
  have hc := cell_of_row (w.alloc (.cells #[.slice A n c] 27)) w.heap.size j #[.slice A n c] 27 (0, 0) (heap_alloc_new w _)
  rw [Nat.zero_add, hc]
  obtain rfl : j = 0 := by omega
  exact ⟨A, n, c, rfl, h.below hb⟩
set_option maxHeartbeats 8000000 in
set_option maxRecDepth 100000 in
theorem all10_walk (i st : Int) (A B : Option Addr) (n c m d : Nat) (nx ot : List (List Int)) (w : World) (hx : Lists w A n nx) (ho : Lists w B m ot) :
    Calls Try.prog 8 #[.agg #[.int .i64 i, .int .i64 st, .slice A n c, .slice B m d]] w fun e w' => e = .returned (.bool true) ∧ Below w.heap.size w w' := by
  have hb0 := alloc_below w (.cells #[.int .i64 i, .int .i64 st, .slice A n c, .slice B m d] 24)
  have hB0 := mealy_box w (.int .i64 i) (.int .i64 st) (.slice A n c) (.slice B m d)
  obtain ⟨w0, hw0⟩ : ∃ w0, w0 = w.alloc (.cells #[.int .i64 i, .int .i64 st, .slice A n c, .slice B m d] 24) := ⟨_, rfl⟩
  rw [← hw0] at hb0 hB0
  have HW0 := Lib.hid hw0
  have HX := Lib.hid (fun (W : World) (h : Below w0.heap.size w0 W) => (hx.below hb0).below h)
  have HO := Lib.hid (fun (W : World) (h : Below w0.heap.size w0 W) => (ho.below hb0).below h)
  have HB := Lib.hid (fun (W : World) (h : Below w0.heap.size w0 W) => hB0.on9 h)
  have hbc := Below.refl w0.heap.size w0
  clear hw0 hB0 hx ho
  go_enter Try.func8, Try.ntmps8
  go_wp2_with fail
  rw [← HW0.out]
  refine (rgreat8 _ _ _ _ _ _ _ _ _ _ _ (HX.out _ hbc) (HO.out _ hbc)).mono ?_
  rintro e w1 ⟨g1, rfl, a1⟩
  have hbc := bt hbc a1
  clear a1
  cases g1
  · obtain ⟨k0, k1, k2, k3, _⟩ := (HB.out _ hbc).cells
    go_wp2_with fail
    refine (rvalid _ _ _ _ _ _ _ _ _ _ _ (HX.out _ hbc) (HO.out _ hbc)).mono ?_
    rintro e w2 ⟨rfl, a2⟩
    have hbc := bt hbc a2
    clear k0 k1 k2 k3 a2
    by_cases hv : vld i st nx ot = 0
    · rw [hv]
      obtain ⟨i', s', n', rfl, rfl, hM⟩ := vld_zero hv
      have e1 := (HX.out _ hbc).1
      have e2 := (HO.out _ hbc).1
      have e3 := hM.nxl
      have e4 := hM.otl
      obtain rfl : n = n' := by omega
      obtain rfl : n = m := by omega
      clear e1 e2 e3 e4 hv
      have HM := Lib.hid hM
      have hi1 := hM.i1
      have hi64 := hM.i2
      have hn128 := hM.n2
      have hst := hM.st
      have hE := exs_ens (i := i') hM hst
      have hlen := hE.len
      have hct := cov_trans hM
      have hts := fun t h => tour_some (t := t) hM h
      have htn := fun o h => tour_none (o := o) hM h
      have htc := tour_cases hM
      have hao := accR_ok hM
      have htl : (trnR (i' : Int) (s' : Int) nx ot).length = (exs nx i' n s').length * i' := by unfold trnR; rw [hao, trW_len, wsL_len, Int.toNat_natCast]
      have HTR2 := Lib.hid (trnR_row (i' : Int) (s' : Int) nx ot)
      have HTL := Lib.hid htl
      have HCT := Lib.hid hct
      have HTS := Lib.hid hts
      have HTN := Lib.hid htn
      have HPE := Lib.hid (fun s t hs ht => pth_err (s := s) (t := t) hM hs ht)
      obtain ⟨E, hEE⟩ : ∃ E, E = exs nx i' n s' := ⟨_, rfl⟩
      rw [← hEE] at hE hlen HCT HTS HTN HTL hao
      have HE := Lib.hid hE
      have HAO := Lib.hid hao
      have hKi : E.length * i' ≤ 128 * 64 := Nat.mul_le_mul (by omega) hi64
      have hmul : IntKind.i64.wrap ((E.length : Int) * (i' : Int)) = ((E.length * i' : Nat) : Int) := by
        rw [← Int.natCast_mul]
        exact IntWalk.i64_in _ (by omega)
      obtain ⟨Z, hZ⟩ : ∃ Z, Z = E.length * i' := ⟨_, rfl⟩
      rw [← hZ] at hmul hKi HCT HTS HTL
      have HMUL := Lib.hid hmul
      clear hE hao hct hts htn htl hEE hZ hM hmul
      obtain ⟨k0, k1, k2, k3, _⟩ := (HB.out _ hbc).cells
      go_wp2_with fail
      refine (pacc _ _ _ _ _ _ _ _ _ _ _ (HX.out _ hbc) (HO.out _ hbc)).mono ?_
      rintro e w3 ⟨P1, d1, L1, e1, rfl, p1, _, a3⟩
      rw [HAO.out] at p1 ⊢
      have hbc := bt hbc a3
      have p1 : Ints w3 P1 E.length (psL E) := p1.ints (by rw [psL_len]; show E.length ≤ _; omega)
      clear k0 k1 k2 k3 a3
      obtain ⟨k0, k1, k2, k3, _⟩ := (HB.out _ hbc).cells
      go_wp2_with fail
      refine (ptrans _ _ _ _ _ _ _ _ _ _ _ (HX.out _ hbc) (HO.out _ hbc)).mono ?_
      rintro e w4 ⟨L5, e5, rfl, l5, a4⟩
      rw [HAO.out]
      have p1 := p1.below a4
      have hbc := bt hbc a4
      have l5 := l5.lists (by rw [HTL.out]; omega) (fun x h => by have := HTR2.out x h; omega)
      clear k0 k1 k2 k3 a4
      obtain ⟨k0, k1, k2, k3, _⟩ := (HB.out _ hbc).cells
      have hcv := Lib.hid (pcov i' s' _ _ L5 _ c _ d _ e5 _ _ _ _ (HX.out _ hbc) (HO.out _ hbc) l5 (by rw [HTL.out]; omega))
      rw [HCT.out] at hcv
      rw [HTL.out] at hcv ⊢
      go_wp2_with fail
      refine hcv.out.mono ?_
      rintro e w5 ⟨rfl, a5⟩
      have p1 := p1.below a5
      have hbc := bt hbc a5
      clear k0 k1 k2 k3 a5 hcv l5
      obtain ⟨k0, k1, k2, k3, _⟩ := (HB.out _ hbc).cells
      have hmul := HMUL.out
      have t1 : ((E.length : Int) != (E.length : Int)) = false := by simp
      have t2 : ((Z : Int) != (Z : Int)) = false := by simp
      go_wp2_with fail
      clear hmul t1 t2
      refine (ptour _ _ _ _ _ _ _ _ _ _ _ (HX.out _ hbc) (HO.out _ hbc)).mono ?_
      rintro e w6 ⟨A6, c6, rfl, h6, a6⟩
      have p1 := p1.below a6
      have hbc := bt hbc a6
      clear k0 k1 k2 k3 a6
      rcases htc with ⟨t, ht⟩ | ht | ht
      · obtain ⟨hc1, hc2⟩ := HTS.out t ht
        rw [ht] at h6 ⊢
        have htl := tourR_len (i' : Int) (s' : Int) nx ot
        rw [ht] at htl
        have h6 : Ints w6 A6 t.length t := Owned.ints h6 (by simp at htl ⊢; omega)
        have HC1 := Lib.hid hc1
        obtain ⟨k0, k1, k2, k3, _⟩ := (HB.out _ hbc).cells
        have hl1 := Lists.onec w6 A6 t.length c6 t h6
        have hb1 := alloc_below w6 (.cells #[.slice A6 t.length c6] 27)
        have hbc := bt hbc hb1
        have hcv := Lib.hid (pcov i' s' _ _ _ _ c _ d _ 1 _ _ _ _ (HX.out _ hbc) (HO.out _ hbc) hl1 (by omega))
        rw [HC1.out] at hcv
        have t0 : ((Option.some t).getD []).length = t.length := rfl
        rw [t0]
        clear hl1 h6 hc1 htl t0 ht
        go_wp2_with fail
        refine hcv.out.mono ?_
        rintro e w7 ⟨rfl, a7⟩
        have hbc := bt hbc a7
        have t1 : ((E.length : Int) == (E.length : Int)) = true := by simp
        have t2 : ((Z : Int) == (Z : Int)) = true := by simp
        have t3 : decide (Z ≤ t.length) = true := decide_eq_true (by omega)
        clear k0 k1 k2 k3 a7 hcv hc2
        go_wp2_with fail
        refine (awake10 _).mono ?_
        rintro e w9 ⟨rfl, a9⟩
        have hbc := bt hbc a9
        go_wp2
        go_ret
        exact ⟨rfl, bt hb0 hbc⟩
      · obtain ⟨a, b, ha, hb, hab⟩ := HTN.out _ ht
        rw [ht]
        have HAB := Lib.hid hab
        have P1I := Lib.hid (fun (W : World) (h : Below w6.heap.size w6 W) => p1.below h)
        have HB6 := Lib.hid hbc
        clear hab ht h6 p1
        go_wp2
        go_loopw [123] (fun v wr => ∃ x : Nat, x ≤ E.length ∧ v = .int .i64 x ∧ (∀ x' y', x' < x → y' < E.length → (pthR i' s' nx ot ((E.getD x' Ent.zero).p : Int) ((E.getD y' Ent.zero).p : Int)).1.isSome = true) ∧ Below w6.heap.size w6 wr) (fun v _ => E.length - (intOf v).toNat)
        case atStart => exact ⟨0, Nat.zero_le _, rfl, fun x' y' h => absurd h (by omega), Below.refl _ _⟩
        case round =>
          obtain ⟨x, hx', rfl, hall, hb6⟩ := hrel
          have HALL := Lib.hid hall
          have HBR := Lib.hid hb6
          clear hall hb6
          by_cases hlt : x < E.length
          · go_wp2
            go_loopw [128] (fun v wq => ∃ y : Nat, y ≤ E.length ∧ v = .int .i64 y ∧ (∀ y', y' < y → (pthR i' s' nx ot ((E.getD x Ent.zero).p : Int) ((E.getD y' Ent.zero).p : Int)).1.isSome = true) ∧ Below w6.heap.size w6 wq) (fun v _ => E.length - (intOf v).toNat)
            case atStart => exact ⟨0, Nat.zero_le _, rfl, fun y' h => absurd h (by omega), HBR.out⟩
            case round =>
              obtain ⟨y, hy', rfl, hall2, hb7⟩ := hrel
              have HALL2 := Lib.hid hall2
              have HBQ := Lib.hid hb7
              clear hall2 hb7
              by_cases hly : y < E.length
              · have hbc := bt HB6.out HBQ.out
                obtain ⟨k0, k1, k2, k3, _⟩ := (HB.out _ hbc).cells
                obtain ⟨g1, o1, e1, _, x1⟩ := (P1I.out _ HBQ.out).at_ hlt
                obtain ⟨g2, o2, e2, _, y1⟩ := (P1I.out _ HBQ.out).at_ hly
                subst e1
                cases e2
                rw [psL_at' hlt] at x1
                rw [psL_at' hly] at y1
                have hpx := (HE.out.lt _ (getDE_mem hlt)).1
                have hpy := (HE.out.lt _ (getDE_mem hly)).1
                have hpe := HPE.out _ _ hpx hpy
                have HA2 := Lib.hid (fun (h : (pthR i' s' nx ot ((E.getD x Ent.zero).p : Int) ((E.getD y Ent.zero).p : Int)).1.isSome = true) => show ∀ y', y' < y + 1 → (pthR i' s' nx ot ((E.getD x Ent.zero).p : Int) ((E.getD y' Ent.zero).p : Int)).1.isSome = true from fun y' h9 => by
                  by_cases h8 : y' = y
                  · subst h8; exact h
                  · exact HALL2.out y' (by omega))
                have hpp := Lib.hid (fun (W : World) (h : Below wr.heap.size wr W) => ppath i' s' _ _ _ c _ d _ _ ((E.getD x Ent.zero).p : Int) ((E.getD y Ent.zero).p : Int) _ (HX.out _ (bt hbc h)) (HO.out _ (bt hbc h)))
                generalize (E.getD x Ent.zero).p = px at x1 hpx hpp HA2 hpe
                generalize (E.getD y Ent.zero).p = py at y1 hpy hpp HA2 hpe
                generalize pthR i' s' nx ot (px : Int) (py : Int) = D at hpp HA2 hpe
                obtain ⟨o, E2⟩ := D
                obtain rfl : E2 = 0 := hpe
                have HBC := Lib.hid hbc
                have HS := Lib.hid (show ∀ W, Below wr.heap.size wr W → W.cell? ⟨w.heap.size, 0, none⟩ = some (.int .i64 (i' : Int)) ∧ W.cell? ⟨w.heap.size, 1, none⟩ = some (.int .i64 (s' : Int)) ∧ W.cell? ⟨w.heap.size, 2, none⟩ = some (.slice A n c) ∧ W.cell? ⟨w.heap.size, 3, none⟩ = some (.slice B n d) ∧ W.cell? ⟨g1, o1 + x, none⟩ = some (.int .i64 (px : Int)) ∧ W.cell? ⟨g1, o1 + y, none⟩ = some (.int .i64 (py : Int)) from fun W h => ⟨(h.cell (block_lt k0)).trans k0, (h.cell (block_lt k1)).trans k1, (h.cell (block_lt k2)).trans k2, (h.cell (block_lt k3)).trans k3, (h.cell (block_lt x1)).trans x1, (h.cell (block_lt y1)).trans y1⟩)
                clear hbc
                have hbc : Below wr.heap.size wr wr.drew := (Below.refl _ wr).drew
                go_wp2_with fail
                go_region_held3 (fun W => W.cell? ⟨w.heap.size, 0, none⟩ = some (.int .i64 (i' : Int)) ∧ W.cell? ⟨w.heap.size, 1, none⟩ = some (.int .i64 (s' : Int)) ∧ W.cell? ⟨w.heap.size, 2, none⟩ = some (.slice A n c) ∧ W.cell? ⟨w.heap.size, 3, none⟩ = some (.slice B n d) ∧ W.cell? ⟨g1, o1 + x, none⟩ = some (.int .i64 (px : Int)) ∧ W.cell? ⟨g1, o1 + y, none⟩ = some (.int .i64 (py : Int))) (first | exact HS.out _ hbc) ((go_at_call 19; refine (hpp.out _ hbc).mono ?_; rintro e2 w' ⟨A', c', rfl, _, b'⟩; have hbc := bt hbc b'))
                obtain ⟨w7, hw7⟩ : ∃ w7, w7 = w' := ⟨_, rfl⟩
                rw [← hw7] at hbc ⊢
                clear hw7 k0 k1 k2 k3 x1 y1 hpp
                cases o with
                | none =>
                  have hbc := bt HBC.out hbc
                  go_wp2_with fail
                  refine (awake10 _).mono ?_
                  rintro e w9 ⟨rfl, a9⟩
                  have hbc := bt hbc a9
                  go_wp2
                  go_ret
                  exact ⟨rfl, bt hb0 hbc⟩
                | some u =>
                  have HA4 := Lib.hid (HA2.out rfl)
                  have HB7 := Lib.hid (HBQ.out.trans (hbc.mono HBQ.out.size))
                  clear hbc HA2
                  go_wp2
                  go_roundw
                  case rel => exact ⟨y + 1, by omega, by go_num, HA4.out, HB7.out⟩
                  case measure => simp [intOf]; omega
              · obtain rfl : y = E.length := by omega
                have HA3 := Lib.hid (show ∀ x' y', x' < x + 1 → y' < E.length → (pthR i' s' nx ot ((E.getD x' Ent.zero).p : Int) ((E.getD y' Ent.zero).p : Int)).1.isSome = true from fun x' y' h1 h2 => by
                  by_cases h8 : x' = x
                  · subst h8; exact HALL2.out y' h2
                  · exact HALL.out x' y' (by omega) h2)
                go_wp2
                go_roundw
                case rel => exact ⟨x + 1, by omega, by go_num, HA3.out, HBQ.out⟩
                case measure => simp [intOf]; omega
          · exfalso
            have h1 := HALL.out a b (by omega) hb
            rw [HAB.out] at h1
            exact absurd h1 (by simp)
      · rw [ht]
        clear ht h6
        go_wp2_with fail
        refine (awake10 _).mono ?_
        rintro e w9 ⟨rfl, a9⟩
        have hbc := bt hbc a9
        go_wp2
        go_ret
        exact ⟨rfl, bt hb0 hbc⟩
    · have hne : (vld i st nx ot != 0) = true := by simpa using hv
      generalize vld i st nx ot = E at hne ⊢
      clear hv
      go_wp2_with fail
      refine (awake10 _).mono ?_
      rintro e w9 ⟨rfl, a9⟩
      have hbc := bt hbc a9
      go_wp2
      go_ret
      exact ⟨rfl, bt hb0 hbc⟩
  · go_wp2_with fail
    refine (awake10 _).mono ?_
    rintro e w9 ⟨rfl, a9⟩
    have hbc := bt hbc a9
    go_wp2
    go_ret
    exact ⟨rfl, bt hb0 hbc⟩
end Go.Proofs.Ytedcdpmflcegbaa
end
