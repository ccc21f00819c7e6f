/- Lemmas of the proofs of this seat, of the parts Pairi, Trimr, Rrs14. Conditions: none. -/
import Derived.Test.YtogcecfeofbbnaaNad
import Derived.Test.YtogcecfeofbbnaaNaf
import Derived.Test.YtogcecfeofbbnaaNbf
import Derived.Test.YtogcecfeofbbnaaNbm
import Derived.Test.YtogcecfeofbbnaaNae
import Derived.BigQuiet
import Derived.Deep.QuietTactic
section
/- Two rows of numbers that grow side by side. -/
namespace Go.Proofs.Ytogcecfeofbbnaa
open Go.RowKit

theorem Apart.movedI {w : World} {base : Nat} {v v' u : Value} {xs : List Int} (h : Apart v u) (hm : Moved w v v') (hu : Owned w base u xs) : Apart v' u := by
  rcases hm with e | ⟨g, hg, e⟩
  · intro k hk; rw [e] at hk; exact h k hk
  · intro k hk h2
    rw [e] at hk
    injection hk with hk
    have := (hu.lt k h2).2
    omega

/-- append of one number; every other block is as it was. -/
theorem run_append_onek {w : World} {base : Nat} {v : Value} {xs : List Int} (h : Owned w base v xs) (x : Int) (hbase : base ≤ w.heap.size) (hl : xs.length < 17592186044416) :
    ∃ A c w', (Builtin.append_ #[27, 27] 27 #[v, .slice (some ⟨w.heap.size, 0, none⟩) 1 1]).run Try.prog (w.alloc (.cells #[.int .i64 x] 3)) = .ok (.slice A (xs.length + 1) c) w' ∧
      Owned w' base (.slice A (xs.length + 1) c) (xs ++ [x]) ∧ Below base w w' ∧ KeptB v.ownBlock w w' ∧ Moved w v (.slice A (xs.length + 1) c) := by
  obtain ⟨i, hi, hz0, hz1, hz2⟩ := info_parts info3
  have hbz := alloc_below w (.cells #[.int .i64 x] 3)
  have ho1 : (w.alloc (.cells #[.int .i64 x] 3)).ownsRow base 3 1 v xs.length (xs.map (Value.int .i64)) := h.kept hbz
  obtain ⟨v', w', hr, h1, h2, _, hmv⟩ := run_append_own_at (P := Try.prog) (w.alloc (.cells #[.int .i64 x] 3)) base 27 27 3 i (.int .i64 0) 1 8 Try.underlying27 hi hz0 hz1 hz2 rfl (by decide) v _ _ ho1 ⟨w.heap.size, 0, none⟩ 1 1 [.int .i64 x] (by simp)
    (by
      intro j u hu
      cases j with
      | zero =>
        simp at hu
        subst hu
        simp [Addr.add]
      | succ j => simp at hu)
    (by intro u hu; simp at hu; subst hu; rfl) (by unfold maxLen; omega) (by omega) (Nat.le_trans hbase hbz.size)
  have hown : Owned w' base v' (xs ++ [x]) := by
    unfold Owned
    rw [List.length_append, List.map_append]
    exact h1
  obtain ⟨A, c, rfl⟩ := hown.form
  rw [List.length_append] at hr hown
  have hkb : KeptB v.ownBlock w w' := fun g o e hne => (h2.block g (Nat.lt_of_lt_of_le (heap_lt e) hbz.size) (fun e2 => hne e2.symm)).trans ((hbz.block g (heap_lt e)).trans e)
  refine ⟨A, c, w', hr, hown, (hbz.mono hbase).trans ((Below.refl _ _).grown h2 (Nat.le_trans hbase hbz.size) (fun k hk => (World.ownsRow.lt ho1 k hk).1)), hkb, ?_⟩
  rcases hmv with e | e
  · exact .inl (by rw [List.length_append] at e; exact e)
  · exact .inr ⟨(w.alloc (.cells #[.int .i64 x] 3)).heap.size, by simp, by rw [List.length_append] at e; exact e⟩

/-- append to one of two rows, behind any number of draws. -/
theorem pair_app {wr : World} {base q : Nat} {A : Option Addr} {c : Nat} {u : Value} {xs ys : List Int} (h : Owned wr base (.slice A q c) xs) (hu : Owned wr base u ys) (ha : Apart (.slice A q c) u) (x : Int) (hbase : base ≤ wr.heap.size) (hl : xs.length < 17592186044416) :
    ∃ F : Nat → (Option Addr × Nat) × World, ∀ k, (Builtin.append_ #[27, 27] 27 #[.slice A q c, .slice (some ⟨wr.heap.size, 0, none⟩) 1 1]).run Try.prog ((wr.drewN k).alloc (.cells #[.int .i64 x] 3)) = .ok (.slice (F k).1.1 (q + 1) (F k).1.2) (F k).2 ∧
      Owned (F k).2 base (.slice (F k).1.1 (q + 1) (F k).1.2) (xs ++ [x]) ∧ Owned (F k).2 base u ys ∧ Apart (.slice (F k).1.1 (q + 1) (F k).1.2) u ∧ Below base wr (F k).2 := by
  have hq : q = xs.length := by obtain ⟨A', c', e⟩ := h.form; cases e; rfl
  refine skol (p := fun k (r : (Option Addr × Nat) × World) => (Builtin.append_ #[27, 27] 27 #[.slice A q c, .slice (some ⟨wr.heap.size, 0, none⟩) 1 1]).run Try.prog ((wr.drewN k).alloc (.cells #[.int .i64 x] 3)) = .ok (.slice r.1.1 (q + 1) r.1.2) r.2 ∧
      Owned r.2 base (.slice r.1.1 (q + 1) r.1.2) (xs ++ [x]) ∧ Owned r.2 base u ys ∧ Apart (.slice r.1.1 (q + 1) r.1.2) u ∧ Below base wr r.2) fun k => ?_
  obtain ⟨A', c', w', h1, h2, h3, h4, h5⟩ := run_append_onek (h.drew k) x hbase hl
  rw [← hq] at h1 h2 h5
  exact ⟨((A', c'), w'), h1, h2, (hu.drew k).keptB h4 ha, ha.movedI h5 (hu.drew k), (below_drewN (Below.refl _ _) k).trans h3⟩
end Go.Proofs.Ytogcecfeofbbnaa
end

section
/- The reference: Trim. -/
namespace Go.Proofs.Ytogcecfeofbbnaa
open Go.RowKit

theorem take_getD_succ {l : List Int} {j : Nat} (h : j < l.length) : l.take j ++ [l.getD j 0] = l.take (j + 1) := by
  rw [List.take_succ_eq_append_getElem h, List.getD_eq_getElem?_getD, List.getElem?_eq_getElem h]; rfl
theorem rtrim_bad (i st : Int) (A B : Option Addr) (n c m d : Nat) (nx ot : List (List Int)) (w : World) (hx : Lists w A n nx) (ho : Lists w B m ot) (hv : ¬ vld i st nx ot = 0) :
    Calls Try.prog 81 #[.agg #[.int .i64 i, .int .i64 st, .slice A n c, .slice B m d]] w fun e w' => e = .returned (.tuple #[.agg #[.int .i64 0, .int .i64 0, .slice none 0 0, .slice none 0 0], .int .i64 (vld i st nx ot)]) ∧ Below w.heap.size w w' := by
  have hb0 := alloc_below w (.cells #[.int .i64 i, .int .i64 st, .slice A n c, .slice B m d] 24)
  have hb1 := bt hb0 (alloc_below (w.alloc (.cells #[.int .i64 i, .int .i64 st, .slice A n c, .slice B m d] 24)) (.cells #[.int .i64 0, .int .i64 0, .slice none 0 0, .slice none 0 0] 24))
  have hne : (vld i st nx ot != 0) = true := by simpa using hv
  go_enter Try.func81, Try.ntmps81
  go_wp2_with fail
  refine (rvalid _ _ _ _ _ _ _ _ _ _ _ (hx.below hb1) (ho.below hb1)).mono ?_
  rintro e w1 ⟨rfl, b1⟩
  have hR : Mblk w1 (w.heap.size + 1) (.int .i64 0) (.int .i64 0) (.slice none 0 0) (.slice none 0 0) := by
    refine Mblk.kept ?_ b1 (by simp)
    have := heap_alloc_new (w.alloc (.cells #[.int .i64 i, .int .i64 st, .slice A n c, .slice B m d] 24)) (.cells #[.int .i64 0, .int .i64 0, .slice none 0 0, .slice none 0 0] 24)
    simpa [Mblk] using this
  obtain ⟨c0, c1, c2, c3, f0, f1, f2, f3⟩ := hR.cells
  have HR := Lib.hid hR
  generalize hE : vld i st nx ot = E at hne hv
  have HE := Lib.hid hE
  clear hv hR hE
  go_wp2
  (try simp only [Exit.inBlock, Exit.then])
  refine bodyPost_ret (results_mealy rfl _ _ (w.heap.size + 1) (.int .i64 0) (.int .i64 0) (.slice none 0 0) (.slice none 0 0) rfl (HR.out.set4 _ _ _ _)) rfl ?_
  have hl : ∀ k, w.heap.size ≤ (⟨w.heap.size + 1, k, none⟩ : Addr).block := fun k => Nat.le_succ _
  exact ⟨by rw [HE.out]; rfl, (((((bt hb1 b1).setCell (hl 0) _).setCell (hl 1) _).setCell (hl 2) _).setCell (hl 3) _)⟩

set_option maxHeartbeats 4000000 in
set_option maxRecDepth 100000 in
theorem rtrim_ok (i st n : Nat) (A B : Option Addr) (c d : Nat) (nx ot : List (List Int)) (w : World) (hx : Lists w A n nx) (ho : Lists w B n ot) (hM : Mok i st n nx ot) :
    Calls Try.prog 81 #[.agg #[.int .i64 i, .int .i64 st, .slice A n c, .slice B n d]] w fun e w' => ∃ A' c' B' d',
      e = .returned (.tuple #[.agg #[.int .i64 i, .int .i64 0, .slice A' (rch nx i st).length c', .slice B' (rch nx i st).length d'], .int .i64 0]) ∧
      OwnedL w' w.heap.size (.slice A' (rch nx i st).length c') (trN nx i (rch nx i st)) ∧ OwnedL w' w.heap.size (.slice B' (rch nx i st).length d') (trO ot (rch nx i st)) ∧ Below w.heap.size w w' := by
  have hn := hx.2.1
  have hn128 := hM.n2
  have HV := Lib.hid hM.vld
  have hlo := Lib.hid ho
  obtain ⟨w0, hw0⟩ : ∃ w0, w0 = (w.alloc (.cells #[.int .i64 i, .int .i64 st, .slice A n c, .slice B n d] 24)).alloc (.cells #[.int .i64 0, .int .i64 0, .slice none 0 0, .slice none 0 0] 24) := ⟨_, rfl⟩
  have hb1 : Below w.heap.size w w0 := by rw [hw0]; exact bt (alloc_below _ _) (alloc_below _ _)
  have hz0 : w0.heap.size = w.heap.size + 2 := by rw [hw0]; simp
  have hB0 : Mblk w0 w.heap.size (.int .i64 i) (.int .i64 st) (.slice A n c) (.slice B n d) := by
    rw [hw0]
    have := (alloc_below (w.alloc (.cells #[.int .i64 i, .int .i64 st, .slice A n c, .slice B n d] 24)) (.cells #[.int .i64 0, .int .i64 0, .slice none 0 0, .slice none 0 0] 24)).block w.heap.size (by simp)
    exact this.trans (heap_alloc_new w _)
  have hR0 : Mblk w0 (w.heap.size + 1) (.int .i64 0) (.int .i64 0) (.slice none 0 0) (.slice none 0 0) := by
    rw [hw0]
    have := heap_alloc_new (w.alloc (.cells #[.int .i64 i, .int .i64 st, .slice A n c, .slice B n d] 24)) (.cells #[.int .i64 0, .int .i64 0, .slice none 0 0, .slice none 0 0] 24)
    simpa [Mblk] using this
  have HW0 := Lib.hid hw0
  obtain ⟨R, hR⟩ : ∃ R, R = rch nx i st := ⟨_, rfl⟩
  have hRs : Stt n R := by rw [hR]; exact hM.rch_stt
  have hRc := Lib.hid (show ∀ s a, s ∈ R → a < i → nN nx s a ∈ R from fun s a hs ha => by rw [hR] at hs ⊢; exact hM.rch_in hs ha)
  have HREACH := Lib.hid (fun W h1 h2 => rreach_ok i st n A B c d nx ot W h1 h2 hM)
  rw [← hR] at HREACH ⊢
  clear hR
  have hRl := hRs.len
  go_enter Try.func81, Try.ntmps81
  go_wp2_with fail
  rw [← HW0.out]
  clear hw0
  refine (rvalid _ _ _ _ _ _ _ _ _ _ _ (hx.below hb1) (ho.below hb1)).mono ?_
  rintro e w1 ⟨rfl, b1⟩
  rw [HV.out]
  obtain ⟨k0, k1, k2, k3, _⟩ := (hB0.kept b1 (by omega)).cells
  go_wp2_with fail
  refine (HREACH.out _ (hx.below (bt hb1 b1)) (ho.below (bt hb1 b1))).mono ?_
  rintro e w2 ⟨A1, c1, rfl, ho1, b2⟩
  have hbr := bt b1 b2
  have hzr := hbr.size
  obtain ⟨k0, k1, k2, k3, _⟩ := (hB0.kept hbr (by omega)).cells
  have hI := Owned.ints ho1 (by rw [zs_len]; omega)
  clear ho1 b1 b2
  obtain ⟨gT, hgT⟩ : ∃ gT, gT = w2.heap.size := ⟨_, rfl⟩
  obtain ⟨wo, rfl⟩ : ∃ wo : World, wo = w2 := ⟨_, rfl⟩
  have HT := Lib.hid hgT
  obtain ⟨w4, hw4⟩ : ∃ w4, w4 = wo.alloc (.cells #[.int .i64 i, .int .i64 0, .slice none 0 0, .slice none 0 0] 24) := ⟨_, rfl⟩
  have hbl4 : Below wo.heap.size wo w4 := by rw [hw4]; exact alloc_below _ _
  have hT4 : Mblk w4 gT (.int .i64 i) (.int .i64 0) (.slice none 0 0) (.slice none 0 0) := by rw [hw4, hgT]; exact heap_alloc_new _ _
  have hIo := Lib.hid hI
  rw [← hgT] at hzr hbl4
  have H4 := Lib.hid hw4
  have HL4 := Lib.hid hbl4
  have hbr0 := hbr
  clear hgT hI hbr hbl4
  go_wp2
  rw [← H4.out]
  clear hw4
  try rw [← HT.out]
  clear k0 k1 k2 k3
  have HT4 := Lib.hid hT4
  have hzr2 : w.heap.size < gT := by omega
  have HBX := Lib.hid (hB0.kept hbr0 (by omega))
  have HRX := Lib.hid (hR0.kept hbr0 (by omega))
  have HBW := Lib.hid (hb1.trans (hbr0.mono (by omega)))
  clear hT4 H4 hbr0
  go_loopw [7] (fun kv wr => ∃ (k : Nat) (AN AO : Option Addr) (cN cO : Nat), k ≤ R.length ∧ kv = .int .i64 k ∧ Below gT wo wr ∧ Mblk wr gT (.int .i64 i) (.int .i64 0) (.slice AN k cN) (.slice AO k cO) ∧
    OwnedL wr gT (.slice AN k cN) ((R.take k).map (trR nx i R)) ∧ OwnedL wr gT (.slice AO k cO) ((R.take k).map fun s => ot.getD s []) ∧ Apart (.slice AN k cN) (.slice AO k cO)) (fun kv _ => R.length - (intOf kv).toNat)
  case atStart => exact ⟨0, none, none, 0, 0, Nat.zero_le _, rfl, HL4.out, HT4.out, OwnedL.nil _ _, OwnedL.nil _ _, Apart.nil _⟩
  case round =>
    obtain ⟨k, AN, AO, cN, cO, hk, rfl, hbr, hT, hLN, hLO, hap⟩ := hrel
    have hzo : gT + 1 ≤ wr.heap.size := heap_lt hT
    obtain ⟨k0, k1, k2, k3, _⟩ := (HBX.out.kept hbr hzr2).cells
    have hbW : Below w.heap.size w wr := HBW.out.trans (hbr.mono (by omega))
    have hI : Ints wr A1 R.length (zs R) := hIo.out.below (by rw [← HT.out]; exact hbr)
    have HTT := Lib.hid hT
    have HLN := Lib.hid hLN
    have HLO := Lib.hid hLO
    have HAP := Lib.hid hap
    have HBR := Lib.hid hbr
    clear hT hLN hLO hap
    by_cases hlt : k < R.length
    · obtain ⟨b1, o1, rfl, hb1', hc1⟩ := hI.at_ hlt
      rw [zs_at] at hc1
      have hsR := getD_mem hlt
      have hs : R.getD k 0 < n := hRs.2 _ hsR
      have hTN := Lib.hid (map_take_succ (trR nx i R) R 0 hlt)
      have hTO := Lib.hid (map_take_succ (fun s => ot.getD s []) R 0 hlt)
      generalize R.getD k 0 = s at hc1 hs hsR hTN hTO
      obtain ⟨g1, p1, A3, n1, c3, rfl, hg1, hd1, hr1⟩ := hx.at_ hs
      obtain ⟨g2, p2, A4, n2, c4, rfl, hg2, hd2, hr2⟩ := hlo.out.at_ hs
      have hi1 := (hM.row s hs).1
      have hi2 := (hM.row s hs).2.1
      have hl1 := hr1.1
      have hl2 := hr2.1
      obtain rfl : n1 = i := by omega
      obtain rfl : n1 = n2 := by omega
      have hi64 := hM.i2
      have HI2 := Lib.hid hi2
      clear hl1 hl2 hi2 hi1
      go_wp2
      obtain ⟨wc, hwc⟩ : ∃ wc : World, wc = wr := ⟨_, rfl⟩
      subst hwc
      clear k0 k1 k2 k3
      go_loopw [8, 9, 10] (fun nv ov av wq => ∃ (a : Nat) (A8 A9 : Option Addr) (c8 c9 : Nat), a ≤ n1 ∧ av = .int .i64 a ∧ nv = .slice A8 a c8 ∧ ov = .slice A9 a c9 ∧ Owned wq wc.heap.size (.slice A8 a c8) ((trR nx n1 R s).take a) ∧ Owned wq wc.heap.size (.slice A9 a c9) ((ot.getD s []).take a) ∧ Apart (.slice A8 a c8) (.slice A9 a c9) ∧ Below wc.heap.size wc wq) (fun _ _ av _ => n1 - (intOf av).toNat)
      case atStart => exact ⟨0, none, none, 0, 0, Nat.zero_le _, rfl, rfl, rfl, Owned.nil _ _, Owned.nil _ _, Apart.nil _, Below.refl _ _⟩
      case round =>
        obtain ⟨a, A8, A9, c8, c9, ha, rfl, rfl, rfl, o8, o9, ap, bq⟩ := hrel
        have hgc : gT ≤ wc.heap.size := by omega
        have hbi : Below gT wo wr := HBR.out.trans (bq.mono hgc)
        obtain ⟨k0, k1, k2, k3, _⟩ := (HBX.out.kept hbi hzr2).cells
        have hbWi : Below w.heap.size w wr := HBW.out.trans (hbi.mono (by omega))
        by_cases hla : a < n1
        · obtain ⟨g3, p3, rfl, hg3, hy1⟩ := hr1.at_ hla
          obtain ⟨g4, p4, rfl, hg4, hy2⟩ := hr2.at_ hla
          rw [hM.nN_eq hs hla] at hy1
          have ht := hM.nN_lt hs hla
          have hmem := hRc.out s a hsR hla
          have hz8 := Lib.hid (show (trR nx n1 R s).take a ++ [((ixN R (nN nx s a) : Nat) : Int)] = (trR nx n1 R s).take (a + 1) by
            rw [List.take_succ_eq_append_getElem (by rw [trR_len]; exact hla)]
            have := trR_at (nx := nx) (R := R) (s := s) hla
            rw [List.getD_eq_getElem?_getD, List.getElem?_eq_getElem (by rw [trR_len]; exact hla)] at this
            congr 2
            exact this.symm)
          have hz9 := Lib.hid (take_getD_succ (l := ot.getD s []) (j := a) (by rw [HI2.out]; exact hla))
          have hl8 : ((trR nx n1 R s).take a).length < 17592186044416 := by rw [List.length_take, trR_len]; omega
          have hl9 : ((ot.getD s []).take a).length < 17592186044416 := by rw [List.length_take, HI2.out]; omega
          generalize nN nx s a = t at hy1 ht hmem hz8
          generalize (ot.getD s []).getD a 0 = ov at hy2 hz9
          have HIX := Lib.hid (rindex (some ⟨b1, o1, none⟩) R.length c1 R t wr.drew (hI.below bq.drew) hmem)
          generalize ixN R t = xv at HIX hz8
          obtain ⟨F, hF⟩ := pair_app o8 o9 ap (xv : Int) bq.size hl8
          rw [hz8.out] at hF
          obtain ⟨G, hG⟩ := skol (fun k => pair_app (hF k).2.2.1 (hF k).2.1 (hF k).2.2.2.1.symm ov (Nat.le_trans bq.size (hF k).2.2.2.2.size) hl9)
          rw [hz9.out] at hG
          have HF := Lib.hid hF
          have HG := Lib.hid hG
          have hcq := (bq.cell (p := ⟨b1, o1 + k, none⟩) hb1').trans hc1
          have tr : ∀ (g o : Nat) (v : Value), g < w.heap.size → w.cell? ⟨g, o, none⟩ = some v → wr.cell? ⟨g, o, none⟩ = some v := fun g o v h h2 => (hbWi.cell (p := ⟨g, o, none⟩) h).trans h2
          have trF : ∀ (g o : Nat) (v : Value), g < wc.heap.size → wr.cell? ⟨g, o, none⟩ = some v → ∀ k, (F k).2.cell? ⟨g, o, none⟩ = some v := fun g o v h h2 k => ((hF k).2.2.2.2.cell (p := ⟨g, o, none⟩) h).trans h2
          have hzw : w.heap.size < wc.heap.size := by omega
          have e1 := tr _ _ _ hg1 hd1
          have e2 := tr _ _ _ hg2 hd2
          have e3 := tr _ _ _ hg3 hy1
          have e4 := tr _ _ _ hg4 hy2
          have f1 := trF _ _ _ (by omega) e2
          have f2 := trF _ _ _ (by omega) e4
          have f3 := trF _ _ _ hb1' hcq
          have f4 := trF _ _ _ hzw k3
          clear tr trF hF hG hd1 hd2 hy1 hy2 k1 hl8 hl9
          go_wp2
          go_region_law (first
            | (refine step_append_run rfl _ _ _ _ rfl _ _ rfl rfl _ _ (HF.out _).1 ?_)
            | (go_simp; go_at_call 108; refine HIX.out.mono ?_; rintro e w' ⟨rfl, qx, rfl⟩))
          all_goals
            go_wp2
            go_region_law (refine step_append_run rfl _ _ _ _ rfl _ _ rfl rfl _ _ (HG.out _ _).1 ?_)
          all_goals
            go_wp2
            go_roundw
            case rel => exact ⟨a + 1, _, _, _, _, by omega, by go_num, rfl, rfl, (HG.out _ _).2.2.1, (HG.out _ _).2.1, (HG.out _ _).2.2.2.1.symm, bq.trans ((HF.out _).2.2.2.2.trans (HG.out _ _).2.2.2.2)⟩
            case measure => simp [intOf]; omega
        · obtain rfl : a = n1 := by omega
          rw [List.take_of_length_le (by rw [trR_len]; exact Nat.le_refl _)] at o8
          rw [List.take_of_length_le (by rw [HI2.out]; exact Nat.le_refl _)] at o9
          have hTq := HTT.out.kept bq (heap_lt HTT.out)
          obtain ⟨c0, c1', c2', c3', f0, f1, f2, f3⟩ := hTq.cells
          have hLq := HLN.out.kept bq
          have hLOq := HLO.out.kept bq
          have o8 := o8.lower (base' := gT) hgc
          have o9 := o9.lower (base' := gT) hgc
          have hzq := bq.size
          have hgq : gT ≤ wr.heap.size := by omega
          obtain ⟨AN2, cN2, w7, hrn, hLN7, b7, hk7, hkb7, hmv7⟩ := run_append_list hLq o8 hgq (by rw [List.length_map, List.length_take]; omega)
          have hkl : ((R.take k).map (trR nx a R)).length = k := by rw [List.length_map, List.length_take]; omega
          rw [hkl] at hrn hLN7 hmv7
          rw [← hTN.out] at hLN7
          have hT7 := hTq.keptT (hk7 _ (by decide))
          obtain ⟨y0, y1, y2, y3, z0, z1, z2, z3⟩ := hT7.cells
          have hLO7 := hLOq.keptB hkb7 HAP.out (hk7 _ (by decide))
          have hAP7 := HAP.out.moved hmv7 hLOq
          have h97 := o9.keptT (hk7 _ (by decide))
          have hb7 : Below gT wo w7 := HBR.out.trans ((bq.mono (by omega)).trans b7)
          have h84 := hb7.setCell (p := ⟨gT, 2, none⟩) (Nat.le_refl _) (.slice AN2 (k + 1) cN2)
          have h81 := hT7.set2 (.slice AN2 (k + 1) cN2)
          have h82 := hLN7.offM (j := 2) hT7 (.slice AN2 (k + 1) cN2)
          have h83 := hLO7.offM (j := 2) hT7 (.slice AN2 (k + 1) cN2)
          have h85 := h97.keptT (KeptT.off hT7 (by decide) (.slice AN2 (k + 1) cN2) (k := 2))
          have hs8 : (w7.setCell ⟨gT, 2, none⟩ (.slice AN2 (k + 1) cN2)).heap.size = w7.heap.size := by simp
          have hg8 : gT ≤ (w7.setCell ⟨gT, 2, none⟩ (.slice AN2 (k + 1) cN2)).heap.size := Nat.le_of_lt (heap_lt h81)
          obtain ⟨AO2, cO2, w9, hrn2, hLO9, b9, hk9, hkb9, hmv9⟩ := run_append_list h83 h85 hg8 (by rw [List.length_map, List.length_take]; omega)
          have hkl2 : ((R.take k).map fun s => ot.getD s []).length = k := by rw [List.length_map, List.length_take]; omega
          rw [hkl2, hs8] at hrn2
          rw [hkl2] at hLO9 hmv9
          rw [← hTO.out] at hLO9
          have hT9 := h81.keptT (hk9 _ (by decide))
          obtain ⟨v0, v1, v2, v3, u0, u1, u2, u3⟩ := hT9.cells
          have hLN9 := h82.keptB hkb9 hAP7.symm (hk9 _ (by decide))
          have hAP9 := (hAP7.symm.moved hmv9 h82).symm
          have hb9 := (h84.trans b9).setCell (p := ⟨gT, 3, none⟩) (Nat.le_refl _) (.slice AO2 (k + 1) cO2)
          have hM9 := hT9.set3 (.slice AO2 (k + 1) cO2)
          have hN9 := hLN9.offM (j := 3) hT9 (.slice AO2 (k + 1) cO2)
          have hO9 := hLO9.offM (j := 3) hT9 (.slice AO2 (k + 1) cO2)
          have HH := Lib.hid (And.intro hb9 (And.intro hM9 (And.intro hN9 (And.intro hO9 hAP9))))
          clear hT7 hLN7 hLO7 hb7 h81 h82 h83 h84 h85 h97 hTq hLq hLOq o8 o9 hk7 hkb7 hmv7 b7 bq hb9 hM9 hN9 hO9 hAP9 hLN9 hLO9 hT9 hk9 hkb9 hmv9 b9 hAP7 hs8 hg8
          go_wp2_with (at_builtin; first | (refine Lib.wpList_append_run _ rfl _ _ _ _ rfl _ _ rfl rfl _ _ hrn ?_) | (refine Lib.wpList_append_run _ rfl _ _ _ _ rfl _ _ rfl rfl _ _ hrn2 ?_))
          go_roundw
          case rel => exact ⟨k + 1, AN2, AO2, cN2, cO2, by omega, by go_num, HH.out.1, HH.out.2.1, HH.out.2.2.1, HH.out.2.2.2.1, HH.out.2.2.2.2⟩
          case measure => simp [intOf]; omega
    · obtain rfl : k = R.length := by omega
      obtain ⟨c0, c1', c2', c3', _⟩ := HTT.out.cells
      have hRr := HRX.out.kept HBR.out (by omega)
      obtain ⟨y0, y1, y2, y3, z0, z1, z2, z3⟩ := hRr.cells
      have hN9 := HLN.out
      have hO9 := HLO.out
      rw [List.take_length] at hN9 hO9
      have hl : ∀ k, w.heap.size ≤ (⟨w.heap.size + 1, k, none⟩ : Addr).block := fun k => Nat.le_succ _
      have hfb := Lib.hid (((((hbW.setCell (hl 0) (.int .i64 i)).setCell (hl 1) (.int .i64 0)).setCell (hl 2) (.slice AN R.length cN)).setCell (hl 3) (.slice AO R.length cO)))
      have hR4 := Lib.hid (hRr.set4 (.int .i64 i) (.int .i64 0) (.slice AN R.length cN) (.slice AO R.length cO))
      have hq1 := hRr
      have hq2 : Mblk (wr.setCell ⟨w.heap.size + 1, 0, none⟩ (.int .i64 i)) (w.heap.size + 1) _ _ _ _ := heap_setCell_same wr _ 0 _ _ _ hq1
      have hq3 : Mblk ((wr.setCell ⟨w.heap.size + 1, 0, none⟩ (.int .i64 i)).setCell ⟨w.heap.size + 1, 1, none⟩ (.int .i64 0)) (w.heap.size + 1) _ _ _ _ := heap_setCell_same _ _ 1 _ _ _ hq2
      have hq4 : Mblk (((wr.setCell ⟨w.heap.size + 1, 0, none⟩ (.int .i64 i)).setCell ⟨w.heap.size + 1, 1, none⟩ (.int .i64 0)).setCell ⟨w.heap.size + 1, 2, none⟩ (.slice AN R.length cN)) (w.heap.size + 1) _ _ _ _ := heap_setCell_same _ _ 2 _ _ _ hq3
      have hN10 := Lib.hid (((((hN9.offM hq1 (.int .i64 i) (j := 0)).offM hq2 (.int .i64 0) (j := 1)).offM hq3 (.slice AN R.length cN) (j := 2)).offM hq4 (.slice AO R.length cO) (j := 3)).lower (base' := w.heap.size) (by omega))
      have hO10 := Lib.hid (((((hO9.offM hq1 (.int .i64 i) (j := 0)).offM hq2 (.int .i64 0) (j := 1)).offM hq3 (.slice AN R.length cN) (j := 2)).offM hq4 (.slice AO R.length cO) (j := 3)).lower (base' := w.heap.size) (by omega))
      clear hRr hq1 hq2 hq3 hq4 hN9 hO9 hl hbW
      go_wp2
      (try simp only [Exit.inBlock, Exit.then])
      refine bodyPost_ret (results_mealy rfl _ _ (w.heap.size + 1) _ _ _ _ rfl hR4.out) rfl ?_
      exact ⟨AN, cN, AO, cO, rfl, hN10.out, hO10.out, hfb.out⟩
end Go.Proofs.Ytogcecfeofbbnaa
end

section
/- Restrict of the reference. -/
namespace Go.Proofs.Ytogcecfeofbbnaa
open Go.RowKit

theorem pickL_zero (xs l : List Int) : pickL xs (l.take 0) = [] := by simp [pickL]
/-- None of the first is this one. -/
def NoI (l : List Int) (j k : Nat) : Prop := ∀ t, t < k → ¬ l.getD t 0 = l.getD j 0
theorem NoI.zero (l : List Int) (j : Nat) : NoI l j 0 := fun _ h => absurd h (by omega)
theorem NoI.succ {l : List Int} {j k : Nat} (h : NoI l j k) (h1 : ¬ l.getD k 0 = l.getD j 0) : NoI l j (k + 1) := fun t ht => by
  by_cases e : t = k
  · subst e; exact h1
  · exact h t (by omega)
theorem NoI.ok {i : Nat} {l : List Int} {j : Nat} (h : NoI l j j) (hj : j < l.length) (hr : 0 ≤ l.getD j 0 ∧ l.getD j 0 < i) : chcF i l j = 0 := by
  unfold chcF
  rw [if_pos hr, if_neg]
  intro hm
  obtain ⟨t, ht, e⟩ := List.mem_take_iff_getElem.1 hm
  have h1 : t < j := by omega
  refine h t h1 ?_
  rw [getD_intL (by omega)]
  exact e
theorem chcF_eq {i : Nat} {l : List Int} {j k : Nat} (hk : k < j) (hj : j < l.length) (hr : 0 ≤ l.getD j 0 ∧ l.getD j 0 < i) (e : l.getD k 0 = l.getD j 0) : chcF i l j = 7 := by
  unfold chcF
  rw [if_pos hr, if_pos]
  rw [← e, getD_intL (by omega)]
  exact List.mem_take_iff_getElem.2 ⟨k, by omega, rfl⟩
/-- What Restrict answers, valid or not. -/
def reX (i1 st1 : Int) (nx ot : List (List Int)) (l : List Int) : RsX :=
  if vld i1 st1 nx ot = 0 then (if chcE i1.toNat l = 0 then (l.length, trN (rsN l nx) l.length (rch (rsN l nx) l.length st1.toNat), trO (rsN l ot) (rch (rsN l nx) l.length st1.toNat), 0) else noX (chcE i1.toNat l)) else noX (vld i1 st1 nx ot)
theorem reX_bad {i1 st1 : Int} {nx ot : List (List Int)} (l : List Int) (h : ¬ vld i1 st1 nx ot = 0) : reX i1 st1 nx ot l = noX (vld i1 st1 nx ot) := by unfold reX; rw [if_neg h]
section
variable {i st n : Nat} {nx ot : List (List Int)} {l : List Int}
theorem reX_no (hM : Mok i st n nx ot) (h : ¬ chcE i l = 0) : reX i st nx ot l = noX (chcE i l) := by unfold reX; rw [if_pos hM.vld, Int.toNat_natCast, if_neg h]
theorem reX_ok (hM : Mok i st n nx ot) (h : chcE i l = 0) : reX i st nx ot l = (l.length, trN (rsN l nx) l.length (rch (rsN l nx) l.length st), trO (rsN l ot) (rch (rsN l nx) l.length st), 0) := by unfold reX; rw [if_pos hM.vld, Int.toNat_natCast, if_pos h, Int.toNat_natCast]
theorem TrmP.rs {base k : Nat} {N T : List (List Int)} {e : Ending} {w' : World} (hM : Mok k st n N T) (h : TrmP base k (trN N k (rch N k st)) (trO T (rch N k st)) (rch N k st).length e w') : RsP (k, trN N k (rch N k st), trO T (rch N k st), 0) e w' := by
  obtain ⟨A, c, B, d, rfl, o1, o2⟩ := h
  have hm := hM.tr
  have e1 : (trN N k (rch N k st)).length = (rch N k st).length := by simp [trN]
  have e2 : (trO T (rch N k st)).length = (rch N k st).length := by simp [trO]
  refine ⟨A, c, B, d, ?_, ?_, ?_⟩
  · show _ = Ending.returned (.tuple #[.agg #[_, _, .slice A (trN N k (rch N k st)).length c, .slice B (trO T (rch N k st)).length d], _])
    rw [e1, e2]
  · show Lists w' A (trN N k (rch N k st)).length (trN N k (rch N k st))
    rw [e1]; exact lists_ownedM hm o1
  · show Lists w' B (trO T (rch N k st)).length (trO T (rch N k st))
    rw [e2]; exact lists_ownedO hm o2
end
set_option linter.unusedSimpArgs false in
set_option linter.unusedVariables false in
set_option maxHeartbeats 8000000 in
set_option maxRecDepth 100000 in
theorem rrestrict_all (i1 st1 : Int) (A B C : Option Addr) (n c m d L e : Nat) (nx ot : List (List Int)) (l : List Int) (w : World) (hx : Lists w A n nx) (ho : Lists w B m ot) (hC : Ints w C L l) (hLl : L ≤ 100000) :
    Calls Try.prog 40 #[.agg #[.int .i64 i1, .int .i64 st1, .slice A n c, .slice B m d], .slice C L e] w fun e w' => RsP (reX i1 st1 nx ot l) e w' ∧ Below w.heap.size w w' := by
  obtain ⟨w0, hw0, hb0, hG, hR, hz0⟩ := two_boxesR w i1 st1 A B n c m d
  obtain ⟨k0, k1, k2, k3, _⟩ := hG.cells
  have HX := Lib.hid (fun (W : World) (h : Below w0.heap.size w0 W) => (hx.below hb0).below h)
  have HO := Lib.hid (fun (W : World) (h : Below w0.heap.size w0 W) => (ho.below hb0).below h)
  have HC := Lib.hid (fun (W : World) (h : Below w0.heap.size w0 W) => (hC.below hb0).below h)
  have HL := Lib.hid hC.1
  have HW0 := Lib.hid hw0
  have HB0 := Lib.hid hb0
  have HG := Lib.hid hG
  have HR := Lib.hid hR
  have HZ := Lib.hid hz0
  clear hw0 hb0 hG hR hz0 hx ho hC
  rw [HW0.out] at k0 k1 k2 k3
  go_enter Try.func40, Try.ntmps40
  go_wp2_with fail
  rw [← HW0.out]
  refine (rvalid _ _ _ _ _ _ _ _ _ _ _ (HX.out _ (Below.refl _ _)) (HO.out _ (Below.refl _ _))).mono ?_
  rintro e1 w1 ⟨rfl, hbc⟩
  clear k0 k1 k2 k3
  by_cases hv : vld i1 st1 nx ot = 0
  case neg =>
    obtain ⟨x, hx0, hxe⟩ : ∃ x, ¬ x = 0 ∧ vld i1 st1 nx ot = x := ⟨_, hv, rfl⟩
    have HE := Lib.hid (show reX i1 st1 nx ot l = noX x by rw [reX_bad l hv, hxe])
    have t1 : (x != 0) = true := by simpa using hx0
    rw [hxe]
    clear hv hxe
    have HRr := Lib.hid (HR.out.on hbc)
    obtain ⟨q0, q1, q2, q3, z0, z1, z2, z3⟩ := HRr.out.cells
    have HBC := Lib.hid hbc
    clear hbc
    go_wp2_with fail
    (try rw [Exit.noGoto_ret])
    refine bodyPost_ret (results_mealy rfl _ _ (w.heap.size + 1) (.int .i64 0) (.int .i64 0) (.slice none 0 0) (.slice none 0 0) rfl (HRr.out.set4 _ _ _ _)) rfl ?_
    exact ⟨by rw [HE.out]; exact NoM.rs _ _, below_set4 (by omega) (bt HB0.out HBC.out) _ _ _ _⟩
  obtain ⟨i, st, k, rfl, rfl, hM⟩ := vld_zero hv
  obtain rfl : n = k := by rw [← hM.nxl]; exact (HX.out _ (Below.refl _ _)).1.symm
  obtain rfl : n = m := by rw [← hM.otl]; exact (HO.out _ (Below.refl _ _)).1
  rw [hv]
  have hi1 := hM.i1
  have hi2 := hM.i2
  have hn2 := hM.n2
  have hnxl := hM.nxl
  have hotl := hM.otl
  have HM := Lib.hid hM
  clear hv hM
  by_cases hL0 : L = 0
  case pos =>
    subst hL0
    have HE := Lib.hid (show reX i st nx ot l = noX 19 by rw [reX_no HM.out (by rw [chcE_nil HL.out]; decide), chcE_nil HL.out])
    have HRr := Lib.hid (HR.out.on hbc)
    obtain ⟨q0, q1, q2, q3, z0, z1, z2, z3⟩ := HRr.out.cells
    have HBC := Lib.hid hbc
    clear hbc
    go_wp2_with fail
    (try rw [Exit.noGoto_ret])
    refine bodyPost_ret (results_mealy rfl _ _ (w.heap.size + 1) (.int .i64 0) (.int .i64 0) (.slice none 0 0) (.slice none 0 0) rfl (HRr.out.set4 _ _ _ _)) rfl ?_
    exact ⟨by rw [HE.out]; exact NoM.rs _ _, below_set4 (by omega) (bt HB0.out HBC.out) _ _ _ _⟩
  have t1 : ((L : Int) == 0) = false := by rw [beq_eq_false_iff_ne]; omega
  have t1' : (L == 0) = false := by rw [beq_eq_false_iff_ne]; omega
  go_wp2_with fail
  have HBC1 := Lib.hid hbc
  go_loopw [7] (fun v7 wr => ∃ j : Nat, v7 = .int .i64 j ∧ j ≤ L ∧ AllC i l j ∧ Below w1.heap.size w1 wr) (fun v7 _ => L - (intOf v7).toNat)
  case atStart => exact ⟨0, rfl, Nat.zero_le _, AllC.zero _ _, Below.refl _ _⟩
  case round =>
    obtain ⟨j, rfl, hj, hA, hbr⟩ := hrel
    have HAJ := Lib.hid hA
    have hbc := bt HBC1.out hbr
    have HBR := Lib.hid hbr
    have hLn := HL.out
    by_cases hlt : j < L
    · have d0 : decide ((j : Int) < (L : Int)) = true := decide_eq_true (by omega)
      have d0' : decide (j < L) = true := decide_eq_true hlt
      obtain ⟨gC, oC, rfl, hgC, hcC⟩ := (HC.out _ HBC1.out).at_ hlt
      have y1 := (hbr.cell (p := ⟨gC, oC + j, none⟩) hgC).trans hcC
      have p1 : (0 : Int) ≤ (j : Int) := by omega
      have p2 : (j : Int) < (L : Int) := by omega
      obtain ⟨b0, _⟩ := (HG.out.on hbc).cells
      obtain ⟨x, hx⟩ : ∃ x, x = l.getD j 0 := ⟨_, rfl⟩
      rw [← hx] at y1
      by_cases hr : 0 ≤ x ∧ x < i
      case neg =>
        have HE := Lib.hid (show reX i st nx ot l = noX 2 by
          have h9 := hA.bad (i := i) (by rw [hLn]; exact hlt) (chcF_rng (i := i) (l := l) (j := j) (by rw [← hx]; exact hr)) (by decide)
          rw [reX_no HM.out (by rw [h9]; decide), h9])
        clear hA hbr hcC hgC hx
        by_cases hx0 : x < 0
        · have d1 : decide (x < 0) = true := by simpa using hx0
          clear hr hx0
          go_wp2_with fail
          go_quiet (fail)
          have hbc := below_drewN hbc nq
          clear y1 b0
          have HRr := Lib.hid (HR.out.on hbc)
          obtain ⟨r0, r1, r2, r3, z0, z1, z2, z3⟩ := HRr.out.cells
          have HBC := Lib.hid hbc
          clear hbc
          go_wp2_with fail
          (try rw [Exit.noGoto_ret])
          refine bodyPost_ret (results_mealy rfl _ _ (w.heap.size + 1) (.int .i64 0) (.int .i64 0) (.slice none 0 0) (.slice none 0 0) rfl (HRr.out.set4 _ _ _ _)) rfl ?_
          exact ⟨by rw [HE.out]; exact NoM.rs _ _, below_set4 (by omega) (bt HB0.out HBC.out) _ _ _ _⟩
        · have d1 : decide (x < 0) = false := by simpa using hx0
          have d2 : decide ((i : Int) ≤ x) = true := by simp; omega
          clear hr hx0
          go_wp2_with fail
          go_quiet (fail)
          have hbc := below_drewN hbc nq
          clear y1 b0
          have HRr := Lib.hid (HR.out.on hbc)
          obtain ⟨r0, r1, r2, r3, z0, z1, z2, z3⟩ := HRr.out.cells
          have HBC := Lib.hid hbc
          clear hbc
          go_wp2_with fail
          (try rw [Exit.noGoto_ret])
          refine bodyPost_ret (results_mealy rfl _ _ (w.heap.size + 1) (.int .i64 0) (.int .i64 0) (.slice none 0 0) (.slice none 0 0) rfl (HRr.out.set4 _ _ _ _)) rfl ?_
          exact ⟨by rw [HE.out]; exact NoM.rs _ _, below_set4 (by omega) (bt HB0.out HBC.out) _ _ _ _⟩
      have HRG := Lib.hid (show 0 ≤ l.getD j 0 ∧ l.getD j 0 < i by rw [← hx]; exact hr)
      have HXX := Lib.hid hx
      have d1 : decide (x < 0) = false := by simp; omega
      have d2 : decide ((i : Int) ≤ x) = false := by simp; omega
      clear hr hA hx hbr
      go_wp2_with fail
      go_quiet (fail)
      obtain ⟨wo, hwo⟩ : ∃ wo, wo = wr.drewN nq := ⟨_, rfl⟩
      rw [← hwo]
      have hbo : Below w1.heap.size w1 wo := by rw [hwo]; exact below_drewN HBR.out nq
      have HBO := Lib.hid hbo
      clear hwo y1 b0 hbc hbo
      go_wp2_with fail
      go_loopw [8] (fun v8 wr => ∃ k : Nat, v8 = .int .i64 k ∧ k ≤ j ∧ NoI l j k ∧ Below w1.heap.size w1 wr) (fun v8 _ => j - (intOf v8).toNat)
      case atStart => exact ⟨0, rfl, Nat.zero_le _, NoI.zero _ _, HBO.out⟩
      case round =>
        obtain ⟨k, rfl, hk, hNI, hbr⟩ := hrel
        have HNI := Lib.hid hNI
        have HBR2 := Lib.hid hbr
        have hbc := bt HBC1.out hbr
        by_cases hkj : k < j
        · have d3 : decide ((k : Int) < (j : Int)) = true := decide_eq_true (by omega)
          have d3' : decide (k < j) = true := decide_eq_true hkj
          obtain ⟨gC2, oC2, eC2, hgC2, hcC2⟩ := (HC.out _ HBC1.out).at_ (show k < L by omega)
          obtain ⟨rfl, rfl⟩ : gC = gC2 ∧ oC = oC2 := by injection eC2 with e3; injection e3 with e4 e5; exact ⟨e4, e5⟩
          have y1 := (hbr.cell (p := ⟨gC, oC + j, none⟩) hgC).trans hcC
          have y2 := (hbr.cell (p := ⟨gC, oC + k, none⟩) hgC2).trans hcC2
          rw [← HXX.out] at y1
          obtain ⟨y, hy⟩ : ∃ y, y = l.getD k 0 := ⟨_, rfl⟩
          rw [← hy] at y2
          have q1 : (0 : Int) ≤ (k : Int) := by omega
          have q2 : (k : Int) < (L : Int) := by omega
          clear hcC2 eC2 hgC2
          by_cases hyx : y = x
          · have d4 : (y == x) = true := by simpa using hyx
            have HE := Lib.hid (show reX i st nx ot l = noX 7 by
              have h9 := HAJ.out.bad (i := i) (by rw [hLn]; exact hlt) (chcF_eq (i := i) hkj (by rw [hLn]; exact hlt) HRG.out (by rw [← hy, hyx, HXX.out])) (by decide)
              rw [reX_no HM.out (by rw [h9]; decide), h9])
            clear hyx hy hNI hbr
            go_wp2_with fail
            go_quiet (fail)
            have hbc := below_drewN hbc nq
            clear y1 y2
            have HRr := Lib.hid (HR.out.on hbc)
            obtain ⟨r0, r1, r2, r3, z0, z1, z2, z3⟩ := HRr.out.cells
            have HBC := Lib.hid hbc
            clear hbc
            go_wp2_with fail
            (try rw [Exit.noGoto_ret])
            refine bodyPost_ret (results_mealy rfl _ _ (w.heap.size + 1) (.int .i64 0) (.int .i64 0) (.slice none 0 0) (.slice none 0 0) rfl (HRr.out.set4 _ _ _ _)) rfl ?_
            exact ⟨by rw [HE.out]; exact NoM.rs _ _, below_set4 (by omega) (bt HB0.out HBC.out) _ _ _ _⟩
          · have d4 : (y == x) = false := by simpa using hyx
            have HN2 := Lib.hid (hNI.succ (show ¬ l.getD k 0 = l.getD j 0 by rw [← hy, ← HXX.out]; exact hyx))
            clear hyx hy hNI hbr
            go_wp2_with fail
            go_quiet (fail)
            clear y1 y2
            go_wp2_with fail
            go_roundw
            case rel => exact ⟨k + 1, by go_num, by omega, HN2.out, below_drewN HBR2.out _⟩
            case measure => simp [intOf]; omega
        · obtain rfl : k = j := by omega
          have d3 : decide ((k : Int) < (k : Int)) = false := decide_eq_false (by omega)
          have d3' : decide (k < k) = false := decide_eq_false (by omega)
          have HA2 := Lib.hid (HAJ.out.succ (hNI.ok (i := i) (by rw [hLn]; exact hlt) HRG.out))
          clear hNI hbr
          go_wp2_with fail
          go_roundw
          case rel => exact ⟨k + 1, by go_num, by omega, HA2.out, HBR2.out⟩
          case measure => simp [intOf]; omega
    · obtain rfl : j = L := by omega
      have d0 : decide ((j : Int) < (j : Int)) = false := decide_eq_false (by omega)
      have d0' : decide (j < j) = false := decide_eq_false (by omega)
      have hce : chcE i l = 0 := AllC.all (by rw [hLn]; exact hA) (by rw [hLn]; exact hL0)
      clear hA
      have HCH := Lib.hid (chcE_zero hce)
      have HE := Lib.hid (reX_ok HM.out hce)
      have hli := HCH.out.1.len
      have HMR := Lib.hid (HM.out.rs HCH.out.1 HCH.out.2)
      rw [hLn] at hli HMR
      have HE2 := Lib.hid HE.out
      rw [hLn] at HE2
      obtain ⟨wx, hwx⟩ : ∃ wx, wx = wr.alloc (.cells #[.int .i64 (j : Nat), .int .i64 (st : Nat), .slice none 0 0, .slice none 0 0] 24) := ⟨_, rfl⟩
      obtain ⟨gX, hgX⟩ : ∃ gX, gX = wr.heap.size := ⟨_, rfl⟩
      have hBX : Mrs wx w0.heap.size gX (j : Nat) (st : Nat) [] [] none none 0 0 := by rw [hwx, hgX]; exact Mrs.new wr _ _ _
      have hX0 : Below w0.heap.size w0 wx := by rw [hwx]; exact bt hbc (alloc_below _ _)
      have HBX := Lib.hid hBX
      have HX0 := Lib.hid hX0
      have HGX := Lib.hid (show w0.heap.size ≤ gX by rw [hgX]; exact hbc.size)
      have HGE := Lib.hid hgX
      have HWX := Lib.hid hwx
      obtain ⟨k0, k1, k2, k3, _⟩ := (HG.out.on hbc).cells
      obtain ⟨y0, y1, y2, y3, _⟩ := (HG.out.on hX0).cells
      rw [hwx] at y0 y1 y2 y3
      clear hwx hgX hBX hX0 hbc hbr hce t1 t1'
      go_wp2_with fail
      rw [← HWX.out, ← HGE.out]
      clear k0 k1 k2 k3 y0 y1 y2 y3
      go_loopw [10] (fun v10 wr => ∃ (k : Nat) (AN AT : Option Addr) (cN cT : Nat), v10 = .int .i64 k ∧ k ≤ n ∧ Mrs wr w0.heap.size gX (j : Nat) (st : Nat) ((rsN l nx).take k) ((rsN l ot).take k) AN AT cN cT ∧ Below w0.heap.size w0 wr) (fun v10 _ => n - (intOf v10).toNat)
      case atStart => exact ⟨0, none, none, 0, 0, rfl, Nat.zero_le _, by simpa using HBX.out, HX0.out⟩
      case round =>
        obtain ⟨k, AN, AT, cN, cT, rfl, hk, hMk, hbr⟩ := hrel
        obtain ⟨b0, b1, b2, b3, _⟩ := (HG.out.on hbr).cells
        by_cases hkn : k < n
        · have d1 : decide ((k : Int) < (n : Int)) = true := decide_eq_true (by omega)
          have d1' : decide (k < n) = true := decide_eq_true hkn
          have HNk := Lib.hid (show ((rsN l nx).take k).length = k by rw [List.length_take, rsN_len]; omega)
          have HTk := Lib.hid (show ((rsN l ot).take k).length = k by rw [List.length_take, rsN_len]; omega)
          have HNN := Lib.hid (rsN_next (l := l) (show k < nx.length by omega))
          have HTN := Lib.hid (rsN_next (l := l) (show k < ot.length by omega))
          obtain ⟨gN, oN', A1, n1, c1, rfl, lN, hdN, hrN⟩ := (HX.out _ (Below.refl _ _)).at_ hkn
          obtain ⟨gT, oT', A3, n3, c3, rfl, lT, hdT, hrT⟩ := (HO.out _ (Below.refl _ _)).at_ hkn
          have hrow := HM.out.row k hkn
          obtain rfl : i = n1 := by rw [← hrN.1]; exact hrow.1.symm
          obtain rfl : i = n3 := by rw [← hrT.1]; exact hrow.2.1.symm
          have HMK := Lib.hid hMk
          have HBW := Lib.hid hbr
          have HDN := Lib.hid hdN
          have HDT := Lib.hid hdT
          have HRN := Lib.hid hrN
          have HRT := Lib.hid hrT
          clear hMk hbr hrow hdN hdT hrN hrT b0 b1 b3 hnxl hotl
          go_wp2_with fail
          clear b2
          obtain ⟨wo, hwo⟩ : ∃ wo : World, wo = wr := ⟨_, rfl⟩
          rw [← hwo] at HMK HBW ⊢
          clear hwo
          go_loopw [11, 12, 13] (fun v11 v12 v13 wr => ∃ (x : Nat) (A5 A6 : Option Addr) (c5 c6 : Nat), v13 = .int .i64 x ∧ x ≤ j ∧ v11 = .slice A5 x c5 ∧ v12 = .slice A6 x c6 ∧ Two wr wo.heap.size (.slice A5 x c5) (.slice A6 x c6) (pickL (nx.getD k []) (l.take x)) (pickL (ot.getD k []) (l.take x)) ∧ Below wo.heap.size wo wr) (fun _ _ v13 _ => j - (intOf v13).toNat)
          case atStart => exact ⟨0, none, none, 0, 0, rfl, Nat.zero_le _, rfl, rfl, by rw [pickL_zero, pickL_zero]; exact Two.nil _ _, Below.refl _ _⟩
          case round =>
            obtain ⟨x, A5, A6, c5, c6, rfl, hxj, rfl, rfl, h2, hbr⟩ := hrel
            have H2 := Lib.hid h2
            have HBR2 := Lib.hid hbr
            by_cases hxl : x < j
            · have d2 : decide ((x : Int) < (j : Int)) = true := decide_eq_true (by omega)
              have d2' : decide (x < j) = true := decide_eq_true hxl
              have hxl2 : x < l.length := by omega
              obtain ⟨h0, h1⟩ := HCH.out.1.at_ hxl2
              obtain ⟨a, ha⟩ : ∃ a : Nat, l.getD x 0 = (a : Int) := ⟨(l.getD x 0).toNat, by omega⟩
              have hai : a < i := by omega
              obtain ⟨gC, oC, rfl, hgC, hcC⟩ := (HC.out _ (Below.refl _ _)).at_ hxl
              obtain ⟨hN, kN, rfl, lhN, hvN⟩ := HRN.out.at_ hai
              obtain ⟨hT, kT, rfl, lhT, hvT⟩ := HRT.out.at_ hai
              obtain ⟨vN, hvn⟩ : ∃ v, v = (nx.getD k []).getD a 0 := ⟨_, rfl⟩
              obtain ⟨vT, hvt⟩ : ∃ v, v = (ot.getD k []).getD a 0 := ⟨_, rfl⟩
              rw [← hvn] at hvN
              rw [← hvt] at hvT
              rw [ha] at hcC
              have HNX := Lib.hid (show pickL (nx.getD k []) (l.take x) ++ [vN] = pickL (nx.getD k []) (l.take (x + 1)) by rw [← pickL_next hxl2, ha, Int.toNat_natCast, ← hvn])
              have HTX := Lib.hid (show pickL (ot.getD k []) (l.take x) ++ [vT] = pickL (ot.getD k []) (l.take (x + 1)) by rw [← pickL_next hxl2, ha, Int.toNat_natCast, ← hvt])
              have HWN := Lib.hid (show ∀ W : World, Below wo.heap.size wo W → W.cell? ⟨w.heap.size, 2, none⟩ = some (.slice (some ⟨gN, oN', none⟩) n c) ∧ W.cell? ⟨gN, oN' + k, none⟩ = some (.slice (some ⟨hN, kN, none⟩) i c1) ∧ W.cell? ⟨gC, oC + x, none⟩ = some (.int .i64 (a : Nat)) ∧ W.cell? ⟨hN, kN + a, none⟩ = some (.int .i64 vN) from fun W h => by
                have h9 := bt HBW.out h
                obtain ⟨_, _, q2, _⟩ := (HG.out.on h9).cells
                exact ⟨q2, (h9.cell (p := ⟨gN, oN' + k, none⟩) lN).trans HDN.out, (h9.cell (p := ⟨gC, oC + x, none⟩) hgC).trans hcC, (h9.cell (p := ⟨hN, kN + a, none⟩) lhN).trans hvN⟩)
              have HWT := Lib.hid (show ∀ W : World, Below wo.heap.size wo W → W.cell? ⟨w.heap.size, 3, none⟩ = some (.slice (some ⟨gT, oT', none⟩) n d) ∧ W.cell? ⟨gT, oT' + k, none⟩ = some (.slice (some ⟨hT, kT, none⟩) i c3) ∧ W.cell? ⟨gC, oC + x, none⟩ = some (.int .i64 (a : Nat)) ∧ W.cell? ⟨hT, kT + a, none⟩ = some (.int .i64 vT) from fun W h => by
                have h9 := bt HBW.out h
                obtain ⟨_, _, _, q2, _⟩ := (HG.out.on h9).cells
                exact ⟨q2, (h9.cell (p := ⟨gT, oT' + k, none⟩) lT).trans HDT.out, (h9.cell (p := ⟨gC, oC + x, none⟩) hgC).trans hcC, (h9.cell (p := ⟨hT, kT + a, none⟩) lhT).trans hvT⟩)
              have u0 : (0 : Int) ≤ (k : Int) := by omega
              have u1 : (k : Int) < (n : Int) := by omega
              have u2 : (0 : Int) ≤ (x : Int) := by omega
              have u3 : (x : Int) < (j : Int) := by omega
              have u4 : (0 : Int) ≤ (a : Int) := by omega
              have u5 : (a : Int) < (i : Int) := by omega
              have hlN : (pickL (nx.getD k []) (l.take x)).length = x := pickL_takeLen (by omega)
              have hlT : (pickL (ot.getD k []) (l.take x)).length = x := pickL_takeLen (by omega)
              obtain ⟨V0, hV0⟩ : ∃ V0, V0 = wr.drew := ⟨_, rfl⟩
              have bV0 : Below wr.heap.size wr V0 := by rw [hV0]; exact below_drewN (Below.refl _ _) 1
              have hBV := hbr.trans (bV0.mono hbr.size)
              obtain ⟨A7, c7, W1, r1, h24, bW1, _⟩ := (h2.kept bV0).appA vN hBV.size (by omega)
              rw [hlN] at r1 h24
              have hB1 := hBV.trans bW1
              have H24 := Lib.hid h24
              clear h2 hbr ha hgC hcC lhN hvN lhT hvT hvn hvt h0 h1 bV0 bW1 h24 hlN
              go_wp2_with fail
              refine wp_region_heldX (X := fun k => ([] : List Nat).contains k) (S := fun W => W.cell? ⟨w.heap.size, 2, none⟩ = some (.slice (some ⟨gN, oN', none⟩) n c) ∧ W.cell? ⟨gN, oN' + k, none⟩ = some (.slice (some ⟨hN, kN, none⟩) i c1) ∧ W.cell? ⟨gC, oC + x, none⟩ = some (.int .i64 (a : Nat)) ∧ W.cell? ⟨hN, kN + a, none⟩ = some (.int .i64 vN)) (by kernel_rfl) ?_
              rw [← hV0]
              clear hV0
              refine wpAnyX_pure (i := 0) (v := ?_) rfl (by kernel_rfl) (by kernel_rfl) (by kernel_rfl) (fun _ _ _ h => h) (Or.inl ⟨by rfl, ?_⟩) ?_
              rotate_left
              · (intro W _; go_simp; try with_reducible rfl)
              (try simp only [Act.put, List.getElem_toArray, List.getElem_cons_zero, List.getElem_cons_succ, List.setIfInBounds_toArray, List.set_cons_zero, List.set_cons_succ])
              refine wpAnyX_pure (i := 1) (v := ?_) rfl (by kernel_rfl) (by kernel_rfl) (by kernel_rfl) (fun _ _ _ h => h) (Or.inl ⟨by rfl, ?_⟩) ?_
              rotate_left
              · (intro W _; go_simp; try with_reducible rfl)
              (try simp only [Act.put, List.getElem_toArray, List.getElem_cons_zero, List.getElem_cons_succ, List.setIfInBounds_toArray, List.set_cons_zero, List.set_cons_succ])
              refine wpAnyX_takeL (L := []) (i := 2) (v := ?_) rfl (by kernel_rfl) (by kernel_rfl) (by kernel_rfl) (by kernel_rfl) (fun _ _ _ h => h) (Or.inl ⟨by rfl, ?_⟩) (HWN.out _ hBV) ?_
              rotate_left
              · (intro W hSW; (try dsimp only at hSW); obtain ⟨z0, z1, z2, z3⟩ := hSW; go_simp; try with_reducible rfl)
              (try simp only [Act.put, List.getElem_toArray, List.getElem_cons_zero, List.getElem_cons_succ, List.setIfInBounds_toArray, List.set_cons_zero, List.set_cons_succ])
              refine wpAnyX_pure (i := 3) (v := ?_) rfl (by kernel_rfl) (by kernel_rfl) (by kernel_rfl) (fun _ _ _ h => h) (Or.inl ⟨by rfl, ?_⟩) ?_
              rotate_left
              · (intro W _; go_simp; try with_reducible rfl)
              (try simp only [Act.put, List.getElem_toArray, List.getElem_cons_zero, List.getElem_cons_succ, List.setIfInBounds_toArray, List.set_cons_zero, List.set_cons_succ])
              refine wpAnyX_pure (i := 4) (v := ?_) rfl (by kernel_rfl) (by kernel_rfl) (by kernel_rfl) (fun _ _ _ h => h) (Or.inl ⟨by rfl, ?_⟩) ?_
              rotate_left
              · (intro W _; go_simp; try with_reducible rfl)
              (try simp only [Act.put, List.getElem_toArray, List.getElem_cons_zero, List.getElem_cons_succ, List.setIfInBounds_toArray, List.set_cons_zero, List.set_cons_succ])
              refine wpAnyX_takeL (L := []) (i := 5) (v := ?_) rfl (by kernel_rfl) (by kernel_rfl) (by kernel_rfl) (by kernel_rfl) (fun _ _ _ h => h) (Or.inl ⟨by rfl, ?_⟩) (HWN.out _ hBV) ?_
              rotate_left
              · (intro W hSW; (try dsimp only at hSW); obtain ⟨z0, z1, z2, z3⟩ := hSW; go_simp; try with_reducible rfl)
              (try simp only [Act.put, List.getElem_toArray, List.getElem_cons_zero, List.getElem_cons_succ, List.setIfInBounds_toArray, List.set_cons_zero, List.set_cons_succ])
              refine wpAnyX_pure (i := 6) (v := ?_) rfl (by kernel_rfl) (by kernel_rfl) (by kernel_rfl) (fun _ _ _ h => h) (Or.inl ⟨by rfl, ?_⟩) ?_
              rotate_left
              · (intro W _; go_simp; try with_reducible rfl)
              (try simp only [Act.put, List.getElem_toArray, List.getElem_cons_zero, List.getElem_cons_succ, List.setIfInBounds_toArray, List.set_cons_zero, List.set_cons_succ])
              refine wpAnyX_pure (i := 7) (v := ?_) rfl (by kernel_rfl) (by kernel_rfl) (by kernel_rfl) (fun _ _ _ h => h) (Or.inl ⟨by rfl, ?_⟩) ?_
              rotate_left
              · (intro W _; go_simp; try with_reducible rfl)
              (try simp only [Act.put, List.getElem_toArray, List.getElem_cons_zero, List.getElem_cons_succ, List.setIfInBounds_toArray, List.set_cons_zero, List.set_cons_succ])
              refine wpAnyX_pure (i := 8) (v := ?_) rfl (by kernel_rfl) (by kernel_rfl) (by kernel_rfl) (fun _ _ _ h => h) (Or.inl ⟨by rfl, ?_⟩) ?_
              rotate_left
              · (intro W _; go_simp; try with_reducible rfl)
              (try simp only [Act.put, List.getElem_toArray, List.getElem_cons_zero, List.getElem_cons_succ, List.setIfInBounds_toArray, List.set_cons_zero, List.set_cons_succ])
              refine wpAnyX_takeL (L := []) (i := 9) (v := ?_) rfl (by kernel_rfl) (by kernel_rfl) (by kernel_rfl) (by kernel_rfl) (fun _ _ _ h => h) (Or.inl ⟨by rfl, ?_⟩) (HWN.out _ hBV) ?_
              rotate_left
              · (intro W hSW; (try dsimp only at hSW); obtain ⟨z0, z1, z2, z3⟩ := hSW; go_simp; try with_reducible rfl)
              (try simp only [Act.put, List.getElem_toArray, List.getElem_cons_zero, List.getElem_cons_succ, List.setIfInBounds_toArray, List.set_cons_zero, List.set_cons_succ])
              refine wpAnyX_pure (i := 10) (v := ?_) rfl (by kernel_rfl) (by kernel_rfl) (by kernel_rfl) (fun _ _ _ h => h) (Or.inl ⟨by rfl, ?_⟩) ?_
              rotate_left
              · (intro W _; go_simp; try with_reducible rfl)
              (try simp only [Act.put, List.getElem_toArray, List.getElem_cons_zero, List.getElem_cons_succ, List.setIfInBounds_toArray, List.set_cons_zero, List.set_cons_succ])
              refine wpAnyX_takeL (L := []) (i := 11) (v := ?_) rfl (by kernel_rfl) (by kernel_rfl) (by kernel_rfl) (by kernel_rfl) (fun _ _ _ h => h) (Or.inl ⟨by rfl, ?_⟩) (HWN.out _ hBV) ?_
              rotate_left
              · (intro W hSW; (try dsimp only at hSW); obtain ⟨z0, z1, z2, z3⟩ := hSW; go_simp; try with_reducible rfl)
              (try simp only [Act.put, List.getElem_toArray, List.getElem_cons_zero, List.getElem_cons_succ, List.setIfInBounds_toArray, List.set_cons_zero, List.set_cons_succ])
              refine wpAnyX_one (i := 12) rfl (by kernel_rfl) (fun K hK => ?_)
              go_simp
              refine hK.out _ _ (fun _ _ => HWN.out _ (bt hBV (alloc_below _ _))) ?_
              (try simp only [Act.put, List.getElem_toArray, List.getElem_cons_zero, List.getElem_cons_succ, List.setIfInBounds_toArray, List.set_cons_zero, List.set_cons_succ])
              refine wpAnyX_one (i := 13) rfl (by kernel_rfl) (fun K hK => ?_)
              refine step_app rfl _ _ _ _ rfl _ _ rfl rfl _ _ r1 ?_
              refine hK.out _ _ (fun _ _ => HWN.out _ hB1) ?_
              (try simp only [Act.put, List.getElem_toArray, List.getElem_cons_zero, List.getElem_cons_succ, List.setIfInBounds_toArray, List.set_cons_zero, List.set_cons_succ])
              refine wpAnyX_pure (i := 14) (v := ?_) rfl (by kernel_rfl) (by kernel_rfl) (by kernel_rfl) (fun _ _ _ h => h) (Or.inl ⟨by rfl, ?_⟩) ?_
              rotate_left
              · (intro W _; go_simp; try with_reducible rfl)
              (try simp only [Act.put, List.getElem_toArray, List.getElem_cons_zero, List.getElem_cons_succ, List.setIfInBounds_toArray, List.set_cons_zero, List.set_cons_succ])
              refine wpAnyX_done (by kernel_rfl) ?_ _
              clear r1 hBV
              obtain ⟨V0, hV0⟩ : ∃ V0, V0 = W1.drew := ⟨_, rfl⟩
              have bV0 : Below W1.heap.size W1 V0 := by rw [hV0]; exact below_drewN (Below.refl _ _) 1
              have hBV := hB1.trans (bV0.mono hB1.size)
              obtain ⟨A8, c8, W2, r2, h25, bW2, _⟩ := (H24.out.kept bV0).appB vT hBV.size (by omega)
              rw [hlT] at r2 h25
              have hB2 := hBV.trans bW2
              have H25 := Lib.hid h25
              clear bV0 bW2 h25 hlT hB1
              go_wp2_with fail
              refine wp_region_heldX (X := fun k => ([] : List Nat).contains k) (S := fun W => W.cell? ⟨w.heap.size, 3, none⟩ = some (.slice (some ⟨gT, oT', none⟩) n d) ∧ W.cell? ⟨gT, oT' + k, none⟩ = some (.slice (some ⟨hT, kT, none⟩) i c3) ∧ W.cell? ⟨gC, oC + x, none⟩ = some (.int .i64 (a : Nat)) ∧ W.cell? ⟨hT, kT + a, none⟩ = some (.int .i64 vT)) (by kernel_rfl) ?_
              rw [← hV0]
              clear hV0
              refine wpAnyX_pure (i := 0) (v := ?_) rfl (by kernel_rfl) (by kernel_rfl) (by kernel_rfl) (fun _ _ _ h => h) (Or.inl ⟨by rfl, ?_⟩) ?_
              rotate_left
              · (intro W _; go_simp; try with_reducible rfl)
              (try simp only [Act.put, List.getElem_toArray, List.getElem_cons_zero, List.getElem_cons_succ, List.setIfInBounds_toArray, List.set_cons_zero, List.set_cons_succ])
              refine wpAnyX_pure (i := 1) (v := ?_) rfl (by kernel_rfl) (by kernel_rfl) (by kernel_rfl) (fun _ _ _ h => h) (Or.inl ⟨by rfl, ?_⟩) ?_
              rotate_left
              · (intro W _; go_simp; try with_reducible rfl)
              (try simp only [Act.put, List.getElem_toArray, List.getElem_cons_zero, List.getElem_cons_succ, List.setIfInBounds_toArray, List.set_cons_zero, List.set_cons_succ])
              refine wpAnyX_takeL (L := []) (i := 2) (v := ?_) rfl (by kernel_rfl) (by kernel_rfl) (by kernel_rfl) (by kernel_rfl) (fun _ _ _ h => h) (Or.inl ⟨by rfl, ?_⟩) (HWT.out _ hBV) ?_
              rotate_left
              · (intro W hSW; (try dsimp only at hSW); obtain ⟨z0, z1, z2, z3⟩ := hSW; go_simp; try with_reducible rfl)
              (try simp only [Act.put, List.getElem_toArray, List.getElem_cons_zero, List.getElem_cons_succ, List.setIfInBounds_toArray, List.set_cons_zero, List.set_cons_succ])
              refine wpAnyX_pure (i := 3) (v := ?_) rfl (by kernel_rfl) (by kernel_rfl) (by kernel_rfl) (fun _ _ _ h => h) (Or.inl ⟨by rfl, ?_⟩) ?_
              rotate_left
              · (intro W _; go_simp; try with_reducible rfl)
              (try simp only [Act.put, List.getElem_toArray, List.getElem_cons_zero, List.getElem_cons_succ, List.setIfInBounds_toArray, List.set_cons_zero, List.set_cons_succ])
              refine wpAnyX_pure (i := 4) (v := ?_) rfl (by kernel_rfl) (by kernel_rfl) (by kernel_rfl) (fun _ _ _ h => h) (Or.inl ⟨by rfl, ?_⟩) ?_
              rotate_left
              · (intro W _; go_simp; try with_reducible rfl)
              (try simp only [Act.put, List.getElem_toArray, List.getElem_cons_zero, List.getElem_cons_succ, List.setIfInBounds_toArray, List.set_cons_zero, List.set_cons_succ])
              refine wpAnyX_takeL (L := []) (i := 5) (v := ?_) rfl (by kernel_rfl) (by kernel_rfl) (by kernel_rfl) (by kernel_rfl) (fun _ _ _ h => h) (Or.inl ⟨by rfl, ?_⟩) (HWT.out _ hBV) ?_
              rotate_left
              · (intro W hSW; (try dsimp only at hSW); obtain ⟨z0, z1, z2, z3⟩ := hSW; go_simp; try with_reducible rfl)
              (try simp only [Act.put, List.getElem_toArray, List.getElem_cons_zero, List.getElem_cons_succ, List.setIfInBounds_toArray, List.set_cons_zero, List.set_cons_succ])
              refine wpAnyX_pure (i := 6) (v := ?_) rfl (by kernel_rfl) (by kernel_rfl) (by kernel_rfl) (fun _ _ _ h => h) (Or.inl ⟨by rfl, ?_⟩) ?_
              rotate_left
              · (intro W _; go_simp; try with_reducible rfl)
              (try simp only [Act.put, List.getElem_toArray, List.getElem_cons_zero, List.getElem_cons_succ, List.setIfInBounds_toArray, List.set_cons_zero, List.set_cons_succ])
              refine wpAnyX_pure (i := 7) (v := ?_) rfl (by kernel_rfl) (by kernel_rfl) (by kernel_rfl) (fun _ _ _ h => h) (Or.inl ⟨by rfl, ?_⟩) ?_
              rotate_left
              · (intro W _; go_simp; try with_reducible rfl)
              (try simp only [Act.put, List.getElem_toArray, List.getElem_cons_zero, List.getElem_cons_succ, List.setIfInBounds_toArray, List.set_cons_zero, List.set_cons_succ])
              refine wpAnyX_pure (i := 8) (v := ?_) rfl (by kernel_rfl) (by kernel_rfl) (by kernel_rfl) (fun _ _ _ h => h) (Or.inl ⟨by rfl, ?_⟩) ?_
              rotate_left
              · (intro W _; go_simp; try with_reducible rfl)
              (try simp only [Act.put, List.getElem_toArray, List.getElem_cons_zero, List.getElem_cons_succ, List.setIfInBounds_toArray, List.set_cons_zero, List.set_cons_succ])
              refine wpAnyX_takeL (L := []) (i := 9) (v := ?_) rfl (by kernel_rfl) (by kernel_rfl) (by kernel_rfl) (by kernel_rfl) (fun _ _ _ h => h) (Or.inl ⟨by rfl, ?_⟩) (HWT.out _ hBV) ?_
              rotate_left
              · (intro W hSW; (try dsimp only at hSW); obtain ⟨z0, z1, z2, z3⟩ := hSW; go_simp; try with_reducible rfl)
              (try simp only [Act.put, List.getElem_toArray, List.getElem_cons_zero, List.getElem_cons_succ, List.setIfInBounds_toArray, List.set_cons_zero, List.set_cons_succ])
              refine wpAnyX_pure (i := 10) (v := ?_) rfl (by kernel_rfl) (by kernel_rfl) (by kernel_rfl) (fun _ _ _ h => h) (Or.inl ⟨by rfl, ?_⟩) ?_
              rotate_left
              · (intro W _; go_simp; try with_reducible rfl)
              (try simp only [Act.put, List.getElem_toArray, List.getElem_cons_zero, List.getElem_cons_succ, List.setIfInBounds_toArray, List.set_cons_zero, List.set_cons_succ])
              refine wpAnyX_takeL (L := []) (i := 11) (v := ?_) rfl (by kernel_rfl) (by kernel_rfl) (by kernel_rfl) (by kernel_rfl) (fun _ _ _ h => h) (Or.inl ⟨by rfl, ?_⟩) (HWT.out _ hBV) ?_
              rotate_left
              · (intro W hSW; (try dsimp only at hSW); obtain ⟨z0, z1, z2, z3⟩ := hSW; go_simp; try with_reducible rfl)
              (try simp only [Act.put, List.getElem_toArray, List.getElem_cons_zero, List.getElem_cons_succ, List.setIfInBounds_toArray, List.set_cons_zero, List.set_cons_succ])
              refine wpAnyX_one (i := 12) rfl (by kernel_rfl) (fun K hK => ?_)
              go_simp
              refine hK.out _ _ (fun _ _ => HWT.out _ (bt hBV (alloc_below _ _))) ?_
              (try simp only [Act.put, List.getElem_toArray, List.getElem_cons_zero, List.getElem_cons_succ, List.setIfInBounds_toArray, List.set_cons_zero, List.set_cons_succ])
              refine wpAnyX_one (i := 13) rfl (by kernel_rfl) (fun K hK => ?_)
              refine step_app rfl _ _ _ _ rfl _ _ rfl rfl _ _ r2 ?_
              refine hK.out _ _ (fun _ _ => HWT.out _ hB2) ?_
              (try simp only [Act.put, List.getElem_toArray, List.getElem_cons_zero, List.getElem_cons_succ, List.setIfInBounds_toArray, List.set_cons_zero, List.set_cons_succ])
              refine wpAnyX_pure (i := 14) (v := ?_) rfl (by kernel_rfl) (by kernel_rfl) (by kernel_rfl) (fun _ _ _ h => h) (Or.inl ⟨by rfl, ?_⟩) ?_
              rotate_left
              · (intro W _; go_simp; try with_reducible rfl)
              (try simp only [Act.put, List.getElem_toArray, List.getElem_cons_zero, List.getElem_cons_succ, List.setIfInBounds_toArray, List.set_cons_zero, List.set_cons_succ])
              refine wpAnyX_done (by kernel_rfl) ?_ _
              have HB2 := Lib.hid hB2
              clear r2 hBV hB2
              go_wp2_with fail
              go_roundw
              case rel => exact ⟨x + 1, A7, A8, c7, c8, by go_num, by omega, rfl, rfl, by rw [← HNX.out, ← HTX.out]; exact H25.out, HB2.out⟩
              case measure => simp [intOf]; omega
            · obtain rfl : x = j := by omega
              have d2 : decide ((x : Int) < (x : Int)) = false := decide_eq_false (by omega)
              have d2' : decide (x < x) = false := decide_eq_false (by omega)
              have hall : l.take x = l := List.take_of_length_le (by omega)
              have h2 := H2.out
              rw [hall] at h2
              have hM1 := HMK.out.kept (hbr.mono (Nat.le_refl _))
              have hw0 := HBW.out.size
              have hbw := bt HBW.out hbr
              obtain ⟨AN2, cN2, W1, r1, l1, f1, bq1, hM2, b1', kt1⟩ := hM1.addN (h2.oa.lower hw0) hbw.size HGX.out (by rw [HNk.out]; omega)
              rw [HNk.out] at r1 l1 hM2 b1' kt1
              have hob := (h2.ob.lower hw0).keptT (kt1 _ (by decide) (by decide))
              obtain ⟨AT2, cT2, W2, r2, l2, f2, bq2, hM3, b2', kt2⟩ := hM2.addT hob (Nat.le_trans hbw.size b1'.size) HGX.out (by rw [HTk.out]; omega)
              rw [HTk.out] at r2 l2 hM3 b2' kt2
              have hzs : (W1.setCell ⟨gX, 2, none⟩ (.slice AN2 (k + 1) cN2)).heap.size = W1.heap.size := by simp
              rw [hzs] at r2
              rw [HNN.out, HTN.out] at hM3
              have HM3 := Lib.hid hM3
              have HB9 := Lib.hid ((hbw.trans b1').trans b2')
              obtain ⟨_, _, m2, m3, _⟩ := hM1.blk.cells
              obtain ⟨_, _, _, m3', _⟩ := hM2.blk.cells
              rw [HNk.out] at m2
              rw [HTk.out] at m3 m3'
              clear h2 hbr hM1 hob bq1 hM2 b1' kt1 bq2 hM3 b2' kt2 hzs hbw hall
              go_wp2_with (at_builtin; first | (refine Lib.wpList_append_run _ rfl _ _ _ _ rfl _ _ rfl rfl _ _ r1 ?_; clear r1) | (refine Lib.wpList_append_run _ rfl _ _ _ _ rfl _ _ rfl rfl _ _ r2 ?_; clear r2))
              go_roundw
              case rel => exact ⟨k + 1, AN2, AT2, cN2, cT2, by go_num, by omega, HM3.out, HB9.out⟩
              case measure => simp [intOf]; omega
        · obtain rfl : k = n := by omega
          have d1 : decide ((k : Int) < (k : Int)) = false := decide_eq_false (by omega)
          have d1' : decide (k < k) = false := decide_eq_false (by omega)
          have hnl : (rsN l nx).length = k := by rw [rsN_len, hnxl]
          have htl : (rsN l ot).length = k := by rw [rsN_len, hotl]
          rw [List.take_of_length_le (by omega), List.take_of_length_le (by omega)] at hMk
          have HBR3 := Lib.hid hbr
          have hlN := lists_ownedM HMR.out (by have := hMk.nx; rw [hnl] at this; exact this)
          have hlT := lists_ownedO HMR.out (by have := hMk.ot; rw [htl] at this; exact this)
          have HT := Lib.hid (rtrim_ok j st k AN AT cN cT (rsN l nx) (rsN l ot) wr hlN hlT HMR.out)
          obtain ⟨k0, k1, k2, k3, _⟩ := hMk.blk.cells
          rw [hnl] at k2
          rw [htl] at k3
          clear hMk hbr hlN hlT hnl htl hnxl hotl
          go_wp2_with fail
          refine HT.out.mono ?_
          rintro e5 w5 ⟨A5, c5, B5, d5, rfl, o5, p5, b5⟩
          have b05 := bt HBR3.out b5
          have hzz := HZ.out
          have HR5 := Lib.hid (HR.out.on b05)
          obtain ⟨q0, q1, q2, q3, z0, z1, z2, z3⟩ := HR5.out.cells
          have HB05 := Lib.hid (bt HB0.out b05)
          have HO5 := Lib.hid o5
          have HP5 := Lib.hid p5
          clear b5 b05 o5 p5 k0 k1 k2 k3 b0 b1 b2 b3
          go_wp2_with fail
          refine bodyPost_ret (results_mealy rfl _ _ (w.heap.size + 1) _ _ _ _ rfl (HR5.out.set4 _ _ _ _)) rfl ?_
          refine ⟨?_, below_set4 (by omega) HB05.out _ _ _ _⟩
          rw [HE2.out]
          exact TrmP.rs HMR.out ⟨A5, c5, B5, d5, rfl, HO5.out.keptT (HR5.out.set4' _ _ _ _ (by decide)) (HR5.out.set4' _ _ _ _ (by decide)), HP5.out.keptT (HR5.out.set4' _ _ _ _ (by decide)) (HR5.out.set4' _ _ _ _ (by decide))⟩
end Go.Proofs.Ytogcecfeofbbnaa
end
