/- Lemmas of the proofs of this seat, of the parts Fitw, Vlo, Ofw, Add16, Anp16, Eqm, Hyr, Awak22, Awk16, Gr16, Ro16, Cmpr, Ro17, Ro18, Ro19. Conditions: none. -/
import Derived.Test.YtkkmcgapbcikiaaKab
import Derived.Test.YtkkmcgapbcikiaaKac
import Derived.Test.YtkkmcgapbcikiaaKaa
import Derived.Deep.DeepCutAuto
import Derived.BigQuiet
section
/- fit of the program: traces that are beginnings of others, or contradict others. -/
namespace Go.Proofs.Ytkkmcgapbcikiaa
open Go.RowKit Go.Shelf

/-- The block g holds truth values. -/
def FlB (w : World) (g : Nat) (bs : List Bool) : Prop := Bx w g (bs.map Value.bool).toArray 4
theorem FlB.cell {w : World} {g : Nat} {bs : List Bool} (h : FlB w g bs) {k : Nat} (hk : k < bs.length) : w.cell? ⟨g, k, none⟩ = some (.bool (bs.getD k false)) := by
  refine (Bx.cell h k).trans ?_
  simp [List.getD, hk]
theorem FlB.on {w w' : World} {g : Nat} {bs : List Bool} (h : FlB w g bs) (hb : Below w.heap.size w w') : FlB w' g bs := Bx.on h hb
theorem FlB.set {w : World} {g : Nat} {bs : List Bool} (h : FlB w g bs) (k : Nat) (b : Bool) : FlB (w.setCell ⟨g, k, none⟩ (.bool b)) g (bs.set k b) := by
  have := Bx.set h k (.bool b)
  unfold FlB
  rw [List.map_set, ← List.setIfInBounds_toArray]
  exact this
theorem FlB.other {w : World} {g g' k : Nat} {bs : List Bool} (h : FlB w g bs) (hg : g ≠ g') (v : Value) : FlB (w.setCell ⟨g', k, none⟩ v) g bs := Bx.other h hg v
theorem set_getD {bs : List Bool} {k i : Nat} (hk : k < bs.length) : (bs.set k true).getD i false = true ↔ i = k ∨ bs.getD i false = true := by
  rw [List.getD_eq_getElem?_getD, List.getD_eq_getElem?_getD, List.getElem?_set]
  by_cases h : k = i
  · subst h; simp [hk]
  · rw [if_neg h]
    constructor
    · exact .inr
    · rintro (e | e)
      · exact absurd e.symm h
      · exact e
theorem rep_getD {n i : Nat} : ¬ (List.replicate n false).getD i false = true := by
  rw [List.getD_eq_getElem?_getD, List.getElem?_replicate]
  split <;> simp
theorem wp_make_bools {ops : Array Oper} {o : Oper} {a : Act} {w : World} {K : Act → World → Prop} {Q : Exit → Act → World → Prop} {E : Prop} (hgd : o.guard = none) (l c : Operand) (ho : o.op = Op.makeSlice 94 l c)
    (kl kc : IntKind) (N : Nat) (hl : a.eval l = .int kl N) (hc : a.eval c = .int kc N) (hN : N ≤ 1000000)
    (h : K (a.put o.dst (.slice (some ⟨w.heap.size, 0, none⟩) N N)) (w.alloc (.cells (((List.replicate N false).map Value.bool).toArray) 4))) :
    if Region.wanted o (yielded ops a.tmps) = true then Oper.wp Try.prog o a w K Q else E := by
  obtain ⟨i, hi, hz0, hz1, hz2⟩ := info_parts (show (Try.prog.info? 4).map (fun i => (i.zero, i.size, i.bytes)) = some (some (.bool false), 1, 1) by kernel_rfl)
  have hw : Region.wanted o (yielded ops a.tmps) = true := by simp [Region.wanted, hgd]
  rw [if_pos hw]
  have hrun := run_make (P := Try.prog) w 94 4 i _ Try.underlying94 hi hz0 kl kc (N : Int) (N : Int) (by omega) (Int.le_refl _) (by rw [hz2]; omega) (by omega)
  rw [hz1] at hrun
  simp only [Int.toNat_natCast] at hrun
  rw [made_bools] at hrun
  unfold Oper.wp
  simp [execOp, ho, hl, hc, hrun, Result.andThen]
  simp at h
  exact h
section
variable {ts : List (List Int × List Int)} {os ss : List Int}
theorem ext_no (ts : List (List Int × List Int)) (os ss : List Int) (i : Nat) : ¬ Ext ts os ss 0 i := fun ⟨p, hp, _⟩ => absurd hp (by omega)
theorem con_no (ts : List (List Int × List Int)) (os ss : List Int) (i : Nat) : ¬ Con ts os ss 0 i := fun ⟨p, hp, _⟩ => absurd hp (by omega)
theorem ext_step {P i : Nat} : Ext ts os ss (P + 1) i ↔ Ext ts os ss P i ∨ (opo os P = i ∧ ss.getD P 0 = ((tIn ts (opo os P)).length : Int)) := by
  constructor
  · rintro ⟨p, hp, h⟩
    rcases Nat.lt_or_ge p P with hlt | hge
    · exact .inl ⟨p, hlt, h⟩
    · obtain rfl : p = P := by omega
      exact .inr h
  · rintro (⟨p, hp, h⟩ | h)
    · exact ⟨p, by omega, h⟩
    · exact ⟨P, by omega, h⟩
theorem con_step {P i : Nat} : Con ts os ss (P + 1) i ↔ Con ts os ss P i ∨ ((agrD ts os ss P : Int) < ss.getD P 0 ∧ ∃ q, q < ts.length ∧ Lnk ss ((agrD ts os ss P : Int) + 1) P q ∧ opo os q = i) := by
  constructor
  · rintro ⟨p, hp, h⟩
    rcases Nat.lt_or_ge p P with hlt | hge
    · exact .inl ⟨p, hlt, h⟩
    · obtain rfl : p = P := by omega
      exact .inr h
  · rintro (⟨p, hp, h⟩ | h)
    · exact ⟨p, by omega, h⟩
    · exact ⟨P, by omega, h⟩
end

set_option linter.unusedSimpArgs false in
set_option linter.unusedVariables false in
set_option maxHeartbeats 16000000 in
set_option maxRecDepth 100000 in
theorem pfit (L : Option Addr) (n c : Nat) (ts : List (List Int × List Int)) (w : World) (hT : Trs w L n ts) (hnc : n ≤ c) (hF : Full ts) (hn : n ≤ 10000) (hmx : ∀ j, j < ts.length → (tIn ts j).length ≤ 1024) (hdi : Calls Try.prog 64 #[.slice L n c] w (DictE ts n w)) :
    Calls Try.prog 37 #[.slice L n c] w fun e w' => ∃ R, e = .returned (.int .i64 R) ∧ (∃ os ss, Dict ts os ss ∧ FitR ts os ss R) ∧ Below w.heap.size w w' := by
  have HDI := Lib.hid hdi
  have HT := Lib.hid hT
  have HLT := Lib.hid hT.1
  have HF := Lib.hid hF
  have HMX := Lib.hid hmx
  clear hT hF hmx hdi
  go_enter Try.func37, Try.ntmps37
  go_wp2_with fail
  refine HDI.out.mono ?_
  rintro r w1 ⟨O, S, m, cO, cS, os, ss, rfl, hD, hO, hS, hcO, hcS, a1⟩
  have HD := Lib.hid hD
  have hsl := hD.sl
  have hml : m = ss.length := hS.1.symm
  have hm : m = n - 1 := by rw [hml, hsl, HLT.out]
  have hal := alloc_below w1 (.cells #[.slice O n cO, .slice S m cS] 92)
  have md := bx_new w1 #[.slice O n cO, .slice S m cS] 92
  obtain ⟨w2, hw2⟩ : ∃ w2, w2 = w1.alloc (.cells #[.slice O n cO, .slice S m cS] 92) := ⟨_, rfl⟩
  rw [← hw2] at hal md
  have HB2 := Lib.hid (bt a1 hal)
  have HOI := Lib.hid (fun (W : World) (h : Below w2.heap.size w2 W) => (hO.below hal).below h)
  have HSI := Lib.hid (fun (W : World) (h : Below w2.heap.size w2 W) => (hS.below hal).below h)
  have HMD := Lib.hid (fun (W : World) (h : Below w2.heap.size w2 W) => md.on h)
  have HTI := Lib.hid (fun (W : World) (h : Below w2.heap.size w2 W) => (HT.out.below (bt a1 hal)).below h)
  have HW2 := Lib.hid hw2
  have HML := Lib.hid hml
  have HMN := Lib.hid hm
  clear hw2 hD hO hS a1 hal md HDI hsl hml hm
  go_upto_region 2 with fail
  rw [← HW2.out]
  have hbf : Below w2.heap.size w2 w2.drew := below_drewN (Below.refl _ _) 1
  refine wp_region_heldX (X := fun k => ([] : List Nat).contains k) (S := fun W => True) (by kernel_rfl) ?_
  generalize w2.drew = wkd at hbf ⊢
  refine wpAnyX_pure (i := 0) (v := ?_) rfl (by kernel_rfl) (by kernel_rfl) (by kernel_rfl) (fun _ _ _ h => h) (Or.inl ⟨by rfl, ?_⟩) ?_
  rotate_left
  · (intro W _; go_simp; try with_reducible rfl)
  (try simp only [Act.put, List.getElem_toArray, List.getElem_cons_zero, List.getElem_cons_succ, List.setIfInBounds_toArray, List.set_cons_zero, List.set_cons_succ])
  refine wpAnyX_pure (i := 1) (v := ?_) rfl (by kernel_rfl) (by kernel_rfl) (by kernel_rfl) (fun _ _ _ h => h) (Or.inl ⟨by rfl, ?_⟩) ?_
  rotate_left
  · (intro W _; go_simp; try with_reducible rfl)
  (try simp only [Act.put, List.getElem_toArray, List.getElem_cons_zero, List.getElem_cons_succ, List.setIfInBounds_toArray, List.set_cons_zero, List.set_cons_succ])
  refine wpAnyX_pure (i := 3) (v := ?_) rfl (by kernel_rfl) (by kernel_rfl) (by kernel_rfl) (fun _ _ _ h => h) (Or.inl ⟨by rfl, ?_⟩) ?_
  rotate_left
  · (intro W _; go_simp; try with_reducible rfl)
  (try simp only [Act.put, List.getElem_toArray, List.getElem_cons_zero, List.getElem_cons_succ, List.setIfInBounds_toArray, List.set_cons_zero, List.set_cons_succ])
  refine wpAnyX_pure (i := 4) (v := ?_) rfl (by kernel_rfl) (by kernel_rfl) (by kernel_rfl) (fun _ _ _ h => h) (Or.inl ⟨by rfl, ?_⟩) ?_
  rotate_left
  · (intro W _; go_simp; try with_reducible rfl)
  (try simp only [Act.put, List.getElem_toArray, List.getElem_cons_zero, List.getElem_cons_succ, List.setIfInBounds_toArray, List.set_cons_zero, List.set_cons_succ])
  refine wpAnyX_two (i := 2) (j := 5) rfl rfl (by kernel_rfl) (fun K hK => ?_) (fun K hK => ?_)
  focus
    refine wp_make_bools rfl _ _ rfl _ _ n rfl rfl (by omega) (hK.out _ _ (fun _ _ => trivial) ?_)
    (try simp only [Act.put, List.getElem_toArray, List.getElem_cons_zero, List.getElem_cons_succ, List.setIfInBounds_toArray, List.set_cons_zero, List.set_cons_succ])
    have hal := alloc_below wkd (.cells (((List.replicate n false).map Value.bool).toArray) 4)
    have hg1 : FlB (wkd.alloc (.cells (((List.replicate n false).map Value.bool).toArray) 4)) wkd.heap.size (List.replicate n false) := bx_new wkd _ _
    obtain ⟨g1, eqg1⟩ : ∃ g1, g1 = wkd.heap.size := ⟨_, rfl⟩
    have hzg1 : w2.heap.size ≤ g1 := by rw [eqg1]; exact hbf.size
    have hqg1 : wkd.heap.size ≤ g1 := Nat.le_of_eq eqg1.symm
    have hbf := bt hbf hal
    generalize wkd.alloc (.cells (((List.replicate n false).map Value.bool).toArray) 4) = wk1 at hal hbf hg1 ⊢
    rw [← eqg1] at hg1 ⊢
    have hlg1 : g1 < wk1.heap.size := Bx.lt hg1
    clear eqg1 hal
    refine wpAnyX_pure (i := 6) (v := ?_) rfl (by kernel_rfl) (by kernel_rfl) (by kernel_rfl) (fun _ _ _ h => h) (Or.inl ⟨by rfl, ?_⟩) ?_
    rotate_left
    · (intro W _; go_simp; try with_reducible rfl)
    (try simp only [Act.put, List.getElem_toArray, List.getElem_cons_zero, List.getElem_cons_succ, List.setIfInBounds_toArray, List.set_cons_zero, List.set_cons_succ])
    refine wpAnyX_one (i := 5) rfl (by kernel_rfl) (fun K hK => ?_)
    refine wp_make_bools rfl _ _ rfl _ _ n rfl rfl (by omega) (hK.out _ _ (fun _ _ => trivial) ?_)
    (try simp only [Act.put, List.getElem_toArray, List.getElem_cons_zero, List.getElem_cons_succ, List.setIfInBounds_toArray, List.set_cons_zero, List.set_cons_succ])
    have hal := alloc_below wk1 (.cells (((List.replicate n false).map Value.bool).toArray) 4)
    have hg2 : FlB (wk1.alloc (.cells (((List.replicate n false).map Value.bool).toArray) 4)) wk1.heap.size (List.replicate n false) := bx_new wk1 _ _
    have hg1 := hg1.on hal
    obtain ⟨g2, eqg2⟩ : ∃ g2, g2 = wk1.heap.size := ⟨_, rfl⟩
    have hzg2 : w2.heap.size ≤ g2 := by rw [eqg2]; exact hbf.size
    have hqg2 : wk1.heap.size ≤ g2 := Nat.le_of_eq eqg2.symm
    have hbf := bt hbf hal
    generalize wk1.alloc (.cells (((List.replicate n false).map Value.bool).toArray) 4) = wk2 at hal hbf hg1 hg2 ⊢
    rw [← eqg2] at hg2 ⊢
    have hlg2 : g2 < wk2.heap.size := Bx.lt hg2
    clear eqg2 hal
    refine wpAnyX_pure (i := 7) (v := ?_) rfl (by kernel_rfl) (by kernel_rfl) (by kernel_rfl) (fun _ _ _ h => h) (Or.inl ⟨by rfl, ?_⟩) ?_
    rotate_left
    · (intro W _; go_simp; try with_reducible rfl)
    (try simp only [Act.put, List.getElem_toArray, List.getElem_cons_zero, List.getElem_cons_succ, List.setIfInBounds_toArray, List.set_cons_zero, List.set_cons_succ])
    refine wpAnyX_done (by kernel_rfl) ?_ _
    have hgne : g1 ≠ g2 := by omega
  rotate_left
  focus
    refine wp_make_bools rfl _ _ rfl _ _ n rfl rfl (by omega) (hK.out _ _ (fun _ _ => trivial) ?_)
    (try simp only [Act.put, List.getElem_toArray, List.getElem_cons_zero, List.getElem_cons_succ, List.setIfInBounds_toArray, List.set_cons_zero, List.set_cons_succ])
    have hal := alloc_below wkd (.cells (((List.replicate n false).map Value.bool).toArray) 4)
    have hg2 : FlB (wkd.alloc (.cells (((List.replicate n false).map Value.bool).toArray) 4)) wkd.heap.size (List.replicate n false) := bx_new wkd _ _
    obtain ⟨g2, eqg2⟩ : ∃ g2, g2 = wkd.heap.size := ⟨_, rfl⟩
    have hzg2 : w2.heap.size ≤ g2 := by rw [eqg2]; exact hbf.size
    have hqg2 : wkd.heap.size ≤ g2 := Nat.le_of_eq eqg2.symm
    have hbf := bt hbf hal
    generalize wkd.alloc (.cells (((List.replicate n false).map Value.bool).toArray) 4) = wk1 at hal hbf hg2 ⊢
    rw [← eqg2] at hg2 ⊢
    have hlg2 : g2 < wk1.heap.size := Bx.lt hg2
    clear eqg2 hal
    refine wpAnyX_one (i := 2) rfl (by kernel_rfl) (fun K hK => ?_)
    refine wp_make_bools rfl _ _ rfl _ _ n rfl rfl (by omega) (hK.out _ _ (fun _ _ => trivial) ?_)
    (try simp only [Act.put, List.getElem_toArray, List.getElem_cons_zero, List.getElem_cons_succ, List.setIfInBounds_toArray, List.set_cons_zero, List.set_cons_succ])
    have hal := alloc_below wk1 (.cells (((List.replicate n false).map Value.bool).toArray) 4)
    have hg1 : FlB (wk1.alloc (.cells (((List.replicate n false).map Value.bool).toArray) 4)) wk1.heap.size (List.replicate n false) := bx_new wk1 _ _
    have hg2 := hg2.on hal
    obtain ⟨g1, eqg1⟩ : ∃ g1, g1 = wk1.heap.size := ⟨_, rfl⟩
    have hzg1 : w2.heap.size ≤ g1 := by rw [eqg1]; exact hbf.size
    have hqg1 : wk1.heap.size ≤ g1 := Nat.le_of_eq eqg1.symm
    have hbf := bt hbf hal
    generalize wk1.alloc (.cells (((List.replicate n false).map Value.bool).toArray) 4) = wk2 at hal hbf hg1 hg2 ⊢
    rw [← eqg1] at hg1 ⊢
    have hlg1 : g1 < wk2.heap.size := Bx.lt hg1
    clear eqg1 hal
    refine wpAnyX_pure (i := 6) (v := ?_) rfl (by kernel_rfl) (by kernel_rfl) (by kernel_rfl) (fun _ _ _ h => h) (Or.inl ⟨by rfl, ?_⟩) ?_
    rotate_left
    · (intro W _; go_simp; try with_reducible rfl)
    (try simp only [Act.put, List.getElem_toArray, List.getElem_cons_zero, List.getElem_cons_succ, List.setIfInBounds_toArray, List.set_cons_zero, List.set_cons_succ])
    refine wpAnyX_pure (i := 7) (v := ?_) rfl (by kernel_rfl) (by kernel_rfl) (by kernel_rfl) (fun _ _ _ h => h) (Or.inl ⟨by rfl, ?_⟩) ?_
    rotate_left
    · (intro W _; go_simp; try with_reducible rfl)
    (try simp only [Act.put, List.getElem_toArray, List.getElem_cons_zero, List.getElem_cons_succ, List.setIfInBounds_toArray, List.set_cons_zero, List.set_cons_succ])
    refine wpAnyX_done (by kernel_rfl) ?_ _
    have hgne : g1 ≠ g2 := by omega
  all_goals (focus
    have HG1 := Lib.hid hg1
    have HG2 := Lib.hid hg2
    have HBK := Lib.hid hbf
    have k1 := (HMD.out _ hbf).cell 1
    simp at k1
    have hg12 : g1 ≠ g2 := hgne
    have HNE := Lib.hid hg12
    clear hg1 hg2 hbf hgne hg12
    go_upto_region 4 with fail
    clear k1
    go_loopw [27] (fun v27 wr => ∃ (p : Nat) (E C : List Bool), v27 = .int .i64 p ∧ p ≤ m ∧ Hid (E.length = n) ∧ Hid (C.length = n) ∧ Hid (FlB wr g1 E) ∧ Hid (FlB wr g2 C) ∧ Hid (Below w2.heap.size w2 wr) ∧ Hid (∀ i, i < n → (E.getD i false = true ↔ Ext ts os ss p i)) ∧ Hid (∀ i, i < n → (C.getD i false = true ↔ Con ts os ss p i))) (fun v27 _ => m - (intOf v27).toNat)
    case atStart => exact ⟨0, List.replicate n false, List.replicate n false, rfl, Nat.zero_le _, Lib.hid (List.length_replicate ..), Lib.hid (List.length_replicate ..), HG1, HG2, HBK, Lib.hid (fun i _ => ⟨fun h => absurd h rep_getD, fun h => absurd h (ext_no _ _ _ _)⟩), Lib.hid (fun i _ => ⟨fun h => absurd h rep_getD, fun h => absurd h (con_no _ _ _ _)⟩)⟩
    case round =>
      clear HG1 HG2 HBK
      obtain ⟨p, E, C, rfl, hpm, HEL, HCL, HE, HC, HBR, HEX, HCO⟩ := hrel
      have hg1r := Bx.lt HE.out
      have hg2r := Bx.lt HC.out
      by_cases hlt : p < m
      · have hp1 : p + 1 < ts.length := by rw [HLT.out]; have := HMN.out; omega
        obtain ⟨o1, ho1⟩ : ∃ o1, o1 = opo os p := ⟨_, rfl⟩
        obtain ⟨o2, ho2⟩ : ∃ o2, o2 = opo os (p + 1) := ⟨_, rfl⟩
        obtain ⟨s, hs⟩ : ∃ s, s = (ss.getD p 0).toNat := ⟨_, rfl⟩
        have hsI : ss.getD p 0 = (s : Int) := by have := (HD.out.snn hp1).1; omega
        have hsc : s = cmn (tIn ts o1) (tIn ts o2) := by rw [hs, ho1, ho2]; exact (HD.out.snn hp1).2
        have hr1 := HD.out.rng p (by omega)
        have hr2 := HD.out.rng (p + 1) hp1
        have ho1I : os.getD p 0 = (o1 : Int) := by rw [ho1]; unfold opo; omega
        have ho2I : os.getD (p + 1) 0 = (o2 : Int) := by rw [ho2]; unfold opo; omega
        have ho1n : o1 < n := by rw [ho1, ← HLT.out]; exact hr1.2
        have ho2n : o2 < n := by rw [ho2, ← HLT.out]; exact hr2.2
        obtain ⟨bS, oS, eS, hgS, rS⟩ := (HSI.out _ (Below.refl _ _)).at_ (k := p) hlt
        obtain ⟨bO, oO, eO, hgO, rO1⟩ := (HOI.out _ (Below.refl _ _)).at_ (k := p) (by have := HMN.out; omega)
        obtain ⟨_, _, eO2, _, rO2⟩ := (HOI.out _ (Below.refl _ _)).at_ (k := p + 1) (by have := HMN.out; omega)
        subst eS
        subst eO
        cases eO2
        rw [hsI] at rS
        rw [ho1I] at rO1
        rw [ho2I] at rO2
        obtain ⟨bT, oT, A1, n1, c1, A2, n2, c2, eT, hgT, j1, j2, q1, q2, j3, j4⟩ := (HTI.out _ (Below.refl _ _)).at_ ho1n
        subst eT
        obtain ⟨_, _, B1, m1, d1, B2, m2, d2, eT, _, i1, i2, u1, u2, i3, i4⟩ := (HTI.out _ (Below.refl _ _)).at_ ho2n
        cases eT
        have HS1 := Lib.hid hsI
        have HSC := Lib.hid hsc
        have HO1 := Lib.hid ho1
        have HO2 := Lib.hid ho2
        have HL1 := Lib.hid j3.1
        have HJ4 := Lib.hid (fun (W : World) (h : Below w2.heap.size w2 W) => j4.below h)
        have HI4 := Lib.hid (fun (W : World) (h : Below w2.heap.size w2 W) => i4.below h)
        have hsn2 : s ≤ n2 := by
          have a1 := HF.out o1 (by rw [HLT.out]; exact ho1n)
          have a2 := cmn_le_left (tIn ts o1) (tIn ts o2)
          have a3 := j4.1
          omega
        have hsm2 : s ≤ m2 := by
          have a1 := HF.out o2 (by rw [HLT.out]; exact ho2n)
          have a2 := cmn_le_right (tIn ts o1) (tIn ts o2)
          have a3 := i4.1
          omega
        have hsb : s ≤ 1024 := by
          have a1 := HMX.out o1 (by rw [HLT.out]; exact ho1n)
          have a2 := cmn_le_left (tIn ts o1) (tIn ts o2)
          omega
        have hn1b : n1 ≤ 1024 := by rw [← j3.1]; exact HMX.out o1 (by rw [HLT.out]; exact ho1n)
        have hpI : (p : Int) < (m : Int) := by omega
        have hp0 : (0 : Int) ≤ (p : Int) := by omega
        have hpn : (p : Int) < (n : Int) := by have := HMN.out; omega
        have hpn1 : (((p + 1 : Nat)) : Int) < (n : Int) := by have := HMN.out; omega
        have hp10 : (0 : Int) ≤ ((p + 1 : Nat) : Int) := by omega
        have hpn1' : (p : Int) + 1 < (n : Int) := by have := HMN.out; omega
        have hp10' : (0 : Int) ≤ (p : Int) + 1 := by omega
        have wp1 : IntKind.i64.wrap ((p : Int) + 1) = ((p + 1 : Nat) : Int) := by rw [IntKind.wrap_i64]; omega
        have ho1i : (o1 : Int) < (n : Int) := by omega
        have ho2i : (o2 : Int) < (n : Int) := by omega
        have ho10 : (0 : Int) ≤ (o1 : Int) := by omega
        have ho20 : (0 : Int) ≤ (o2 : Int) := by omega
        have HS := Lib.hid (show ∀ W, Below w2.heap.size w2 W → W.cell? ⟨w1.heap.size, 0, none⟩ = some (.slice (some ⟨bO, oO, none⟩) n cO) ∧ W.cell? ⟨bO, oO + p, none⟩ = some (.int .i64 o1) ∧ W.cell? ⟨bO, oO + (p + 1), none⟩ = some (.int .i64 o2) ∧ W.cell? ⟨bT, oT + o1 * 2, none⟩ = some (.slice A1 n1 c1) ∧ W.cell? ⟨bT, oT + o1 * 2 + 1, none⟩ = some (.slice A2 n2 c2) ∧ W.cell? ⟨bT, oT + o2 * 2, none⟩ = some (.slice B1 m1 d1) ∧ W.cell? ⟨bT, oT + o2 * 2 + 1, none⟩ = some (.slice B2 m2 d2) from fun W h => ⟨by have := (HMD.out _ h).cell 0; simpa using this, (h.cell (p := ⟨bO, oO + p, none⟩) hgO).trans rO1, (h.cell (p := ⟨bO, oO + (p + 1), none⟩) hgO).trans rO2, (h.cell (p := ⟨bT, oT + o1 * 2, none⟩) hgT).trans j1, (h.cell (p := ⟨bT, oT + o1 * 2 + 1, none⟩) hgT).trans j2, (h.cell (p := ⟨bT, oT + o2 * 2, none⟩) hgT).trans i1, (h.cell (p := ⟨bT, oT + o2 * 2 + 1, none⟩) hgT).trans i2⟩)
        have rS' := (HBR.out.cell (p := ⟨bS, oS + p, none⟩) hgS).trans rS
        clear hs hsI hsc hr1 hr2 ho1 ho2 ho1I ho2I rS rO1 rO2 j1 j2 j3 j4 i1 i2 i3 i4 hgS hgO hgT hp1
        go_upto_region 6 with fail
        clear rS'
        have hbf : Below w2.heap.size w2 wr.drew := below_drewN HBR.out 1
        have hbw : Below wr.heap.size wr wr.drew := below_drewN (Below.refl _ _) 1
        refine wp_region_heldX (X := fun k => ([20] : List Nat).contains k) (S := fun W => W.cell? ⟨w1.heap.size, 0, none⟩ = some (.slice (some ⟨bO, oO, none⟩) n cO) ∧ W.cell? ⟨bO, oO + p, none⟩ = some (.int .i64 o1) ∧ W.cell? ⟨bO, oO + (p + 1), none⟩ = some (.int .i64 o2) ∧ W.cell? ⟨bT, oT + o1 * 2, none⟩ = some (.slice A1 n1 c1) ∧ W.cell? ⟨bT, oT + o1 * 2 + 1, none⟩ = some (.slice A2 n2 c2) ∧ W.cell? ⟨bT, oT + o2 * 2, none⟩ = some (.slice B1 m1 d1) ∧ W.cell? ⟨bT, oT + o2 * 2 + 1, none⟩ = some (.slice B2 m2 d2)) (by kernel_rfl) ?_
        generalize wr.drew = wkd at hbf hbw ⊢
        refine wpAnyX_pure (i := 0) (v := ?_) rfl (by kernel_rfl) (by kernel_rfl) (by kernel_rfl) (fun _ _ _ h => h) (Or.inl ⟨by rfl, ?_⟩) ?_
        rotate_left
        · (intro W _; go_simp; try with_reducible rfl)
        (try simp only [Act.put, List.getElem_toArray, List.getElem_cons_zero, List.getElem_cons_succ, List.setIfInBounds_toArray, List.set_cons_zero, List.set_cons_succ])
        refine wpAnyX_pure (i := 1) (v := ?_) rfl (by kernel_rfl) (by kernel_rfl) (by kernel_rfl) (fun _ _ _ h => h) (Or.inl ⟨by rfl, ?_⟩) ?_
        rotate_left
        · (intro W _; go_simp; try with_reducible rfl)
        (try simp only [Act.put, List.getElem_toArray, List.getElem_cons_zero, List.getElem_cons_succ, List.setIfInBounds_toArray, List.set_cons_zero, List.set_cons_succ])
        refine wpAnyX_takeL (L := [20]) (i := 2) (v := ?_) rfl (by kernel_rfl) (by kernel_rfl) (by kernel_rfl) (by kernel_rfl) (fun _ _ _ h => h) (Or.inl ⟨by rfl, ?_⟩) (HS.out _ hbf) ?_
        rotate_left
        · (intro W hSW; (try dsimp only at hSW); obtain ⟨z0, z1, z2, z3, z4, z5, z6⟩ := hSW; go_simp; try with_reducible rfl)
        (try simp only [Act.put, List.getElem_toArray, List.getElem_cons_zero, List.getElem_cons_succ, List.setIfInBounds_toArray, List.set_cons_zero, List.set_cons_succ])
        refine wpAnyX_pure (i := 3) (v := ?_) rfl (by kernel_rfl) (by kernel_rfl) (by kernel_rfl) (fun _ _ _ h => h) (Or.inl ⟨by rfl, ?_⟩) ?_
        rotate_left
        · (intro W _; go_simp; try with_reducible rfl)
        (try simp only [Act.put, List.getElem_toArray, List.getElem_cons_zero, List.getElem_cons_succ, List.setIfInBounds_toArray, List.set_cons_zero, List.set_cons_succ])
        refine wpAnyX_pure (i := 4) (v := ?_) rfl (by kernel_rfl) (by kernel_rfl) (by kernel_rfl) (fun _ _ _ h => h) (Or.inl ⟨by rfl, ?_⟩) ?_
        rotate_left
        · (intro W _; go_simp; try with_reducible rfl)
        (try simp only [Act.put, List.getElem_toArray, List.getElem_cons_zero, List.getElem_cons_succ, List.setIfInBounds_toArray, List.set_cons_zero, List.set_cons_succ])
        refine wpAnyX_takeL (L := [20]) (i := 5) (v := ?_) rfl (by kernel_rfl) (by kernel_rfl) (by kernel_rfl) (by kernel_rfl) (fun _ _ _ h => h) (Or.inl ⟨by rfl, ?_⟩) (HS.out _ hbf) ?_
        rotate_left
        · (intro W hSW; (try dsimp only at hSW); obtain ⟨z0, z1, z2, z3, z4, z5, z6⟩ := hSW; go_simp; try with_reducible rfl)
        (try simp only [Act.put, List.getElem_toArray, List.getElem_cons_zero, List.getElem_cons_succ, List.setIfInBounds_toArray, List.set_cons_zero, List.set_cons_succ])
        refine wpAnyX_pure (i := 6) (v := ?_) rfl (by kernel_rfl) (by kernel_rfl) (by kernel_rfl) (fun _ _ _ h => h) (Or.inl ⟨by rfl, ?_⟩) ?_
        rotate_left
        · (intro W _; go_simp; try with_reducible rfl)
        (try simp only [Act.put, List.getElem_toArray, List.getElem_cons_zero, List.getElem_cons_succ, List.setIfInBounds_toArray, List.set_cons_zero, List.set_cons_succ])
        refine wpAnyX_takeL (L := [20]) (i := 7) (v := ?_) rfl (by kernel_rfl) (by kernel_rfl) (by kernel_rfl) (by kernel_rfl) (fun _ _ _ h => h) (Or.inl ⟨by rfl, ?_⟩) (HS.out _ hbf) ?_
        rotate_left
        · (intro W hSW; (try dsimp only at hSW); obtain ⟨z0, z1, z2, z3, z4, z5, z6⟩ := hSW; go_simp; try with_reducible rfl)
        (try simp only [Act.put, List.getElem_toArray, List.getElem_cons_zero, List.getElem_cons_succ, List.setIfInBounds_toArray, List.set_cons_zero, List.set_cons_succ])
        refine wpAnyX_pure (i := 8) (v := ?_) rfl (by kernel_rfl) (by kernel_rfl) (by kernel_rfl) (fun _ _ _ h => h) (Or.inl ⟨by rfl, ?_⟩) ?_
        rotate_left
        · (intro W _; go_simp; try with_reducible rfl)
        (try simp only [Act.put, List.getElem_toArray, List.getElem_cons_zero, List.getElem_cons_succ, List.setIfInBounds_toArray, List.set_cons_zero, List.set_cons_succ])
        refine wpAnyX_pure (i := 9) (v := ?_) rfl (by kernel_rfl) (by kernel_rfl) (by kernel_rfl) (fun _ _ _ h => h) (Or.inl ⟨by rfl, ?_⟩) ?_
        rotate_left
        · (intro W _; go_simp; try with_reducible rfl)
        (try simp only [Act.put, List.getElem_toArray, List.getElem_cons_zero, List.getElem_cons_succ, List.setIfInBounds_toArray, List.set_cons_zero, List.set_cons_succ])
        refine wpAnyX_takeL (L := [20]) (i := 10) (v := ?_) rfl (by kernel_rfl) (by kernel_rfl) (by kernel_rfl) (by kernel_rfl) (fun _ _ _ h => h) (Or.inl ⟨by rfl, ?_⟩) (HS.out _ hbf) ?_
        rotate_left
        · (intro W hSW; (try dsimp only at hSW); obtain ⟨z0, z1, z2, z3, z4, z5, z6⟩ := hSW; go_simp; try with_reducible rfl)
        (try simp only [Act.put, List.getElem_toArray, List.getElem_cons_zero, List.getElem_cons_succ, List.setIfInBounds_toArray, List.set_cons_zero, List.set_cons_succ])
        refine wpAnyX_pure (i := 11) (v := ?_) rfl (by kernel_rfl) (by kernel_rfl) (by kernel_rfl) (fun _ _ _ h => h) (Or.inl ⟨by rfl, ?_⟩) ?_
        rotate_left
        · (intro W _; go_simp; try with_reducible rfl)
        (try simp only [Act.put, List.getElem_toArray, List.getElem_cons_zero, List.getElem_cons_succ, List.setIfInBounds_toArray, List.set_cons_zero, List.set_cons_succ])
        refine wpAnyX_pure (i := 12) (v := ?_) rfl (by kernel_rfl) (by kernel_rfl) (by kernel_rfl) (fun _ _ _ h => h) (Or.inl ⟨by rfl, ?_⟩) ?_
        rotate_left
        · (intro W _; go_simp; try with_reducible rfl)
        (try simp only [Act.put, List.getElem_toArray, List.getElem_cons_zero, List.getElem_cons_succ, List.setIfInBounds_toArray, List.set_cons_zero, List.set_cons_succ])
        refine wpAnyX_pure (i := 13) (v := ?_) rfl (by kernel_rfl) (by kernel_rfl) (by kernel_rfl) (fun _ _ _ h => h) (Or.inl ⟨by rfl, ?_⟩) ?_
        rotate_left
        · (intro W _; go_simp; try with_reducible rfl)
        (try simp only [Act.put, List.getElem_toArray, List.getElem_cons_zero, List.getElem_cons_succ, List.setIfInBounds_toArray, List.set_cons_zero, List.set_cons_succ])
        refine wpAnyX_takeL (L := [20]) (i := 14) (v := ?_) rfl (by kernel_rfl) (by kernel_rfl) (by kernel_rfl) (by kernel_rfl) (fun _ _ _ h => h) (Or.inl ⟨by rfl, ?_⟩) (HS.out _ hbf) ?_
        rotate_left
        · (intro W hSW; (try dsimp only at hSW); obtain ⟨z0, z1, z2, z3, z4, z5, z6⟩ := hSW; go_simp; try with_reducible rfl)
        (try simp only [Act.put, List.getElem_toArray, List.getElem_cons_zero, List.getElem_cons_succ, List.setIfInBounds_toArray, List.set_cons_zero, List.set_cons_succ])
        refine wpAnyX_pure (i := 15) (v := ?_) rfl (by kernel_rfl) (by kernel_rfl) (by kernel_rfl) (fun _ _ _ h => h) (Or.inl ⟨by rfl, ?_⟩) ?_
        rotate_left
        · (intro W _; go_simp; try with_reducible rfl)
        (try simp only [Act.put, List.getElem_toArray, List.getElem_cons_zero, List.getElem_cons_succ, List.setIfInBounds_toArray, List.set_cons_zero, List.set_cons_succ])
        refine wpAnyX_takeL (L := [20]) (i := 16) (v := ?_) rfl (by kernel_rfl) (by kernel_rfl) (by kernel_rfl) (by kernel_rfl) (fun _ _ _ h => h) (Or.inl ⟨by rfl, ?_⟩) (HS.out _ hbf) ?_
        rotate_left
        · (intro W hSW; (try dsimp only at hSW); obtain ⟨z0, z1, z2, z3, z4, z5, z6⟩ := hSW; go_simp; try with_reducible rfl)
        (try simp only [Act.put, List.getElem_toArray, List.getElem_cons_zero, List.getElem_cons_succ, List.setIfInBounds_toArray, List.set_cons_zero, List.set_cons_succ])
        have hbf0 : w2.heap.size ≤ wr.heap.size := HBR.out.size
        refine wpAnyX_two (i := 17) (j := 18) rfl rfl (by kernel_rfl) (fun K hK => ?_) (fun K hK => ?_)
        focus
          go_simp
          refine hK.out _ _ (fun _ _ => HS.out _ (bt hbf (alloc_below _ _))) ?_
          (try simp only [Act.put, List.getElem_toArray, List.getElem_cons_zero, List.getElem_cons_succ, List.setIfInBounds_toArray, List.set_cons_zero, List.set_cons_succ])
          have hal := alloc_below wkd (.cells #[.slice none 0 0, .slice none 0 0] 38)
          have hb8 := bx_new wkd #[.slice none 0 0, .slice none 0 0] 38
          obtain ⟨b8, eqb8⟩ : ∃ b8, b8 = wkd.heap.size := ⟨_, rfl⟩
          have hzb8 : wr.heap.size ≤ b8 := by rw [eqb8]; exact hbw.size
          have hqb8 : wkd.heap.size ≤ b8 := Nat.le_of_eq eqb8.symm
          have hbf := bt hbf hal
          have hbw := bt hbw hal
          generalize wkd.alloc (.cells #[.slice none 0 0, .slice none 0 0] 38) = wk1 at hal hbf hbw hb8 ⊢
          rw [← eqb8] at hb8 ⊢
          have hlb8 : b8 < wk1.heap.size := hb8.lt
          clear eqb8 hal
          refine wpAnyX_one (i := 18) rfl (by kernel_rfl) (fun K hK => ?_)
          go_simp
          refine hK.out _ _ (fun _ _ => HS.out _ (bt hbf (alloc_below _ _))) ?_
          (try simp only [Act.put, List.getElem_toArray, List.getElem_cons_zero, List.getElem_cons_succ, List.setIfInBounds_toArray, List.set_cons_zero, List.set_cons_succ])
          have hal := alloc_below wk1 (.cells #[.slice none 0 0, .slice none 0 0] 38)
          have hb9 := bx_new wk1 #[.slice none 0 0, .slice none 0 0] 38
          have hb8 := hb8.on hal
          obtain ⟨b9, eqb9⟩ : ∃ b9, b9 = wk1.heap.size := ⟨_, rfl⟩
          have hzb9 : wr.heap.size ≤ b9 := by rw [eqb9]; exact hbw.size
          have hqb9 : wk1.heap.size ≤ b9 := Nat.le_of_eq eqb9.symm
          have hbf := bt hbf hal
          have hbw := bt hbw hal
          generalize wk1.alloc (.cells #[.slice none 0 0, .slice none 0 0] 38) = wk2 at hal hbf hbw hb8 hb9 ⊢
          rw [← eqb9] at hb9 ⊢
          have hlb9 : b9 < wk2.heap.size := hb9.lt
          clear eqb9 hal
          have hbne : b8 ≠ b9 := by omega
          refine wpAnyX_one (i := 19) rfl (by kernel_rfl) (fun K hK => ?_)
          refine wp_store_row 38 _ _ rfl b8 (#[.slice A1 n1 c1, .slice A2 n2 c2]) rfl rfl 38 (#[.slice none 0 0, .slice none 0 0]) hb8 (by kernel_rfl) (by rfl) (by simp [Value.oneCell']) (hK.out _ _ (fun _ _ => HS.out _ (below_setRow hbf (Nat.le_trans hbf0 hzb8) _)) ?_)
          (try simp only [Act.put, List.getElem_toArray, List.getElem_cons_zero, List.getElem_cons_succ, List.setIfInBounds_toArray, List.set_cons_zero, List.set_cons_succ])
          have hb8 := hb8.row #[.slice A1 n1 c1, .slice A2 n2 c2]
          have hb9 := hb9.rowOther hbne.symm #[.slice A1 n1 c1, .slice A2 n2 c2]
          have hbf := below_setRow hbf (Nat.le_trans hbf0 hzb8) #[.slice A1 n1 c1, .slice A2 n2 c2]
          have hbw := below_setRow hbw hzb8 #[.slice A1 n1 c1, .slice A2 n2 c2]
          generalize wk2.setRow b8 #[.slice A1 n1 c1, .slice A2 n2 c2] = wk3 at hb8 hbf hbw hb9 ⊢
          have hlb8n := hb8.lt
          refine wpAnyX_one (i := 20) rfl (by kernel_rfl) (fun K hK => ?_)
          refine wp_store_row 38 _ _ rfl b9 (#[.slice B1 m1 d1, .slice B2 m2 d2]) rfl rfl 38 (#[.slice none 0 0, .slice none 0 0]) hb9 (by kernel_rfl) (by rfl) (by simp [Value.oneCell']) (hK.out _ _ (fun h => absurd h (by decide)) ?_)
          (try simp only [Act.put, List.getElem_toArray, List.getElem_cons_zero, List.getElem_cons_succ, List.setIfInBounds_toArray, List.set_cons_zero, List.set_cons_succ])
          have h8 := hb8.rowOther hbne #[.slice B1 m1 d1, .slice B2 m2 d2]
          have h9 := hb9.row #[.slice B1 m1 d1, .slice B2 m2 d2]
          have hbf := below_setRow hbf (Nat.le_trans hbf0 hzb9) #[.slice B1 m1 d1, .slice B2 m2 d2]
          have hbw := below_setRow hbw hzb9 #[.slice B1 m1 d1, .slice B2 m2 d2]
          generalize wk3.setRow b9 #[.slice B1 m1 d1, .slice B2 m2 d2] = wk4 at h8 h9 hbf hbw ⊢
          refine wpAnyX_done (by kernel_rfl) ?_ _
        rotate_left
        focus
          go_simp
          refine hK.out _ _ (fun _ _ => HS.out _ (bt hbf (alloc_below _ _))) ?_
          (try simp only [Act.put, List.getElem_toArray, List.getElem_cons_zero, List.getElem_cons_succ, List.setIfInBounds_toArray, List.set_cons_zero, List.set_cons_succ])
          have hal := alloc_below wkd (.cells #[.slice none 0 0, .slice none 0 0] 38)
          have hb9 := bx_new wkd #[.slice none 0 0, .slice none 0 0] 38
          obtain ⟨b9, eqb9⟩ : ∃ b9, b9 = wkd.heap.size := ⟨_, rfl⟩
          have hzb9 : wr.heap.size ≤ b9 := by rw [eqb9]; exact hbw.size
          have hqb9 : wkd.heap.size ≤ b9 := Nat.le_of_eq eqb9.symm
          have hbf := bt hbf hal
          have hbw := bt hbw hal
          generalize wkd.alloc (.cells #[.slice none 0 0, .slice none 0 0] 38) = wk1 at hal hbf hbw hb9 ⊢
          rw [← eqb9] at hb9 ⊢
          have hlb9 : b9 < wk1.heap.size := hb9.lt
          clear eqb9 hal
          refine wpAnyX_one (i := 17) rfl (by kernel_rfl) (fun K hK => ?_)
          go_simp
          refine hK.out _ _ (fun _ _ => HS.out _ (bt hbf (alloc_below _ _))) ?_
          (try simp only [Act.put, List.getElem_toArray, List.getElem_cons_zero, List.getElem_cons_succ, List.setIfInBounds_toArray, List.set_cons_zero, List.set_cons_succ])
          have hal := alloc_below wk1 (.cells #[.slice none 0 0, .slice none 0 0] 38)
          have hb8 := bx_new wk1 #[.slice none 0 0, .slice none 0 0] 38
          have hb9 := hb9.on hal
          obtain ⟨b8, eqb8⟩ : ∃ b8, b8 = wk1.heap.size := ⟨_, rfl⟩
          have hzb8 : wr.heap.size ≤ b8 := by rw [eqb8]; exact hbw.size
          have hqb8 : wk1.heap.size ≤ b8 := Nat.le_of_eq eqb8.symm
          have hbf := bt hbf hal
          have hbw := bt hbw hal
          generalize wk1.alloc (.cells #[.slice none 0 0, .slice none 0 0] 38) = wk2 at hal hbf hbw hb9 hb8 ⊢
          rw [← eqb8] at hb8 ⊢
          have hlb8 : b8 < wk2.heap.size := hb8.lt
          clear eqb8 hal
          have hbne : b8 ≠ b9 := by omega
          refine wpAnyX_one (i := 19) rfl (by kernel_rfl) (fun K hK => ?_)
          refine wp_store_row 38 _ _ rfl b8 (#[.slice A1 n1 c1, .slice A2 n2 c2]) rfl rfl 38 (#[.slice none 0 0, .slice none 0 0]) hb8 (by kernel_rfl) (by rfl) (by simp [Value.oneCell']) (hK.out _ _ (fun _ _ => HS.out _ (below_setRow hbf (Nat.le_trans hbf0 hzb8) _)) ?_)
          (try simp only [Act.put, List.getElem_toArray, List.getElem_cons_zero, List.getElem_cons_succ, List.setIfInBounds_toArray, List.set_cons_zero, List.set_cons_succ])
          have hb8 := hb8.row #[.slice A1 n1 c1, .slice A2 n2 c2]
          have hb9 := hb9.rowOther hbne.symm #[.slice A1 n1 c1, .slice A2 n2 c2]
          have hbf := below_setRow hbf (Nat.le_trans hbf0 hzb8) #[.slice A1 n1 c1, .slice A2 n2 c2]
          have hbw := below_setRow hbw hzb8 #[.slice A1 n1 c1, .slice A2 n2 c2]
          generalize wk2.setRow b8 #[.slice A1 n1 c1, .slice A2 n2 c2] = wk3 at hb8 hbf hbw hb9 ⊢
          have hlb8n := hb8.lt
          refine wpAnyX_one (i := 20) rfl (by kernel_rfl) (fun K hK => ?_)
          refine wp_store_row 38 _ _ rfl b9 (#[.slice B1 m1 d1, .slice B2 m2 d2]) rfl rfl 38 (#[.slice none 0 0, .slice none 0 0]) hb9 (by kernel_rfl) (by rfl) (by simp [Value.oneCell']) (hK.out _ _ (fun h => absurd h (by decide)) ?_)
          (try simp only [Act.put, List.getElem_toArray, List.getElem_cons_zero, List.getElem_cons_succ, List.setIfInBounds_toArray, List.set_cons_zero, List.set_cons_succ])
          have h8 := hb8.rowOther hbne #[.slice B1 m1 d1, .slice B2 m2 d2]
          have h9 := hb9.row #[.slice B1 m1 d1, .slice B2 m2 d2]
          have hbf := below_setRow hbf (Nat.le_trans hbf0 hzb9) #[.slice B1 m1 d1, .slice B2 m2 d2]
          have hbw := below_setRow hbw hzb9 #[.slice B1 m1 d1, .slice B2 m2 d2]
          generalize wk3.setRow b9 #[.slice B1 m1 d1, .slice B2 m2 d2] = wk4 at h8 h9 hbf hbw ⊢
          refine wpAnyX_done (by kernel_rfl) ?_ _
        all_goals (focus
          have HBW := Lib.hid hbw
          have HBF := Lib.hid hbf
          have HE4 := Lib.hid (HE.out.on hbw)
          have HC4 := Lib.hid (HC.out.on hbw)
          have H8 := Lib.hid h8
          have H9 := Lib.hid h9
          have t80 := h8.cell 0
          simp at t80
          obtain ⟨tt0, tt1, _⟩ := HS.out _ hbf
          have kx := HE4.out.cell (k := o1) (by rw [HEL.out]; exact ho1n)
          have kf : wk4.frozen? ⟨g1, o1, none⟩ = false := Bx.free HE4.out o1
          clear hbf hbw h8 h9 hb8 hb9
          have hkey : ∃ E5 w5, Hid (E5.length = n) ∧ Hid (FlB w5 g1 E5) ∧ Hid (FlB w5 g2 C) ∧ Hid (Below w2.heap.size w2 w5) ∧ Hid (Bx w5 b8 #[.slice A1 n1 c1, .slice A2 n2 c2] 38) ∧ Hid (Bx w5 b9 #[.slice B1 m1 d1, .slice B2 m2 d2] 38) ∧ Hid (∀ i, i < n → (E5.getD i false = true ↔ Ext ts os ss (p + 1) i)) ∧ ((s = n1 ∧ w5 = wk4.setCell ⟨g1, o1, none⟩ (.bool true)) ∨ (¬ s = n1 ∧ w5 = wk4)) := by
            by_cases hsn : s = n1
            · refine ⟨E.set o1 true, wk4.setCell ⟨g1, o1, none⟩ (.bool true), Lib.hid (by rw [List.length_set]; exact HEL.out), Lib.hid (HE4.out.set o1 true), Lib.hid (HC4.out.other HNE.out.symm _), Lib.hid (HBF.out.setCell (p := ⟨g1, o1, none⟩) hzg1 _), Lib.hid (H8.out.other (by omega) _), Lib.hid (H9.out.other (by omega) _), Lib.hid (fun i hi => ?_), .inl ⟨hsn, rfl⟩⟩
              rw [set_getD (by rw [HEL.out]; exact ho1n), HEX.out i hi, ext_step, ← HO1.out, HS1.out, HL1.out]
              constructor
              · rintro (h | h)
                · exact .inr ⟨h.symm, by omega⟩
                · exact .inl h
              · rintro (h | h)
                · exact .inr h
                · exact .inl h.1.symm
            · refine ⟨E, wk4, HEL, HE4, HC4, HBF, H8, H9, Lib.hid (fun i hi => ?_), .inr ⟨hsn, rfl⟩⟩
              rw [HEX.out i hi, ext_step, ← HO1.out, HS1.out, HL1.out]
              constructor
              · exact .inl
              · rintro (h | h)
                · exact h
                · exact absurd h.2 (by omega)
          obtain ⟨E5, w5, HEL5, HE5, HC5, HB5, H85, H95, HEX5, hor⟩ := hkey
          have HS5 := Lib.hid (show ∀ W, Below w5.heap.size w5 W → W.cell? ⟨b8, 1, none⟩ = some (.slice A2 n2 c2) ∧ W.cell? ⟨b9, 1, none⟩ = some (.slice B2 m2 d2) from fun W h => ⟨by have := (H85.out.on h).cell 1; simpa using this, by have := (H95.out.on h).cell 1; simpa using this⟩)
          have hsI2 : (s : Int) ≤ (c2 : Int) := by omega
          have hsI3 : (s : Int) ≤ (d2 : Int) := by omega
          have hs0 : (0 : Int) ≤ (s : Int) := by omega
          rcases hor with ⟨hsn, hw5⟩ | ⟨hsn, hw5⟩
          · have HW5 := Lib.hid hw5
            have hsnI : ((s : Int) == (n1 : Int)) = true := by simp; omega
            clear hw5 hsn
            go_upto_region 9 with fail
            rw [← HW5.out]
            clear t80 tt0 tt1 kx kf
            have hbf : Below w5.heap.size w5 w5.drew := below_drewN (Below.refl _ _) 1
            refine wp_region_heldX (X := fun k => ([] : List Nat).contains k) (S := fun W => W.cell? ⟨b8, 1, none⟩ = some (.slice A2 n2 c2) ∧ W.cell? ⟨b9, 1, none⟩ = some (.slice B2 m2 d2)) (by kernel_rfl) ?_
            generalize w5.drew = wkd at hbf ⊢
            refine wpAnyX_pure (i := 0) (v := ?_) rfl (by kernel_rfl) (by kernel_rfl) (by kernel_rfl) (fun _ _ _ h => h) (Or.inl ⟨by rfl, ?_⟩) ?_
            rotate_left
            · (intro W _; go_simp; try with_reducible rfl)
            (try simp only [Act.put, List.getElem_toArray, List.getElem_cons_zero, List.getElem_cons_succ, List.setIfInBounds_toArray, List.set_cons_zero, List.set_cons_succ])
            refine wpAnyX_takeL (L := []) (i := 1) (v := ?_) rfl (by kernel_rfl) (by kernel_rfl) (by kernel_rfl) (by kernel_rfl) (fun _ _ _ h => h) (Or.inl ⟨by rfl, ?_⟩) (HS5.out _ hbf) ?_
            rotate_left
            · (intro W hSW; (try dsimp only at hSW); obtain ⟨z0, z1⟩ := hSW; go_simp; try with_reducible rfl)
            (try simp only [Act.put, List.getElem_toArray, List.getElem_cons_zero, List.getElem_cons_succ, List.setIfInBounds_toArray, List.set_cons_zero, List.set_cons_succ])
            refine wpAnyX_pure (i := 2) (v := ?_) rfl (by kernel_rfl) (by kernel_rfl) (by kernel_rfl) (fun _ _ _ h => h) (Or.inl ⟨by rfl, ?_⟩) ?_
            rotate_left
            · (intro W _; go_simp; try with_reducible rfl)
            (try simp only [Act.put, List.getElem_toArray, List.getElem_cons_zero, List.getElem_cons_succ, List.setIfInBounds_toArray, List.set_cons_zero, List.set_cons_succ])
            refine wpAnyX_pure (i := 3) (v := ?_) rfl (by kernel_rfl) (by kernel_rfl) (by kernel_rfl) (fun _ _ _ h => h) (Or.inl ⟨by rfl, ?_⟩) ?_
            rotate_left
            · (intro W _; go_simp; try with_reducible rfl)
            (try simp only [Act.put, List.getElem_toArray, List.getElem_cons_zero, List.getElem_cons_succ, List.setIfInBounds_toArray, List.set_cons_zero, List.set_cons_succ])
            refine wpAnyX_pure (i := 4) (v := ?_) rfl (by kernel_rfl) (by kernel_rfl) (by kernel_rfl) (fun _ _ _ h => h) (Or.inl ⟨by rfl, ?_⟩) ?_
            rotate_left
            · (intro W _; go_simp; try with_reducible rfl)
            (try simp only [Act.put, List.getElem_toArray, List.getElem_cons_zero, List.getElem_cons_succ, List.setIfInBounds_toArray, List.set_cons_zero, List.set_cons_succ])
            refine wpAnyX_takeL (L := []) (i := 5) (v := ?_) rfl (by kernel_rfl) (by kernel_rfl) (by kernel_rfl) (by kernel_rfl) (fun _ _ _ h => h) (Or.inl ⟨by rfl, ?_⟩) (HS5.out _ hbf) ?_
            rotate_left
            · (intro W hSW; (try dsimp only at hSW); obtain ⟨z0, z1⟩ := hSW; go_simp; try with_reducible rfl)
            (try simp only [Act.put, List.getElem_toArray, List.getElem_cons_zero, List.getElem_cons_succ, List.setIfInBounds_toArray, List.set_cons_zero, List.set_cons_succ])
            refine wpAnyX_pure (i := 6) (v := ?_) rfl (by kernel_rfl) (by kernel_rfl) (by kernel_rfl) (fun _ _ _ h => h) (Or.inl ⟨by rfl, ?_⟩) ?_
            rotate_left
            · (intro W _; go_simp; try with_reducible rfl)
            (try simp only [Act.put, List.getElem_toArray, List.getElem_cons_zero, List.getElem_cons_succ, List.setIfInBounds_toArray, List.set_cons_zero, List.set_cons_succ])
            refine wpAnyX_pure (i := 7) (v := ?_) rfl (by kernel_rfl) (by kernel_rfl) (by kernel_rfl) (fun _ _ _ h => h) (Or.inl ⟨by rfl, ?_⟩) ?_
            rotate_left
            · (intro W _; go_simp; try with_reducible rfl)
            (try simp only [Act.put, List.getElem_toArray, List.getElem_cons_zero, List.getElem_cons_succ, List.setIfInBounds_toArray, List.set_cons_zero, List.set_cons_succ])
            refine wpAnyX_one (i := 8) rfl (by kernel_rfl) (fun K hK => ?_)
            go_simp
            go_at_call 65
            refine (wcommon A2 B2 s c2 s d2 ((tOut ts o1).take s) ((tOut ts o2).take s) _ ((HJ4.out _ (bt HB5.out hbf)).takeX hsn2) ((HI4.out _ (bt HB5.out hbf)).takeX hsm2)).mono ?_
            rintro r w6 ⟨rfl, q6, rfl⟩
            have hbf := below_drewN hbf q6
            obtain ⟨g, hg⟩ : ∃ g, g = cmn ((tOut ts o1).take s) ((tOut ts o2).take s) := ⟨_, rfl⟩
            rw [← hg]
            have HGA := Lib.hid (show g = agrD ts os ss p by rw [hg]; unfold agrD; rw [HS1.out, Int.toNat_natCast, HO1.out, HO2.out])
            have hgs : g ≤ s := by rw [hg]; have := cmn_le_left ((tOut ts o1).take s) ((tOut ts o2).take s); rw [List.length_take] at this; omega
            clear hg
            refine hK.out _ _ (fun _ _ => HS5.out _ hbf) ?_
            (try simp only [Act.put, List.getElem_toArray, List.getElem_cons_zero, List.getElem_cons_succ, List.setIfInBounds_toArray, List.set_cons_zero, List.set_cons_succ])
            refine wpAnyX_pure (i := 9) (v := ?_) rfl (by kernel_rfl) (by kernel_rfl) (by kernel_rfl) (fun _ _ _ h => h) (Or.inl ⟨by rfl, ?_⟩) ?_
            rotate_left
            · (intro W _; go_simp; try with_reducible rfl)
            (try simp only [Act.put, List.getElem_toArray, List.getElem_cons_zero, List.getElem_cons_succ, List.setIfInBounds_toArray, List.set_cons_zero, List.set_cons_succ])
            refine wpAnyX_done (by kernel_rfl) ?_ _
            by_cases hgeq : g = s
            · have hgI : ((g : Int) == (s : Int)) = true := by simp; omega
              have HBn := Lib.hid (bt HB5.out hbf)
              have HEn := Lib.hid (HE5.out.on hbf)
              have HCn := Lib.hid (HC5.out.on hbf)
              have HCO5 := Lib.hid (show ∀ i, i < n → (C.getD i false = true ↔ Con ts os ss (p + 1) i) from fun i hi => by
                rw [HCO.out i hi, con_step]
                constructor
                · exact .inl
                · rintro (h | h)
                  · exact h
                  · have := h.1; rw [← HGA.out, HS1.out] at this; omega)
              clear hbf hgeq
              go_wp2_with fail
              go_roundw
              case rel => exact ⟨p + 1, E5, C, rfl, by omega, HEL5, HCL, HEn, HCn, HBn, HEX5, HCO5⟩
              case measure => simp [intOf]; omega
            have hgI : ((g : Int) == (s : Int)) = false := by simp; omega
            have wg1 : IntKind.i64.wrap ((g : Int) + 1) = (g : Int) + 1 := by rw [IntKind.wrap_i64]; omega
            have d0 := (HMD.out _ (bt HB5.out hbf)).cell 0
            have d1' := (HMD.out _ (bt HB5.out hbf)).cell 1
            simp at d0 d1'
            have HARD := Lib.hid (fun (W : World) (h : Below w2.heap.size w2 W) => paround (some ⟨bO, oO, none⟩) (some ⟨bS, oS, none⟩) n cO m cS p ((g : Int) + 1) ss W (HSI.out _ h) hpm)
            have HBn := Lib.hid hbf
            clear hbf
            go_wp2_with fail
            refine (HARD.out _ (bt HB5.out HBn.out)).mono ?_
            rintro r w7 ⟨f, t, rfl, hAR, b7⟩
            clear d0 d1'
            have hft : f ≤ t ∧ t ≤ n ∧ f ≤ p ∧ p < t := by obtain ⟨x1, x2, x3, _⟩ := hAR; have := HMN.out; omega
            have HAR := Lib.hid hAR
            have hb57 := HBn.out.trans (b7.mono HBn.out.size)
            have HB7 := Lib.hid (bt HB5.out hb57)
            have HE7 := Lib.hid (HE5.out.on hb57)
            have HC7 := Lib.hid (HC5.out.on hb57)
            obtain ⟨hf1, hf2, hf3, hf4⟩ := hft
            have e0 := (HMD.out _ HB7.out).cell 0
            simp at e0
            have hfI : (f : Int) ≤ (t : Int) := by omega
            have htI : (t : Int) ≤ (cO : Int) := by omega
            have hf0 : (0 : Int) ≤ (f : Int) := by omega
            have ht0 : (0 : Int) ≤ (t : Int) := by omega
            have hcf : ¬ cO = f := by omega
            have wtf : (t : Int) - (f : Int) = ((t - f : Nat) : Int) := by omega
            clear hAR b7 hb57
            go_upto_region 13 with fail
            clear e0
            go_loopw [87] (fun v87 wx => ∃ (x : Nat) (C7 : List Bool), v87 = .int .i64 x ∧ x ≤ t - f ∧ Hid (C7.length = n) ∧ Hid (FlB wx g1 E5) ∧ Hid (FlB wx g2 C7) ∧ Hid (Below w2.heap.size w2 wx) ∧ Hid (∀ i, i < n → (C7.getD i false = true ↔ C.getD i false = true ∨ ∃ q, f ≤ q ∧ q < f + x ∧ opo os q = i))) (fun v87 _ => t - f - (intOf v87).toNat)
            case atStart => exact ⟨0, C, rfl, Nat.zero_le _, HCL, HE7, HC7, HB7, Lib.hid (fun i _ => ⟨.inl, fun h => h.elim id fun ⟨q, h1, h2, _⟩ => absurd h2 (by omega)⟩)⟩
            case round =>
              rename_i wr0
              clear HE7 HC7 HB7
              obtain ⟨x, C7, rfl, hxt, HCL7, HEx, HCx, HBx, HC7X⟩ := hrel
              by_cases hx : x < t - f
              · have hq : f + x < ts.length := by rw [HLT.out]; omega
                have hr3 := HD.out.rng (f + x) hq
                obtain ⟨o3, ho3⟩ : ∃ o3, o3 = opo os (f + x) := ⟨_, rfl⟩
                have ho3I : os.getD (f + x) 0 = (o3 : Int) := by rw [ho3]; unfold opo; omega
                have ho3n : o3 < n := by rw [ho3, ← HLT.out]; exact hr3.2
                obtain ⟨_, _, eO3, _, rO3⟩ := (HOI.out _ HBx.out).at_ (k := f + x) (by omega)
                cases eO3
                rw [ho3I, ← Nat.add_assoc] at rO3
                have HO3 := Lib.hid ho3
                have kx3 := HCx.out.cell (k := o3) (by rw [HCL7.out]; exact ho3n)
                have kf3 : wr.frozen? ⟨g2, o3, none⟩ = false := Bx.free HCx.out o3
                have ho3i : (o3 : Int) < (n : Int) := by omega
                have ho30 : (0 : Int) ≤ (o3 : Int) := by omega
                have hxI : (x : Int) < ((t - f : Nat) : Int) := by omega
                have hx0 : (0 : Int) ≤ (x : Int) := by omega
                have wx1 : IntKind.i64.wrap ((x : Int) + 1) = ((x + 1 : Nat) : Int) := by rw [IntKind.wrap_i64]; omega
                have HEn := Lib.hid (HEx.out.other (k := o3) HNE.out (.bool true))
                have HCn := Lib.hid (HCx.out.set o3 true)
                have HBn := Lib.hid (HBx.out.setCell (p := ⟨g2, o3, none⟩) hzg2 (.bool true))
                have HC8 := Lib.hid (show ∀ i, i < n → ((C7.set o3 true).getD i false = true ↔ C.getD i false = true ∨ ∃ q, f ≤ q ∧ q < f + (x + 1) ∧ opo os q = i) from fun i hi => by
                  rw [set_getD (by rw [HCL7.out]; exact ho3n), HC7X.out i hi]
                  constructor
                  · rintro (h | h | ⟨q, h1, h2, h3⟩)
                    · exact .inr ⟨f + x, by omega, by omega, by rw [h]; exact HO3.out.symm⟩
                    · exact .inl h
                    · exact .inr ⟨q, h1, by omega, h3⟩
                  · rintro (h | ⟨q, h1, h2, h3⟩)
                    · exact .inr (.inl h)
                    · by_cases e : q = f + x
                      · exact .inl (by rw [← h3, e]; exact HO3.out.symm)
                      · exact .inr (.inr ⟨q, h1, by omega, h3⟩))
                have HCL8 := Lib.hid (show (C7.set o3 true).length = n by rw [List.length_set]; exact HCL7.out)
                clear ho3 hr3 ho3I hq
                go_wp2_with fail
                go_roundw
                case rel => exact ⟨x + 1, C7.set o3 true, rfl, by omega, HCL8, HEn, HCn, HBn, HC8⟩
                case measure => simp [intOf]; omega
              · have hxI : ¬ (x : Int) < ((t - f : Nat) : Int) := by omega
                have HCO5 := Lib.hid (show ∀ i, i < n → (C7.getD i false = true ↔ Con ts os ss (p + 1) i) from fun i hi => by
                  rw [HC7X.out i hi, HCO.out i hi, con_step]
                  have hmt : ts.length = m + 1 := by rw [HLT.out]; have := HMN.out; omega
                  have hnm : n = m + 1 := by have := HMN.out; omega
                  constructor
                  · rintro (h | ⟨q, h1, h2, h3⟩)
                    · exact .inl h
                    · exact .inr ⟨by rw [← HGA.out, HS1.out]; omega, q, by omega, by rw [← HGA.out]; exact (arnd_iff HAR.out (by omega)).1 ⟨h1, by omega⟩, h3⟩
                  · rintro (h | ⟨_, q, h1, h2, h3⟩)
                    · exact .inl h
                    · rw [← HGA.out] at h2
                      obtain ⟨h4, h5⟩ := (arnd_iff HAR.out (by omega)).2 h2
                      exact .inr ⟨q, h4, by omega, h3⟩)
                go_wp2_with fail
                go_roundw
                case rel => exact ⟨p + 1, E5, C7, rfl, by omega, HEL5, HCL7, HEx, HCx, HBx, HEX5, HCO5⟩
                case measure => simp [intOf]; omega
          · have hsnI : ((s : Int) == (n1 : Int)) = false := by simp; omega
            subst hw5
            go_upto_region 9 with fail
            clear t80 tt0 tt1 kx kf
            have hbf : Below w5.heap.size w5 w5.drew := below_drewN (Below.refl _ _) 1
            refine wp_region_heldX (X := fun k => ([] : List Nat).contains k) (S := fun W => W.cell? ⟨b8, 1, none⟩ = some (.slice A2 n2 c2) ∧ W.cell? ⟨b9, 1, none⟩ = some (.slice B2 m2 d2)) (by kernel_rfl) ?_
            generalize w5.drew = wkd at hbf ⊢
            refine wpAnyX_pure (i := 0) (v := ?_) rfl (by kernel_rfl) (by kernel_rfl) (by kernel_rfl) (fun _ _ _ h => h) (Or.inl ⟨by rfl, ?_⟩) ?_
            rotate_left
            · (intro W _; go_simp; try with_reducible rfl)
            (try simp only [Act.put, List.getElem_toArray, List.getElem_cons_zero, List.getElem_cons_succ, List.setIfInBounds_toArray, List.set_cons_zero, List.set_cons_succ])
            refine wpAnyX_takeL (L := []) (i := 1) (v := ?_) rfl (by kernel_rfl) (by kernel_rfl) (by kernel_rfl) (by kernel_rfl) (fun _ _ _ h => h) (Or.inl ⟨by rfl, ?_⟩) (HS5.out _ hbf) ?_
            rotate_left
            · (intro W hSW; (try dsimp only at hSW); obtain ⟨z0, z1⟩ := hSW; go_simp; try with_reducible rfl)
            (try simp only [Act.put, List.getElem_toArray, List.getElem_cons_zero, List.getElem_cons_succ, List.setIfInBounds_toArray, List.set_cons_zero, List.set_cons_succ])
            refine wpAnyX_pure (i := 2) (v := ?_) rfl (by kernel_rfl) (by kernel_rfl) (by kernel_rfl) (fun _ _ _ h => h) (Or.inl ⟨by rfl, ?_⟩) ?_
            rotate_left
            · (intro W _; go_simp; try with_reducible rfl)
            (try simp only [Act.put, List.getElem_toArray, List.getElem_cons_zero, List.getElem_cons_succ, List.setIfInBounds_toArray, List.set_cons_zero, List.set_cons_succ])
            refine wpAnyX_pure (i := 3) (v := ?_) rfl (by kernel_rfl) (by kernel_rfl) (by kernel_rfl) (fun _ _ _ h => h) (Or.inl ⟨by rfl, ?_⟩) ?_
            rotate_left
            · (intro W _; go_simp; try with_reducible rfl)
            (try simp only [Act.put, List.getElem_toArray, List.getElem_cons_zero, List.getElem_cons_succ, List.setIfInBounds_toArray, List.set_cons_zero, List.set_cons_succ])
            refine wpAnyX_pure (i := 4) (v := ?_) rfl (by kernel_rfl) (by kernel_rfl) (by kernel_rfl) (fun _ _ _ h => h) (Or.inl ⟨by rfl, ?_⟩) ?_
            rotate_left
            · (intro W _; go_simp; try with_reducible rfl)
            (try simp only [Act.put, List.getElem_toArray, List.getElem_cons_zero, List.getElem_cons_succ, List.setIfInBounds_toArray, List.set_cons_zero, List.set_cons_succ])
            refine wpAnyX_takeL (L := []) (i := 5) (v := ?_) rfl (by kernel_rfl) (by kernel_rfl) (by kernel_rfl) (by kernel_rfl) (fun _ _ _ h => h) (Or.inl ⟨by rfl, ?_⟩) (HS5.out _ hbf) ?_
            rotate_left
            · (intro W hSW; (try dsimp only at hSW); obtain ⟨z0, z1⟩ := hSW; go_simp; try with_reducible rfl)
            (try simp only [Act.put, List.getElem_toArray, List.getElem_cons_zero, List.getElem_cons_succ, List.setIfInBounds_toArray, List.set_cons_zero, List.set_cons_succ])
            refine wpAnyX_pure (i := 6) (v := ?_) rfl (by kernel_rfl) (by kernel_rfl) (by kernel_rfl) (fun _ _ _ h => h) (Or.inl ⟨by rfl, ?_⟩) ?_
            rotate_left
            · (intro W _; go_simp; try with_reducible rfl)
            (try simp only [Act.put, List.getElem_toArray, List.getElem_cons_zero, List.getElem_cons_succ, List.setIfInBounds_toArray, List.set_cons_zero, List.set_cons_succ])
            refine wpAnyX_pure (i := 7) (v := ?_) rfl (by kernel_rfl) (by kernel_rfl) (by kernel_rfl) (fun _ _ _ h => h) (Or.inl ⟨by rfl, ?_⟩) ?_
            rotate_left
            · (intro W _; go_simp; try with_reducible rfl)
            (try simp only [Act.put, List.getElem_toArray, List.getElem_cons_zero, List.getElem_cons_succ, List.setIfInBounds_toArray, List.set_cons_zero, List.set_cons_succ])
            refine wpAnyX_one (i := 8) rfl (by kernel_rfl) (fun K hK => ?_)
            go_simp
            go_at_call 65
            refine (wcommon A2 B2 s c2 s d2 ((tOut ts o1).take s) ((tOut ts o2).take s) _ ((HJ4.out _ (bt HB5.out hbf)).takeX hsn2) ((HI4.out _ (bt HB5.out hbf)).takeX hsm2)).mono ?_
            rintro r w6 ⟨rfl, q6, rfl⟩
            have hbf := below_drewN hbf q6
            obtain ⟨g, hg⟩ : ∃ g, g = cmn ((tOut ts o1).take s) ((tOut ts o2).take s) := ⟨_, rfl⟩
            rw [← hg]
            have HGA := Lib.hid (show g = agrD ts os ss p by rw [hg]; unfold agrD; rw [HS1.out, Int.toNat_natCast, HO1.out, HO2.out])
            have hgs : g ≤ s := by rw [hg]; have := cmn_le_left ((tOut ts o1).take s) ((tOut ts o2).take s); rw [List.length_take] at this; omega
            clear hg
            refine hK.out _ _ (fun _ _ => HS5.out _ hbf) ?_
            (try simp only [Act.put, List.getElem_toArray, List.getElem_cons_zero, List.getElem_cons_succ, List.setIfInBounds_toArray, List.set_cons_zero, List.set_cons_succ])
            refine wpAnyX_pure (i := 9) (v := ?_) rfl (by kernel_rfl) (by kernel_rfl) (by kernel_rfl) (fun _ _ _ h => h) (Or.inl ⟨by rfl, ?_⟩) ?_
            rotate_left
            · (intro W _; go_simp; try with_reducible rfl)
            (try simp only [Act.put, List.getElem_toArray, List.getElem_cons_zero, List.getElem_cons_succ, List.setIfInBounds_toArray, List.set_cons_zero, List.set_cons_succ])
            refine wpAnyX_done (by kernel_rfl) ?_ _
            by_cases hgeq : g = s
            · have hgI : ((g : Int) == (s : Int)) = true := by simp; omega
              have HBn := Lib.hid (bt HB5.out hbf)
              have HEn := Lib.hid (HE5.out.on hbf)
              have HCn := Lib.hid (HC5.out.on hbf)
              have HCO5 := Lib.hid (show ∀ i, i < n → (C.getD i false = true ↔ Con ts os ss (p + 1) i) from fun i hi => by
                rw [HCO.out i hi, con_step]
                constructor
                · exact .inl
                · rintro (h | h)
                  · exact h
                  · have := h.1; rw [← HGA.out, HS1.out] at this; omega)
              clear hbf hgeq
              go_wp2_with fail
              go_roundw
              case rel => exact ⟨p + 1, E5, C, rfl, by omega, HEL5, HCL, HEn, HCn, HBn, HEX5, HCO5⟩
              case measure => simp [intOf]; omega
            have hgI : ((g : Int) == (s : Int)) = false := by simp; omega
            have wg1 : IntKind.i64.wrap ((g : Int) + 1) = (g : Int) + 1 := by rw [IntKind.wrap_i64]; omega
            have d0 := (HMD.out _ (bt HB5.out hbf)).cell 0
            have d1' := (HMD.out _ (bt HB5.out hbf)).cell 1
            simp at d0 d1'
            have HARD := Lib.hid (fun (W : World) (h : Below w2.heap.size w2 W) => paround (some ⟨bO, oO, none⟩) (some ⟨bS, oS, none⟩) n cO m cS p ((g : Int) + 1) ss W (HSI.out _ h) hpm)
            have HBn := Lib.hid hbf
            clear hbf
            go_wp2_with fail
            refine (HARD.out _ (bt HB5.out HBn.out)).mono ?_
            rintro r w7 ⟨f, t, rfl, hAR, b7⟩
            clear d0 d1'
            have hft : f ≤ t ∧ t ≤ n ∧ f ≤ p ∧ p < t := by obtain ⟨x1, x2, x3, _⟩ := hAR; have := HMN.out; omega
            have HAR := Lib.hid hAR
            have hb57 := HBn.out.trans (b7.mono HBn.out.size)
            have HB7 := Lib.hid (bt HB5.out hb57)
            have HE7 := Lib.hid (HE5.out.on hb57)
            have HC7 := Lib.hid (HC5.out.on hb57)
            obtain ⟨hf1, hf2, hf3, hf4⟩ := hft
            have e0 := (HMD.out _ HB7.out).cell 0
            simp at e0
            have hfI : (f : Int) ≤ (t : Int) := by omega
            have htI : (t : Int) ≤ (cO : Int) := by omega
            have hf0 : (0 : Int) ≤ (f : Int) := by omega
            have ht0 : (0 : Int) ≤ (t : Int) := by omega
            have hcf : ¬ cO = f := by omega
            have wtf : (t : Int) - (f : Int) = ((t - f : Nat) : Int) := by omega
            clear hAR b7 hb57
            go_upto_region 13 with fail
            clear e0
            go_loopw [87] (fun v87 wx => ∃ (x : Nat) (C7 : List Bool), v87 = .int .i64 x ∧ x ≤ t - f ∧ Hid (C7.length = n) ∧ Hid (FlB wx g1 E5) ∧ Hid (FlB wx g2 C7) ∧ Hid (Below w2.heap.size w2 wx) ∧ Hid (∀ i, i < n → (C7.getD i false = true ↔ C.getD i false = true ∨ ∃ q, f ≤ q ∧ q < f + x ∧ opo os q = i))) (fun v87 _ => t - f - (intOf v87).toNat)
            case atStart => exact ⟨0, C, rfl, Nat.zero_le _, HCL, HE7, HC7, HB7, Lib.hid (fun i _ => ⟨.inl, fun h => h.elim id fun ⟨q, h1, h2, _⟩ => absurd h2 (by omega)⟩)⟩
            case round =>
              rename_i wr0
              clear HE7 HC7 HB7
              obtain ⟨x, C7, rfl, hxt, HCL7, HEx, HCx, HBx, HC7X⟩ := hrel
              by_cases hx : x < t - f
              · have hq : f + x < ts.length := by rw [HLT.out]; omega
                have hr3 := HD.out.rng (f + x) hq
                obtain ⟨o3, ho3⟩ : ∃ o3, o3 = opo os (f + x) := ⟨_, rfl⟩
                have ho3I : os.getD (f + x) 0 = (o3 : Int) := by rw [ho3]; unfold opo; omega
                have ho3n : o3 < n := by rw [ho3, ← HLT.out]; exact hr3.2
                obtain ⟨_, _, eO3, _, rO3⟩ := (HOI.out _ HBx.out).at_ (k := f + x) (by omega)
                cases eO3
                rw [ho3I, ← Nat.add_assoc] at rO3
                have HO3 := Lib.hid ho3
                have kx3 := HCx.out.cell (k := o3) (by rw [HCL7.out]; exact ho3n)
                have kf3 : wr.frozen? ⟨g2, o3, none⟩ = false := Bx.free HCx.out o3
                have ho3i : (o3 : Int) < (n : Int) := by omega
                have ho30 : (0 : Int) ≤ (o3 : Int) := by omega
                have hxI : (x : Int) < ((t - f : Nat) : Int) := by omega
                have hx0 : (0 : Int) ≤ (x : Int) := by omega
                have wx1 : IntKind.i64.wrap ((x : Int) + 1) = ((x + 1 : Nat) : Int) := by rw [IntKind.wrap_i64]; omega
                have HEn := Lib.hid (HEx.out.other (k := o3) HNE.out (.bool true))
                have HCn := Lib.hid (HCx.out.set o3 true)
                have HBn := Lib.hid (HBx.out.setCell (p := ⟨g2, o3, none⟩) hzg2 (.bool true))
                have HC8 := Lib.hid (show ∀ i, i < n → ((C7.set o3 true).getD i false = true ↔ C.getD i false = true ∨ ∃ q, f ≤ q ∧ q < f + (x + 1) ∧ opo os q = i) from fun i hi => by
                  rw [set_getD (by rw [HCL7.out]; exact ho3n), HC7X.out i hi]
                  constructor
                  · rintro (h | h | ⟨q, h1, h2, h3⟩)
                    · exact .inr ⟨f + x, by omega, by omega, by rw [h]; exact HO3.out.symm⟩
                    · exact .inl h
                    · exact .inr ⟨q, h1, by omega, h3⟩
                  · rintro (h | ⟨q, h1, h2, h3⟩)
                    · exact .inr (.inl h)
                    · by_cases e : q = f + x
                      · exact .inl (by rw [← h3, e]; exact HO3.out.symm)
                      · exact .inr (.inr ⟨q, h1, by omega, h3⟩))
                have HCL8 := Lib.hid (show (C7.set o3 true).length = n by rw [List.length_set]; exact HCL7.out)
                clear ho3 hr3 ho3I hq
                go_wp2_with fail
                go_roundw
                case rel => exact ⟨x + 1, C7.set o3 true, rfl, by omega, HCL8, HEn, HCn, HBn, HC8⟩
                case measure => simp [intOf]; omega
              · have hxI : ¬ (x : Int) < ((t - f : Nat) : Int) := by omega
                have HCO5 := Lib.hid (show ∀ i, i < n → (C7.getD i false = true ↔ Con ts os ss (p + 1) i) from fun i hi => by
                  rw [HC7X.out i hi, HCO.out i hi, con_step]
                  have hmt : ts.length = m + 1 := by rw [HLT.out]; have := HMN.out; omega
                  have hnm : n = m + 1 := by have := HMN.out; omega
                  constructor
                  · rintro (h | ⟨q, h1, h2, h3⟩)
                    · exact .inl h
                    · exact .inr ⟨by rw [← HGA.out, HS1.out]; omega, q, by omega, by rw [← HGA.out]; exact (arnd_iff HAR.out (by omega)).1 ⟨h1, by omega⟩, h3⟩
                  · rintro (h | ⟨_, q, h1, h2, h3⟩)
                    · exact .inl h
                    · rw [← HGA.out] at h2
                      obtain ⟨h4, h5⟩ := (arnd_iff HAR.out (by omega)).2 h2
                      exact .inr ⟨q, h4, by omega, h3⟩)
                go_wp2_with fail
                go_roundw
                case rel => exact ⟨p + 1, E5, C7, rfl, by omega, HEL5, HCL7, HEx, HCx, HBx, HEX5, HCO5⟩
                case measure => simp [intOf]; omega)
      obtain rfl : p = m := by omega
      have hpI : ¬ (p : Int) < (p : Int) := by omega
      go_wp2_with fail
      go_loopw [98] (fun v98 wr2 => ∃ x : Nat, v98 = .int .i64 x ∧ x ≤ n ∧ Hid (∀ j, j < x → ¬ Ext ts os ss ss.length j ∧ ¬ Con ts os ss ss.length j) ∧ ∃ q, wr2 = wr.drewN q) (fun v98 _ => n - (intOf v98).toNat)
      case atStart => exact ⟨0, rfl, Nat.zero_le _, Lib.hid (fun j h => absurd h (by omega)), 0, rfl⟩
      case round =>
        obtain ⟨x, rfl, hxn, HNO, q, rfl⟩ := hrel
        by_cases hx : x < n
        · have f1 := HE.out.cell (k := x) (by rw [HEL.out]; exact hx)
          have f2 := HC.out.cell (k := x) (by rw [HCL.out]; exact hx)
          have g1' := HEX.out x hx
          have g2' := HCO.out x hx
          rw [HML.out] at g1' g2'
          have hxI : (x : Int) < (n : Int) := by omega
          have hx0 : (0 : Int) ≤ (x : Int) := by omega
          obtain ⟨e1, he1⟩ : ∃ e1, e1 = E.getD x false := ⟨_, rfl⟩
          obtain ⟨e2, he2⟩ : ∃ e2, e2 = C.getD x false := ⟨_, rfl⟩
          rw [← he1] at f1 g1'
          rw [← he2] at f2 g2'
          have G1 := Lib.hid g1'
          have G2 := Lib.hid g2'
          clear he1 he2 g1' g2'
          cases e1
          case true =>
            go_wp2_with fail
            go_ret
            exact ⟨7, rfl, ⟨os, ss, HD.out, .inr ⟨x, by rw [HLT.out]; exact hx, HNO.out, .inl ⟨G1.out.1 (by simp), rfl⟩⟩⟩, below_drewN (bt HB2.out HBR.out) q⟩
          cases e2
          case true =>
            go_wp2_with fail
            go_ret
            exact ⟨13, rfl, ⟨os, ss, HD.out, .inr ⟨x, by rw [HLT.out]; exact hx, HNO.out, .inr ⟨fun h => absurd (G1.out.2 h) (by simp), G2.out.1 (by simp), rfl⟩⟩⟩, below_drewN (bt HB2.out HBR.out) q⟩
          have HNO2 := Lib.hid (show ∀ j, j < x + 1 → ¬ Ext ts os ss ss.length j ∧ ¬ Con ts os ss ss.length j from fun j hj => by
            rcases Nat.lt_or_ge j x with h | h
            · exact HNO.out j h
            · obtain rfl : j = x := by omega
              exact ⟨fun h => absurd (G1.out.2 h) (by decide), fun h => absurd (G2.out.2 h) (by decide)⟩)
          have wx1 : IntKind.i64.wrap ((x : Int) + 1) = ((x + 1 : Nat) : Int) := by rw [IntKind.wrap_i64]; omega
          go_wp2_with fail
          go_roundw
          case rel => exact ⟨x + 1, rfl, by omega, HNO2, q, rfl⟩
          case measure => simp [intOf]; omega
        · obtain rfl : x = n := by omega
          have hxI : ¬ (x : Int) < (x : Int) := by omega
          go_wp2_with fail
          go_ret
          exact ⟨0, rfl, ⟨os, ss, HD.out, .inl ⟨rfl, fun i hi => HNO.out i (by rw [← HLT.out]; exact hi)⟩⟩, below_drewN (bt HB2.out HBR.out) q⟩)
end Go.Proofs.Ytkkmcgapbcikiaa
end

section
/- Valid of observations, of the program. -/
namespace Go.Proofs.Ytkkmcgapbcikiaa
open Go.RowKit

/-- The error of a listed trace. -/
def lstE (xs ys : List Int) (i : Int) : Int := if chk xs i = 0 then (if xs.length = 0 then 19 else ansE xs ys) else chk xs i
theorem lst_zero {xs ys : List Int} {i : Int} (h : lstE xs ys i = 0) : 0 < xs.length ∧ prpE xs ys i = 0 := by
  unfold lstE at h
  split at h
  · rename_i hc
    split at h
    · omega
    · exact ⟨by omega, by unfold prpE; rw [if_pos hc]; exact h⟩
  · omega
theorem lst_ok {xs ys : List Int} {i : Int} (h0 : 0 < xs.length) (h : prpE xs ys i = 0) : lstE xs ys i = 0 := by
  unfold prpE at h
  unfold lstE
  split at h
  · rename_i hc
    rw [if_pos hc, if_neg (by omega)]
    exact h
  · omega

set_option maxHeartbeats 2000000 in
theorem plisted (A B : Option Addr) (n c m d : Nat) (i : Int) (xs ys : List Int) (w : World) (hx : Ints w A n xs) (hy : Ints w B m ys) :
    Calls Try.prog 35 #[.agg #[.slice A n c, .slice B m d], .int .i64 i] w fun e w' => e = .returned (.int .i64 (lstE xs ys i)) ∧ Below w.heap.size w w' := by
  have hb0 := alloc_below w (.cells #[.slice A n c, .slice B m d] 38)
  have HX := Lib.hid (hx.below hb0)
  have HY := Lib.hid (hy.below hb0)
  have HB := Lib.hid hb0
  have HLX := Lib.hid hx.1
  have k0 : (w.alloc (.cells #[.slice A n c, .slice B m d] 38)).cell? ⟨w.heap.size, 0, none⟩ = some (.slice A n c) := by simp
  have k1 : (w.alloc (.cells #[.slice A n c, .slice B m d] 38)).cell? ⟨w.heap.size, 1, none⟩ = some (.slice B m d) := by simp
  clear hx hy hb0
  by_cases hc : chk xs i = 0
  · have HC := Lib.hid hc
    by_cases h0 : n = 0
    · have HP := Lib.hid (show lstE xs ys i = 19 by unfold lstE; rw [if_pos hc, if_pos (by rw [HLX.out]; exact h0)])
      have hz : ((n : Int) == 0) = true := by simpa using h0
      clear hc h0
      go_enter Try.func35, Try.ntmps35
      go_wp2_with fail
      refine (wcheck _ _ _ _ xs _ HX.out).mono ?_
      rintro e w2 ⟨rfl, rfl⟩
      rw [HC.out]
      go_wp2_with fail
      go_ret
      exact ⟨by rw [HP.out]; rfl, HB.out⟩
    · have HP := Lib.hid (show lstE xs ys i = ansE xs ys by unfold lstE; rw [if_pos hc, if_neg (by rw [HLX.out]; exact h0)])
      have hz : ((n : Int) == 0) = false := by simpa using h0
      clear hc h0
      go_enter Try.func35, Try.ntmps35
      go_wp2_with fail
      refine (wcheck _ _ _ _ xs _ HX.out).mono ?_
      rintro e w2 ⟨rfl, rfl⟩
      rw [HC.out]
      go_wp2_with fail
      refine (panswered A B n c m d xs ys _ HX.out HY.out).mono ?_
      rintro e w3 ⟨rfl, b3⟩
      have HB3 := Lib.hid (bt HB.out b3)
      clear b3
      go_wp2
      go_ret
      exact ⟨by rw [HP.out]; rfl, HB3.out⟩
  · have HP := Lib.hid (show lstE xs ys i = chk xs i by unfold lstE; rw [if_neg hc])
    have hne : (chk xs i != 0) = true := by simpa using hc
    go_enter Try.func35, Try.ntmps35
    go_wp2_with fail
    refine (wcheck _ _ _ _ xs _ HX.out).mono ?_
    rintro e w2 ⟨rfl, rfl⟩
    obtain ⟨E, hE⟩ : ∃ E, E = chk xs i := ⟨_, rfl⟩
    have HE := Lib.hid hE
    rw [← hE] at hne hc ⊢
    clear hE
    go_wp2
    go_ret
    exact ⟨by rw [HP.out, ← HE.out]; rfl, HB.out⟩

theorem ppermit16 (i : Int) (w : World) : Calls Try.prog 34 #[.int .i64 i] w fun e w' => e = .returned (.bool (decide (1 ≤ i ∧ i ≤ 64))) ∧ w' = w := by
  by_cases h1 : 1 ≤ i
  · by_cases h2 : i ≤ 64
    · go_enter Try.func34, Try.ntmps34
      go_wp2
      go_ret
      exact ⟨by simp [h1, h2], rfl⟩
    · go_enter Try.func34, Try.ntmps34
      go_wp2
      go_ret
      exact ⟨by simp [h2], rfl⟩
  · go_enter Try.func34, Try.ntmps34
    go_wp2
    go_ret
    exact ⟨by simp; omega, rfl⟩

/-- The first k traces are listed and in order. -/
def LstK (i : Int) (ts : List (List Int × List Int)) (k : Nat) : Prop := ∀ j, j < k → lstE (tIn ts j) (tOut ts j) i = 0 ∧ (0 < j → shlex (tIn ts (j - 1)) (tIn ts j) < 0)
/-- The error of observations. -/
def VldR (i : Int) (ts : List (List Int × List Int)) (v : Int) : Prop :=
  (¬ (1 ≤ i ∧ i ≤ 64) ∧ v = 2) ∨ ((1 ≤ i ∧ i ≤ 64) ∧ 10000 < ts.length ∧ v = 11) ∨
  ((1 ≤ i ∧ i ≤ 64) ∧ ts.length ≤ 10000 ∧ ∃ k, k < ts.length ∧ LstK i ts k ∧ ((¬ lstE (tIn ts k) (tOut ts k) i = 0 ∧ v = lstE (tIn ts k) (tOut ts k) i) ∨ (lstE (tIn ts k) (tOut ts k) i = 0 ∧ 0 < k ∧ 0 ≤ shlex (tIn ts (k - 1)) (tIn ts k) ∧ v = 10))) ∨
  ((1 ≤ i ∧ i ≤ 64) ∧ ts.length ≤ 10000 ∧ LstK i ts ts.length ∧ ∃ os ss, Dict ts os ss ∧ FitR ts os ss v)
theorem LstK.srt {i : Int} {ts : List (List Int × List Int)} (h : LstK i ts ts.length) : Srt ts := by
  intro a b hab hb
  obtain ⟨d, rfl⟩ : ∃ d, b = a + 1 + d := ⟨b - a - 1, by omega⟩
  induction d with
  | zero =>
    have := (h (a + 1) hb).2 (by omega)
    rwa [Nat.add_sub_cancel] at this
  | succ d ih =>
    have h1 := ih (by omega) (by omega)
    have h2 := (h (a + 1 + (d + 1)) hb).2 (by omega)
    rw [show a + 1 + (d + 1) - 1 = a + 1 + d by omega] at h2
    exact shlex_lt_trans h1 h2
theorem LstK.props {i : Int} {ts : List (List Int × List Int)} (h : LstK i ts ts.length) : Props i ts := fun j hj => (lst_zero (h j hj).1).2
theorem LstK.full {i : Int} {ts : List (List Int × List Int)} (h : LstK i ts ts.length) : Full ts := fun j hj => (prp_zero (h.props j hj)).2.1
/-- What observations without an error are. -/
theorem vld16_ok {i : Int} {ts : List (List Int × List Int)} (h : VldR i ts 0) : 1 ≤ i ∧ i ≤ 64 ∧ ts.length ≤ 10000 ∧ Srt ts ∧ Full ts ∧ Props i ts ∧ (∀ j, j < ts.length → 0 < (tIn ts j).length) ∧ PreF ts ∧ Cons ts := by
  rcases h with ⟨_, h⟩ | ⟨_, _, h⟩ | ⟨_, _, k, _, _, ⟨h1, h2⟩ | ⟨_, _, _, h2⟩⟩ | ⟨h1, h2, h3, os, ss, h4, h5⟩
  · omega
  · omega
  · exact absurd h2.symm h1
  · omega
  · obtain ⟨p1, p2⟩ := fit_ok h4 h3.srt h5
    exact ⟨h1.1, h1.2, h2, h3.srt, h3.full, h3.props, fun j hj => (lst_zero (h3 j hj).1).1, p1, p2⟩
/-- Observations that are fine have no error. -/
theorem vld16_good {i v : Int} {ts : List (List Int × List Int)} (h : VldR i ts v) (h1 : 1 ≤ i) (h2 : i ≤ 64) (h3 : ts.length ≤ 10000) (hS : Srt ts) (hP : Props i ts) (h0 : ∀ j, j < ts.length → 0 < (tIn ts j).length) (hF : PreF ts) (hC : Cons ts) : v = 0 := by
  have hl : ∀ j, j < ts.length → lstE (tIn ts j) (tOut ts j) i = 0 := fun j hj => lst_ok (h0 j hj) (hP j hj)
  rcases h with ⟨h, _⟩ | ⟨_, h, _⟩ | ⟨_, _, k, hk, _, ⟨h4, _⟩ | ⟨_, h5, h6, _⟩⟩ | ⟨_, _, h7, os, ss, h4, h5⟩
  · exact absurd ⟨h1, h2⟩ h
  · omega
  · exact absurd (hl k hk) h4
  · have := hS (k - 1) k (by omega) hk
    omega
  · exact fit_good h4 h7.full hF hC h5

set_option linter.unusedSimpArgs false in
set_option linter.unusedVariables false in
set_option maxHeartbeats 8000000 in
set_option maxRecDepth 100000 in
theorem pvalid16 (i : Int) (T : Option Addr) (tn tc : Nat) (ts : List (List Int × List Int)) (w : World) (hT : Trs w T tn ts) (htc : tn ≤ tc) :
    Calls Try.prog 14 #[.agg #[.int .i64 i, .slice T tn tc]] w fun e w' => ∃ v, e = .returned (.int .i64 v) ∧ VldR i ts v ∧ Below w.heap.size w w' := by
  obtain ⟨w0, hw0⟩ : ∃ w0, w0 = w.alloc (.cells #[.int .i64 i, .slice T tn tc] 24) := ⟨_, rfl⟩
  have hb0 : Below w.heap.size w w0 := by rw [hw0]; exact alloc_below _ _
  have m0 : Bx w0 w.heap.size #[.int .i64 i, .slice T tn tc] 24 := by rw [hw0]; exact bx_new _ _ _
  have HM := Lib.hid (fun (W : World) (h : Below w0.heap.size w0 W) => m0.on h)
  have HT := Lib.hid (fun (W : World) (h : Below w0.heap.size w0 W) => (hT.below hb0).below h)
  have HB0 := Lib.hid hb0
  have HW0 := Lib.hid hw0
  have HLT := Lib.hid hT.1
  have htb := hT.2.1
  have k0 := m0.cell 0
  have k1 := m0.cell 1
  simp at k0 k1
  have K0 := Lib.hid k0
  have K1 := Lib.hid k1
  rw [hw0] at k0 k1
  clear hw0 hb0 m0 hT
  by_cases hi : 1 ≤ i ∧ i ≤ 64
  case neg =>
    have HI := Lib.hid hi
    have hd : decide (1 ≤ i ∧ i ≤ 64) = false := by simpa using hi
    clear hi
    go_enter Try.func14, Try.ntmps14
    go_wp2_with fail
    refine (ppermit16 i _).mono ?_
    rintro e w1 ⟨rfl, rfl⟩
    rw [hd]
    go_wp2_with fail
    go_ret
    exact ⟨2, rfl, .inl ⟨HI.out, rfl⟩, alloc_below _ _⟩
  have HI := Lib.hid hi
  have hd : decide (1 ≤ i ∧ i ≤ 64) = true := by simpa using hi
  clear hi
  go_enter Try.func14, Try.ntmps14
  go_wp2_with fail
  refine (ppermit16 i _).mono ?_
  rintro e w1 ⟨rfl, rfl⟩
  rw [hd]
  by_cases hbig : 10000 < tn
  · have hbI : (10000 : Int) < (tn : Int) := by omega
    go_wp2_with fail
    go_ret
    exact ⟨11, rfl, .inr (.inl ⟨HI.out, by rw [HLT.out]; exact hbig, rfl⟩), alloc_below _ _⟩
  have hbI : ¬ (10000 : Int) < (tn : Int) := by omega
  go_upto_region 6 with fail
  rw [← HW0.out]
  clear k0 k1 hd hbI
  go_loopw [17] (fun v17 wr => ∃ k : Nat, v17 = .int .i64 k ∧ k ≤ tn ∧ Hid (LstK i ts k) ∧ Hid (Below w0.heap.size w0 wr)) (fun v17 _ => tn - (intOf v17).toNat)
  case atStart => exact ⟨0, rfl, Nat.zero_le _, Lib.hid (fun j h => absurd h (by omega)), Lib.hid (Below.refl _ _)⟩
  case round =>
    obtain ⟨k, rfl, hk, HK, HBR⟩ := hrel
    by_cases hlt : k < tn
    · obtain ⟨b, off, A1, n1, c1, A2, n2, c2, eT, hgb, j1, j2, q1, q2, j3, j4⟩ := (HT.out _ HBR.out).at_ hlt
      subst eT
      have hkI : (k : Int) < (tn : Int) := by omega
      have hk0 : (0 : Int) ≤ (k : Int) := by omega
      have hl7 := alloc_below wr (.cells #[.slice A1 n1 c1, .slice A2 n2 c2] 38)
      have hm7 := bx_new wr #[.slice A1 n1 c1, .slice A2 n2 c2] 38
      have t0 := hm7.cell 0
      have t1 := hm7.cell 1
      simp at t0 t1
      have hB7 := HBR.out.trans (hl7.mono HBR.out.size)
      have k0 := (HM.out _ hB7).cell 0
      simp at k0
      have HLS := Lib.hid (plisted A1 A2 n1 c1 n2 c2 i (tIn ts k) (tOut ts k) _ (j3.below hl7) (j4.below hl7))
      have HM7 := Lib.hid hm7
      have HB7 := Lib.hid hB7
      have HJ3 := Lib.hid (j3.below hl7)
      clear hl7 hm7 hB7 j4
      go_wp2_with fail
      refine HLS.out.mono ?_
      rintro r w8 ⟨rfl, b8⟩
      have hB8 := bt HB7.out b8
      have HB8 := Lib.hid hB8
      have HM8 := Lib.hid (HM7.out.on b8)
      have HJ8 := Lib.hid (HJ3.out.below b8)
      clear j1 j2 t0 t1 k0 b8 hB8
      obtain ⟨E, hE⟩ : ∃ E, E = lstE (tIn ts k) (tOut ts k) i := ⟨_, rfl⟩
      rw [← hE]
      have HE := Lib.hid hE
      by_cases he : E = 0
      case neg =>
        have hne : (E != 0) = true := by simpa using he
        clear hE
        go_wp2_with fail
        go_ret
        exact ⟨E, rfl, .inr (.inr (.inl ⟨HI.out, by rw [HLT.out]; omega, k, by rw [HLT.out]; exact hlt, HK.out, .inl ⟨by rw [← HE.out]; exact he, HE.out⟩⟩)), bt HB0.out HB8.out⟩
      clear hE
      subst he
      by_cases h0 : k = 0
      · subst h0
        have HKn := Lib.hid (show LstK i ts 1 from fun j hj => by
          obtain rfl : j = 0 := by omega
          exact ⟨HE.out.symm, fun h => absurd h (by omega)⟩)
        go_wp2_with fail
        go_quiet (fail)
        go_wp2_with fail
        go_roundw
        case measure => simp [intOf]; omega
        case rel => exact ⟨1, rfl, by omega, HKn, Lib.hid (below_drewN HB8.out _)⟩
      · obtain ⟨k', rfl⟩ : ∃ k', k = k' + 1 := ⟨k - 1, by omega⟩
        obtain ⟨_, _, B1, m1, d1, B2, m2, d2, eT, hgb2, i1, _, _, _, i3, _⟩ := (HT.out _ HB8.out).at_ (k := k') (by omega)
        cases eT
        have t0 := HM8.out.cell 0
        have l1 := (HM.out _ HB8.out).cell 1
        simp at t0 l1
        obtain ⟨C, hC⟩ : ∃ C, C = shlex (tIn ts k') (tIn ts (k' + 1)) := ⟨_, rfl⟩
        have HCM := Lib.hid (fun q => wcompare B1 A1 m1 d1 n1 c1 (tIn ts k') (tIn ts (k' + 1)) (w8.drewN q) (i3.drewN q) (HJ8.out.drewN q))
        rw [← hC] at HCM
        have HC := Lib.hid hC
        have g0 : (0 : Int) < (k' : Int) + 1 := by omega
        have wk0 : IntKind.i64.wrap ((k' : Int) + 1 - 1) = (k' : Int) := by rw [IntKind.wrap_i64]; omega
        have wk0' : IntKind.i64.wrap (k' : Int) = (k' : Int) := by rw [IntKind.wrap_i64]; omega
        have g1 : (0 : Int) ≤ (k' : Int) := by omega
        have g2 : (k' : Int) < (tn : Int) := by omega
        have wk1 : IntKind.i64.wrap ((k' : Int) + 1 + 1) = ((k' + 1 + 1 : Nat) : Int) := by rw [IntKind.wrap_i64]; omega
        clear hC i3 hgb2
        by_cases hcm : 0 ≤ C
        · go_wp2_with fail
          go_quiet ((go_at_call 36; exact Calls.quiet_of (HCM.out _)))
          go_wp2_with fail
          go_ret
          exact ⟨10, rfl, .inr (.inr (.inl ⟨HI.out, by rw [HLT.out]; omega, k' + 1, by rw [HLT.out]; exact hlt, HK.out, .inr ⟨HE.out.symm, by omega, by rw [Nat.add_sub_cancel, ← HC.out]; exact hcm, rfl⟩⟩)), below_drewN (bt HB0.out HB8.out) _⟩
        · have HKn := Lib.hid (show LstK i ts (k' + 1 + 1) from fun j hj => by
            rcases Nat.lt_or_ge j (k' + 1) with h | h
            · exact HK.out j h
            · obtain rfl : j = k' + 1 := by omega
              exact ⟨HE.out.symm, fun _ => by rw [Nat.add_sub_cancel, ← HC.out]; omega⟩)
          go_wp2_with fail
          go_quiet ((go_at_call 36; exact Calls.quiet_of (HCM.out _)))
          go_wp2_with fail
          go_roundw
          case measure => simp [intOf]; omega
          case rel => exact ⟨k' + 1 + 1, rfl, by omega, HKn, Lib.hid (below_drewN HB8.out _)⟩
    · obtain rfl : k = tn := by omega
      have hkI : ¬ (k : Int) < (k : Int) := by omega
      have HKt := Lib.hid (show LstK i ts ts.length by rw [HLT.out]; exact HK.out)
      have hmx : ∀ j, j < ts.length → (tIn ts j).length ≤ 1024 := fun j hj => (chk_zero (prp_zero (HKt.out.props j hj)).1).2.2.1
      have HFI := Lib.hid (pfit T k tc ts wr (HT.out _ HBR.out) htc HKt.out.full (by omega) hmx (pdict T k tc ts wr (HT.out _ HBR.out) (by omega)))
      have l1 := (HM.out _ HBR.out).cell 1
      simp at l1
      clear hmx
      go_wp2_with fail
      refine HFI.out.mono ?_
      rintro r w9 ⟨R, rfl, hR, b9⟩
      have HRR := Lib.hid hR
      have HB9 := Lib.hid (bt HBR.out b9)
      clear hR b9
      go_wp2_with fail
      go_ret
      exact ⟨R, rfl, .inr (.inr (.inr ⟨HI.out, by rw [HLT.out]; omega, HKt.out, HRR.out⟩)), bt HB0.out HB9.out⟩
end Go.Proofs.Ytkkmcgapbcikiaa
end

section
/- observe.Of of the program. -/
namespace Go.Proofs.Ytkkmcgapbcikiaa
open Go.RowKit Go.Shelf

theorem trs_mem {i st : Nat} {nx ot : List (List Int)} {ws : List (List Int)} : ∀ (vs : List (List Int)) (l : List (List Int × List Int)), (∀ v, v ∈ vs → v ∈ ws) → (∀ u, u ∈ l → u.1 ∈ ws ∧ u.2 = runO nx ot st u.1 ∧ chk u.1 i = 0) → ∀ u, u ∈ (trs i st nx ot vs l).1 → u.1 ∈ ws ∧ u.2 = runO nx ot st u.1 ∧ chk u.1 i = 0
  | [], l, _, hl => hl
  | v :: vs, l, hv, hl => by
    unfold trs
    by_cases hc : chk v i = 0
    · rw [if_pos hc]
      refine trs_mem vs _ (fun x hx => hv x (List.mem_cons_of_mem _ hx)) (fun u hu => ?_)
      rcases List.mem_append.1 hu with hu | hu
      · exact hl u hu
      · rw [List.mem_singleton] at hu
        subst hu
        exact ⟨hv v List.mem_cons_self, rfl, hc⟩
    · rw [if_neg hc]
      intro u hu
      simp at hu
/-- The result of Of: the error of Traces, or what adding the traces in order gives. -/
def OfE (i : Int) (us : List (List Int × List Int)) (e0 : Int) (w : World) (r : Ending) (w' : World) : Prop :=
  Below w.heap.size w w' ∧ ∃ (e : Int) (ts' : List (List Int × List Int)), ((¬ e0 = 0 ∧ e = e0) ∨ (e0 = 0 ∧ AddsR i us [] e ts')) ∧
    ((¬ e = 0 ∧ r = .returned (.tuple #[.agg #[.int .i64 0, .slice none 0 0], .int .i64 e])) ∨
     (e = 0 ∧ ∃ (g N : Nat) (cur' : Array Value), r = .returned (.tuple #[.agg #[.int .i64 i, .slice (some ⟨g, 0, none⟩) ts'.length N], .int .i64 0]) ∧ TrO w' w.heap.size g N cur' ts'))
theorem TrO.base {w : World} {base base' g N : Nat} {cur : Array Value} {ts : List (List Int × List Int)} (h : TrO w base g N cur ts) (hb : base' ≤ base) : TrO w base' g N cur ts :=
  ⟨h.bx, Nat.le_trans hb h.ge, h.sz, h.le, h.cap, h.one, fun j hj => by
    obtain ⟨A1, c1, A2, c2, e1, e2, o1, o2⟩ := h.hd j hj
    exact ⟨A1, c1, A2, c2, e1, e2, o1.lower hb, o2.lower hb⟩, h.sm⟩
theorem Trs.none_ (w : World) : Trs w none 0 [] := ⟨rfl, by omega, fun h => absurd h (by omega)⟩

set_option linter.unusedSimpArgs false in
set_option linter.unusedVariables false in
set_option maxHeartbeats 8000000 in
set_option maxRecDepth 100000 in
theorem pof_bad (i st : Int) (A B C : Option Addr) (n c m d p e : Nat) (nx ot : List (List Int)) (E : Int) (w : World) (hx : Lists w A n nx) (ho : Lists w B m ot) (hE : vld i st nx ot = E) (hv : ¬ E = 0) :
    Calls Try.prog 31 #[.agg #[.int .i64 i, .int .i64 st, .slice A n c, .slice B m d], .slice C p e] w fun r w' => OfE i [] E w r w' := by
  obtain ⟨w1, hw1⟩ : ∃ w1, w1 = (w.alloc (.cells #[.int .i64 i, .int .i64 st, .slice A n c, .slice B m d] 56)).alloc (.cells #[.int .i64 0, .slice none 0 0] 24) := ⟨_, rfl⟩
  obtain ⟨hb0, m1, m2, hs0⟩ := bxs2 w #[.int .i64 i, .int .i64 st, .slice A n c, .slice B m d] #[.int .i64 0, .slice none 0 0] 56 24 w1 hw1
  have HCT := Lib.hid (ptraces_bad i st A B C n c m d p e nx ot E w1 (hx.below hb0) (ho.below hb0) hE hv)
  have HM2 := Lib.hid (fun (W : World) (h : Below w1.heap.size w1 W) => m2.on h)
  have HB0 := Lib.hid hb0
  have HW1 := Lib.hid hw1
  have HE := Lib.hid hv
  have hne : (E != 0) = true := by simpa using hv
  have q0 := m1.cell 0
  have q1 := m1.cell 1
  have q2 := m1.cell 2
  have q3 := m1.cell 3
  simp at q0 q1 q2 q3
  rw [hw1] at q0 q1 q2 q3
  clear hw1 hb0 m1 m2 hs0 hx ho hE hv
  go_enter Try.func31, Try.ntmps31
  go_wp2_with fail
  rw [← HW1.out]
  refine HCT.out.mono ?_
  rintro r w2 ⟨rfl, b2⟩
  clear q0 q1 q2 q3
  have m2 := HM2.out _ b2
  have f0 := m2.free 0
  have f1 := m2.free 1
  have r0 := m2.cell 0
  have r1 := m2.cell 1
  simp at r0 r1
  have HR2 := Lib.hid (m2.set2 (.int .i64 0) (.slice none 0 0))
  have HBF := Lib.hid (set2B (g := w.heap.size + 1) (HB0.out.trans (b2.mono HB0.out.size)) (by omega) (.int .i64 0) (.slice none 0 0))
  clear m2 b2
  go_wp2_with fail
  (try rw [Exit.noGoto_ret])
  refine bodyPost_ret (results_obs_tmp rfl _ _ (w.heap.size + 1) (.int .i64 0) (.slice none 0 0) rfl HR2.out) rfl ?_
  exact ⟨HBF.out, E, [], .inl ⟨HE.out, rfl⟩, .inl ⟨HE.out, rfl⟩⟩

set_option linter.unusedSimpArgs false in
set_option linter.unusedVariables false in
set_option maxHeartbeats 8000000 in
set_option maxRecDepth 100000 in
theorem pof_ok (i st n : Nat) (A B C : Option Addr) (c d p e : Nat) (nx ot ws : List (List Int)) (w : World) (hx : Lists w A n nx) (ho : Lists w B n ot) (hM : Mok i st n nx ot) (hW : Lists w C p ws) (hp : p ≤ 10000) (hwl : ∀ x, x ∈ ws → x.length ≤ 17592186044416) :
    Calls Try.prog 31 #[.agg #[.int .i64 i, .int .i64 st, .slice A n c, .slice B n d], .slice C p e] w fun r w' => OfE i (trs i st nx ot ws []).1 (trs i st nx ot ws []).2 w r w' := by
  obtain ⟨w1, hw1⟩ : ∃ w1, w1 = (w.alloc (.cells #[.int .i64 i, .int .i64 st, .slice A n c, .slice B n d] 56)).alloc (.cells #[.int .i64 0, .slice none 0 0] 24) := ⟨_, rfl⟩
  obtain ⟨hb0, m1, m2, hs0⟩ := bxs2 w #[.int .i64 i, .int .i64 st, .slice A n c, .slice B n d] #[.int .i64 0, .slice none 0 0] 56 24 w1 hw1
  have HCT := Lib.hid (ptraces_ok i st n A B C c d p e nx ot ws w1 (hx.below hb0) (ho.below hb0) hM (hW.below hb0) hp)
  obtain ⟨us, hus⟩ : ∃ us, us = (trs i st nx ot ws []).1 := ⟨_, rfl⟩
  obtain ⟨E, hE⟩ : ∃ E, E = (trs i st nx ot ws []).2 := ⟨_, rfl⟩
  have hul : us.length ≤ p := by rw [hus]; have := trs_len (i := i) (st := st) (nx := nx) (ot := ot) ws []; rw [hW.1] at this; simpa using this
  have HUM := Lib.hid (show ∀ u, u ∈ us → u.1 ∈ ws ∧ u.2 = runO nx ot st u.1 ∧ chk u.1 i = 0 by rw [hus]; exact trs_mem ws [] (fun _ h => h) (fun u hu => absurd hu (by simp)))
  rw [← hus, ← hE] at HCT ⊢
  clear hus
  have HEE := Lib.hid hE
  clear hE
  have HM1 := Lib.hid (fun (W : World) (h : Below w1.heap.size w1 W) => m1.on h)
  have HM2 := Lib.hid (fun (W : World) (h : Below w1.heap.size w1 W) => m2.on h)
  have HB0 := Lib.hid hb0
  have HW1 := Lib.hid hw1
  have HZ1 := Lib.hid hs0
  have HWL := Lib.hid hwl
  have q0 := m1.cell 0
  have q1 := m1.cell 1
  have q2 := m1.cell 2
  have q3 := m1.cell 3
  simp at q0 q1 q2 q3
  rw [hw1] at q0 q1 q2 q3
  clear hw1 hb0 m1 m2 hs0 hx ho hM hW hwl
  go_enter Try.func31, Try.ntmps31
  go_wp2_with fail
  rw [← HW1.out]
  refine HCT.out.mono ?_
  rintro r w2 ⟨A', c', rfl, o2, b2⟩
  clear q0 q1 q2 q3
  by_cases hE : E = 0
  case neg =>
    have hne : (E != 0) = true := by simpa using hE
    have HE := Lib.hid hE
    have m2 := HM2.out _ b2
    have f0 := m2.free 0
    have f1 := m2.free 1
    have r0 := m2.cell 0
    have r1 := m2.cell 1
    simp at r0 r1
    have HR2 := Lib.hid (m2.set2 (.int .i64 0) (.slice none 0 0))
    have HBF := Lib.hid (set2B (g := w.heap.size + 1) (HB0.out.trans (b2.mono HB0.out.size)) (by omega) (.int .i64 0) (.slice none 0 0))
    clear m2 b2 o2 hE
    go_wp2_with fail
    (try rw [Exit.noGoto_ret])
    refine bodyPost_ret (results_obs_tmp rfl _ _ (w.heap.size + 1) (.int .i64 0) (.slice none 0 0) rfl HR2.out) rfl ?_
    exact ⟨HBF.out, E, [], .inl ⟨HE.out, rfl⟩, .inl ⟨HE.out, rfl⟩⟩
  subst hE
  have hU : Trs w2 A' us.length us := o2.trs (by omega) (fun j hj => by
    obtain ⟨h1, h2, _⟩ := HUM.out _ (List.getElem_mem hj)
    have e1 : tIn us j = us[j].1 := by unfold tIn; rw [List.getD_eq_getElem?_getD, List.getElem?_eq_getElem hj]; rfl
    have e2 : tOut us j = us[j].2 := by unfold tOut; rw [List.getD_eq_getElem?_getD, List.getElem?_eq_getElem hj]; rfl
    rw [e1, e2, h2, runO_len]
    exact ⟨HWL.out _ h1, HWL.out _ h1⟩)
  have HWI := Lib.hid (pwith (i : Int) none A' 0 0 us.length c' [] us w2 (Trs.none_ w2) hU srt_none full_none (by omega) (by omega))
  have k0 := (HM1.out _ b2).cell 0
  simp at k0
  have HB2 := Lib.hid b2
  clear o2 hU b2
  go_wp2_with fail
  refine HWI.out.mono ?_
  rintro r w3 ⟨b3, e, ts', hA, hr⟩
  clear k0
  have HAA := Lib.hid hA
  have HB3 := Lib.hid (bt HB2.out b3)
  have hz2 : w.heap.size ≤ w2.heap.size := Nat.le_trans HB0.out.size HB2.out.size
  clear hA
  rcases hr with ⟨he, rfl⟩ | ⟨rfl, g, N, cur', rfl, hT⟩
  · have hne : (e != 0) = true := by simpa using he
    have HE := Lib.hid he
    have hal := alloc_below w3 (.cells #[.int .i64 (i : Int), .slice none 0 0] 24)
    have m2 := HM2.out _ (HB3.out.trans (hal.mono HB3.out.size))
    have f0 := m2.free 0
    have f1 := m2.free 1
    have r0 := m2.cell 0
    have r1 := m2.cell 1
    simp at r0 r1
    have HR2 := Lib.hid (m2.set2 (.int .i64 0) (.slice none 0 0))
    have HBF := Lib.hid (set2B (g := w.heap.size + 1) (HB0.out.trans ((HB3.out.trans (hal.mono HB3.out.size)).mono HB0.out.size)) (by omega) (.int .i64 0) (.slice none 0 0))
    clear m2 b3 he hal
    go_wp2_with fail
    (try rw [Exit.noGoto_ret])
    refine bodyPost_ret (results_obs_tmp rfl _ _ (w.heap.size + 1) (.int .i64 0) (.slice none 0 0) rfl HR2.out) rfl ?_
    exact ⟨HBF.out, e, ts', .inr ⟨rfl, HAA.out⟩, .inl ⟨HE.out, rfl⟩⟩
  · obtain ⟨q, hq⟩ : ∃ q, q = ts'.length := ⟨_, rfl⟩
    rw [← hq]
    have HQ := Lib.hid hq
    clear hq
    have hal := alloc_below w3 (.cells #[.int .i64 (i : Int), .slice (some ⟨g, 0, none⟩) q N] 24)
    have m9 := bx_new w3 #[.int .i64 (i : Int), .slice (some ⟨g, 0, none⟩) q N] 24
    have hT := hT.below hal
    have m2 := HM2.out _ (HB3.out.trans (hal.mono HB3.out.size))
    have p0 := m9.cell 0
    have p1 := m9.cell 1
    have f0 := m2.free 0
    have f1 := m2.free 1
    have r0 := m2.cell 0
    have r1 := m2.cell 1
    simp at p0 p1 r0 r1
    have HR2 := Lib.hid (m2.set2 (.int .i64 (i : Int)) (.slice (some ⟨g, 0, none⟩) q N))
    have HTF := Lib.hid (hT.set2 m2 (.int .i64 (i : Int)) (.slice (some ⟨g, 0, none⟩) q N))
    have HBF := Lib.hid (set2B (g := w.heap.size + 1) (HB0.out.trans ((HB3.out.trans (hal.mono HB3.out.size)).mono HB0.out.size)) (by omega) (.int .i64 (i : Int)) (.slice (some ⟨g, 0, none⟩) q N))
    clear m2 b3 hal hT m9
    go_wp2_with fail
    (try rw [Exit.noGoto_ret])
    refine bodyPost_ret (results_obs_tmp rfl _ _ (w.heap.size + 1) (.int .i64 (i : Int)) (.slice (some ⟨g, 0, none⟩) q N) rfl HR2.out) rfl ?_
    exact ⟨HBF.out, 0, ts', .inr ⟨rfl, HAA.out⟩, .inr ⟨rfl, g, N, cur', by rw [← HQ.out]; rfl, HTF.out.base hz2⟩⟩
end Go.Proofs.Ytkkmcgapbcikiaa
end

section
/- New, Add and Known of the program. -/
namespace Go.Proofs.Ytkkmcgapbcikiaa
open Go.RowKit

theorem pnew16 (i : Int) (w : World) : Calls Try.prog 12 #[.int .i64 i] w fun r w' => Below w.heap.size w w' ∧
    ((1 ≤ i ∧ i ≤ 64 ∧ r = .returned (.tuple #[.agg #[.int .i64 i, .slice none 0 0], .int .i64 0])) ∨ (¬ (1 ≤ i ∧ i ≤ 64) ∧ r = .returned (.tuple #[.agg #[.int .i64 0, .slice none 0 0], .int .i64 2]))) := by
  obtain ⟨w1, hw1⟩ : ∃ w1, w1 = w.alloc (.cells #[.int .i64 0, .slice none 0 0] 24) := ⟨_, rfl⟩
  have hal : Below w.heap.size w w1 := by rw [hw1]; exact alloc_below _ _
  have m2 : Bx w1 w.heap.size #[.int .i64 0, .slice none 0 0] 24 := by rw [hw1]; exact bx_new _ _ _
  have HW1 := Lib.hid hw1
  have f0 := m2.free 0
  have f1 := m2.free 1
  have r0 := m2.cell 0
  have r1 := m2.cell 1
  simp at r0 r1
  clear hw1
  by_cases hi : 1 ≤ i ∧ i ≤ 64
  · have HR2 := Lib.hid (m2.set2 (.int .i64 i) (.slice none 0 0))
    have HBF := Lib.hid (set2B (g := w.heap.size) hal (Nat.le_refl _) (.int .i64 i) (.slice none 0 0))
    have hd : decide (1 ≤ i ∧ i ≤ 64) = true := by simpa using hi
    have HI := Lib.hid hi
    clear m2 hal hi
    go_enter Try.func12, Try.ntmps12
    go_wp2_with fail
    rw [← HW1.out]
    refine (ppermit16 i _).mono ?_
    rintro r w2 ⟨rfl, rfl⟩
    rw [hd]
    go_wp2_with fail
    (try rw [Exit.noGoto_ret])
    refine bodyPost_ret (results_obs_tmp rfl _ _ w.heap.size (.int .i64 i) (.slice none 0 0) rfl HR2.out) rfl ?_
    exact ⟨HBF.out, .inl ⟨HI.out.1, HI.out.2, rfl⟩⟩
  · have HR2 := Lib.hid (m2.set2 (.int .i64 0) (.slice none 0 0))
    have HBF := Lib.hid (set2B (g := w.heap.size) hal (Nat.le_refl _) (.int .i64 0) (.slice none 0 0))
    have hd : decide (1 ≤ i ∧ i ≤ 64) = false := by simpa using hi
    have HI := Lib.hid hi
    clear m2 hal hi
    go_enter Try.func12, Try.ntmps12
    go_wp2_with fail
    rw [← HW1.out]
    refine (ppermit16 i _).mono ?_
    rintro r w2 ⟨rfl, rfl⟩
    rw [hd]
    go_wp2_with fail
    (try rw [Exit.noGoto_ret])
    refine bodyPost_ret (results_obs_tmp rfl _ _ w.heap.size (.int .i64 0) (.slice none 0 0) rfl HR2.out) rfl ?_
    exact ⟨HBF.out, .inr ⟨HI.out, rfl⟩⟩

/-- The result of Add. -/
def AddE (i : Int) (T : Option Addr) (tn tc : Nat) (ts : List (List Int × List Int)) (xs ys : List Int) (w : World) (r : Ending) (w' : World) : Prop :=
  Below w.heap.size w w' ∧ ∃ (e : Int) (ts' : List (List Int × List Int)), InsR ts xs ys i e ts' ∧
    ((¬ e = 0 ∧ r = .returned (.tuple #[.agg #[.int .i64 i, .slice T tn tc], .int .i64 e])) ∨
     (e = 0 ∧ ∃ (g N : Nat) (cur' : Array Value), r = .returned (.tuple #[.agg #[.int .i64 i, .slice (some ⟨g, 0, none⟩) ts'.length N], .int .i64 0]) ∧ TrO w' w.heap.size g N cur' ts'))
theorem trs_one {w : World} {A B : Option Addr} {n c m d : Nat} {xs ys : List Int} (hx : Ints w A n xs) (hnc : n ≤ c) (hy : Ints w B m ys) (hmd : m ≤ d) : Trs (w.alloc (.cells #[.slice A n c, .slice B m d] 38)) (some ⟨w.heap.size, 0, none⟩) 1 [(xs, ys)] := by
  have hal := alloc_below w (.cells #[.slice A n c, .slice B m d] 38)
  have hb := bx_new w #[.slice A n c, .slice B m d] 38
  refine ⟨rfl, by omega, fun _ => ⟨w.heap.size, 0, rfl, hb.lt, fun j hj => ?_⟩⟩
  obtain rfl : j = 0 := by omega
  exact ⟨A, n, c, B, m, d, by simp, by simp, hnc, hmd, hx.below hal, hy.below hal⟩
theorem adds_one {i e : Int} {ts ts' : List (List Int × List Int)} {xs ys : List Int} (h : AddsR i [(xs, ys)] ts e ts') : ∃ ts2, InsR ts xs ys i e ts2 ∧ (e = 0 → ts' = ts2) := by
  obtain ⟨e1, ts1, hr, h⟩ := h
  rcases h with ⟨hne, rfl⟩ | ⟨rfl, h1, h2⟩
  · exact ⟨ts1, hr, fun he => absurd he hne⟩
  · exact ⟨ts1, by rw [h1]; exact hr, fun _ => h2⟩

set_option linter.unusedSimpArgs false in
set_option linter.unusedVariables false in
set_option maxHeartbeats 8000000 in
set_option maxRecDepth 100000 in
theorem padd16 (i : Int) (T A B : Option Addr) (tn tc n c m d : Nat) (ts : List (List Int × List Int)) (xs ys : List Int) (w : World) (hT : Trs w T tn ts) (hx : Ints w A n xs) (hnc : n ≤ c) (hy : Ints w B m ys) (hmd : m ≤ d) (hS : Srt ts) (hF : Full ts) (htn : tn ≤ 500000) :
    Calls Try.prog 26 #[.agg #[.int .i64 i, .slice T tn tc], .agg #[.slice A n c, .slice B m d]] w fun r w' => AddE i T tn tc ts xs ys w r w' := by
  obtain ⟨w0, hw0⟩ : ∃ w0, w0 = ((w.alloc (.cells #[.int .i64 i, .slice T tn tc] 24)).alloc (.cells #[.slice A n c, .slice B m d] 38)).alloc (.cells #[.int .i64 0, .slice none 0 0] 24) := ⟨_, rfl⟩
  obtain ⟨hb0, m1, m2, m3, hs0⟩ := bxs3 w #[.int .i64 i, .slice T tn tc] #[.slice A n c, .slice B m d] #[.int .i64 0, .slice none 0 0] 24 38 24 w0 hw0
  obtain ⟨w1, hw1⟩ : ∃ w1, w1 = w0.alloc (.cells #[.slice A n c, .slice B m d] 38) := ⟨_, rfl⟩
  have hal : Below w0.heap.size w0 w1 := by rw [hw1]; exact alloc_below _ _
  have hU : Trs w1 (some ⟨w0.heap.size, 0, none⟩) 1 [(xs, ys)] := by rw [hw1]; exact trs_one (hx.below hb0) hnc (hy.below hb0) hmd
  have hWI0 := pwith i T (some ⟨w0.heap.size, 0, none⟩) tn tc 1 1 ts [(xs, ys)] w1 ((hT.below hb0).below hal) hU hS hF htn (by omega)
  rw [hs0] at hWI0
  have HWI := Lib.hid hWI0
  have HB1 := Lib.hid (bt hb0 hal)
  have HM3 := Lib.hid (fun (W : World) (h : Below w1.heap.size w1 W) => (m3.on hal).on h)
  have HW0 := Lib.hid hw0
  have HW1 := Lib.hid hw1
  have q0 := m1.cell 0
  have q1 := m1.cell 1
  have p0 := m2.cell 0
  have p1 := m2.cell 1
  simp at q0 q1 p0 p1
  rw [hw0] at q0 q1 p0 p1
  have HZ := Lib.hid hs0
  clear hw0 hw1 hb0 m1 m2 m3 hal hU hT hx hy hS hF hs0 hWI0
  go_enter Try.func26, Try.ntmps26
  go_wp2_with fail
  rw [← HW0.out, ← HW1.out]
  refine HWI.out.mono ?_
  rintro r w2 ⟨b2, e, ts', hA, hr⟩
  clear q0 q1 p0 p1
  obtain ⟨ts2, hI, he2⟩ := adds_one hA
  have HII := Lib.hid hI
  have m3 := HM3.out _ b2
  have f0 := m3.free 0
  have f1 := m3.free 1
  have r0 := m3.cell 0
  have r1 := m3.cell 1
  simp at r0 r1
  rcases hr with ⟨he, rfl⟩ | ⟨rfl, g, N, cur', rfl, hT2⟩
  · have HE := Lib.hid he
    have HR2 := Lib.hid (m3.set2 (.int .i64 i) (.slice T tn tc))
    have HBF := Lib.hid (set2B (g := w.heap.size + 1 + 1) (bt HB1.out b2) (by omega) (.int .i64 i) (.slice T tn tc))
    clear m3 b2 hA hI he2 he
    go_wp2_with fail
    (try rw [Exit.noGoto_ret])
    refine bodyPost_ret (results_obs_tmp rfl _ _ (w.heap.size + 1 + 1) (.int .i64 i) (.slice T tn tc) rfl HR2.out) rfl ?_
    exact ⟨HBF.out, e, ts2, HII.out, .inl ⟨HE.out, rfl⟩⟩
  · have hts := he2 rfl
    rw [hts] at hT2 ⊢
    obtain ⟨q, hq⟩ : ∃ q, q = ts2.length := ⟨_, rfl⟩
    rw [← hq]
    have HQ := Lib.hid hq
    clear hq
    have HR2 := Lib.hid (m3.set2 (.int .i64 i) (.slice (some ⟨g, 0, none⟩) q N))
    have HBF := Lib.hid (set2B (g := w.heap.size + 1 + 1) (bt HB1.out b2) (by omega) (.int .i64 i) (.slice (some ⟨g, 0, none⟩) q N))
    have HTF := Lib.hid ((hT2.set2 m3 (.int .i64 i) (.slice (some ⟨g, 0, none⟩) q N)).base (base' := w.heap.size) HB1.out.size)
    clear m3 b2 hA hI he2 hts hT2
    go_wp2_with fail
    (try rw [Exit.noGoto_ret])
    refine bodyPost_ret (results_obs_tmp rfl _ _ (w.heap.size + 1 + 1) (.int .i64 i) (.slice (some ⟨g, 0, none⟩) q N) rfl HR2.out) rfl ?_
    exact ⟨HBF.out, 0, ts2, HII.out, .inr ⟨rfl, g, N, cur', by rw [← HQ.out]; rfl, HTF.out⟩⟩
theorem pknown16 (i : Int) (T A : Option Addr) (tn tc n c : Nat) (ts : List (List Int × List Int)) (ws : List Int) (w : World) (hT : Trs w T tn ts) (htc : tn ≤ tc) (hA : Ints w A n ws) (hS : Srt ts) (hF : Full ts) :
    Calls Try.prog 24 #[.agg #[.int .i64 i, .slice T tn tc], .slice A n c] w fun r w' => r = .returned (.int .i64 (knw ts ws ts.length)) ∧ Below w.heap.size w w' := by
  obtain ⟨w0, hw0⟩ : ∃ w0, w0 = w.alloc (.cells #[.int .i64 i, .slice T tn tc] 24) := ⟨_, rfl⟩
  have hb0 : Below w.heap.size w w0 := by rw [hw0]; exact alloc_below _ _
  have m0 : Bx w0 w.heap.size #[.int .i64 i, .slice T tn tc] 24 := by rw [hw0]; exact bx_new _ _ _
  have HN := Lib.hid (pnear T A tn tc n c ts ws w0 (hT.below hb0) (hA.below hb0) hS hF htc)
  have HLT := Lib.hid hT.1
  have HB0 := Lib.hid hb0
  have HW0 := Lib.hid hw0
  have k1 := m0.cell 1
  simp at k1
  rw [hw0] at k1
  clear hw0 hb0 m0 hT hA hS hF
  go_enter Try.func24, Try.ntmps24
  go_wp2_with fail
  rw [← HW0.out]
  refine HN.out.mono ?_
  rintro r w2 ⟨best, kn, rfl, hkn, _, a2⟩
  have HK := Lib.hid hkn
  have HB2 := Lib.hid (bt HB0.out a2)
  clear hkn a2 k1
  go_wp2_with fail
  go_ret
  exact ⟨by rw [HK.out, HLT.out]; rfl, HB2.out⟩
end Go.Proofs.Ytkkmcgapbcikiaa
end

section
/- Answers, and runs of a machine; what is added is known. -/
namespace Go.Proofs.Ytkkmcgapbcikiaa
open Go.RowKit

theorem ans_pre16 {n : Nat} {ts : List (List Int × List Int)} {ws : List Int} {w w' : World} {r : Ending} (h : AnsP ts ws n w r w') (hF : Full ts) (hC : Cons ts) {j : Nat} (hj : j < ts.length) (hp : cmn (tIn ts j) ws = n) (h0 : 0 < n) :
    ∃ A' c', r = .returned (.tuple #[.slice A' n c', .bool true]) ∧ Owned w' w.heap.size (.slice A' n c') ((tOut ts j).take n) ∧ Below w.heap.size w w' := by
  obtain ⟨hb, h⟩ := h
  have hkn := knw_ge (ts := ts) (w := ws) hj
  rcases h with ⟨_, h⟩ | ⟨_, h⟩ | ⟨a, A', c', _, ha, hc, rfl, hl, ho⟩
  · omega
  · omega
  · have e : (tOut ts a).take n = (tOut ts j).take n := by
      have l1 := cmn_le_left (tIn ts a) ws
      have l2 := cmn_le_left (tIn ts j) ws
      have f1 := hF a ha
      have f2 := hF j hj
      apply List.ext_getElem
      · rw [List.length_take, List.length_take]; omega
      · intro q h1 h2
        rw [List.length_take] at h1
        have hq : q < cmn (tIn ts a) (tIn ts j) := by
          have g1 := cmn_agree (tIn ts a) ws
          have g2 := cmn_agree (tIn ts j) ws
          have hag : ∀ p, p < n → (tIn ts a).getD p 0 = (tIn ts j).getD p 0 := fun p hp' => (g1 p (by omega)).trans (g2 p (by omega)).symm
          rcases Nat.lt_or_ge q (cmn (tIn ts a) (tIn ts j)) with hlt | hge
          · exact hlt
          · have := cmn_part (tIn ts a) (tIn ts j) (by omega) (by omega)
            exact absurd (hag _ (by omega)) this
        have e2 := hC a j ha hj q hq
        rw [List.getD_eq_getElem?_getD, List.getD_eq_getElem?_getD, List.getElem?_eq_getElem (by omega), List.getElem?_eq_getElem (by omega)] at e2
        rw [List.getElem_take, List.getElem_take]
        exact e2
    rw [e] at ho
    exact ⟨A', c', rfl, ho, hb⟩

theorem prun_ok16 {i st n : Nat} {A B D : Option Addr} {c d k e : Nat} {nx ot : List (List Int)} {xs : List Int} {w : World} (hx : Lists w A n nx) (ho : Lists w B n ot) (hM : Mok i st n nx ot) (hD : Ints w D k xs) (hc : chk xs i = 0) :
    Calls Try.prog 33 #[.agg #[.int .i64 i, .int .i64 st, .slice A n c, .slice B n d], .slice D k e] w fun r w' => ∃ A' c', r = .returned (.tuple #[.slice A' k c', .int .i64 0]) ∧ Owned w' w.heap.size (.slice A' k c') (runO nx ot st xs) ∧ Below w.heap.size w w' := by
  have := prunw (i : Int) (st : Int) A B D n c n d k e nx ot xs w hx ho hD
  rw [hM.frm hM.st hc] at this
  refine this.mono ?_
  rintro r w' ⟨A', c', rfl, o', b'⟩
  have hl : (runO nx ot st xs).length = k := by rw [runO_len]; exact hD.1
  rw [show ((runO nx ot st xs, (runS nx st xs : Int), (0 : Int)).1).length = k from hl] at o' ⊢
  exact ⟨A', c', rfl, o', b'⟩
theorem adds_of16 {i st : Nat} {nx ot : List (List Int)} {us ts ts' : List (List Int × List Int)} (h : AddsR i us ts 0 ts') (h0 : OfM i st nx ot ts) (hu : ∀ u, u ∈ us → u.2 = runO nx ot st u.1 ∧ chk u.1 i = 0) : OfM i st nx ot ts' :=
  h.all (q := fun a b => b = runO nx ot st a ∧ ∀ x, x ∈ a → 0 ≤ x ∧ x < (i : Int)) h0 fun u hm _ => ⟨(hu u hm).1, fun x hx => by
    obtain ⟨j, hj, e⟩ := List.getElem_of_mem hx
    have := (chk_zero (hu u hm).2).2.2.2 j hj
    rw [List.getD_eq_getElem?_getD, List.getElem?_eq_getElem hj, e] at this
    exact this⟩

theorem cmn_pre_mono {x y ws : List Int} (h : x <+: y) : cmn x ws ≤ cmn y ws := by
  rcases Nat.lt_or_ge (cmn y ws) (cmn x ws) with hlt | hge
  · exfalso
    have l1 := cmn_le_left x ws
    have l2 := cmn_le_right x ws
    have l3 := h.length_le
    have h1 := cmn_part y ws (by omega) (by omega)
    have h2 := cmn_agree x ws _ hlt
    apply h1
    rw [← h2]
    obtain ⟨t, rfl⟩ := h
    rw [List.getD_eq_getElem?_getD, List.getD_eq_getElem?_getD, List.getElem?_append_left (by omega)]
  · exact hge
theorem knw_mem {ts : List (List Int × List Int)} {t : List Int × List Int} (h : t ∈ ts) (ws : List Int) : cmn t.1 ws ≤ knw ts ws ts.length := by
  obtain ⟨j, hj, e⟩ := List.mem_iff_getElem.1 h
  have := knw_ge (ts := ts) (w := ws) hj
  unfold tIn at this
  rw [List.getD_eq_getElem?_getD, List.getElem?_eq_getElem hj] at this
  rw [← e]
  exact this
theorem ins_mem {ts : List (List Int × List Int)} {t : List Int × List Int} (p : Nat) : ∀ u, u ∈ ts → u ∈ ts.take p ++ t :: ts.drop p := fun u hu => by
  rw [← List.take_append_drop p ts] at hu
  rcases List.mem_append.1 hu with h | h
  · exact List.mem_append_left _ h
  · exact List.mem_append_right _ (List.mem_cons_of_mem _ h)
/-- What is known stays known. -/
theorem InsR.mono {ts ts' : List (List Int × List Int)} {xs ys : List Int} {i : Int} (h : InsR ts xs ys i 0 ts') (ws : List Int) : knw ts ws ts.length ≤ knw ts' ws ts'.length := by
  obtain ⟨best, hg, h⟩ := h
  rcases h with ⟨h1, h2⟩ | ⟨_, _, h2⟩ | ⟨_, _, _, _, rfl⟩ | ⟨_, _, _, _, h2⟩ | ⟨_, _, _, _, _, p, hp, _, _, rfl⟩
  · exact absurd h2.symm h1
  · omega
  · exact Nat.le_refl _
  · omega
  · by_cases h0 : 0 < knw ts ws ts.length
    · obtain ⟨j, hj, e⟩ := knw_at h0
      rw [← e]
      by_cases hm : ts[j] ∈ InsD ts best (knw ts xs ts.length)
      · have := knw_mem (ins_mem (t := (xs, ys)) p _ hm) ws
        unfold tIn
        rw [List.getD_eq_getElem?_getD, List.getElem?_eq_getElem hj]
        exact this
      · have hpre : tIn ts j <+: xs := by
          unfold InsD at hm
          split at hm
          · next hc =>
            have hjb : j = best := Classical.byContradiction fun hne => hm (by
              rw [List.mem_eraseIdx_iff_getElem]
              exact ⟨j, hj, hne, rfl⟩)
            obtain ⟨_, g2⟩ := hg hc.1
            rw [hjb]
            exact pre_cmn.2 (by rw [g2]; exact hc.2)
          · exact absurd (List.getElem_mem hj) hm
        refine Nat.le_trans (cmn_pre_mono hpre) ?_
        exact knw_mem (t := (xs, ys)) (List.mem_append_right _ List.mem_cons_self) ws
    · omega
theorem InsR.has {ts ts' : List (List Int × List Int)} {xs ys : List Int} {i : Int} (h : InsR ts xs ys i 0 ts') : knw ts' xs ts'.length = xs.length := by
  obtain ⟨best, hg, h⟩ := h
  rcases h with ⟨h1, h2⟩ | ⟨_, _, h2⟩ | ⟨_, _, h1, _, rfl⟩ | ⟨_, _, _, _, h2⟩ | ⟨_, _, _, _, _, p, hp, _, _, rfl⟩
  · exact absurd h2.symm h1
  · omega
  · exact h1
  · omega
  · have := knw_mem (ts := (InsD ts best (knw ts xs ts.length)).take p ++ (xs, ys) :: (InsD ts best (knw ts xs ts.length)).drop p) (t := (xs, ys)) (List.mem_append_right _ List.mem_cons_self) xs
    have h2 : cmn xs xs = xs.length := (cmn_full (xs := xs) (ys := xs) rfl).2 rfl
    exact Nat.le_antisymm knw_le (by simpa [h2] using this)
theorem AddsR.mono {i : Int} (ws : List Int) : ∀ {us ts ts' : List (List Int × List Int)}, AddsR i us ts 0 ts' → knw ts ws ts.length ≤ knw ts' ws ts'.length
  | [], ts, ts', h => by rw [h.2]; exact Nat.le_refl _
  | u :: us, ts, ts', ⟨e1, ts1, hr, h⟩ => by
    rcases h with ⟨h3, h4⟩ | ⟨rfl, h⟩
    · exact absurd h4.symm h3
    · exact Nat.le_trans (hr.mono ws) (h.mono ws)
theorem AddsR.has {i : Int} : ∀ {us ts ts' : List (List Int × List Int)}, AddsR i us ts 0 ts' → ∀ u, u ∈ us → knw ts' u.1 ts'.length = u.1.length
  | [], _, _, _, u, hu => absurd hu (by simp)
  | v :: us, ts, ts', ⟨e1, ts1, hr, h⟩, u, hu => by
    rcases h with ⟨h3, h4⟩ | ⟨rfl, h⟩
    · exact absurd h4.symm h3
    · rcases List.mem_cons.1 hu with rfl | hu
      · exact Nat.le_antisymm knw_le (by rw [← hr.has]; exact h.mono _)
      · exact h.has u hu
/-- An answer of observations of a machine is its output word. -/
theorem ans_exact {i st n : Nat} {nx ot : List (List Int)} {ts : List (List Int × List Int)} {ws : List Int} {w w' : World} {r : Ending} (h : AnsP ts ws n w r w') (hO : OfM i st nx ot ts) (hP : Props i ts) (hi : 1 ≤ i ∧ i ≤ 64) (hl : ws.length = n) :
    Below w.heap.size w w' ∧ ((r = .returned (.tuple #[.slice none 0 0, .bool false]) ∧ knw ts ws ts.length < n) ∨ ∃ A' c', r = .returned (.tuple #[.slice A' n c', .bool true]) ∧ Ints w' A' n (runO nx ot st ws) ∧ chk ws i = 0) := by
  obtain ⟨hb, h⟩ := h
  refine ⟨hb, ?_⟩
  rcases h with h | ⟨rfl, h⟩ | ⟨a, A', c', h0, ha, hc, rfl, _, ho⟩
  · exact .inl h
  · subst h
    obtain rfl := List.eq_nil_of_length_eq_zero hl
    exact .inr ⟨none, 0, rfl, Ints.none_ _, chk_ok (by omega) (by simp) (fun j hj => absurd hj (by simp))⟩
  · subst hl
    rw [of_take hO ha hc] at ho
    have hck := (prp_zero (hP a ha)).1
    obtain ⟨z1, z2, z3, z4⟩ := chk_zero hck
    have hpre := pre_cmn'.2 hc
    have hle := hpre.length_le
    refine .inr ⟨A', c', rfl, ho.ints (by rw [runO_len]; omega), chk_ok ⟨z1, z2⟩ (by omega) (fun p hp => ?_)⟩
    have := z4 p (by omega)
    obtain ⟨t, ht⟩ := hpre
    rw [← ht, List.getD_eq_getElem?_getD, List.getElem?_append_left hp, ← List.getD_eq_getElem?_getD] at this
    exact this
end Go.Proofs.Ytkkmcgapbcikiaa
end

section
/- Lists and machines that are equal: Equal, EqualFunc, equal, Same; the reference's Ints, Lists, Same. -/
namespace Go.Proofs.Ytkkmcgapbcikiaa
open Go.RowKit

set_option maxHeartbeats 1000000 in
theorem rints (A B : Option Addr) (n c m d : Nat) (xs ys : List Int) (b : Bool) (w : World) (hx : Ints w A n xs) (hy : Ints w B m ys) (hb : b = decide (xs = ys)) :
    Calls Try.prog 23 #[.slice A n c, .slice B m d] w fun e w' => e = .returned (.bool b) ∧ ∃ q, w' = w.drewN q := by
  have L1 := Lib.hid hx.1
  have L2 := Lib.hid hy.1
  have hn := hx.2.1
  have hm := hy.2.1
  by_cases hnm : n = m
  · subst hnm
    have HB := Lib.hid hb
    clear hb
    go_enter Try.func23, Try.ntmps23
    go_wp2
    go_loopw [5] (fun i wr => ∃ j q : Nat, j ≤ n ∧ i = .int .i64 j ∧ AgreeL 0 xs ys j ∧ wr = w.drewN q) (fun i _ => n - (intOf i).toNat)
    case atStart => exact ⟨0, 0, Nat.zero_le _, rfl, AgreeL.zero _ _ _, rfl⟩
    case round =>
      obtain ⟨j, q, hj, rfl, heq, rfl⟩ := hrel
      have HE := Lib.hid heq
      clear heq
      by_cases hlt : j < n
      · obtain ⟨g1, o1, rfl, _, hc1⟩ := hx.at_ hlt
        obtain ⟨g2, o2, rfl, _, hc2⟩ := hy.at_ hlt
        by_cases he : xs.getD j 0 = ys.getD j 0
        · have hnx := Lib.hid (HE.out.succ he)
          rw [← he] at hc2
          generalize xs.getD j 0 = y at hc1 hc2
          clear he
          go_wp2
          go_quiet (fail)
          go_wp2
          go_roundw
          case rel => exact ⟨j + 1, _, by omega, by go_num, hnx.out, rfl⟩
          case measure => simp [intOf]; omega
        · have hfin : Hid (b = false) := Lib.hid (HB.out.trans (decide_eq_false fun e => he (by rw [e])))
          have hne : (xs.getD j 0 != ys.getD j 0) = true := by simpa using he
          generalize xs.getD j 0 = y at hc1 hne
          generalize ys.getD j 0 = z at hc2 hne
          clear he
          go_wp2
          go_quiet (fail)
          go_wp2
          go_ret
          exact ⟨ret_bool hfin.out.symm, by first | exact ⟨_, rfl⟩ | exact ⟨_, World.drewN_drewN _ _ _⟩⟩
      · obtain rfl : j = n := by omega
        have hfin : Hid (b = true) := Lib.hid (HB.out.trans (decide_eq_true (HE.out.all L1.out L2.out)))
        go_wp2
        go_ret
        exact ⟨ret_bool hfin.out.symm, by first | exact ⟨_, rfl⟩ | exact ⟨_, World.drewN_drewN _ _ _⟩⟩
  · have hfin : Hid (b = false) := Lib.hid (hb.trans (decide_eq_false fun e => hnm (by rw [← L1.out, ← L2.out, e])))
    have hd : ((n : Int) != (m : Int)) = true := by simp; omega
    clear hnm hb
    go_enter Try.func23, Try.ntmps23
    go_wp2
    go_ret
    exact ⟨ret_bool hfin.out.symm, 0, rfl⟩

set_option maxHeartbeats 1000000 in
theorem sequal (A B : Option Addr) (n c m d : Nat) (xs ys : List Int) (b : Bool) (w : World) (hx : Ints w A n xs) (hy : Ints w B m ys) (hb : b = decide (xs = ys)) :
    Calls Try.prog 43 #[.slice A n c, .slice B m d] w fun e w' => e = .returned (.bool b) ∧ ∃ q, w' = w.drewN q := by
  have L1 := Lib.hid hx.1
  have L2 := Lib.hid hy.1
  have hn := hx.2.1
  have hm := hy.2.1
  by_cases hnm : n = m
  · subst hnm
    have HB := Lib.hid hb
    clear hb
    go_enter Try.func43, Try.ntmps43
    go_wp2
    go_loopw [13] (fun i wr => ∃ j q : Nat, j ≤ n ∧ i = .int .i64 j ∧ AgreeL 0 xs ys j ∧ wr = w.drewN q) (fun i _ => n - (intOf i).toNat)
    case atStart => exact ⟨0, 0, Nat.zero_le _, rfl, AgreeL.zero _ _ _, rfl⟩
    case round =>
      obtain ⟨j, q, hj, rfl, heq, rfl⟩ := hrel
      have HE := Lib.hid heq
      clear heq
      by_cases hlt : j < n
      · obtain ⟨g1, o1, rfl, _, hc1⟩ := hx.at_ hlt
        obtain ⟨g2, o2, rfl, _, hc2⟩ := hy.at_ hlt
        by_cases he : xs.getD j 0 = ys.getD j 0
        · have hnx := Lib.hid (HE.out.succ he)
          rw [← he] at hc2
          generalize xs.getD j 0 = y at hc1 hc2
          clear he
          go_wp2
          go_quiet (fail)
          go_wp2
          go_roundw
          case rel => exact ⟨j + 1, _, by omega, by go_num, hnx.out, rfl⟩
          case measure => simp [intOf]; omega
        · have hfin : Hid (b = false) := Lib.hid (HB.out.trans (decide_eq_false fun e => he (by rw [e])))
          have hne : (xs.getD j 0 != ys.getD j 0) = true := by simpa using he
          generalize xs.getD j 0 = y at hc1 hne
          generalize ys.getD j 0 = z at hc2 hne
          clear he
          go_wp2
          go_quiet (fail)
          go_wp2
          go_ret
          exact ⟨ret_bool hfin.out.symm, by first | exact ⟨_, rfl⟩ | exact ⟨_, World.drewN_drewN _ _ _⟩⟩
      · obtain rfl : j = n := by omega
        have hfin : Hid (b = true) := Lib.hid (HB.out.trans (decide_eq_true (HE.out.all L1.out L2.out)))
        go_wp2
        go_ret
        exact ⟨ret_bool hfin.out.symm, by first | exact ⟨_, rfl⟩ | exact ⟨_, World.drewN_drewN _ _ _⟩⟩
  · have hfin : Hid (b = false) := Lib.hid (hb.trans (decide_eq_false fun e => hnm (by rw [← L1.out, ← L2.out, e])))
    have hd : ((n : Int) != (m : Int)) = true := by simp; omega
    clear hnm hb
    go_enter Try.func43, Try.ntmps43
    go_wp2
    go_ret
    exact ⟨ret_bool hfin.out.symm, 0, rfl⟩

theorem drew_trans {w wr w2 : World} (h : ∃ q, wr = w.drewN q) (h2 : ∃ q, w2 = wr.drewN q) : ∃ q, w2 = w.drewN q := by
  obtain ⟨q, rfl⟩ := h2
  exact drew_more h q

end Go.Proofs.Ytkkmcgapbcikiaa
end

section
/- Refuted, the program. -/
namespace Go.Proofs.Ytkkmcgapbcikiaa
open Go.RowKit

end Go.Proofs.Ytkkmcgapbcikiaa
end

section
/- The examples of the chapter: awake of hypothesis. -/
namespace Go.Proofs.Ytkkmcgapbcikiaa
open Go.RowKit

theorem Trs.two {w : World} {A1 A2 B1 B2 : Option Addr} {n1 c1 n2 c2 m1 d1 m2 d2 : Nat} {x1 y1 x2 y2 : List Int} (h1 : Ints w A1 n1 x1) (k1 : Ints w A2 n2 y1) (h2 : Ints w B1 m1 x2) (k2 : Ints w B2 m2 y2) (q1 : n1 ≤ c1) (q2 : n2 ≤ c2) (q3 : m1 ≤ d1) (q4 : m2 ≤ d2) :
    Trs (w.alloc (.cells #[.slice A1 n1 c1, .slice A2 n2 c2, .slice B1 m1 d1, .slice B2 m2 d2] 38)) (some ⟨w.heap.size, 0, none⟩) 2 [(x1, y1), (x2, y2)] := by
  have hb := alloc_below w (.cells #[.slice A1 n1 c1, .slice A2 n2 c2, .slice B1 m1 d1, .slice B2 m2 d2] 38)
  refine ⟨rfl, by omega, fun _ => ⟨w.heap.size, 0, rfl, by simp, fun j hj => ?_⟩⟩
  rcases Nat.lt_or_ge j 1 with h | h
  · obtain rfl : j = 0 := by omega
    exact ⟨A1, n1, c1, A2, n2, c2, by simp, by simp, q1, q2, h1.below hb, k1.below hb⟩
  · obtain rfl : j = 1 := by omega
    exact ⟨B1, m1, d1, B2, m2, d2, by simp, by simp, q3, q4, h2.below hb, k2.below hb⟩

/-- The traces of the example. -/
def tsX : TS := [([1], [0]), ([0, 1], [1, 2])]
theorem mokX : Mok 2 0 1 [[0, 0]] [[1, 0]] := by
  refine ⟨by omega, by omega, by omega, by omega, by omega, rfl, rfl, fun s hs => ?_⟩
  obtain rfl : s = 0 := by omega
  refine ⟨rfl, rfl, fun a ha => ?_⟩
  rcases Nat.lt_or_ge a 1 with h | h
  · obtain rfl : a = 0 := by omega
    decide
  · obtain rfl : a = 1 := by omega
    decide
theorem fullX : Full tsX := fun j hj => by
  have : j = 0 ∨ j = 1 := by have : tsX.length = 2 := rfl; omega
  rcases this with rfl | rfl <;> rfl
theorem srtX : Srt tsX := fun i j h hj => by
  have : tsX.length = 2 := rfl
  obtain rfl : i = 0 := by omega
  obtain rfl : j = 1 := by omega
  decide
theorem consX : Cons tsX := fun a b ha hb j hj => by
  have hl : tsX.length = 2 := rfl
  have h1 : a = 0 ∨ a = 1 := by omega
  have h2 : b = 0 ∨ b = 1 := by omega
  rcases h1 with rfl | rfl <;> rcases h2 with rfl | rfl
  · rfl
  · exact absurd hj (by rw [show cmn (tIn tsX 0) (tIn tsX 1) = 0 by decide]; omega)
  · exact absurd hj (by rw [show cmn (tIn tsX 1) (tIn tsX 0) = 0 by decide]; omega)
  · rfl
theorem chkX (xs : List Int) (h : ∀ x, x ∈ xs → 0 ≤ x ∧ x < 2) (hl : xs.length ≤ 1024) : chk xs 2 = 0 := chk_ok (by omega) (by omega) fun j hj => by
  rw [List.getD_eq_getElem?_getD, List.getElem?_eq_getElem hj]
  exact h _ (List.getElem_mem _)
theorem propsX : Props 2 tsX := fun j hj => by
  have : tsX.length = 2 := rfl
  have : j = 0 ∨ j = 1 := by omega
  unfold prpE
  rcases this with rfl | rfl
  · have h : chk (tIn tsX 0) 2 = 0 := chkX [1] (by decide) (by decide)
    rw [if_pos h]; exact ansE_ok rfl (by decide)
  · have h : chk (tIn tsX 1) 2 = 0 := chkX [0, 1] (by decide) (by decide)
    rw [if_pos h]; exact ansE_ok rfl (by decide)
theorem rfX : Fst1 (Rf [[0, 0]] [[1, 0]] 0 tsX 2) [0, 1] := by
  refine .inr ⟨⟨1, by omega, by decide, by decide⟩, by decide, fun x ⟨j, h1, h2, h3⟩ => ?_⟩
  have : j = 0 ∨ j = 1 := by omega
  rcases this with rfl | rfl
  · exact absurd h2 (by decide)
  · rw [h3]; decide
theorem aftX0 : aftK tsX [] 2 = tsX := by decide
theorem aftX1 : aftK tsX [0] 2 = [([1], [2])] := by decide
theorem shX : ShK tsX [([1], [2])] 2 [1] := ⟨0, by omega, by decide, by decide, 0, by decide, by decide, by decide⟩
theorem apX : Fst1 (ShK tsX [([1], [2])] 2) [1] := by
  refine .inr ⟨shX, by decide, fun x ⟨a, _, _, h2, b, h3, h4, _⟩ => ?_⟩
  obtain rfl : b = 0 := by simp at h3; exact h3
  have h5 : x.length ≤ 1 := h4.length_le
  rw [show x = [1] by
    have h6 : x <+: [1] := h4
    exact h6.eq_of_length (by simp; omega)]
  decide
theorem ctrX : ctr tsX [([1], [2])] = true := by
  obtain ⟨a, h1, h2⟩ := shX
  exact (ctr_any _ _).2 ⟨a, h1, (ctr1_iff _ _ _).2 ⟨[1], h2⟩⟩
theorem kepX : (kepK tsX [[], [0]] 2).length = 2 := by
  have h1 : kepK tsX [[], [0]] 1 = [[]] := by rw [kepK_yes fun v hv => by simp [kepK] at hv]; rfl
  rw [kepK_yes fun v hv => by
    rw [h1] at hv
    obtain rfl : v = [] := by simpa using hv
    exact (congrArg (fun q => ctr q (aftK tsX [0] 2)) aftX0).trans ((congrArg (ctr tsX) aftX1).trans ctrX), h1]
  rfl
theorem hvX : hvE 2 0 [[0, 0]] [[1, 0]] [[]] = 0 := by
  refine hvE_ok mokX.vld rfl ?_ rfl
  show hvF 2 0 [[0, 0]] 0 [[]] = 0
  rw [hvF, if_pos (chkX [] (by decide) (by decide))]
  rfl
theorem stX : stW 2 0 [[0, 0]] [[]] [0, 1] = [] ∧ chk [0, 1] 2 = 0 := by
  have h := chkX [0, 1] (by decide) (by decide)
  refine ⟨?_, h⟩
  unfold stW
  rw [if_pos h]
  rfl

end Go.Proofs.Ytkkmcgapbcikiaa
end

section
/- awake of the laws of observe. -/
namespace Go.Proofs.Ytkkmcgapbcikiaa
open Go.RowKit

def t1X : List (List Int × List Int) := [([0, 1], [1, 2])]
def t2X : List (List Int × List Int) := [([1], [0]), ([0, 1], [1, 2])]
theorem prpX {xs ys : List Int} (h : ∀ x, x ∈ xs → 0 ≤ x ∧ x < 2) (hl : xs.length ≤ 1024) (he : ys.length = xs.length) (hy : ∀ y, y ∈ ys → 0 ≤ y ∧ y ≤ 1048576) : prpE xs ys 2 = 0 := by
  unfold prpE
  rw [if_pos (chkX xs h hl)]
  exact ansE_ok he hy
theorem got0 {xs : List Int} {best : Nat} (h : Got t1X xs best (knw t1X xs t1X.length)) (hk : knw t1X xs t1X.length = 2 ∨ knw t1X xs t1X.length = 1) : best = 0 := by
  have := (h (by omega)).1
  have hl : t1X.length = 1 := rfl
  omega
theorem ins_a {e : Int} {ts' : List (List Int × List Int)} (h : InsR [] [0, 1] [1, 2] 2 e ts') : e = 0 ∧ ts' = t1X := by
  obtain ⟨best, _, h⟩ := h
  have hp : prpE [0, 1] [1, 2] 2 = 0 := prpX (by decide) (by decide) rfl (by decide)
  have hk : knw [] [0, 1] ([] : List (List Int × List Int)).length = 0 := rfl
  have hD : InsD [] best 0 = [] := by unfold InsD; rw [if_neg (by omega)]
  rw [hk] at h
  rcases h with ⟨h1, _⟩ | ⟨_, h1, _⟩ | ⟨_, _, h1, _⟩ | ⟨_, _, _, h1, _⟩ | ⟨_, _, _, _, rfl, p, hp1, _, _, rfl⟩
  · exact absurd hp h1
  · omega
  · exact absurd h1 (by decide)
  · rw [hD] at h1; simp at h1
  · rw [hD] at hp1 ⊢
    obtain rfl : p = 0 := by simpa using hp1
    exact ⟨rfl, rfl⟩
theorem ins_b {e : Int} {ts' : List (List Int × List Int)} (h : InsR t1X [0] [1] 2 e ts') : e = 0 ∧ ts' = t1X := by
  obtain ⟨best, hg, h⟩ := h
  have hp : prpE [0] [1] 2 = 0 := prpX (by decide) (by decide) rfl (by decide)
  have hk : knw t1X [0] t1X.length = 1 := by decide
  have hb := got0 hg (.inr hk)
  subst hb
  have ha : agrN t1X 0 1 [1] = 1 := by decide
  rw [hk] at h
  rcases h with ⟨h1, _⟩ | ⟨_, h1, _⟩ | ⟨_, _, _, rfl, rfl⟩ | ⟨_, _, h1, _⟩ | ⟨_, _, h1, _⟩
  · exact absurd hp h1
  · omega
  · exact ⟨rfl, rfl⟩
  · exact absurd h1 (by decide)
  · exact absurd h1 (by decide)
theorem ins_c {e : Int} {ts' : List (List Int × List Int)} (h : InsR t1X [0, 1] [1, 0] 2 e ts') : e = 13 := by
  obtain ⟨best, hg, h⟩ := h
  have hp : prpE [0, 1] [1, 0] 2 = 0 := prpX (by decide) (by decide) rfl (by decide)
  have hk : knw t1X [0, 1] t1X.length = 2 := by decide
  have hb := got0 hg (.inl hk)
  subst hb
  have ha : agrN t1X 0 2 [1, 0] = 1 := by decide
  rw [hk] at h
  rcases h with ⟨h1, _⟩ | ⟨_, _, h1⟩ | ⟨_, h1, _⟩ | ⟨_, h1, _⟩ | ⟨_, h1, _⟩
  · exact absurd hp h1
  · exact h1
  all_goals omega
theorem ins_d {e : Int} {ts' : List (List Int × List Int)} (h : InsR t1X [1] [0] 2 e ts') : e = 0 ∧ ts' = t2X := by
  obtain ⟨best, hg, h⟩ := h
  have hp : prpE [1] [0] 2 = 0 := prpX (by decide) (by decide) rfl (by decide)
  have hk : knw t1X [1] t1X.length = 0 := by decide
  have hD : InsD t1X best 0 = t1X := by unfold InsD; rw [if_neg (by omega)]
  rw [hk, hD] at h
  rcases h with ⟨h1, _⟩ | ⟨_, h1, _⟩ | ⟨_, _, h1, _⟩ | ⟨_, _, _, h1, _⟩ | ⟨_, _, _, _, rfl, p, hp1, hp2, _, rfl⟩
  · exact absurd hp h1
  · omega
  · exact absurd h1 (by decide)
  · exact absurd h1 (by decide)
  · have hl : t1X.length = 1 := rfl
    rcases Nat.eq_zero_or_pos p with h0 | h0
    · subst h0; exact ⟨rfl, rfl⟩
    · have := hp2 0 h0
      exact absurd this (by decide)
theorem cls_x {fd : Bool} {zs : List Int} {f s : Int} (h : ClsR t1X [0, 1] [1, 0] 2 fd zs f s) : fd = true ∧ zs.length = 2 ∧ f = 2 ∧ s = 0 := by
  obtain ⟨best, hg, h⟩ := h
  have hp : prpE [0, 1] [1, 0] 2 = 0 := prpX (by decide) (by decide) rfl (by decide)
  have hk : knw t1X [0, 1] t1X.length = 2 := by decide
  have hb := got0 hg (.inl hk)
  subst hb
  have ha : agrN t1X 0 2 [1, 0] = 1 := by decide
  rw [hk, ha] at h
  rcases h with ⟨_, _, _, _, h1 | h1⟩ | ⟨rfl, _, _, rfl, rfl, rfl⟩
  · exact absurd hp h1
  · omega
  · exact ⟨rfl, rfl, by decide, by decide⟩
theorem srt1X : Srt t1X := fun i j h1 h2 => by have hl : t1X.length = 1 := rfl; omega
theorem full1X : Full t1X := fun j hj => by
  have hl : t1X.length = 1 := rfl
  obtain rfl : j = 0 := by omega
  rfl
theorem j2X {j : Nat} (hj : j < t2X.length) : j = 0 ∨ j = 1 := by have hl : t2X.length = 2 := rfl; omega
theorem srt2X : Srt t2X := fun i j h1 h2 => by
  rcases j2X h2 with rfl | rfl
  · omega
  · obtain rfl : i = 0 := by omega
    decide
theorem full2X : Full t2X := fun j hj => by rcases j2X hj with rfl | rfl <;> rfl
theorem props2X : Props 2 t2X := fun j hj => by
  rcases j2X hj with rfl | rfl
  · exact prpX (xs := [1]) (ys := [0]) (by decide) (by decide) rfl (by decide)
  · exact prpX (xs := [0, 1]) (ys := [1, 2]) (by decide) (by decide) rfl (by decide)
theorem cmn2X {a b : Nat} (ha : a < t2X.length) (hb : b < t2X.length) (hab : ¬ a = b) : cmn (tIn t2X a) (tIn t2X b) = 0 := by
  rcases j2X ha with rfl | rfl <;> rcases j2X hb with rfl | rfl
  · omega
  · decide
  · decide
  · omega
theorem pos2X : ∀ j, j < t2X.length → 0 < (tIn t2X j).length := fun j hj => by rcases j2X hj with rfl | rfl <;> decide
theorem pref2X : PreF t2X := fun a b ha hb hab h => by
  have h1 := pre_cmn.1 h
  rw [cmn2X ha hb hab] at h1
  have := pos2X a ha
  omega
theorem cons2X : Cons t2X := fun a b ha hb j hj => by
  by_cases e : a = b
  · rw [e]
  · rw [cmn2X ha hb e] at hj; omega
theorem vld2X {v : Int} (h : VldR 2 t2X v) : v = 0 := vld16_good h (by omega) (by omega) (by decide) srt2X props2X pos2X pref2X cons2X
/-- Two literal lists. -/
theorem two_lit {W : World} {z : Nat} (hz : W.heap.size = z) (xs ys : List Int) (c1 c2 : Array Value) (n m : Nat) (h1 : c1 = (xs.map (Value.int .i64)).toArray) (h2 : c2 = (ys.map (Value.int .i64)).toArray) (hn : n = xs.length) (hm : m = ys.length) (hx : xs.length ≤ 100) (hy : ys.length ≤ 100) :
    Ints ((W.alloc (.cells c1 3)).alloc (.cells c2 3)) (some ⟨z, 0, none⟩) n xs ∧ Ints ((W.alloc (.cells c1 3)).alloc (.cells c2 3)) (some ⟨z + 1, 0, none⟩) m ys ∧ Below W.heap.size W ((W.alloc (.cells c1 3)).alloc (.cells c2 3)) := by
  have i1 := Ints.new W xs c1 n h1 hn (by omega)
  have b1 := alloc_below W (.cells c1 3)
  have i2 := Ints.new (W.alloc (.cells c1 3)) ys c2 m h2 hm (by omega)
  have b2 := alloc_below (W.alloc (.cells c1 3)) (.cells c2 3)
  have hs : (W.alloc (.cells c1 3)).heap.size = z + 1 := by simp [hz]
  rw [hs] at i2
  rw [hz] at i1
  exact ⟨i1.below b2, i2, bt b1 b2⟩
theorem padl (T : Option Addr) (tn tc z n m : Nat) (ts : List (List Int × List Int)) (xs ys : List Int) (c1 c2 : Array Value) (W : World) (hz : W.heap.size = z) (hT : Trs W T tn ts) (h1 : c1 = (xs.map (Value.int .i64)).toArray) (h2 : c2 = (ys.map (Value.int .i64)).toArray) (hn : n = xs.length) (hm : m = ys.length) (hx : xs.length ≤ 100) (hy : ys.length ≤ 100) (hS : Srt ts) (hF : Full ts) (htn : tn ≤ 500000) :
    Calls Try.prog 26 #[.agg #[.int .i64 2, .slice T tn tc], .agg #[.slice (some ⟨z, 0, none⟩) n n, .slice (some ⟨z + 1, 0, none⟩) m m]] ((W.alloc (.cells c1 3)).alloc (.cells c2 3)) fun r w' => Below W.heap.size W w' ∧ ∃ (e : Int) (ts' : List (List Int × List Int)), InsR ts xs ys 2 e ts' ∧
    ((¬ e = 0 ∧ r = .returned (.tuple #[.agg #[.int .i64 2, .slice T tn tc], .int .i64 e])) ∨
     (e = 0 ∧ ∃ (g N : Nat) (cur' : Array Value), r = .returned (.tuple #[.agg #[.int .i64 2, .slice (some ⟨g, 0, none⟩) ts'.length N], .int .i64 0]) ∧ TrO w' 0 g N cur' ts')) := by
  obtain ⟨i1, i2, b2⟩ := two_lit hz xs ys c1 c2 n m h1 h2 hn hm hx hy
  refine (padd16 2 T _ _ tn tc n n m m ts xs ys _ (hT.below b2) i1 (Nat.le_refl _) i2 (Nat.le_refl _) hS hF htn).mono ?_
  rintro r w' ⟨b, e, ts', hI, hr⟩
  refine ⟨bt b2 b, e, ts', hI, ?_⟩
  rcases hr with h | ⟨he, g, N, cur', hr, hT'⟩
  · exact .inl h
  · exact .inr ⟨he, g, N, cur', hr, hT'.base (Nat.zero_le _)⟩

set_option linter.unusedSimpArgs false in
set_option linter.unusedVariables false in
set_option maxHeartbeats 16000000 in
set_option maxRecDepth 100000 in
theorem awake16 (w : World) : Calls Try.prog 11 #[] w fun e w' => e = .returned (.bool true) ∧ Below w.heap.size w w' := by
  go_enter Try.func11, Try.ntmps11
  go_wp2_with fail
  refine (pnew16 2 _).mono ?_
  rintro r w1 ⟨b1, h⟩
  rcases h with ⟨_, _, rfl⟩ | ⟨h, _⟩
  case inr => exact absurd ⟨by omega, by omega⟩ h
  obtain ⟨w2, hw2⟩ : ∃ w2, w2 = w1.alloc (.cells #[.int .i64 2, .slice none 0 0] 24) := ⟨_, rfl⟩
  obtain ⟨s, hs⟩ : ∃ s, s = w1.heap.size := ⟨_, rfl⟩
  have b2 : Below w1.heap.size w1 w2 := by rw [hw2]; exact alloc_below _ _
  have m2 : Bx w2 s #[.int .i64 2, .slice none 0 0] 24 := by rw [hw2, hs]; exact bx_new _ _ _
  have hz2 : w2.heap.size = w1.heap.size + 1 := by rw [hw2]; simp
  have hsw : w.heap.size ≤ s := by rw [hs]; exact b1.size
  have HA := Lib.hid (padl none 0 0 (w1.heap.size + 1) 2 2 [] [0, 1] [1, 2] #[.int .i64 0, .int .i64 1] #[.int .i64 1, .int .i64 2] w2 hz2 (Trs.none_ w2) rfl rfl rfl rfl (by decide) (by decide) srt_none full_none (by omega))
  have HB2 := Lib.hid (bt b1 b2)
  have HM2 := Lib.hid m2
  have HW2 := Lib.hid hw2
  have HSS := Lib.hid hs
  clear b1 b2 m2 hz2 hw2 hs
  go_wp2_with fail
  rw [← HW2.out]
  refine HA.out.mono ?_
  rintro r w3 ⟨b3, e, ts', hI, hr⟩
  obtain ⟨rfl, rfl⟩ := ins_a hI
  rcases hr with ⟨h, _⟩ | ⟨_, g3, N3, cur3, rfl, hT3⟩
  case inl => exact absurd rfl h
  rw [show t1X.length = 1 from rfl]
  rw [← HSS.out]
  have m3 := HM2.out.on b3
  have p0 := m3.cell 0
  have p1 := m3.cell 1
  have f0 := m3.free 0
  have f1 := m3.free 1
  simp at p0 p1
  obtain ⟨w4, hw4⟩ : ∃ w4, w4 = (w3.setCell ⟨s, 0, none⟩ (.int .i64 2)).setCell ⟨s, 1, none⟩ (.slice (some ⟨g3, 0, none⟩) 1 N3) := ⟨_, rfl⟩
  have HM4 := Lib.hid (show Bx w4 s #[.int .i64 2, .slice (some ⟨g3, 0, none⟩) 1 N3] 24 by rw [hw4]; exact m3.set2 _ _)
  have hTr4 : Trs w4 (some ⟨g3, 0, none⟩) 1 t1X := by rw [hw4]; exact (hT3.set2 m3 _ _).trs
  have HB4 := Lib.hid (show Below w.heap.size w w4 by rw [hw4]; exact set2B (bt HB2.out b3) hsw _ _)
  have hz4 : w4.heap.size = w3.heap.size := by rw [hw4]; simp
  have HW4 := Lib.hid hw4
  clear hw4 m3 hT3 b3 hI
  have HA := Lib.hid (padl (some ⟨g3, 0, none⟩) 1 N3 w3.heap.size 1 1 t1X [0] [1] #[.int .i64 0] #[.int .i64 1] w4 hz4 hTr4 rfl rfl rfl rfl (by decide) (by decide) srt1X full1X (by omega))
  clear hz4 hTr4
  go_wp2_with fail
  rw [← HW4.out]
  refine HA.out.mono ?_
  rintro r w5 ⟨b5, e, ts', hI, hr⟩
  obtain ⟨rfl, rfl⟩ := ins_b hI
  rcases hr with ⟨h, _⟩ | ⟨_, g5, N5, cur5, rfl, hT5⟩
  case inl => exact absurd rfl h
  rw [show t1X.length = 1 from rfl]
  clear p0 p1 f0 f1
  have hN5 : 1 ≤ N5 := hT5.le
  have m5 := HM4.out.on b5
  have p0 := m5.cell 0
  have p1 := m5.cell 1
  have f0 := m5.free 0
  have f1 := m5.free 1
  simp at p0 p1
  obtain ⟨w6, hw6⟩ : ∃ w6, w6 = (w5.setCell ⟨s, 0, none⟩ (.int .i64 2)).setCell ⟨s, 1, none⟩ (.slice (some ⟨g5, 0, none⟩) 1 N5) := ⟨_, rfl⟩
  have HM6 := Lib.hid (show Bx w6 s #[.int .i64 2, .slice (some ⟨g5, 0, none⟩) 1 N5] 24 by rw [hw6]; exact m5.set2 _ _)
  have hTr6 : Trs w6 (some ⟨g5, 0, none⟩) 1 t1X := by rw [hw6]; exact (hT5.set2 m5 _ _).trs
  have HB6 := Lib.hid (show Below w.heap.size w w6 by rw [hw6]; exact set2B (bt HB4.out b5) hsw _ _)
  have hz6 : w6.heap.size = w5.heap.size := by rw [hw6]; simp
  have HW6 := Lib.hid hw6
  clear hw6 m5 hT5 b5 hI
  have HA := Lib.hid (padl (some ⟨g5, 0, none⟩) 1 N5 w5.heap.size 2 2 t1X [0, 1] [1, 0] #[.int .i64 0, .int .i64 1] #[.int .i64 1, .int .i64 0] w6 hz6 hTr6 rfl rfl rfl rfl (by decide) (by decide) srt1X full1X (by omega))
  have HT6 := Lib.hid hTr6
  clear hz6 hTr6
  go_wp2_with fail
  rw [← HW6.out]
  refine HA.out.mono ?_
  rintro r w7 ⟨b7, e, ts', hI, hr⟩
  have he := ins_c hI
  subst he
  rcases hr with ⟨_, rfl⟩ | ⟨h, _⟩
  case inr => exact absurd h (by decide)
  clear p0 p1 f0 f1 hI
  obtain ⟨w8, hw8⟩ : ∃ w8, w8 = w7.alloc (.cells #[.int .i64 2, .slice (some ⟨g5, 0, none⟩) 1 N5] 24) := ⟨_, rfl⟩
  have a8 : Below w7.heap.size w7 w8 := by rw [hw8]; exact alloc_below _ _
  have hz8 : w8.heap.size = w7.heap.size + 1 := by rw [hw8]; simp
  have HM8 := Lib.hid ((HM6.out.on b7).on a8)
  have HT8 := Lib.hid ((HT6.out.below b7).below a8)
  have HB8 := Lib.hid (bt (bt HB6.out b7) a8)
  have HW8 := Lib.hid hw8
  obtain ⟨i1, i2, bl⟩ := two_lit hz8 [0, 1] [1, 0] #[.int .i64 0, .int .i64 1] #[.int .i64 1, .int .i64 0] 2 2 rfl rfl rfl rfl (by decide) (by decide)
  have HC := Lib.hid (pclash 2 (some ⟨g5, 0, none⟩) (some ⟨w7.heap.size + 1, 0, none⟩) (some ⟨w7.heap.size + 1 + 1, 0, none⟩) 1 N5 2 2 2 2 t1X [0, 1] [1, 0] _ (HT8.out.below bl) hN5 i1 (Nat.le_refl _) i2 srt1X full1X)
  have HBL := Lib.hid (bt HB8.out bl)
  have HML := Lib.hid (HM8.out.on bl)
  have HTL := Lib.hid (HT8.out.below bl)
  have k0 := (HM6.out.on b7).cell 0
  have k1 := (HM6.out.on b7).cell 1
  simp at k0 k1
  have k0 := (HM8.out).cell 0
  have k1 := (HM8.out).cell 1
  simp at k0 k1
  rw [HW8.out] at k0 k1
  clear hw8 a8 hz8 b7 i1 i2 bl
  go_wp2_with fail
  rw [← HW8.out]
  refine HC.out.mono ?_
  rintro r w9 ⟨fd, A9, l9, c9, f9, s9, zs9, rfl, hcl, o9, b9⟩
  obtain ⟨rfl, hzl, rfl, rfl⟩ := cls_x hcl
  have hl9 : l9 = 2 := by obtain ⟨A', c', e⟩ := o9.form; injection e with _ e2; rw [e2, hzl]
  subst hl9
  obtain ⟨w10, hw10⟩ : ∃ w10, w10 = w9.alloc (.cells #[.slice A9 2 c9, .int .i64 2, .int .i64 0] 43) := ⟨_, rfl⟩
  have a10 : Below w9.heap.size w9 w10 := by rw [hw10]; exact alloc_below _ _
  have hz10 : w10.heap.size = w9.heap.size + 1 := by rw [hw10]; simp
  have m10 : Bx w10 w9.heap.size #[.slice A9 2 c9, .int .i64 2, .int .i64 0] 43 := by rw [hw10]; exact bx_new _ _ _
  have hM10 := (HML.out.on b9).on a10
  have hT10 := (HTL.out.below b9).below a10
  have hB10 := bt (bt HBL.out b9) a10
  have HW10 := Lib.hid hw10
  have a11 := alloc_below w10 (.cells #[.int .i64 0, .int .i64 0] 3)
  have i11 := Ints.new w10 [0, 0] #[.int .i64 0, .int .i64 0] 2 rfl rfl (by decide)
  rw [hz10] at i11
  have HK := Lib.hid (pknown16 2 (some ⟨g5, 0, none⟩) (some ⟨w9.heap.size + 1, 0, none⟩) 1 N5 2 2 t1X [0, 0] _ (hT10.below a11) hN5 i11 srt1X full1X)
  have HB11 := Lib.hid (bt hB10 a11)
  have HM11 := Lib.hid (hM10.on a11)
  have HT11 := Lib.hid (hT10.below a11)
  have HC11 := Lib.hid (m10.on a11)
  have k0 := hM10.cell 0
  have k1 := hM10.cell 1
  simp at k0 k1
  rw [HW10.out] at k0 k1
  clear hw10 a10 hz10 m10 hM10 hT10 hB10 a11 i11 b9 o9 hcl hzl
  go_wp2_with fail
  rw [← HW10.out]
  refine HK.out.mono ?_
  rintro r w11 ⟨rfl, b11⟩
  rw [show knw t1X [0, 0] t1X.length = 1 by decide]
  have HM12 := Lib.hid (HM11.out.on b11)
  have hT12 := HT11.out.below b11
  have HB12 := Lib.hid (bt HB11.out b11)
  have hC12 := HC11.out.on b11
  have HA := Lib.hid (padl (some ⟨g5, 0, none⟩) 1 N5 w11.heap.size 1 1 t1X [1] [0] #[.int .i64 1] #[.int .i64 0] w11 rfl hT12 rfl rfl rfl rfl (by decide) (by decide) srt1X full1X (by omega))
  have q0 := hC12.cell 0
  have q1 := hC12.cell 1
  have q2 := hC12.cell 2
  simp at q0 q1 q2
  clear k0 k1
  have k0 := HM12.out.cell 0
  have k1 := HM12.out.cell 1
  simp at k0 k1
  clear hT12 hC12 b11
  go_wp2_with fail
  refine HA.out.mono ?_
  rintro r w13 ⟨b13, e, ts', hI, hr⟩
  obtain ⟨rfl, rfl⟩ := ins_d hI
  rcases hr with ⟨h, _⟩ | ⟨_, g13, N13, cur13, rfl, hT13⟩
  case inl => exact absurd rfl h
  rw [show t2X.length = 2 from rfl]
  have hN13 : 2 ≤ N13 := hT13.le
  clear q0 q1 q2 k0 k1
  have m13 := HM12.out.on b13
  have p0 := m13.cell 0
  have p1 := m13.cell 1
  have f0 := m13.free 0
  have f1 := m13.free 1
  simp at p0 p1
  obtain ⟨w14, hw14⟩ : ∃ w14, w14 = (w13.setCell ⟨s, 0, none⟩ (.int .i64 2)).setCell ⟨s, 1, none⟩ (.slice (some ⟨g13, 0, none⟩) 2 N13) := ⟨_, rfl⟩
  have HM14 := Lib.hid (show Bx w14 s #[.int .i64 2, .slice (some ⟨g13, 0, none⟩) 2 N13] 24 by rw [hw14]; exact m13.set2 _ _)
  have hTr14 : Trs w14 (some ⟨g13, 0, none⟩) 2 t2X := by rw [hw14]; exact (hT13.set2 m13 _ _).trs
  have HB14 := Lib.hid (show Below w.heap.size w w14 by rw [hw14]; exact set2B (bt HB12.out b13) hsw _ _)
  have hz14 : w14.heap.size = w13.heap.size := by rw [hw14]; simp
  have HW14 := Lib.hid hw14
  clear hw14 m13 hT13 b13 hI
  have a15 := alloc_below w14 (.cells #[.int .i64 0, .int .i64 1] 3)
  have i15 := Ints.new w14 [0, 1] #[.int .i64 0, .int .i64 1] 2 rfl rfl (by decide)
  rw [hz14] at i15
  have HAN := Lib.hid (panswer16 2 (some ⟨g13, 0, none⟩) (some ⟨w13.heap.size, 0, none⟩) 2 N13 2 2 t2X [0, 1] _ (hTr14.below a15) hN13 i15 srt2X full2X)
  have HB15 := Lib.hid (bt HB14.out a15)
  have HM15 := Lib.hid (HM14.out.on a15)
  have HT15 := Lib.hid (hTr14.below a15)
  clear a15 i15 hz14 hTr14
  go_wp2_with fail
  rw [← HW14.out]
  refine HAN.out.mono ?_
  rintro r w16 hans
  obtain ⟨A16, c16, rfl, o16, b16⟩ := ans_pre16 hans full2X cons2X (j := 1) (by decide) (by decide) (by omega)
  have i16 := o16.ints (by decide)
  have hM16 := HM15.out.on b16
  have hT16 := HT15.out.below b16
  have HB16 := Lib.hid (bt HB15.out b16)
  obtain ⟨bT, oT, A1, n1, c1, A2, n2, c2, eT, hgT, j1, j2, _, _, j3, j4⟩ := hT16.at_ (k := 0) (by omega)
  cases eT
  have hn1 : n1 = 1 := j3.1.symm
  subst hn1
  simp at j1
  clear p0 p1 f0 f1
  have k0 := hM16.cell 0
  have k1 := hM16.cell 1
  simp at k0 k1
  have a17 := alloc_below w16 (.cells #[.int .i64 1, .int .i64 2] 3)
  have i17 := Ints.new w16 [1, 2] #[.int .i64 1, .int .i64 2] 2 rfl rfl (by decide)
  have HIN := Lib.hid (rints A16 (some ⟨w16.heap.size, 0, none⟩) 2 c16 2 2 _ [1, 2] true _ (i16.below a17) i17 (by decide))
  have HM17 := Lib.hid (hM16.on a17)
  have HT17 := Lib.hid (hT16.below a17)
  have HB17 := Lib.hid (bt HB16.out a17)
  clear hans o16 b16 i16 hM16 hT16 hgT j2 j3 j4 a17 i17
  go_wp2_with fail
  refine HIN.out.mono ?_
  rintro r w18 ⟨rfl, q18, rfl⟩
  have HB18 := Lib.hid (below_drewN HB17.out q18)
  have HT18 := Lib.hid (HT17.out.drewN q18)
  have hM18 := HM17.out.drewN q18
  generalize (w16.alloc (.cells #[.int .i64 1, .int .i64 2] 3)).drewN q18 = w19 at HB18 HT18 hM18 ⊢
  have HVL := Lib.hid (pvalid16 2 (some ⟨g13, 0, none⟩) 2 N13 t2X w19 HT18.out hN13)
  clear k0 k1 j1
  have k0 := hM18.cell 0
  have k1 := hM18.cell 1
  simp at k0 k1
  clear hM18
  go_wp2_with fail
  refine HVL.out.mono ?_
  rintro r w20 ⟨v, rfl, hv, b20⟩
  obtain rfl := vld2X hv
  have HB20 := Lib.hid (bt HB18.out b20)
  clear k0 k1 hv b20
  go_wp2_with fail
  go_ret
  exact ⟨rfl, HB20.out⟩
end Go.Proofs.Ytkkmcgapbcikiaa
end

section
/- Great of the laws of observations. -/
namespace Go.Proofs.Ytkkmcgapbcikiaa
open Go.RowKit

/-- What the answer of Great says. -/
def G16 (n : Nat) (ts : List (List Int × List Int)) (b : Bool) : Prop := b = false → n ≤ 60 ∧ ∀ j, j < n → (tIn ts j).length ≤ 100 ∧ (tOut ts j).length ≤ 100
def G16E (n : Nat) (ts : List (List Int × List Int)) (w : World) (e : Ending) (w' : World) : Prop := ∃ b, e = .returned (.bool b) ∧ G16 n ts b ∧ Below w.heap.size w w'

set_option linter.unusedSimpArgs false in
set_option linter.unusedVariables false in
set_option maxHeartbeats 2000000 in
set_option maxRecDepth 100000 in
theorem rgreat16 (i : Int) (T : Option Addr) (n c : Nat) (ts : List (List Int × List Int)) (w : World) (hT : Trs w T n ts) :
    Calls Try.prog 10 #[.agg #[.int .i64 i, .slice T n c]] w fun r w' => G16E n ts w r w' := by
  obtain ⟨w0, hw0⟩ : ∃ w0, w0 = w.alloc (.cells #[.int .i64 i, .slice T n c] 24) := ⟨_, rfl⟩
  have hb0 : Below w.heap.size w w0 := by rw [hw0]; exact alloc_below _ _
  have m0 : Bx w0 w.heap.size #[.int .i64 i, .slice T n c] 24 := by rw [hw0]; exact bx_new _ _ _
  have HB0 := Lib.hid hb0
  have HW0 := Lib.hid hw0
  have HT := Lib.hid (hT.below hb0)
  have hn := hT.2.1
  have k1 := m0.cell 1
  simp at k1
  have z1 := k1
  rw [hw0] at z1
  clear hw0 hb0 m0 hT
  by_cases hbig : 60 < n
  · have hbI : (60 : Int) < (n : Int) := by omega
    clear k1
    go_enter Try.func10, Try.ntmps10
    go_wp2
    rw [← HW0.out]
    go_ret
    exact ⟨true, rfl, (fun h => nomatch h), HB0.out⟩
  have hbI : ¬ (60 : Int) < (n : Int) := by omega
  go_enter Try.func10, Try.ntmps10
  go_wp2
  rw [← HW0.out]
  clear z1
  go_loopw [3] (fun v3 wr => ∃ k : Nat, v3 = .int .i64 k ∧ k ≤ n ∧ Hid (∀ j, j < k → (tIn ts j).length ≤ 100 ∧ (tOut ts j).length ≤ 100) ∧ wr = w0) (fun v3 _ => n - (intOf v3).toNat)
  case atStart => exact ⟨0, rfl, Nat.zero_le _, Lib.hid (fun j h => absurd h (Nat.not_lt_zero j)), rfl⟩
  case round =>
    obtain ⟨k, rfl, hk, HP, rfl⟩ := hrel
    by_cases hlt : k < n
    · obtain ⟨b, off, A1, n1, c1, A2, n2, c2, rfl, hgb, j1, j2, _, _, j3, j4⟩ := HT.out.at_ hlt
      have HL1 := Lib.hid j3.1
      have HL2 := Lib.hid j4.1
      clear j3 j4 hgb
      by_cases h1 : 100 < n1
      · have h1I : (100 : Int) < (n1 : Int) := by omega
        go_wp2
        go_ret
        exact ⟨true, rfl, (fun h => nomatch h), HB0.out⟩
      · have h1I : ¬ (100 : Int) < (n1 : Int) := by omega
        by_cases h2 : 100 < n2
        · have h2I : (100 : Int) < (n2 : Int) := by omega
          go_wp2
          go_ret
          exact ⟨true, rfl, (fun h => nomatch h), HB0.out⟩
        · have h2I : ¬ (100 : Int) < (n2 : Int) := by omega
          have HP2 := Lib.hid (show ∀ j, j < k + 1 → (tIn ts j).length ≤ 100 ∧ (tOut ts j).length ≤ 100 from fun j hj => by
            rcases Nat.lt_or_ge j k with h | h
            · exact HP.out j h
            · obtain rfl : j = k := by omega
              rw [HL1.out, HL2.out]; omega)
          go_wp2
          go_roundw
          case rel => exact ⟨k + 1, by go_num, by omega, HP2, by first | rfl | trivial⟩
          case measure => simp [intOf]; omega
    · obtain rfl : k = n := by omega
      go_wp2
      go_ret
      exact ⟨false, rfl, fun _ => ⟨by omega, HP.out⟩, HB0.out⟩
end Go.Proofs.Ytkkmcgapbcikiaa
end

section
/- The reference of observe: Proper, Differ. -/
namespace Go.Proofs.Ytkkmcgapbcikiaa
open Go.RowKit

set_option linter.unusedSimpArgs false in
set_option linter.unusedVariables false in
set_option maxHeartbeats 2000000 in
set_option maxRecDepth 100000 in
theorem rproper (A B : Option Addr) (n c m d : Nat) (i : Int) (xs ys : List Int) (w : World) (hx : Ints w A n xs) (hy : Ints w B m ys) :
    Calls Try.prog 39 #[.agg #[.slice A n c, .slice B m d], .int .i64 i] w fun e w' => e = .returned (.int .i64 (prpE xs ys i)) ∧ Below w.heap.size w w' := by
  obtain ⟨w0, hw0⟩ : ∃ w0, w0 = w.alloc (.cells #[.slice A n c, .slice B m d] 38) := ⟨_, rfl⟩
  have hb0 : Below w.heap.size w w0 := by rw [hw0]; exact alloc_below _ _
  have m0 : Bx w0 w.heap.size #[.slice A n c, .slice B m d] 38 := by rw [hw0]; exact bx_new _ _ _
  have HX := Lib.hid (hx.below hb0)
  have HY := Lib.hid (hy.below hb0)
  have HB := Lib.hid hb0
  have HW0 := Lib.hid hw0
  have HM := Lib.hid m0
  have LX := Lib.hid hx.1
  have LY := Lib.hid hy.1
  have hm := hy.2.1
  have k0 := m0.cell 0
  have k1 := m0.cell 1
  simp at k0 k1
  rw [hw0] at k0 k1
  clear hx hy hb0 hw0 m0
  by_cases hc : chk xs i = 0
  case neg =>
    have HP := Lib.hid (show prpE xs ys i = chk xs i by unfold prpE; rw [if_neg hc])
    obtain ⟨E, hE⟩ : ∃ E, E = chk xs i := ⟨_, rfl⟩
    have hne : (E != 0) = true := by rw [hE]; simpa using hc
    have HE := Lib.hid hE
    clear hE hc
    go_enter Try.func39, Try.ntmps39
    go_wp2_with fail
    rw [← HW0.out]
    refine (rcheck _ _ _ _ xs _ HX.out).mono ?_
    rintro e w2 ⟨rfl, rfl⟩
    rw [← HE.out]
    clear k0 k1
    go_wp2
    go_ret
    exact ⟨by rw [HP.out, ← HE.out]; rfl, HB.out⟩
  have HP := Lib.hid (show prpE xs ys i = ansE xs ys by unfold prpE; rw [if_pos hc])
  have HC := Lib.hid hc
  clear hc
  by_cases hl : m = n
  case neg =>
    have HE := Lib.hid (ansE_len (xs := xs) (ys := ys) (by rw [LX.out, LY.out]; exact hl))
    have hne : ((m : Int) != (n : Int)) = true := by rw [bne_iff_ne]; omega
    have hl' : ¬ (m : Int) = (n : Int) := by omega
    go_enter Try.func39, Try.ntmps39
    go_wp2_with fail
    rw [← HW0.out]
    refine (rcheck _ _ _ _ xs _ HX.out).mono ?_
    rintro e w2 ⟨rfl, rfl⟩
    rw [HC.out]
    rw [← HW0.out] at k0 k1
    go_wp2
    go_ret
    exact ⟨by rw [HP.out, HE.out]; rfl, HB.out⟩
  subst hl
  have HL := Lib.hid (show ys.length = xs.length by rw [LX.out, LY.out])
  have hne : ((m : Int) != (m : Int)) = false := by simp
  go_enter Try.func39, Try.ntmps39
  go_wp2_with fail
  rw [← HW0.out]
  refine (rcheck _ _ _ _ xs _ HX.out).mono ?_
  rintro e w2 ⟨rfl, rfl⟩
  rw [HC.out]
  rw [← HW0.out] at k0 k1
  go_wp2
  go_loopw [6] (fun jv wr => ∃ k : Nat, k ≤ m ∧ jv = .int .i64 k ∧ Hid (∀ j, j < k → 0 ≤ ys.getD j 0 ∧ ys.getD j 0 ≤ 1048576) ∧ ∃ q, wr = w0.drewN q) (fun jv _ => m - (intOf jv).toNat)
  case atStart => exact ⟨0, Nat.zero_le _, rfl, Lib.hid (fun j h => absurd h (by omega)), 0, rfl⟩
  case round =>
    obtain ⟨k, hk, rfl, HA, q, rfl⟩ := hrel
    by_cases hlt : k < m
    · obtain ⟨b, o, rfl, _, hc⟩ := HY.out.at_ hlt
      obtain ⟨y, hyv⟩ : ∃ y, y = ys.getD k 0 := ⟨_, rfl⟩
      rw [← hyv] at hc
      have HV := Lib.hid hyv
      clear hyv
      by_cases h1 : y < 0
      · have HE := Lib.hid (ansE_bad HL.out (by rw [LY.out]; exact hlt) (by rw [← HV.out]; omega))
        go_wp2
        go_ret
        exact ⟨by rw [HP.out, HE.out]; rfl, below_drewN HB.out _⟩
      · by_cases h2 : 1048576 < y
        · have HE := Lib.hid (ansE_bad HL.out (by rw [LY.out]; exact hlt) (by rw [← HV.out]; omega))
          go_wp2
          go_ret
          exact ⟨by rw [HP.out, HE.out]; rfl, below_drewN HB.out _⟩
        · have HA2 := Lib.hid (all_snoc HA.out (by rw [← HV.out]; omega))
          go_wp2
          go_roundw
          case rel => exact ⟨k + 1, by omega, by go_num, HA2, q, rfl⟩
          case measure => simp [intOf]; omega
    · obtain rfl : k = m := by omega
      have HE := Lib.hid (ansE_ok HL.out (all_done (by rw [LY.out]; exact HA.out)))
      go_wp2
      go_ret
      exact ⟨by rw [HP.out, HE.out]; rfl, below_drewN HB.out _⟩

/-- Where two traces differ. -/
def Dff (xs ys us vs : List Int) (z : Int) : Prop := (z = -1 ∧ ∀ j, j < cmn xs us → ys.getD j 0 = vs.getD j 0) ∨ (∃ k : Nat, z = k ∧ k < cmn xs us ∧ (∀ j, j < k → ys.getD j 0 = vs.getD j 0) ∧ ¬ ys.getD k 0 = vs.getD k 0)
theorem dff_ex (xs ys us vs : List Int) : ∃ z, Dff xs ys us vs z := by
  by_cases h : ∃ k, k < cmn xs us ∧ ¬ ys.getD k 0 = vs.getD k 0
  · obtain ⟨k, h1, h2⟩ := h
    induction k using Nat.strongRecOn with
    | ind k ih =>
      by_cases h3 : ∃ j, j < k ∧ ¬ ys.getD j 0 = vs.getD j 0
      · obtain ⟨j, h4, h5⟩ := h3
        exact ih j h4 (by omega) h5
      · exact ⟨k, .inr ⟨k, rfl, h1, fun j hj => Classical.byContradiction fun h6 => h3 ⟨j, hj, h6⟩, h2⟩⟩
  · exact ⟨-1, .inl ⟨rfl, fun j hj => Classical.byContradiction fun h6 => h ⟨j, hj, h6⟩⟩⟩
theorem Dff.at_ {xs ys us vs : List Int} {z : Int} {k : Nat} (h : Dff xs ys us vs z) (hk : k < cmn xs us) (ha : ∀ j, j < k → ys.getD j 0 = vs.getD j 0) (hn : ¬ ys.getD k 0 = vs.getD k 0) : z = k := by
  rcases h with ⟨_, h⟩ | ⟨q, rfl, h1, h2, h3⟩
  · exact absurd (h k hk) hn
  · rcases Nat.lt_trichotomy q k with h4 | rfl | h4
    · exact absurd (ha q h4) h3
    · rfl
    · exact absurd (h2 k h4) hn
theorem Dff.no {xs ys us vs : List Int} {z : Int} (h : Dff xs ys us vs z) (ha : ∀ j, j < cmn xs us → ys.getD j 0 = vs.getD j 0) : z = -1 := by
  rcases h with ⟨h, _⟩ | ⟨q, rfl, h1, h2, h3⟩
  · exact h
  · exact absurd (ha q h1) h3

set_option linter.unusedSimpArgs false in
set_option linter.unusedVariables false in
set_option maxHeartbeats 2000000 in
set_option maxRecDepth 100000 in
theorem rdiffer (A B C D : Option Addr) (n c m d k e l f : Nat) (xs ys us vs : List Int) (z : Int) (w : World) (hx : Ints w A n xs) (hy : Ints w B m ys) (hu : Ints w C k us) (hv : Ints w D l vs) (h1 : ys.length = xs.length) (h2 : vs.length = us.length) (hz : Dff xs ys us vs z) :
    Calls Try.prog 52 #[.agg #[.slice A n c, .slice B m d], .agg #[.slice C k e, .slice D l f]] w fun r w' => r = .returned (.int .i64 z) ∧ Below w.heap.size w w' := by
  obtain ⟨w0, hw0⟩ : ∃ w0, w0 = (w.alloc (.cells #[.slice A n c, .slice B m d] 38)).alloc (.cells #[.slice C k e, .slice D l f] 38) := ⟨_, rfl⟩
  obtain ⟨hb0, m1, m2, hs0⟩ := bxs2 w #[.slice A n c, .slice B m d] #[.slice C k e, .slice D l f] 38 38 w0 hw0
  have HX := Lib.hid (hx.below hb0)
  have HY := Lib.hid (hy.below hb0)
  have HU := Lib.hid (hu.below hb0)
  have HV := Lib.hid (hv.below hb0)
  have HB := Lib.hid hb0
  have HW0 := Lib.hid hw0
  have HZ := Lib.hid hz
  have LX := Lib.hid hx.1
  have LY := Lib.hid hy.1
  have LU := Lib.hid hu.1
  have LV := Lib.hid hv.1
  obtain rfl : m = n := by rw [← hx.1, ← hy.1, h1]
  obtain rfl : l = k := by rw [← hu.1, ← hv.1, h2]
  obtain ⟨K, hK⟩ : ∃ K, K = cmn xs us := ⟨_, rfl⟩
  have hK1 : K ≤ m := by rw [hK, ← hx.1]; exact cmn_le_left _ _
  have hK2 : K ≤ l := by rw [hK, ← hu.1]; exact cmn_le_right _ _
  have hm := hx.2.1
  have HKK := Lib.hid hK
  have k0 := m1.cell 0
  have k1 := m1.cell 1
  have l0 := m2.cell 0
  have l1 := m2.cell 1
  simp at k0 k1 l0 l1
  have HCM := Lib.hid (rcommon A C m c l e xs us w0 HX.out HU.out)
  rw [← hK] at HCM
  rw [hw0] at k0 k1 l0 l1
  clear hx hy hu hv hb0 hw0 m1 m2 hs0 h1 h2 hz hK
  go_enter Try.func52, Try.ntmps52
  go_wp2_with fail
  rw [← HW0.out]
  refine HCM.out.mono ?_
  rintro e w2 ⟨rfl, q2, rfl⟩
  rw [← HW0.out] at k0 k1 l0 l1
  go_wp2
  go_loopw [6] (fun jv wr => ∃ j : Nat, j ≤ K ∧ jv = .int .i64 j ∧ Hid (∀ t, t < j → ys.getD t 0 = vs.getD t 0) ∧ ∃ q, wr = w0.drewN q) (fun jv _ => K - (intOf jv).toNat)
  case atStart => exact ⟨0, Nat.zero_le _, rfl, Lib.hid (fun j h => absurd h (by omega)), q2, rfl⟩
  case round =>
    obtain ⟨j, hj, rfl, HA, q, rfl⟩ := hrel
    by_cases hlt : j < K
    · obtain ⟨b1, o1, rfl, _, hc1⟩ := HY.out.at_ (k := j) (by omega)
      obtain ⟨b2, o2, rfl, _, hc2⟩ := HV.out.at_ (k := j) (by omega)
      obtain ⟨y, hy⟩ : ∃ y, y = ys.getD j 0 := ⟨_, rfl⟩
      obtain ⟨v, hv⟩ : ∃ v, v = vs.getD j 0 := ⟨_, rfl⟩
      rw [← hy] at hc1
      rw [← hv] at hc2
      have HYY := Lib.hid hy
      have HVV := Lib.hid hv
      clear hy hv
      by_cases he : y = v
      · have hb : (y != v) = false := by rw [he]; simp
        have HN := Lib.hid (show ∀ t, t < j + 1 → ys.getD t 0 = vs.getD t 0 from fun t ht => by
          rcases Nat.lt_or_ge t j with h | h
          · exact HA.out t h
          · rw [show t = j by omega, ← HYY.out, ← HVV.out, he])
        have HE := Lib.hid he
        clear he
        go_wp2
        go_quiet (fail)
        go_wp2
        go_roundw
        case rel => exact ⟨j + 1, by omega, by go_num, HN, by first | exact ⟨_, rfl⟩ | exact ⟨_, World.drewN_drewN _ _ _⟩⟩
        case measure => simp [intOf]; omega
      · have hb : (y != v) = true := by rw [bne_iff_ne]; exact he
        have HR := Lib.hid (HZ.out.at_ (k := j) (by rw [← HKK.out]; exact hlt) HA.out (by rw [← HYY.out, ← HVV.out]; exact he))
        go_wp2
        go_quiet (fail)
        go_wp2
        go_ret
        exact ⟨by rw [HR.out]; rfl, below_drewN (below_drewN HB.out _) _⟩
    · have HR := Lib.hid (HZ.out.no (fun t ht => HA.out t (by rw [← HKK.out] at ht; omega)))
      go_wp2
      go_ret
      exact ⟨by rw [HR.out]; rfl, below_drewN HB.out _⟩
end Go.Proofs.Ytkkmcgapbcikiaa
end

section
/- The reference: Lex and Compare. -/
namespace Go.Proofs.Ytkkmcgapbcikiaa
open Go.RowKit

set_option maxHeartbeats 400000 in
theorem rlex (A B : Option Addr) (n c m d : Nat) (xs ys : List Int) (w : World) (hx : Ints w A n xs) (hy : Ints w B m ys) :
    Calls Try.prog 68 #[.slice A n c, .slice B m d] w fun e w' => e = .returned (.int .i64 (lexi xs ys)) ∧ ∃ q, w' = w.drewN q := by
  have L1 := Lib.hid hx.1
  have L2 := Lib.hid hy.1
  have hn := hx.2.1
  have hm := hy.2.1
  have l1 : cmn xs ys ≤ n := by rw [← L1.out]; exact cmn_le_left _ _
  have l2 : cmn xs ys ≤ m := by rw [← L2.out]; exact cmn_le_right _ _
  have hag := Lib.hid (cmn_agree xs ys)
  obtain ⟨t, ht⟩ : ∃ t, t = cmn xs ys := ⟨_, rfl⟩
  rw [← ht] at l1 l2 hag
  have HT := Lib.hid ht
  have call : ∀ w0 : World, w0 = w → Calls Try.prog 53 #[.slice A n c, .slice B m d] w0 fun e w' => e = .returned (.int .i64 (t : Int)) ∧ ∃ q, w' = w0.drewN q := by
    intro w0 e0; subst e0; rw [ht]; exact rcommon _ _ _ _ _ _ xs ys _ hx hy
  have HC := Lib.hid call
  clear ht call
  by_cases h1 : t = n
  · by_cases h2 : t = m
    · have b1 : ((t : Int) == (n : Int)) = true := by simp; omega
      have b2 : ((t : Int) == (m : Int)) = true := by simp; omega
      have hfin := Lib.hid (lexi_same (xs := xs) (ys := ys) (by rw [L1.out, L2.out]; omega) (by rw [L1.out, ← h1]; exact hag.out))
      clear h1 h2
      go_enter Try.func68, Try.ntmps68
      go_wp2_with (go_at_call 53; refine (HC.out _ rfl).mono ?_; rintro e w' ⟨rfl, q, rfl⟩)
      go_ret
      exact ⟨ret_int (by rw [hfin.out]), _, rfl⟩
    · have b1 : ((t : Int) == (n : Int)) = true := by simp; omega
      have b2 : ((t : Int) == (m : Int)) = false := by simp; omega
      have hfin := Lib.hid (lexi_short (xs := xs) (ys := ys) (by rw [L1.out, L2.out]; omega) (by rw [L1.out, ← h1]; exact hag.out))
      clear h1 h2
      go_enter Try.func68, Try.ntmps68
      go_wp2_with (go_at_call 53; refine (HC.out _ rfl).mono ?_; rintro e w' ⟨rfl, q, rfl⟩)
      go_ret
      exact ⟨ret_int (by rw [hfin.out]), _, rfl⟩
  · have b1 : ((t : Int) == (n : Int)) = false := by simp; omega
    by_cases h2 : t < m
    · obtain ⟨b1', o1, rfl, _, hc1⟩ := hx.at_ (k := t) (by omega)
      obtain ⟨b2', o2, rfl, _, hc2⟩ := hy.at_ (k := t) (by omega)
      have hne : xs[t]?.getD 0 ≠ ys[t]?.getD 0 := by
        have := cmn_part xs ys (by rw [← HT.out, L1.out]; omega) (by rw [← HT.out, L2.out]; omega)
        rw [← HT.out] at this
        simpa using this
      have hfin := Lib.hid (lexi_of (xs := xs) (ys := ys) (j := t) (by rw [L1.out]; omega) (by rw [L2.out]; omega) hag.out (by simpa using hne))
      have d2 : decide ((t : Int) < (m : Int)) = true := by simp; omega
      have ht1 : t < n := by omega
      clear h1
      by_cases hlt : xs[t]?.getD 0 < ys[t]?.getD 0
      · have d3 : decide (xs[t]?.getD 0 < ys[t]?.getD 0) = true := by simpa using hlt
        have hz := Lib.hid (show cmpI (xs.getD t 0) (ys.getD t 0) = -1 by unfold cmpI; rw [if_pos (by simpa using hlt)])
        clear hne
        go_enter Try.func68, Try.ntmps68
        go_wp2_with (go_at_call 53; refine (HC.out _ rfl).mono ?_; rintro e w' ⟨rfl, q, rfl⟩)
        go_quiet (fail)
        go_wp2
        go_ret
        exact ⟨ret_int (by rw [hfin.out, hz.out]), by first | exact ⟨_, rfl⟩ | exact ⟨_, World.drewN_drewN _ _ _⟩⟩
      · have d3 : decide (xs[t]?.getD 0 < ys[t]?.getD 0) = false := by simpa using hlt
        have hgt : ys[t]?.getD 0 < xs[t]?.getD 0 := by omega
        have hz := Lib.hid (show cmpI (xs.getD t 0) (ys.getD t 0) = 1 by unfold cmpI; rw [if_neg (by simpa using hlt), if_pos (by simpa using hgt)])
        clear hne hlt
        go_enter Try.func68, Try.ntmps68
        go_wp2_with (go_at_call 53; refine (HC.out _ rfl).mono ?_; rintro e w' ⟨rfl, q, rfl⟩)
        go_quiet (fail)
        go_wp2
        go_ret
        exact ⟨ret_int (by rw [hfin.out, hz.out]), by first | exact ⟨_, rfl⟩ | exact ⟨_, World.drewN_drewN _ _ _⟩⟩
    · have d2 : decide (t < m) = false := by simp; omega
      have hfin := Lib.hid (lexi_long (xs := xs) (ys := ys) (by rw [L1.out, L2.out]; omega) (by rw [L2.out]; exact (by omega : t = m) ▸ hag.out))
      clear h1 h2
      go_enter Try.func68, Try.ntmps68
      go_wp2_with (go_at_call 53; refine (HC.out _ rfl).mono ?_; rintro e w' ⟨rfl, q, rfl⟩)
      go_quiet (fail)
      go_wp2
      go_ret
      exact ⟨ret_int (by rw [hfin.out]), by first | exact ⟨_, rfl⟩ | exact ⟨_, World.drewN_drewN _ _ _⟩⟩

theorem rcompare (A B : Option Addr) (n c m d : Nat) (xs ys : List Int) (w : World) (hx : Ints w A n xs) (hy : Ints w B m ys) :
    Calls Try.prog 40 #[.slice A n c, .slice B m d] w fun e w' => e = .returned (.int .i64 (shlex xs ys)) ∧ ∃ q, w' = w.drewN q := by
  have L1 := Lib.hid hx.1
  have L2 := Lib.hid hy.1
  by_cases h : n < m
  · have hfin := Lib.hid (shlex_lt (xs := xs) (ys := ys) (by rw [L1.out, L2.out]; exact h))
    go_enter Try.func40, Try.ntmps40
    go_wp2
    go_ret
    exact ⟨ret_int (by rw [hfin.out]), 0, rfl⟩
  · by_cases h' : m < n
    · have hfin := Lib.hid (shlex_gt (xs := xs) (ys := ys) (by rw [L1.out, L2.out]; omega))
      go_enter Try.func40, Try.ntmps40
      go_wp2
      go_ret
      exact ⟨ret_int (by rw [hfin.out]), 0, rfl⟩
    · have hfin := Lib.hid (shlex_eq (xs := xs) (ys := ys) (by rw [L1.out, L2.out]; omega))
      go_enter Try.func40, Try.ntmps40
      go_wp2_with (go_at_call 68; refine (rlex _ _ _ _ _ _ xs ys _ hx hy).mono ?_; rintro e w' ⟨rfl, q, rfl⟩)
      go_ret
      exact ⟨ret_int (by rw [hfin.out]), _, rfl⟩
end Go.Proofs.Ytkkmcgapbcikiaa
end

section
/- The reference of observe: apart, Valid. -/
namespace Go.Proofs.Ytkkmcgapbcikiaa
open Go.RowKit

abbrev TSr := List (List Int × List Int)
/-- Is the trace p a prefix of one of those behind it, up to k? -/
def pfB (ts : TSr) (p : Nat) : Nat → Bool
  | 0 => false
  | m + 1 => pfB ts p m || (decide (p < m) && decide (cmn (tIn ts m) (tIn ts p) = (tIn ts p).length))
noncomputable def dfz (ts : TSr) (p q : Nat) : Int := Classical.choose (dff_ex (tIn ts p) (tOut ts p) (tIn ts q) (tOut ts q))
theorem dfz_spec (ts : TSr) (p q : Nat) : Dff (tIn ts p) (tOut ts p) (tIn ts q) (tOut ts q) (dfz ts p q) := Classical.choose_spec (dff_ex _ _ _ _)
/-- Does the trace p contradict one of those behind it, up to k? -/
noncomputable def clB (ts : TSr) (p : Nat) : Nat → Bool
  | 0 => false
  | m + 1 => clB ts p m || (decide (p < m) && decide (0 ≤ dfz ts p m))
theorem pfB_zero {ts : TSr} {p : Nat} : ∀ m, m ≤ p + 1 → pfB ts p m = false
  | 0, _ => rfl
  | m + 1, h => by rw [pfB, pfB_zero m (by omega), decide_eq_false (by omega)]; rfl
theorem clB_zero {ts : TSr} {p : Nat} : ∀ m, m ≤ p + 1 → clB ts p m = false
  | 0, _ => rfl
  | m + 1, h => by rw [clB, clB_zero m (by omega), decide_eq_false (by omega)]; rfl
theorem pfB_on {ts : TSr} {p q : Nat} (h : p < q) : pfB ts p (q + 1) = (pfB ts p q || decide (cmn (tIn ts q) (tIn ts p) = (tIn ts p).length)) := by rw [pfB, decide_eq_true h]; simp
theorem clB_on {ts : TSr} {p q : Nat} (h : p < q) : clB ts p (q + 1) = (clB ts p q || decide (0 ≤ dfz ts p q)) := by rw [clB, decide_eq_true h]; simp
theorem pfB_no {ts : TSr} {p m q : Nat} (h : pfB ts p m = false) (h1 : p < q) (h2 : q < m) : ¬ cmn (tIn ts q) (tIn ts p) = (tIn ts p).length := by
  induction m with
  | zero => omega
  | succ m ih =>
    rw [pfB, Bool.or_eq_false_iff] at h
    rcases Nat.lt_or_ge q m with h3 | h3
    · exact ih h.1 h3
    · obtain rfl : q = m := by omega
      have := h.2
      rw [decide_eq_true h1] at this
      simpa using this
theorem clB_no {ts : TSr} {p m q : Nat} (h : clB ts p m = false) (h1 : p < q) (h2 : q < m) : ∀ j, j < cmn (tIn ts p) (tIn ts q) → (tOut ts p).getD j 0 = (tOut ts q).getD j 0 := by
  induction m with
  | zero => omega
  | succ m ih =>
    rw [clB, Bool.or_eq_false_iff] at h
    rcases Nat.lt_or_ge q m with h3 | h3
    · exact ih h.1 h3
    · obtain rfl : q = m := by omega
      have := h.2
      rw [decide_eq_true h1] at this
      have h4 : ¬ 0 ≤ dfz ts p q := by simpa using this
      rcases dfz_spec ts p q with ⟨_, h5⟩ | ⟨k, h5, _⟩
      · exact h5
      · omega
/-- No trace is a prefix of a later one, and none contradicts one. -/
def Pw (ts : TSr) : Prop := ∀ p q, p < q → q < ts.length → ¬ cmn (tIn ts q) (tIn ts p) = (tIn ts p).length ∧ ∀ j, j < cmn (tIn ts p) (tIn ts q) → (tOut ts p).getD j 0 = (tOut ts q).getD j 0
theorem Pw.cons {ts : TSr} (h : Pw ts) : Cons ts := fun a b ha hb j hj => by
  rcases Nat.lt_trichotomy a b with h1 | rfl | h1
  · exact (h a b h1 hb).2 j hj
  · rfl
  · exact ((h b a h1 ha).2 j (by rw [cmn_comm]; exact hj)).symm

set_option linter.unusedSimpArgs false in
set_option linter.unusedVariables false in
set_option maxHeartbeats 8000000 in
set_option maxRecDepth 100000 in
theorem rapart16 (i : Int) (T : Option Addr) (n c : Nat) (ts : TSr) (w : World) (hT : Trs w T n ts) (hF : Full ts) :
    Calls Try.prog 41 #[.agg #[.int .i64 i, .slice T n c]] w fun e w' => ∃ v : Int, e = .returned (.int .i64 v) ∧ Hid (v = 0 → Pw ts) ∧ Below w.heap.size w w' := by
  obtain ⟨w0, hw0⟩ : ∃ w0, w0 = w.alloc (.cells #[.int .i64 i, .slice T n c] 24) := ⟨_, rfl⟩
  have hb0 : Below w.heap.size w w0 := by rw [hw0]; exact alloc_below _ _
  have m0 : Bx w0 w.heap.size #[.int .i64 i, .slice T n c] 24 := by rw [hw0]; exact bx_new _ _ _
  have HM := Lib.hid (fun (W : World) (h : Below w0.heap.size w0 W) => m0.on h)
  have HT := Lib.hid (fun (W : World) (h : Below w0.heap.size w0 W) => (hT.below hb0).below h)
  have HB0 := Lib.hid hb0
  have HW0 := Lib.hid hw0
  have HLT := Lib.hid hT.1
  have HF := Lib.hid hF
  have hn := hT.2.1
  clear hw0 hb0 m0 hT hF
  go_enter Try.func41, Try.ntmps41
  go_wp2
  rw [← HW0.out]
  go_loopw [3] (fun v3 wr => ∃ p : Nat, v3 = .int .i64 p ∧ p ≤ n ∧ Hid (∀ a b, a < b → b < n → a < p → ¬ cmn (tIn ts b) (tIn ts a) = (tIn ts a).length ∧ ∀ j, j < cmn (tIn ts a) (tIn ts b) → (tOut ts a).getD j 0 = (tOut ts b).getD j 0) ∧ Hid (Below w0.heap.size w0 wr)) (fun v3 _ => n - (intOf v3).toNat)
  case atStart => exact ⟨0, rfl, Nat.zero_le _, Lib.hid (fun a b _ _ h => absurd h (Nat.not_lt_zero a)), Lib.hid (Below.refl _ _)⟩
  case round =>
    obtain ⟨p, rfl, hp, HP, HBR⟩ := hrel
    have k1 := (HM.out _ HBR.out).cell 1
    simp at k1
    by_cases hlt : p < n
    · have wp1 : IntKind.i64.wrap ((p : Int) + 1) = ((p + 1 : Nat) : Int) := by rw [IntKind.wrap_i64]; omega
      go_wp2
      clear wp1
      go_loopw [6, 4, 5] (fun v6 v4 v5 wr => ∃ q : Nat, v6 = .int .i64 q ∧ p < q ∧ q ≤ n ∧ v4 = .bool (pfB ts p q) ∧ v5 = .bool (clB ts p q) ∧ Hid (Below w0.heap.size w0 wr)) (fun v6 _ _ _ => n - (intOf v6).toNat)
      case atStart => exact ⟨p + 1, by go_num, by omega, by omega, by rw [pfB_zero _ (Nat.le_refl _)], by rw [clB_zero _ (Nat.le_refl _)], HBR⟩
      case round =>
        obtain ⟨q, rfl, hpq, hqn, rfl, rfl, HBW⟩ := hrel
        have k1 := (HM.out _ HBW.out).cell 1
        simp at k1
        by_cases hlq : q < n
        · obtain ⟨b, off, A1, n1, c1, A2, n2, c2, rfl, hgb, j1, j2, _, _, j3, j4⟩ := (HT.out _ HBW.out).at_ hlt
          obtain ⟨_, _, B1, m1, d1, B2, m2, d2, eT, _, i1, i2, _, _, i3, i4⟩ := (HT.out _ HBW.out).at_ hlq
          cases eT
          have hpI : (p : Int) < (n : Int) := by omega
          have hqI : (q : Int) < (n : Int) := by omega
          have hp0 : (0 : Int) ≤ (p : Int) := by omega
          have hq0 : (0 : Int) ≤ (q : Int) := by omega
          have HPN := Lib.hid (pfB_on (ts := ts) hpq)
          have HCN := Lib.hid (clB_on (ts := ts) hpq)
          obtain ⟨x, hx⟩ : ∃ x, x = pfB ts p q := ⟨_, rfl⟩
          obtain ⟨y, hy⟩ : ∃ y, y = clB ts p q := ⟨_, rfl⟩
          obtain ⟨f, hf⟩ : ∃ f, f = decide (cmn (tIn ts q) (tIn ts p) = (tIn ts p).length) := ⟨_, rfl⟩
          obtain ⟨z, hz⟩ : ∃ z, z = dfz ts p q := ⟨_, rfl⟩
          have HHP := Lib.hid (fun u => rhasprefix B1 A1 m1 d1 n1 c1 (tIn ts q) (tIn ts p) (wr.drewN u) (i3.drewN u) (j3.drewN u))
          have HDI := Lib.hid (fun (W : World) (h : Below wr.heap.size wr W) => rdiffer A1 A2 B1 B2 n1 c1 n2 c2 m1 d1 m2 d2 (tIn ts p) (tOut ts p) (tIn ts q) (tOut ts q) z W (j3.below h) (j4.below h) (i3.below h) (i4.below h) (HF.out p (by rw [HLT.out]; exact hlt)) (HF.out q (by rw [HLT.out]; exact hlq)) (by rw [hz]; exact dfz_spec ts p q))
          rw [← hx, ← hf] at HPN
          rw [← hy, ← hz] at HCN
          rw [← hx, ← hy]
          rw [← hf] at HHP
          have HS := Lib.hid (show ∀ W, Below wr.heap.size wr W → W.cell? ⟨w.heap.size, 1, none⟩ = some (.slice (some ⟨b, off, none⟩) n c) ∧ W.cell? ⟨b, off + p * 2, none⟩ = some (.slice A1 n1 c1) ∧ W.cell? ⟨b, off + p * 2 + 1, none⟩ = some (.slice A2 n2 c2) ∧ W.cell? ⟨b, off + q * 2, none⟩ = some (.slice B1 m1 d1) ∧ W.cell? ⟨b, off + q * 2 + 1, none⟩ = some (.slice B2 m2 d2) from fun W h => ⟨(h.cell (p := ⟨w.heap.size, 1, none⟩) (World.block_lt_of_cell? _ _ k1)).trans k1, (h.cell (p := ⟨b, off + p * 2, none⟩) hgb).trans j1, (h.cell (p := ⟨b, off + p * 2 + 1, none⟩) hgb).trans j2, (h.cell (p := ⟨b, off + q * 2, none⟩) hgb).trans i1, (h.cell (p := ⟨b, off + q * 2 + 1, none⟩) hgb).trans i2⟩)
          clear hx hy hf hz j3 j4 i3 i4 hgb
          cases x <;> cases y
          case false.false =>
            go_wp2
            go_quiet ((go_at_call 48; exact Calls.quiet_of (HHP.out _)))
            go_upto_region 9 with fail
            have hbf : Below wr.heap.size wr ((wr.drewN nq).drew) := below_drewN (below_drewN (Below.refl _ _) nq) 1
            refine wp_region_heldX (X := fun k => ([] : List Nat).contains k) (S := fun W => W.cell? ⟨w.heap.size, 1, none⟩ = some (.slice (some ⟨b, off, none⟩) n c) ∧ W.cell? ⟨b, off + p * 2, none⟩ = some (.slice A1 n1 c1) ∧ W.cell? ⟨b, off + p * 2 + 1, none⟩ = some (.slice A2 n2 c2) ∧ W.cell? ⟨b, off + q * 2, none⟩ = some (.slice B1 m1 d1) ∧ W.cell? ⟨b, off + q * 2 + 1, none⟩ = some (.slice B2 m2 d2)) (by kernel_rfl) ?_
            refine wpAnyX_pure (i := 0) (v := ?_) rfl (by kernel_rfl) (by kernel_rfl) (by kernel_rfl) (fun _ _ _ h => h) (Or.inl ⟨by rfl, ?_⟩) ?_
            rotate_left
            · (intro W _; go_simp; try with_reducible rfl)
            (try simp only [Act.put, List.getElem_toArray, List.getElem_cons_zero, List.getElem_cons_succ, List.setIfInBounds_toArray, List.set_cons_zero, List.set_cons_succ])
            refine wpAnyX_pure (i := 1) (v := ?_) rfl (by kernel_rfl) (by kernel_rfl) (by kernel_rfl) (fun _ _ _ h => h) (Or.inl ⟨by rfl, ?_⟩) ?_
            rotate_left
            · (intro W _; go_simp; try with_reducible rfl)
            (try simp only [Act.put, List.getElem_toArray, List.getElem_cons_zero, List.getElem_cons_succ, List.setIfInBounds_toArray, List.set_cons_zero, List.set_cons_succ])
            refine wpAnyX_pure (i := 2) (v := ?_) rfl (by kernel_rfl) (by kernel_rfl) (by kernel_rfl) (fun _ _ _ h => h) (Or.inl ⟨by rfl, ?_⟩) ?_
            rotate_left
            · (intro W _; go_simp; try with_reducible rfl)
            (try simp only [Act.put, List.getElem_toArray, List.getElem_cons_zero, List.getElem_cons_succ, List.setIfInBounds_toArray, List.set_cons_zero, List.set_cons_succ])
            refine wpAnyX_takeL (L := []) (i := 3) (v := ?_) rfl (by kernel_rfl) (by kernel_rfl) (by kernel_rfl) (by kernel_rfl) (fun _ _ _ h => h) (Or.inl ⟨by rfl, ?_⟩) (HS.out _ hbf) ?_
            rotate_left
            · (intro W hSW; (try dsimp only at hSW); obtain ⟨z0, z1, z2, z3, z4⟩ := hSW; go_simp; try with_reducible rfl)
            (try simp only [Act.put, List.getElem_toArray, List.getElem_cons_zero, List.getElem_cons_succ, List.setIfInBounds_toArray, List.set_cons_zero, List.set_cons_succ])
            refine wpAnyX_pure (i := 4) (v := ?_) rfl (by kernel_rfl) (by kernel_rfl) (by kernel_rfl) (fun _ _ _ h => h) (Or.inl ⟨by rfl, ?_⟩) ?_
            rotate_left
            · (intro W _; go_simp; try with_reducible rfl)
            (try simp only [Act.put, List.getElem_toArray, List.getElem_cons_zero, List.getElem_cons_succ, List.setIfInBounds_toArray, List.set_cons_zero, List.set_cons_succ])
            refine wpAnyX_pure (i := 5) (v := ?_) rfl (by kernel_rfl) (by kernel_rfl) (by kernel_rfl) (fun _ _ _ h => h) (Or.inl ⟨by rfl, ?_⟩) ?_
            rotate_left
            · (intro W _; go_simp; try with_reducible rfl)
            (try simp only [Act.put, List.getElem_toArray, List.getElem_cons_zero, List.getElem_cons_succ, List.setIfInBounds_toArray, List.set_cons_zero, List.set_cons_succ])
            refine wpAnyX_takeL (L := []) (i := 6) (v := ?_) rfl (by kernel_rfl) (by kernel_rfl) (by kernel_rfl) (by kernel_rfl) (fun _ _ _ h => h) (Or.inl ⟨by rfl, ?_⟩) (HS.out _ hbf) ?_
            rotate_left
            · (intro W hSW; (try dsimp only at hSW); obtain ⟨z0, z1, z2, z3, z4⟩ := hSW; go_simp; try with_reducible rfl)
            (try simp only [Act.put, List.getElem_toArray, List.getElem_cons_zero, List.getElem_cons_succ, List.setIfInBounds_toArray, List.set_cons_zero, List.set_cons_succ])
            refine wpAnyX_pure (i := 7) (v := ?_) rfl (by kernel_rfl) (by kernel_rfl) (by kernel_rfl) (fun _ _ _ h => h) (Or.inl ⟨by rfl, ?_⟩) ?_
            rotate_left
            · (intro W _; go_simp; try with_reducible rfl)
            (try simp only [Act.put, List.getElem_toArray, List.getElem_cons_zero, List.getElem_cons_succ, List.setIfInBounds_toArray, List.set_cons_zero, List.set_cons_succ])
            refine wpAnyX_takeL (L := []) (i := 8) (v := ?_) rfl (by kernel_rfl) (by kernel_rfl) (by kernel_rfl) (by kernel_rfl) (fun _ _ _ h => h) (Or.inl ⟨by rfl, ?_⟩) (HS.out _ hbf) ?_
            rotate_left
            · (intro W hSW; (try dsimp only at hSW); obtain ⟨z0, z1, z2, z3, z4⟩ := hSW; go_simp; try with_reducible rfl)
            (try simp only [Act.put, List.getElem_toArray, List.getElem_cons_zero, List.getElem_cons_succ, List.setIfInBounds_toArray, List.set_cons_zero, List.set_cons_succ])
            refine wpAnyX_pure (i := 9) (v := ?_) rfl (by kernel_rfl) (by kernel_rfl) (by kernel_rfl) (fun _ _ _ h => h) (Or.inl ⟨by rfl, ?_⟩) ?_
            rotate_left
            · (intro W _; go_simp; try with_reducible rfl)
            (try simp only [Act.put, List.getElem_toArray, List.getElem_cons_zero, List.getElem_cons_succ, List.setIfInBounds_toArray, List.set_cons_zero, List.set_cons_succ])
            refine wpAnyX_pure (i := 10) (v := ?_) rfl (by kernel_rfl) (by kernel_rfl) (by kernel_rfl) (fun _ _ _ h => h) (Or.inl ⟨by rfl, ?_⟩) ?_
            rotate_left
            · (intro W _; go_simp; try with_reducible rfl)
            (try simp only [Act.put, List.getElem_toArray, List.getElem_cons_zero, List.getElem_cons_succ, List.setIfInBounds_toArray, List.set_cons_zero, List.set_cons_succ])
            refine wpAnyX_takeL (L := []) (i := 11) (v := ?_) rfl (by kernel_rfl) (by kernel_rfl) (by kernel_rfl) (by kernel_rfl) (fun _ _ _ h => h) (Or.inl ⟨by rfl, ?_⟩) (HS.out _ hbf) ?_
            rotate_left
            · (intro W hSW; (try dsimp only at hSW); obtain ⟨z0, z1, z2, z3, z4⟩ := hSW; go_simp; try with_reducible rfl)
            (try simp only [Act.put, List.getElem_toArray, List.getElem_cons_zero, List.getElem_cons_succ, List.setIfInBounds_toArray, List.set_cons_zero, List.set_cons_succ])
            refine wpAnyX_one (i := 12) rfl (by kernel_rfl) (fun K hK => ?_)
            go_simp
            go_at_call 52
            refine (HDI.out _ hbf).mono ?_
            rintro r w5 ⟨rfl, b5⟩
            have hbf := bt hbf b5
            clear b5
            refine hK.out _ _ (fun _ _ => HS.out _ hbf) ?_
            (try simp only [Act.put, List.getElem_toArray, List.getElem_cons_zero, List.getElem_cons_succ, List.setIfInBounds_toArray, List.set_cons_zero, List.set_cons_succ])
            refine wpAnyX_pure (i := 13) (v := ?_) rfl (by kernel_rfl) (by kernel_rfl) (by kernel_rfl) (fun _ _ _ h => h) (Or.inl ⟨by rfl, ?_⟩) ?_
            rotate_left
            · (intro W _; go_simp; try with_reducible rfl)
            (try simp only [Act.put, List.getElem_toArray, List.getElem_cons_zero, List.getElem_cons_succ, List.setIfInBounds_toArray, List.set_cons_zero, List.set_cons_succ])
            refine wpAnyX_pure (i := 14) (v := ?_) rfl (by kernel_rfl) (by kernel_rfl) (by kernel_rfl) (fun _ _ _ h => h) (Or.inl ⟨by rfl, ?_⟩) ?_
            rotate_left
            · (intro W _; go_simp; try with_reducible rfl)
            (try simp only [Act.put, List.getElem_toArray, List.getElem_cons_zero, List.getElem_cons_succ, List.setIfInBounds_toArray, List.set_cons_zero, List.set_cons_succ])
            refine wpAnyX_pure (i := 15) (v := ?_) rfl (by kernel_rfl) (by kernel_rfl) (by kernel_rfl) (fun _ _ _ h => h) (Or.inl ⟨by rfl, ?_⟩) ?_
            rotate_left
            · (intro W _; go_simp; try with_reducible rfl)
            (try simp only [Act.put, List.getElem_toArray, List.getElem_cons_zero, List.getElem_cons_succ, List.setIfInBounds_toArray, List.set_cons_zero, List.set_cons_succ])
            refine wpAnyX_done (by kernel_rfl) ?_ _
            have HBF := Lib.hid (bt HBW.out hbf)
            clear hbf
            go_wp2
            go_roundw
            case rel => exact ⟨q + 1, by go_num, by omega, by omega, by rw [HPN.out]; rfl, by rw [HCN.out]; rfl, HBF⟩
            case measure => simp [intOf]; omega
          case true.false =>
            go_wp2
            go_quiet (fail)
            go_upto_region 9 with fail
            have hbf : Below wr.heap.size wr ((wr.drewN nq).drew) := below_drewN (below_drewN (Below.refl _ _) nq) 1
            refine wp_region_heldX (X := fun k => ([] : List Nat).contains k) (S := fun W => W.cell? ⟨w.heap.size, 1, none⟩ = some (.slice (some ⟨b, off, none⟩) n c) ∧ W.cell? ⟨b, off + p * 2, none⟩ = some (.slice A1 n1 c1) ∧ W.cell? ⟨b, off + p * 2 + 1, none⟩ = some (.slice A2 n2 c2) ∧ W.cell? ⟨b, off + q * 2, none⟩ = some (.slice B1 m1 d1) ∧ W.cell? ⟨b, off + q * 2 + 1, none⟩ = some (.slice B2 m2 d2)) (by kernel_rfl) ?_
            refine wpAnyX_pure (i := 0) (v := ?_) rfl (by kernel_rfl) (by kernel_rfl) (by kernel_rfl) (fun _ _ _ h => h) (Or.inl ⟨by rfl, ?_⟩) ?_
            rotate_left
            · (intro W _; go_simp; try with_reducible rfl)
            (try simp only [Act.put, List.getElem_toArray, List.getElem_cons_zero, List.getElem_cons_succ, List.setIfInBounds_toArray, List.set_cons_zero, List.set_cons_succ])
            refine wpAnyX_pure (i := 1) (v := ?_) rfl (by kernel_rfl) (by kernel_rfl) (by kernel_rfl) (fun _ _ _ h => h) (Or.inl ⟨by rfl, ?_⟩) ?_
            rotate_left
            · (intro W _; go_simp; try with_reducible rfl)
            (try simp only [Act.put, List.getElem_toArray, List.getElem_cons_zero, List.getElem_cons_succ, List.setIfInBounds_toArray, List.set_cons_zero, List.set_cons_succ])
            refine wpAnyX_pure (i := 2) (v := ?_) rfl (by kernel_rfl) (by kernel_rfl) (by kernel_rfl) (fun _ _ _ h => h) (Or.inl ⟨by rfl, ?_⟩) ?_
            rotate_left
            · (intro W _; go_simp; try with_reducible rfl)
            (try simp only [Act.put, List.getElem_toArray, List.getElem_cons_zero, List.getElem_cons_succ, List.setIfInBounds_toArray, List.set_cons_zero, List.set_cons_succ])
            refine wpAnyX_takeL (L := []) (i := 3) (v := ?_) rfl (by kernel_rfl) (by kernel_rfl) (by kernel_rfl) (by kernel_rfl) (fun _ _ _ h => h) (Or.inl ⟨by rfl, ?_⟩) (HS.out _ hbf) ?_
            rotate_left
            · (intro W hSW; (try dsimp only at hSW); obtain ⟨z0, z1, z2, z3, z4⟩ := hSW; go_simp; try with_reducible rfl)
            (try simp only [Act.put, List.getElem_toArray, List.getElem_cons_zero, List.getElem_cons_succ, List.setIfInBounds_toArray, List.set_cons_zero, List.set_cons_succ])
            refine wpAnyX_pure (i := 4) (v := ?_) rfl (by kernel_rfl) (by kernel_rfl) (by kernel_rfl) (fun _ _ _ h => h) (Or.inl ⟨by rfl, ?_⟩) ?_
            rotate_left
            · (intro W _; go_simp; try with_reducible rfl)
            (try simp only [Act.put, List.getElem_toArray, List.getElem_cons_zero, List.getElem_cons_succ, List.setIfInBounds_toArray, List.set_cons_zero, List.set_cons_succ])
            refine wpAnyX_pure (i := 5) (v := ?_) rfl (by kernel_rfl) (by kernel_rfl) (by kernel_rfl) (fun _ _ _ h => h) (Or.inl ⟨by rfl, ?_⟩) ?_
            rotate_left
            · (intro W _; go_simp; try with_reducible rfl)
            (try simp only [Act.put, List.getElem_toArray, List.getElem_cons_zero, List.getElem_cons_succ, List.setIfInBounds_toArray, List.set_cons_zero, List.set_cons_succ])
            refine wpAnyX_takeL (L := []) (i := 6) (v := ?_) rfl (by kernel_rfl) (by kernel_rfl) (by kernel_rfl) (by kernel_rfl) (fun _ _ _ h => h) (Or.inl ⟨by rfl, ?_⟩) (HS.out _ hbf) ?_
            rotate_left
            · (intro W hSW; (try dsimp only at hSW); obtain ⟨z0, z1, z2, z3, z4⟩ := hSW; go_simp; try with_reducible rfl)
            (try simp only [Act.put, List.getElem_toArray, List.getElem_cons_zero, List.getElem_cons_succ, List.setIfInBounds_toArray, List.set_cons_zero, List.set_cons_succ])
            refine wpAnyX_pure (i := 7) (v := ?_) rfl (by kernel_rfl) (by kernel_rfl) (by kernel_rfl) (fun _ _ _ h => h) (Or.inl ⟨by rfl, ?_⟩) ?_
            rotate_left
            · (intro W _; go_simp; try with_reducible rfl)
            (try simp only [Act.put, List.getElem_toArray, List.getElem_cons_zero, List.getElem_cons_succ, List.setIfInBounds_toArray, List.set_cons_zero, List.set_cons_succ])
            refine wpAnyX_takeL (L := []) (i := 8) (v := ?_) rfl (by kernel_rfl) (by kernel_rfl) (by kernel_rfl) (by kernel_rfl) (fun _ _ _ h => h) (Or.inl ⟨by rfl, ?_⟩) (HS.out _ hbf) ?_
            rotate_left
            · (intro W hSW; (try dsimp only at hSW); obtain ⟨z0, z1, z2, z3, z4⟩ := hSW; go_simp; try with_reducible rfl)
            (try simp only [Act.put, List.getElem_toArray, List.getElem_cons_zero, List.getElem_cons_succ, List.setIfInBounds_toArray, List.set_cons_zero, List.set_cons_succ])
            refine wpAnyX_pure (i := 9) (v := ?_) rfl (by kernel_rfl) (by kernel_rfl) (by kernel_rfl) (fun _ _ _ h => h) (Or.inl ⟨by rfl, ?_⟩) ?_
            rotate_left
            · (intro W _; go_simp; try with_reducible rfl)
            (try simp only [Act.put, List.getElem_toArray, List.getElem_cons_zero, List.getElem_cons_succ, List.setIfInBounds_toArray, List.set_cons_zero, List.set_cons_succ])
            refine wpAnyX_pure (i := 10) (v := ?_) rfl (by kernel_rfl) (by kernel_rfl) (by kernel_rfl) (fun _ _ _ h => h) (Or.inl ⟨by rfl, ?_⟩) ?_
            rotate_left
            · (intro W _; go_simp; try with_reducible rfl)
            (try simp only [Act.put, List.getElem_toArray, List.getElem_cons_zero, List.getElem_cons_succ, List.setIfInBounds_toArray, List.set_cons_zero, List.set_cons_succ])
            refine wpAnyX_takeL (L := []) (i := 11) (v := ?_) rfl (by kernel_rfl) (by kernel_rfl) (by kernel_rfl) (by kernel_rfl) (fun _ _ _ h => h) (Or.inl ⟨by rfl, ?_⟩) (HS.out _ hbf) ?_
            rotate_left
            · (intro W hSW; (try dsimp only at hSW); obtain ⟨z0, z1, z2, z3, z4⟩ := hSW; go_simp; try with_reducible rfl)
            (try simp only [Act.put, List.getElem_toArray, List.getElem_cons_zero, List.getElem_cons_succ, List.setIfInBounds_toArray, List.set_cons_zero, List.set_cons_succ])
            refine wpAnyX_one (i := 12) rfl (by kernel_rfl) (fun K hK => ?_)
            go_simp
            go_at_call 52
            refine (HDI.out _ hbf).mono ?_
            rintro r w5 ⟨rfl, b5⟩
            have hbf := bt hbf b5
            clear b5
            refine hK.out _ _ (fun _ _ => HS.out _ hbf) ?_
            (try simp only [Act.put, List.getElem_toArray, List.getElem_cons_zero, List.getElem_cons_succ, List.setIfInBounds_toArray, List.set_cons_zero, List.set_cons_succ])
            refine wpAnyX_pure (i := 13) (v := ?_) rfl (by kernel_rfl) (by kernel_rfl) (by kernel_rfl) (fun _ _ _ h => h) (Or.inl ⟨by rfl, ?_⟩) ?_
            rotate_left
            · (intro W _; go_simp; try with_reducible rfl)
            (try simp only [Act.put, List.getElem_toArray, List.getElem_cons_zero, List.getElem_cons_succ, List.setIfInBounds_toArray, List.set_cons_zero, List.set_cons_succ])
            refine wpAnyX_pure (i := 14) (v := ?_) rfl (by kernel_rfl) (by kernel_rfl) (by kernel_rfl) (fun _ _ _ h => h) (Or.inl ⟨by rfl, ?_⟩) ?_
            rotate_left
            · (intro W _; go_simp; try with_reducible rfl)
            (try simp only [Act.put, List.getElem_toArray, List.getElem_cons_zero, List.getElem_cons_succ, List.setIfInBounds_toArray, List.set_cons_zero, List.set_cons_succ])
            refine wpAnyX_pure (i := 15) (v := ?_) rfl (by kernel_rfl) (by kernel_rfl) (by kernel_rfl) (fun _ _ _ h => h) (Or.inl ⟨by rfl, ?_⟩) ?_
            rotate_left
            · (intro W _; go_simp; try with_reducible rfl)
            (try simp only [Act.put, List.getElem_toArray, List.getElem_cons_zero, List.getElem_cons_succ, List.setIfInBounds_toArray, List.set_cons_zero, List.set_cons_succ])
            refine wpAnyX_done (by kernel_rfl) ?_ _
            have HBF := Lib.hid (bt HBW.out hbf)
            clear hbf
            go_wp2
            go_roundw
            case rel => exact ⟨q + 1, by go_num, by omega, by omega, by rw [HPN.out]; rfl, by rw [HCN.out]; rfl, HBF⟩
            case measure => simp [intOf]; omega
          case false.true =>
            go_wp2
            go_quiet ((go_at_call 48; exact Calls.quiet_of (HHP.out _)))
            go_wp2
            go_quiet (fail)
            go_wp2
            go_roundw
            case rel => exact ⟨q + 1, by go_num, by omega, by omega, by rw [HPN.out]; rfl, by rw [HCN.out]; rfl, Lib.hid (bt HBW.out (by first | exact below_drewN (Below.refl _ _) _ | exact below_drewN (below_drewN (Below.refl _ _) _) _))⟩
            case measure => simp [intOf]; omega
          case true.true =>
            go_wp2
            go_quiet (fail)
            go_wp2
            go_quiet (fail)
            go_wp2
            go_roundw
            case rel => exact ⟨q + 1, by go_num, by omega, by omega, by rw [HPN.out]; rfl, by rw [HCN.out]; rfl, Lib.hid (bt HBW.out (by first | exact below_drewN (Below.refl _ _) _ | exact below_drewN (below_drewN (Below.refl _ _) _) _))⟩
            case measure => simp [intOf]; omega
        · obtain rfl : q = n := by omega
          obtain ⟨x, hx⟩ : ∃ x, x = pfB ts p q := ⟨_, rfl⟩
          obtain ⟨y, hy⟩ : ∃ y, y = clB ts p q := ⟨_, rfl⟩
          rw [← hx, ← hy]
          have HXX := Lib.hid hx
          have HYY := Lib.hid hy
          clear hx hy
          cases x
          case true =>
            go_wp2
            go_ret
            exact ⟨7, rfl, Lib.hid (fun h => absurd h (by decide)), bt HB0.out HBW.out⟩
          case false =>
            cases y
            case true =>
              go_wp2
              go_ret
              exact ⟨13, rfl, Lib.hid (fun h => absurd h (by decide)), bt HB0.out HBW.out⟩
            case false =>
              have HP2 := Lib.hid (show ∀ a b, a < b → b < q → a < p + 1 → ¬ cmn (tIn ts b) (tIn ts a) = (tIn ts a).length ∧ ∀ j, j < cmn (tIn ts a) (tIn ts b) → (tOut ts a).getD j 0 = (tOut ts b).getD j 0 from fun a b h1 h2 h3 => by
                rcases Nat.lt_or_ge a p with h4 | h4
                · exact HP.out a b h1 h2 h4
                · obtain rfl : a = p := by omega
                  exact ⟨pfB_no HXX.out.symm h1 h2, clB_no HYY.out.symm h1 h2⟩)
              go_wp2
              go_roundw
              case rel => exact ⟨p + 1, by go_num, by omega, HP2, HBW⟩
              case measure => simp [intOf]; omega
    · obtain rfl : p = n := by omega
      go_wp2
      go_ret
      exact ⟨0, rfl, Lib.hid (fun _ a b h1 h2 => HP.out a b h1 (by rw [← HLT.out]; exact h2) (by rw [← HLT.out]; omega)), bt HB0.out HBR.out⟩
end Go.Proofs.Ytkkmcgapbcikiaa
end

section
/- The reference of observe: Valid. -/
namespace Go.Proofs.Ytkkmcgapbcikiaa
open Go.RowKit

/-- What valid observations are. -/
def ObsV (i : Int) (ts : TSr) : Prop := Srt ts ∧ Full ts ∧ Cons ts ∧ Props i ts ∧ Pw ts ∧ (∀ j, j < ts.length → 0 < (tIn ts j).length) ∧ 1 ≤ i ∧ i ≤ 64 ∧ ts.length ≤ 10000
theorem srt_adj {ts : TSr} (h : ∀ j, j + 1 < ts.length → shlex (tIn ts j) (tIn ts (j + 1)) < 0) : Srt ts := fun a b hab hb => by
  induction b with
  | zero => omega
  | succ b ih =>
    have h1 := h b hb
    rcases Nat.lt_or_ge a b with h2 | h2
    · have h3 := ih h2 (by omega)
      exact (shlex_trans _ (tIn ts b) _).2 h3 (by omega)
    · rw [show a = b by omega]; exact h1

set_option linter.unusedSimpArgs false in
set_option linter.unusedVariables false in
set_option maxHeartbeats 8000000 in
set_option maxRecDepth 100000 in
theorem rvalid16 (i : Int) (T : Option Addr) (n c : Nat) (ts : TSr) (w : World) (hT : Trs w T n ts) :
    Calls Try.prog 15 #[.agg #[.int .i64 i, .slice T n c]] w fun e w' => ∃ v : Int, e = .returned (.int .i64 v) ∧ Hid (v = 0 → ObsV i ts) ∧ Below w.heap.size w w' := by
  obtain ⟨w0, hw0⟩ : ∃ w0, w0 = w.alloc (.cells #[.int .i64 i, .slice T n c] 24) := ⟨_, rfl⟩
  have hb0 : Below w.heap.size w w0 := by rw [hw0]; exact alloc_below _ _
  have m0 : Bx w0 w.heap.size #[.int .i64 i, .slice T n c] 24 := by rw [hw0]; exact bx_new _ _ _
  have HM := Lib.hid (fun (W : World) (h : Below w0.heap.size w0 W) => m0.on h)
  have HT := Lib.hid (fun (W : World) (h : Below w0.heap.size w0 W) => (hT.below hb0).below h)
  have HB0 := Lib.hid hb0
  have HW0 := Lib.hid hw0
  have HLT := Lib.hid hT.1
  have hn := hT.2.1
  have k0 := m0.cell 0
  have k1 := m0.cell 1
  simp at k0 k1
  rw [hw0] at k0 k1
  clear hw0 hb0 m0 hT
  by_cases hi1 : i < 1
  · go_enter Try.func15, Try.ntmps15
    go_wp2
    rw [← HW0.out]
    go_ret
    exact ⟨2, rfl, Lib.hid (fun h => absurd h (by decide)), HB0.out⟩
  by_cases hi2 : 64 < i
  · go_enter Try.func15, Try.ntmps15
    go_wp2
    rw [← HW0.out]
    go_ret
    exact ⟨2, rfl, Lib.hid (fun h => absurd h (by decide)), HB0.out⟩
  by_cases hbig : 10000 < n
  · have hbI : (10000 : Int) < (n : Int) := by omega
    go_enter Try.func15, Try.ntmps15
    go_wp2
    rw [← HW0.out]
    go_ret
    exact ⟨11, rfl, Lib.hid (fun h => absurd h (by decide)), HB0.out⟩
  have hbI : ¬ (10000 : Int) < (n : Int) := by omega
  go_enter Try.func15, Try.ntmps15
  go_wp2
  rw [← HW0.out]
  clear k0 k1
  go_loopw [3] (fun v3 wr => ∃ k : Nat, v3 = .int .i64 k ∧ k ≤ n ∧ Hid (∀ j, j < k → prpE (tIn ts j) (tOut ts j) i = 0 ∧ 0 < (tIn ts j).length ∧ (0 < j → shlex (tIn ts (j - 1)) (tIn ts j) < 0)) ∧ Hid (Below w0.heap.size w0 wr)) (fun v3 _ => n - (intOf v3).toNat)
  case atStart => exact ⟨0, rfl, Nat.zero_le _, Lib.hid (fun j h => absurd h (Nat.not_lt_zero j)), Lib.hid (Below.refl _ _)⟩
  case round =>
    obtain ⟨k, rfl, hk, HP, HBR⟩ := hrel
    by_cases hlt : k < n
    · obtain ⟨b, off, A1, n1, c1, A2, n2, c2, rfl, hgb, j1, j2, _, _, j3, j4⟩ := (HT.out _ HBR.out).at_ hlt
      obtain ⟨wa, hwa⟩ : ∃ wa, wa = wr.alloc (.cells #[.slice A1 n1 c1, .slice A2 n2 c2] 38) := ⟨_, rfl⟩
      have hal : Below wr.heap.size wr wa := by rw [hwa]; exact alloc_below _ _
      have hbx : Bx wa wr.heap.size #[.slice A1 n1 c1, .slice A2 n2 c2] 38 := by rw [hwa]; exact bx_new _ _ _
      have z1 := (HM.out _ HBR.out).cell 1
      have k0 := (HM.out _ (bt HBR.out hal)).cell 0
      have k1 := (HM.out _ (bt HBR.out hal)).cell 1
      have x0 := hbx.cell 0
      have x1 := hbx.cell 1
      simp at z1 k0 k1 x0 x1
      have HRC := Lib.hid (rcheck A1 n1 c1 i (tIn ts k) wa (j3.below hal))
      have HRP := Lib.hid (rproper A1 A2 n1 c1 n2 c2 i (tIn ts k) (tOut ts k) wa (j3.below hal) (j4.below hal))
      have HWA := Lib.hid hwa
      have HBA := Lib.hid (bt HBR.out hal)
      have HBX := Lib.hid hbx
      have HL1 := Lib.hid j3.1
      rw [hwa] at k0 k1 x0 x1
      clear hwa hal hbx j3 j4 hgb
      by_cases hc : chk (tIn ts k) i = 0
      case neg =>
        obtain ⟨E, hE⟩ : ∃ E, E = chk (tIn ts k) i := ⟨_, rfl⟩
        rw [← hE] at HRC hc
        have hne : (E != 0) = true := by simpa using hc
        have HNE := Lib.hid hc
        clear hE hc
        go_wp2_with fail
        rw [← HWA.out]
        refine HRC.out.mono ?_
        rintro r w1 ⟨rfl, rfl⟩
        go_wp2
        go_ret
        exact ⟨E, rfl, Lib.hid (fun h => absurd h HNE.out), bt HB0.out HBA.out⟩
      rw [hc] at HRC
      by_cases h0 : n1 = 0
      · subst h0
        clear hc
        go_wp2_with fail
        rw [← HWA.out]
        refine HRC.out.mono ?_
        rintro r w1 ⟨rfl, rfl⟩
        rw [← HWA.out] at k0 k1 x0 x1
        go_wp2
        go_ret
        exact ⟨19, rfl, Lib.hid (fun h => absurd h (by decide)), bt HB0.out HBA.out⟩
      have h0f : ((n1 : Int) == 0) = false := by rw [beq_eq_false_iff_ne]; omega
      by_cases hp : prpE (tIn ts k) (tOut ts k) i = 0
      case neg =>
        obtain ⟨E, hE⟩ : ∃ E, E = prpE (tIn ts k) (tOut ts k) i := ⟨_, rfl⟩
        rw [← hE] at HRP hp
        have hne : (E != 0) = true := by simpa using hp
        have HNE := Lib.hid hp
        clear hE hp hc
        go_wp2_with fail
        rw [← HWA.out]
        refine HRC.out.mono ?_
        rintro r w1 ⟨rfl, rfl⟩
        rw [← HWA.out] at k0 k1 x0 x1
        go_wp2_with fail
        refine HRP.out.mono ?_
        rintro r w2 ⟨rfl, a2⟩
        clear k0 k1 x0 x1
        have HB2 := Lib.hid (bt HBA.out a2)
        clear a2
        go_wp2
        go_ret
        exact ⟨E, rfl, Lib.hid (fun h => absurd h HNE.out), bt HB0.out HB2.out⟩
      rw [hp] at HRP
      have HPP := Lib.hid hp
      clear hp hc
      by_cases hk0 : k = 0
      · have hkz : ¬ 0 < k := by omega
        have HK0 := Lib.hid hk0
        clear hk0
        go_wp2_with fail
        rw [← HWA.out]
        refine HRC.out.mono ?_
        rintro r w1 ⟨rfl, rfl⟩
        rw [← HWA.out] at k0 k1 x0 x1
        go_wp2_with fail
        refine HRP.out.mono ?_
        rintro r w2 ⟨rfl, a2⟩
        clear k0 k1 x0 x1
        have HB2 := Lib.hid (bt HBA.out a2)
        have HP2 := Lib.hid (show ∀ j, j < k + 1 → prpE (tIn ts j) (tOut ts j) i = 0 ∧ 0 < (tIn ts j).length ∧ (0 < j → shlex (tIn ts (j - 1)) (tIn ts j) < 0) from fun j hj => by
          have hk0 := HK0.out
          obtain rfl : j = k := by omega
          exact ⟨HPP.out, by rw [HL1.out]; omega, fun h => absurd h (by omega)⟩)
        clear a2
        go_wp2
        go_quiet (fail)
        go_wp2
        go_roundw
        case rel => exact ⟨k + 1, by go_num, by omega, HP2, Lib.hid (below_drewN HB2.out _)⟩
        case measure => simp [intOf]; omega
      · obtain ⟨kp, hkp⟩ : ∃ kp, k = kp + 1 := ⟨k - 1, by omega⟩
        have hkpos : 0 < k := by omega
        have hw1 : IntKind.i64.wrap ((k : Int) - 1) = (kp : Int) := by rw [IntKind.wrap_i64]; omega
        have hkI : (kp : Int) < (n : Int) := by omega
        have hk0I : (0 : Int) ≤ (kp : Int) := by omega
        have HKP := Lib.hid hkp
        have hkpn : kp < n := by omega
        clear hkp
        go_wp2_with fail
        rw [← HWA.out]
        refine HRC.out.mono ?_
        rintro r w1 ⟨rfl, rfl⟩
        rw [← HWA.out] at k0 k1 x0 x1
        go_wp2_with fail
        refine HRP.out.mono ?_
        rintro r w2 ⟨rfl, a2⟩
        have hb2 := bt HBA.out a2
        clear k0 k1 x0 x1 z1
        have k1 := (HM.out _ hb2).cell 1
        have x0 := (HBX.out.on a2).cell 0
        simp at k1 x0
        obtain ⟨_, _, B1, m1, d1, B2, m2, d2, eT, _, i1, _, _, _, i3, _⟩ := (HT.out _ hb2).at_ hkpn
        cases eT
        obtain ⟨_, _, D1, p1, f1, D2, p2, f2, eT, _, g1, _, _, _, g3, _⟩ := (HT.out _ hb2).at_ hlt
        cases eT
        have e1 : (Value.slice A1 n1 c1) = .slice D1 p1 f1 := by
          have hgw : b < w0.heap.size := by
            obtain ⟨_, _, _, _, _, _, _, _, eQ, hq, _⟩ := (HT.out _ (Below.refl _ _)).at_ hlt
            cases eQ
            exact hq
          have h5 := hb2.cell (p := ⟨b, off + k * 2, none⟩) hgw
          have h6 := HBR.out.cell (p := ⟨b, off + k * 2, none⟩) hgw
          have h7 := h5.trans (h6.symm.trans j1)
          rw [g1] at h7
          cases h7
          rfl
        cases e1
        have HCP := Lib.hid (fun u => rcompare B1 A1 m1 d1 n1 c1 (tIn ts kp) (tIn ts k) (w2.drewN u) (i3.drewN u) (g3.drewN u))
        have HB2 := Lib.hid hb2
        clear a2 hb2 i3 g3 g1
        obtain ⟨s, hs⟩ : ∃ s, s = shlex (tIn ts kp) (tIn ts k) := ⟨_, rfl⟩
        rw [← hs] at HCP
        have HSS := Lib.hid hs
        clear hs
        by_cases hsn : 0 ≤ s
        · go_wp2
          go_quiet ((go_at_call 40; exact Calls.quiet_of (HCP.out _)))
          go_wp2
          go_ret
          exact ⟨10, rfl, Lib.hid (fun h => absurd h (by decide)), bt HB0.out (below_drewN HB2.out _)⟩
        · have HP2 := Lib.hid (show ∀ j, j < k + 1 → prpE (tIn ts j) (tOut ts j) i = 0 ∧ 0 < (tIn ts j).length ∧ (0 < j → shlex (tIn ts (j - 1)) (tIn ts j) < 0) from fun j hj => by
            rcases Nat.lt_or_ge j k with h | h
            · exact HP.out j h
            · obtain rfl : j = k := by omega
              refine ⟨HPP.out, by rw [HL1.out]; omega, fun _ => ?_⟩
              rw [show j - 1 = kp by have := HKP.out; omega, ← HSS.out]
              omega)
          go_wp2
          go_quiet ((go_at_call 40; exact Calls.quiet_of (HCP.out _)))
          go_wp2
          go_roundw
          case rel => exact ⟨k + 1, by go_num, by omega, HP2, Lib.hid (below_drewN HB2.out _)⟩
          case measure => simp [intOf]; omega
    · obtain rfl : k = n := by omega
      have HPR := Lib.hid (show Props i ts from fun j hj => (HP.out j (by rw [← HLT.out]; exact hj)).1)
      have HFU := Lib.hid (show Full ts from fun j hj => (prp_zero (HPR.out j hj)).2.1)
      have HRA := Lib.hid (rapart16 i T k c ts wr (HT.out _ HBR.out) HFU.out)
      have k0 := (HM.out _ HBR.out).cell 0
      have k1 := (HM.out _ HBR.out).cell 1
      simp at k0 k1
      go_wp2_with fail
      refine HRA.out.mono ?_
      rintro r w2 ⟨v, rfl, hv, a2⟩
      have HB2 := Lib.hid (bt HBR.out a2)
      clear a2 k0 k1
      go_wp2
      go_ret
      refine ⟨v, rfl, Lib.hid (fun h => ?_), bt HB0.out HB2.out⟩
      have hpw := hv.out h
      refine ⟨srt_adj fun j hj => ?_, HFU.out, hpw.cons, HPR.out, hpw, fun j hj => (HP.out j (by rw [← HLT.out]; exact hj)).2.1, by omega, by omega, by rw [HLT.out]; omega⟩
      have := (HP.out (j + 1) (by rw [← HLT.out]; exact hj)).2.2 (by omega)
      rwa [show j + 1 - 1 = j by omega] at this
end Go.Proofs.Ytkkmcgapbcikiaa
end

section
/- The reference of observe: Answer. -/
namespace Go.Proofs.Ytkkmcgapbcikiaa
open Go.RowKit

/-- The result of Answer for a word that is not empty. -/
def AnsR (ts : TSr) (ws : List Int) (n : Nat) (w : World) (r : Ending) (w' : World) : Prop :=
  Below w.heap.size w w' ∧ ((r = .returned (.tuple #[.slice none 0 0, .bool false]) ∧ ∀ a, a < ts.length → ¬ cmn (tIn ts a) ws = ws.length) ∨
    ∃ (a : Nat) (A' : Option Addr) (c' : Nat), a < ts.length ∧ cmn (tIn ts a) ws = ws.length ∧ r = .returned (.tuple #[.slice A' n c', .bool true]) ∧ Ints w' A' n ((tOut ts a).take n))

set_option linter.unusedSimpArgs false in
set_option linter.unusedVariables false in
set_option maxHeartbeats 8000000 in
set_option maxRecDepth 100000 in
theorem ranswer16 (i : Int) (T A : Option Addr) (tn tc n c : Nat) (ts : TSr) (ws : List Int) (w : World) (hT : Trs w T tn ts) (hF : Full ts) (hA : Ints w A n ws) (h0 : 0 < n) :
    Calls Try.prog 20 #[.agg #[.int .i64 i, .slice T tn tc], .slice A n c] w fun r w' => AnsR ts ws n w r w' := by
  obtain ⟨w0, hw0⟩ : ∃ w0, w0 = w.alloc (.cells #[.int .i64 i, .slice T tn tc] 24) := ⟨_, rfl⟩
  have hb0 : Below w.heap.size w w0 := by rw [hw0]; exact alloc_below _ _
  have m0 : Bx w0 w.heap.size #[.int .i64 i, .slice T tn tc] 24 := by rw [hw0]; exact bx_new _ _ _
  have HM := Lib.hid (fun (W : World) (h : Below w0.heap.size w0 W) => m0.on h)
  have HT := Lib.hid (fun (W : World) (h : Below w0.heap.size w0 W) => (hT.below hb0).below h)
  have HA := Lib.hid (fun (W : World) (h : Below w0.heap.size w0 W) => (hA.below hb0).below h)
  have HB0 := Lib.hid hb0
  have HW0 := Lib.hid hw0
  have HLT := Lib.hid hT.1
  have HLA := Lib.hid hA.1
  have HF := Lib.hid hF
  have hn := hT.2.1
  have hnb := hA.2.1
  have hn0 : ((n : Int) == 0) = false := by rw [beq_eq_false_iff_ne]; omega
  clear hw0 hb0 m0 hT hA hF
  go_enter Try.func20, Try.ntmps20
  go_wp2
  rw [← HW0.out]
  clear hn0
  go_loopw [6] (fun v6 wr => ∃ p : Nat, v6 = .int .i64 p ∧ p ≤ tn ∧ Hid (∀ a, a < p → ¬ cmn (tIn ts a) ws = ws.length) ∧ Hid (Below w0.heap.size w0 wr)) (fun v6 _ => tn - (intOf v6).toNat)
  case atStart => exact ⟨0, rfl, Nat.zero_le _, Lib.hid (fun a h => absurd h (Nat.not_lt_zero a)), Lib.hid (Below.refl _ _)⟩
  case round =>
    obtain ⟨p, rfl, hp, HP, HBR⟩ := hrel
    have k1 := (HM.out _ HBR.out).cell 1
    simp at k1
    by_cases hlt : p < tn
    · obtain ⟨b, off, A1, n1, c1, A2, n2, c2, rfl, hgb, j1, j2, q1, q2, j3, j4⟩ := (HT.out _ HBR.out).at_ hlt
      have HHP := Lib.hid (rhasprefix A1 A n1 c1 n c (tIn ts p) ws wr j3 (HA.out _ HBR.out))
      have HJ4 := Lib.hid j4
      have hq : n2 = n1 := by rw [← j4.1, ← j3.1]; exact HF.out p (by rw [HLT.out]; exact hlt)
      obtain ⟨f, hf⟩ : ∃ f, f = decide (cmn (tIn ts p) ws = ws.length) := ⟨_, rfl⟩
      rw [← hf] at HHP
      have HFF := Lib.hid hf
      have hnn : f = true → n ≤ n2 := fun h => by
        rw [h] at hf
        have e := of_decide_eq_true hf.symm
        have := cmn_le_left (tIn ts p) ws
        have l1 := j3.1
        have l2 := HLA.out
        omega
      clear j3 j4 hf hq
      cases f
      case false =>
        clear hnn
        go_wp2_with fail
        refine HHP.out.mono ?_
        rintro r w3 ⟨rfl, q3, rfl⟩
        go_wp2_with fail
        go_roundw
        case rel => exact ⟨p + 1, by go_num, by omega, Lib.hid (fun a ha => by
          by_cases e : a = p
          · rw [e]; exact of_decide_eq_false HFF.out.symm
          · exact HP.out a (by omega)), Lib.hid (below_drewN HBR.out q3)⟩
        case measure => simp [intOf]; omega
      case true =>
        have hnn := hnn rfl
        have i1' : (n : Int) ≤ (c2 : Int) := by omega
        have i2' : (0 : Int) ≤ (n : Int) := by omega
        have HTK := Lib.hid (HJ4.out.takeX (t := n) hnn)
        go_wp2_with fail
        refine HHP.out.mono ?_
        rintro r w3 ⟨rfl, q3, rfl⟩
        have HJO := Lib.hid (join_one (c := c2) (HTK.out.drewN q3))
        go_wp2_with fail
        refine HJO.out.mono ?_
        rintro r w4 ⟨A4, c4, rfl, o4, a4⟩
        have hlen : ((tOut ts p).take n).length = n := by rw [List.length_take, HJ4.out.1]; omega
        have HFV := Lib.hid (o4.ints (by rw [hlen]; exact hnb))
        have HB4 := Lib.hid (bt (below_drewN HBR.out q3) a4)
        have HR := Lib.hid (of_decide_eq_true HFF.out.symm)
        clear o4 a4 hlen
        go_wp2_with fail
        go_ret2
        exact ⟨bt HB0.out HB4.out, .inr ⟨p, A4, c4, by rw [HLT.out]; exact hlt, HR.out, rfl, HFV.out⟩⟩
    · obtain rfl : p = tn := by omega
      go_wp2
      go_ret2
      exact ⟨bt HB0.out HBR.out, .inl ⟨rfl, fun a ha => HP.out a (by rw [← HLT.out]; exact ha)⟩⟩
end Go.Proofs.Ytkkmcgapbcikiaa
end
