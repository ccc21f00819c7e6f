/- Lemmas of the proofs of this seat, of the parts Rcy16, Rap16. Conditions: none. -/
import Derived.Test.YtkkmcgapbcikiaaKab
import Derived.Test.YtkkmcgapbcikiaaKae
import Derived.Test.YtkkmcgapbcikiaaKad
section
/- The reference of observe: a trace in new memory. -/
namespace Go.Proofs.Ytkkmcgapbcikiaa
open Go.RowKit

theorem join_at1 {W : World} {g n : Nat} {xs : List Int} (h : Lists W (some ⟨g, 0, none⟩) 1 [xs]) (hl : xs.length = n) (hn : n ≤ 17592186044416) :
    Calls Try.prog 49 #[.slice (some ⟨g, 0, none⟩) 1 1] W fun e w' => ∃ A' c', e = .returned (.slice A' n c') ∧ Owned w' W.heap.size (.slice A' n c') xs ∧ Below W.heap.size W w' := by
  have e : [xs].flatten = xs := by simp
  refine (rjoin _ 1 1 [xs] _ h (by rw [e, hl]; exact hn)).mono ?_
  rintro e' w' ⟨v, rfl, ho, hb⟩
  rw [e] at ho
  obtain ⟨A', c', rfl⟩ := ho.form
  rw [hl] at ho ⊢
  exact ⟨A', c', rfl, ho, hb⟩

set_option linter.unusedSimpArgs false in
set_option linter.unusedVariables false in
set_option maxHeartbeats 8000000 in
set_option maxRecDepth 100000 in
theorem rcopied16 (A1 A2 : Option Addr) (n1 c1 n2 c2 : Nat) (xs ys : List Int) (w : World) (hx : Ints w A1 n1 xs) (hy : Ints w A2 n2 ys) :
    Calls Try.prog 76 #[.agg #[.slice A1 n1 c1, .slice A2 n2 c2]] w fun r w' => CpyE n1 n2 xs ys w r w' := by
  obtain ⟨w0, hw0⟩ : ∃ w0, w0 = (w.alloc (.cells #[.slice A1 n1 c1, .slice A2 n2 c2] 38)).alloc (.cells #[.slice none 0 0, .slice none 0 0] 38) := ⟨_, rfl⟩
  obtain ⟨hb0, m1, m2, hs0⟩ := bxs2 w #[.slice A1 n1 c1, .slice A2 n2 c2] #[.slice none 0 0, .slice none 0 0] 38 38 w0 hw0
  have HM2 := Lib.hid (fun (W : World) (h : Below w0.heap.size w0 W) => m2.on h)
  have HX := Lib.hid (fun (W : World) (h : Below w0.heap.size w0 W) => (hx.below hb0).below h)
  have HY := Lib.hid (fun (W : World) (h : Below w0.heap.size w0 W) => (hy.below hb0).below h)
  have HB0 := Lib.hid hb0
  have HW0 := Lib.hid hw0
  have HZ0 := Lib.hid hs0
  have HLX := Lib.hid hx.1
  have HLY := Lib.hid hy.1
  have hn1 := hx.2.1
  have hn2 := hy.2.1
  have HS := Lib.hid (show ∀ W, Below w0.heap.size w0 W → W.cell? ⟨w.heap.size, 0, none⟩ = some (.slice A1 n1 c1) ∧ W.cell? ⟨w.heap.size, 1, none⟩ = some (.slice A2 n2 c2) from fun W h => ⟨by have := (m1.on h).cell 0; simpa using this, by have := (m1.on h).cell 1; simpa using this⟩)
  clear hw0 hb0 m1 m2 hs0 hx hy
  go_enter Try.func76, Try.ntmps76
  go_upto_region 1 with fail
  rw [← HW0.out]
  have hbf : Below w0.heap.size w0 w0.drew := below_drewN (Below.refl _ _) 1
  refine wp_region_heldX (X := fun k => ([9] : List Nat).contains k) (S := fun W => W.cell? ⟨w.heap.size, 0, none⟩ = some (.slice A1 n1 c1) ∧ W.cell? ⟨w.heap.size, 1, none⟩ = some (.slice A2 n2 c2)) (by kernel_rfl) ?_
  generalize w0.drew = wd at hbf ⊢
  refine wpAnyX_pure (i := 0) (v := ?_) rfl (by kernel_rfl) (by kernel_rfl) (by kernel_rfl) (fun _ _ _ h => h) (Or.inl ⟨by rfl, ?_⟩) ?_
  rotate_left
  · (intro W _; go_simp; try with_reducible rfl)
  (try simp only [Act.put, List.getElem_toArray, List.getElem_cons_zero, List.getElem_cons_succ, List.setIfInBounds_toArray, List.set_cons_zero, List.set_cons_succ])
  refine wpAnyX_takeL (L := [9]) (i := 1) (v := ?_) rfl (by kernel_rfl) (by kernel_rfl) (by kernel_rfl) (by kernel_rfl) (fun _ _ _ h => h) (Or.inl ⟨by rfl, ?_⟩) (HS.out _ hbf) ?_
  rotate_left
  · (intro W hSW; (try dsimp only at hSW); obtain ⟨z0, z1⟩ := hSW; go_simp; try with_reducible rfl)
  (try simp only [Act.put, List.getElem_toArray, List.getElem_cons_zero, List.getElem_cons_succ, List.setIfInBounds_toArray, List.set_cons_zero, List.set_cons_succ])
  refine wpAnyX_pure (i := 4) (v := ?_) rfl (by kernel_rfl) (by kernel_rfl) (by kernel_rfl) (fun _ _ _ h => h) (Or.inl ⟨by rfl, ?_⟩) ?_
  rotate_left
  · (intro W _; go_simp; try with_reducible rfl)
  (try simp only [Act.put, List.getElem_toArray, List.getElem_cons_zero, List.getElem_cons_succ, List.setIfInBounds_toArray, List.set_cons_zero, List.set_cons_succ])
  refine wpAnyX_takeL (L := [9]) (i := 5) (v := ?_) rfl (by kernel_rfl) (by kernel_rfl) (by kernel_rfl) (by kernel_rfl) (fun _ _ _ h => h) (Or.inl ⟨by rfl, ?_⟩) (HS.out _ hbf) ?_
  rotate_left
  · (intro W hSW; (try dsimp only at hSW); obtain ⟨z0, z1⟩ := hSW; go_simp; try with_reducible rfl)
  (try simp only [Act.put, List.getElem_toArray, List.getElem_cons_zero, List.getElem_cons_succ, List.setIfInBounds_toArray, List.set_cons_zero, List.set_cons_succ])
  refine wpAnyX_two (i := 2) (j := 6) rfl rfl (by kernel_rfl) (fun K hK => ?_) (fun K hK => ?_)
  · go_simp
    have hl1 := one_word (c := c1) (HX.out _ hbf)
    have hal := alloc_below wd (.cells #[.slice A1 n1 c1] 36)
    have hbf := bt hbf hal
    clear hal
    generalize wd.alloc (.cells #[.slice A1 n1 c1] 36) = wa at hbf hl1 ⊢
    refine hK.out _ _ (fun _ _ => HS.out _ hbf) ?_
    (try simp only [Act.put, List.getElem_toArray, List.getElem_cons_zero, List.getElem_cons_succ, List.setIfInBounds_toArray, List.set_cons_zero, List.set_cons_succ])
    refine wpAnyX_two (i := 3) (j := 6) rfl rfl (by kernel_rfl) (fun K hK => ?_) (fun K hK => ?_)
    · go_simp
      go_at_call 49
      refine (join_at1 hl1 HLX.out hn1).mono ?_
      rintro r w5 ⟨B1, d1, rfl, o1, b9⟩
      have g1 := o1.lower (base' := w.heap.size) (Nat.le_trans (by have := HZ0.out; omega) hbf.size)
      have hbf := bt hbf b9
      clear b9
      refine hK.out _ _ (fun _ _ => HS.out _ hbf) ?_
      (try simp only [Act.put, List.getElem_toArray, List.getElem_cons_zero, List.getElem_cons_succ, List.setIfInBounds_toArray, List.set_cons_zero, List.set_cons_succ])
      refine wpAnyX_one (i := 6) rfl (by kernel_rfl) (fun K hK => ?_)
      go_simp
      have hl2 := one_word (c := c2) (HY.out _ hbf)
      have hal := alloc_below w5 (.cells #[.slice A2 n2 c2] 36)
      have hbf := bt hbf hal
      have g1 := g1.keptT (KeptT.of_below hal)
      clear hal
      generalize w5.alloc (.cells #[.slice A2 n2 c2] 36) = wb at hbf hl2 g1 ⊢
      refine hK.out _ _ (fun _ _ => HS.out _ hbf) ?_
      (try simp only [Act.put, List.getElem_toArray, List.getElem_cons_zero, List.getElem_cons_succ, List.setIfInBounds_toArray, List.set_cons_zero, List.set_cons_succ])
      refine wpAnyX_one (i := 7) rfl (by kernel_rfl) (fun K hK => ?_)
      go_simp
      go_at_call 49
      refine (join_at1 hl2 HLY.out hn2).mono ?_
      rintro r w6 ⟨B2, d2, rfl, o2, b9⟩
      have g2 := o2.lower (base' := w.heap.size) (Nat.le_trans (by have := HZ0.out; omega) hbf.size)
      have hbf := bt hbf b9
      have g1 := g1.keptT (KeptT.of_below b9)
      clear b9
      refine hK.out _ _ (fun _ _ => HS.out _ hbf) ?_
      (try simp only [Act.put, List.getElem_toArray, List.getElem_cons_zero, List.getElem_cons_succ, List.setIfInBounds_toArray, List.set_cons_zero, List.set_cons_succ])
      refine wpAnyX_pure (i := 8) (v := ?_) rfl (by kernel_rfl) (by kernel_rfl) (by kernel_rfl) (fun _ _ _ h => h) (Or.inl ⟨by rfl, ?_⟩) ?_
      rotate_left
      · (intro W _; go_simp; try with_reducible rfl)
      (try simp only [Act.put, List.getElem_toArray, List.getElem_cons_zero, List.getElem_cons_succ, List.setIfInBounds_toArray, List.set_cons_zero, List.set_cons_succ])
      have m6 := HM2.out _ hbf
      refine wpAnyX_one (i := 9) rfl (by kernel_rfl) (fun K hK => ?_)
      refine wp_store_row 38 _ _ rfl (w.heap.size + 1) (#[.slice B1 n1 d1, .slice B2 n2 d2]) rfl rfl 38 (#[.slice none 0 0, .slice none 0 0]) m6 (by kernel_rfl) (by rfl) (by simp [Value.oneCell']) (hK.out _ _ (fun h => absurd h (by decide)) ?_)
      (try simp only [Act.put, List.getElem_toArray, List.getElem_cons_zero, List.getElem_cons_succ, List.setIfInBounds_toArray, List.set_cons_zero, List.set_cons_succ])
      refine wpAnyX_done (by kernel_rfl) ?_ _
      have HR := Lib.hid (m6.row #[.slice B1 n1 d1, .slice B2 n2 d2])
      have HO1 := Lib.hid (g1.keptT (m6.keptRow (t := 3) (by decide) #[.slice B1 n1 d1, .slice B2 n2 d2]))
      have HO2 := Lib.hid (g2.keptT (m6.keptRow (t := 3) (by decide) #[.slice B1 n1 d1, .slice B2 n2 d2]))
      have HBX := Lib.hid (below_setRow (bt HB0.out hbf) (by omega : w.heap.size ≤ w.heap.size + 1) #[.slice B1 n1 d1, .slice B2 n2 d2])
      clear hbf g1 g2 m6 o1 o2 hl1 hl2
      go_wp2_with fail
      (try rw [Exit.noGoto_ret])
      refine bodyPost_ret (results_cell_row (by rfl) _ _ (w.heap.size + 1) 38 _ (0, 0) _ rfl HR.out Try.underlying38 rfl (by kernel_rfl)) rfl ?_
      exact ⟨B1, B2, d1, d2, rfl, HO1.out, HO2.out, HBX.out⟩
    · go_simp
      have hl2 := one_word (c := c2) (HY.out _ hbf)
      have hal := alloc_below wa (.cells #[.slice A2 n2 c2] 36)
      have hbf := bt hbf hal
      have hl1 := hl1.below hal
      clear hal
      generalize wa.alloc (.cells #[.slice A2 n2 c2] 36) = wb at hbf hl2 hl1 ⊢
      refine hK.out _ _ (fun _ _ => HS.out _ hbf) ?_
      (try simp only [Act.put, List.getElem_toArray, List.getElem_cons_zero, List.getElem_cons_succ, List.setIfInBounds_toArray, List.set_cons_zero, List.set_cons_succ])
      refine wpAnyX_one (i := 3) rfl (by kernel_rfl) (fun K hK => ?_)
      go_simp
      go_at_call 49
      refine (join_at1 hl1 HLX.out hn1).mono ?_
      rintro r w5 ⟨B1, d1, rfl, o1, b9⟩
      have g1 := o1.lower (base' := w.heap.size) (Nat.le_trans (by have := HZ0.out; omega) hbf.size)
      have hbf := bt hbf b9
      have hl2 := hl2.below b9
      clear b9
      refine hK.out _ _ (fun _ _ => HS.out _ hbf) ?_
      (try simp only [Act.put, List.getElem_toArray, List.getElem_cons_zero, List.getElem_cons_succ, List.setIfInBounds_toArray, List.set_cons_zero, List.set_cons_succ])
      refine wpAnyX_one (i := 7) rfl (by kernel_rfl) (fun K hK => ?_)
      go_simp
      go_at_call 49
      refine (join_at1 hl2 HLY.out hn2).mono ?_
      rintro r w6 ⟨B2, d2, rfl, o2, b9⟩
      have g2 := o2.lower (base' := w.heap.size) (Nat.le_trans (by have := HZ0.out; omega) hbf.size)
      have hbf := bt hbf b9
      have g1 := g1.keptT (KeptT.of_below b9)
      clear b9
      refine hK.out _ _ (fun _ _ => HS.out _ hbf) ?_
      (try simp only [Act.put, List.getElem_toArray, List.getElem_cons_zero, List.getElem_cons_succ, List.setIfInBounds_toArray, List.set_cons_zero, List.set_cons_succ])
      refine wpAnyX_pure (i := 8) (v := ?_) rfl (by kernel_rfl) (by kernel_rfl) (by kernel_rfl) (fun _ _ _ h => h) (Or.inl ⟨by rfl, ?_⟩) ?_
      rotate_left
      · (intro W _; go_simp; try with_reducible rfl)
      (try simp only [Act.put, List.getElem_toArray, List.getElem_cons_zero, List.getElem_cons_succ, List.setIfInBounds_toArray, List.set_cons_zero, List.set_cons_succ])
      have m6 := HM2.out _ hbf
      refine wpAnyX_one (i := 9) rfl (by kernel_rfl) (fun K hK => ?_)
      refine wp_store_row 38 _ _ rfl (w.heap.size + 1) (#[.slice B1 n1 d1, .slice B2 n2 d2]) rfl rfl 38 (#[.slice none 0 0, .slice none 0 0]) m6 (by kernel_rfl) (by rfl) (by simp [Value.oneCell']) (hK.out _ _ (fun h => absurd h (by decide)) ?_)
      (try simp only [Act.put, List.getElem_toArray, List.getElem_cons_zero, List.getElem_cons_succ, List.setIfInBounds_toArray, List.set_cons_zero, List.set_cons_succ])
      refine wpAnyX_done (by kernel_rfl) ?_ _
      have HR := Lib.hid (m6.row #[.slice B1 n1 d1, .slice B2 n2 d2])
      have HO1 := Lib.hid (g1.keptT (m6.keptRow (t := 3) (by decide) #[.slice B1 n1 d1, .slice B2 n2 d2]))
      have HO2 := Lib.hid (g2.keptT (m6.keptRow (t := 3) (by decide) #[.slice B1 n1 d1, .slice B2 n2 d2]))
      have HBX := Lib.hid (below_setRow (bt HB0.out hbf) (by omega : w.heap.size ≤ w.heap.size + 1) #[.slice B1 n1 d1, .slice B2 n2 d2])
      clear hbf g1 g2 m6 o1 o2 hl1 hl2
      go_wp2_with fail
      (try rw [Exit.noGoto_ret])
      refine bodyPost_ret (results_cell_row (by rfl) _ _ (w.heap.size + 1) 38 _ (0, 0) _ rfl HR.out Try.underlying38 rfl (by kernel_rfl)) rfl ?_
      exact ⟨B1, B2, d1, d2, rfl, HO1.out, HO2.out, HBX.out⟩
  · go_simp
    have hl2 := one_word (c := c2) (HY.out _ hbf)
    have hal := alloc_below wd (.cells #[.slice A2 n2 c2] 36)
    have hbf := bt hbf hal
    clear hal
    generalize wd.alloc (.cells #[.slice A2 n2 c2] 36) = wb at hbf hl2 ⊢
    refine hK.out _ _ (fun _ _ => HS.out _ hbf) ?_
    (try simp only [Act.put, List.getElem_toArray, List.getElem_cons_zero, List.getElem_cons_succ, List.setIfInBounds_toArray, List.set_cons_zero, List.set_cons_succ])
    refine wpAnyX_one (i := 2) rfl (by kernel_rfl) (fun K hK => ?_)
    go_simp
    have hl1 := one_word (c := c1) (HX.out _ hbf)
    have hal := alloc_below wb (.cells #[.slice A1 n1 c1] 36)
    have hbf := bt hbf hal
    have hl2 := hl2.below hal
    clear hal
    generalize wb.alloc (.cells #[.slice A1 n1 c1] 36) = wa at hbf hl1 hl2 ⊢
    refine hK.out _ _ (fun _ _ => HS.out _ hbf) ?_
    (try simp only [Act.put, List.getElem_toArray, List.getElem_cons_zero, List.getElem_cons_succ, List.setIfInBounds_toArray, List.set_cons_zero, List.set_cons_succ])
    refine wpAnyX_one (i := 3) rfl (by kernel_rfl) (fun K hK => ?_)
    go_simp
    go_at_call 49
    refine (join_at1 hl1 HLX.out hn1).mono ?_
    rintro r w5 ⟨B1, d1, rfl, o1, b9⟩
    have g1 := o1.lower (base' := w.heap.size) (Nat.le_trans (by have := HZ0.out; omega) hbf.size)
    have hbf := bt hbf b9
    have hl2 := hl2.below b9
    clear b9
    refine hK.out _ _ (fun _ _ => HS.out _ hbf) ?_
    (try simp only [Act.put, List.getElem_toArray, List.getElem_cons_zero, List.getElem_cons_succ, List.setIfInBounds_toArray, List.set_cons_zero, List.set_cons_succ])
    refine wpAnyX_one (i := 7) rfl (by kernel_rfl) (fun K hK => ?_)
    go_simp
    go_at_call 49
    refine (join_at1 hl2 HLY.out hn2).mono ?_
    rintro r w6 ⟨B2, d2, rfl, o2, b9⟩
    have g2 := o2.lower (base' := w.heap.size) (Nat.le_trans (by have := HZ0.out; omega) hbf.size)
    have hbf := bt hbf b9
    have g1 := g1.keptT (KeptT.of_below b9)
    clear b9
    refine hK.out _ _ (fun _ _ => HS.out _ hbf) ?_
    (try simp only [Act.put, List.getElem_toArray, List.getElem_cons_zero, List.getElem_cons_succ, List.setIfInBounds_toArray, List.set_cons_zero, List.set_cons_succ])
    refine wpAnyX_pure (i := 8) (v := ?_) rfl (by kernel_rfl) (by kernel_rfl) (by kernel_rfl) (fun _ _ _ h => h) (Or.inl ⟨by rfl, ?_⟩) ?_
    rotate_left
    · (intro W _; go_simp; try with_reducible rfl)
    (try simp only [Act.put, List.getElem_toArray, List.getElem_cons_zero, List.getElem_cons_succ, List.setIfInBounds_toArray, List.set_cons_zero, List.set_cons_succ])
    have m6 := HM2.out _ hbf
    refine wpAnyX_one (i := 9) rfl (by kernel_rfl) (fun K hK => ?_)
    refine wp_store_row 38 _ _ rfl (w.heap.size + 1) (#[.slice B1 n1 d1, .slice B2 n2 d2]) rfl rfl 38 (#[.slice none 0 0, .slice none 0 0]) m6 (by kernel_rfl) (by rfl) (by simp [Value.oneCell']) (hK.out _ _ (fun h => absurd h (by decide)) ?_)
    (try simp only [Act.put, List.getElem_toArray, List.getElem_cons_zero, List.getElem_cons_succ, List.setIfInBounds_toArray, List.set_cons_zero, List.set_cons_succ])
    refine wpAnyX_done (by kernel_rfl) ?_ _
    have HR := Lib.hid (m6.row #[.slice B1 n1 d1, .slice B2 n2 d2])
    have HO1 := Lib.hid (g1.keptT (m6.keptRow (t := 3) (by decide) #[.slice B1 n1 d1, .slice B2 n2 d2]))
    have HO2 := Lib.hid (g2.keptT (m6.keptRow (t := 3) (by decide) #[.slice B1 n1 d1, .slice B2 n2 d2]))
    have HBX := Lib.hid (below_setRow (bt HB0.out hbf) (by omega : w.heap.size ≤ w.heap.size + 1) #[.slice B1 n1 d1, .slice B2 n2 d2])
    clear hbf g1 g2 m6 o1 o2 hl1 hl2
    go_wp2_with fail
    (try rw [Exit.noGoto_ret])
    refine bodyPost_ret (results_cell_row (by rfl) _ _ (w.heap.size + 1) 38 _ (0, 0) _ rfl HR.out Try.underlying38 rfl (by kernel_rfl)) rfl ?_
    exact ⟨B1, B2, d1, d2, rfl, HO1.out, HO2.out, HBX.out⟩
end Go.Proofs.Ytkkmcgapbcikiaa
end

section
/- The reference of observe: add. -/
namespace Go.Proofs.Ytkkmcgapbcikiaa
open Go.RowKit

theorem knB (ts : TSr) (xs : List Int) (p : Nat) : decide (knw ts xs (p + 1) = xs.length) = (decide (knw ts xs p = xs.length) || decide (cmn (tIn ts p) xs = xs.length)) := by
  have h1 := knw_le (ts := ts) (w := xs) (k := p)
  have h2 := cmn_le_right (tIn ts p) xs
  rw [knw, Bool.eq_iff_iff]
  simp
  omega
theorem knB0 (ts : TSr) (xs : List Int) (n : Nat) (h : xs.length = n) : ((n : Int) == 0) = decide (knw ts xs 0 = xs.length) := by
  rw [knw, Bool.eq_iff_iff]
  simp
  omega
theorem radd_round {xs ys : List Int} {l l' ts R : TSr} {k : Nat} {b b' : Bool} (hk : k < ts.length) (h : l ++ radd xs ys b (ts.drop k) = R)
    (hl : l' = l ++ ((if !b && decide (shlex xs (tIn ts k) < 0) then [(xs, ys)] else []) ++ (if kp xs (tIn ts k, tOut ts k) then [(tIn ts k, tOut ts k)] else []))) (hb : b' = (b || decide (shlex xs (tIn ts k) < 0))) : l' ++ radd xs ys b' (ts.drop (k + 1)) = R := by
  rw [drop_cons hk, radd] at h
  rw [hl, hb, ← h]
  simp only [List.append_assoc]
theorem kp_a {xs : List Int} {x : List Int × List Int} (h : ¬ cmn xs x.1 = x.1.length) : kp xs x = true := by
  unfold kp; rw [decide_eq_false h]; rfl
theorem kp_b {xs : List Int} {x : List Int × List Int} (h : xs.length = x.1.length) : kp xs x = true := by
  unfold kp; rw [decide_eq_true h, Bool.or_true]
theorem kp_c {xs : List Int} {x : List Int × List Int} (h : cmn xs x.1 = x.1.length) (h2 : ¬ xs.length = x.1.length) : kp xs x = false := by
  unfold kp; rw [decide_eq_true h, decide_eq_false h2]; rfl
theorem OwnedT.set1 {w : World} {base gx k : Nat} {v : Value} {cs : Array Value} {ts : TSr} (h : OwnedT w base v ts) (hx : Bx w gx cs 24) (y : Value) : OwnedT (w.setCell ⟨gx, k, none⟩ y) base v ts :=
  h.keptT (hx.keptSet (by decide) y) (hx.keptSet (by decide) y)
theorem KeptT.bx {t : TypeId} {w w' : World} {g : Nat} {cs : Array Value} (h : KeptT t w w') (hx : Bx w g cs t) : Bx w' g cs t := h g cs hx
/-- The block of a row that the call owns is an old one. -/
theorem OwnedT.off {w : World} {base : Nat} {v : Value} {ts : TSr} (h : OwnedT w base v ts) : ∀ k, v.ownBlock = some k → k < w.heap.size := fun k hk => by
  obtain ⟨vs, ho, _⟩ := h
  exact (World.ownsRow.lt ho k hk).2
/-- append of one trace: the other blocks stay as they are. -/
theorem run_append_traceB {w : World} {base : Nat} {v : Value} {ts : TSr} {A B : Option Addr} {m c n d : Nat} {xs ys : List Int} (h : OwnedT w base v ts) (hx : Owned w base (.slice A m c) xs) (hy : Owned w base (.slice B n d) ys) (hbase : base ≤ w.heap.size) (hl : ts.length < 1000000000) :
    ∃ A' c' w', (Builtin.append_ #[22, 22] 22 #[v, .slice (some ⟨w.heap.size, 0, none⟩) 1 1]).run Try.prog (w.alloc (.cells #[.slice A m c, .slice B n d] 38)) = .ok (.slice A' (ts.length + 1) c') w' ∧
      OwnedT w' base (.slice A' (ts.length + 1) c') (ts ++ [(xs, ys)]) ∧ Below base w w' ∧ (∀ t, t ≠ 38 → KeptT t w w') ∧ (∀ X cs t, Bx w X cs t → v.ownBlock ≠ some X → Bx w' X cs t) ∧ ∀ X, X < w.heap.size → v.ownBlock ≠ some X → (Value.slice A' (ts.length + 1) c').ownBlock ≠ some X := by
  obtain ⟨A', c', w', hr, h1, h2, h3⟩ := run_append_trace h hx hy hbase hl
  refine ⟨A', c', w', hr, h1, h2, h3, ?_⟩
  obtain ⟨i, hi, hz0, hz1, hz2⟩ := info_parts infot
  obtain ⟨vs, ho, hv⟩ := h
  have hbz := alloc_below w (.cells #[.slice A m c, .slice B n d] 38)
  have ho1 : (w.alloc (.cells #[.slice A m c, .slice B n d] 38)).ownsRow base 38 2 v ts.length vs := by
    refine ⟨ho.1, ?_⟩
    rcases ho.2 with e | ⟨g, cap, cur, hv, hbg, hg, r⟩
    · exact .inl e
    · exact .inr ⟨g, cap, cur, hv, hbg, (hbz.block g (heap_lt hg)).trans hg, r⟩
  obtain ⟨v', w2, hr2, _, h5, _, h6⟩ := run_append_own_at (P := Try.prog) (w.alloc (.cells #[.slice A m c, .slice B n d] 38)) base 22 22 38 i _ 2 48 Try.underlying22 hi hz0 hz1 hz2 rfl (by decide) v _ _ ho1 ⟨w.heap.size, 0, none⟩ 1 1 [.slice A m c, .slice B n d] (by simp)
    (by
      intro j u hu
      match j with
      | 0 =>
        simp at hu
        subst hu
        simp [Addr.add]
      | 1 =>
        simp at hu
        subst hu
        simp [Addr.add]
      | j + 2 => simp at hu)
    (by intro u hu; simp at hu; rcases hu with rfl | rfl <;> rfl) (by unfold maxLen; omega) (by omega) (Nat.le_trans hbase hbz.size)
  rw [hr] at hr2
  injection hr2 with e1 e
  subst e e1
  refine ⟨?_, fun X hlt hne e => ?_⟩
  rotate_left
  · rcases h6 with h6 | h6
    · exact hne (h6.symm.trans e)
    · have e2 := h6.symm.trans e
      have := hbz.size
      simp at e2
      omega
  intro X cs t hX hne
  have hX1 := hX.on hbz
  exact (h5.block X hX1.lt (fun e => hne e.symm)).trans hX1

set_option linter.unusedSimpArgs false in
set_option linter.unusedVariables false in
set_option maxHeartbeats 16000000 in
set_option maxRecDepth 100000 in
theorem radd16 (i : Int) (T A B : Option Addr) (tn tc n c m d : Nat) (ts : TSr) (xs ys : List Int) (w : World) (hT : Trs w T tn ts) (hx : Ints w A n xs) (hy : Ints w B m ys) (htn : tn ≤ 500000) :
    Calls Try.prog 55 #[.agg #[.int .i64 i, .slice T tn tc], .agg #[.slice A n c, .slice B m d]] w fun r w' => RaE i ts xs ys w r w' := by
  obtain ⟨w0, hw0⟩ : ∃ w0, w0 = ((w.alloc (.cells #[.int .i64 i, .slice T tn tc] 24)).alloc (.cells #[.slice A n c, .slice B m d] 38)).alloc (.cells #[.int .i64 0, .slice none 0 0] 24) := ⟨_, rfl⟩
  obtain ⟨hb0, m1, m2, m3, hs0⟩ := bxs3 w #[.int .i64 i, .slice T tn tc] #[.slice A n c, .slice B m d] #[.int .i64 0, .slice none 0 0] 24 38 24 w0 hw0
  obtain ⟨w1, hw1⟩ : ∃ w1, w1 = w0.alloc (.cells #[.int .i64 i, .slice none 0 0] 24) := ⟨_, rfl⟩
  have hb1 : Below w0.heap.size w0 w1 := by rw [hw1]; exact alloc_below _ _
  have mo : Bx w1 (w.heap.size + 1 + 1 + 1) #[.int .i64 i, .slice none 0 0] 24 := by rw [hw1, ← hs0]; exact bx_new _ _ _
  have HW0 := Lib.hid hw0
  have HW1 := Lib.hid hw1
  have HB0 := Lib.hid hb0
  have HB1 := Lib.hid hb1
  have HX := Lib.hid (fun (W : World) (h : Below w0.heap.size w0 W) => (hx.below hb0).below h)
  have HY := Lib.hid (fun (W : World) (h : Below w0.heap.size w0 W) => (hy.below hb0).below h)
  have HT := Lib.hid (fun (W : World) (h : Below w0.heap.size w0 W) => (hT.below hb0).below h)
  have HM1 := Lib.hid (fun (W : World) (h : Below w0.heap.size w0 W) => m1.on h)
  have HM2 := Lib.hid (fun (W : World) (h : Below w0.heap.size w0 W) => m2.on h)
  have HM3 := Lib.hid (fun (W : World) (h : Below w0.heap.size w0 W) => m3.on h)
  have HMO := Lib.hid (fun (W : World) (h : Below w1.heap.size w1 W) => mo.on h)
  have HLT := Lib.hid hT.1
  have HLX := Lib.hid hx.1
  have HLY := Lib.hid hy.1
  have HNX := Lib.hid hx.2.1
  have HNY := Lib.hid hy.2.1
  have HZ0 := Lib.hid hs0
  have HD0 := Lib.hid (knB0 ts xs n hx.1)
  have k0 := m1.cell 0
  have l0 := (m2.on hb1).cell 0
  simp at k0 l0
  rw [hw0] at k0
  rw [hw1, hw0] at l0
  clear hw0 hw1 hb0 hb1 hx hy hT m1 m2 m3 mo hs0
  go_enter Try.func55, Try.ntmps55
  go_wp2_with fail
  rw [← HW0.out, ← HW1.out]
  clear k0 l0
  go_loopw [7, 6] (fun v7 v6 wr => ∃ (p : Nat), v7 = .int .i64 p ∧ p ≤ tn ∧ v6 = .bool (decide (knw ts xs p = xs.length)) ∧ Hid (Below w1.heap.size w1 wr)) (fun v7 _ _ => tn - (intOf v7).toNat)
  case atStart => exact ⟨0, rfl, Nat.zero_le _, by rw [HD0.out], Lib.hid (Below.refl _ _)⟩
  case round =>
    obtain ⟨p, rfl, hp, rfl, HBR⟩ := hrel
    have k1 := (HM1.out _ (bt HB1.out HBR.out)).cell 1
    have l0 := (HM2.out _ (bt HB1.out HBR.out)).cell 0
    simp at k1 l0
    by_cases hlt : p < tn
    · obtain ⟨b, off, A1, n1, c1, A2, n2, c2, eT, hgb, j1, j2, _, _, j3, j4⟩ := (HT.out _ (bt HB1.out HBR.out)).at_ hlt
      subst eT
      have hpI : (p : Int) < (tn : Int) := by omega
      have hp0 : (0 : Int) ≤ (p : Int) := by omega
      have HPN := Lib.hid (knB ts xs p)
      obtain ⟨x, hx⟩ : ∃ x, x = decide (knw ts xs p = xs.length) := ⟨_, rfl⟩
      obtain ⟨f, hf⟩ : ∃ f, f = decide (cmn (tIn ts p) xs = xs.length) := ⟨_, rfl⟩
      have HHP := Lib.hid (fun u => rhasprefix A1 A n1 c1 n c (tIn ts p) xs (wr.drewN u) (j3.drewN u) ((HX.out _ (bt HB1.out HBR.out)).drewN u))
      rw [← hx, ← hf] at HPN
      rw [← hf] at HHP
      rw [← hx]
      clear hx hf j3 j4 hgb
      cases x
      case false =>
        go_wp2
        go_quiet ((go_at_call 48; exact Calls.quiet_of (HHP.out _)))
        go_wp2
        go_roundw
        case rel => exact ⟨p + 1, by go_num, by omega, by rw [HPN.out]; rfl, Lib.hid (bt HBR.out (by first | exact below_drewN (Below.refl _ _) _ | exact below_drewN (below_drewN (Below.refl _ _) _) _))⟩
        case measure => simp [intOf]; omega
      case true =>
        go_wp2
        go_quiet (fail)
        go_wp2
        go_roundw
        case rel => exact ⟨p + 1, by go_num, by omega, by rw [HPN.out]; rfl, Lib.hid (bt HBR.out (by first | exact below_drewN (Below.refl _ _) _ | exact below_drewN (below_drewN (Below.refl _ _) _) _))⟩
        case measure => simp [intOf]; omega
    · obtain rfl : p = tn := by omega
      rename_i wr0 _
      have HLR : Hid ([] ++ radd xs ys (decide (knw ts xs p = xs.length)) (ts.drop 0) = radR ts xs ys) := Lib.hid (by
        rw [List.drop_zero, List.nil_append]
        unfold radR
        rw [HLT.out])
      have HXS := Lib.hid (HMO.out _ HBR.out)
      have HBS := Lib.hid (bt HB1.out HBR.out)
      obtain ⟨x, hx⟩ : ∃ x, x = decide (knw ts xs p = xs.length) := ⟨_, rfl⟩
      rw [← hx] at HLR ⊢
      clear hx HBR l0
      go_wp2_with fail
      clear k1
      go_loopw [8, 6] (fun v8 v6 wr => ∃ (k : Nat) (b : Bool) (l : TSr) (L : Nat) (A' : Option Addr) (c' : Nat), v8 = .int .i64 k ∧ k ≤ p ∧ v6 = .bool b ∧ Hid (L = l.length) ∧ L ≤ 2 * k ∧ Hid (l ++ radd xs ys b (ts.drop k) = radR ts xs ys) ∧ Hid (Bx wr (w.heap.size + 1 + 1 + 1) #[.int .i64 i, .slice A' L c'] 24) ∧ Hid (OwnedT wr w0.heap.size (.slice A' L c') l) ∧ Hid (Below w0.heap.size w0 wr)) (fun v8 _ _ => p - (intOf v8).toNat)
      case atStart => exact ⟨0, x, [], 0, none, 0, rfl, Nat.zero_le _, rfl, Lib.hid rfl, Nat.zero_le _, HLR, HXS, Lib.hid (OwnedT.nil _ _), HBS⟩
      case round =>
        clear HXS HBS HLR
        rename_i wr1 _
        obtain ⟨k, b, l, L, A', c', rfl, hk, rfl, HL, hLk, HR, HXO, HO, HBR⟩ := hrel
        have k1 := (HM1.out _ HBR.out).cell 1
        have l0 := (HM2.out _ HBR.out).cell 0
        simp at k1 l0
        by_cases hlt : k < p
        · obtain ⟨bb, off, A1, n1, c1, A2, n2, c2, eT, hgb, j1, j2, q1, q2, j3, j4⟩ := (HT.out _ (Below.refl _ _)).at_ hlt
          subst eT
          have hkI : (k : Int) < (p : Int) := by omega
          have hk0 : (0 : Int) ≤ (k : Int) := by omega
          have HKT := Lib.hid (show k < ts.length by rw [HLT.out]; exact hlt)
          have HI1 := Lib.hid (fun (W : World) (h : Below w0.heap.size w0 W) => j3.below h)
          have HI2 := Lib.hid (fun (W : World) (h : Below w0.heap.size w0 W) => j4.below h)
          have j1 := (HBR.out.cell (p := ⟨bb, off + k * 2, none⟩) hgb).trans j1
          have j2 := (HBR.out.cell (p := ⟨bb, off + k * 2 + 1, none⟩) hgb).trans j2
          have HN1 := Lib.hid j3.1
          have HN2 := Lib.hid j4.1
          have hn1 := j3.2.1
          have hn2 := j4.2.1
          have hl7 := alloc_below wr (.cells #[.slice A1 n1 c1, .slice A2 n2 c2] 38)
          have hm7 := bx_new wr #[.slice A1 n1 c1, .slice A2 n2 c2] 38
          have HXk := Lib.hid (HXO.out.on hl7)
          have HOk := Lib.hid (HO.out.kept hl7)
          have HBk := Lib.hid (bt HBR.out hl7)
          have HMk := Lib.hid hm7
          have HOF : Hid ((Value.slice A' L c').ownBlock ≠ some wr.heap.size) := Lib.hid (fun e => by have := HO.out.off _ e; omega)
          have hzr := HBR.out.size
          clear hm7 j3 j4 q1 q2 hgb
          go_upto_region 11 with fail
          generalize wr.alloc (.cells #[.slice A1 n1 c1, .slice A2 n2 c2] 38) = w7 at hl7 HXk HOk HBk HMk ⊢
          clear j1 j2 hl7 k1 l0
          have HCM := Lib.hid (rcompare A A1 n c n1 c1 xs (tIn ts k) w7 (HX.out _ HBk.out) (HI1.out _ HBk.out))
          have l0 := (HM2.out _ HBk.out).cell 0
          have t0 := HMk.out.cell 0
          simp at l0 t0
          obtain ⟨z, hz⟩ : ∃ z, z = shlex xs (tIn ts k) := ⟨_, rfl⟩
          rw [← hz] at HCM
          have HZZ := Lib.hid hz
          clear hz
          cases b
          case true =>
            clear HCM
            go_upto_region 14 with fail
            clear l0 t0
            have HHP := Lib.hid (rhasprefix A A1 n c n1 c1 xs (tIn ts k) w7 (HX.out _ HBk.out) (HI1.out _ HBk.out))
            have l0 := (HM2.out _ HBk.out).cell 0
            have t0 := HMk.out.cell 0
            simp at l0 t0
            obtain ⟨f, hf⟩ : ∃ f, f = decide (cmn xs (tIn ts k) = (tIn ts k).length) := ⟨_, rfl⟩
            rw [← hf] at HHP
            have HFF := Lib.hid hf
            clear hf
            cases f
            case false =>
              have HKP := Lib.hid (kp_a (xs := xs) (x := (tIn ts k, tOut ts k)) (of_decide_eq_false HFF.out.symm))
              go_wp2_with fail
              refine HHP.out.mono ?_
              rintro r wq ⟨rfl, q, rfl⟩
              go_upto_region 15 with fail
              have hq : Below w7.heap.size w7 (w7.drewN q) := below_drewN (Below.refl _ _) q
              have HXk := Lib.hid (HXk.out.on hq)
              have HOk := Lib.hid (HOk.out.kept hq)
              have HBk := Lib.hid (bt HBk.out hq)
              have HMk := Lib.hid (HMk.out.on hq)
              generalize w7.drewN q = wk at hq HXk HOk HBk HMk ⊢
              clear hq
              clear l0 t0
              have HS := Lib.hid (show ∀ W, Below wk.heap.size wk W → Bx W wr.heap.size #[.slice A1 n1 c1, .slice A2 n2 c2] 38 ∧ W.cell? ⟨w.heap.size + 1 + 1 + 1, 1, none⟩ = some (.slice A' L c') from fun W h => ⟨HMk.out.on h, by have := (HXk.out.on h).cell 1; simpa using this⟩)
              have hbf : Below wk.heap.size wk wk.drew := below_drewN (Below.refl _ _) 1
              refine wp_region_heldX (X := fun k => ([7] : List Nat).contains k) (S := fun W => Bx W wr.heap.size #[.slice A1 n1 c1, .slice A2 n2 c2] 38 ∧ W.cell? ⟨w.heap.size + 1 + 1 + 1, 1, none⟩ = some (.slice A' L c')) (by kernel_rfl) ?_
              generalize wk.drew = wkd at hbf ⊢
              refine wpAnyX_pure (i := 0) (v := ?_) rfl (by kernel_rfl) (by kernel_rfl) (by kernel_rfl) (fun _ _ _ h => h) (Or.inl ⟨by rfl, ?_⟩) ?_
              rotate_left
              · (intro W _; go_simp; try with_reducible rfl)
              (try simp only [Act.put, List.getElem_toArray, List.getElem_cons_zero, List.getElem_cons_succ, List.setIfInBounds_toArray, List.set_cons_zero, List.set_cons_succ])
              refine wpAnyX_takeL (L := [7]) (i := 1) (v := ?_) rfl (by kernel_rfl) (by kernel_rfl) (by kernel_rfl) (by kernel_rfl) (fun _ _ _ h => h) (Or.inl ⟨by rfl, ?_⟩) (HS.out _ hbf) ?_
              rotate_left
              · (intro W hSW; (try dsimp only at hSW); obtain ⟨z0, z1⟩ := hSW; go_simp; try with_reducible rfl)
              (try simp only [Act.put, List.getElem_toArray, List.getElem_cons_zero, List.getElem_cons_succ, List.setIfInBounds_toArray, List.set_cons_zero, List.set_cons_succ])
              refine wpAnyX_takeL (L := [7]) (i := 2) (v := .agg (#[.slice A1 n1 c1, .slice A2 n2 c2])) rfl (by kernel_rfl) (by kernel_rfl) (by kernel_rfl) (by kernel_rfl) (fun _ _ _ h => h) (Or.inl ⟨by rfl, fun W hSW => run_load_bx 38 _ rfl (wr.heap.size) rfl 38 (#[.slice A1 n1 c1, .slice A2 n2 c2]) (0, 0) _ (hSW.1) Try.underlying38 rfl (by kernel_rfl)⟩) (HS.out _ hbf) ?_
              (try simp only [Act.put, List.getElem_toArray, List.getElem_cons_zero, List.getElem_cons_succ, List.setIfInBounds_toArray, List.set_cons_zero, List.set_cons_succ])
              refine wpAnyX_one (i := 3) rfl (by kernel_rfl) (fun K hK => ?_)
              go_simp
              go_at_call 76
              refine (rcopied16 A1 A2 n1 c1 n2 c2 (tIn ts k) (tOut ts k) _ (HI1.out _ (bt HBk.out hbf)) (HI2.out _ (bt HBk.out hbf))).mono ?_
              rintro r w9 ⟨B1, B2, d1, d2, rfl, o1, o2, b9⟩
              have o1 := o1.lower (base' := w0.heap.size) (Nat.le_trans HBk.out.size hbf.size)
              have o2 := o2.lower (base' := w0.heap.size) (Nat.le_trans HBk.out.size hbf.size)
              have hbf := bt hbf b9
              clear b9
              refine hK.out _ _ (fun _ _ => HS.out _ hbf) ?_
              (try simp only [Act.put, List.getElem_toArray, List.getElem_cons_zero, List.getElem_cons_succ, List.setIfInBounds_toArray, List.set_cons_zero, List.set_cons_succ])
              refine wpAnyX_one (i := 4) rfl (by kernel_rfl) (fun K hK => ?_)
              go_simp
              have l9 := alloc_below w9 (.cells #[.slice B1 n1 d1, .slice B2 n2 d2] 38)
              have hst := hbf.size
              obtain ⟨A6, c6, wb, hrn, htr, hbb, hkk, hxx, hob⟩ := run_append_traceB (HOk.out.kept hbf) o1 o2 (Nat.le_trans HBk.out.size hst) (by rw [← HL.out]; omega)
              rw [← HL.out] at hrn htr hob
              have hMb := (hkk 24 (by decide)).bx (HXk.out.on hbf)
              have hBb := HBk.out.trans ((Below.mono hbf HBk.out.size).trans hbb)
              have hob := fun X (h : X < wk.heap.size) => hob X (Nat.lt_of_lt_of_le h hst)
              have hxx := fun X cs t (h : Bx wk X cs t) (h2 : (Value.slice A' L c').ownBlock ≠ some X) => hxx X cs t (h.on hbf) h2
              obtain ⟨wa, hwa⟩ : ∃ wa, wa = w9.alloc (.cells #[.slice B1 n1 d1, .slice B2 n2 d2] 38) := ⟨_, rfl⟩
              rw [← hwa] at l9 hrn ⊢
              have hbf := bt hbf l9
              clear l9 hwa hbb
              refine hK.out _ _ (fun _ _ => HS.out _ hbf) ?_
              (try simp only [Act.put, List.getElem_toArray, List.getElem_cons_zero, List.getElem_cons_succ, List.setIfInBounds_toArray, List.set_cons_zero, List.set_cons_succ])
              refine wpAnyX_one (i := 5) rfl (by kernel_rfl) (fun K hK => ?_)
              refine step_appE rfl _ _ _ _ rfl _ _ rfl rfl _ _ hrn (hK.out _ _ (fun _ _ => ⟨hxx _ _ _ HMk.out HOF.out, by have := hMb.cell 1; simpa using this⟩) ?_)
              (try simp only [Act.put, List.getElem_toArray, List.getElem_cons_zero, List.getElem_cons_succ, List.setIfInBounds_toArray, List.set_cons_zero, List.set_cons_succ])
              have kx1 := hMb.cell 1
              have kf1 := hMb.free 1
              simp at kx1
              clear hrn
              refine wpAnyX_pure (i := 6) (v := ?_) rfl (by kernel_rfl) (by kernel_rfl) (by kernel_rfl) (fun _ _ _ h => h) (Or.inl ⟨by rfl, ?_⟩) ?_
              rotate_left
              · (intro W _; go_simp; try with_reducible rfl)
              (try simp only [Act.put, List.getElem_toArray, List.getElem_cons_zero, List.getElem_cons_succ, List.setIfInBounds_toArray, List.set_cons_zero, List.set_cons_succ])
              refine wpAnyX_one (i := 7) rfl (by kernel_rfl) (fun K hK => ?_)
              go_simp
              refine hK.out _ _ (fun h => absurd h (by decide)) ?_
              (try simp only [Act.put, List.getElem_toArray, List.getElem_cons_zero, List.getElem_cons_succ, List.setIfInBounds_toArray, List.set_cons_zero, List.set_cons_succ])
              refine wpAnyX_done (by kernel_rfl) ?_ _
              have HXn := Lib.hid (hMb.on1 (.slice A6 (L + 1) c6))
              have HOn := Lib.hid (htr.set1 (k := 1) hMb (.slice A6 (L + 1) c6))
              have HBn := Lib.hid (hBb.setCell (p := ⟨w.heap.size + 1 + 1 + 1, 1, none⟩) (by have := HZ0.out; show _ ≤ w.heap.size + 1 + 1 + 1; omega) (.slice A6 (L + 1) c6))
              have wk1 : IntKind.i64.wrap ((k : Int) + 1) = ((k + 1 : Nat) : Int) := by rw [IntKind.wrap_i64]; omega
              clear hMb htr hBb kx1 kf1 hbf o1 o2 hxx hkk hst hob
              go_wp2_with fail
              go_roundw
              case measure => simp [intOf]; omega
              case rel => exact ⟨k + 1, true, l ++ [(tIn ts k, tOut ts k)], L + 1, A6, c6, rfl, by omega, rfl, Lib.hid (by rw [List.length_append, ← HL.out]; rfl), by omega, Lib.hid (radd_round HKT.out HR.out (by rw [HKP.out]; simp) (by rfl)), HXn, HOn, HBn⟩
            case true =>
              by_cases he : n = n1
              · have HKP := Lib.hid (kp_b (xs := xs) (x := (tIn ts k, tOut ts k)) (by rw [HLX.out, HN1.out]; exact he))
                have heI : ((n : Int) == (n1 : Int)) = true := by simp [he]
                clear he
                go_wp2_with fail
                refine HHP.out.mono ?_
                rintro r wq ⟨rfl, q, rfl⟩
                go_upto_region 15 with fail
                have hq : Below w7.heap.size w7 (w7.drewN q) := below_drewN (Below.refl _ _) q
                have HXk := Lib.hid (HXk.out.on hq)
                have HOk := Lib.hid (HOk.out.kept hq)
                have HBk := Lib.hid (bt HBk.out hq)
                have HMk := Lib.hid (HMk.out.on hq)
                generalize w7.drewN q = wk at hq HXk HOk HBk HMk ⊢
                clear hq
                clear l0 t0
                have HS := Lib.hid (show ∀ W, Below wk.heap.size wk W → Bx W wr.heap.size #[.slice A1 n1 c1, .slice A2 n2 c2] 38 ∧ W.cell? ⟨w.heap.size + 1 + 1 + 1, 1, none⟩ = some (.slice A' L c') from fun W h => ⟨HMk.out.on h, by have := (HXk.out.on h).cell 1; simpa using this⟩)
                have hbf : Below wk.heap.size wk wk.drew := below_drewN (Below.refl _ _) 1
                refine wp_region_heldX (X := fun k => ([7] : List Nat).contains k) (S := fun W => Bx W wr.heap.size #[.slice A1 n1 c1, .slice A2 n2 c2] 38 ∧ W.cell? ⟨w.heap.size + 1 + 1 + 1, 1, none⟩ = some (.slice A' L c')) (by kernel_rfl) ?_
                generalize wk.drew = wkd at hbf ⊢
                refine wpAnyX_pure (i := 0) (v := ?_) rfl (by kernel_rfl) (by kernel_rfl) (by kernel_rfl) (fun _ _ _ h => h) (Or.inl ⟨by rfl, ?_⟩) ?_
                rotate_left
                · (intro W _; go_simp; try with_reducible rfl)
                (try simp only [Act.put, List.getElem_toArray, List.getElem_cons_zero, List.getElem_cons_succ, List.setIfInBounds_toArray, List.set_cons_zero, List.set_cons_succ])
                refine wpAnyX_takeL (L := [7]) (i := 1) (v := ?_) rfl (by kernel_rfl) (by kernel_rfl) (by kernel_rfl) (by kernel_rfl) (fun _ _ _ h => h) (Or.inl ⟨by rfl, ?_⟩) (HS.out _ hbf) ?_
                rotate_left
                · (intro W hSW; (try dsimp only at hSW); obtain ⟨z0, z1⟩ := hSW; go_simp; try with_reducible rfl)
                (try simp only [Act.put, List.getElem_toArray, List.getElem_cons_zero, List.getElem_cons_succ, List.setIfInBounds_toArray, List.set_cons_zero, List.set_cons_succ])
                refine wpAnyX_takeL (L := [7]) (i := 2) (v := .agg (#[.slice A1 n1 c1, .slice A2 n2 c2])) rfl (by kernel_rfl) (by kernel_rfl) (by kernel_rfl) (by kernel_rfl) (fun _ _ _ h => h) (Or.inl ⟨by rfl, fun W hSW => run_load_bx 38 _ rfl (wr.heap.size) rfl 38 (#[.slice A1 n1 c1, .slice A2 n2 c2]) (0, 0) _ (hSW.1) Try.underlying38 rfl (by kernel_rfl)⟩) (HS.out _ hbf) ?_
                (try simp only [Act.put, List.getElem_toArray, List.getElem_cons_zero, List.getElem_cons_succ, List.setIfInBounds_toArray, List.set_cons_zero, List.set_cons_succ])
                refine wpAnyX_one (i := 3) rfl (by kernel_rfl) (fun K hK => ?_)
                go_simp
                go_at_call 76
                refine (rcopied16 A1 A2 n1 c1 n2 c2 (tIn ts k) (tOut ts k) _ (HI1.out _ (bt HBk.out hbf)) (HI2.out _ (bt HBk.out hbf))).mono ?_
                rintro r w9 ⟨B1, B2, d1, d2, rfl, o1, o2, b9⟩
                have o1 := o1.lower (base' := w0.heap.size) (Nat.le_trans HBk.out.size hbf.size)
                have o2 := o2.lower (base' := w0.heap.size) (Nat.le_trans HBk.out.size hbf.size)
                have hbf := bt hbf b9
                clear b9
                refine hK.out _ _ (fun _ _ => HS.out _ hbf) ?_
                (try simp only [Act.put, List.getElem_toArray, List.getElem_cons_zero, List.getElem_cons_succ, List.setIfInBounds_toArray, List.set_cons_zero, List.set_cons_succ])
                refine wpAnyX_one (i := 4) rfl (by kernel_rfl) (fun K hK => ?_)
                go_simp
                have l9 := alloc_below w9 (.cells #[.slice B1 n1 d1, .slice B2 n2 d2] 38)
                have hst := hbf.size
                obtain ⟨A6, c6, wb, hrn, htr, hbb, hkk, hxx, hob⟩ := run_append_traceB (HOk.out.kept hbf) o1 o2 (Nat.le_trans HBk.out.size hst) (by rw [← HL.out]; omega)
                rw [← HL.out] at hrn htr hob
                have hMb := (hkk 24 (by decide)).bx (HXk.out.on hbf)
                have hBb := HBk.out.trans ((Below.mono hbf HBk.out.size).trans hbb)
                have hob := fun X (h : X < wk.heap.size) => hob X (Nat.lt_of_lt_of_le h hst)
                have hxx := fun X cs t (h : Bx wk X cs t) (h2 : (Value.slice A' L c').ownBlock ≠ some X) => hxx X cs t (h.on hbf) h2
                obtain ⟨wa, hwa⟩ : ∃ wa, wa = w9.alloc (.cells #[.slice B1 n1 d1, .slice B2 n2 d2] 38) := ⟨_, rfl⟩
                rw [← hwa] at l9 hrn ⊢
                have hbf := bt hbf l9
                clear l9 hwa hbb
                refine hK.out _ _ (fun _ _ => HS.out _ hbf) ?_
                (try simp only [Act.put, List.getElem_toArray, List.getElem_cons_zero, List.getElem_cons_succ, List.setIfInBounds_toArray, List.set_cons_zero, List.set_cons_succ])
                refine wpAnyX_one (i := 5) rfl (by kernel_rfl) (fun K hK => ?_)
                refine step_appE rfl _ _ _ _ rfl _ _ rfl rfl _ _ hrn (hK.out _ _ (fun _ _ => ⟨hxx _ _ _ HMk.out HOF.out, by have := hMb.cell 1; simpa using this⟩) ?_)
                (try simp only [Act.put, List.getElem_toArray, List.getElem_cons_zero, List.getElem_cons_succ, List.setIfInBounds_toArray, List.set_cons_zero, List.set_cons_succ])
                have kx1 := hMb.cell 1
                have kf1 := hMb.free 1
                simp at kx1
                clear hrn
                refine wpAnyX_pure (i := 6) (v := ?_) rfl (by kernel_rfl) (by kernel_rfl) (by kernel_rfl) (fun _ _ _ h => h) (Or.inl ⟨by rfl, ?_⟩) ?_
                rotate_left
                · (intro W _; go_simp; try with_reducible rfl)
                (try simp only [Act.put, List.getElem_toArray, List.getElem_cons_zero, List.getElem_cons_succ, List.setIfInBounds_toArray, List.set_cons_zero, List.set_cons_succ])
                refine wpAnyX_one (i := 7) rfl (by kernel_rfl) (fun K hK => ?_)
                go_simp
                refine hK.out _ _ (fun h => absurd h (by decide)) ?_
                (try simp only [Act.put, List.getElem_toArray, List.getElem_cons_zero, List.getElem_cons_succ, List.setIfInBounds_toArray, List.set_cons_zero, List.set_cons_succ])
                refine wpAnyX_done (by kernel_rfl) ?_ _
                have HXn := Lib.hid (hMb.on1 (.slice A6 (L + 1) c6))
                have HOn := Lib.hid (htr.set1 (k := 1) hMb (.slice A6 (L + 1) c6))
                have HBn := Lib.hid (hBb.setCell (p := ⟨w.heap.size + 1 + 1 + 1, 1, none⟩) (by have := HZ0.out; show _ ≤ w.heap.size + 1 + 1 + 1; omega) (.slice A6 (L + 1) c6))
                have wk1 : IntKind.i64.wrap ((k : Int) + 1) = ((k + 1 : Nat) : Int) := by rw [IntKind.wrap_i64]; omega
                clear hMb htr hBb kx1 kf1 hbf o1 o2 hxx hkk hst hob
                go_wp2_with fail
                go_roundw
                case measure => simp [intOf]; omega
                case rel => exact ⟨k + 1, true, l ++ [(tIn ts k, tOut ts k)], L + 1, A6, c6, rfl, by omega, rfl, Lib.hid (by rw [List.length_append, ← HL.out]; rfl), by omega, Lib.hid (radd_round HKT.out HR.out (by rw [HKP.out]; simp) (by rfl)), HXn, HOn, HBn⟩
              · have HKP := Lib.hid (kp_c (xs := xs) (x := (tIn ts k, tOut ts k)) (of_decide_eq_true HFF.out.symm) (by rw [HLX.out, HN1.out]; exact he))
                have heI : ((n : Int) == (n1 : Int)) = false := by simpa using fun h => he (by omega)
                have wk1 : IntKind.i64.wrap ((k : Int) + 1) = ((k + 1 : Nat) : Int) := by rw [IntKind.wrap_i64]; omega
                clear he
                go_wp2_with fail
                refine HHP.out.mono ?_
                rintro r wq ⟨rfl, q, rfl⟩
                go_upto_region 9 with fail
                have hq : Below w7.heap.size w7 (w7.drewN q) := below_drewN (Below.refl _ _) q
                have HXk := Lib.hid (HXk.out.on hq)
                have HOk := Lib.hid (HOk.out.kept hq)
                have HBk := Lib.hid (bt HBk.out hq)
                have HMk := Lib.hid (HMk.out.on hq)
                generalize w7.drewN q = wk at hq HXk HOk HBk HMk ⊢
                clear hq
                clear l0 t0
                go_wp2_with fail
                go_roundw
                case rel => exact ⟨k + 1, true, l, L, A', c', rfl, by omega, rfl, HL, by omega, Lib.hid (radd_round HKT.out HR.out (by rw [HKP.out]; simp) (by rfl)), HXk, HOk, HBk⟩
                case measure => simp [intOf]; omega
          case false =>
            by_cases hz0 : z < 0
            · have HZN := Lib.hid hz0
              go_wp2_with fail
              refine HCM.out.mono ?_
              rintro r wq ⟨rfl, q, rfl⟩
              go_upto_region 12 with fail
              have hq : Below w7.heap.size w7 (w7.drewN q) := below_drewN (Below.refl _ _) q
              have HXk := Lib.hid (HXk.out.on hq)
              have HOk := Lib.hid (HOk.out.kept hq)
              have HBk := Lib.hid (bt HBk.out hq)
              have HMk := Lib.hid (HMk.out.on hq)
              generalize w7.drewN q = w8 at hq HXk HOk HBk HMk ⊢
              clear hq
              clear l0 t0
              have HS := Lib.hid (show ∀ W, Below w8.heap.size w8 W → Bx W (w.heap.size + 1) #[.slice A n c, .slice B m d] 38 ∧ W.cell? ⟨w.heap.size + 1 + 1 + 1, 1, none⟩ = some (.slice A' L c') from fun W h => ⟨HM2.out _ (bt HBk.out h), by have := (HXk.out.on h).cell 1; simpa using this⟩)
              have hbf : Below w8.heap.size w8 w8.drew := below_drewN (Below.refl _ _) 1
              refine wp_region_heldX (X := fun k => ([7] : List Nat).contains k) (S := fun W => Bx W (w.heap.size + 1) #[.slice A n c, .slice B m d] 38 ∧ W.cell? ⟨w.heap.size + 1 + 1 + 1, 1, none⟩ = some (.slice A' L c')) (by kernel_rfl) ?_
              generalize w8.drew = wkd at hbf ⊢
              refine wpAnyX_pure (i := 0) (v := ?_) rfl (by kernel_rfl) (by kernel_rfl) (by kernel_rfl) (fun _ _ _ h => h) (Or.inl ⟨by rfl, ?_⟩) ?_
              rotate_left
              · (intro W _; go_simp; try with_reducible rfl)
              (try simp only [Act.put, List.getElem_toArray, List.getElem_cons_zero, List.getElem_cons_succ, List.setIfInBounds_toArray, List.set_cons_zero, List.set_cons_succ])
              refine wpAnyX_takeL (L := [7]) (i := 1) (v := ?_) rfl (by kernel_rfl) (by kernel_rfl) (by kernel_rfl) (by kernel_rfl) (fun _ _ _ h => h) (Or.inl ⟨by rfl, ?_⟩) (HS.out _ hbf) ?_
              rotate_left
              · (intro W hSW; (try dsimp only at hSW); obtain ⟨z0, z1⟩ := hSW; go_simp; try with_reducible rfl)
              (try simp only [Act.put, List.getElem_toArray, List.getElem_cons_zero, List.getElem_cons_succ, List.setIfInBounds_toArray, List.set_cons_zero, List.set_cons_succ])
              refine wpAnyX_takeL (L := [7]) (i := 2) (v := .agg (#[.slice A n c, .slice B m d])) rfl (by kernel_rfl) (by kernel_rfl) (by kernel_rfl) (by kernel_rfl) (fun _ _ _ h => h) (Or.inl ⟨by rfl, fun W hSW => run_load_bx 38 _ rfl (w.heap.size + 1) rfl 38 (#[.slice A n c, .slice B m d]) (0, 0) _ (hSW.1) Try.underlying38 rfl (by kernel_rfl)⟩) (HS.out _ hbf) ?_
              (try simp only [Act.put, List.getElem_toArray, List.getElem_cons_zero, List.getElem_cons_succ, List.setIfInBounds_toArray, List.set_cons_zero, List.set_cons_succ])
              refine wpAnyX_one (i := 3) rfl (by kernel_rfl) (fun K hK => ?_)
              go_simp
              go_at_call 76
              refine (rcopied16 A B n c m d (xs) (ys) _ (HX.out _ (bt HBk.out hbf)) (HY.out _ (bt HBk.out hbf))).mono ?_
              rintro r w9 ⟨B1, B2, d1, d2, rfl, o1, o2, b9⟩
              have o1 := o1.lower (base' := w0.heap.size) (Nat.le_trans HBk.out.size hbf.size)
              have o2 := o2.lower (base' := w0.heap.size) (Nat.le_trans HBk.out.size hbf.size)
              have hbf := bt hbf b9
              clear b9
              refine hK.out _ _ (fun _ _ => HS.out _ hbf) ?_
              (try simp only [Act.put, List.getElem_toArray, List.getElem_cons_zero, List.getElem_cons_succ, List.setIfInBounds_toArray, List.set_cons_zero, List.set_cons_succ])
              refine wpAnyX_one (i := 4) rfl (by kernel_rfl) (fun K hK => ?_)
              go_simp
              have l9 := alloc_below w9 (.cells #[.slice B1 n d1, .slice B2 m d2] 38)
              have hst := hbf.size
              obtain ⟨A5, c5, wb, hrn, htr, hbb, hkk, hxx, hob⟩ := run_append_traceB (HOk.out.kept hbf) o1 o2 (Nat.le_trans HBk.out.size hst) (by rw [← HL.out]; omega)
              rw [← HL.out] at hrn htr hob
              have hMb := (hkk 24 (by decide)).bx (HXk.out.on hbf)
              have hBb := HBk.out.trans ((Below.mono hbf HBk.out.size).trans hbb)
              have hob := fun X (h : X < w8.heap.size) => hob X (Nat.lt_of_lt_of_le h hst)
              have hxx := fun X cs t (h : Bx w8 X cs t) (h2 : (Value.slice A' L c').ownBlock ≠ some X) => hxx X cs t (h.on hbf) h2
              obtain ⟨wa, hwa⟩ : ∃ wa, wa = w9.alloc (.cells #[.slice B1 n d1, .slice B2 m d2] 38) := ⟨_, rfl⟩
              rw [← hwa] at l9 hrn ⊢
              have hbf := bt hbf l9
              clear l9 hwa hbb
              refine hK.out _ _ (fun _ _ => HS.out _ hbf) ?_
              (try simp only [Act.put, List.getElem_toArray, List.getElem_cons_zero, List.getElem_cons_succ, List.setIfInBounds_toArray, List.set_cons_zero, List.set_cons_succ])
              refine wpAnyX_one (i := 5) rfl (by kernel_rfl) (fun K hK => ?_)
              refine step_appE rfl _ _ _ _ rfl _ _ rfl rfl _ _ hrn (hK.out _ _ (fun _ _ => ⟨HM2.out _ hBb, by have := hMb.cell 1; simpa using this⟩) ?_)
              (try simp only [Act.put, List.getElem_toArray, List.getElem_cons_zero, List.getElem_cons_succ, List.setIfInBounds_toArray, List.set_cons_zero, List.set_cons_succ])
              have kx1 := hMb.cell 1
              have kf1 := hMb.free 1
              simp at kx1
              clear hrn
              refine wpAnyX_pure (i := 6) (v := ?_) rfl (by kernel_rfl) (by kernel_rfl) (by kernel_rfl) (fun _ _ _ h => h) (Or.inl ⟨by rfl, ?_⟩) ?_
              rotate_left
              · (intro W _; go_simp; try with_reducible rfl)
              (try simp only [Act.put, List.getElem_toArray, List.getElem_cons_zero, List.getElem_cons_succ, List.setIfInBounds_toArray, List.set_cons_zero, List.set_cons_succ])
              refine wpAnyX_one (i := 7) rfl (by kernel_rfl) (fun K hK => ?_)
              go_simp
              refine hK.out _ _ (fun h => absurd h (by decide)) ?_
              (try simp only [Act.put, List.getElem_toArray, List.getElem_cons_zero, List.getElem_cons_succ, List.setIfInBounds_toArray, List.set_cons_zero, List.set_cons_succ])
              refine wpAnyX_done (by kernel_rfl) ?_ _
              have HXn := Lib.hid (hMb.on1 (.slice A5 (L + 1) c5))
              have HOn := Lib.hid (htr.set1 (k := 1) hMb (.slice A5 (L + 1) c5))
              have HBn := Lib.hid (hBb.setCell (p := ⟨w.heap.size + 1 + 1 + 1, 1, none⟩) (by have := HZ0.out; show _ ≤ w.heap.size + 1 + 1 + 1; omega) (.slice A5 (L + 1) c5))
              have HOF2 := Lib.hid (hob _ HMk.out.lt HOF.out)
              have HMn := Lib.hid ((hxx _ _ _ HMk.out HOF.out).other (g' := w.heap.size + 1 + 1 + 1) (k := 1) (by have := HXO.out.lt; omega) (.slice A5 (L + 1) c5))
              have HL5 : Hid (L + 1 = (l ++ [(xs, ys)]).length) := Lib.hid (by rw [List.length_append, ← HL.out]; rfl)
              clear hMb htr hBb hbf o1 o2 hxx hkk hst hob HXk HOk HBk HMk HS
              have HXk := HXn
              have HOk := HOn
              have HBk := HBn
              have HMk := HMn
              clear HOF
              have HOF := HOF2
              clear HXn HOn HBn HMn HOF2
              go_upto_region 14 with fail
              clear kx1 kf1
              generalize wb.setCell ⟨w.heap.size + 1 + 1 + 1, 1, none⟩ (.slice A5 (L + 1) c5) = wc at HXk HOk HBk HMk ⊢
              have HHP := Lib.hid (rhasprefix A A1 n c n1 c1 xs (tIn ts k) wc (HX.out _ HBk.out) (HI1.out _ HBk.out))
              have l0 := (HM2.out _ HBk.out).cell 0
              have t0 := HMk.out.cell 0
              simp at l0 t0
              obtain ⟨f, hf⟩ : ∃ f, f = decide (cmn xs (tIn ts k) = (tIn ts k).length) := ⟨_, rfl⟩
              rw [← hf] at HHP
              have HFF := Lib.hid hf
              clear hf
              cases f
              case false =>
                have HKP := Lib.hid (kp_a (xs := xs) (x := (tIn ts k, tOut ts k)) (of_decide_eq_false HFF.out.symm))
                go_wp2_with fail
                refine HHP.out.mono ?_
                rintro r wq ⟨rfl, q, rfl⟩
                go_upto_region 15 with fail
                have hq : Below wc.heap.size wc (wc.drewN q) := below_drewN (Below.refl _ _) q
                have HXk := Lib.hid (HXk.out.on hq)
                have HOk := Lib.hid (HOk.out.kept hq)
                have HBk := Lib.hid (bt HBk.out hq)
                have HMk := Lib.hid (HMk.out.on hq)
                generalize wc.drewN q = wk at hq HXk HOk HBk HMk ⊢
                clear hq
                clear l0 t0
                have HS := Lib.hid (show ∀ W, Below wk.heap.size wk W → Bx W wr.heap.size #[.slice A1 n1 c1, .slice A2 n2 c2] 38 ∧ W.cell? ⟨w.heap.size + 1 + 1 + 1, 1, none⟩ = some (.slice A5 (L + 1) c5) from fun W h => ⟨HMk.out.on h, by have := (HXk.out.on h).cell 1; simpa using this⟩)
                have hbf : Below wk.heap.size wk wk.drew := below_drewN (Below.refl _ _) 1
                refine wp_region_heldX (X := fun k => ([7] : List Nat).contains k) (S := fun W => Bx W wr.heap.size #[.slice A1 n1 c1, .slice A2 n2 c2] 38 ∧ W.cell? ⟨w.heap.size + 1 + 1 + 1, 1, none⟩ = some (.slice A5 (L + 1) c5)) (by kernel_rfl) ?_
                generalize wk.drew = wkd at hbf ⊢
                refine wpAnyX_pure (i := 0) (v := ?_) rfl (by kernel_rfl) (by kernel_rfl) (by kernel_rfl) (fun _ _ _ h => h) (Or.inl ⟨by rfl, ?_⟩) ?_
                rotate_left
                · (intro W _; go_simp; try with_reducible rfl)
                (try simp only [Act.put, List.getElem_toArray, List.getElem_cons_zero, List.getElem_cons_succ, List.setIfInBounds_toArray, List.set_cons_zero, List.set_cons_succ])
                refine wpAnyX_takeL (L := [7]) (i := 1) (v := ?_) rfl (by kernel_rfl) (by kernel_rfl) (by kernel_rfl) (by kernel_rfl) (fun _ _ _ h => h) (Or.inl ⟨by rfl, ?_⟩) (HS.out _ hbf) ?_
                rotate_left
                · (intro W hSW; (try dsimp only at hSW); obtain ⟨z0, z1⟩ := hSW; go_simp; try with_reducible rfl)
                (try simp only [Act.put, List.getElem_toArray, List.getElem_cons_zero, List.getElem_cons_succ, List.setIfInBounds_toArray, List.set_cons_zero, List.set_cons_succ])
                refine wpAnyX_takeL (L := [7]) (i := 2) (v := .agg (#[.slice A1 n1 c1, .slice A2 n2 c2])) rfl (by kernel_rfl) (by kernel_rfl) (by kernel_rfl) (by kernel_rfl) (fun _ _ _ h => h) (Or.inl ⟨by rfl, fun W hSW => run_load_bx 38 _ rfl (wr.heap.size) rfl 38 (#[.slice A1 n1 c1, .slice A2 n2 c2]) (0, 0) _ (hSW.1) Try.underlying38 rfl (by kernel_rfl)⟩) (HS.out _ hbf) ?_
                (try simp only [Act.put, List.getElem_toArray, List.getElem_cons_zero, List.getElem_cons_succ, List.setIfInBounds_toArray, List.set_cons_zero, List.set_cons_succ])
                refine wpAnyX_one (i := 3) rfl (by kernel_rfl) (fun K hK => ?_)
                go_simp
                go_at_call 76
                refine (rcopied16 A1 A2 n1 c1 n2 c2 (tIn ts k) (tOut ts k) _ (HI1.out _ (bt HBk.out hbf)) (HI2.out _ (bt HBk.out hbf))).mono ?_
                rintro r w9 ⟨B1, B2, d1, d2, rfl, o1, o2, b9⟩
                have o1 := o1.lower (base' := w0.heap.size) (Nat.le_trans HBk.out.size hbf.size)
                have o2 := o2.lower (base' := w0.heap.size) (Nat.le_trans HBk.out.size hbf.size)
                have hbf := bt hbf b9
                clear b9
                refine hK.out _ _ (fun _ _ => HS.out _ hbf) ?_
                (try simp only [Act.put, List.getElem_toArray, List.getElem_cons_zero, List.getElem_cons_succ, List.setIfInBounds_toArray, List.set_cons_zero, List.set_cons_succ])
                refine wpAnyX_one (i := 4) rfl (by kernel_rfl) (fun K hK => ?_)
                go_simp
                have l9 := alloc_below w9 (.cells #[.slice B1 n1 d1, .slice B2 n2 d2] 38)
                have hst := hbf.size
                obtain ⟨A6, c6, wb, hrn, htr, hbb, hkk, hxx, hob⟩ := run_append_traceB (HOk.out.kept hbf) o1 o2 (Nat.le_trans HBk.out.size hst) (by rw [← HL5.out]; omega)
                rw [← HL5.out] at hrn htr hob
                have hMb := (hkk 24 (by decide)).bx (HXk.out.on hbf)
                have hBb := HBk.out.trans ((Below.mono hbf HBk.out.size).trans hbb)
                have hob := fun X (h : X < wk.heap.size) => hob X (Nat.lt_of_lt_of_le h hst)
                have hxx := fun X cs t (h : Bx wk X cs t) (h2 : (Value.slice A5 (L + 1) c5).ownBlock ≠ some X) => hxx X cs t (h.on hbf) h2
                obtain ⟨wa, hwa⟩ : ∃ wa, wa = w9.alloc (.cells #[.slice B1 n1 d1, .slice B2 n2 d2] 38) := ⟨_, rfl⟩
                rw [← hwa] at l9 hrn ⊢
                have hbf := bt hbf l9
                clear l9 hwa hbb
                refine hK.out _ _ (fun _ _ => HS.out _ hbf) ?_
                (try simp only [Act.put, List.getElem_toArray, List.getElem_cons_zero, List.getElem_cons_succ, List.setIfInBounds_toArray, List.set_cons_zero, List.set_cons_succ])
                refine wpAnyX_one (i := 5) rfl (by kernel_rfl) (fun K hK => ?_)
                refine step_appE rfl _ _ _ _ rfl _ _ rfl rfl _ _ hrn (hK.out _ _ (fun _ _ => ⟨hxx _ _ _ HMk.out HOF.out, by have := hMb.cell 1; simpa using this⟩) ?_)
                (try simp only [Act.put, List.getElem_toArray, List.getElem_cons_zero, List.getElem_cons_succ, List.setIfInBounds_toArray, List.set_cons_zero, List.set_cons_succ])
                have kx1 := hMb.cell 1
                have kf1 := hMb.free 1
                simp at kx1
                clear hrn
                refine wpAnyX_pure (i := 6) (v := ?_) rfl (by kernel_rfl) (by kernel_rfl) (by kernel_rfl) (fun _ _ _ h => h) (Or.inl ⟨by rfl, ?_⟩) ?_
                rotate_left
                · (intro W _; go_simp; try with_reducible rfl)
                (try simp only [Act.put, List.getElem_toArray, List.getElem_cons_zero, List.getElem_cons_succ, List.setIfInBounds_toArray, List.set_cons_zero, List.set_cons_succ])
                refine wpAnyX_one (i := 7) rfl (by kernel_rfl) (fun K hK => ?_)
                go_simp
                refine hK.out _ _ (fun h => absurd h (by decide)) ?_
                (try simp only [Act.put, List.getElem_toArray, List.getElem_cons_zero, List.getElem_cons_succ, List.setIfInBounds_toArray, List.set_cons_zero, List.set_cons_succ])
                refine wpAnyX_done (by kernel_rfl) ?_ _
                have HXn := Lib.hid (hMb.on1 (.slice A6 ((L + 1) + 1) c6))
                have HOn := Lib.hid (htr.set1 (k := 1) hMb (.slice A6 ((L + 1) + 1) c6))
                have HBn := Lib.hid (hBb.setCell (p := ⟨w.heap.size + 1 + 1 + 1, 1, none⟩) (by have := HZ0.out; show _ ≤ w.heap.size + 1 + 1 + 1; omega) (.slice A6 ((L + 1) + 1) c6))
                have wk1 : IntKind.i64.wrap ((k : Int) + 1) = ((k + 1 : Nat) : Int) := by rw [IntKind.wrap_i64]; omega
                clear hMb htr hBb kx1 kf1 hbf o1 o2 hxx hkk hst hob
                go_wp2_with fail
                go_roundw
                case measure => simp [intOf]; omega
                case rel => exact ⟨k + 1, true, (l ++ [(xs, ys)]) ++ [(tIn ts k, tOut ts k)], (L + 1) + 1, A6, c6, rfl, by omega, rfl, Lib.hid (by rw [List.length_append, ← HL5.out]; rfl), by omega, Lib.hid (radd_round HKT.out HR.out (by rw [HKP.out, ← HZZ.out, decide_eq_true (show z < 0 by have := HZN.out; omega)]; simp) (by rw [← HZZ.out, decide_eq_true (show z < 0 by have := HZN.out; omega)]; rfl)), HXn, HOn, HBn⟩
              case true =>
                by_cases he : n = n1
                · have HKP := Lib.hid (kp_b (xs := xs) (x := (tIn ts k, tOut ts k)) (by rw [HLX.out, HN1.out]; exact he))
                  have heI : ((n : Int) == (n1 : Int)) = true := by simp [he]
                  clear he
                  go_wp2_with fail
                  refine HHP.out.mono ?_
                  rintro r wq ⟨rfl, q, rfl⟩
                  go_upto_region 15 with fail
                  have hq : Below wc.heap.size wc (wc.drewN q) := below_drewN (Below.refl _ _) q
                  have HXk := Lib.hid (HXk.out.on hq)
                  have HOk := Lib.hid (HOk.out.kept hq)
                  have HBk := Lib.hid (bt HBk.out hq)
                  have HMk := Lib.hid (HMk.out.on hq)
                  generalize wc.drewN q = wk at hq HXk HOk HBk HMk ⊢
                  clear hq
                  clear l0 t0
                  have HS := Lib.hid (show ∀ W, Below wk.heap.size wk W → Bx W wr.heap.size #[.slice A1 n1 c1, .slice A2 n2 c2] 38 ∧ W.cell? ⟨w.heap.size + 1 + 1 + 1, 1, none⟩ = some (.slice A5 (L + 1) c5) from fun W h => ⟨HMk.out.on h, by have := (HXk.out.on h).cell 1; simpa using this⟩)
                  have hbf : Below wk.heap.size wk wk.drew := below_drewN (Below.refl _ _) 1
                  refine wp_region_heldX (X := fun k => ([7] : List Nat).contains k) (S := fun W => Bx W wr.heap.size #[.slice A1 n1 c1, .slice A2 n2 c2] 38 ∧ W.cell? ⟨w.heap.size + 1 + 1 + 1, 1, none⟩ = some (.slice A5 (L + 1) c5)) (by kernel_rfl) ?_
                  generalize wk.drew = wkd at hbf ⊢
                  refine wpAnyX_pure (i := 0) (v := ?_) rfl (by kernel_rfl) (by kernel_rfl) (by kernel_rfl) (fun _ _ _ h => h) (Or.inl ⟨by rfl, ?_⟩) ?_
                  rotate_left
                  · (intro W _; go_simp; try with_reducible rfl)
                  (try simp only [Act.put, List.getElem_toArray, List.getElem_cons_zero, List.getElem_cons_succ, List.setIfInBounds_toArray, List.set_cons_zero, List.set_cons_succ])
                  refine wpAnyX_takeL (L := [7]) (i := 1) (v := ?_) rfl (by kernel_rfl) (by kernel_rfl) (by kernel_rfl) (by kernel_rfl) (fun _ _ _ h => h) (Or.inl ⟨by rfl, ?_⟩) (HS.out _ hbf) ?_
                  rotate_left
                  · (intro W hSW; (try dsimp only at hSW); obtain ⟨z0, z1⟩ := hSW; go_simp; try with_reducible rfl)
                  (try simp only [Act.put, List.getElem_toArray, List.getElem_cons_zero, List.getElem_cons_succ, List.setIfInBounds_toArray, List.set_cons_zero, List.set_cons_succ])
                  refine wpAnyX_takeL (L := [7]) (i := 2) (v := .agg (#[.slice A1 n1 c1, .slice A2 n2 c2])) rfl (by kernel_rfl) (by kernel_rfl) (by kernel_rfl) (by kernel_rfl) (fun _ _ _ h => h) (Or.inl ⟨by rfl, fun W hSW => run_load_bx 38 _ rfl (wr.heap.size) rfl 38 (#[.slice A1 n1 c1, .slice A2 n2 c2]) (0, 0) _ (hSW.1) Try.underlying38 rfl (by kernel_rfl)⟩) (HS.out _ hbf) ?_
                  (try simp only [Act.put, List.getElem_toArray, List.getElem_cons_zero, List.getElem_cons_succ, List.setIfInBounds_toArray, List.set_cons_zero, List.set_cons_succ])
                  refine wpAnyX_one (i := 3) rfl (by kernel_rfl) (fun K hK => ?_)
                  go_simp
                  go_at_call 76
                  refine (rcopied16 A1 A2 n1 c1 n2 c2 (tIn ts k) (tOut ts k) _ (HI1.out _ (bt HBk.out hbf)) (HI2.out _ (bt HBk.out hbf))).mono ?_
                  rintro r w9 ⟨B1, B2, d1, d2, rfl, o1, o2, b9⟩
                  have o1 := o1.lower (base' := w0.heap.size) (Nat.le_trans HBk.out.size hbf.size)
                  have o2 := o2.lower (base' := w0.heap.size) (Nat.le_trans HBk.out.size hbf.size)
                  have hbf := bt hbf b9
                  clear b9
                  refine hK.out _ _ (fun _ _ => HS.out _ hbf) ?_
                  (try simp only [Act.put, List.getElem_toArray, List.getElem_cons_zero, List.getElem_cons_succ, List.setIfInBounds_toArray, List.set_cons_zero, List.set_cons_succ])
                  refine wpAnyX_one (i := 4) rfl (by kernel_rfl) (fun K hK => ?_)
                  go_simp
                  have l9 := alloc_below w9 (.cells #[.slice B1 n1 d1, .slice B2 n2 d2] 38)
                  have hst := hbf.size
                  obtain ⟨A6, c6, wb, hrn, htr, hbb, hkk, hxx, hob⟩ := run_append_traceB (HOk.out.kept hbf) o1 o2 (Nat.le_trans HBk.out.size hst) (by rw [← HL5.out]; omega)
                  rw [← HL5.out] at hrn htr hob
                  have hMb := (hkk 24 (by decide)).bx (HXk.out.on hbf)
                  have hBb := HBk.out.trans ((Below.mono hbf HBk.out.size).trans hbb)
                  have hob := fun X (h : X < wk.heap.size) => hob X (Nat.lt_of_lt_of_le h hst)
                  have hxx := fun X cs t (h : Bx wk X cs t) (h2 : (Value.slice A5 (L + 1) c5).ownBlock ≠ some X) => hxx X cs t (h.on hbf) h2
                  obtain ⟨wa, hwa⟩ : ∃ wa, wa = w9.alloc (.cells #[.slice B1 n1 d1, .slice B2 n2 d2] 38) := ⟨_, rfl⟩
                  rw [← hwa] at l9 hrn ⊢
                  have hbf := bt hbf l9
                  clear l9 hwa hbb
                  refine hK.out _ _ (fun _ _ => HS.out _ hbf) ?_
                  (try simp only [Act.put, List.getElem_toArray, List.getElem_cons_zero, List.getElem_cons_succ, List.setIfInBounds_toArray, List.set_cons_zero, List.set_cons_succ])
                  refine wpAnyX_one (i := 5) rfl (by kernel_rfl) (fun K hK => ?_)
                  refine step_appE rfl _ _ _ _ rfl _ _ rfl rfl _ _ hrn (hK.out _ _ (fun _ _ => ⟨hxx _ _ _ HMk.out HOF.out, by have := hMb.cell 1; simpa using this⟩) ?_)
                  (try simp only [Act.put, List.getElem_toArray, List.getElem_cons_zero, List.getElem_cons_succ, List.setIfInBounds_toArray, List.set_cons_zero, List.set_cons_succ])
                  have kx1 := hMb.cell 1
                  have kf1 := hMb.free 1
                  simp at kx1
                  clear hrn
                  refine wpAnyX_pure (i := 6) (v := ?_) rfl (by kernel_rfl) (by kernel_rfl) (by kernel_rfl) (fun _ _ _ h => h) (Or.inl ⟨by rfl, ?_⟩) ?_
                  rotate_left
                  · (intro W _; go_simp; try with_reducible rfl)
                  (try simp only [Act.put, List.getElem_toArray, List.getElem_cons_zero, List.getElem_cons_succ, List.setIfInBounds_toArray, List.set_cons_zero, List.set_cons_succ])
                  refine wpAnyX_one (i := 7) rfl (by kernel_rfl) (fun K hK => ?_)
                  go_simp
                  refine hK.out _ _ (fun h => absurd h (by decide)) ?_
                  (try simp only [Act.put, List.getElem_toArray, List.getElem_cons_zero, List.getElem_cons_succ, List.setIfInBounds_toArray, List.set_cons_zero, List.set_cons_succ])
                  refine wpAnyX_done (by kernel_rfl) ?_ _
                  have HXn := Lib.hid (hMb.on1 (.slice A6 ((L + 1) + 1) c6))
                  have HOn := Lib.hid (htr.set1 (k := 1) hMb (.slice A6 ((L + 1) + 1) c6))
                  have HBn := Lib.hid (hBb.setCell (p := ⟨w.heap.size + 1 + 1 + 1, 1, none⟩) (by have := HZ0.out; show _ ≤ w.heap.size + 1 + 1 + 1; omega) (.slice A6 ((L + 1) + 1) c6))
                  have wk1 : IntKind.i64.wrap ((k : Int) + 1) = ((k + 1 : Nat) : Int) := by rw [IntKind.wrap_i64]; omega
                  clear hMb htr hBb kx1 kf1 hbf o1 o2 hxx hkk hst hob
                  go_wp2_with fail
                  go_roundw
                  case measure => simp [intOf]; omega
                  case rel => exact ⟨k + 1, true, (l ++ [(xs, ys)]) ++ [(tIn ts k, tOut ts k)], (L + 1) + 1, A6, c6, rfl, by omega, rfl, Lib.hid (by rw [List.length_append, ← HL5.out]; rfl), by omega, Lib.hid (radd_round HKT.out HR.out (by rw [HKP.out, ← HZZ.out, decide_eq_true (show z < 0 by have := HZN.out; omega)]; simp) (by rw [← HZZ.out, decide_eq_true (show z < 0 by have := HZN.out; omega)]; rfl)), HXn, HOn, HBn⟩
                · have HKP := Lib.hid (kp_c (xs := xs) (x := (tIn ts k, tOut ts k)) (of_decide_eq_true HFF.out.symm) (by rw [HLX.out, HN1.out]; exact he))
                  have heI : ((n : Int) == (n1 : Int)) = false := by simpa using fun h => he (by omega)
                  have wk1 : IntKind.i64.wrap ((k : Int) + 1) = ((k + 1 : Nat) : Int) := by rw [IntKind.wrap_i64]; omega
                  clear he
                  go_wp2_with fail
                  refine HHP.out.mono ?_
                  rintro r wq ⟨rfl, q, rfl⟩
                  go_upto_region 9 with fail
                  have hq : Below wc.heap.size wc (wc.drewN q) := below_drewN (Below.refl _ _) q
                  have HXk := Lib.hid (HXk.out.on hq)
                  have HOk := Lib.hid (HOk.out.kept hq)
                  have HBk := Lib.hid (bt HBk.out hq)
                  have HMk := Lib.hid (HMk.out.on hq)
                  generalize wc.drewN q = wk at hq HXk HOk HBk HMk ⊢
                  clear hq
                  clear l0 t0
                  go_wp2_with fail
                  go_roundw
                  case rel => exact ⟨k + 1, true, (l ++ [(xs, ys)]), (L + 1), A5, c5, rfl, by omega, rfl, HL5, by omega, Lib.hid (radd_round HKT.out HR.out (by rw [HKP.out, ← HZZ.out, decide_eq_true (show z < 0 by have := HZN.out; omega)]; simp) (by rw [← HZZ.out, decide_eq_true (show z < 0 by have := HZN.out; omega)]; rfl)), HXk, HOk, HBk⟩
                  case measure => simp [intOf]; omega
            · have HZN := Lib.hid hz0
              go_wp2_with fail
              refine HCM.out.mono ?_
              rintro r wq ⟨rfl, q, rfl⟩
              go_upto_region 14 with fail
              have hq : Below w7.heap.size w7 (w7.drewN q) := below_drewN (Below.refl _ _) q
              have HXk := Lib.hid (HXk.out.on hq)
              have HOk := Lib.hid (HOk.out.kept hq)
              have HBk := Lib.hid (bt HBk.out hq)
              have HMk := Lib.hid (HMk.out.on hq)
              generalize w7.drewN q = w8 at hq HXk HOk HBk HMk ⊢
              clear hq
              clear l0 t0
              have HHP := Lib.hid (rhasprefix A A1 n c n1 c1 xs (tIn ts k) w8 (HX.out _ HBk.out) (HI1.out _ HBk.out))
              have l0 := (HM2.out _ HBk.out).cell 0
              have t0 := HMk.out.cell 0
              simp at l0 t0
              obtain ⟨f, hf⟩ : ∃ f, f = decide (cmn xs (tIn ts k) = (tIn ts k).length) := ⟨_, rfl⟩
              rw [← hf] at HHP
              have HFF := Lib.hid hf
              clear hf
              cases f
              case false =>
                have HKP := Lib.hid (kp_a (xs := xs) (x := (tIn ts k, tOut ts k)) (of_decide_eq_false HFF.out.symm))
                go_wp2_with fail
                refine HHP.out.mono ?_
                rintro r wq ⟨rfl, q, rfl⟩
                go_upto_region 15 with fail
                have hq : Below w8.heap.size w8 (w8.drewN q) := below_drewN (Below.refl _ _) q
                have HXk := Lib.hid (HXk.out.on hq)
                have HOk := Lib.hid (HOk.out.kept hq)
                have HBk := Lib.hid (bt HBk.out hq)
                have HMk := Lib.hid (HMk.out.on hq)
                generalize w8.drewN q = wk at hq HXk HOk HBk HMk ⊢
                clear hq
                clear l0 t0
                have HS := Lib.hid (show ∀ W, Below wk.heap.size wk W → Bx W wr.heap.size #[.slice A1 n1 c1, .slice A2 n2 c2] 38 ∧ W.cell? ⟨w.heap.size + 1 + 1 + 1, 1, none⟩ = some (.slice A' L c') from fun W h => ⟨HMk.out.on h, by have := (HXk.out.on h).cell 1; simpa using this⟩)
                have hbf : Below wk.heap.size wk wk.drew := below_drewN (Below.refl _ _) 1
                refine wp_region_heldX (X := fun k => ([7] : List Nat).contains k) (S := fun W => Bx W wr.heap.size #[.slice A1 n1 c1, .slice A2 n2 c2] 38 ∧ W.cell? ⟨w.heap.size + 1 + 1 + 1, 1, none⟩ = some (.slice A' L c')) (by kernel_rfl) ?_
                generalize wk.drew = wkd at hbf ⊢
                refine wpAnyX_pure (i := 0) (v := ?_) rfl (by kernel_rfl) (by kernel_rfl) (by kernel_rfl) (fun _ _ _ h => h) (Or.inl ⟨by rfl, ?_⟩) ?_
                rotate_left
                · (intro W _; go_simp; try with_reducible rfl)
                (try simp only [Act.put, List.getElem_toArray, List.getElem_cons_zero, List.getElem_cons_succ, List.setIfInBounds_toArray, List.set_cons_zero, List.set_cons_succ])
                refine wpAnyX_takeL (L := [7]) (i := 1) (v := ?_) rfl (by kernel_rfl) (by kernel_rfl) (by kernel_rfl) (by kernel_rfl) (fun _ _ _ h => h) (Or.inl ⟨by rfl, ?_⟩) (HS.out _ hbf) ?_
                rotate_left
                · (intro W hSW; (try dsimp only at hSW); obtain ⟨z0, z1⟩ := hSW; go_simp; try with_reducible rfl)
                (try simp only [Act.put, List.getElem_toArray, List.getElem_cons_zero, List.getElem_cons_succ, List.setIfInBounds_toArray, List.set_cons_zero, List.set_cons_succ])
                refine wpAnyX_takeL (L := [7]) (i := 2) (v := .agg (#[.slice A1 n1 c1, .slice A2 n2 c2])) rfl (by kernel_rfl) (by kernel_rfl) (by kernel_rfl) (by kernel_rfl) (fun _ _ _ h => h) (Or.inl ⟨by rfl, fun W hSW => run_load_bx 38 _ rfl (wr.heap.size) rfl 38 (#[.slice A1 n1 c1, .slice A2 n2 c2]) (0, 0) _ (hSW.1) Try.underlying38 rfl (by kernel_rfl)⟩) (HS.out _ hbf) ?_
                (try simp only [Act.put, List.getElem_toArray, List.getElem_cons_zero, List.getElem_cons_succ, List.setIfInBounds_toArray, List.set_cons_zero, List.set_cons_succ])
                refine wpAnyX_one (i := 3) rfl (by kernel_rfl) (fun K hK => ?_)
                go_simp
                go_at_call 76
                refine (rcopied16 A1 A2 n1 c1 n2 c2 (tIn ts k) (tOut ts k) _ (HI1.out _ (bt HBk.out hbf)) (HI2.out _ (bt HBk.out hbf))).mono ?_
                rintro r w9 ⟨B1, B2, d1, d2, rfl, o1, o2, b9⟩
                have o1 := o1.lower (base' := w0.heap.size) (Nat.le_trans HBk.out.size hbf.size)
                have o2 := o2.lower (base' := w0.heap.size) (Nat.le_trans HBk.out.size hbf.size)
                have hbf := bt hbf b9
                clear b9
                refine hK.out _ _ (fun _ _ => HS.out _ hbf) ?_
                (try simp only [Act.put, List.getElem_toArray, List.getElem_cons_zero, List.getElem_cons_succ, List.setIfInBounds_toArray, List.set_cons_zero, List.set_cons_succ])
                refine wpAnyX_one (i := 4) rfl (by kernel_rfl) (fun K hK => ?_)
                go_simp
                have l9 := alloc_below w9 (.cells #[.slice B1 n1 d1, .slice B2 n2 d2] 38)
                have hst := hbf.size
                obtain ⟨A6, c6, wb, hrn, htr, hbb, hkk, hxx, hob⟩ := run_append_traceB (HOk.out.kept hbf) o1 o2 (Nat.le_trans HBk.out.size hst) (by rw [← HL.out]; omega)
                rw [← HL.out] at hrn htr hob
                have hMb := (hkk 24 (by decide)).bx (HXk.out.on hbf)
                have hBb := HBk.out.trans ((Below.mono hbf HBk.out.size).trans hbb)
                have hob := fun X (h : X < wk.heap.size) => hob X (Nat.lt_of_lt_of_le h hst)
                have hxx := fun X cs t (h : Bx wk X cs t) (h2 : (Value.slice A' L c').ownBlock ≠ some X) => hxx X cs t (h.on hbf) h2
                obtain ⟨wa, hwa⟩ : ∃ wa, wa = w9.alloc (.cells #[.slice B1 n1 d1, .slice B2 n2 d2] 38) := ⟨_, rfl⟩
                rw [← hwa] at l9 hrn ⊢
                have hbf := bt hbf l9
                clear l9 hwa hbb
                refine hK.out _ _ (fun _ _ => HS.out _ hbf) ?_
                (try simp only [Act.put, List.getElem_toArray, List.getElem_cons_zero, List.getElem_cons_succ, List.setIfInBounds_toArray, List.set_cons_zero, List.set_cons_succ])
                refine wpAnyX_one (i := 5) rfl (by kernel_rfl) (fun K hK => ?_)
                refine step_appE rfl _ _ _ _ rfl _ _ rfl rfl _ _ hrn (hK.out _ _ (fun _ _ => ⟨hxx _ _ _ HMk.out HOF.out, by have := hMb.cell 1; simpa using this⟩) ?_)
                (try simp only [Act.put, List.getElem_toArray, List.getElem_cons_zero, List.getElem_cons_succ, List.setIfInBounds_toArray, List.set_cons_zero, List.set_cons_succ])
                have kx1 := hMb.cell 1
                have kf1 := hMb.free 1
                simp at kx1
                clear hrn
                refine wpAnyX_pure (i := 6) (v := ?_) rfl (by kernel_rfl) (by kernel_rfl) (by kernel_rfl) (fun _ _ _ h => h) (Or.inl ⟨by rfl, ?_⟩) ?_
                rotate_left
                · (intro W _; go_simp; try with_reducible rfl)
                (try simp only [Act.put, List.getElem_toArray, List.getElem_cons_zero, List.getElem_cons_succ, List.setIfInBounds_toArray, List.set_cons_zero, List.set_cons_succ])
                refine wpAnyX_one (i := 7) rfl (by kernel_rfl) (fun K hK => ?_)
                go_simp
                refine hK.out _ _ (fun h => absurd h (by decide)) ?_
                (try simp only [Act.put, List.getElem_toArray, List.getElem_cons_zero, List.getElem_cons_succ, List.setIfInBounds_toArray, List.set_cons_zero, List.set_cons_succ])
                refine wpAnyX_done (by kernel_rfl) ?_ _
                have HXn := Lib.hid (hMb.on1 (.slice A6 (L + 1) c6))
                have HOn := Lib.hid (htr.set1 (k := 1) hMb (.slice A6 (L + 1) c6))
                have HBn := Lib.hid (hBb.setCell (p := ⟨w.heap.size + 1 + 1 + 1, 1, none⟩) (by have := HZ0.out; show _ ≤ w.heap.size + 1 + 1 + 1; omega) (.slice A6 (L + 1) c6))
                have wk1 : IntKind.i64.wrap ((k : Int) + 1) = ((k + 1 : Nat) : Int) := by rw [IntKind.wrap_i64]; omega
                clear hMb htr hBb kx1 kf1 hbf o1 o2 hxx hkk hst hob
                go_wp2_with fail
                go_roundw
                case measure => simp [intOf]; omega
                case rel => exact ⟨k + 1, false, l ++ [(tIn ts k, tOut ts k)], L + 1, A6, c6, rfl, by omega, rfl, Lib.hid (by rw [List.length_append, ← HL.out]; rfl), by omega, Lib.hid (radd_round HKT.out HR.out (by rw [HKP.out, ← HZZ.out, decide_eq_false (show ¬ z < 0 by have := HZN.out; omega)]; simp) (by rw [← HZZ.out, decide_eq_false (show ¬ z < 0 by have := HZN.out; omega)]; rfl)), HXn, HOn, HBn⟩
              case true =>
                by_cases he : n = n1
                · have HKP := Lib.hid (kp_b (xs := xs) (x := (tIn ts k, tOut ts k)) (by rw [HLX.out, HN1.out]; exact he))
                  have heI : ((n : Int) == (n1 : Int)) = true := by simp [he]
                  clear he
                  go_wp2_with fail
                  refine HHP.out.mono ?_
                  rintro r wq ⟨rfl, q, rfl⟩
                  go_upto_region 15 with fail
                  have hq : Below w8.heap.size w8 (w8.drewN q) := below_drewN (Below.refl _ _) q
                  have HXk := Lib.hid (HXk.out.on hq)
                  have HOk := Lib.hid (HOk.out.kept hq)
                  have HBk := Lib.hid (bt HBk.out hq)
                  have HMk := Lib.hid (HMk.out.on hq)
                  generalize w8.drewN q = wk at hq HXk HOk HBk HMk ⊢
                  clear hq
                  clear l0 t0
                  have HS := Lib.hid (show ∀ W, Below wk.heap.size wk W → Bx W wr.heap.size #[.slice A1 n1 c1, .slice A2 n2 c2] 38 ∧ W.cell? ⟨w.heap.size + 1 + 1 + 1, 1, none⟩ = some (.slice A' L c') from fun W h => ⟨HMk.out.on h, by have := (HXk.out.on h).cell 1; simpa using this⟩)
                  have hbf : Below wk.heap.size wk wk.drew := below_drewN (Below.refl _ _) 1
                  refine wp_region_heldX (X := fun k => ([7] : List Nat).contains k) (S := fun W => Bx W wr.heap.size #[.slice A1 n1 c1, .slice A2 n2 c2] 38 ∧ W.cell? ⟨w.heap.size + 1 + 1 + 1, 1, none⟩ = some (.slice A' L c')) (by kernel_rfl) ?_
                  generalize wk.drew = wkd at hbf ⊢
                  refine wpAnyX_pure (i := 0) (v := ?_) rfl (by kernel_rfl) (by kernel_rfl) (by kernel_rfl) (fun _ _ _ h => h) (Or.inl ⟨by rfl, ?_⟩) ?_
                  rotate_left
                  · (intro W _; go_simp; try with_reducible rfl)
                  (try simp only [Act.put, List.getElem_toArray, List.getElem_cons_zero, List.getElem_cons_succ, List.setIfInBounds_toArray, List.set_cons_zero, List.set_cons_succ])
                  refine wpAnyX_takeL (L := [7]) (i := 1) (v := ?_) rfl (by kernel_rfl) (by kernel_rfl) (by kernel_rfl) (by kernel_rfl) (fun _ _ _ h => h) (Or.inl ⟨by rfl, ?_⟩) (HS.out _ hbf) ?_
                  rotate_left
                  · (intro W hSW; (try dsimp only at hSW); obtain ⟨z0, z1⟩ := hSW; go_simp; try with_reducible rfl)
                  (try simp only [Act.put, List.getElem_toArray, List.getElem_cons_zero, List.getElem_cons_succ, List.setIfInBounds_toArray, List.set_cons_zero, List.set_cons_succ])
                  refine wpAnyX_takeL (L := [7]) (i := 2) (v := .agg (#[.slice A1 n1 c1, .slice A2 n2 c2])) rfl (by kernel_rfl) (by kernel_rfl) (by kernel_rfl) (by kernel_rfl) (fun _ _ _ h => h) (Or.inl ⟨by rfl, fun W hSW => run_load_bx 38 _ rfl (wr.heap.size) rfl 38 (#[.slice A1 n1 c1, .slice A2 n2 c2]) (0, 0) _ (hSW.1) Try.underlying38 rfl (by kernel_rfl)⟩) (HS.out _ hbf) ?_
                  (try simp only [Act.put, List.getElem_toArray, List.getElem_cons_zero, List.getElem_cons_succ, List.setIfInBounds_toArray, List.set_cons_zero, List.set_cons_succ])
                  refine wpAnyX_one (i := 3) rfl (by kernel_rfl) (fun K hK => ?_)
                  go_simp
                  go_at_call 76
                  refine (rcopied16 A1 A2 n1 c1 n2 c2 (tIn ts k) (tOut ts k) _ (HI1.out _ (bt HBk.out hbf)) (HI2.out _ (bt HBk.out hbf))).mono ?_
                  rintro r w9 ⟨B1, B2, d1, d2, rfl, o1, o2, b9⟩
                  have o1 := o1.lower (base' := w0.heap.size) (Nat.le_trans HBk.out.size hbf.size)
                  have o2 := o2.lower (base' := w0.heap.size) (Nat.le_trans HBk.out.size hbf.size)
                  have hbf := bt hbf b9
                  clear b9
                  refine hK.out _ _ (fun _ _ => HS.out _ hbf) ?_
                  (try simp only [Act.put, List.getElem_toArray, List.getElem_cons_zero, List.getElem_cons_succ, List.setIfInBounds_toArray, List.set_cons_zero, List.set_cons_succ])
                  refine wpAnyX_one (i := 4) rfl (by kernel_rfl) (fun K hK => ?_)
                  go_simp
                  have l9 := alloc_below w9 (.cells #[.slice B1 n1 d1, .slice B2 n2 d2] 38)
                  have hst := hbf.size
                  obtain ⟨A6, c6, wb, hrn, htr, hbb, hkk, hxx, hob⟩ := run_append_traceB (HOk.out.kept hbf) o1 o2 (Nat.le_trans HBk.out.size hst) (by rw [← HL.out]; omega)
                  rw [← HL.out] at hrn htr hob
                  have hMb := (hkk 24 (by decide)).bx (HXk.out.on hbf)
                  have hBb := HBk.out.trans ((Below.mono hbf HBk.out.size).trans hbb)
                  have hob := fun X (h : X < wk.heap.size) => hob X (Nat.lt_of_lt_of_le h hst)
                  have hxx := fun X cs t (h : Bx wk X cs t) (h2 : (Value.slice A' L c').ownBlock ≠ some X) => hxx X cs t (h.on hbf) h2
                  obtain ⟨wa, hwa⟩ : ∃ wa, wa = w9.alloc (.cells #[.slice B1 n1 d1, .slice B2 n2 d2] 38) := ⟨_, rfl⟩
                  rw [← hwa] at l9 hrn ⊢
                  have hbf := bt hbf l9
                  clear l9 hwa hbb
                  refine hK.out _ _ (fun _ _ => HS.out _ hbf) ?_
                  (try simp only [Act.put, List.getElem_toArray, List.getElem_cons_zero, List.getElem_cons_succ, List.setIfInBounds_toArray, List.set_cons_zero, List.set_cons_succ])
                  refine wpAnyX_one (i := 5) rfl (by kernel_rfl) (fun K hK => ?_)
                  refine step_appE rfl _ _ _ _ rfl _ _ rfl rfl _ _ hrn (hK.out _ _ (fun _ _ => ⟨hxx _ _ _ HMk.out HOF.out, by have := hMb.cell 1; simpa using this⟩) ?_)
                  (try simp only [Act.put, List.getElem_toArray, List.getElem_cons_zero, List.getElem_cons_succ, List.setIfInBounds_toArray, List.set_cons_zero, List.set_cons_succ])
                  have kx1 := hMb.cell 1
                  have kf1 := hMb.free 1
                  simp at kx1
                  clear hrn
                  refine wpAnyX_pure (i := 6) (v := ?_) rfl (by kernel_rfl) (by kernel_rfl) (by kernel_rfl) (fun _ _ _ h => h) (Or.inl ⟨by rfl, ?_⟩) ?_
                  rotate_left
                  · (intro W _; go_simp; try with_reducible rfl)
                  (try simp only [Act.put, List.getElem_toArray, List.getElem_cons_zero, List.getElem_cons_succ, List.setIfInBounds_toArray, List.set_cons_zero, List.set_cons_succ])
                  refine wpAnyX_one (i := 7) rfl (by kernel_rfl) (fun K hK => ?_)
                  go_simp
                  refine hK.out _ _ (fun h => absurd h (by decide)) ?_
                  (try simp only [Act.put, List.getElem_toArray, List.getElem_cons_zero, List.getElem_cons_succ, List.setIfInBounds_toArray, List.set_cons_zero, List.set_cons_succ])
                  refine wpAnyX_done (by kernel_rfl) ?_ _
                  have HXn := Lib.hid (hMb.on1 (.slice A6 (L + 1) c6))
                  have HOn := Lib.hid (htr.set1 (k := 1) hMb (.slice A6 (L + 1) c6))
                  have HBn := Lib.hid (hBb.setCell (p := ⟨w.heap.size + 1 + 1 + 1, 1, none⟩) (by have := HZ0.out; show _ ≤ w.heap.size + 1 + 1 + 1; omega) (.slice A6 (L + 1) c6))
                  have wk1 : IntKind.i64.wrap ((k : Int) + 1) = ((k + 1 : Nat) : Int) := by rw [IntKind.wrap_i64]; omega
                  clear hMb htr hBb kx1 kf1 hbf o1 o2 hxx hkk hst hob
                  go_wp2_with fail
                  go_roundw
                  case measure => simp [intOf]; omega
                  case rel => exact ⟨k + 1, false, l ++ [(tIn ts k, tOut ts k)], L + 1, A6, c6, rfl, by omega, rfl, Lib.hid (by rw [List.length_append, ← HL.out]; rfl), by omega, Lib.hid (radd_round HKT.out HR.out (by rw [HKP.out, ← HZZ.out, decide_eq_false (show ¬ z < 0 by have := HZN.out; omega)]; simp) (by rw [← HZZ.out, decide_eq_false (show ¬ z < 0 by have := HZN.out; omega)]; rfl)), HXn, HOn, HBn⟩
                · have HKP := Lib.hid (kp_c (xs := xs) (x := (tIn ts k, tOut ts k)) (of_decide_eq_true HFF.out.symm) (by rw [HLX.out, HN1.out]; exact he))
                  have heI : ((n : Int) == (n1 : Int)) = false := by simpa using fun h => he (by omega)
                  have wk1 : IntKind.i64.wrap ((k : Int) + 1) = ((k + 1 : Nat) : Int) := by rw [IntKind.wrap_i64]; omega
                  clear he
                  go_wp2_with fail
                  refine HHP.out.mono ?_
                  rintro r wq ⟨rfl, q, rfl⟩
                  go_upto_region 9 with fail
                  have hq : Below w8.heap.size w8 (w8.drewN q) := below_drewN (Below.refl _ _) q
                  have HXk := Lib.hid (HXk.out.on hq)
                  have HOk := Lib.hid (HOk.out.kept hq)
                  have HBk := Lib.hid (bt HBk.out hq)
                  have HMk := Lib.hid (HMk.out.on hq)
                  generalize w8.drewN q = wk at hq HXk HOk HBk HMk ⊢
                  clear hq
                  clear l0 t0
                  go_wp2_with fail
                  go_roundw
                  case rel => exact ⟨k + 1, false, l, L, A', c', rfl, by omega, rfl, HL, by omega, Lib.hid (radd_round HKT.out HR.out (by rw [HKP.out, ← HZZ.out, decide_eq_false (show ¬ z < 0 by have := HZN.out; omega)]; simp) (by rw [← HZZ.out, decide_eq_false (show ¬ z < 0 by have := HZN.out; omega)]; rfl)), HXk, HOk, HBk⟩
                  case measure => simp [intOf]; omega
        · obtain rfl : k = p := by omega
          have HRL : Hid (l ++ (if b then [] else [(xs, ys)]) = radR ts xs ys) := Lib.hid (by
            have := HR.out
            rwa [List.drop_eq_nil_of_le (by rw [HLT.out]; exact Nat.le_refl _), radd] at this)
          clear HR
          cases b
          case true =>
            obtain ⟨R, hR⟩ : ∃ R, R = radR ts xs ys := ⟨_, rfl⟩
            have HRR := Lib.hid hR
            have m3 := HM3.out _ HBR.out
            have q0 := m3.cell 0
            have q1 := m3.cell 1
            have f0 := m3.free 0
            have f1 := m3.free 1
            have p0 := HXO.out.cell 0
            have p1 := HXO.out.cell 1
            simp at q0 q1 p0 p1
            have HR2 := Lib.hid (m3.set2 (.int .i64 i) (.slice A' L c'))
            have HBF := Lib.hid (set2B (g := w.heap.size + 1 + 1) (bt HB0.out (by have := HZ0.out; exact HBR.out)) (by omega) (.int .i64 i) (.slice A' L c'))
            have HTF := Lib.hid (OwnedT.lower (base' := w.heap.size) (HO.out.set2 m3 (.int .i64 i) (.slice A' L c')) (by have := HZ0.out; omega))
            clear m3 hR
            go_wp2_with fail
            (try rw [Exit.noGoto_ret])
            refine bodyPost_ret (results_cell_row (by rfl) _ _ (w.heap.size + 1 + 1) 24 _ (0, 0) _ rfl HR2.out Try.underlying24 rfl (by kernel_rfl)) rfl ?_
            have hll : L = (radR ts xs ys).length := by rw [← HRL.out]; simp [HL.out]
            unfold RaE
            rw [← hll]
            exact ⟨A', c', rfl, by rw [← HRL.out]; simpa using HTF.out, HBF.out⟩
          case false =>
            go_upto_region 17 with fail
            generalize hwk : wr = wk at HXO HO HBR ⊢
            have HXk := HXO
            have HOk := HO
            have HBk := HBR
            clear HXO HO HBR
            clear k1 l0
            have HS := Lib.hid (show ∀ W, Below wk.heap.size wk W → Bx W (w.heap.size + 1) #[.slice A n c, .slice B m d] 38 ∧ W.cell? ⟨w.heap.size + 1 + 1 + 1, 1, none⟩ = some (.slice A' L c') from fun W h => ⟨HM2.out _ (bt HBk.out h), by have := (HXk.out.on h).cell 1; simpa using this⟩)
            have hbf : Below wk.heap.size wk wk.drew := below_drewN (Below.refl _ _) 1
            refine wp_region_heldX (X := fun k => ([7] : List Nat).contains k) (S := fun W => Bx W (w.heap.size + 1) #[.slice A n c, .slice B m d] 38 ∧ W.cell? ⟨w.heap.size + 1 + 1 + 1, 1, none⟩ = some (.slice A' L c')) (by kernel_rfl) ?_
            generalize wk.drew = wkd at hbf ⊢
            refine wpAnyX_pure (i := 0) (v := ?_) rfl (by kernel_rfl) (by kernel_rfl) (by kernel_rfl) (fun _ _ _ h => h) (Or.inl ⟨by rfl, ?_⟩) ?_
            rotate_left
            · (intro W _; go_simp; try with_reducible rfl)
            (try simp only [Act.put, List.getElem_toArray, List.getElem_cons_zero, List.getElem_cons_succ, List.setIfInBounds_toArray, List.set_cons_zero, List.set_cons_succ])
            refine wpAnyX_takeL (L := [7]) (i := 1) (v := ?_) rfl (by kernel_rfl) (by kernel_rfl) (by kernel_rfl) (by kernel_rfl) (fun _ _ _ h => h) (Or.inl ⟨by rfl, ?_⟩) (HS.out _ hbf) ?_
            rotate_left
            · (intro W hSW; (try dsimp only at hSW); obtain ⟨z0, z1⟩ := hSW; go_simp; try with_reducible rfl)
            (try simp only [Act.put, List.getElem_toArray, List.getElem_cons_zero, List.getElem_cons_succ, List.setIfInBounds_toArray, List.set_cons_zero, List.set_cons_succ])
            refine wpAnyX_takeL (L := [7]) (i := 2) (v := .agg (#[.slice A n c, .slice B m d])) rfl (by kernel_rfl) (by kernel_rfl) (by kernel_rfl) (by kernel_rfl) (fun _ _ _ h => h) (Or.inl ⟨by rfl, fun W hSW => run_load_bx 38 _ rfl (w.heap.size + 1) rfl 38 (#[.slice A n c, .slice B m d]) (0, 0) _ (hSW.1) Try.underlying38 rfl (by kernel_rfl)⟩) (HS.out _ hbf) ?_
            (try simp only [Act.put, List.getElem_toArray, List.getElem_cons_zero, List.getElem_cons_succ, List.setIfInBounds_toArray, List.set_cons_zero, List.set_cons_succ])
            refine wpAnyX_one (i := 3) rfl (by kernel_rfl) (fun K hK => ?_)
            go_simp
            go_at_call 76
            refine (rcopied16 A B n c m d (xs) (ys) _ (HX.out _ (bt HBk.out hbf)) (HY.out _ (bt HBk.out hbf))).mono ?_
            rintro r w9 ⟨B1, B2, d1, d2, rfl, o1, o2, b9⟩
            have o1 := o1.lower (base' := w0.heap.size) (Nat.le_trans HBk.out.size hbf.size)
            have o2 := o2.lower (base' := w0.heap.size) (Nat.le_trans HBk.out.size hbf.size)
            have hbf := bt hbf b9
            clear b9
            refine hK.out _ _ (fun _ _ => HS.out _ hbf) ?_
            (try simp only [Act.put, List.getElem_toArray, List.getElem_cons_zero, List.getElem_cons_succ, List.setIfInBounds_toArray, List.set_cons_zero, List.set_cons_succ])
            refine wpAnyX_one (i := 4) rfl (by kernel_rfl) (fun K hK => ?_)
            go_simp
            have l9 := alloc_below w9 (.cells #[.slice B1 n d1, .slice B2 m d2] 38)
            have hst := hbf.size
            obtain ⟨A5, c5, wb, hrn, htr, hbb, hkk, hxx, hob⟩ := run_append_traceB (HOk.out.kept hbf) o1 o2 (Nat.le_trans HBk.out.size hst) (by rw [← HL.out]; omega)
            rw [← HL.out] at hrn htr hob
            have hMb := (hkk 24 (by decide)).bx (HXk.out.on hbf)
            have hBb := HBk.out.trans ((Below.mono hbf HBk.out.size).trans hbb)
            have hob := fun X (h : X < wk.heap.size) => hob X (Nat.lt_of_lt_of_le h hst)
            have hxx := fun X cs t (h : Bx wk X cs t) (h2 : (Value.slice A' L c').ownBlock ≠ some X) => hxx X cs t (h.on hbf) h2
            obtain ⟨wa, hwa⟩ : ∃ wa, wa = w9.alloc (.cells #[.slice B1 n d1, .slice B2 m d2] 38) := ⟨_, rfl⟩
            rw [← hwa] at l9 hrn ⊢
            have hbf := bt hbf l9
            clear l9 hwa hbb
            refine hK.out _ _ (fun _ _ => HS.out _ hbf) ?_
            (try simp only [Act.put, List.getElem_toArray, List.getElem_cons_zero, List.getElem_cons_succ, List.setIfInBounds_toArray, List.set_cons_zero, List.set_cons_succ])
            refine wpAnyX_one (i := 5) rfl (by kernel_rfl) (fun K hK => ?_)
            refine step_appE rfl _ _ _ _ rfl _ _ rfl rfl _ _ hrn (hK.out _ _ (fun _ _ => ⟨HM2.out _ hBb, by have := hMb.cell 1; simpa using this⟩) ?_)
            (try simp only [Act.put, List.getElem_toArray, List.getElem_cons_zero, List.getElem_cons_succ, List.setIfInBounds_toArray, List.set_cons_zero, List.set_cons_succ])
            have kx1 := hMb.cell 1
            have kf1 := hMb.free 1
            simp at kx1
            clear hrn
            refine wpAnyX_pure (i := 6) (v := ?_) rfl (by kernel_rfl) (by kernel_rfl) (by kernel_rfl) (fun _ _ _ h => h) (Or.inl ⟨by rfl, ?_⟩) ?_
            rotate_left
            · (intro W _; go_simp; try with_reducible rfl)
            (try simp only [Act.put, List.getElem_toArray, List.getElem_cons_zero, List.getElem_cons_succ, List.setIfInBounds_toArray, List.set_cons_zero, List.set_cons_succ])
            refine wpAnyX_one (i := 7) rfl (by kernel_rfl) (fun K hK => ?_)
            go_simp
            refine hK.out _ _ (fun h => absurd h (by decide)) ?_
            (try simp only [Act.put, List.getElem_toArray, List.getElem_cons_zero, List.getElem_cons_succ, List.setIfInBounds_toArray, List.set_cons_zero, List.set_cons_succ])
            refine wpAnyX_done (by kernel_rfl) ?_ _
            have HXn := Lib.hid (hMb.on1 (.slice A5 (L + 1) c5))
            have HOn := Lib.hid (htr.set1 (k := 1) hMb (.slice A5 (L + 1) c5))
            have HBn := Lib.hid (hBb.setCell (p := ⟨w.heap.size + 1 + 1 + 1, 1, none⟩) (by have := HZ0.out; show _ ≤ w.heap.size + 1 + 1 + 1; omega) (.slice A5 (L + 1) c5))
            have HL : Hid (L + 1 = (l ++ [(xs, ys)]).length) := Lib.hid (by rw [List.length_append, ← HL.out]; rfl)
            clear hMb htr hBb hbf o1 o2 hxx hkk hst hob HXk HOk HBk HS kx1 kf1
            generalize wb.setCell ⟨w.heap.size + 1 + 1 + 1, 1, none⟩ (.slice A5 (L + 1) c5) = wc at HXn HOn HBn ⊢
            obtain ⟨R, hR⟩ : ∃ R, R = radR ts xs ys := ⟨_, rfl⟩
            have HRR := Lib.hid hR
            have m3 := HM3.out _ HBn.out
            have q0 := m3.cell 0
            have q1 := m3.cell 1
            have f0 := m3.free 0
            have f1 := m3.free 1
            have p0 := HXn.out.cell 0
            have p1 := HXn.out.cell 1
            simp at q0 q1 p0 p1
            have HR2 := Lib.hid (m3.set2 (.int .i64 i) (.slice A5 (L + 1) c5))
            have HBF := Lib.hid (set2B (g := w.heap.size + 1 + 1) (bt HB0.out (by have := HZ0.out; exact HBn.out)) (by omega) (.int .i64 i) (.slice A5 (L + 1) c5))
            have HTF := Lib.hid (OwnedT.lower (base' := w.heap.size) (HOn.out.set2 m3 (.int .i64 i) (.slice A5 (L + 1) c5)) (by have := HZ0.out; omega))
            clear m3 hR
            go_wp2_with fail
            (try rw [Exit.noGoto_ret])
            refine bodyPost_ret (results_cell_row (by rfl) _ _ (w.heap.size + 1 + 1) 24 _ (0, 0) _ rfl HR2.out Try.underlying24 rfl (by kernel_rfl)) rfl ?_
            have hll : (L + 1) = (radR ts xs ys).length := by rw [← HRL.out]; simp [HL.out]
            unfold RaE
            rw [← hll]
            exact ⟨A5, c5, rfl, by rw [← HRL.out]; simpa using HTF.out, HBF.out⟩
end Go.Proofs.Ytkkmcgapbcikiaa
end
