/- Lemmas of the proofs of this seat, of the parts Hyd, Hyg, Eqm, Awak22, Fromr, Reachp, Reachm, Trimp, Trimm, Samem, Awakm, Mlaw, Cutm, Trimq, Grtm, Longm, Gr22. Conditions: none. -/
import Derived.Test.YtkgdgnmobahhfaaKab
import Derived.Test.YtkgdgnmobahhfaaKaa
section
/- Apart: the first word that shows that two words are apart. -/
namespace Go.Proofs.Ytkgdgnmobahhfaa
open Go.RowKit Go.Shelf

theorem wpAnyX_three {P : Program} {md : Region.Mode} {ops : Array Oper} {Q : Exit → Act → World → Prop} {S : World → Prop} {X : Nat → Bool} {i j k : Nat} {o u v : Oper} {fuel : Nat} {listed : Array Bool} {a : Act} {w : World} (ho : ops[i]? = some o) (hu : ops[j]? = some u) (hv : ops[k]? = some v) (hr : Region.ready md ops listed = [i, j, k])
    (h : ∀ K' : Act → World → Prop, Shut (∀ a w', (X i = false → S w → S w') → wpAnyX P md ops Q S X fuel (listed.setIfInBounds i true) a w' → K' a w') → if Region.wanted o (yielded ops a.tmps) = true then Oper.wp P o a w K' Q else K' (a.put o.dst undef) w)
    (h2 : ∀ K' : Act → World → Prop, Shut (∀ a w', (X j = false → S w → S w') → wpAnyX P md ops Q S X fuel (listed.setIfInBounds j true) a w' → K' a w') → if Region.wanted u (yielded ops a.tmps) = true then Oper.wp P u a w K' Q else K' (a.put u.dst undef) w)
    (h3 : ∀ K' : Act → World → Prop, Shut (∀ a w', (X k = false → S w → S w') → wpAnyX P md ops Q S X fuel (listed.setIfInBounds k true) a w' → K' a w') → if Region.wanted v (yielded ops a.tmps) = true then Oper.wp P v a w K' Q else K' (a.put v.dst undef) w) : wpAnyX P md ops Q S X (fuel + 1) listed a w := by
  refine ⟨fun h0 => ?_, fun l hl => ?_⟩
  · rw [hr] at h0; cases h0
  · rw [hr] at hl
    rcases List.mem_cons.1 hl with rfl | hl
    · exact wpOp_step ho (fun K' hK => h K' (fun a w hS hW => hK a w ⟨hS, hW⟩))
    · rcases List.mem_cons.1 hl with rfl | hl
      · exact wpOp_step hu (fun K' hK => h2 K' (fun a w hS hW => hK a w ⟨hS, hW⟩))
      · obtain rfl := List.mem_singleton.1 hl
        exact wpOp_step hv (fun K' hK => h3 K' (fun a w hS hW => hK a w ⟨hS, hW⟩))

theorem pord_rows (i : Int) (A B : Option Addr) (c d b : Nat) (P Q F M : List (List Int × List Int)) (hFM : (F, M) = if Q.length < P.length then (Q, P) else (P, Q)) (w1 w : World) (hP : TrsH w1 w b (.slice A P.length c) P) (hQ : TrsH w1 w b (.slice B Q.length d) Q) (hp : P.length ≤ 17592186044416) (hq : Q.length ≤ 17592186044416) :
    Calls Try.prog 85 #[.agg #[.int .i64 i, .slice A P.length c], .agg #[.int .i64 i, .slice B Q.length d]] w fun e w' => ∃ A4 c4 A5 c5, e = .returned (.tuple #[.agg #[.int .i64 i, .slice A4 F.length c4], .agg #[.int .i64 i, .slice A5 M.length c5]]) ∧
      TrsH w1 w' b (.slice A4 F.length c4) F ∧ TrsH w1 w' b (.slice A5 M.length c5) M ∧ Below w.heap.size w w' := by
  refine (pordered i i A B P.length c Q.length d w hp hq).mono ?_
  rintro e w' ⟨rfl, hb⟩
  have hP' := hP.keptT (KeptT.of_below hb)
  have hQ' := hQ.keptT (KeptT.of_below hb)
  by_cases h : Q.length < P.length
  · rw [if_pos h] at hFM
    cases hFM
    rw [if_pos h, if_pos h]
    exact ⟨_, _, _, _, rfl, hQ', hP', hb⟩
  · rw [if_neg h] at hFM
    cases hFM
    rw [if_neg h, if_neg h]
    exact ⟨_, _, _, _, rfl, hP', hQ', hb⟩

/-- The two boxes behind the first statement. -/
def ApR (w1 : World) (i : Int) (F M : List (List Int × List Int)) (v9 v10 : Value) (wx : World) : Prop :=
  ∃ (g9 g10 : Nat) (A B : Option Addr) (c d : Nat), v9 = .pointer (some ⟨g9, 0, none⟩) ∧ v10 = .pointer (some ⟨g10, 0, none⟩) ∧ Bx wx g9 #[.int .i64 i, .slice A F.length c] 24 ∧ Bx wx g10 #[.int .i64 i, .slice B M.length d] 24 ∧
    Trs wx A F.length F ∧ Trs wx B M.length M ∧ M.length ≤ d ∧ Below w1.heap.size w1 wx
/-- The result of Apart. -/
def ApE (P Q : List (List Int × List Int)) (w : World) (r : Ending) (w' : World) : Prop :=
  ∃ (A' : Option Addr) (n' c' : Nat) (xs : List Int), r = .returned (.tuple #[.slice A' n' c', .bool (!A'.isNone)]) ∧ Fst1 (ShK P Q P.length) xs ∧ Ints w' A' n' xs ∧ (A' = none ↔ xs = []) ∧ Below w.heap.size w w'

set_option linter.unusedSimpArgs false in
set_option linter.unusedVariables false in
set_option maxHeartbeats 8000000 in
set_option maxRecDepth 100000 in
theorem papart (i : Int) (T U V : Option Addr) (tn tc m d k e : Nat) (ts : List (List Int × List Int)) (us vs : List Int) (w : World) (hT : Trs w T tn ts) (hU : Ints w U m us) (hV : Ints w V k vs) (hF : Full ts) (hS : Srt ts) (hC : Cons ts) (hI : Props i ts) (htn : tn ≤ 100000000) :
    Calls Try.prog 48 #[.agg #[.int .i64 i, .slice T tn tc], .slice U m d, .slice V k e] w fun r w' => ApE (aftK ts us tn) (aftK ts vs tn) w r w' := by
  have HLT := Lib.hid hT.1
  obtain ⟨w1, hw1⟩ : ∃ w1, w1 = w.alloc (.cells #[.int .i64 i, .slice T tn tc] 24) := ⟨_, rfl⟩
  have hb0 : Below w.heap.size w w1 := by rw [hw1]; exact alloc_below _ _
  have m0 : Bx w1 w.heap.size #[.int .i64 i, .slice T tn tc] 24 := by rw [hw1]; exact bx_new _ _ _
  have HS := Lib.hid (fun (W : World) (h : Below w1.heap.size w1 W) => m0.on h)
  have HT := Lib.hid (fun (W : World) (h : Below w1.heap.size w1 W) => (hT.below hb0).below h)
  have HU := Lib.hid (fun (W : World) (h : Below w1.heap.size w1 W) => (hU.below hb0).below h)
  have HV := Lib.hid (fun (W : World) (h : Below w1.heap.size w1 W) => (hV.below hb0).below h)
  have HB0 := Lib.hid hb0
  have HW1 := Lib.hid hw1
  have HFF := Lib.hid hF
  have HSS := Lib.hid hS
  have HCC := Lib.hid hC
  have HII := Lib.hid hI
  obtain ⟨P, hP⟩ : ∃ P, P = aftK ts us tn := ⟨_, rfl⟩
  obtain ⟨Q, hQ⟩ : ∃ Q, Q = aftK ts vs tn := ⟨_, rfl⟩
  obtain ⟨F, M, hFM⟩ : ∃ F M, (F, M) = if Q.length < P.length then (Q, P) else (P, Q) := ⟨_, _, rfl⟩
  have hPl : P.length ≤ 17592186044416 := by have := aftK_len ts us tn; rw [← hP] at this; omega
  have hQl : Q.length ≤ 17592186044416 := by have := aftK_len ts vs tn; rw [← hQ] at this; omega
  have hFM2 : (F = P ∧ M = Q) ∨ (F = Q ∧ M = P) := by
    by_cases h : Q.length < P.length
    · rw [if_pos h] at hFM; cases hFM; exact .inr ⟨rfl, rfl⟩
    · rw [if_neg h] at hFM; cases hFM; exact .inl ⟨rfl, rfl⟩
  have hFl : F.length ≤ 17592186044416 := by rcases hFM2 with ⟨rfl, _⟩ | ⟨rfl, _⟩ <;> assumption
  have hMl : M.length ≤ 17592186044416 := by rcases hFM2 with ⟨_, rfl⟩ | ⟨_, rfl⟩ <;> assumption
  rw [← hP, ← hQ]
  have HP := Lib.hid hP
  have HQ := Lib.hid hQ
  have HFM := Lib.hid hFM
  have HFM2 := Lib.hid hFM2
  clear hT hU hV hF hS hC hI hb0 m0 hw1 hP hQ hFM hFM2
  go_enter Try.func48, Try.ntmps48
  go_upto_region 2 with fail
  rw [← HW1.out]
  go_cut [9, 10] from 15 to 25 (fun v9 v10 wx => ApR w1 i F M v9 v10 wx)
  case first =>
    refine wp_region_heldX (X := fun k => ([12, 13] : List Nat).contains k) (S := fun W => Bx W w.heap.size #[.int .i64 i, .slice T tn tc] 24) (by kernel_rfl) ?_
    have hbf : Below w1.heap.size w1 w1.drew := below_drewN (Below.refl _ _) 1
    generalize w1.drew = y0 at hbf ⊢
    refine wpAnyX_takeL (L := [12, 13]) (i := 0) (v := .agg (#[.int .i64 i, .slice T tn tc])) rfl (by kernel_rfl) (by kernel_rfl) (by kernel_rfl) (by kernel_rfl) (fun _ _ _ h => h) (Or.inl ⟨by rfl, fun W hSW => run_load_bx 24 _ rfl (w.heap.size) rfl 24 (#[.int .i64 i, .slice T tn tc]) (0, 0) _ (hSW) Try.underlying24 rfl (by kernel_rfl)⟩) (HS.out _ hbf) ?_
    (try simp only [Act.put, List.getElem_toArray, List.getElem_cons_zero, List.getElem_cons_succ, List.setIfInBounds_toArray, List.set_cons_zero, List.set_cons_succ])
    refine wpAnyX_pure (i := 1) (v := ?_) rfl (by kernel_rfl) (by kernel_rfl) (by kernel_rfl) (fun _ _ _ h => h) (Or.inl ⟨by rfl, ?_⟩) ?_
    rotate_left
    · (intro W _; go_simp; try with_reducible rfl)
    (try simp only [Act.put, List.getElem_toArray, List.getElem_cons_zero, List.getElem_cons_succ, List.setIfInBounds_toArray, List.set_cons_zero, List.set_cons_succ])
    refine wpAnyX_takeL (L := [12, 13]) (i := 3) (v := .agg (#[.int .i64 i, .slice T tn tc])) rfl (by kernel_rfl) (by kernel_rfl) (by kernel_rfl) (by kernel_rfl) (fun _ _ _ h => h) (Or.inl ⟨by rfl, fun W hSW => run_load_bx 24 _ rfl (w.heap.size) rfl 24 (#[.int .i64 i, .slice T tn tc]) (0, 0) _ (hSW) Try.underlying24 rfl (by kernel_rfl)⟩) (HS.out _ hbf) ?_
    (try simp only [Act.put, List.getElem_toArray, List.getElem_cons_zero, List.getElem_cons_succ, List.setIfInBounds_toArray, List.set_cons_zero, List.set_cons_succ])
    refine wpAnyX_pure (i := 4) (v := ?_) rfl (by kernel_rfl) (by kernel_rfl) (by kernel_rfl) (fun _ _ _ h => h) (Or.inl ⟨by rfl, ?_⟩) ?_
    rotate_left
    · (intro W _; go_simp; try with_reducible rfl)
    (try simp only [Act.put, List.getElem_toArray, List.getElem_cons_zero, List.getElem_cons_succ, List.setIfInBounds_toArray, List.set_cons_zero, List.set_cons_succ])
    refine wpAnyX_three (i := 2) (j := 10) (k := 11) rfl rfl rfl (by kernel_rfl) (fun K hK => ?_) (fun K hK => ?_) (fun K hK => ?_)
    · go_simp
      go_at_call 86
      refine (pafter22 i T U tn tc m d ts us w1 _ hbf (HT.out _ (Below.refl _ _)) (HU.out _ (Below.refl _ _)) HFF.out htn).mono ?_
      rintro r y1 ⟨A2, c2, rfl, hA, hal⟩
      rw [← HP.out] at hA ⊢
      have hA := hA.lower hbf.size
      have hbf := bt hbf hal
      refine hK.out _ _ (fun _ _ => HS.out _ hbf) ?_
      (try simp only [Act.put, List.getElem_toArray, List.getElem_cons_zero, List.getElem_cons_succ, List.setIfInBounds_toArray, List.set_cons_zero, List.set_cons_succ])
      clear hal
      refine wpAnyX_three (i := 5) (j := 10) (k := 11) rfl rfl rfl (by kernel_rfl) (fun K hK => ?_) (fun K hK => ?_) (fun K hK => ?_)
      · go_simp
        go_at_call 86
        refine (pafter22 i T V tn tc k e ts vs w1 _ hbf (HT.out _ (Below.refl _ _)) (HV.out _ (Below.refl _ _)) HFF.out htn).mono ?_
        rintro r y2 ⟨A3, c3, rfl, hB, hal⟩
        rw [← HQ.out] at hB ⊢
        have hB := hB.lower hbf.size
        have hA := hA.keptT (KeptT.of_below hal)
        have hbf := bt hbf hal
        refine hK.out _ _ (fun _ _ => HS.out _ hbf) ?_
        (try simp only [Act.put, List.getElem_toArray, List.getElem_cons_zero, List.getElem_cons_succ, List.setIfInBounds_toArray, List.set_cons_zero, List.set_cons_succ])
        clear hal
        refine wpAnyX_three (i := 6) (j := 10) (k := 11) rfl rfl rfl (by kernel_rfl) (fun K hK => ?_) (fun K hK => ?_) (fun K hK => ?_)
        · go_simp
          go_at_call 85
          refine (pord_rows i A2 A3 c2 c3 w1.heap.size P Q F M HFM.out w1 _ hA hB hPl hQl).mono ?_
          rintro r y3 ⟨A4, c4, A5, c5, rfl, hF, hM, hal⟩
          clear hA hB
          have hbf := bt hbf hal
          refine hK.out _ _ (fun _ _ => HS.out _ hbf) ?_
          (try simp only [Act.put, List.getElem_toArray, List.getElem_cons_zero, List.getElem_cons_succ, List.setIfInBounds_toArray, List.set_cons_zero, List.set_cons_succ])
          refine wpAnyX_pure (i := 7) (v := ?_) rfl (by kernel_rfl) (by kernel_rfl) (by kernel_rfl) (fun _ _ _ h => h) (Or.inl ⟨by rfl, ?_⟩) ?_
          rotate_left
          · (intro W _; go_simp; try with_reducible rfl)
          (try simp only [Act.put, List.getElem_toArray, List.getElem_cons_zero, List.getElem_cons_succ, List.setIfInBounds_toArray, List.set_cons_zero, List.set_cons_succ])
          refine wpAnyX_pure (i := 8) (v := ?_) rfl (by kernel_rfl) (by kernel_rfl) (by kernel_rfl) (fun _ _ _ h => h) (Or.inl ⟨by rfl, ?_⟩) ?_
          rotate_left
          · (intro W _; go_simp; try with_reducible rfl)
          (try simp only [Act.put, List.getElem_toArray, List.getElem_cons_zero, List.getElem_cons_succ, List.setIfInBounds_toArray, List.set_cons_zero, List.set_cons_succ])
          refine wpAnyX_pure (i := 9) (v := ?_) rfl (by kernel_rfl) (by kernel_rfl) (by kernel_rfl) (fun _ _ _ h => h) (Or.inl ⟨by rfl, ?_⟩) ?_
          rotate_left
          · (intro W _; go_simp; try with_reducible rfl)
          (try simp only [Act.put, List.getElem_toArray, List.getElem_cons_zero, List.getElem_cons_succ, List.setIfInBounds_toArray, List.set_cons_zero, List.set_cons_succ])
          clear hal
          refine wpAnyX_two (i := 10) (j := 11) rfl rfl (by kernel_rfl) (fun K hK => ?_) (fun K hK => ?_)
          · go_simp
            refine hK.out _ _ (fun _ _ => HS.out _ (bt hbf (alloc_below _ _))) ?_
            (try simp only [Act.put, List.getElem_toArray, List.getElem_cons_zero, List.getElem_cons_succ, List.setIfInBounds_toArray, List.set_cons_zero, List.set_cons_succ])
            have hal := alloc_below y3 (.cells #[.int .i64 0, .slice none 0 0] 24)
            have hF := hF.keptT (KeptT.of_below hal)
            have hM := hM.keptT (KeptT.of_below hal)
            have hg9 := bx_new y3 #[.int .i64 0, .slice none 0 0] 24
            have hge9 : w1.heap.size ≤ y3.heap.size := hbf.size
            have hbf := bt hbf hal
            generalize y3.alloc (.cells #[.int .i64 0, .slice none 0 0] 24) = y4 at hal hbf hF hM hg9 ⊢
            have hg9lt := hg9.lt
            clear hal
            refine wpAnyX_one (i := 11) rfl (by kernel_rfl) (fun K hK => ?_)
            go_simp
            refine hK.out _ _ (fun _ _ => HS.out _ (bt hbf (alloc_below _ _))) ?_
            (try simp only [Act.put, List.getElem_toArray, List.getElem_cons_zero, List.getElem_cons_succ, List.setIfInBounds_toArray, List.set_cons_zero, List.set_cons_succ])
            have hal := alloc_below y4 (.cells #[.int .i64 0, .slice none 0 0] 24)
            have hF := hF.keptT (KeptT.of_below hal)
            have hM := hM.keptT (KeptT.of_below hal)
            have hg9 := hg9.on hal
            have hg10 := bx_new y4 #[.int .i64 0, .slice none 0 0] 24
            have hge10 : w1.heap.size ≤ y4.heap.size := hbf.size
            have hbf := bt hbf hal
            have hne : _ ≠ y4.heap.size := Nat.ne_of_lt hg9lt
            generalize y4.alloc (.cells #[.int .i64 0, .slice none 0 0] 24) = y5 at hal hbf hF hM hg9 hg10 ⊢
            have hg10lt := hg10.lt
            have hg9lt := hg9.lt
            clear hal
            refine wpAnyX_one (i := 12) rfl (by kernel_rfl) (fun K hK => ?_)
            refine wp_store_row 24 _ _ rfl _ (#[.int .i64 i, .slice A4 F.length c4]) rfl rfl 24 (#[.int .i64 0, .slice none 0 0]) (hg9) (by kernel_rfl) (by rfl) (by simp [Value.oneCell']) (hK.out _ _ (fun h => absurd h (by decide)) ?_)
            (try simp only [Act.put, List.getElem_toArray, List.getElem_cons_zero, List.getElem_cons_succ, List.setIfInBounds_toArray, List.set_cons_zero, List.set_cons_succ])
            have hF := hF.keptT (hg9.keptRow (t := 38) (by decide) (#[.int .i64 i, .slice A4 F.length c4]))
            have hM := hM.keptT (hg9.keptRow (t := 38) (by decide) (#[.int .i64 i, .slice A4 F.length c4]))
            have hg10 := hg10.rowOther hne.symm (#[.int .i64 i, .slice A4 F.length c4])
            have hg9 := hg9.row (#[.int .i64 i, .slice A4 F.length c4])
            have hbf := below_setRow hbf hge9 (#[.int .i64 i, .slice A4 F.length c4])
            refine wpAnyX_one (i := 13) rfl (by kernel_rfl) (fun K hK => ?_)
            refine wp_store_row 24 _ _ rfl _ (#[.int .i64 i, .slice A5 M.length c5]) rfl rfl 24 (#[.int .i64 0, .slice none 0 0]) (hg10) (by kernel_rfl) (by rfl) (by simp [Value.oneCell']) (hK.out _ _ (fun h => absurd h (by decide)) ?_)
            (try simp only [Act.put, List.getElem_toArray, List.getElem_cons_zero, List.getElem_cons_succ, List.setIfInBounds_toArray, List.set_cons_zero, List.set_cons_succ])
            have hF := hF.keptT (hg10.keptRow (t := 38) (by decide) (#[.int .i64 i, .slice A5 M.length c5]))
            have hM := hM.keptT (hg10.keptRow (t := 38) (by decide) (#[.int .i64 i, .slice A5 M.length c5]))
            have hg9 := hg9.rowOther hne (#[.int .i64 i, .slice A5 M.length c5])
            have hg10 := hg10.row (#[.int .i64 i, .slice A5 M.length c5])
            have hbf := below_setRow hbf hge10 (#[.int .i64 i, .slice A5 M.length c5])
            refine wpAnyX_done (by kernel_rfl) ?_ _
            go_wp2_with fail
            go_meet
            exact ⟨_, _, A4, A5, c4, c5, rfl, rfl, hg9, hg10, hF.trs hbf hFl, hM.trs hbf hMl, hM.cap, hbf⟩
          · go_simp
            refine hK.out _ _ (fun _ _ => HS.out _ (bt hbf (alloc_below _ _))) ?_
            (try simp only [Act.put, List.getElem_toArray, List.getElem_cons_zero, List.getElem_cons_succ, List.setIfInBounds_toArray, List.set_cons_zero, List.set_cons_succ])
            have hal := alloc_below y3 (.cells #[.int .i64 0, .slice none 0 0] 24)
            have hF := hF.keptT (KeptT.of_below hal)
            have hM := hM.keptT (KeptT.of_below hal)
            have hg10 := bx_new y3 #[.int .i64 0, .slice none 0 0] 24
            have hge10 : w1.heap.size ≤ y3.heap.size := hbf.size
            have hbf := bt hbf hal
            generalize y3.alloc (.cells #[.int .i64 0, .slice none 0 0] 24) = y6 at hal hbf hF hM hg10 ⊢
            have hg10lt := hg10.lt
            clear hal
            refine wpAnyX_one (i := 10) rfl (by kernel_rfl) (fun K hK => ?_)
            go_simp
            refine hK.out _ _ (fun _ _ => HS.out _ (bt hbf (alloc_below _ _))) ?_
            (try simp only [Act.put, List.getElem_toArray, List.getElem_cons_zero, List.getElem_cons_succ, List.setIfInBounds_toArray, List.set_cons_zero, List.set_cons_succ])
            have hal := alloc_below y6 (.cells #[.int .i64 0, .slice none 0 0] 24)
            have hF := hF.keptT (KeptT.of_below hal)
            have hM := hM.keptT (KeptT.of_below hal)
            have hg10 := hg10.on hal
            have hg9 := bx_new y6 #[.int .i64 0, .slice none 0 0] 24
            have hge9 : w1.heap.size ≤ y6.heap.size := hbf.size
            have hbf := bt hbf hal
            have hne : y6.heap.size ≠ _ := Nat.ne_of_gt hg10lt
            generalize y6.alloc (.cells #[.int .i64 0, .slice none 0 0] 24) = y7 at hal hbf hF hM hg9 hg10 ⊢
            have hg9lt := hg9.lt
            have hg10lt := hg10.lt
            clear hal
            refine wpAnyX_one (i := 12) rfl (by kernel_rfl) (fun K hK => ?_)
            refine wp_store_row 24 _ _ rfl _ (#[.int .i64 i, .slice A4 F.length c4]) rfl rfl 24 (#[.int .i64 0, .slice none 0 0]) (hg9) (by kernel_rfl) (by rfl) (by simp [Value.oneCell']) (hK.out _ _ (fun h => absurd h (by decide)) ?_)
            (try simp only [Act.put, List.getElem_toArray, List.getElem_cons_zero, List.getElem_cons_succ, List.setIfInBounds_toArray, List.set_cons_zero, List.set_cons_succ])
            have hF := hF.keptT (hg9.keptRow (t := 38) (by decide) (#[.int .i64 i, .slice A4 F.length c4]))
            have hM := hM.keptT (hg9.keptRow (t := 38) (by decide) (#[.int .i64 i, .slice A4 F.length c4]))
            have hg10 := hg10.rowOther hne.symm (#[.int .i64 i, .slice A4 F.length c4])
            have hg9 := hg9.row (#[.int .i64 i, .slice A4 F.length c4])
            have hbf := below_setRow hbf hge9 (#[.int .i64 i, .slice A4 F.length c4])
            refine wpAnyX_one (i := 13) rfl (by kernel_rfl) (fun K hK => ?_)
            refine wp_store_row 24 _ _ rfl _ (#[.int .i64 i, .slice A5 M.length c5]) rfl rfl 24 (#[.int .i64 0, .slice none 0 0]) (hg10) (by kernel_rfl) (by rfl) (by simp [Value.oneCell']) (hK.out _ _ (fun h => absurd h (by decide)) ?_)
            (try simp only [Act.put, List.getElem_toArray, List.getElem_cons_zero, List.getElem_cons_succ, List.setIfInBounds_toArray, List.set_cons_zero, List.set_cons_succ])
            have hF := hF.keptT (hg10.keptRow (t := 38) (by decide) (#[.int .i64 i, .slice A5 M.length c5]))
            have hM := hM.keptT (hg10.keptRow (t := 38) (by decide) (#[.int .i64 i, .slice A5 M.length c5]))
            have hg9 := hg9.rowOther hne (#[.int .i64 i, .slice A5 M.length c5])
            have hg10 := hg10.row (#[.int .i64 i, .slice A5 M.length c5])
            have hbf := below_setRow hbf hge10 (#[.int .i64 i, .slice A5 M.length c5])
            refine wpAnyX_done (by kernel_rfl) ?_ _
            go_wp2_with fail
            go_meet
            exact ⟨_, _, A4, A5, c4, c5, rfl, rfl, hg9, hg10, hF.trs hbf hFl, hM.trs hbf hMl, hM.cap, hbf⟩
        · go_simp
          refine hK.out _ _ (fun _ _ => HS.out _ (bt hbf (alloc_below _ _))) ?_
          (try simp only [Act.put, List.getElem_toArray, List.getElem_cons_zero, List.getElem_cons_succ, List.setIfInBounds_toArray, List.set_cons_zero, List.set_cons_succ])
          have hal := alloc_below y2 (.cells #[.int .i64 0, .slice none 0 0] 24)
          have hA := hA.keptT (KeptT.of_below hal)
          have hB := hB.keptT (KeptT.of_below hal)
          have hg9 := bx_new y2 #[.int .i64 0, .slice none 0 0] 24
          have hge9 : w1.heap.size ≤ y2.heap.size := hbf.size
          have hbf := bt hbf hal
          generalize y2.alloc (.cells #[.int .i64 0, .slice none 0 0] 24) = y8 at hal hbf hA hB hg9 ⊢
          have hg9lt := hg9.lt
          clear hal
          refine wpAnyX_two (i := 6) (j := 11) rfl rfl (by kernel_rfl) (fun K hK => ?_) (fun K hK => ?_)
          · go_simp
            go_at_call 85
            refine (pord_rows i A2 A3 c2 c3 w1.heap.size P Q F M HFM.out w1 _ hA hB hPl hQl).mono ?_
            rintro r y9 ⟨A4, c4, A5, c5, rfl, hF, hM, hal⟩
            clear hA hB
            have hg9 := hg9.on hal
            have hbf := bt hbf hal
            refine hK.out _ _ (fun _ _ => HS.out _ hbf) ?_
            (try simp only [Act.put, List.getElem_toArray, List.getElem_cons_zero, List.getElem_cons_succ, List.setIfInBounds_toArray, List.set_cons_zero, List.set_cons_succ])
            refine wpAnyX_pure (i := 7) (v := ?_) rfl (by kernel_rfl) (by kernel_rfl) (by kernel_rfl) (fun _ _ _ h => h) (Or.inl ⟨by rfl, ?_⟩) ?_
            rotate_left
            · (intro W _; go_simp; try with_reducible rfl)
            (try simp only [Act.put, List.getElem_toArray, List.getElem_cons_zero, List.getElem_cons_succ, List.setIfInBounds_toArray, List.set_cons_zero, List.set_cons_succ])
            refine wpAnyX_pure (i := 8) (v := ?_) rfl (by kernel_rfl) (by kernel_rfl) (by kernel_rfl) (fun _ _ _ h => h) (Or.inl ⟨by rfl, ?_⟩) ?_
            rotate_left
            · (intro W _; go_simp; try with_reducible rfl)
            (try simp only [Act.put, List.getElem_toArray, List.getElem_cons_zero, List.getElem_cons_succ, List.setIfInBounds_toArray, List.set_cons_zero, List.set_cons_succ])
            refine wpAnyX_pure (i := 9) (v := ?_) rfl (by kernel_rfl) (by kernel_rfl) (by kernel_rfl) (fun _ _ _ h => h) (Or.inl ⟨by rfl, ?_⟩) ?_
            rotate_left
            · (intro W _; go_simp; try with_reducible rfl)
            (try simp only [Act.put, List.getElem_toArray, List.getElem_cons_zero, List.getElem_cons_succ, List.setIfInBounds_toArray, List.set_cons_zero, List.set_cons_succ])
            have hg9lt := hg9.lt
            clear hal
            refine wpAnyX_one (i := 11) rfl (by kernel_rfl) (fun K hK => ?_)
            go_simp
            refine hK.out _ _ (fun _ _ => HS.out _ (bt hbf (alloc_below _ _))) ?_
            (try simp only [Act.put, List.getElem_toArray, List.getElem_cons_zero, List.getElem_cons_succ, List.setIfInBounds_toArray, List.set_cons_zero, List.set_cons_succ])
            have hal := alloc_below y9 (.cells #[.int .i64 0, .slice none 0 0] 24)
            have hF := hF.keptT (KeptT.of_below hal)
            have hM := hM.keptT (KeptT.of_below hal)
            have hg9 := hg9.on hal
            have hg10 := bx_new y9 #[.int .i64 0, .slice none 0 0] 24
            have hge10 : w1.heap.size ≤ y9.heap.size := hbf.size
            have hbf := bt hbf hal
            have hne : _ ≠ y9.heap.size := Nat.ne_of_lt hg9lt
            generalize y9.alloc (.cells #[.int .i64 0, .slice none 0 0] 24) = y10 at hal hbf hF hM hg9 hg10 ⊢
            have hg10lt := hg10.lt
            have hg9lt := hg9.lt
            clear hal
            refine wpAnyX_one (i := 12) rfl (by kernel_rfl) (fun K hK => ?_)
            refine wp_store_row 24 _ _ rfl _ (#[.int .i64 i, .slice A4 F.length c4]) rfl rfl 24 (#[.int .i64 0, .slice none 0 0]) (hg9) (by kernel_rfl) (by rfl) (by simp [Value.oneCell']) (hK.out _ _ (fun h => absurd h (by decide)) ?_)
            (try simp only [Act.put, List.getElem_toArray, List.getElem_cons_zero, List.getElem_cons_succ, List.setIfInBounds_toArray, List.set_cons_zero, List.set_cons_succ])
            have hF := hF.keptT (hg9.keptRow (t := 38) (by decide) (#[.int .i64 i, .slice A4 F.length c4]))
            have hM := hM.keptT (hg9.keptRow (t := 38) (by decide) (#[.int .i64 i, .slice A4 F.length c4]))
            have hg10 := hg10.rowOther hne.symm (#[.int .i64 i, .slice A4 F.length c4])
            have hg9 := hg9.row (#[.int .i64 i, .slice A4 F.length c4])
            have hbf := below_setRow hbf hge9 (#[.int .i64 i, .slice A4 F.length c4])
            refine wpAnyX_one (i := 13) rfl (by kernel_rfl) (fun K hK => ?_)
            refine wp_store_row 24 _ _ rfl _ (#[.int .i64 i, .slice A5 M.length c5]) rfl rfl 24 (#[.int .i64 0, .slice none 0 0]) (hg10) (by kernel_rfl) (by rfl) (by simp [Value.oneCell']) (hK.out _ _ (fun h => absurd h (by decide)) ?_)
            (try simp only [Act.put, List.getElem_toArray, List.getElem_cons_zero, List.getElem_cons_succ, List.setIfInBounds_toArray, List.set_cons_zero, List.set_cons_succ])
            have hF := hF.keptT (hg10.keptRow (t := 38) (by decide) (#[.int .i64 i, .slice A5 M.length c5]))
            have hM := hM.keptT (hg10.keptRow (t := 38) (by decide) (#[.int .i64 i, .slice A5 M.length c5]))
            have hg9 := hg9.rowOther hne (#[.int .i64 i, .slice A5 M.length c5])
            have hg10 := hg10.row (#[.int .i64 i, .slice A5 M.length c5])
            have hbf := below_setRow hbf hge10 (#[.int .i64 i, .slice A5 M.length c5])
            refine wpAnyX_done (by kernel_rfl) ?_ _
            go_wp2_with fail
            go_meet
            exact ⟨_, _, A4, A5, c4, c5, rfl, rfl, hg9, hg10, hF.trs hbf hFl, hM.trs hbf hMl, hM.cap, hbf⟩
          · go_simp
            refine hK.out _ _ (fun _ _ => HS.out _ (bt hbf (alloc_below _ _))) ?_
            (try simp only [Act.put, List.getElem_toArray, List.getElem_cons_zero, List.getElem_cons_succ, List.setIfInBounds_toArray, List.set_cons_zero, List.set_cons_succ])
            have hal := alloc_below y8 (.cells #[.int .i64 0, .slice none 0 0] 24)
            have hA := hA.keptT (KeptT.of_below hal)
            have hB := hB.keptT (KeptT.of_below hal)
            have hg9 := hg9.on hal
            have hg10 := bx_new y8 #[.int .i64 0, .slice none 0 0] 24
            have hge10 : w1.heap.size ≤ y8.heap.size := hbf.size
            have hbf := bt hbf hal
            have hne : _ ≠ y8.heap.size := Nat.ne_of_lt hg9lt
            generalize y8.alloc (.cells #[.int .i64 0, .slice none 0 0] 24) = y11 at hal hbf hA hB hg9 hg10 ⊢
            have hg10lt := hg10.lt
            have hg9lt := hg9.lt
            clear hal
            refine wpAnyX_one (i := 6) rfl (by kernel_rfl) (fun K hK => ?_)
            go_simp
            go_at_call 85
            refine (pord_rows i A2 A3 c2 c3 w1.heap.size P Q F M HFM.out w1 _ hA hB hPl hQl).mono ?_
            rintro r y12 ⟨A4, c4, A5, c5, rfl, hF, hM, hal⟩
            clear hA hB
            have hg9 := hg9.on hal
            have hg10 := hg10.on hal
            have hbf := bt hbf hal
            refine hK.out _ _ (fun _ _ => HS.out _ hbf) ?_
            (try simp only [Act.put, List.getElem_toArray, List.getElem_cons_zero, List.getElem_cons_succ, List.setIfInBounds_toArray, List.set_cons_zero, List.set_cons_succ])
            refine wpAnyX_pure (i := 7) (v := ?_) rfl (by kernel_rfl) (by kernel_rfl) (by kernel_rfl) (fun _ _ _ h => h) (Or.inl ⟨by rfl, ?_⟩) ?_
            rotate_left
            · (intro W _; go_simp; try with_reducible rfl)
            (try simp only [Act.put, List.getElem_toArray, List.getElem_cons_zero, List.getElem_cons_succ, List.setIfInBounds_toArray, List.set_cons_zero, List.set_cons_succ])
            refine wpAnyX_pure (i := 8) (v := ?_) rfl (by kernel_rfl) (by kernel_rfl) (by kernel_rfl) (fun _ _ _ h => h) (Or.inl ⟨by rfl, ?_⟩) ?_
            rotate_left
            · (intro W _; go_simp; try with_reducible rfl)
            (try simp only [Act.put, List.getElem_toArray, List.getElem_cons_zero, List.getElem_cons_succ, List.setIfInBounds_toArray, List.set_cons_zero, List.set_cons_succ])
            refine wpAnyX_pure (i := 9) (v := ?_) rfl (by kernel_rfl) (by kernel_rfl) (by kernel_rfl) (fun _ _ _ h => h) (Or.inl ⟨by rfl, ?_⟩) ?_
            rotate_left
            · (intro W _; go_simp; try with_reducible rfl)
            (try simp only [Act.put, List.getElem_toArray, List.getElem_cons_zero, List.getElem_cons_succ, List.setIfInBounds_toArray, List.set_cons_zero, List.set_cons_succ])
            have hg9lt := hg9.lt
            have hg10lt := hg10.lt
            clear hal
            refine wpAnyX_one (i := 12) rfl (by kernel_rfl) (fun K hK => ?_)
            refine wp_store_row 24 _ _ rfl _ (#[.int .i64 i, .slice A4 F.length c4]) rfl rfl 24 (#[.int .i64 0, .slice none 0 0]) (hg9) (by kernel_rfl) (by rfl) (by simp [Value.oneCell']) (hK.out _ _ (fun h => absurd h (by decide)) ?_)
            (try simp only [Act.put, List.getElem_toArray, List.getElem_cons_zero, List.getElem_cons_succ, List.setIfInBounds_toArray, List.set_cons_zero, List.set_cons_succ])
            have hF := hF.keptT (hg9.keptRow (t := 38) (by decide) (#[.int .i64 i, .slice A4 F.length c4]))
            have hM := hM.keptT (hg9.keptRow (t := 38) (by decide) (#[.int .i64 i, .slice A4 F.length c4]))
            have hg10 := hg10.rowOther hne.symm (#[.int .i64 i, .slice A4 F.length c4])
            have hg9 := hg9.row (#[.int .i64 i, .slice A4 F.length c4])
            have hbf := below_setRow hbf hge9 (#[.int .i64 i, .slice A4 F.length c4])
            refine wpAnyX_one (i := 13) rfl (by kernel_rfl) (fun K hK => ?_)
            refine wp_store_row 24 _ _ rfl _ (#[.int .i64 i, .slice A5 M.length c5]) rfl rfl 24 (#[.int .i64 0, .slice none 0 0]) (hg10) (by kernel_rfl) (by rfl) (by simp [Value.oneCell']) (hK.out _ _ (fun h => absurd h (by decide)) ?_)
            (try simp only [Act.put, List.getElem_toArray, List.getElem_cons_zero, List.getElem_cons_succ, List.setIfInBounds_toArray, List.set_cons_zero, List.set_cons_succ])
            have hF := hF.keptT (hg10.keptRow (t := 38) (by decide) (#[.int .i64 i, .slice A5 M.length c5]))
            have hM := hM.keptT (hg10.keptRow (t := 38) (by decide) (#[.int .i64 i, .slice A5 M.length c5]))
            have hg9 := hg9.rowOther hne (#[.int .i64 i, .slice A5 M.length c5])
            have hg10 := hg10.row (#[.int .i64 i, .slice A5 M.length c5])
            have hbf := below_setRow hbf hge10 (#[.int .i64 i, .slice A5 M.length c5])
            refine wpAnyX_done (by kernel_rfl) ?_ _
            go_wp2_with fail
            go_meet
            exact ⟨_, _, A4, A5, c4, c5, rfl, rfl, hg9, hg10, hF.trs hbf hFl, hM.trs hbf hMl, hM.cap, hbf⟩
        · go_simp
          refine hK.out _ _ (fun _ _ => HS.out _ (bt hbf (alloc_below _ _))) ?_
          (try simp only [Act.put, List.getElem_toArray, List.getElem_cons_zero, List.getElem_cons_succ, List.setIfInBounds_toArray, List.set_cons_zero, List.set_cons_succ])
          have hal := alloc_below y2 (.cells #[.int .i64 0, .slice none 0 0] 24)
          have hA := hA.keptT (KeptT.of_below hal)
          have hB := hB.keptT (KeptT.of_below hal)
          have hg10 := bx_new y2 #[.int .i64 0, .slice none 0 0] 24
          have hge10 : w1.heap.size ≤ y2.heap.size := hbf.size
          have hbf := bt hbf hal
          generalize y2.alloc (.cells #[.int .i64 0, .slice none 0 0] 24) = y13 at hal hbf hA hB hg10 ⊢
          have hg10lt := hg10.lt
          clear hal
          refine wpAnyX_two (i := 6) (j := 10) rfl rfl (by kernel_rfl) (fun K hK => ?_) (fun K hK => ?_)
          · go_simp
            go_at_call 85
            refine (pord_rows i A2 A3 c2 c3 w1.heap.size P Q F M HFM.out w1 _ hA hB hPl hQl).mono ?_
            rintro r y14 ⟨A4, c4, A5, c5, rfl, hF, hM, hal⟩
            clear hA hB
            have hg10 := hg10.on hal
            have hbf := bt hbf hal
            refine hK.out _ _ (fun _ _ => HS.out _ hbf) ?_
            (try simp only [Act.put, List.getElem_toArray, List.getElem_cons_zero, List.getElem_cons_succ, List.setIfInBounds_toArray, List.set_cons_zero, List.set_cons_succ])
            refine wpAnyX_pure (i := 7) (v := ?_) rfl (by kernel_rfl) (by kernel_rfl) (by kernel_rfl) (fun _ _ _ h => h) (Or.inl ⟨by rfl, ?_⟩) ?_
            rotate_left
            · (intro W _; go_simp; try with_reducible rfl)
            (try simp only [Act.put, List.getElem_toArray, List.getElem_cons_zero, List.getElem_cons_succ, List.setIfInBounds_toArray, List.set_cons_zero, List.set_cons_succ])
            refine wpAnyX_pure (i := 8) (v := ?_) rfl (by kernel_rfl) (by kernel_rfl) (by kernel_rfl) (fun _ _ _ h => h) (Or.inl ⟨by rfl, ?_⟩) ?_
            rotate_left
            · (intro W _; go_simp; try with_reducible rfl)
            (try simp only [Act.put, List.getElem_toArray, List.getElem_cons_zero, List.getElem_cons_succ, List.setIfInBounds_toArray, List.set_cons_zero, List.set_cons_succ])
            refine wpAnyX_pure (i := 9) (v := ?_) rfl (by kernel_rfl) (by kernel_rfl) (by kernel_rfl) (fun _ _ _ h => h) (Or.inl ⟨by rfl, ?_⟩) ?_
            rotate_left
            · (intro W _; go_simp; try with_reducible rfl)
            (try simp only [Act.put, List.getElem_toArray, List.getElem_cons_zero, List.getElem_cons_succ, List.setIfInBounds_toArray, List.set_cons_zero, List.set_cons_succ])
            have hg10lt := hg10.lt
            clear hal
            refine wpAnyX_one (i := 10) rfl (by kernel_rfl) (fun K hK => ?_)
            go_simp
            refine hK.out _ _ (fun _ _ => HS.out _ (bt hbf (alloc_below _ _))) ?_
            (try simp only [Act.put, List.getElem_toArray, List.getElem_cons_zero, List.getElem_cons_succ, List.setIfInBounds_toArray, List.set_cons_zero, List.set_cons_succ])
            have hal := alloc_below y14 (.cells #[.int .i64 0, .slice none 0 0] 24)
            have hF := hF.keptT (KeptT.of_below hal)
            have hM := hM.keptT (KeptT.of_below hal)
            have hg10 := hg10.on hal
            have hg9 := bx_new y14 #[.int .i64 0, .slice none 0 0] 24
            have hge9 : w1.heap.size ≤ y14.heap.size := hbf.size
            have hbf := bt hbf hal
            have hne : y14.heap.size ≠ _ := Nat.ne_of_gt hg10lt
            generalize y14.alloc (.cells #[.int .i64 0, .slice none 0 0] 24) = y15 at hal hbf hF hM hg9 hg10 ⊢
            have hg9lt := hg9.lt
            have hg10lt := hg10.lt
            clear hal
            refine wpAnyX_one (i := 12) rfl (by kernel_rfl) (fun K hK => ?_)
            refine wp_store_row 24 _ _ rfl _ (#[.int .i64 i, .slice A4 F.length c4]) rfl rfl 24 (#[.int .i64 0, .slice none 0 0]) (hg9) (by kernel_rfl) (by rfl) (by simp [Value.oneCell']) (hK.out _ _ (fun h => absurd h (by decide)) ?_)
            (try simp only [Act.put, List.getElem_toArray, List.getElem_cons_zero, List.getElem_cons_succ, List.setIfInBounds_toArray, List.set_cons_zero, List.set_cons_succ])
            have hF := hF.keptT (hg9.keptRow (t := 38) (by decide) (#[.int .i64 i, .slice A4 F.length c4]))
            have hM := hM.keptT (hg9.keptRow (t := 38) (by decide) (#[.int .i64 i, .slice A4 F.length c4]))
            have hg10 := hg10.rowOther hne.symm (#[.int .i64 i, .slice A4 F.length c4])
            have hg9 := hg9.row (#[.int .i64 i, .slice A4 F.length c4])
            have hbf := below_setRow hbf hge9 (#[.int .i64 i, .slice A4 F.length c4])
            refine wpAnyX_one (i := 13) rfl (by kernel_rfl) (fun K hK => ?_)
            refine wp_store_row 24 _ _ rfl _ (#[.int .i64 i, .slice A5 M.length c5]) rfl rfl 24 (#[.int .i64 0, .slice none 0 0]) (hg10) (by kernel_rfl) (by rfl) (by simp [Value.oneCell']) (hK.out _ _ (fun h => absurd h (by decide)) ?_)
            (try simp only [Act.put, List.getElem_toArray, List.getElem_cons_zero, List.getElem_cons_succ, List.setIfInBounds_toArray, List.set_cons_zero, List.set_cons_succ])
            have hF := hF.keptT (hg10.keptRow (t := 38) (by decide) (#[.int .i64 i, .slice A5 M.length c5]))
            have hM := hM.keptT (hg10.keptRow (t := 38) (by decide) (#[.int .i64 i, .slice A5 M.length c5]))
            have hg9 := hg9.rowOther hne (#[.int .i64 i, .slice A5 M.length c5])
            have hg10 := hg10.row (#[.int .i64 i, .slice A5 M.length c5])
            have hbf := below_setRow hbf hge10 (#[.int .i64 i, .slice A5 M.length c5])
            refine wpAnyX_done (by kernel_rfl) ?_ _
            go_wp2_with fail
            go_meet
            exact ⟨_, _, A4, A5, c4, c5, rfl, rfl, hg9, hg10, hF.trs hbf hFl, hM.trs hbf hMl, hM.cap, hbf⟩
          · go_simp
            refine hK.out _ _ (fun _ _ => HS.out _ (bt hbf (alloc_below _ _))) ?_
            (try simp only [Act.put, List.getElem_toArray, List.getElem_cons_zero, List.getElem_cons_succ, List.setIfInBounds_toArray, List.set_cons_zero, List.set_cons_succ])
            have hal := alloc_below y13 (.cells #[.int .i64 0, .slice none 0 0] 24)
            have hA := hA.keptT (KeptT.of_below hal)
            have hB := hB.keptT (KeptT.of_below hal)
            have hg10 := hg10.on hal
            have hg9 := bx_new y13 #[.int .i64 0, .slice none 0 0] 24
            have hge9 : w1.heap.size ≤ y13.heap.size := hbf.size
            have hbf := bt hbf hal
            have hne : y13.heap.size ≠ _ := Nat.ne_of_gt hg10lt
            generalize y13.alloc (.cells #[.int .i64 0, .slice none 0 0] 24) = y16 at hal hbf hA hB hg9 hg10 ⊢
            have hg9lt := hg9.lt
            have hg10lt := hg10.lt
            clear hal
            refine wpAnyX_one (i := 6) rfl (by kernel_rfl) (fun K hK => ?_)
            go_simp
            go_at_call 85
            refine (pord_rows i A2 A3 c2 c3 w1.heap.size P Q F M HFM.out w1 _ hA hB hPl hQl).mono ?_
            rintro r y17 ⟨A4, c4, A5, c5, rfl, hF, hM, hal⟩
            clear hA hB
            have hg9 := hg9.on hal
            have hg10 := hg10.on hal
            have hbf := bt hbf hal
            refine hK.out _ _ (fun _ _ => HS.out _ hbf) ?_
            (try simp only [Act.put, List.getElem_toArray, List.getElem_cons_zero, List.getElem_cons_succ, List.setIfInBounds_toArray, List.set_cons_zero, List.set_cons_succ])
            refine wpAnyX_pure (i := 7) (v := ?_) rfl (by kernel_rfl) (by kernel_rfl) (by kernel_rfl) (fun _ _ _ h => h) (Or.inl ⟨by rfl, ?_⟩) ?_
            rotate_left
            · (intro W _; go_simp; try with_reducible rfl)
            (try simp only [Act.put, List.getElem_toArray, List.getElem_cons_zero, List.getElem_cons_succ, List.setIfInBounds_toArray, List.set_cons_zero, List.set_cons_succ])
            refine wpAnyX_pure (i := 8) (v := ?_) rfl (by kernel_rfl) (by kernel_rfl) (by kernel_rfl) (fun _ _ _ h => h) (Or.inl ⟨by rfl, ?_⟩) ?_
            rotate_left
            · (intro W _; go_simp; try with_reducible rfl)
            (try simp only [Act.put, List.getElem_toArray, List.getElem_cons_zero, List.getElem_cons_succ, List.setIfInBounds_toArray, List.set_cons_zero, List.set_cons_succ])
            refine wpAnyX_pure (i := 9) (v := ?_) rfl (by kernel_rfl) (by kernel_rfl) (by kernel_rfl) (fun _ _ _ h => h) (Or.inl ⟨by rfl, ?_⟩) ?_
            rotate_left
            · (intro W _; go_simp; try with_reducible rfl)
            (try simp only [Act.put, List.getElem_toArray, List.getElem_cons_zero, List.getElem_cons_succ, List.setIfInBounds_toArray, List.set_cons_zero, List.set_cons_succ])
            have hg9lt := hg9.lt
            have hg10lt := hg10.lt
            clear hal
            refine wpAnyX_one (i := 12) rfl (by kernel_rfl) (fun K hK => ?_)
            refine wp_store_row 24 _ _ rfl _ (#[.int .i64 i, .slice A4 F.length c4]) rfl rfl 24 (#[.int .i64 0, .slice none 0 0]) (hg9) (by kernel_rfl) (by rfl) (by simp [Value.oneCell']) (hK.out _ _ (fun h => absurd h (by decide)) ?_)
            (try simp only [Act.put, List.getElem_toArray, List.getElem_cons_zero, List.getElem_cons_succ, List.setIfInBounds_toArray, List.set_cons_zero, List.set_cons_succ])
            have hF := hF.keptT (hg9.keptRow (t := 38) (by decide) (#[.int .i64 i, .slice A4 F.length c4]))
            have hM := hM.keptT (hg9.keptRow (t := 38) (by decide) (#[.int .i64 i, .slice A4 F.length c4]))
            have hg10 := hg10.rowOther hne.symm (#[.int .i64 i, .slice A4 F.length c4])
            have hg9 := hg9.row (#[.int .i64 i, .slice A4 F.length c4])
            have hbf := below_setRow hbf hge9 (#[.int .i64 i, .slice A4 F.length c4])
            refine wpAnyX_one (i := 13) rfl (by kernel_rfl) (fun K hK => ?_)
            refine wp_store_row 24 _ _ rfl _ (#[.int .i64 i, .slice A5 M.length c5]) rfl rfl 24 (#[.int .i64 0, .slice none 0 0]) (hg10) (by kernel_rfl) (by rfl) (by simp [Value.oneCell']) (hK.out _ _ (fun h => absurd h (by decide)) ?_)
            (try simp only [Act.put, List.getElem_toArray, List.getElem_cons_zero, List.getElem_cons_succ, List.setIfInBounds_toArray, List.set_cons_zero, List.set_cons_succ])
            have hF := hF.keptT (hg10.keptRow (t := 38) (by decide) (#[.int .i64 i, .slice A5 M.length c5]))
            have hM := hM.keptT (hg10.keptRow (t := 38) (by decide) (#[.int .i64 i, .slice A5 M.length c5]))
            have hg9 := hg9.rowOther hne (#[.int .i64 i, .slice A5 M.length c5])
            have hg10 := hg10.row (#[.int .i64 i, .slice A5 M.length c5])
            have hbf := below_setRow hbf hge10 (#[.int .i64 i, .slice A5 M.length c5])
            refine wpAnyX_done (by kernel_rfl) ?_ _
            go_wp2_with fail
            go_meet
            exact ⟨_, _, A4, A5, c4, c5, rfl, rfl, hg9, hg10, hF.trs hbf hFl, hM.trs hbf hMl, hM.cap, hbf⟩
      · go_simp
        refine hK.out _ _ (fun _ _ => HS.out _ (bt hbf (alloc_below _ _))) ?_
        (try simp only [Act.put, List.getElem_toArray, List.getElem_cons_zero, List.getElem_cons_succ, List.setIfInBounds_toArray, List.set_cons_zero, List.set_cons_succ])
        have hal := alloc_below y1 (.cells #[.int .i64 0, .slice none 0 0] 24)
        have hA := hA.keptT (KeptT.of_below hal)
        have hg9 := bx_new y1 #[.int .i64 0, .slice none 0 0] 24
        have hge9 : w1.heap.size ≤ y1.heap.size := hbf.size
        have hbf := bt hbf hal
        generalize y1.alloc (.cells #[.int .i64 0, .slice none 0 0] 24) = y18 at hal hbf hA hg9 ⊢
        have hg9lt := hg9.lt
        clear hal
        refine wpAnyX_two (i := 5) (j := 11) rfl rfl (by kernel_rfl) (fun K hK => ?_) (fun K hK => ?_)
        · go_simp
          go_at_call 86
          refine (pafter22 i T V tn tc k e ts vs w1 _ hbf (HT.out _ (Below.refl _ _)) (HV.out _ (Below.refl _ _)) HFF.out htn).mono ?_
          rintro r y19 ⟨A3, c3, rfl, hB, hal⟩
          rw [← HQ.out] at hB ⊢
          have hB := hB.lower hbf.size
          have hA := hA.keptT (KeptT.of_below hal)
          have hg9 := hg9.on hal
          have hbf := bt hbf hal
          refine hK.out _ _ (fun _ _ => HS.out _ hbf) ?_
          (try simp only [Act.put, List.getElem_toArray, List.getElem_cons_zero, List.getElem_cons_succ, List.setIfInBounds_toArray, List.set_cons_zero, List.set_cons_succ])
          have hg9lt := hg9.lt
          clear hal
          refine wpAnyX_two (i := 6) (j := 11) rfl rfl (by kernel_rfl) (fun K hK => ?_) (fun K hK => ?_)
          · go_simp
            go_at_call 85
            refine (pord_rows i A2 A3 c2 c3 w1.heap.size P Q F M HFM.out w1 _ hA hB hPl hQl).mono ?_
            rintro r y20 ⟨A4, c4, A5, c5, rfl, hF, hM, hal⟩
            clear hA hB
            have hg9 := hg9.on hal
            have hbf := bt hbf hal
            refine hK.out _ _ (fun _ _ => HS.out _ hbf) ?_
            (try simp only [Act.put, List.getElem_toArray, List.getElem_cons_zero, List.getElem_cons_succ, List.setIfInBounds_toArray, List.set_cons_zero, List.set_cons_succ])
            refine wpAnyX_pure (i := 7) (v := ?_) rfl (by kernel_rfl) (by kernel_rfl) (by kernel_rfl) (fun _ _ _ h => h) (Or.inl ⟨by rfl, ?_⟩) ?_
            rotate_left
            · (intro W _; go_simp; try with_reducible rfl)
            (try simp only [Act.put, List.getElem_toArray, List.getElem_cons_zero, List.getElem_cons_succ, List.setIfInBounds_toArray, List.set_cons_zero, List.set_cons_succ])
            refine wpAnyX_pure (i := 8) (v := ?_) rfl (by kernel_rfl) (by kernel_rfl) (by kernel_rfl) (fun _ _ _ h => h) (Or.inl ⟨by rfl, ?_⟩) ?_
            rotate_left
            · (intro W _; go_simp; try with_reducible rfl)
            (try simp only [Act.put, List.getElem_toArray, List.getElem_cons_zero, List.getElem_cons_succ, List.setIfInBounds_toArray, List.set_cons_zero, List.set_cons_succ])
            refine wpAnyX_pure (i := 9) (v := ?_) rfl (by kernel_rfl) (by kernel_rfl) (by kernel_rfl) (fun _ _ _ h => h) (Or.inl ⟨by rfl, ?_⟩) ?_
            rotate_left
            · (intro W _; go_simp; try with_reducible rfl)
            (try simp only [Act.put, List.getElem_toArray, List.getElem_cons_zero, List.getElem_cons_succ, List.setIfInBounds_toArray, List.set_cons_zero, List.set_cons_succ])
            have hg9lt := hg9.lt
            clear hal
            refine wpAnyX_one (i := 11) rfl (by kernel_rfl) (fun K hK => ?_)
            go_simp
            refine hK.out _ _ (fun _ _ => HS.out _ (bt hbf (alloc_below _ _))) ?_
            (try simp only [Act.put, List.getElem_toArray, List.getElem_cons_zero, List.getElem_cons_succ, List.setIfInBounds_toArray, List.set_cons_zero, List.set_cons_succ])
            have hal := alloc_below y20 (.cells #[.int .i64 0, .slice none 0 0] 24)
            have hF := hF.keptT (KeptT.of_below hal)
            have hM := hM.keptT (KeptT.of_below hal)
            have hg9 := hg9.on hal
            have hg10 := bx_new y20 #[.int .i64 0, .slice none 0 0] 24
            have hge10 : w1.heap.size ≤ y20.heap.size := hbf.size
            have hbf := bt hbf hal
            have hne : _ ≠ y20.heap.size := Nat.ne_of_lt hg9lt
            generalize y20.alloc (.cells #[.int .i64 0, .slice none 0 0] 24) = y21 at hal hbf hF hM hg9 hg10 ⊢
            have hg10lt := hg10.lt
            have hg9lt := hg9.lt
            clear hal
            refine wpAnyX_one (i := 12) rfl (by kernel_rfl) (fun K hK => ?_)
            refine wp_store_row 24 _ _ rfl _ (#[.int .i64 i, .slice A4 F.length c4]) rfl rfl 24 (#[.int .i64 0, .slice none 0 0]) (hg9) (by kernel_rfl) (by rfl) (by simp [Value.oneCell']) (hK.out _ _ (fun h => absurd h (by decide)) ?_)
            (try simp only [Act.put, List.getElem_toArray, List.getElem_cons_zero, List.getElem_cons_succ, List.setIfInBounds_toArray, List.set_cons_zero, List.set_cons_succ])
            have hF := hF.keptT (hg9.keptRow (t := 38) (by decide) (#[.int .i64 i, .slice A4 F.length c4]))
            have hM := hM.keptT (hg9.keptRow (t := 38) (by decide) (#[.int .i64 i, .slice A4 F.length c4]))
            have hg10 := hg10.rowOther hne.symm (#[.int .i64 i, .slice A4 F.length c4])
            have hg9 := hg9.row (#[.int .i64 i, .slice A4 F.length c4])
            have hbf := below_setRow hbf hge9 (#[.int .i64 i, .slice A4 F.length c4])
            refine wpAnyX_one (i := 13) rfl (by kernel_rfl) (fun K hK => ?_)
            refine wp_store_row 24 _ _ rfl _ (#[.int .i64 i, .slice A5 M.length c5]) rfl rfl 24 (#[.int .i64 0, .slice none 0 0]) (hg10) (by kernel_rfl) (by rfl) (by simp [Value.oneCell']) (hK.out _ _ (fun h => absurd h (by decide)) ?_)
            (try simp only [Act.put, List.getElem_toArray, List.getElem_cons_zero, List.getElem_cons_succ, List.setIfInBounds_toArray, List.set_cons_zero, List.set_cons_succ])
            have hF := hF.keptT (hg10.keptRow (t := 38) (by decide) (#[.int .i64 i, .slice A5 M.length c5]))
            have hM := hM.keptT (hg10.keptRow (t := 38) (by decide) (#[.int .i64 i, .slice A5 M.length c5]))
            have hg9 := hg9.rowOther hne (#[.int .i64 i, .slice A5 M.length c5])
            have hg10 := hg10.row (#[.int .i64 i, .slice A5 M.length c5])
            have hbf := below_setRow hbf hge10 (#[.int .i64 i, .slice A5 M.length c5])
            refine wpAnyX_done (by kernel_rfl) ?_ _
            go_wp2_with fail
            go_meet
            exact ⟨_, _, A4, A5, c4, c5, rfl, rfl, hg9, hg10, hF.trs hbf hFl, hM.trs hbf hMl, hM.cap, hbf⟩
          · go_simp
            refine hK.out _ _ (fun _ _ => HS.out _ (bt hbf (alloc_below _ _))) ?_
            (try simp only [Act.put, List.getElem_toArray, List.getElem_cons_zero, List.getElem_cons_succ, List.setIfInBounds_toArray, List.set_cons_zero, List.set_cons_succ])
            have hal := alloc_below y19 (.cells #[.int .i64 0, .slice none 0 0] 24)
            have hA := hA.keptT (KeptT.of_below hal)
            have hB := hB.keptT (KeptT.of_below hal)
            have hg9 := hg9.on hal
            have hg10 := bx_new y19 #[.int .i64 0, .slice none 0 0] 24
            have hge10 : w1.heap.size ≤ y19.heap.size := hbf.size
            have hbf := bt hbf hal
            have hne : _ ≠ y19.heap.size := Nat.ne_of_lt hg9lt
            generalize y19.alloc (.cells #[.int .i64 0, .slice none 0 0] 24) = y22 at hal hbf hA hB hg9 hg10 ⊢
            have hg10lt := hg10.lt
            have hg9lt := hg9.lt
            clear hal
            refine wpAnyX_one (i := 6) rfl (by kernel_rfl) (fun K hK => ?_)
            go_simp
            go_at_call 85
            refine (pord_rows i A2 A3 c2 c3 w1.heap.size P Q F M HFM.out w1 _ hA hB hPl hQl).mono ?_
            rintro r y23 ⟨A4, c4, A5, c5, rfl, hF, hM, hal⟩
            clear hA hB
            have hg9 := hg9.on hal
            have hg10 := hg10.on hal
            have hbf := bt hbf hal
            refine hK.out _ _ (fun _ _ => HS.out _ hbf) ?_
            (try simp only [Act.put, List.getElem_toArray, List.getElem_cons_zero, List.getElem_cons_succ, List.setIfInBounds_toArray, List.set_cons_zero, List.set_cons_succ])
            refine wpAnyX_pure (i := 7) (v := ?_) rfl (by kernel_rfl) (by kernel_rfl) (by kernel_rfl) (fun _ _ _ h => h) (Or.inl ⟨by rfl, ?_⟩) ?_
            rotate_left
            · (intro W _; go_simp; try with_reducible rfl)
            (try simp only [Act.put, List.getElem_toArray, List.getElem_cons_zero, List.getElem_cons_succ, List.setIfInBounds_toArray, List.set_cons_zero, List.set_cons_succ])
            refine wpAnyX_pure (i := 8) (v := ?_) rfl (by kernel_rfl) (by kernel_rfl) (by kernel_rfl) (fun _ _ _ h => h) (Or.inl ⟨by rfl, ?_⟩) ?_
            rotate_left
            · (intro W _; go_simp; try with_reducible rfl)
            (try simp only [Act.put, List.getElem_toArray, List.getElem_cons_zero, List.getElem_cons_succ, List.setIfInBounds_toArray, List.set_cons_zero, List.set_cons_succ])
            refine wpAnyX_pure (i := 9) (v := ?_) rfl (by kernel_rfl) (by kernel_rfl) (by kernel_rfl) (fun _ _ _ h => h) (Or.inl ⟨by rfl, ?_⟩) ?_
            rotate_left
            · (intro W _; go_simp; try with_reducible rfl)
            (try simp only [Act.put, List.getElem_toArray, List.getElem_cons_zero, List.getElem_cons_succ, List.setIfInBounds_toArray, List.set_cons_zero, List.set_cons_succ])
            have hg9lt := hg9.lt
            have hg10lt := hg10.lt
            clear hal
            refine wpAnyX_one (i := 12) rfl (by kernel_rfl) (fun K hK => ?_)
            refine wp_store_row 24 _ _ rfl _ (#[.int .i64 i, .slice A4 F.length c4]) rfl rfl 24 (#[.int .i64 0, .slice none 0 0]) (hg9) (by kernel_rfl) (by rfl) (by simp [Value.oneCell']) (hK.out _ _ (fun h => absurd h (by decide)) ?_)
            (try simp only [Act.put, List.getElem_toArray, List.getElem_cons_zero, List.getElem_cons_succ, List.setIfInBounds_toArray, List.set_cons_zero, List.set_cons_succ])
            have hF := hF.keptT (hg9.keptRow (t := 38) (by decide) (#[.int .i64 i, .slice A4 F.length c4]))
            have hM := hM.keptT (hg9.keptRow (t := 38) (by decide) (#[.int .i64 i, .slice A4 F.length c4]))
            have hg10 := hg10.rowOther hne.symm (#[.int .i64 i, .slice A4 F.length c4])
            have hg9 := hg9.row (#[.int .i64 i, .slice A4 F.length c4])
            have hbf := below_setRow hbf hge9 (#[.int .i64 i, .slice A4 F.length c4])
            refine wpAnyX_one (i := 13) rfl (by kernel_rfl) (fun K hK => ?_)
            refine wp_store_row 24 _ _ rfl _ (#[.int .i64 i, .slice A5 M.length c5]) rfl rfl 24 (#[.int .i64 0, .slice none 0 0]) (hg10) (by kernel_rfl) (by rfl) (by simp [Value.oneCell']) (hK.out _ _ (fun h => absurd h (by decide)) ?_)
            (try simp only [Act.put, List.getElem_toArray, List.getElem_cons_zero, List.getElem_cons_succ, List.setIfInBounds_toArray, List.set_cons_zero, List.set_cons_succ])
            have hF := hF.keptT (hg10.keptRow (t := 38) (by decide) (#[.int .i64 i, .slice A5 M.length c5]))
            have hM := hM.keptT (hg10.keptRow (t := 38) (by decide) (#[.int .i64 i, .slice A5 M.length c5]))
            have hg9 := hg9.rowOther hne (#[.int .i64 i, .slice A5 M.length c5])
            have hg10 := hg10.row (#[.int .i64 i, .slice A5 M.length c5])
            have hbf := below_setRow hbf hge10 (#[.int .i64 i, .slice A5 M.length c5])
            refine wpAnyX_done (by kernel_rfl) ?_ _
            go_wp2_with fail
            go_meet
            exact ⟨_, _, A4, A5, c4, c5, rfl, rfl, hg9, hg10, hF.trs hbf hFl, hM.trs hbf hMl, hM.cap, hbf⟩
        · go_simp
          refine hK.out _ _ (fun _ _ => HS.out _ (bt hbf (alloc_below _ _))) ?_
          (try simp only [Act.put, List.getElem_toArray, List.getElem_cons_zero, List.getElem_cons_succ, List.setIfInBounds_toArray, List.set_cons_zero, List.set_cons_succ])
          have hal := alloc_below y18 (.cells #[.int .i64 0, .slice none 0 0] 24)
          have hA := hA.keptT (KeptT.of_below hal)
          have hg9 := hg9.on hal
          have hg10 := bx_new y18 #[.int .i64 0, .slice none 0 0] 24
          have hge10 : w1.heap.size ≤ y18.heap.size := hbf.size
          have hbf := bt hbf hal
          have hne : _ ≠ y18.heap.size := Nat.ne_of_lt hg9lt
          generalize y18.alloc (.cells #[.int .i64 0, .slice none 0 0] 24) = y24 at hal hbf hA hg9 hg10 ⊢
          have hg10lt := hg10.lt
          have hg9lt := hg9.lt
          clear hal
          refine wpAnyX_one (i := 5) rfl (by kernel_rfl) (fun K hK => ?_)
          go_simp
          go_at_call 86
          refine (pafter22 i T V tn tc k e ts vs w1 _ hbf (HT.out _ (Below.refl _ _)) (HV.out _ (Below.refl _ _)) HFF.out htn).mono ?_
          rintro r y25 ⟨A3, c3, rfl, hB, hal⟩
          rw [← HQ.out] at hB ⊢
          have hB := hB.lower hbf.size
          have hA := hA.keptT (KeptT.of_below hal)
          have hg9 := hg9.on hal
          have hg10 := hg10.on hal
          have hbf := bt hbf hal
          refine hK.out _ _ (fun _ _ => HS.out _ hbf) ?_
          (try simp only [Act.put, List.getElem_toArray, List.getElem_cons_zero, List.getElem_cons_succ, List.setIfInBounds_toArray, List.set_cons_zero, List.set_cons_succ])
          have hg9lt := hg9.lt
          have hg10lt := hg10.lt
          clear hal
          refine wpAnyX_one (i := 6) rfl (by kernel_rfl) (fun K hK => ?_)
          go_simp
          go_at_call 85
          refine (pord_rows i A2 A3 c2 c3 w1.heap.size P Q F M HFM.out w1 _ hA hB hPl hQl).mono ?_
          rintro r y26 ⟨A4, c4, A5, c5, rfl, hF, hM, hal⟩
          clear hA hB
          have hg9 := hg9.on hal
          have hg10 := hg10.on hal
          have hbf := bt hbf hal
          refine hK.out _ _ (fun _ _ => HS.out _ hbf) ?_
          (try simp only [Act.put, List.getElem_toArray, List.getElem_cons_zero, List.getElem_cons_succ, List.setIfInBounds_toArray, List.set_cons_zero, List.set_cons_succ])
          refine wpAnyX_pure (i := 7) (v := ?_) rfl (by kernel_rfl) (by kernel_rfl) (by kernel_rfl) (fun _ _ _ h => h) (Or.inl ⟨by rfl, ?_⟩) ?_
          rotate_left
          · (intro W _; go_simp; try with_reducible rfl)
          (try simp only [Act.put, List.getElem_toArray, List.getElem_cons_zero, List.getElem_cons_succ, List.setIfInBounds_toArray, List.set_cons_zero, List.set_cons_succ])
          refine wpAnyX_pure (i := 8) (v := ?_) rfl (by kernel_rfl) (by kernel_rfl) (by kernel_rfl) (fun _ _ _ h => h) (Or.inl ⟨by rfl, ?_⟩) ?_
          rotate_left
          · (intro W _; go_simp; try with_reducible rfl)
          (try simp only [Act.put, List.getElem_toArray, List.getElem_cons_zero, List.getElem_cons_succ, List.setIfInBounds_toArray, List.set_cons_zero, List.set_cons_succ])
          refine wpAnyX_pure (i := 9) (v := ?_) rfl (by kernel_rfl) (by kernel_rfl) (by kernel_rfl) (fun _ _ _ h => h) (Or.inl ⟨by rfl, ?_⟩) ?_
          rotate_left
          · (intro W _; go_simp; try with_reducible rfl)
          (try simp only [Act.put, List.getElem_toArray, List.getElem_cons_zero, List.getElem_cons_succ, List.setIfInBounds_toArray, List.set_cons_zero, List.set_cons_succ])
          have hg9lt := hg9.lt
          have hg10lt := hg10.lt
          clear hal
          refine wpAnyX_one (i := 12) rfl (by kernel_rfl) (fun K hK => ?_)
          refine wp_store_row 24 _ _ rfl _ (#[.int .i64 i, .slice A4 F.length c4]) rfl rfl 24 (#[.int .i64 0, .slice none 0 0]) (hg9) (by kernel_rfl) (by rfl) (by simp [Value.oneCell']) (hK.out _ _ (fun h => absurd h (by decide)) ?_)
          (try simp only [Act.put, List.getElem_toArray, List.getElem_cons_zero, List.getElem_cons_succ, List.setIfInBounds_toArray, List.set_cons_zero, List.set_cons_succ])
          have hF := hF.keptT (hg9.keptRow (t := 38) (by decide) (#[.int .i64 i, .slice A4 F.length c4]))
          have hM := hM.keptT (hg9.keptRow (t := 38) (by decide) (#[.int .i64 i, .slice A4 F.length c4]))
          have hg10 := hg10.rowOther hne.symm (#[.int .i64 i, .slice A4 F.length c4])
          have hg9 := hg9.row (#[.int .i64 i, .slice A4 F.length c4])
          have hbf := below_setRow hbf hge9 (#[.int .i64 i, .slice A4 F.length c4])
          refine wpAnyX_one (i := 13) rfl (by kernel_rfl) (fun K hK => ?_)
          refine wp_store_row 24 _ _ rfl _ (#[.int .i64 i, .slice A5 M.length c5]) rfl rfl 24 (#[.int .i64 0, .slice none 0 0]) (hg10) (by kernel_rfl) (by rfl) (by simp [Value.oneCell']) (hK.out _ _ (fun h => absurd h (by decide)) ?_)
          (try simp only [Act.put, List.getElem_toArray, List.getElem_cons_zero, List.getElem_cons_succ, List.setIfInBounds_toArray, List.set_cons_zero, List.set_cons_succ])
          have hF := hF.keptT (hg10.keptRow (t := 38) (by decide) (#[.int .i64 i, .slice A5 M.length c5]))
          have hM := hM.keptT (hg10.keptRow (t := 38) (by decide) (#[.int .i64 i, .slice A5 M.length c5]))
          have hg9 := hg9.rowOther hne (#[.int .i64 i, .slice A5 M.length c5])
          have hg10 := hg10.row (#[.int .i64 i, .slice A5 M.length c5])
          have hbf := below_setRow hbf hge10 (#[.int .i64 i, .slice A5 M.length c5])
          refine wpAnyX_done (by kernel_rfl) ?_ _
          go_wp2_with fail
          go_meet
          exact ⟨_, _, A4, A5, c4, c5, rfl, rfl, hg9, hg10, hF.trs hbf hFl, hM.trs hbf hMl, hM.cap, hbf⟩
      · go_simp
        refine hK.out _ _ (fun _ _ => HS.out _ (bt hbf (alloc_below _ _))) ?_
        (try simp only [Act.put, List.getElem_toArray, List.getElem_cons_zero, List.getElem_cons_succ, List.setIfInBounds_toArray, List.set_cons_zero, List.set_cons_succ])
        have hal := alloc_below y1 (.cells #[.int .i64 0, .slice none 0 0] 24)
        have hA := hA.keptT (KeptT.of_below hal)
        have hg10 := bx_new y1 #[.int .i64 0, .slice none 0 0] 24
        have hge10 : w1.heap.size ≤ y1.heap.size := hbf.size
        have hbf := bt hbf hal
        generalize y1.alloc (.cells #[.int .i64 0, .slice none 0 0] 24) = y27 at hal hbf hA hg10 ⊢
        have hg10lt := hg10.lt
        clear hal
        refine wpAnyX_two (i := 5) (j := 10) rfl rfl (by kernel_rfl) (fun K hK => ?_) (fun K hK => ?_)
        · go_simp
          go_at_call 86
          refine (pafter22 i T V tn tc k e ts vs w1 _ hbf (HT.out _ (Below.refl _ _)) (HV.out _ (Below.refl _ _)) HFF.out htn).mono ?_
          rintro r y28 ⟨A3, c3, rfl, hB, hal⟩
          rw [← HQ.out] at hB ⊢
          have hB := hB.lower hbf.size
          have hA := hA.keptT (KeptT.of_below hal)
          have hg10 := hg10.on hal
          have hbf := bt hbf hal
          refine hK.out _ _ (fun _ _ => HS.out _ hbf) ?_
          (try simp only [Act.put, List.getElem_toArray, List.getElem_cons_zero, List.getElem_cons_succ, List.setIfInBounds_toArray, List.set_cons_zero, List.set_cons_succ])
          have hg10lt := hg10.lt
          clear hal
          refine wpAnyX_two (i := 6) (j := 10) rfl rfl (by kernel_rfl) (fun K hK => ?_) (fun K hK => ?_)
          · go_simp
            go_at_call 85
            refine (pord_rows i A2 A3 c2 c3 w1.heap.size P Q F M HFM.out w1 _ hA hB hPl hQl).mono ?_
            rintro r y29 ⟨A4, c4, A5, c5, rfl, hF, hM, hal⟩
            clear hA hB
            have hg10 := hg10.on hal
            have hbf := bt hbf hal
            refine hK.out _ _ (fun _ _ => HS.out _ hbf) ?_
            (try simp only [Act.put, List.getElem_toArray, List.getElem_cons_zero, List.getElem_cons_succ, List.setIfInBounds_toArray, List.set_cons_zero, List.set_cons_succ])
            refine wpAnyX_pure (i := 7) (v := ?_) rfl (by kernel_rfl) (by kernel_rfl) (by kernel_rfl) (fun _ _ _ h => h) (Or.inl ⟨by rfl, ?_⟩) ?_
            rotate_left
            · (intro W _; go_simp; try with_reducible rfl)
            (try simp only [Act.put, List.getElem_toArray, List.getElem_cons_zero, List.getElem_cons_succ, List.setIfInBounds_toArray, List.set_cons_zero, List.set_cons_succ])
            refine wpAnyX_pure (i := 8) (v := ?_) rfl (by kernel_rfl) (by kernel_rfl) (by kernel_rfl) (fun _ _ _ h => h) (Or.inl ⟨by rfl, ?_⟩) ?_
            rotate_left
            · (intro W _; go_simp; try with_reducible rfl)
            (try simp only [Act.put, List.getElem_toArray, List.getElem_cons_zero, List.getElem_cons_succ, List.setIfInBounds_toArray, List.set_cons_zero, List.set_cons_succ])
            refine wpAnyX_pure (i := 9) (v := ?_) rfl (by kernel_rfl) (by kernel_rfl) (by kernel_rfl) (fun _ _ _ h => h) (Or.inl ⟨by rfl, ?_⟩) ?_
            rotate_left
            · (intro W _; go_simp; try with_reducible rfl)
            (try simp only [Act.put, List.getElem_toArray, List.getElem_cons_zero, List.getElem_cons_succ, List.setIfInBounds_toArray, List.set_cons_zero, List.set_cons_succ])
            have hg10lt := hg10.lt
            clear hal
            refine wpAnyX_one (i := 10) rfl (by kernel_rfl) (fun K hK => ?_)
            go_simp
            refine hK.out _ _ (fun _ _ => HS.out _ (bt hbf (alloc_below _ _))) ?_
            (try simp only [Act.put, List.getElem_toArray, List.getElem_cons_zero, List.getElem_cons_succ, List.setIfInBounds_toArray, List.set_cons_zero, List.set_cons_succ])
            have hal := alloc_below y29 (.cells #[.int .i64 0, .slice none 0 0] 24)
            have hF := hF.keptT (KeptT.of_below hal)
            have hM := hM.keptT (KeptT.of_below hal)
            have hg10 := hg10.on hal
            have hg9 := bx_new y29 #[.int .i64 0, .slice none 0 0] 24
            have hge9 : w1.heap.size ≤ y29.heap.size := hbf.size
            have hbf := bt hbf hal
            have hne : y29.heap.size ≠ _ := Nat.ne_of_gt hg10lt
            generalize y29.alloc (.cells #[.int .i64 0, .slice none 0 0] 24) = y30 at hal hbf hF hM hg9 hg10 ⊢
            have hg9lt := hg9.lt
            have hg10lt := hg10.lt
            clear hal
            refine wpAnyX_one (i := 12) rfl (by kernel_rfl) (fun K hK => ?_)
            refine wp_store_row 24 _ _ rfl _ (#[.int .i64 i, .slice A4 F.length c4]) rfl rfl 24 (#[.int .i64 0, .slice none 0 0]) (hg9) (by kernel_rfl) (by rfl) (by simp [Value.oneCell']) (hK.out _ _ (fun h => absurd h (by decide)) ?_)
            (try simp only [Act.put, List.getElem_toArray, List.getElem_cons_zero, List.getElem_cons_succ, List.setIfInBounds_toArray, List.set_cons_zero, List.set_cons_succ])
            have hF := hF.keptT (hg9.keptRow (t := 38) (by decide) (#[.int .i64 i, .slice A4 F.length c4]))
            have hM := hM.keptT (hg9.keptRow (t := 38) (by decide) (#[.int .i64 i, .slice A4 F.length c4]))
            have hg10 := hg10.rowOther hne.symm (#[.int .i64 i, .slice A4 F.length c4])
            have hg9 := hg9.row (#[.int .i64 i, .slice A4 F.length c4])
            have hbf := below_setRow hbf hge9 (#[.int .i64 i, .slice A4 F.length c4])
            refine wpAnyX_one (i := 13) rfl (by kernel_rfl) (fun K hK => ?_)
            refine wp_store_row 24 _ _ rfl _ (#[.int .i64 i, .slice A5 M.length c5]) rfl rfl 24 (#[.int .i64 0, .slice none 0 0]) (hg10) (by kernel_rfl) (by rfl) (by simp [Value.oneCell']) (hK.out _ _ (fun h => absurd h (by decide)) ?_)
            (try simp only [Act.put, List.getElem_toArray, List.getElem_cons_zero, List.getElem_cons_succ, List.setIfInBounds_toArray, List.set_cons_zero, List.set_cons_succ])
            have hF := hF.keptT (hg10.keptRow (t := 38) (by decide) (#[.int .i64 i, .slice A5 M.length c5]))
            have hM := hM.keptT (hg10.keptRow (t := 38) (by decide) (#[.int .i64 i, .slice A5 M.length c5]))
            have hg9 := hg9.rowOther hne (#[.int .i64 i, .slice A5 M.length c5])
            have hg10 := hg10.row (#[.int .i64 i, .slice A5 M.length c5])
            have hbf := below_setRow hbf hge10 (#[.int .i64 i, .slice A5 M.length c5])
            refine wpAnyX_done (by kernel_rfl) ?_ _
            go_wp2_with fail
            go_meet
            exact ⟨_, _, A4, A5, c4, c5, rfl, rfl, hg9, hg10, hF.trs hbf hFl, hM.trs hbf hMl, hM.cap, hbf⟩
          · go_simp
            refine hK.out _ _ (fun _ _ => HS.out _ (bt hbf (alloc_below _ _))) ?_
            (try simp only [Act.put, List.getElem_toArray, List.getElem_cons_zero, List.getElem_cons_succ, List.setIfInBounds_toArray, List.set_cons_zero, List.set_cons_succ])
            have hal := alloc_below y28 (.cells #[.int .i64 0, .slice none 0 0] 24)
            have hA := hA.keptT (KeptT.of_below hal)
            have hB := hB.keptT (KeptT.of_below hal)
            have hg10 := hg10.on hal
            have hg9 := bx_new y28 #[.int .i64 0, .slice none 0 0] 24
            have hge9 : w1.heap.size ≤ y28.heap.size := hbf.size
            have hbf := bt hbf hal
            have hne : y28.heap.size ≠ _ := Nat.ne_of_gt hg10lt
            generalize y28.alloc (.cells #[.int .i64 0, .slice none 0 0] 24) = y31 at hal hbf hA hB hg9 hg10 ⊢
            have hg9lt := hg9.lt
            have hg10lt := hg10.lt
            clear hal
            refine wpAnyX_one (i := 6) rfl (by kernel_rfl) (fun K hK => ?_)
            go_simp
            go_at_call 85
            refine (pord_rows i A2 A3 c2 c3 w1.heap.size P Q F M HFM.out w1 _ hA hB hPl hQl).mono ?_
            rintro r y32 ⟨A4, c4, A5, c5, rfl, hF, hM, hal⟩
            clear hA hB
            have hg9 := hg9.on hal
            have hg10 := hg10.on hal
            have hbf := bt hbf hal
            refine hK.out _ _ (fun _ _ => HS.out _ hbf) ?_
            (try simp only [Act.put, List.getElem_toArray, List.getElem_cons_zero, List.getElem_cons_succ, List.setIfInBounds_toArray, List.set_cons_zero, List.set_cons_succ])
            refine wpAnyX_pure (i := 7) (v := ?_) rfl (by kernel_rfl) (by kernel_rfl) (by kernel_rfl) (fun _ _ _ h => h) (Or.inl ⟨by rfl, ?_⟩) ?_
            rotate_left
            · (intro W _; go_simp; try with_reducible rfl)
            (try simp only [Act.put, List.getElem_toArray, List.getElem_cons_zero, List.getElem_cons_succ, List.setIfInBounds_toArray, List.set_cons_zero, List.set_cons_succ])
            refine wpAnyX_pure (i := 8) (v := ?_) rfl (by kernel_rfl) (by kernel_rfl) (by kernel_rfl) (fun _ _ _ h => h) (Or.inl ⟨by rfl, ?_⟩) ?_
            rotate_left
            · (intro W _; go_simp; try with_reducible rfl)
            (try simp only [Act.put, List.getElem_toArray, List.getElem_cons_zero, List.getElem_cons_succ, List.setIfInBounds_toArray, List.set_cons_zero, List.set_cons_succ])
            refine wpAnyX_pure (i := 9) (v := ?_) rfl (by kernel_rfl) (by kernel_rfl) (by kernel_rfl) (fun _ _ _ h => h) (Or.inl ⟨by rfl, ?_⟩) ?_
            rotate_left
            · (intro W _; go_simp; try with_reducible rfl)
            (try simp only [Act.put, List.getElem_toArray, List.getElem_cons_zero, List.getElem_cons_succ, List.setIfInBounds_toArray, List.set_cons_zero, List.set_cons_succ])
            have hg9lt := hg9.lt
            have hg10lt := hg10.lt
            clear hal
            refine wpAnyX_one (i := 12) rfl (by kernel_rfl) (fun K hK => ?_)
            refine wp_store_row 24 _ _ rfl _ (#[.int .i64 i, .slice A4 F.length c4]) rfl rfl 24 (#[.int .i64 0, .slice none 0 0]) (hg9) (by kernel_rfl) (by rfl) (by simp [Value.oneCell']) (hK.out _ _ (fun h => absurd h (by decide)) ?_)
            (try simp only [Act.put, List.getElem_toArray, List.getElem_cons_zero, List.getElem_cons_succ, List.setIfInBounds_toArray, List.set_cons_zero, List.set_cons_succ])
            have hF := hF.keptT (hg9.keptRow (t := 38) (by decide) (#[.int .i64 i, .slice A4 F.length c4]))
            have hM := hM.keptT (hg9.keptRow (t := 38) (by decide) (#[.int .i64 i, .slice A4 F.length c4]))
            have hg10 := hg10.rowOther hne.symm (#[.int .i64 i, .slice A4 F.length c4])
            have hg9 := hg9.row (#[.int .i64 i, .slice A4 F.length c4])
            have hbf := below_setRow hbf hge9 (#[.int .i64 i, .slice A4 F.length c4])
            refine wpAnyX_one (i := 13) rfl (by kernel_rfl) (fun K hK => ?_)
            refine wp_store_row 24 _ _ rfl _ (#[.int .i64 i, .slice A5 M.length c5]) rfl rfl 24 (#[.int .i64 0, .slice none 0 0]) (hg10) (by kernel_rfl) (by rfl) (by simp [Value.oneCell']) (hK.out _ _ (fun h => absurd h (by decide)) ?_)
            (try simp only [Act.put, List.getElem_toArray, List.getElem_cons_zero, List.getElem_cons_succ, List.setIfInBounds_toArray, List.set_cons_zero, List.set_cons_succ])
            have hF := hF.keptT (hg10.keptRow (t := 38) (by decide) (#[.int .i64 i, .slice A5 M.length c5]))
            have hM := hM.keptT (hg10.keptRow (t := 38) (by decide) (#[.int .i64 i, .slice A5 M.length c5]))
            have hg9 := hg9.rowOther hne (#[.int .i64 i, .slice A5 M.length c5])
            have hg10 := hg10.row (#[.int .i64 i, .slice A5 M.length c5])
            have hbf := below_setRow hbf hge10 (#[.int .i64 i, .slice A5 M.length c5])
            refine wpAnyX_done (by kernel_rfl) ?_ _
            go_wp2_with fail
            go_meet
            exact ⟨_, _, A4, A5, c4, c5, rfl, rfl, hg9, hg10, hF.trs hbf hFl, hM.trs hbf hMl, hM.cap, hbf⟩
        · go_simp
          refine hK.out _ _ (fun _ _ => HS.out _ (bt hbf (alloc_below _ _))) ?_
          (try simp only [Act.put, List.getElem_toArray, List.getElem_cons_zero, List.getElem_cons_succ, List.setIfInBounds_toArray, List.set_cons_zero, List.set_cons_succ])
          have hal := alloc_below y27 (.cells #[.int .i64 0, .slice none 0 0] 24)
          have hA := hA.keptT (KeptT.of_below hal)
          have hg10 := hg10.on hal
          have hg9 := bx_new y27 #[.int .i64 0, .slice none 0 0] 24
          have hge9 : w1.heap.size ≤ y27.heap.size := hbf.size
          have hbf := bt hbf hal
          have hne : y27.heap.size ≠ _ := Nat.ne_of_gt hg10lt
          generalize y27.alloc (.cells #[.int .i64 0, .slice none 0 0] 24) = y33 at hal hbf hA hg9 hg10 ⊢
          have hg9lt := hg9.lt
          have hg10lt := hg10.lt
          clear hal
          refine wpAnyX_one (i := 5) rfl (by kernel_rfl) (fun K hK => ?_)
          go_simp
          go_at_call 86
          refine (pafter22 i T V tn tc k e ts vs w1 _ hbf (HT.out _ (Below.refl _ _)) (HV.out _ (Below.refl _ _)) HFF.out htn).mono ?_
          rintro r y34 ⟨A3, c3, rfl, hB, hal⟩
          rw [← HQ.out] at hB ⊢
          have hB := hB.lower hbf.size
          have hA := hA.keptT (KeptT.of_below hal)
          have hg9 := hg9.on hal
          have hg10 := hg10.on hal
          have hbf := bt hbf hal
          refine hK.out _ _ (fun _ _ => HS.out _ hbf) ?_
          (try simp only [Act.put, List.getElem_toArray, List.getElem_cons_zero, List.getElem_cons_succ, List.setIfInBounds_toArray, List.set_cons_zero, List.set_cons_succ])
          have hg9lt := hg9.lt
          have hg10lt := hg10.lt
          clear hal
          refine wpAnyX_one (i := 6) rfl (by kernel_rfl) (fun K hK => ?_)
          go_simp
          go_at_call 85
          refine (pord_rows i A2 A3 c2 c3 w1.heap.size P Q F M HFM.out w1 _ hA hB hPl hQl).mono ?_
          rintro r y35 ⟨A4, c4, A5, c5, rfl, hF, hM, hal⟩
          clear hA hB
          have hg9 := hg9.on hal
          have hg10 := hg10.on hal
          have hbf := bt hbf hal
          refine hK.out _ _ (fun _ _ => HS.out _ hbf) ?_
          (try simp only [Act.put, List.getElem_toArray, List.getElem_cons_zero, List.getElem_cons_succ, List.setIfInBounds_toArray, List.set_cons_zero, List.set_cons_succ])
          refine wpAnyX_pure (i := 7) (v := ?_) rfl (by kernel_rfl) (by kernel_rfl) (by kernel_rfl) (fun _ _ _ h => h) (Or.inl ⟨by rfl, ?_⟩) ?_
          rotate_left
          · (intro W _; go_simp; try with_reducible rfl)
          (try simp only [Act.put, List.getElem_toArray, List.getElem_cons_zero, List.getElem_cons_succ, List.setIfInBounds_toArray, List.set_cons_zero, List.set_cons_succ])
          refine wpAnyX_pure (i := 8) (v := ?_) rfl (by kernel_rfl) (by kernel_rfl) (by kernel_rfl) (fun _ _ _ h => h) (Or.inl ⟨by rfl, ?_⟩) ?_
          rotate_left
          · (intro W _; go_simp; try with_reducible rfl)
          (try simp only [Act.put, List.getElem_toArray, List.getElem_cons_zero, List.getElem_cons_succ, List.setIfInBounds_toArray, List.set_cons_zero, List.set_cons_succ])
          refine wpAnyX_pure (i := 9) (v := ?_) rfl (by kernel_rfl) (by kernel_rfl) (by kernel_rfl) (fun _ _ _ h => h) (Or.inl ⟨by rfl, ?_⟩) ?_
          rotate_left
          · (intro W _; go_simp; try with_reducible rfl)
          (try simp only [Act.put, List.getElem_toArray, List.getElem_cons_zero, List.getElem_cons_succ, List.setIfInBounds_toArray, List.set_cons_zero, List.set_cons_succ])
          have hg9lt := hg9.lt
          have hg10lt := hg10.lt
          clear hal
          refine wpAnyX_one (i := 12) rfl (by kernel_rfl) (fun K hK => ?_)
          refine wp_store_row 24 _ _ rfl _ (#[.int .i64 i, .slice A4 F.length c4]) rfl rfl 24 (#[.int .i64 0, .slice none 0 0]) (hg9) (by kernel_rfl) (by rfl) (by simp [Value.oneCell']) (hK.out _ _ (fun h => absurd h (by decide)) ?_)
          (try simp only [Act.put, List.getElem_toArray, List.getElem_cons_zero, List.getElem_cons_succ, List.setIfInBounds_toArray, List.set_cons_zero, List.set_cons_succ])
          have hF := hF.keptT (hg9.keptRow (t := 38) (by decide) (#[.int .i64 i, .slice A4 F.length c4]))
          have hM := hM.keptT (hg9.keptRow (t := 38) (by decide) (#[.int .i64 i, .slice A4 F.length c4]))
          have hg10 := hg10.rowOther hne.symm (#[.int .i64 i, .slice A4 F.length c4])
          have hg9 := hg9.row (#[.int .i64 i, .slice A4 F.length c4])
          have hbf := below_setRow hbf hge9 (#[.int .i64 i, .slice A4 F.length c4])
          refine wpAnyX_one (i := 13) rfl (by kernel_rfl) (fun K hK => ?_)
          refine wp_store_row 24 _ _ rfl _ (#[.int .i64 i, .slice A5 M.length c5]) rfl rfl 24 (#[.int .i64 0, .slice none 0 0]) (hg10) (by kernel_rfl) (by rfl) (by simp [Value.oneCell']) (hK.out _ _ (fun h => absurd h (by decide)) ?_)
          (try simp only [Act.put, List.getElem_toArray, List.getElem_cons_zero, List.getElem_cons_succ, List.setIfInBounds_toArray, List.set_cons_zero, List.set_cons_succ])
          have hF := hF.keptT (hg10.keptRow (t := 38) (by decide) (#[.int .i64 i, .slice A5 M.length c5]))
          have hM := hM.keptT (hg10.keptRow (t := 38) (by decide) (#[.int .i64 i, .slice A5 M.length c5]))
          have hg9 := hg9.rowOther hne (#[.int .i64 i, .slice A5 M.length c5])
          have hg10 := hg10.row (#[.int .i64 i, .slice A5 M.length c5])
          have hbf := below_setRow hbf hge10 (#[.int .i64 i, .slice A5 M.length c5])
          refine wpAnyX_done (by kernel_rfl) ?_ _
          go_wp2_with fail
          go_meet
          exact ⟨_, _, A4, A5, c4, c5, rfl, rfl, hg9, hg10, hF.trs hbf hFl, hM.trs hbf hMl, hM.cap, hbf⟩
    · go_simp
      refine hK.out _ _ (fun _ _ => HS.out _ (bt hbf (alloc_below _ _))) ?_
      (try simp only [Act.put, List.getElem_toArray, List.getElem_cons_zero, List.getElem_cons_succ, List.setIfInBounds_toArray, List.set_cons_zero, List.set_cons_succ])
      have hal := alloc_below y0 (.cells #[.int .i64 0, .slice none 0 0] 24)
      have hg9 := bx_new y0 #[.int .i64 0, .slice none 0 0] 24
      have hge9 : w1.heap.size ≤ y0.heap.size := hbf.size
      have hbf := bt hbf hal
      generalize y0.alloc (.cells #[.int .i64 0, .slice none 0 0] 24) = y36 at hal hbf hg9 ⊢
      have hg9lt := hg9.lt
      clear hal
      refine wpAnyX_two (i := 2) (j := 11) rfl rfl (by kernel_rfl) (fun K hK => ?_) (fun K hK => ?_)
      · go_simp
        go_at_call 86
        refine (pafter22 i T U tn tc m d ts us w1 _ hbf (HT.out _ (Below.refl _ _)) (HU.out _ (Below.refl _ _)) HFF.out htn).mono ?_
        rintro r y37 ⟨A2, c2, rfl, hA, hal⟩
        rw [← HP.out] at hA ⊢
        have hA := hA.lower hbf.size
        have hg9 := hg9.on hal
        have hbf := bt hbf hal
        refine hK.out _ _ (fun _ _ => HS.out _ hbf) ?_
        (try simp only [Act.put, List.getElem_toArray, List.getElem_cons_zero, List.getElem_cons_succ, List.setIfInBounds_toArray, List.set_cons_zero, List.set_cons_succ])
        have hg9lt := hg9.lt
        clear hal
        refine wpAnyX_two (i := 5) (j := 11) rfl rfl (by kernel_rfl) (fun K hK => ?_) (fun K hK => ?_)
        · go_simp
          go_at_call 86
          refine (pafter22 i T V tn tc k e ts vs w1 _ hbf (HT.out _ (Below.refl _ _)) (HV.out _ (Below.refl _ _)) HFF.out htn).mono ?_
          rintro r y38 ⟨A3, c3, rfl, hB, hal⟩
          rw [← HQ.out] at hB ⊢
          have hB := hB.lower hbf.size
          have hA := hA.keptT (KeptT.of_below hal)
          have hg9 := hg9.on hal
          have hbf := bt hbf hal
          refine hK.out _ _ (fun _ _ => HS.out _ hbf) ?_
          (try simp only [Act.put, List.getElem_toArray, List.getElem_cons_zero, List.getElem_cons_succ, List.setIfInBounds_toArray, List.set_cons_zero, List.set_cons_succ])
          have hg9lt := hg9.lt
          clear hal
          refine wpAnyX_two (i := 6) (j := 11) rfl rfl (by kernel_rfl) (fun K hK => ?_) (fun K hK => ?_)
          · go_simp
            go_at_call 85
            refine (pord_rows i A2 A3 c2 c3 w1.heap.size P Q F M HFM.out w1 _ hA hB hPl hQl).mono ?_
            rintro r y39 ⟨A4, c4, A5, c5, rfl, hF, hM, hal⟩
            clear hA hB
            have hg9 := hg9.on hal
            have hbf := bt hbf hal
            refine hK.out _ _ (fun _ _ => HS.out _ hbf) ?_
            (try simp only [Act.put, List.getElem_toArray, List.getElem_cons_zero, List.getElem_cons_succ, List.setIfInBounds_toArray, List.set_cons_zero, List.set_cons_succ])
            refine wpAnyX_pure (i := 7) (v := ?_) rfl (by kernel_rfl) (by kernel_rfl) (by kernel_rfl) (fun _ _ _ h => h) (Or.inl ⟨by rfl, ?_⟩) ?_
            rotate_left
            · (intro W _; go_simp; try with_reducible rfl)
            (try simp only [Act.put, List.getElem_toArray, List.getElem_cons_zero, List.getElem_cons_succ, List.setIfInBounds_toArray, List.set_cons_zero, List.set_cons_succ])
            refine wpAnyX_pure (i := 8) (v := ?_) rfl (by kernel_rfl) (by kernel_rfl) (by kernel_rfl) (fun _ _ _ h => h) (Or.inl ⟨by rfl, ?_⟩) ?_
            rotate_left
            · (intro W _; go_simp; try with_reducible rfl)
            (try simp only [Act.put, List.getElem_toArray, List.getElem_cons_zero, List.getElem_cons_succ, List.setIfInBounds_toArray, List.set_cons_zero, List.set_cons_succ])
            refine wpAnyX_pure (i := 9) (v := ?_) rfl (by kernel_rfl) (by kernel_rfl) (by kernel_rfl) (fun _ _ _ h => h) (Or.inl ⟨by rfl, ?_⟩) ?_
            rotate_left
            · (intro W _; go_simp; try with_reducible rfl)
            (try simp only [Act.put, List.getElem_toArray, List.getElem_cons_zero, List.getElem_cons_succ, List.setIfInBounds_toArray, List.set_cons_zero, List.set_cons_succ])
            have hg9lt := hg9.lt
            clear hal
            refine wpAnyX_one (i := 11) rfl (by kernel_rfl) (fun K hK => ?_)
            go_simp
            refine hK.out _ _ (fun _ _ => HS.out _ (bt hbf (alloc_below _ _))) ?_
            (try simp only [Act.put, List.getElem_toArray, List.getElem_cons_zero, List.getElem_cons_succ, List.setIfInBounds_toArray, List.set_cons_zero, List.set_cons_succ])
            have hal := alloc_below y39 (.cells #[.int .i64 0, .slice none 0 0] 24)
            have hF := hF.keptT (KeptT.of_below hal)
            have hM := hM.keptT (KeptT.of_below hal)
            have hg9 := hg9.on hal
            have hg10 := bx_new y39 #[.int .i64 0, .slice none 0 0] 24
            have hge10 : w1.heap.size ≤ y39.heap.size := hbf.size
            have hbf := bt hbf hal
            have hne : _ ≠ y39.heap.size := Nat.ne_of_lt hg9lt
            generalize y39.alloc (.cells #[.int .i64 0, .slice none 0 0] 24) = y40 at hal hbf hF hM hg9 hg10 ⊢
            have hg10lt := hg10.lt
            have hg9lt := hg9.lt
            clear hal
            refine wpAnyX_one (i := 12) rfl (by kernel_rfl) (fun K hK => ?_)
            refine wp_store_row 24 _ _ rfl _ (#[.int .i64 i, .slice A4 F.length c4]) rfl rfl 24 (#[.int .i64 0, .slice none 0 0]) (hg9) (by kernel_rfl) (by rfl) (by simp [Value.oneCell']) (hK.out _ _ (fun h => absurd h (by decide)) ?_)
            (try simp only [Act.put, List.getElem_toArray, List.getElem_cons_zero, List.getElem_cons_succ, List.setIfInBounds_toArray, List.set_cons_zero, List.set_cons_succ])
            have hF := hF.keptT (hg9.keptRow (t := 38) (by decide) (#[.int .i64 i, .slice A4 F.length c4]))
            have hM := hM.keptT (hg9.keptRow (t := 38) (by decide) (#[.int .i64 i, .slice A4 F.length c4]))
            have hg10 := hg10.rowOther hne.symm (#[.int .i64 i, .slice A4 F.length c4])
            have hg9 := hg9.row (#[.int .i64 i, .slice A4 F.length c4])
            have hbf := below_setRow hbf hge9 (#[.int .i64 i, .slice A4 F.length c4])
            refine wpAnyX_one (i := 13) rfl (by kernel_rfl) (fun K hK => ?_)
            refine wp_store_row 24 _ _ rfl _ (#[.int .i64 i, .slice A5 M.length c5]) rfl rfl 24 (#[.int .i64 0, .slice none 0 0]) (hg10) (by kernel_rfl) (by rfl) (by simp [Value.oneCell']) (hK.out _ _ (fun h => absurd h (by decide)) ?_)
            (try simp only [Act.put, List.getElem_toArray, List.getElem_cons_zero, List.getElem_cons_succ, List.setIfInBounds_toArray, List.set_cons_zero, List.set_cons_succ])
            have hF := hF.keptT (hg10.keptRow (t := 38) (by decide) (#[.int .i64 i, .slice A5 M.length c5]))
            have hM := hM.keptT (hg10.keptRow (t := 38) (by decide) (#[.int .i64 i, .slice A5 M.length c5]))
            have hg9 := hg9.rowOther hne (#[.int .i64 i, .slice A5 M.length c5])
            have hg10 := hg10.row (#[.int .i64 i, .slice A5 M.length c5])
            have hbf := below_setRow hbf hge10 (#[.int .i64 i, .slice A5 M.length c5])
            refine wpAnyX_done (by kernel_rfl) ?_ _
            go_wp2_with fail
            go_meet
            exact ⟨_, _, A4, A5, c4, c5, rfl, rfl, hg9, hg10, hF.trs hbf hFl, hM.trs hbf hMl, hM.cap, hbf⟩
          · go_simp
            refine hK.out _ _ (fun _ _ => HS.out _ (bt hbf (alloc_below _ _))) ?_
            (try simp only [Act.put, List.getElem_toArray, List.getElem_cons_zero, List.getElem_cons_succ, List.setIfInBounds_toArray, List.set_cons_zero, List.set_cons_succ])
            have hal := alloc_below y38 (.cells #[.int .i64 0, .slice none 0 0] 24)
            have hA := hA.keptT (KeptT.of_below hal)
            have hB := hB.keptT (KeptT.of_below hal)
            have hg9 := hg9.on hal
            have hg10 := bx_new y38 #[.int .i64 0, .slice none 0 0] 24
            have hge10 : w1.heap.size ≤ y38.heap.size := hbf.size
            have hbf := bt hbf hal
            have hne : _ ≠ y38.heap.size := Nat.ne_of_lt hg9lt
            generalize y38.alloc (.cells #[.int .i64 0, .slice none 0 0] 24) = y41 at hal hbf hA hB hg9 hg10 ⊢
            have hg10lt := hg10.lt
            have hg9lt := hg9.lt
            clear hal
            refine wpAnyX_one (i := 6) rfl (by kernel_rfl) (fun K hK => ?_)
            go_simp
            go_at_call 85
            refine (pord_rows i A2 A3 c2 c3 w1.heap.size P Q F M HFM.out w1 _ hA hB hPl hQl).mono ?_
            rintro r y42 ⟨A4, c4, A5, c5, rfl, hF, hM, hal⟩
            clear hA hB
            have hg9 := hg9.on hal
            have hg10 := hg10.on hal
            have hbf := bt hbf hal
            refine hK.out _ _ (fun _ _ => HS.out _ hbf) ?_
            (try simp only [Act.put, List.getElem_toArray, List.getElem_cons_zero, List.getElem_cons_succ, List.setIfInBounds_toArray, List.set_cons_zero, List.set_cons_succ])
            refine wpAnyX_pure (i := 7) (v := ?_) rfl (by kernel_rfl) (by kernel_rfl) (by kernel_rfl) (fun _ _ _ h => h) (Or.inl ⟨by rfl, ?_⟩) ?_
            rotate_left
            · (intro W _; go_simp; try with_reducible rfl)
            (try simp only [Act.put, List.getElem_toArray, List.getElem_cons_zero, List.getElem_cons_succ, List.setIfInBounds_toArray, List.set_cons_zero, List.set_cons_succ])
            refine wpAnyX_pure (i := 8) (v := ?_) rfl (by kernel_rfl) (by kernel_rfl) (by kernel_rfl) (fun _ _ _ h => h) (Or.inl ⟨by rfl, ?_⟩) ?_
            rotate_left
            · (intro W _; go_simp; try with_reducible rfl)
            (try simp only [Act.put, List.getElem_toArray, List.getElem_cons_zero, List.getElem_cons_succ, List.setIfInBounds_toArray, List.set_cons_zero, List.set_cons_succ])
            refine wpAnyX_pure (i := 9) (v := ?_) rfl (by kernel_rfl) (by kernel_rfl) (by kernel_rfl) (fun _ _ _ h => h) (Or.inl ⟨by rfl, ?_⟩) ?_
            rotate_left
            · (intro W _; go_simp; try with_reducible rfl)
            (try simp only [Act.put, List.getElem_toArray, List.getElem_cons_zero, List.getElem_cons_succ, List.setIfInBounds_toArray, List.set_cons_zero, List.set_cons_succ])
            have hg9lt := hg9.lt
            have hg10lt := hg10.lt
            clear hal
            refine wpAnyX_one (i := 12) rfl (by kernel_rfl) (fun K hK => ?_)
            refine wp_store_row 24 _ _ rfl _ (#[.int .i64 i, .slice A4 F.length c4]) rfl rfl 24 (#[.int .i64 0, .slice none 0 0]) (hg9) (by kernel_rfl) (by rfl) (by simp [Value.oneCell']) (hK.out _ _ (fun h => absurd h (by decide)) ?_)
            (try simp only [Act.put, List.getElem_toArray, List.getElem_cons_zero, List.getElem_cons_succ, List.setIfInBounds_toArray, List.set_cons_zero, List.set_cons_succ])
            have hF := hF.keptT (hg9.keptRow (t := 38) (by decide) (#[.int .i64 i, .slice A4 F.length c4]))
            have hM := hM.keptT (hg9.keptRow (t := 38) (by decide) (#[.int .i64 i, .slice A4 F.length c4]))
            have hg10 := hg10.rowOther hne.symm (#[.int .i64 i, .slice A4 F.length c4])
            have hg9 := hg9.row (#[.int .i64 i, .slice A4 F.length c4])
            have hbf := below_setRow hbf hge9 (#[.int .i64 i, .slice A4 F.length c4])
            refine wpAnyX_one (i := 13) rfl (by kernel_rfl) (fun K hK => ?_)
            refine wp_store_row 24 _ _ rfl _ (#[.int .i64 i, .slice A5 M.length c5]) rfl rfl 24 (#[.int .i64 0, .slice none 0 0]) (hg10) (by kernel_rfl) (by rfl) (by simp [Value.oneCell']) (hK.out _ _ (fun h => absurd h (by decide)) ?_)
            (try simp only [Act.put, List.getElem_toArray, List.getElem_cons_zero, List.getElem_cons_succ, List.setIfInBounds_toArray, List.set_cons_zero, List.set_cons_succ])
            have hF := hF.keptT (hg10.keptRow (t := 38) (by decide) (#[.int .i64 i, .slice A5 M.length c5]))
            have hM := hM.keptT (hg10.keptRow (t := 38) (by decide) (#[.int .i64 i, .slice A5 M.length c5]))
            have hg9 := hg9.rowOther hne (#[.int .i64 i, .slice A5 M.length c5])
            have hg10 := hg10.row (#[.int .i64 i, .slice A5 M.length c5])
            have hbf := below_setRow hbf hge10 (#[.int .i64 i, .slice A5 M.length c5])
            refine wpAnyX_done (by kernel_rfl) ?_ _
            go_wp2_with fail
            go_meet
            exact ⟨_, _, A4, A5, c4, c5, rfl, rfl, hg9, hg10, hF.trs hbf hFl, hM.trs hbf hMl, hM.cap, hbf⟩
        · go_simp
          refine hK.out _ _ (fun _ _ => HS.out _ (bt hbf (alloc_below _ _))) ?_
          (try simp only [Act.put, List.getElem_toArray, List.getElem_cons_zero, List.getElem_cons_succ, List.setIfInBounds_toArray, List.set_cons_zero, List.set_cons_succ])
          have hal := alloc_below y37 (.cells #[.int .i64 0, .slice none 0 0] 24)
          have hA := hA.keptT (KeptT.of_below hal)
          have hg9 := hg9.on hal
          have hg10 := bx_new y37 #[.int .i64 0, .slice none 0 0] 24
          have hge10 : w1.heap.size ≤ y37.heap.size := hbf.size
          have hbf := bt hbf hal
          have hne : _ ≠ y37.heap.size := Nat.ne_of_lt hg9lt
          generalize y37.alloc (.cells #[.int .i64 0, .slice none 0 0] 24) = y43 at hal hbf hA hg9 hg10 ⊢
          have hg10lt := hg10.lt
          have hg9lt := hg9.lt
          clear hal
          refine wpAnyX_one (i := 5) rfl (by kernel_rfl) (fun K hK => ?_)
          go_simp
          go_at_call 86
          refine (pafter22 i T V tn tc k e ts vs w1 _ hbf (HT.out _ (Below.refl _ _)) (HV.out _ (Below.refl _ _)) HFF.out htn).mono ?_
          rintro r y44 ⟨A3, c3, rfl, hB, hal⟩
          rw [← HQ.out] at hB ⊢
          have hB := hB.lower hbf.size
          have hA := hA.keptT (KeptT.of_below hal)
          have hg9 := hg9.on hal
          have hg10 := hg10.on hal
          have hbf := bt hbf hal
          refine hK.out _ _ (fun _ _ => HS.out _ hbf) ?_
          (try simp only [Act.put, List.getElem_toArray, List.getElem_cons_zero, List.getElem_cons_succ, List.setIfInBounds_toArray, List.set_cons_zero, List.set_cons_succ])
          have hg9lt := hg9.lt
          have hg10lt := hg10.lt
          clear hal
          refine wpAnyX_one (i := 6) rfl (by kernel_rfl) (fun K hK => ?_)
          go_simp
          go_at_call 85
          refine (pord_rows i A2 A3 c2 c3 w1.heap.size P Q F M HFM.out w1 _ hA hB hPl hQl).mono ?_
          rintro r y45 ⟨A4, c4, A5, c5, rfl, hF, hM, hal⟩
          clear hA hB
          have hg9 := hg9.on hal
          have hg10 := hg10.on hal
          have hbf := bt hbf hal
          refine hK.out _ _ (fun _ _ => HS.out _ hbf) ?_
          (try simp only [Act.put, List.getElem_toArray, List.getElem_cons_zero, List.getElem_cons_succ, List.setIfInBounds_toArray, List.set_cons_zero, List.set_cons_succ])
          refine wpAnyX_pure (i := 7) (v := ?_) rfl (by kernel_rfl) (by kernel_rfl) (by kernel_rfl) (fun _ _ _ h => h) (Or.inl ⟨by rfl, ?_⟩) ?_
          rotate_left
          · (intro W _; go_simp; try with_reducible rfl)
          (try simp only [Act.put, List.getElem_toArray, List.getElem_cons_zero, List.getElem_cons_succ, List.setIfInBounds_toArray, List.set_cons_zero, List.set_cons_succ])
          refine wpAnyX_pure (i := 8) (v := ?_) rfl (by kernel_rfl) (by kernel_rfl) (by kernel_rfl) (fun _ _ _ h => h) (Or.inl ⟨by rfl, ?_⟩) ?_
          rotate_left
          · (intro W _; go_simp; try with_reducible rfl)
          (try simp only [Act.put, List.getElem_toArray, List.getElem_cons_zero, List.getElem_cons_succ, List.setIfInBounds_toArray, List.set_cons_zero, List.set_cons_succ])
          refine wpAnyX_pure (i := 9) (v := ?_) rfl (by kernel_rfl) (by kernel_rfl) (by kernel_rfl) (fun _ _ _ h => h) (Or.inl ⟨by rfl, ?_⟩) ?_
          rotate_left
          · (intro W _; go_simp; try with_reducible rfl)
          (try simp only [Act.put, List.getElem_toArray, List.getElem_cons_zero, List.getElem_cons_succ, List.setIfInBounds_toArray, List.set_cons_zero, List.set_cons_succ])
          have hg9lt := hg9.lt
          have hg10lt := hg10.lt
          clear hal
          refine wpAnyX_one (i := 12) rfl (by kernel_rfl) (fun K hK => ?_)
          refine wp_store_row 24 _ _ rfl _ (#[.int .i64 i, .slice A4 F.length c4]) rfl rfl 24 (#[.int .i64 0, .slice none 0 0]) (hg9) (by kernel_rfl) (by rfl) (by simp [Value.oneCell']) (hK.out _ _ (fun h => absurd h (by decide)) ?_)
          (try simp only [Act.put, List.getElem_toArray, List.getElem_cons_zero, List.getElem_cons_succ, List.setIfInBounds_toArray, List.set_cons_zero, List.set_cons_succ])
          have hF := hF.keptT (hg9.keptRow (t := 38) (by decide) (#[.int .i64 i, .slice A4 F.length c4]))
          have hM := hM.keptT (hg9.keptRow (t := 38) (by decide) (#[.int .i64 i, .slice A4 F.length c4]))
          have hg10 := hg10.rowOther hne.symm (#[.int .i64 i, .slice A4 F.length c4])
          have hg9 := hg9.row (#[.int .i64 i, .slice A4 F.length c4])
          have hbf := below_setRow hbf hge9 (#[.int .i64 i, .slice A4 F.length c4])
          refine wpAnyX_one (i := 13) rfl (by kernel_rfl) (fun K hK => ?_)
          refine wp_store_row 24 _ _ rfl _ (#[.int .i64 i, .slice A5 M.length c5]) rfl rfl 24 (#[.int .i64 0, .slice none 0 0]) (hg10) (by kernel_rfl) (by rfl) (by simp [Value.oneCell']) (hK.out _ _ (fun h => absurd h (by decide)) ?_)
          (try simp only [Act.put, List.getElem_toArray, List.getElem_cons_zero, List.getElem_cons_succ, List.setIfInBounds_toArray, List.set_cons_zero, List.set_cons_succ])
          have hF := hF.keptT (hg10.keptRow (t := 38) (by decide) (#[.int .i64 i, .slice A5 M.length c5]))
          have hM := hM.keptT (hg10.keptRow (t := 38) (by decide) (#[.int .i64 i, .slice A5 M.length c5]))
          have hg9 := hg9.rowOther hne (#[.int .i64 i, .slice A5 M.length c5])
          have hg10 := hg10.row (#[.int .i64 i, .slice A5 M.length c5])
          have hbf := below_setRow hbf hge10 (#[.int .i64 i, .slice A5 M.length c5])
          refine wpAnyX_done (by kernel_rfl) ?_ _
          go_wp2_with fail
          go_meet
          exact ⟨_, _, A4, A5, c4, c5, rfl, rfl, hg9, hg10, hF.trs hbf hFl, hM.trs hbf hMl, hM.cap, hbf⟩
      · go_simp
        refine hK.out _ _ (fun _ _ => HS.out _ (bt hbf (alloc_below _ _))) ?_
        (try simp only [Act.put, List.getElem_toArray, List.getElem_cons_zero, List.getElem_cons_succ, List.setIfInBounds_toArray, List.set_cons_zero, List.set_cons_succ])
        have hal := alloc_below y36 (.cells #[.int .i64 0, .slice none 0 0] 24)
        have hg9 := hg9.on hal
        have hg10 := bx_new y36 #[.int .i64 0, .slice none 0 0] 24
        have hge10 : w1.heap.size ≤ y36.heap.size := hbf.size
        have hbf := bt hbf hal
        have hne : _ ≠ y36.heap.size := Nat.ne_of_lt hg9lt
        generalize y36.alloc (.cells #[.int .i64 0, .slice none 0 0] 24) = y46 at hal hbf hg9 hg10 ⊢
        have hg10lt := hg10.lt
        have hg9lt := hg9.lt
        clear hal
        refine wpAnyX_one (i := 2) rfl (by kernel_rfl) (fun K hK => ?_)
        go_simp
        go_at_call 86
        refine (pafter22 i T U tn tc m d ts us w1 _ hbf (HT.out _ (Below.refl _ _)) (HU.out _ (Below.refl _ _)) HFF.out htn).mono ?_
        rintro r y47 ⟨A2, c2, rfl, hA, hal⟩
        rw [← HP.out] at hA ⊢
        have hA := hA.lower hbf.size
        have hg9 := hg9.on hal
        have hg10 := hg10.on hal
        have hbf := bt hbf hal
        refine hK.out _ _ (fun _ _ => HS.out _ hbf) ?_
        (try simp only [Act.put, List.getElem_toArray, List.getElem_cons_zero, List.getElem_cons_succ, List.setIfInBounds_toArray, List.set_cons_zero, List.set_cons_succ])
        have hg9lt := hg9.lt
        have hg10lt := hg10.lt
        clear hal
        refine wpAnyX_one (i := 5) rfl (by kernel_rfl) (fun K hK => ?_)
        go_simp
        go_at_call 86
        refine (pafter22 i T V tn tc k e ts vs w1 _ hbf (HT.out _ (Below.refl _ _)) (HV.out _ (Below.refl _ _)) HFF.out htn).mono ?_
        rintro r y48 ⟨A3, c3, rfl, hB, hal⟩
        rw [← HQ.out] at hB ⊢
        have hB := hB.lower hbf.size
        have hA := hA.keptT (KeptT.of_below hal)
        have hg9 := hg9.on hal
        have hg10 := hg10.on hal
        have hbf := bt hbf hal
        refine hK.out _ _ (fun _ _ => HS.out _ hbf) ?_
        (try simp only [Act.put, List.getElem_toArray, List.getElem_cons_zero, List.getElem_cons_succ, List.setIfInBounds_toArray, List.set_cons_zero, List.set_cons_succ])
        have hg9lt := hg9.lt
        have hg10lt := hg10.lt
        clear hal
        refine wpAnyX_one (i := 6) rfl (by kernel_rfl) (fun K hK => ?_)
        go_simp
        go_at_call 85
        refine (pord_rows i A2 A3 c2 c3 w1.heap.size P Q F M HFM.out w1 _ hA hB hPl hQl).mono ?_
        rintro r y49 ⟨A4, c4, A5, c5, rfl, hF, hM, hal⟩
        clear hA hB
        have hg9 := hg9.on hal
        have hg10 := hg10.on hal
        have hbf := bt hbf hal
        refine hK.out _ _ (fun _ _ => HS.out _ hbf) ?_
        (try simp only [Act.put, List.getElem_toArray, List.getElem_cons_zero, List.getElem_cons_succ, List.setIfInBounds_toArray, List.set_cons_zero, List.set_cons_succ])
        refine wpAnyX_pure (i := 7) (v := ?_) rfl (by kernel_rfl) (by kernel_rfl) (by kernel_rfl) (fun _ _ _ h => h) (Or.inl ⟨by rfl, ?_⟩) ?_
        rotate_left
        · (intro W _; go_simp; try with_reducible rfl)
        (try simp only [Act.put, List.getElem_toArray, List.getElem_cons_zero, List.getElem_cons_succ, List.setIfInBounds_toArray, List.set_cons_zero, List.set_cons_succ])
        refine wpAnyX_pure (i := 8) (v := ?_) rfl (by kernel_rfl) (by kernel_rfl) (by kernel_rfl) (fun _ _ _ h => h) (Or.inl ⟨by rfl, ?_⟩) ?_
        rotate_left
        · (intro W _; go_simp; try with_reducible rfl)
        (try simp only [Act.put, List.getElem_toArray, List.getElem_cons_zero, List.getElem_cons_succ, List.setIfInBounds_toArray, List.set_cons_zero, List.set_cons_succ])
        refine wpAnyX_pure (i := 9) (v := ?_) rfl (by kernel_rfl) (by kernel_rfl) (by kernel_rfl) (fun _ _ _ h => h) (Or.inl ⟨by rfl, ?_⟩) ?_
        rotate_left
        · (intro W _; go_simp; try with_reducible rfl)
        (try simp only [Act.put, List.getElem_toArray, List.getElem_cons_zero, List.getElem_cons_succ, List.setIfInBounds_toArray, List.set_cons_zero, List.set_cons_succ])
        have hg9lt := hg9.lt
        have hg10lt := hg10.lt
        clear hal
        refine wpAnyX_one (i := 12) rfl (by kernel_rfl) (fun K hK => ?_)
        refine wp_store_row 24 _ _ rfl _ (#[.int .i64 i, .slice A4 F.length c4]) rfl rfl 24 (#[.int .i64 0, .slice none 0 0]) (hg9) (by kernel_rfl) (by rfl) (by simp [Value.oneCell']) (hK.out _ _ (fun h => absurd h (by decide)) ?_)
        (try simp only [Act.put, List.getElem_toArray, List.getElem_cons_zero, List.getElem_cons_succ, List.setIfInBounds_toArray, List.set_cons_zero, List.set_cons_succ])
        have hF := hF.keptT (hg9.keptRow (t := 38) (by decide) (#[.int .i64 i, .slice A4 F.length c4]))
        have hM := hM.keptT (hg9.keptRow (t := 38) (by decide) (#[.int .i64 i, .slice A4 F.length c4]))
        have hg10 := hg10.rowOther hne.symm (#[.int .i64 i, .slice A4 F.length c4])
        have hg9 := hg9.row (#[.int .i64 i, .slice A4 F.length c4])
        have hbf := below_setRow hbf hge9 (#[.int .i64 i, .slice A4 F.length c4])
        refine wpAnyX_one (i := 13) rfl (by kernel_rfl) (fun K hK => ?_)
        refine wp_store_row 24 _ _ rfl _ (#[.int .i64 i, .slice A5 M.length c5]) rfl rfl 24 (#[.int .i64 0, .slice none 0 0]) (hg10) (by kernel_rfl) (by rfl) (by simp [Value.oneCell']) (hK.out _ _ (fun h => absurd h (by decide)) ?_)
        (try simp only [Act.put, List.getElem_toArray, List.getElem_cons_zero, List.getElem_cons_succ, List.setIfInBounds_toArray, List.set_cons_zero, List.set_cons_succ])
        have hF := hF.keptT (hg10.keptRow (t := 38) (by decide) (#[.int .i64 i, .slice A5 M.length c5]))
        have hM := hM.keptT (hg10.keptRow (t := 38) (by decide) (#[.int .i64 i, .slice A5 M.length c5]))
        have hg9 := hg9.rowOther hne (#[.int .i64 i, .slice A5 M.length c5])
        have hg10 := hg10.row (#[.int .i64 i, .slice A5 M.length c5])
        have hbf := below_setRow hbf hge10 (#[.int .i64 i, .slice A5 M.length c5])
        refine wpAnyX_done (by kernel_rfl) ?_ _
        go_wp2_with fail
        go_meet
        exact ⟨_, _, A4, A5, c4, c5, rfl, rfl, hg9, hg10, hF.trs hbf hFl, hM.trs hbf hMl, hM.cap, hbf⟩
    · go_simp
      refine hK.out _ _ (fun _ _ => HS.out _ (bt hbf (alloc_below _ _))) ?_
      (try simp only [Act.put, List.getElem_toArray, List.getElem_cons_zero, List.getElem_cons_succ, List.setIfInBounds_toArray, List.set_cons_zero, List.set_cons_succ])
      have hal := alloc_below y0 (.cells #[.int .i64 0, .slice none 0 0] 24)
      have hg10 := bx_new y0 #[.int .i64 0, .slice none 0 0] 24
      have hge10 : w1.heap.size ≤ y0.heap.size := hbf.size
      have hbf := bt hbf hal
      generalize y0.alloc (.cells #[.int .i64 0, .slice none 0 0] 24) = y50 at hal hbf hg10 ⊢
      have hg10lt := hg10.lt
      clear hal
      refine wpAnyX_two (i := 2) (j := 10) rfl rfl (by kernel_rfl) (fun K hK => ?_) (fun K hK => ?_)
      · go_simp
        go_at_call 86
        refine (pafter22 i T U tn tc m d ts us w1 _ hbf (HT.out _ (Below.refl _ _)) (HU.out _ (Below.refl _ _)) HFF.out htn).mono ?_
        rintro r y51 ⟨A2, c2, rfl, hA, hal⟩
        rw [← HP.out] at hA ⊢
        have hA := hA.lower hbf.size
        have hg10 := hg10.on hal
        have hbf := bt hbf hal
        refine hK.out _ _ (fun _ _ => HS.out _ hbf) ?_
        (try simp only [Act.put, List.getElem_toArray, List.getElem_cons_zero, List.getElem_cons_succ, List.setIfInBounds_toArray, List.set_cons_zero, List.set_cons_succ])
        have hg10lt := hg10.lt
        clear hal
        refine wpAnyX_two (i := 5) (j := 10) rfl rfl (by kernel_rfl) (fun K hK => ?_) (fun K hK => ?_)
        · go_simp
          go_at_call 86
          refine (pafter22 i T V tn tc k e ts vs w1 _ hbf (HT.out _ (Below.refl _ _)) (HV.out _ (Below.refl _ _)) HFF.out htn).mono ?_
          rintro r y52 ⟨A3, c3, rfl, hB, hal⟩
          rw [← HQ.out] at hB ⊢
          have hB := hB.lower hbf.size
          have hA := hA.keptT (KeptT.of_below hal)
          have hg10 := hg10.on hal
          have hbf := bt hbf hal
          refine hK.out _ _ (fun _ _ => HS.out _ hbf) ?_
          (try simp only [Act.put, List.getElem_toArray, List.getElem_cons_zero, List.getElem_cons_succ, List.setIfInBounds_toArray, List.set_cons_zero, List.set_cons_succ])
          have hg10lt := hg10.lt
          clear hal
          refine wpAnyX_two (i := 6) (j := 10) rfl rfl (by kernel_rfl) (fun K hK => ?_) (fun K hK => ?_)
          · go_simp
            go_at_call 85
            refine (pord_rows i A2 A3 c2 c3 w1.heap.size P Q F M HFM.out w1 _ hA hB hPl hQl).mono ?_
            rintro r y53 ⟨A4, c4, A5, c5, rfl, hF, hM, hal⟩
            clear hA hB
            have hg10 := hg10.on hal
            have hbf := bt hbf hal
            refine hK.out _ _ (fun _ _ => HS.out _ hbf) ?_
            (try simp only [Act.put, List.getElem_toArray, List.getElem_cons_zero, List.getElem_cons_succ, List.setIfInBounds_toArray, List.set_cons_zero, List.set_cons_succ])
            refine wpAnyX_pure (i := 7) (v := ?_) rfl (by kernel_rfl) (by kernel_rfl) (by kernel_rfl) (fun _ _ _ h => h) (Or.inl ⟨by rfl, ?_⟩) ?_
            rotate_left
            · (intro W _; go_simp; try with_reducible rfl)
            (try simp only [Act.put, List.getElem_toArray, List.getElem_cons_zero, List.getElem_cons_succ, List.setIfInBounds_toArray, List.set_cons_zero, List.set_cons_succ])
            refine wpAnyX_pure (i := 8) (v := ?_) rfl (by kernel_rfl) (by kernel_rfl) (by kernel_rfl) (fun _ _ _ h => h) (Or.inl ⟨by rfl, ?_⟩) ?_
            rotate_left
            · (intro W _; go_simp; try with_reducible rfl)
            (try simp only [Act.put, List.getElem_toArray, List.getElem_cons_zero, List.getElem_cons_succ, List.setIfInBounds_toArray, List.set_cons_zero, List.set_cons_succ])
            refine wpAnyX_pure (i := 9) (v := ?_) rfl (by kernel_rfl) (by kernel_rfl) (by kernel_rfl) (fun _ _ _ h => h) (Or.inl ⟨by rfl, ?_⟩) ?_
            rotate_left
            · (intro W _; go_simp; try with_reducible rfl)
            (try simp only [Act.put, List.getElem_toArray, List.getElem_cons_zero, List.getElem_cons_succ, List.setIfInBounds_toArray, List.set_cons_zero, List.set_cons_succ])
            have hg10lt := hg10.lt
            clear hal
            refine wpAnyX_one (i := 10) rfl (by kernel_rfl) (fun K hK => ?_)
            go_simp
            refine hK.out _ _ (fun _ _ => HS.out _ (bt hbf (alloc_below _ _))) ?_
            (try simp only [Act.put, List.getElem_toArray, List.getElem_cons_zero, List.getElem_cons_succ, List.setIfInBounds_toArray, List.set_cons_zero, List.set_cons_succ])
            have hal := alloc_below y53 (.cells #[.int .i64 0, .slice none 0 0] 24)
            have hF := hF.keptT (KeptT.of_below hal)
            have hM := hM.keptT (KeptT.of_below hal)
            have hg10 := hg10.on hal
            have hg9 := bx_new y53 #[.int .i64 0, .slice none 0 0] 24
            have hge9 : w1.heap.size ≤ y53.heap.size := hbf.size
            have hbf := bt hbf hal
            have hne : y53.heap.size ≠ _ := Nat.ne_of_gt hg10lt
            generalize y53.alloc (.cells #[.int .i64 0, .slice none 0 0] 24) = y54 at hal hbf hF hM hg9 hg10 ⊢
            have hg9lt := hg9.lt
            have hg10lt := hg10.lt
            clear hal
            refine wpAnyX_one (i := 12) rfl (by kernel_rfl) (fun K hK => ?_)
            refine wp_store_row 24 _ _ rfl _ (#[.int .i64 i, .slice A4 F.length c4]) rfl rfl 24 (#[.int .i64 0, .slice none 0 0]) (hg9) (by kernel_rfl) (by rfl) (by simp [Value.oneCell']) (hK.out _ _ (fun h => absurd h (by decide)) ?_)
            (try simp only [Act.put, List.getElem_toArray, List.getElem_cons_zero, List.getElem_cons_succ, List.setIfInBounds_toArray, List.set_cons_zero, List.set_cons_succ])
            have hF := hF.keptT (hg9.keptRow (t := 38) (by decide) (#[.int .i64 i, .slice A4 F.length c4]))
            have hM := hM.keptT (hg9.keptRow (t := 38) (by decide) (#[.int .i64 i, .slice A4 F.length c4]))
            have hg10 := hg10.rowOther hne.symm (#[.int .i64 i, .slice A4 F.length c4])
            have hg9 := hg9.row (#[.int .i64 i, .slice A4 F.length c4])
            have hbf := below_setRow hbf hge9 (#[.int .i64 i, .slice A4 F.length c4])
            refine wpAnyX_one (i := 13) rfl (by kernel_rfl) (fun K hK => ?_)
            refine wp_store_row 24 _ _ rfl _ (#[.int .i64 i, .slice A5 M.length c5]) rfl rfl 24 (#[.int .i64 0, .slice none 0 0]) (hg10) (by kernel_rfl) (by rfl) (by simp [Value.oneCell']) (hK.out _ _ (fun h => absurd h (by decide)) ?_)
            (try simp only [Act.put, List.getElem_toArray, List.getElem_cons_zero, List.getElem_cons_succ, List.setIfInBounds_toArray, List.set_cons_zero, List.set_cons_succ])
            have hF := hF.keptT (hg10.keptRow (t := 38) (by decide) (#[.int .i64 i, .slice A5 M.length c5]))
            have hM := hM.keptT (hg10.keptRow (t := 38) (by decide) (#[.int .i64 i, .slice A5 M.length c5]))
            have hg9 := hg9.rowOther hne (#[.int .i64 i, .slice A5 M.length c5])
            have hg10 := hg10.row (#[.int .i64 i, .slice A5 M.length c5])
            have hbf := below_setRow hbf hge10 (#[.int .i64 i, .slice A5 M.length c5])
            refine wpAnyX_done (by kernel_rfl) ?_ _
            go_wp2_with fail
            go_meet
            exact ⟨_, _, A4, A5, c4, c5, rfl, rfl, hg9, hg10, hF.trs hbf hFl, hM.trs hbf hMl, hM.cap, hbf⟩
          · go_simp
            refine hK.out _ _ (fun _ _ => HS.out _ (bt hbf (alloc_below _ _))) ?_
            (try simp only [Act.put, List.getElem_toArray, List.getElem_cons_zero, List.getElem_cons_succ, List.setIfInBounds_toArray, List.set_cons_zero, List.set_cons_succ])
            have hal := alloc_below y52 (.cells #[.int .i64 0, .slice none 0 0] 24)
            have hA := hA.keptT (KeptT.of_below hal)
            have hB := hB.keptT (KeptT.of_below hal)
            have hg10 := hg10.on hal
            have hg9 := bx_new y52 #[.int .i64 0, .slice none 0 0] 24
            have hge9 : w1.heap.size ≤ y52.heap.size := hbf.size
            have hbf := bt hbf hal
            have hne : y52.heap.size ≠ _ := Nat.ne_of_gt hg10lt
            generalize y52.alloc (.cells #[.int .i64 0, .slice none 0 0] 24) = y55 at hal hbf hA hB hg9 hg10 ⊢
            have hg9lt := hg9.lt
            have hg10lt := hg10.lt
            clear hal
            refine wpAnyX_one (i := 6) rfl (by kernel_rfl) (fun K hK => ?_)
            go_simp
            go_at_call 85
            refine (pord_rows i A2 A3 c2 c3 w1.heap.size P Q F M HFM.out w1 _ hA hB hPl hQl).mono ?_
            rintro r y56 ⟨A4, c4, A5, c5, rfl, hF, hM, hal⟩
            clear hA hB
            have hg9 := hg9.on hal
            have hg10 := hg10.on hal
            have hbf := bt hbf hal
            refine hK.out _ _ (fun _ _ => HS.out _ hbf) ?_
            (try simp only [Act.put, List.getElem_toArray, List.getElem_cons_zero, List.getElem_cons_succ, List.setIfInBounds_toArray, List.set_cons_zero, List.set_cons_succ])
            refine wpAnyX_pure (i := 7) (v := ?_) rfl (by kernel_rfl) (by kernel_rfl) (by kernel_rfl) (fun _ _ _ h => h) (Or.inl ⟨by rfl, ?_⟩) ?_
            rotate_left
            · (intro W _; go_simp; try with_reducible rfl)
            (try simp only [Act.put, List.getElem_toArray, List.getElem_cons_zero, List.getElem_cons_succ, List.setIfInBounds_toArray, List.set_cons_zero, List.set_cons_succ])
            refine wpAnyX_pure (i := 8) (v := ?_) rfl (by kernel_rfl) (by kernel_rfl) (by kernel_rfl) (fun _ _ _ h => h) (Or.inl ⟨by rfl, ?_⟩) ?_
            rotate_left
            · (intro W _; go_simp; try with_reducible rfl)
            (try simp only [Act.put, List.getElem_toArray, List.getElem_cons_zero, List.getElem_cons_succ, List.setIfInBounds_toArray, List.set_cons_zero, List.set_cons_succ])
            refine wpAnyX_pure (i := 9) (v := ?_) rfl (by kernel_rfl) (by kernel_rfl) (by kernel_rfl) (fun _ _ _ h => h) (Or.inl ⟨by rfl, ?_⟩) ?_
            rotate_left
            · (intro W _; go_simp; try with_reducible rfl)
            (try simp only [Act.put, List.getElem_toArray, List.getElem_cons_zero, List.getElem_cons_succ, List.setIfInBounds_toArray, List.set_cons_zero, List.set_cons_succ])
            have hg9lt := hg9.lt
            have hg10lt := hg10.lt
            clear hal
            refine wpAnyX_one (i := 12) rfl (by kernel_rfl) (fun K hK => ?_)
            refine wp_store_row 24 _ _ rfl _ (#[.int .i64 i, .slice A4 F.length c4]) rfl rfl 24 (#[.int .i64 0, .slice none 0 0]) (hg9) (by kernel_rfl) (by rfl) (by simp [Value.oneCell']) (hK.out _ _ (fun h => absurd h (by decide)) ?_)
            (try simp only [Act.put, List.getElem_toArray, List.getElem_cons_zero, List.getElem_cons_succ, List.setIfInBounds_toArray, List.set_cons_zero, List.set_cons_succ])
            have hF := hF.keptT (hg9.keptRow (t := 38) (by decide) (#[.int .i64 i, .slice A4 F.length c4]))
            have hM := hM.keptT (hg9.keptRow (t := 38) (by decide) (#[.int .i64 i, .slice A4 F.length c4]))
            have hg10 := hg10.rowOther hne.symm (#[.int .i64 i, .slice A4 F.length c4])
            have hg9 := hg9.row (#[.int .i64 i, .slice A4 F.length c4])
            have hbf := below_setRow hbf hge9 (#[.int .i64 i, .slice A4 F.length c4])
            refine wpAnyX_one (i := 13) rfl (by kernel_rfl) (fun K hK => ?_)
            refine wp_store_row 24 _ _ rfl _ (#[.int .i64 i, .slice A5 M.length c5]) rfl rfl 24 (#[.int .i64 0, .slice none 0 0]) (hg10) (by kernel_rfl) (by rfl) (by simp [Value.oneCell']) (hK.out _ _ (fun h => absurd h (by decide)) ?_)
            (try simp only [Act.put, List.getElem_toArray, List.getElem_cons_zero, List.getElem_cons_succ, List.setIfInBounds_toArray, List.set_cons_zero, List.set_cons_succ])
            have hF := hF.keptT (hg10.keptRow (t := 38) (by decide) (#[.int .i64 i, .slice A5 M.length c5]))
            have hM := hM.keptT (hg10.keptRow (t := 38) (by decide) (#[.int .i64 i, .slice A5 M.length c5]))
            have hg9 := hg9.rowOther hne (#[.int .i64 i, .slice A5 M.length c5])
            have hg10 := hg10.row (#[.int .i64 i, .slice A5 M.length c5])
            have hbf := below_setRow hbf hge10 (#[.int .i64 i, .slice A5 M.length c5])
            refine wpAnyX_done (by kernel_rfl) ?_ _
            go_wp2_with fail
            go_meet
            exact ⟨_, _, A4, A5, c4, c5, rfl, rfl, hg9, hg10, hF.trs hbf hFl, hM.trs hbf hMl, hM.cap, hbf⟩
        · go_simp
          refine hK.out _ _ (fun _ _ => HS.out _ (bt hbf (alloc_below _ _))) ?_
          (try simp only [Act.put, List.getElem_toArray, List.getElem_cons_zero, List.getElem_cons_succ, List.setIfInBounds_toArray, List.set_cons_zero, List.set_cons_succ])
          have hal := alloc_below y51 (.cells #[.int .i64 0, .slice none 0 0] 24)
          have hA := hA.keptT (KeptT.of_below hal)
          have hg10 := hg10.on hal
          have hg9 := bx_new y51 #[.int .i64 0, .slice none 0 0] 24
          have hge9 : w1.heap.size ≤ y51.heap.size := hbf.size
          have hbf := bt hbf hal
          have hne : y51.heap.size ≠ _ := Nat.ne_of_gt hg10lt
          generalize y51.alloc (.cells #[.int .i64 0, .slice none 0 0] 24) = y57 at hal hbf hA hg9 hg10 ⊢
          have hg9lt := hg9.lt
          have hg10lt := hg10.lt
          clear hal
          refine wpAnyX_one (i := 5) rfl (by kernel_rfl) (fun K hK => ?_)
          go_simp
          go_at_call 86
          refine (pafter22 i T V tn tc k e ts vs w1 _ hbf (HT.out _ (Below.refl _ _)) (HV.out _ (Below.refl _ _)) HFF.out htn).mono ?_
          rintro r y58 ⟨A3, c3, rfl, hB, hal⟩
          rw [← HQ.out] at hB ⊢
          have hB := hB.lower hbf.size
          have hA := hA.keptT (KeptT.of_below hal)
          have hg9 := hg9.on hal
          have hg10 := hg10.on hal
          have hbf := bt hbf hal
          refine hK.out _ _ (fun _ _ => HS.out _ hbf) ?_
          (try simp only [Act.put, List.getElem_toArray, List.getElem_cons_zero, List.getElem_cons_succ, List.setIfInBounds_toArray, List.set_cons_zero, List.set_cons_succ])
          have hg9lt := hg9.lt
          have hg10lt := hg10.lt
          clear hal
          refine wpAnyX_one (i := 6) rfl (by kernel_rfl) (fun K hK => ?_)
          go_simp
          go_at_call 85
          refine (pord_rows i A2 A3 c2 c3 w1.heap.size P Q F M HFM.out w1 _ hA hB hPl hQl).mono ?_
          rintro r y59 ⟨A4, c4, A5, c5, rfl, hF, hM, hal⟩
          clear hA hB
          have hg9 := hg9.on hal
          have hg10 := hg10.on hal
          have hbf := bt hbf hal
          refine hK.out _ _ (fun _ _ => HS.out _ hbf) ?_
          (try simp only [Act.put, List.getElem_toArray, List.getElem_cons_zero, List.getElem_cons_succ, List.setIfInBounds_toArray, List.set_cons_zero, List.set_cons_succ])
          refine wpAnyX_pure (i := 7) (v := ?_) rfl (by kernel_rfl) (by kernel_rfl) (by kernel_rfl) (fun _ _ _ h => h) (Or.inl ⟨by rfl, ?_⟩) ?_
          rotate_left
          · (intro W _; go_simp; try with_reducible rfl)
          (try simp only [Act.put, List.getElem_toArray, List.getElem_cons_zero, List.getElem_cons_succ, List.setIfInBounds_toArray, List.set_cons_zero, List.set_cons_succ])
          refine wpAnyX_pure (i := 8) (v := ?_) rfl (by kernel_rfl) (by kernel_rfl) (by kernel_rfl) (fun _ _ _ h => h) (Or.inl ⟨by rfl, ?_⟩) ?_
          rotate_left
          · (intro W _; go_simp; try with_reducible rfl)
          (try simp only [Act.put, List.getElem_toArray, List.getElem_cons_zero, List.getElem_cons_succ, List.setIfInBounds_toArray, List.set_cons_zero, List.set_cons_succ])
          refine wpAnyX_pure (i := 9) (v := ?_) rfl (by kernel_rfl) (by kernel_rfl) (by kernel_rfl) (fun _ _ _ h => h) (Or.inl ⟨by rfl, ?_⟩) ?_
          rotate_left
          · (intro W _; go_simp; try with_reducible rfl)
          (try simp only [Act.put, List.getElem_toArray, List.getElem_cons_zero, List.getElem_cons_succ, List.setIfInBounds_toArray, List.set_cons_zero, List.set_cons_succ])
          have hg9lt := hg9.lt
          have hg10lt := hg10.lt
          clear hal
          refine wpAnyX_one (i := 12) rfl (by kernel_rfl) (fun K hK => ?_)
          refine wp_store_row 24 _ _ rfl _ (#[.int .i64 i, .slice A4 F.length c4]) rfl rfl 24 (#[.int .i64 0, .slice none 0 0]) (hg9) (by kernel_rfl) (by rfl) (by simp [Value.oneCell']) (hK.out _ _ (fun h => absurd h (by decide)) ?_)
          (try simp only [Act.put, List.getElem_toArray, List.getElem_cons_zero, List.getElem_cons_succ, List.setIfInBounds_toArray, List.set_cons_zero, List.set_cons_succ])
          have hF := hF.keptT (hg9.keptRow (t := 38) (by decide) (#[.int .i64 i, .slice A4 F.length c4]))
          have hM := hM.keptT (hg9.keptRow (t := 38) (by decide) (#[.int .i64 i, .slice A4 F.length c4]))
          have hg10 := hg10.rowOther hne.symm (#[.int .i64 i, .slice A4 F.length c4])
          have hg9 := hg9.row (#[.int .i64 i, .slice A4 F.length c4])
          have hbf := below_setRow hbf hge9 (#[.int .i64 i, .slice A4 F.length c4])
          refine wpAnyX_one (i := 13) rfl (by kernel_rfl) (fun K hK => ?_)
          refine wp_store_row 24 _ _ rfl _ (#[.int .i64 i, .slice A5 M.length c5]) rfl rfl 24 (#[.int .i64 0, .slice none 0 0]) (hg10) (by kernel_rfl) (by rfl) (by simp [Value.oneCell']) (hK.out _ _ (fun h => absurd h (by decide)) ?_)
          (try simp only [Act.put, List.getElem_toArray, List.getElem_cons_zero, List.getElem_cons_succ, List.setIfInBounds_toArray, List.set_cons_zero, List.set_cons_succ])
          have hF := hF.keptT (hg10.keptRow (t := 38) (by decide) (#[.int .i64 i, .slice A5 M.length c5]))
          have hM := hM.keptT (hg10.keptRow (t := 38) (by decide) (#[.int .i64 i, .slice A5 M.length c5]))
          have hg9 := hg9.rowOther hne (#[.int .i64 i, .slice A5 M.length c5])
          have hg10 := hg10.row (#[.int .i64 i, .slice A5 M.length c5])
          have hbf := below_setRow hbf hge10 (#[.int .i64 i, .slice A5 M.length c5])
          refine wpAnyX_done (by kernel_rfl) ?_ _
          go_wp2_with fail
          go_meet
          exact ⟨_, _, A4, A5, c4, c5, rfl, rfl, hg9, hg10, hF.trs hbf hFl, hM.trs hbf hMl, hM.cap, hbf⟩
      · go_simp
        refine hK.out _ _ (fun _ _ => HS.out _ (bt hbf (alloc_below _ _))) ?_
        (try simp only [Act.put, List.getElem_toArray, List.getElem_cons_zero, List.getElem_cons_succ, List.setIfInBounds_toArray, List.set_cons_zero, List.set_cons_succ])
        have hal := alloc_below y50 (.cells #[.int .i64 0, .slice none 0 0] 24)
        have hg10 := hg10.on hal
        have hg9 := bx_new y50 #[.int .i64 0, .slice none 0 0] 24
        have hge9 : w1.heap.size ≤ y50.heap.size := hbf.size
        have hbf := bt hbf hal
        have hne : y50.heap.size ≠ _ := Nat.ne_of_gt hg10lt
        generalize y50.alloc (.cells #[.int .i64 0, .slice none 0 0] 24) = y60 at hal hbf hg9 hg10 ⊢
        have hg9lt := hg9.lt
        have hg10lt := hg10.lt
        clear hal
        refine wpAnyX_one (i := 2) rfl (by kernel_rfl) (fun K hK => ?_)
        go_simp
        go_at_call 86
        refine (pafter22 i T U tn tc m d ts us w1 _ hbf (HT.out _ (Below.refl _ _)) (HU.out _ (Below.refl _ _)) HFF.out htn).mono ?_
        rintro r y61 ⟨A2, c2, rfl, hA, hal⟩
        rw [← HP.out] at hA ⊢
        have hA := hA.lower hbf.size
        have hg9 := hg9.on hal
        have hg10 := hg10.on hal
        have hbf := bt hbf hal
        refine hK.out _ _ (fun _ _ => HS.out _ hbf) ?_
        (try simp only [Act.put, List.getElem_toArray, List.getElem_cons_zero, List.getElem_cons_succ, List.setIfInBounds_toArray, List.set_cons_zero, List.set_cons_succ])
        have hg9lt := hg9.lt
        have hg10lt := hg10.lt
        clear hal
        refine wpAnyX_one (i := 5) rfl (by kernel_rfl) (fun K hK => ?_)
        go_simp
        go_at_call 86
        refine (pafter22 i T V tn tc k e ts vs w1 _ hbf (HT.out _ (Below.refl _ _)) (HV.out _ (Below.refl _ _)) HFF.out htn).mono ?_
        rintro r y62 ⟨A3, c3, rfl, hB, hal⟩
        rw [← HQ.out] at hB ⊢
        have hB := hB.lower hbf.size
        have hA := hA.keptT (KeptT.of_below hal)
        have hg9 := hg9.on hal
        have hg10 := hg10.on hal
        have hbf := bt hbf hal
        refine hK.out _ _ (fun _ _ => HS.out _ hbf) ?_
        (try simp only [Act.put, List.getElem_toArray, List.getElem_cons_zero, List.getElem_cons_succ, List.setIfInBounds_toArray, List.set_cons_zero, List.set_cons_succ])
        have hg9lt := hg9.lt
        have hg10lt := hg10.lt
        clear hal
        refine wpAnyX_one (i := 6) rfl (by kernel_rfl) (fun K hK => ?_)
        go_simp
        go_at_call 85
        refine (pord_rows i A2 A3 c2 c3 w1.heap.size P Q F M HFM.out w1 _ hA hB hPl hQl).mono ?_
        rintro r y63 ⟨A4, c4, A5, c5, rfl, hF, hM, hal⟩
        clear hA hB
        have hg9 := hg9.on hal
        have hg10 := hg10.on hal
        have hbf := bt hbf hal
        refine hK.out _ _ (fun _ _ => HS.out _ hbf) ?_
        (try simp only [Act.put, List.getElem_toArray, List.getElem_cons_zero, List.getElem_cons_succ, List.setIfInBounds_toArray, List.set_cons_zero, List.set_cons_succ])
        refine wpAnyX_pure (i := 7) (v := ?_) rfl (by kernel_rfl) (by kernel_rfl) (by kernel_rfl) (fun _ _ _ h => h) (Or.inl ⟨by rfl, ?_⟩) ?_
        rotate_left
        · (intro W _; go_simp; try with_reducible rfl)
        (try simp only [Act.put, List.getElem_toArray, List.getElem_cons_zero, List.getElem_cons_succ, List.setIfInBounds_toArray, List.set_cons_zero, List.set_cons_succ])
        refine wpAnyX_pure (i := 8) (v := ?_) rfl (by kernel_rfl) (by kernel_rfl) (by kernel_rfl) (fun _ _ _ h => h) (Or.inl ⟨by rfl, ?_⟩) ?_
        rotate_left
        · (intro W _; go_simp; try with_reducible rfl)
        (try simp only [Act.put, List.getElem_toArray, List.getElem_cons_zero, List.getElem_cons_succ, List.setIfInBounds_toArray, List.set_cons_zero, List.set_cons_succ])
        refine wpAnyX_pure (i := 9) (v := ?_) rfl (by kernel_rfl) (by kernel_rfl) (by kernel_rfl) (fun _ _ _ h => h) (Or.inl ⟨by rfl, ?_⟩) ?_
        rotate_left
        · (intro W _; go_simp; try with_reducible rfl)
        (try simp only [Act.put, List.getElem_toArray, List.getElem_cons_zero, List.getElem_cons_succ, List.setIfInBounds_toArray, List.set_cons_zero, List.set_cons_succ])
        have hg9lt := hg9.lt
        have hg10lt := hg10.lt
        clear hal
        refine wpAnyX_one (i := 12) rfl (by kernel_rfl) (fun K hK => ?_)
        refine wp_store_row 24 _ _ rfl _ (#[.int .i64 i, .slice A4 F.length c4]) rfl rfl 24 (#[.int .i64 0, .slice none 0 0]) (hg9) (by kernel_rfl) (by rfl) (by simp [Value.oneCell']) (hK.out _ _ (fun h => absurd h (by decide)) ?_)
        (try simp only [Act.put, List.getElem_toArray, List.getElem_cons_zero, List.getElem_cons_succ, List.setIfInBounds_toArray, List.set_cons_zero, List.set_cons_succ])
        have hF := hF.keptT (hg9.keptRow (t := 38) (by decide) (#[.int .i64 i, .slice A4 F.length c4]))
        have hM := hM.keptT (hg9.keptRow (t := 38) (by decide) (#[.int .i64 i, .slice A4 F.length c4]))
        have hg10 := hg10.rowOther hne.symm (#[.int .i64 i, .slice A4 F.length c4])
        have hg9 := hg9.row (#[.int .i64 i, .slice A4 F.length c4])
        have hbf := below_setRow hbf hge9 (#[.int .i64 i, .slice A4 F.length c4])
        refine wpAnyX_one (i := 13) rfl (by kernel_rfl) (fun K hK => ?_)
        refine wp_store_row 24 _ _ rfl _ (#[.int .i64 i, .slice A5 M.length c5]) rfl rfl 24 (#[.int .i64 0, .slice none 0 0]) (hg10) (by kernel_rfl) (by rfl) (by simp [Value.oneCell']) (hK.out _ _ (fun h => absurd h (by decide)) ?_)
        (try simp only [Act.put, List.getElem_toArray, List.getElem_cons_zero, List.getElem_cons_succ, List.setIfInBounds_toArray, List.set_cons_zero, List.set_cons_succ])
        have hF := hF.keptT (hg10.keptRow (t := 38) (by decide) (#[.int .i64 i, .slice A5 M.length c5]))
        have hM := hM.keptT (hg10.keptRow (t := 38) (by decide) (#[.int .i64 i, .slice A5 M.length c5]))
        have hg9 := hg9.rowOther hne (#[.int .i64 i, .slice A5 M.length c5])
        have hg10 := hg10.row (#[.int .i64 i, .slice A5 M.length c5])
        have hbf := below_setRow hbf hge10 (#[.int .i64 i, .slice A5 M.length c5])
        refine wpAnyX_done (by kernel_rfl) ?_ _
        go_wp2_with fail
        go_meet
        exact ⟨_, _, A4, A5, c4, c5, rfl, rfl, hg9, hg10, hF.trs hbf hFl, hM.trs hbf hMl, hM.cap, hbf⟩
  case rest =>
    obtain ⟨g9, g10, A4, A5, c4, c5, rfl, rfl, hg9, hg10, hF, hM, hcap, hbr⟩ := hcut
    obtain ⟨b9, o9, e9⟩ : ∃ (x : Unit) (y : Unit), x = y := ⟨(), (), rfl⟩
    clear e9 b9 o9
    have hFS : Srt F ∧ Full F ∧ Props i F := by
      rcases HFM2.out with ⟨rfl, _⟩ | ⟨rfl, _⟩
      · rw [HP.out]; exact ⟨aftK_srt HSS.out tn (Nat.le_of_eq HLT.out.symm), aftK_full HFF.out (Nat.le_of_eq HLT.out.symm), aftK_props HII.out (Nat.le_of_eq HLT.out.symm)⟩
      · rw [HQ.out]; exact ⟨aftK_srt HSS.out tn (Nat.le_of_eq HLT.out.symm), aftK_full HFF.out (Nat.le_of_eq HLT.out.symm), aftK_props HII.out (Nat.le_of_eq HLT.out.symm)⟩
    have hMS : Srt M ∧ Full M ∧ Cons M := by
      rcases HFM2.out with ⟨_, rfl⟩ | ⟨_, rfl⟩
      · rw [HQ.out]; exact ⟨aftK_srt HSS.out tn (Nat.le_of_eq HLT.out.symm), aftK_full HFF.out (Nat.le_of_eq HLT.out.symm), aftK_cons HCC.out (Nat.le_of_eq HLT.out.symm)⟩
      · rw [HP.out]; exact ⟨aftK_srt HSS.out tn (Nat.le_of_eq HLT.out.symm), aftK_full HFF.out (Nat.le_of_eq HLT.out.symm), aftK_cons HCC.out (Nat.le_of_eq HLT.out.symm)⟩
    have HFS := Lib.hid hFS
    have HMS := Lib.hid hMS
    have HG9 := Lib.hid (fun (W : World) (h : Below wc.heap.size wc W) => hg9.on h)
    have HG10 := Lib.hid (fun (W : World) (h : Below wc.heap.size wc W) => hg10.on h)
    have HFT := Lib.hid (fun (W : World) (h : Below wc.heap.size wc W) => hF.below h)
    have HMT := Lib.hid (fun (W : World) (h : Below wc.heap.size wc W) => hM.below h)
    have HBR := Lib.hid hbr
    have HEND := Lib.hid (show ∀ xs, Fst1 (ShK F M F.length) xs → Fst1 (ShK P Q P.length) xs from fun xs h => by
      rcases HFM2.out with ⟨rfl, rfl⟩ | ⟨rfl, rfl⟩
      · exact h
      · exact h.congr fun x => shk_comm _ _ x)
    have z1 := hg9.cell 1
    have z0 := hg9.cell 0
    simp at z0 z1
    clear hg9 hg10 hF hM hbr hFS hMS
    go_wp2_with fail
    go_loopw [28, 8] (fun v28 v8 wr => ∃ (q : Nat) (xs : List Int), v28 = .int .i64 q ∧ q ≤ F.length ∧ Hid (FirstV wr v8 xs) ∧ Hid (Fst1 (ShK F M q) xs) ∧ Hid (Below wc.heap.size wc wr)) (fun v28 _ _ => F.length - (intOf v28).toNat)
    case atStart => exact ⟨0, [], rfl, Nat.zero_le _, Lib.hid (.inl ⟨rfl, rfl⟩), Lib.hid (ShK.zero _ _), Lib.hid (Below.refl _ _)⟩
    case round =>
      obtain ⟨q, xs, rfl, hq, HV8, HX, HBW⟩ := hrel
      by_cases hlt : q < F.length
      · obtain ⟨b, off, A1, n1, c1, A2, n2, c2, rfl, hgb, j1, j2, q1, q2, j3, j4⟩ := (HFT.out _ HBW.out).at_ hlt
        obtain ⟨wa, hwa⟩ : ∃ wa, wa = wr.alloc (.cells #[.slice A1 n1 c1, .slice A2 n2 c2] 38) := ⟨_, rfl⟩
        have hal : Below wr.heap.size wr wa := by rw [hwa]; exact alloc_below _ _
        have hbx : Bx wa wr.heap.size #[.slice A1 n1 c1, .slice A2 n2 c2] 38 := by rw [hwa]; exact bx_new _ _ _
        have hba := bt HBW.out hal
        have hlen : (tOut F q).length = (tIn F q).length := HFS.out.2.1 q hlt
        have hprp := HFS.out.2.2 q hlt
        have HCL := Lib.hid (pclash i A5 A1 A2 M.length c5 n1 c1 n2 c2 M (tIn F q) (tOut F q) wa (HMT.out _ hba) hcap (j3.below hal) q1 (j4.below hal) HMS.out.1 HMS.out.2.1)
        have HWA := Lib.hid hwa
        have HAL := Lib.hid hal
        have HBA := Lib.hid hba
        have HV8a := Lib.hid (HV8.out.below hal)
        have HLN := Lib.hid hlen
        have HPR := Lib.hid hprp
        have HL1 := Lib.hid j3.1
        have hn1 := j3.2.1
        have y0 := (HG10.out _ hba).cell 0
        have y1 := (HG10.out _ hba).cell 1
        have x0 := hbx.cell 0
        have x1 := hbx.cell 1
        simp at x0 x1 y0 y1
        rw [hwa] at x0 x1 y0 y1
        clear hwa hal hba hlen hprp j3 j4 hbx
        go_wp2_with fail
        rw [← HWA.out]
        refine HCL.out.mono ?_
        rintro r w5 ⟨fd, A', l, c', f, s, zs, rfl, hR, hO, hb5⟩
        have HB5 := Lib.hid (bt HAL.out hb5)
        have HBW5 := Lib.hid (bt HBA.out hb5)
        have HV5 := Lib.hid (HV8a.out.below hb5)
        have hO' := hO.lower (base' := 0) (Nat.zero_le _)
        cases fd
        case false =>
          have HX2 := Lib.hid (fst_skip HX.out (cls_false HMS.out.2.2 HMS.out.2.1 HLN.out HPR.out hR))
          have HBC := Lib.hid (alloc_below w5 (.cells #[.slice A' l c', .int .i64 f, .int .i64 s] 43))
          clear hR hO hO' hb5
          go_wp2_with fail
          go_roundw
          case rel => exact ⟨q + 1, xs, by go_num, by omega, Lib.hid (HV5.out.below HBC.out), HX2, Lib.hid (bt HBW5.out HBC.out)⟩
          case measure => simp [intOf]; omega
        case true =>
          obtain ⟨hz1, hz2⟩ := cls_true HMS.out.2.2 HMS.out.2.1 HLN.out hR
          have hzl : zs.length ≤ 17592186044416 := by have := hz1.1.length_le; rw [HL1.out] at this; omega
          have hzi := hO.ints hzl
          have HZ1 := Lib.hid hz1
          have HZ2 := Lib.hid hz2
          obtain ⟨wb, hwb⟩ : ∃ wb, wb = w5.alloc (.cells #[.slice A' l c', .int .i64 f, .int .i64 s] 43) := ⟨_, rfl⟩
          have hbc : Below w5.heap.size w5 wb := by rw [hwb]; exact alloc_below _ _
          have HWB := Lib.hid hwb
          have HBC := Lib.hid hbc
          have HZI := Lib.hid (hzi.below hbc)
          have HV6 := Lib.hid (HV5.out.below hbc)
          have HBW6 := Lib.hid (bt HBW5.out hbc)
          clear hR hO hO' hb5 hz1 hz2 hzi hwb hbc hzl
          rcases HV6.out with ⟨rfl, rfl⟩ | ⟨g, n8, c8, rfl, hi8, hne8⟩
          · have HX2 := Lib.hid (fst_new HX.out HZ1.out HZ2.out (.inl rfl))
            have HFV := Lib.hid (FirstV.of (c := c') HZI.out HZ1.out.2.1)
            go_wp2_with fail
            rw [← HWB.out]
            refine (pearlier_none A' l c' wb).mono ?_
            rintro r w7 ⟨rfl, rfl⟩
            go_wp2_with fail
            go_roundw
            case rel => exact ⟨q + 1, zs, by go_num, by omega, HFV, HX2, HBW6⟩
            case measure => simp [intOf]; omega
          · have HPE := Lib.hid (pearlier_some g A' n8 c8 l c' xs zs wb hi8 HZI.out)
            have HN8 := Lib.hid hne8
            by_cases hc : shlex zs xs < 0
            · have HX2 := Lib.hid (fst_new HX.out HZ1.out HZ2.out (.inr hc))
              have HC := Lib.hid hc
              clear hi8 hne8 hc
              go_wp2_with fail
              rw [← HWB.out]
              refine HPE.out.mono ?_
              rintro r w7 ⟨rfl, u, rfl⟩
              rw [if_pos HC.out]
              have HFV := Lib.hid ((FirstV.of (c := c') HZI.out HZ1.out.2.1).below (below_drewN (Below.refl _ _) u))
              go_wp2_with fail
              go_roundw
              case rel => exact ⟨q + 1, zs, by go_num, by omega, HFV, HX2, Lib.hid (below_drewN HBW6.out u)⟩
              case measure => simp [intOf]; omega
            · have HX2 := Lib.hid (fst_old HX.out HZ1.out HZ2.out hne8 hc)
              have HC := Lib.hid hc
              clear hi8 hne8 hc
              go_wp2_with fail
              rw [← HWB.out]
              refine HPE.out.mono ?_
              rintro r w7 ⟨rfl, u, rfl⟩
              rw [if_neg (show ¬ shlex zs xs < 0 by have := HC.out; omega)]
              go_wp2_with fail
              go_roundw
              case rel => exact ⟨q + 1, xs, by go_num, by omega, Lib.hid (HV6.out.below (below_drewN (Below.refl _ _) u)), HX2, Lib.hid (below_drewN HBW6.out u)⟩
              case measure => simp [intOf]; omega
      · obtain rfl : q = F.length := by omega
        have HR := Lib.hid (HEND.out _ HX.out)
        rcases HV8.out with ⟨rfl, rfl⟩ | ⟨g, n', c', rfl, hi8, hne8⟩
        · have he := fun W => run_neqs (P := Try.prog) W 36 3 none 0 0 0 0 Try.underlying36
          go_wp2
          go_ret2
          exact ⟨none, 0, 0, [], rfl, HR.out, Ints.none_ _, ⟨fun _ => rfl, fun _ => rfl⟩, bt HB0.out (bt HBR.out HBW.out)⟩
        · have he := fun W => run_neqs (P := Try.prog) W 36 3 (some g) n' c' 0 0 Try.underlying36
          have HI8 := Lib.hid hi8
          have HN8 := Lib.hid hne8
          clear hi8 hne8
          go_wp2
          go_ret2
          exact ⟨some g, n', c', xs, rfl, HR.out, HI8.out, ⟨(fun h => nomatch h), fun h => absurd h HN8.out⟩, bt HB0.out (bt HBR.out HBW.out)⟩
end Go.Proofs.Ytkgdgnmobahhfaa
end

section
/- Rows of observations, Lower. -/
namespace Go.Proofs.Ytkgdgnmobahhfaa
open Go.RowKit Go.Shelf

abbrev TS := List (List Int × List Int)
theorem infoo : (Try.prog.info? 24).map (fun i => (i.zero, i.size, i.bytes)) = some (some (.agg #[.int .i64 0, .slice none 0 0]), 2, 32) := by kernel_rfl
/-- The slice value v is a row of observations in blocks from b on, which the call may write. -/
def ObsL (w1 w : World) (i : Int) (b : Nat) (v : Value) (l : List TS) : Prop :=
  ∃ vs : List Value, w.ownsRow b 24 2 v l.length vs ∧ ∀ j, j < l.length → ∃ A c, vs[2 * j]? = some (.int .i64 i) ∧ vs[2 * j + 1]? = some (.slice A (l.getD j []).length c) ∧ TrsH w1 w b (.slice A (l.getD j []).length c) (l.getD j [])
theorem ObsL.nil (w1 w : World) (i : Int) (b : Nat) : ObsL w1 w i b (.slice none 0 0) [] := ⟨[], World.ownsRow_nil _ _ _ _, fun j h => absurd h (by simp)⟩
theorem ObsL.form {w1 w : World} {i : Int} {b : Nat} {v : Value} {l : List TS} (h : ObsL w1 w i b v l) : ∃ A c, v = .slice A l.length c := by
  obtain ⟨vs, h, _⟩ := h
  rcases h.2 with ⟨rfl, h0⟩ | ⟨g, cap, cur, rfl, _⟩
  · have : l.length = 0 := h0
    exact ⟨none, 0, by rw [this]⟩
  · exact ⟨_, _, rfl⟩
theorem ObsL.keptT {w1 w w' : World} {i : Int} {b : Nat} {v : Value} {l : List TS} (h : ObsL w1 w i b v l) (hk : KeptT 38 w w') (hl : KeptT 24 w w') : ObsL w1 w' i b v l := by
  obtain ⟨vs, h, hr⟩ := h
  refine ⟨vs, ⟨h.1, ?_⟩, fun j hj => ?_⟩
  · rcases h.2 with e | ⟨g, cap, cur, hv, hbg, hg, r⟩
    · exact .inl e
    · exact .inr ⟨g, cap, cur, hv, hbg, hl g cur hg, r⟩
  · obtain ⟨A, c, h1, h2, h3⟩ := hr j hj
    exact ⟨A, c, h1, h2, h3.keptT hk⟩
theorem ObsL.kept {w1 w w' : World} {i : Int} {b : Nat} {v : Value} {l : List TS} (h : ObsL w1 w i b v l) (hb : Below w.heap.size w w') : ObsL w1 w' i b v l := h.keptT (KeptT.of_below hb) (KeptT.of_below hb)
theorem ObsL.at_ {w1 w : World} {i : Int} {b : Nat} {A : Option Addr} {n c : Nat} {l : List TS} (h : ObsL w1 w i b (.slice A n c) l) {j : Nat} (hj : j < n) :
    n = l.length ∧ ∃ g A1 c1, A = some ⟨g, 0, none⟩ ∧ w.cell? ⟨g, j * 2, none⟩ = some (.int .i64 i) ∧ w.cell? ⟨g, j * 2 + 1, none⟩ = some (.slice A1 (l.getD j []).length c1) ∧ TrsH w1 w b (.slice A1 (l.getD j []).length c1) (l.getD j []) := by
  have hn : n = l.length := by obtain ⟨A', c', e⟩ := h.form; cases e; rfl
  refine ⟨hn, ?_⟩
  obtain ⟨vs, ho, hv⟩ := h
  obtain ⟨A1, c1, h1, h2, h3⟩ := hv j (by omega)
  rcases ho.2 with ⟨e, h0⟩ | ⟨g, cap, cur, e, _, hg, _⟩
  · cases e; omega
  · cases e
    have hl := ho.1
    refine ⟨g, A1, c1, rfl, ?_, ?_, h3⟩
    · rw [World.ownsRow.cellAt ho (j * 2) (by omega), Nat.mul_comm, h1]
    · rw [World.ownsRow.cellAt ho (j * 2 + 1) (by omega), Nat.mul_comm j 2, h2]
/-- append of observations to a row of observations. -/
theorem run_append_obs {w1 w : World} {i : Int} {b : Nat} {v : Value} {l : List TS} {A : Option Addr} {c : Nat} {P : TS} (h : ObsL w1 w i b v l) (hx : TrsH w1 w b (.slice A P.length c) P) (hbase : b ≤ w.heap.size) (hl : l.length < 1000000000) :
    ∃ A' c' w', (Builtin.append_ #[119, 119] 119 #[v, .slice (some ⟨w.heap.size, 0, none⟩) 1 1]).run Try.prog (w.alloc (.cells #[.int .i64 i, .slice A P.length c] 24)) = .ok (.slice A' (l.length + 1) c') w' ∧
      ObsL w1 w' i b (.slice A' (l.length + 1) c') (l ++ [P]) ∧ Below b w w' := by
  obtain ⟨ii, hi, hz0, hz1, hz2⟩ := info_parts infoo
  obtain ⟨vs, ho, hv⟩ := h
  have hbz := alloc_below w (.cells #[.int .i64 i, .slice A P.length c] 24)
  have ho1 : (w.alloc (.cells #[.int .i64 i, .slice A P.length c] 24)).ownsRow b 24 2 v l.length vs := by
    refine ⟨ho.1, ?_⟩
    rcases ho.2 with e | ⟨g, cap, cur, hv, hbg, hg, r⟩
    · exact .inl e
    · exact .inr ⟨g, cap, cur, hv, hbg, (hbz.block g (heap_lt hg)).trans hg, r⟩
  obtain ⟨v', w', hr, h1, h2, _, hmv⟩ := run_append_own_at (P := Try.prog) (w.alloc (.cells #[.int .i64 i, .slice A P.length c] 24)) b 119 119 24 ii _ 2 32 Try.underlying119 hi hz0 hz1 hz2 rfl (by decide) v _ _ ho1 ⟨w.heap.size, 0, none⟩ 1 1 [.int .i64 i, .slice A P.length c] (by simp)
    (by
      intro j u hu
      match j with
      | 0 =>
        simp at hu
        subst hu
        simp [Addr.add]
      | 1 =>
        simp at hu
        subst hu
        simp [Addr.add]
      | j + 2 => simp at hu)
    (by intro u hu; simp at hu; rcases hu with rfl | rfl <;> rfl) (by unfold maxLen; omega) (by omega) (Nat.le_trans hbase hbz.size)
  have hs : ∀ t, t ≠ 24 → KeptT t w w' := fun t ht => (KeptT.of_below hbz).trans (KeptT.grown h2 ho1 ht)
  have hform : ∃ A c, v' = .slice A (l.length + 1) c := by
    rcases h1.2 with ⟨rfl, h0⟩ | ⟨g, cap, cur, rfl, _⟩
    · have := h1.1; rw [h0] at this; simp at this
    · exact ⟨_, _, rfl⟩
  obtain ⟨A', c', rfl⟩ := hform
  refine ⟨A', c', w', hr, ⟨vs ++ [.int .i64 i, .slice A P.length c], by rw [List.length_append]; exact h1, fun j hj => ?_⟩, (hbz.mono hbase).trans ((Below.refl _ _).grown h2 (Nat.le_trans hbase hbz.size) (fun k hk => (World.ownsRow.lt ho1 k hk).1))⟩
  have hvl : vs.length = 2 * l.length := by have := ho.1; omega
  by_cases e : j < l.length
  · obtain ⟨A2, c2, h3, h4, h5⟩ := hv j e
    have hg : (l ++ [P]).getD j [] = l.getD j [] := by rw [List.getD_eq_getElem?_getD, List.getD_eq_getElem?_getD, List.getElem?_append_left e]
    rw [hg]
    exact ⟨A2, c2, by rw [List.getElem?_append_left (by omega)]; exact h3, by rw [List.getElem?_append_left (by omega)]; exact h4, h5.keptT (hs _ (by decide))⟩
  · have hjl : j = l.length := by simp at hj; omega
    subst hjl
    have hg : (l ++ [P]).getD l.length [] = P := by simp
    rw [hg]
    exact ⟨A, c, by rw [List.getElem?_append_right (by omega), hvl]; simp, by rw [List.getElem?_append_right (by omega), hvl, show 2 * l.length + 1 - 2 * l.length = 1 by omega]; rfl, hx.keptT (hs _ (by decide))⟩

theorem entL1 : ∀ args w, (callFunc 88 args).run Try.prog w = .ok (.enter 88 args) w := enters_of Try.func88 (by kernel_rfl) rfl

set_option linter.unusedSimpArgs false in
set_option linter.unusedVariables false in
set_option maxHeartbeats 2000000 in
set_option maxRecDepth 100000 in
theorem plow1 (i : Int) (A B : Option Addr) (Br c d : Nat) (P Q : TS) (W : World) (hm : Bx W Br #[.int .i64 i, .slice B Q.length d] 24) (hP : Trs W A P.length P) (hc : P.length ≤ c) (hQ : Trs W B Q.length Q) (hd : Q.length ≤ d)
    (h1 : Srt P ∧ Full P ∧ Cons P ∧ Props i P) (h2 : Srt Q ∧ Full Q ∧ Cons Q ∧ Props i Q) :
    Calls Try.prog 88 #[.agg #[.int .i64 i, .slice A P.length c], .pointer (some ⟨Br, 0, none⟩)] W fun e w' => e = .returned (.bool (!ctr P Q)) ∧ Below W.heap.size W w' := by
  obtain ⟨wa, hwa⟩ : ∃ wa, wa = W.alloc (.cells #[.int .i64 i, .slice A P.length c] 24) := ⟨_, rfl⟩
  have hal : Below W.heap.size W wa := by rw [hwa]; exact alloc_below _ _
  have hbx : Bx wa W.heap.size #[.int .i64 i, .slice A P.length c] 24 := by rw [hwa]; exact bx_new _ _ _
  have HCO := Lib.hid (pcontra i A B c d P Q wa (hP.below hal) hc (hQ.below hal) hd h1 h2)
  have HWA := Lib.hid hwa
  have HAL := Lib.hid hal
  have y0 := (hm.on hal).cell 0
  have y1 := (hm.on hal).cell 1
  have x0 := hbx.cell 0
  have x1 := hbx.cell 1
  simp at x0 x1 y0 y1
  rw [hwa] at x0 x1 y0 y1
  clear hwa hal hbx hm hP hQ h1 h2
  go_enter Try.func88, Try.ntmps88
  go_wp2_with fail
  rw [← HWA.out]
  refine HCO.out.mono ?_
  rintro r w5 ⟨rfl, hb5⟩
  have HB5 := Lib.hid (bt HAL.out hb5)
  clear hb5
  obtain ⟨y, hy⟩ : ∃ y, y = ctr P Q := ⟨_, rfl⟩
  rw [← hy]
  have HY := Lib.hid hy
  clear hy
  go_wp2
  go_ret
  exact ⟨by rw [← HY.out]; rfl, HB5.out⟩

set_option maxHeartbeats 1000000 in
set_option maxRecDepth 100000 in
theorem pidxO (g : Nat) (cap : Value) (pb : Nat → Bool) (w1 : World) (i0 : Int) (b : Nat) (A : Option Addr) (n c : Nat) (l : List TS) (w : World)
    (eg : ∀ args w, (callFunc g args).run Try.prog w = .ok (.enter g args) w) (h : ObsL w1 w i0 b (.slice A n c) l) (hn : n ≤ 1000000000)
    (hcmp : ∀ j, j < n → ∀ A1 c1 W, Below w.heap.size w W → TrsH w1 W b (.slice A1 (l.getD j []).length c1) (l.getD j []) → Calls Try.prog g #[.agg #[.int .i64 i0, .slice A1 (l.getD j []).length c1], cap] W fun e w' => e = .returned (.bool (pb j)) ∧ Below W.heap.size W w') :
    Calls Try.prog 115 #[.slice A n c, .func (.func g) #[] #[cap]] w fun e w' => ∃ i : Int, e = .returned (.int .i64 i) ∧ Hid (0 ≤ i ↔ ∃ j, j < n ∧ pb j = true) ∧ Below w.heap.size w w' := by
  have HT := Lib.hid h
  have HC := Lib.hid hcmp
  clear h hcmp
  go_enter Try.func115, Try.ntmps115
  go_wp2
  go_loopw [8] (fun v8 wr => ∃ k : Nat, k ≤ n ∧ v8 = .int .i64 k ∧ Hid (∀ j, j < k → pb j = false) ∧ Hid (Below w.heap.size w wr)) (fun v8 _ => n - (intOf v8).toNat)
  case atStart => exact ⟨0, Nat.zero_le _, rfl, Lib.hid (fun j hj => absurd hj (Nat.not_lt_zero j)), Lib.hid (Below.refl _ _)⟩
  case round =>
    obtain ⟨k, hk, rfl, HN, HB⟩ := hrel
    by_cases hlt : k < n
    · obtain ⟨gg, A1, c1, rfl, k1, k2, k3⟩ := ((HT.out.kept HB.out).at_ hlt).2
      have hc := HC.out k hlt A1 c1 wr HB.out k3
      obtain ⟨y, hy⟩ : ∃ y, y = pb k := ⟨_, rfl⟩
      rw [← hy] at hc
      have HY := Lib.hid hy
      obtain ⟨m, hm⟩ : ∃ m, m = (l.getD k []).length := ⟨_, rfl⟩
      rw [← hm] at k2 hc
      have HM := Lib.hid hm
      have HCA := Lib.hid hc
      clear hc hy k3 hm
      cases y
      · go_wp2_with (go_at_fn g; refine HCA.out.mono ?_; rintro e w' ⟨rfl, bb⟩)
        have HBB := Lib.hid (bt HB.out bb)
        clear bb
        go_roundw
        case rel => exact ⟨k + 1, by omega, by go_num, Lib.hid (fun j hj => by rcases Nat.lt_or_ge j k with h | h; exact HN.out j h; rw [show j = k by omega]; exact HY.out.symm), HBB⟩
        case measure => simp [intOf]; omega
      · go_wp2_with (go_at_fn g; refine HCA.out.mono ?_; rintro e w' ⟨rfl, bb⟩)
        have HBB := Lib.hid (bt HB.out bb)
        clear bb
        go_ret
        exact ⟨k, rfl, Lib.hid ⟨fun _ => ⟨k, hlt, HY.out.symm⟩, fun _ => Int.natCast_nonneg k⟩, HBB.out⟩
    · obtain rfl : k = n := by omega
      go_wp2
      go_ret
      exact ⟨-1, rfl, Lib.hid ⟨fun h => absurd h (by decide), fun ⟨j, h1, h2⟩ => by rw [HN.out j h1] at h2; cases h2⟩, HB.out⟩

set_option maxHeartbeats 1000000 in
set_option maxRecDepth 100000 in
theorem pcontO (g : Nat) (cap : Value) (pb : Nat → Bool) (r : Bool) (w1 : World) (i0 : Int) (b : Nat) (A : Option Addr) (n c : Nat) (l : List TS) (w : World)
    (eg : ∀ args w, (callFunc g args).run Try.prog w = .ok (.enter g args) w) (h : ObsL w1 w i0 b (.slice A n c) l) (hn : n ≤ 1000000000)
    (hcmp : ∀ j, j < n → ∀ A1 c1 W, Below w.heap.size w W → TrsH w1 W b (.slice A1 (l.getD j []).length c1) (l.getD j []) → Calls Try.prog g #[.agg #[.int .i64 i0, .slice A1 (l.getD j []).length c1], cap] W fun e w' => e = .returned (.bool (pb j)) ∧ Below W.heap.size W w')
    (hr : r = true ↔ ∃ j, j < n ∧ pb j = true) :
    Calls Try.prog 90 #[.slice A n c, .func (.func g) #[] #[cap]] w fun e w' => e = .returned (.bool r) ∧ Below w.heap.size w w' := by
  have HI := Lib.hid (pidxO g cap pb w1 i0 b A n c l w eg h hn hcmp)
  have HR := Lib.hid hr
  clear h hcmp hr
  go_enter Try.func90, Try.ntmps90
  go_wp2_with fail
  refine HI.out.mono ?_
  rintro e w' ⟨i, rfl, hi, hb⟩
  have HB := Lib.hid hb
  have HD := Lib.hid (show decide (0 ≤ i) = r by
    rw [Bool.eq_iff_iff, decide_eq_true_eq, hi.out, HR.out])
  clear hi hb
  go_wp2
  go_ret
  exact ⟨by rw [← HD.out]; rfl, HB.out⟩

/-- The words that Lower keeps of the first k. -/
noncomputable def kepK (ts : TS) (ws : List (List Int)) : Nat → List (List Int)
  | 0 => []
  | k + 1 => open Classical in if ∀ v, v ∈ kepK ts ws k → ctr (aftK ts v ts.length) (aftK ts (ws.getD k []) ts.length) = true then kepK ts ws k ++ [ws.getD k []] else kepK ts ws k
theorem kepK_yes {ts : TS} {ws : List (List Int)} {k : Nat} (h : ∀ v, v ∈ kepK ts ws k → ctr (aftK ts v ts.length) (aftK ts (ws.getD k []) ts.length) = true) : kepK ts ws (k + 1) = kepK ts ws k ++ [ws.getD k []] := by rw [kepK]; exact if_pos h
theorem kepK_no {ts : TS} {ws : List (List Int)} {k : Nat} (h : ¬ ∀ v, v ∈ kepK ts ws k → ctr (aftK ts v ts.length) (aftK ts (ws.getD k []) ts.length) = true) : kepK ts ws (k + 1) = kepK ts ws k := by rw [kepK]; exact if_neg h
theorem kepK_len (ts : TS) (ws : List (List Int)) (k : Nat) : (kepK ts ws k).length ≤ k := by
  induction k with
  | zero => simp [kepK]
  | succ k ih =>
    by_cases h : ∀ v, v ∈ kepK ts ws k → ctr (aftK ts v ts.length) (aftK ts (ws.getD k []) ts.length) = true
    · rw [kepK_yes h, List.length_append]; simp; omega
    · rw [kepK_no h]; omega
/-- What is observed after each of the words. -/
def afts (ts : TS) (l : List (List Int)) : List TS := l.map fun v => aftK ts v ts.length
theorem afts_len (ts : TS) (l : List (List Int)) : (afts ts l).length = l.length := by simp [afts]
theorem afts_at {ts : TS} {l : List (List Int)} {j : Nat} (hj : j < l.length) : (afts ts l).getD j [] = aftK ts (l.getD j []) ts.length := by
  unfold afts
  rw [List.getD_eq_getElem?_getD, List.getD_eq_getElem?_getD, List.getElem?_map, List.getElem?_eq_getElem hj]; rfl
theorem any_not {ts : TS} {l : List (List Int)} {Q : TS} : (∃ j, j < l.length ∧ (!ctr ((afts ts l).getD j []) Q) = true) ↔ ¬ ∀ v, v ∈ l → ctr (aftK ts v ts.length) Q = true := by
  constructor
  · rintro ⟨j, hj, h⟩ hall
    rw [afts_at hj] at h
    have := hall (l.getD j []) (by rw [List.getD_eq_getElem?_getD, List.getElem?_eq_getElem hj]; exact List.getElem_mem _)
    rw [this] at h; cases h
  · intro h
    rw [Classical.not_forall] at h
    obtain ⟨v, h⟩ := h
    rw [Classical.not_imp] at h
    obtain ⟨hv, h⟩ := h
    obtain ⟨j, hj, rfl⟩ := List.getElem_of_mem hv
    refine ⟨j, hj, ?_⟩
    rw [afts_at hj, List.getD_eq_getElem?_getD, List.getElem?_eq_getElem hj]
    simpa using h

set_option linter.unusedSimpArgs false in
set_option linter.unusedVariables false in
set_option maxHeartbeats 4000000 in
set_option maxRecDepth 100000 in
theorem plower (i : Int) (T C : Option Addr) (tn tc n cc : Nat) (ts : TS) (ws : List (List Int)) (w : World) (hT : Trs w T tn ts) (hW : Lists w C n ws) (hS : Srt ts) (hF : Full ts) (hC : Cons ts) (hI : Props i ts) (htn : tn ≤ 100000000) (hnn : n ≤ 100000000) :
    Calls Try.prog 50 #[.agg #[.int .i64 i, .slice T tn tc], .slice C n cc] w fun e w' => e = .returned (.int .i64 (kepK ts ws n).length) ∧ Below w.heap.size w w' := by
  have hlt := hT.1
  have HLT := Lib.hid hT.1
  have HLW := Lib.hid hW.1
  obtain ⟨w1, hw1⟩ : ∃ w1, w1 = w.alloc (.cells #[.int .i64 i, .slice T tn tc] 24) := ⟨_, rfl⟩
  have hb0 : Below w.heap.size w w1 := by rw [hw1]; exact alloc_below _ _
  have m0 : Bx w1 w.heap.size #[.int .i64 i, .slice T tn tc] 24 := by rw [hw1]; exact bx_new _ _ _
  have HS := Lib.hid (fun (W : World) (h : Below w1.heap.size w1 W) => m0.on h)
  have HT := Lib.hid (fun (W : World) (h : Below w1.heap.size w1 W) => (hT.below hb0).below h)
  have HW := Lib.hid (fun (W : World) (h : Below w1.heap.size w1 W) => (hW.below hb0).below h)
  have HB0 := Lib.hid hb0
  have HW1 := Lib.hid hw1
  have HPR := Lib.hid (show ∀ v, Srt (aftK ts v ts.length) ∧ Full (aftK ts v ts.length) ∧ Cons (aftK ts v ts.length) ∧ Props i (aftK ts v ts.length) from fun v => ⟨aftK_srt hS _ (Nat.le_refl _), aftK_full hF (Nat.le_refl _), aftK_cons hC (Nat.le_refl _), aftK_props hI (Nat.le_refl _)⟩)
  have HFF := Lib.hid hF
  have hN := hT.2.1
  clear hT hW hS hF hC hI hb0 m0 hw1 hlt
  go_enter Try.func50, Try.ntmps50
  go_wp2
  rw [← HW1.out]
  go_loopw [12, 5] (fun v12 v5 wr => ∃ (k : Nat) (A' : Option Addr) (c' : Nat), v12 = .int .i64 k ∧ k ≤ n ∧ v5 = .slice A' (kepK ts ws k).length c' ∧ Hid (ObsL w1 wr i w1.heap.size (.slice A' (kepK ts ws k).length c') (afts ts (kepK ts ws k))) ∧ Hid (Below w1.heap.size w1 wr)) (fun v12 _ _ => n - (intOf v12).toNat)
  case atStart => exact ⟨0, none, 0, rfl, Nat.zero_le _, rfl, Lib.hid (ObsL.nil _ _ _ _), Lib.hid (Below.refl _ _)⟩
  case round =>
    obtain ⟨k, A', c', rfl, hk, rfl, HO, HBR⟩ := hrel
    obtain ⟨L, hL⟩ : ∃ L, L = (kepK ts ws k).length := ⟨_, rfl⟩
    rw [← hL] at HO ⊢
    have hLk : L ≤ k := by rw [hL]; exact kepK_len _ _ _
    have HLL := Lib.hid hL
    clear hL
    by_cases hlt : k < n
    · obtain ⟨b, off, Aj, nj, cj, rfl, hgb, j1, j2⟩ := (HW.out _ HBR.out).at_ hlt
      obtain ⟨_, _, Bj, mj, dj, eC, _, i1, i2⟩ := (HW.out _ (Below.refl _ _)).at_ hlt
      cases eC
      have HI := Lib.hid (show Ints w1 Aj nj (ws.getD k []) by
        have e1 := (HBR.out.cell (p := ⟨b, off + k, none⟩) (by assumption)).trans i1
        rw [j1] at e1; cases e1; exact i2)
      have z0 := (HS.out _ HBR.out).cell 0
      have z1 := (HS.out _ HBR.out).cell 1
      simp at z0 z1
      clear i1 i2 j2 hgb
      obtain ⟨u, hu⟩ : ∃ u, u = ws.getD k [] := ⟨_, rfl⟩
      rw [← hu] at HI
      have HU := Lib.hid hu
      obtain ⟨Q, hQ⟩ : ∃ Q, Q = aftK ts u ts.length := ⟨_, rfl⟩
      have HQ := Lib.hid hQ
      have hQl : Q.length ≤ 100000000 := by have := aftK_len ts u ts.length; rw [← hQ, HLT.out] at this; omega
      clear hu hQ
      have haf := pafter22 i T Aj tn tc nj cj ts u w1 wr HBR.out (HT.out _ (Below.refl _ _)) HI.out HFF.out htn
      rw [show aftK ts u tn = Q by rw [HQ.out, HLT.out]] at haf
      have HAF := Lib.hid haf
      clear haf
      go_wp2_with fail
      refine HAF.out.mono ?_
      rintro r w5 ⟨A2, c2, rfl, hA, b5⟩
      have hA := hA.lower HBR.out.size
      obtain ⟨w6, hw6⟩ : ∃ w6, w6 = w5.alloc (.cells #[.int .i64 i, .slice A2 Q.length c2] 24) := ⟨_, rfl⟩
      have hb6 : Below w5.heap.size w5 w6 := by rw [hw6]; exact alloc_below _ _
      have m6 : Bx w6 w5.heap.size #[.int .i64 i, .slice A2 Q.length c2] 24 := by rw [hw6]; exact bx_new _ _ _
      have HW6 := Lib.hid hw6
      have hr6 := bt HBR.out (bt b5 hb6)
      have HR6 := Lib.hid hr6
      have HA6 := Lib.hid (hA.keptT (KeptT.of_below hb6))
      have HO6 := Lib.hid (HO.out.kept (bt b5 hb6))
      have hcap := hA.cap
      obtain ⟨kl, hkl⟩ : ∃ kl, kl = kepK ts ws k := ⟨_, rfl⟩
      have HKL := Lib.hid hkl
      have HLk := Lib.hid (show L = kl.length by rw [hkl]; exact HLL.out)
      have HAL := Lib.hid (show (afts ts kl).length = L by rw [afts_len, HLk.out])
      rw [← hkl] at HO6
      have HPQ : Hid (Srt Q ∧ Full Q ∧ Cons Q ∧ Props i Q) := Lib.hid (by rw [HQ.out]; exact HPR.out u)
      have HPJ := Lib.hid (show ∀ j, j < L → (Srt ((afts ts kl).getD j []) ∧ Full ((afts ts kl).getD j []) ∧ Cons ((afts ts kl).getD j []) ∧ Props i ((afts ts kl).getD j [])) ∧ ((afts ts kl).getD j []).length ≤ 17592186044416 from fun j hj => by
        rw [afts_at (by rw [← HLk.out]; exact hj)]
        refine ⟨HPR.out _, ?_⟩
        have := aftK_len ts (kl.getD j []) ts.length
        rw [HLT.out] at this ⊢
        omega)
      have HCMP := Lib.hid (show ∀ j, j < L → ∀ A1 c1 W, Below w6.heap.size w6 W → TrsH w1 W w1.heap.size (.slice A1 ((afts ts kl).getD j []).length c1) ((afts ts kl).getD j []) → Calls Try.prog 88 #[.agg #[.int .i64 i, .slice A1 ((afts ts kl).getD j []).length c1], .pointer (some ⟨w5.heap.size, 0, none⟩)] W fun e w' => e = .returned (.bool (!ctr ((afts ts kl).getD j []) Q)) ∧ Below W.heap.size W w' from
        fun j hj A1 c1 W hbW hTH => plow1 i A1 A2 w5.heap.size c1 c2 _ Q W (m6.on hbW) (hTH.trs (bt hr6 hbW) (HPJ.out j hj).2) hTH.cap ((HA6.out.trs hr6 (by omega)).below hbW) hcap (HPJ.out j hj).1 HPQ.out)
      by_cases hall : ∀ v, v ∈ kl → ctr (aftK ts v ts.length) Q = true
      · have HR := Lib.hid (show (false = true) ↔ ∃ j, j < L ∧ (fun j => !ctr ((afts ts kl).getD j []) Q) j = true from ⟨(fun h => nomatch h), fun h => absurd hall (any_not.1 (by rw [← HLk.out]; exact h))⟩)
        have HCF := Lib.hid (pcontO 88 (.pointer (some ⟨w5.heap.size, 0, none⟩)) (fun j => !ctr ((afts ts kl).getD j []) Q) false w1 i w1.heap.size A' L c' (afts ts kl) w6 entL1 HO6.out (by omega) HCMP.out HR.out)
        have HNX := Lib.hid (show kepK ts ws (k + 1) = kl ++ [u] by rw [kepK_yes, ← hkl, ← HU.out]; rw [← hkl, ← HU.out, ← HQ.out]; exact hall)
        have HM6 := Lib.hid m6
        clear hall m6 hr6 hA hb6 hw6 b5 hkl z0 z1
        go_wp2_with fail
        rw [← HW6.out]
        refine HCF.out.mono ?_
        rintro r w7 ⟨rfl, b7⟩
        have m7 := HM6.out.on b7
        have z0 := m7.cell 0
        have z1 := m7.cell 1
        simp at z0 z1
        have hO7 := HO6.out.kept b7
        have hA7 := HA6.out.keptT (KeptT.of_below b7)
        obtain ⟨A9, c9, w9, hrn, o9, b9⟩ := run_append_obs hO7 hA7 (bt HR6.out b7).size (by rw [HAL.out]; omega)
        rw [HAL.out] at hrn o9
        have HO9 := Lib.hid o9
        have HB9 := Lib.hid ((bt HR6.out b7).trans b9)
        have HEL := Lib.hid (show (kepK ts ws (k + 1)).length = L + 1 by rw [HNX.out, List.length_append, ← HLk.out]; rfl)
        have HEA := Lib.hid (show afts ts (kepK ts ws (k + 1)) = afts ts kl ++ [Q] by rw [HNX.out, HQ.out]; unfold afts; rw [List.map_append]; rfl)
        clear m7 hO7 hA7 o9 b9 b7
        go_wp2_with (at_builtin; refine Lib.wpList_append_run _ rfl _ _ _ _ rfl _ _ rfl rfl _ _ hrn ?_)
        go_roundw
        case rel => exact ⟨k + 1, A9, c9, by go_num, by omega, by rw [HEL.out], by rw [HEL.out, HEA.out]; exact HO9, HB9⟩
        case measure => simp [intOf]; omega
      · have HR := Lib.hid (show (true = true) ↔ ∃ j, j < L ∧ (fun j => !ctr ((afts ts kl).getD j []) Q) j = true from ⟨fun _ => by have := any_not.2 hall; rw [← HLk.out] at this; exact this, fun _ => rfl⟩)
        have HCF := Lib.hid (pcontO 88 (.pointer (some ⟨w5.heap.size, 0, none⟩)) (fun j => !ctr ((afts ts kl).getD j []) Q) true w1 i w1.heap.size A' L c' (afts ts kl) w6 entL1 HO6.out (by omega) HCMP.out HR.out)
        have HNX := Lib.hid (show kepK ts ws (k + 1) = kl by rw [kepK_no, ← hkl]; rw [← hkl, ← HU.out, ← HQ.out]; exact hall)
        clear hall m6 hr6 hA hb6 hw6 b5 hkl z0 z1
        go_wp2_with fail
        rw [← HW6.out]
        refine HCF.out.mono ?_
        rintro r w7 ⟨rfl, b7⟩
        have HO7 := Lib.hid (HO6.out.kept b7)
        have HB7 := Lib.hid (bt HR6.out b7)
        clear b7
        go_wp2_with fail
        go_roundw
        case rel => exact ⟨k + 1, A', c', by go_num, by omega, by rw [HNX.out, ← HLk.out], by rw [HNX.out, ← HLk.out]; exact HO7, HB7⟩
        case measure => simp [intOf]; omega
    · obtain rfl : k = n := by omega
      go_wp2
      go_ret
      exact ⟨by rw [← HLL.out]; rfl, bt HB0.out HBR.out⟩
end Go.Proofs.Ytkgdgnmobahhfaa
end

section
/- Lists and machines that are equal: Equal, EqualFunc, equal, Same; the reference's Ints, Lists, Same. -/
namespace Go.Proofs.Ytkgdgnmobahhfaa
open Go.RowKit

set_option maxHeartbeats 1000000 in
theorem rints (A B : Option Addr) (n c m d : Nat) (xs ys : List Int) (b : Bool) (w : World) (hx : Ints w A n xs) (hy : Ints w B m ys) (hb : b = decide (xs = ys)) :
    Calls Try.prog 28 #[.slice A n c, .slice B m d] w fun e w' => e = .returned (.bool b) ∧ ∃ q, w' = w.drewN q := by
  have L1 := Lib.hid hx.1
  have L2 := Lib.hid hy.1
  have hn := hx.2.1
  have hm := hy.2.1
  by_cases hnm : n = m
  · subst hnm
    have HB := Lib.hid hb
    clear hb
    go_enter Try.func28, Try.ntmps28
    go_wp2
    go_loopw [5] (fun i wr => ∃ j q : Nat, j ≤ n ∧ i = .int .i64 j ∧ AgreeL 0 xs ys j ∧ wr = w.drewN q) (fun i _ => n - (intOf i).toNat)
    case atStart => exact ⟨0, 0, Nat.zero_le _, rfl, AgreeL.zero _ _ _, rfl⟩
    case round =>
      obtain ⟨j, q, hj, rfl, heq, rfl⟩ := hrel
      have HE := Lib.hid heq
      clear heq
      by_cases hlt : j < n
      · obtain ⟨g1, o1, rfl, _, hc1⟩ := hx.at_ hlt
        obtain ⟨g2, o2, rfl, _, hc2⟩ := hy.at_ hlt
        by_cases he : xs.getD j 0 = ys.getD j 0
        · have hnx := Lib.hid (HE.out.succ he)
          rw [← he] at hc2
          generalize xs.getD j 0 = y at hc1 hc2
          clear he
          go_wp2
          go_quiet (fail)
          go_wp2
          go_roundw
          case rel => exact ⟨j + 1, _, by omega, by go_num, hnx.out, rfl⟩
          case measure => simp [intOf]; omega
        · have hfin : Hid (b = false) := Lib.hid (HB.out.trans (decide_eq_false fun e => he (by rw [e])))
          have hne : (xs.getD j 0 != ys.getD j 0) = true := by simpa using he
          generalize xs.getD j 0 = y at hc1 hne
          generalize ys.getD j 0 = z at hc2 hne
          clear he
          go_wp2
          go_quiet (fail)
          go_wp2
          go_ret
          exact ⟨ret_bool hfin.out.symm, by first | exact ⟨_, rfl⟩ | exact ⟨_, World.drewN_drewN _ _ _⟩⟩
      · obtain rfl : j = n := by omega
        have hfin : Hid (b = true) := Lib.hid (HB.out.trans (decide_eq_true (HE.out.all L1.out L2.out)))
        go_wp2
        go_ret
        exact ⟨ret_bool hfin.out.symm, by first | exact ⟨_, rfl⟩ | exact ⟨_, World.drewN_drewN _ _ _⟩⟩
  · have hfin : Hid (b = false) := Lib.hid (hb.trans (decide_eq_false fun e => hnm (by rw [← L1.out, ← L2.out, e])))
    have hd : ((n : Int) != (m : Int)) = true := by simp; omega
    clear hnm hb
    go_enter Try.func28, Try.ntmps28
    go_wp2
    go_ret
    exact ⟨ret_bool hfin.out.symm, 0, rfl⟩

set_option maxHeartbeats 1000000 in
theorem sequal (A B : Option Addr) (n c m d : Nat) (xs ys : List Int) (b : Bool) (w : World) (hx : Ints w A n xs) (hy : Ints w B m ys) (hb : b = decide (xs = ys)) :
    Calls Try.prog 64 #[.slice A n c, .slice B m d] w fun e w' => e = .returned (.bool b) ∧ ∃ q, w' = w.drewN q := by
  have L1 := Lib.hid hx.1
  have L2 := Lib.hid hy.1
  have hn := hx.2.1
  have hm := hy.2.1
  by_cases hnm : n = m
  · subst hnm
    have HB := Lib.hid hb
    clear hb
    go_enter Try.func64, Try.ntmps64
    go_wp2
    go_loopw [13] (fun i wr => ∃ j q : Nat, j ≤ n ∧ i = .int .i64 j ∧ AgreeL 0 xs ys j ∧ wr = w.drewN q) (fun i _ => n - (intOf i).toNat)
    case atStart => exact ⟨0, 0, Nat.zero_le _, rfl, AgreeL.zero _ _ _, rfl⟩
    case round =>
      obtain ⟨j, q, hj, rfl, heq, rfl⟩ := hrel
      have HE := Lib.hid heq
      clear heq
      by_cases hlt : j < n
      · obtain ⟨g1, o1, rfl, _, hc1⟩ := hx.at_ hlt
        obtain ⟨g2, o2, rfl, _, hc2⟩ := hy.at_ hlt
        by_cases he : xs.getD j 0 = ys.getD j 0
        · have hnx := Lib.hid (HE.out.succ he)
          rw [← he] at hc2
          generalize xs.getD j 0 = y at hc1 hc2
          clear he
          go_wp2
          go_quiet (fail)
          go_wp2
          go_roundw
          case rel => exact ⟨j + 1, _, by omega, by go_num, hnx.out, rfl⟩
          case measure => simp [intOf]; omega
        · have hfin : Hid (b = false) := Lib.hid (HB.out.trans (decide_eq_false fun e => he (by rw [e])))
          have hne : (xs.getD j 0 != ys.getD j 0) = true := by simpa using he
          generalize xs.getD j 0 = y at hc1 hne
          generalize ys.getD j 0 = z at hc2 hne
          clear he
          go_wp2
          go_quiet (fail)
          go_wp2
          go_ret
          exact ⟨ret_bool hfin.out.symm, by first | exact ⟨_, rfl⟩ | exact ⟨_, World.drewN_drewN _ _ _⟩⟩
      · obtain rfl : j = n := by omega
        have hfin : Hid (b = true) := Lib.hid (HB.out.trans (decide_eq_true (HE.out.all L1.out L2.out)))
        go_wp2
        go_ret
        exact ⟨ret_bool hfin.out.symm, by first | exact ⟨_, rfl⟩ | exact ⟨_, World.drewN_drewN _ _ _⟩⟩
  · have hfin : Hid (b = false) := Lib.hid (hb.trans (decide_eq_false fun e => hnm (by rw [← L1.out, ← L2.out, e])))
    have hd : ((n : Int) != (m : Int)) = true := by simp; omega
    clear hnm hb
    go_enter Try.func64, Try.ntmps64
    go_wp2
    go_ret
    exact ⟨ret_bool hfin.out.symm, 0, rfl⟩

theorem drew_trans {w wr w2 : World} (h : ∃ q, wr = w.drewN q) (h2 : ∃ q, w2 = wr.drewN q) : ∃ q, w2 = w.drewN q := by
  obtain ⟨q, rfl⟩ := h2
  exact drew_more h q

end Go.Proofs.Ytkgdgnmobahhfaa
end

section
/- The examples of the chapter: awake of hypothesis. -/
namespace Go.Proofs.Ytkgdgnmobahhfaa
open Go.RowKit

theorem Trs.two {w : World} {A1 A2 B1 B2 : Option Addr} {n1 c1 n2 c2 m1 d1 m2 d2 : Nat} {x1 y1 x2 y2 : List Int} (h1 : Ints w A1 n1 x1) (k1 : Ints w A2 n2 y1) (h2 : Ints w B1 m1 x2) (k2 : Ints w B2 m2 y2) (q1 : n1 ≤ c1) (q2 : n2 ≤ c2) (q3 : m1 ≤ d1) (q4 : m2 ≤ d2) :
    Trs (w.alloc (.cells #[.slice A1 n1 c1, .slice A2 n2 c2, .slice B1 m1 d1, .slice B2 m2 d2] 38)) (some ⟨w.heap.size, 0, none⟩) 2 [(x1, y1), (x2, y2)] := by
  have hb := alloc_below w (.cells #[.slice A1 n1 c1, .slice A2 n2 c2, .slice B1 m1 d1, .slice B2 m2 d2] 38)
  refine ⟨rfl, by omega, fun _ => ⟨w.heap.size, 0, rfl, by simp, fun j hj => ?_⟩⟩
  rcases Nat.lt_or_ge j 1 with h | h
  · obtain rfl : j = 0 := by omega
    exact ⟨A1, n1, c1, A2, n2, c2, by simp, by simp, q1, q2, h1.below hb, k1.below hb⟩
  · obtain rfl : j = 1 := by omega
    exact ⟨B1, m1, d1, B2, m2, d2, by simp, by simp, q3, q4, h2.below hb, k2.below hb⟩

/-- The traces of the example. -/
def tsX : TS := [([1], [0]), ([0, 1], [1, 2])]
theorem mokX : Mok 2 0 1 [[0, 0]] [[1, 0]] := by
  refine ⟨by omega, by omega, by omega, by omega, by omega, rfl, rfl, fun s hs => ?_⟩
  obtain rfl : s = 0 := by omega
  refine ⟨rfl, rfl, fun a ha => ?_⟩
  rcases Nat.lt_or_ge a 1 with h | h
  · obtain rfl : a = 0 := by omega
    decide
  · obtain rfl : a = 1 := by omega
    decide
theorem fullX : Full tsX := fun j hj => by
  have : j = 0 ∨ j = 1 := by have : tsX.length = 2 := rfl; omega
  rcases this with rfl | rfl <;> rfl
theorem srtX : Srt tsX := fun i j h hj => by
  have : tsX.length = 2 := rfl
  obtain rfl : i = 0 := by omega
  obtain rfl : j = 1 := by omega
  decide
theorem consX : Cons tsX := fun a b ha hb j hj => by
  have hl : tsX.length = 2 := rfl
  have h1 : a = 0 ∨ a = 1 := by omega
  have h2 : b = 0 ∨ b = 1 := by omega
  rcases h1 with rfl | rfl <;> rcases h2 with rfl | rfl
  · rfl
  · exact absurd hj (by rw [show cmn (tIn tsX 0) (tIn tsX 1) = 0 by decide]; omega)
  · exact absurd hj (by rw [show cmn (tIn tsX 1) (tIn tsX 0) = 0 by decide]; omega)
  · rfl
theorem chkX (xs : List Int) (h : ∀ x, x ∈ xs → 0 ≤ x ∧ x < 2) (hl : xs.length ≤ 1024) : chk xs 2 = 0 := chk_ok (by omega) (by omega) fun j hj => by
  rw [List.getD_eq_getElem?_getD, List.getElem?_eq_getElem hj]
  exact h _ (List.getElem_mem _)
theorem propsX : Props 2 tsX := fun j hj => by
  have : tsX.length = 2 := rfl
  have : j = 0 ∨ j = 1 := by omega
  unfold prpE
  rcases this with rfl | rfl
  · have h : chk (tIn tsX 0) 2 = 0 := chkX [1] (by decide) (by decide)
    rw [if_pos h]; exact ansE_ok rfl (by decide)
  · have h : chk (tIn tsX 1) 2 = 0 := chkX [0, 1] (by decide) (by decide)
    rw [if_pos h]; exact ansE_ok rfl (by decide)
theorem rfX : Fst1 (Rf [[0, 0]] [[1, 0]] 0 tsX 2) [0, 1] := by
  refine .inr ⟨⟨1, by omega, by decide, by decide⟩, by decide, fun x ⟨j, h1, h2, h3⟩ => ?_⟩
  have : j = 0 ∨ j = 1 := by omega
  rcases this with rfl | rfl
  · exact absurd h2 (by decide)
  · rw [h3]; decide
theorem aftX0 : aftK tsX [] 2 = tsX := by decide
theorem aftX1 : aftK tsX [0] 2 = [([1], [2])] := by decide
theorem shX : ShK tsX [([1], [2])] 2 [1] := ⟨0, by omega, by decide, by decide, 0, by decide, by decide, by decide⟩
theorem apX : Fst1 (ShK tsX [([1], [2])] 2) [1] := by
  refine .inr ⟨shX, by decide, fun x ⟨a, _, _, h2, b, h3, h4, _⟩ => ?_⟩
  obtain rfl : b = 0 := by simp at h3; exact h3
  have h5 : x.length ≤ 1 := h4.length_le
  rw [show x = [1] by
    have h6 : x <+: [1] := h4
    exact h6.eq_of_length (by simp; omega)]
  decide
theorem ctrX : ctr tsX [([1], [2])] = true := by
  obtain ⟨a, h1, h2⟩ := shX
  exact (ctr_any _ _).2 ⟨a, h1, (ctr1_iff _ _ _).2 ⟨[1], h2⟩⟩
theorem kepX : (kepK tsX [[], [0]] 2).length = 2 := by
  have h1 : kepK tsX [[], [0]] 1 = [[]] := by rw [kepK_yes fun v hv => by simp [kepK] at hv]; rfl
  rw [kepK_yes fun v hv => by
    rw [h1] at hv
    obtain rfl : v = [] := by simpa using hv
    exact (congrArg (fun q => ctr q (aftK tsX [0] 2)) aftX0).trans ((congrArg (ctr tsX) aftX1).trans ctrX), h1]
  rfl
theorem hvX : hvE 2 0 [[0, 0]] [[1, 0]] [[]] = 0 := by
  refine hvE_ok mokX.vld rfl ?_ rfl
  show hvF 2 0 [[0, 0]] 0 [[]] = 0
  rw [hvF, if_pos (chkX [] (by decide) (by decide))]
  rfl
theorem stX : stW 2 0 [[0, 0]] [[]] [0, 1] = [] ∧ chk [0, 1] 2 = 0 := by
  have h := chkX [0, 1] (by decide) (by decide)
  refine ⟨?_, h⟩
  unfold stW
  rw [if_pos h]
  rfl

set_option linter.unusedSimpArgs false in
set_option linter.unusedVariables false in
set_option maxHeartbeats 8000000 in
set_option maxRecDepth 100000 in
theorem awake22 (w : World) : Calls Try.prog 40 #[] w fun e w' => e = .returned (.bool true) ∧ Below w.heap.size w w' := by
  obtain ⟨w1, hw1⟩ : ∃ w1, w1 = w.alloc (.cells #[.int .i64 0, .int .i64 0] 3) := ⟨_, rfl⟩
  have b1 : Below w.heap.size w w1 := by rw [hw1]; exact alloc_below _ _
  have s1 : w1.heap.size = w.heap.size + 1 := by rw [hw1]; simp
  obtain ⟨w2, hw2⟩ : ∃ w2, w2 = w1.alloc (.cells #[.slice (some ⟨w.heap.size, 0, none⟩) 2 2] 36) := ⟨_, rfl⟩
  have b2 : Below w1.heap.size w1 w2 := by rw [hw2]; exact alloc_below _ _
  have s2 : w2.heap.size = w.heap.size + 1 + 1 := by rw [hw2]; simp [s1]
  obtain ⟨w3, hw3⟩ : ∃ w3, w3 = w2.alloc (.cells #[.int .i64 1, .int .i64 0] 3) := ⟨_, rfl⟩
  have b3 : Below w2.heap.size w2 w3 := by rw [hw3]; exact alloc_below _ _
  have s3 : w3.heap.size = w.heap.size + 1 + 1 + 1 := by rw [hw3]; simp [s2]
  obtain ⟨w4, hw4⟩ : ∃ w4, w4 = w3.alloc (.cells #[.slice (some ⟨w.heap.size + 1 + 1, 0, none⟩) 2 2] 36) := ⟨_, rfl⟩
  have b4 : Below w3.heap.size w3 w4 := by rw [hw4]; exact alloc_below _ _
  have s4 : w4.heap.size = w.heap.size + 1 + 1 + 1 + 1 := by rw [hw4]; simp [s3]
  obtain ⟨w5, hw5⟩ : ∃ w5, w5 = w4.alloc (.cells #[.slice none 0 0] 36) := ⟨_, rfl⟩
  have b5 : Below w4.heap.size w4 w5 := by rw [hw5]; exact alloc_below _ _
  have s5 : w5.heap.size = w.heap.size + 1 + 1 + 1 + 1 + 1 := by rw [hw5]; simp [s4]
  obtain ⟨w6, hw6⟩ : ∃ w6, w6 = w5.alloc (.cells #[.int .i64 2, .int .i64 0, .slice (some ⟨w.heap.size + 1, 0, none⟩) 1 1, .slice (some ⟨w.heap.size + 1 + 1 + 1, 0, none⟩) 1 1, .slice (some ⟨w.heap.size + 1 + 1 + 1 + 1, 0, none⟩) 1 1] 65) := ⟨_, rfl⟩
  have b6 : Below w5.heap.size w5 w6 := by rw [hw6]; exact alloc_below _ _
  have s6 : w6.heap.size = w.heap.size + 1 + 1 + 1 + 1 + 1 + 1 := by rw [hw6]; simp [s5]
  obtain ⟨w7, hw7⟩ : ∃ w7, w7 = w6.alloc (.cells #[.int .i64 1] 3) := ⟨_, rfl⟩
  have b7 : Below w6.heap.size w6 w7 := by rw [hw7]; exact alloc_below _ _
  have s7 : w7.heap.size = w.heap.size + 1 + 1 + 1 + 1 + 1 + 1 + 1 := by rw [hw7]; simp [s6]
  obtain ⟨w8, hw8⟩ : ∃ w8, w8 = w7.alloc (.cells #[.int .i64 0] 3) := ⟨_, rfl⟩
  have b8 : Below w7.heap.size w7 w8 := by rw [hw8]; exact alloc_below _ _
  have s8 : w8.heap.size = w.heap.size + 1 + 1 + 1 + 1 + 1 + 1 + 1 + 1 := by rw [hw8]; simp [s7]
  obtain ⟨w9, hw9⟩ : ∃ w9, w9 = w8.alloc (.cells #[.int .i64 0, .int .i64 1] 3) := ⟨_, rfl⟩
  have b9 : Below w8.heap.size w8 w9 := by rw [hw9]; exact alloc_below _ _
  have s9 : w9.heap.size = w.heap.size + 1 + 1 + 1 + 1 + 1 + 1 + 1 + 1 + 1 := by rw [hw9]; simp [s8]
  obtain ⟨w10, hw10⟩ : ∃ w10, w10 = w9.alloc (.cells #[.int .i64 1, .int .i64 2] 3) := ⟨_, rfl⟩
  have b10 : Below w9.heap.size w9 w10 := by rw [hw10]; exact alloc_below _ _
  have s10 : w10.heap.size = w.heap.size + 1 + 1 + 1 + 1 + 1 + 1 + 1 + 1 + 1 + 1 := by rw [hw10]; simp [s9]
  obtain ⟨w11, hw11⟩ : ∃ w11, w11 = w10.alloc (.cells #[.slice (some ⟨w.heap.size + 1 + 1 + 1 + 1 + 1 + 1, 0, none⟩) 1 1, .slice (some ⟨w.heap.size + 1 + 1 + 1 + 1 + 1 + 1 + 1, 0, none⟩) 1 1, .slice (some ⟨w.heap.size + 1 + 1 + 1 + 1 + 1 + 1 + 1 + 1, 0, none⟩) 2 2, .slice (some ⟨w.heap.size + 1 + 1 + 1 + 1 + 1 + 1 + 1 + 1 + 1, 0, none⟩) 2 2] 38) := ⟨_, rfl⟩
  have b11 : Below w10.heap.size w10 w11 := by rw [hw11]; exact alloc_below _ _
  have s11 : w11.heap.size = w.heap.size + 1 + 1 + 1 + 1 + 1 + 1 + 1 + 1 + 1 + 1 + 1 := by rw [hw11]; simp [s10]
  obtain ⟨w12, hw12⟩ : ∃ w12, w12 = w11.alloc (.cells #[.int .i64 2, .slice (some ⟨w.heap.size + 1 + 1 + 1 + 1 + 1 + 1 + 1 + 1 + 1 + 1, 0, none⟩) 2 2] 24) := ⟨_, rfl⟩
  have b12 : Below w11.heap.size w11 w12 := by rw [hw12]; exact alloc_below _ _
  have s12 : w12.heap.size = w.heap.size + 1 + 1 + 1 + 1 + 1 + 1 + 1 + 1 + 1 + 1 + 1 + 1 := by rw [hw12]; simp [s11]
  have i0 : Ints w1 (some ⟨w.heap.size, 0, none⟩) 2 [0, 0] := by rw [hw1]; have := Ints.new w [0, 0] #[.int .i64 0, .int .i64 0] 2 rfl rfl (by simp);  exact this
  have r1 : Lists w2 (some ⟨w.heap.size + 1, 0, none⟩) 1 [[0, 0]] := by rw [hw2]; have := Lists.one (c := 2) (i0); rw [s1] at this; exact this
  have i2 : Ints w3 (some ⟨w.heap.size + 1 + 1, 0, none⟩) 2 [1, 0] := by rw [hw3]; have := Ints.new w2 [1, 0] #[.int .i64 1, .int .i64 0] 2 rfl rfl (by simp); rw [s2] at this; exact this
  have r3 : Lists w4 (some ⟨w.heap.size + 1 + 1 + 1, 0, none⟩) 1 [[1, 0]] := by rw [hw4]; have := Lists.one (c := 2) (i2); rw [s3] at this; exact this
  have r4 : Lists w5 (some ⟨w.heap.size + 1 + 1 + 1 + 1, 0, none⟩) 1 [[]] := by rw [hw5]; have := Lists.one (c := 0) (Ints.none_ w4); rw [s4] at this; exact this
  have i6 : Ints w7 (some ⟨w.heap.size + 1 + 1 + 1 + 1 + 1 + 1, 0, none⟩) 1 [1] := by rw [hw7]; have := Ints.new w6 [1] #[.int .i64 1] 1 rfl rfl (by simp); rw [s6] at this; exact this
  have i7 : Ints w8 (some ⟨w.heap.size + 1 + 1 + 1 + 1 + 1 + 1 + 1, 0, none⟩) 1 [0] := by rw [hw8]; have := Ints.new w7 [0] #[.int .i64 0] 1 rfl rfl (by simp); rw [s7] at this; exact this
  have i8 : Ints w9 (some ⟨w.heap.size + 1 + 1 + 1 + 1 + 1 + 1 + 1 + 1, 0, none⟩) 2 [0, 1] := by rw [hw9]; have := Ints.new w8 [0, 1] #[.int .i64 0, .int .i64 1] 2 rfl rfl (by simp); rw [s8] at this; exact this
  have i9 : Ints w10 (some ⟨w.heap.size + 1 + 1 + 1 + 1 + 1 + 1 + 1 + 1 + 1, 0, none⟩) 2 [1, 2] := by rw [hw10]; have := Ints.new w9 [1, 2] #[.int .i64 1, .int .i64 2] 2 rfl rfl (by simp); rw [s9] at this; exact this
  have t10 : Trs w11 (some ⟨w.heap.size + 1 + 1 + 1 + 1 + 1 + 1 + 1 + 1 + 1 + 1, 0, none⟩) 2 tsX := by rw [hw11]; have := Trs.two (c1 := 1) (c2 := 1) (d1 := 2) (d2 := 2) ((((i6).below b8).below b9).below b10) (((i7).below b9).below b10) ((i8).below b10) i9 (by omega) (by omega) (by omega) (by omega); rw [s10] at this; exact this
  have m5 : Bx w6 (w.heap.size + 1 + 1 + 1 + 1 + 1) #[.int .i64 2, .int .i64 0, .slice (some ⟨w.heap.size + 1, 0, none⟩) 1 1, .slice (some ⟨w.heap.size + 1 + 1 + 1, 0, none⟩) 1 1, .slice (some ⟨w.heap.size + 1 + 1 + 1 + 1, 0, none⟩) 1 1] 65 := by rw [hw6]; have := bx_new w5 #[.int .i64 2, .int .i64 0, .slice (some ⟨w.heap.size + 1, 0, none⟩) 1 1, .slice (some ⟨w.heap.size + 1 + 1 + 1, 0, none⟩) 1 1, .slice (some ⟨w.heap.size + 1 + 1 + 1 + 1, 0, none⟩) 1 1] 65; rw [s5] at this; exact this
  have m11 : Bx w12 (w.heap.size + 1 + 1 + 1 + 1 + 1 + 1 + 1 + 1 + 1 + 1 + 1) #[.int .i64 2, .slice (some ⟨w.heap.size + 1 + 1 + 1 + 1 + 1 + 1 + 1 + 1 + 1 + 1, 0, none⟩) 2 2] 24 := by rw [hw12]; have := bx_new w11 #[.int .i64 2, .slice (some ⟨w.heap.size + 1 + 1 + 1 + 1 + 1 + 1 + 1 + 1 + 1 + 1, 0, none⟩) 2 2] 24; rw [s11] at this; exact this
  have hb : Below w.heap.size w w12 := (bt (bt (bt (bt (bt (bt (bt (bt (bt (bt (bt b1 b2) b3) b4) b5) b6) b7) b8) b9) b10) b11) b12)
  have HN := Lib.hid (fun (W : World) (h : Below w12.heap.size w12 W) => (((((((((((r1).below b3).below b4).below b5).below b6).below b7).below b8).below b9).below b10).below b11).below b12).below h)
  have HO := Lib.hid (fun (W : World) (h : Below w12.heap.size w12 W) => (((((((((r3).below b5).below b6).below b7).below b8).below b9).below b10).below b11).below b12).below h)
  have HC := Lib.hid (fun (W : World) (h : Below w12.heap.size w12 W) => ((((((((r4).below b6).below b7).below b8).below b9).below b10).below b11).below b12).below h)
  have HT := Lib.hid (fun (W : World) (h : Below w12.heap.size w12 W) => ((t10).below b12).below h)
  have HH := Lib.hid (fun (W : World) (h : Below w12.heap.size w12 W) => ((((((m5.on b7).on b8).on b9).on b10).on b11).on b12).on h)
  have HB := Lib.hid (fun (W : World) (h : Below w12.heap.size w12 W) => m11.on h)
  have HB0 := Lib.hid hb
  have HW1 := Lib.hid hw1
  have HW2 := Lib.hid hw2
  have HW3 := Lib.hid hw3
  have HW4 := Lib.hid hw4
  have HW5 := Lib.hid hw5
  have HW6 := Lib.hid hw6
  have HW7 := Lib.hid hw7
  have HW8 := Lib.hid hw8
  have HW9 := Lib.hid hw9
  have HW10 := Lib.hid hw10
  have HW11 := Lib.hid hw11
  have HW12 := Lib.hid hw12
  have hbc := Below.refl w12.heap.size w12
  clear hw1 b1 s1 hw2 b2 s2 hw3 b3 s3 hw4 b4 s4 hw5 b5 s5 hw6 b6 s6 hw7 b7 s7 hw8 b8 s8 hw9 b9 s9 hw10 b10 s10 hw11 b11 s11 hw12 b12 s12 i0 r1 i2 r3 r4 i6 i7 i8 i9 t10 m5 m11 hb
  go_enter Try.func40, Try.ntmps40
  go_wp2_with fail
  rw [← HW1.out, ← HW2.out, ← HW3.out, ← HW4.out, ← HW5.out, ← HW6.out, ← HW7.out, ← HW8.out, ← HW9.out, ← HW10.out, ← HW11.out, ← HW12.out]
  refine (phrefuted 2 0 1 (some ⟨w.heap.size + 1, 0, none⟩) (some ⟨w.heap.size + 1 + 1 + 1, 0, none⟩) (some ⟨w.heap.size + 1 + 1 + 1 + 1, 0, none⟩) (some ⟨w.heap.size + 1 + 1 + 1 + 1 + 1 + 1 + 1 + 1 + 1 + 1, 0, none⟩) 1 1 1 1 2 2 [[0, 0]] [[1, 0]] tsX w12 (HN.out _ hbc) (HO.out _ hbc) mokX (HT.out _ hbc) fullX propsX (by omega)).mono ?_
  rintro r x1 ⟨A1, n1, c1, xs1, q1, rfl, hf1, hi1, hq1, a1⟩
  obtain rfl := hf1.uniq rfX
  obtain rfl : q1 = true := hq1.2 (by simp)
  have hbc := bt hbc a1
  have HI1 := Lib.hid (fun (W : World) (h : Below x1.heap.size x1 W) => hi1.below h)
  clear hf1 hi1 hq1 a1
  have z0 := (HB.out _ hbc).cell 0
  have z1 := (HB.out _ hbc).cell 1
  simp at z0 z1
  obtain ⟨y1, hy1⟩ : ∃ y1, y1 = x1.alloc (.cells #[.int .i64 0] 3) := ⟨_, rfl⟩
  have c1' : Below x1.heap.size x1 y1 := by rw [hy1]; exact alloc_below _ _
  have j1 : Ints y1 (some ⟨x1.heap.size, 0, none⟩) 1 [0] := by rw [hy1]; exact Ints.new x1 [0] _ 1 rfl rfl (by simp)
  have HY1 := Lib.hid hy1
  have hbd := bt hbc c1'
  go_wp2_with fail
  rw [← HY1.out]
  refine (papart 2 (some ⟨w.heap.size + 1 + 1 + 1 + 1 + 1 + 1 + 1 + 1 + 1 + 1, 0, none⟩) none (some ⟨x1.heap.size, 0, none⟩) 2 2 0 0 1 1 tsX [] [0] y1 (HT.out _ hbd) (Ints.none_ y1) j1 fullX srtX consX propsX (by omega)).mono ?_
  rintro r x2 ⟨A2, n2, c2, xs2, rfl, hf2, hi2, hq2, a2⟩
  rw [aftX0, aftX1] at hf2
  obtain rfl := hf2.uniq apX
  obtain ⟨g2, rfl⟩ : ∃ g2, A2 = some g2 := by
    cases A2 with
    | none => exact absurd (hq2.1 rfl) (by simp)
    | some g => exact ⟨g, rfl⟩
  have hbc := bt hbd a2
  have HI1 := Lib.hid (fun (W : World) (h : Below x2.heap.size x2 W) => HI1.out W (bt (bt c1' a2) h))
  have HI2 := Lib.hid (fun (W : World) (h : Below x2.heap.size x2 W) => hi2.below h)
  clear hf2 hi2 hq2 a2 hbd j1 hy1 c1' z0 z1
  have z0 := (HH.out _ hbc).cell 0
  have z1 := (HH.out _ hbc).cell 1
  have z2 := (HH.out _ hbc).cell 2
  have z3 := (HH.out _ hbc).cell 3
  have z4 := (HH.out _ hbc).cell 4
  simp at z0 z1 z2 z3 z4
  obtain ⟨y2, hy2⟩ : ∃ y2, y2 = x2.alloc (.cells #[.int .i64 0, .int .i64 1] 3) := ⟨_, rfl⟩
  have c2' : Below x2.heap.size x2 y2 := by rw [hy2]; exact alloc_below _ _
  have j2 : Ints y2 (some ⟨x2.heap.size, 0, none⟩) 2 [0, 1] := by rw [hy2]; exact Ints.new x2 [0, 1] _ 2 rfl rfl (by simp)
  have HY2 := Lib.hid hy2
  have hbd := bt hbc c2'
  go_wp2_with fail
  rw [← HY2.out]
  refine (phstate 2 0 1 (some ⟨w.heap.size + 1, 0, none⟩) (some ⟨w.heap.size + 1 + 1 + 1, 0, none⟩) (some ⟨w.heap.size + 1 + 1 + 1 + 1, 0, none⟩) (some ⟨x2.heap.size, 0, none⟩) 1 1 1 2 2 [[0, 0]] [[1, 0]] [[]] [0, 1] y2 (HN.out _ hbd) (HO.out _ hbd) (HC.out _ hbd) j2 mokX).mono ?_
  rintro r x3 ⟨A3, c3, rfl, _, a3⟩
  have e1 := stX.1
  have e2 := stX.2
  rw [show stW ((2 : Nat) : Int) 0 [[0, 0]] [[]] [0, 1] = [] from e1, show chk [0, 1] ((2 : Nat) : Int) = 0 from e2]
  have hbc := bt hbd a3
  have HI1 := Lib.hid (fun (W : World) (h : Below x3.heap.size x3 W) => HI1.out W (bt (bt c2' a3) h))
  have HI2 := Lib.hid (fun (W : World) (h : Below x3.heap.size x3 W) => HI2.out W (bt (bt c2' a3) h))
  clear a3 hbd j2 hy2 c2' z0 z1 z2 z3 z4 e1 e2
  have z0 := (HH.out _ hbc).cell 0
  have z1 := (HH.out _ hbc).cell 1
  have z2 := (HH.out _ hbc).cell 2
  have z3 := (HH.out _ hbc).cell 3
  have z4 := (HH.out _ hbc).cell 4
  simp at z0 z1 z2 z3 z4
  go_wp2_with fail
  refine (phvalid 2 0 (some ⟨w.heap.size + 1, 0, none⟩) (some ⟨w.heap.size + 1 + 1 + 1, 0, none⟩) (some ⟨w.heap.size + 1 + 1 + 1 + 1, 0, none⟩) 1 1 1 1 1 1 [[0, 0]] [[1, 0]] [[]] x3 (HN.out _ hbc) (HO.out _ hbc) (HC.out _ hbc)).mono ?_
  rintro r x4 ⟨rfl, a4⟩
  rw [hvX]
  have hbc := bt hbc a4
  have HI1 := Lib.hid (fun (W : World) (h : Below x4.heap.size x4 W) => HI1.out W (bt a4 h))
  have HI2 := Lib.hid (fun (W : World) (h : Below x4.heap.size x4 W) => HI2.out W (bt a4 h))
  clear a4 z0 z1 z2 z3 z4
  obtain ⟨y4, hy4⟩ : ∃ y4, y4 = x4.alloc (.cells #[.int .i64 0, .int .i64 1] 3) := ⟨_, rfl⟩
  have c4' : Below x4.heap.size x4 y4 := by rw [hy4]; exact alloc_below _ _
  have j4 : Ints y4 (some ⟨x4.heap.size, 0, none⟩) 2 [0, 1] := by rw [hy4]; exact Ints.new x4 [0, 1] _ 2 rfl rfl (by simp)
  have HY4 := Lib.hid hy4
  have hbd := bt hbc c4'
  go_wp2_with fail
  rw [← HY4.out]
  refine (rints A1 (some ⟨x4.heap.size, 0, none⟩) n1 c1 2 2 [0, 1] [0, 1] true y4 (HI1.out _ c4') j4 (by simp)).mono ?_
  rintro r x5 ⟨rfl, q5, rfl⟩
  have c5' := below_drewN c4' q5
  have hbc : Below w12.heap.size w12 (y4.drewN q5) := below_drewN hbd q5
  have HI2 := Lib.hid (fun (W : World) (h : Below (y4.drewN q5).heap.size (y4.drewN q5) W) => HI2.out W (bt c5' h))
  clear j4 hy4 hbd c4' c5'
  generalize y4.drewN q5 = x5 at hbc HI2 ⊢
  obtain ⟨y5, hy5⟩ : ∃ y5, y5 = x5.alloc (.cells #[.int .i64 1] 3) := ⟨_, rfl⟩
  have c5' : Below x5.heap.size x5 y5 := by rw [hy5]; exact alloc_below _ _
  have j5 : Ints y5 (some ⟨x5.heap.size, 0, none⟩) 1 [1] := by rw [hy5]; exact Ints.new x5 [1] _ 1 rfl rfl (by simp)
  have HY5 := Lib.hid hy5
  have hbd := bt hbc c5'
  go_wp2_with fail
  rw [← HY5.out]
  refine (rints (some g2) (some ⟨x5.heap.size, 0, none⟩) n2 c2 1 1 [1] [1] true y5 (HI2.out _ c5') j5 (by simp)).mono ?_
  rintro r x6 ⟨rfl, q6, rfl⟩
  have hbc : Below w12.heap.size w12 (y5.drewN q6) := below_drewN hbd q6
  clear j5 hy5 hbd c5'
  generalize y5.drewN q6 = x6 at hbc ⊢
  have z0 := (HB.out _ hbc).cell 0
  have z1 := (HB.out _ hbc).cell 1
  simp at z0 z1
  obtain ⟨y6, hy6⟩ : ∃ y6, y6 = x6.alloc (.cells #[.int .i64 0] 3) := ⟨_, rfl⟩
  have c6' : Below x6.heap.size x6 y6 := by rw [hy6]; exact alloc_below _ _
  have s6 : y6.heap.size = x6.heap.size + 1 := by rw [hy6]; simp
  have j6 : Ints y6 (some ⟨x6.heap.size, 0, none⟩) 1 [0] := by rw [hy6]; exact Ints.new x6 [0] _ 1 rfl rfl (by simp)
  obtain ⟨y7, hy7⟩ : ∃ y7, y7 = y6.alloc (.cells #[.slice none 0 0, .slice (some ⟨x6.heap.size, 0, none⟩) 1 1] 36) := ⟨_, rfl⟩
  have c7' : Below y6.heap.size y6 y7 := by rw [hy7]; exact alloc_below _ _
  have j7 : Lists y7 (some ⟨x6.heap.size + 1, 0, none⟩) 2 [[], [0]] := by rw [hy7]; have := Lists.two (c := 0) (d := 1) (Ints.none_ y6) j6; rw [s6] at this; exact this
  have HY6 := Lib.hid hy6
  have HY7 := Lib.hid hy7
  have hbd := bt hbc (bt c6' c7')
  go_wp2_with fail
  rw [← HY6.out, ← HY7.out]
  refine (plower 2 (some ⟨w.heap.size + 1 + 1 + 1 + 1 + 1 + 1 + 1 + 1 + 1 + 1, 0, none⟩) (some ⟨x6.heap.size + 1, 0, none⟩) 2 2 2 2 tsX [[], [0]] y7 (HT.out _ hbd) j7 srtX fullX consX propsX (by omega) (by omega)).mono ?_
  rintro r x7 ⟨rfl, a7⟩
  rw [kepX]
  have hbc := bt HB0.out (bt hbd a7)
  clear a7 hbd j7 hy7 hy6 c6' c7' j6 s6 z0 z1
  go_wp2
  go_ret
  exact ⟨rfl, hbc⟩
end Go.Proofs.Ytkgdgnmobahhfaa
end

section
/- From, Run and Step by the reference. -/
namespace Go.Proofs.Ytkgdgnmobahhfaa
open Go.RowKit

end Go.Proofs.Ytkgdgnmobahhfaa
end

section
/- The search, step by step. -/
namespace Go.Proofs.Ytkgdgnmobahhfaa

/-- Which states a search has seen. -/
def seenOf (n : Nat) (l : List Nat) : List Bool := (List.range n).map fun x => decide (x ∈ l)
theorem seenOf_len (n : Nat) (l : List Nat) : (seenOf n l).length = n := by simp [seenOf]
theorem seenOf_at {n : Nat} {l : List Nat} {x : Nat} (hx : x < n) : (seenOf n l).getD x false = decide (x ∈ l) := by
  unfold seenOf; simp [List.getD, hx]
theorem seenOf_set {n : Nat} {l : List Nat} {x : Nat} : (seenOf n l).set x true = seenOf n (l ++ [x]) := by
  apply List.ext_getElem
  · simp [seenOf]
  · intro m h1 h2
    have hm : m < n := by simpa [seenOf] using h2
    rw [List.getElem_set]
    by_cases e : x = m
    · subst e; simp [seenOf]
    · rw [if_neg e]; simp [seenOf, show ¬ m = x from fun h => e h.symm]
theorem seenOf_nil (n : Nat) : seenOf n [] = List.replicate n false := by
  apply List.ext_getElem
  · simp [seenOf]
  · intro m h1 h2; simp [seenOf]

/-- A list of states as numbers. -/
def zs (l : List Nat) : List Int := l.map fun x : Nat => (x : Int)
theorem zs_len (l : List Nat) : (zs l).length = l.length := by simp [zs]
theorem zs_at (l : List Nat) (j : Nat) : (zs l).getD j 0 = ((l.getD j 0 : Nat) : Int) := by
  unfold zs
  rw [List.getD_eq_getElem?_getD, List.getD_eq_getElem?_getD, List.getElem?_map]
  cases l[j]? <;> rfl
theorem zs_append (l t : List Nat) : zs (l ++ t) = zs l ++ zs t := by simp [zs]
theorem zs_one (x : Nat) : zs [x] = [(x : Int)] := rfl
theorem zs_inj {l t : List Nat} (h : zs l = zs t) : l = t := by
  induction l generalizing t with
  | nil => cases t with
    | nil => rfl
    | cons => simp [zs] at h
  | cons x l ih => cases t with
    | nil => simp [zs] at h
    | cons y t =>
      simp only [zs, List.map_cons, List.cons.injEq] at h
      rw [ih (by simpa [zs] using h.2), show x = y by omega]
theorem mem_zs {l : List Nat} {x : Nat} : ((x : Int) ∈ zs l) ↔ x ∈ l := by
  simp only [zs, List.mem_map]
  exact ⟨fun ⟨a, h, e⟩ => by rw [show x = a by omega]; exact h, fun h => ⟨x, h, rfl⟩⟩

theorem addR_in {nx : List (List Int)} {s a : Nat} {l : List Nat} (h : nN nx s a ∈ addR nx s l a) : addR nx s l (a + 1) = addR nx s l a := by
  show addN _ _ = _; unfold addN; rw [if_pos h]
theorem addR_out {nx : List (List Int)} {s a : Nat} {l : List Nat} (h : ¬ nN nx s a ∈ addR nx s l a) : addR nx s l (a + 1) = addR nx s l a ++ [nN nx s a] := by
  show addN _ _ = _; unfold addN; rw [if_neg h]
theorem Stt.one {n s : Nat} (h : s < n) : Stt n [s] := ⟨by simp, fun x hx => by simp at hx; omega⟩
theorem addR_at {nx : List (List Int)} {s : Nat} {l : List Nat} {j : Nat} (h : j < l.length) (a : Nat) : (addR nx s l a).getD j 0 = l.getD j 0 := by
  obtain ⟨t, ht⟩ := addR_pre nx s l a
  rw [ht]; exact getD_pre h
theorem addR_len {nx : List (List Int)} {s : Nat} {l : List Nat} (a : Nat) : l.length ≤ (addR nx s l a).length := by
  obtain ⟨t, ht⟩ := addR_pre nx s l a
  rw [ht, List.length_append]; omega
end Go.Proofs.Ytkgdgnmobahhfaa
end

section
/- Reach of a machine. -/
namespace Go.Proofs.Ytkgdgnmobahhfaa
open Go.RowKit

theorem infob : (Try.prog.info? 4).map (fun i => (i.zero, i.size, i.bytes)) = some (some (.bool false), 1, 1) := by kernel_rfl

/-- The row of the seen states. -/
def Seen (w : World) (g : Nat) (bs : List Bool) : Prop := w.heap[g]? = some (.cells (bs.map Value.bool).toArray 4 (0, 0))
theorem Seen.at_ {w : World} {g : Nat} {bs : List Bool} (h : Seen w g bs) {x : Nat} (hx : x < bs.length) : w.cell? ⟨g, x, none⟩ = some (.bool (bs.getD x false)) ∧ w.frozen? ⟨g, x, none⟩ = false := by
  refine ⟨?_, frozen_of_row w g x _ _ h⟩
  rw [cell_of_row w g x _ _ (0, 0) h]
  simp [List.getD, hx]
theorem Seen.set {w : World} {g : Nat} {bs : List Bool} (h : Seen w g bs) (x : Nat) (b : Bool) : Seen (w.setCell ⟨g, x, none⟩ (.bool b)) g (bs.set x b) := by
  have := heap_setCell_same w g x _ _ (Value.bool b) h
  unfold Seen
  rw [this]
  simp [List.map_set]
theorem Seen.of_below {w w' : World} {g : Nat} {bs : List Bool} (h : Seen w g bs) {b : Nat} (hb : Below b w w') (hg : g < b) : Seen w' g bs := (hb.block g hg).trans h

theorem made_bools (n : Nat) : madeCells (Value.bool false).cells (n * 1) = ((List.replicate n false).map Value.bool).toArray := by
  apply Array.ext'
  rw [show (Value.bool false).cells = #[Value.bool false] from rfl, Nat.mul_one, toList_madeCells_one, List.map_replicate]

/-- make([]bool, n). -/
theorem wpList_make_bools {ops : Array Oper} {rest : List Oper} {o : Oper} {a : Act} {Q : Exit → Act → World → Prop} (w : World) (hg : o.guard = none) (l c : Operand) (hop : o.op = Op.makeSlice 121 l c)
    (kl kc : IntKind) (n : Nat) (hl : a.eval l = .int kl n) (hc : a.eval c = .int kc n) (hn : n ≤ 17592186044416)
    (hK : ∀ w', Seen w' w.heap.size (List.replicate n false) → Below w.heap.size w w' → wpList Try.prog ops Q rest (a.put o.dst (.slice (some ⟨w.heap.size, 0, none⟩) n n)) w') :
    wpList Try.prog ops Q (o :: rest) a w := by
  obtain ⟨i, hi, hz0, hz1, hz2⟩ := info_parts infob
  refine wpList_plain hg fun K hK' => ?_
  have hr := run_make (P := Try.prog) w 121 4 i (.bool false) Try.underlying121 hi hz0 kl kc n n (by omega) (by omega) (by rw [hz2]; omega) (by omega)
  rw [hz1, Int.toNat_natCast, made_bools] at hr
  have hS : Seen (w.alloc (.cells ((List.replicate n false).map Value.bool).toArray 4)) w.heap.size (List.replicate n false) := heap_alloc_new w _
  have hB := alloc_below w (.cells ((List.replicate n false).map Value.bool).toArray 4)
  generalize w.alloc (.cells ((List.replicate n false).map Value.bool).toArray 4) = w' at hr hS hB
  unfold Oper.wp
  simp [execOp, hop, hl, hc, hr, Result.andThen]
  exact hK' _ _ (hK w' hS hB)

set_option maxHeartbeats 4000000 in
set_option maxRecDepth 100000 in
theorem preach_ok (i st n : Nat) (A B : Option Addr) (c d : Nat) (nx ot : List (List Int)) (w : World) (hx : Lists w A n nx) (ho : Lists w B n ot) (hM : Mok i st n nx ot) :
    Calls Try.prog 53 #[.agg #[.int .i64 i, .int .i64 st, .slice A n c, .slice B n d]] w fun e w' => ∃ A' c', e = .returned (.slice A' (rch nx i st).length c') ∧ Owned w' w.heap.size (.slice A' (rch nx i st).length c') (zs (rch nx i st)) ∧ Below w.heap.size w w' := by
  have HV := Lib.hid hM.vld
  have hn := hx.2.1
  have hst := hM.st
  have hn128 := hM.n2
  have hb0 := alloc_below w (.cells #[.int .i64 i, .int .i64 st, .slice A n c, .slice B n d] 56)
  have HZ := Lib.hid (show (w.alloc (.cells #[.int .i64 i, .int .i64 st, .slice A n c, .slice B n d] 56)).heap.size = w.heap.size + 1 by simp)
  obtain ⟨R, hR⟩ : ∃ R, R = rch nx i st := ⟨_, rfl⟩
  have HR := Lib.hid (hR.trans (show rch nx i st = bfs nx i n [st] 0 by unfold rch; rw [hM.nxl]))
  rw [← hR]
  clear hR
  go_enter Try.func53, Try.ntmps53
  go_wp2_with fail
  refine (pvalid _ _ _ _ _ _ _ _ _ _ _ (hx.below hb0) (ho.below hb0)).mono ?_
  rintro e w1 ⟨rfl, b1⟩
  rw [HZ.out] at b1
  rw [HV.out]
  obtain ⟨k0, k1, k2, k3⟩ := box4 b1
  have hl0 : Owned (w1.alloc (.cells #[.int .i64 st] 3)) (w.heap.size + 1) (.slice (some ⟨w1.heap.size, 0, none⟩) 1 1) (zs [st]) := Owned.literal w1 _ [(st : Int)] _ 1 (by have := b1.size; simpa using this) rfl rfl (by simp)
  have hz2 : w.heap.size + 1 ≤ w1.heap.size := by have := b1.size; simpa using this
  have hl1 := alloc_below w1 (.cells #[.int .i64 st] 3)
  have k2a := (hl1.cell (p := ⟨w.heap.size, 2, none⟩) (by show w.heap.size < _; omega)).trans k2
  have hs1 : (w1.alloc (.cells #[.int .i64 st] 3)).heap.size = w1.heap.size + 1 := by simp
  have HS1 := Lib.hid hs1
  have HL0 := Lib.hid hl0
  clear hs1 hl0
  have hz2 : w.heap.size + 1 ≤ w1.heap.size := by have := b1.size; simpa using this
  go_wp2_with (refine wpList_make_bools _ rfl _ _ rfl .i64 .i64 n rfl rfl hn ?_; intro w2 se2 b2; rw [HS1.out] at se2 b2; have b3 := b1.trans ((hl1.mono hz2).trans (b2.mono (Nat.le_succ_of_le hz2))); obtain ⟨k0, k1, k2, k3⟩ := box4 b3; obtain ⟨sc, sf⟩ := se2.at_ (x := st) (by simpa using hst); have SE2 := Lib.hid se2; have B2 := Lib.hid b2; clear se2 b2 b3)
  have b2 := B2.out
  have se2 := SE2.out
  have b3 : Below (w.heap.size + 1) (w.alloc (.cells #[.int .i64 i, .int .i64 st, .slice A n c, .slice B n d] 56)) w2 := b1.trans ((hl1.mono hz2).trans (b2.mono (by omega)))
  have hown2 : Owned w2 (w.heap.size + 1) (.slice (some ⟨w1.heap.size, 0, none⟩) 1 1) (zs [st]) := HL0.out.kept (by rw [HS1.out]; exact b2)
  have se3 := se2.set st true
  rw [← seenOf_nil, seenOf_set] at se3
  have ow3 := hown2.off se2 (by decide) st (.bool true) 0
  have bw3 := b3.setCell (p := ⟨w1.heap.size + 1, st, none⟩) (by show w.heap.size + 1 ≤ w1.heap.size + 1; omega) (.bool true)
  generalize hg : w1.heap.size + 1 = g at se3 ow3 bw3 ⊢
  have hgb : w.heap.size + 1 ≤ g := by omega
  clear se2 b2 hown2 HL0 SE2 B2 b3 sc sf k0 k1 k2 k3 hl1 HS1 k2a
  have hbt : (4 : TypeId) ≠ 3 := by decide
  clear hg b1
  go_loopw [3, 5] (fun v jv wr => ∃ (l : List Nat) (j : Nat) (A' : Option Addr) (c' : Nat), j ≤ l.length ∧ jv = .int .i64 j ∧ v = .slice A' l.length c' ∧ Stt n l ∧ R = bfs nx i n l j ∧ Owned wr (w.heap.size + 1) (.slice A' l.length c') (zs l) ∧ Seen wr g (seenOf n l) ∧ Below (w.heap.size + 1) (w.alloc (.cells #[.int .i64 i, .int .i64 st, .slice A n c, .slice B n d] 56)) wr) (fun _ jv _ => n - (intOf jv).toNat)
  case atStart => exact ⟨[st], 0, _, 1, Nat.zero_le _, rfl, rfl, Stt.one hst, HR.out, ow3, se3, bw3⟩
  case round =>
    obtain ⟨l, j, A', c', hj, rfl, rfl, hS, hB, hown, hseen, hbr⟩ := hrel
    have hbw := hb0.trans (hbr.mono (Nat.le_succ _))
    obtain ⟨k0, k1, k2, k3⟩ := box4 hbr
    have HB := Lib.hid hB
    have HSS := Lib.hid hseen
    clear hB hseen
    have hll := hS.len
    by_cases hlt : j < l.length
    · have hjn : j < n := by omega
      obtain ⟨b1, o1, rfl, hb1, hc1⟩ := (hown.ints (by rw [zs_len]; omega)).at_ (k := j) (by omega)
      rw [zs_at] at hc1
      have hs : l.getD j 0 < n := hS.2 _ (getD_mem hlt)
      have HNX := Lib.hid (bfs_on hM hS hlt)
      generalize l.getD j 0 = s at hc1 hs HNX
      obtain ⟨g1, p1, A1, n1, c1, rfl, hg1, hd1, hr1⟩ := hx.at_ hs
      have hi1 := (hM.row s hs).1
      have hl1 := hr1.1
      obtain rfl : n1 = i := by omega
      have hi64 := hM.i2
      have e1 := (hbw.cell (p := ⟨g1, p1 + s, none⟩) hg1).trans hd1
      clear hl1 hi1 hd1
      have HOW := Lib.hid hown
      clear hown
      go_wp2
      go_quiet (fail)
      go_wp2
      obtain ⟨wo, rfl⟩ : ∃ wo : World, wo = wr := ⟨_, rfl⟩
      have HBR := Lib.hid hbr
      clear hbr hbw k0 k1 k2 k3 hc1 hb1 e1
      go_loopw [3, 37] (fun v av wq => ∃ (a : Nat) (A2 : Option Addr) (c2 : Nat), a ≤ n1 ∧ av = .int .i64 a ∧ v = .slice A2 (addR nx s l a).length c2 ∧ Owned wq (w.heap.size + 1) (.slice A2 (addR nx s l a).length c2) (zs (addR nx s l a)) ∧ Seen wq g (seenOf n (addR nx s l a)) ∧ Below (w.heap.size + 1) (w.alloc (.cells #[.int .i64 n1, .int .i64 st, .slice (some ⟨g1, p1, none⟩) n c, .slice B n d] 56)) wq) (fun _ av _ => n1 - (intOf av).toNat)
      case atStart => exact ⟨0, _, _, Nat.zero_le _, rfl, rfl, HOW.out, HSS.out, below_drewN HBR.out _⟩
      case round =>
        obtain ⟨a, A2, c2, ha, rfl, rfl, hown, hseen, hbr⟩ := hrel
        have hSa := addR_stt hM hS hs a ha
        have hbw := hb0.trans (hbr.mono (Nat.le_succ _))
        by_cases hla : a < n1
        · obtain ⟨g3, p3, rfl, hg3, hy1⟩ := hr1.at_ hla
          rw [hM.nN_eq hs hla] at hy1
          have ht := hM.nN_lt hs hla
          have hIn := Lib.hid (fun h => addR_in (nx := nx) (s := s) (a := a) (l := l) h)
          have hOut := Lib.hid (fun h => addR_out (nx := nx) (s := s) (a := a) (l := l) h)
          generalize nN nx s a = t at hy1 ht hIn hOut
          have e3 := (hbw.cell (p := ⟨g3, p3 + a, none⟩) hg3).trans hy1
          obtain ⟨e4, e5⟩ := hseen.at_ (x := t) (by rw [seenOf_len]; exact ht)
          rw [seenOf_at ht] at e4
          clear hy1
          generalize addR nx s l a = l' at hown hseen hSa hIn hOut e4
          have hll' := hSa.len
          by_cases hm : t ∈ l'
          · rw [decide_eq_true hm] at e4
            have hnx := Lib.hid (hIn.out hm)
            have HOW := Lib.hid hown
            have HSE := Lib.hid hseen
            have HB2 := Lib.hid hbr
            clear hown hseen hbr hbw hIn hOut hm
            go_wp2
            go_roundw
            case rel => exact ⟨a + 1, A2, c2, by omega, by go_num, by rw [hnx.out], by rw [hnx.out]; exact HOW.out, by rw [hnx.out]; exact HSE.out, HB2.out⟩
            case measure => simp [intOf]; omega
          · rw [decide_eq_false hm] at e4
            have hnx := Lib.hid (hOut.out hm)
            have ho1 := hown.off hseen hbt t (.bool true) 0
            have hs1 := hseen.set t true
            rw [seenOf_set] at hs1
            have hb1 := hbr.setCell (p := ⟨g, t, none⟩) hgb (.bool true)
            have ho1 : Owned (wr.setCell ⟨g, t, none⟩ (.bool true)) (w.heap.size + 1) (.slice A2 l'.length c2) (zs l') := ho1
            have hsz : w.heap.size + 1 ≤ (wr.setCell ⟨g, t, none⟩ (.bool true)).heap.size := by have := hb1.size; simpa using this
            clear hown hseen hbr hbw hIn hOut hm
            obtain ⟨A3, c3, w4, hrn, ho4, hb4, hk4⟩ := run_append_one ho1 (t : Int) hsz (by rw [zs_len]; omega)
            have hs4 := Lib.hid (hk4 g _ _ hs1 hbt)
            have hb5 := Lib.hid (hb1.trans hb4)
            rw [zs_len] at hrn ho4
            have hz : zs l' ++ [(t : Int)] = zs (l' ++ [t]) := by rw [zs_append, zs_one]
            rw [hz] at ho4
            have hlen : (l' ++ [t]).length = l'.length + 1 := by simp
            have HL := Lib.hid hlen
            have HO4 := Lib.hid ho4
            clear hk4 hb1 hb4 hs1 ho1 hz hlen ho4
            have hh : (wr.setCell ⟨g, t, none⟩ (.bool true)).heap.size = wr.heap.size := by simp
            rw [hh] at hrn
            clear hh
            go_wp2_with (at_builtin; refine Lib.wpList_append_run _ rfl _ _ _ _ rfl _ _ rfl rfl _ _ hrn ?_)
            go_roundw
            case rel => exact ⟨a + 1, A3, c3, by omega, by go_num, by rw [hnx.out, HL.out], by rw [hnx.out, HL.out]; exact HO4.out, by rw [hnx.out]; exact hs4.out, hb5.out⟩
            case measure => simp [intOf]; omega
        · obtain rfl : a = n1 := by omega
          have hl' := addR_len (nx := nx) (s := s) (l := l) a
          have HX := Lib.hid (HB.out.trans HNX.out.symm)
          generalize addR nx s l a = l' at hown hseen hSa hl' HX
          have HOW := Lib.hid hown
          have HSE := Lib.hid hseen
          clear hown hseen
          go_wp2
          go_roundw
          case rel => exact ⟨l', j + 1, A2, c2, by omega, by go_num, rfl, hSa, HX.out, HOW.out, HSE.out, hbr⟩
          case measure => simp [intOf]; omega
    · have hfin := Lib.hid (HB.out.trans (bfs_end nx i n hlt))
      have HOW := Lib.hid hown
      clear hown
      go_wp2
      go_ret
      exact ⟨A', c', by rw [hfin.out]; rfl, by rw [hfin.out]; exact Owned.lower HOW.out (Nat.le_succ _), hbw⟩

theorem preach_bad (i st : Int) (A B : Option Addr) (n c m d : Nat) (nx ot : List (List Int)) (w : World) (hx : Lists w A n nx) (ho : Lists w B m ot) (hv : ¬ vld i st nx ot = 0) :
    Calls Try.prog 53 #[.agg #[.int .i64 i, .int .i64 st, .slice A n c, .slice B m d]] w fun e w' => e = .returned (.slice none 0 0) ∧ Below w.heap.size w w' := by
  have hb0 := alloc_below w (.cells #[.int .i64 i, .int .i64 st, .slice A n c, .slice B m d] 56)
  have hne : (vld i st nx ot != 0) = true := by simpa using hv
  go_enter Try.func53, Try.ntmps53
  go_wp2_with fail
  refine (pvalid _ _ _ _ _ _ _ _ _ _ _ (hx.below hb0) (ho.below hb0)).mono ?_
  rintro e w1 ⟨rfl, b1⟩
  generalize vld i st nx ot = E at hne hv
  clear hv
  go_wp2
  go_ret
  exact ⟨rfl, bt hb0 b1⟩
end Go.Proofs.Ytkgdgnmobahhfaa
end

section
/- The trimmed machine. -/
namespace Go.Proofs.Ytkgdgnmobahhfaa

theorem addR_has {nx : List (List Int)} {s : Nat} {l : List Nat} : ∀ {b : Nat}, ∀ a, a < b → nN nx s a ∈ addR nx s l b
  | 0, a, h => absurd h (by omega)
  | b + 1, a, h => by
    by_cases e : a = b
    · subst e; exact mem_addN _ _
    · exact addN_mem (addR_has a (by omega))
theorem addR_mem {nx : List (List Int)} {s : Nat} {l : List Nat} {x : Nat} (h : x ∈ l) (a : Nat) : x ∈ addR nx s l a := by obtain ⟨t, ht⟩ := addR_pre nx s l a; rw [ht]; simp [h]

theorem bfs_closed {i st n : Nat} {nx ot : List (List Int)} (hM : Mok i st n nx ot) : ∀ (k : Nat) (l : List Nat) (j : Nat), Stt n l → n ≤ k + j → (∀ m, m < j → m < l.length → ∀ a, a < i → nN nx (l.getD m 0) a ∈ l) →
    Stt n (bfs nx i k l j) ∧ ∀ m, m < (bfs nx i k l j).length → ∀ a, a < i → nN nx ((bfs nx i k l j).getD m 0) a ∈ bfs nx i k l j
  | 0, l, j, hS, hk, h => ⟨hS, fun m hm a ha => h m (by have := hS.len; have hm : m < l.length := hm; omega) hm a ha⟩
  | k + 1, l, j, hS, hk, h => by
    by_cases hj : j < l.length
    · have e : bfs nx i (k + 1) l j = bfs nx i k (addR nx (l.getD j 0) l i) (j + 1) := by
        show (if j < l.length then _ else _) = _; rw [if_pos hj]
      rw [e]
      refine bfs_closed hM k _ _ (addR_stt hM hS (hS.2 _ (getD_mem hj)) i (Nat.le_refl _)) (by omega) fun m hm hml a ha => ?_
      by_cases e2 : m = j
      · subst e2; rw [addR_at hj]; exact addR_has a ha
      · rw [addR_at (by omega)]; exact addR_mem (h m (by omega) (by omega) a ha) i
    · rw [bfs_end nx i (k + 1) hj]
      exact ⟨hS, fun m hm a ha => h m (by omega) hm a ha⟩

theorem Mok.rch_stt {i st n : Nat} {nx ot : List (List Int)} (hM : Mok i st n nx ot) : Stt n (rch nx i st) :=
  (bfs_closed hM _ _ _ (Stt.one hM.st) (by rw [hM.nxl]; omega) (fun m hm => absurd hm (by omega))).1
theorem Mok.rch_in {i st n : Nat} {nx ot : List (List Int)} (hM : Mok i st n nx ot) {s a : Nat} (hs : s ∈ rch nx i st) (ha : a < i) : nN nx s a ∈ rch nx i st := by
  obtain ⟨m, hm, rfl⟩ := List.getElem_of_mem hs
  have := (bfs_closed hM nx.length [st] 0 (Stt.one hM.st) (by rw [hM.nxl]; omega) (fun m hm => absurd hm (by omega))).2 m hm a ha
  rw [show (bfs nx i nx.length [st] 0).getD m 0 = (rch nx i st)[m] by rw [List.getD_eq_getElem?_getD]; show (rch nx i st)[m]?.getD 0 = _; rw [List.getElem?_eq_getElem hm]; rfl] at this
  exact this
theorem rch_pre (nx : List (List Int)) (i st : Nat) : ∃ t, rch nx i st = st :: t := by
  obtain ⟨t, ht⟩ := bfs_pre nx i nx.length [st] 0
  exact ⟨t, ht⟩

/-- The place of a state. -/
def ixN (R : List Nat) (x : Nat) : Nat := R.idxOf x
theorem ixN_lt {R : List Nat} {x : Nat} (h : x ∈ R) : ixN R x < R.length := List.idxOf_lt_length_of_mem h
theorem ixN_at {R : List Nat} {x : Nat} (h : x ∈ R) : R.getD (ixN R x) 0 = x := by
  rw [List.getD_eq_getElem?_getD, List.getElem?_eq_getElem (ixN_lt h)]
  exact List.getElem_idxOf (ixN_lt h)
theorem ixN_of {R : List Nat} (hR : R.Nodup) {j : Nat} (hj : j < R.length) : ixN R (R.getD j 0) = j := by
  have hm : R.getD j 0 ∈ R := getD_mem hj
  have h1 := ixN_at hm
  have h2 := ixN_lt hm
  rw [List.getD_eq_getElem?_getD, List.getD_eq_getElem?_getD, List.getElem?_eq_getElem hj, List.getElem?_eq_getElem (by rw [List.getD_eq_getElem?_getD, List.getElem?_eq_getElem hj] at h2; exact h2)] at h1
  rw [List.getD_eq_getElem?_getD, List.getElem?_eq_getElem hj] at h2 ⊢
  exact (List.getElem_inj hR).1 h1

/-- The rows of the trimmed machine. -/
def trR (nx : List (List Int)) (i : Nat) (R : List Nat) (s : Nat) : List Int := (List.range i).map fun a => ((ixN R (nN nx s a) : Nat) : Int)
def trN (nx : List (List Int)) (i : Nat) (R : List Nat) : List (List Int) := R.map (trR nx i R)
def trO (ot : List (List Int)) (R : List Nat) : List (List Int) := R.map fun s => ot.getD s []
theorem trR_len (nx : List (List Int)) (i : Nat) (R : List Nat) (s : Nat) : (trR nx i R s).length = i := by simp [trR]
theorem trR_at {nx : List (List Int)} {i : Nat} {R : List Nat} {s a : Nat} (ha : a < i) : (trR nx i R s).getD a 0 = ((ixN R (nN nx s a) : Nat) : Int) := by
  unfold trR; simp [List.getD, ha]
/-- A row while it is renumbered. -/
def midR (nx : List (List Int)) (i : Nat) (R : List Nat) (s a : Nat) : List Int := (trR nx i R s).take a ++ (nx.getD s []).drop a
theorem midR_zero (nx : List (List Int)) (i : Nat) (R : List Nat) (s : Nat) : midR nx i R s 0 = nx.getD s [] := by simp [midR]
theorem midR_all {nx : List (List Int)} {i : Nat} {R : List Nat} {s : Nat} (h : (nx.getD s []).length = i) : midR nx i R s i = trR nx i R s := by
  unfold midR; rw [List.take_of_length_le (by rw [trR_len]; exact Nat.le_refl _), List.drop_eq_nil_of_le (by omega), List.append_nil]
theorem midR_len {nx : List (List Int)} {i : Nat} {R : List Nat} {s a : Nat} (h : (nx.getD s []).length = i) (ha : a ≤ i) : (midR nx i R s a).length = i := by
  unfold midR; rw [List.length_append, List.length_take, List.length_drop, trR_len, h]; omega
theorem midR_get {nx : List (List Int)} {i : Nat} {R : List Nat} {s a m : Nat} (ha : a ≤ i) : (midR nx i R s a)[m]? = if m < a then (trR nx i R s)[m]? else (nx.getD s [])[m]? := by
  unfold midR
  have hl : ((trR nx i R s).take a).length = a := by rw [List.length_take, trR_len]; omega
  by_cases h : m < a
  · rw [if_pos h, List.getElem?_append_left (by omega), List.getElem?_take, if_pos h]
  · rw [if_neg h, List.getElem?_append_right (by omega), List.getElem?_drop, hl, show a + (m - a) = m by omega]
theorem midR_at {nx : List (List Int)} {i : Nat} {R : List Nat} {s a : Nat} (ha : a < i) : (midR nx i R s a).getD a 0 = (nx.getD s []).getD a 0 := by
  rw [List.getD_eq_getElem?_getD, midR_get (by omega), if_neg (by omega), ← List.getD_eq_getElem?_getD]
theorem midR_set {nx : List (List Int)} {i : Nat} {R : List Nat} {s a : Nat} (h : (nx.getD s []).length = i) (ha : a < i) : (midR nx i R s a).set a ((ixN R (nN nx s a) : Nat) : Int) = midR nx i R s (a + 1) := by
  apply List.ext_getElem?
  intro m
  have ht : (trR nx i R s)[a]? = some ((ixN R (nN nx s a) : Nat) : Int) := by
    have := trR_at (nx := nx) (R := R) (s := s) ha
    rw [List.getD_eq_getElem?_getD, List.getElem?_eq_getElem (by rw [trR_len]; exact ha)] at this
    rw [List.getElem?_eq_getElem (by rw [trR_len]; exact ha)]
    exact congrArg some this
  rw [List.getElem?_set, midR_get (by omega), midR_get (by omega), midR_len h (by omega)]
  by_cases e : a = m
  · subst e
    rw [if_pos rfl, if_pos ha, if_pos (by omega), ht]
  · rw [if_neg e]
    by_cases e2 : m < a
    · rw [if_pos e2, if_pos (by omega)]
    · rw [if_neg e2, if_neg (by omega)]
theorem map_take_succ {α β : Type} (f : α → β) (l : List α) (d : α) {k : Nat} (h : k < l.length) : (l.take (k + 1)).map f = (l.take k).map f ++ [f (l.getD k d)] := by
  rw [List.take_succ_eq_append_getElem h, List.map_append, List.getD_eq_getElem?_getD, List.getElem?_eq_getElem h]; rfl
end Go.Proofs.Ytkgdgnmobahhfaa
end

section
/- Trim of a machine. -/
namespace Go.Proofs.Ytkgdgnmobahhfaa
open Go.RowKit

/-- A block of a machine. -/
def Mblk (w : World) (g : Nat) (a b c d : Value) : Prop := w.heap[g]? = some (.cells #[a, b, c, d] 56 (0, 0))
theorem Mblk.cells {w : World} {g : Nat} {a b c d : Value} (h : Mblk w g a b c d) :
    w.cell? ⟨g, 0, none⟩ = some a ∧ w.cell? ⟨g, 1, none⟩ = some b ∧ w.cell? ⟨g, 2, none⟩ = some c ∧ w.cell? ⟨g, 3, none⟩ = some d ∧ w.frozen? ⟨g, 0, none⟩ = false ∧ w.frozen? ⟨g, 1, none⟩ = false ∧ w.frozen? ⟨g, 2, none⟩ = false ∧ w.frozen? ⟨g, 3, none⟩ = false :=
  ⟨cell_of_row w g 0 _ _ (0, 0) h, cell_of_row w g 1 _ _ (0, 0) h, cell_of_row w g 2 _ _ (0, 0) h, cell_of_row w g 3 _ _ (0, 0) h, frozen_of_row w g 0 _ _ h, frozen_of_row w g 1 _ _ h, frozen_of_row w g 2 _ _ h, frozen_of_row w g 3 _ _ h⟩
theorem Mblk.kept {w w' : World} {g : Nat} {a b c d : Value} (h : Mblk w g a b c d) {k : Nat} (hb : Below k w w') (hg : g < k) : Mblk w' g a b c d := (hb.block g hg).trans h
theorem Mblk.keptT {w w' : World} {g : Nat} {a b c d : Value} (h : Mblk w g a b c d) (hb : KeptT 56 w w') : Mblk w' g a b c d := hb g _ h

/-- A result that lies in memory, a machine, and one more. -/
theorem results_mealy {fn : Func} {p u : Tmp} (h : fn.results = #[.cell p 56, .tmp u]) (tmps : Array Value) (w : World) (g : Nat) (a b c d : Value)
    (hp : tmps.getD p undef = .pointer (some ⟨g, 0, none⟩)) (hg : Mblk w g a b c d) :
    (results fn tmps).run Try.prog w = .ok (.tuple #[.agg #[a, b, c, d], tmps.getD u undef]) w := by
  rw [results_cell_tmp h, hp]
  have hl := run_loadVar_row (P := Try.prog) w g 56 56 #[a, b, c, d] (0, 0) _ hg Try.underlying56 rfl (by kernel_rfl)
  simp [asAddr, hl]
theorem Mblk.set4 {w : World} {g : Nat} {a b c d : Value} (h : Mblk w g a b c d) (a' b' c' d' : Value) :
    Mblk ((((w.setCell ⟨g, 0, none⟩ a').setCell ⟨g, 1, none⟩ b').setCell ⟨g, 2, none⟩ c').setCell ⟨g, 3, none⟩ d') g a' b' c' d' := by
  have h1 := heap_setCell_same w g 0 _ _ a' h
  have h2 := heap_setCell_same _ g 1 _ _ b' h1
  have h3 := heap_setCell_same _ g 2 _ _ c' h2
  have h4 := heap_setCell_same _ g 3 _ _ d' h3
  exact h4

theorem OwnedL.drew {w : World} {base : Nat} {v : Value} {xss : List (List Int)} (h : OwnedL w base v xss) (q : Nat) : OwnedL (w.drewN q) base v xss := h
theorem Mblk.set2 {w : World} {g : Nat} {a b c d : Value} (h : Mblk w g a b c d) (v : Value) : Mblk (w.setCell ⟨g, 2, none⟩ v) g a b v d := heap_setCell_same w g 2 _ _ v h
theorem Mblk.set3 {w : World} {g : Nat} {a b c d : Value} (h : Mblk w g a b c d) (v : Value) : Mblk (w.setCell ⟨g, 3, none⟩ v) g a b c v := heap_setCell_same w g 3 _ _ v h
theorem OwnedL.offM {w : World} {base g j : Nat} {v : Value} {xss : List (List Int)} {a b c d : Value} (h : OwnedL w base v xss) (hM : Mblk w g a b c d) (u : Value) : OwnedL (w.setCell ⟨g, j, none⟩ u) base v xss :=
  h.keptT (KeptT.off hM (by decide) u) (KeptT.off hM (by decide) u)

/-- What a row of lists in a machine's block is behind a call and an append. -/
theorem trim_step {wo w8 w9 : World} {gT k m c9 : Nat} {x y u : Value} {AO A9 : Option Addr} {cO : Nat} {xss yss : List (List Int)} {xs : List Int} (b8 : Below gT wo w8) (hT : Mblk w8 gT x y u (.slice AO k cO)) (hN : OwnedL w8 gT u xss) (hO : OwnedL w8 gT (.slice AO k cO) yss) (hA : Apart u (.slice AO k cO))
    (q8 : Nat) (b9 : Below (w8.drewN q8).heap.size (w8.drewN q8) w9) (ho : Owned w9 (w8.drewN q8).heap.size (.slice A9 m c9) xs) (hk : k < 1759218604441) (hg : gT < w8.heap.size) :
    Mblk w9 gT x y u (.slice AO k cO) ∧ ∃ F : Nat → (Option Addr × Nat) × World, ∀ q, (Builtin.append_ #[54, 54] 54 #[.slice AO k cO, .slice (some ⟨w9.heap.size, 0, none⟩) 1 1]).run Try.prog ((w9.drewN q).alloc (.cells #[.slice A9 m c9] 36)) = .ok (.slice (F q).1.1 (k + 1) (F q).1.2) (F q).2 ∧
      Mblk (F q).2 gT x y u (.slice AO k cO) ∧ OwnedL (F q).2 gT u xss ∧ OwnedL (F q).2 gT (.slice (F q).1.1 (k + 1) (F q).1.2) (yss ++ [xs]) ∧ Apart u (.slice (F q).1.1 (k + 1) (F q).1.2) ∧ Below gT wo (F q).2 := by
  have b9' : Below w8.heap.size w8 w9 := (below_drewN (Below.refl _ _) q8).trans b9
  have hT9 := hT.kept b9' hg
  have hyl : yss.length = k := by obtain ⟨A', c', e⟩ := hO.form; cases e; rfl
  refine ⟨hT9, skol (p := fun q (r : (Option Addr × Nat) × World) => (Builtin.append_ #[54, 54] 54 #[.slice AO k cO, .slice (some ⟨w9.heap.size, 0, none⟩) 1 1]).run Try.prog ((w9.drewN q).alloc (.cells #[.slice A9 m c9] 36)) = .ok (.slice r.1.1 (k + 1) r.1.2) r.2 ∧
      Mblk r.2 gT x y u (.slice AO k cO) ∧ OwnedL r.2 gT u xss ∧ OwnedL r.2 gT (.slice r.1.1 (k + 1) r.1.2) (yss ++ [xs]) ∧ Apart u (.slice r.1.1 (k + 1) r.1.2) ∧ Below gT wo r.2) fun q => ?_⟩
  have hN9 := hN.kept b9'
  obtain ⟨A', c', w', h1, h2, h3, h4, h5, h6⟩ := run_append_list ((hO.kept b9').drew q) ((ho.lower (base' := gT) (Nat.le_of_lt hg)).drew q) (by have := b9'.size; show gT ≤ w9.heap.size; omega) (by omega)
  rw [hyl] at h1 h2 h6
  have hT9q : Mblk (w9.drewN q) gT x y u (.slice AO k cO) := hT9
  exact ⟨((A', c'), w'), h1, hT9q.keptT (h4 _ (by decide)), (hN9.drew q).keptB h5 hA.symm (h4 _ (by decide)), h2, (hA.symm.moved h6 (hN9.drew q)).symm, b8.trans ((b9'.mono (Nat.le_of_lt hg)).trans ((below_drewN (Below.refl _ _) q).trans h3))⟩

end Go.Proofs.Ytkgdgnmobahhfaa
end

section
/- Same of two machines by the two texts. -/
namespace Go.Proofs.Ytkgdgnmobahhfaa
open Go.RowKit

end Go.Proofs.Ytkgdgnmobahhfaa
end

section
/- gate and awake of the machines' laws. -/
namespace Go.Proofs.Ytkgdgnmobahhfaa
open Go.RowKit

/-- A result that lies in memory, a machine. -/
theorem results_mealy1 {fn : Func} {p : Tmp} (h : fn.results = #[.cell p 56]) (tmps : Array Value) (w : World) (g : Nat) (a b c d : Value)
    (hp : tmps.getD p undef = .pointer (some ⟨g, 0, none⟩)) (hg : Mblk w g a b c d) :
    (results fn tmps).run Try.prog w = .ok (.agg #[a, b, c, d]) w := by
  have hl := run_loadVar_row (P := Try.prog) w g 56 56 #[a, b, c, d] (0, 0) _ hg Try.underlying56 rfl (by kernel_rfl)
  unfold results
  rw [h]
  have hp2 : tmps[p]?.getD undef = .pointer (some ⟨g, 0, none⟩) := by simpa [Array.getD_eq_getD_getElem?] using hp
  simp [hp2, asAddr, hl]

def gN : List (List Int) := [[1, 0], [1, 0]]
def gO : List (List Int) := [[1, 0], [1, 2]]

/-- Two literals of two numbers, and the list of both. -/
theorem two_lists (w : World) (g : Nat) (a b c d : Int) (hg : w.heap.size = g) : Lists (((w.alloc (.cells #[.int .i64 a, .int .i64 b] 3)).alloc (.cells #[.int .i64 c, .int .i64 d] 3)).alloc (.cells #[.slice (some ⟨g, 0, none⟩) 2 2, .slice (some ⟨g + 1, 0, none⟩) 2 2] 36)) (some ⟨g + 1 + 1, 0, none⟩) 2 [[a, b], [c, d]] ∧
    Below w.heap.size w (((w.alloc (.cells #[.int .i64 a, .int .i64 b] 3)).alloc (.cells #[.int .i64 c, .int .i64 d] 3)).alloc (.cells #[.slice (some ⟨g, 0, none⟩) 2 2, .slice (some ⟨g + 1, 0, none⟩) 2 2] 36)) ∧
    (((w.alloc (.cells #[.int .i64 a, .int .i64 b] 3)).alloc (.cells #[.int .i64 c, .int .i64 d] 3)).alloc (.cells #[.slice (some ⟨g, 0, none⟩) 2 2, .slice (some ⟨g + 1, 0, none⟩) 2 2] 36)).heap.size = g + 1 + 1 + 1 := by
  have h1 := Ints.new w [a, b] #[.int .i64 a, .int .i64 b] 2 rfl rfl (by simp)
  have h2 := Ints.new (w.alloc (.cells #[.int .i64 a, .int .i64 b] 3)) [c, d] #[.int .i64 c, .int .i64 d] 2 rfl rfl (by simp)
  have e1 : (w.alloc (.cells #[.int .i64 a, .int .i64 b] 3)).heap.size = g + 1 := by simp [hg]
  have hb0 := alloc_below w (.cells #[.int .i64 a, .int .i64 b] 3)
  have hb1 := alloc_below (w.alloc (.cells #[.int .i64 a, .int .i64 b] 3)) (.cells #[.int .i64 c, .int .i64 d] 3)
  have e2 : ((w.alloc (.cells #[.int .i64 a, .int .i64 b] 3)).alloc (.cells #[.int .i64 c, .int .i64 d] 3)).heap.size = g + 1 + 1 := by simp [hg]
  rw [e1] at h2
  rw [hg] at h1
  have h1 := h1.below hb1
  have hbb := bt hb0 hb1
  generalize (w.alloc (.cells #[.int .i64 a, .int .i64 b] 3)).alloc (.cells #[.int .i64 c, .int .i64 d] 3) = w2 at h1 h2 e2 hbb ⊢
  rw [← e2]
  have hb := alloc_below w2 (.cells #[.slice (some ⟨g, 0, none⟩) 2 2, .slice (some ⟨g + 1, 0, none⟩) 2 2] 36)
  refine ⟨⟨rfl, by omega, fun _ => ⟨w2.heap.size, 0, rfl, by simp, fun j hj => ?_⟩⟩, bt hbb hb, by simp⟩
  have hc := fun j => cell_of_row (w2.alloc (.cells #[.slice (some ⟨g, 0, none⟩) 2 2, .slice (some ⟨g + 1, 0, none⟩) 2 2] 36)) w2.heap.size j _ 36 (0, 0) (heap_alloc_new w2 _)
  rw [Nat.zero_add, hc j]
  match j, hj with
  | 0, _ => exact ⟨_, 2, 2, rfl, h1.below hb⟩
  | 1, _ => exact ⟨_, 2, 2, rfl, h2.below hb⟩

theorem gate_ok : Mok 2 0 2 gN gO := by
  refine ⟨by decide, by decide, by decide, by decide, by decide, rfl, rfl, fun s hs => ?_⟩
  match s, hs with
  | 0, _ => exact ⟨rfl, rfl, by decide⟩
  | 1, _ => exact ⟨rfl, rfl, by decide⟩
theorem gate_ok1 : Mok 2 1 2 gN gO := by
  refine ⟨by decide, by decide, by decide, by decide, by decide, rfl, rfl, fun s hs => ?_⟩
  match s, hs with
  | 0, _ => exact ⟨rfl, rfl, by decide⟩
  | 1, _ => exact ⟨rfl, rfl, by decide⟩

/-- Ints of a list and a literal that is equal to it. -/
theorem ints_lit (w : World) (A : Option Addr) (n c : Nat) (cs : Array Value) (m : Nat) (xs : List Int) (h : Ints w A n xs) (h1 : cs = lit xs) (h2 : m = xs.length) (l1 : xs.length ≤ 1000) :
    Calls Try.prog 28 #[.slice A n c, .slice (some ⟨w.heap.size, 0, none⟩) m m] (w.alloc (.cells cs 3)) fun e w' => e = .returned (.bool true) ∧ Below w.heap.size w w' := by
  refine (rints _ _ _ _ _ _ xs xs true _ (h.below (alloc_below w _)) (Ints.new w xs cs m h1 h2 (by omega)) (by simp)).mono ?_
  rintro e w' ⟨rfl, hq⟩
  exact ⟨rfl, (alloc_below w _).trans ((rd_below hq).mono (by simp))⟩

end Go.Proofs.Ytkgdgnmobahhfaa
end

section
/- From and Run of a machine, in the words of the laws. -/
namespace Go.Proofs.Ytkgdgnmobahhfaa
open Go.RowKit

theorem pfrom_law (i st : Int) (A B D : Option Addr) (n c m d k e : Nat) (nx ot : List (List Int)) (s : Int) (xs : List Int) (w : World) (hx : Lists w A n nx) (ho : Lists w B m ot) (hD : Ints w D k xs) :
    Calls Try.prog 79 #[.agg #[.int .i64 i, .int .i64 st, .slice A n c, .slice B m d], .int .i64 s, .slice D k e] w fun e w' => ∃ A' c',
      e = .returned (.tuple #[.slice A' (frm i st nx ot s xs).1.length c', .int .i64 (frm i st nx ot s xs).2.1, .int .i64 (frm i st nx ot s xs).2.2]) ∧ Ints w' A' (frm i st nx ot s xs).1.length (frm i st nx ot s xs).1 ∧ Below w.heap.size w w' :=
  (pfrom i st A B D n c m d k e nx ot s xs w hx ho hD).mono fun _ _ ⟨A', c', h1, h2, h3⟩ => ⟨A', c', h1, Owned.ints h2 (by have := frm_len (i := i) (st := st) (nx := nx) (ot := ot) (s := s) (xs := xs); omega), h3⟩
theorem prun_law (i st : Int) (A B D : Option Addr) (n c m d k e : Nat) (nx ot : List (List Int)) (xs : List Int) (w : World) (hx : Lists w A n nx) (ho : Lists w B m ot) (hD : Ints w D k xs) :
    Calls Try.prog 38 #[.agg #[.int .i64 i, .int .i64 st, .slice A n c, .slice B m d], .slice D k e] w fun e w' => ∃ A' c',
      e = .returned (.tuple #[.slice A' (frm i st nx ot st xs).1.length c', .int .i64 (frm i st nx ot st xs).2.2]) ∧ Ints w' A' (frm i st nx ot st xs).1.length (frm i st nx ot st xs).1 ∧ Below w.heap.size w w' :=
  (prunw i st A B D n c m d k e nx ot xs w hx ho hD).mono fun _ _ ⟨A', c', h1, h2, h3⟩ => ⟨A', c', h1, Owned.ints h2 (by have := frm_len (i := i) (st := st) (nx := nx) (ot := ot) (s := st) (xs := xs); omega), h3⟩
theorem ints_same (A B : Option Addr) (n c m d : Nat) (xs : List Int) (w : World) (hx : Ints w A n xs) (hy : Ints w B m xs) :
    Calls Try.prog 28 #[.slice A n c, .slice B m d] w fun e w' => e = .returned (.bool true) ∧ Below w.heap.size w w' :=
  (rints A B n c m d xs xs true w hx hy (by simp)).mono fun _ _ ⟨h1, h2⟩ => ⟨h1, rd_below h2⟩
end Go.Proofs.Ytkgdgnmobahhfaa
end

section
/- Parts of a slice; two words as a list. -/
namespace Go.Proofs.Ytkgdgnmobahhfaa
open Go.RowKit

theorem Owned.cap {w : World} {base n c : Nat} {A : Option Addr} {xs : List Int} (h : Owned w base (.slice A n c) xs) : n ≤ c := by
  have hn : n = xs.length := by obtain ⟨A', c', e⟩ := h.form; cases e; rfl
  rcases h.2 with ⟨e, _⟩ | ⟨g, cap, cur, e, _, _, h1, _⟩
  · cases e; exact Nat.le_refl _
  · cases e; omega

theorem run_head (A : Option Addr) (n c p : Nat) (hp : p ≤ n) (hc : n ≤ c) (w : World) : (Instr.slice 36 (.slice A n c) none (some (.int .i64 p)) none).run Try.prog w = .ok (.slice A p c) w := by
  obtain ⟨i, hi, hz0, hz1, hz2⟩ := info_parts info3
  have he : Try.prog.elem 36 = 3 := by kernel_rfl
  rw [run_slice_h (P := Try.prog) w 36 A n c (by rw [he]; exact Try.underlying36) .i64 p (by omega) (by omega), he]
  simp [sizeOf, typeInfo, hi, sliced]
  cases A <;> simp [Addr.add]
theorem run_tail (A : Option Addr) (n c p : Nat) (hp : p ≤ n) (w : World) : (Instr.slice 36 (.slice A n c) (some (.int .i64 p)) none none).run Try.prog w = .ok (.slice (if c = p then A else A.map (·.add p)) (n - p) (c - p)) w := by
  obtain ⟨i, hi, hz0, hz1, hz2⟩ := info_parts info3
  have he : Try.prog.elem 36 = 3 := by kernel_rfl
  rw [run_slice_l (P := Try.prog) w 36 A n c (by rw [he]; exact Try.underlying36) .i64 p (by omega) (by omega), he]
  simp [sizeOf, typeInfo, hi, sliced, hz1]
theorem Ints.head {w : World} {A : Option Addr} {n : Nat} {xs : List Int} (h : Ints w A n xs) {p : Nat} (hp : p ≤ n) : Ints w A p (xs.take p) :=
  ⟨by rw [List.length_take, h.1]; omega, Nat.le_trans hp h.2.1, fun h0 => by
    obtain ⟨b, off, e, hlt, hc⟩ := h.2.2 (by omega)
    exact ⟨b, off, e, hlt, fun j hj => by rw [hc j (by omega)]; simp [List.getD, hj]⟩⟩
theorem Ints.tail {w : World} {A : Option Addr} {n c : Nat} {xs : List Int} (h : Ints w A n xs) {p : Nat} (hp : p ≤ n) (hc : n ≤ c) : Ints w (if c = p then A else A.map (·.add p)) (n - p) (xs.drop p) :=
  ⟨by rw [List.length_drop, h.1], by have := h.2.1; omega, fun h0 => by
    obtain ⟨b, off, e, hlt, hcell⟩ := h.2.2 (by omega)
    rw [if_neg (by omega), e]
    refine ⟨b, off + p, ?_, hlt, fun j hj => ?_⟩
    · simp [Addr.add]
    · have := hcell (p + j) (by omega)
      rw [show off + p + j = off + (p + j) by omega, this]
      simp [List.getD]⟩

theorem two_words {w : World} {A B : Option Addr} {n c m d : Nat} {xs ys : List Int} (h1 : Ints w A n xs) (h2 : Ints w B m ys) :
    Lists (w.alloc (.cells #[.slice A n c, .slice B m d] 36)) (some ⟨w.heap.size, 0, none⟩) 2 [xs, ys] := by
  have hb := alloc_below w (.cells #[.slice A n c, .slice B m d] 36)
  refine ⟨rfl, by omega, fun _ => ⟨w.heap.size, 0, rfl, by simp, fun j hj => ?_⟩⟩
  have hc := fun j => cell_of_row (w.alloc (.cells #[.slice A n c, .slice B m d] 36)) w.heap.size j _ 36 (0, 0) (heap_alloc_new w _)
  rw [Nat.zero_add, hc j]
  match j, hj with
  | 0, _ => exact ⟨_, n, c, rfl, h1.below hb⟩
  | 1, _ => exact ⟨_, m, d, rfl, h2.below hb⟩

theorem join_two {w : World} {A B : Option Addr} {n c m d : Nat} {xs ys : List Int} (h1 : Ints w A n xs) (h2 : Ints w B m ys) (hl : n + m ≤ 17592186044416) :
    Calls Try.prog 54 #[.slice (some ⟨w.heap.size, 0, none⟩) 2 2] (w.alloc (.cells #[.slice A n c, .slice B m d] 36)) fun e w' => ∃ A' c', e = .returned (.slice A' (n + m) c') ∧ Ints w' A' (n + m) (xs ++ ys) ∧ Below w.heap.size w w' := by
  have e : [xs, ys].flatten = xs ++ ys := by simp
  have el : (xs ++ ys).length = n + m := by rw [List.length_append, h1.1, h2.1]
  refine (rjoin _ 2 2 [xs, ys] _ (two_words h1 h2) (by rw [e, el]; exact hl)).mono ?_
  rintro e' w' ⟨v, rfl, ho, hb⟩
  rw [e] at ho
  obtain ⟨A', c', rfl⟩ := ho.form
  have hi := ho.ints (by rw [el]; exact hl)
  rw [el] at hi
  exact ⟨A', c', by rw [el], hi, bt (alloc_below _ _) hb⟩
theorem chk_append {xs ys : List Int} {k : Int} (h1 : chk xs k = 0) (h2 : chk ys k = 0) (hl : xs.length + ys.length ≤ 1024) : chk (xs ++ ys) k = 0 := by
  obtain ⟨a1, a2, _, s1⟩ := chk_zero h1
  obtain ⟨_, _, _, s2⟩ := chk_zero h2
  refine chk_ok ⟨a1, a2⟩ (by rw [List.length_append]; omega) fun m hm => ?_
  rw [List.length_append] at hm
  by_cases e : m < xs.length
  · rw [List.getD_eq_getElem?_getD, List.getElem?_append_left e, ← List.getD_eq_getElem?_getD]; exact s1 m e
  · rw [List.getD_eq_getElem?_getD, List.getElem?_append_right (by omega), ← List.getD_eq_getElem?_getD]; exact s2 _ (by omega)
theorem chk_len {xs : List Int} {k : Int} (h : chk xs k = 0) : xs.length ≤ 1024 := (chk_zero h).2.2.1

/-- From, with what its slice may hold. -/
theorem pfrom_ok (i st n : Nat) (A B D : Option Addr) (c d k e s : Nat) (nx ot : List (List Int)) (xs : List Int) (w : World) (hM : Mok i st n nx ot) (hx : Lists w A n nx) (ho : Lists w B n ot) (hD : Ints w D k xs) (hs : s < n) (hc : chk xs i = 0) :
    Calls Try.prog 79 #[.agg #[.int .i64 i, .int .i64 st, .slice A n c, .slice B n d], .int .i64 s, .slice D k e] w fun e w' => ∃ A' c',
      e = .returned (.tuple #[.slice A' k c', .int .i64 (runS nx s xs), .int .i64 0]) ∧ Ints w' A' k (runO nx ot s xs) ∧ k ≤ c' ∧ Below w.heap.size w w' := by
  refine (pfrom i st A B D n c n d k e nx ot s xs w hx ho hD).mono ?_
  rintro e w' ⟨A', c', rfl, h, hb⟩
  rw [hM.frm hs hc] at h ⊢
  have hl : (runO nx ot s xs).length = k := by rw [runO_len, hD.1]
  have h : Owned w' w.heap.size (.slice A' (runO nx ot s xs).length c') (runO nx ot s xs) := h
  have h1 := h.ints (by rw [hl]; exact hD.2.1)
  have h2 := h.cap
  rw [hl] at h1 h2
  exact ⟨A', c', by show Ending.returned (.tuple #[.slice A' (runO nx ot s xs).length c', _, _]) = _; rw [hl], h1, h2, hb⟩
end Go.Proofs.Ytkgdgnmobahhfaa
end

section
/- What trimming keeps. -/
namespace Go.Proofs.Ytkgdgnmobahhfaa

section
variable {i st n : Nat} {nx ot : List (List Int)}

theorem tr_row {R : List Nat} {j : Nat} (hj : j < R.length) : (trN nx i R).getD j [] = trR nx i R (R.getD j 0) := by
  unfold trN; rw [List.getD_eq_getElem?_getD, List.getElem?_map, List.getElem?_eq_getElem hj, List.getD_eq_getElem?_getD, List.getElem?_eq_getElem hj]; rfl
theorem tr_out {R : List Nat} {j : Nat} (hj : j < R.length) : (trO ot R).getD j [] = ot.getD (R.getD j 0) [] := by
  unfold trO; rw [List.getD_eq_getElem?_getD, List.getElem?_map, List.getElem?_eq_getElem hj, List.getD_eq_getElem?_getD (l := R), List.getElem?_eq_getElem hj]; rfl
theorem tr_nN {R : List Nat} {j a : Nat} (hj : j < R.length) (ha : a < i) : nN (trN nx i R) j a = ixN R (nN nx (R.getD j 0) a) := by
  unfold nN; rw [tr_row hj, trR_at ha]; unfold nN; simp
theorem tr_oN {R : List Nat} {j a : Nat} (hj : j < R.length) : oN (trO ot R) j a = oN ot (R.getD j 0) a := by
  unfold oN; rw [tr_out hj]

theorem Mok.tr (hM : Mok i st n nx ot) : Mok i 0 (rch nx i st).length (trN nx i (rch nx i st)) (trO ot (rch nx i st)) := by
  have hs := hM.rch_stt
  have hl := hs.len
  have h0 : 0 < (rch nx i st).length := by obtain ⟨t, ht⟩ := rch_pre nx i st; rw [ht]; simp
  refine ⟨hM.i1, hM.i2, h0, by have := hM.n2; omega, h0, by simp [trN], by simp [trO], fun s h => ?_⟩
  have hm := getD_mem h
  have hr := hM.row _ (hs.2 _ hm)
  rw [tr_row h, tr_out h]
  refine ⟨trR_len _ _ _ _, hr.2.1, fun a ha => ?_⟩
  rw [trR_at ha]
  have := ixN_lt (hM.rch_in hm ha)
  exact ⟨by omega, by omega, (hr.2.2 a ha).2.2⟩

theorem tr_run (hM : Mok i st n nx ot) : ∀ (u : List Int) (s : Nat), s ∈ rch nx i st → (∀ x, x ∈ u → 0 ≤ x ∧ x < i) → runO (trN nx i (rch nx i st)) (trO ot (rch nx i st)) (ixN (rch nx i st) s) u = runO nx ot s u
  | [], _, _, _ => rfl
  | x :: u, s, hs, hu => by
    have hx := hu x (by simp)
    have ha : x.toNat < i := by omega
    show oN _ (ixN (rch nx i st) s) x.toNat :: runO _ _ (nN _ (ixN (rch nx i st) s) x.toNat) u = oN ot s x.toNat :: runO nx ot (nN nx s x.toNat) u
    rw [tr_oN (ixN_lt hs), tr_nN (ixN_lt hs) ha, ixN_at hs, tr_run hM u _ (hM.rch_in hs ha) fun y hy => hu y (by simp [hy])]

theorem ixN_st (nx : List (List Int)) (i st : Nat) : ixN (rch nx i st) st = 0 := by
  obtain ⟨t, ht⟩ := rch_pre nx i st
  rw [ht]; unfold ixN; simp
theorem st_mem (nx : List (List Int)) (i st : Nat) : st ∈ rch nx i st := by obtain ⟨t, ht⟩ := rch_pre nx i st; rw [ht]; simp

theorem addN_map {R : List Nat} {l : List Nat} {x : Nat} (hl : ∀ y, y ∈ l → y ∈ R) (hx : x ∈ R) : addN (l.map (ixN R)) (ixN R x) = (addN l x).map (ixN R) := by
  have h : ixN R x ∈ l.map (ixN R) ↔ x ∈ l := by
    rw [List.mem_map]
    constructor
    · rintro ⟨y, hy, e⟩
      have := congrArg (fun j => R.getD j 0) e
      simp only [ixN_at (hl y hy), ixN_at hx] at this
      rw [← this]; exact hy
    · intro h; exact ⟨x, h, rfl⟩
  unfold addN
  by_cases hm : x ∈ l
  · rw [if_pos (h.2 hm), if_pos hm]
  · rw [if_neg (fun H => hm (h.1 H)), if_neg hm, List.map_append]; rfl
theorem addN_sub {R l : List Nat} {x : Nat} (hl : ∀ y, y ∈ l → y ∈ R) (hx : x ∈ R) : ∀ y, y ∈ addN l x → y ∈ R := by
  unfold addN; split
  · exact hl
  · intro y hy; rw [List.mem_append] at hy
    rcases hy with hy | hy
    · exact hl y hy
    · simp at hy; subst hy; exact hx
theorem addR_map (hM : Mok i st n nx ot) {l : List Nat} {s : Nat} (hl : ∀ y, y ∈ l → y ∈ rch nx i st) (hs : s ∈ rch nx i st) : ∀ a, a ≤ i →
    addR (trN nx i (rch nx i st)) (ixN (rch nx i st) s) (l.map (ixN (rch nx i st))) a = (addR nx s l a).map (ixN (rch nx i st)) ∧ ∀ y, y ∈ addR nx s l a → y ∈ rch nx i st
  | 0, _ => ⟨rfl, hl⟩
  | a + 1, h => by
    obtain ⟨h1, h2⟩ := addR_map hM hl hs a (by omega)
    have hin := hM.rch_in hs (show a < i by omega)
    refine ⟨?_, addN_sub h2 hin⟩
    show addN (addR _ _ _ a) (nN _ _ a) = (addN _ _).map _
    rw [h1, tr_nN (ixN_lt hs) (by omega), ixN_at hs, addN_map h2 hin]
theorem bfs_map (hM : Mok i st n nx ot) : ∀ (k : Nat) (l : List Nat) (j : Nat), (∀ y, y ∈ l → y ∈ rch nx i st) →
    bfs (trN nx i (rch nx i st)) i k (l.map (ixN (rch nx i st))) j = (bfs nx i k l j).map (ixN (rch nx i st))
  | 0, _, _, _ => rfl
  | k + 1, l, j, hl => by
    show (if j < (l.map _).length then _ else _) = List.map _ (if j < l.length then _ else _)
    rw [List.length_map]
    by_cases hj : j < l.length
    · have hm := getD_mem hj
      obtain ⟨h1, h2⟩ := addR_map hM hl (hl _ hm) i (Nat.le_refl _)
      have e : (l.map (ixN (rch nx i st))).getD j 0 = ixN (rch nx i st) (l.getD j 0) := by
        rw [List.getD_eq_getElem?_getD, List.getElem?_map, List.getElem?_eq_getElem hj, List.getD_eq_getElem?_getD, List.getElem?_eq_getElem hj]; rfl
      rw [if_pos hj, if_pos hj, e, h1]
      exact bfs_map hM k _ _ h2
    · rw [if_neg hj, if_neg hj]

theorem bfs_more (hM : Mok i st n nx ot) {l : List Nat} {j : Nat} (h : Stt n l) : ∀ k, bfs nx i (n + k) l j = bfs nx i n l j
  | 0 => rfl
  | k + 1 => by rw [← Nat.add_assoc, bfs_fuel hM (n + k) l j h (by omega), bfs_more hM h k]

theorem map_ixN {R : List Nat} (hR : R.Nodup) : R.map (ixN R) = List.range R.length := by
  apply List.ext_getElem
  · simp
  · intro m h1 h2
    have hm : m < R.length := by simpa using h1
    rw [List.getElem_map, List.getElem_range]
    have := ixN_of hR hm
    rw [List.getD_eq_getElem?_getD, List.getElem?_eq_getElem hm] at this
    exact this

theorem tr_rch (hM : Mok i st n nx ot) : rch (trN nx i (rch nx i st)) i 0 = List.range (rch nx i st).length := by
  have hT := hM.tr
  have hl := hM.rch_stt.len
  have h := bfs_map hM nx.length [st] 0 (fun y hy => by simp at hy; subst hy; exact st_mem nx i y)
  rw [show [st].map (ixN (rch nx i st)) = [0] by show [ixN _ _] = _; rw [ixN_st]] at h
  show bfs _ i (trN nx i (rch nx i st)).length [0] 0 = _
  rw [hT.nxl]
  have hm := bfs_more hT (j := 0) (Stt.one hT.n1) (n - (rch nx i st).length)
  rw [show (rch nx i st).length + (n - (rch nx i st).length) = n by omega] at hm
  rw [← hm, ← hM.nxl, h]
  exact map_ixN hM.rch_stt.1

theorem ixN_range {k x : Nat} (h : x < k) : ixN (List.range k) x = x := by
  have hm : x ∈ List.range k := List.mem_range.2 h
  have h1 := ixN_at hm
  have h2 := ixN_lt hm
  rw [List.length_range] at h2
  rw [List.getD_eq_getElem?_getD, List.getElem?_eq_getElem (by rw [List.length_range]; exact h2), List.getElem_range] at h1
  exact h1
theorem getD_range {k j : Nat} (h : j < k) : (List.range k).getD j 0 = j := by
  rw [List.getD_eq_getElem?_getD, List.getElem?_eq_getElem (by rw [List.length_range]; exact h), List.getElem_range]; rfl

theorem tr_again (hM : Mok i st n nx ot) : trN (trN nx i (rch nx i st)) i (List.range (rch nx i st).length) = trN nx i (rch nx i st) := by
  have hT := hM.tr
  apply List.ext_getElem
  · simp [trN]
  · intro m h1 h2
    have hm : m < (rch nx i st).length := by simpa [trN] using h2
    have e1 := tr_row (nx := trN nx i (rch nx i st)) (i := i) (R := List.range (rch nx i st).length) (j := m) (by simpa using hm)
    have e2 := tr_row (nx := nx) (i := i) hm
    rw [List.getD_eq_getElem?_getD, List.getElem?_eq_getElem h1, getD_range hm] at e1
    rw [List.getD_eq_getElem?_getD, List.getElem?_eq_getElem h2] at e2
    have e1 : (trN (trN nx i (rch nx i st)) i (List.range (rch nx i st).length))[m] = _ := e1
    have e2 : (trN nx i (rch nx i st))[m] = _ := e2
    rw [e1, e2]
    unfold trR
    apply List.map_congr_left
    intro a ha
    have ha : a < i := List.mem_range.1 ha
    have hlt := hT.nN_lt hm ha
    rw [ixN_range hlt, tr_nN hm ha]
theorem tr_again_out (ot : List (List Int)) (R : List Nat) : trO (trO ot R) (List.range R.length) = trO ot R := by
  apply List.ext_getElem
  · simp [trO]
  · intro m h1 h2
    have hm : m < R.length := by simpa [trO] using h2
    have e1 := tr_out (ot := trO ot R) (R := List.range R.length) (j := m) (by simpa using hm)
    rw [List.getD_eq_getElem?_getD, List.getElem?_eq_getElem h1, getD_range hm, List.getD_eq_getElem?_getD, List.getElem?_eq_getElem h2] at e1
    exact e1
end
end Go.Proofs.Ytkgdgnmobahhfaa
end

section
/- Great of a machine; what the trimmed machine is in memory. -/
namespace Go.Proofs.Ytkgdgnmobahhfaa
open Go.RowKit

theorem rgreatm (i st : Int) (A B : Option Addr) (n c m d : Nat) (b : Bool) (w : World) (hb : b = decide (40 < n ∨ 40 < m ∨ 20 < i)) :
    Calls Try.prog 52 #[.agg #[.int .i64 i, .int .i64 st, .slice A n c, .slice B m d]] w fun e w' => e = .returned (.bool b) ∧ Below w.heap.size w w' := by
  by_cases h1 : 40 < n
  · have hf := Lib.hid (hb.trans (decide_eq_true (.inl h1)))
    have d1 : decide ((40 : Int) < (n : Int)) = true := by simp; omega
    clear hb
    go_enter Try.func52, Try.ntmps52
    go_wp2
    go_ret
    exact ⟨ret_bool hf.out.symm, alloc_below _ _⟩
  · have d1 : decide ((40 : Int) < (n : Int)) = false := by simp; omega
    by_cases h2 : 40 < m
    · have hf := Lib.hid (hb.trans (decide_eq_true (.inr (.inl h2))))
      have d2 : decide ((40 : Int) < (m : Int)) = true := by simp; omega
      clear hb
      go_enter Try.func52, Try.ntmps52
      go_wp2
      go_ret
      exact ⟨ret_bool hf.out.symm, alloc_below _ _⟩
    · have d2 : decide ((40 : Int) < (m : Int)) = false := by simp; omega
      by_cases h3 : 20 < i
      · have hf := Lib.hid (hb.trans (decide_eq_true (.inr (.inr h3))))
        have d3 : decide ((20 : Int) < i) = true := by simpa using h3
        clear hb
        go_enter Try.func52, Try.ntmps52
        go_wp2
        go_ret
        exact ⟨ret_bool hf.out.symm, alloc_below _ _⟩
      · have hf := Lib.hid (hb.trans (decide_eq_false (fun H => by omega)))
        have d3 : decide ((20 : Int) < i) = false := by simpa using h3
        clear hb
        go_enter Try.func52, Try.ntmps52
        go_wp2
        go_ret
        exact ⟨ret_bool hf.out.symm, alloc_below _ _⟩

theorem Mblk.upd {w w' : World} {g : Nat} {a b c d : Value} (h : Mblk w g a b c d) (hb : Below w.heap.size w w') : Mblk w' g a b c d := h.kept hb (heap_lt h)

theorem tr_frm {i st n : Nat} {nx ot : List (List Int)} (hM : Mok i st n nx ot) (xs : List Int) :
    (frm i 0 (trN nx i (rch nx i st)) (trO ot (rch nx i st)) 0 xs).1 = (frm i st nx ot st xs).1 ∧ (frm i 0 (trN nx i (rch nx i st)) (trO ot (rch nx i st)) 0 xs).2.2 = (frm i st nx ot st xs).2.2 := by
  have hT := hM.tr
  by_cases h : chk xs i = 0
  · have e1 := hM.frm hM.st h
    have e2 := hT.frm hT.st h
    have e2 : frm i 0 (trN nx i (rch nx i st)) (trO ot (rch nx i st)) 0 xs = _ := e2
    rw [e1, e2]
    refine ⟨?_, rfl⟩
    have := tr_run hM xs st (st_mem nx i st) (chk_zero h).2.2.2.mem
    rw [ixN_st] at this
    exact this
  · have h0 := hT.n1
    have h1 := hM.st
    have e1 := frm_word (s := st) hM.vld (by rw [hM.nxl]; omega) h
    have e2 := frm_word (st := 0) (s := 0) hT.vld (by rw [hT.nxl]; omega) h
    rw [e1, e2]
    exact ⟨rfl, rfl⟩
end Go.Proofs.Ytkgdgnmobahhfaa
end

section
/- Long of the machines' laws. -/
namespace Go.Proofs.Ytkgdgnmobahhfaa
open Go.RowKit

/-- What Long's answer says. -/
def LongP (b : Bool) (n : Nat) (xss : List (List Int)) : Prop := b = false → n ≤ 200 ∧ ∀ l, l ∈ xss → l.length ≤ 200
def LongE (n : Nat) (xss : List (List Int)) (e : Ending) : Prop := ∃ b, e = .returned (.bool b) ∧ LongP b n xss

set_option maxRecDepth 100000 in
theorem plong (A : Option Addr) (n c : Nat) (xss : List (List Int)) (w : World) (hx : Lists w A n xss) :
    Calls Try.prog 47 #[.slice A n c] w fun e w' => LongE n xss e ∧ w = w' := by
  have L := Lib.hid hx.1
  have hn := hx.2.1
  by_cases hk : 200 < n
  · have d1 : decide ((200 : Int) < (n : Int)) = true := by simp; omega
    go_enter Try.func47, Try.ntmps47
    go_wp2
    go_ret
    exact ⟨⟨true, rfl, fun h => absurd h (by simp)⟩, rfl⟩
  · have d1 : decide ((200 : Int) < (n : Int)) = false := by simp; omega
    go_enter Try.func47, Try.ntmps47
    go_wp2
    go_loop [3] (fun jv => ∃ j : Nat, j ≤ n ∧ jv = .int .i64 j ∧ ∀ i, i < j → (xss.getD i []).length ≤ 200) (fun jv => n - (intOf jv).toNat)
    case atStart => exact ⟨0, Nat.zero_le _, rfl, fun i h => absurd h (by omega)⟩
    case round =>
      obtain ⟨j, hj, rfl, hall⟩ := hrel
      have HA := Lib.hid hall
      clear hall
      by_cases hlt : j < n
      · obtain ⟨g, o, B, m, d, rfl, _, hcell, hrow⟩ := hx.at_ (k := j) hlt
        have hm : (xss.getD j []).length = m := hrow.1
        by_cases hm2 : m ≤ 200
        · have d2 : decide ((200 : Int) < (m : Int)) = false := by simp; omega
          have HN := Lib.hid (show ∀ i, i < j + 1 → (xss.getD i []).length ≤ 200 from fun i hi => by
            rcases Nat.lt_or_ge i j with h | h
            · exact HA.out i h
            · obtain rfl : i = j := by omega
              omega)
          clear hrow hm
          go_wp2
          go_round
          case rel => exact ⟨j + 1, by omega, by go_num, HN.out⟩
          case measure => simp [intOf]; omega
        · have d2 : decide ((200 : Int) < (m : Int)) = true := by simp; omega
          clear hrow hm
          go_wp2
          go_ret
          exact ⟨⟨true, rfl, fun h => absurd h (by simp)⟩, rfl⟩
      · obtain rfl : j = n := by omega
        go_wp2
        go_ret
        refine ⟨⟨false, rfl, fun _ => ⟨by omega, fun l hl => ?_⟩⟩, rfl⟩
        obtain ⟨i, hi, rfl⟩ := List.getElem_of_mem hl
        have := HA.out i (by rw [← L.out]; exact hi)
        rwa [List.getD_eq_getElem?_getD, List.getElem?_eq_getElem hi] at this
end Go.Proofs.Ytkgdgnmobahhfaa
end

section
/- Great of the laws of hypotheses. -/
namespace Go.Proofs.Ytkgdgnmobahhfaa
open Go.RowKit

/-- What the answer of Great says. -/
def G22 (i : Int) (n k : Nat) (acc : List (List Int)) (b : Bool) : Prop := b = false → n ≤ 40 ∧ i ≤ 20 ∧ k ≤ 200 ∧ ∀ l, l ∈ acc → l.length ≤ 200
def G22E (i : Int) (n k : Nat) (acc : List (List Int)) (w : World) (e : Ending) (w' : World) : Prop := ∃ b, e = .returned (.bool b) ∧ G22 i n k acc b ∧ Below w.heap.size w w'

set_option linter.unusedSimpArgs false in
set_option linter.unusedVariables false in
set_option maxHeartbeats 2000000 in
set_option maxRecDepth 100000 in
theorem rgreat22 (i st : Int) (A B C : Option Addr) (n c m d k e : Nat) (acc : List (List Int)) (w : World) (hC : Lists w C k acc) :
    Calls Try.prog 39 #[.agg #[.int .i64 i, .int .i64 st, .slice A n c, .slice B m d, .slice C k e]] w fun r w' => G22E i n k acc w r w' := by
  obtain ⟨w0, hw0⟩ : ∃ w0, w0 = w.alloc (.cells #[.int .i64 i, .int .i64 st, .slice A n c, .slice B m d, .slice C k e] 65) := ⟨_, rfl⟩
  have hb0 : Below w.heap.size w w0 := by rw [hw0]; exact alloc_below _ _
  have m0 : Bx w0 w.heap.size #[.int .i64 i, .int .i64 st, .slice A n c, .slice B m d, .slice C k e] 65 := by rw [hw0]; exact bx_new _ _ _
  have HB0 := Lib.hid hb0
  have HW0 := Lib.hid hw0
  have HC := Lib.hid (hC.below hb0)
  have HM := Lib.hid m0
  have k0 := m0.cell 0
  have k1 := m0.cell 1
  have k2 := m0.cell 2
  have k3 := m0.cell 3
  have k4 := m0.cell 4
  simp at k0 k1 k2 k3 k4
  rw [hw0] at k0 k1 k2 k3 k4
  obtain ⟨b, hb⟩ : ∃ b, b = decide (40 < n ∨ 40 < m ∨ 20 < i) := ⟨_, rfl⟩
  have HG := Lib.hid (rgreatm i st A B n c m d b w0 hb)
  have HBB := Lib.hid hb
  clear hw0 hb0 m0 hC hb
  go_enter Try.func39, Try.ntmps39
  go_wp2_with fail
  rw [← HW0.out]
  refine HG.out.mono ?_
  rintro r w1 ⟨rfl, a1⟩
  have m1 := HM.out.on a1
  have k4 := m1.cell 4
  simp at k4
  have HC1 := Lib.hid (HC.out.below a1)
  have HB1 := Lib.hid (bt HB0.out a1)
  clear m1 a1 k0 k1 k2 k3
  cases b
  case true =>
    go_wp2_with fail
    go_ret
    exact ⟨true, rfl, (fun h => nomatch h), HB1.out⟩
  case false =>
    go_wp2_with fail
    refine (plong C k e acc w1 HC1.out).mono ?_
    rintro r w2 ⟨⟨b2, rfl, hP⟩, rfl⟩
    have HP := Lib.hid hP
    clear hP
    go_wp2_with fail
    go_ret
    refine ⟨b2, rfl, fun h => ?_, HB1.out⟩
    have h1 := HBB.out
    rw [Eq.comm, decide_eq_false_iff_not] at h1
    exact ⟨by omega, by omega, (HP.out h).1, (HP.out h).2⟩
end Go.Proofs.Ytkgdgnmobahhfaa
end
