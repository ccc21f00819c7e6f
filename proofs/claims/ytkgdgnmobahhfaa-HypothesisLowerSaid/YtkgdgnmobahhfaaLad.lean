/- Lemmas of the proofs of this seat, of the parts Hyd, Eqm, Awak22, Fromr, Reachm, Trimm, Samem, Awakm, Mlaw, Cutm, Grtm, Longm, Ro16, Cmpr, Ro17. Conditions: none. -/
import Derived.Test.YtkgdgnmobahhfaaLab
import Derived.Test.YtkgdgnmobahhfaaLaa
import Derived.Test.YtkgdgnmobahhfaaLac
import Derived.Deep.DeepCutAuto
import Derived.BigQuiet
section
/- Apart: the first word that shows that two words are apart. -/
namespace Go.Proofs.Ytkgdgnmobahhfaa
open Go.RowKit Go.Shelf

theorem wpAnyX_three {P : Program} {md : Region.Mode} {ops : Array Oper} {Q : Exit → Act → World → Prop} {S : World → Prop} {X : Nat → Bool} {i j k : Nat} {o u v : Oper} {fuel : Nat} {listed : Array Bool} {a : Act} {w : World} (ho : ops[i]? = some o) (hu : ops[j]? = some u) (hv : ops[k]? = some v) (hr : Region.ready md ops listed = [i, j, k])
    (h : ∀ K' : Act → World → Prop, Shut (∀ a w', (X i = false → S w → S w') → wpAnyX P md ops Q S X fuel (listed.setIfInBounds i true) a w' → K' a w') → if Region.wanted o (yielded ops a.tmps) = true then Oper.wp P o a w K' Q else K' (a.put o.dst undef) w)
    (h2 : ∀ K' : Act → World → Prop, Shut (∀ a w', (X j = false → S w → S w') → wpAnyX P md ops Q S X fuel (listed.setIfInBounds j true) a w' → K' a w') → if Region.wanted u (yielded ops a.tmps) = true then Oper.wp P u a w K' Q else K' (a.put u.dst undef) w)
    (h3 : ∀ K' : Act → World → Prop, Shut (∀ a w', (X k = false → S w → S w') → wpAnyX P md ops Q S X fuel (listed.setIfInBounds k true) a w' → K' a w') → if Region.wanted v (yielded ops a.tmps) = true then Oper.wp P v a w K' Q else K' (a.put v.dst undef) w) : wpAnyX P md ops Q S X (fuel + 1) listed a w := by
  refine ⟨fun h0 => ?_, fun l hl => ?_⟩
  · rw [hr] at h0; cases h0
  · rw [hr] at hl
    rcases List.mem_cons.1 hl with rfl | hl
    · exact wpOp_step ho (fun K' hK => h K' (fun a w hS hW => hK a w ⟨hS, hW⟩))
    · rcases List.mem_cons.1 hl with rfl | hl
      · exact wpOp_step hu (fun K' hK => h2 K' (fun a w hS hW => hK a w ⟨hS, hW⟩))
      · obtain rfl := List.mem_singleton.1 hl
        exact wpOp_step hv (fun K' hK => h3 K' (fun a w hS hW => hK a w ⟨hS, hW⟩))

theorem pord_rows (i : Int) (A B : Option Addr) (c d b : Nat) (P Q F M : List (List Int × List Int)) (hFM : (F, M) = if Q.length < P.length then (Q, P) else (P, Q)) (w1 w : World) (hP : TrsH w1 w b (.slice A P.length c) P) (hQ : TrsH w1 w b (.slice B Q.length d) Q) (hp : P.length ≤ 17592186044416) (hq : Q.length ≤ 17592186044416) :
    Calls Try.prog 85 #[.agg #[.int .i64 i, .slice A P.length c], .agg #[.int .i64 i, .slice B Q.length d]] w fun e w' => ∃ A4 c4 A5 c5, e = .returned (.tuple #[.agg #[.int .i64 i, .slice A4 F.length c4], .agg #[.int .i64 i, .slice A5 M.length c5]]) ∧
      TrsH w1 w' b (.slice A4 F.length c4) F ∧ TrsH w1 w' b (.slice A5 M.length c5) M ∧ Below w.heap.size w w' := by
  refine (pordered i i A B P.length c Q.length d w hp hq).mono ?_
  rintro e w' ⟨rfl, hb⟩
  have hP' := hP.keptT (KeptT.of_below hb)
  have hQ' := hQ.keptT (KeptT.of_below hb)
  by_cases h : Q.length < P.length
  · rw [if_pos h] at hFM
    cases hFM
    rw [if_pos h, if_pos h]
    exact ⟨_, _, _, _, rfl, hQ', hP', hb⟩
  · rw [if_neg h] at hFM
    cases hFM
    rw [if_neg h, if_neg h]
    exact ⟨_, _, _, _, rfl, hP', hQ', hb⟩

/-- The two boxes behind the first statement. -/
def ApR (w1 : World) (i : Int) (F M : List (List Int × List Int)) (v9 v10 : Value) (wx : World) : Prop :=
  ∃ (g9 g10 : Nat) (A B : Option Addr) (c d : Nat), v9 = .pointer (some ⟨g9, 0, none⟩) ∧ v10 = .pointer (some ⟨g10, 0, none⟩) ∧ Bx wx g9 #[.int .i64 i, .slice A F.length c] 24 ∧ Bx wx g10 #[.int .i64 i, .slice B M.length d] 24 ∧
    Trs wx A F.length F ∧ Trs wx B M.length M ∧ M.length ≤ d ∧ Below w1.heap.size w1 wx
/-- The result of Apart. -/
def ApE (P Q : List (List Int × List Int)) (w : World) (r : Ending) (w' : World) : Prop :=
  ∃ (A' : Option Addr) (n' c' : Nat) (xs : List Int), r = .returned (.tuple #[.slice A' n' c', .bool (!A'.isNone)]) ∧ Fst1 (ShK P Q P.length) xs ∧ Ints w' A' n' xs ∧ (A' = none ↔ xs = []) ∧ Below w.heap.size w w'

set_option linter.unusedSimpArgs false in
set_option linter.unusedVariables false in
set_option maxHeartbeats 8000000 in
set_option maxRecDepth 100000 in
theorem papart (i : Int) (T U V : Option Addr) (tn tc m d k e : Nat) (ts : List (List Int × List Int)) (us vs : List Int) (w : World) (hT : Trs w T tn ts) (hU : Ints w U m us) (hV : Ints w V k vs) (hF : Full ts) (hS : Srt ts) (hC : Cons ts) (hI : Props i ts) (htn : tn ≤ 100000000) :
    Calls Try.prog 48 #[.agg #[.int .i64 i, .slice T tn tc], .slice U m d, .slice V k e] w fun r w' => ApE (aftK ts us tn) (aftK ts vs tn) w r w' := by
  have HLT := Lib.hid hT.1
  obtain ⟨w1, hw1⟩ : ∃ w1, w1 = w.alloc (.cells #[.int .i64 i, .slice T tn tc] 24) := ⟨_, rfl⟩
  have hb0 : Below w.heap.size w w1 := by rw [hw1]; exact alloc_below _ _
  have m0 : Bx w1 w.heap.size #[.int .i64 i, .slice T tn tc] 24 := by rw [hw1]; exact bx_new _ _ _
  have HS := Lib.hid (fun (W : World) (h : Below w1.heap.size w1 W) => m0.on h)
  have HT := Lib.hid (fun (W : World) (h : Below w1.heap.size w1 W) => (hT.below hb0).below h)
  have HU := Lib.hid (fun (W : World) (h : Below w1.heap.size w1 W) => (hU.below hb0).below h)
  have HV := Lib.hid (fun (W : World) (h : Below w1.heap.size w1 W) => (hV.below hb0).below h)
  have HB0 := Lib.hid hb0
  have HW1 := Lib.hid hw1
  have HFF := Lib.hid hF
  have HSS := Lib.hid hS
  have HCC := Lib.hid hC
  have HII := Lib.hid hI
  obtain ⟨P, hP⟩ : ∃ P, P = aftK ts us tn := ⟨_, rfl⟩
  obtain ⟨Q, hQ⟩ : ∃ Q, Q = aftK ts vs tn := ⟨_, rfl⟩
  obtain ⟨F, M, hFM⟩ : ∃ F M, (F, M) = if Q.length < P.length then (Q, P) else (P, Q) := ⟨_, _, rfl⟩
  have hPl : P.length ≤ 17592186044416 := by have := aftK_len ts us tn; rw [← hP] at this; omega
  have hQl : Q.length ≤ 17592186044416 := by have := aftK_len ts vs tn; rw [← hQ] at this; omega
  have hFM2 : (F = P ∧ M = Q) ∨ (F = Q ∧ M = P) := by
    by_cases h : Q.length < P.length
    · rw [if_pos h] at hFM; cases hFM; exact .inr ⟨rfl, rfl⟩
    · rw [if_neg h] at hFM; cases hFM; exact .inl ⟨rfl, rfl⟩
  have hFl : F.length ≤ 17592186044416 := by rcases hFM2 with ⟨rfl, _⟩ | ⟨rfl, _⟩ <;> assumption
  have hMl : M.length ≤ 17592186044416 := by rcases hFM2 with ⟨_, rfl⟩ | ⟨_, rfl⟩ <;> assumption
  rw [← hP, ← hQ]
  have HP := Lib.hid hP
  have HQ := Lib.hid hQ
  have HFM := Lib.hid hFM
  have HFM2 := Lib.hid hFM2
  clear hT hU hV hF hS hC hI hb0 m0 hw1 hP hQ hFM hFM2
  go_enter Try.func48, Try.ntmps48
  go_upto_region 2 with fail
  rw [← HW1.out]
  go_cut [9, 10] from 15 to 25 (fun v9 v10 wx => ApR w1 i F M v9 v10 wx)
  case first =>
    refine wp_region_heldX (X := fun k => ([12, 13] : List Nat).contains k) (S := fun W => Bx W w.heap.size #[.int .i64 i, .slice T tn tc] 24) (by kernel_rfl) ?_
    have hbf : Below w1.heap.size w1 w1.drew := below_drewN (Below.refl _ _) 1
    generalize w1.drew = y0 at hbf ⊢
    refine wpAnyX_takeL (L := [12, 13]) (i := 0) (v := .agg (#[.int .i64 i, .slice T tn tc])) rfl (by kernel_rfl) (by kernel_rfl) (by kernel_rfl) (by kernel_rfl) (fun _ _ _ h => h) (Or.inl ⟨by rfl, fun W hSW => run_load_bx 24 _ rfl (w.heap.size) rfl 24 (#[.int .i64 i, .slice T tn tc]) (0, 0) _ (hSW) Try.underlying24 rfl (by kernel_rfl)⟩) (HS.out _ hbf) ?_
    (try simp only [Act.put, List.getElem_toArray, List.getElem_cons_zero, List.getElem_cons_succ, List.setIfInBounds_toArray, List.set_cons_zero, List.set_cons_succ])
    refine wpAnyX_pure (i := 1) (v := ?_) rfl (by kernel_rfl) (by kernel_rfl) (by kernel_rfl) (fun _ _ _ h => h) (Or.inl ⟨by rfl, ?_⟩) ?_
    rotate_left
    · (intro W _; go_simp; try with_reducible rfl)
    (try simp only [Act.put, List.getElem_toArray, List.getElem_cons_zero, List.getElem_cons_succ, List.setIfInBounds_toArray, List.set_cons_zero, List.set_cons_succ])
    refine wpAnyX_takeL (L := [12, 13]) (i := 3) (v := .agg (#[.int .i64 i, .slice T tn tc])) rfl (by kernel_rfl) (by kernel_rfl) (by kernel_rfl) (by kernel_rfl) (fun _ _ _ h => h) (Or.inl ⟨by rfl, fun W hSW => run_load_bx 24 _ rfl (w.heap.size) rfl 24 (#[.int .i64 i, .slice T tn tc]) (0, 0) _ (hSW) Try.underlying24 rfl (by kernel_rfl)⟩) (HS.out _ hbf) ?_
    (try simp only [Act.put, List.getElem_toArray, List.getElem_cons_zero, List.getElem_cons_succ, List.setIfInBounds_toArray, List.set_cons_zero, List.set_cons_succ])
    refine wpAnyX_pure (i := 4) (v := ?_) rfl (by kernel_rfl) (by kernel_rfl) (by kernel_rfl) (fun _ _ _ h => h) (Or.inl ⟨by rfl, ?_⟩) ?_
    rotate_left
    · (intro W _; go_simp; try with_reducible rfl)
    (try simp only [Act.put, List.getElem_toArray, List.getElem_cons_zero, List.getElem_cons_succ, List.setIfInBounds_toArray, List.set_cons_zero, List.set_cons_succ])
    refine wpAnyX_three (i := 2) (j := 10) (k := 11) rfl rfl rfl (by kernel_rfl) (fun K hK => ?_) (fun K hK => ?_) (fun K hK => ?_)
    · go_simp
      go_at_call 86
      refine (pafter22 i T U tn tc m d ts us w1 _ hbf (HT.out _ (Below.refl _ _)) (HU.out _ (Below.refl _ _)) HFF.out htn).mono ?_
      rintro r y1 ⟨A2, c2, rfl, hA, hal⟩
      rw [← HP.out] at hA ⊢
      have hA := hA.lower hbf.size
      have hbf := bt hbf hal
      refine hK.out _ _ (fun _ _ => HS.out _ hbf) ?_
      (try simp only [Act.put, List.getElem_toArray, List.getElem_cons_zero, List.getElem_cons_succ, List.setIfInBounds_toArray, List.set_cons_zero, List.set_cons_succ])
      clear hal
      refine wpAnyX_three (i := 5) (j := 10) (k := 11) rfl rfl rfl (by kernel_rfl) (fun K hK => ?_) (fun K hK => ?_) (fun K hK => ?_)
      · go_simp
        go_at_call 86
        refine (pafter22 i T V tn tc k e ts vs w1 _ hbf (HT.out _ (Below.refl _ _)) (HV.out _ (Below.refl _ _)) HFF.out htn).mono ?_
        rintro r y2 ⟨A3, c3, rfl, hB, hal⟩
        rw [← HQ.out] at hB ⊢
        have hB := hB.lower hbf.size
        have hA := hA.keptT (KeptT.of_below hal)
        have hbf := bt hbf hal
        refine hK.out _ _ (fun _ _ => HS.out _ hbf) ?_
        (try simp only [Act.put, List.getElem_toArray, List.getElem_cons_zero, List.getElem_cons_succ, List.setIfInBounds_toArray, List.set_cons_zero, List.set_cons_succ])
        clear hal
        refine wpAnyX_three (i := 6) (j := 10) (k := 11) rfl rfl rfl (by kernel_rfl) (fun K hK => ?_) (fun K hK => ?_) (fun K hK => ?_)
        · go_simp
          go_at_call 85
          refine (pord_rows i A2 A3 c2 c3 w1.heap.size P Q F M HFM.out w1 _ hA hB hPl hQl).mono ?_
          rintro r y3 ⟨A4, c4, A5, c5, rfl, hF, hM, hal⟩
          clear hA hB
          have hbf := bt hbf hal
          refine hK.out _ _ (fun _ _ => HS.out _ hbf) ?_
          (try simp only [Act.put, List.getElem_toArray, List.getElem_cons_zero, List.getElem_cons_succ, List.setIfInBounds_toArray, List.set_cons_zero, List.set_cons_succ])
          refine wpAnyX_pure (i := 7) (v := ?_) rfl (by kernel_rfl) (by kernel_rfl) (by kernel_rfl) (fun _ _ _ h => h) (Or.inl ⟨by rfl, ?_⟩) ?_
          rotate_left
          · (intro W _; go_simp; try with_reducible rfl)
          (try simp only [Act.put, List.getElem_toArray, List.getElem_cons_zero, List.getElem_cons_succ, List.setIfInBounds_toArray, List.set_cons_zero, List.set_cons_succ])
          refine wpAnyX_pure (i := 8) (v := ?_) rfl (by kernel_rfl) (by kernel_rfl) (by kernel_rfl) (fun _ _ _ h => h) (Or.inl ⟨by rfl, ?_⟩) ?_
          rotate_left
          · (intro W _; go_simp; try with_reducible rfl)
          (try simp only [Act.put, List.getElem_toArray, List.getElem_cons_zero, List.getElem_cons_succ, List.setIfInBounds_toArray, List.set_cons_zero, List.set_cons_succ])
          refine wpAnyX_pure (i := 9) (v := ?_) rfl (by kernel_rfl) (by kernel_rfl) (by kernel_rfl) (fun _ _ _ h => h) (Or.inl ⟨by rfl, ?_⟩) ?_
          rotate_left
          · (intro W _; go_simp; try with_reducible rfl)
          (try simp only [Act.put, List.getElem_toArray, List.getElem_cons_zero, List.getElem_cons_succ, List.setIfInBounds_toArray, List.set_cons_zero, List.set_cons_succ])
          clear hal
          refine wpAnyX_two (i := 10) (j := 11) rfl rfl (by kernel_rfl) (fun K hK => ?_) (fun K hK => ?_)
          · go_simp
            refine hK.out _ _ (fun _ _ => HS.out _ (bt hbf (alloc_below _ _))) ?_
            (try simp only [Act.put, List.getElem_toArray, List.getElem_cons_zero, List.getElem_cons_succ, List.setIfInBounds_toArray, List.set_cons_zero, List.set_cons_succ])
            have hal := alloc_below y3 (.cells #[.int .i64 0, .slice none 0 0] 24)
            have hF := hF.keptT (KeptT.of_below hal)
            have hM := hM.keptT (KeptT.of_below hal)
            have hg9 := bx_new y3 #[.int .i64 0, .slice none 0 0] 24
            have hge9 : w1.heap.size ≤ y3.heap.size := hbf.size
            have hbf := bt hbf hal
            generalize y3.alloc (.cells #[.int .i64 0, .slice none 0 0] 24) = y4 at hal hbf hF hM hg9 ⊢
            have hg9lt := hg9.lt
            clear hal
            refine wpAnyX_one (i := 11) rfl (by kernel_rfl) (fun K hK => ?_)
            go_simp
            refine hK.out _ _ (fun _ _ => HS.out _ (bt hbf (alloc_below _ _))) ?_
            (try simp only [Act.put, List.getElem_toArray, List.getElem_cons_zero, List.getElem_cons_succ, List.setIfInBounds_toArray, List.set_cons_zero, List.set_cons_succ])
            have hal := alloc_below y4 (.cells #[.int .i64 0, .slice none 0 0] 24)
            have hF := hF.keptT (KeptT.of_below hal)
            have hM := hM.keptT (KeptT.of_below hal)
            have hg9 := hg9.on hal
            have hg10 := bx_new y4 #[.int .i64 0, .slice none 0 0] 24
            have hge10 : w1.heap.size ≤ y4.heap.size := hbf.size
            have hbf := bt hbf hal
            have hne : _ ≠ y4.heap.size := Nat.ne_of_lt hg9lt
            generalize y4.alloc (.cells #[.int .i64 0, .slice none 0 0] 24) = y5 at hal hbf hF hM hg9 hg10 ⊢
            have hg10lt := hg10.lt
            have hg9lt := hg9.lt
            clear hal
            refine wpAnyX_one (i := 12) rfl (by kernel_rfl) (fun K hK => ?_)
            refine wp_store_row 24 _ _ rfl _ (#[.int .i64 i, .slice A4 F.length c4]) rfl rfl 24 (#[.int .i64 0, .slice none 0 0]) (hg9) (by kernel_rfl) (by rfl) (by simp [Value.oneCell']) (hK.out _ _ (fun h => absurd h (by decide)) ?_)
            (try simp only [Act.put, List.getElem_toArray, List.getElem_cons_zero, List.getElem_cons_succ, List.setIfInBounds_toArray, List.set_cons_zero, List.set_cons_succ])
            have hF := hF.keptT (hg9.keptRow (t := 38) (by decide) (#[.int .i64 i, .slice A4 F.length c4]))
            have hM := hM.keptT (hg9.keptRow (t := 38) (by decide) (#[.int .i64 i, .slice A4 F.length c4]))
            have hg10 := hg10.rowOther hne.symm (#[.int .i64 i, .slice A4 F.length c4])
            have hg9 := hg9.row (#[.int .i64 i, .slice A4 F.length c4])
            have hbf := below_setRow hbf hge9 (#[.int .i64 i, .slice A4 F.length c4])
            refine wpAnyX_one (i := 13) rfl (by kernel_rfl) (fun K hK => ?_)
            refine wp_store_row 24 _ _ rfl _ (#[.int .i64 i, .slice A5 M.length c5]) rfl rfl 24 (#[.int .i64 0, .slice none 0 0]) (hg10) (by kernel_rfl) (by rfl) (by simp [Value.oneCell']) (hK.out _ _ (fun h => absurd h (by decide)) ?_)
            (try simp only [Act.put, List.getElem_toArray, List.getElem_cons_zero, List.getElem_cons_succ, List.setIfInBounds_toArray, List.set_cons_zero, List.set_cons_succ])
            have hF := hF.keptT (hg10.keptRow (t := 38) (by decide) (#[.int .i64 i, .slice A5 M.length c5]))
            have hM := hM.keptT (hg10.keptRow (t := 38) (by decide) (#[.int .i64 i, .slice A5 M.length c5]))
            have hg9 := hg9.rowOther hne (#[.int .i64 i, .slice A5 M.length c5])
            have hg10 := hg10.row (#[.int .i64 i, .slice A5 M.length c5])
            have hbf := below_setRow hbf hge10 (#[.int .i64 i, .slice A5 M.length c5])
            refine wpAnyX_done (by kernel_rfl) ?_ _
            go_wp2_with fail
            go_meet
            exact ⟨_, _, A4, A5, c4, c5, rfl, rfl, hg9, hg10, hF.trs hbf hFl, hM.trs hbf hMl, hM.cap, hbf⟩
          · go_simp
            refine hK.out _ _ (fun _ _ => HS.out _ (bt hbf (alloc_below _ _))) ?_
            (try simp only [Act.put, List.getElem_toArray, List.getElem_cons_zero, List.getElem_cons_succ, List.setIfInBounds_toArray, List.set_cons_zero, List.set_cons_succ])
            have hal := alloc_below y3 (.cells #[.int .i64 0, .slice none 0 0] 24)
            have hF := hF.keptT (KeptT.of_below hal)
            have hM := hM.keptT (KeptT.of_below hal)
            have hg10 := bx_new y3 #[.int .i64 0, .slice none 0 0] 24
            have hge10 : w1.heap.size ≤ y3.heap.size := hbf.size
            have hbf := bt hbf hal
            generalize y3.alloc (.cells #[.int .i64 0, .slice none 0 0] 24) = y6 at hal hbf hF hM hg10 ⊢
            have hg10lt := hg10.lt
            clear hal
            refine wpAnyX_one (i := 10) rfl (by kernel_rfl) (fun K hK => ?_)
            go_simp
            refine hK.out _ _ (fun _ _ => HS.out _ (bt hbf (alloc_below _ _))) ?_
            (try simp only [Act.put, List.getElem_toArray, List.getElem_cons_zero, List.getElem_cons_succ, List.setIfInBounds_toArray, List.set_cons_zero, List.set_cons_succ])
            have hal := alloc_below y6 (.cells #[.int .i64 0, .slice none 0 0] 24)
            have hF := hF.keptT (KeptT.of_below hal)
            have hM := hM.keptT (KeptT.of_below hal)
            have hg10 := hg10.on hal
            have hg9 := bx_new y6 #[.int .i64 0, .slice none 0 0] 24
            have hge9 : w1.heap.size ≤ y6.heap.size := hbf.size
            have hbf := bt hbf hal
            have hne : y6.heap.size ≠ _ := Nat.ne_of_gt hg10lt
            generalize y6.alloc (.cells #[.int .i64 0, .slice none 0 0] 24) = y7 at hal hbf hF hM hg9 hg10 ⊢
            have hg9lt := hg9.lt
            have hg10lt := hg10.lt
            clear hal
            refine wpAnyX_one (i := 12) rfl (by kernel_rfl) (fun K hK => ?_)
            refine wp_store_row 24 _ _ rfl _ (#[.int .i64 i, .slice A4 F.length c4]) rfl rfl 24 (#[.int .i64 0, .slice none 0 0]) (hg9) (by kernel_rfl) (by rfl) (by simp [Value.oneCell']) (hK.out _ _ (fun h => absurd h (by decide)) ?_)
            (try simp only [Act.put, List.getElem_toArray, List.getElem_cons_zero, List.getElem_cons_succ, List.setIfInBounds_toArray, List.set_cons_zero, List.set_cons_succ])
            have hF := hF.keptT (hg9.keptRow (t := 38) (by decide) (#[.int .i64 i, .slice A4 F.length c4]))
            have hM := hM.keptT (hg9.keptRow (t := 38) (by decide) (#[.int .i64 i, .slice A4 F.length c4]))
            have hg10 := hg10.rowOther hne.symm (#[.int .i64 i, .slice A4 F.length c4])
            have hg9 := hg9.row (#[.int .i64 i, .slice A4 F.length c4])
            have hbf := below_setRow hbf hge9 (#[.int .i64 i, .slice A4 F.length c4])
            refine wpAnyX_one (i := 13) rfl (by kernel_rfl) (fun K hK => ?_)
            refine wp_store_row 24 _ _ rfl _ (#[.int .i64 i, .slice A5 M.length c5]) rfl rfl 24 (#[.int .i64 0, .slice none 0 0]) (hg10) (by kernel_rfl) (by rfl) (by simp [Value.oneCell']) (hK.out _ _ (fun h => absurd h (by decide)) ?_)
            (try simp only [Act.put, List.getElem_toArray, List.getElem_cons_zero, List.getElem_cons_succ, List.setIfInBounds_toArray, List.set_cons_zero, List.set_cons_succ])
            have hF := hF.keptT (hg10.keptRow (t := 38) (by decide) (#[.int .i64 i, .slice A5 M.length c5]))
            have hM := hM.keptT (hg10.keptRow (t := 38) (by decide) (#[.int .i64 i, .slice A5 M.length c5]))
            have hg9 := hg9.rowOther hne (#[.int .i64 i, .slice A5 M.length c5])
            have hg10 := hg10.row (#[.int .i64 i, .slice A5 M.length c5])
            have hbf := below_setRow hbf hge10 (#[.int .i64 i, .slice A5 M.length c5])
            refine wpAnyX_done (by kernel_rfl) ?_ _
            go_wp2_with fail
            go_meet
            exact ⟨_, _, A4, A5, c4, c5, rfl, rfl, hg9, hg10, hF.trs hbf hFl, hM.trs hbf hMl, hM.cap, hbf⟩
        · go_simp
          refine hK.out _ _ (fun _ _ => HS.out _ (bt hbf (alloc_below _ _))) ?_
          (try simp only [Act.put, List.getElem_toArray, List.getElem_cons_zero, List.getElem_cons_succ, List.setIfInBounds_toArray, List.set_cons_zero, List.set_cons_succ])
          have hal := alloc_below y2 (.cells #[.int .i64 0, .slice none 0 0] 24)
          have hA := hA.keptT (KeptT.of_below hal)
          have hB := hB.keptT (KeptT.of_below hal)
          have hg9 := bx_new y2 #[.int .i64 0, .slice none 0 0] 24
          have hge9 : w1.heap.size ≤ y2.heap.size := hbf.size
          have hbf := bt hbf hal
          generalize y2.alloc (.cells #[.int .i64 0, .slice none 0 0] 24) = y8 at hal hbf hA hB hg9 ⊢
          have hg9lt := hg9.lt
          clear hal
          refine wpAnyX_two (i := 6) (j := 11) rfl rfl (by kernel_rfl) (fun K hK => ?_) (fun K hK => ?_)
          · go_simp
            go_at_call 85
            refine (pord_rows i A2 A3 c2 c3 w1.heap.size P Q F M HFM.out w1 _ hA hB hPl hQl).mono ?_
            rintro r y9 ⟨A4, c4, A5, c5, rfl, hF, hM, hal⟩
            clear hA hB
            have hg9 := hg9.on hal
            have hbf := bt hbf hal
            refine hK.out _ _ (fun _ _ => HS.out _ hbf) ?_
            (try simp only [Act.put, List.getElem_toArray, List.getElem_cons_zero, List.getElem_cons_succ, List.setIfInBounds_toArray, List.set_cons_zero, List.set_cons_succ])
            refine wpAnyX_pure (i := 7) (v := ?_) rfl (by kernel_rfl) (by kernel_rfl) (by kernel_rfl) (fun _ _ _ h => h) (Or.inl ⟨by rfl, ?_⟩) ?_
            rotate_left
            · (intro W _; go_simp; try with_reducible rfl)
            (try simp only [Act.put, List.getElem_toArray, List.getElem_cons_zero, List.getElem_cons_succ, List.setIfInBounds_toArray, List.set_cons_zero, List.set_cons_succ])
            refine wpAnyX_pure (i := 8) (v := ?_) rfl (by kernel_rfl) (by kernel_rfl) (by kernel_rfl) (fun _ _ _ h => h) (Or.inl ⟨by rfl, ?_⟩) ?_
            rotate_left
            · (intro W _; go_simp; try with_reducible rfl)
            (try simp only [Act.put, List.getElem_toArray, List.getElem_cons_zero, List.getElem_cons_succ, List.setIfInBounds_toArray, List.set_cons_zero, List.set_cons_succ])
            refine wpAnyX_pure (i := 9) (v := ?_) rfl (by kernel_rfl) (by kernel_rfl) (by kernel_rfl) (fun _ _ _ h => h) (Or.inl ⟨by rfl, ?_⟩) ?_
            rotate_left
            · (intro W _; go_simp; try with_reducible rfl)
            (try simp only [Act.put, List.getElem_toArray, List.getElem_cons_zero, List.getElem_cons_succ, List.setIfInBounds_toArray, List.set_cons_zero, List.set_cons_succ])
            have hg9lt := hg9.lt
            clear hal
            refine wpAnyX_one (i := 11) rfl (by kernel_rfl) (fun K hK => ?_)
            go_simp
            refine hK.out _ _ (fun _ _ => HS.out _ (bt hbf (alloc_below _ _))) ?_
            (try simp only [Act.put, List.getElem_toArray, List.getElem_cons_zero, List.getElem_cons_succ, List.setIfInBounds_toArray, List.set_cons_zero, List.set_cons_succ])
            have hal := alloc_below y9 (.cells #[.int .i64 0, .slice none 0 0] 24)
            have hF := hF.keptT (KeptT.of_below hal)
            have hM := hM.keptT (KeptT.of_below hal)
            have hg9 := hg9.on hal
            have hg10 := bx_new y9 #[.int .i64 0, .slice none 0 0] 24
            have hge10 : w1.heap.size ≤ y9.heap.size := hbf.size
            have hbf := bt hbf hal
            have hne : _ ≠ y9.heap.size := Nat.ne_of_lt hg9lt
            generalize y9.alloc (.cells #[.int .i64 0, .slice none 0 0] 24) = y10 at hal hbf hF hM hg9 hg10 ⊢
            have hg10lt := hg10.lt
            have hg9lt := hg9.lt
            clear hal
            refine wpAnyX_one (i := 12) rfl (by kernel_rfl) (fun K hK => ?_)
            refine wp_store_row 24 _ _ rfl _ (#[.int .i64 i, .slice A4 F.length c4]) rfl rfl 24 (#[.int .i64 0, .slice none 0 0]) (hg9) (by kernel_rfl) (by rfl) (by simp [Value.oneCell']) (hK.out _ _ (fun h => absurd h (by decide)) ?_)
            (try simp only [Act.put, List.getElem_toArray, List.getElem_cons_zero, List.getElem_cons_succ, List.setIfInBounds_toArray, List.set_cons_zero, List.set_cons_succ])
            have hF := hF.keptT (hg9.keptRow (t := 38) (by decide) (#[.int .i64 i, .slice A4 F.length c4]))
            have hM := hM.keptT (hg9.keptRow (t := 38) (by decide) (#[.int .i64 i, .slice A4 F.length c4]))
            have hg10 := hg10.rowOther hne.symm (#[.int .i64 i, .slice A4 F.length c4])
            have hg9 := hg9.row (#[.int .i64 i, .slice A4 F.length c4])
            have hbf := below_setRow hbf hge9 (#[.int .i64 i, .slice A4 F.length c4])
            refine wpAnyX_one (i := 13) rfl (by kernel_rfl) (fun K hK => ?_)
            refine wp_store_row 24 _ _ rfl _ (#[.int .i64 i, .slice A5 M.length c5]) rfl rfl 24 (#[.int .i64 0, .slice none 0 0]) (hg10) (by kernel_rfl) (by rfl) (by simp [Value.oneCell']) (hK.out _ _ (fun h => absurd h (by decide)) ?_)
            (try simp only [Act.put, List.getElem_toArray, List.getElem_cons_zero, List.getElem_cons_succ, List.setIfInBounds_toArray, List.set_cons_zero, List.set_cons_succ])
            have hF := hF.keptT (hg10.keptRow (t := 38) (by decide) (#[.int .i64 i, .slice A5 M.length c5]))
            have hM := hM.keptT (hg10.keptRow (t := 38) (by decide) (#[.int .i64 i, .slice A5 M.length c5]))
            have hg9 := hg9.rowOther hne (#[.int .i64 i, .slice A5 M.length c5])
            have hg10 := hg10.row (#[.int .i64 i, .slice A5 M.length c5])
            have hbf := below_setRow hbf hge10 (#[.int .i64 i, .slice A5 M.length c5])
            refine wpAnyX_done (by kernel_rfl) ?_ _
            go_wp2_with fail
            go_meet
            exact ⟨_, _, A4, A5, c4, c5, rfl, rfl, hg9, hg10, hF.trs hbf hFl, hM.trs hbf hMl, hM.cap, hbf⟩
          · go_simp
            refine hK.out _ _ (fun _ _ => HS.out _ (bt hbf (alloc_below _ _))) ?_
            (try simp only [Act.put, List.getElem_toArray, List.getElem_cons_zero, List.getElem_cons_succ, List.setIfInBounds_toArray, List.set_cons_zero, List.set_cons_succ])
            have hal := alloc_below y8 (.cells #[.int .i64 0, .slice none 0 0] 24)
            have hA := hA.keptT (KeptT.of_below hal)
            have hB := hB.keptT (KeptT.of_below hal)
            have hg9 := hg9.on hal
            have hg10 := bx_new y8 #[.int .i64 0, .slice none 0 0] 24
            have hge10 : w1.heap.size ≤ y8.heap.size := hbf.size
            have hbf := bt hbf hal
            have hne : _ ≠ y8.heap.size := Nat.ne_of_lt hg9lt
            generalize y8.alloc (.cells #[.int .i64 0, .slice none 0 0] 24) = y11 at hal hbf hA hB hg9 hg10 ⊢
            have hg10lt := hg10.lt
            have hg9lt := hg9.lt
            clear hal
            refine wpAnyX_one (i := 6) rfl (by kernel_rfl) (fun K hK => ?_)
            go_simp
            go_at_call 85
            refine (pord_rows i A2 A3 c2 c3 w1.heap.size P Q F M HFM.out w1 _ hA hB hPl hQl).mono ?_
            rintro r y12 ⟨A4, c4, A5, c5, rfl, hF, hM, hal⟩
            clear hA hB
            have hg9 := hg9.on hal
            have hg10 := hg10.on hal
            have hbf := bt hbf hal
            refine hK.out _ _ (fun _ _ => HS.out _ hbf) ?_
            (try simp only [Act.put, List.getElem_toArray, List.getElem_cons_zero, List.getElem_cons_succ, List.setIfInBounds_toArray, List.set_cons_zero, List.set_cons_succ])
            refine wpAnyX_pure (i := 7) (v := ?_) rfl (by kernel_rfl) (by kernel_rfl) (by kernel_rfl) (fun _ _ _ h => h) (Or.inl ⟨by rfl, ?_⟩) ?_
            rotate_left
            · (intro W _; go_simp; try with_reducible rfl)
            (try simp only [Act.put, List.getElem_toArray, List.getElem_cons_zero, List.getElem_cons_succ, List.setIfInBounds_toArray, List.set_cons_zero, List.set_cons_succ])
            refine wpAnyX_pure (i := 8) (v := ?_) rfl (by kernel_rfl) (by kernel_rfl) (by kernel_rfl) (fun _ _ _ h => h) (Or.inl ⟨by rfl, ?_⟩) ?_
            rotate_left
            · (intro W _; go_simp; try with_reducible rfl)
            (try simp only [Act.put, List.getElem_toArray, List.getElem_cons_zero, List.getElem_cons_succ, List.setIfInBounds_toArray, List.set_cons_zero, List.set_cons_succ])
            refine wpAnyX_pure (i := 9) (v := ?_) rfl (by kernel_rfl) (by kernel_rfl) (by kernel_rfl) (fun _ _ _ h => h) (Or.inl ⟨by rfl, ?_⟩) ?_
            rotate_left
            · (intro W _; go_simp; try with_reducible rfl)
            (try simp only [Act.put, List.getElem_toArray, List.getElem_cons_zero, List.getElem_cons_succ, List.setIfInBounds_toArray, List.set_cons_zero, List.set_cons_succ])
            have hg9lt := hg9.lt
            have hg10lt := hg10.lt
            clear hal
            refine wpAnyX_one (i := 12) rfl (by kernel_rfl) (fun K hK => ?_)
            refine wp_store_row 24 _ _ rfl _ (#[.int .i64 i, .slice A4 F.length c4]) rfl rfl 24 (#[.int .i64 0, .slice none 0 0]) (hg9) (by kernel_rfl) (by rfl) (by simp [Value.oneCell']) (hK.out _ _ (fun h => absurd h (by decide)) ?_)
            (try simp only [Act.put, List.getElem_toArray, List.getElem_cons_zero, List.getElem_cons_succ, List.setIfInBounds_toArray, List.set_cons_zero, List.set_cons_succ])
            have hF := hF.keptT (hg9.keptRow (t := 38) (by decide) (#[.int .i64 i, .slice A4 F.length c4]))
            have hM := hM.keptT (hg9.keptRow (t := 38) (by decide) (#[.int .i64 i, .slice A4 F.length c4]))
            have hg10 := hg10.rowOther hne.symm (#[.int .i64 i, .slice A4 F.length c4])
            have hg9 := hg9.row (#[.int .i64 i, .slice A4 F.length c4])
            have hbf := below_setRow hbf hge9 (#[.int .i64 i, .slice A4 F.length c4])
            refine wpAnyX_one (i := 13) rfl (by kernel_rfl) (fun K hK => ?_)
            refine wp_store_row 24 _ _ rfl _ (#[.int .i64 i, .slice A5 M.length c5]) rfl rfl 24 (#[.int .i64 0, .slice none 0 0]) (hg10) (by kernel_rfl) (by rfl) (by simp [Value.oneCell']) (hK.out _ _ (fun h => absurd h (by decide)) ?_)
            (try simp only [Act.put, List.getElem_toArray, List.getElem_cons_zero, List.getElem_cons_succ, List.setIfInBounds_toArray, List.set_cons_zero, List.set_cons_succ])
            have hF := hF.keptT (hg10.keptRow (t := 38) (by decide) (#[.int .i64 i, .slice A5 M.length c5]))
            have hM := hM.keptT (hg10.keptRow (t := 38) (by decide) (#[.int .i64 i, .slice A5 M.length c5]))
            have hg9 := hg9.rowOther hne (#[.int .i64 i, .slice A5 M.length c5])
            have hg10 := hg10.row (#[.int .i64 i, .slice A5 M.length c5])
            have hbf := below_setRow hbf hge10 (#[.int .i64 i, .slice A5 M.length c5])
            refine wpAnyX_done (by kernel_rfl) ?_ _
            go_wp2_with fail
            go_meet
            exact ⟨_, _, A4, A5, c4, c5, rfl, rfl, hg9, hg10, hF.trs hbf hFl, hM.trs hbf hMl, hM.cap, hbf⟩
        · go_simp
          refine hK.out _ _ (fun _ _ => HS.out _ (bt hbf (alloc_below _ _))) ?_
          (try simp only [Act.put, List.getElem_toArray, List.getElem_cons_zero, List.getElem_cons_succ, List.setIfInBounds_toArray, List.set_cons_zero, List.set_cons_succ])
          have hal := alloc_below y2 (.cells #[.int .i64 0, .slice none 0 0] 24)
          have hA := hA.keptT (KeptT.of_below hal)
          have hB := hB.keptT (KeptT.of_below hal)
          have hg10 := bx_new y2 #[.int .i64 0, .slice none 0 0] 24
          have hge10 : w1.heap.size ≤ y2.heap.size := hbf.size
          have hbf := bt hbf hal
          generalize y2.alloc (.cells #[.int .i64 0, .slice none 0 0] 24) = y13 at hal hbf hA hB hg10 ⊢
          have hg10lt := hg10.lt
          clear hal
          refine wpAnyX_two (i := 6) (j := 10) rfl rfl (by kernel_rfl) (fun K hK => ?_) (fun K hK => ?_)
          · go_simp
            go_at_call 85
            refine (pord_rows i A2 A3 c2 c3 w1.heap.size P Q F M HFM.out w1 _ hA hB hPl hQl).mono ?_
            rintro r y14 ⟨A4, c4, A5, c5, rfl, hF, hM, hal⟩
            clear hA hB
            have hg10 := hg10.on hal
            have hbf := bt hbf hal
            refine hK.out _ _ (fun _ _ => HS.out _ hbf) ?_
            (try simp only [Act.put, List.getElem_toArray, List.getElem_cons_zero, List.getElem_cons_succ, List.setIfInBounds_toArray, List.set_cons_zero, List.set_cons_succ])
            refine wpAnyX_pure (i := 7) (v := ?_) rfl (by kernel_rfl) (by kernel_rfl) (by kernel_rfl) (fun _ _ _ h => h) (Or.inl ⟨by rfl, ?_⟩) ?_
            rotate_left
            · (intro W _; go_simp; try with_reducible rfl)
            (try simp only [Act.put, List.getElem_toArray, List.getElem_cons_zero, List.getElem_cons_succ, List.setIfInBounds_toArray, List.set_cons_zero, List.set_cons_succ])
            refine wpAnyX_pure (i := 8) (v := ?_) rfl (by kernel_rfl) (by kernel_rfl) (by kernel_rfl) (fun _ _ _ h => h) (Or.inl ⟨by rfl, ?_⟩) ?_
            rotate_left
            · (intro W _; go_simp; try with_reducible rfl)
            (try simp only [Act.put, List.getElem_toArray, List.getElem_cons_zero, List.getElem_cons_succ, List.setIfInBounds_toArray, List.set_cons_zero, List.set_cons_succ])
            refine wpAnyX_pure (i := 9) (v := ?_) rfl (by kernel_rfl) (by kernel_rfl) (by kernel_rfl) (fun _ _ _ h => h) (Or.inl ⟨by rfl, ?_⟩) ?_
            rotate_left
            · (intro W _; go_simp; try with_reducible rfl)
            (try simp only [Act.put, List.getElem_toArray, List.getElem_cons_zero, List.getElem_cons_succ, List.setIfInBounds_toArray, List.set_cons_zero, List.set_cons_succ])
            have hg10lt := hg10.lt
            clear hal
            refine wpAnyX_one (i := 10) rfl (by kernel_rfl) (fun K hK => ?_)
            go_simp
            refine hK.out _ _ (fun _ _ => HS.out _ (bt hbf (alloc_below _ _))) ?_
            (try simp only [Act.put, List.getElem_toArray, List.getElem_cons_zero, List.getElem_cons_succ, List.setIfInBounds_toArray, List.set_cons_zero, List.set_cons_succ])
            have hal := alloc_below y14 (.cells #[.int .i64 0, .slice none 0 0] 24)
            have hF := hF.keptT (KeptT.of_below hal)
            have hM := hM.keptT (KeptT.of_below hal)
            have hg10 := hg10.on hal
            have hg9 := bx_new y14 #[.int .i64 0, .slice none 0 0] 24
            have hge9 : w1.heap.size ≤ y14.heap.size := hbf.size
            have hbf := bt hbf hal
            have hne : y14.heap.size ≠ _ := Nat.ne_of_gt hg10lt
            generalize y14.alloc (.cells #[.int .i64 0, .slice none 0 0] 24) = y15 at hal hbf hF hM hg9 hg10 ⊢
            have hg9lt := hg9.lt
            have hg10lt := hg10.lt
            clear hal
            refine wpAnyX_one (i := 12) rfl (by kernel_rfl) (fun K hK => ?_)
            refine wp_store_row 24 _ _ rfl _ (#[.int .i64 i, .slice A4 F.length c4]) rfl rfl 24 (#[.int .i64 0, .slice none 0 0]) (hg9) (by kernel_rfl) (by rfl) (by simp [Value.oneCell']) (hK.out _ _ (fun h => absurd h (by decide)) ?_)
            (try simp only [Act.put, List.getElem_toArray, List.getElem_cons_zero, List.getElem_cons_succ, List.setIfInBounds_toArray, List.set_cons_zero, List.set_cons_succ])
            have hF := hF.keptT (hg9.keptRow (t := 38) (by decide) (#[.int .i64 i, .slice A4 F.length c4]))
            have hM := hM.keptT (hg9.keptRow (t := 38) (by decide) (#[.int .i64 i, .slice A4 F.length c4]))
            have hg10 := hg10.rowOther hne.symm (#[.int .i64 i, .slice A4 F.length c4])
            have hg9 := hg9.row (#[.int .i64 i, .slice A4 F.length c4])
            have hbf := below_setRow hbf hge9 (#[.int .i64 i, .slice A4 F.length c4])
            refine wpAnyX_one (i := 13) rfl (by kernel_rfl) (fun K hK => ?_)
            refine wp_store_row 24 _ _ rfl _ (#[.int .i64 i, .slice A5 M.length c5]) rfl rfl 24 (#[.int .i64 0, .slice none 0 0]) (hg10) (by kernel_rfl) (by rfl) (by simp [Value.oneCell']) (hK.out _ _ (fun h => absurd h (by decide)) ?_)
            (try simp only [Act.put, List.getElem_toArray, List.getElem_cons_zero, List.getElem_cons_succ, List.setIfInBounds_toArray, List.set_cons_zero, List.set_cons_succ])
            have hF := hF.keptT (hg10.keptRow (t := 38) (by decide) (#[.int .i64 i, .slice A5 M.length c5]))
            have hM := hM.keptT (hg10.keptRow (t := 38) (by decide) (#[.int .i64 i, .slice A5 M.length c5]))
            have hg9 := hg9.rowOther hne (#[.int .i64 i, .slice A5 M.length c5])
            have hg10 := hg10.row (#[.int .i64 i, .slice A5 M.length c5])
            have hbf := below_setRow hbf hge10 (#[.int .i64 i, .slice A5 M.length c5])
            refine wpAnyX_done (by kernel_rfl) ?_ _
            go_wp2_with fail
            go_meet
            exact ⟨_, _, A4, A5, c4, c5, rfl, rfl, hg9, hg10, hF.trs hbf hFl, hM.trs hbf hMl, hM.cap, hbf⟩
          · go_simp
            refine hK.out _ _ (fun _ _ => HS.out _ (bt hbf (alloc_below _ _))) ?_
            (try simp only [Act.put, List.getElem_toArray, List.getElem_cons_zero, List.getElem_cons_succ, List.setIfInBounds_toArray, List.set_cons_zero, List.set_cons_succ])
            have hal := alloc_below y13 (.cells #[.int .i64 0, .slice none 0 0] 24)
            have hA := hA.keptT (KeptT.of_below hal)
            have hB := hB.keptT (KeptT.of_below hal)
            have hg10 := hg10.on hal
            have hg9 := bx_new y13 #[.int .i64 0, .slice none 0 0] 24
            have hge9 : w1.heap.size ≤ y13.heap.size := hbf.size
            have hbf := bt hbf hal
            have hne : y13.heap.size ≠ _ := Nat.ne_of_gt hg10lt
            generalize y13.alloc (.cells #[.int .i64 0, .slice none 0 0] 24) = y16 at hal hbf hA hB hg9 hg10 ⊢
            have hg9lt := hg9.lt
            have hg10lt := hg10.lt
            clear hal
            refine wpAnyX_one (i := 6) rfl (by kernel_rfl) (fun K hK => ?_)
            go_simp
            go_at_call 85
            refine (pord_rows i A2 A3 c2 c3 w1.heap.size P Q F M HFM.out w1 _ hA hB hPl hQl).mono ?_
            rintro r y17 ⟨A4, c4, A5, c5, rfl, hF, hM, hal⟩
            clear hA hB
            have hg9 := hg9.on hal
            have hg10 := hg10.on hal
            have hbf := bt hbf hal
            refine hK.out _ _ (fun _ _ => HS.out _ hbf) ?_
            (try simp only [Act.put, List.getElem_toArray, List.getElem_cons_zero, List.getElem_cons_succ, List.setIfInBounds_toArray, List.set_cons_zero, List.set_cons_succ])
            refine wpAnyX_pure (i := 7) (v := ?_) rfl (by kernel_rfl) (by kernel_rfl) (by kernel_rfl) (fun _ _ _ h => h) (Or.inl ⟨by rfl, ?_⟩) ?_
            rotate_left
            · (intro W _; go_simp; try with_reducible rfl)
            (try simp only [Act.put, List.getElem_toArray, List.getElem_cons_zero, List.getElem_cons_succ, List.setIfInBounds_toArray, List.set_cons_zero, List.set_cons_succ])
            refine wpAnyX_pure (i := 8) (v := ?_) rfl (by kernel_rfl) (by kernel_rfl) (by kernel_rfl) (fun _ _ _ h => h) (Or.inl ⟨by rfl, ?_⟩) ?_
            rotate_left
            · (intro W _; go_simp; try with_reducible rfl)
            (try simp only [Act.put, List.getElem_toArray, List.getElem_cons_zero, List.getElem_cons_succ, List.setIfInBounds_toArray, List.set_cons_zero, List.set_cons_succ])
            refine wpAnyX_pure (i := 9) (v := ?_) rfl (by kernel_rfl) (by kernel_rfl) (by kernel_rfl) (fun _ _ _ h => h) (Or.inl ⟨by rfl, ?_⟩) ?_
            rotate_left
            · (intro W _; go_simp; try with_reducible rfl)
            (try simp only [Act.put, List.getElem_toArray, List.getElem_cons_zero, List.getElem_cons_succ, List.setIfInBounds_toArray, List.set_cons_zero, List.set_cons_succ])
            have hg9lt := hg9.lt
            have hg10lt := hg10.lt
            clear hal
            refine wpAnyX_one (i := 12) rfl (by kernel_rfl) (fun K hK => ?_)
            refine wp_store_row 24 _ _ rfl _ (#[.int .i64 i, .slice A4 F.length c4]) rfl rfl 24 (#[.int .i64 0, .slice none 0 0]) (hg9) (by kernel_rfl) (by rfl) (by simp [Value.oneCell']) (hK.out _ _ (fun h => absurd h (by decide)) ?_)
            (try simp only [Act.put, List.getElem_toArray, List.getElem_cons_zero, List.getElem_cons_succ, List.setIfInBounds_toArray, List.set_cons_zero, List.set_cons_succ])
            have hF := hF.keptT (hg9.keptRow (t := 38) (by decide) (#[.int .i64 i, .slice A4 F.length c4]))
            have hM := hM.keptT (hg9.keptRow (t := 38) (by decide) (#[.int .i64 i, .slice A4 F.length c4]))
            have hg10 := hg10.rowOther hne.symm (#[.int .i64 i, .slice A4 F.length c4])
            have hg9 := hg9.row (#[.int .i64 i, .slice A4 F.length c4])
            have hbf := below_setRow hbf hge9 (#[.int .i64 i, .slice A4 F.length c4])
            refine wpAnyX_one (i := 13) rfl (by kernel_rfl) (fun K hK => ?_)
            refine wp_store_row 24 _ _ rfl _ (#[.int .i64 i, .slice A5 M.length c5]) rfl rfl 24 (#[.int .i64 0, .slice none 0 0]) (hg10) (by kernel_rfl) (by rfl) (by simp [Value.oneCell']) (hK.out _ _ (fun h => absurd h (by decide)) ?_)
            (try simp only [Act.put, List.getElem_toArray, List.getElem_cons_zero, List.getElem_cons_succ, List.setIfInBounds_toArray, List.set_cons_zero, List.set_cons_succ])
            have hF := hF.keptT (hg10.keptRow (t := 38) (by decide) (#[.int .i64 i, .slice A5 M.length c5]))
            have hM := hM.keptT (hg10.keptRow (t := 38) (by decide) (#[.int .i64 i, .slice A5 M.length c5]))
            have hg9 := hg9.rowOther hne (#[.int .i64 i, .slice A5 M.length c5])
            have hg10 := hg10.row (#[.int .i64 i, .slice A5 M.length c5])
            have hbf := below_setRow hbf hge10 (#[.int .i64 i, .slice A5 M.length c5])
            refine wpAnyX_done (by kernel_rfl) ?_ _
            go_wp2_with fail
            go_meet
            exact ⟨_, _, A4, A5, c4, c5, rfl, rfl, hg9, hg10, hF.trs hbf hFl, hM.trs hbf hMl, hM.cap, hbf⟩
      · go_simp
        refine hK.out _ _ (fun _ _ => HS.out _ (bt hbf (alloc_below _ _))) ?_
        (try simp only [Act.put, List.getElem_toArray, List.getElem_cons_zero, List.getElem_cons_succ, List.setIfInBounds_toArray, List.set_cons_zero, List.set_cons_succ])
        have hal := alloc_below y1 (.cells #[.int .i64 0, .slice none 0 0] 24)
        have hA := hA.keptT (KeptT.of_below hal)
        have hg9 := bx_new y1 #[.int .i64 0, .slice none 0 0] 24
        have hge9 : w1.heap.size ≤ y1.heap.size := hbf.size
        have hbf := bt hbf hal
        generalize y1.alloc (.cells #[.int .i64 0, .slice none 0 0] 24) = y18 at hal hbf hA hg9 ⊢
        have hg9lt := hg9.lt
        clear hal
        refine wpAnyX_two (i := 5) (j := 11) rfl rfl (by kernel_rfl) (fun K hK => ?_) (fun K hK => ?_)
        · go_simp
          go_at_call 86
          refine (pafter22 i T V tn tc k e ts vs w1 _ hbf (HT.out _ (Below.refl _ _)) (HV.out _ (Below.refl _ _)) HFF.out htn).mono ?_
          rintro r y19 ⟨A3, c3, rfl, hB, hal⟩
          rw [← HQ.out] at hB ⊢
          have hB := hB.lower hbf.size
          have hA := hA.keptT (KeptT.of_below hal)
          have hg9 := hg9.on hal
          have hbf := bt hbf hal
          refine hK.out _ _ (fun _ _ => HS.out _ hbf) ?_
          (try simp only [Act.put, List.getElem_toArray, List.getElem_cons_zero, List.getElem_cons_succ, List.setIfInBounds_toArray, List.set_cons_zero, List.set_cons_succ])
          have hg9lt := hg9.lt
          clear hal
          refine wpAnyX_two (i := 6) (j := 11) rfl rfl (by kernel_rfl) (fun K hK => ?_) (fun K hK => ?_)
          · go_simp
            go_at_call 85
            refine (pord_rows i A2 A3 c2 c3 w1.heap.size P Q F M HFM.out w1 _ hA hB hPl hQl).mono ?_
            rintro r y20 ⟨A4, c4, A5, c5, rfl, hF, hM, hal⟩
            clear hA hB
            have hg9 := hg9.on hal
            have hbf := bt hbf hal
            refine hK.out _ _ (fun _ _ => HS.out _ hbf) ?_
            (try simp only [Act.put, List.getElem_toArray, List.getElem_cons_zero, List.getElem_cons_succ, List.setIfInBounds_toArray, List.set_cons_zero, List.set_cons_succ])
            refine wpAnyX_pure (i := 7) (v := ?_) rfl (by kernel_rfl) (by kernel_rfl) (by kernel_rfl) (fun _ _ _ h => h) (Or.inl ⟨by rfl, ?_⟩) ?_
            rotate_left
            · (intro W _; go_simp; try with_reducible rfl)
            (try simp only [Act.put, List.getElem_toArray, List.getElem_cons_zero, List.getElem_cons_succ, List.setIfInBounds_toArray, List.set_cons_zero, List.set_cons_succ])
            refine wpAnyX_pure (i := 8) (v := ?_) rfl (by kernel_rfl) (by kernel_rfl) (by kernel_rfl) (fun _ _ _ h => h) (Or.inl ⟨by rfl, ?_⟩) ?_
            rotate_left
            · (intro W _; go_simp; try with_reducible rfl)
            (try simp only [Act.put, List.getElem_toArray, List.getElem_cons_zero, List.getElem_cons_succ, List.setIfInBounds_toArray, List.set_cons_zero, List.set_cons_succ])
            refine wpAnyX_pure (i := 9) (v := ?_) rfl (by kernel_rfl) (by kernel_rfl) (by kernel_rfl) (fun _ _ _ h => h) (Or.inl ⟨by rfl, ?_⟩) ?_
            rotate_left
            · (intro W _; go_simp; try with_reducible rfl)
            (try simp only [Act.put, List.getElem_toArray, List.getElem_cons_zero, List.getElem_cons_succ, List.setIfInBounds_toArray, List.set_cons_zero, List.set_cons_succ])
            have hg9lt := hg9.lt
            clear hal
            refine wpAnyX_one (i := 11) rfl (by kernel_rfl) (fun K hK => ?_)
            go_simp
            refine hK.out _ _ (fun _ _ => HS.out _ (bt hbf (alloc_below _ _))) ?_
            (try simp only [Act.put, List.getElem_toArray, List.getElem_cons_zero, List.getElem_cons_succ, List.setIfInBounds_toArray, List.set_cons_zero, List.set_cons_succ])
            have hal := alloc_below y20 (.cells #[.int .i64 0, .slice none 0 0] 24)
            have hF := hF.keptT (KeptT.of_below hal)
            have hM := hM.keptT (KeptT.of_below hal)
            have hg9 := hg9.on hal
            have hg10 := bx_new y20 #[.int .i64 0, .slice none 0 0] 24
            have hge10 : w1.heap.size ≤ y20.heap.size := hbf.size
            have hbf := bt hbf hal
            have hne : _ ≠ y20.heap.size := Nat.ne_of_lt hg9lt
            generalize y20.alloc (.cells #[.int .i64 0, .slice none 0 0] 24) = y21 at hal hbf hF hM hg9 hg10 ⊢
            have hg10lt := hg10.lt
            have hg9lt := hg9.lt
            clear hal
            refine wpAnyX_one (i := 12) rfl (by kernel_rfl) (fun K hK => ?_)
            refine wp_store_row 24 _ _ rfl _ (#[.int .i64 i, .slice A4 F.length c4]) rfl rfl 24 (#[.int .i64 0, .slice none 0 0]) (hg9) (by kernel_rfl) (by rfl) (by simp [Value.oneCell']) (hK.out _ _ (fun h => absurd h (by decide)) ?_)
            (try simp only [Act.put, List.getElem_toArray, List.getElem_cons_zero, List.getElem_cons_succ, List.setIfInBounds_toArray, List.set_cons_zero, List.set_cons_succ])
            have hF := hF.keptT (hg9.keptRow (t := 38) (by decide) (#[.int .i64 i, .slice A4 F.length c4]))
            have hM := hM.keptT (hg9.keptRow (t := 38) (by decide) (#[.int .i64 i, .slice A4 F.length c4]))
            have hg10 := hg10.rowOther hne.symm (#[.int .i64 i, .slice A4 F.length c4])
            have hg9 := hg9.row (#[.int .i64 i, .slice A4 F.length c4])
            have hbf := below_setRow hbf hge9 (#[.int .i64 i, .slice A4 F.length c4])
            refine wpAnyX_one (i := 13) rfl (by kernel_rfl) (fun K hK => ?_)
            refine wp_store_row 24 _ _ rfl _ (#[.int .i64 i, .slice A5 M.length c5]) rfl rfl 24 (#[.int .i64 0, .slice none 0 0]) (hg10) (by kernel_rfl) (by rfl) (by simp [Value.oneCell']) (hK.out _ _ (fun h => absurd h (by decide)) ?_)
            (try simp only [Act.put, List.getElem_toArray, List.getElem_cons_zero, List.getElem_cons_succ, List.setIfInBounds_toArray, List.set_cons_zero, List.set_cons_succ])
            have hF := hF.keptT (hg10.keptRow (t := 38) (by decide) (#[.int .i64 i, .slice A5 M.length c5]))
            have hM := hM.keptT (hg10.keptRow (t := 38) (by decide) (#[.int .i64 i, .slice A5 M.length c5]))
            have hg9 := hg9.rowOther hne (#[.int .i64 i, .slice A5 M.length c5])
            have hg10 := hg10.row (#[.int .i64 i, .slice A5 M.length c5])
            have hbf := below_setRow hbf hge10 (#[.int .i64 i, .slice A5 M.length c5])
            refine wpAnyX_done (by kernel_rfl) ?_ _
            go_wp2_with fail
            go_meet
            exact ⟨_, _, A4, A5, c4, c5, rfl, rfl, hg9, hg10, hF.trs hbf hFl, hM.trs hbf hMl, hM.cap, hbf⟩
          · go_simp
            refine hK.out _ _ (fun _ _ => HS.out _ (bt hbf (alloc_below _ _))) ?_
            (try simp only [Act.put, List.getElem_toArray, List.getElem_cons_zero, List.getElem_cons_succ, List.setIfInBounds_toArray, List.set_cons_zero, List.set_cons_succ])
            have hal := alloc_below y19 (.cells #[.int .i64 0, .slice none 0 0] 24)
            have hA := hA.keptT (KeptT.of_below hal)
            have hB := hB.keptT (KeptT.of_below hal)
            have hg9 := hg9.on hal
            have hg10 := bx_new y19 #[.int .i64 0, .slice none 0 0] 24
            have hge10 : w1.heap.size ≤ y19.heap.size := hbf.size
            have hbf := bt hbf hal
            have hne : _ ≠ y19.heap.size := Nat.ne_of_lt hg9lt
            generalize y19.alloc (.cells #[.int .i64 0, .slice none 0 0] 24) = y22 at hal hbf hA hB hg9 hg10 ⊢
            have hg10lt := hg10.lt
            have hg9lt := hg9.lt
            clear hal
            refine wpAnyX_one (i := 6) rfl (by kernel_rfl) (fun K hK => ?_)
            go_simp
            go_at_call 85
            refine (pord_rows i A2 A3 c2 c3 w1.heap.size P Q F M HFM.out w1 _ hA hB hPl hQl).mono ?_
            rintro r y23 ⟨A4, c4, A5, c5, rfl, hF, hM, hal⟩
            clear hA hB
            have hg9 := hg9.on hal
            have hg10 := hg10.on hal
            have hbf := bt hbf hal
            refine hK.out _ _ (fun _ _ => HS.out _ hbf) ?_
            (try simp only [Act.put, List.getElem_toArray, List.getElem_cons_zero, List.getElem_cons_succ, List.setIfInBounds_toArray, List.set_cons_zero, List.set_cons_succ])
            refine wpAnyX_pure (i := 7) (v := ?_) rfl (by kernel_rfl) (by kernel_rfl) (by kernel_rfl) (fun _ _ _ h => h) (Or.inl ⟨by rfl, ?_⟩) ?_
            rotate_left
            · (intro W _; go_simp; try with_reducible rfl)
            (try simp only [Act.put, List.getElem_toArray, List.getElem_cons_zero, List.getElem_cons_succ, List.setIfInBounds_toArray, List.set_cons_zero, List.set_cons_succ])
            refine wpAnyX_pure (i := 8) (v := ?_) rfl (by kernel_rfl) (by kernel_rfl) (by kernel_rfl) (fun _ _ _ h => h) (Or.inl ⟨by rfl, ?_⟩) ?_
            rotate_left
            · (intro W _; go_simp; try with_reducible rfl)
            (try simp only [Act.put, List.getElem_toArray, List.getElem_cons_zero, List.getElem_cons_succ, List.setIfInBounds_toArray, List.set_cons_zero, List.set_cons_succ])
            refine wpAnyX_pure (i := 9) (v := ?_) rfl (by kernel_rfl) (by kernel_rfl) (by kernel_rfl) (fun _ _ _ h => h) (Or.inl ⟨by rfl, ?_⟩) ?_
            rotate_left
            · (intro W _; go_simp; try with_reducible rfl)
            (try simp only [Act.put, List.getElem_toArray, List.getElem_cons_zero, List.getElem_cons_succ, List.setIfInBounds_toArray, List.set_cons_zero, List.set_cons_succ])
            have hg9lt := hg9.lt
            have hg10lt := hg10.lt
            clear hal
            refine wpAnyX_one (i := 12) rfl (by kernel_rfl) (fun K hK => ?_)
            refine wp_store_row 24 _ _ rfl _ (#[.int .i64 i, .slice A4 F.length c4]) rfl rfl 24 (#[.int .i64 0, .slice none 0 0]) (hg9) (by kernel_rfl) (by rfl) (by simp [Value.oneCell']) (hK.out _ _ (fun h => absurd h (by decide)) ?_)
            (try simp only [Act.put, List.getElem_toArray, List.getElem_cons_zero, List.getElem_cons_succ, List.setIfInBounds_toArray, List.set_cons_zero, List.set_cons_succ])
            have hF := hF.keptT (hg9.keptRow (t := 38) (by decide) (#[.int .i64 i, .slice A4 F.length c4]))
            have hM := hM.keptT (hg9.keptRow (t := 38) (by decide) (#[.int .i64 i, .slice A4 F.length c4]))
            have hg10 := hg10.rowOther hne.symm (#[.int .i64 i, .slice A4 F.length c4])
            have hg9 := hg9.row (#[.int .i64 i, .slice A4 F.length c4])
            have hbf := below_setRow hbf hge9 (#[.int .i64 i, .slice A4 F.length c4])
            refine wpAnyX_one (i := 13) rfl (by kernel_rfl) (fun K hK => ?_)
            refine wp_store_row 24 _ _ rfl _ (#[.int .i64 i, .slice A5 M.length c5]) rfl rfl 24 (#[.int .i64 0, .slice none 0 0]) (hg10) (by kernel_rfl) (by rfl) (by simp [Value.oneCell']) (hK.out _ _ (fun h => absurd h (by decide)) ?_)
            (try simp only [Act.put, List.getElem_toArray, List.getElem_cons_zero, List.getElem_cons_succ, List.setIfInBounds_toArray, List.set_cons_zero, List.set_cons_succ])
            have hF := hF.keptT (hg10.keptRow (t := 38) (by decide) (#[.int .i64 i, .slice A5 M.length c5]))
            have hM := hM.keptT (hg10.keptRow (t := 38) (by decide) (#[.int .i64 i, .slice A5 M.length c5]))
            have hg9 := hg9.rowOther hne (#[.int .i64 i, .slice A5 M.length c5])
            have hg10 := hg10.row (#[.int .i64 i, .slice A5 M.length c5])
            have hbf := below_setRow hbf hge10 (#[.int .i64 i, .slice A5 M.length c5])
            refine wpAnyX_done (by kernel_rfl) ?_ _
            go_wp2_with fail
            go_meet
            exact ⟨_, _, A4, A5, c4, c5, rfl, rfl, hg9, hg10, hF.trs hbf hFl, hM.trs hbf hMl, hM.cap, hbf⟩
        · go_simp
          refine hK.out _ _ (fun _ _ => HS.out _ (bt hbf (alloc_below _ _))) ?_
          (try simp only [Act.put, List.getElem_toArray, List.getElem_cons_zero, List.getElem_cons_succ, List.setIfInBounds_toArray, List.set_cons_zero, List.set_cons_succ])
          have hal := alloc_below y18 (.cells #[.int .i64 0, .slice none 0 0] 24)
          have hA := hA.keptT (KeptT.of_below hal)
          have hg9 := hg9.on hal
          have hg10 := bx_new y18 #[.int .i64 0, .slice none 0 0] 24
          have hge10 : w1.heap.size ≤ y18.heap.size := hbf.size
          have hbf := bt hbf hal
          have hne : _ ≠ y18.heap.size := Nat.ne_of_lt hg9lt
          generalize y18.alloc (.cells #[.int .i64 0, .slice none 0 0] 24) = y24 at hal hbf hA hg9 hg10 ⊢
          have hg10lt := hg10.lt
          have hg9lt := hg9.lt
          clear hal
          refine wpAnyX_one (i := 5) rfl (by kernel_rfl) (fun K hK => ?_)
          go_simp
          go_at_call 86
          refine (pafter22 i T V tn tc k e ts vs w1 _ hbf (HT.out _ (Below.refl _ _)) (HV.out _ (Below.refl _ _)) HFF.out htn).mono ?_
          rintro r y25 ⟨A3, c3, rfl, hB, hal⟩
          rw [← HQ.out] at hB ⊢
          have hB := hB.lower hbf.size
          have hA := hA.keptT (KeptT.of_below hal)
          have hg9 := hg9.on hal
          have hg10 := hg10.on hal
          have hbf := bt hbf hal
          refine hK.out _ _ (fun _ _ => HS.out _ hbf) ?_
          (try simp only [Act.put, List.getElem_toArray, List.getElem_cons_zero, List.getElem_cons_succ, List.setIfInBounds_toArray, List.set_cons_zero, List.set_cons_succ])
          have hg9lt := hg9.lt
          have hg10lt := hg10.lt
          clear hal
          refine wpAnyX_one (i := 6) rfl (by kernel_rfl) (fun K hK => ?_)
          go_simp
          go_at_call 85
          refine (pord_rows i A2 A3 c2 c3 w1.heap.size P Q F M HFM.out w1 _ hA hB hPl hQl).mono ?_
          rintro r y26 ⟨A4, c4, A5, c5, rfl, hF, hM, hal⟩
          clear hA hB
          have hg9 := hg9.on hal
          have hg10 := hg10.on hal
          have hbf := bt hbf hal
          refine hK.out _ _ (fun _ _ => HS.out _ hbf) ?_
          (try simp only [Act.put, List.getElem_toArray, List.getElem_cons_zero, List.getElem_cons_succ, List.setIfInBounds_toArray, List.set_cons_zero, List.set_cons_succ])
          refine wpAnyX_pure (i := 7) (v := ?_) rfl (by kernel_rfl) (by kernel_rfl) (by kernel_rfl) (fun _ _ _ h => h) (Or.inl ⟨by rfl, ?_⟩) ?_
          rotate_left
          · (intro W _; go_simp; try with_reducible rfl)
          (try simp only [Act.put, List.getElem_toArray, List.getElem_cons_zero, List.getElem_cons_succ, List.setIfInBounds_toArray, List.set_cons_zero, List.set_cons_succ])
          refine wpAnyX_pure (i := 8) (v := ?_) rfl (by kernel_rfl) (by kernel_rfl) (by kernel_rfl) (fun _ _ _ h => h) (Or.inl ⟨by rfl, ?_⟩) ?_
          rotate_left
          · (intro W _; go_simp; try with_reducible rfl)
          (try simp only [Act.put, List.getElem_toArray, List.getElem_cons_zero, List.getElem_cons_succ, List.setIfInBounds_toArray, List.set_cons_zero, List.set_cons_succ])
          refine wpAnyX_pure (i := 9) (v := ?_) rfl (by kernel_rfl) (by kernel_rfl) (by kernel_rfl) (fun _ _ _ h => h) (Or.inl ⟨by rfl, ?_⟩) ?_
          rotate_left
          · (intro W _; go_simp; try with_reducible rfl)
          (try simp only [Act.put, List.getElem_toArray, List.getElem_cons_zero, List.getElem_cons_succ, List.setIfInBounds_toArray, List.set_cons_zero, List.set_cons_succ])
          have hg9lt := hg9.lt
          have hg10lt := hg10.lt
          clear hal
          refine wpAnyX_one (i := 12) rfl (by kernel_rfl) (fun K hK => ?_)
          refine wp_store_row 24 _ _ rfl _ (#[.int .i64 i, .slice A4 F.length c4]) rfl rfl 24 (#[.int .i64 0, .slice none 0 0]) (hg9) (by kernel_rfl) (by rfl) (by simp [Value.oneCell']) (hK.out _ _ (fun h => absurd h (by decide)) ?_)
          (try simp only [Act.put, List.getElem_toArray, List.getElem_cons_zero, List.getElem_cons_succ, List.setIfInBounds_toArray, List.set_cons_zero, List.set_cons_succ])
          have hF := hF.keptT (hg9.keptRow (t := 38) (by decide) (#[.int .i64 i, .slice A4 F.length c4]))
          have hM := hM.keptT (hg9.keptRow (t := 38) (by decide) (#[.int .i64 i, .slice A4 F.length c4]))
          have hg10 := hg10.rowOther hne.symm (#[.int .i64 i, .slice A4 F.length c4])
          have hg9 := hg9.row (#[.int .i64 i, .slice A4 F.length c4])
          have hbf := below_setRow hbf hge9 (#[.int .i64 i, .slice A4 F.length c4])
          refine wpAnyX_one (i := 13) rfl (by kernel_rfl) (fun K hK => ?_)
          refine wp_store_row 24 _ _ rfl _ (#[.int .i64 i, .slice A5 M.length c5]) rfl rfl 24 (#[.int .i64 0, .slice none 0 0]) (hg10) (by kernel_rfl) (by rfl) (by simp [Value.oneCell']) (hK.out _ _ (fun h => absurd h (by decide)) ?_)
          (try simp only [Act.put, List.getElem_toArray, List.getElem_cons_zero, List.getElem_cons_succ, List.setIfInBounds_toArray, List.set_cons_zero, List.set_cons_succ])
          have hF := hF.keptT (hg10.keptRow (t := 38) (by decide) (#[.int .i64 i, .slice A5 M.length c5]))
          have hM := hM.keptT (hg10.keptRow (t := 38) (by decide) (#[.int .i64 i, .slice A5 M.length c5]))
          have hg9 := hg9.rowOther hne (#[.int .i64 i, .slice A5 M.length c5])
          have hg10 := hg10.row (#[.int .i64 i, .slice A5 M.length c5])
          have hbf := below_setRow hbf hge10 (#[.int .i64 i, .slice A5 M.length c5])
          refine wpAnyX_done (by kernel_rfl) ?_ _
          go_wp2_with fail
          go_meet
          exact ⟨_, _, A4, A5, c4, c5, rfl, rfl, hg9, hg10, hF.trs hbf hFl, hM.trs hbf hMl, hM.cap, hbf⟩
      · go_simp
        refine hK.out _ _ (fun _ _ => HS.out _ (bt hbf (alloc_below _ _))) ?_
        (try simp only [Act.put, List.getElem_toArray, List.getElem_cons_zero, List.getElem_cons_succ, List.setIfInBounds_toArray, List.set_cons_zero, List.set_cons_succ])
        have hal := alloc_below y1 (.cells #[.int .i64 0, .slice none 0 0] 24)
        have hA := hA.keptT (KeptT.of_below hal)
        have hg10 := bx_new y1 #[.int .i64 0, .slice none 0 0] 24
        have hge10 : w1.heap.size ≤ y1.heap.size := hbf.size
        have hbf := bt hbf hal
        generalize y1.alloc (.cells #[.int .i64 0, .slice none 0 0] 24) = y27 at hal hbf hA hg10 ⊢
        have hg10lt := hg10.lt
        clear hal
        refine wpAnyX_two (i := 5) (j := 10) rfl rfl (by kernel_rfl) (fun K hK => ?_) (fun K hK => ?_)
        · go_simp
          go_at_call 86
          refine (pafter22 i T V tn tc k e ts vs w1 _ hbf (HT.out _ (Below.refl _ _)) (HV.out _ (Below.refl _ _)) HFF.out htn).mono ?_
          rintro r y28 ⟨A3, c3, rfl, hB, hal⟩
          rw [← HQ.out] at hB ⊢
          have hB := hB.lower hbf.size
          have hA := hA.keptT (KeptT.of_below hal)
          have hg10 := hg10.on hal
          have hbf := bt hbf hal
          refine hK.out _ _ (fun _ _ => HS.out _ hbf) ?_
          (try simp only [Act.put, List.getElem_toArray, List.getElem_cons_zero, List.getElem_cons_succ, List.setIfInBounds_toArray, List.set_cons_zero, List.set_cons_succ])
          have hg10lt := hg10.lt
          clear hal
          refine wpAnyX_two (i := 6) (j := 10) rfl rfl (by kernel_rfl) (fun K hK => ?_) (fun K hK => ?_)
          · go_simp
            go_at_call 85
            refine (pord_rows i A2 A3 c2 c3 w1.heap.size P Q F M HFM.out w1 _ hA hB hPl hQl).mono ?_
            rintro r y29 ⟨A4, c4, A5, c5, rfl, hF, hM, hal⟩
            clear hA hB
            have hg10 := hg10.on hal
            have hbf := bt hbf hal
            refine hK.out _ _ (fun _ _ => HS.out _ hbf) ?_
            (try simp only [Act.put, List.getElem_toArray, List.getElem_cons_zero, List.getElem_cons_succ, List.setIfInBounds_toArray, List.set_cons_zero, List.set_cons_succ])
            refine wpAnyX_pure (i := 7) (v := ?_) rfl (by kernel_rfl) (by kernel_rfl) (by kernel_rfl) (fun _ _ _ h => h) (Or.inl ⟨by rfl, ?_⟩) ?_
            rotate_left
            · (intro W _; go_simp; try with_reducible rfl)
            (try simp only [Act.put, List.getElem_toArray, List.getElem_cons_zero, List.getElem_cons_succ, List.setIfInBounds_toArray, List.set_cons_zero, List.set_cons_succ])
            refine wpAnyX_pure (i := 8) (v := ?_) rfl (by kernel_rfl) (by kernel_rfl) (by kernel_rfl) (fun _ _ _ h => h) (Or.inl ⟨by rfl, ?_⟩) ?_
            rotate_left
            · (intro W _; go_simp; try with_reducible rfl)
            (try simp only [Act.put, List.getElem_toArray, List.getElem_cons_zero, List.getElem_cons_succ, List.setIfInBounds_toArray, List.set_cons_zero, List.set_cons_succ])
            refine wpAnyX_pure (i := 9) (v := ?_) rfl (by kernel_rfl) (by kernel_rfl) (by kernel_rfl) (fun _ _ _ h => h) (Or.inl ⟨by rfl, ?_⟩) ?_
            rotate_left
            · (intro W _; go_simp; try with_reducible rfl)
            (try simp only [Act.put, List.getElem_toArray, List.getElem_cons_zero, List.getElem_cons_succ, List.setIfInBounds_toArray, List.set_cons_zero, List.set_cons_succ])
            have hg10lt := hg10.lt
            clear hal
            refine wpAnyX_one (i := 10) rfl (by kernel_rfl) (fun K hK => ?_)
            go_simp
            refine hK.out _ _ (fun _ _ => HS.out _ (bt hbf (alloc_below _ _))) ?_
            (try simp only [Act.put, List.getElem_toArray, List.getElem_cons_zero, List.getElem_cons_succ, List.setIfInBounds_toArray, List.set_cons_zero, List.set_cons_succ])
            have hal := alloc_below y29 (.cells #[.int .i64 0, .slice none 0 0] 24)
            have hF := hF.keptT (KeptT.of_below hal)
            have hM := hM.keptT (KeptT.of_below hal)
            have hg10 := hg10.on hal
            have hg9 := bx_new y29 #[.int .i64 0, .slice none 0 0] 24
            have hge9 : w1.heap.size ≤ y29.heap.size := hbf.size
            have hbf := bt hbf hal
            have hne : y29.heap.size ≠ _ := Nat.ne_of_gt hg10lt
            generalize y29.alloc (.cells #[.int .i64 0, .slice none 0 0] 24) = y30 at hal hbf hF hM hg9 hg10 ⊢
            have hg9lt := hg9.lt
            have hg10lt := hg10.lt
            clear hal
            refine wpAnyX_one (i := 12) rfl (by kernel_rfl) (fun K hK => ?_)
            refine wp_store_row 24 _ _ rfl _ (#[.int .i64 i, .slice A4 F.length c4]) rfl rfl 24 (#[.int .i64 0, .slice none 0 0]) (hg9) (by kernel_rfl) (by rfl) (by simp [Value.oneCell']) (hK.out _ _ (fun h => absurd h (by decide)) ?_)
            (try simp only [Act.put, List.getElem_toArray, List.getElem_cons_zero, List.getElem_cons_succ, List.setIfInBounds_toArray, List.set_cons_zero, List.set_cons_succ])
            have hF := hF.keptT (hg9.keptRow (t := 38) (by decide) (#[.int .i64 i, .slice A4 F.length c4]))
            have hM := hM.keptT (hg9.keptRow (t := 38) (by decide) (#[.int .i64 i, .slice A4 F.length c4]))
            have hg10 := hg10.rowOther hne.symm (#[.int .i64 i, .slice A4 F.length c4])
            have hg9 := hg9.row (#[.int .i64 i, .slice A4 F.length c4])
            have hbf := below_setRow hbf hge9 (#[.int .i64 i, .slice A4 F.length c4])
            refine wpAnyX_one (i := 13) rfl (by kernel_rfl) (fun K hK => ?_)
            refine wp_store_row 24 _ _ rfl _ (#[.int .i64 i, .slice A5 M.length c5]) rfl rfl 24 (#[.int .i64 0, .slice none 0 0]) (hg10) (by kernel_rfl) (by rfl) (by simp [Value.oneCell']) (hK.out _ _ (fun h => absurd h (by decide)) ?_)
            (try simp only [Act.put, List.getElem_toArray, List.getElem_cons_zero, List.getElem_cons_succ, List.setIfInBounds_toArray, List.set_cons_zero, List.set_cons_succ])
            have hF := hF.keptT (hg10.keptRow (t := 38) (by decide) (#[.int .i64 i, .slice A5 M.length c5]))
            have hM := hM.keptT (hg10.keptRow (t := 38) (by decide) (#[.int .i64 i, .slice A5 M.length c5]))
            have hg9 := hg9.rowOther hne (#[.int .i64 i, .slice A5 M.length c5])
            have hg10 := hg10.row (#[.int .i64 i, .slice A5 M.length c5])
            have hbf := below_setRow hbf hge10 (#[.int .i64 i, .slice A5 M.length c5])
            refine wpAnyX_done (by kernel_rfl) ?_ _
            go_wp2_with fail
            go_meet
            exact ⟨_, _, A4, A5, c4, c5, rfl, rfl, hg9, hg10, hF.trs hbf hFl, hM.trs hbf hMl, hM.cap, hbf⟩
          · go_simp
            refine hK.out _ _ (fun _ _ => HS.out _ (bt hbf (alloc_below _ _))) ?_
            (try simp only [Act.put, List.getElem_toArray, List.getElem_cons_zero, List.getElem_cons_succ, List.setIfInBounds_toArray, List.set_cons_zero, List.set_cons_succ])
            have hal := alloc_below y28 (.cells #[.int .i64 0, .slice none 0 0] 24)
            have hA := hA.keptT (KeptT.of_below hal)
            have hB := hB.keptT (KeptT.of_below hal)
            have hg10 := hg10.on hal
            have hg9 := bx_new y28 #[.int .i64 0, .slice none 0 0] 24
            have hge9 : w1.heap.size ≤ y28.heap.size := hbf.size
            have hbf := bt hbf hal
            have hne : y28.heap.size ≠ _ := Nat.ne_of_gt hg10lt
            generalize y28.alloc (.cells #[.int .i64 0, .slice none 0 0] 24) = y31 at hal hbf hA hB hg9 hg10 ⊢
            have hg9lt := hg9.lt
            have hg10lt := hg10.lt
            clear hal
            refine wpAnyX_one (i := 6) rfl (by kernel_rfl) (fun K hK => ?_)
            go_simp
            go_at_call 85
            refine (pord_rows i A2 A3 c2 c3 w1.heap.size P Q F M HFM.out w1 _ hA hB hPl hQl).mono ?_
            rintro r y32 ⟨A4, c4, A5, c5, rfl, hF, hM, hal⟩
            clear hA hB
            have hg9 := hg9.on hal
            have hg10 := hg10.on hal
            have hbf := bt hbf hal
            refine hK.out _ _ (fun _ _ => HS.out _ hbf) ?_
            (try simp only [Act.put, List.getElem_toArray, List.getElem_cons_zero, List.getElem_cons_succ, List.setIfInBounds_toArray, List.set_cons_zero, List.set_cons_succ])
            refine wpAnyX_pure (i := 7) (v := ?_) rfl (by kernel_rfl) (by kernel_rfl) (by kernel_rfl) (fun _ _ _ h => h) (Or.inl ⟨by rfl, ?_⟩) ?_
            rotate_left
            · (intro W _; go_simp; try with_reducible rfl)
            (try simp only [Act.put, List.getElem_toArray, List.getElem_cons_zero, List.getElem_cons_succ, List.setIfInBounds_toArray, List.set_cons_zero, List.set_cons_succ])
            refine wpAnyX_pure (i := 8) (v := ?_) rfl (by kernel_rfl) (by kernel_rfl) (by kernel_rfl) (fun _ _ _ h => h) (Or.inl ⟨by rfl, ?_⟩) ?_
            rotate_left
            · (intro W _; go_simp; try with_reducible rfl)
            (try simp only [Act.put, List.getElem_toArray, List.getElem_cons_zero, List.getElem_cons_succ, List.setIfInBounds_toArray, List.set_cons_zero, List.set_cons_succ])
            refine wpAnyX_pure (i := 9) (v := ?_) rfl (by kernel_rfl) (by kernel_rfl) (by kernel_rfl) (fun _ _ _ h => h) (Or.inl ⟨by rfl, ?_⟩) ?_
            rotate_left
            · (intro W _; go_simp; try with_reducible rfl)
            (try simp only [Act.put, List.getElem_toArray, List.getElem_cons_zero, List.getElem_cons_succ, List.setIfInBounds_toArray, List.set_cons_zero, List.set_cons_succ])
            have hg9lt := hg9.lt
            have hg10lt := hg10.lt
            clear hal
            refine wpAnyX_one (i := 12) rfl (by kernel_rfl) (fun K hK => ?_)
            refine wp_store_row 24 _ _ rfl _ (#[.int .i64 i, .slice A4 F.length c4]) rfl rfl 24 (#[.int .i64 0, .slice none 0 0]) (hg9) (by kernel_rfl) (by rfl) (by simp [Value.oneCell']) (hK.out _ _ (fun h => absurd h (by decide)) ?_)
            (try simp only [Act.put, List.getElem_toArray, List.getElem_cons_zero, List.getElem_cons_succ, List.setIfInBounds_toArray, List.set_cons_zero, List.set_cons_succ])
            have hF := hF.keptT (hg9.keptRow (t := 38) (by decide) (#[.int .i64 i, .slice A4 F.length c4]))
            have hM := hM.keptT (hg9.keptRow (t := 38) (by decide) (#[.int .i64 i, .slice A4 F.length c4]))
            have hg10 := hg10.rowOther hne.symm (#[.int .i64 i, .slice A4 F.length c4])
            have hg9 := hg9.row (#[.int .i64 i, .slice A4 F.length c4])
            have hbf := below_setRow hbf hge9 (#[.int .i64 i, .slice A4 F.length c4])
            refine wpAnyX_one (i := 13) rfl (by kernel_rfl) (fun K hK => ?_)
            refine wp_store_row 24 _ _ rfl _ (#[.int .i64 i, .slice A5 M.length c5]) rfl rfl 24 (#[.int .i64 0, .slice none 0 0]) (hg10) (by kernel_rfl) (by rfl) (by simp [Value.oneCell']) (hK.out _ _ (fun h => absurd h (by decide)) ?_)
            (try simp only [Act.put, List.getElem_toArray, List.getElem_cons_zero, List.getElem_cons_succ, List.setIfInBounds_toArray, List.set_cons_zero, List.set_cons_succ])
            have hF := hF.keptT (hg10.keptRow (t := 38) (by decide) (#[.int .i64 i, .slice A5 M.length c5]))
            have hM := hM.keptT (hg10.keptRow (t := 38) (by decide) (#[.int .i64 i, .slice A5 M.length c5]))
            have hg9 := hg9.rowOther hne (#[.int .i64 i, .slice A5 M.length c5])
            have hg10 := hg10.row (#[.int .i64 i, .slice A5 M.length c5])
            have hbf := below_setRow hbf hge10 (#[.int .i64 i, .slice A5 M.length c5])
            refine wpAnyX_done (by kernel_rfl) ?_ _
            go_wp2_with fail
            go_meet
            exact ⟨_, _, A4, A5, c4, c5, rfl, rfl, hg9, hg10, hF.trs hbf hFl, hM.trs hbf hMl, hM.cap, hbf⟩
        · go_simp
          refine hK.out _ _ (fun _ _ => HS.out _ (bt hbf (alloc_below _ _))) ?_
          (try simp only [Act.put, List.getElem_toArray, List.getElem_cons_zero, List.getElem_cons_succ, List.setIfInBounds_toArray, List.set_cons_zero, List.set_cons_succ])
          have hal := alloc_below y27 (.cells #[.int .i64 0, .slice none 0 0] 24)
          have hA := hA.keptT (KeptT.of_below hal)
          have hg10 := hg10.on hal
          have hg9 := bx_new y27 #[.int .i64 0, .slice none 0 0] 24
          have hge9 : w1.heap.size ≤ y27.heap.size := hbf.size
          have hbf := bt hbf hal
          have hne : y27.heap.size ≠ _ := Nat.ne_of_gt hg10lt
          generalize y27.alloc (.cells #[.int .i64 0, .slice none 0 0] 24) = y33 at hal hbf hA hg9 hg10 ⊢
          have hg9lt := hg9.lt
          have hg10lt := hg10.lt
          clear hal
          refine wpAnyX_one (i := 5) rfl (by kernel_rfl) (fun K hK => ?_)
          go_simp
          go_at_call 86
          refine (pafter22 i T V tn tc k e ts vs w1 _ hbf (HT.out _ (Below.refl _ _)) (HV.out _ (Below.refl _ _)) HFF.out htn).mono ?_
          rintro r y34 ⟨A3, c3, rfl, hB, hal⟩
          rw [← HQ.out] at hB ⊢
          have hB := hB.lower hbf.size
          have hA := hA.keptT (KeptT.of_below hal)
          have hg9 := hg9.on hal
          have hg10 := hg10.on hal
          have hbf := bt hbf hal
          refine hK.out _ _ (fun _ _ => HS.out _ hbf) ?_
          (try simp only [Act.put, List.getElem_toArray, List.getElem_cons_zero, List.getElem_cons_succ, List.setIfInBounds_toArray, List.set_cons_zero, List.set_cons_succ])
          have hg9lt := hg9.lt
          have hg10lt := hg10.lt
          clear hal
          refine wpAnyX_one (i := 6) rfl (by kernel_rfl) (fun K hK => ?_)
          go_simp
          go_at_call 85
          refine (pord_rows i A2 A3 c2 c3 w1.heap.size P Q F M HFM.out w1 _ hA hB hPl hQl).mono ?_
          rintro r y35 ⟨A4, c4, A5, c5, rfl, hF, hM, hal⟩
          clear hA hB
          have hg9 := hg9.on hal
          have hg10 := hg10.on hal
          have hbf := bt hbf hal
          refine hK.out _ _ (fun _ _ => HS.out _ hbf) ?_
          (try simp only [Act.put, List.getElem_toArray, List.getElem_cons_zero, List.getElem_cons_succ, List.setIfInBounds_toArray, List.set_cons_zero, List.set_cons_succ])
          refine wpAnyX_pure (i := 7) (v := ?_) rfl (by kernel_rfl) (by kernel_rfl) (by kernel_rfl) (fun _ _ _ h => h) (Or.inl ⟨by rfl, ?_⟩) ?_
          rotate_left
          · (intro W _; go_simp; try with_reducible rfl)
          (try simp only [Act.put, List.getElem_toArray, List.getElem_cons_zero, List.getElem_cons_succ, List.setIfInBounds_toArray, List.set_cons_zero, List.set_cons_succ])
          refine wpAnyX_pure (i := 8) (v := ?_) rfl (by kernel_rfl) (by kernel_rfl) (by kernel_rfl) (fun _ _ _ h => h) (Or.inl ⟨by rfl, ?_⟩) ?_
          rotate_left
          · (intro W _; go_simp; try with_reducible rfl)
          (try simp only [Act.put, List.getElem_toArray, List.getElem_cons_zero, List.getElem_cons_succ, List.setIfInBounds_toArray, List.set_cons_zero, List.set_cons_succ])
          refine wpAnyX_pure (i := 9) (v := ?_) rfl (by kernel_rfl) (by kernel_rfl) (by kernel_rfl) (fun _ _ _ h => h) (Or.inl ⟨by rfl, ?_⟩) ?_
          rotate_left
          · (intro W _; go_simp; try with_reducible rfl)
          (try simp only [Act.put, List.getElem_toArray, List.getElem_cons_zero, List.getElem_cons_succ, List.setIfInBounds_toArray, List.set_cons_zero, List.set_cons_succ])
          have hg9lt := hg9.lt
          have hg10lt := hg10.lt
          clear hal
          refine wpAnyX_one (i := 12) rfl (by kernel_rfl) (fun K hK => ?_)
          refine wp_store_row 24 _ _ rfl _ (#[.int .i64 i, .slice A4 F.length c4]) rfl rfl 24 (#[.int .i64 0, .slice none 0 0]) (hg9) (by kernel_rfl) (by rfl) (by simp [Value.oneCell']) (hK.out _ _ (fun h => absurd h (by decide)) ?_)
          (try simp only [Act.put, List.getElem_toArray, List.getElem_cons_zero, List.getElem_cons_succ, List.setIfInBounds_toArray, List.set_cons_zero, List.set_cons_succ])
          have hF := hF.keptT (hg9.keptRow (t := 38) (by decide) (#[.int .i64 i, .slice A4 F.length c4]))
          have hM := hM.keptT (hg9.keptRow (t := 38) (by decide) (#[.int .i64 i, .slice A4 F.length c4]))
          have hg10 := hg10.rowOther hne.symm (#[.int .i64 i, .slice A4 F.length c4])
          have hg9 := hg9.row (#[.int .i64 i, .slice A4 F.length c4])
          have hbf := below_setRow hbf hge9 (#[.int .i64 i, .slice A4 F.length c4])
          refine wpAnyX_one (i := 13) rfl (by kernel_rfl) (fun K hK => ?_)
          refine wp_store_row 24 _ _ rfl _ (#[.int .i64 i, .slice A5 M.length c5]) rfl rfl 24 (#[.int .i64 0, .slice none 0 0]) (hg10) (by kernel_rfl) (by rfl) (by simp [Value.oneCell']) (hK.out _ _ (fun h => absurd h (by decide)) ?_)
          (try simp only [Act.put, List.getElem_toArray, List.getElem_cons_zero, List.getElem_cons_succ, List.setIfInBounds_toArray, List.set_cons_zero, List.set_cons_succ])
          have hF := hF.keptT (hg10.keptRow (t := 38) (by decide) (#[.int .i64 i, .slice A5 M.length c5]))
          have hM := hM.keptT (hg10.keptRow (t := 38) (by decide) (#[.int .i64 i, .slice A5 M.length c5]))
          have hg9 := hg9.rowOther hne (#[.int .i64 i, .slice A5 M.length c5])
          have hg10 := hg10.row (#[.int .i64 i, .slice A5 M.length c5])
          have hbf := below_setRow hbf hge10 (#[.int .i64 i, .slice A5 M.length c5])
          refine wpAnyX_done (by kernel_rfl) ?_ _
          go_wp2_with fail
          go_meet
          exact ⟨_, _, A4, A5, c4, c5, rfl, rfl, hg9, hg10, hF.trs hbf hFl, hM.trs hbf hMl, hM.cap, hbf⟩
    · go_simp
      refine hK.out _ _ (fun _ _ => HS.out _ (bt hbf (alloc_below _ _))) ?_
      (try simp only [Act.put, List.getElem_toArray, List.getElem_cons_zero, List.getElem_cons_succ, List.setIfInBounds_toArray, List.set_cons_zero, List.set_cons_succ])
      have hal := alloc_below y0 (.cells #[.int .i64 0, .slice none 0 0] 24)
      have hg9 := bx_new y0 #[.int .i64 0, .slice none 0 0] 24
      have hge9 : w1.heap.size ≤ y0.heap.size := hbf.size
      have hbf := bt hbf hal
      generalize y0.alloc (.cells #[.int .i64 0, .slice none 0 0] 24) = y36 at hal hbf hg9 ⊢
      have hg9lt := hg9.lt
      clear hal
      refine wpAnyX_two (i := 2) (j := 11) rfl rfl (by kernel_rfl) (fun K hK => ?_) (fun K hK => ?_)
      · go_simp
        go_at_call 86
        refine (pafter22 i T U tn tc m d ts us w1 _ hbf (HT.out _ (Below.refl _ _)) (HU.out _ (Below.refl _ _)) HFF.out htn).mono ?_
        rintro r y37 ⟨A2, c2, rfl, hA, hal⟩
        rw [← HP.out] at hA ⊢
        have hA := hA.lower hbf.size
        have hg9 := hg9.on hal
        have hbf := bt hbf hal
        refine hK.out _ _ (fun _ _ => HS.out _ hbf) ?_
        (try simp only [Act.put, List.getElem_toArray, List.getElem_cons_zero, List.getElem_cons_succ, List.setIfInBounds_toArray, List.set_cons_zero, List.set_cons_succ])
        have hg9lt := hg9.lt
        clear hal
        refine wpAnyX_two (i := 5) (j := 11) rfl rfl (by kernel_rfl) (fun K hK => ?_) (fun K hK => ?_)
        · go_simp
          go_at_call 86
          refine (pafter22 i T V tn tc k e ts vs w1 _ hbf (HT.out _ (Below.refl _ _)) (HV.out _ (Below.refl _ _)) HFF.out htn).mono ?_
          rintro r y38 ⟨A3, c3, rfl, hB, hal⟩
          rw [← HQ.out] at hB ⊢
          have hB := hB.lower hbf.size
          have hA := hA.keptT (KeptT.of_below hal)
          have hg9 := hg9.on hal
          have hbf := bt hbf hal
          refine hK.out _ _ (fun _ _ => HS.out _ hbf) ?_
          (try simp only [Act.put, List.getElem_toArray, List.getElem_cons_zero, List.getElem_cons_succ, List.setIfInBounds_toArray, List.set_cons_zero, List.set_cons_succ])
          have hg9lt := hg9.lt
          clear hal
          refine wpAnyX_two (i := 6) (j := 11) rfl rfl (by kernel_rfl) (fun K hK => ?_) (fun K hK => ?_)
          · go_simp
            go_at_call 85
            refine (pord_rows i A2 A3 c2 c3 w1.heap.size P Q F M HFM.out w1 _ hA hB hPl hQl).mono ?_
            rintro r y39 ⟨A4, c4, A5, c5, rfl, hF, hM, hal⟩
            clear hA hB
            have hg9 := hg9.on hal
            have hbf := bt hbf hal
            refine hK.out _ _ (fun _ _ => HS.out _ hbf) ?_
            (try simp only [Act.put, List.getElem_toArray, List.getElem_cons_zero, List.getElem_cons_succ, List.setIfInBounds_toArray, List.set_cons_zero, List.set_cons_succ])
            refine wpAnyX_pure (i := 7) (v := ?_) rfl (by kernel_rfl) (by kernel_rfl) (by kernel_rfl) (fun _ _ _ h => h) (Or.inl ⟨by rfl, ?_⟩) ?_
            rotate_left
            · (intro W _; go_simp; try with_reducible rfl)
            (try simp only [Act.put, List.getElem_toArray, List.getElem_cons_zero, List.getElem_cons_succ, List.setIfInBounds_toArray, List.set_cons_zero, List.set_cons_succ])
            refine wpAnyX_pure (i := 8) (v := ?_) rfl (by kernel_rfl) (by kernel_rfl) (by kernel_rfl) (fun _ _ _ h => h) (Or.inl ⟨by rfl, ?_⟩) ?_
            rotate_left
            · (intro W _; go_simp; try with_reducible rfl)
            (try simp only [Act.put, List.getElem_toArray, List.getElem_cons_zero, List.getElem_cons_succ, List.setIfInBounds_toArray, List.set_cons_zero, List.set_cons_succ])
            refine wpAnyX_pure (i := 9) (v := ?_) rfl (by kernel_rfl) (by kernel_rfl) (by kernel_rfl) (fun _ _ _ h => h) (Or.inl ⟨by rfl, ?_⟩) ?_
            rotate_left
            · (intro W _; go_simp; try with_reducible rfl)
            (try simp only [Act.put, List.getElem_toArray, List.getElem_cons_zero, List.getElem_cons_succ, List.setIfInBounds_toArray, List.set_cons_zero, List.set_cons_succ])
            have hg9lt := hg9.lt
            clear hal
            refine wpAnyX_one (i := 11) rfl (by kernel_rfl) (fun K hK => ?_)
            go_simp
            refine hK.out _ _ (fun _ _ => HS.out _ (bt hbf (alloc_below _ _))) ?_
            (try simp only [Act.put, List.getElem_toArray, List.getElem_cons_zero, List.getElem_cons_succ, List.setIfInBounds_toArray, List.set_cons_zero, List.set_cons_succ])
            have hal := alloc_below y39 (.cells #[.int .i64 0, .slice none 0 0] 24)
            have hF := hF.keptT (KeptT.of_below hal)
            have hM := hM.keptT (KeptT.of_below hal)
            have hg9 := hg9.on hal
            have hg10 := bx_new y39 #[.int .i64 0, .slice none 0 0] 24
            have hge10 : w1.heap.size ≤ y39.heap.size := hbf.size
            have hbf := bt hbf hal
            have hne : _ ≠ y39.heap.size := Nat.ne_of_lt hg9lt
            generalize y39.alloc (.cells #[.int .i64 0, .slice none 0 0] 24) = y40 at hal hbf hF hM hg9 hg10 ⊢
            have hg10lt := hg10.lt
            have hg9lt := hg9.lt
            clear hal
            refine wpAnyX_one (i := 12) rfl (by kernel_rfl) (fun K hK => ?_)
            refine wp_store_row 24 _ _ rfl _ (#[.int .i64 i, .slice A4 F.length c4]) rfl rfl 24 (#[.int .i64 0, .slice none 0 0]) (hg9) (by kernel_rfl) (by rfl) (by simp [Value.oneCell']) (hK.out _ _ (fun h => absurd h (by decide)) ?_)
            (try simp only [Act.put, List.getElem_toArray, List.getElem_cons_zero, List.getElem_cons_succ, List.setIfInBounds_toArray, List.set_cons_zero, List.set_cons_succ])
            have hF := hF.keptT (hg9.keptRow (t := 38) (by decide) (#[.int .i64 i, .slice A4 F.length c4]))
            have hM := hM.keptT (hg9.keptRow (t := 38) (by decide) (#[.int .i64 i, .slice A4 F.length c4]))
            have hg10 := hg10.rowOther hne.symm (#[.int .i64 i, .slice A4 F.length c4])
            have hg9 := hg9.row (#[.int .i64 i, .slice A4 F.length c4])
            have hbf := below_setRow hbf hge9 (#[.int .i64 i, .slice A4 F.length c4])
            refine wpAnyX_one (i := 13) rfl (by kernel_rfl) (fun K hK => ?_)
            refine wp_store_row 24 _ _ rfl _ (#[.int .i64 i, .slice A5 M.length c5]) rfl rfl 24 (#[.int .i64 0, .slice none 0 0]) (hg10) (by kernel_rfl) (by rfl) (by simp [Value.oneCell']) (hK.out _ _ (fun h => absurd h (by decide)) ?_)
            (try simp only [Act.put, List.getElem_toArray, List.getElem_cons_zero, List.getElem_cons_succ, List.setIfInBounds_toArray, List.set_cons_zero, List.set_cons_succ])
            have hF := hF.keptT (hg10.keptRow (t := 38) (by decide) (#[.int .i64 i, .slice A5 M.length c5]))
            have hM := hM.keptT (hg10.keptRow (t := 38) (by decide) (#[.int .i64 i, .slice A5 M.length c5]))
            have hg9 := hg9.rowOther hne (#[.int .i64 i, .slice A5 M.length c5])
            have hg10 := hg10.row (#[.int .i64 i, .slice A5 M.length c5])
            have hbf := below_setRow hbf hge10 (#[.int .i64 i, .slice A5 M.length c5])
            refine wpAnyX_done (by kernel_rfl) ?_ _
            go_wp2_with fail
            go_meet
            exact ⟨_, _, A4, A5, c4, c5, rfl, rfl, hg9, hg10, hF.trs hbf hFl, hM.trs hbf hMl, hM.cap, hbf⟩
          · go_simp
            refine hK.out _ _ (fun _ _ => HS.out _ (bt hbf (alloc_below _ _))) ?_
            (try simp only [Act.put, List.getElem_toArray, List.getElem_cons_zero, List.getElem_cons_succ, List.setIfInBounds_toArray, List.set_cons_zero, List.set_cons_succ])
            have hal := alloc_below y38 (.cells #[.int .i64 0, .slice none 0 0] 24)
            have hA := hA.keptT (KeptT.of_below hal)
            have hB := hB.keptT (KeptT.of_below hal)
            have hg9 := hg9.on hal
            have hg10 := bx_new y38 #[.int .i64 0, .slice none 0 0] 24
            have hge10 : w1.heap.size ≤ y38.heap.size := hbf.size
            have hbf := bt hbf hal
            have hne : _ ≠ y38.heap.size := Nat.ne_of_lt hg9lt
            generalize y38.alloc (.cells #[.int .i64 0, .slice none 0 0] 24) = y41 at hal hbf hA hB hg9 hg10 ⊢
            have hg10lt := hg10.lt
            have hg9lt := hg9.lt
            clear hal
            refine wpAnyX_one (i := 6) rfl (by kernel_rfl) (fun K hK => ?_)
            go_simp
            go_at_call 85
            refine (pord_rows i A2 A3 c2 c3 w1.heap.size P Q F M HFM.out w1 _ hA hB hPl hQl).mono ?_
            rintro r y42 ⟨A4, c4, A5, c5, rfl, hF, hM, hal⟩
            clear hA hB
            have hg9 := hg9.on hal
            have hg10 := hg10.on hal
            have hbf := bt hbf hal
            refine hK.out _ _ (fun _ _ => HS.out _ hbf) ?_
            (try simp only [Act.put, List.getElem_toArray, List.getElem_cons_zero, List.getElem_cons_succ, List.setIfInBounds_toArray, List.set_cons_zero, List.set_cons_succ])
            refine wpAnyX_pure (i := 7) (v := ?_) rfl (by kernel_rfl) (by kernel_rfl) (by kernel_rfl) (fun _ _ _ h => h) (Or.inl ⟨by rfl, ?_⟩) ?_
            rotate_left
            · (intro W _; go_simp; try with_reducible rfl)
            (try simp only [Act.put, List.getElem_toArray, List.getElem_cons_zero, List.getElem_cons_succ, List.setIfInBounds_toArray, List.set_cons_zero, List.set_cons_succ])
            refine wpAnyX_pure (i := 8) (v := ?_) rfl (by kernel_rfl) (by kernel_rfl) (by kernel_rfl) (fun _ _ _ h => h) (Or.inl ⟨by rfl, ?_⟩) ?_
            rotate_left
            · (intro W _; go_simp; try with_reducible rfl)
            (try simp only [Act.put, List.getElem_toArray, List.getElem_cons_zero, List.getElem_cons_succ, List.setIfInBounds_toArray, List.set_cons_zero, List.set_cons_succ])
            refine wpAnyX_pure (i := 9) (v := ?_) rfl (by kernel_rfl) (by kernel_rfl) (by kernel_rfl) (fun _ _ _ h => h) (Or.inl ⟨by rfl, ?_⟩) ?_
            rotate_left
            · (intro W _; go_simp; try with_reducible rfl)
            (try simp only [Act.put, List.getElem_toArray, List.getElem_cons_zero, List.getElem_cons_succ, List.setIfInBounds_toArray, List.set_cons_zero, List.set_cons_succ])
            have hg9lt := hg9.lt
            have hg10lt := hg10.lt
            clear hal
            refine wpAnyX_one (i := 12) rfl (by kernel_rfl) (fun K hK => ?_)
            refine wp_store_row 24 _ _ rfl _ (#[.int .i64 i, .slice A4 F.length c4]) rfl rfl 24 (#[.int .i64 0, .slice none 0 0]) (hg9) (by kernel_rfl) (by rfl) (by simp [Value.oneCell']) (hK.out _ _ (fun h => absurd h (by decide)) ?_)
            (try simp only [Act.put, List.getElem_toArray, List.getElem_cons_zero, List.getElem_cons_succ, List.setIfInBounds_toArray, List.set_cons_zero, List.set_cons_succ])
            have hF := hF.keptT (hg9.keptRow (t := 38) (by decide) (#[.int .i64 i, .slice A4 F.length c4]))
            have hM := hM.keptT (hg9.keptRow (t := 38) (by decide) (#[.int .i64 i, .slice A4 F.length c4]))
            have hg10 := hg10.rowOther hne.symm (#[.int .i64 i, .slice A4 F.length c4])
            have hg9 := hg9.row (#[.int .i64 i, .slice A4 F.length c4])
            have hbf := below_setRow hbf hge9 (#[.int .i64 i, .slice A4 F.length c4])
            refine wpAnyX_one (i := 13) rfl (by kernel_rfl) (fun K hK => ?_)
            refine wp_store_row 24 _ _ rfl _ (#[.int .i64 i, .slice A5 M.length c5]) rfl rfl 24 (#[.int .i64 0, .slice none 0 0]) (hg10) (by kernel_rfl) (by rfl) (by simp [Value.oneCell']) (hK.out _ _ (fun h => absurd h (by decide)) ?_)
            (try simp only [Act.put, List.getElem_toArray, List.getElem_cons_zero, List.getElem_cons_succ, List.setIfInBounds_toArray, List.set_cons_zero, List.set_cons_succ])
            have hF := hF.keptT (hg10.keptRow (t := 38) (by decide) (#[.int .i64 i, .slice A5 M.length c5]))
            have hM := hM.keptT (hg10.keptRow (t := 38) (by decide) (#[.int .i64 i, .slice A5 M.length c5]))
            have hg9 := hg9.rowOther hne (#[.int .i64 i, .slice A5 M.length c5])
            have hg10 := hg10.row (#[.int .i64 i, .slice A5 M.length c5])
            have hbf := below_setRow hbf hge10 (#[.int .i64 i, .slice A5 M.length c5])
            refine wpAnyX_done (by kernel_rfl) ?_ _
            go_wp2_with fail
            go_meet
            exact ⟨_, _, A4, A5, c4, c5, rfl, rfl, hg9, hg10, hF.trs hbf hFl, hM.trs hbf hMl, hM.cap, hbf⟩
        · go_simp
          refine hK.out _ _ (fun _ _ => HS.out _ (bt hbf (alloc_below _ _))) ?_
          (try simp only [Act.put, List.getElem_toArray, List.getElem_cons_zero, List.getElem_cons_succ, List.setIfInBounds_toArray, List.set_cons_zero, List.set_cons_succ])
          have hal := alloc_below y37 (.cells #[.int .i64 0, .slice none 0 0] 24)
          have hA := hA.keptT (KeptT.of_below hal)
          have hg9 := hg9.on hal
          have hg10 := bx_new y37 #[.int .i64 0, .slice none 0 0] 24
          have hge10 : w1.heap.size ≤ y37.heap.size := hbf.size
          have hbf := bt hbf hal
          have hne : _ ≠ y37.heap.size := Nat.ne_of_lt hg9lt
          generalize y37.alloc (.cells #[.int .i64 0, .slice none 0 0] 24) = y43 at hal hbf hA hg9 hg10 ⊢
          have hg10lt := hg10.lt
          have hg9lt := hg9.lt
          clear hal
          refine wpAnyX_one (i := 5) rfl (by kernel_rfl) (fun K hK => ?_)
          go_simp
          go_at_call 86
          refine (pafter22 i T V tn tc k e ts vs w1 _ hbf (HT.out _ (Below.refl _ _)) (HV.out _ (Below.refl _ _)) HFF.out htn).mono ?_
          rintro r y44 ⟨A3, c3, rfl, hB, hal⟩
          rw [← HQ.out] at hB ⊢
          have hB := hB.lower hbf.size
          have hA := hA.keptT (KeptT.of_below hal)
          have hg9 := hg9.on hal
          have hg10 := hg10.on hal
          have hbf := bt hbf hal
          refine hK.out _ _ (fun _ _ => HS.out _ hbf) ?_
          (try simp only [Act.put, List.getElem_toArray, List.getElem_cons_zero, List.getElem_cons_succ, List.setIfInBounds_toArray, List.set_cons_zero, List.set_cons_succ])
          have hg9lt := hg9.lt
          have hg10lt := hg10.lt
          clear hal
          refine wpAnyX_one (i := 6) rfl (by kernel_rfl) (fun K hK => ?_)
          go_simp
          go_at_call 85
          refine (pord_rows i A2 A3 c2 c3 w1.heap.size P Q F M HFM.out w1 _ hA hB hPl hQl).mono ?_
          rintro r y45 ⟨A4, c4, A5, c5, rfl, hF, hM, hal⟩
          clear hA hB
          have hg9 := hg9.on hal
          have hg10 := hg10.on hal
          have hbf := bt hbf hal
          refine hK.out _ _ (fun _ _ => HS.out _ hbf) ?_
          (try simp only [Act.put, List.getElem_toArray, List.getElem_cons_zero, List.getElem_cons_succ, List.setIfInBounds_toArray, List.set_cons_zero, List.set_cons_succ])
          refine wpAnyX_pure (i := 7) (v := ?_) rfl (by kernel_rfl) (by kernel_rfl) (by kernel_rfl) (fun _ _ _ h => h) (Or.inl ⟨by rfl, ?_⟩) ?_
          rotate_left
          · (intro W _; go_simp; try with_reducible rfl)
          (try simp only [Act.put, List.getElem_toArray, List.getElem_cons_zero, List.getElem_cons_succ, List.setIfInBounds_toArray, List.set_cons_zero, List.set_cons_succ])
          refine wpAnyX_pure (i := 8) (v := ?_) rfl (by kernel_rfl) (by kernel_rfl) (by kernel_rfl) (fun _ _ _ h => h) (Or.inl ⟨by rfl, ?_⟩) ?_
          rotate_left
          · (intro W _; go_simp; try with_reducible rfl)
          (try simp only [Act.put, List.getElem_toArray, List.getElem_cons_zero, List.getElem_cons_succ, List.setIfInBounds_toArray, List.set_cons_zero, List.set_cons_succ])
          refine wpAnyX_pure (i := 9) (v := ?_) rfl (by kernel_rfl) (by kernel_rfl) (by kernel_rfl) (fun _ _ _ h => h) (Or.inl ⟨by rfl, ?_⟩) ?_
          rotate_left
          · (intro W _; go_simp; try with_reducible rfl)
          (try simp only [Act.put, List.getElem_toArray, List.getElem_cons_zero, List.getElem_cons_succ, List.setIfInBounds_toArray, List.set_cons_zero, List.set_cons_succ])
          have hg9lt := hg9.lt
          have hg10lt := hg10.lt
          clear hal
          refine wpAnyX_one (i := 12) rfl (by kernel_rfl) (fun K hK => ?_)
          refine wp_store_row 24 _ _ rfl _ (#[.int .i64 i, .slice A4 F.length c4]) rfl rfl 24 (#[.int .i64 0, .slice none 0 0]) (hg9) (by kernel_rfl) (by rfl) (by simp [Value.oneCell']) (hK.out _ _ (fun h => absurd h (by decide)) ?_)
          (try simp only [Act.put, List.getElem_toArray, List.getElem_cons_zero, List.getElem_cons_succ, List.setIfInBounds_toArray, List.set_cons_zero, List.set_cons_succ])
          have hF := hF.keptT (hg9.keptRow (t := 38) (by decide) (#[.int .i64 i, .slice A4 F.length c4]))
          have hM := hM.keptT (hg9.keptRow (t := 38) (by decide) (#[.int .i64 i, .slice A4 F.length c4]))
          have hg10 := hg10.rowOther hne.symm (#[.int .i64 i, .slice A4 F.length c4])
          have hg9 := hg9.row (#[.int .i64 i, .slice A4 F.length c4])
          have hbf := below_setRow hbf hge9 (#[.int .i64 i, .slice A4 F.length c4])
          refine wpAnyX_one (i := 13) rfl (by kernel_rfl) (fun K hK => ?_)
          refine wp_store_row 24 _ _ rfl _ (#[.int .i64 i, .slice A5 M.length c5]) rfl rfl 24 (#[.int .i64 0, .slice none 0 0]) (hg10) (by kernel_rfl) (by rfl) (by simp [Value.oneCell']) (hK.out _ _ (fun h => absurd h (by decide)) ?_)
          (try simp only [Act.put, List.getElem_toArray, List.getElem_cons_zero, List.getElem_cons_succ, List.setIfInBounds_toArray, List.set_cons_zero, List.set_cons_succ])
          have hF := hF.keptT (hg10.keptRow (t := 38) (by decide) (#[.int .i64 i, .slice A5 M.length c5]))
          have hM := hM.keptT (hg10.keptRow (t := 38) (by decide) (#[.int .i64 i, .slice A5 M.length c5]))
          have hg9 := hg9.rowOther hne (#[.int .i64 i, .slice A5 M.length c5])
          have hg10 := hg10.row (#[.int .i64 i, .slice A5 M.length c5])
          have hbf := below_setRow hbf hge10 (#[.int .i64 i, .slice A5 M.length c5])
          refine wpAnyX_done (by kernel_rfl) ?_ _
          go_wp2_with fail
          go_meet
          exact ⟨_, _, A4, A5, c4, c5, rfl, rfl, hg9, hg10, hF.trs hbf hFl, hM.trs hbf hMl, hM.cap, hbf⟩
      · go_simp
        refine hK.out _ _ (fun _ _ => HS.out _ (bt hbf (alloc_below _ _))) ?_
        (try simp only [Act.put, List.getElem_toArray, List.getElem_cons_zero, List.getElem_cons_succ, List.setIfInBounds_toArray, List.set_cons_zero, List.set_cons_succ])
        have hal := alloc_below y36 (.cells #[.int .i64 0, .slice none 0 0] 24)
        have hg9 := hg9.on hal
        have hg10 := bx_new y36 #[.int .i64 0, .slice none 0 0] 24
        have hge10 : w1.heap.size ≤ y36.heap.size := hbf.size
        have hbf := bt hbf hal
        have hne : _ ≠ y36.heap.size := Nat.ne_of_lt hg9lt
        generalize y36.alloc (.cells #[.int .i64 0, .slice none 0 0] 24) = y46 at hal hbf hg9 hg10 ⊢
        have hg10lt := hg10.lt
        have hg9lt := hg9.lt
        clear hal
        refine wpAnyX_one (i := 2) rfl (by kernel_rfl) (fun K hK => ?_)
        go_simp
        go_at_call 86
        refine (pafter22 i T U tn tc m d ts us w1 _ hbf (HT.out _ (Below.refl _ _)) (HU.out _ (Below.refl _ _)) HFF.out htn).mono ?_
        rintro r y47 ⟨A2, c2, rfl, hA, hal⟩
        rw [← HP.out] at hA ⊢
        have hA := hA.lower hbf.size
        have hg9 := hg9.on hal
        have hg10 := hg10.on hal
        have hbf := bt hbf hal
        refine hK.out _ _ (fun _ _ => HS.out _ hbf) ?_
        (try simp only [Act.put, List.getElem_toArray, List.getElem_cons_zero, List.getElem_cons_succ, List.setIfInBounds_toArray, List.set_cons_zero, List.set_cons_succ])
        have hg9lt := hg9.lt
        have hg10lt := hg10.lt
        clear hal
        refine wpAnyX_one (i := 5) rfl (by kernel_rfl) (fun K hK => ?_)
        go_simp
        go_at_call 86
        refine (pafter22 i T V tn tc k e ts vs w1 _ hbf (HT.out _ (Below.refl _ _)) (HV.out _ (Below.refl _ _)) HFF.out htn).mono ?_
        rintro r y48 ⟨A3, c3, rfl, hB, hal⟩
        rw [← HQ.out] at hB ⊢
        have hB := hB.lower hbf.size
        have hA := hA.keptT (KeptT.of_below hal)
        have hg9 := hg9.on hal
        have hg10 := hg10.on hal
        have hbf := bt hbf hal
        refine hK.out _ _ (fun _ _ => HS.out _ hbf) ?_
        (try simp only [Act.put, List.getElem_toArray, List.getElem_cons_zero, List.getElem_cons_succ, List.setIfInBounds_toArray, List.set_cons_zero, List.set_cons_succ])
        have hg9lt := hg9.lt
        have hg10lt := hg10.lt
        clear hal
        refine wpAnyX_one (i := 6) rfl (by kernel_rfl) (fun K hK => ?_)
        go_simp
        go_at_call 85
        refine (pord_rows i A2 A3 c2 c3 w1.heap.size P Q F M HFM.out w1 _ hA hB hPl hQl).mono ?_
        rintro r y49 ⟨A4, c4, A5, c5, rfl, hF, hM, hal⟩
        clear hA hB
        have hg9 := hg9.on hal
        have hg10 := hg10.on hal
        have hbf := bt hbf hal
        refine hK.out _ _ (fun _ _ => HS.out _ hbf) ?_
        (try simp only [Act.put, List.getElem_toArray, List.getElem_cons_zero, List.getElem_cons_succ, List.setIfInBounds_toArray, List.set_cons_zero, List.set_cons_succ])
        refine wpAnyX_pure (i := 7) (v := ?_) rfl (by kernel_rfl) (by kernel_rfl) (by kernel_rfl) (fun _ _ _ h => h) (Or.inl ⟨by rfl, ?_⟩) ?_
        rotate_left
        · (intro W _; go_simp; try with_reducible rfl)
        (try simp only [Act.put, List.getElem_toArray, List.getElem_cons_zero, List.getElem_cons_succ, List.setIfInBounds_toArray, List.set_cons_zero, List.set_cons_succ])
        refine wpAnyX_pure (i := 8) (v := ?_) rfl (by kernel_rfl) (by kernel_rfl) (by kernel_rfl) (fun _ _ _ h => h) (Or.inl ⟨by rfl, ?_⟩) ?_
        rotate_left
        · (intro W _; go_simp; try with_reducible rfl)
        (try simp only [Act.put, List.getElem_toArray, List.getElem_cons_zero, List.getElem_cons_succ, List.setIfInBounds_toArray, List.set_cons_zero, List.set_cons_succ])
        refine wpAnyX_pure (i := 9) (v := ?_) rfl (by kernel_rfl) (by kernel_rfl) (by kernel_rfl) (fun _ _ _ h => h) (Or.inl ⟨by rfl, ?_⟩) ?_
        rotate_left
        · (intro W _; go_simp; try with_reducible rfl)
        (try simp only [Act.put, List.getElem_toArray, List.getElem_cons_zero, List.getElem_cons_succ, List.setIfInBounds_toArray, List.set_cons_zero, List.set_cons_succ])
        have hg9lt := hg9.lt
        have hg10lt := hg10.lt
        clear hal
        refine wpAnyX_one (i := 12) rfl (by kernel_rfl) (fun K hK => ?_)
        refine wp_store_row 24 _ _ rfl _ (#[.int .i64 i, .slice A4 F.length c4]) rfl rfl 24 (#[.int .i64 0, .slice none 0 0]) (hg9) (by kernel_rfl) (by rfl) (by simp [Value.oneCell']) (hK.out _ _ (fun h => absurd h (by decide)) ?_)
        (try simp only [Act.put, List.getElem_toArray, List.getElem_cons_zero, List.getElem_cons_succ, List.setIfInBounds_toArray, List.set_cons_zero, List.set_cons_succ])
        have hF := hF.keptT (hg9.keptRow (t := 38) (by decide) (#[.int .i64 i, .slice A4 F.length c4]))
        have hM := hM.keptT (hg9.keptRow (t := 38) (by decide) (#[.int .i64 i, .slice A4 F.length c4]))
        have hg10 := hg10.rowOther hne.symm (#[.int .i64 i, .slice A4 F.length c4])
        have hg9 := hg9.row (#[.int .i64 i, .slice A4 F.length c4])
        have hbf := below_setRow hbf hge9 (#[.int .i64 i, .slice A4 F.length c4])
        refine wpAnyX_one (i := 13) rfl (by kernel_rfl) (fun K hK => ?_)
        refine wp_store_row 24 _ _ rfl _ (#[.int .i64 i, .slice A5 M.length c5]) rfl rfl 24 (#[.int .i64 0, .slice none 0 0]) (hg10) (by kernel_rfl) (by rfl) (by simp [Value.oneCell']) (hK.out _ _ (fun h => absurd h (by decide)) ?_)
        (try simp only [Act.put, List.getElem_toArray, List.getElem_cons_zero, List.getElem_cons_succ, List.setIfInBounds_toArray, List.set_cons_zero, List.set_cons_succ])
        have hF := hF.keptT (hg10.keptRow (t := 38) (by decide) (#[.int .i64 i, .slice A5 M.length c5]))
        have hM := hM.keptT (hg10.keptRow (t := 38) (by decide) (#[.int .i64 i, .slice A5 M.length c5]))
        have hg9 := hg9.rowOther hne (#[.int .i64 i, .slice A5 M.length c5])
        have hg10 := hg10.row (#[.int .i64 i, .slice A5 M.length c5])
        have hbf := below_setRow hbf hge10 (#[.int .i64 i, .slice A5 M.length c5])
        refine wpAnyX_done (by kernel_rfl) ?_ _
        go_wp2_with fail
        go_meet
        exact ⟨_, _, A4, A5, c4, c5, rfl, rfl, hg9, hg10, hF.trs hbf hFl, hM.trs hbf hMl, hM.cap, hbf⟩
    · go_simp
      refine hK.out _ _ (fun _ _ => HS.out _ (bt hbf (alloc_below _ _))) ?_
      (try simp only [Act.put, List.getElem_toArray, List.getElem_cons_zero, List.getElem_cons_succ, List.setIfInBounds_toArray, List.set_cons_zero, List.set_cons_succ])
      have hal := alloc_below y0 (.cells #[.int .i64 0, .slice none 0 0] 24)
      have hg10 := bx_new y0 #[.int .i64 0, .slice none 0 0] 24
      have hge10 : w1.heap.size ≤ y0.heap.size := hbf.size
      have hbf := bt hbf hal
      generalize y0.alloc (.cells #[.int .i64 0, .slice none 0 0] 24) = y50 at hal hbf hg10 ⊢
      have hg10lt := hg10.lt
      clear hal
      refine wpAnyX_two (i := 2) (j := 10) rfl rfl (by kernel_rfl) (fun K hK => ?_) (fun K hK => ?_)
      · go_simp
        go_at_call 86
        refine (pafter22 i T U tn tc m d ts us w1 _ hbf (HT.out _ (Below.refl _ _)) (HU.out _ (Below.refl _ _)) HFF.out htn).mono ?_
        rintro r y51 ⟨A2, c2, rfl, hA, hal⟩
        rw [← HP.out] at hA ⊢
        have hA := hA.lower hbf.size
        have hg10 := hg10.on hal
        have hbf := bt hbf hal
        refine hK.out _ _ (fun _ _ => HS.out _ hbf) ?_
        (try simp only [Act.put, List.getElem_toArray, List.getElem_cons_zero, List.getElem_cons_succ, List.setIfInBounds_toArray, List.set_cons_zero, List.set_cons_succ])
        have hg10lt := hg10.lt
        clear hal
        refine wpAnyX_two (i := 5) (j := 10) rfl rfl (by kernel_rfl) (fun K hK => ?_) (fun K hK => ?_)
        · go_simp
          go_at_call 86
          refine (pafter22 i T V tn tc k e ts vs w1 _ hbf (HT.out _ (Below.refl _ _)) (HV.out _ (Below.refl _ _)) HFF.out htn).mono ?_
          rintro r y52 ⟨A3, c3, rfl, hB, hal⟩
          rw [← HQ.out] at hB ⊢
          have hB := hB.lower hbf.size
          have hA := hA.keptT (KeptT.of_below hal)
          have hg10 := hg10.on hal
          have hbf := bt hbf hal
          refine hK.out _ _ (fun _ _ => HS.out _ hbf) ?_
          (try simp only [Act.put, List.getElem_toArray, List.getElem_cons_zero, List.getElem_cons_succ, List.setIfInBounds_toArray, List.set_cons_zero, List.set_cons_succ])
          have hg10lt := hg10.lt
          clear hal
          refine wpAnyX_two (i := 6) (j := 10) rfl rfl (by kernel_rfl) (fun K hK => ?_) (fun K hK => ?_)
          · go_simp
            go_at_call 85
            refine (pord_rows i A2 A3 c2 c3 w1.heap.size P Q F M HFM.out w1 _ hA hB hPl hQl).mono ?_
            rintro r y53 ⟨A4, c4, A5, c5, rfl, hF, hM, hal⟩
            clear hA hB
            have hg10 := hg10.on hal
            have hbf := bt hbf hal
            refine hK.out _ _ (fun _ _ => HS.out _ hbf) ?_
            (try simp only [Act.put, List.getElem_toArray, List.getElem_cons_zero, List.getElem_cons_succ, List.setIfInBounds_toArray, List.set_cons_zero, List.set_cons_succ])
            refine wpAnyX_pure (i := 7) (v := ?_) rfl (by kernel_rfl) (by kernel_rfl) (by kernel_rfl) (fun _ _ _ h => h) (Or.inl ⟨by rfl, ?_⟩) ?_
            rotate_left
            · (intro W _; go_simp; try with_reducible rfl)
            (try simp only [Act.put, List.getElem_toArray, List.getElem_cons_zero, List.getElem_cons_succ, List.setIfInBounds_toArray, List.set_cons_zero, List.set_cons_succ])
            refine wpAnyX_pure (i := 8) (v := ?_) rfl (by kernel_rfl) (by kernel_rfl) (by kernel_rfl) (fun _ _ _ h => h) (Or.inl ⟨by rfl, ?_⟩) ?_
            rotate_left
            · (intro W _; go_simp; try with_reducible rfl)
            (try simp only [Act.put, List.getElem_toArray, List.getElem_cons_zero, List.getElem_cons_succ, List.setIfInBounds_toArray, List.set_cons_zero, List.set_cons_succ])
            refine wpAnyX_pure (i := 9) (v := ?_) rfl (by kernel_rfl) (by kernel_rfl) (by kernel_rfl) (fun _ _ _ h => h) (Or.inl ⟨by rfl, ?_⟩) ?_
            rotate_left
            · (intro W _; go_simp; try with_reducible rfl)
            (try simp only [Act.put, List.getElem_toArray, List.getElem_cons_zero, List.getElem_cons_succ, List.setIfInBounds_toArray, List.set_cons_zero, List.set_cons_succ])
            have hg10lt := hg10.lt
            clear hal
            refine wpAnyX_one (i := 10) rfl (by kernel_rfl) (fun K hK => ?_)
            go_simp
            refine hK.out _ _ (fun _ _ => HS.out _ (bt hbf (alloc_below _ _))) ?_
            (try simp only [Act.put, List.getElem_toArray, List.getElem_cons_zero, List.getElem_cons_succ, List.setIfInBounds_toArray, List.set_cons_zero, List.set_cons_succ])
            have hal := alloc_below y53 (.cells #[.int .i64 0, .slice none 0 0] 24)
            have hF := hF.keptT (KeptT.of_below hal)
            have hM := hM.keptT (KeptT.of_below hal)
            have hg10 := hg10.on hal
            have hg9 := bx_new y53 #[.int .i64 0, .slice none 0 0] 24
            have hge9 : w1.heap.size ≤ y53.heap.size := hbf.size
            have hbf := bt hbf hal
            have hne : y53.heap.size ≠ _ := Nat.ne_of_gt hg10lt
            generalize y53.alloc (.cells #[.int .i64 0, .slice none 0 0] 24) = y54 at hal hbf hF hM hg9 hg10 ⊢
            have hg9lt := hg9.lt
            have hg10lt := hg10.lt
            clear hal
            refine wpAnyX_one (i := 12) rfl (by kernel_rfl) (fun K hK => ?_)
            refine wp_store_row 24 _ _ rfl _ (#[.int .i64 i, .slice A4 F.length c4]) rfl rfl 24 (#[.int .i64 0, .slice none 0 0]) (hg9) (by kernel_rfl) (by rfl) (by simp [Value.oneCell']) (hK.out _ _ (fun h => absurd h (by decide)) ?_)
            (try simp only [Act.put, List.getElem_toArray, List.getElem_cons_zero, List.getElem_cons_succ, List.setIfInBounds_toArray, List.set_cons_zero, List.set_cons_succ])
            have hF := hF.keptT (hg9.keptRow (t := 38) (by decide) (#[.int .i64 i, .slice A4 F.length c4]))
            have hM := hM.keptT (hg9.keptRow (t := 38) (by decide) (#[.int .i64 i, .slice A4 F.length c4]))
            have hg10 := hg10.rowOther hne.symm (#[.int .i64 i, .slice A4 F.length c4])
            have hg9 := hg9.row (#[.int .i64 i, .slice A4 F.length c4])
            have hbf := below_setRow hbf hge9 (#[.int .i64 i, .slice A4 F.length c4])
            refine wpAnyX_one (i := 13) rfl (by kernel_rfl) (fun K hK => ?_)
            refine wp_store_row 24 _ _ rfl _ (#[.int .i64 i, .slice A5 M.length c5]) rfl rfl 24 (#[.int .i64 0, .slice none 0 0]) (hg10) (by kernel_rfl) (by rfl) (by simp [Value.oneCell']) (hK.out _ _ (fun h => absurd h (by decide)) ?_)
            (try simp only [Act.put, List.getElem_toArray, List.getElem_cons_zero, List.getElem_cons_succ, List.setIfInBounds_toArray, List.set_cons_zero, List.set_cons_succ])
            have hF := hF.keptT (hg10.keptRow (t := 38) (by decide) (#[.int .i64 i, .slice A5 M.length c5]))
            have hM := hM.keptT (hg10.keptRow (t := 38) (by decide) (#[.int .i64 i, .slice A5 M.length c5]))
            have hg9 := hg9.rowOther hne (#[.int .i64 i, .slice A5 M.length c5])
            have hg10 := hg10.row (#[.int .i64 i, .slice A5 M.length c5])
            have hbf := below_setRow hbf hge10 (#[.int .i64 i, .slice A5 M.length c5])
            refine wpAnyX_done (by kernel_rfl) ?_ _
            go_wp2_with fail
            go_meet
            exact ⟨_, _, A4, A5, c4, c5, rfl, rfl, hg9, hg10, hF.trs hbf hFl, hM.trs hbf hMl, hM.cap, hbf⟩
          · go_simp
            refine hK.out _ _ (fun _ _ => HS.out _ (bt hbf (alloc_below _ _))) ?_
            (try simp only [Act.put, List.getElem_toArray, List.getElem_cons_zero, List.getElem_cons_succ, List.setIfInBounds_toArray, List.set_cons_zero, List.set_cons_succ])
            have hal := alloc_below y52 (.cells #[.int .i64 0, .slice none 0 0] 24)
            have hA := hA.keptT (KeptT.of_below hal)
            have hB := hB.keptT (KeptT.of_below hal)
            have hg10 := hg10.on hal
            have hg9 := bx_new y52 #[.int .i64 0, .slice none 0 0] 24
            have hge9 : w1.heap.size ≤ y52.heap.size := hbf.size
            have hbf := bt hbf hal
            have hne : y52.heap.size ≠ _ := Nat.ne_of_gt hg10lt
            generalize y52.alloc (.cells #[.int .i64 0, .slice none 0 0] 24) = y55 at hal hbf hA hB hg9 hg10 ⊢
            have hg9lt := hg9.lt
            have hg10lt := hg10.lt
            clear hal
            refine wpAnyX_one (i := 6) rfl (by kernel_rfl) (fun K hK => ?_)
            go_simp
            go_at_call 85
            refine (pord_rows i A2 A3 c2 c3 w1.heap.size P Q F M HFM.out w1 _ hA hB hPl hQl).mono ?_
            rintro r y56 ⟨A4, c4, A5, c5, rfl, hF, hM, hal⟩
            clear hA hB
            have hg9 := hg9.on hal
            have hg10 := hg10.on hal
            have hbf := bt hbf hal
            refine hK.out _ _ (fun _ _ => HS.out _ hbf) ?_
            (try simp only [Act.put, List.getElem_toArray, List.getElem_cons_zero, List.getElem_cons_succ, List.setIfInBounds_toArray, List.set_cons_zero, List.set_cons_succ])
            refine wpAnyX_pure (i := 7) (v := ?_) rfl (by kernel_rfl) (by kernel_rfl) (by kernel_rfl) (fun _ _ _ h => h) (Or.inl ⟨by rfl, ?_⟩) ?_
            rotate_left
            · (intro W _; go_simp; try with_reducible rfl)
            (try simp only [Act.put, List.getElem_toArray, List.getElem_cons_zero, List.getElem_cons_succ, List.setIfInBounds_toArray, List.set_cons_zero, List.set_cons_succ])
            refine wpAnyX_pure (i := 8) (v := ?_) rfl (by kernel_rfl) (by kernel_rfl) (by kernel_rfl) (fun _ _ _ h => h) (Or.inl ⟨by rfl, ?_⟩) ?_
            rotate_left
            · (intro W _; go_simp; try with_reducible rfl)
            (try simp only [Act.put, List.getElem_toArray, List.getElem_cons_zero, List.getElem_cons_succ, List.setIfInBounds_toArray, List.set_cons_zero, List.set_cons_succ])
            refine wpAnyX_pure (i := 9) (v := ?_) rfl (by kernel_rfl) (by kernel_rfl) (by kernel_rfl) (fun _ _ _ h => h) (Or.inl ⟨by rfl, ?_⟩) ?_
            rotate_left
            · (intro W _; go_simp; try with_reducible rfl)
            (try simp only [Act.put, List.getElem_toArray, List.getElem_cons_zero, List.getElem_cons_succ, List.setIfInBounds_toArray, List.set_cons_zero, List.set_cons_succ])
            have hg9lt := hg9.lt
            have hg10lt := hg10.lt
            clear hal
            refine wpAnyX_one (i := 12) rfl (by kernel_rfl) (fun K hK => ?_)
            refine wp_store_row 24 _ _ rfl _ (#[.int .i64 i, .slice A4 F.length c4]) rfl rfl 24 (#[.int .i64 0, .slice none 0 0]) (hg9) (by kernel_rfl) (by rfl) (by simp [Value.oneCell']) (hK.out _ _ (fun h => absurd h (by decide)) ?_)
            (try simp only [Act.put, List.getElem_toArray, List.getElem_cons_zero, List.getElem_cons_succ, List.setIfInBounds_toArray, List.set_cons_zero, List.set_cons_succ])
            have hF := hF.keptT (hg9.keptRow (t := 38) (by decide) (#[.int .i64 i, .slice A4 F.length c4]))
            have hM := hM.keptT (hg9.keptRow (t := 38) (by decide) (#[.int .i64 i, .slice A4 F.length c4]))
            have hg10 := hg10.rowOther hne.symm (#[.int .i64 i, .slice A4 F.length c4])
            have hg9 := hg9.row (#[.int .i64 i, .slice A4 F.length c4])
            have hbf := below_setRow hbf hge9 (#[.int .i64 i, .slice A4 F.length c4])
            refine wpAnyX_one (i := 13) rfl (by kernel_rfl) (fun K hK => ?_)
            refine wp_store_row 24 _ _ rfl _ (#[.int .i64 i, .slice A5 M.length c5]) rfl rfl 24 (#[.int .i64 0, .slice none 0 0]) (hg10) (by kernel_rfl) (by rfl) (by simp [Value.oneCell']) (hK.out _ _ (fun h => absurd h (by decide)) ?_)
            (try simp only [Act.put, List.getElem_toArray, List.getElem_cons_zero, List.getElem_cons_succ, List.setIfInBounds_toArray, List.set_cons_zero, List.set_cons_succ])
            have hF := hF.keptT (hg10.keptRow (t := 38) (by decide) (#[.int .i64 i, .slice A5 M.length c5]))
            have hM := hM.keptT (hg10.keptRow (t := 38) (by decide) (#[.int .i64 i, .slice A5 M.length c5]))
            have hg9 := hg9.rowOther hne (#[.int .i64 i, .slice A5 M.length c5])
            have hg10 := hg10.row (#[.int .i64 i, .slice A5 M.length c5])
            have hbf := below_setRow hbf hge10 (#[.int .i64 i, .slice A5 M.length c5])
            refine wpAnyX_done (by kernel_rfl) ?_ _
            go_wp2_with fail
            go_meet
            exact ⟨_, _, A4, A5, c4, c5, rfl, rfl, hg9, hg10, hF.trs hbf hFl, hM.trs hbf hMl, hM.cap, hbf⟩
        · go_simp
          refine hK.out _ _ (fun _ _ => HS.out _ (bt hbf (alloc_below _ _))) ?_
          (try simp only [Act.put, List.getElem_toArray, List.getElem_cons_zero, List.getElem_cons_succ, List.setIfInBounds_toArray, List.set_cons_zero, List.set_cons_succ])
          have hal := alloc_below y51 (.cells #[.int .i64 0, .slice none 0 0] 24)
          have hA := hA.keptT (KeptT.of_below hal)
          have hg10 := hg10.on hal
          have hg9 := bx_new y51 #[.int .i64 0, .slice none 0 0] 24
          have hge9 : w1.heap.size ≤ y51.heap.size := hbf.size
          have hbf := bt hbf hal
          have hne : y51.heap.size ≠ _ := Nat.ne_of_gt hg10lt
          generalize y51.alloc (.cells #[.int .i64 0, .slice none 0 0] 24) = y57 at hal hbf hA hg9 hg10 ⊢
          have hg9lt := hg9.lt
          have hg10lt := hg10.lt
          clear hal
          refine wpAnyX_one (i := 5) rfl (by kernel_rfl) (fun K hK => ?_)
          go_simp
          go_at_call 86
          refine (pafter22 i T V tn tc k e ts vs w1 _ hbf (HT.out _ (Below.refl _ _)) (HV.out _ (Below.refl _ _)) HFF.out htn).mono ?_
          rintro r y58 ⟨A3, c3, rfl, hB, hal⟩
          rw [← HQ.out] at hB ⊢
          have hB := hB.lower hbf.size
          have hA := hA.keptT (KeptT.of_below hal)
          have hg9 := hg9.on hal
          have hg10 := hg10.on hal
          have hbf := bt hbf hal
          refine hK.out _ _ (fun _ _ => HS.out _ hbf) ?_
          (try simp only [Act.put, List.getElem_toArray, List.getElem_cons_zero, List.getElem_cons_succ, List.setIfInBounds_toArray, List.set_cons_zero, List.set_cons_succ])
          have hg9lt := hg9.lt
          have hg10lt := hg10.lt
          clear hal
          refine wpAnyX_one (i := 6) rfl (by kernel_rfl) (fun K hK => ?_)
          go_simp
          go_at_call 85
          refine (pord_rows i A2 A3 c2 c3 w1.heap.size P Q F M HFM.out w1 _ hA hB hPl hQl).mono ?_
          rintro r y59 ⟨A4, c4, A5, c5, rfl, hF, hM, hal⟩
          clear hA hB
          have hg9 := hg9.on hal
          have hg10 := hg10.on hal
          have hbf := bt hbf hal
          refine hK.out _ _ (fun _ _ => HS.out _ hbf) ?_
          (try simp only [Act.put, List.getElem_toArray, List.getElem_cons_zero, List.getElem_cons_succ, List.setIfInBounds_toArray, List.set_cons_zero, List.set_cons_succ])
          refine wpAnyX_pure (i := 7) (v := ?_) rfl (by kernel_rfl) (by kernel_rfl) (by kernel_rfl) (fun _ _ _ h => h) (Or.inl ⟨by rfl, ?_⟩) ?_
          rotate_left
          · (intro W _; go_simp; try with_reducible rfl)
          (try simp only [Act.put, List.getElem_toArray, List.getElem_cons_zero, List.getElem_cons_succ, List.setIfInBounds_toArray, List.set_cons_zero, List.set_cons_succ])
          refine wpAnyX_pure (i := 8) (v := ?_) rfl (by kernel_rfl) (by kernel_rfl) (by kernel_rfl) (fun _ _ _ h => h) (Or.inl ⟨by rfl, ?_⟩) ?_
          rotate_left
          · (intro W _; go_simp; try with_reducible rfl)
          (try simp only [Act.put, List.getElem_toArray, List.getElem_cons_zero, List.getElem_cons_succ, List.setIfInBounds_toArray, List.set_cons_zero, List.set_cons_succ])
          refine wpAnyX_pure (i := 9) (v := ?_) rfl (by kernel_rfl) (by kernel_rfl) (by kernel_rfl) (fun _ _ _ h => h) (Or.inl ⟨by rfl, ?_⟩) ?_
          rotate_left
          · (intro W _; go_simp; try with_reducible rfl)
          (try simp only [Act.put, List.getElem_toArray, List.getElem_cons_zero, List.getElem_cons_succ, List.setIfInBounds_toArray, List.set_cons_zero, List.set_cons_succ])
          have hg9lt := hg9.lt
          have hg10lt := hg10.lt
          clear hal
          refine wpAnyX_one (i := 12) rfl (by kernel_rfl) (fun K hK => ?_)
          refine wp_store_row 24 _ _ rfl _ (#[.int .i64 i, .slice A4 F.length c4]) rfl rfl 24 (#[.int .i64 0, .slice none 0 0]) (hg9) (by kernel_rfl) (by rfl) (by simp [Value.oneCell']) (hK.out _ _ (fun h => absurd h (by decide)) ?_)
          (try simp only [Act.put, List.getElem_toArray, List.getElem_cons_zero, List.getElem_cons_succ, List.setIfInBounds_toArray, List.set_cons_zero, List.set_cons_succ])
          have hF := hF.keptT (hg9.keptRow (t := 38) (by decide) (#[.int .i64 i, .slice A4 F.length c4]))
          have hM := hM.keptT (hg9.keptRow (t := 38) (by decide) (#[.int .i64 i, .slice A4 F.length c4]))
          have hg10 := hg10.rowOther hne.symm (#[.int .i64 i, .slice A4 F.length c4])
          have hg9 := hg9.row (#[.int .i64 i, .slice A4 F.length c4])
          have hbf := below_setRow hbf hge9 (#[.int .i64 i, .slice A4 F.length c4])
          refine wpAnyX_one (i := 13) rfl (by kernel_rfl) (fun K hK => ?_)
          refine wp_store_row 24 _ _ rfl _ (#[.int .i64 i, .slice A5 M.length c5]) rfl rfl 24 (#[.int .i64 0, .slice none 0 0]) (hg10) (by kernel_rfl) (by rfl) (by simp [Value.oneCell']) (hK.out _ _ (fun h => absurd h (by decide)) ?_)
          (try simp only [Act.put, List.getElem_toArray, List.getElem_cons_zero, List.getElem_cons_succ, List.setIfInBounds_toArray, List.set_cons_zero, List.set_cons_succ])
          have hF := hF.keptT (hg10.keptRow (t := 38) (by decide) (#[.int .i64 i, .slice A5 M.length c5]))
          have hM := hM.keptT (hg10.keptRow (t := 38) (by decide) (#[.int .i64 i, .slice A5 M.length c5]))
          have hg9 := hg9.rowOther hne (#[.int .i64 i, .slice A5 M.length c5])
          have hg10 := hg10.row (#[.int .i64 i, .slice A5 M.length c5])
          have hbf := below_setRow hbf hge10 (#[.int .i64 i, .slice A5 M.length c5])
          refine wpAnyX_done (by kernel_rfl) ?_ _
          go_wp2_with fail
          go_meet
          exact ⟨_, _, A4, A5, c4, c5, rfl, rfl, hg9, hg10, hF.trs hbf hFl, hM.trs hbf hMl, hM.cap, hbf⟩
      · go_simp
        refine hK.out _ _ (fun _ _ => HS.out _ (bt hbf (alloc_below _ _))) ?_
        (try simp only [Act.put, List.getElem_toArray, List.getElem_cons_zero, List.getElem_cons_succ, List.setIfInBounds_toArray, List.set_cons_zero, List.set_cons_succ])
        have hal := alloc_below y50 (.cells #[.int .i64 0, .slice none 0 0] 24)
        have hg10 := hg10.on hal
        have hg9 := bx_new y50 #[.int .i64 0, .slice none 0 0] 24
        have hge9 : w1.heap.size ≤ y50.heap.size := hbf.size
        have hbf := bt hbf hal
        have hne : y50.heap.size ≠ _ := Nat.ne_of_gt hg10lt
        generalize y50.alloc (.cells #[.int .i64 0, .slice none 0 0] 24) = y60 at hal hbf hg9 hg10 ⊢
        have hg9lt := hg9.lt
        have hg10lt := hg10.lt
        clear hal
        refine wpAnyX_one (i := 2) rfl (by kernel_rfl) (fun K hK => ?_)
        go_simp
        go_at_call 86
        refine (pafter22 i T U tn tc m d ts us w1 _ hbf (HT.out _ (Below.refl _ _)) (HU.out _ (Below.refl _ _)) HFF.out htn).mono ?_
        rintro r y61 ⟨A2, c2, rfl, hA, hal⟩
        rw [← HP.out] at hA ⊢
        have hA := hA.lower hbf.size
        have hg9 := hg9.on hal
        have hg10 := hg10.on hal
        have hbf := bt hbf hal
        refine hK.out _ _ (fun _ _ => HS.out _ hbf) ?_
        (try simp only [Act.put, List.getElem_toArray, List.getElem_cons_zero, List.getElem_cons_succ, List.setIfInBounds_toArray, List.set_cons_zero, List.set_cons_succ])
        have hg9lt := hg9.lt
        have hg10lt := hg10.lt
        clear hal
        refine wpAnyX_one (i := 5) rfl (by kernel_rfl) (fun K hK => ?_)
        go_simp
        go_at_call 86
        refine (pafter22 i T V tn tc k e ts vs w1 _ hbf (HT.out _ (Below.refl _ _)) (HV.out _ (Below.refl _ _)) HFF.out htn).mono ?_
        rintro r y62 ⟨A3, c3, rfl, hB, hal⟩
        rw [← HQ.out] at hB ⊢
        have hB := hB.lower hbf.size
        have hA := hA.keptT (KeptT.of_below hal)
        have hg9 := hg9.on hal
        have hg10 := hg10.on hal
        have hbf := bt hbf hal
        refine hK.out _ _ (fun _ _ => HS.out _ hbf) ?_
        (try simp only [Act.put, List.getElem_toArray, List.getElem_cons_zero, List.getElem_cons_succ, List.setIfInBounds_toArray, List.set_cons_zero, List.set_cons_succ])
        have hg9lt := hg9.lt
        have hg10lt := hg10.lt
        clear hal
        refine wpAnyX_one (i := 6) rfl (by kernel_rfl) (fun K hK => ?_)
        go_simp
        go_at_call 85
        refine (pord_rows i A2 A3 c2 c3 w1.heap.size P Q F M HFM.out w1 _ hA hB hPl hQl).mono ?_
        rintro r y63 ⟨A4, c4, A5, c5, rfl, hF, hM, hal⟩
        clear hA hB
        have hg9 := hg9.on hal
        have hg10 := hg10.on hal
        have hbf := bt hbf hal
        refine hK.out _ _ (fun _ _ => HS.out _ hbf) ?_
        (try simp only [Act.put, List.getElem_toArray, List.getElem_cons_zero, List.getElem_cons_succ, List.setIfInBounds_toArray, List.set_cons_zero, List.set_cons_succ])
        refine wpAnyX_pure (i := 7) (v := ?_) rfl (by kernel_rfl) (by kernel_rfl) (by kernel_rfl) (fun _ _ _ h => h) (Or.inl ⟨by rfl, ?_⟩) ?_
        rotate_left
        · (intro W _; go_simp; try with_reducible rfl)
        (try simp only [Act.put, List.getElem_toArray, List.getElem_cons_zero, List.getElem_cons_succ, List.setIfInBounds_toArray, List.set_cons_zero, List.set_cons_succ])
        refine wpAnyX_pure (i := 8) (v := ?_) rfl (by kernel_rfl) (by kernel_rfl) (by kernel_rfl) (fun _ _ _ h => h) (Or.inl ⟨by rfl, ?_⟩) ?_
        rotate_left
        · (intro W _; go_simp; try with_reducible rfl)
        (try simp only [Act.put, List.getElem_toArray, List.getElem_cons_zero, List.getElem_cons_succ, List.setIfInBounds_toArray, List.set_cons_zero, List.set_cons_succ])
        refine wpAnyX_pure (i := 9) (v := ?_) rfl (by kernel_rfl) (by kernel_rfl) (by kernel_rfl) (fun _ _ _ h => h) (Or.inl ⟨by rfl, ?_⟩) ?_
        rotate_left
        · (intro W _; go_simp; try with_reducible rfl)
        (try simp only [Act.put, List.getElem_toArray, List.getElem_cons_zero, List.getElem_cons_succ, List.setIfInBounds_toArray, List.set_cons_zero, List.set_cons_succ])
        have hg9lt := hg9.lt
        have hg10lt := hg10.lt
        clear hal
        refine wpAnyX_one (i := 12) rfl (by kernel_rfl) (fun K hK => ?_)
        refine wp_store_row 24 _ _ rfl _ (#[.int .i64 i, .slice A4 F.length c4]) rfl rfl 24 (#[.int .i64 0, .slice none 0 0]) (hg9) (by kernel_rfl) (by rfl) (by simp [Value.oneCell']) (hK.out _ _ (fun h => absurd h (by decide)) ?_)
        (try simp only [Act.put, List.getElem_toArray, List.getElem_cons_zero, List.getElem_cons_succ, List.setIfInBounds_toArray, List.set_cons_zero, List.set_cons_succ])
        have hF := hF.keptT (hg9.keptRow (t := 38) (by decide) (#[.int .i64 i, .slice A4 F.length c4]))
        have hM := hM.keptT (hg9.keptRow (t := 38) (by decide) (#[.int .i64 i, .slice A4 F.length c4]))
        have hg10 := hg10.rowOther hne.symm (#[.int .i64 i, .slice A4 F.length c4])
        have hg9 := hg9.row (#[.int .i64 i, .slice A4 F.length c4])
        have hbf := below_setRow hbf hge9 (#[.int .i64 i, .slice A4 F.length c4])
        refine wpAnyX_one (i := 13) rfl (by kernel_rfl) (fun K hK => ?_)
        refine wp_store_row 24 _ _ rfl _ (#[.int .i64 i, .slice A5 M.length c5]) rfl rfl 24 (#[.int .i64 0, .slice none 0 0]) (hg10) (by kernel_rfl) (by rfl) (by simp [Value.oneCell']) (hK.out _ _ (fun h => absurd h (by decide)) ?_)
        (try simp only [Act.put, List.getElem_toArray, List.getElem_cons_zero, List.getElem_cons_succ, List.setIfInBounds_toArray, List.set_cons_zero, List.set_cons_succ])
        have hF := hF.keptT (hg10.keptRow (t := 38) (by decide) (#[.int .i64 i, .slice A5 M.length c5]))
        have hM := hM.keptT (hg10.keptRow (t := 38) (by decide) (#[.int .i64 i, .slice A5 M.length c5]))
        have hg9 := hg9.rowOther hne (#[.int .i64 i, .slice A5 M.length c5])
        have hg10 := hg10.row (#[.int .i64 i, .slice A5 M.length c5])
        have hbf := below_setRow hbf hge10 (#[.int .i64 i, .slice A5 M.length c5])
        refine wpAnyX_done (by kernel_rfl) ?_ _
        go_wp2_with fail
        go_meet
        exact ⟨_, _, A4, A5, c4, c5, rfl, rfl, hg9, hg10, hF.trs hbf hFl, hM.trs hbf hMl, hM.cap, hbf⟩
  case rest =>
    obtain ⟨g9, g10, A4, A5, c4, c5, rfl, rfl, hg9, hg10, hF, hM, hcap, hbr⟩ := hcut
    obtain ⟨b9, o9, e9⟩ : ∃ (x : Unit) (y : Unit), x = y := ⟨(), (), rfl⟩
    clear e9 b9 o9
    have hFS : Srt F ∧ Full F ∧ Props i F := by
      rcases HFM2.out with ⟨rfl, _⟩ | ⟨rfl, _⟩
      · rw [HP.out]; exact ⟨aftK_srt HSS.out tn (Nat.le_of_eq HLT.out.symm), aftK_full HFF.out (Nat.le_of_eq HLT.out.symm), aftK_props HII.out (Nat.le_of_eq HLT.out.symm)⟩
      · rw [HQ.out]; exact ⟨aftK_srt HSS.out tn (Nat.le_of_eq HLT.out.symm), aftK_full HFF.out (Nat.le_of_eq HLT.out.symm), aftK_props HII.out (Nat.le_of_eq HLT.out.symm)⟩
    have hMS : Srt M ∧ Full M ∧ Cons M := by
      rcases HFM2.out with ⟨_, rfl⟩ | ⟨_, rfl⟩
      · rw [HQ.out]; exact ⟨aftK_srt HSS.out tn (Nat.le_of_eq HLT.out.symm), aftK_full HFF.out (Nat.le_of_eq HLT.out.symm), aftK_cons HCC.out (Nat.le_of_eq HLT.out.symm)⟩
      · rw [HP.out]; exact ⟨aftK_srt HSS.out tn (Nat.le_of_eq HLT.out.symm), aftK_full HFF.out (Nat.le_of_eq HLT.out.symm), aftK_cons HCC.out (Nat.le_of_eq HLT.out.symm)⟩
    have HFS := Lib.hid hFS
    have HMS := Lib.hid hMS
    have HG9 := Lib.hid (fun (W : World) (h : Below wc.heap.size wc W) => hg9.on h)
    have HG10 := Lib.hid (fun (W : World) (h : Below wc.heap.size wc W) => hg10.on h)
    have HFT := Lib.hid (fun (W : World) (h : Below wc.heap.size wc W) => hF.below h)
    have HMT := Lib.hid (fun (W : World) (h : Below wc.heap.size wc W) => hM.below h)
    have HBR := Lib.hid hbr
    have HEND := Lib.hid (show ∀ xs, Fst1 (ShK F M F.length) xs → Fst1 (ShK P Q P.length) xs from fun xs h => by
      rcases HFM2.out with ⟨rfl, rfl⟩ | ⟨rfl, rfl⟩
      · exact h
      · exact h.congr fun x => shk_comm _ _ x)
    have z1 := hg9.cell 1
    have z0 := hg9.cell 0
    simp at z0 z1
    clear hg9 hg10 hF hM hbr hFS hMS
    go_wp2_with fail
    go_loopw [28, 8] (fun v28 v8 wr => ∃ (q : Nat) (xs : List Int), v28 = .int .i64 q ∧ q ≤ F.length ∧ Hid (FirstV wr v8 xs) ∧ Hid (Fst1 (ShK F M q) xs) ∧ Hid (Below wc.heap.size wc wr)) (fun v28 _ _ => F.length - (intOf v28).toNat)
    case atStart => exact ⟨0, [], rfl, Nat.zero_le _, Lib.hid (.inl ⟨rfl, rfl⟩), Lib.hid (ShK.zero _ _), Lib.hid (Below.refl _ _)⟩
    case round =>
      obtain ⟨q, xs, rfl, hq, HV8, HX, HBW⟩ := hrel
      by_cases hlt : q < F.length
      · obtain ⟨b, off, A1, n1, c1, A2, n2, c2, rfl, hgb, j1, j2, q1, q2, j3, j4⟩ := (HFT.out _ HBW.out).at_ hlt
        obtain ⟨wa, hwa⟩ : ∃ wa, wa = wr.alloc (.cells #[.slice A1 n1 c1, .slice A2 n2 c2] 38) := ⟨_, rfl⟩
        have hal : Below wr.heap.size wr wa := by rw [hwa]; exact alloc_below _ _
        have hbx : Bx wa wr.heap.size #[.slice A1 n1 c1, .slice A2 n2 c2] 38 := by rw [hwa]; exact bx_new _ _ _
        have hba := bt HBW.out hal
        have hlen : (tOut F q).length = (tIn F q).length := HFS.out.2.1 q hlt
        have hprp := HFS.out.2.2 q hlt
        have HCL := Lib.hid (pclash i A5 A1 A2 M.length c5 n1 c1 n2 c2 M (tIn F q) (tOut F q) wa (HMT.out _ hba) hcap (j3.below hal) q1 (j4.below hal) HMS.out.1 HMS.out.2.1)
        have HWA := Lib.hid hwa
        have HAL := Lib.hid hal
        have HBA := Lib.hid hba
        have HV8a := Lib.hid (HV8.out.below hal)
        have HLN := Lib.hid hlen
        have HPR := Lib.hid hprp
        have HL1 := Lib.hid j3.1
        have hn1 := j3.2.1
        have y0 := (HG10.out _ hba).cell 0
        have y1 := (HG10.out _ hba).cell 1
        have x0 := hbx.cell 0
        have x1 := hbx.cell 1
        simp at x0 x1 y0 y1
        rw [hwa] at x0 x1 y0 y1
        clear hwa hal hba hlen hprp j3 j4 hbx
        go_wp2_with fail
        rw [← HWA.out]
        refine HCL.out.mono ?_
        rintro r w5 ⟨fd, A', l, c', f, s, zs, rfl, hR, hO, hb5⟩
        have HB5 := Lib.hid (bt HAL.out hb5)
        have HBW5 := Lib.hid (bt HBA.out hb5)
        have HV5 := Lib.hid (HV8a.out.below hb5)
        have hO' := hO.lower (base' := 0) (Nat.zero_le _)
        cases fd
        case false =>
          have HX2 := Lib.hid (fst_skip HX.out (cls_false HMS.out.2.2 HMS.out.2.1 HLN.out HPR.out hR))
          have HBC := Lib.hid (alloc_below w5 (.cells #[.slice A' l c', .int .i64 f, .int .i64 s] 43))
          clear hR hO hO' hb5
          go_wp2_with fail
          go_roundw
          case rel => exact ⟨q + 1, xs, by go_num, by omega, Lib.hid (HV5.out.below HBC.out), HX2, Lib.hid (bt HBW5.out HBC.out)⟩
          case measure => simp [intOf]; omega
        case true =>
          obtain ⟨hz1, hz2⟩ := cls_true HMS.out.2.2 HMS.out.2.1 HLN.out hR
          have hzl : zs.length ≤ 17592186044416 := by have := hz1.1.length_le; rw [HL1.out] at this; omega
          have hzi := hO.ints hzl
          have HZ1 := Lib.hid hz1
          have HZ2 := Lib.hid hz2
          obtain ⟨wb, hwb⟩ : ∃ wb, wb = w5.alloc (.cells #[.slice A' l c', .int .i64 f, .int .i64 s] 43) := ⟨_, rfl⟩
          have hbc : Below w5.heap.size w5 wb := by rw [hwb]; exact alloc_below _ _
          have HWB := Lib.hid hwb
          have HBC := Lib.hid hbc
          have HZI := Lib.hid (hzi.below hbc)
          have HV6 := Lib.hid (HV5.out.below hbc)
          have HBW6 := Lib.hid (bt HBW5.out hbc)
          clear hR hO hO' hb5 hz1 hz2 hzi hwb hbc hzl
          rcases HV6.out with ⟨rfl, rfl⟩ | ⟨g, n8, c8, rfl, hi8, hne8⟩
          · have HX2 := Lib.hid (fst_new HX.out HZ1.out HZ2.out (.inl rfl))
            have HFV := Lib.hid (FirstV.of (c := c') HZI.out HZ1.out.2.1)
            go_wp2_with fail
            rw [← HWB.out]
            refine (pearlier_none A' l c' wb).mono ?_
            rintro r w7 ⟨rfl, rfl⟩
            go_wp2_with fail
            go_roundw
            case rel => exact ⟨q + 1, zs, by go_num, by omega, HFV, HX2, HBW6⟩
            case measure => simp [intOf]; omega
          · have HPE := Lib.hid (pearlier_some g A' n8 c8 l c' xs zs wb hi8 HZI.out)
            have HN8 := Lib.hid hne8
            by_cases hc : shlex zs xs < 0
            · have HX2 := Lib.hid (fst_new HX.out HZ1.out HZ2.out (.inr hc))
              have HC := Lib.hid hc
              clear hi8 hne8 hc
              go_wp2_with fail
              rw [← HWB.out]
              refine HPE.out.mono ?_
              rintro r w7 ⟨rfl, u, rfl⟩
              rw [if_pos HC.out]
              have HFV := Lib.hid ((FirstV.of (c := c') HZI.out HZ1.out.2.1).below (below_drewN (Below.refl _ _) u))
              go_wp2_with fail
              go_roundw
              case rel => exact ⟨q + 1, zs, by go_num, by omega, HFV, HX2, Lib.hid (below_drewN HBW6.out u)⟩
              case measure => simp [intOf]; omega
            · have HX2 := Lib.hid (fst_old HX.out HZ1.out HZ2.out hne8 hc)
              have HC := Lib.hid hc
              clear hi8 hne8 hc
              go_wp2_with fail
              rw [← HWB.out]
              refine HPE.out.mono ?_
              rintro r w7 ⟨rfl, u, rfl⟩
              rw [if_neg (show ¬ shlex zs xs < 0 by have := HC.out; omega)]
              go_wp2_with fail
              go_roundw
              case rel => exact ⟨q + 1, xs, by go_num, by omega, Lib.hid (HV6.out.below (below_drewN (Below.refl _ _) u)), HX2, Lib.hid (below_drewN HBW6.out u)⟩
              case measure => simp [intOf]; omega
      · obtain rfl : q = F.length := by omega
        have HR := Lib.hid (HEND.out _ HX.out)
        rcases HV8.out with ⟨rfl, rfl⟩ | ⟨g, n', c', rfl, hi8, hne8⟩
        · have he := fun W => run_neqs (P := Try.prog) W 36 3 none 0 0 0 0 Try.underlying36
          go_wp2
          go_ret2
          exact ⟨none, 0, 0, [], rfl, HR.out, Ints.none_ _, ⟨fun _ => rfl, fun _ => rfl⟩, bt HB0.out (bt HBR.out HBW.out)⟩
        · have he := fun W => run_neqs (P := Try.prog) W 36 3 (some g) n' c' 0 0 Try.underlying36
          have HI8 := Lib.hid hi8
          have HN8 := Lib.hid hne8
          clear hi8 hne8
          go_wp2
          go_ret2
          exact ⟨some g, n', c', xs, rfl, HR.out, HI8.out, ⟨(fun h => nomatch h), fun h => absurd h HN8.out⟩, bt HB0.out (bt HBR.out HBW.out)⟩
end Go.Proofs.Ytkgdgnmobahhfaa
end

section
/- Lists and machines that are equal: Equal, EqualFunc, equal, Same; the reference's Ints, Lists, Same. -/
namespace Go.Proofs.Ytkgdgnmobahhfaa
open Go.RowKit

set_option maxHeartbeats 1000000 in
theorem rints (A B : Option Addr) (n c m d : Nat) (xs ys : List Int) (b : Bool) (w : World) (hx : Ints w A n xs) (hy : Ints w B m ys) (hb : b = decide (xs = ys)) :
    Calls Try.prog 28 #[.slice A n c, .slice B m d] w fun e w' => e = .returned (.bool b) ∧ ∃ q, w' = w.drewN q := by
  have L1 := Lib.hid hx.1
  have L2 := Lib.hid hy.1
  have hn := hx.2.1
  have hm := hy.2.1
  by_cases hnm : n = m
  · subst hnm
    have HB := Lib.hid hb
    clear hb
    go_enter Try.func28, Try.ntmps28
    go_wp2
    go_loopw [5] (fun i wr => ∃ j q : Nat, j ≤ n ∧ i = .int .i64 j ∧ AgreeL 0 xs ys j ∧ wr = w.drewN q) (fun i _ => n - (intOf i).toNat)
    case atStart => exact ⟨0, 0, Nat.zero_le _, rfl, AgreeL.zero _ _ _, rfl⟩
    case round =>
      obtain ⟨j, q, hj, rfl, heq, rfl⟩ := hrel
      have HE := Lib.hid heq
      clear heq
      by_cases hlt : j < n
      · obtain ⟨g1, o1, rfl, _, hc1⟩ := hx.at_ hlt
        obtain ⟨g2, o2, rfl, _, hc2⟩ := hy.at_ hlt
        by_cases he : xs.getD j 0 = ys.getD j 0
        · have hnx := Lib.hid (HE.out.succ he)
          rw [← he] at hc2
          generalize xs.getD j 0 = y at hc1 hc2
          clear he
          go_wp2
          go_quiet (fail)
          go_wp2
          go_roundw
          case rel => exact ⟨j + 1, _, by omega, by go_num, hnx.out, rfl⟩
          case measure => simp [intOf]; omega
        · have hfin : Hid (b = false) := Lib.hid (HB.out.trans (decide_eq_false fun e => he (by rw [e])))
          have hne : (xs.getD j 0 != ys.getD j 0) = true := by simpa using he
          generalize xs.getD j 0 = y at hc1 hne
          generalize ys.getD j 0 = z at hc2 hne
          clear he
          go_wp2
          go_quiet (fail)
          go_wp2
          go_ret
          exact ⟨ret_bool hfin.out.symm, by first | exact ⟨_, rfl⟩ | exact ⟨_, World.drewN_drewN _ _ _⟩⟩
      · obtain rfl : j = n := by omega
        have hfin : Hid (b = true) := Lib.hid (HB.out.trans (decide_eq_true (HE.out.all L1.out L2.out)))
        go_wp2
        go_ret
        exact ⟨ret_bool hfin.out.symm, by first | exact ⟨_, rfl⟩ | exact ⟨_, World.drewN_drewN _ _ _⟩⟩
  · have hfin : Hid (b = false) := Lib.hid (hb.trans (decide_eq_false fun e => hnm (by rw [← L1.out, ← L2.out, e])))
    have hd : ((n : Int) != (m : Int)) = true := by simp; omega
    clear hnm hb
    go_enter Try.func28, Try.ntmps28
    go_wp2
    go_ret
    exact ⟨ret_bool hfin.out.symm, 0, rfl⟩

set_option maxHeartbeats 1000000 in
theorem sequal (A B : Option Addr) (n c m d : Nat) (xs ys : List Int) (b : Bool) (w : World) (hx : Ints w A n xs) (hy : Ints w B m ys) (hb : b = decide (xs = ys)) :
    Calls Try.prog 64 #[.slice A n c, .slice B m d] w fun e w' => e = .returned (.bool b) ∧ ∃ q, w' = w.drewN q := by
  have L1 := Lib.hid hx.1
  have L2 := Lib.hid hy.1
  have hn := hx.2.1
  have hm := hy.2.1
  by_cases hnm : n = m
  · subst hnm
    have HB := Lib.hid hb
    clear hb
    go_enter Try.func64, Try.ntmps64
    go_wp2
    go_loopw [13] (fun i wr => ∃ j q : Nat, j ≤ n ∧ i = .int .i64 j ∧ AgreeL 0 xs ys j ∧ wr = w.drewN q) (fun i _ => n - (intOf i).toNat)
    case atStart => exact ⟨0, 0, Nat.zero_le _, rfl, AgreeL.zero _ _ _, rfl⟩
    case round =>
      obtain ⟨j, q, hj, rfl, heq, rfl⟩ := hrel
      have HE := Lib.hid heq
      clear heq
      by_cases hlt : j < n
      · obtain ⟨g1, o1, rfl, _, hc1⟩ := hx.at_ hlt
        obtain ⟨g2, o2, rfl, _, hc2⟩ := hy.at_ hlt
        by_cases he : xs.getD j 0 = ys.getD j 0
        · have hnx := Lib.hid (HE.out.succ he)
          rw [← he] at hc2
          generalize xs.getD j 0 = y at hc1 hc2
          clear he
          go_wp2
          go_quiet (fail)
          go_wp2
          go_roundw
          case rel => exact ⟨j + 1, _, by omega, by go_num, hnx.out, rfl⟩
          case measure => simp [intOf]; omega
        · have hfin : Hid (b = false) := Lib.hid (HB.out.trans (decide_eq_false fun e => he (by rw [e])))
          have hne : (xs.getD j 0 != ys.getD j 0) = true := by simpa using he
          generalize xs.getD j 0 = y at hc1 hne
          generalize ys.getD j 0 = z at hc2 hne
          clear he
          go_wp2
          go_quiet (fail)
          go_wp2
          go_ret
          exact ⟨ret_bool hfin.out.symm, by first | exact ⟨_, rfl⟩ | exact ⟨_, World.drewN_drewN _ _ _⟩⟩
      · obtain rfl : j = n := by omega
        have hfin : Hid (b = true) := Lib.hid (HB.out.trans (decide_eq_true (HE.out.all L1.out L2.out)))
        go_wp2
        go_ret
        exact ⟨ret_bool hfin.out.symm, by first | exact ⟨_, rfl⟩ | exact ⟨_, World.drewN_drewN _ _ _⟩⟩
  · have hfin : Hid (b = false) := Lib.hid (hb.trans (decide_eq_false fun e => hnm (by rw [← L1.out, ← L2.out, e])))
    have hd : ((n : Int) != (m : Int)) = true := by simp; omega
    clear hnm hb
    go_enter Try.func64, Try.ntmps64
    go_wp2
    go_ret
    exact ⟨ret_bool hfin.out.symm, 0, rfl⟩

theorem drew_trans {w wr w2 : World} (h : ∃ q, wr = w.drewN q) (h2 : ∃ q, w2 = wr.drewN q) : ∃ q, w2 = w.drewN q := by
  obtain ⟨q, rfl⟩ := h2
  exact drew_more h q

end Go.Proofs.Ytkgdgnmobahhfaa
end

section
/- The examples of the chapter: awake of hypothesis. -/
namespace Go.Proofs.Ytkgdgnmobahhfaa
open Go.RowKit

theorem Trs.two {w : World} {A1 A2 B1 B2 : Option Addr} {n1 c1 n2 c2 m1 d1 m2 d2 : Nat} {x1 y1 x2 y2 : List Int} (h1 : Ints w A1 n1 x1) (k1 : Ints w A2 n2 y1) (h2 : Ints w B1 m1 x2) (k2 : Ints w B2 m2 y2) (q1 : n1 ≤ c1) (q2 : n2 ≤ c2) (q3 : m1 ≤ d1) (q4 : m2 ≤ d2) :
    Trs (w.alloc (.cells #[.slice A1 n1 c1, .slice A2 n2 c2, .slice B1 m1 d1, .slice B2 m2 d2] 38)) (some ⟨w.heap.size, 0, none⟩) 2 [(x1, y1), (x2, y2)] := by
  have hb := alloc_below w (.cells #[.slice A1 n1 c1, .slice A2 n2 c2, .slice B1 m1 d1, .slice B2 m2 d2] 38)
  refine ⟨rfl, by omega, fun _ => ⟨w.heap.size, 0, rfl, by simp, fun j hj => ?_⟩⟩
  rcases Nat.lt_or_ge j 1 with h | h
  · obtain rfl : j = 0 := by omega
    exact ⟨A1, n1, c1, A2, n2, c2, by simp, by simp, q1, q2, h1.below hb, k1.below hb⟩
  · obtain rfl : j = 1 := by omega
    exact ⟨B1, m1, d1, B2, m2, d2, by simp, by simp, q3, q4, h2.below hb, k2.below hb⟩

/-- The traces of the example. -/
def tsX : TS := [([1], [0]), ([0, 1], [1, 2])]
theorem mokX : Mok 2 0 1 [[0, 0]] [[1, 0]] := by
  refine ⟨by omega, by omega, by omega, by omega, by omega, rfl, rfl, fun s hs => ?_⟩
  obtain rfl : s = 0 := by omega
  refine ⟨rfl, rfl, fun a ha => ?_⟩
  rcases Nat.lt_or_ge a 1 with h | h
  · obtain rfl : a = 0 := by omega
    decide
  · obtain rfl : a = 1 := by omega
    decide
theorem fullX : Full tsX := fun j hj => by
  have : j = 0 ∨ j = 1 := by have : tsX.length = 2 := rfl; omega
  rcases this with rfl | rfl <;> rfl
theorem srtX : Srt tsX := fun i j h hj => by
  have : tsX.length = 2 := rfl
  obtain rfl : i = 0 := by omega
  obtain rfl : j = 1 := by omega
  decide
theorem consX : Cons tsX := fun a b ha hb j hj => by
  have hl : tsX.length = 2 := rfl
  have h1 : a = 0 ∨ a = 1 := by omega
  have h2 : b = 0 ∨ b = 1 := by omega
  rcases h1 with rfl | rfl <;> rcases h2 with rfl | rfl
  · rfl
  · exact absurd hj (by rw [show cmn (tIn tsX 0) (tIn tsX 1) = 0 by decide]; omega)
  · exact absurd hj (by rw [show cmn (tIn tsX 1) (tIn tsX 0) = 0 by decide]; omega)
  · rfl
theorem chkX (xs : List Int) (h : ∀ x, x ∈ xs → 0 ≤ x ∧ x < 2) (hl : xs.length ≤ 1024) : chk xs 2 = 0 := chk_ok (by omega) (by omega) fun j hj => by
  rw [List.getD_eq_getElem?_getD, List.getElem?_eq_getElem hj]
  exact h _ (List.getElem_mem _)
theorem propsX : Props 2 tsX := fun j hj => by
  have : tsX.length = 2 := rfl
  have : j = 0 ∨ j = 1 := by omega
  unfold prpE
  rcases this with rfl | rfl
  · have h : chk (tIn tsX 0) 2 = 0 := chkX [1] (by decide) (by decide)
    rw [if_pos h]; exact ansE_ok rfl (by decide)
  · have h : chk (tIn tsX 1) 2 = 0 := chkX [0, 1] (by decide) (by decide)
    rw [if_pos h]; exact ansE_ok rfl (by decide)
theorem rfX : Fst1 (Rf [[0, 0]] [[1, 0]] 0 tsX 2) [0, 1] := by
  refine .inr ⟨⟨1, by omega, by decide, by decide⟩, by decide, fun x ⟨j, h1, h2, h3⟩ => ?_⟩
  have : j = 0 ∨ j = 1 := by omega
  rcases this with rfl | rfl
  · exact absurd h2 (by decide)
  · rw [h3]; decide
theorem aftX0 : aftK tsX [] 2 = tsX := by decide
theorem aftX1 : aftK tsX [0] 2 = [([1], [2])] := by decide
theorem shX : ShK tsX [([1], [2])] 2 [1] := ⟨0, by omega, by decide, by decide, 0, by decide, by decide, by decide⟩
theorem apX : Fst1 (ShK tsX [([1], [2])] 2) [1] := by
  refine .inr ⟨shX, by decide, fun x ⟨a, _, _, h2, b, h3, h4, _⟩ => ?_⟩
  obtain rfl : b = 0 := by simp at h3; exact h3
  have h5 : x.length ≤ 1 := h4.length_le
  rw [show x = [1] by
    have h6 : x <+: [1] := h4
    exact h6.eq_of_length (by simp; omega)]
  decide
theorem ctrX : ctr tsX [([1], [2])] = true := by
  obtain ⟨a, h1, h2⟩ := shX
  exact (ctr_any _ _).2 ⟨a, h1, (ctr1_iff _ _ _).2 ⟨[1], h2⟩⟩
theorem kepX : (kepK tsX [[], [0]] 2).length = 2 := by
  have h1 : kepK tsX [[], [0]] 1 = [[]] := by rw [kepK_yes fun v hv => by simp [kepK] at hv]; rfl
  rw [kepK_yes fun v hv => by
    rw [h1] at hv
    obtain rfl : v = [] := by simpa using hv
    exact (congrArg (fun q => ctr q (aftK tsX [0] 2)) aftX0).trans ((congrArg (ctr tsX) aftX1).trans ctrX), h1]
  rfl
theorem hvX : hvE 2 0 [[0, 0]] [[1, 0]] [[]] = 0 := by
  refine hvE_ok mokX.vld rfl ?_ rfl
  show hvF 2 0 [[0, 0]] 0 [[]] = 0
  rw [hvF, if_pos (chkX [] (by decide) (by decide))]
  rfl
theorem stX : stW 2 0 [[0, 0]] [[]] [0, 1] = [] ∧ chk [0, 1] 2 = 0 := by
  have h := chkX [0, 1] (by decide) (by decide)
  refine ⟨?_, h⟩
  unfold stW
  rw [if_pos h]
  rfl

set_option linter.unusedSimpArgs false in
set_option linter.unusedVariables false in
set_option maxHeartbeats 8000000 in
set_option maxRecDepth 100000 in
theorem awake22 (w : World) : Calls Try.prog 40 #[] w fun e w' => e = .returned (.bool true) ∧ Below w.heap.size w w' := by
  obtain ⟨w1, hw1⟩ : ∃ w1, w1 = w.alloc (.cells #[.int .i64 0, .int .i64 0] 3) := ⟨_, rfl⟩
  have b1 : Below w.heap.size w w1 := by rw [hw1]; exact alloc_below _ _
  have s1 : w1.heap.size = w.heap.size + 1 := by rw [hw1]; simp
  obtain ⟨w2, hw2⟩ : ∃ w2, w2 = w1.alloc (.cells #[.slice (some ⟨w.heap.size, 0, none⟩) 2 2] 36) := ⟨_, rfl⟩
  have b2 : Below w1.heap.size w1 w2 := by rw [hw2]; exact alloc_below _ _
  have s2 : w2.heap.size = w.heap.size + 1 + 1 := by rw [hw2]; simp [s1]
  obtain ⟨w3, hw3⟩ : ∃ w3, w3 = w2.alloc (.cells #[.int .i64 1, .int .i64 0] 3) := ⟨_, rfl⟩
  have b3 : Below w2.heap.size w2 w3 := by rw [hw3]; exact alloc_below _ _
  have s3 : w3.heap.size = w.heap.size + 1 + 1 + 1 := by rw [hw3]; simp [s2]
  obtain ⟨w4, hw4⟩ : ∃ w4, w4 = w3.alloc (.cells #[.slice (some ⟨w.heap.size + 1 + 1, 0, none⟩) 2 2] 36) := ⟨_, rfl⟩
  have b4 : Below w3.heap.size w3 w4 := by rw [hw4]; exact alloc_below _ _
  have s4 : w4.heap.size = w.heap.size + 1 + 1 + 1 + 1 := by rw [hw4]; simp [s3]
  obtain ⟨w5, hw5⟩ : ∃ w5, w5 = w4.alloc (.cells #[.slice none 0 0] 36) := ⟨_, rfl⟩
  have b5 : Below w4.heap.size w4 w5 := by rw [hw5]; exact alloc_below _ _
  have s5 : w5.heap.size = w.heap.size + 1 + 1 + 1 + 1 + 1 := by rw [hw5]; simp [s4]
  obtain ⟨w6, hw6⟩ : ∃ w6, w6 = w5.alloc (.cells #[.int .i64 2, .int .i64 0, .slice (some ⟨w.heap.size + 1, 0, none⟩) 1 1, .slice (some ⟨w.heap.size + 1 + 1 + 1, 0, none⟩) 1 1, .slice (some ⟨w.heap.size + 1 + 1 + 1 + 1, 0, none⟩) 1 1] 65) := ⟨_, rfl⟩
  have b6 : Below w5.heap.size w5 w6 := by rw [hw6]; exact alloc_below _ _
  have s6 : w6.heap.size = w.heap.size + 1 + 1 + 1 + 1 + 1 + 1 := by rw [hw6]; simp [s5]
  obtain ⟨w7, hw7⟩ : ∃ w7, w7 = w6.alloc (.cells #[.int .i64 1] 3) := ⟨_, rfl⟩
  have b7 : Below w6.heap.size w6 w7 := by rw [hw7]; exact alloc_below _ _
  have s7 : w7.heap.size = w.heap.size + 1 + 1 + 1 + 1 + 1 + 1 + 1 := by rw [hw7]; simp [s6]
  obtain ⟨w8, hw8⟩ : ∃ w8, w8 = w7.alloc (.cells #[.int .i64 0] 3) := ⟨_, rfl⟩
  have b8 : Below w7.heap.size w7 w8 := by rw [hw8]; exact alloc_below _ _
  have s8 : w8.heap.size = w.heap.size + 1 + 1 + 1 + 1 + 1 + 1 + 1 + 1 := by rw [hw8]; simp [s7]
  obtain ⟨w9, hw9⟩ : ∃ w9, w9 = w8.alloc (.cells #[.int .i64 0, .int .i64 1] 3) := ⟨_, rfl⟩
  have b9 : Below w8.heap.size w8 w9 := by rw [hw9]; exact alloc_below _ _
  have s9 : w9.heap.size = w.heap.size + 1 + 1 + 1 + 1 + 1 + 1 + 1 + 1 + 1 := by rw [hw9]; simp [s8]
  obtain ⟨w10, hw10⟩ : ∃ w10, w10 = w9.alloc (.cells #[.int .i64 1, .int .i64 2] 3) := ⟨_, rfl⟩
  have b10 : Below w9.heap.size w9 w10 := by rw [hw10]; exact alloc_below _ _
  have s10 : w10.heap.size = w.heap.size + 1 + 1 + 1 + 1 + 1 + 1 + 1 + 1 + 1 + 1 := by rw [hw10]; simp [s9]
  obtain ⟨w11, hw11⟩ : ∃ w11, w11 = w10.alloc (.cells #[.slice (some ⟨w.heap.size + 1 + 1 + 1 + 1 + 1 + 1, 0, none⟩) 1 1, .slice (some ⟨w.heap.size + 1 + 1 + 1 + 1 + 1 + 1 + 1, 0, none⟩) 1 1, .slice (some ⟨w.heap.size + 1 + 1 + 1 + 1 + 1 + 1 + 1 + 1, 0, none⟩) 2 2, .slice (some ⟨w.heap.size + 1 + 1 + 1 + 1 + 1 + 1 + 1 + 1 + 1, 0, none⟩) 2 2] 38) := ⟨_, rfl⟩
  have b11 : Below w10.heap.size w10 w11 := by rw [hw11]; exact alloc_below _ _
  have s11 : w11.heap.size = w.heap.size + 1 + 1 + 1 + 1 + 1 + 1 + 1 + 1 + 1 + 1 + 1 := by rw [hw11]; simp [s10]
  obtain ⟨w12, hw12⟩ : ∃ w12, w12 = w11.alloc (.cells #[.int .i64 2, .slice (some ⟨w.heap.size + 1 + 1 + 1 + 1 + 1 + 1 + 1 + 1 + 1 + 1, 0, none⟩) 2 2] 24) := ⟨_, rfl⟩
  have b12 : Below w11.heap.size w11 w12 := by rw [hw12]; exact alloc_below _ _
  have s12 : w12.heap.size = w.heap.size + 1 + 1 + 1 + 1 + 1 + 1 + 1 + 1 + 1 + 1 + 1 + 1 := by rw [hw12]; simp [s11]
  have i0 : Ints w1 (some ⟨w.heap.size, 0, none⟩) 2 [0, 0] := by rw [hw1]; have := Ints.new w [0, 0] #[.int .i64 0, .int .i64 0] 2 rfl rfl (by simp);  exact this
  have r1 : Lists w2 (some ⟨w.heap.size + 1, 0, none⟩) 1 [[0, 0]] := by rw [hw2]; have := Lists.one (c := 2) (i0); rw [s1] at this; exact this
  have i2 : Ints w3 (some ⟨w.heap.size + 1 + 1, 0, none⟩) 2 [1, 0] := by rw [hw3]; have := Ints.new w2 [1, 0] #[.int .i64 1, .int .i64 0] 2 rfl rfl (by simp); rw [s2] at this; exact this
  have r3 : Lists w4 (some ⟨w.heap.size + 1 + 1 + 1, 0, none⟩) 1 [[1, 0]] := by rw [hw4]; have := Lists.one (c := 2) (i2); rw [s3] at this; exact this
  have r4 : Lists w5 (some ⟨w.heap.size + 1 + 1 + 1 + 1, 0, none⟩) 1 [[]] := by rw [hw5]; have := Lists.one (c := 0) (Ints.none_ w4); rw [s4] at this; exact this
  have i6 : Ints w7 (some ⟨w.heap.size + 1 + 1 + 1 + 1 + 1 + 1, 0, none⟩) 1 [1] := by rw [hw7]; have := Ints.new w6 [1] #[.int .i64 1] 1 rfl rfl (by simp); rw [s6] at this; exact this
  have i7 : Ints w8 (some ⟨w.heap.size + 1 + 1 + 1 + 1 + 1 + 1 + 1, 0, none⟩) 1 [0] := by rw [hw8]; have := Ints.new w7 [0] #[.int .i64 0] 1 rfl rfl (by simp); rw [s7] at this; exact this
  have i8 : Ints w9 (some ⟨w.heap.size + 1 + 1 + 1 + 1 + 1 + 1 + 1 + 1, 0, none⟩) 2 [0, 1] := by rw [hw9]; have := Ints.new w8 [0, 1] #[.int .i64 0, .int .i64 1] 2 rfl rfl (by simp); rw [s8] at this; exact this
  have i9 : Ints w10 (some ⟨w.heap.size + 1 + 1 + 1 + 1 + 1 + 1 + 1 + 1 + 1, 0, none⟩) 2 [1, 2] := by rw [hw10]; have := Ints.new w9 [1, 2] #[.int .i64 1, .int .i64 2] 2 rfl rfl (by simp); rw [s9] at this; exact this
  have t10 : Trs w11 (some ⟨w.heap.size + 1 + 1 + 1 + 1 + 1 + 1 + 1 + 1 + 1 + 1, 0, none⟩) 2 tsX := by rw [hw11]; have := Trs.two (c1 := 1) (c2 := 1) (d1 := 2) (d2 := 2) ((((i6).below b8).below b9).below b10) (((i7).below b9).below b10) ((i8).below b10) i9 (by omega) (by omega) (by omega) (by omega); rw [s10] at this; exact this
  have m5 : Bx w6 (w.heap.size + 1 + 1 + 1 + 1 + 1) #[.int .i64 2, .int .i64 0, .slice (some ⟨w.heap.size + 1, 0, none⟩) 1 1, .slice (some ⟨w.heap.size + 1 + 1 + 1, 0, none⟩) 1 1, .slice (some ⟨w.heap.size + 1 + 1 + 1 + 1, 0, none⟩) 1 1] 65 := by rw [hw6]; have := bx_new w5 #[.int .i64 2, .int .i64 0, .slice (some ⟨w.heap.size + 1, 0, none⟩) 1 1, .slice (some ⟨w.heap.size + 1 + 1 + 1, 0, none⟩) 1 1, .slice (some ⟨w.heap.size + 1 + 1 + 1 + 1, 0, none⟩) 1 1] 65; rw [s5] at this; exact this
  have m11 : Bx w12 (w.heap.size + 1 + 1 + 1 + 1 + 1 + 1 + 1 + 1 + 1 + 1 + 1) #[.int .i64 2, .slice (some ⟨w.heap.size + 1 + 1 + 1 + 1 + 1 + 1 + 1 + 1 + 1 + 1, 0, none⟩) 2 2] 24 := by rw [hw12]; have := bx_new w11 #[.int .i64 2, .slice (some ⟨w.heap.size + 1 + 1 + 1 + 1 + 1 + 1 + 1 + 1 + 1 + 1, 0, none⟩) 2 2] 24; rw [s11] at this; exact this
  have hb : Below w.heap.size w w12 := (bt (bt (bt (bt (bt (bt (bt (bt (bt (bt (bt b1 b2) b3) b4) b5) b6) b7) b8) b9) b10) b11) b12)
  have HN := Lib.hid (fun (W : World) (h : Below w12.heap.size w12 W) => (((((((((((r1).below b3).below b4).below b5).below b6).below b7).below b8).below b9).below b10).below b11).below b12).below h)
  have HO := Lib.hid (fun (W : World) (h : Below w12.heap.size w12 W) => (((((((((r3).below b5).below b6).below b7).below b8).below b9).below b10).below b11).below b12).below h)
  have HC := Lib.hid (fun (W : World) (h : Below w12.heap.size w12 W) => ((((((((r4).below b6).below b7).below b8).below b9).below b10).below b11).below b12).below h)
  have HT := Lib.hid (fun (W : World) (h : Below w12.heap.size w12 W) => ((t10).below b12).below h)
  have HH := Lib.hid (fun (W : World) (h : Below w12.heap.size w12 W) => ((((((m5.on b7).on b8).on b9).on b10).on b11).on b12).on h)
  have HB := Lib.hid (fun (W : World) (h : Below w12.heap.size w12 W) => m11.on h)
  have HB0 := Lib.hid hb
  have HW1 := Lib.hid hw1
  have HW2 := Lib.hid hw2
  have HW3 := Lib.hid hw3
  have HW4 := Lib.hid hw4
  have HW5 := Lib.hid hw5
  have HW6 := Lib.hid hw6
  have HW7 := Lib.hid hw7
  have HW8 := Lib.hid hw8
  have HW9 := Lib.hid hw9
  have HW10 := Lib.hid hw10
  have HW11 := Lib.hid hw11
  have HW12 := Lib.hid hw12
  have hbc := Below.refl w12.heap.size w12
  clear hw1 b1 s1 hw2 b2 s2 hw3 b3 s3 hw4 b4 s4 hw5 b5 s5 hw6 b6 s6 hw7 b7 s7 hw8 b8 s8 hw9 b9 s9 hw10 b10 s10 hw11 b11 s11 hw12 b12 s12 i0 r1 i2 r3 r4 i6 i7 i8 i9 t10 m5 m11 hb
  go_enter Try.func40, Try.ntmps40
  go_wp2_with fail
  rw [← HW1.out, ← HW2.out, ← HW3.out, ← HW4.out, ← HW5.out, ← HW6.out, ← HW7.out, ← HW8.out, ← HW9.out, ← HW10.out, ← HW11.out, ← HW12.out]
  refine (phrefuted 2 0 1 (some ⟨w.heap.size + 1, 0, none⟩) (some ⟨w.heap.size + 1 + 1 + 1, 0, none⟩) (some ⟨w.heap.size + 1 + 1 + 1 + 1, 0, none⟩) (some ⟨w.heap.size + 1 + 1 + 1 + 1 + 1 + 1 + 1 + 1 + 1 + 1, 0, none⟩) 1 1 1 1 2 2 [[0, 0]] [[1, 0]] tsX w12 (HN.out _ hbc) (HO.out _ hbc) mokX (HT.out _ hbc) fullX propsX (by omega)).mono ?_
  rintro r x1 ⟨A1, n1, c1, xs1, q1, rfl, hf1, hi1, hq1, a1⟩
  obtain rfl := hf1.uniq rfX
  obtain rfl : q1 = true := hq1.2 (by simp)
  have hbc := bt hbc a1
  have HI1 := Lib.hid (fun (W : World) (h : Below x1.heap.size x1 W) => hi1.below h)
  clear hf1 hi1 hq1 a1
  have z0 := (HB.out _ hbc).cell 0
  have z1 := (HB.out _ hbc).cell 1
  simp at z0 z1
  obtain ⟨y1, hy1⟩ : ∃ y1, y1 = x1.alloc (.cells #[.int .i64 0] 3) := ⟨_, rfl⟩
  have c1' : Below x1.heap.size x1 y1 := by rw [hy1]; exact alloc_below _ _
  have j1 : Ints y1 (some ⟨x1.heap.size, 0, none⟩) 1 [0] := by rw [hy1]; exact Ints.new x1 [0] _ 1 rfl rfl (by simp)
  have HY1 := Lib.hid hy1
  have hbd := bt hbc c1'
  go_wp2_with fail
  rw [← HY1.out]
  refine (papart 2 (some ⟨w.heap.size + 1 + 1 + 1 + 1 + 1 + 1 + 1 + 1 + 1 + 1, 0, none⟩) none (some ⟨x1.heap.size, 0, none⟩) 2 2 0 0 1 1 tsX [] [0] y1 (HT.out _ hbd) (Ints.none_ y1) j1 fullX srtX consX propsX (by omega)).mono ?_
  rintro r x2 ⟨A2, n2, c2, xs2, rfl, hf2, hi2, hq2, a2⟩
  rw [aftX0, aftX1] at hf2
  obtain rfl := hf2.uniq apX
  obtain ⟨g2, rfl⟩ : ∃ g2, A2 = some g2 := by
    cases A2 with
    | none => exact absurd (hq2.1 rfl) (by simp)
    | some g => exact ⟨g, rfl⟩
  have hbc := bt hbd a2
  have HI1 := Lib.hid (fun (W : World) (h : Below x2.heap.size x2 W) => HI1.out W (bt (bt c1' a2) h))
  have HI2 := Lib.hid (fun (W : World) (h : Below x2.heap.size x2 W) => hi2.below h)
  clear hf2 hi2 hq2 a2 hbd j1 hy1 c1' z0 z1
  have z0 := (HH.out _ hbc).cell 0
  have z1 := (HH.out _ hbc).cell 1
  have z2 := (HH.out _ hbc).cell 2
  have z3 := (HH.out _ hbc).cell 3
  have z4 := (HH.out _ hbc).cell 4
  simp at z0 z1 z2 z3 z4
  obtain ⟨y2, hy2⟩ : ∃ y2, y2 = x2.alloc (.cells #[.int .i64 0, .int .i64 1] 3) := ⟨_, rfl⟩
  have c2' : Below x2.heap.size x2 y2 := by rw [hy2]; exact alloc_below _ _
  have j2 : Ints y2 (some ⟨x2.heap.size, 0, none⟩) 2 [0, 1] := by rw [hy2]; exact Ints.new x2 [0, 1] _ 2 rfl rfl (by simp)
  have HY2 := Lib.hid hy2
  have hbd := bt hbc c2'
  go_wp2_with fail
  rw [← HY2.out]
  refine (phstate 2 0 1 (some ⟨w.heap.size + 1, 0, none⟩) (some ⟨w.heap.size + 1 + 1 + 1, 0, none⟩) (some ⟨w.heap.size + 1 + 1 + 1 + 1, 0, none⟩) (some ⟨x2.heap.size, 0, none⟩) 1 1 1 2 2 [[0, 0]] [[1, 0]] [[]] [0, 1] y2 (HN.out _ hbd) (HO.out _ hbd) (HC.out _ hbd) j2 mokX).mono ?_
  rintro r x3 ⟨A3, c3, rfl, _, a3⟩
  have e1 := stX.1
  have e2 := stX.2
  rw [show stW ((2 : Nat) : Int) 0 [[0, 0]] [[]] [0, 1] = [] from e1, show chk [0, 1] ((2 : Nat) : Int) = 0 from e2]
  have hbc := bt hbd a3
  have HI1 := Lib.hid (fun (W : World) (h : Below x3.heap.size x3 W) => HI1.out W (bt (bt c2' a3) h))
  have HI2 := Lib.hid (fun (W : World) (h : Below x3.heap.size x3 W) => HI2.out W (bt (bt c2' a3) h))
  clear a3 hbd j2 hy2 c2' z0 z1 z2 z3 z4 e1 e2
  have z0 := (HH.out _ hbc).cell 0
  have z1 := (HH.out _ hbc).cell 1
  have z2 := (HH.out _ hbc).cell 2
  have z3 := (HH.out _ hbc).cell 3
  have z4 := (HH.out _ hbc).cell 4
  simp at z0 z1 z2 z3 z4
  go_wp2_with fail
  refine (phvalid 2 0 (some ⟨w.heap.size + 1, 0, none⟩) (some ⟨w.heap.size + 1 + 1 + 1, 0, none⟩) (some ⟨w.heap.size + 1 + 1 + 1 + 1, 0, none⟩) 1 1 1 1 1 1 [[0, 0]] [[1, 0]] [[]] x3 (HN.out _ hbc) (HO.out _ hbc) (HC.out _ hbc)).mono ?_
  rintro r x4 ⟨rfl, a4⟩
  rw [hvX]
  have hbc := bt hbc a4
  have HI1 := Lib.hid (fun (W : World) (h : Below x4.heap.size x4 W) => HI1.out W (bt a4 h))
  have HI2 := Lib.hid (fun (W : World) (h : Below x4.heap.size x4 W) => HI2.out W (bt a4 h))
  clear a4 z0 z1 z2 z3 z4
  obtain ⟨y4, hy4⟩ : ∃ y4, y4 = x4.alloc (.cells #[.int .i64 0, .int .i64 1] 3) := ⟨_, rfl⟩
  have c4' : Below x4.heap.size x4 y4 := by rw [hy4]; exact alloc_below _ _
  have j4 : Ints y4 (some ⟨x4.heap.size, 0, none⟩) 2 [0, 1] := by rw [hy4]; exact Ints.new x4 [0, 1] _ 2 rfl rfl (by simp)
  have HY4 := Lib.hid hy4
  have hbd := bt hbc c4'
  go_wp2_with fail
  rw [← HY4.out]
  refine (rints A1 (some ⟨x4.heap.size, 0, none⟩) n1 c1 2 2 [0, 1] [0, 1] true y4 (HI1.out _ c4') j4 (by simp)).mono ?_
  rintro r x5 ⟨rfl, q5, rfl⟩
  have c5' := below_drewN c4' q5
  have hbc : Below w12.heap.size w12 (y4.drewN q5) := below_drewN hbd q5
  have HI2 := Lib.hid (fun (W : World) (h : Below (y4.drewN q5).heap.size (y4.drewN q5) W) => HI2.out W (bt c5' h))
  clear j4 hy4 hbd c4' c5'
  generalize y4.drewN q5 = x5 at hbc HI2 ⊢
  obtain ⟨y5, hy5⟩ : ∃ y5, y5 = x5.alloc (.cells #[.int .i64 1] 3) := ⟨_, rfl⟩
  have c5' : Below x5.heap.size x5 y5 := by rw [hy5]; exact alloc_below _ _
  have j5 : Ints y5 (some ⟨x5.heap.size, 0, none⟩) 1 [1] := by rw [hy5]; exact Ints.new x5 [1] _ 1 rfl rfl (by simp)
  have HY5 := Lib.hid hy5
  have hbd := bt hbc c5'
  go_wp2_with fail
  rw [← HY5.out]
  refine (rints (some g2) (some ⟨x5.heap.size, 0, none⟩) n2 c2 1 1 [1] [1] true y5 (HI2.out _ c5') j5 (by simp)).mono ?_
  rintro r x6 ⟨rfl, q6, rfl⟩
  have hbc : Below w12.heap.size w12 (y5.drewN q6) := below_drewN hbd q6
  clear j5 hy5 hbd c5'
  generalize y5.drewN q6 = x6 at hbc ⊢
  have z0 := (HB.out _ hbc).cell 0
  have z1 := (HB.out _ hbc).cell 1
  simp at z0 z1
  obtain ⟨y6, hy6⟩ : ∃ y6, y6 = x6.alloc (.cells #[.int .i64 0] 3) := ⟨_, rfl⟩
  have c6' : Below x6.heap.size x6 y6 := by rw [hy6]; exact alloc_below _ _
  have s6 : y6.heap.size = x6.heap.size + 1 := by rw [hy6]; simp
  have j6 : Ints y6 (some ⟨x6.heap.size, 0, none⟩) 1 [0] := by rw [hy6]; exact Ints.new x6 [0] _ 1 rfl rfl (by simp)
  obtain ⟨y7, hy7⟩ : ∃ y7, y7 = y6.alloc (.cells #[.slice none 0 0, .slice (some ⟨x6.heap.size, 0, none⟩) 1 1] 36) := ⟨_, rfl⟩
  have c7' : Below y6.heap.size y6 y7 := by rw [hy7]; exact alloc_below _ _
  have j7 : Lists y7 (some ⟨x6.heap.size + 1, 0, none⟩) 2 [[], [0]] := by rw [hy7]; have := Lists.two (c := 0) (d := 1) (Ints.none_ y6) j6; rw [s6] at this; exact this
  have HY6 := Lib.hid hy6
  have HY7 := Lib.hid hy7
  have hbd := bt hbc (bt c6' c7')
  go_wp2_with fail
  rw [← HY6.out, ← HY7.out]
  refine (plower 2 (some ⟨w.heap.size + 1 + 1 + 1 + 1 + 1 + 1 + 1 + 1 + 1 + 1, 0, none⟩) (some ⟨x6.heap.size + 1, 0, none⟩) 2 2 2 2 tsX [[], [0]] y7 (HT.out _ hbd) j7 srtX fullX consX propsX (by omega) (by omega)).mono ?_
  rintro r x7 ⟨rfl, a7⟩
  rw [kepX]
  have hbc := bt HB0.out (bt hbd a7)
  clear a7 hbd j7 hy7 hy6 c6' c7' j6 s6 z0 z1
  go_wp2
  go_ret
  exact ⟨rfl, hbc⟩
end Go.Proofs.Ytkgdgnmobahhfaa
end

section
/- From, Run and Step by the reference. -/
namespace Go.Proofs.Ytkgdgnmobahhfaa
open Go.RowKit

end Go.Proofs.Ytkgdgnmobahhfaa
end

section
/- Reach of a machine. -/
namespace Go.Proofs.Ytkgdgnmobahhfaa
open Go.RowKit

theorem infob : (Try.prog.info? 4).map (fun i => (i.zero, i.size, i.bytes)) = some (some (.bool false), 1, 1) := by kernel_rfl

/-- The row of the seen states. -/
def Seen (w : World) (g : Nat) (bs : List Bool) : Prop := w.heap[g]? = some (.cells (bs.map Value.bool).toArray 4 (0, 0))
theorem Seen.at_ {w : World} {g : Nat} {bs : List Bool} (h : Seen w g bs) {x : Nat} (hx : x < bs.length) : w.cell? ⟨g, x, none⟩ = some (.bool (bs.getD x false)) ∧ w.frozen? ⟨g, x, none⟩ = false := by
  refine ⟨?_, frozen_of_row w g x _ _ h⟩
  rw [cell_of_row w g x _ _ (0, 0) h]
  simp [List.getD, hx]
theorem Seen.set {w : World} {g : Nat} {bs : List Bool} (h : Seen w g bs) (x : Nat) (b : Bool) : Seen (w.setCell ⟨g, x, none⟩ (.bool b)) g (bs.set x b) := by
  have := heap_setCell_same w g x _ _ (Value.bool b) h
  unfold Seen
  rw [this]
  simp [List.map_set]
theorem Seen.of_below {w w' : World} {g : Nat} {bs : List Bool} (h : Seen w g bs) {b : Nat} (hb : Below b w w') (hg : g < b) : Seen w' g bs := (hb.block g hg).trans h

theorem made_bools (n : Nat) : madeCells (Value.bool false).cells (n * 1) = ((List.replicate n false).map Value.bool).toArray := by
  apply Array.ext'
  rw [show (Value.bool false).cells = #[Value.bool false] from rfl, Nat.mul_one, toList_madeCells_one, List.map_replicate]

/-- make([]bool, n). -/
theorem wpList_make_bools {ops : Array Oper} {rest : List Oper} {o : Oper} {a : Act} {Q : Exit → Act → World → Prop} (w : World) (hg : o.guard = none) (l c : Operand) (hop : o.op = Op.makeSlice 121 l c)
    (kl kc : IntKind) (n : Nat) (hl : a.eval l = .int kl n) (hc : a.eval c = .int kc n) (hn : n ≤ 17592186044416)
    (hK : ∀ w', Seen w' w.heap.size (List.replicate n false) → Below w.heap.size w w' → wpList Try.prog ops Q rest (a.put o.dst (.slice (some ⟨w.heap.size, 0, none⟩) n n)) w') :
    wpList Try.prog ops Q (o :: rest) a w := by
  obtain ⟨i, hi, hz0, hz1, hz2⟩ := info_parts infob
  refine wpList_plain hg fun K hK' => ?_
  have hr := run_make (P := Try.prog) w 121 4 i (.bool false) Try.underlying121 hi hz0 kl kc n n (by omega) (by omega) (by rw [hz2]; omega) (by omega)
  rw [hz1, Int.toNat_natCast, made_bools] at hr
  have hS : Seen (w.alloc (.cells ((List.replicate n false).map Value.bool).toArray 4)) w.heap.size (List.replicate n false) := heap_alloc_new w _
  have hB := alloc_below w (.cells ((List.replicate n false).map Value.bool).toArray 4)
  generalize w.alloc (.cells ((List.replicate n false).map Value.bool).toArray 4) = w' at hr hS hB
  unfold Oper.wp
  simp [execOp, hop, hl, hc, hr, Result.andThen]
  exact hK' _ _ (hK w' hS hB)

set_option maxHeartbeats 4000000 in
set_option maxRecDepth 100000 in
theorem preach_ok (i st n : Nat) (A B : Option Addr) (c d : Nat) (nx ot : List (List Int)) (w : World) (hx : Lists w A n nx) (ho : Lists w B n ot) (hM : Mok i st n nx ot) :
    Calls Try.prog 53 #[.agg #[.int .i64 i, .int .i64 st, .slice A n c, .slice B n d]] w fun e w' => ∃ A' c', e = .returned (.slice A' (rch nx i st).length c') ∧ Owned w' w.heap.size (.slice A' (rch nx i st).length c') (zs (rch nx i st)) ∧ Below w.heap.size w w' := by
  have HV := Lib.hid hM.vld
  have hn := hx.2.1
  have hst := hM.st
  have hn128 := hM.n2
  have hb0 := alloc_below w (.cells #[.int .i64 i, .int .i64 st, .slice A n c, .slice B n d] 56)
  have HZ := Lib.hid (show (w.alloc (.cells #[.int .i64 i, .int .i64 st, .slice A n c, .slice B n d] 56)).heap.size = w.heap.size + 1 by simp)
  obtain ⟨R, hR⟩ : ∃ R, R = rch nx i st := ⟨_, rfl⟩
  have HR := Lib.hid (hR.trans (show rch nx i st = bfs nx i n [st] 0 by unfold rch; rw [hM.nxl]))
  rw [← hR]
  clear hR
  go_enter Try.func53, Try.ntmps53
  go_wp2_with fail
  refine (pvalid _ _ _ _ _ _ _ _ _ _ _ (hx.below hb0) (ho.below hb0)).mono ?_
  rintro e w1 ⟨rfl, b1⟩
  rw [HZ.out] at b1
  rw [HV.out]
  obtain ⟨k0, k1, k2, k3⟩ := box4 b1
  have hl0 : Owned (w1.alloc (.cells #[.int .i64 st] 3)) (w.heap.size + 1) (.slice (some ⟨w1.heap.size, 0, none⟩) 1 1) (zs [st]) := Owned.literal w1 _ [(st : Int)] _ 1 (by have := b1.size; simpa using this) rfl rfl (by simp)
  have hz2 : w.heap.size + 1 ≤ w1.heap.size := by have := b1.size; simpa using this
  have hl1 := alloc_below w1 (.cells #[.int .i64 st] 3)
  have k2a := (hl1.cell (p := ⟨w.heap.size, 2, none⟩) (by show w.heap.size < _; omega)).trans k2
  have hs1 : (w1.alloc (.cells #[.int .i64 st] 3)).heap.size = w1.heap.size + 1 := by simp
  have HS1 := Lib.hid hs1
  have HL0 := Lib.hid hl0
  clear hs1 hl0
  have hz2 : w.heap.size + 1 ≤ w1.heap.size := by have := b1.size; simpa using this
  go_wp2_with (refine wpList_make_bools _ rfl _ _ rfl .i64 .i64 n rfl rfl hn ?_; intro w2 se2 b2; rw [HS1.out] at se2 b2; have b3 := b1.trans ((hl1.mono hz2).trans (b2.mono (Nat.le_succ_of_le hz2))); obtain ⟨k0, k1, k2, k3⟩ := box4 b3; obtain ⟨sc, sf⟩ := se2.at_ (x := st) (by simpa using hst); have SE2 := Lib.hid se2; have B2 := Lib.hid b2; clear se2 b2 b3)
  have b2 := B2.out
  have se2 := SE2.out
  have b3 : Below (w.heap.size + 1) (w.alloc (.cells #[.int .i64 i, .int .i64 st, .slice A n c, .slice B n d] 56)) w2 := b1.trans ((hl1.mono hz2).trans (b2.mono (by omega)))
  have hown2 : Owned w2 (w.heap.size + 1) (.slice (some ⟨w1.heap.size, 0, none⟩) 1 1) (zs [st]) := HL0.out.kept (by rw [HS1.out]; exact b2)
  have se3 := se2.set st true
  rw [← seenOf_nil, seenOf_set] at se3
  have ow3 := hown2.off se2 (by decide) st (.bool true) 0
  have bw3 := b3.setCell (p := ⟨w1.heap.size + 1, st, none⟩) (by show w.heap.size + 1 ≤ w1.heap.size + 1; omega) (.bool true)
  generalize hg : w1.heap.size + 1 = g at se3 ow3 bw3 ⊢
  have hgb : w.heap.size + 1 ≤ g := by omega
  clear se2 b2 hown2 HL0 SE2 B2 b3 sc sf k0 k1 k2 k3 hl1 HS1 k2a
  have hbt : (4 : TypeId) ≠ 3 := by decide
  clear hg b1
  go_loopw [3, 5] (fun v jv wr => ∃ (l : List Nat) (j : Nat) (A' : Option Addr) (c' : Nat), j ≤ l.length ∧ jv = .int .i64 j ∧ v = .slice A' l.length c' ∧ Stt n l ∧ R = bfs nx i n l j ∧ Owned wr (w.heap.size + 1) (.slice A' l.length c') (zs l) ∧ Seen wr g (seenOf n l) ∧ Below (w.heap.size + 1) (w.alloc (.cells #[.int .i64 i, .int .i64 st, .slice A n c, .slice B n d] 56)) wr) (fun _ jv _ => n - (intOf jv).toNat)
  case atStart => exact ⟨[st], 0, _, 1, Nat.zero_le _, rfl, rfl, Stt.one hst, HR.out, ow3, se3, bw3⟩
  case round =>
    obtain ⟨l, j, A', c', hj, rfl, rfl, hS, hB, hown, hseen, hbr⟩ := hrel
    have hbw := hb0.trans (hbr.mono (Nat.le_succ _))
    obtain ⟨k0, k1, k2, k3⟩ := box4 hbr
    have HB := Lib.hid hB
    have HSS := Lib.hid hseen
    clear hB hseen
    have hll := hS.len
    by_cases hlt : j < l.length
    · have hjn : j < n := by omega
      obtain ⟨b1, o1, rfl, hb1, hc1⟩ := (hown.ints (by rw [zs_len]; omega)).at_ (k := j) (by omega)
      rw [zs_at] at hc1
      have hs : l.getD j 0 < n := hS.2 _ (getD_mem hlt)
      have HNX := Lib.hid (bfs_on hM hS hlt)
      generalize l.getD j 0 = s at hc1 hs HNX
      obtain ⟨g1, p1, A1, n1, c1, rfl, hg1, hd1, hr1⟩ := hx.at_ hs
      have hi1 := (hM.row s hs).1
      have hl1 := hr1.1
      obtain rfl : n1 = i := by omega
      have hi64 := hM.i2
      have e1 := (hbw.cell (p := ⟨g1, p1 + s, none⟩) hg1).trans hd1
      clear hl1 hi1 hd1
      have HOW := Lib.hid hown
      clear hown
      go_wp2
      go_quiet (fail)
      go_wp2
      obtain ⟨wo, rfl⟩ : ∃ wo : World, wo = wr := ⟨_, rfl⟩
      have HBR := Lib.hid hbr
      clear hbr hbw k0 k1 k2 k3 hc1 hb1 e1
      go_loopw [3, 37] (fun v av wq => ∃ (a : Nat) (A2 : Option Addr) (c2 : Nat), a ≤ n1 ∧ av = .int .i64 a ∧ v = .slice A2 (addR nx s l a).length c2 ∧ Owned wq (w.heap.size + 1) (.slice A2 (addR nx s l a).length c2) (zs (addR nx s l a)) ∧ Seen wq g (seenOf n (addR nx s l a)) ∧ Below (w.heap.size + 1) (w.alloc (.cells #[.int .i64 n1, .int .i64 st, .slice (some ⟨g1, p1, none⟩) n c, .slice B n d] 56)) wq) (fun _ av _ => n1 - (intOf av).toNat)
      case atStart => exact ⟨0, _, _, Nat.zero_le _, rfl, rfl, HOW.out, HSS.out, below_drewN HBR.out _⟩
      case round =>
        obtain ⟨a, A2, c2, ha, rfl, rfl, hown, hseen, hbr⟩ := hrel
        have hSa := addR_stt hM hS hs a ha
        have hbw := hb0.trans (hbr.mono (Nat.le_succ _))
        by_cases hla : a < n1
        · obtain ⟨g3, p3, rfl, hg3, hy1⟩ := hr1.at_ hla
          rw [hM.nN_eq hs hla] at hy1
          have ht := hM.nN_lt hs hla
          have hIn := Lib.hid (fun h => addR_in (nx := nx) (s := s) (a := a) (l := l) h)
          have hOut := Lib.hid (fun h => addR_out (nx := nx) (s := s) (a := a) (l := l) h)
          generalize nN nx s a = t at hy1 ht hIn hOut
          have e3 := (hbw.cell (p := ⟨g3, p3 + a, none⟩) hg3).trans hy1
          obtain ⟨e4, e5⟩ := hseen.at_ (x := t) (by rw [seenOf_len]; exact ht)
          rw [seenOf_at ht] at e4
          clear hy1
          generalize addR nx s l a = l' at hown hseen hSa hIn hOut e4
          have hll' := hSa.len
          by_cases hm : t ∈ l'
          · rw [decide_eq_true hm] at e4
            have hnx := Lib.hid (hIn.out hm)
            have HOW := Lib.hid hown
            have HSE := Lib.hid hseen
            have HB2 := Lib.hid hbr
            clear hown hseen hbr hbw hIn hOut hm
            go_wp2
            go_roundw
            case rel => exact ⟨a + 1, A2, c2, by omega, by go_num, by rw [hnx.out], by rw [hnx.out]; exact HOW.out, by rw [hnx.out]; exact HSE.out, HB2.out⟩
            case measure => simp [intOf]; omega
          · rw [decide_eq_false hm] at e4
            have hnx := Lib.hid (hOut.out hm)
            have ho1 := hown.off hseen hbt t (.bool true) 0
            have hs1 := hseen.set t true
            rw [seenOf_set] at hs1
            have hb1 := hbr.setCell (p := ⟨g, t, none⟩) hgb (.bool true)
            have ho1 : Owned (wr.setCell ⟨g, t, none⟩ (.bool true)) (w.heap.size + 1) (.slice A2 l'.length c2) (zs l') := ho1
            have hsz : w.heap.size + 1 ≤ (wr.setCell ⟨g, t, none⟩ (.bool true)).heap.size := by have := hb1.size; simpa using this
            clear hown hseen hbr hbw hIn hOut hm
            obtain ⟨A3, c3, w4, hrn, ho4, hb4, hk4⟩ := run_append_one ho1 (t : Int) hsz (by rw [zs_len]; omega)
            have hs4 := Lib.hid (hk4 g _ _ hs1 hbt)
            have hb5 := Lib.hid (hb1.trans hb4)
            rw [zs_len] at hrn ho4
            have hz : zs l' ++ [(t : Int)] = zs (l' ++ [t]) := by rw [zs_append, zs_one]
            rw [hz] at ho4
            have hlen : (l' ++ [t]).length = l'.length + 1 := by simp
            have HL := Lib.hid hlen
            have HO4 := Lib.hid ho4
            clear hk4 hb1 hb4 hs1 ho1 hz hlen ho4
            have hh : (wr.setCell ⟨g, t, none⟩ (.bool true)).heap.size = wr.heap.size := by simp
            rw [hh] at hrn
            clear hh
            go_wp2_with (at_builtin; refine Lib.wpList_append_run _ rfl _ _ _ _ rfl _ _ rfl rfl _ _ hrn ?_)
            go_roundw
            case rel => exact ⟨a + 1, A3, c3, by omega, by go_num, by rw [hnx.out, HL.out], by rw [hnx.out, HL.out]; exact HO4.out, by rw [hnx.out]; exact hs4.out, hb5.out⟩
            case measure => simp [intOf]; omega
        · obtain rfl : a = n1 := by omega
          have hl' := addR_len (nx := nx) (s := s) (l := l) a
          have HX := Lib.hid (HB.out.trans HNX.out.symm)
          generalize addR nx s l a = l' at hown hseen hSa hl' HX
          have HOW := Lib.hid hown
          have HSE := Lib.hid hseen
          clear hown hseen
          go_wp2
          go_roundw
          case rel => exact ⟨l', j + 1, A2, c2, by omega, by go_num, rfl, hSa, HX.out, HOW.out, HSE.out, hbr⟩
          case measure => simp [intOf]; omega
    · have hfin := Lib.hid (HB.out.trans (bfs_end nx i n hlt))
      have HOW := Lib.hid hown
      clear hown
      go_wp2
      go_ret
      exact ⟨A', c', by rw [hfin.out]; rfl, by rw [hfin.out]; exact Owned.lower HOW.out (Nat.le_succ _), hbw⟩

theorem preach_bad (i st : Int) (A B : Option Addr) (n c m d : Nat) (nx ot : List (List Int)) (w : World) (hx : Lists w A n nx) (ho : Lists w B m ot) (hv : ¬ vld i st nx ot = 0) :
    Calls Try.prog 53 #[.agg #[.int .i64 i, .int .i64 st, .slice A n c, .slice B m d]] w fun e w' => e = .returned (.slice none 0 0) ∧ Below w.heap.size w w' := by
  have hb0 := alloc_below w (.cells #[.int .i64 i, .int .i64 st, .slice A n c, .slice B m d] 56)
  have hne : (vld i st nx ot != 0) = true := by simpa using hv
  go_enter Try.func53, Try.ntmps53
  go_wp2_with fail
  refine (pvalid _ _ _ _ _ _ _ _ _ _ _ (hx.below hb0) (ho.below hb0)).mono ?_
  rintro e w1 ⟨rfl, b1⟩
  generalize vld i st nx ot = E at hne hv
  clear hv
  go_wp2
  go_ret
  exact ⟨rfl, bt hb0 b1⟩
end Go.Proofs.Ytkgdgnmobahhfaa
end

section
/- Trim of a machine. -/
namespace Go.Proofs.Ytkgdgnmobahhfaa
open Go.RowKit

/-- A block of a machine. -/
def Mblk (w : World) (g : Nat) (a b c d : Value) : Prop := w.heap[g]? = some (.cells #[a, b, c, d] 56 (0, 0))
theorem Mblk.cells {w : World} {g : Nat} {a b c d : Value} (h : Mblk w g a b c d) :
    w.cell? ⟨g, 0, none⟩ = some a ∧ w.cell? ⟨g, 1, none⟩ = some b ∧ w.cell? ⟨g, 2, none⟩ = some c ∧ w.cell? ⟨g, 3, none⟩ = some d ∧ w.frozen? ⟨g, 0, none⟩ = false ∧ w.frozen? ⟨g, 1, none⟩ = false ∧ w.frozen? ⟨g, 2, none⟩ = false ∧ w.frozen? ⟨g, 3, none⟩ = false :=
  ⟨cell_of_row w g 0 _ _ (0, 0) h, cell_of_row w g 1 _ _ (0, 0) h, cell_of_row w g 2 _ _ (0, 0) h, cell_of_row w g 3 _ _ (0, 0) h, frozen_of_row w g 0 _ _ h, frozen_of_row w g 1 _ _ h, frozen_of_row w g 2 _ _ h, frozen_of_row w g 3 _ _ h⟩
theorem Mblk.kept {w w' : World} {g : Nat} {a b c d : Value} (h : Mblk w g a b c d) {k : Nat} (hb : Below k w w') (hg : g < k) : Mblk w' g a b c d := (hb.block g hg).trans h
theorem Mblk.keptT {w w' : World} {g : Nat} {a b c d : Value} (h : Mblk w g a b c d) (hb : KeptT 56 w w') : Mblk w' g a b c d := hb g _ h

/-- A result that lies in memory, a machine, and one more. -/
theorem results_mealy {fn : Func} {p u : Tmp} (h : fn.results = #[.cell p 56, .tmp u]) (tmps : Array Value) (w : World) (g : Nat) (a b c d : Value)
    (hp : tmps.getD p undef = .pointer (some ⟨g, 0, none⟩)) (hg : Mblk w g a b c d) :
    (results fn tmps).run Try.prog w = .ok (.tuple #[.agg #[a, b, c, d], tmps.getD u undef]) w := by
  rw [results_cell_tmp h, hp]
  have hl := run_loadVar_row (P := Try.prog) w g 56 56 #[a, b, c, d] (0, 0) _ hg Try.underlying56 rfl (by kernel_rfl)
  simp [asAddr, hl]
theorem Mblk.set4 {w : World} {g : Nat} {a b c d : Value} (h : Mblk w g a b c d) (a' b' c' d' : Value) :
    Mblk ((((w.setCell ⟨g, 0, none⟩ a').setCell ⟨g, 1, none⟩ b').setCell ⟨g, 2, none⟩ c').setCell ⟨g, 3, none⟩ d') g a' b' c' d' := by
  have h1 := heap_setCell_same w g 0 _ _ a' h
  have h2 := heap_setCell_same _ g 1 _ _ b' h1
  have h3 := heap_setCell_same _ g 2 _ _ c' h2
  have h4 := heap_setCell_same _ g 3 _ _ d' h3
  exact h4

theorem OwnedL.drew {w : World} {base : Nat} {v : Value} {xss : List (List Int)} (h : OwnedL w base v xss) (q : Nat) : OwnedL (w.drewN q) base v xss := h
theorem Mblk.set2 {w : World} {g : Nat} {a b c d : Value} (h : Mblk w g a b c d) (v : Value) : Mblk (w.setCell ⟨g, 2, none⟩ v) g a b v d := heap_setCell_same w g 2 _ _ v h
theorem Mblk.set3 {w : World} {g : Nat} {a b c d : Value} (h : Mblk w g a b c d) (v : Value) : Mblk (w.setCell ⟨g, 3, none⟩ v) g a b c v := heap_setCell_same w g 3 _ _ v h
theorem OwnedL.offM {w : World} {base g j : Nat} {v : Value} {xss : List (List Int)} {a b c d : Value} (h : OwnedL w base v xss) (hM : Mblk w g a b c d) (u : Value) : OwnedL (w.setCell ⟨g, j, none⟩ u) base v xss :=
  h.keptT (KeptT.off hM (by decide) u) (KeptT.off hM (by decide) u)

/-- What a row of lists in a machine's block is behind a call and an append. -/
theorem trim_step {wo w8 w9 : World} {gT k m c9 : Nat} {x y u : Value} {AO A9 : Option Addr} {cO : Nat} {xss yss : List (List Int)} {xs : List Int} (b8 : Below gT wo w8) (hT : Mblk w8 gT x y u (.slice AO k cO)) (hN : OwnedL w8 gT u xss) (hO : OwnedL w8 gT (.slice AO k cO) yss) (hA : Apart u (.slice AO k cO))
    (q8 : Nat) (b9 : Below (w8.drewN q8).heap.size (w8.drewN q8) w9) (ho : Owned w9 (w8.drewN q8).heap.size (.slice A9 m c9) xs) (hk : k < 1759218604441) (hg : gT < w8.heap.size) :
    Mblk w9 gT x y u (.slice AO k cO) ∧ ∃ F : Nat → (Option Addr × Nat) × World, ∀ q, (Builtin.append_ #[54, 54] 54 #[.slice AO k cO, .slice (some ⟨w9.heap.size, 0, none⟩) 1 1]).run Try.prog ((w9.drewN q).alloc (.cells #[.slice A9 m c9] 36)) = .ok (.slice (F q).1.1 (k + 1) (F q).1.2) (F q).2 ∧
      Mblk (F q).2 gT x y u (.slice AO k cO) ∧ OwnedL (F q).2 gT u xss ∧ OwnedL (F q).2 gT (.slice (F q).1.1 (k + 1) (F q).1.2) (yss ++ [xs]) ∧ Apart u (.slice (F q).1.1 (k + 1) (F q).1.2) ∧ Below gT wo (F q).2 := by
  have b9' : Below w8.heap.size w8 w9 := (below_drewN (Below.refl _ _) q8).trans b9
  have hT9 := hT.kept b9' hg
  have hyl : yss.length = k := by obtain ⟨A', c', e⟩ := hO.form; cases e; rfl
  refine ⟨hT9, skol (p := fun q (r : (Option Addr × Nat) × World) => (Builtin.append_ #[54, 54] 54 #[.slice AO k cO, .slice (some ⟨w9.heap.size, 0, none⟩) 1 1]).run Try.prog ((w9.drewN q).alloc (.cells #[.slice A9 m c9] 36)) = .ok (.slice r.1.1 (k + 1) r.1.2) r.2 ∧
      Mblk r.2 gT x y u (.slice AO k cO) ∧ OwnedL r.2 gT u xss ∧ OwnedL r.2 gT (.slice r.1.1 (k + 1) r.1.2) (yss ++ [xs]) ∧ Apart u (.slice r.1.1 (k + 1) r.1.2) ∧ Below gT wo r.2) fun q => ?_⟩
  have hN9 := hN.kept b9'
  obtain ⟨A', c', w', h1, h2, h3, h4, h5, h6⟩ := run_append_list ((hO.kept b9').drew q) ((ho.lower (base' := gT) (Nat.le_of_lt hg)).drew q) (by have := b9'.size; show gT ≤ w9.heap.size; omega) (by omega)
  rw [hyl] at h1 h2 h6
  have hT9q : Mblk (w9.drewN q) gT x y u (.slice AO k cO) := hT9
  exact ⟨((A', c'), w'), h1, hT9q.keptT (h4 _ (by decide)), (hN9.drew q).keptB h5 hA.symm (h4 _ (by decide)), h2, (hA.symm.moved h6 (hN9.drew q)).symm, b8.trans ((b9'.mono (Nat.le_of_lt hg)).trans ((below_drewN (Below.refl _ _) q).trans h3))⟩

end Go.Proofs.Ytkgdgnmobahhfaa
end

section
/- Same of two machines by the two texts. -/
namespace Go.Proofs.Ytkgdgnmobahhfaa
open Go.RowKit

end Go.Proofs.Ytkgdgnmobahhfaa
end

section
/- gate and awake of the machines' laws. -/
namespace Go.Proofs.Ytkgdgnmobahhfaa
open Go.RowKit

/-- A result that lies in memory, a machine. -/
theorem results_mealy1 {fn : Func} {p : Tmp} (h : fn.results = #[.cell p 56]) (tmps : Array Value) (w : World) (g : Nat) (a b c d : Value)
    (hp : tmps.getD p undef = .pointer (some ⟨g, 0, none⟩)) (hg : Mblk w g a b c d) :
    (results fn tmps).run Try.prog w = .ok (.agg #[a, b, c, d]) w := by
  have hl := run_loadVar_row (P := Try.prog) w g 56 56 #[a, b, c, d] (0, 0) _ hg Try.underlying56 rfl (by kernel_rfl)
  unfold results
  rw [h]
  have hp2 : tmps[p]?.getD undef = .pointer (some ⟨g, 0, none⟩) := by simpa [Array.getD_eq_getD_getElem?] using hp
  simp [hp2, asAddr, hl]

def gN : List (List Int) := [[1, 0], [1, 0]]
def gO : List (List Int) := [[1, 0], [1, 2]]

/-- Two literals of two numbers, and the list of both. -/
theorem two_lists (w : World) (g : Nat) (a b c d : Int) (hg : w.heap.size = g) : Lists (((w.alloc (.cells #[.int .i64 a, .int .i64 b] 3)).alloc (.cells #[.int .i64 c, .int .i64 d] 3)).alloc (.cells #[.slice (some ⟨g, 0, none⟩) 2 2, .slice (some ⟨g + 1, 0, none⟩) 2 2] 36)) (some ⟨g + 1 + 1, 0, none⟩) 2 [[a, b], [c, d]] ∧
    Below w.heap.size w (((w.alloc (.cells #[.int .i64 a, .int .i64 b] 3)).alloc (.cells #[.int .i64 c, .int .i64 d] 3)).alloc (.cells #[.slice (some ⟨g, 0, none⟩) 2 2, .slice (some ⟨g + 1, 0, none⟩) 2 2] 36)) ∧
    (((w.alloc (.cells #[.int .i64 a, .int .i64 b] 3)).alloc (.cells #[.int .i64 c, .int .i64 d] 3)).alloc (.cells #[.slice (some ⟨g, 0, none⟩) 2 2, .slice (some ⟨g + 1, 0, none⟩) 2 2] 36)).heap.size = g + 1 + 1 + 1 := by
  have h1 := Ints.new w [a, b] #[.int .i64 a, .int .i64 b] 2 rfl rfl (by simp)
  have h2 := Ints.new (w.alloc (.cells #[.int .i64 a, .int .i64 b] 3)) [c, d] #[.int .i64 c, .int .i64 d] 2 rfl rfl (by simp)
  have e1 : (w.alloc (.cells #[.int .i64 a, .int .i64 b] 3)).heap.size = g + 1 := by simp [hg]
  have hb0 := alloc_below w (.cells #[.int .i64 a, .int .i64 b] 3)
  have hb1 := alloc_below (w.alloc (.cells #[.int .i64 a, .int .i64 b] 3)) (.cells #[.int .i64 c, .int .i64 d] 3)
  have e2 : ((w.alloc (.cells #[.int .i64 a, .int .i64 b] 3)).alloc (.cells #[.int .i64 c, .int .i64 d] 3)).heap.size = g + 1 + 1 := by simp [hg]
  rw [e1] at h2
  rw [hg] at h1
  have h1 := h1.below hb1
  have hbb := bt hb0 hb1
  generalize (w.alloc (.cells #[.int .i64 a, .int .i64 b] 3)).alloc (.cells #[.int .i64 c, .int .i64 d] 3) = w2 at h1 h2 e2 hbb ⊢
  rw [← e2]
  have hb := alloc_below w2 (.cells #[.slice (some ⟨g, 0, none⟩) 2 2, .slice (some ⟨g + 1, 0, none⟩) 2 2] 36)
  refine ⟨⟨rfl, by omega, fun _ => ⟨w2.heap.size, 0, rfl, by simp, fun j hj => ?_⟩⟩, bt hbb hb, by simp⟩
  have hc := fun j => cell_of_row (w2.alloc (.cells #[.slice (some ⟨g, 0, none⟩) 2 2, .slice (some ⟨g + 1, 0, none⟩) 2 2] 36)) w2.heap.size j _ 36 (0, 0) (heap_alloc_new w2 _)
  rw [Nat.zero_add, hc j]
  match j, hj with
  | 0, _ => exact ⟨_, 2, 2, rfl, h1.below hb⟩
  | 1, _ => exact ⟨_, 2, 2, rfl, h2.below hb⟩

theorem gate_ok : Mok 2 0 2 gN gO := by
  refine ⟨by decide, by decide, by decide, by decide, by decide, rfl, rfl, fun s hs => ?_⟩
  match s, hs with
  | 0, _ => exact ⟨rfl, rfl, by decide⟩
  | 1, _ => exact ⟨rfl, rfl, by decide⟩
theorem gate_ok1 : Mok 2 1 2 gN gO := by
  refine ⟨by decide, by decide, by decide, by decide, by decide, rfl, rfl, fun s hs => ?_⟩
  match s, hs with
  | 0, _ => exact ⟨rfl, rfl, by decide⟩
  | 1, _ => exact ⟨rfl, rfl, by decide⟩

/-- Ints of a list and a literal that is equal to it. -/
theorem ints_lit (w : World) (A : Option Addr) (n c : Nat) (cs : Array Value) (m : Nat) (xs : List Int) (h : Ints w A n xs) (h1 : cs = lit xs) (h2 : m = xs.length) (l1 : xs.length ≤ 1000) :
    Calls Try.prog 28 #[.slice A n c, .slice (some ⟨w.heap.size, 0, none⟩) m m] (w.alloc (.cells cs 3)) fun e w' => e = .returned (.bool true) ∧ Below w.heap.size w w' := by
  refine (rints _ _ _ _ _ _ xs xs true _ (h.below (alloc_below w _)) (Ints.new w xs cs m h1 h2 (by omega)) (by simp)).mono ?_
  rintro e w' ⟨rfl, hq⟩
  exact ⟨rfl, (alloc_below w _).trans ((rd_below hq).mono (by simp))⟩

end Go.Proofs.Ytkgdgnmobahhfaa
end

section
/- From and Run of a machine, in the words of the laws. -/
namespace Go.Proofs.Ytkgdgnmobahhfaa
open Go.RowKit

theorem pfrom_law (i st : Int) (A B D : Option Addr) (n c m d k e : Nat) (nx ot : List (List Int)) (s : Int) (xs : List Int) (w : World) (hx : Lists w A n nx) (ho : Lists w B m ot) (hD : Ints w D k xs) :
    Calls Try.prog 79 #[.agg #[.int .i64 i, .int .i64 st, .slice A n c, .slice B m d], .int .i64 s, .slice D k e] w fun e w' => ∃ A' c',
      e = .returned (.tuple #[.slice A' (frm i st nx ot s xs).1.length c', .int .i64 (frm i st nx ot s xs).2.1, .int .i64 (frm i st nx ot s xs).2.2]) ∧ Ints w' A' (frm i st nx ot s xs).1.length (frm i st nx ot s xs).1 ∧ Below w.heap.size w w' :=
  (pfrom i st A B D n c m d k e nx ot s xs w hx ho hD).mono fun _ _ ⟨A', c', h1, h2, h3⟩ => ⟨A', c', h1, Owned.ints h2 (by have := frm_len (i := i) (st := st) (nx := nx) (ot := ot) (s := s) (xs := xs); omega), h3⟩
theorem prun_law (i st : Int) (A B D : Option Addr) (n c m d k e : Nat) (nx ot : List (List Int)) (xs : List Int) (w : World) (hx : Lists w A n nx) (ho : Lists w B m ot) (hD : Ints w D k xs) :
    Calls Try.prog 38 #[.agg #[.int .i64 i, .int .i64 st, .slice A n c, .slice B m d], .slice D k e] w fun e w' => ∃ A' c',
      e = .returned (.tuple #[.slice A' (frm i st nx ot st xs).1.length c', .int .i64 (frm i st nx ot st xs).2.2]) ∧ Ints w' A' (frm i st nx ot st xs).1.length (frm i st nx ot st xs).1 ∧ Below w.heap.size w w' :=
  (prunw i st A B D n c m d k e nx ot xs w hx ho hD).mono fun _ _ ⟨A', c', h1, h2, h3⟩ => ⟨A', c', h1, Owned.ints h2 (by have := frm_len (i := i) (st := st) (nx := nx) (ot := ot) (s := st) (xs := xs); omega), h3⟩
theorem ints_same (A B : Option Addr) (n c m d : Nat) (xs : List Int) (w : World) (hx : Ints w A n xs) (hy : Ints w B m xs) :
    Calls Try.prog 28 #[.slice A n c, .slice B m d] w fun e w' => e = .returned (.bool true) ∧ Below w.heap.size w w' :=
  (rints A B n c m d xs xs true w hx hy (by simp)).mono fun _ _ ⟨h1, h2⟩ => ⟨h1, rd_below h2⟩
end Go.Proofs.Ytkgdgnmobahhfaa
end

section
/- Parts of a slice; two words as a list. -/
namespace Go.Proofs.Ytkgdgnmobahhfaa
open Go.RowKit

theorem run_head (A : Option Addr) (n c p : Nat) (hp : p ≤ n) (hc : n ≤ c) (w : World) : (Instr.slice 36 (.slice A n c) none (some (.int .i64 p)) none).run Try.prog w = .ok (.slice A p c) w := by
  obtain ⟨i, hi, hz0, hz1, hz2⟩ := info_parts info3
  have he : Try.prog.elem 36 = 3 := by kernel_rfl
  rw [run_slice_h (P := Try.prog) w 36 A n c (by rw [he]; exact Try.underlying36) .i64 p (by omega) (by omega), he]
  simp [sizeOf, typeInfo, hi, sliced]
  cases A <;> simp [Addr.add]
theorem run_tail (A : Option Addr) (n c p : Nat) (hp : p ≤ n) (w : World) : (Instr.slice 36 (.slice A n c) (some (.int .i64 p)) none none).run Try.prog w = .ok (.slice (if c = p then A else A.map (·.add p)) (n - p) (c - p)) w := by
  obtain ⟨i, hi, hz0, hz1, hz2⟩ := info_parts info3
  have he : Try.prog.elem 36 = 3 := by kernel_rfl
  rw [run_slice_l (P := Try.prog) w 36 A n c (by rw [he]; exact Try.underlying36) .i64 p (by omega) (by omega), he]
  simp [sizeOf, typeInfo, hi, sliced, hz1]
theorem Ints.head {w : World} {A : Option Addr} {n : Nat} {xs : List Int} (h : Ints w A n xs) {p : Nat} (hp : p ≤ n) : Ints w A p (xs.take p) :=
  ⟨by rw [List.length_take, h.1]; omega, Nat.le_trans hp h.2.1, fun h0 => by
    obtain ⟨b, off, e, hlt, hc⟩ := h.2.2 (by omega)
    exact ⟨b, off, e, hlt, fun j hj => by rw [hc j (by omega)]; simp [List.getD, hj]⟩⟩
theorem Ints.tail {w : World} {A : Option Addr} {n c : Nat} {xs : List Int} (h : Ints w A n xs) {p : Nat} (hp : p ≤ n) (hc : n ≤ c) : Ints w (if c = p then A else A.map (·.add p)) (n - p) (xs.drop p) :=
  ⟨by rw [List.length_drop, h.1], by have := h.2.1; omega, fun h0 => by
    obtain ⟨b, off, e, hlt, hcell⟩ := h.2.2 (by omega)
    rw [if_neg (by omega), e]
    refine ⟨b, off + p, ?_, hlt, fun j hj => ?_⟩
    · simp [Addr.add]
    · have := hcell (p + j) (by omega)
      rw [show off + p + j = off + (p + j) by omega, this]
      simp [List.getD]⟩

theorem two_words {w : World} {A B : Option Addr} {n c m d : Nat} {xs ys : List Int} (h1 : Ints w A n xs) (h2 : Ints w B m ys) :
    Lists (w.alloc (.cells #[.slice A n c, .slice B m d] 36)) (some ⟨w.heap.size, 0, none⟩) 2 [xs, ys] := by
  have hb := alloc_below w (.cells #[.slice A n c, .slice B m d] 36)
  refine ⟨rfl, by omega, fun _ => ⟨w.heap.size, 0, rfl, by simp, fun j hj => ?_⟩⟩
  have hc := fun j => cell_of_row (w.alloc (.cells #[.slice A n c, .slice B m d] 36)) w.heap.size j _ 36 (0, 0) (heap_alloc_new w _)
  rw [Nat.zero_add, hc j]
  match j, hj with
  | 0, _ => exact ⟨_, n, c, rfl, h1.below hb⟩
  | 1, _ => exact ⟨_, m, d, rfl, h2.below hb⟩

theorem join_two {w : World} {A B : Option Addr} {n c m d : Nat} {xs ys : List Int} (h1 : Ints w A n xs) (h2 : Ints w B m ys) (hl : n + m ≤ 17592186044416) :
    Calls Try.prog 54 #[.slice (some ⟨w.heap.size, 0, none⟩) 2 2] (w.alloc (.cells #[.slice A n c, .slice B m d] 36)) fun e w' => ∃ A' c', e = .returned (.slice A' (n + m) c') ∧ Ints w' A' (n + m) (xs ++ ys) ∧ Below w.heap.size w w' := by
  have e : [xs, ys].flatten = xs ++ ys := by simp
  have el : (xs ++ ys).length = n + m := by rw [List.length_append, h1.1, h2.1]
  refine (rjoin _ 2 2 [xs, ys] _ (two_words h1 h2) (by rw [e, el]; exact hl)).mono ?_
  rintro e' w' ⟨v, rfl, ho, hb⟩
  rw [e] at ho
  obtain ⟨A', c', rfl⟩ := ho.form
  have hi := ho.ints (by rw [el]; exact hl)
  rw [el] at hi
  exact ⟨A', c', by rw [el], hi, bt (alloc_below _ _) hb⟩
theorem chk_append {xs ys : List Int} {k : Int} (h1 : chk xs k = 0) (h2 : chk ys k = 0) (hl : xs.length + ys.length ≤ 1024) : chk (xs ++ ys) k = 0 := by
  obtain ⟨a1, a2, _, s1⟩ := chk_zero h1
  obtain ⟨_, _, _, s2⟩ := chk_zero h2
  refine chk_ok ⟨a1, a2⟩ (by rw [List.length_append]; omega) fun m hm => ?_
  rw [List.length_append] at hm
  by_cases e : m < xs.length
  · rw [List.getD_eq_getElem?_getD, List.getElem?_append_left e, ← List.getD_eq_getElem?_getD]; exact s1 m e
  · rw [List.getD_eq_getElem?_getD, List.getElem?_append_right (by omega), ← List.getD_eq_getElem?_getD]; exact s2 _ (by omega)
theorem chk_len {xs : List Int} {k : Int} (h : chk xs k = 0) : xs.length ≤ 1024 := (chk_zero h).2.2.1

/-- From, with what its slice may hold. -/
theorem pfrom_ok (i st n : Nat) (A B D : Option Addr) (c d k e s : Nat) (nx ot : List (List Int)) (xs : List Int) (w : World) (hM : Mok i st n nx ot) (hx : Lists w A n nx) (ho : Lists w B n ot) (hD : Ints w D k xs) (hs : s < n) (hc : chk xs i = 0) :
    Calls Try.prog 79 #[.agg #[.int .i64 i, .int .i64 st, .slice A n c, .slice B n d], .int .i64 s, .slice D k e] w fun e w' => ∃ A' c',
      e = .returned (.tuple #[.slice A' k c', .int .i64 (runS nx s xs), .int .i64 0]) ∧ Ints w' A' k (runO nx ot s xs) ∧ k ≤ c' ∧ Below w.heap.size w w' := by
  refine (pfrom i st A B D n c n d k e nx ot s xs w hx ho hD).mono ?_
  rintro e w' ⟨A', c', rfl, h, hb⟩
  rw [hM.frm hs hc] at h ⊢
  have hl : (runO nx ot s xs).length = k := by rw [runO_len, hD.1]
  have h : Owned w' w.heap.size (.slice A' (runO nx ot s xs).length c') (runO nx ot s xs) := h
  have h1 := h.ints (by rw [hl]; exact hD.2.1)
  have h2 := h.cap
  rw [hl] at h1 h2
  exact ⟨A', c', by show Ending.returned (.tuple #[.slice A' (runO nx ot s xs).length c', _, _]) = _; rw [hl], h1, h2, hb⟩
end Go.Proofs.Ytkgdgnmobahhfaa
end

section
/- Great of a machine; what the trimmed machine is in memory. -/
namespace Go.Proofs.Ytkgdgnmobahhfaa
open Go.RowKit

theorem rgreatm (i st : Int) (A B : Option Addr) (n c m d : Nat) (b : Bool) (w : World) (hb : b = decide (40 < n ∨ 40 < m ∨ 20 < i)) :
    Calls Try.prog 52 #[.agg #[.int .i64 i, .int .i64 st, .slice A n c, .slice B m d]] w fun e w' => e = .returned (.bool b) ∧ Below w.heap.size w w' := by
  by_cases h1 : 40 < n
  · have hf := Lib.hid (hb.trans (decide_eq_true (.inl h1)))
    have d1 : decide ((40 : Int) < (n : Int)) = true := by simp; omega
    clear hb
    go_enter Try.func52, Try.ntmps52
    go_wp2
    go_ret
    exact ⟨ret_bool hf.out.symm, alloc_below _ _⟩
  · have d1 : decide ((40 : Int) < (n : Int)) = false := by simp; omega
    by_cases h2 : 40 < m
    · have hf := Lib.hid (hb.trans (decide_eq_true (.inr (.inl h2))))
      have d2 : decide ((40 : Int) < (m : Int)) = true := by simp; omega
      clear hb
      go_enter Try.func52, Try.ntmps52
      go_wp2
      go_ret
      exact ⟨ret_bool hf.out.symm, alloc_below _ _⟩
    · have d2 : decide ((40 : Int) < (m : Int)) = false := by simp; omega
      by_cases h3 : 20 < i
      · have hf := Lib.hid (hb.trans (decide_eq_true (.inr (.inr h3))))
        have d3 : decide ((20 : Int) < i) = true := by simpa using h3
        clear hb
        go_enter Try.func52, Try.ntmps52
        go_wp2
        go_ret
        exact ⟨ret_bool hf.out.symm, alloc_below _ _⟩
      · have hf := Lib.hid (hb.trans (decide_eq_false (fun H => by omega)))
        have d3 : decide ((20 : Int) < i) = false := by simpa using h3
        clear hb
        go_enter Try.func52, Try.ntmps52
        go_wp2
        go_ret
        exact ⟨ret_bool hf.out.symm, alloc_below _ _⟩

theorem Mblk.upd {w w' : World} {g : Nat} {a b c d : Value} (h : Mblk w g a b c d) (hb : Below w.heap.size w w') : Mblk w' g a b c d := h.kept hb (heap_lt h)

theorem tr_frm {i st n : Nat} {nx ot : List (List Int)} (hM : Mok i st n nx ot) (xs : List Int) :
    (frm i 0 (trN nx i (rch nx i st)) (trO ot (rch nx i st)) 0 xs).1 = (frm i st nx ot st xs).1 ∧ (frm i 0 (trN nx i (rch nx i st)) (trO ot (rch nx i st)) 0 xs).2.2 = (frm i st nx ot st xs).2.2 := by
  have hT := hM.tr
  by_cases h : chk xs i = 0
  · have e1 := hM.frm hM.st h
    have e2 := hT.frm hT.st h
    have e2 : frm i 0 (trN nx i (rch nx i st)) (trO ot (rch nx i st)) 0 xs = _ := e2
    rw [e1, e2]
    refine ⟨?_, rfl⟩
    have := tr_run hM xs st (st_mem nx i st) (chk_zero h).2.2.2.mem
    rw [ixN_st] at this
    exact this
  · have h0 := hT.n1
    have h1 := hM.st
    have e1 := frm_word (s := st) hM.vld (by rw [hM.nxl]; omega) h
    have e2 := frm_word (st := 0) (s := 0) hT.vld (by rw [hT.nxl]; omega) h
    rw [e1, e2]
    exact ⟨rfl, rfl⟩
end Go.Proofs.Ytkgdgnmobahhfaa
end

section
/- Long of the machines' laws. -/
namespace Go.Proofs.Ytkgdgnmobahhfaa
open Go.RowKit

/-- What Long's answer says. -/
def LongP (b : Bool) (n : Nat) (xss : List (List Int)) : Prop := b = false → n ≤ 200 ∧ ∀ l, l ∈ xss → l.length ≤ 200
def LongE (n : Nat) (xss : List (List Int)) (e : Ending) : Prop := ∃ b, e = .returned (.bool b) ∧ LongP b n xss

set_option maxRecDepth 100000 in
theorem plong (A : Option Addr) (n c : Nat) (xss : List (List Int)) (w : World) (hx : Lists w A n xss) :
    Calls Try.prog 47 #[.slice A n c] w fun e w' => LongE n xss e ∧ w = w' := by
  have L := Lib.hid hx.1
  have hn := hx.2.1
  by_cases hk : 200 < n
  · have d1 : decide ((200 : Int) < (n : Int)) = true := by simp; omega
    go_enter Try.func47, Try.ntmps47
    go_wp2
    go_ret
    exact ⟨⟨true, rfl, fun h => absurd h (by simp)⟩, rfl⟩
  · have d1 : decide ((200 : Int) < (n : Int)) = false := by simp; omega
    go_enter Try.func47, Try.ntmps47
    go_wp2
    go_loop [3] (fun jv => ∃ j : Nat, j ≤ n ∧ jv = .int .i64 j ∧ ∀ i, i < j → (xss.getD i []).length ≤ 200) (fun jv => n - (intOf jv).toNat)
    case atStart => exact ⟨0, Nat.zero_le _, rfl, fun i h => absurd h (by omega)⟩
    case round =>
      obtain ⟨j, hj, rfl, hall⟩ := hrel
      have HA := Lib.hid hall
      clear hall
      by_cases hlt : j < n
      · obtain ⟨g, o, B, m, d, rfl, _, hcell, hrow⟩ := hx.at_ (k := j) hlt
        have hm : (xss.getD j []).length = m := hrow.1
        by_cases hm2 : m ≤ 200
        · have d2 : decide ((200 : Int) < (m : Int)) = false := by simp; omega
          have HN := Lib.hid (show ∀ i, i < j + 1 → (xss.getD i []).length ≤ 200 from fun i hi => by
            rcases Nat.lt_or_ge i j with h | h
            · exact HA.out i h
            · obtain rfl : i = j := by omega
              omega)
          clear hrow hm
          go_wp2
          go_round
          case rel => exact ⟨j + 1, by omega, by go_num, HN.out⟩
          case measure => simp [intOf]; omega
        · have d2 : decide ((200 : Int) < (m : Int)) = true := by simp; omega
          clear hrow hm
          go_wp2
          go_ret
          exact ⟨⟨true, rfl, fun h => absurd h (by simp)⟩, rfl⟩
      · obtain rfl : j = n := by omega
        go_wp2
        go_ret
        refine ⟨⟨false, rfl, fun _ => ⟨by omega, fun l hl => ?_⟩⟩, rfl⟩
        obtain ⟨i, hi, rfl⟩ := List.getElem_of_mem hl
        have := HA.out i (by rw [← L.out]; exact hi)
        rwa [List.getD_eq_getElem?_getD, List.getElem?_eq_getElem hi] at this
end Go.Proofs.Ytkgdgnmobahhfaa
end

section
/- The reference of observe: Proper, Differ. -/
namespace Go.Proofs.Ytkgdgnmobahhfaa
open Go.RowKit

set_option linter.unusedSimpArgs false in
set_option linter.unusedVariables false in
set_option maxHeartbeats 2000000 in
set_option maxRecDepth 100000 in
theorem rproper (A B : Option Addr) (n c m d : Nat) (i : Int) (xs ys : List Int) (w : World) (hx : Ints w A n xs) (hy : Ints w B m ys) :
    Calls Try.prog 60 #[.agg #[.slice A n c, .slice B m d], .int .i64 i] w fun e w' => e = .returned (.int .i64 (prpE xs ys i)) ∧ Below w.heap.size w w' := by
  obtain ⟨w0, hw0⟩ : ∃ w0, w0 = w.alloc (.cells #[.slice A n c, .slice B m d] 38) := ⟨_, rfl⟩
  have hb0 : Below w.heap.size w w0 := by rw [hw0]; exact alloc_below _ _
  have m0 : Bx w0 w.heap.size #[.slice A n c, .slice B m d] 38 := by rw [hw0]; exact bx_new _ _ _
  have HX := Lib.hid (hx.below hb0)
  have HY := Lib.hid (hy.below hb0)
  have HB := Lib.hid hb0
  have HW0 := Lib.hid hw0
  have HM := Lib.hid m0
  have LX := Lib.hid hx.1
  have LY := Lib.hid hy.1
  have hm := hy.2.1
  have k0 := m0.cell 0
  have k1 := m0.cell 1
  simp at k0 k1
  rw [hw0] at k0 k1
  clear hx hy hb0 hw0 m0
  by_cases hc : chk xs i = 0
  case neg =>
    have HP := Lib.hid (show prpE xs ys i = chk xs i by unfold prpE; rw [if_neg hc])
    obtain ⟨E, hE⟩ : ∃ E, E = chk xs i := ⟨_, rfl⟩
    have hne : (E != 0) = true := by rw [hE]; simpa using hc
    have HE := Lib.hid hE
    clear hE hc
    go_enter Try.func60, Try.ntmps60
    go_wp2_with fail
    rw [← HW0.out]
    refine (rcheck _ _ _ _ xs _ HX.out).mono ?_
    rintro e w2 ⟨rfl, rfl⟩
    rw [← HE.out]
    clear k0 k1
    go_wp2
    go_ret
    exact ⟨by rw [HP.out, ← HE.out]; rfl, HB.out⟩
  have HP := Lib.hid (show prpE xs ys i = ansE xs ys by unfold prpE; rw [if_pos hc])
  have HC := Lib.hid hc
  clear hc
  by_cases hl : m = n
  case neg =>
    have HE := Lib.hid (ansE_len (xs := xs) (ys := ys) (by rw [LX.out, LY.out]; exact hl))
    have hne : ((m : Int) != (n : Int)) = true := by rw [bne_iff_ne]; omega
    have hl' : ¬ (m : Int) = (n : Int) := by omega
    go_enter Try.func60, Try.ntmps60
    go_wp2_with fail
    rw [← HW0.out]
    refine (rcheck _ _ _ _ xs _ HX.out).mono ?_
    rintro e w2 ⟨rfl, rfl⟩
    rw [HC.out]
    rw [← HW0.out] at k0 k1
    go_wp2
    go_ret
    exact ⟨by rw [HP.out, HE.out]; rfl, HB.out⟩
  subst hl
  have HL := Lib.hid (show ys.length = xs.length by rw [LX.out, LY.out])
  have hne : ((m : Int) != (m : Int)) = false := by simp
  go_enter Try.func60, Try.ntmps60
  go_wp2_with fail
  rw [← HW0.out]
  refine (rcheck _ _ _ _ xs _ HX.out).mono ?_
  rintro e w2 ⟨rfl, rfl⟩
  rw [HC.out]
  rw [← HW0.out] at k0 k1
  go_wp2
  go_loopw [6] (fun jv wr => ∃ k : Nat, k ≤ m ∧ jv = .int .i64 k ∧ Hid (∀ j, j < k → 0 ≤ ys.getD j 0 ∧ ys.getD j 0 ≤ 1048576) ∧ ∃ q, wr = w0.drewN q) (fun jv _ => m - (intOf jv).toNat)
  case atStart => exact ⟨0, Nat.zero_le _, rfl, Lib.hid (fun j h => absurd h (by omega)), 0, rfl⟩
  case round =>
    obtain ⟨k, hk, rfl, HA, q, rfl⟩ := hrel
    by_cases hlt : k < m
    · obtain ⟨b, o, rfl, _, hc⟩ := HY.out.at_ hlt
      obtain ⟨y, hyv⟩ : ∃ y, y = ys.getD k 0 := ⟨_, rfl⟩
      rw [← hyv] at hc
      have HV := Lib.hid hyv
      clear hyv
      by_cases h1 : y < 0
      · have HE := Lib.hid (ansE_bad HL.out (by rw [LY.out]; exact hlt) (by rw [← HV.out]; omega))
        go_wp2
        go_ret
        exact ⟨by rw [HP.out, HE.out]; rfl, below_drewN HB.out _⟩
      · by_cases h2 : 1048576 < y
        · have HE := Lib.hid (ansE_bad HL.out (by rw [LY.out]; exact hlt) (by rw [← HV.out]; omega))
          go_wp2
          go_ret
          exact ⟨by rw [HP.out, HE.out]; rfl, below_drewN HB.out _⟩
        · have HA2 := Lib.hid (all_snoc HA.out (by rw [← HV.out]; omega))
          go_wp2
          go_roundw
          case rel => exact ⟨k + 1, by omega, by go_num, HA2, q, rfl⟩
          case measure => simp [intOf]; omega
    · obtain rfl : k = m := by omega
      have HE := Lib.hid (ansE_ok HL.out (all_done (by rw [LY.out]; exact HA.out)))
      go_wp2
      go_ret
      exact ⟨by rw [HP.out, HE.out]; rfl, below_drewN HB.out _⟩

/-- Where two traces differ. -/
def Dff (xs ys us vs : List Int) (z : Int) : Prop := (z = -1 ∧ ∀ j, j < cmn xs us → ys.getD j 0 = vs.getD j 0) ∨ (∃ k : Nat, z = k ∧ k < cmn xs us ∧ (∀ j, j < k → ys.getD j 0 = vs.getD j 0) ∧ ¬ ys.getD k 0 = vs.getD k 0)
theorem dff_ex (xs ys us vs : List Int) : ∃ z, Dff xs ys us vs z := by
  by_cases h : ∃ k, k < cmn xs us ∧ ¬ ys.getD k 0 = vs.getD k 0
  · obtain ⟨k, h1, h2⟩ := h
    induction k using Nat.strongRecOn with
    | ind k ih =>
      by_cases h3 : ∃ j, j < k ∧ ¬ ys.getD j 0 = vs.getD j 0
      · obtain ⟨j, h4, h5⟩ := h3
        exact ih j h4 (by omega) h5
      · exact ⟨k, .inr ⟨k, rfl, h1, fun j hj => Classical.byContradiction fun h6 => h3 ⟨j, hj, h6⟩, h2⟩⟩
  · exact ⟨-1, .inl ⟨rfl, fun j hj => Classical.byContradiction fun h6 => h ⟨j, hj, h6⟩⟩⟩
theorem Dff.at_ {xs ys us vs : List Int} {z : Int} {k : Nat} (h : Dff xs ys us vs z) (hk : k < cmn xs us) (ha : ∀ j, j < k → ys.getD j 0 = vs.getD j 0) (hn : ¬ ys.getD k 0 = vs.getD k 0) : z = k := by
  rcases h with ⟨_, h⟩ | ⟨q, rfl, h1, h2, h3⟩
  · exact absurd (h k hk) hn
  · rcases Nat.lt_trichotomy q k with h4 | rfl | h4
    · exact absurd (ha q h4) h3
    · rfl
    · exact absurd (h2 k h4) hn
theorem Dff.no {xs ys us vs : List Int} {z : Int} (h : Dff xs ys us vs z) (ha : ∀ j, j < cmn xs us → ys.getD j 0 = vs.getD j 0) : z = -1 := by
  rcases h with ⟨h, _⟩ | ⟨q, rfl, h1, h2, h3⟩
  · exact h
  · exact absurd (ha q h1) h3

set_option linter.unusedSimpArgs false in
set_option linter.unusedVariables false in
set_option maxHeartbeats 2000000 in
set_option maxRecDepth 100000 in
theorem rdiffer (A B C D : Option Addr) (n c m d k e l f : Nat) (xs ys us vs : List Int) (z : Int) (w : World) (hx : Ints w A n xs) (hy : Ints w B m ys) (hu : Ints w C k us) (hv : Ints w D l vs) (h1 : ys.length = xs.length) (h2 : vs.length = us.length) (hz : Dff xs ys us vs z) :
    Calls Try.prog 72 #[.agg #[.slice A n c, .slice B m d], .agg #[.slice C k e, .slice D l f]] w fun r w' => r = .returned (.int .i64 z) ∧ Below w.heap.size w w' := by
  obtain ⟨w0, hw0⟩ : ∃ w0, w0 = (w.alloc (.cells #[.slice A n c, .slice B m d] 38)).alloc (.cells #[.slice C k e, .slice D l f] 38) := ⟨_, rfl⟩
  obtain ⟨hb0, m1, m2, hs0⟩ := bxs2 w #[.slice A n c, .slice B m d] #[.slice C k e, .slice D l f] 38 38 w0 hw0
  have HX := Lib.hid (hx.below hb0)
  have HY := Lib.hid (hy.below hb0)
  have HU := Lib.hid (hu.below hb0)
  have HV := Lib.hid (hv.below hb0)
  have HB := Lib.hid hb0
  have HW0 := Lib.hid hw0
  have HZ := Lib.hid hz
  have LX := Lib.hid hx.1
  have LY := Lib.hid hy.1
  have LU := Lib.hid hu.1
  have LV := Lib.hid hv.1
  obtain rfl : m = n := by rw [← hx.1, ← hy.1, h1]
  obtain rfl : l = k := by rw [← hu.1, ← hv.1, h2]
  obtain ⟨K, hK⟩ : ∃ K, K = cmn xs us := ⟨_, rfl⟩
  have hK1 : K ≤ m := by rw [hK, ← hx.1]; exact cmn_le_left _ _
  have hK2 : K ≤ l := by rw [hK, ← hu.1]; exact cmn_le_right _ _
  have hm := hx.2.1
  have HKK := Lib.hid hK
  have k0 := m1.cell 0
  have k1 := m1.cell 1
  have l0 := m2.cell 0
  have l1 := m2.cell 1
  simp at k0 k1 l0 l1
  have HCM := Lib.hid (rcommon A C m c l e xs us w0 HX.out HU.out)
  rw [← hK] at HCM
  rw [hw0] at k0 k1 l0 l1
  clear hx hy hu hv hb0 hw0 m1 m2 hs0 h1 h2 hz hK
  go_enter Try.func72, Try.ntmps72
  go_wp2_with fail
  rw [← HW0.out]
  refine HCM.out.mono ?_
  rintro e w2 ⟨rfl, q2, rfl⟩
  rw [← HW0.out] at k0 k1 l0 l1
  go_wp2
  go_loopw [6] (fun jv wr => ∃ j : Nat, j ≤ K ∧ jv = .int .i64 j ∧ Hid (∀ t, t < j → ys.getD t 0 = vs.getD t 0) ∧ ∃ q, wr = w0.drewN q) (fun jv _ => K - (intOf jv).toNat)
  case atStart => exact ⟨0, Nat.zero_le _, rfl, Lib.hid (fun j h => absurd h (by omega)), q2, rfl⟩
  case round =>
    obtain ⟨j, hj, rfl, HA, q, rfl⟩ := hrel
    by_cases hlt : j < K
    · obtain ⟨b1, o1, rfl, _, hc1⟩ := HY.out.at_ (k := j) (by omega)
      obtain ⟨b2, o2, rfl, _, hc2⟩ := HV.out.at_ (k := j) (by omega)
      obtain ⟨y, hy⟩ : ∃ y, y = ys.getD j 0 := ⟨_, rfl⟩
      obtain ⟨v, hv⟩ : ∃ v, v = vs.getD j 0 := ⟨_, rfl⟩
      rw [← hy] at hc1
      rw [← hv] at hc2
      have HYY := Lib.hid hy
      have HVV := Lib.hid hv
      clear hy hv
      by_cases he : y = v
      · have hb : (y != v) = false := by rw [he]; simp
        have HN := Lib.hid (show ∀ t, t < j + 1 → ys.getD t 0 = vs.getD t 0 from fun t ht => by
          rcases Nat.lt_or_ge t j with h | h
          · exact HA.out t h
          · rw [show t = j by omega, ← HYY.out, ← HVV.out, he])
        have HE := Lib.hid he
        clear he
        go_wp2
        go_quiet (fail)
        go_wp2
        go_roundw
        case rel => exact ⟨j + 1, by omega, by go_num, HN, by first | exact ⟨_, rfl⟩ | exact ⟨_, World.drewN_drewN _ _ _⟩⟩
        case measure => simp [intOf]; omega
      · have hb : (y != v) = true := by rw [bne_iff_ne]; exact he
        have HR := Lib.hid (HZ.out.at_ (k := j) (by rw [← HKK.out]; exact hlt) HA.out (by rw [← HYY.out, ← HVV.out]; exact he))
        go_wp2
        go_quiet (fail)
        go_wp2
        go_ret
        exact ⟨by rw [HR.out]; rfl, below_drewN (below_drewN HB.out _) _⟩
    · have HR := Lib.hid (HZ.out.no (fun t ht => HA.out t (by rw [← HKK.out] at ht; omega)))
      go_wp2
      go_ret
      exact ⟨by rw [HR.out]; rfl, below_drewN HB.out _⟩
end Go.Proofs.Ytkgdgnmobahhfaa
end

section
/- The reference: Lex and Compare. -/
namespace Go.Proofs.Ytkgdgnmobahhfaa
open Go.RowKit

set_option maxHeartbeats 400000 in
theorem rlex (A B : Option Addr) (n c m d : Nat) (xs ys : List Int) (w : World) (hx : Ints w A n xs) (hy : Ints w B m ys) :
    Calls Try.prog 99 #[.slice A n c, .slice B m d] w fun e w' => e = .returned (.int .i64 (lexi xs ys)) ∧ ∃ q, w' = w.drewN q := by
  have L1 := Lib.hid hx.1
  have L2 := Lib.hid hy.1
  have hn := hx.2.1
  have hm := hy.2.1
  have l1 : cmn xs ys ≤ n := by rw [← L1.out]; exact cmn_le_left _ _
  have l2 : cmn xs ys ≤ m := by rw [← L2.out]; exact cmn_le_right _ _
  have hag := Lib.hid (cmn_agree xs ys)
  obtain ⟨t, ht⟩ : ∃ t, t = cmn xs ys := ⟨_, rfl⟩
  rw [← ht] at l1 l2 hag
  have HT := Lib.hid ht
  have call : ∀ w0 : World, w0 = w → Calls Try.prog 73 #[.slice A n c, .slice B m d] w0 fun e w' => e = .returned (.int .i64 (t : Int)) ∧ ∃ q, w' = w0.drewN q := by
    intro w0 e0; subst e0; rw [ht]; exact rcommon _ _ _ _ _ _ xs ys _ hx hy
  have HC := Lib.hid call
  clear ht call
  by_cases h1 : t = n
  · by_cases h2 : t = m
    · have b1 : ((t : Int) == (n : Int)) = true := by simp; omega
      have b2 : ((t : Int) == (m : Int)) = true := by simp; omega
      have hfin := Lib.hid (lexi_same (xs := xs) (ys := ys) (by rw [L1.out, L2.out]; omega) (by rw [L1.out, ← h1]; exact hag.out))
      clear h1 h2
      go_enter Try.func99, Try.ntmps99
      go_wp2_with (go_at_call 73; refine (HC.out _ rfl).mono ?_; rintro e w' ⟨rfl, q, rfl⟩)
      go_ret
      exact ⟨ret_int (by rw [hfin.out]), _, rfl⟩
    · have b1 : ((t : Int) == (n : Int)) = true := by simp; omega
      have b2 : ((t : Int) == (m : Int)) = false := by simp; omega
      have hfin := Lib.hid (lexi_short (xs := xs) (ys := ys) (by rw [L1.out, L2.out]; omega) (by rw [L1.out, ← h1]; exact hag.out))
      clear h1 h2
      go_enter Try.func99, Try.ntmps99
      go_wp2_with (go_at_call 73; refine (HC.out _ rfl).mono ?_; rintro e w' ⟨rfl, q, rfl⟩)
      go_ret
      exact ⟨ret_int (by rw [hfin.out]), _, rfl⟩
  · have b1 : ((t : Int) == (n : Int)) = false := by simp; omega
    by_cases h2 : t < m
    · obtain ⟨b1', o1, rfl, _, hc1⟩ := hx.at_ (k := t) (by omega)
      obtain ⟨b2', o2, rfl, _, hc2⟩ := hy.at_ (k := t) (by omega)
      have hne : xs[t]?.getD 0 ≠ ys[t]?.getD 0 := by
        have := cmn_part xs ys (by rw [← HT.out, L1.out]; omega) (by rw [← HT.out, L2.out]; omega)
        rw [← HT.out] at this
        simpa using this
      have hfin := Lib.hid (lexi_of (xs := xs) (ys := ys) (j := t) (by rw [L1.out]; omega) (by rw [L2.out]; omega) hag.out (by simpa using hne))
      have d2 : decide ((t : Int) < (m : Int)) = true := by simp; omega
      have ht1 : t < n := by omega
      clear h1
      by_cases hlt : xs[t]?.getD 0 < ys[t]?.getD 0
      · have d3 : decide (xs[t]?.getD 0 < ys[t]?.getD 0) = true := by simpa using hlt
        have hz := Lib.hid (show cmpI (xs.getD t 0) (ys.getD t 0) = -1 by unfold cmpI; rw [if_pos (by simpa using hlt)])
        clear hne
        go_enter Try.func99, Try.ntmps99
        go_wp2_with (go_at_call 73; refine (HC.out _ rfl).mono ?_; rintro e w' ⟨rfl, q, rfl⟩)
        go_quiet (fail)
        go_wp2
        go_ret
        exact ⟨ret_int (by rw [hfin.out, hz.out]), by first | exact ⟨_, rfl⟩ | exact ⟨_, World.drewN_drewN _ _ _⟩⟩
      · have d3 : decide (xs[t]?.getD 0 < ys[t]?.getD 0) = false := by simpa using hlt
        have hgt : ys[t]?.getD 0 < xs[t]?.getD 0 := by omega
        have hz := Lib.hid (show cmpI (xs.getD t 0) (ys.getD t 0) = 1 by unfold cmpI; rw [if_neg (by simpa using hlt), if_pos (by simpa using hgt)])
        clear hne hlt
        go_enter Try.func99, Try.ntmps99
        go_wp2_with (go_at_call 73; refine (HC.out _ rfl).mono ?_; rintro e w' ⟨rfl, q, rfl⟩)
        go_quiet (fail)
        go_wp2
        go_ret
        exact ⟨ret_int (by rw [hfin.out, hz.out]), by first | exact ⟨_, rfl⟩ | exact ⟨_, World.drewN_drewN _ _ _⟩⟩
    · have d2 : decide (t < m) = false := by simp; omega
      have hfin := Lib.hid (lexi_long (xs := xs) (ys := ys) (by rw [L1.out, L2.out]; omega) (by rw [L2.out]; exact (by omega : t = m) ▸ hag.out))
      clear h1 h2
      go_enter Try.func99, Try.ntmps99
      go_wp2_with (go_at_call 73; refine (HC.out _ rfl).mono ?_; rintro e w' ⟨rfl, q, rfl⟩)
      go_quiet (fail)
      go_wp2
      go_ret
      exact ⟨ret_int (by rw [hfin.out]), by first | exact ⟨_, rfl⟩ | exact ⟨_, World.drewN_drewN _ _ _⟩⟩

theorem rcompare (A B : Option Addr) (n c m d : Nat) (xs ys : List Int) (w : World) (hx : Ints w A n xs) (hy : Ints w B m ys) :
    Calls Try.prog 61 #[.slice A n c, .slice B m d] w fun e w' => e = .returned (.int .i64 (shlex xs ys)) ∧ ∃ q, w' = w.drewN q := by
  have L1 := Lib.hid hx.1
  have L2 := Lib.hid hy.1
  by_cases h : n < m
  · have hfin := Lib.hid (shlex_lt (xs := xs) (ys := ys) (by rw [L1.out, L2.out]; exact h))
    go_enter Try.func61, Try.ntmps61
    go_wp2
    go_ret
    exact ⟨ret_int (by rw [hfin.out]), 0, rfl⟩
  · by_cases h' : m < n
    · have hfin := Lib.hid (shlex_gt (xs := xs) (ys := ys) (by rw [L1.out, L2.out]; omega))
      go_enter Try.func61, Try.ntmps61
      go_wp2
      go_ret
      exact ⟨ret_int (by rw [hfin.out]), 0, rfl⟩
    · have hfin := Lib.hid (shlex_eq (xs := xs) (ys := ys) (by rw [L1.out, L2.out]; omega))
      go_enter Try.func61, Try.ntmps61
      go_wp2_with (go_at_call 99; refine (rlex _ _ _ _ _ _ xs ys _ hx hy).mono ?_; rintro e w' ⟨rfl, q, rfl⟩)
      go_ret
      exact ⟨ret_int (by rw [hfin.out]), _, rfl⟩
end Go.Proofs.Ytkgdgnmobahhfaa
end

section
/- The reference of observe: apart, Valid. -/
namespace Go.Proofs.Ytkgdgnmobahhfaa
open Go.RowKit

abbrev TSr := List (List Int × List Int)
/-- Is the trace p a prefix of one of those behind it, up to k? -/
def pfB (ts : TSr) (p : Nat) : Nat → Bool
  | 0 => false
  | m + 1 => pfB ts p m || (decide (p < m) && decide (cmn (tIn ts m) (tIn ts p) = (tIn ts p).length))
noncomputable def dfz (ts : TSr) (p q : Nat) : Int := Classical.choose (dff_ex (tIn ts p) (tOut ts p) (tIn ts q) (tOut ts q))
theorem dfz_spec (ts : TSr) (p q : Nat) : Dff (tIn ts p) (tOut ts p) (tIn ts q) (tOut ts q) (dfz ts p q) := Classical.choose_spec (dff_ex _ _ _ _)
/-- Does the trace p contradict one of those behind it, up to k? -/
noncomputable def clB (ts : TSr) (p : Nat) : Nat → Bool
  | 0 => false
  | m + 1 => clB ts p m || (decide (p < m) && decide (0 ≤ dfz ts p m))
theorem pfB_zero {ts : TSr} {p : Nat} : ∀ m, m ≤ p + 1 → pfB ts p m = false
  | 0, _ => rfl
  | m + 1, h => by rw [pfB, pfB_zero m (by omega), decide_eq_false (by omega)]; rfl
theorem clB_zero {ts : TSr} {p : Nat} : ∀ m, m ≤ p + 1 → clB ts p m = false
  | 0, _ => rfl
  | m + 1, h => by rw [clB, clB_zero m (by omega), decide_eq_false (by omega)]; rfl
theorem pfB_on {ts : TSr} {p q : Nat} (h : p < q) : pfB ts p (q + 1) = (pfB ts p q || decide (cmn (tIn ts q) (tIn ts p) = (tIn ts p).length)) := by rw [pfB, decide_eq_true h]; simp
theorem clB_on {ts : TSr} {p q : Nat} (h : p < q) : clB ts p (q + 1) = (clB ts p q || decide (0 ≤ dfz ts p q)) := by rw [clB, decide_eq_true h]; simp
theorem pfB_no {ts : TSr} {p m q : Nat} (h : pfB ts p m = false) (h1 : p < q) (h2 : q < m) : ¬ cmn (tIn ts q) (tIn ts p) = (tIn ts p).length := by
  induction m with
  | zero => omega
  | succ m ih =>
    rw [pfB, Bool.or_eq_false_iff] at h
    rcases Nat.lt_or_ge q m with h3 | h3
    · exact ih h.1 h3
    · obtain rfl : q = m := by omega
      have := h.2
      rw [decide_eq_true h1] at this
      simpa using this
theorem clB_no {ts : TSr} {p m q : Nat} (h : clB ts p m = false) (h1 : p < q) (h2 : q < m) : ∀ j, j < cmn (tIn ts p) (tIn ts q) → (tOut ts p).getD j 0 = (tOut ts q).getD j 0 := by
  induction m with
  | zero => omega
  | succ m ih =>
    rw [clB, Bool.or_eq_false_iff] at h
    rcases Nat.lt_or_ge q m with h3 | h3
    · exact ih h.1 h3
    · obtain rfl : q = m := by omega
      have := h.2
      rw [decide_eq_true h1] at this
      have h4 : ¬ 0 ≤ dfz ts p q := by simpa using this
      rcases dfz_spec ts p q with ⟨_, h5⟩ | ⟨k, h5, _⟩
      · exact h5
      · omega
/-- No trace is a prefix of a later one, and none contradicts one. -/
def Pw (ts : TSr) : Prop := ∀ p q, p < q → q < ts.length → ¬ cmn (tIn ts q) (tIn ts p) = (tIn ts p).length ∧ ∀ j, j < cmn (tIn ts p) (tIn ts q) → (tOut ts p).getD j 0 = (tOut ts q).getD j 0
theorem Pw.cons {ts : TSr} (h : Pw ts) : Cons ts := fun a b ha hb j hj => by
  rcases Nat.lt_trichotomy a b with h1 | rfl | h1
  · exact (h a b h1 hb).2 j hj
  · rfl
  · exact ((h b a h1 ha).2 j (by rw [cmn_comm]; exact hj)).symm

set_option linter.unusedSimpArgs false in
set_option linter.unusedVariables false in
set_option maxHeartbeats 8000000 in
set_option maxRecDepth 100000 in
theorem rapart16 (i : Int) (T : Option Addr) (n c : Nat) (ts : TSr) (w : World) (hT : Trs w T n ts) (hF : Full ts) :
    Calls Try.prog 62 #[.agg #[.int .i64 i, .slice T n c]] w fun e w' => ∃ v : Int, e = .returned (.int .i64 v) ∧ Hid (v = 0 → Pw ts) ∧ Below w.heap.size w w' := by
  obtain ⟨w0, hw0⟩ : ∃ w0, w0 = w.alloc (.cells #[.int .i64 i, .slice T n c] 24) := ⟨_, rfl⟩
  have hb0 : Below w.heap.size w w0 := by rw [hw0]; exact alloc_below _ _
  have m0 : Bx w0 w.heap.size #[.int .i64 i, .slice T n c] 24 := by rw [hw0]; exact bx_new _ _ _
  have HM := Lib.hid (fun (W : World) (h : Below w0.heap.size w0 W) => m0.on h)
  have HT := Lib.hid (fun (W : World) (h : Below w0.heap.size w0 W) => (hT.below hb0).below h)
  have HB0 := Lib.hid hb0
  have HW0 := Lib.hid hw0
  have HLT := Lib.hid hT.1
  have HF := Lib.hid hF
  have hn := hT.2.1
  clear hw0 hb0 m0 hT hF
  go_enter Try.func62, Try.ntmps62
  go_wp2
  rw [← HW0.out]
  go_loopw [3] (fun v3 wr => ∃ p : Nat, v3 = .int .i64 p ∧ p ≤ n ∧ Hid (∀ a b, a < b → b < n → a < p → ¬ cmn (tIn ts b) (tIn ts a) = (tIn ts a).length ∧ ∀ j, j < cmn (tIn ts a) (tIn ts b) → (tOut ts a).getD j 0 = (tOut ts b).getD j 0) ∧ Hid (Below w0.heap.size w0 wr)) (fun v3 _ => n - (intOf v3).toNat)
  case atStart => exact ⟨0, rfl, Nat.zero_le _, Lib.hid (fun a b _ _ h => absurd h (Nat.not_lt_zero a)), Lib.hid (Below.refl _ _)⟩
  case round =>
    obtain ⟨p, rfl, hp, HP, HBR⟩ := hrel
    have k1 := (HM.out _ HBR.out).cell 1
    simp at k1
    by_cases hlt : p < n
    · have wp1 : IntKind.i64.wrap ((p : Int) + 1) = ((p + 1 : Nat) : Int) := by rw [IntKind.wrap_i64]; omega
      go_wp2
      clear wp1
      go_loopw [6, 4, 5] (fun v6 v4 v5 wr => ∃ q : Nat, v6 = .int .i64 q ∧ p < q ∧ q ≤ n ∧ v4 = .bool (pfB ts p q) ∧ v5 = .bool (clB ts p q) ∧ Hid (Below w0.heap.size w0 wr)) (fun v6 _ _ _ => n - (intOf v6).toNat)
      case atStart => exact ⟨p + 1, by go_num, by omega, by omega, by rw [pfB_zero _ (Nat.le_refl _)], by rw [clB_zero _ (Nat.le_refl _)], HBR⟩
      case round =>
        obtain ⟨q, rfl, hpq, hqn, rfl, rfl, HBW⟩ := hrel
        have k1 := (HM.out _ HBW.out).cell 1
        simp at k1
        by_cases hlq : q < n
        · obtain ⟨b, off, A1, n1, c1, A2, n2, c2, rfl, hgb, j1, j2, _, _, j3, j4⟩ := (HT.out _ HBW.out).at_ hlt
          obtain ⟨_, _, B1, m1, d1, B2, m2, d2, eT, _, i1, i2, _, _, i3, i4⟩ := (HT.out _ HBW.out).at_ hlq
          cases eT
          have hpI : (p : Int) < (n : Int) := by omega
          have hqI : (q : Int) < (n : Int) := by omega
          have hp0 : (0 : Int) ≤ (p : Int) := by omega
          have hq0 : (0 : Int) ≤ (q : Int) := by omega
          have HPN := Lib.hid (pfB_on (ts := ts) hpq)
          have HCN := Lib.hid (clB_on (ts := ts) hpq)
          obtain ⟨x, hx⟩ : ∃ x, x = pfB ts p q := ⟨_, rfl⟩
          obtain ⟨y, hy⟩ : ∃ y, y = clB ts p q := ⟨_, rfl⟩
          obtain ⟨f, hf⟩ : ∃ f, f = decide (cmn (tIn ts q) (tIn ts p) = (tIn ts p).length) := ⟨_, rfl⟩
          obtain ⟨z, hz⟩ : ∃ z, z = dfz ts p q := ⟨_, rfl⟩
          have HHP := Lib.hid (fun u => rhasprefix B1 A1 m1 d1 n1 c1 (tIn ts q) (tIn ts p) (wr.drewN u) (i3.drewN u) (j3.drewN u))
          have HDI := Lib.hid (fun (W : World) (h : Below wr.heap.size wr W) => rdiffer A1 A2 B1 B2 n1 c1 n2 c2 m1 d1 m2 d2 (tIn ts p) (tOut ts p) (tIn ts q) (tOut ts q) z W (j3.below h) (j4.below h) (i3.below h) (i4.below h) (HF.out p (by rw [HLT.out]; exact hlt)) (HF.out q (by rw [HLT.out]; exact hlq)) (by rw [hz]; exact dfz_spec ts p q))
          rw [← hx, ← hf] at HPN
          rw [← hy, ← hz] at HCN
          rw [← hx, ← hy]
          rw [← hf] at HHP
          have HS := Lib.hid (show ∀ W, Below wr.heap.size wr W → W.cell? ⟨w.heap.size, 1, none⟩ = some (.slice (some ⟨b, off, none⟩) n c) ∧ W.cell? ⟨b, off + p * 2, none⟩ = some (.slice A1 n1 c1) ∧ W.cell? ⟨b, off + p * 2 + 1, none⟩ = some (.slice A2 n2 c2) ∧ W.cell? ⟨b, off + q * 2, none⟩ = some (.slice B1 m1 d1) ∧ W.cell? ⟨b, off + q * 2 + 1, none⟩ = some (.slice B2 m2 d2) from fun W h => ⟨(h.cell (p := ⟨w.heap.size, 1, none⟩) (World.block_lt_of_cell? _ _ k1)).trans k1, (h.cell (p := ⟨b, off + p * 2, none⟩) hgb).trans j1, (h.cell (p := ⟨b, off + p * 2 + 1, none⟩) hgb).trans j2, (h.cell (p := ⟨b, off + q * 2, none⟩) hgb).trans i1, (h.cell (p := ⟨b, off + q * 2 + 1, none⟩) hgb).trans i2⟩)
          clear hx hy hf hz j3 j4 i3 i4 hgb
          cases x <;> cases y
          case false.false =>
            go_wp2
            go_quiet ((go_at_call 69; exact Calls.quiet_of (HHP.out _)))
            go_upto_region 9 with fail
            have hbf : Below wr.heap.size wr ((wr.drewN nq).drew) := below_drewN (below_drewN (Below.refl _ _) nq) 1
            refine wp_region_heldX (X := fun k => ([] : List Nat).contains k) (S := fun W => W.cell? ⟨w.heap.size, 1, none⟩ = some (.slice (some ⟨b, off, none⟩) n c) ∧ W.cell? ⟨b, off + p * 2, none⟩ = some (.slice A1 n1 c1) ∧ W.cell? ⟨b, off + p * 2 + 1, none⟩ = some (.slice A2 n2 c2) ∧ W.cell? ⟨b, off + q * 2, none⟩ = some (.slice B1 m1 d1) ∧ W.cell? ⟨b, off + q * 2 + 1, none⟩ = some (.slice B2 m2 d2)) (by kernel_rfl) ?_
            refine wpAnyX_pure (i := 0) (v := ?_) rfl (by kernel_rfl) (by kernel_rfl) (by kernel_rfl) (fun _ _ _ h => h) (Or.inl ⟨by rfl, ?_⟩) ?_
            rotate_left
            · (intro W _; go_simp; try with_reducible rfl)
            (try simp only [Act.put, List.getElem_toArray, List.getElem_cons_zero, List.getElem_cons_succ, List.setIfInBounds_toArray, List.set_cons_zero, List.set_cons_succ])
            refine wpAnyX_pure (i := 1) (v := ?_) rfl (by kernel_rfl) (by kernel_rfl) (by kernel_rfl) (fun _ _ _ h => h) (Or.inl ⟨by rfl, ?_⟩) ?_
            rotate_left
            · (intro W _; go_simp; try with_reducible rfl)
            (try simp only [Act.put, List.getElem_toArray, List.getElem_cons_zero, List.getElem_cons_succ, List.setIfInBounds_toArray, List.set_cons_zero, List.set_cons_succ])
            refine wpAnyX_pure (i := 2) (v := ?_) rfl (by kernel_rfl) (by kernel_rfl) (by kernel_rfl) (fun _ _ _ h => h) (Or.inl ⟨by rfl, ?_⟩) ?_
            rotate_left
            · (intro W _; go_simp; try with_reducible rfl)
            (try simp only [Act.put, List.getElem_toArray, List.getElem_cons_zero, List.getElem_cons_succ, List.setIfInBounds_toArray, List.set_cons_zero, List.set_cons_succ])
            refine wpAnyX_takeL (L := []) (i := 3) (v := ?_) rfl (by kernel_rfl) (by kernel_rfl) (by kernel_rfl) (by kernel_rfl) (fun _ _ _ h => h) (Or.inl ⟨by rfl, ?_⟩) (HS.out _ hbf) ?_
            rotate_left
            · (intro W hSW; (try dsimp only at hSW); obtain ⟨z0, z1, z2, z3, z4⟩ := hSW; go_simp; try with_reducible rfl)
            (try simp only [Act.put, List.getElem_toArray, List.getElem_cons_zero, List.getElem_cons_succ, List.setIfInBounds_toArray, List.set_cons_zero, List.set_cons_succ])
            refine wpAnyX_pure (i := 4) (v := ?_) rfl (by kernel_rfl) (by kernel_rfl) (by kernel_rfl) (fun _ _ _ h => h) (Or.inl ⟨by rfl, ?_⟩) ?_
            rotate_left
            · (intro W _; go_simp; try with_reducible rfl)
            (try simp only [Act.put, List.getElem_toArray, List.getElem_cons_zero, List.getElem_cons_succ, List.setIfInBounds_toArray, List.set_cons_zero, List.set_cons_succ])
            refine wpAnyX_pure (i := 5) (v := ?_) rfl (by kernel_rfl) (by kernel_rfl) (by kernel_rfl) (fun _ _ _ h => h) (Or.inl ⟨by rfl, ?_⟩) ?_
            rotate_left
            · (intro W _; go_simp; try with_reducible rfl)
            (try simp only [Act.put, List.getElem_toArray, List.getElem_cons_zero, List.getElem_cons_succ, List.setIfInBounds_toArray, List.set_cons_zero, List.set_cons_succ])
            refine wpAnyX_takeL (L := []) (i := 6) (v := ?_) rfl (by kernel_rfl) (by kernel_rfl) (by kernel_rfl) (by kernel_rfl) (fun _ _ _ h => h) (Or.inl ⟨by rfl, ?_⟩) (HS.out _ hbf) ?_
            rotate_left
            · (intro W hSW; (try dsimp only at hSW); obtain ⟨z0, z1, z2, z3, z4⟩ := hSW; go_simp; try with_reducible rfl)
            (try simp only [Act.put, List.getElem_toArray, List.getElem_cons_zero, List.getElem_cons_succ, List.setIfInBounds_toArray, List.set_cons_zero, List.set_cons_succ])
            refine wpAnyX_pure (i := 7) (v := ?_) rfl (by kernel_rfl) (by kernel_rfl) (by kernel_rfl) (fun _ _ _ h => h) (Or.inl ⟨by rfl, ?_⟩) ?_
            rotate_left
            · (intro W _; go_simp; try with_reducible rfl)
            (try simp only [Act.put, List.getElem_toArray, List.getElem_cons_zero, List.getElem_cons_succ, List.setIfInBounds_toArray, List.set_cons_zero, List.set_cons_succ])
            refine wpAnyX_takeL (L := []) (i := 8) (v := ?_) rfl (by kernel_rfl) (by kernel_rfl) (by kernel_rfl) (by kernel_rfl) (fun _ _ _ h => h) (Or.inl ⟨by rfl, ?_⟩) (HS.out _ hbf) ?_
            rotate_left
            · (intro W hSW; (try dsimp only at hSW); obtain ⟨z0, z1, z2, z3, z4⟩ := hSW; go_simp; try with_reducible rfl)
            (try simp only [Act.put, List.getElem_toArray, List.getElem_cons_zero, List.getElem_cons_succ, List.setIfInBounds_toArray, List.set_cons_zero, List.set_cons_succ])
            refine wpAnyX_pure (i := 9) (v := ?_) rfl (by kernel_rfl) (by kernel_rfl) (by kernel_rfl) (fun _ _ _ h => h) (Or.inl ⟨by rfl, ?_⟩) ?_
            rotate_left
            · (intro W _; go_simp; try with_reducible rfl)
            (try simp only [Act.put, List.getElem_toArray, List.getElem_cons_zero, List.getElem_cons_succ, List.setIfInBounds_toArray, List.set_cons_zero, List.set_cons_succ])
            refine wpAnyX_pure (i := 10) (v := ?_) rfl (by kernel_rfl) (by kernel_rfl) (by kernel_rfl) (fun _ _ _ h => h) (Or.inl ⟨by rfl, ?_⟩) ?_
            rotate_left
            · (intro W _; go_simp; try with_reducible rfl)
            (try simp only [Act.put, List.getElem_toArray, List.getElem_cons_zero, List.getElem_cons_succ, List.setIfInBounds_toArray, List.set_cons_zero, List.set_cons_succ])
            refine wpAnyX_takeL (L := []) (i := 11) (v := ?_) rfl (by kernel_rfl) (by kernel_rfl) (by kernel_rfl) (by kernel_rfl) (fun _ _ _ h => h) (Or.inl ⟨by rfl, ?_⟩) (HS.out _ hbf) ?_
            rotate_left
            · (intro W hSW; (try dsimp only at hSW); obtain ⟨z0, z1, z2, z3, z4⟩ := hSW; go_simp; try with_reducible rfl)
            (try simp only [Act.put, List.getElem_toArray, List.getElem_cons_zero, List.getElem_cons_succ, List.setIfInBounds_toArray, List.set_cons_zero, List.set_cons_succ])
            refine wpAnyX_one (i := 12) rfl (by kernel_rfl) (fun K hK => ?_)
            go_simp
            go_at_call 72
            refine (HDI.out _ hbf).mono ?_
            rintro r w5 ⟨rfl, b5⟩
            have hbf := bt hbf b5
            clear b5
            refine hK.out _ _ (fun _ _ => HS.out _ hbf) ?_
            (try simp only [Act.put, List.getElem_toArray, List.getElem_cons_zero, List.getElem_cons_succ, List.setIfInBounds_toArray, List.set_cons_zero, List.set_cons_succ])
            refine wpAnyX_pure (i := 13) (v := ?_) rfl (by kernel_rfl) (by kernel_rfl) (by kernel_rfl) (fun _ _ _ h => h) (Or.inl ⟨by rfl, ?_⟩) ?_
            rotate_left
            · (intro W _; go_simp; try with_reducible rfl)
            (try simp only [Act.put, List.getElem_toArray, List.getElem_cons_zero, List.getElem_cons_succ, List.setIfInBounds_toArray, List.set_cons_zero, List.set_cons_succ])
            refine wpAnyX_pure (i := 14) (v := ?_) rfl (by kernel_rfl) (by kernel_rfl) (by kernel_rfl) (fun _ _ _ h => h) (Or.inl ⟨by rfl, ?_⟩) ?_
            rotate_left
            · (intro W _; go_simp; try with_reducible rfl)
            (try simp only [Act.put, List.getElem_toArray, List.getElem_cons_zero, List.getElem_cons_succ, List.setIfInBounds_toArray, List.set_cons_zero, List.set_cons_succ])
            refine wpAnyX_pure (i := 15) (v := ?_) rfl (by kernel_rfl) (by kernel_rfl) (by kernel_rfl) (fun _ _ _ h => h) (Or.inl ⟨by rfl, ?_⟩) ?_
            rotate_left
            · (intro W _; go_simp; try with_reducible rfl)
            (try simp only [Act.put, List.getElem_toArray, List.getElem_cons_zero, List.getElem_cons_succ, List.setIfInBounds_toArray, List.set_cons_zero, List.set_cons_succ])
            refine wpAnyX_done (by kernel_rfl) ?_ _
            have HBF := Lib.hid (bt HBW.out hbf)
            clear hbf
            go_wp2
            go_roundw
            case rel => exact ⟨q + 1, by go_num, by omega, by omega, by rw [HPN.out]; rfl, by rw [HCN.out]; rfl, HBF⟩
            case measure => simp [intOf]; omega
          case true.false =>
            go_wp2
            go_quiet (fail)
            go_upto_region 9 with fail
            have hbf : Below wr.heap.size wr ((wr.drewN nq).drew) := below_drewN (below_drewN (Below.refl _ _) nq) 1
            refine wp_region_heldX (X := fun k => ([] : List Nat).contains k) (S := fun W => W.cell? ⟨w.heap.size, 1, none⟩ = some (.slice (some ⟨b, off, none⟩) n c) ∧ W.cell? ⟨b, off + p * 2, none⟩ = some (.slice A1 n1 c1) ∧ W.cell? ⟨b, off + p * 2 + 1, none⟩ = some (.slice A2 n2 c2) ∧ W.cell? ⟨b, off + q * 2, none⟩ = some (.slice B1 m1 d1) ∧ W.cell? ⟨b, off + q * 2 + 1, none⟩ = some (.slice B2 m2 d2)) (by kernel_rfl) ?_
            refine wpAnyX_pure (i := 0) (v := ?_) rfl (by kernel_rfl) (by kernel_rfl) (by kernel_rfl) (fun _ _ _ h => h) (Or.inl ⟨by rfl, ?_⟩) ?_
            rotate_left
            · (intro W _; go_simp; try with_reducible rfl)
            (try simp only [Act.put, List.getElem_toArray, List.getElem_cons_zero, List.getElem_cons_succ, List.setIfInBounds_toArray, List.set_cons_zero, List.set_cons_succ])
            refine wpAnyX_pure (i := 1) (v := ?_) rfl (by kernel_rfl) (by kernel_rfl) (by kernel_rfl) (fun _ _ _ h => h) (Or.inl ⟨by rfl, ?_⟩) ?_
            rotate_left
            · (intro W _; go_simp; try with_reducible rfl)
            (try simp only [Act.put, List.getElem_toArray, List.getElem_cons_zero, List.getElem_cons_succ, List.setIfInBounds_toArray, List.set_cons_zero, List.set_cons_succ])
            refine wpAnyX_pure (i := 2) (v := ?_) rfl (by kernel_rfl) (by kernel_rfl) (by kernel_rfl) (fun _ _ _ h => h) (Or.inl ⟨by rfl, ?_⟩) ?_
            rotate_left
            · (intro W _; go_simp; try with_reducible rfl)
            (try simp only [Act.put, List.getElem_toArray, List.getElem_cons_zero, List.getElem_cons_succ, List.setIfInBounds_toArray, List.set_cons_zero, List.set_cons_succ])
            refine wpAnyX_takeL (L := []) (i := 3) (v := ?_) rfl (by kernel_rfl) (by kernel_rfl) (by kernel_rfl) (by kernel_rfl) (fun _ _ _ h => h) (Or.inl ⟨by rfl, ?_⟩) (HS.out _ hbf) ?_
            rotate_left
            · (intro W hSW; (try dsimp only at hSW); obtain ⟨z0, z1, z2, z3, z4⟩ := hSW; go_simp; try with_reducible rfl)
            (try simp only [Act.put, List.getElem_toArray, List.getElem_cons_zero, List.getElem_cons_succ, List.setIfInBounds_toArray, List.set_cons_zero, List.set_cons_succ])
            refine wpAnyX_pure (i := 4) (v := ?_) rfl (by kernel_rfl) (by kernel_rfl) (by kernel_rfl) (fun _ _ _ h => h) (Or.inl ⟨by rfl, ?_⟩) ?_
            rotate_left
            · (intro W _; go_simp; try with_reducible rfl)
            (try simp only [Act.put, List.getElem_toArray, List.getElem_cons_zero, List.getElem_cons_succ, List.setIfInBounds_toArray, List.set_cons_zero, List.set_cons_succ])
            refine wpAnyX_pure (i := 5) (v := ?_) rfl (by kernel_rfl) (by kernel_rfl) (by kernel_rfl) (fun _ _ _ h => h) (Or.inl ⟨by rfl, ?_⟩) ?_
            rotate_left
            · (intro W _; go_simp; try with_reducible rfl)
            (try simp only [Act.put, List.getElem_toArray, List.getElem_cons_zero, List.getElem_cons_succ, List.setIfInBounds_toArray, List.set_cons_zero, List.set_cons_succ])
            refine wpAnyX_takeL (L := []) (i := 6) (v := ?_) rfl (by kernel_rfl) (by kernel_rfl) (by kernel_rfl) (by kernel_rfl) (fun _ _ _ h => h) (Or.inl ⟨by rfl, ?_⟩) (HS.out _ hbf) ?_
            rotate_left
            · (intro W hSW; (try dsimp only at hSW); obtain ⟨z0, z1, z2, z3, z4⟩ := hSW; go_simp; try with_reducible rfl)
            (try simp only [Act.put, List.getElem_toArray, List.getElem_cons_zero, List.getElem_cons_succ, List.setIfInBounds_toArray, List.set_cons_zero, List.set_cons_succ])
            refine wpAnyX_pure (i := 7) (v := ?_) rfl (by kernel_rfl) (by kernel_rfl) (by kernel_rfl) (fun _ _ _ h => h) (Or.inl ⟨by rfl, ?_⟩) ?_
            rotate_left
            · (intro W _; go_simp; try with_reducible rfl)
            (try simp only [Act.put, List.getElem_toArray, List.getElem_cons_zero, List.getElem_cons_succ, List.setIfInBounds_toArray, List.set_cons_zero, List.set_cons_succ])
            refine wpAnyX_takeL (L := []) (i := 8) (v := ?_) rfl (by kernel_rfl) (by kernel_rfl) (by kernel_rfl) (by kernel_rfl) (fun _ _ _ h => h) (Or.inl ⟨by rfl, ?_⟩) (HS.out _ hbf) ?_
            rotate_left
            · (intro W hSW; (try dsimp only at hSW); obtain ⟨z0, z1, z2, z3, z4⟩ := hSW; go_simp; try with_reducible rfl)
            (try simp only [Act.put, List.getElem_toArray, List.getElem_cons_zero, List.getElem_cons_succ, List.setIfInBounds_toArray, List.set_cons_zero, List.set_cons_succ])
            refine wpAnyX_pure (i := 9) (v := ?_) rfl (by kernel_rfl) (by kernel_rfl) (by kernel_rfl) (fun _ _ _ h => h) (Or.inl ⟨by rfl, ?_⟩) ?_
            rotate_left
            · (intro W _; go_simp; try with_reducible rfl)
            (try simp only [Act.put, List.getElem_toArray, List.getElem_cons_zero, List.getElem_cons_succ, List.setIfInBounds_toArray, List.set_cons_zero, List.set_cons_succ])
            refine wpAnyX_pure (i := 10) (v := ?_) rfl (by kernel_rfl) (by kernel_rfl) (by kernel_rfl) (fun _ _ _ h => h) (Or.inl ⟨by rfl, ?_⟩) ?_
            rotate_left
            · (intro W _; go_simp; try with_reducible rfl)
            (try simp only [Act.put, List.getElem_toArray, List.getElem_cons_zero, List.getElem_cons_succ, List.setIfInBounds_toArray, List.set_cons_zero, List.set_cons_succ])
            refine wpAnyX_takeL (L := []) (i := 11) (v := ?_) rfl (by kernel_rfl) (by kernel_rfl) (by kernel_rfl) (by kernel_rfl) (fun _ _ _ h => h) (Or.inl ⟨by rfl, ?_⟩) (HS.out _ hbf) ?_
            rotate_left
            · (intro W hSW; (try dsimp only at hSW); obtain ⟨z0, z1, z2, z3, z4⟩ := hSW; go_simp; try with_reducible rfl)
            (try simp only [Act.put, List.getElem_toArray, List.getElem_cons_zero, List.getElem_cons_succ, List.setIfInBounds_toArray, List.set_cons_zero, List.set_cons_succ])
            refine wpAnyX_one (i := 12) rfl (by kernel_rfl) (fun K hK => ?_)
            go_simp
            go_at_call 72
            refine (HDI.out _ hbf).mono ?_
            rintro r w5 ⟨rfl, b5⟩
            have hbf := bt hbf b5
            clear b5
            refine hK.out _ _ (fun _ _ => HS.out _ hbf) ?_
            (try simp only [Act.put, List.getElem_toArray, List.getElem_cons_zero, List.getElem_cons_succ, List.setIfInBounds_toArray, List.set_cons_zero, List.set_cons_succ])
            refine wpAnyX_pure (i := 13) (v := ?_) rfl (by kernel_rfl) (by kernel_rfl) (by kernel_rfl) (fun _ _ _ h => h) (Or.inl ⟨by rfl, ?_⟩) ?_
            rotate_left
            · (intro W _; go_simp; try with_reducible rfl)
            (try simp only [Act.put, List.getElem_toArray, List.getElem_cons_zero, List.getElem_cons_succ, List.setIfInBounds_toArray, List.set_cons_zero, List.set_cons_succ])
            refine wpAnyX_pure (i := 14) (v := ?_) rfl (by kernel_rfl) (by kernel_rfl) (by kernel_rfl) (fun _ _ _ h => h) (Or.inl ⟨by rfl, ?_⟩) ?_
            rotate_left
            · (intro W _; go_simp; try with_reducible rfl)
            (try simp only [Act.put, List.getElem_toArray, List.getElem_cons_zero, List.getElem_cons_succ, List.setIfInBounds_toArray, List.set_cons_zero, List.set_cons_succ])
            refine wpAnyX_pure (i := 15) (v := ?_) rfl (by kernel_rfl) (by kernel_rfl) (by kernel_rfl) (fun _ _ _ h => h) (Or.inl ⟨by rfl, ?_⟩) ?_
            rotate_left
            · (intro W _; go_simp; try with_reducible rfl)
            (try simp only [Act.put, List.getElem_toArray, List.getElem_cons_zero, List.getElem_cons_succ, List.setIfInBounds_toArray, List.set_cons_zero, List.set_cons_succ])
            refine wpAnyX_done (by kernel_rfl) ?_ _
            have HBF := Lib.hid (bt HBW.out hbf)
            clear hbf
            go_wp2
            go_roundw
            case rel => exact ⟨q + 1, by go_num, by omega, by omega, by rw [HPN.out]; rfl, by rw [HCN.out]; rfl, HBF⟩
            case measure => simp [intOf]; omega
          case false.true =>
            go_wp2
            go_quiet ((go_at_call 69; exact Calls.quiet_of (HHP.out _)))
            go_wp2
            go_quiet (fail)
            go_wp2
            go_roundw
            case rel => exact ⟨q + 1, by go_num, by omega, by omega, by rw [HPN.out]; rfl, by rw [HCN.out]; rfl, Lib.hid (bt HBW.out (by first | exact below_drewN (Below.refl _ _) _ | exact below_drewN (below_drewN (Below.refl _ _) _) _))⟩
            case measure => simp [intOf]; omega
          case true.true =>
            go_wp2
            go_quiet (fail)
            go_wp2
            go_quiet (fail)
            go_wp2
            go_roundw
            case rel => exact ⟨q + 1, by go_num, by omega, by omega, by rw [HPN.out]; rfl, by rw [HCN.out]; rfl, Lib.hid (bt HBW.out (by first | exact below_drewN (Below.refl _ _) _ | exact below_drewN (below_drewN (Below.refl _ _) _) _))⟩
            case measure => simp [intOf]; omega
        · obtain rfl : q = n := by omega
          obtain ⟨x, hx⟩ : ∃ x, x = pfB ts p q := ⟨_, rfl⟩
          obtain ⟨y, hy⟩ : ∃ y, y = clB ts p q := ⟨_, rfl⟩
          rw [← hx, ← hy]
          have HXX := Lib.hid hx
          have HYY := Lib.hid hy
          clear hx hy
          cases x
          case true =>
            go_wp2
            go_ret
            exact ⟨7, rfl, Lib.hid (fun h => absurd h (by decide)), bt HB0.out HBW.out⟩
          case false =>
            cases y
            case true =>
              go_wp2
              go_ret
              exact ⟨13, rfl, Lib.hid (fun h => absurd h (by decide)), bt HB0.out HBW.out⟩
            case false =>
              have HP2 := Lib.hid (show ∀ a b, a < b → b < q → a < p + 1 → ¬ cmn (tIn ts b) (tIn ts a) = (tIn ts a).length ∧ ∀ j, j < cmn (tIn ts a) (tIn ts b) → (tOut ts a).getD j 0 = (tOut ts b).getD j 0 from fun a b h1 h2 h3 => by
                rcases Nat.lt_or_ge a p with h4 | h4
                · exact HP.out a b h1 h2 h4
                · obtain rfl : a = p := by omega
                  exact ⟨pfB_no HXX.out.symm h1 h2, clB_no HYY.out.symm h1 h2⟩)
              go_wp2
              go_roundw
              case rel => exact ⟨p + 1, by go_num, by omega, HP2, HBW⟩
              case measure => simp [intOf]; omega
    · obtain rfl : p = n := by omega
      go_wp2
      go_ret
      exact ⟨0, rfl, Lib.hid (fun _ a b h1 h2 => HP.out a b h1 (by rw [← HLT.out]; exact h2) (by rw [← HLT.out]; omega)), bt HB0.out HBR.out⟩
end Go.Proofs.Ytkgdgnmobahhfaa
end
