/- Lemmas of the proofs of this seat, of the parts Ral16. Conditions: none. -/
import Derived.Test.YtkkmcgapbcikiaaKaf
import Derived.Test.YtkkmcgapbcikiaaKae
section
/- The reference of observe: All. -/
namespace Go.Proofs.Ytkkmcgapbcikiaa
open Go.RowKit

/-- The result of All: the traces added in order, or the observations unchanged with the first error; the traces stay. -/
def RAllK (z : Nat) (i : Int) (T : Option Addr) (tn tc : Nat) (ts us : TSr) (w : World) (r : Ending) (w' : World) : Prop :=
  Below w.heap.size w w' ∧ ∃ (e : Int) (ts' : TSr), RAdds i us ts e ts' ∧
    ((¬ e = 0 ∧ r = .returned (.tuple #[.agg #[.int .i64 i, .slice T tn tc], .int .i64 e])) ∨
     (e = 0 ∧ ∃ (A : Option Addr) (n c : Nat), r = .returned (.tuple #[.agg #[.int .i64 i, .slice A n c], .int .i64 0]) ∧ TrsK z w' A n ts'))
/-- The same, with traces that can be read. -/
def RAllE (i : Int) (T : Option Addr) (tn tc : Nat) (ts us : TSr) (w : World) (r : Ending) (w' : World) : Prop :=
  Below w.heap.size w w' ∧ ∃ (e : Int) (ts' : TSr), RAdds i us ts e ts' ∧
    ((¬ e = 0 ∧ r = .returned (.tuple #[.agg #[.int .i64 i, .slice T tn tc], .int .i64 e])) ∨
     (e = 0 ∧ ∃ (A : Option Addr) (n c : Nat), r = .returned (.tuple #[.agg #[.int .i64 i, .slice A n c], .int .i64 0]) ∧ Trs w' A n ts'))
theorem AddU.stop {i e : Int} {ts us rest : TSr} {u : List Int × List Int} (h : AddU i ts u.1 u.2 e us) (he : ¬ e = 0) (t : TSr) : RAdds i (u :: rest) ts e t := by
  rcases h with ⟨h1, h2, _⟩ | ⟨h1, h2, h3, _⟩ | ⟨_, _, h3, _⟩
  · exact .inl ⟨h1, h2⟩
  · exact .inr (.inl ⟨h1, h2, h3⟩)
  · exact absurd h3 he
theorem AddU.step {i e : Int} {ts us rest t : TSr} {u : List Int × List Int} (h : AddU i ts u.1 u.2 0 us) (hr : RAdds i rest us e t) : RAdds i (u :: rest) ts e t := by
  rcases h with ⟨h1, h2, _⟩ | ⟨_, _, h3, _⟩ | ⟨h1, h2, _, h4⟩
  · exact absurd h2.symm h1
  · omega
  · exact .inr (.inr ⟨h1, h2, by rw [← h4]; exact hr⟩)
theorem AddU.len {i : Int} {ts us : TSr} {xs ys : List Int} (h : AddU i ts xs ys 0 us) : us.length ≤ ts.length + 1 := by
  rcases h with ⟨h1, h2, _⟩ | ⟨_, _, h3, _⟩ | ⟨_, _, _, rfl⟩
  · exact absurd h2.symm h1
  · omega
  · exact radR_len _ _ _
theorem AddU.full {i : Int} {ts us : TSr} {xs ys : List Int} (h : AddU i ts xs ys 0 us) (hF : Full ts) : Full us := by
  rcases h with ⟨h1, h2, _⟩ | ⟨_, _, h3, _⟩ | ⟨h1, _, _, rfl⟩
  · exact absurd h2.symm h1
  · omega
  · exact radR_full hF (prp_zero h1).2.1
set_option linter.unusedSimpArgs false in
set_option linter.unusedVariables false in
set_option maxHeartbeats 16000000 in
set_option maxRecDepth 100000 in
theorem rallK {z : Nat} (i : Int) (T U : Option Addr) (tn tc un uc : Nat) (ts us : TSr) (w : World) (hzz : z ≤ w.heap.size) (hT : TrsK z w T tn ts) (hU : Trs w U un us) (hF : Full ts) (htu : tn + un < 10000) :
    Calls Try.prog 56 #[.agg #[.int .i64 i, .slice T tn tc], .slice U un uc] w fun r w' => RAllK z i T tn tc ts us w r w' := by
  obtain ⟨w0, hw0⟩ : ∃ w0, w0 = (w.alloc (.cells #[.int .i64 i, .slice T tn tc] 24)).alloc (.cells #[.int .i64 0, .slice none 0 0] 24) := ⟨_, rfl⟩
  obtain ⟨hb0, m1, m2, hs0⟩ := bxs2 w #[.int .i64 i, .slice T tn tc] #[.int .i64 0, .slice none 0 0] 24 24 w0 hw0
  obtain ⟨w1, hw1⟩ : ∃ w1, w1 = w0.alloc (.cells #[.int .i64 i, .slice T tn tc] 24) := ⟨_, rfl⟩
  have hb1 : Below w0.heap.size w0 w1 := by rw [hw1]; exact alloc_below _ _
  have mo : Bx w1 (w.heap.size + 1 + 1) #[.int .i64 i, .slice T tn tc] 24 := by rw [hw1, ← hs0]; exact bx_new _ _ _
  have HW0 := Lib.hid hw0
  have HW1 := Lib.hid hw1
  have HB0 := Lib.hid hb0
  have HB1 := Lib.hid hb1
  have HT1 := Lib.hid ((hT.below hzz hb0).below (Nat.le_trans hzz hb0.size) hb1)
  have HU := Lib.hid (fun (W : World) (h : Below w0.heap.size w0 W) => (hU.below hb0).below h)
  have HM1 := Lib.hid (fun (W : World) (h : Below w0.heap.size w0 W) => m1.on h)
  have HM2 := Lib.hid (fun (W : World) (h : Below w0.heap.size w0 W) => m2.on h)
  have HMO := Lib.hid mo
  have HLU := Lib.hid hU.1
  have HFF := Lib.hid hF
  have HZ0 := Lib.hid hs0
  have k0 := m1.cell 0
  have k1 := m1.cell 1
  simp at k0 k1
  rw [hw0] at k0 k1
  clear hw0 hw1 hb0 hb1 hT hU hF m1 m2 mo hs0
  go_enter Try.func56, Try.ntmps56
  go_wp2_with fail
  rw [← HW0.out, ← HW1.out]
  clear k0 k1
  go_loopw [7] (fun v7 wr => ∃ (k L : Nat) (A' : Option Addr) (c' : Nat) (tsk : TSr), v7 = .int .i64 k ∧ k ≤ un ∧ L ≤ tn + k ∧ Hid (Bx wr (w.heap.size + 1 + 1) #[.int .i64 i, .slice A' L c'] 24) ∧ Hid (TrsK z wr A' L tsk) ∧ Hid (Full tsk) ∧ Hid (∀ e ts', RAdds i (us.drop k) tsk e ts' → RAdds i us ts e ts') ∧ Hid (Below w0.heap.size w0 wr)) (fun v7 _ => un - (intOf v7).toNat)
  case atStart => exact ⟨0, tn, T, tc, ts, rfl, Nat.zero_le _, Nat.le_refl _, HMO, HT1, HFF, Lib.hid (fun e ts' h => by rwa [List.drop_zero] at h), HB1⟩
  case round =>
    obtain ⟨k, L, A', c', tsk, rfl, hk, hL, HX, HT, HFk, HAd, HBR⟩ := hrel
    by_cases hlt : k < un
    · obtain ⟨b, off, A1, n1, c1, A2, n2, c2, eU, hgb, j1, j2, q1, q2, j3, j4⟩ := (HU.out _ (Below.refl _ _)).at_ hlt
      subst eU
      have hkI : (k : Int) < (un : Int) := by omega
      have hk0 : (0 : Int) ≤ (k : Int) := by omega
      have HUD := Lib.hid (drop_cons (ts := us) (k := k) (by rw [HLU.out]; exact hlt))
      have HI1 := Lib.hid (fun (W : World) (h : Below w0.heap.size w0 W) => j3.below h)
      have HI2 := Lib.hid (fun (W : World) (h : Below w0.heap.size w0 W) => j4.below h)
      have hzw : z ≤ wr.heap.size := Nat.le_trans hzz (Nat.le_trans HB0.out.size HBR.out.size)
      have HLK := Lib.hid (HT.out.trs hzw).1
      have HS := Lib.hid (show ∀ W, Below wr.heap.size wr W → W.cell? ⟨w.heap.size + 1 + 1, 0, none⟩ = some (.int .i64 i) ∧ W.cell? ⟨w.heap.size + 1 + 1, 1, none⟩ = some (.slice A' L c') ∧ W.cell? ⟨b, off + k * 2, none⟩ = some (.slice A1 n1 c1) ∧ W.cell? ⟨b, off + k * 2 + 1, none⟩ = some (.slice A2 n2 c2) from fun W h => ⟨by have := (HX.out.on h).cell 0; simpa using this, by have := (HX.out.on h).cell 1; simpa using this, ((bt HBR.out h).cell (p := ⟨b, off + k * 2, none⟩) hgb).trans j1, ((bt HBR.out h).cell (p := ⟨b, off + k * 2 + 1, none⟩) hgb).trans j2⟩)
      have HAD := Lib.hid (fun (W : World) (h : Below wr.heap.size wr W) => rAdd16 i A' A1 A2 L c' n1 c1 n2 c2 tsk (tIn us k) (tOut us k) W ((HT.out.trs hzw).below h) (HI1.out _ (bt HBR.out h)) (HI2.out _ (bt HBR.out h)) HFk.out (by have := radR_len tsk (tIn us k) (tOut us k); have := HLK.out; omega)
        (fun W' h' => radd16 i A' A1 A2 L c' n1 c1 n2 c2 tsk (tIn us k) (tOut us k) W' (((HT.out.trs hzw).below h).below h') (HI1.out _ (bt (bt HBR.out h) h')) (HI2.out _ (bt (bt HBR.out h) h')) (by omega)))
      have HNL := Lib.hid (show (tIn us k).length ≤ 17592186044416 ∧ (tOut us k).length ≤ 17592186044416 by have := j3.1; have := j4.1; have := j3.2.1; have := j4.2.1; exact ⟨by omega, by omega⟩)
      clear j1 j2 j3 j4 q1 q2 hgb
      go_upto_region 5 with fail
      have hbf : Below wr.heap.size wr wr.drew := below_drewN (Below.refl _ _) 1
      refine wp_region_heldX (X := fun k => ([10] : List Nat).contains k) (S := fun W => W.cell? ⟨w.heap.size + 1 + 1, 0, none⟩ = some (.int .i64 i) ∧ W.cell? ⟨w.heap.size + 1 + 1, 1, none⟩ = some (.slice A' L c') ∧ W.cell? ⟨b, off + k * 2, none⟩ = some (.slice A1 n1 c1) ∧ W.cell? ⟨b, off + k * 2 + 1, none⟩ = some (.slice A2 n2 c2)) (by kernel_rfl) ?_
      generalize wr.drew = wkd at hbf ⊢
      refine wpAnyX_takeL (L := [10]) (i := 0) (v := ?_) rfl (by kernel_rfl) (by kernel_rfl) (by kernel_rfl) (by kernel_rfl) (fun _ _ _ h => h) (Or.inl ⟨by rfl, ?_⟩) (HS.out _ hbf) ?_
      rotate_left
      · (intro W hSW; (try dsimp only at hSW); obtain ⟨z0, z1, z2, z3⟩ := hSW; go_simp; try with_reducible rfl)
      (try simp only [Act.put, List.getElem_toArray, List.getElem_cons_zero, List.getElem_cons_succ, List.setIfInBounds_toArray, List.set_cons_zero, List.set_cons_succ])
      refine wpAnyX_pure (i := 1) (v := ?_) rfl (by kernel_rfl) (by kernel_rfl) (by kernel_rfl) (fun _ _ _ h => h) (Or.inl ⟨by rfl, ?_⟩) ?_
      rotate_left
      · (intro W _; go_simp; try with_reducible rfl)
      (try simp only [Act.put, List.getElem_toArray, List.getElem_cons_zero, List.getElem_cons_succ, List.setIfInBounds_toArray, List.set_cons_zero, List.set_cons_succ])
      refine wpAnyX_pure (i := 2) (v := ?_) rfl (by kernel_rfl) (by kernel_rfl) (by kernel_rfl) (fun _ _ _ h => h) (Or.inl ⟨by rfl, ?_⟩) ?_
      rotate_left
      · (intro W _; go_simp; try with_reducible rfl)
      (try simp only [Act.put, List.getElem_toArray, List.getElem_cons_zero, List.getElem_cons_succ, List.setIfInBounds_toArray, List.set_cons_zero, List.set_cons_succ])
      refine wpAnyX_pure (i := 3) (v := ?_) rfl (by kernel_rfl) (by kernel_rfl) (by kernel_rfl) (fun _ _ _ h => h) (Or.inl ⟨by rfl, ?_⟩) ?_
      rotate_left
      · (intro W _; go_simp; try with_reducible rfl)
      (try simp only [Act.put, List.getElem_toArray, List.getElem_cons_zero, List.getElem_cons_succ, List.setIfInBounds_toArray, List.set_cons_zero, List.set_cons_succ])
      refine wpAnyX_takeL (L := [10]) (i := 4) (v := ?_) rfl (by kernel_rfl) (by kernel_rfl) (by kernel_rfl) (by kernel_rfl) (fun _ _ _ h => h) (Or.inl ⟨by rfl, ?_⟩) (HS.out _ hbf) ?_
      rotate_left
      · (intro W hSW; (try dsimp only at hSW); obtain ⟨z0, z1, z2, z3⟩ := hSW; go_simp; try with_reducible rfl)
      (try simp only [Act.put, List.getElem_toArray, List.getElem_cons_zero, List.getElem_cons_succ, List.setIfInBounds_toArray, List.set_cons_zero, List.set_cons_succ])
      refine wpAnyX_two (i := 5) (j := 9) rfl rfl (by kernel_rfl) (fun K hK => ?_) (fun K hK => ?_)
      · go_simp
        go_at_call 27
        refine (HAD.out _ hbf).mono ?_
        rintro r w5 h5
        obtain ⟨e5, u5, hu5, A4, n4, c4, rfl, t4, b5⟩ := h5.resK (Nat.le_trans hzw hbf.size) (HT.out.below hzw hbf) HNL.out.1 HNL.out.2 (by have := HLK.out; omega)
        have hbf := bt hbf b5
        refine hK.out _ _ (fun _ _ => HS.out _ hbf) ?_
        (try simp only [Act.put, List.getElem_toArray, List.getElem_cons_zero, List.getElem_cons_succ, List.setIfInBounds_toArray, List.set_cons_zero, List.set_cons_succ])
        refine wpAnyX_pure (i := 6) (v := ?_) rfl (by kernel_rfl) (by kernel_rfl) (by kernel_rfl) (fun _ _ _ h => h) (Or.inl ⟨by rfl, ?_⟩) ?_
        rotate_left
        · (intro W _; go_simp; try with_reducible rfl)
        (try simp only [Act.put, List.getElem_toArray, List.getElem_cons_zero, List.getElem_cons_succ, List.setIfInBounds_toArray, List.set_cons_zero, List.set_cons_succ])
        refine wpAnyX_pure (i := 7) (v := ?_) rfl (by kernel_rfl) (by kernel_rfl) (by kernel_rfl) (fun _ _ _ h => h) (Or.inl ⟨by rfl, ?_⟩) ?_
        rotate_left
        · (intro W _; go_simp; try with_reducible rfl)
        (try simp only [Act.put, List.getElem_toArray, List.getElem_cons_zero, List.getElem_cons_succ, List.setIfInBounds_toArray, List.set_cons_zero, List.set_cons_succ])
        refine wpAnyX_pure (i := 8) (v := ?_) rfl (by kernel_rfl) (by kernel_rfl) (by kernel_rfl) (fun _ _ _ h => h) (Or.inl ⟨by rfl, ?_⟩) ?_
        rotate_left
        · (intro W _; go_simp; try with_reducible rfl)
        (try simp only [Act.put, List.getElem_toArray, List.getElem_cons_zero, List.getElem_cons_succ, List.setIfInBounds_toArray, List.set_cons_zero, List.set_cons_succ])
        refine wpAnyX_one (i := 9) rfl (by kernel_rfl) (fun K hK => ?_)
        go_simp
        have hal := alloc_below w5 (.cells #[.int .i64 0, .slice none 0 0] 24)
        have hx := bx_new w5 #[.int .i64 0, .slice none 0 0] 24
        have hxz : wr.heap.size ≤ w5.heap.size := hbf.size
        obtain ⟨gx, eqg⟩ : ∃ gx, gx = w5.heap.size := ⟨_, rfl⟩
        have hbf0 := hbf
        have hbf := bt hbf hal
        have t4 := t4.below (Nat.le_trans hzw (hbf0.size)) hal
        generalize w5.alloc (.cells #[.int .i64 0, .slice none 0 0] 24) = w6 at hal hx hbf t4 ⊢
        rw [← eqg] at hx hxz ⊢
        clear eqg hal
        refine hK.out _ _ (fun _ _ => HS.out _ hbf) ?_
        (try simp only [Act.put, List.getElem_toArray, List.getElem_cons_zero, List.getElem_cons_succ, List.setIfInBounds_toArray, List.set_cons_zero, List.set_cons_succ])
        refine wpAnyX_one (i := 10) rfl (by kernel_rfl) (fun K hK => ?_)
        refine wp_store_row 24 _ _ rfl gx (#[.int .i64 i, .slice A4 n4 c4]) rfl rfl 24 (#[.int .i64 0, .slice none 0 0]) hx (by kernel_rfl) (by rfl) (by simp [Value.oneCell']) (hK.out _ _ (fun h => absurd h (by decide)) ?_)
        (try simp only [Act.put, List.getElem_toArray, List.getElem_cons_zero, List.getElem_cons_succ, List.setIfInBounds_toArray, List.set_cons_zero, List.set_cons_succ])
        refine wpAnyX_pure (i := 11) (v := ?_) rfl (by kernel_rfl) (by kernel_rfl) (by kernel_rfl) (fun _ _ _ h => h) (Or.inl ⟨by rfl, ?_⟩) ?_
        rotate_left
        · (intro W _; go_simp; try with_reducible rfl)
        (try simp only [Act.put, List.getElem_toArray, List.getElem_cons_zero, List.getElem_cons_succ, List.setIfInBounds_toArray, List.set_cons_zero, List.set_cons_succ])
        refine wpAnyX_done (by kernel_rfl) ?_ _
        have hBN := below_setRow hbf hxz #[.int .i64 i, .slice A4 n4 c4]
        have HXn := Lib.hid (hx.row #[.int .i64 i, .slice A4 n4 c4])
        have HTn := Lib.hid (t4.rowX hx (Nat.le_trans hzw hxz) #[.int .i64 i, .slice A4 n4 c4])
        have HBn := Lib.hid (bt HBR.out hBN)
        have HOn := Lib.hid (HX.out.on hBN)
        have hog := HX.out.lt
        have hz7 := hBN.size
        clear hbf hx t4 hBN
        generalize w6.setRow gx #[.int .i64 i, .slice A4 n4 c4] = w7 at HXn HTn HBn HOn hz7 ⊢
        by_cases he : e5 = 0
        · subst he
          have m2 := HXn.out
          have mo := HOn.out
          have p0 := m2.cell 0
          have p1 := m2.cell 1
          have q0 := mo.cell 0
          have q1 := mo.cell 1
          have f0 := mo.free 0
          have f1 := mo.free 1
          simp at p0 p1 q0 q1
          have HX2 := Lib.hid (mo.set2 (.int .i64 i) (.slice A4 n4 c4))
          have HT2 := Lib.hid ((HTn.out.setX mo (by omega) 0 (.int .i64 i)).setX (mo.set 0 (.int .i64 i)) (by omega) 1 (.slice A4 n4 c4))
          have HB2 := Lib.hid (set2B (g := w.heap.size + 1 + 1) HBn.out (by have := HZ0.out; omega) (.int .i64 i) (.slice A4 n4 c4))
          have hl5 : n4 ≤ L + 1 := by have := hu5.len; have := (HTn.out.trs (Nat.le_trans hzw hz7)).1; have := HLK.out; omega
          have HF5 := Lib.hid (hu5.full HFk.out)
          have HA5 := Lib.hid (fun e ts' (h : RAdds i (us.drop (k + 1)) u5 e ts') => HAd.out e ts' (by rw [HUD.out]; exact hu5.step (u := (tIn us k, tOut us k)) h))
          have wk1 : IntKind.i64.wrap ((k : Int) + 1) = ((k + 1 : Nat) : Int) := by rw [IntKind.wrap_i64]; omega
          clear m2 mo hu5
          go_wp2_with fail
          go_roundw
          case measure => simp [intOf]; omega
          case rel => exact ⟨k + 1, n4, A4, c4, u5, rfl, by omega, by omega, HX2, HT2, HF5, HA5, HB2⟩
        · have hne : (e5 != 0) = true := by simpa using he
          have HE := Lib.hid he
          have HA5 := Lib.hid (HAd.out e5 u5 (by rw [HUD.out]; exact hu5.stop (u := (tIn us k, tOut us k)) he u5))
          have k0 := (HM1.out _ HBn.out).cell 0
          have k1 := (HM1.out _ HBn.out).cell 1
          have m2 := HM2.out _ HBn.out
          have f0 := m2.free 0
          have f1 := m2.free 1
          have q0 := m2.cell 0
          have q1 := m2.cell 1
          simp at k0 k1 q0 q1
          have HR2 := Lib.hid (m2.set2 (.int .i64 i) (.slice T tn tc))
          have HBF := Lib.hid (set2B (g := w.heap.size + 1) (bt HB0.out HBn.out) (by omega) (.int .i64 i) (.slice T tn tc))
          clear m2 he hu5
          go_wp2_with fail
          (try rw [Exit.noGoto_ret])
          refine bodyPost_ret (results_obs_tmp rfl _ _ (w.heap.size + 1) (.int .i64 i) (.slice T tn tc) rfl HR2.out) rfl ?_
          exact ⟨HBF.out, e5, u5, HA5.out, .inl ⟨HE.out, rfl⟩⟩
      · go_simp
        have hal := alloc_below wkd (.cells #[.int .i64 0, .slice none 0 0] 24)
        have hx := bx_new wkd #[.int .i64 0, .slice none 0 0] 24
        have hxz : wr.heap.size ≤ wkd.heap.size := hbf.size
        obtain ⟨gx, eqg⟩ : ∃ gx, gx = wkd.heap.size := ⟨_, rfl⟩
        have hbf0 := hbf
        have hbf := bt hbf hal
        generalize wkd.alloc (.cells #[.int .i64 0, .slice none 0 0] 24) = w6a at hal hx hbf ⊢
        rw [← eqg] at hx hxz ⊢
        clear eqg hal
        refine hK.out _ _ (fun _ _ => HS.out _ hbf) ?_
        (try simp only [Act.put, List.getElem_toArray, List.getElem_cons_zero, List.getElem_cons_succ, List.setIfInBounds_toArray, List.set_cons_zero, List.set_cons_succ])
        refine wpAnyX_one (i := 5) rfl (by kernel_rfl) (fun K hK => ?_)
        go_simp
        go_at_call 27
        refine (HAD.out _ hbf).mono ?_
        rintro r w5 h5
        obtain ⟨e5, u5, hu5, A4, n4, c4, rfl, t4, b5⟩ := h5.resK (Nat.le_trans hzw hbf.size) (HT.out.below hzw hbf) HNL.out.1 HNL.out.2 (by have := HLK.out; omega)
        have hbf := bt hbf b5
        have hx := hx.on b5
        refine hK.out _ _ (fun _ _ => HS.out _ hbf) ?_
        (try simp only [Act.put, List.getElem_toArray, List.getElem_cons_zero, List.getElem_cons_succ, List.setIfInBounds_toArray, List.set_cons_zero, List.set_cons_succ])
        refine wpAnyX_pure (i := 6) (v := ?_) rfl (by kernel_rfl) (by kernel_rfl) (by kernel_rfl) (fun _ _ _ h => h) (Or.inl ⟨by rfl, ?_⟩) ?_
        rotate_left
        · (intro W _; go_simp; try with_reducible rfl)
        (try simp only [Act.put, List.getElem_toArray, List.getElem_cons_zero, List.getElem_cons_succ, List.setIfInBounds_toArray, List.set_cons_zero, List.set_cons_succ])
        refine wpAnyX_pure (i := 7) (v := ?_) rfl (by kernel_rfl) (by kernel_rfl) (by kernel_rfl) (fun _ _ _ h => h) (Or.inl ⟨by rfl, ?_⟩) ?_
        rotate_left
        · (intro W _; go_simp; try with_reducible rfl)
        (try simp only [Act.put, List.getElem_toArray, List.getElem_cons_zero, List.getElem_cons_succ, List.setIfInBounds_toArray, List.set_cons_zero, List.set_cons_succ])
        refine wpAnyX_pure (i := 8) (v := ?_) rfl (by kernel_rfl) (by kernel_rfl) (by kernel_rfl) (fun _ _ _ h => h) (Or.inl ⟨by rfl, ?_⟩) ?_
        rotate_left
        · (intro W _; go_simp; try with_reducible rfl)
        (try simp only [Act.put, List.getElem_toArray, List.getElem_cons_zero, List.getElem_cons_succ, List.setIfInBounds_toArray, List.set_cons_zero, List.set_cons_succ])
        refine wpAnyX_one (i := 10) rfl (by kernel_rfl) (fun K hK => ?_)
        refine wp_store_row 24 _ _ rfl gx (#[.int .i64 i, .slice A4 n4 c4]) rfl rfl 24 (#[.int .i64 0, .slice none 0 0]) hx (by kernel_rfl) (by rfl) (by simp [Value.oneCell']) (hK.out _ _ (fun h => absurd h (by decide)) ?_)
        (try simp only [Act.put, List.getElem_toArray, List.getElem_cons_zero, List.getElem_cons_succ, List.setIfInBounds_toArray, List.set_cons_zero, List.set_cons_succ])
        refine wpAnyX_pure (i := 11) (v := ?_) rfl (by kernel_rfl) (by kernel_rfl) (by kernel_rfl) (fun _ _ _ h => h) (Or.inl ⟨by rfl, ?_⟩) ?_
        rotate_left
        · (intro W _; go_simp; try with_reducible rfl)
        (try simp only [Act.put, List.getElem_toArray, List.getElem_cons_zero, List.getElem_cons_succ, List.setIfInBounds_toArray, List.set_cons_zero, List.set_cons_succ])
        refine wpAnyX_done (by kernel_rfl) ?_ _
        have hBN := below_setRow hbf hxz #[.int .i64 i, .slice A4 n4 c4]
        have HXn := Lib.hid (hx.row #[.int .i64 i, .slice A4 n4 c4])
        have HTn := Lib.hid (t4.rowX hx (Nat.le_trans hzw hxz) #[.int .i64 i, .slice A4 n4 c4])
        have HBn := Lib.hid (bt HBR.out hBN)
        have HOn := Lib.hid (HX.out.on hBN)
        have hog := HX.out.lt
        have hz7 := hBN.size
        clear hbf hx t4 hBN
        generalize w5.setRow gx #[.int .i64 i, .slice A4 n4 c4] = w7 at HXn HTn HBn HOn hz7 ⊢
        by_cases he : e5 = 0
        · subst he
          have m2 := HXn.out
          have mo := HOn.out
          have p0 := m2.cell 0
          have p1 := m2.cell 1
          have q0 := mo.cell 0
          have q1 := mo.cell 1
          have f0 := mo.free 0
          have f1 := mo.free 1
          simp at p0 p1 q0 q1
          have HX2 := Lib.hid (mo.set2 (.int .i64 i) (.slice A4 n4 c4))
          have HT2 := Lib.hid ((HTn.out.setX mo (by omega) 0 (.int .i64 i)).setX (mo.set 0 (.int .i64 i)) (by omega) 1 (.slice A4 n4 c4))
          have HB2 := Lib.hid (set2B (g := w.heap.size + 1 + 1) HBn.out (by have := HZ0.out; omega) (.int .i64 i) (.slice A4 n4 c4))
          have hl5 : n4 ≤ L + 1 := by have := hu5.len; have := (HTn.out.trs (Nat.le_trans hzw hz7)).1; have := HLK.out; omega
          have HF5 := Lib.hid (hu5.full HFk.out)
          have HA5 := Lib.hid (fun e ts' (h : RAdds i (us.drop (k + 1)) u5 e ts') => HAd.out e ts' (by rw [HUD.out]; exact hu5.step (u := (tIn us k, tOut us k)) h))
          have wk1 : IntKind.i64.wrap ((k : Int) + 1) = ((k + 1 : Nat) : Int) := by rw [IntKind.wrap_i64]; omega
          clear m2 mo hu5
          go_wp2_with fail
          go_roundw
          case measure => simp [intOf]; omega
          case rel => exact ⟨k + 1, n4, A4, c4, u5, rfl, by omega, by omega, HX2, HT2, HF5, HA5, HB2⟩
        · have hne : (e5 != 0) = true := by simpa using he
          have HE := Lib.hid he
          have HA5 := Lib.hid (HAd.out e5 u5 (by rw [HUD.out]; exact hu5.stop (u := (tIn us k, tOut us k)) he u5))
          have k0 := (HM1.out _ HBn.out).cell 0
          have k1 := (HM1.out _ HBn.out).cell 1
          have m2 := HM2.out _ HBn.out
          have f0 := m2.free 0
          have f1 := m2.free 1
          have q0 := m2.cell 0
          have q1 := m2.cell 1
          simp at k0 k1 q0 q1
          have HR2 := Lib.hid (m2.set2 (.int .i64 i) (.slice T tn tc))
          have HBF := Lib.hid (set2B (g := w.heap.size + 1) (bt HB0.out HBn.out) (by omega) (.int .i64 i) (.slice T tn tc))
          clear m2 he hu5
          go_wp2_with fail
          (try rw [Exit.noGoto_ret])
          refine bodyPost_ret (results_obs_tmp rfl _ _ (w.heap.size + 1) (.int .i64 i) (.slice T tn tc) rfl HR2.out) rfl ?_
          exact ⟨HBF.out, e5, u5, HA5.out, .inl ⟨HE.out, rfl⟩⟩
    · obtain rfl : k = un := by omega
      have HE : Hid (RAdds i us ts 0 tsk) := Lib.hid (HAd.out 0 tsk (by rw [List.drop_eq_nil_of_le (by rw [HLU.out]; exact Nat.le_refl _)]; exact ⟨rfl, rfl⟩))
      have m2 := HM2.out _ HBR.out
      have p0 := HX.out.cell 0
      have p1 := HX.out.cell 1
      have f0 := m2.free 0
      have f1 := m2.free 1
      have q0 := m2.cell 0
      have q1 := m2.cell 1
      simp at p0 p1 q0 q1
      have HR2 := Lib.hid (m2.set2 (.int .i64 i) (.slice A' L c'))
      have HTF := Lib.hid ((HT.out.setX m2 (by omega) 0 (.int .i64 i)).setX (m2.set 0 (.int .i64 i)) (by omega) 1 (.slice A' L c'))
      have HBF := Lib.hid (set2B (g := w.heap.size + 1) (bt HB0.out HBR.out) (by omega) (.int .i64 i) (.slice A' L c'))
      clear m2
      go_wp2_with fail
      (try rw [Exit.noGoto_ret])
      refine bodyPost_ret (results_obs_tmp rfl _ _ (w.heap.size + 1) (.int .i64 i) (.slice A' L c') rfl HR2.out) rfl ?_
      exact ⟨HBF.out, 0, tsk, HE.out, .inr ⟨rfl, A', L, c', rfl, HTF.out⟩⟩
theorem rall16 (i : Int) (T U : Option Addr) (tn tc un uc : Nat) (ts us : TSr) (w : World) (hT : Trs w T tn ts) (hU : Trs w U un us) (hF : Full ts) (htu : tn + un < 10000) :
    Calls Try.prog 56 #[.agg #[.int .i64 i, .slice T tn tc], .slice U un uc] w fun r w' => RAllE i T tn tc ts us w r w' := by
  refine (rallK i T U tn tc un uc ts us w (Nat.le_refl _) (TrsK.of_trs hT) hU hF htu).mono ?_
  rintro r w' ⟨hb, e, t, h1, h⟩
  refine ⟨hb, e, t, h1, ?_⟩
  rcases h with h | ⟨h2, A, n, c, h3, h4⟩
  · exact .inl h
  · exact .inr ⟨h2, A, n, c, h3, h4.trs hb.size⟩
end Go.Proofs.Ytkkmcgapbcikiaa
end
