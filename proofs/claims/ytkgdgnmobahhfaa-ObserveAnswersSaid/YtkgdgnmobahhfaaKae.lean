/- Lemmas of the proofs of this seat, of the parts Wthw, Dictw, Fitw, Vlo, L22c. Conditions: none. -/
import Derived.Test.YtkgdgnmobahhfaaKad
import Derived.Test.YtkgdgnmobahhfaaKaa
import Derived.Test.YtkgdgnmobahhfaaKab
import Derived.Test.YtkgdgnmobahhfaaKac
section
/- with of the program. -/
namespace Go.Proofs.Ytkgdgnmobahhfaa
open Go.RowKit Go.Shelf

/-- The result of with: the traces added in order, in memory of its own, or the observations unchanged with the first error. -/
def WthE (i : Int) (T : Option Addr) (tn tc : Nat) (ts us : List (List Int × List Int)) (w : World) (r : Ending) (w' : World) : Prop :=
  Below w.heap.size w w' ∧ ∃ (e : Int) (ts' : List (List Int × List Int)), AddsR i us ts e ts' ∧
    ((¬ e = 0 ∧ r = .returned (.tuple #[.agg #[.int .i64 i, .slice T tn tc], .int .i64 e])) ∨
     (e = 0 ∧ ∃ (g N : Nat) (cur' : Array Value), r = .returned (.tuple #[.agg #[.int .i64 i, .slice (some ⟨g, 0, none⟩) ts'.length N], .int .i64 0]) ∧ TrO w' w.heap.size g N cur' ts'))
theorem results_obs_tmp {fn : Func} {p u : Tmp} (h : fn.results = #[.cell p 24, .tmp u]) (tmps : Array Value) (w : World) (g : Nat) (v1 v2 : Value)
    (hp : tmps.getD p undef = .pointer (some ⟨g, 0, none⟩)) (hg : Bx w g #[v1, v2] 24) :
    (results fn tmps).run Try.prog w = .ok (.tuple #[.agg #[v1, v2], tmps.getD u undef]) w := by
  rw [results_cell_tmp h, hp]
  have hl := run_loadVar_row (P := Try.prog) w g 24 24 #[v1, v2] (0, 0) _ hg Try.underlying24 rfl (by kernel_rfl)
  simp [asAddr, hl]
theorem Bx.set2 {w : World} {g : Nat} {a b : Value} {t : TypeId} (h : Bx w g #[a, b] t) (x y : Value) : Bx ((w.setCell ⟨g, 0, none⟩ x).setCell ⟨g, 1, none⟩ y) g #[x, y] t := by
  have := (h.set 0 x).set 1 y
  simpa using this
theorem set2B {w0 w : World} {z g : Nat} (hb : Below z w0 w) (hg : z ≤ g) (x y : Value) : Below z w0 ((w.setCell ⟨g, 0, none⟩ x).setCell ⟨g, 1, none⟩ y) :=
  (hb.setCell (p := ⟨g, 0, none⟩) hg x).setCell (p := ⟨g, 1, none⟩) hg y
theorem TrO.set2 {w : World} {base g N gx : Nat} {cur cs : Array Value} {ts : List (List Int × List Int)} (h : TrO w base g N cur ts) (hx : Bx w gx cs 24) (x y : Value) : TrO ((w.setCell ⟨gx, 0, none⟩ x).setCell ⟨gx, 1, none⟩ y) base g N cur ts := by
  have h0 : TrO (w.setCell ⟨gx, 0, none⟩ x) base g N cur ts := h.kept (h.bx.other (obs_ne_trace hx h.bx).symm x) (hx.keptSet (by decide) x)
  exact h0.boxed (hx.set 0 x) y
theorem wp_make_tr {ops : Array Oper} {o : Oper} {a : Act} {w : World} {K : Act → World → Prop} {Q : Exit → Act → World → Prop} {E : Prop} (hgd : o.guard = none) (l c : Operand) (ho : o.op = Op.makeSlice 22 l c)
    (kl kc : IntKind) (N : Nat) (hl : a.eval l = .int kl 0) (hc : a.eval c = .int kc N) (hN : N ≤ 1000000)
    (h : K (a.put o.dst (.slice (some ⟨w.heap.size, 0, none⟩) 0 N)) (w.alloc (.cells (madeCells #[.slice none 0 0, .slice none 0 0] (N * 2)) 38))) :
    if Region.wanted o (yielded ops a.tmps) = true then Oper.wp Try.prog o a w K Q else E := by
  obtain ⟨i, hi, hz0, hz1, hz2⟩ := info_parts infot
  have hw : Region.wanted o (yielded ops a.tmps) = true := by simp [Region.wanted, hgd]
  rw [if_pos hw]
  have hrun := run_make (P := Try.prog) w 22 38 i _ Try.underlying22 hi hz0 kl kc 0 (N : Int) (Int.le_refl _) (by omega) (by rw [hz2]; omega) (by omega)
  rw [hz1] at hrun
  simp only [Int.toNat_zero, Int.toNat_natCast] at hrun
  unfold Oper.wp
  simp [execOp, ho, hl, hc, hrun, Result.andThen]
  exact h
theorem step_appE {P : Program} {ops : Array Oper} {o : Oper} {a : Act} {w : World} {K : Act → World → Prop} {Q : Exit → Act → World → Prop} {E : Prop} (hgd : o.guard = none) (s x : Operand) (t tn : TypeId)
    (ho : o.op = .call { callee := .builtin .append, args := #[s, x], argTypes := #[t, tn] }) (vs vx : Value) (hs : a.eval s = vs) (hx : a.eval x = vx) (r : Value) (w' : World)
    (hr : (Builtin.append_ #[t, tn] o.type #[vs, vx]).run P w = .ok r w') (h : K (a.put o.dst r) w') :
    if Region.wanted o (yielded ops a.tmps) = true then Oper.wp P o a w K Q else E := by
  have hw : Region.wanted o (yielded ops a.tmps) = true := by simp [Region.wanted, hgd]
  rw [if_pos hw]
  exact Lib.wp_append_run w s x t tn ho vs vx hs hx _ w' hr h
/-- append of one trace where there is room. -/
theorem TrO.push_run {w : World} {base g N : Nat} {cur : Array Value} {ts : List (List Int × List Int)} (h : TrO w base g N cur ts) (hroom : ts.length + 1 ≤ N) {vb : Nat} {x1 x2 : Value} (hv : Bx w vb #[x1, x2] 38) (h1 : x1.oneCell' = true) (h2 : x2.oneCell' = true) (ty : TypeId) :
    (Builtin.append_ #[22, 22] ty #[.slice (some ⟨g, 0, none⟩) ts.length N, .slice (some ⟨vb, 0, none⟩) 1 1]).run Try.prog w = .ok (.slice (some ⟨g, 0, none⟩) (ts.length + 1) N) (w.setRow g (cur.toList.take (ts.length * 2) ++ x1 :: x2 :: cur.toList.drop (ts.length * 2 + 2)).toArray) := by
  obtain ⟨i, hi, hz0, hz1, hz2⟩ := info_parts infot
  have hrn := run_append_room (P := Try.prog) (w := w) 22 ty 38 i Try.underlying22 hi g ts.length N cur h.bx ⟨vb, 0, none⟩ 1 1 [x1, x2] (by rw [hz1]; rfl)
    (fun j u hj => by
      rw [Addr.add_lit, Nat.zero_add]
      refine (hv.cell j).trans ?_
      rw [← hj]; simp) (by simp [h1, h2]) hroom (by rw [hz1, h.sz]; simp; omega)
  rw [hz1, List.append_assoc] at hrn
  exact hrn
theorem made_one (N : Nat) : ∀ v, v ∈ (madeCells #[Value.slice none 0 0, .slice none 0 0] (N * 2)).toList → v.oneCell' = true := by
  intro v hv
  unfold madeCells at hv
  simp only [Array.toList_map, List.mem_map] at hv
  obtain ⟨k, _, rfl⟩ := hv
  have : k % 2 = 0 ∨ k % 2 = 1 := by omega
  rcases this with h | h <;> simp [h, Value.oneCell']
theorem take_snoc {ts : List (List Int × List Int)} {k : Nat} (h : k < ts.length) : ts.take k ++ [(tIn ts k, tOut ts k)] = ts.take (k + 1) := by
  rw [List.take_add_one, List.getElem?_eq_getElem h]
  unfold tIn tOut
  rw [List.getD_eq_getElem?_getD, List.getElem?_eq_getElem h]
  rfl
theorem drop_cons {ts : List (List Int × List Int)} {k : Nat} (h : k < ts.length) : ts.drop k = (tIn ts k, tOut ts k) :: ts.drop (k + 1) := by
  rw [List.drop_eq_getElem_cons h]
  unfold tIn tOut
  rw [List.getD_eq_getElem?_getD, List.getElem?_eq_getElem h]
  rfl

set_option linter.unusedSimpArgs false in
set_option linter.unusedVariables false in
set_option maxHeartbeats 16000000 in
set_option maxRecDepth 100000 in
theorem pwith (i : Int) (T U : Option Addr) (tn tc un uc : Nat) (ts us : List (List Int × List Int)) (w : World) (hT : Trs w T tn ts) (hU : Trs w U un us) (hS : Srt ts) (hF : Full ts) (htn : tn ≤ 500000) (hun : un ≤ 500000) :
    Calls Try.prog 74 #[.agg #[.int .i64 i, .slice T tn tc], .slice U un uc] w fun r w' => WthE i T tn tc ts us w r w' := by
  obtain ⟨w1, hw1⟩ : ∃ w1, w1 = (w.alloc (.cells #[.int .i64 i, .slice T tn tc] 24)).alloc (.cells #[.int .i64 0, .slice none 0 0] 24) := ⟨_, rfl⟩
  obtain ⟨hb0, m1, m2, hs0⟩ := bxs2 w #[.int .i64 i, .slice T tn tc] #[.int .i64 0, .slice none 0 0] 24 24 w1 hw1
  obtain ⟨N, hN⟩ : ∃ N : Nat, N = tn + un := ⟨_, rfl⟩
  have HT := Lib.hid (hT.below hb0)
  have HU := Lib.hid (hU.below hb0)
  have HM1 := Lib.hid (fun (W : World) (h : Below w1.heap.size w1 W) => m1.on h)
  have HM2 := Lib.hid (fun (W : World) (h : Below w1.heap.size w1 W) => m2.on h)
  have HB0 := Lib.hid hb0
  have HW1 := Lib.hid hw1
  have HZ1 := Lib.hid hs0
  have HSS := Lib.hid hS
  have HFF := Lib.hid hF
  have HLT := Lib.hid hT.1
  have HLU := Lib.hid hU.1
  have hwN : IntKind.i64.wrap ((tn : Int) + (un : Int)) = (N : Int) := by rw [IntKind.wrap_i64]; omega
  have hN2 : N ≤ 1000000 := by omega
  have hN0 : (0 : Int) ≤ (N : Int) := by omega
  have HN := Lib.hid hN
  have HS := Lib.hid (show ∀ W, Below w1.heap.size w1 W → W.cell? ⟨w.heap.size, 0, none⟩ = some (.int .i64 i) ∧ W.cell? ⟨w.heap.size, 1, none⟩ = some (.slice T tn tc) from fun W h => ⟨by have := (m1.on h).cell 0; simpa using this, by have := (m1.on h).cell 1; simpa using this⟩)
  clear hw1 hb0 m1 m2 hs0 hT hU hS hF hN
  go_enter Try.func74, Try.ntmps74
  go_upto_region 1 with fail
  rw [← HW1.out]
  have hbf : Below w1.heap.size w1 w1.drew := below_drewN (Below.refl _ _) 1
  refine wp_region_heldX (X := fun k => ([11] : List Nat).contains k) (S := fun W => W.cell? ⟨w.heap.size, 0, none⟩ = some (.int .i64 i) ∧ W.cell? ⟨w.heap.size, 1, none⟩ = some (.slice T tn tc)) (by kernel_rfl) ?_
  generalize w1.drew = wkd at hbf ⊢
  refine wpAnyX_pure (i := 0) (v := ?_) rfl (by kernel_rfl) (by kernel_rfl) (by kernel_rfl) (fun _ _ _ h => h) (Or.inl ⟨by rfl, ?_⟩) ?_
  rotate_left
  · (intro W _; go_simp; try with_reducible rfl)
  (try simp only [Act.put, List.getElem_toArray, List.getElem_cons_zero, List.getElem_cons_succ, List.setIfInBounds_toArray, List.set_cons_zero, List.set_cons_succ])
  refine wpAnyX_takeL (L := [11]) (i := 1) (v := ?_) rfl (by kernel_rfl) (by kernel_rfl) (by kernel_rfl) (by kernel_rfl) (fun _ _ _ h => h) (Or.inl ⟨by rfl, ?_⟩) (HS.out _ hbf) ?_
  rotate_left
  · (intro W hSW; (try dsimp only at hSW); obtain ⟨z0, z1⟩ := hSW; go_simp; try with_reducible rfl)
  (try simp only [Act.put, List.getElem_toArray, List.getElem_cons_zero, List.getElem_cons_succ, List.setIfInBounds_toArray, List.set_cons_zero, List.set_cons_succ])
  refine wpAnyX_pure (i := 2) (v := ?_) rfl (by kernel_rfl) (by kernel_rfl) (by kernel_rfl) (fun _ _ _ h => h) (Or.inl ⟨by rfl, ?_⟩) ?_
  rotate_left
  · (intro W _; go_simp; try with_reducible rfl)
  (try simp only [Act.put, List.getElem_toArray, List.getElem_cons_zero, List.getElem_cons_succ, List.setIfInBounds_toArray, List.set_cons_zero, List.set_cons_succ])
  refine wpAnyX_takeL (L := [11]) (i := 3) (v := ?_) rfl (by kernel_rfl) (by kernel_rfl) (by kernel_rfl) (by kernel_rfl) (fun _ _ _ h => h) (Or.inl ⟨by rfl, ?_⟩) (HS.out _ hbf) ?_
  rotate_left
  · (intro W hSW; (try dsimp only at hSW); obtain ⟨z0, z1⟩ := hSW; go_simp; try with_reducible rfl)
  (try simp only [Act.put, List.getElem_toArray, List.getElem_cons_zero, List.getElem_cons_succ, List.setIfInBounds_toArray, List.set_cons_zero, List.set_cons_succ])
  refine wpAnyX_pure (i := 4) (v := ?_) rfl (by kernel_rfl) (by kernel_rfl) (by kernel_rfl) (fun _ _ _ h => h) (Or.inl ⟨by rfl, ?_⟩) ?_
  rotate_left
  · (intro W _; go_simp; try with_reducible rfl)
  (try simp only [Act.put, List.getElem_toArray, List.getElem_cons_zero, List.getElem_cons_succ, List.setIfInBounds_toArray, List.set_cons_zero, List.set_cons_succ])
  refine wpAnyX_pure (i := 5) (v := ?_) rfl (by kernel_rfl) (by kernel_rfl) (by kernel_rfl) (fun _ _ _ h => h) (Or.inl ⟨by rfl, ?_⟩) ?_
  rotate_left
  · (intro W _; go_simp; try with_reducible rfl)
  (try simp only [Act.put, List.getElem_toArray, List.getElem_cons_zero, List.getElem_cons_succ, List.setIfInBounds_toArray, List.set_cons_zero, List.set_cons_succ])
  refine wpAnyX_pure (i := 6) (v := ?_) rfl (by kernel_rfl) (by kernel_rfl) (by kernel_rfl) (fun _ _ _ h => h) (Or.inl ⟨by rfl, ?_⟩) ?_
  rotate_left
  · (intro W _; go_simp; try with_reducible rfl)
  (try simp only [Act.put, List.getElem_toArray, List.getElem_cons_zero, List.getElem_cons_succ, List.setIfInBounds_toArray, List.set_cons_zero, List.set_cons_succ])
  refine wpAnyX_pure (i := 7) (v := ?_) rfl (by kernel_rfl) (by kernel_rfl) (by kernel_rfl) (fun _ _ _ h => h) (Or.inl ⟨by rfl, ?_⟩) ?_
  rotate_left
  · (intro W _; go_simp; try with_reducible rfl)
  (try simp only [Act.put, List.getElem_toArray, List.getElem_cons_zero, List.getElem_cons_succ, List.setIfInBounds_toArray, List.set_cons_zero, List.set_cons_succ])
  refine wpAnyX_two (i := 8) (j := 10) rfl rfl (by kernel_rfl) (fun K hK => ?_) (fun K hK => ?_)
  · refine wp_make_tr rfl _ _ rfl _ _ N rfl rfl hN2 (hK.out _ _ (fun _ _ => HS.out _ (bt hbf (alloc_below _ _))) ?_)
    (try simp only [Act.put, List.getElem_toArray, List.getElem_cons_zero, List.getElem_cons_succ, List.setIfInBounds_toArray, List.set_cons_zero, List.set_cons_succ])
    have hal := alloc_below wkd (.cells (madeCells #[.slice none 0 0, .slice none 0 0] (N * 2)) 38)
    have hg := bx_new wkd (madeCells #[.slice none 0 0, .slice none 0 0] (N * 2)) 38
    have hgz : w1.heap.size ≤ wkd.heap.size := hbf.size
    obtain ⟨g, eqg⟩ : ∃ g, g = wkd.heap.size := ⟨_, rfl⟩
    have hbf := bt hbf hal
    generalize wkd.alloc (.cells (madeCells #[.slice none 0 0, .slice none 0 0] (N * 2)) 38) = wk1 at hal hbf hg ⊢
    rw [← eqg] at hg hgz ⊢
    clear eqg hal
    refine wpAnyX_pure (i := 9) (v := ?_) rfl (by kernel_rfl) (by kernel_rfl) (by kernel_rfl) (fun _ _ _ h => h) (Or.inl ⟨by rfl, ?_⟩) ?_
    rotate_left
    · (intro W _; go_simp; try with_reducible rfl)
    (try simp only [Act.put, List.getElem_toArray, List.getElem_cons_zero, List.getElem_cons_succ, List.setIfInBounds_toArray, List.set_cons_zero, List.set_cons_succ])
    refine wpAnyX_one (i := 10) rfl (by kernel_rfl) (fun K hK => ?_)
    go_simp
    refine hK.out _ _ (fun _ _ => HS.out _ (bt hbf (alloc_below _ _))) ?_
    (try simp only [Act.put, List.getElem_toArray, List.getElem_cons_zero, List.getElem_cons_succ, List.setIfInBounds_toArray, List.set_cons_zero, List.set_cons_succ])
    have hal := alloc_below wk1 (.cells #[.int .i64 0, .slice none 0 0] 24)
    have hx := bx_new wk1 #[.int .i64 0, .slice none 0 0] 24
    have hxz : w1.heap.size ≤ wk1.heap.size := hbf.size
    have hg := hg.on hal
    obtain ⟨gx, eqgx⟩ : ∃ gx, gx = wk1.heap.size := ⟨_, rfl⟩
    have hbf := bt hbf hal
    generalize wk1.alloc (.cells #[.int .i64 0, .slice none 0 0] 24) = wk2 at hal hbf hg hx ⊢
    rw [← eqgx] at hx hxz ⊢
    clear eqgx hal
    refine wpAnyX_one (i := 11) rfl (by kernel_rfl) (fun K hK => ?_)
    refine wp_store_row 24 _ _ rfl gx (#[.int .i64 i, .slice (some ⟨g, 0, none⟩) 0 N]) rfl rfl 24 (#[.int .i64 0, .slice none 0 0]) hx (by kernel_rfl) (by rfl) (by simp [Value.oneCell']) (hK.out _ _ (fun h => absurd h (by decide)) ?_)
    (try simp only [Act.put, List.getElem_toArray, List.getElem_cons_zero, List.getElem_cons_succ, List.setIfInBounds_toArray, List.set_cons_zero, List.set_cons_succ])
    refine wpAnyX_done (by kernel_rfl) ?_ _
    have hX0 := hx.row #[.int .i64 i, .slice (some ⟨g, 0, none⟩) 0 N]
    have hT0 : TrO (wk2.setRow gx #[.int .i64 i, .slice (some ⟨g, 0, none⟩) 0 N]) w.heap.size g N _ [] := TrO.start (hg.rowOther (obs_ne_trace hx hg).symm _) (by have := HZ1.out; omega) (size_madeCells _ _) hN2 (made_one N)
    have hBA := below_setRow hbf hxz #[.int .i64 i, .slice (some ⟨g, 0, none⟩) 0 N]
    have HXA := Lib.hid hX0
    have HTA := Lib.hid hT0
    have HBA := Lib.hid hBA
    have t1 := (HM1.out _ hBA).cell 1
    simp at t1
    generalize wk2.setRow gx #[.int .i64 i, .slice (some ⟨g, 0, none⟩) 0 N] = wA at HXA HTA HBA t1 ⊢
    clear hX0 hT0 hBA hx hg hbf
    go_upto_region 3 with fail
    clear t1
    go_loopw [25] (fun v25 wr => ∃ (k : Nat) (cur : Array Value), v25 = .int .i64 k ∧ k ≤ tn ∧ Hid (Bx wr gx #[.int .i64 i, .slice (some ⟨g, 0, none⟩) k N] 24) ∧ Hid (TrO wr w.heap.size g N cur (ts.take k)) ∧ Hid (Below w1.heap.size w1 wr)) (fun v25 _ => tn - (intOf v25).toNat)
    case atStart => exact ⟨0, _, rfl, Nat.zero_le _, HXA, Lib.hid (by rw [List.take_zero]; exact HTA.out), HBA⟩
    case round =>
      obtain ⟨k, cur, rfl, hk, HX, HTk, HBR⟩ := hrel
      by_cases hlt : k < tn
      · obtain ⟨b, off, A1, n1, c1, A2, n2, c2, eT, hgb, j1, j2, q1, q2, j3, j4⟩ := (HT.out.below HBR.out).at_ hlt
        subst eT
        have hkI : (k : Int) < (tn : Int) := by omega
        have hk0 : (0 : Int) ≤ (k : Int) := by omega
        have hl7 := alloc_below wr (.cells #[.slice A1 n1 c1, .slice A2 n2 c2] 38)
        have hm7 := bx_new wr #[.slice A1 n1 c1, .slice A2 n2 c2] 38
        have HI1 := Lib.hid (j3.below hl7)
        have HI2 := Lib.hid (j4.below hl7)
        have HN1 := Lib.hid j3.1
        have HN2 := Lib.hid j4.1
        have hn1 := j3.2.1
        have hn2 := j4.2.1
        have HX7 := Lib.hid (HX.out.on hl7)
        have HT7 := Lib.hid (HTk.out.below hl7)
        have HB7 := Lib.hid (HBR.out.trans (hl7.mono HBR.out.size))
        have HM7 := Lib.hid hm7
        have hlk : (ts.take k).length = k := by rw [List.length_take, HLT.out]; omega
        have HLK := Lib.hid hlk
        have hszw : w.heap.size ≤ wr.heap.size := Nat.le_trans HB0.out.size HBR.out.size
        have hgr : g < wr.heap.size := HTk.out.bx.lt
        clear hm7 j3 j4 q1 q2 hgb hlk
        go_upto_region 5 with fail
        generalize wr.alloc (.cells #[.slice A1 n1 c1, .slice A2 n2 c2] 38) = w7 at hl7 HI1 HI2 HX7 HT7 HB7 HM7 ⊢
        have hw7 : w.heap.size ≤ w7.heap.size := Nat.le_trans hszw hl7.size
        clear j1 j2 hl7
        have HS := Lib.hid (show ∀ W, Below w7.heap.size w7 W → Bx W wr.heap.size #[.slice A1 n1 c1, .slice A2 n2 c2] 38 ∧ W.cell? ⟨gx, 1, none⟩ = some (.slice (some ⟨g, 0, none⟩) k N) from fun W h => ⟨HM7.out.on h, by have := (HX7.out.on h).cell 1; simpa using this⟩)
        have hbf : Below w7.heap.size w7 w7.drew := below_drewN (Below.refl _ _) 1
        refine wp_region_heldX (X := fun k => ([7] : List Nat).contains k) (S := fun W => Bx W wr.heap.size #[.slice A1 n1 c1, .slice A2 n2 c2] 38 ∧ W.cell? ⟨gx, 1, none⟩ = some (.slice (some ⟨g, 0, none⟩) k N)) (by kernel_rfl) ?_
        generalize w7.drew = wkd at hbf ⊢
        refine wpAnyX_pure (i := 0) (v := ?_) rfl (by kernel_rfl) (by kernel_rfl) (by kernel_rfl) (fun _ _ _ h => h) (Or.inl ⟨by rfl, ?_⟩) ?_
        rotate_left
        · (intro W _; go_simp; try with_reducible rfl)
        (try simp only [Act.put, List.getElem_toArray, List.getElem_cons_zero, List.getElem_cons_succ, List.setIfInBounds_toArray, List.set_cons_zero, List.set_cons_succ])
        refine wpAnyX_takeL (L := [7]) (i := 1) (v := ?_) rfl (by kernel_rfl) (by kernel_rfl) (by kernel_rfl) (by kernel_rfl) (fun _ _ _ h => h) (Or.inl ⟨by rfl, ?_⟩) (HS.out _ hbf) ?_
        rotate_left
        · (intro W hSW; (try dsimp only at hSW); obtain ⟨z0, z1⟩ := hSW; go_simp; try with_reducible rfl)
        (try simp only [Act.put, List.getElem_toArray, List.getElem_cons_zero, List.getElem_cons_succ, List.setIfInBounds_toArray, List.set_cons_zero, List.set_cons_succ])
        refine wpAnyX_takeL (L := [7]) (i := 2) (v := .agg (#[.slice A1 n1 c1, .slice A2 n2 c2])) rfl (by kernel_rfl) (by kernel_rfl) (by kernel_rfl) (by kernel_rfl) (fun _ _ _ h => h) (Or.inl ⟨by rfl, fun W hSW => run_load_bx 38 _ rfl (wr.heap.size) rfl 38 (#[.slice A1 n1 c1, .slice A2 n2 c2]) (0, 0) _ (hSW.1) Try.underlying38 rfl (by kernel_rfl)⟩) (HS.out _ hbf) ?_
        (try simp only [Act.put, List.getElem_toArray, List.getElem_cons_zero, List.getElem_cons_succ, List.setIfInBounds_toArray, List.set_cons_zero, List.set_cons_succ])
        refine wpAnyX_one (i := 3) rfl (by kernel_rfl) (fun K hK => ?_)
        go_simp
        go_at_call 105
        refine (pcopied16 A1 A2 n1 c1 n2 c2 (tIn ts k) (tOut ts k) _ (HI1.out.below hbf) (HI2.out.below hbf)).mono ?_
        rintro r w9 ⟨B1, B2, d1, d2, rfl, o1, o2, b9⟩
        have o1 := o1.lower (base' := w.heap.size) (Nat.le_trans hw7 hbf.size)
        have o2 := o2.lower (base' := w.heap.size) (Nat.le_trans hw7 hbf.size)
        have hbf := bt hbf b9
        clear b9
        refine hK.out _ _ (fun _ _ => HS.out _ hbf) ?_
        (try simp only [Act.put, List.getElem_toArray, List.getElem_cons_zero, List.getElem_cons_succ, List.setIfInBounds_toArray, List.set_cons_zero, List.set_cons_succ])
        refine wpAnyX_one (i := 4) rfl (by kernel_rfl) (fun K hK => ?_)
        go_simp
        have l9 := alloc_below w9 (.cells #[.slice B1 n1 d1, .slice B2 n2 d2] 38)
        have hv9 := bx_new w9 #[.slice B1 n1 d1, .slice B2 n2 d2] 38
        obtain ⟨wa, hwa⟩ : ∃ wa, wa = w9.alloc (.cells #[.slice B1 n1 d1, .slice B2 n2 d2] 38) := ⟨_, rfl⟩
        rw [← hwa] at l9 hv9 ⊢
        have o1 := o1.kept l9
        have o2 := o2.kept l9
        have hbf := bt hbf l9
        clear l9 hwa
        refine hK.out _ _ (fun _ _ => HS.out _ hbf) ?_
        (try simp only [Act.put, List.getElem_toArray, List.getElem_cons_zero, List.getElem_cons_succ, List.setIfInBounds_toArray, List.set_cons_zero, List.set_cons_succ])
        refine wpAnyX_one (i := 5) rfl (by kernel_rfl) (fun K hK => ?_)
        have hta := HT7.out.below hbf
        have hrn := hta.push_run (by rw [HLK.out]; have := HN.out; omega) hv9 rfl rfl 22
        rw [HLK.out] at hrn
        refine step_appE rfl _ _ _ _ rfl _ _ rfl rfl _ _ hrn (hK.out _ _ (fun _ _ => ?_) ?_)
        · exact ⟨(HS.out _ hbf).1.rowOther (by have := HX7.out.lt; have := hgr; omega) _, by have := ((HX7.out.on hbf).rowOther (obs_ne_trace (HX7.out.on hbf) hta.bx) (cur.toList.take (k * 2) ++ Value.slice B1 n1 d1 :: Value.slice B2 n2 d2 :: cur.toList.drop (k * 2 + 2)).toArray).cell 1; simpa using this⟩
        (try simp only [Act.put, List.getElem_toArray, List.getElem_cons_zero, List.getElem_cons_succ, List.setIfInBounds_toArray, List.set_cons_zero, List.set_cons_succ])
        obtain ⟨wb, hwb⟩ : ∃ wb, wb = wa.setRow g (cur.toList.take (k * 2) ++ Value.slice B1 n1 d1 :: Value.slice B2 n2 d2 :: cur.toList.drop (k * 2 + 2)).toArray := ⟨_, rfl⟩
        rw [← hwb]
        obtain ⟨cur', htr⟩ := TrO.pushed (w1 := wb) hta (by rw [HLK.out]; have := HN.out; omega) (xs := tIn ts k) (ys := tOut ts k) (B1 := B1) (B2 := B2) (d1 := d1) (d2 := d2) (by rw [HN1.out]; exact o1) (by rw [HN2.out]; exact o2) (by rw [HN1.out]; exact hn1) (by rw [HN2.out]; exact hn2) (by rw [HLK.out, HN1.out, HN2.out]; exact hwb)
        rw [take_snoc (by rw [HLT.out]; exact hlt)] at htr
        have hMb : Bx wb gx #[.int .i64 i, .slice (some ⟨g, 0, none⟩) k N] 24 := by rw [hwb]; exact (HX7.out.on hbf).rowOther (obs_ne_trace (HX7.out.on hbf) hta.bx) _
        have hBb : Below w1.heap.size w1 wb := by rw [hwb]; exact below_setRow (HB7.out.trans (hbf.mono HB7.out.size)) hgz _
        have kx1 := hMb.cell 1
        have kf1 := hMb.free 1
        simp at kx1
        clear hwb hrn hta
        refine wpAnyX_pure (i := 6) (v := ?_) rfl (by kernel_rfl) (by kernel_rfl) (by kernel_rfl) (fun _ _ _ h => h) (Or.inl ⟨by rfl, ?_⟩) ?_
        rotate_left
        · (intro W _; go_simp; try with_reducible rfl)
        (try simp only [Act.put, List.getElem_toArray, List.getElem_cons_zero, List.getElem_cons_succ, List.setIfInBounds_toArray, List.set_cons_zero, List.set_cons_succ])
        refine wpAnyX_one (i := 7) rfl (by kernel_rfl) (fun K hK => ?_)
        go_simp
        refine hK.out _ _ (fun h => absurd h (by decide)) ?_
        (try simp only [Act.put, List.getElem_toArray, List.getElem_cons_zero, List.getElem_cons_succ, List.setIfInBounds_toArray, List.set_cons_zero, List.set_cons_succ])
        refine wpAnyX_done (by kernel_rfl) ?_ _
        have HXn := Lib.hid (hMb.on1 (.slice (some ⟨g, 0, none⟩) (k + 1) N))
        have HTn := Lib.hid (htr.boxed hMb (.slice (some ⟨g, 0, none⟩) (k + 1) N))
        have HBn := Lib.hid (hBb.setCell (p := ⟨gx, 1, none⟩) hxz (.slice (some ⟨g, 0, none⟩) (k + 1) N))
        have wk1 : IntKind.i64.wrap ((k : Int) + 1) = ((k + 1 : Nat) : Int) := by rw [IntKind.wrap_i64]; omega
        clear hMb htr hBb kx1 kf1 hbf o1 o2 hv9
        go_wp2_with fail
        go_roundw
        case measure => simp [intOf]; omega
        case rel => exact ⟨k + 1, cur', rfl, by omega, HXn, HTn, HBn⟩
      obtain rfl : k = tn := by omega
      have hkI : ¬ (k : Int) < (k : Int) := by omega
      have HTk : Hid (TrO wr w.heap.size g N cur ts) := Lib.hid (by have := HTk.out; rwa [List.take_of_length_le (by rw [HLT.out]; exact Nat.le_refl _)] at this)
      go_wp2_with fail
      go_loopw [39] (fun v39 wr => ∃ (k2 q : Nat) (cur2 : Array Value) (tsk : List (List Int × List Int)), v39 = .int .i64 k2 ∧ k2 ≤ un ∧ Hid (q = tsk.length) ∧ q ≤ k + k2 ∧ Hid (Bx wr gx #[.int .i64 i, .slice (some ⟨g, 0, none⟩) q N] 24) ∧ Hid (TrO wr w.heap.size g N cur2 tsk) ∧ Hid (Below w1.heap.size w1 wr) ∧ Hid (Srt tsk) ∧ Hid (Full tsk) ∧ Hid (∀ e ts', AddsR i (us.drop k2) tsk e ts' → AddsR i us ts e ts')) (fun v39 _ => un - (intOf v39).toNat)
      case atStart => exact ⟨0, k, cur, ts, rfl, Nat.zero_le _, Lib.hid HLT.out.symm, Nat.le_refl _, HX, HTk, HBR, HSS, HFF, Lib.hid (fun e ts' h => by rwa [List.drop_zero] at h)⟩
      case round =>
        clear HX HTk HBR
        rename_i wr0
        obtain ⟨k2, q, cur2, tsk, rfl, hk2, HQ, hqk, HX, HTk, HBR, HSk, HFk, HAd⟩ := hrel
        by_cases hlt2 : k2 < un
        · obtain ⟨b, off, A1, n1, c1, A2, n2, c2, eU, hgb, j1, j2, q1, q2, j3, j4⟩ := (HU.out.below HBR.out).at_ hlt2
          subst eU
          obtain ⟨_, _, B1, p1, d1, B2, p2, d2, eU, _, i1, i2, _, _, i3, i4⟩ := HU.out.at_ hlt2
          cases eU
          have HI1 := Lib.hid (show Ints w1 A1 n1 (tIn us k2) by
            have e1 := (HBR.out.cell (p := ⟨b, off + k2 * 2, none⟩) (by assumption)).trans i1
            rw [j1] at e1; cases e1; exact i3)
          have HI2 := Lib.hid (show Ints w1 A2 n2 (tOut us k2) by
            have e1 := (HBR.out.cell (p := ⟨b, off + k2 * 2 + 1, none⟩) (by assumption)).trans i2
            rw [j2] at e1; cases e1; exact i4)
          have hkI2 : (k2 : Int) < (un : Int) := by omega
          have hk02 : (0 : Int) ≤ (k2 : Int) := by omega
          have hl7 := alloc_below wr (.cells #[.slice A1 n1 c1, .slice A2 n2 c2] 38)
          have hm7 := bx_new wr #[.slice A1 n1 c1, .slice A2 n2 c2] 38
          have hB7 := HBR.out.trans (hl7.mono HBR.out.size)
          have HIN := Lib.hid (pinsert i A1 A2 n1 c1 n2 c2 gx g N w.heap.size w1.heap.size cur2 tsk (tIn us k2) (tOut us k2) _ (by rw [← HQ.out]; exact HX.out.on hl7) (HTk.out.below hl7) (fun W h => HI1.out.below (hB7.trans h)) q1 (fun W h => HI2.out.below (hB7.trans h)) q2 HSk.out HFk.out (by rw [← HQ.out]; have := HN.out; omega) hxz hgz HB0.out.size)
          have HB7 := Lib.hid hB7
          have t0 := hm7.cell 0
          have t1 := hm7.cell 1
          simp at t0 t1
          have HUD := Lib.hid (drop_cons (ts := us) (k := k2) (by rw [HLU.out]; exact hlt2))
          clear hm7 hl7 hB7 i1 i2 i3 i4 j3 j4 q1 q2 hgb
          go_wp2_with fail
          refine HIN.out.mono ?_
          clear j1 j2 t0 t1
          rintro r w9 ⟨e, ts', rfl, HR, hB9, hok⟩
          have HRR := Lib.hid HR
          clear HR
          have hbw := HB7.out.trans hB9
          by_cases he : e = 0
          · subst he
            obtain ⟨cur', hX', hT'⟩ := hok rfl
            have HXn := Lib.hid hX'
            have HTn := Lib.hid hT'
            have HBn := Lib.hid hbw
            have hl' := HRR.out.len
            have wk1 : IntKind.i64.wrap ((k2 : Int) + 1) = ((k2 + 1 : Nat) : Int) := by rw [IntKind.wrap_i64]; omega
            have HQ2 : Hid (ts'.length ≤ k + (k2 + 1)) := Lib.hid (by have := HQ.out; omega)
            clear hX' hT' hok hbw hB9 hl'
            go_wp2_with fail
            go_roundw
            case measure => simp [intOf]; omega
            case rel =>
              exact ⟨k2 + 1, ts'.length, cur', ts', rfl, by omega, Lib.hid rfl, HQ2.out, HXn, HTn, HBn, Lib.hid (HRR.out.srt HSk.out), Lib.hid (HRR.out.full HFk.out), Lib.hid (fun e ts2 h => HAd.out e ts2 (by rw [HUD.out]; exact AddsR.step HRR.out h))⟩
          · have hne : (e != 0) = true := by simpa using he
            have HE := Lib.hid he
            have m1 := HM1.out _ hbw
            have m2 := HM2.out _ hbw
            have p0 := m1.cell 0
            have p1 := m1.cell 1
            have f0 := m2.free 0
            have f1 := m2.free 1
            have r0 := m2.cell 0
            have r1 := m2.cell 1
            simp at p0 p1 r0 r1
            have HR2 := Lib.hid (m2.set2 (.int .i64 i) (.slice T k tc))
            have HBF := Lib.hid (set2B (g := w.heap.size + 1) (HB0.out.trans (hbw.mono HB0.out.size)) (by omega) (.int .i64 i) (.slice T k tc))
            clear m1 m2 hok hbw hB9 he
            go_wp2_with fail
            (try rw [Exit.noGoto_ret])
            refine bodyPost_ret (results_obs_tmp rfl _ _ (w.heap.size + 1) (.int .i64 i) (.slice T k tc) rfl HR2.out) rfl ?_
            exact ⟨HBF.out, e, ts', HAd.out e ts' (by rw [HUD.out]; exact AddsR.stop HRR.out HE.out ts'), .inl ⟨HE.out, rfl⟩⟩
        · obtain rfl : k2 = un := by omega
          have hkI2 : ¬ (k2 : Int) < (k2 : Int) := by omega
          have m2 := HM2.out _ HBR.out
          have mx := HX.out
          have p0 := mx.cell 0
          have p1 := mx.cell 1
          have f0 := m2.free 0
          have f1 := m2.free 1
          have r0 := m2.cell 0
          have r1 := m2.cell 1
          simp at p0 p1 r0 r1
          have HR2 := Lib.hid (m2.set2 (.int .i64 i) (.slice (some ⟨g, 0, none⟩) q N))
          have HTF := Lib.hid (HTk.out.set2 m2 (.int .i64 i) (.slice (some ⟨g, 0, none⟩) q N))
          have HBF := Lib.hid (set2B (g := w.heap.size + 1) (HB0.out.trans (HBR.out.mono HB0.out.size)) (by omega) (.int .i64 i) (.slice (some ⟨g, 0, none⟩) q N))
          clear m2 mx
          go_wp2_with fail
          (try rw [Exit.noGoto_ret])
          refine bodyPost_ret (results_obs_tmp rfl _ _ (w.heap.size + 1) (.int .i64 i) (.slice (some ⟨g, 0, none⟩) q N) rfl HR2.out) rfl ?_
          exact ⟨HBF.out, 0, tsk, HAd.out 0 tsk (by rw [List.drop_eq_nil_of_le (by rw [HLU.out]; exact Nat.le_refl _)]; exact AddsR.nil tsk), .inr ⟨rfl, g, N, cur2, by rw [← HQ.out]; rfl, HTF.out⟩⟩
  · go_simp
    refine hK.out _ _ (fun _ _ => HS.out _ (bt hbf (alloc_below _ _))) ?_
    (try simp only [Act.put, List.getElem_toArray, List.getElem_cons_zero, List.getElem_cons_succ, List.setIfInBounds_toArray, List.set_cons_zero, List.set_cons_succ])
    have hal := alloc_below wkd (.cells #[.int .i64 0, .slice none 0 0] 24)
    have hx := bx_new wkd #[.int .i64 0, .slice none 0 0] 24
    have hxz : w1.heap.size ≤ wkd.heap.size := hbf.size
    obtain ⟨gx, eqgx⟩ : ∃ gx, gx = wkd.heap.size := ⟨_, rfl⟩
    have hbf := bt hbf hal
    generalize wkd.alloc (.cells #[.int .i64 0, .slice none 0 0] 24) = wk1 at hal hbf hx ⊢
    rw [← eqgx] at hx hxz ⊢
    clear eqgx hal
    refine wpAnyX_one (i := 8) rfl (by kernel_rfl) (fun K hK => ?_)
    refine wp_make_tr rfl _ _ rfl _ _ N rfl rfl hN2 (hK.out _ _ (fun _ _ => HS.out _ (bt hbf (alloc_below _ _))) ?_)
    (try simp only [Act.put, List.getElem_toArray, List.getElem_cons_zero, List.getElem_cons_succ, List.setIfInBounds_toArray, List.set_cons_zero, List.set_cons_succ])
    have hal := alloc_below wk1 (.cells (madeCells #[.slice none 0 0, .slice none 0 0] (N * 2)) 38)
    have hg := bx_new wk1 (madeCells #[.slice none 0 0, .slice none 0 0] (N * 2)) 38
    have hgz : w1.heap.size ≤ wk1.heap.size := hbf.size
    have hx := hx.on hal
    obtain ⟨g, eqg⟩ : ∃ g, g = wk1.heap.size := ⟨_, rfl⟩
    have hbf := bt hbf hal
    generalize wk1.alloc (.cells (madeCells #[.slice none 0 0, .slice none 0 0] (N * 2)) 38) = wk2 at hal hbf hg hx ⊢
    rw [← eqg] at hg hgz ⊢
    clear eqg hal
    refine wpAnyX_pure (i := 9) (v := ?_) rfl (by kernel_rfl) (by kernel_rfl) (by kernel_rfl) (fun _ _ _ h => h) (Or.inl ⟨by rfl, ?_⟩) ?_
    rotate_left
    · (intro W _; go_simp; try with_reducible rfl)
    (try simp only [Act.put, List.getElem_toArray, List.getElem_cons_zero, List.getElem_cons_succ, List.setIfInBounds_toArray, List.set_cons_zero, List.set_cons_succ])
    refine wpAnyX_one (i := 11) rfl (by kernel_rfl) (fun K hK => ?_)
    refine wp_store_row 24 _ _ rfl gx (#[.int .i64 i, .slice (some ⟨g, 0, none⟩) 0 N]) rfl rfl 24 (#[.int .i64 0, .slice none 0 0]) hx (by kernel_rfl) (by rfl) (by simp [Value.oneCell']) (hK.out _ _ (fun h => absurd h (by decide)) ?_)
    (try simp only [Act.put, List.getElem_toArray, List.getElem_cons_zero, List.getElem_cons_succ, List.setIfInBounds_toArray, List.set_cons_zero, List.set_cons_succ])
    refine wpAnyX_done (by kernel_rfl) ?_ _
    have hX0 := hx.row #[.int .i64 i, .slice (some ⟨g, 0, none⟩) 0 N]
    have hT0 : TrO (wk2.setRow gx #[.int .i64 i, .slice (some ⟨g, 0, none⟩) 0 N]) w.heap.size g N _ [] := TrO.start (hg.rowOther (obs_ne_trace hx hg).symm _) (by have := HZ1.out; omega) (size_madeCells _ _) hN2 (made_one N)
    have hBA := below_setRow hbf hxz #[.int .i64 i, .slice (some ⟨g, 0, none⟩) 0 N]
    have HXA := Lib.hid hX0
    have HTA := Lib.hid hT0
    have HBA := Lib.hid hBA
    have t1 := (HM1.out _ hBA).cell 1
    simp at t1
    generalize wk2.setRow gx #[.int .i64 i, .slice (some ⟨g, 0, none⟩) 0 N] = wA at HXA HTA HBA t1 ⊢
    clear hX0 hT0 hBA hx hg hbf
    go_upto_region 3 with fail
    clear t1
    go_loopw [25] (fun v25 wr => ∃ (k : Nat) (cur : Array Value), v25 = .int .i64 k ∧ k ≤ tn ∧ Hid (Bx wr gx #[.int .i64 i, .slice (some ⟨g, 0, none⟩) k N] 24) ∧ Hid (TrO wr w.heap.size g N cur (ts.take k)) ∧ Hid (Below w1.heap.size w1 wr)) (fun v25 _ => tn - (intOf v25).toNat)
    case atStart => exact ⟨0, _, rfl, Nat.zero_le _, HXA, Lib.hid (by rw [List.take_zero]; exact HTA.out), HBA⟩
    case round =>
      obtain ⟨k, cur, rfl, hk, HX, HTk, HBR⟩ := hrel
      by_cases hlt : k < tn
      · obtain ⟨b, off, A1, n1, c1, A2, n2, c2, eT, hgb, j1, j2, q1, q2, j3, j4⟩ := (HT.out.below HBR.out).at_ hlt
        subst eT
        have hkI : (k : Int) < (tn : Int) := by omega
        have hk0 : (0 : Int) ≤ (k : Int) := by omega
        have hl7 := alloc_below wr (.cells #[.slice A1 n1 c1, .slice A2 n2 c2] 38)
        have hm7 := bx_new wr #[.slice A1 n1 c1, .slice A2 n2 c2] 38
        have HI1 := Lib.hid (j3.below hl7)
        have HI2 := Lib.hid (j4.below hl7)
        have HN1 := Lib.hid j3.1
        have HN2 := Lib.hid j4.1
        have hn1 := j3.2.1
        have hn2 := j4.2.1
        have HX7 := Lib.hid (HX.out.on hl7)
        have HT7 := Lib.hid (HTk.out.below hl7)
        have HB7 := Lib.hid (HBR.out.trans (hl7.mono HBR.out.size))
        have HM7 := Lib.hid hm7
        have hlk : (ts.take k).length = k := by rw [List.length_take, HLT.out]; omega
        have HLK := Lib.hid hlk
        have hszw : w.heap.size ≤ wr.heap.size := Nat.le_trans HB0.out.size HBR.out.size
        have hgr : g < wr.heap.size := HTk.out.bx.lt
        clear hm7 j3 j4 q1 q2 hgb hlk
        go_upto_region 5 with fail
        generalize wr.alloc (.cells #[.slice A1 n1 c1, .slice A2 n2 c2] 38) = w7 at hl7 HI1 HI2 HX7 HT7 HB7 HM7 ⊢
        have hw7 : w.heap.size ≤ w7.heap.size := Nat.le_trans hszw hl7.size
        clear j1 j2 hl7
        have HS := Lib.hid (show ∀ W, Below w7.heap.size w7 W → Bx W wr.heap.size #[.slice A1 n1 c1, .slice A2 n2 c2] 38 ∧ W.cell? ⟨gx, 1, none⟩ = some (.slice (some ⟨g, 0, none⟩) k N) from fun W h => ⟨HM7.out.on h, by have := (HX7.out.on h).cell 1; simpa using this⟩)
        have hbf : Below w7.heap.size w7 w7.drew := below_drewN (Below.refl _ _) 1
        refine wp_region_heldX (X := fun k => ([7] : List Nat).contains k) (S := fun W => Bx W wr.heap.size #[.slice A1 n1 c1, .slice A2 n2 c2] 38 ∧ W.cell? ⟨gx, 1, none⟩ = some (.slice (some ⟨g, 0, none⟩) k N)) (by kernel_rfl) ?_
        generalize w7.drew = wkd at hbf ⊢
        refine wpAnyX_pure (i := 0) (v := ?_) rfl (by kernel_rfl) (by kernel_rfl) (by kernel_rfl) (fun _ _ _ h => h) (Or.inl ⟨by rfl, ?_⟩) ?_
        rotate_left
        · (intro W _; go_simp; try with_reducible rfl)
        (try simp only [Act.put, List.getElem_toArray, List.getElem_cons_zero, List.getElem_cons_succ, List.setIfInBounds_toArray, List.set_cons_zero, List.set_cons_succ])
        refine wpAnyX_takeL (L := [7]) (i := 1) (v := ?_) rfl (by kernel_rfl) (by kernel_rfl) (by kernel_rfl) (by kernel_rfl) (fun _ _ _ h => h) (Or.inl ⟨by rfl, ?_⟩) (HS.out _ hbf) ?_
        rotate_left
        · (intro W hSW; (try dsimp only at hSW); obtain ⟨z0, z1⟩ := hSW; go_simp; try with_reducible rfl)
        (try simp only [Act.put, List.getElem_toArray, List.getElem_cons_zero, List.getElem_cons_succ, List.setIfInBounds_toArray, List.set_cons_zero, List.set_cons_succ])
        refine wpAnyX_takeL (L := [7]) (i := 2) (v := .agg (#[.slice A1 n1 c1, .slice A2 n2 c2])) rfl (by kernel_rfl) (by kernel_rfl) (by kernel_rfl) (by kernel_rfl) (fun _ _ _ h => h) (Or.inl ⟨by rfl, fun W hSW => run_load_bx 38 _ rfl (wr.heap.size) rfl 38 (#[.slice A1 n1 c1, .slice A2 n2 c2]) (0, 0) _ (hSW.1) Try.underlying38 rfl (by kernel_rfl)⟩) (HS.out _ hbf) ?_
        (try simp only [Act.put, List.getElem_toArray, List.getElem_cons_zero, List.getElem_cons_succ, List.setIfInBounds_toArray, List.set_cons_zero, List.set_cons_succ])
        refine wpAnyX_one (i := 3) rfl (by kernel_rfl) (fun K hK => ?_)
        go_simp
        go_at_call 105
        refine (pcopied16 A1 A2 n1 c1 n2 c2 (tIn ts k) (tOut ts k) _ (HI1.out.below hbf) (HI2.out.below hbf)).mono ?_
        rintro r w9 ⟨B1, B2, d1, d2, rfl, o1, o2, b9⟩
        have o1 := o1.lower (base' := w.heap.size) (Nat.le_trans hw7 hbf.size)
        have o2 := o2.lower (base' := w.heap.size) (Nat.le_trans hw7 hbf.size)
        have hbf := bt hbf b9
        clear b9
        refine hK.out _ _ (fun _ _ => HS.out _ hbf) ?_
        (try simp only [Act.put, List.getElem_toArray, List.getElem_cons_zero, List.getElem_cons_succ, List.setIfInBounds_toArray, List.set_cons_zero, List.set_cons_succ])
        refine wpAnyX_one (i := 4) rfl (by kernel_rfl) (fun K hK => ?_)
        go_simp
        have l9 := alloc_below w9 (.cells #[.slice B1 n1 d1, .slice B2 n2 d2] 38)
        have hv9 := bx_new w9 #[.slice B1 n1 d1, .slice B2 n2 d2] 38
        obtain ⟨wa, hwa⟩ : ∃ wa, wa = w9.alloc (.cells #[.slice B1 n1 d1, .slice B2 n2 d2] 38) := ⟨_, rfl⟩
        rw [← hwa] at l9 hv9 ⊢
        have o1 := o1.kept l9
        have o2 := o2.kept l9
        have hbf := bt hbf l9
        clear l9 hwa
        refine hK.out _ _ (fun _ _ => HS.out _ hbf) ?_
        (try simp only [Act.put, List.getElem_toArray, List.getElem_cons_zero, List.getElem_cons_succ, List.setIfInBounds_toArray, List.set_cons_zero, List.set_cons_succ])
        refine wpAnyX_one (i := 5) rfl (by kernel_rfl) (fun K hK => ?_)
        have hta := HT7.out.below hbf
        have hrn := hta.push_run (by rw [HLK.out]; have := HN.out; omega) hv9 rfl rfl 22
        rw [HLK.out] at hrn
        refine step_appE rfl _ _ _ _ rfl _ _ rfl rfl _ _ hrn (hK.out _ _ (fun _ _ => ?_) ?_)
        · exact ⟨(HS.out _ hbf).1.rowOther (by have := HX7.out.lt; have := hgr; omega) _, by have := ((HX7.out.on hbf).rowOther (obs_ne_trace (HX7.out.on hbf) hta.bx) (cur.toList.take (k * 2) ++ Value.slice B1 n1 d1 :: Value.slice B2 n2 d2 :: cur.toList.drop (k * 2 + 2)).toArray).cell 1; simpa using this⟩
        (try simp only [Act.put, List.getElem_toArray, List.getElem_cons_zero, List.getElem_cons_succ, List.setIfInBounds_toArray, List.set_cons_zero, List.set_cons_succ])
        obtain ⟨wb, hwb⟩ : ∃ wb, wb = wa.setRow g (cur.toList.take (k * 2) ++ Value.slice B1 n1 d1 :: Value.slice B2 n2 d2 :: cur.toList.drop (k * 2 + 2)).toArray := ⟨_, rfl⟩
        rw [← hwb]
        obtain ⟨cur', htr⟩ := TrO.pushed (w1 := wb) hta (by rw [HLK.out]; have := HN.out; omega) (xs := tIn ts k) (ys := tOut ts k) (B1 := B1) (B2 := B2) (d1 := d1) (d2 := d2) (by rw [HN1.out]; exact o1) (by rw [HN2.out]; exact o2) (by rw [HN1.out]; exact hn1) (by rw [HN2.out]; exact hn2) (by rw [HLK.out, HN1.out, HN2.out]; exact hwb)
        rw [take_snoc (by rw [HLT.out]; exact hlt)] at htr
        have hMb : Bx wb gx #[.int .i64 i, .slice (some ⟨g, 0, none⟩) k N] 24 := by rw [hwb]; exact (HX7.out.on hbf).rowOther (obs_ne_trace (HX7.out.on hbf) hta.bx) _
        have hBb : Below w1.heap.size w1 wb := by rw [hwb]; exact below_setRow (HB7.out.trans (hbf.mono HB7.out.size)) hgz _
        have kx1 := hMb.cell 1
        have kf1 := hMb.free 1
        simp at kx1
        clear hwb hrn hta
        refine wpAnyX_pure (i := 6) (v := ?_) rfl (by kernel_rfl) (by kernel_rfl) (by kernel_rfl) (fun _ _ _ h => h) (Or.inl ⟨by rfl, ?_⟩) ?_
        rotate_left
        · (intro W _; go_simp; try with_reducible rfl)
        (try simp only [Act.put, List.getElem_toArray, List.getElem_cons_zero, List.getElem_cons_succ, List.setIfInBounds_toArray, List.set_cons_zero, List.set_cons_succ])
        refine wpAnyX_one (i := 7) rfl (by kernel_rfl) (fun K hK => ?_)
        go_simp
        refine hK.out _ _ (fun h => absurd h (by decide)) ?_
        (try simp only [Act.put, List.getElem_toArray, List.getElem_cons_zero, List.getElem_cons_succ, List.setIfInBounds_toArray, List.set_cons_zero, List.set_cons_succ])
        refine wpAnyX_done (by kernel_rfl) ?_ _
        have HXn := Lib.hid (hMb.on1 (.slice (some ⟨g, 0, none⟩) (k + 1) N))
        have HTn := Lib.hid (htr.boxed hMb (.slice (some ⟨g, 0, none⟩) (k + 1) N))
        have HBn := Lib.hid (hBb.setCell (p := ⟨gx, 1, none⟩) hxz (.slice (some ⟨g, 0, none⟩) (k + 1) N))
        have wk1 : IntKind.i64.wrap ((k : Int) + 1) = ((k + 1 : Nat) : Int) := by rw [IntKind.wrap_i64]; omega
        clear hMb htr hBb kx1 kf1 hbf o1 o2 hv9
        go_wp2_with fail
        go_roundw
        case measure => simp [intOf]; omega
        case rel => exact ⟨k + 1, cur', rfl, by omega, HXn, HTn, HBn⟩
      obtain rfl : k = tn := by omega
      have hkI : ¬ (k : Int) < (k : Int) := by omega
      have HTk : Hid (TrO wr w.heap.size g N cur ts) := Lib.hid (by have := HTk.out; rwa [List.take_of_length_le (by rw [HLT.out]; exact Nat.le_refl _)] at this)
      go_wp2_with fail
      go_loopw [39] (fun v39 wr => ∃ (k2 q : Nat) (cur2 : Array Value) (tsk : List (List Int × List Int)), v39 = .int .i64 k2 ∧ k2 ≤ un ∧ Hid (q = tsk.length) ∧ q ≤ k + k2 ∧ Hid (Bx wr gx #[.int .i64 i, .slice (some ⟨g, 0, none⟩) q N] 24) ∧ Hid (TrO wr w.heap.size g N cur2 tsk) ∧ Hid (Below w1.heap.size w1 wr) ∧ Hid (Srt tsk) ∧ Hid (Full tsk) ∧ Hid (∀ e ts', AddsR i (us.drop k2) tsk e ts' → AddsR i us ts e ts')) (fun v39 _ => un - (intOf v39).toNat)
      case atStart => exact ⟨0, k, cur, ts, rfl, Nat.zero_le _, Lib.hid HLT.out.symm, Nat.le_refl _, HX, HTk, HBR, HSS, HFF, Lib.hid (fun e ts' h => by rwa [List.drop_zero] at h)⟩
      case round =>
        clear HX HTk HBR
        rename_i wr0
        obtain ⟨k2, q, cur2, tsk, rfl, hk2, HQ, hqk, HX, HTk, HBR, HSk, HFk, HAd⟩ := hrel
        by_cases hlt2 : k2 < un
        · obtain ⟨b, off, A1, n1, c1, A2, n2, c2, eU, hgb, j1, j2, q1, q2, j3, j4⟩ := (HU.out.below HBR.out).at_ hlt2
          subst eU
          obtain ⟨_, _, B1, p1, d1, B2, p2, d2, eU, _, i1, i2, _, _, i3, i4⟩ := HU.out.at_ hlt2
          cases eU
          have HI1 := Lib.hid (show Ints w1 A1 n1 (tIn us k2) by
            have e1 := (HBR.out.cell (p := ⟨b, off + k2 * 2, none⟩) (by assumption)).trans i1
            rw [j1] at e1; cases e1; exact i3)
          have HI2 := Lib.hid (show Ints w1 A2 n2 (tOut us k2) by
            have e1 := (HBR.out.cell (p := ⟨b, off + k2 * 2 + 1, none⟩) (by assumption)).trans i2
            rw [j2] at e1; cases e1; exact i4)
          have hkI2 : (k2 : Int) < (un : Int) := by omega
          have hk02 : (0 : Int) ≤ (k2 : Int) := by omega
          have hl7 := alloc_below wr (.cells #[.slice A1 n1 c1, .slice A2 n2 c2] 38)
          have hm7 := bx_new wr #[.slice A1 n1 c1, .slice A2 n2 c2] 38
          have hB7 := HBR.out.trans (hl7.mono HBR.out.size)
          have HIN := Lib.hid (pinsert i A1 A2 n1 c1 n2 c2 gx g N w.heap.size w1.heap.size cur2 tsk (tIn us k2) (tOut us k2) _ (by rw [← HQ.out]; exact HX.out.on hl7) (HTk.out.below hl7) (fun W h => HI1.out.below (hB7.trans h)) q1 (fun W h => HI2.out.below (hB7.trans h)) q2 HSk.out HFk.out (by rw [← HQ.out]; have := HN.out; omega) hxz hgz HB0.out.size)
          have HB7 := Lib.hid hB7
          have t0 := hm7.cell 0
          have t1 := hm7.cell 1
          simp at t0 t1
          have HUD := Lib.hid (drop_cons (ts := us) (k := k2) (by rw [HLU.out]; exact hlt2))
          clear hm7 hl7 hB7 i1 i2 i3 i4 j3 j4 q1 q2 hgb
          go_wp2_with fail
          refine HIN.out.mono ?_
          clear j1 j2 t0 t1
          rintro r w9 ⟨e, ts', rfl, HR, hB9, hok⟩
          have HRR := Lib.hid HR
          clear HR
          have hbw := HB7.out.trans hB9
          by_cases he : e = 0
          · subst he
            obtain ⟨cur', hX', hT'⟩ := hok rfl
            have HXn := Lib.hid hX'
            have HTn := Lib.hid hT'
            have HBn := Lib.hid hbw
            have hl' := HRR.out.len
            have wk1 : IntKind.i64.wrap ((k2 : Int) + 1) = ((k2 + 1 : Nat) : Int) := by rw [IntKind.wrap_i64]; omega
            have HQ2 : Hid (ts'.length ≤ k + (k2 + 1)) := Lib.hid (by have := HQ.out; omega)
            clear hX' hT' hok hbw hB9 hl'
            go_wp2_with fail
            go_roundw
            case measure => simp [intOf]; omega
            case rel =>
              exact ⟨k2 + 1, ts'.length, cur', ts', rfl, by omega, Lib.hid rfl, HQ2.out, HXn, HTn, HBn, Lib.hid (HRR.out.srt HSk.out), Lib.hid (HRR.out.full HFk.out), Lib.hid (fun e ts2 h => HAd.out e ts2 (by rw [HUD.out]; exact AddsR.step HRR.out h))⟩
          · have hne : (e != 0) = true := by simpa using he
            have HE := Lib.hid he
            have m1 := HM1.out _ hbw
            have m2 := HM2.out _ hbw
            have p0 := m1.cell 0
            have p1 := m1.cell 1
            have f0 := m2.free 0
            have f1 := m2.free 1
            have r0 := m2.cell 0
            have r1 := m2.cell 1
            simp at p0 p1 r0 r1
            have HR2 := Lib.hid (m2.set2 (.int .i64 i) (.slice T k tc))
            have HBF := Lib.hid (set2B (g := w.heap.size + 1) (HB0.out.trans (hbw.mono HB0.out.size)) (by omega) (.int .i64 i) (.slice T k tc))
            clear m1 m2 hok hbw hB9 he
            go_wp2_with fail
            (try rw [Exit.noGoto_ret])
            refine bodyPost_ret (results_obs_tmp rfl _ _ (w.heap.size + 1) (.int .i64 i) (.slice T k tc) rfl HR2.out) rfl ?_
            exact ⟨HBF.out, e, ts', HAd.out e ts' (by rw [HUD.out]; exact AddsR.stop HRR.out HE.out ts'), .inl ⟨HE.out, rfl⟩⟩
        · obtain rfl : k2 = un := by omega
          have hkI2 : ¬ (k2 : Int) < (k2 : Int) := by omega
          have m2 := HM2.out _ HBR.out
          have mx := HX.out
          have p0 := mx.cell 0
          have p1 := mx.cell 1
          have f0 := m2.free 0
          have f1 := m2.free 1
          have r0 := m2.cell 0
          have r1 := m2.cell 1
          simp at p0 p1 r0 r1
          have HR2 := Lib.hid (m2.set2 (.int .i64 i) (.slice (some ⟨g, 0, none⟩) q N))
          have HTF := Lib.hid (HTk.out.set2 m2 (.int .i64 i) (.slice (some ⟨g, 0, none⟩) q N))
          have HBF := Lib.hid (set2B (g := w.heap.size + 1) (HB0.out.trans (HBR.out.mono HB0.out.size)) (by omega) (.int .i64 i) (.slice (some ⟨g, 0, none⟩) q N))
          clear m2 mx
          go_wp2_with fail
          (try rw [Exit.noGoto_ret])
          refine bodyPost_ret (results_obs_tmp rfl _ _ (w.heap.size + 1) (.int .i64 i) (.slice (some ⟨g, 0, none⟩) q N) rfl HR2.out) rfl ?_
          exact ⟨HBF.out, 0, tsk, HAd.out 0 tsk (by rw [List.drop_eq_nil_of_le (by rw [HLU.out]; exact Nat.le_refl _)]; exact AddsR.nil tsk), .inr ⟨rfl, g, N, cur2, by rw [← HQ.out]; rfl, HTF.out⟩⟩
end Go.Proofs.Ytkgdgnmobahhfaa
end

section
/- dictionary of the program. -/
namespace Go.Proofs.Ytkgdgnmobahhfaa
open Go.RowKit

/-- The numbers from 0 on. -/
def upI (k : Nat) : List Int := (List.range k).map fun j => ((j : Nat) : Int)
theorem upI_succ (k : Nat) : upI (k + 1) = upI k ++ [(k : Int)] := by unfold upI; rw [List.range_succ, List.map_append]; rfl
theorem upI_len (k : Nat) : (upI k).length = k := by simp [upI]
theorem results_srt {fn : Func} {p : Tmp} (h : fn.results = #[.cell p 126]) (tmps : Array Value) (w : World) (g : Nat) (v1 v2 : Value)
    (hp : tmps.getD p undef = .pointer (some ⟨g, 0, none⟩)) (hg : Bx w g #[v1, v2] 126) :
    (results fn tmps).run Try.prog w = .ok (.agg #[v1, v2]) w := results_cell_row h _ _ g 126 _ (0, 0) _ hp hg Try.underlying126 rfl (by kernel_rfl)
theorem Bx.on0 {w : World} {g : Nat} {a b : Value} {t : TypeId} (h : Bx w g #[a, b] t) (v : Value) : Bx (w.setCell ⟨g, 0, none⟩ v) g #[v, b] t := by
  have := h.set 0 v
  simpa using this
theorem Bx.onI {w w' : World} {g : Nat} {cs : Array Value} {t : TypeId} (h : Bx w g cs t) (hk : ∀ (g : Nat) (t : TypeId) (cs : Array Value), w.heap[g]? = some (Obj.cells cs t (0, 0)) → t ≠ 3 → w'.heap[g]? = some (Obj.cells cs t (0, 0))) (ht : t ≠ 3) : Bx w' g cs t := hk g t cs h ht
theorem Owned.keptK {w w' : World} {base k g n c : Nat} {xs : List Int} (h : Owned w base (.slice (some ⟨g, 0, none⟩) n c) xs) (hb : Below k w w') (hg : g < k) : Owned w' base (.slice (some ⟨g, 0, none⟩) n c) xs := by
  refine ⟨h.1, ?_⟩
  rcases h.2 with ⟨e, h0⟩ | ⟨g', cap, cur, e, hbg, hg', r⟩
  · cases e
  · refine .inr ⟨g', cap, cur, e, hbg, ?_, r⟩
    injection e with e1
    injection e1 with e1
    injection e1 with e1
    subst e1
    exact (hb.block g hg).trans hg'
theorem Ints.none0 (A : Option Addr) (w : World) : Ints w A 0 [] := ⟨rfl, by omega, fun h => absurd h (by omega)⟩
/-- Up to P neighbours are compared. -/
def ShP (ts : List (List Int × List Int)) (os : List Int) (P : Nat) (ss : List Int) : Prop := ss.length = P ∧ ∀ p, p < P → ss.getD p 0 = cmn (tIn ts (opo os p)) (tIn ts (opo os (p + 1)))
theorem ShP.snoc {ts : List (List Int × List Int)} {os ss : List Int} {P : Nat} (h : ShP ts os P ss) : ShP ts os (P + 1) (ss ++ [(cmn (tIn ts (opo os P)) (tIn ts (opo os (P + 1))) : Int)]) := by
  refine ⟨by simp [h.1], fun p hp => ?_⟩
  rcases Nat.lt_or_ge p P with hlt | hge
  · rw [← h.2 p hlt, List.getD_eq_getElem?_getD, List.getD_eq_getElem?_getD, List.getElem?_append_left (by rw [h.1]; exact hlt)]
  · obtain rfl : p = P := by omega
    rw [List.getD_eq_getElem?_getD, List.getElem?_append_right (by rw [h.1]; exact Nat.le_refl _), h.1, Nat.sub_self]
    rfl
theorem dict_none : Dict [] [] [] := ⟨rfl, fun p h => absurd h (by simp), fun p h => absurd h (by simp), fun p q h => absurd h (by simp), fun p q _ h => absurd h (by simp), rfl, fun p h => absurd h (by simp)⟩

set_option linter.unusedSimpArgs false in
set_option linter.unusedVariables false in
set_option maxHeartbeats 16000000 in
set_option maxRecDepth 100000 in
theorem pdict (L : Option Addr) (n c : Nat) (ts : List (List Int × List Int)) (w : World) (hT : Trs w L n ts) (hn : n ≤ 10000) :
    Calls Try.prog 95 #[.slice L n c] w (DictE ts n w) := by
  obtain ⟨w0, hw0⟩ : ∃ w0, w0 = ((w.alloc (.cells #[.slice L n c] 22)).alloc (.cells #[.slice none 0 0, .slice none 0 0] 126)).alloc (.cells #[.slice none 0 0, .slice none 0 0] 126) := ⟨_, rfl⟩
  obtain ⟨hb0, m1, m2, m3, hs0⟩ := bxs3 w #[.slice L n c] #[.slice none 0 0, .slice none 0 0] #[.slice none 0 0, .slice none 0 0] 22 126 126 w0 hw0
  obtain ⟨bl, hbl⟩ : ∃ bl, bl = w.heap.size := ⟨_, rfl⟩
  obtain ⟨bd, hbd⟩ : ∃ bd, bd = w.heap.size + 1 + 1 := ⟨_, rfl⟩
  obtain ⟨z, hz⟩ : ∃ z, z = w0.heap.size := ⟨_, rfl⟩
  have HM1 := Lib.hid (fun (W : World) (h : Below bd w0 W) => m1.kept h (by omega))
  have HM2 := Lib.hid (fun (W : World) (h : Below bd w0 W) => m2.kept h (by omega))
  rw [← hbd] at m3
  have HM3 := Lib.hid m3
  have HT := Lib.hid (fun (W : World) (h : Below bd w0 W) => hT.below (hb0.trans (h.mono (by omega))))
  have HB0 := Lib.hid hb0
  have HW0 := Lib.hid hw0
  have HLT := Lib.hid hT.1
  have HBD := Lib.hid hbd
  have hbz : bd + 1 = w0.heap.size := by omega
  have HBZ := Lib.hid hbz
  have l1 := m1.cell 0
  simp at l1
  rw [hw0] at l1
  clear hw0 hb0 m1 m2 m3 hs0 hT hbl hbd hz hbz
  go_enter Try.func95, Try.ntmps95
  go_upto_region 3 with fail
  rw [← HW0.out]
  clear l1
  go_loopw [8] (fun v8 wr => ∃ (k : Nat) (O : Option Addr) (cO : Nat), v8 = .int .i64 k ∧ k ≤ n ∧ Hid (Bx wr (w.heap.size + 1 + 1) #[.slice O k cO, .slice none 0 0] 126) ∧ Hid (Owned wr w0.heap.size (.slice O k cO) (upI k)) ∧ Hid (Below bd w0 wr) ∧ Hid (w0.heap.size ≤ wr.heap.size)) (fun v8 _ => n - (intOf v8).toNat)
  case atStart => exact ⟨0, none, 0, rfl, Nat.zero_le _, Lib.hid (by rw [← HBD.out]; exact HM3.out), Lib.hid (Owned.nil _ _), Lib.hid (Below.refl _ _), Lib.hid (Nat.le_refl _)⟩
  case round =>
    obtain ⟨k, O, cO, rfl, hk, HX, HO, HBR, HZR⟩ := hrel
    by_cases hlt : k < n
    · have hkI : (k : Int) < (n : Int) := by omega
      have hx0 := HX.out.cell 0
      simp at hx0
      obtain ⟨O2, cO2, w2, hr, ho2, hb2, hk2⟩ := run_append_one HO.out (k : Int) HZR.out (by rw [upI_len]; omega)
      rw [upI_len] at hr ho2
      rw [← upI_succ] at ho2
      have hX2 := HX.out.onI hk2 (by decide)
      have hx2 := hX2.cell 0
      have hf2 := hX2.free 0
      simp at hx2
      have HXn := Lib.hid (hX2.on0 (.slice O2 (k + 1) cO2))
      have HOn := Lib.hid (ho2.keptT (hX2.keptSet (t := 3) (k := 0) (by decide) (.slice O2 (k + 1) cO2)))
      have hb3 := (hb2.mono (by have := HBZ.out; omega : bd ≤ w0.heap.size)).setCell (p := ⟨w.heap.size + 1 + 1, 0, none⟩) (by have := HBD.out; omega : bd ≤ w.heap.size + 1 + 1) (.slice O2 (k + 1) cO2)
      have HBn := Lib.hid (HBR.out.trans hb3)
      have HZn := Lib.hid (Nat.le_trans HZR.out hb3.size)
      have wk1 : IntKind.i64.wrap ((k : Int) + 1) = ((k + 1 : Nat) : Int) := by rw [IntKind.wrap_i64]; omega
      clear ho2 hb2 hk2 hX2 hb3
      go_wp2_with (at_builtin; refine Lib.wpList_append_run _ rfl _ _ _ _ rfl _ _ rfl rfl _ _ hr ?_)
      go_roundw
      case rel => exact ⟨k + 1, O2, cO2, rfl, by omega, HXn, HOn, HBn, HZn⟩
      case measure => simp [intOf]; omega
    obtain rfl : k = n := by omega
    have hkI : ¬ (k : Int) < (k : Int) := by omega
    have hx0 := HX.out.cell 0
    simp at hx0
    by_cases h0 : k = 0
    · subst h0
      obtain rfl : ts = [] := List.eq_nil_of_length_eq_zero HLT.out
      obtain ⟨g0, hg0⟩ : ∃ g0, g0 = O := ⟨_, rfl⟩
      have hnone := fun W => AnyF.slices_SortFunc_none (P := Try.prog) (ρ := Try.sortF_ren) { Try.sortF with } O cO (.func (.func 120) #[] #[.pointer (some ⟨w.heap.size, 0, none⟩)]) W
      have HNO := Lib.hid (show ∀ W, Calls Try.prog 119 #[.slice O 0 cO, .func (.func 120) #[] #[.pointer (some ⟨w.heap.size, 0, none⟩)]] W fun e w' => e = .returned (.tuple #[]) ∧ w' = W from hnone)
      have t1 := (HM1.out _ HBR.out).cell 0
      simp at t1
      have hx1 := HX.out.cell 1
      simp at hx1
      have m2 := HM2.out _ HBR.out
      have f0 := m2.free 0
      have f1 := m2.free 1
      have r0 := m2.cell 0
      have r1 := m2.cell 1
      simp at r0 r1
      have HR2 := Lib.hid (m2.set2 (.slice O 0 cO) (.slice none 0 0))
      have HBF := Lib.hid (set2B (g := w.heap.size + 1) (HB0.out.trans (HBR.out.mono (by have := HBD.out; omega))) (by omega) (.slice O 0 cO) (.slice none 0 0))
      clear hnone m2
      go_wp2_with fail
      refine (HNO.out _).mono ?_
      rintro r w5 ⟨rfl, rfl⟩
      go_wp2_with fail
      refine wp_loop_rounds 1 ?_
      rw [rounds_succ]
      go_wp2_with fail
      (try rw [Exit.noGoto_ret])
      refine bodyPost_ret (results_srt rfl _ _ (w.heap.size + 1) (.slice O 0 cO) (.slice none 0 0) rfl HR2.out) rfl ?_
      exact ⟨O, none, 0, cO, 0, [], [], rfl, dict_none, Ints.none0 O _, Ints.none0 none _, Nat.zero_le _, Nat.le_refl _, HBF.out⟩
    · obtain ⟨M, rfl⟩ : ∃ M, k = M + 1 := ⟨k - 1, by omega⟩
      obtain ⟨g, eO⟩ : ∃ g, O = some ⟨g, 0, none⟩ := by
        rcases HO.out.2 with ⟨e, h1⟩ | ⟨g, cap, cur, e, _⟩
        · rw [upI_len] at h1; omega
        · injection e with e1; exact ⟨g, e1⟩
      subst eO
      have HSO := Lib.hid (psortF M L c w.heap.size g cO w0.heap.size ts wr (fun W h => ⟨HT.out _ (HBR.out.trans (h.mono (by have := HBZ.out; omega))), by have := (HM1.out _ (HBR.out.trans (h.mono (by have := HBZ.out; omega)))).cell 0; simpa using this⟩) HO.out HZR.out (by omega))
      go_wp2_with fail
      refine HSO.out.mono ?_
      rintro r w5 ⟨rfl, b5, d', hp, hsd, o5⟩
      have hsz5 : d'.size = M + 1 := by rw [hp.1]; simp [allF]
      obtain ⟨os, hos⟩ : ∃ os, os = (toI d').toList := ⟨_, rfl⟩
      have HD5 := Lib.hid (show ∀ ss, ShP ts os M ss → Dict ts os ss from fun ss h => by rw [hos]; exact dict_of hp hsd HLT.out h.1 (by rw [← hos]; exact h.2))
      have HDP := Lib.hid (show ∀ p, p < M + 1 → 0 ≤ os.getD p 0 ∧ opo os p < M + 1 by
        intro p hp'
        have hv : os.getD p 0 = ((d'[p]!).val : Int) := by
          rw [hos, ← toI_get d' (by rw [hsz5]; exact hp'), List.getD_eq_getElem?_getD, Array.getElem?_toList, getElem!_pos _ p (by simpa [toI, hsz5] using hp'), Array.getElem?_eq_getElem (by simpa [toI, hsz5] using hp')]
          rfl
        unfold opo
        rw [hv]
        have := (d'[p]!).isLt
        omega)
      rw [← hos] at o5
      have HO5 := Lib.hid o5
      have hg5 : g < w5.heap.size := by
        rcases o5.2 with ⟨e, h1⟩ | ⟨g', cap, cur, e, _, hh, _⟩
        · cases e
        · injection e with e1
          injection e1 with e1
          injection e1 with e1
          subst e1
          exact heap_lt hh
      have hcO5 : M + 1 ≤ cO := by
        rcases o5.2 with ⟨e, h1⟩ | ⟨g', cap, cur, e, _, hh, hle, _⟩
        · cases e
        · injection e with _ e2 e3
          omega
      have HX5 := Lib.hid (HX.out.kept b5 (by have := HBZ.out; have := HBD.out; omega))
      have HB5 := Lib.hid (HBR.out.trans (b5.mono (by have := HBZ.out; omega)))
      have hz5 : w0.heap.size ≤ w5.heap.size := Nat.le_trans HZR.out b5.size
      clear hos hp hsd o5 b5 hsz5 HSO HO HX HBR
      go_wp2_with fail
      go_loopw [5] (fun v5 wq => ∃ (P : Nat) (S : Option Addr) (cS : Nat) (ss : List Int), v5 = .int .i64 ((P + 1 : Nat) : Int) ∧ P ≤ M ∧ Hid (Bx wq (w.heap.size + 1 + 1) #[.slice (some ⟨g, 0, none⟩) (M + 1) cO, .slice S P cS] 126) ∧ Hid (Owned wq w5.heap.size (.slice S P cS) ss) ∧ Hid (Owned wq w0.heap.size (.slice (some ⟨g, 0, none⟩) (M + 1) cO) os) ∧ Hid (ShP ts os P ss) ∧ Hid (Below bd w0 wq) ∧ Hid (w5.heap.size ≤ wq.heap.size)) (fun v5 _ => M + 1 - (intOf v5).toNat)
      case atStart => exact ⟨0, none, 0, [], rfl, Nat.zero_le _, HX5, Lib.hid (Owned.nil _ _), HO5, Lib.hid ⟨rfl, fun p h => absurd h (by omega)⟩, HB5, Lib.hid (Nat.le_refl _)⟩
      case round =>
        rename_i wr0
        clear HX5 HB5 HO5
        obtain ⟨P, S, cS, ss, rfl, hPM, HX, HSq, HOq, HSH, HBR, HZQ⟩ := hrel
        have t1 := (HM1.out _ HBR.out).cell 0
        simp at t1
        by_cases hlt : P < M
        · obtain ⟨o1, ho1⟩ : ∃ o1, o1 = opo os P := ⟨_, rfl⟩
          obtain ⟨o2, ho2⟩ : ∃ o2, o2 = opo os (P + 1) := ⟨_, rfl⟩
          have hr1 := HDP.out P (by omega)
          have hr2 := HDP.out (P + 1) (by omega)
          have ho1I : os.getD P 0 = (o1 : Int) := by rw [ho1]; unfold opo; omega
          have ho2I : os.getD (P + 1) 0 = (o2 : Int) := by rw [ho2]; unfold opo; omega
          have ho1n : o1 < M + 1 := by rw [ho1]; exact hr1.2
          have ho2n : o2 < M + 1 := by rw [ho2]; exact hr2.2
          have hosl : os.length = M + 1 := by obtain ⟨A', c', e⟩ := HOq.out.form; injection e with _ e2; exact e2.symm
          have hoi := HOq.out.ints (by rw [hosl]; omega)
          obtain ⟨_, _, eg, _, rO1⟩ := hoi.at_ (k := P) (by omega)
          cases eg
          obtain ⟨_, _, eg, _, rO2⟩ := hoi.at_ (k := P + 1) (by omega)
          cases eg
          rw [ho1I, Nat.zero_add] at rO1
          rw [ho2I, Nat.zero_add] at rO2
          obtain ⟨bT, oT, A1, n1, c1, A2, n2, c2, eT, hgT, j1, _, _, _, j3, _⟩ := (HT.out _ HBR.out).at_ ho1n
          subst eT
          obtain ⟨_, _, B1, m1, d1, B2, m2, d2, eT, _, i1, _, _, _, i3, _⟩ := (HT.out _ HBR.out).at_ ho2n
          cases eT
          obtain ⟨_, _, _, _, _, _, _, _, eX, hgX, _⟩ := (HT.out w0 (Below.refl _ _)).at_ ho1n
          cases eX
          have HTB := Lib.hid (Nat.lt_of_lt_of_le hgX hz5)
          clear hgX
          have HO1 := Lib.hid ho1
          have HO2 := Lib.hid ho2
          have HJ := Lib.hid (fun (W : World) (h : Below wr.heap.size wr W) => j3.below h)
          have HI := Lib.hid (fun (W : World) (h : Below wr.heap.size wr W) => i3.below h)
          have hx0 := HX.out.cell 0
          have hx1 := HX.out.cell 1
          simp at hx0 hx1
          have hxl := HX.out.lt
          have hgl : g < wr.heap.size := Nat.lt_of_lt_of_le hg5 HZQ.out
          have hwl := (HM1.out _ HBR.out).lt
          have HS := Lib.hid (show ∀ W, Below wr.heap.size wr W → W.cell? ⟨w.heap.size + 1 + 1, 1, none⟩ = some (.slice S P cS) ∧ W.cell? ⟨w.heap.size, 0, none⟩ = some (.slice (some ⟨bT, oT, none⟩) (M + 1) c) ∧ W.cell? ⟨w.heap.size + 1 + 1, 0, none⟩ = some (.slice (some ⟨g, 0, none⟩) (M + 1) cO) ∧ W.cell? ⟨g, P, none⟩ = some (.int .i64 o1) ∧ W.cell? ⟨g, P + 1, none⟩ = some (.int .i64 o2) ∧ W.cell? ⟨bT, oT + o1 * 2, none⟩ = some (.slice A1 n1 c1) ∧ W.cell? ⟨bT, oT + o2 * 2, none⟩ = some (.slice B1 m1 d1) from fun W h => ⟨(h.cell (p := ⟨w.heap.size + 1 + 1, 1, none⟩) hxl).trans hx1, (h.cell (p := ⟨w.heap.size, 0, none⟩) hwl).trans t1, (h.cell (p := ⟨w.heap.size + 1 + 1, 0, none⟩) hxl).trans hx0, (h.cell (p := ⟨g, P, none⟩) hgl).trans rO1, (h.cell (p := ⟨g, P + 1, none⟩) hgl).trans rO2, (h.cell (p := ⟨bT, oT + o1 * 2, none⟩) hgT).trans j1, (h.cell (p := ⟨bT, oT + o2 * 2, none⟩) hgT).trans i1⟩)
          have hsl : ss.length = P := HSH.out.1
          have HSL := Lib.hid hsl
          have hPI : ((P + 1 : Nat) : Int) < ((M + 1 : Nat) : Int) := by omega
          have hPI' : (P : Int) < (M : Int) := by omega
          have g0 : (0 : Int) ≤ (P : Int) := by omega
          have g1 : (P : Int) < (M : Int) + 1 := by omega
          have g2 : (0 : Int) ≤ (P : Int) + 1 := by omega
          have g3 : (P : Int) + 1 < (M : Int) + 1 := by omega
          have g4 : (0 : Int) ≤ (o1 : Int) := by omega
          have g5 : (o1 : Int) < (M : Int) + 1 := by omega
          have g6 : (0 : Int) ≤ (o2 : Int) := by omega
          have g7 : (o2 : Int) < (M : Int) + 1 := by omega
          have wP0 : IntKind.i64.wrap ((P : Int) + 1 - 1) = (P : Int) := by rw [IntKind.wrap_i64]; omega
          have wP0' : IntKind.i64.wrap (P : Int) = (P : Int) := by rw [IntKind.wrap_i64]; omega
          have wP1 : IntKind.i64.wrap ((P : Int) + 1 + 1) = ((P + 1 + 1 : Nat) : Int) := by rw [IntKind.wrap_i64]; omega
          clear ho1 ho2 hr1 hr2 ho1I ho2I hoi rO1 rO2 j1 j3 i1 i3 hgT hosl hsl
          go_upto_region 11 with fail
          clear hx0 hx1 t1
          have hbf : Below wr.heap.size wr wr.drew := below_drewN (Below.refl _ _) 1
          refine wp_region_heldX (X := fun k => ([25] : List Nat).contains k) (S := fun W => W.cell? ⟨w.heap.size + 1 + 1, 1, none⟩ = some (.slice S P cS) ∧ W.cell? ⟨w.heap.size, 0, none⟩ = some (.slice (some ⟨bT, oT, none⟩) (M + 1) c) ∧ W.cell? ⟨w.heap.size + 1 + 1, 0, none⟩ = some (.slice (some ⟨g, 0, none⟩) (M + 1) cO) ∧ W.cell? ⟨g, P, none⟩ = some (.int .i64 o1) ∧ W.cell? ⟨g, P + 1, none⟩ = some (.int .i64 o2) ∧ W.cell? ⟨bT, oT + o1 * 2, none⟩ = some (.slice A1 n1 c1) ∧ W.cell? ⟨bT, oT + o2 * 2, none⟩ = some (.slice B1 m1 d1)) (by kernel_rfl) ?_
          generalize wr.drew = wkd at hbf ⊢
          refine wpAnyX_pure (i := 0) (v := ?_) rfl (by kernel_rfl) (by kernel_rfl) (by kernel_rfl) (fun _ _ _ h => h) (Or.inl ⟨by rfl, ?_⟩) ?_
          rotate_left
          · (intro W _; go_simp; try with_reducible rfl)
          (try simp only [Act.put, List.getElem_toArray, List.getElem_cons_zero, List.getElem_cons_succ, List.setIfInBounds_toArray, List.set_cons_zero, List.set_cons_succ])
          refine wpAnyX_takeL (L := [25]) (i := 1) (v := ?_) rfl (by kernel_rfl) (by kernel_rfl) (by kernel_rfl) (by kernel_rfl) (fun _ _ _ h => h) (Or.inl ⟨by rfl, ?_⟩) (HS.out _ hbf) ?_
          rotate_left
          · (intro W hSW; (try dsimp only at hSW); obtain ⟨z0, z1, z2, z3, z4, z5, z6⟩ := hSW; go_simp; try with_reducible rfl)
          (try simp only [Act.put, List.getElem_toArray, List.getElem_cons_zero, List.getElem_cons_succ, List.setIfInBounds_toArray, List.set_cons_zero, List.set_cons_succ])
          refine wpAnyX_takeL (L := [25]) (i := 2) (v := ?_) rfl (by kernel_rfl) (by kernel_rfl) (by kernel_rfl) (by kernel_rfl) (fun _ _ _ h => h) (Or.inl ⟨by rfl, ?_⟩) (HS.out _ hbf) ?_
          rotate_left
          · (intro W hSW; (try dsimp only at hSW); obtain ⟨z0, z1, z2, z3, z4, z5, z6⟩ := hSW; go_simp; try with_reducible rfl)
          (try simp only [Act.put, List.getElem_toArray, List.getElem_cons_zero, List.getElem_cons_succ, List.setIfInBounds_toArray, List.set_cons_zero, List.set_cons_succ])
          refine wpAnyX_pure (i := 3) (v := ?_) rfl (by kernel_rfl) (by kernel_rfl) (by kernel_rfl) (fun _ _ _ h => h) (Or.inl ⟨by rfl, ?_⟩) ?_
          rotate_left
          · (intro W _; go_simp; try with_reducible rfl)
          (try simp only [Act.put, List.getElem_toArray, List.getElem_cons_zero, List.getElem_cons_succ, List.setIfInBounds_toArray, List.set_cons_zero, List.set_cons_succ])
          refine wpAnyX_takeL (L := [25]) (i := 4) (v := ?_) rfl (by kernel_rfl) (by kernel_rfl) (by kernel_rfl) (by kernel_rfl) (fun _ _ _ h => h) (Or.inl ⟨by rfl, ?_⟩) (HS.out _ hbf) ?_
          rotate_left
          · (intro W hSW; (try dsimp only at hSW); obtain ⟨z0, z1, z2, z3, z4, z5, z6⟩ := hSW; go_simp; try with_reducible rfl)
          (try simp only [Act.put, List.getElem_toArray, List.getElem_cons_zero, List.getElem_cons_succ, List.setIfInBounds_toArray, List.set_cons_zero, List.set_cons_succ])
          refine wpAnyX_pure (i := 5) (v := ?_) rfl (by kernel_rfl) (by kernel_rfl) (by kernel_rfl) (fun _ _ _ h => h) (Or.inl ⟨by rfl, ?_⟩) ?_
          rotate_left
          · (intro W _; go_simp; try with_reducible rfl)
          (try simp only [Act.put, List.getElem_toArray, List.getElem_cons_zero, List.getElem_cons_succ, List.setIfInBounds_toArray, List.set_cons_zero, List.set_cons_succ])
          refine wpAnyX_pure (i := 6) (v := ?_) rfl (by kernel_rfl) (by kernel_rfl) (by kernel_rfl) (fun _ _ _ h => h) (Or.inl ⟨by rfl, ?_⟩) ?_
          rotate_left
          · (intro W _; go_simp; try with_reducible rfl)
          (try simp only [Act.put, List.getElem_toArray, List.getElem_cons_zero, List.getElem_cons_succ, List.setIfInBounds_toArray, List.set_cons_zero, List.set_cons_succ])
          refine wpAnyX_pure (i := 7) (v := ?_) rfl (by kernel_rfl) (by kernel_rfl) (by kernel_rfl) (fun _ _ _ h => h) (Or.inl ⟨by rfl, ?_⟩) ?_
          rotate_left
          · (intro W _; go_simp; try with_reducible rfl)
          (try simp only [Act.put, List.getElem_toArray, List.getElem_cons_zero, List.getElem_cons_succ, List.setIfInBounds_toArray, List.set_cons_zero, List.set_cons_succ])
          refine wpAnyX_takeL (L := [25]) (i := 8) (v := ?_) rfl (by kernel_rfl) (by kernel_rfl) (by kernel_rfl) (by kernel_rfl) (fun _ _ _ h => h) (Or.inl ⟨by rfl, ?_⟩) (HS.out _ hbf) ?_
          rotate_left
          · (intro W hSW; (try dsimp only at hSW); obtain ⟨z0, z1, z2, z3, z4, z5, z6⟩ := hSW; go_simp; try with_reducible rfl)
          (try simp only [Act.put, List.getElem_toArray, List.getElem_cons_zero, List.getElem_cons_succ, List.setIfInBounds_toArray, List.set_cons_zero, List.set_cons_succ])
          refine wpAnyX_pure (i := 9) (v := ?_) rfl (by kernel_rfl) (by kernel_rfl) (by kernel_rfl) (fun _ _ _ h => h) (Or.inl ⟨by rfl, ?_⟩) ?_
          rotate_left
          · (intro W _; go_simp; try with_reducible rfl)
          (try simp only [Act.put, List.getElem_toArray, List.getElem_cons_zero, List.getElem_cons_succ, List.setIfInBounds_toArray, List.set_cons_zero, List.set_cons_succ])
          refine wpAnyX_pure (i := 10) (v := ?_) rfl (by kernel_rfl) (by kernel_rfl) (by kernel_rfl) (fun _ _ _ h => h) (Or.inl ⟨by rfl, ?_⟩) ?_
          rotate_left
          · (intro W _; go_simp; try with_reducible rfl)
          (try simp only [Act.put, List.getElem_toArray, List.getElem_cons_zero, List.getElem_cons_succ, List.setIfInBounds_toArray, List.set_cons_zero, List.set_cons_succ])
          refine wpAnyX_takeL (L := [25]) (i := 11) (v := ?_) rfl (by kernel_rfl) (by kernel_rfl) (by kernel_rfl) (by kernel_rfl) (fun _ _ _ h => h) (Or.inl ⟨by rfl, ?_⟩) (HS.out _ hbf) ?_
          rotate_left
          · (intro W hSW; (try dsimp only at hSW); obtain ⟨z0, z1, z2, z3, z4, z5, z6⟩ := hSW; go_simp; try with_reducible rfl)
          (try simp only [Act.put, List.getElem_toArray, List.getElem_cons_zero, List.getElem_cons_succ, List.setIfInBounds_toArray, List.set_cons_zero, List.set_cons_succ])
          refine wpAnyX_takeL (L := [25]) (i := 12) (v := ?_) rfl (by kernel_rfl) (by kernel_rfl) (by kernel_rfl) (by kernel_rfl) (fun _ _ _ h => h) (Or.inl ⟨by rfl, ?_⟩) (HS.out _ hbf) ?_
          rotate_left
          · (intro W hSW; (try dsimp only at hSW); obtain ⟨z0, z1, z2, z3, z4, z5, z6⟩ := hSW; go_simp; try with_reducible rfl)
          (try simp only [Act.put, List.getElem_toArray, List.getElem_cons_zero, List.getElem_cons_succ, List.setIfInBounds_toArray, List.set_cons_zero, List.set_cons_succ])
          refine wpAnyX_pure (i := 13) (v := ?_) rfl (by kernel_rfl) (by kernel_rfl) (by kernel_rfl) (fun _ _ _ h => h) (Or.inl ⟨by rfl, ?_⟩) ?_
          rotate_left
          · (intro W _; go_simp; try with_reducible rfl)
          (try simp only [Act.put, List.getElem_toArray, List.getElem_cons_zero, List.getElem_cons_succ, List.setIfInBounds_toArray, List.set_cons_zero, List.set_cons_succ])
          refine wpAnyX_takeL (L := [25]) (i := 14) (v := ?_) rfl (by kernel_rfl) (by kernel_rfl) (by kernel_rfl) (by kernel_rfl) (fun _ _ _ h => h) (Or.inl ⟨by rfl, ?_⟩) (HS.out _ hbf) ?_
          rotate_left
          · (intro W hSW; (try dsimp only at hSW); obtain ⟨z0, z1, z2, z3, z4, z5, z6⟩ := hSW; go_simp; try with_reducible rfl)
          (try simp only [Act.put, List.getElem_toArray, List.getElem_cons_zero, List.getElem_cons_succ, List.setIfInBounds_toArray, List.set_cons_zero, List.set_cons_succ])
          refine wpAnyX_pure (i := 15) (v := ?_) rfl (by kernel_rfl) (by kernel_rfl) (by kernel_rfl) (fun _ _ _ h => h) (Or.inl ⟨by rfl, ?_⟩) ?_
          rotate_left
          · (intro W _; go_simp; try with_reducible rfl)
          (try simp only [Act.put, List.getElem_toArray, List.getElem_cons_zero, List.getElem_cons_succ, List.setIfInBounds_toArray, List.set_cons_zero, List.set_cons_succ])
          refine wpAnyX_pure (i := 16) (v := ?_) rfl (by kernel_rfl) (by kernel_rfl) (by kernel_rfl) (fun _ _ _ h => h) (Or.inl ⟨by rfl, ?_⟩) ?_
          rotate_left
          · (intro W _; go_simp; try with_reducible rfl)
          (try simp only [Act.put, List.getElem_toArray, List.getElem_cons_zero, List.getElem_cons_succ, List.setIfInBounds_toArray, List.set_cons_zero, List.set_cons_succ])
          refine wpAnyX_takeL (L := [25]) (i := 17) (v := ?_) rfl (by kernel_rfl) (by kernel_rfl) (by kernel_rfl) (by kernel_rfl) (fun _ _ _ h => h) (Or.inl ⟨by rfl, ?_⟩) (HS.out _ hbf) ?_
          rotate_left
          · (intro W hSW; (try dsimp only at hSW); obtain ⟨z0, z1, z2, z3, z4, z5, z6⟩ := hSW; go_simp; try with_reducible rfl)
          (try simp only [Act.put, List.getElem_toArray, List.getElem_cons_zero, List.getElem_cons_succ, List.setIfInBounds_toArray, List.set_cons_zero, List.set_cons_succ])
          refine wpAnyX_pure (i := 18) (v := ?_) rfl (by kernel_rfl) (by kernel_rfl) (by kernel_rfl) (fun _ _ _ h => h) (Or.inl ⟨by rfl, ?_⟩) ?_
          rotate_left
          · (intro W _; go_simp; try with_reducible rfl)
          (try simp only [Act.put, List.getElem_toArray, List.getElem_cons_zero, List.getElem_cons_succ, List.setIfInBounds_toArray, List.set_cons_zero, List.set_cons_succ])
          refine wpAnyX_pure (i := 19) (v := ?_) rfl (by kernel_rfl) (by kernel_rfl) (by kernel_rfl) (fun _ _ _ h => h) (Or.inl ⟨by rfl, ?_⟩) ?_
          rotate_left
          · (intro W _; go_simp; try with_reducible rfl)
          (try simp only [Act.put, List.getElem_toArray, List.getElem_cons_zero, List.getElem_cons_succ, List.setIfInBounds_toArray, List.set_cons_zero, List.set_cons_succ])
          refine wpAnyX_takeL (L := [25]) (i := 20) (v := ?_) rfl (by kernel_rfl) (by kernel_rfl) (by kernel_rfl) (by kernel_rfl) (fun _ _ _ h => h) (Or.inl ⟨by rfl, ?_⟩) (HS.out _ hbf) ?_
          rotate_left
          · (intro W hSW; (try dsimp only at hSW); obtain ⟨z0, z1, z2, z3, z4, z5, z6⟩ := hSW; go_simp; try with_reducible rfl)
          (try simp only [Act.put, List.getElem_toArray, List.getElem_cons_zero, List.getElem_cons_succ, List.setIfInBounds_toArray, List.set_cons_zero, List.set_cons_succ])
          refine wpAnyX_one (i := 21) rfl (by kernel_rfl) (fun K hK => ?_)
          go_simp
          go_at_call 96
          refine (wcommon A1 B1 n1 c1 m1 d1 (tIn ts o1) (tIn ts o2) _ (HJ.out _ hbf) (HI.out _ hbf)).mono ?_
          rintro r w6 ⟨rfl, q6, rfl⟩
          have hbf := below_drewN hbf q6
          generalize wkd.drewN q6 = wk6 at hbf ⊢
          obtain ⟨x, hx⟩ : ∃ x, x = cmn (tIn ts o1) (tIn ts o2) := ⟨_, rfl⟩
          rw [← hx]
          have HXV := Lib.hid hx
          clear hx
          refine hK.out _ _ (fun _ _ => HS.out _ hbf) ?_
          (try simp only [Act.put, List.getElem_toArray, List.getElem_cons_zero, List.getElem_cons_succ, List.setIfInBounds_toArray, List.set_cons_zero, List.set_cons_succ])
          refine wpAnyX_one (i := 22) rfl (by kernel_rfl) (fun K hK => ?_)
          go_simp
          refine hK.out _ _ (fun _ _ => HS.out _ (bt hbf (alloc_below _ _))) ?_
          (try simp only [Act.put, List.getElem_toArray, List.getElem_cons_zero, List.getElem_cons_succ, List.setIfInBounds_toArray, List.set_cons_zero, List.set_cons_succ])
          refine wpAnyX_one (i := 23) rfl (by kernel_rfl) (fun K hK => ?_)
          obtain ⟨S2, cS2, w7, hr, oS2, bS2, hkS2⟩ := run_append_one (HSq.out.kept hbf) (x : Int) (Nat.le_trans HZQ.out hbf.size) (by rw [HSL.out]; omega)
          rw [HSL.out] at hr oS2
          have hX7 := (HX.out.on hbf).onI hkS2 (by decide)
          have hO7 := (HOq.out.kept hbf).keptK bS2 hg5
          have hB7 := (HBR.out.trans (hbf.mono (by have := HBR.out.size; have := HBZ.out; omega))).trans (bS2.mono (by have := HBZ.out; omega))
          have hM7 := hX7.cell 1
          have hf7 := hX7.free 1
          simp at hM7
          refine step_appE rfl _ _ _ _ rfl _ _ rfl rfl _ _ hr (hK.out _ _ (fun _ _ => ?_) ?_)
          · obtain ⟨y1, y2, y3, y4, y5, y6, y7⟩ := HS.out _ hbf
            have hgw := hg5
            refine ⟨hM7, ?_, ?_, ?_, ?_, ?_, ?_⟩
            · exact (bS2.cell (p := ⟨w.heap.size, 0, none⟩) (by show w.heap.size < _; have := HBZ.out; have := HBD.out; omega)).trans y2
            · exact (bS2.cell (p := ⟨w.heap.size + 1 + 1, 0, none⟩) (by show w.heap.size + 1 + 1 < _; have := HBZ.out; have := HBD.out; omega)).trans y3
            · exact (bS2.cell (p := ⟨g, P, none⟩) hg5).trans y4
            · exact (bS2.cell (p := ⟨g, P + 1, none⟩) hg5).trans y5
            · exact (bS2.cell (p := ⟨bT, oT + o1 * 2, none⟩) HTB.out).trans y6
            · exact (bS2.cell (p := ⟨bT, oT + o2 * 2, none⟩) HTB.out).trans y7
          (try simp only [Act.put, List.getElem_toArray, List.getElem_cons_zero, List.getElem_cons_succ, List.setIfInBounds_toArray, List.set_cons_zero, List.set_cons_succ])
          refine wpAnyX_pure (i := 24) (v := ?_) rfl (by kernel_rfl) (by kernel_rfl) (by kernel_rfl) (fun _ _ _ h => h) (Or.inl ⟨by rfl, ?_⟩) ?_
          rotate_left
          · (intro W _; go_simp; try with_reducible rfl)
          (try simp only [Act.put, List.getElem_toArray, List.getElem_cons_zero, List.getElem_cons_succ, List.setIfInBounds_toArray, List.set_cons_zero, List.set_cons_succ])
          refine wpAnyX_one (i := 25) rfl (by kernel_rfl) (fun K hK => ?_)
          go_simp
          refine hK.out _ _ (fun h => absurd h (by decide)) ?_
          (try simp only [Act.put, List.getElem_toArray, List.getElem_cons_zero, List.getElem_cons_succ, List.setIfInBounds_toArray, List.set_cons_zero, List.set_cons_succ])
          refine wpAnyX_done (by kernel_rfl) ?_ _
          have HXn := Lib.hid (hX7.on1 (.slice S2 (P + 1) cS2))
          have hks := hX7.keptSet (t := 3) (k := 1) (by decide) (.slice S2 (P + 1) cS2)
          have HSn := Lib.hid (oS2.keptT hks)
          have HOn := Lib.hid (hO7.keptT hks)
          have HSHn := Lib.hid (by have := HSH.out.snoc; rw [← HO1.out, ← HO2.out, ← HXV.out] at this; exact this)
          have hb8 := hB7.setCell (p := ⟨w.heap.size + 1 + 1, 1, none⟩) (by have := HBD.out; show bd ≤ w.heap.size + 1 + 1; omega) (.slice S2 (P + 1) cS2)
          have HBn := Lib.hid hb8
          have HZn := Lib.hid (show w5.heap.size ≤ (w7.setCell ⟨w.heap.size + 1 + 1, 1, none⟩ (.slice S2 (P + 1) cS2)).heap.size by rw [World.size_setCell]; exact Nat.le_trans HZQ.out (Nat.le_trans hbf.size bS2.size))
          clear hX7 oS2 hO7 hks hb8 hB7 bS2 hkS2 hM7 hf7 hbf
          have wdone := trivial
          go_wp2_with fail
          go_roundw
          case rel => exact ⟨P + 1, S2, cS2, _, by first | rfl | exact congrArg _ (by omega), by omega, HXn, HSn, HOn, HSHn, HBn, HZn⟩
          case measure => simp [intOf]; omega
        · obtain rfl : P = M := by omega
          have hPI : ¬ ((P + 1 : Nat) : Int) < ((P + 1 : Nat) : Int) := by omega
          have hPI' : ¬ (P : Int) < (P : Int) := by omega
          have hx0 := HX.out.cell 0
          have hx1 := HX.out.cell 1
          simp at hx0 hx1
          have m2 := HM2.out _ HBR.out
          have f0 := m2.free 0
          have f1 := m2.free 1
          have r0 := m2.cell 0
          have r1 := m2.cell 1
          simp at r0 r1
          have HR2 := Lib.hid (m2.set2 (.slice (some ⟨g, 0, none⟩) (P + 1) cO) (.slice S P cS))
          have HBF := Lib.hid (set2B (g := w.heap.size + 1) (HB0.out.trans (HBR.out.mono (by have := HBD.out; omega))) (by omega) (.slice (some ⟨g, 0, none⟩) (P + 1) cO) (.slice S P cS))
          have hk1 := m2.keptSet (t := 3) (k := 0) (by decide) (.slice (some ⟨g, 0, none⟩) (P + 1) cO)
          have hk2 := (m2.set 0 (.slice (some ⟨g, 0, none⟩) (P + 1) cO)).keptSet (t := 3) (k := 1) (by decide) (.slice S P cS)
          have HOF := Lib.hid (((HOq.out.keptT hk1).keptT hk2).ints (by have := (HD5.out ss HSH.out).ol; rw [this, HLT.out]; omega))
          have HSF := Lib.hid (((HSq.out.keptT hk1).keptT hk2).ints (by rw [HSH.out.1]; omega))
          have hcS := HSq.out.cap22
          clear m2 hk1 hk2
          go_wp2_with fail
          (try rw [Exit.noGoto_ret])
          refine bodyPost_ret (results_srt rfl _ _ (w.heap.size + 1) (.slice (some ⟨g, 0, none⟩) (P + 1) cO) (.slice S P cS) rfl HR2.out) rfl ?_
          exact ⟨some ⟨g, 0, none⟩, S, P, cO, cS, os, ss, rfl, HD5.out ss HSH.out, HOF.out, HSF.out, hcO5, hcS, HBF.out⟩
end Go.Proofs.Ytkgdgnmobahhfaa
end

section
/- fit of the program: traces that are beginnings of others, or contradict others. -/
namespace Go.Proofs.Ytkgdgnmobahhfaa
open Go.RowKit Go.Shelf

/-- The block g holds truth values. -/
def FlB (w : World) (g : Nat) (bs : List Bool) : Prop := Bx w g (bs.map Value.bool).toArray 4
theorem FlB.cell {w : World} {g : Nat} {bs : List Bool} (h : FlB w g bs) {k : Nat} (hk : k < bs.length) : w.cell? ⟨g, k, none⟩ = some (.bool (bs.getD k false)) := by
  refine (Bx.cell h k).trans ?_
  simp [List.getD, hk]
theorem FlB.on {w w' : World} {g : Nat} {bs : List Bool} (h : FlB w g bs) (hb : Below w.heap.size w w') : FlB w' g bs := Bx.on h hb
theorem FlB.set {w : World} {g : Nat} {bs : List Bool} (h : FlB w g bs) (k : Nat) (b : Bool) : FlB (w.setCell ⟨g, k, none⟩ (.bool b)) g (bs.set k b) := by
  have := Bx.set h k (.bool b)
  unfold FlB
  rw [List.map_set, ← List.setIfInBounds_toArray]
  exact this
theorem FlB.other {w : World} {g g' k : Nat} {bs : List Bool} (h : FlB w g bs) (hg : g ≠ g') (v : Value) : FlB (w.setCell ⟨g', k, none⟩ v) g bs := Bx.other h hg v
theorem set_getD {bs : List Bool} {k i : Nat} (hk : k < bs.length) : (bs.set k true).getD i false = true ↔ i = k ∨ bs.getD i false = true := by
  rw [List.getD_eq_getElem?_getD, List.getD_eq_getElem?_getD, List.getElem?_set]
  by_cases h : k = i
  · subst h; simp [hk]
  · rw [if_neg h]
    constructor
    · exact .inr
    · rintro (e | e)
      · exact absurd e.symm h
      · exact e
theorem rep_getD {n i : Nat} : ¬ (List.replicate n false).getD i false = true := by
  rw [List.getD_eq_getElem?_getD, List.getElem?_replicate]
  split <;> simp
theorem wp_make_bools {ops : Array Oper} {o : Oper} {a : Act} {w : World} {K : Act → World → Prop} {Q : Exit → Act → World → Prop} {E : Prop} (hgd : o.guard = none) (l c : Operand) (ho : o.op = Op.makeSlice 121 l c)
    (kl kc : IntKind) (N : Nat) (hl : a.eval l = .int kl N) (hc : a.eval c = .int kc N) (hN : N ≤ 1000000)
    (h : K (a.put o.dst (.slice (some ⟨w.heap.size, 0, none⟩) N N)) (w.alloc (.cells (((List.replicate N false).map Value.bool).toArray) 4))) :
    if Region.wanted o (yielded ops a.tmps) = true then Oper.wp Try.prog o a w K Q else E := by
  obtain ⟨i, hi, hz0, hz1, hz2⟩ := info_parts (show (Try.prog.info? 4).map (fun i => (i.zero, i.size, i.bytes)) = some (some (.bool false), 1, 1) by kernel_rfl)
  have hw : Region.wanted o (yielded ops a.tmps) = true := by simp [Region.wanted, hgd]
  rw [if_pos hw]
  have hrun := run_make (P := Try.prog) w 121 4 i _ Try.underlying121 hi hz0 kl kc (N : Int) (N : Int) (by omega) (Int.le_refl _) (by rw [hz2]; omega) (by omega)
  rw [hz1] at hrun
  simp only [Int.toNat_natCast] at hrun
  rw [made_bools] at hrun
  unfold Oper.wp
  simp [execOp, ho, hl, hc, hrun, Result.andThen]
  simp at h
  exact h
section
variable {ts : List (List Int × List Int)} {os ss : List Int}
theorem ext_no (ts : List (List Int × List Int)) (os ss : List Int) (i : Nat) : ¬ Ext ts os ss 0 i := fun ⟨p, hp, _⟩ => absurd hp (by omega)
theorem con_no (ts : List (List Int × List Int)) (os ss : List Int) (i : Nat) : ¬ Con ts os ss 0 i := fun ⟨p, hp, _⟩ => absurd hp (by omega)
theorem ext_step {P i : Nat} : Ext ts os ss (P + 1) i ↔ Ext ts os ss P i ∨ (opo os P = i ∧ ss.getD P 0 = ((tIn ts (opo os P)).length : Int)) := by
  constructor
  · rintro ⟨p, hp, h⟩
    rcases Nat.lt_or_ge p P with hlt | hge
    · exact .inl ⟨p, hlt, h⟩
    · obtain rfl : p = P := by omega
      exact .inr h
  · rintro (⟨p, hp, h⟩ | h)
    · exact ⟨p, by omega, h⟩
    · exact ⟨P, by omega, h⟩
theorem con_step {P i : Nat} : Con ts os ss (P + 1) i ↔ Con ts os ss P i ∨ ((agrD ts os ss P : Int) < ss.getD P 0 ∧ ∃ q, q < ts.length ∧ Lnk ss ((agrD ts os ss P : Int) + 1) P q ∧ opo os q = i) := by
  constructor
  · rintro ⟨p, hp, h⟩
    rcases Nat.lt_or_ge p P with hlt | hge
    · exact .inl ⟨p, hlt, h⟩
    · obtain rfl : p = P := by omega
      exact .inr h
  · rintro (⟨p, hp, h⟩ | h)
    · exact ⟨p, by omega, h⟩
    · exact ⟨P, by omega, h⟩
end

set_option linter.unusedSimpArgs false in
set_option linter.unusedVariables false in
set_option maxHeartbeats 16000000 in
set_option maxRecDepth 100000 in
theorem pfit (L : Option Addr) (n c : Nat) (ts : List (List Int × List Int)) (w : World) (hT : Trs w L n ts) (hnc : n ≤ c) (hF : Full ts) (hn : n ≤ 10000) (hmx : ∀ j, j < ts.length → (tIn ts j).length ≤ 1024) (hdi : Calls Try.prog 95 #[.slice L n c] w (DictE ts n w)) :
    Calls Try.prog 58 #[.slice L n c] w fun e w' => ∃ R, e = .returned (.int .i64 R) ∧ (∃ os ss, Dict ts os ss ∧ FitR ts os ss R) ∧ Below w.heap.size w w' := by
  have HDI := Lib.hid hdi
  have HT := Lib.hid hT
  have HLT := Lib.hid hT.1
  have HF := Lib.hid hF
  have HMX := Lib.hid hmx
  clear hT hF hmx hdi
  go_enter Try.func58, Try.ntmps58
  go_wp2_with fail
  refine HDI.out.mono ?_
  rintro r w1 ⟨O, S, m, cO, cS, os, ss, rfl, hD, hO, hS, hcO, hcS, a1⟩
  have HD := Lib.hid hD
  have hsl := hD.sl
  have hml : m = ss.length := hS.1.symm
  have hm : m = n - 1 := by rw [hml, hsl, HLT.out]
  have hal := alloc_below w1 (.cells #[.slice O n cO, .slice S m cS] 126)
  have md := bx_new w1 #[.slice O n cO, .slice S m cS] 126
  obtain ⟨w2, hw2⟩ : ∃ w2, w2 = w1.alloc (.cells #[.slice O n cO, .slice S m cS] 126) := ⟨_, rfl⟩
  rw [← hw2] at hal md
  have HB2 := Lib.hid (bt a1 hal)
  have HOI := Lib.hid (fun (W : World) (h : Below w2.heap.size w2 W) => (hO.below hal).below h)
  have HSI := Lib.hid (fun (W : World) (h : Below w2.heap.size w2 W) => (hS.below hal).below h)
  have HMD := Lib.hid (fun (W : World) (h : Below w2.heap.size w2 W) => md.on h)
  have HTI := Lib.hid (fun (W : World) (h : Below w2.heap.size w2 W) => (HT.out.below (bt a1 hal)).below h)
  have HW2 := Lib.hid hw2
  have HML := Lib.hid hml
  have HMN := Lib.hid hm
  clear hw2 hD hO hS a1 hal md HDI hsl hml hm
  go_upto_region 2 with fail
  rw [← HW2.out]
  have hbf : Below w2.heap.size w2 w2.drew := below_drewN (Below.refl _ _) 1
  refine wp_region_heldX (X := fun k => ([] : List Nat).contains k) (S := fun W => True) (by kernel_rfl) ?_
  generalize w2.drew = wkd at hbf ⊢
  refine wpAnyX_pure (i := 0) (v := ?_) rfl (by kernel_rfl) (by kernel_rfl) (by kernel_rfl) (fun _ _ _ h => h) (Or.inl ⟨by rfl, ?_⟩) ?_
  rotate_left
  · (intro W _; go_simp; try with_reducible rfl)
  (try simp only [Act.put, List.getElem_toArray, List.getElem_cons_zero, List.getElem_cons_succ, List.setIfInBounds_toArray, List.set_cons_zero, List.set_cons_succ])
  refine wpAnyX_pure (i := 1) (v := ?_) rfl (by kernel_rfl) (by kernel_rfl) (by kernel_rfl) (fun _ _ _ h => h) (Or.inl ⟨by rfl, ?_⟩) ?_
  rotate_left
  · (intro W _; go_simp; try with_reducible rfl)
  (try simp only [Act.put, List.getElem_toArray, List.getElem_cons_zero, List.getElem_cons_succ, List.setIfInBounds_toArray, List.set_cons_zero, List.set_cons_succ])
  refine wpAnyX_pure (i := 3) (v := ?_) rfl (by kernel_rfl) (by kernel_rfl) (by kernel_rfl) (fun _ _ _ h => h) (Or.inl ⟨by rfl, ?_⟩) ?_
  rotate_left
  · (intro W _; go_simp; try with_reducible rfl)
  (try simp only [Act.put, List.getElem_toArray, List.getElem_cons_zero, List.getElem_cons_succ, List.setIfInBounds_toArray, List.set_cons_zero, List.set_cons_succ])
  refine wpAnyX_pure (i := 4) (v := ?_) rfl (by kernel_rfl) (by kernel_rfl) (by kernel_rfl) (fun _ _ _ h => h) (Or.inl ⟨by rfl, ?_⟩) ?_
  rotate_left
  · (intro W _; go_simp; try with_reducible rfl)
  (try simp only [Act.put, List.getElem_toArray, List.getElem_cons_zero, List.getElem_cons_succ, List.setIfInBounds_toArray, List.set_cons_zero, List.set_cons_succ])
  refine wpAnyX_two (i := 2) (j := 5) rfl rfl (by kernel_rfl) (fun K hK => ?_) (fun K hK => ?_)
  focus
    refine wp_make_bools rfl _ _ rfl _ _ n rfl rfl (by omega) (hK.out _ _ (fun _ _ => trivial) ?_)
    (try simp only [Act.put, List.getElem_toArray, List.getElem_cons_zero, List.getElem_cons_succ, List.setIfInBounds_toArray, List.set_cons_zero, List.set_cons_succ])
    have hal := alloc_below wkd (.cells (((List.replicate n false).map Value.bool).toArray) 4)
    have hg1 : FlB (wkd.alloc (.cells (((List.replicate n false).map Value.bool).toArray) 4)) wkd.heap.size (List.replicate n false) := bx_new wkd _ _
    obtain ⟨g1, eqg1⟩ : ∃ g1, g1 = wkd.heap.size := ⟨_, rfl⟩
    have hzg1 : w2.heap.size ≤ g1 := by rw [eqg1]; exact hbf.size
    have hqg1 : wkd.heap.size ≤ g1 := Nat.le_of_eq eqg1.symm
    have hbf := bt hbf hal
    generalize wkd.alloc (.cells (((List.replicate n false).map Value.bool).toArray) 4) = wk1 at hal hbf hg1 ⊢
    rw [← eqg1] at hg1 ⊢
    have hlg1 : g1 < wk1.heap.size := Bx.lt hg1
    clear eqg1 hal
    refine wpAnyX_pure (i := 6) (v := ?_) rfl (by kernel_rfl) (by kernel_rfl) (by kernel_rfl) (fun _ _ _ h => h) (Or.inl ⟨by rfl, ?_⟩) ?_
    rotate_left
    · (intro W _; go_simp; try with_reducible rfl)
    (try simp only [Act.put, List.getElem_toArray, List.getElem_cons_zero, List.getElem_cons_succ, List.setIfInBounds_toArray, List.set_cons_zero, List.set_cons_succ])
    refine wpAnyX_one (i := 5) rfl (by kernel_rfl) (fun K hK => ?_)
    refine wp_make_bools rfl _ _ rfl _ _ n rfl rfl (by omega) (hK.out _ _ (fun _ _ => trivial) ?_)
    (try simp only [Act.put, List.getElem_toArray, List.getElem_cons_zero, List.getElem_cons_succ, List.setIfInBounds_toArray, List.set_cons_zero, List.set_cons_succ])
    have hal := alloc_below wk1 (.cells (((List.replicate n false).map Value.bool).toArray) 4)
    have hg2 : FlB (wk1.alloc (.cells (((List.replicate n false).map Value.bool).toArray) 4)) wk1.heap.size (List.replicate n false) := bx_new wk1 _ _
    have hg1 := hg1.on hal
    obtain ⟨g2, eqg2⟩ : ∃ g2, g2 = wk1.heap.size := ⟨_, rfl⟩
    have hzg2 : w2.heap.size ≤ g2 := by rw [eqg2]; exact hbf.size
    have hqg2 : wk1.heap.size ≤ g2 := Nat.le_of_eq eqg2.symm
    have hbf := bt hbf hal
    generalize wk1.alloc (.cells (((List.replicate n false).map Value.bool).toArray) 4) = wk2 at hal hbf hg1 hg2 ⊢
    rw [← eqg2] at hg2 ⊢
    have hlg2 : g2 < wk2.heap.size := Bx.lt hg2
    clear eqg2 hal
    refine wpAnyX_pure (i := 7) (v := ?_) rfl (by kernel_rfl) (by kernel_rfl) (by kernel_rfl) (fun _ _ _ h => h) (Or.inl ⟨by rfl, ?_⟩) ?_
    rotate_left
    · (intro W _; go_simp; try with_reducible rfl)
    (try simp only [Act.put, List.getElem_toArray, List.getElem_cons_zero, List.getElem_cons_succ, List.setIfInBounds_toArray, List.set_cons_zero, List.set_cons_succ])
    refine wpAnyX_done (by kernel_rfl) ?_ _
    have hgne : g1 ≠ g2 := by omega
  rotate_left
  focus
    refine wp_make_bools rfl _ _ rfl _ _ n rfl rfl (by omega) (hK.out _ _ (fun _ _ => trivial) ?_)
    (try simp only [Act.put, List.getElem_toArray, List.getElem_cons_zero, List.getElem_cons_succ, List.setIfInBounds_toArray, List.set_cons_zero, List.set_cons_succ])
    have hal := alloc_below wkd (.cells (((List.replicate n false).map Value.bool).toArray) 4)
    have hg2 : FlB (wkd.alloc (.cells (((List.replicate n false).map Value.bool).toArray) 4)) wkd.heap.size (List.replicate n false) := bx_new wkd _ _
    obtain ⟨g2, eqg2⟩ : ∃ g2, g2 = wkd.heap.size := ⟨_, rfl⟩
    have hzg2 : w2.heap.size ≤ g2 := by rw [eqg2]; exact hbf.size
    have hqg2 : wkd.heap.size ≤ g2 := Nat.le_of_eq eqg2.symm
    have hbf := bt hbf hal
    generalize wkd.alloc (.cells (((List.replicate n false).map Value.bool).toArray) 4) = wk1 at hal hbf hg2 ⊢
    rw [← eqg2] at hg2 ⊢
    have hlg2 : g2 < wk1.heap.size := Bx.lt hg2
    clear eqg2 hal
    refine wpAnyX_one (i := 2) rfl (by kernel_rfl) (fun K hK => ?_)
    refine wp_make_bools rfl _ _ rfl _ _ n rfl rfl (by omega) (hK.out _ _ (fun _ _ => trivial) ?_)
    (try simp only [Act.put, List.getElem_toArray, List.getElem_cons_zero, List.getElem_cons_succ, List.setIfInBounds_toArray, List.set_cons_zero, List.set_cons_succ])
    have hal := alloc_below wk1 (.cells (((List.replicate n false).map Value.bool).toArray) 4)
    have hg1 : FlB (wk1.alloc (.cells (((List.replicate n false).map Value.bool).toArray) 4)) wk1.heap.size (List.replicate n false) := bx_new wk1 _ _
    have hg2 := hg2.on hal
    obtain ⟨g1, eqg1⟩ : ∃ g1, g1 = wk1.heap.size := ⟨_, rfl⟩
    have hzg1 : w2.heap.size ≤ g1 := by rw [eqg1]; exact hbf.size
    have hqg1 : wk1.heap.size ≤ g1 := Nat.le_of_eq eqg1.symm
    have hbf := bt hbf hal
    generalize wk1.alloc (.cells (((List.replicate n false).map Value.bool).toArray) 4) = wk2 at hal hbf hg1 hg2 ⊢
    rw [← eqg1] at hg1 ⊢
    have hlg1 : g1 < wk2.heap.size := Bx.lt hg1
    clear eqg1 hal
    refine wpAnyX_pure (i := 6) (v := ?_) rfl (by kernel_rfl) (by kernel_rfl) (by kernel_rfl) (fun _ _ _ h => h) (Or.inl ⟨by rfl, ?_⟩) ?_
    rotate_left
    · (intro W _; go_simp; try with_reducible rfl)
    (try simp only [Act.put, List.getElem_toArray, List.getElem_cons_zero, List.getElem_cons_succ, List.setIfInBounds_toArray, List.set_cons_zero, List.set_cons_succ])
    refine wpAnyX_pure (i := 7) (v := ?_) rfl (by kernel_rfl) (by kernel_rfl) (by kernel_rfl) (fun _ _ _ h => h) (Or.inl ⟨by rfl, ?_⟩) ?_
    rotate_left
    · (intro W _; go_simp; try with_reducible rfl)
    (try simp only [Act.put, List.getElem_toArray, List.getElem_cons_zero, List.getElem_cons_succ, List.setIfInBounds_toArray, List.set_cons_zero, List.set_cons_succ])
    refine wpAnyX_done (by kernel_rfl) ?_ _
    have hgne : g1 ≠ g2 := by omega
  all_goals (focus
    have HG1 := Lib.hid hg1
    have HG2 := Lib.hid hg2
    have HBK := Lib.hid hbf
    have k1 := (HMD.out _ hbf).cell 1
    simp at k1
    have hg12 : g1 ≠ g2 := hgne
    have HNE := Lib.hid hg12
    clear hg1 hg2 hbf hgne hg12
    go_upto_region 4 with fail
    clear k1
    go_loopw [27] (fun v27 wr => ∃ (p : Nat) (E C : List Bool), v27 = .int .i64 p ∧ p ≤ m ∧ Hid (E.length = n) ∧ Hid (C.length = n) ∧ Hid (FlB wr g1 E) ∧ Hid (FlB wr g2 C) ∧ Hid (Below w2.heap.size w2 wr) ∧ Hid (∀ i, i < n → (E.getD i false = true ↔ Ext ts os ss p i)) ∧ Hid (∀ i, i < n → (C.getD i false = true ↔ Con ts os ss p i))) (fun v27 _ => m - (intOf v27).toNat)
    case atStart => exact ⟨0, List.replicate n false, List.replicate n false, rfl, Nat.zero_le _, Lib.hid (List.length_replicate ..), Lib.hid (List.length_replicate ..), HG1, HG2, HBK, Lib.hid (fun i _ => ⟨fun h => absurd h rep_getD, fun h => absurd h (ext_no _ _ _ _)⟩), Lib.hid (fun i _ => ⟨fun h => absurd h rep_getD, fun h => absurd h (con_no _ _ _ _)⟩)⟩
    case round =>
      clear HG1 HG2 HBK
      obtain ⟨p, E, C, rfl, hpm, HEL, HCL, HE, HC, HBR, HEX, HCO⟩ := hrel
      have hg1r := Bx.lt HE.out
      have hg2r := Bx.lt HC.out
      by_cases hlt : p < m
      · have hp1 : p + 1 < ts.length := by rw [HLT.out]; have := HMN.out; omega
        obtain ⟨o1, ho1⟩ : ∃ o1, o1 = opo os p := ⟨_, rfl⟩
        obtain ⟨o2, ho2⟩ : ∃ o2, o2 = opo os (p + 1) := ⟨_, rfl⟩
        obtain ⟨s, hs⟩ : ∃ s, s = (ss.getD p 0).toNat := ⟨_, rfl⟩
        have hsI : ss.getD p 0 = (s : Int) := by have := (HD.out.snn hp1).1; omega
        have hsc : s = cmn (tIn ts o1) (tIn ts o2) := by rw [hs, ho1, ho2]; exact (HD.out.snn hp1).2
        have hr1 := HD.out.rng p (by omega)
        have hr2 := HD.out.rng (p + 1) hp1
        have ho1I : os.getD p 0 = (o1 : Int) := by rw [ho1]; unfold opo; omega
        have ho2I : os.getD (p + 1) 0 = (o2 : Int) := by rw [ho2]; unfold opo; omega
        have ho1n : o1 < n := by rw [ho1, ← HLT.out]; exact hr1.2
        have ho2n : o2 < n := by rw [ho2, ← HLT.out]; exact hr2.2
        obtain ⟨bS, oS, eS, hgS, rS⟩ := (HSI.out _ (Below.refl _ _)).at_ (k := p) hlt
        obtain ⟨bO, oO, eO, hgO, rO1⟩ := (HOI.out _ (Below.refl _ _)).at_ (k := p) (by have := HMN.out; omega)
        obtain ⟨_, _, eO2, _, rO2⟩ := (HOI.out _ (Below.refl _ _)).at_ (k := p + 1) (by have := HMN.out; omega)
        subst eS
        subst eO
        cases eO2
        rw [hsI] at rS
        rw [ho1I] at rO1
        rw [ho2I] at rO2
        obtain ⟨bT, oT, A1, n1, c1, A2, n2, c2, eT, hgT, j1, j2, q1, q2, j3, j4⟩ := (HTI.out _ (Below.refl _ _)).at_ ho1n
        subst eT
        obtain ⟨_, _, B1, m1, d1, B2, m2, d2, eT, _, i1, i2, u1, u2, i3, i4⟩ := (HTI.out _ (Below.refl _ _)).at_ ho2n
        cases eT
        have HS1 := Lib.hid hsI
        have HSC := Lib.hid hsc
        have HO1 := Lib.hid ho1
        have HO2 := Lib.hid ho2
        have HL1 := Lib.hid j3.1
        have HJ4 := Lib.hid (fun (W : World) (h : Below w2.heap.size w2 W) => j4.below h)
        have HI4 := Lib.hid (fun (W : World) (h : Below w2.heap.size w2 W) => i4.below h)
        have hsn2 : s ≤ n2 := by
          have a1 := HF.out o1 (by rw [HLT.out]; exact ho1n)
          have a2 := cmn_le_left (tIn ts o1) (tIn ts o2)
          have a3 := j4.1
          omega
        have hsm2 : s ≤ m2 := by
          have a1 := HF.out o2 (by rw [HLT.out]; exact ho2n)
          have a2 := cmn_le_right (tIn ts o1) (tIn ts o2)
          have a3 := i4.1
          omega
        have hsb : s ≤ 1024 := by
          have a1 := HMX.out o1 (by rw [HLT.out]; exact ho1n)
          have a2 := cmn_le_left (tIn ts o1) (tIn ts o2)
          omega
        have hn1b : n1 ≤ 1024 := by rw [← j3.1]; exact HMX.out o1 (by rw [HLT.out]; exact ho1n)
        have hpI : (p : Int) < (m : Int) := by omega
        have hp0 : (0 : Int) ≤ (p : Int) := by omega
        have hpn : (p : Int) < (n : Int) := by have := HMN.out; omega
        have hpn1 : (((p + 1 : Nat)) : Int) < (n : Int) := by have := HMN.out; omega
        have hp10 : (0 : Int) ≤ ((p + 1 : Nat) : Int) := by omega
        have hpn1' : (p : Int) + 1 < (n : Int) := by have := HMN.out; omega
        have hp10' : (0 : Int) ≤ (p : Int) + 1 := by omega
        have wp1 : IntKind.i64.wrap ((p : Int) + 1) = ((p + 1 : Nat) : Int) := by rw [IntKind.wrap_i64]; omega
        have ho1i : (o1 : Int) < (n : Int) := by omega
        have ho2i : (o2 : Int) < (n : Int) := by omega
        have ho10 : (0 : Int) ≤ (o1 : Int) := by omega
        have ho20 : (0 : Int) ≤ (o2 : Int) := by omega
        have HS := Lib.hid (show ∀ W, Below w2.heap.size w2 W → W.cell? ⟨w1.heap.size, 0, none⟩ = some (.slice (some ⟨bO, oO, none⟩) n cO) ∧ W.cell? ⟨bO, oO + p, none⟩ = some (.int .i64 o1) ∧ W.cell? ⟨bO, oO + (p + 1), none⟩ = some (.int .i64 o2) ∧ W.cell? ⟨bT, oT + o1 * 2, none⟩ = some (.slice A1 n1 c1) ∧ W.cell? ⟨bT, oT + o1 * 2 + 1, none⟩ = some (.slice A2 n2 c2) ∧ W.cell? ⟨bT, oT + o2 * 2, none⟩ = some (.slice B1 m1 d1) ∧ W.cell? ⟨bT, oT + o2 * 2 + 1, none⟩ = some (.slice B2 m2 d2) from fun W h => ⟨by have := (HMD.out _ h).cell 0; simpa using this, (h.cell (p := ⟨bO, oO + p, none⟩) hgO).trans rO1, (h.cell (p := ⟨bO, oO + (p + 1), none⟩) hgO).trans rO2, (h.cell (p := ⟨bT, oT + o1 * 2, none⟩) hgT).trans j1, (h.cell (p := ⟨bT, oT + o1 * 2 + 1, none⟩) hgT).trans j2, (h.cell (p := ⟨bT, oT + o2 * 2, none⟩) hgT).trans i1, (h.cell (p := ⟨bT, oT + o2 * 2 + 1, none⟩) hgT).trans i2⟩)
        have rS' := (HBR.out.cell (p := ⟨bS, oS + p, none⟩) hgS).trans rS
        clear hs hsI hsc hr1 hr2 ho1 ho2 ho1I ho2I rS rO1 rO2 j1 j2 j3 j4 i1 i2 i3 i4 hgS hgO hgT hp1
        go_upto_region 6 with fail
        clear rS'
        have hbf : Below w2.heap.size w2 wr.drew := below_drewN HBR.out 1
        have hbw : Below wr.heap.size wr wr.drew := below_drewN (Below.refl _ _) 1
        refine wp_region_heldX (X := fun k => ([20] : List Nat).contains k) (S := fun W => W.cell? ⟨w1.heap.size, 0, none⟩ = some (.slice (some ⟨bO, oO, none⟩) n cO) ∧ W.cell? ⟨bO, oO + p, none⟩ = some (.int .i64 o1) ∧ W.cell? ⟨bO, oO + (p + 1), none⟩ = some (.int .i64 o2) ∧ W.cell? ⟨bT, oT + o1 * 2, none⟩ = some (.slice A1 n1 c1) ∧ W.cell? ⟨bT, oT + o1 * 2 + 1, none⟩ = some (.slice A2 n2 c2) ∧ W.cell? ⟨bT, oT + o2 * 2, none⟩ = some (.slice B1 m1 d1) ∧ W.cell? ⟨bT, oT + o2 * 2 + 1, none⟩ = some (.slice B2 m2 d2)) (by kernel_rfl) ?_
        generalize wr.drew = wkd at hbf hbw ⊢
        refine wpAnyX_pure (i := 0) (v := ?_) rfl (by kernel_rfl) (by kernel_rfl) (by kernel_rfl) (fun _ _ _ h => h) (Or.inl ⟨by rfl, ?_⟩) ?_
        rotate_left
        · (intro W _; go_simp; try with_reducible rfl)
        (try simp only [Act.put, List.getElem_toArray, List.getElem_cons_zero, List.getElem_cons_succ, List.setIfInBounds_toArray, List.set_cons_zero, List.set_cons_succ])
        refine wpAnyX_pure (i := 1) (v := ?_) rfl (by kernel_rfl) (by kernel_rfl) (by kernel_rfl) (fun _ _ _ h => h) (Or.inl ⟨by rfl, ?_⟩) ?_
        rotate_left
        · (intro W _; go_simp; try with_reducible rfl)
        (try simp only [Act.put, List.getElem_toArray, List.getElem_cons_zero, List.getElem_cons_succ, List.setIfInBounds_toArray, List.set_cons_zero, List.set_cons_succ])
        refine wpAnyX_takeL (L := [20]) (i := 2) (v := ?_) rfl (by kernel_rfl) (by kernel_rfl) (by kernel_rfl) (by kernel_rfl) (fun _ _ _ h => h) (Or.inl ⟨by rfl, ?_⟩) (HS.out _ hbf) ?_
        rotate_left
        · (intro W hSW; (try dsimp only at hSW); obtain ⟨z0, z1, z2, z3, z4, z5, z6⟩ := hSW; go_simp; try with_reducible rfl)
        (try simp only [Act.put, List.getElem_toArray, List.getElem_cons_zero, List.getElem_cons_succ, List.setIfInBounds_toArray, List.set_cons_zero, List.set_cons_succ])
        refine wpAnyX_pure (i := 3) (v := ?_) rfl (by kernel_rfl) (by kernel_rfl) (by kernel_rfl) (fun _ _ _ h => h) (Or.inl ⟨by rfl, ?_⟩) ?_
        rotate_left
        · (intro W _; go_simp; try with_reducible rfl)
        (try simp only [Act.put, List.getElem_toArray, List.getElem_cons_zero, List.getElem_cons_succ, List.setIfInBounds_toArray, List.set_cons_zero, List.set_cons_succ])
        refine wpAnyX_pure (i := 4) (v := ?_) rfl (by kernel_rfl) (by kernel_rfl) (by kernel_rfl) (fun _ _ _ h => h) (Or.inl ⟨by rfl, ?_⟩) ?_
        rotate_left
        · (intro W _; go_simp; try with_reducible rfl)
        (try simp only [Act.put, List.getElem_toArray, List.getElem_cons_zero, List.getElem_cons_succ, List.setIfInBounds_toArray, List.set_cons_zero, List.set_cons_succ])
        refine wpAnyX_takeL (L := [20]) (i := 5) (v := ?_) rfl (by kernel_rfl) (by kernel_rfl) (by kernel_rfl) (by kernel_rfl) (fun _ _ _ h => h) (Or.inl ⟨by rfl, ?_⟩) (HS.out _ hbf) ?_
        rotate_left
        · (intro W hSW; (try dsimp only at hSW); obtain ⟨z0, z1, z2, z3, z4, z5, z6⟩ := hSW; go_simp; try with_reducible rfl)
        (try simp only [Act.put, List.getElem_toArray, List.getElem_cons_zero, List.getElem_cons_succ, List.setIfInBounds_toArray, List.set_cons_zero, List.set_cons_succ])
        refine wpAnyX_pure (i := 6) (v := ?_) rfl (by kernel_rfl) (by kernel_rfl) (by kernel_rfl) (fun _ _ _ h => h) (Or.inl ⟨by rfl, ?_⟩) ?_
        rotate_left
        · (intro W _; go_simp; try with_reducible rfl)
        (try simp only [Act.put, List.getElem_toArray, List.getElem_cons_zero, List.getElem_cons_succ, List.setIfInBounds_toArray, List.set_cons_zero, List.set_cons_succ])
        refine wpAnyX_takeL (L := [20]) (i := 7) (v := ?_) rfl (by kernel_rfl) (by kernel_rfl) (by kernel_rfl) (by kernel_rfl) (fun _ _ _ h => h) (Or.inl ⟨by rfl, ?_⟩) (HS.out _ hbf) ?_
        rotate_left
        · (intro W hSW; (try dsimp only at hSW); obtain ⟨z0, z1, z2, z3, z4, z5, z6⟩ := hSW; go_simp; try with_reducible rfl)
        (try simp only [Act.put, List.getElem_toArray, List.getElem_cons_zero, List.getElem_cons_succ, List.setIfInBounds_toArray, List.set_cons_zero, List.set_cons_succ])
        refine wpAnyX_pure (i := 8) (v := ?_) rfl (by kernel_rfl) (by kernel_rfl) (by kernel_rfl) (fun _ _ _ h => h) (Or.inl ⟨by rfl, ?_⟩) ?_
        rotate_left
        · (intro W _; go_simp; try with_reducible rfl)
        (try simp only [Act.put, List.getElem_toArray, List.getElem_cons_zero, List.getElem_cons_succ, List.setIfInBounds_toArray, List.set_cons_zero, List.set_cons_succ])
        refine wpAnyX_pure (i := 9) (v := ?_) rfl (by kernel_rfl) (by kernel_rfl) (by kernel_rfl) (fun _ _ _ h => h) (Or.inl ⟨by rfl, ?_⟩) ?_
        rotate_left
        · (intro W _; go_simp; try with_reducible rfl)
        (try simp only [Act.put, List.getElem_toArray, List.getElem_cons_zero, List.getElem_cons_succ, List.setIfInBounds_toArray, List.set_cons_zero, List.set_cons_succ])
        refine wpAnyX_takeL (L := [20]) (i := 10) (v := ?_) rfl (by kernel_rfl) (by kernel_rfl) (by kernel_rfl) (by kernel_rfl) (fun _ _ _ h => h) (Or.inl ⟨by rfl, ?_⟩) (HS.out _ hbf) ?_
        rotate_left
        · (intro W hSW; (try dsimp only at hSW); obtain ⟨z0, z1, z2, z3, z4, z5, z6⟩ := hSW; go_simp; try with_reducible rfl)
        (try simp only [Act.put, List.getElem_toArray, List.getElem_cons_zero, List.getElem_cons_succ, List.setIfInBounds_toArray, List.set_cons_zero, List.set_cons_succ])
        refine wpAnyX_pure (i := 11) (v := ?_) rfl (by kernel_rfl) (by kernel_rfl) (by kernel_rfl) (fun _ _ _ h => h) (Or.inl ⟨by rfl, ?_⟩) ?_
        rotate_left
        · (intro W _; go_simp; try with_reducible rfl)
        (try simp only [Act.put, List.getElem_toArray, List.getElem_cons_zero, List.getElem_cons_succ, List.setIfInBounds_toArray, List.set_cons_zero, List.set_cons_succ])
        refine wpAnyX_pure (i := 12) (v := ?_) rfl (by kernel_rfl) (by kernel_rfl) (by kernel_rfl) (fun _ _ _ h => h) (Or.inl ⟨by rfl, ?_⟩) ?_
        rotate_left
        · (intro W _; go_simp; try with_reducible rfl)
        (try simp only [Act.put, List.getElem_toArray, List.getElem_cons_zero, List.getElem_cons_succ, List.setIfInBounds_toArray, List.set_cons_zero, List.set_cons_succ])
        refine wpAnyX_pure (i := 13) (v := ?_) rfl (by kernel_rfl) (by kernel_rfl) (by kernel_rfl) (fun _ _ _ h => h) (Or.inl ⟨by rfl, ?_⟩) ?_
        rotate_left
        · (intro W _; go_simp; try with_reducible rfl)
        (try simp only [Act.put, List.getElem_toArray, List.getElem_cons_zero, List.getElem_cons_succ, List.setIfInBounds_toArray, List.set_cons_zero, List.set_cons_succ])
        refine wpAnyX_takeL (L := [20]) (i := 14) (v := ?_) rfl (by kernel_rfl) (by kernel_rfl) (by kernel_rfl) (by kernel_rfl) (fun _ _ _ h => h) (Or.inl ⟨by rfl, ?_⟩) (HS.out _ hbf) ?_
        rotate_left
        · (intro W hSW; (try dsimp only at hSW); obtain ⟨z0, z1, z2, z3, z4, z5, z6⟩ := hSW; go_simp; try with_reducible rfl)
        (try simp only [Act.put, List.getElem_toArray, List.getElem_cons_zero, List.getElem_cons_succ, List.setIfInBounds_toArray, List.set_cons_zero, List.set_cons_succ])
        refine wpAnyX_pure (i := 15) (v := ?_) rfl (by kernel_rfl) (by kernel_rfl) (by kernel_rfl) (fun _ _ _ h => h) (Or.inl ⟨by rfl, ?_⟩) ?_
        rotate_left
        · (intro W _; go_simp; try with_reducible rfl)
        (try simp only [Act.put, List.getElem_toArray, List.getElem_cons_zero, List.getElem_cons_succ, List.setIfInBounds_toArray, List.set_cons_zero, List.set_cons_succ])
        refine wpAnyX_takeL (L := [20]) (i := 16) (v := ?_) rfl (by kernel_rfl) (by kernel_rfl) (by kernel_rfl) (by kernel_rfl) (fun _ _ _ h => h) (Or.inl ⟨by rfl, ?_⟩) (HS.out _ hbf) ?_
        rotate_left
        · (intro W hSW; (try dsimp only at hSW); obtain ⟨z0, z1, z2, z3, z4, z5, z6⟩ := hSW; go_simp; try with_reducible rfl)
        (try simp only [Act.put, List.getElem_toArray, List.getElem_cons_zero, List.getElem_cons_succ, List.setIfInBounds_toArray, List.set_cons_zero, List.set_cons_succ])
        have hbf0 : w2.heap.size ≤ wr.heap.size := HBR.out.size
        refine wpAnyX_two (i := 17) (j := 18) rfl rfl (by kernel_rfl) (fun K hK => ?_) (fun K hK => ?_)
        focus
          go_simp
          refine hK.out _ _ (fun _ _ => HS.out _ (bt hbf (alloc_below _ _))) ?_
          (try simp only [Act.put, List.getElem_toArray, List.getElem_cons_zero, List.getElem_cons_succ, List.setIfInBounds_toArray, List.set_cons_zero, List.set_cons_succ])
          have hal := alloc_below wkd (.cells #[.slice none 0 0, .slice none 0 0] 38)
          have hb8 := bx_new wkd #[.slice none 0 0, .slice none 0 0] 38
          obtain ⟨b8, eqb8⟩ : ∃ b8, b8 = wkd.heap.size := ⟨_, rfl⟩
          have hzb8 : wr.heap.size ≤ b8 := by rw [eqb8]; exact hbw.size
          have hqb8 : wkd.heap.size ≤ b8 := Nat.le_of_eq eqb8.symm
          have hbf := bt hbf hal
          have hbw := bt hbw hal
          generalize wkd.alloc (.cells #[.slice none 0 0, .slice none 0 0] 38) = wk1 at hal hbf hbw hb8 ⊢
          rw [← eqb8] at hb8 ⊢
          have hlb8 : b8 < wk1.heap.size := hb8.lt
          clear eqb8 hal
          refine wpAnyX_one (i := 18) rfl (by kernel_rfl) (fun K hK => ?_)
          go_simp
          refine hK.out _ _ (fun _ _ => HS.out _ (bt hbf (alloc_below _ _))) ?_
          (try simp only [Act.put, List.getElem_toArray, List.getElem_cons_zero, List.getElem_cons_succ, List.setIfInBounds_toArray, List.set_cons_zero, List.set_cons_succ])
          have hal := alloc_below wk1 (.cells #[.slice none 0 0, .slice none 0 0] 38)
          have hb9 := bx_new wk1 #[.slice none 0 0, .slice none 0 0] 38
          have hb8 := hb8.on hal
          obtain ⟨b9, eqb9⟩ : ∃ b9, b9 = wk1.heap.size := ⟨_, rfl⟩
          have hzb9 : wr.heap.size ≤ b9 := by rw [eqb9]; exact hbw.size
          have hqb9 : wk1.heap.size ≤ b9 := Nat.le_of_eq eqb9.symm
          have hbf := bt hbf hal
          have hbw := bt hbw hal
          generalize wk1.alloc (.cells #[.slice none 0 0, .slice none 0 0] 38) = wk2 at hal hbf hbw hb8 hb9 ⊢
          rw [← eqb9] at hb9 ⊢
          have hlb9 : b9 < wk2.heap.size := hb9.lt
          clear eqb9 hal
          have hbne : b8 ≠ b9 := by omega
          refine wpAnyX_one (i := 19) rfl (by kernel_rfl) (fun K hK => ?_)
          refine wp_store_row 38 _ _ rfl b8 (#[.slice A1 n1 c1, .slice A2 n2 c2]) rfl rfl 38 (#[.slice none 0 0, .slice none 0 0]) hb8 (by kernel_rfl) (by rfl) (by simp [Value.oneCell']) (hK.out _ _ (fun _ _ => HS.out _ (below_setRow hbf (Nat.le_trans hbf0 hzb8) _)) ?_)
          (try simp only [Act.put, List.getElem_toArray, List.getElem_cons_zero, List.getElem_cons_succ, List.setIfInBounds_toArray, List.set_cons_zero, List.set_cons_succ])
          have hb8 := hb8.row #[.slice A1 n1 c1, .slice A2 n2 c2]
          have hb9 := hb9.rowOther hbne.symm #[.slice A1 n1 c1, .slice A2 n2 c2]
          have hbf := below_setRow hbf (Nat.le_trans hbf0 hzb8) #[.slice A1 n1 c1, .slice A2 n2 c2]
          have hbw := below_setRow hbw hzb8 #[.slice A1 n1 c1, .slice A2 n2 c2]
          generalize wk2.setRow b8 #[.slice A1 n1 c1, .slice A2 n2 c2] = wk3 at hb8 hbf hbw hb9 ⊢
          have hlb8n := hb8.lt
          refine wpAnyX_one (i := 20) rfl (by kernel_rfl) (fun K hK => ?_)
          refine wp_store_row 38 _ _ rfl b9 (#[.slice B1 m1 d1, .slice B2 m2 d2]) rfl rfl 38 (#[.slice none 0 0, .slice none 0 0]) hb9 (by kernel_rfl) (by rfl) (by simp [Value.oneCell']) (hK.out _ _ (fun h => absurd h (by decide)) ?_)
          (try simp only [Act.put, List.getElem_toArray, List.getElem_cons_zero, List.getElem_cons_succ, List.setIfInBounds_toArray, List.set_cons_zero, List.set_cons_succ])
          have h8 := hb8.rowOther hbne #[.slice B1 m1 d1, .slice B2 m2 d2]
          have h9 := hb9.row #[.slice B1 m1 d1, .slice B2 m2 d2]
          have hbf := below_setRow hbf (Nat.le_trans hbf0 hzb9) #[.slice B1 m1 d1, .slice B2 m2 d2]
          have hbw := below_setRow hbw hzb9 #[.slice B1 m1 d1, .slice B2 m2 d2]
          generalize wk3.setRow b9 #[.slice B1 m1 d1, .slice B2 m2 d2] = wk4 at h8 h9 hbf hbw ⊢
          refine wpAnyX_done (by kernel_rfl) ?_ _
        rotate_left
        focus
          go_simp
          refine hK.out _ _ (fun _ _ => HS.out _ (bt hbf (alloc_below _ _))) ?_
          (try simp only [Act.put, List.getElem_toArray, List.getElem_cons_zero, List.getElem_cons_succ, List.setIfInBounds_toArray, List.set_cons_zero, List.set_cons_succ])
          have hal := alloc_below wkd (.cells #[.slice none 0 0, .slice none 0 0] 38)
          have hb9 := bx_new wkd #[.slice none 0 0, .slice none 0 0] 38
          obtain ⟨b9, eqb9⟩ : ∃ b9, b9 = wkd.heap.size := ⟨_, rfl⟩
          have hzb9 : wr.heap.size ≤ b9 := by rw [eqb9]; exact hbw.size
          have hqb9 : wkd.heap.size ≤ b9 := Nat.le_of_eq eqb9.symm
          have hbf := bt hbf hal
          have hbw := bt hbw hal
          generalize wkd.alloc (.cells #[.slice none 0 0, .slice none 0 0] 38) = wk1 at hal hbf hbw hb9 ⊢
          rw [← eqb9] at hb9 ⊢
          have hlb9 : b9 < wk1.heap.size := hb9.lt
          clear eqb9 hal
          refine wpAnyX_one (i := 17) rfl (by kernel_rfl) (fun K hK => ?_)
          go_simp
          refine hK.out _ _ (fun _ _ => HS.out _ (bt hbf (alloc_below _ _))) ?_
          (try simp only [Act.put, List.getElem_toArray, List.getElem_cons_zero, List.getElem_cons_succ, List.setIfInBounds_toArray, List.set_cons_zero, List.set_cons_succ])
          have hal := alloc_below wk1 (.cells #[.slice none 0 0, .slice none 0 0] 38)
          have hb8 := bx_new wk1 #[.slice none 0 0, .slice none 0 0] 38
          have hb9 := hb9.on hal
          obtain ⟨b8, eqb8⟩ : ∃ b8, b8 = wk1.heap.size := ⟨_, rfl⟩
          have hzb8 : wr.heap.size ≤ b8 := by rw [eqb8]; exact hbw.size
          have hqb8 : wk1.heap.size ≤ b8 := Nat.le_of_eq eqb8.symm
          have hbf := bt hbf hal
          have hbw := bt hbw hal
          generalize wk1.alloc (.cells #[.slice none 0 0, .slice none 0 0] 38) = wk2 at hal hbf hbw hb9 hb8 ⊢
          rw [← eqb8] at hb8 ⊢
          have hlb8 : b8 < wk2.heap.size := hb8.lt
          clear eqb8 hal
          have hbne : b8 ≠ b9 := by omega
          refine wpAnyX_one (i := 19) rfl (by kernel_rfl) (fun K hK => ?_)
          refine wp_store_row 38 _ _ rfl b8 (#[.slice A1 n1 c1, .slice A2 n2 c2]) rfl rfl 38 (#[.slice none 0 0, .slice none 0 0]) hb8 (by kernel_rfl) (by rfl) (by simp [Value.oneCell']) (hK.out _ _ (fun _ _ => HS.out _ (below_setRow hbf (Nat.le_trans hbf0 hzb8) _)) ?_)
          (try simp only [Act.put, List.getElem_toArray, List.getElem_cons_zero, List.getElem_cons_succ, List.setIfInBounds_toArray, List.set_cons_zero, List.set_cons_succ])
          have hb8 := hb8.row #[.slice A1 n1 c1, .slice A2 n2 c2]
          have hb9 := hb9.rowOther hbne.symm #[.slice A1 n1 c1, .slice A2 n2 c2]
          have hbf := below_setRow hbf (Nat.le_trans hbf0 hzb8) #[.slice A1 n1 c1, .slice A2 n2 c2]
          have hbw := below_setRow hbw hzb8 #[.slice A1 n1 c1, .slice A2 n2 c2]
          generalize wk2.setRow b8 #[.slice A1 n1 c1, .slice A2 n2 c2] = wk3 at hb8 hbf hbw hb9 ⊢
          have hlb8n := hb8.lt
          refine wpAnyX_one (i := 20) rfl (by kernel_rfl) (fun K hK => ?_)
          refine wp_store_row 38 _ _ rfl b9 (#[.slice B1 m1 d1, .slice B2 m2 d2]) rfl rfl 38 (#[.slice none 0 0, .slice none 0 0]) hb9 (by kernel_rfl) (by rfl) (by simp [Value.oneCell']) (hK.out _ _ (fun h => absurd h (by decide)) ?_)
          (try simp only [Act.put, List.getElem_toArray, List.getElem_cons_zero, List.getElem_cons_succ, List.setIfInBounds_toArray, List.set_cons_zero, List.set_cons_succ])
          have h8 := hb8.rowOther hbne #[.slice B1 m1 d1, .slice B2 m2 d2]
          have h9 := hb9.row #[.slice B1 m1 d1, .slice B2 m2 d2]
          have hbf := below_setRow hbf (Nat.le_trans hbf0 hzb9) #[.slice B1 m1 d1, .slice B2 m2 d2]
          have hbw := below_setRow hbw hzb9 #[.slice B1 m1 d1, .slice B2 m2 d2]
          generalize wk3.setRow b9 #[.slice B1 m1 d1, .slice B2 m2 d2] = wk4 at h8 h9 hbf hbw ⊢
          refine wpAnyX_done (by kernel_rfl) ?_ _
        all_goals (focus
          have HBW := Lib.hid hbw
          have HBF := Lib.hid hbf
          have HE4 := Lib.hid (HE.out.on hbw)
          have HC4 := Lib.hid (HC.out.on hbw)
          have H8 := Lib.hid h8
          have H9 := Lib.hid h9
          have t80 := h8.cell 0
          simp at t80
          obtain ⟨tt0, tt1, _⟩ := HS.out _ hbf
          have kx := HE4.out.cell (k := o1) (by rw [HEL.out]; exact ho1n)
          have kf : wk4.frozen? ⟨g1, o1, none⟩ = false := Bx.free HE4.out o1
          clear hbf hbw h8 h9 hb8 hb9
          have hkey : ∃ E5 w5, Hid (E5.length = n) ∧ Hid (FlB w5 g1 E5) ∧ Hid (FlB w5 g2 C) ∧ Hid (Below w2.heap.size w2 w5) ∧ Hid (Bx w5 b8 #[.slice A1 n1 c1, .slice A2 n2 c2] 38) ∧ Hid (Bx w5 b9 #[.slice B1 m1 d1, .slice B2 m2 d2] 38) ∧ Hid (∀ i, i < n → (E5.getD i false = true ↔ Ext ts os ss (p + 1) i)) ∧ ((s = n1 ∧ w5 = wk4.setCell ⟨g1, o1, none⟩ (.bool true)) ∨ (¬ s = n1 ∧ w5 = wk4)) := by
            by_cases hsn : s = n1
            · refine ⟨E.set o1 true, wk4.setCell ⟨g1, o1, none⟩ (.bool true), Lib.hid (by rw [List.length_set]; exact HEL.out), Lib.hid (HE4.out.set o1 true), Lib.hid (HC4.out.other HNE.out.symm _), Lib.hid (HBF.out.setCell (p := ⟨g1, o1, none⟩) hzg1 _), Lib.hid (H8.out.other (by omega) _), Lib.hid (H9.out.other (by omega) _), Lib.hid (fun i hi => ?_), .inl ⟨hsn, rfl⟩⟩
              rw [set_getD (by rw [HEL.out]; exact ho1n), HEX.out i hi, ext_step, ← HO1.out, HS1.out, HL1.out]
              constructor
              · rintro (h | h)
                · exact .inr ⟨h.symm, by omega⟩
                · exact .inl h
              · rintro (h | h)
                · exact .inr h
                · exact .inl h.1.symm
            · refine ⟨E, wk4, HEL, HE4, HC4, HBF, H8, H9, Lib.hid (fun i hi => ?_), .inr ⟨hsn, rfl⟩⟩
              rw [HEX.out i hi, ext_step, ← HO1.out, HS1.out, HL1.out]
              constructor
              · exact .inl
              · rintro (h | h)
                · exact h
                · exact absurd h.2 (by omega)
          obtain ⟨E5, w5, HEL5, HE5, HC5, HB5, H85, H95, HEX5, hor⟩ := hkey
          have HS5 := Lib.hid (show ∀ W, Below w5.heap.size w5 W → W.cell? ⟨b8, 1, none⟩ = some (.slice A2 n2 c2) ∧ W.cell? ⟨b9, 1, none⟩ = some (.slice B2 m2 d2) from fun W h => ⟨by have := (H85.out.on h).cell 1; simpa using this, by have := (H95.out.on h).cell 1; simpa using this⟩)
          have hsI2 : (s : Int) ≤ (c2 : Int) := by omega
          have hsI3 : (s : Int) ≤ (d2 : Int) := by omega
          have hs0 : (0 : Int) ≤ (s : Int) := by omega
          rcases hor with ⟨hsn, hw5⟩ | ⟨hsn, hw5⟩
          · have HW5 := Lib.hid hw5
            have hsnI : ((s : Int) == (n1 : Int)) = true := by simp; omega
            clear hw5 hsn
            go_upto_region 9 with fail
            rw [← HW5.out]
            clear t80 tt0 tt1 kx kf
            have hbf : Below w5.heap.size w5 w5.drew := below_drewN (Below.refl _ _) 1
            refine wp_region_heldX (X := fun k => ([] : List Nat).contains k) (S := fun W => W.cell? ⟨b8, 1, none⟩ = some (.slice A2 n2 c2) ∧ W.cell? ⟨b9, 1, none⟩ = some (.slice B2 m2 d2)) (by kernel_rfl) ?_
            generalize w5.drew = wkd at hbf ⊢
            refine wpAnyX_pure (i := 0) (v := ?_) rfl (by kernel_rfl) (by kernel_rfl) (by kernel_rfl) (fun _ _ _ h => h) (Or.inl ⟨by rfl, ?_⟩) ?_
            rotate_left
            · (intro W _; go_simp; try with_reducible rfl)
            (try simp only [Act.put, List.getElem_toArray, List.getElem_cons_zero, List.getElem_cons_succ, List.setIfInBounds_toArray, List.set_cons_zero, List.set_cons_succ])
            refine wpAnyX_takeL (L := []) (i := 1) (v := ?_) rfl (by kernel_rfl) (by kernel_rfl) (by kernel_rfl) (by kernel_rfl) (fun _ _ _ h => h) (Or.inl ⟨by rfl, ?_⟩) (HS5.out _ hbf) ?_
            rotate_left
            · (intro W hSW; (try dsimp only at hSW); obtain ⟨z0, z1⟩ := hSW; go_simp; try with_reducible rfl)
            (try simp only [Act.put, List.getElem_toArray, List.getElem_cons_zero, List.getElem_cons_succ, List.setIfInBounds_toArray, List.set_cons_zero, List.set_cons_succ])
            refine wpAnyX_pure (i := 2) (v := ?_) rfl (by kernel_rfl) (by kernel_rfl) (by kernel_rfl) (fun _ _ _ h => h) (Or.inl ⟨by rfl, ?_⟩) ?_
            rotate_left
            · (intro W _; go_simp; try with_reducible rfl)
            (try simp only [Act.put, List.getElem_toArray, List.getElem_cons_zero, List.getElem_cons_succ, List.setIfInBounds_toArray, List.set_cons_zero, List.set_cons_succ])
            refine wpAnyX_pure (i := 3) (v := ?_) rfl (by kernel_rfl) (by kernel_rfl) (by kernel_rfl) (fun _ _ _ h => h) (Or.inl ⟨by rfl, ?_⟩) ?_
            rotate_left
            · (intro W _; go_simp; try with_reducible rfl)
            (try simp only [Act.put, List.getElem_toArray, List.getElem_cons_zero, List.getElem_cons_succ, List.setIfInBounds_toArray, List.set_cons_zero, List.set_cons_succ])
            refine wpAnyX_pure (i := 4) (v := ?_) rfl (by kernel_rfl) (by kernel_rfl) (by kernel_rfl) (fun _ _ _ h => h) (Or.inl ⟨by rfl, ?_⟩) ?_
            rotate_left
            · (intro W _; go_simp; try with_reducible rfl)
            (try simp only [Act.put, List.getElem_toArray, List.getElem_cons_zero, List.getElem_cons_succ, List.setIfInBounds_toArray, List.set_cons_zero, List.set_cons_succ])
            refine wpAnyX_takeL (L := []) (i := 5) (v := ?_) rfl (by kernel_rfl) (by kernel_rfl) (by kernel_rfl) (by kernel_rfl) (fun _ _ _ h => h) (Or.inl ⟨by rfl, ?_⟩) (HS5.out _ hbf) ?_
            rotate_left
            · (intro W hSW; (try dsimp only at hSW); obtain ⟨z0, z1⟩ := hSW; go_simp; try with_reducible rfl)
            (try simp only [Act.put, List.getElem_toArray, List.getElem_cons_zero, List.getElem_cons_succ, List.setIfInBounds_toArray, List.set_cons_zero, List.set_cons_succ])
            refine wpAnyX_pure (i := 6) (v := ?_) rfl (by kernel_rfl) (by kernel_rfl) (by kernel_rfl) (fun _ _ _ h => h) (Or.inl ⟨by rfl, ?_⟩) ?_
            rotate_left
            · (intro W _; go_simp; try with_reducible rfl)
            (try simp only [Act.put, List.getElem_toArray, List.getElem_cons_zero, List.getElem_cons_succ, List.setIfInBounds_toArray, List.set_cons_zero, List.set_cons_succ])
            refine wpAnyX_pure (i := 7) (v := ?_) rfl (by kernel_rfl) (by kernel_rfl) (by kernel_rfl) (fun _ _ _ h => h) (Or.inl ⟨by rfl, ?_⟩) ?_
            rotate_left
            · (intro W _; go_simp; try with_reducible rfl)
            (try simp only [Act.put, List.getElem_toArray, List.getElem_cons_zero, List.getElem_cons_succ, List.setIfInBounds_toArray, List.set_cons_zero, List.set_cons_succ])
            refine wpAnyX_one (i := 8) rfl (by kernel_rfl) (fun K hK => ?_)
            go_simp
            go_at_call 96
            refine (wcommon A2 B2 s c2 s d2 ((tOut ts o1).take s) ((tOut ts o2).take s) _ ((HJ4.out _ (bt HB5.out hbf)).takeX hsn2) ((HI4.out _ (bt HB5.out hbf)).takeX hsm2)).mono ?_
            rintro r w6 ⟨rfl, q6, rfl⟩
            have hbf := below_drewN hbf q6
            obtain ⟨g, hg⟩ : ∃ g, g = cmn ((tOut ts o1).take s) ((tOut ts o2).take s) := ⟨_, rfl⟩
            rw [← hg]
            have HGA := Lib.hid (show g = agrD ts os ss p by rw [hg]; unfold agrD; rw [HS1.out, Int.toNat_natCast, HO1.out, HO2.out])
            have hgs : g ≤ s := by rw [hg]; have := cmn_le_left ((tOut ts o1).take s) ((tOut ts o2).take s); rw [List.length_take] at this; omega
            clear hg
            refine hK.out _ _ (fun _ _ => HS5.out _ hbf) ?_
            (try simp only [Act.put, List.getElem_toArray, List.getElem_cons_zero, List.getElem_cons_succ, List.setIfInBounds_toArray, List.set_cons_zero, List.set_cons_succ])
            refine wpAnyX_pure (i := 9) (v := ?_) rfl (by kernel_rfl) (by kernel_rfl) (by kernel_rfl) (fun _ _ _ h => h) (Or.inl ⟨by rfl, ?_⟩) ?_
            rotate_left
            · (intro W _; go_simp; try with_reducible rfl)
            (try simp only [Act.put, List.getElem_toArray, List.getElem_cons_zero, List.getElem_cons_succ, List.setIfInBounds_toArray, List.set_cons_zero, List.set_cons_succ])
            refine wpAnyX_done (by kernel_rfl) ?_ _
            by_cases hgeq : g = s
            · have hgI : ((g : Int) == (s : Int)) = true := by simp; omega
              have HBn := Lib.hid (bt HB5.out hbf)
              have HEn := Lib.hid (HE5.out.on hbf)
              have HCn := Lib.hid (HC5.out.on hbf)
              have HCO5 := Lib.hid (show ∀ i, i < n → (C.getD i false = true ↔ Con ts os ss (p + 1) i) from fun i hi => by
                rw [HCO.out i hi, con_step]
                constructor
                · exact .inl
                · rintro (h | h)
                  · exact h
                  · have := h.1; rw [← HGA.out, HS1.out] at this; omega)
              clear hbf hgeq
              go_wp2_with fail
              go_roundw
              case rel => exact ⟨p + 1, E5, C, rfl, by omega, HEL5, HCL, HEn, HCn, HBn, HEX5, HCO5⟩
              case measure => simp [intOf]; omega
            have hgI : ((g : Int) == (s : Int)) = false := by simp; omega
            have wg1 : IntKind.i64.wrap ((g : Int) + 1) = (g : Int) + 1 := by rw [IntKind.wrap_i64]; omega
            have d0 := (HMD.out _ (bt HB5.out hbf)).cell 0
            have d1' := (HMD.out _ (bt HB5.out hbf)).cell 1
            simp at d0 d1'
            have HARD := Lib.hid (fun (W : World) (h : Below w2.heap.size w2 W) => paround (some ⟨bO, oO, none⟩) (some ⟨bS, oS, none⟩) n cO m cS p ((g : Int) + 1) ss W (HSI.out _ h) hpm)
            have HBn := Lib.hid hbf
            clear hbf
            go_wp2_with fail
            refine (HARD.out _ (bt HB5.out HBn.out)).mono ?_
            rintro r w7 ⟨f, t, rfl, hAR, b7⟩
            clear d0 d1'
            have hft : f ≤ t ∧ t ≤ n ∧ f ≤ p ∧ p < t := by obtain ⟨x1, x2, x3, _⟩ := hAR; have := HMN.out; omega
            have HAR := Lib.hid hAR
            have hb57 := HBn.out.trans (b7.mono HBn.out.size)
            have HB7 := Lib.hid (bt HB5.out hb57)
            have HE7 := Lib.hid (HE5.out.on hb57)
            have HC7 := Lib.hid (HC5.out.on hb57)
            obtain ⟨hf1, hf2, hf3, hf4⟩ := hft
            have e0 := (HMD.out _ HB7.out).cell 0
            simp at e0
            have hfI : (f : Int) ≤ (t : Int) := by omega
            have htI : (t : Int) ≤ (cO : Int) := by omega
            have hf0 : (0 : Int) ≤ (f : Int) := by omega
            have ht0 : (0 : Int) ≤ (t : Int) := by omega
            have hcf : ¬ cO = f := by omega
            have wtf : (t : Int) - (f : Int) = ((t - f : Nat) : Int) := by omega
            clear hAR b7 hb57
            go_upto_region 13 with fail
            clear e0
            go_loopw [87] (fun v87 wx => ∃ (x : Nat) (C7 : List Bool), v87 = .int .i64 x ∧ x ≤ t - f ∧ Hid (C7.length = n) ∧ Hid (FlB wx g1 E5) ∧ Hid (FlB wx g2 C7) ∧ Hid (Below w2.heap.size w2 wx) ∧ Hid (∀ i, i < n → (C7.getD i false = true ↔ C.getD i false = true ∨ ∃ q, f ≤ q ∧ q < f + x ∧ opo os q = i))) (fun v87 _ => t - f - (intOf v87).toNat)
            case atStart => exact ⟨0, C, rfl, Nat.zero_le _, HCL, HE7, HC7, HB7, Lib.hid (fun i _ => ⟨.inl, fun h => h.elim id fun ⟨q, h1, h2, _⟩ => absurd h2 (by omega)⟩)⟩
            case round =>
              rename_i wr0
              clear HE7 HC7 HB7
              obtain ⟨x, C7, rfl, hxt, HCL7, HEx, HCx, HBx, HC7X⟩ := hrel
              by_cases hx : x < t - f
              · have hq : f + x < ts.length := by rw [HLT.out]; omega
                have hr3 := HD.out.rng (f + x) hq
                obtain ⟨o3, ho3⟩ : ∃ o3, o3 = opo os (f + x) := ⟨_, rfl⟩
                have ho3I : os.getD (f + x) 0 = (o3 : Int) := by rw [ho3]; unfold opo; omega
                have ho3n : o3 < n := by rw [ho3, ← HLT.out]; exact hr3.2
                obtain ⟨_, _, eO3, _, rO3⟩ := (HOI.out _ HBx.out).at_ (k := f + x) (by omega)
                cases eO3
                rw [ho3I, ← Nat.add_assoc] at rO3
                have HO3 := Lib.hid ho3
                have kx3 := HCx.out.cell (k := o3) (by rw [HCL7.out]; exact ho3n)
                have kf3 : wr.frozen? ⟨g2, o3, none⟩ = false := Bx.free HCx.out o3
                have ho3i : (o3 : Int) < (n : Int) := by omega
                have ho30 : (0 : Int) ≤ (o3 : Int) := by omega
                have hxI : (x : Int) < ((t - f : Nat) : Int) := by omega
                have hx0 : (0 : Int) ≤ (x : Int) := by omega
                have wx1 : IntKind.i64.wrap ((x : Int) + 1) = ((x + 1 : Nat) : Int) := by rw [IntKind.wrap_i64]; omega
                have HEn := Lib.hid (HEx.out.other (k := o3) HNE.out (.bool true))
                have HCn := Lib.hid (HCx.out.set o3 true)
                have HBn := Lib.hid (HBx.out.setCell (p := ⟨g2, o3, none⟩) hzg2 (.bool true))
                have HC8 := Lib.hid (show ∀ i, i < n → ((C7.set o3 true).getD i false = true ↔ C.getD i false = true ∨ ∃ q, f ≤ q ∧ q < f + (x + 1) ∧ opo os q = i) from fun i hi => by
                  rw [set_getD (by rw [HCL7.out]; exact ho3n), HC7X.out i hi]
                  constructor
                  · rintro (h | h | ⟨q, h1, h2, h3⟩)
                    · exact .inr ⟨f + x, by omega, by omega, by rw [h]; exact HO3.out.symm⟩
                    · exact .inl h
                    · exact .inr ⟨q, h1, by omega, h3⟩
                  · rintro (h | ⟨q, h1, h2, h3⟩)
                    · exact .inr (.inl h)
                    · by_cases e : q = f + x
                      · exact .inl (by rw [← h3, e]; exact HO3.out.symm)
                      · exact .inr (.inr ⟨q, h1, by omega, h3⟩))
                have HCL8 := Lib.hid (show (C7.set o3 true).length = n by rw [List.length_set]; exact HCL7.out)
                clear ho3 hr3 ho3I hq
                go_wp2_with fail
                go_roundw
                case rel => exact ⟨x + 1, C7.set o3 true, rfl, by omega, HCL8, HEn, HCn, HBn, HC8⟩
                case measure => simp [intOf]; omega
              · have hxI : ¬ (x : Int) < ((t - f : Nat) : Int) := by omega
                have HCO5 := Lib.hid (show ∀ i, i < n → (C7.getD i false = true ↔ Con ts os ss (p + 1) i) from fun i hi => by
                  rw [HC7X.out i hi, HCO.out i hi, con_step]
                  have hmt : ts.length = m + 1 := by rw [HLT.out]; have := HMN.out; omega
                  have hnm : n = m + 1 := by have := HMN.out; omega
                  constructor
                  · rintro (h | ⟨q, h1, h2, h3⟩)
                    · exact .inl h
                    · exact .inr ⟨by rw [← HGA.out, HS1.out]; omega, q, by omega, by rw [← HGA.out]; exact (arnd_iff HAR.out (by omega)).1 ⟨h1, by omega⟩, h3⟩
                  · rintro (h | ⟨_, q, h1, h2, h3⟩)
                    · exact .inl h
                    · rw [← HGA.out] at h2
                      obtain ⟨h4, h5⟩ := (arnd_iff HAR.out (by omega)).2 h2
                      exact .inr ⟨q, h4, by omega, h3⟩)
                go_wp2_with fail
                go_roundw
                case rel => exact ⟨p + 1, E5, C7, rfl, by omega, HEL5, HCL7, HEx, HCx, HBx, HEX5, HCO5⟩
                case measure => simp [intOf]; omega
          · have hsnI : ((s : Int) == (n1 : Int)) = false := by simp; omega
            subst hw5
            go_upto_region 9 with fail
            clear t80 tt0 tt1 kx kf
            have hbf : Below w5.heap.size w5 w5.drew := below_drewN (Below.refl _ _) 1
            refine wp_region_heldX (X := fun k => ([] : List Nat).contains k) (S := fun W => W.cell? ⟨b8, 1, none⟩ = some (.slice A2 n2 c2) ∧ W.cell? ⟨b9, 1, none⟩ = some (.slice B2 m2 d2)) (by kernel_rfl) ?_
            generalize w5.drew = wkd at hbf ⊢
            refine wpAnyX_pure (i := 0) (v := ?_) rfl (by kernel_rfl) (by kernel_rfl) (by kernel_rfl) (fun _ _ _ h => h) (Or.inl ⟨by rfl, ?_⟩) ?_
            rotate_left
            · (intro W _; go_simp; try with_reducible rfl)
            (try simp only [Act.put, List.getElem_toArray, List.getElem_cons_zero, List.getElem_cons_succ, List.setIfInBounds_toArray, List.set_cons_zero, List.set_cons_succ])
            refine wpAnyX_takeL (L := []) (i := 1) (v := ?_) rfl (by kernel_rfl) (by kernel_rfl) (by kernel_rfl) (by kernel_rfl) (fun _ _ _ h => h) (Or.inl ⟨by rfl, ?_⟩) (HS5.out _ hbf) ?_
            rotate_left
            · (intro W hSW; (try dsimp only at hSW); obtain ⟨z0, z1⟩ := hSW; go_simp; try with_reducible rfl)
            (try simp only [Act.put, List.getElem_toArray, List.getElem_cons_zero, List.getElem_cons_succ, List.setIfInBounds_toArray, List.set_cons_zero, List.set_cons_succ])
            refine wpAnyX_pure (i := 2) (v := ?_) rfl (by kernel_rfl) (by kernel_rfl) (by kernel_rfl) (fun _ _ _ h => h) (Or.inl ⟨by rfl, ?_⟩) ?_
            rotate_left
            · (intro W _; go_simp; try with_reducible rfl)
            (try simp only [Act.put, List.getElem_toArray, List.getElem_cons_zero, List.getElem_cons_succ, List.setIfInBounds_toArray, List.set_cons_zero, List.set_cons_succ])
            refine wpAnyX_pure (i := 3) (v := ?_) rfl (by kernel_rfl) (by kernel_rfl) (by kernel_rfl) (fun _ _ _ h => h) (Or.inl ⟨by rfl, ?_⟩) ?_
            rotate_left
            · (intro W _; go_simp; try with_reducible rfl)
            (try simp only [Act.put, List.getElem_toArray, List.getElem_cons_zero, List.getElem_cons_succ, List.setIfInBounds_toArray, List.set_cons_zero, List.set_cons_succ])
            refine wpAnyX_pure (i := 4) (v := ?_) rfl (by kernel_rfl) (by kernel_rfl) (by kernel_rfl) (fun _ _ _ h => h) (Or.inl ⟨by rfl, ?_⟩) ?_
            rotate_left
            · (intro W _; go_simp; try with_reducible rfl)
            (try simp only [Act.put, List.getElem_toArray, List.getElem_cons_zero, List.getElem_cons_succ, List.setIfInBounds_toArray, List.set_cons_zero, List.set_cons_succ])
            refine wpAnyX_takeL (L := []) (i := 5) (v := ?_) rfl (by kernel_rfl) (by kernel_rfl) (by kernel_rfl) (by kernel_rfl) (fun _ _ _ h => h) (Or.inl ⟨by rfl, ?_⟩) (HS5.out _ hbf) ?_
            rotate_left
            · (intro W hSW; (try dsimp only at hSW); obtain ⟨z0, z1⟩ := hSW; go_simp; try with_reducible rfl)
            (try simp only [Act.put, List.getElem_toArray, List.getElem_cons_zero, List.getElem_cons_succ, List.setIfInBounds_toArray, List.set_cons_zero, List.set_cons_succ])
            refine wpAnyX_pure (i := 6) (v := ?_) rfl (by kernel_rfl) (by kernel_rfl) (by kernel_rfl) (fun _ _ _ h => h) (Or.inl ⟨by rfl, ?_⟩) ?_
            rotate_left
            · (intro W _; go_simp; try with_reducible rfl)
            (try simp only [Act.put, List.getElem_toArray, List.getElem_cons_zero, List.getElem_cons_succ, List.setIfInBounds_toArray, List.set_cons_zero, List.set_cons_succ])
            refine wpAnyX_pure (i := 7) (v := ?_) rfl (by kernel_rfl) (by kernel_rfl) (by kernel_rfl) (fun _ _ _ h => h) (Or.inl ⟨by rfl, ?_⟩) ?_
            rotate_left
            · (intro W _; go_simp; try with_reducible rfl)
            (try simp only [Act.put, List.getElem_toArray, List.getElem_cons_zero, List.getElem_cons_succ, List.setIfInBounds_toArray, List.set_cons_zero, List.set_cons_succ])
            refine wpAnyX_one (i := 8) rfl (by kernel_rfl) (fun K hK => ?_)
            go_simp
            go_at_call 96
            refine (wcommon A2 B2 s c2 s d2 ((tOut ts o1).take s) ((tOut ts o2).take s) _ ((HJ4.out _ (bt HB5.out hbf)).takeX hsn2) ((HI4.out _ (bt HB5.out hbf)).takeX hsm2)).mono ?_
            rintro r w6 ⟨rfl, q6, rfl⟩
            have hbf := below_drewN hbf q6
            obtain ⟨g, hg⟩ : ∃ g, g = cmn ((tOut ts o1).take s) ((tOut ts o2).take s) := ⟨_, rfl⟩
            rw [← hg]
            have HGA := Lib.hid (show g = agrD ts os ss p by rw [hg]; unfold agrD; rw [HS1.out, Int.toNat_natCast, HO1.out, HO2.out])
            have hgs : g ≤ s := by rw [hg]; have := cmn_le_left ((tOut ts o1).take s) ((tOut ts o2).take s); rw [List.length_take] at this; omega
            clear hg
            refine hK.out _ _ (fun _ _ => HS5.out _ hbf) ?_
            (try simp only [Act.put, List.getElem_toArray, List.getElem_cons_zero, List.getElem_cons_succ, List.setIfInBounds_toArray, List.set_cons_zero, List.set_cons_succ])
            refine wpAnyX_pure (i := 9) (v := ?_) rfl (by kernel_rfl) (by kernel_rfl) (by kernel_rfl) (fun _ _ _ h => h) (Or.inl ⟨by rfl, ?_⟩) ?_
            rotate_left
            · (intro W _; go_simp; try with_reducible rfl)
            (try simp only [Act.put, List.getElem_toArray, List.getElem_cons_zero, List.getElem_cons_succ, List.setIfInBounds_toArray, List.set_cons_zero, List.set_cons_succ])
            refine wpAnyX_done (by kernel_rfl) ?_ _
            by_cases hgeq : g = s
            · have hgI : ((g : Int) == (s : Int)) = true := by simp; omega
              have HBn := Lib.hid (bt HB5.out hbf)
              have HEn := Lib.hid (HE5.out.on hbf)
              have HCn := Lib.hid (HC5.out.on hbf)
              have HCO5 := Lib.hid (show ∀ i, i < n → (C.getD i false = true ↔ Con ts os ss (p + 1) i) from fun i hi => by
                rw [HCO.out i hi, con_step]
                constructor
                · exact .inl
                · rintro (h | h)
                  · exact h
                  · have := h.1; rw [← HGA.out, HS1.out] at this; omega)
              clear hbf hgeq
              go_wp2_with fail
              go_roundw
              case rel => exact ⟨p + 1, E5, C, rfl, by omega, HEL5, HCL, HEn, HCn, HBn, HEX5, HCO5⟩
              case measure => simp [intOf]; omega
            have hgI : ((g : Int) == (s : Int)) = false := by simp; omega
            have wg1 : IntKind.i64.wrap ((g : Int) + 1) = (g : Int) + 1 := by rw [IntKind.wrap_i64]; omega
            have d0 := (HMD.out _ (bt HB5.out hbf)).cell 0
            have d1' := (HMD.out _ (bt HB5.out hbf)).cell 1
            simp at d0 d1'
            have HARD := Lib.hid (fun (W : World) (h : Below w2.heap.size w2 W) => paround (some ⟨bO, oO, none⟩) (some ⟨bS, oS, none⟩) n cO m cS p ((g : Int) + 1) ss W (HSI.out _ h) hpm)
            have HBn := Lib.hid hbf
            clear hbf
            go_wp2_with fail
            refine (HARD.out _ (bt HB5.out HBn.out)).mono ?_
            rintro r w7 ⟨f, t, rfl, hAR, b7⟩
            clear d0 d1'
            have hft : f ≤ t ∧ t ≤ n ∧ f ≤ p ∧ p < t := by obtain ⟨x1, x2, x3, _⟩ := hAR; have := HMN.out; omega
            have HAR := Lib.hid hAR
            have hb57 := HBn.out.trans (b7.mono HBn.out.size)
            have HB7 := Lib.hid (bt HB5.out hb57)
            have HE7 := Lib.hid (HE5.out.on hb57)
            have HC7 := Lib.hid (HC5.out.on hb57)
            obtain ⟨hf1, hf2, hf3, hf4⟩ := hft
            have e0 := (HMD.out _ HB7.out).cell 0
            simp at e0
            have hfI : (f : Int) ≤ (t : Int) := by omega
            have htI : (t : Int) ≤ (cO : Int) := by omega
            have hf0 : (0 : Int) ≤ (f : Int) := by omega
            have ht0 : (0 : Int) ≤ (t : Int) := by omega
            have hcf : ¬ cO = f := by omega
            have wtf : (t : Int) - (f : Int) = ((t - f : Nat) : Int) := by omega
            clear hAR b7 hb57
            go_upto_region 13 with fail
            clear e0
            go_loopw [87] (fun v87 wx => ∃ (x : Nat) (C7 : List Bool), v87 = .int .i64 x ∧ x ≤ t - f ∧ Hid (C7.length = n) ∧ Hid (FlB wx g1 E5) ∧ Hid (FlB wx g2 C7) ∧ Hid (Below w2.heap.size w2 wx) ∧ Hid (∀ i, i < n → (C7.getD i false = true ↔ C.getD i false = true ∨ ∃ q, f ≤ q ∧ q < f + x ∧ opo os q = i))) (fun v87 _ => t - f - (intOf v87).toNat)
            case atStart => exact ⟨0, C, rfl, Nat.zero_le _, HCL, HE7, HC7, HB7, Lib.hid (fun i _ => ⟨.inl, fun h => h.elim id fun ⟨q, h1, h2, _⟩ => absurd h2 (by omega)⟩)⟩
            case round =>
              rename_i wr0
              clear HE7 HC7 HB7
              obtain ⟨x, C7, rfl, hxt, HCL7, HEx, HCx, HBx, HC7X⟩ := hrel
              by_cases hx : x < t - f
              · have hq : f + x < ts.length := by rw [HLT.out]; omega
                have hr3 := HD.out.rng (f + x) hq
                obtain ⟨o3, ho3⟩ : ∃ o3, o3 = opo os (f + x) := ⟨_, rfl⟩
                have ho3I : os.getD (f + x) 0 = (o3 : Int) := by rw [ho3]; unfold opo; omega
                have ho3n : o3 < n := by rw [ho3, ← HLT.out]; exact hr3.2
                obtain ⟨_, _, eO3, _, rO3⟩ := (HOI.out _ HBx.out).at_ (k := f + x) (by omega)
                cases eO3
                rw [ho3I, ← Nat.add_assoc] at rO3
                have HO3 := Lib.hid ho3
                have kx3 := HCx.out.cell (k := o3) (by rw [HCL7.out]; exact ho3n)
                have kf3 : wr.frozen? ⟨g2, o3, none⟩ = false := Bx.free HCx.out o3
                have ho3i : (o3 : Int) < (n : Int) := by omega
                have ho30 : (0 : Int) ≤ (o3 : Int) := by omega
                have hxI : (x : Int) < ((t - f : Nat) : Int) := by omega
                have hx0 : (0 : Int) ≤ (x : Int) := by omega
                have wx1 : IntKind.i64.wrap ((x : Int) + 1) = ((x + 1 : Nat) : Int) := by rw [IntKind.wrap_i64]; omega
                have HEn := Lib.hid (HEx.out.other (k := o3) HNE.out (.bool true))
                have HCn := Lib.hid (HCx.out.set o3 true)
                have HBn := Lib.hid (HBx.out.setCell (p := ⟨g2, o3, none⟩) hzg2 (.bool true))
                have HC8 := Lib.hid (show ∀ i, i < n → ((C7.set o3 true).getD i false = true ↔ C.getD i false = true ∨ ∃ q, f ≤ q ∧ q < f + (x + 1) ∧ opo os q = i) from fun i hi => by
                  rw [set_getD (by rw [HCL7.out]; exact ho3n), HC7X.out i hi]
                  constructor
                  · rintro (h | h | ⟨q, h1, h2, h3⟩)
                    · exact .inr ⟨f + x, by omega, by omega, by rw [h]; exact HO3.out.symm⟩
                    · exact .inl h
                    · exact .inr ⟨q, h1, by omega, h3⟩
                  · rintro (h | ⟨q, h1, h2, h3⟩)
                    · exact .inr (.inl h)
                    · by_cases e : q = f + x
                      · exact .inl (by rw [← h3, e]; exact HO3.out.symm)
                      · exact .inr (.inr ⟨q, h1, by omega, h3⟩))
                have HCL8 := Lib.hid (show (C7.set o3 true).length = n by rw [List.length_set]; exact HCL7.out)
                clear ho3 hr3 ho3I hq
                go_wp2_with fail
                go_roundw
                case rel => exact ⟨x + 1, C7.set o3 true, rfl, by omega, HCL8, HEn, HCn, HBn, HC8⟩
                case measure => simp [intOf]; omega
              · have hxI : ¬ (x : Int) < ((t - f : Nat) : Int) := by omega
                have HCO5 := Lib.hid (show ∀ i, i < n → (C7.getD i false = true ↔ Con ts os ss (p + 1) i) from fun i hi => by
                  rw [HC7X.out i hi, HCO.out i hi, con_step]
                  have hmt : ts.length = m + 1 := by rw [HLT.out]; have := HMN.out; omega
                  have hnm : n = m + 1 := by have := HMN.out; omega
                  constructor
                  · rintro (h | ⟨q, h1, h2, h3⟩)
                    · exact .inl h
                    · exact .inr ⟨by rw [← HGA.out, HS1.out]; omega, q, by omega, by rw [← HGA.out]; exact (arnd_iff HAR.out (by omega)).1 ⟨h1, by omega⟩, h3⟩
                  · rintro (h | ⟨_, q, h1, h2, h3⟩)
                    · exact .inl h
                    · rw [← HGA.out] at h2
                      obtain ⟨h4, h5⟩ := (arnd_iff HAR.out (by omega)).2 h2
                      exact .inr ⟨q, h4, by omega, h3⟩)
                go_wp2_with fail
                go_roundw
                case rel => exact ⟨p + 1, E5, C7, rfl, by omega, HEL5, HCL7, HEx, HCx, HBx, HEX5, HCO5⟩
                case measure => simp [intOf]; omega)
      obtain rfl : p = m := by omega
      have hpI : ¬ (p : Int) < (p : Int) := by omega
      go_wp2_with fail
      go_loopw [98] (fun v98 wr2 => ∃ x : Nat, v98 = .int .i64 x ∧ x ≤ n ∧ Hid (∀ j, j < x → ¬ Ext ts os ss ss.length j ∧ ¬ Con ts os ss ss.length j) ∧ ∃ q, wr2 = wr.drewN q) (fun v98 _ => n - (intOf v98).toNat)
      case atStart => exact ⟨0, rfl, Nat.zero_le _, Lib.hid (fun j h => absurd h (by omega)), 0, rfl⟩
      case round =>
        obtain ⟨x, rfl, hxn, HNO, q, rfl⟩ := hrel
        by_cases hx : x < n
        · have f1 := HE.out.cell (k := x) (by rw [HEL.out]; exact hx)
          have f2 := HC.out.cell (k := x) (by rw [HCL.out]; exact hx)
          have g1' := HEX.out x hx
          have g2' := HCO.out x hx
          rw [HML.out] at g1' g2'
          have hxI : (x : Int) < (n : Int) := by omega
          have hx0 : (0 : Int) ≤ (x : Int) := by omega
          obtain ⟨e1, he1⟩ : ∃ e1, e1 = E.getD x false := ⟨_, rfl⟩
          obtain ⟨e2, he2⟩ : ∃ e2, e2 = C.getD x false := ⟨_, rfl⟩
          rw [← he1] at f1 g1'
          rw [← he2] at f2 g2'
          have G1 := Lib.hid g1'
          have G2 := Lib.hid g2'
          clear he1 he2 g1' g2'
          cases e1
          case true =>
            go_wp2_with fail
            go_ret
            exact ⟨7, rfl, ⟨os, ss, HD.out, .inr ⟨x, by rw [HLT.out]; exact hx, HNO.out, .inl ⟨G1.out.1 (by simp), rfl⟩⟩⟩, below_drewN (bt HB2.out HBR.out) q⟩
          cases e2
          case true =>
            go_wp2_with fail
            go_ret
            exact ⟨13, rfl, ⟨os, ss, HD.out, .inr ⟨x, by rw [HLT.out]; exact hx, HNO.out, .inr ⟨fun h => absurd (G1.out.2 h) (by simp), G2.out.1 (by simp), rfl⟩⟩⟩, below_drewN (bt HB2.out HBR.out) q⟩
          have HNO2 := Lib.hid (show ∀ j, j < x + 1 → ¬ Ext ts os ss ss.length j ∧ ¬ Con ts os ss ss.length j from fun j hj => by
            rcases Nat.lt_or_ge j x with h | h
            · exact HNO.out j h
            · obtain rfl : j = x := by omega
              exact ⟨fun h => absurd (G1.out.2 h) (by decide), fun h => absurd (G2.out.2 h) (by decide)⟩)
          have wx1 : IntKind.i64.wrap ((x : Int) + 1) = ((x + 1 : Nat) : Int) := by rw [IntKind.wrap_i64]; omega
          go_wp2_with fail
          go_roundw
          case rel => exact ⟨x + 1, rfl, by omega, HNO2, q, rfl⟩
          case measure => simp [intOf]; omega
        · obtain rfl : x = n := by omega
          have hxI : ¬ (x : Int) < (x : Int) := by omega
          go_wp2_with fail
          go_ret
          exact ⟨0, rfl, ⟨os, ss, HD.out, .inl ⟨rfl, fun i hi => HNO.out i (by rw [← HLT.out]; exact hi)⟩⟩, below_drewN (bt HB2.out HBR.out) q⟩)
end Go.Proofs.Ytkgdgnmobahhfaa
end

section
/- Valid of observations, of the program. -/
namespace Go.Proofs.Ytkgdgnmobahhfaa
open Go.RowKit

/-- The error of a listed trace. -/
def lstE (xs ys : List Int) (i : Int) : Int := if chk xs i = 0 then (if xs.length = 0 then 19 else ansE xs ys) else chk xs i
theorem lst_zero {xs ys : List Int} {i : Int} (h : lstE xs ys i = 0) : 0 < xs.length ∧ prpE xs ys i = 0 := by
  unfold lstE at h
  split at h
  · rename_i hc
    split at h
    · omega
    · exact ⟨by omega, by unfold prpE; rw [if_pos hc]; exact h⟩
  · omega
theorem lst_ok {xs ys : List Int} {i : Int} (h0 : 0 < xs.length) (h : prpE xs ys i = 0) : lstE xs ys i = 0 := by
  unfold prpE at h
  unfold lstE
  split at h
  · rename_i hc
    rw [if_pos hc, if_neg (by omega)]
    exact h
  · omega

set_option maxHeartbeats 2000000 in
theorem plisted (A B : Option Addr) (n c m d : Nat) (i : Int) (xs ys : List Int) (w : World) (hx : Ints w A n xs) (hy : Ints w B m ys) :
    Calls Try.prog 56 #[.agg #[.slice A n c, .slice B m d], .int .i64 i] w fun e w' => e = .returned (.int .i64 (lstE xs ys i)) ∧ Below w.heap.size w w' := by
  have hb0 := alloc_below w (.cells #[.slice A n c, .slice B m d] 38)
  have HX := Lib.hid (hx.below hb0)
  have HY := Lib.hid (hy.below hb0)
  have HB := Lib.hid hb0
  have HLX := Lib.hid hx.1
  have k0 : (w.alloc (.cells #[.slice A n c, .slice B m d] 38)).cell? ⟨w.heap.size, 0, none⟩ = some (.slice A n c) := by simp
  have k1 : (w.alloc (.cells #[.slice A n c, .slice B m d] 38)).cell? ⟨w.heap.size, 1, none⟩ = some (.slice B m d) := by simp
  clear hx hy hb0
  by_cases hc : chk xs i = 0
  · have HC := Lib.hid hc
    by_cases h0 : n = 0
    · have HP := Lib.hid (show lstE xs ys i = 19 by unfold lstE; rw [if_pos hc, if_pos (by rw [HLX.out]; exact h0)])
      have hz : ((n : Int) == 0) = true := by simpa using h0
      clear hc h0
      go_enter Try.func56, Try.ntmps56
      go_wp2_with fail
      refine (wcheck _ _ _ _ xs _ HX.out).mono ?_
      rintro e w2 ⟨rfl, rfl⟩
      rw [HC.out]
      go_wp2_with fail
      go_ret
      exact ⟨by rw [HP.out]; rfl, HB.out⟩
    · have HP := Lib.hid (show lstE xs ys i = ansE xs ys by unfold lstE; rw [if_pos hc, if_neg (by rw [HLX.out]; exact h0)])
      have hz : ((n : Int) == 0) = false := by simpa using h0
      clear hc h0
      go_enter Try.func56, Try.ntmps56
      go_wp2_with fail
      refine (wcheck _ _ _ _ xs _ HX.out).mono ?_
      rintro e w2 ⟨rfl, rfl⟩
      rw [HC.out]
      go_wp2_with fail
      refine (panswered A B n c m d xs ys _ HX.out HY.out).mono ?_
      rintro e w3 ⟨rfl, b3⟩
      have HB3 := Lib.hid (bt HB.out b3)
      clear b3
      go_wp2
      go_ret
      exact ⟨by rw [HP.out]; rfl, HB3.out⟩
  · have HP := Lib.hid (show lstE xs ys i = chk xs i by unfold lstE; rw [if_neg hc])
    have hne : (chk xs i != 0) = true := by simpa using hc
    go_enter Try.func56, Try.ntmps56
    go_wp2_with fail
    refine (wcheck _ _ _ _ xs _ HX.out).mono ?_
    rintro e w2 ⟨rfl, rfl⟩
    obtain ⟨E, hE⟩ : ∃ E, E = chk xs i := ⟨_, rfl⟩
    have HE := Lib.hid hE
    rw [← hE] at hne hc ⊢
    clear hE
    go_wp2
    go_ret
    exact ⟨by rw [HP.out, ← HE.out]; rfl, HB.out⟩

theorem ppermit16 (i : Int) (w : World) : Calls Try.prog 55 #[.int .i64 i] w fun e w' => e = .returned (.bool (decide (1 ≤ i ∧ i ≤ 64))) ∧ w' = w := by
  by_cases h1 : 1 ≤ i
  · by_cases h2 : i ≤ 64
    · go_enter Try.func55, Try.ntmps55
      go_wp2
      go_ret
      exact ⟨by simp [h1, h2], rfl⟩
    · go_enter Try.func55, Try.ntmps55
      go_wp2
      go_ret
      exact ⟨by simp [h2], rfl⟩
  · go_enter Try.func55, Try.ntmps55
    go_wp2
    go_ret
    exact ⟨by simp; omega, rfl⟩

/-- The first k traces are listed and in order. -/
def LstK (i : Int) (ts : List (List Int × List Int)) (k : Nat) : Prop := ∀ j, j < k → lstE (tIn ts j) (tOut ts j) i = 0 ∧ (0 < j → shlex (tIn ts (j - 1)) (tIn ts j) < 0)
/-- The error of observations. -/
def VldR (i : Int) (ts : List (List Int × List Int)) (v : Int) : Prop :=
  (¬ (1 ≤ i ∧ i ≤ 64) ∧ v = 2) ∨ ((1 ≤ i ∧ i ≤ 64) ∧ 10000 < ts.length ∧ v = 11) ∨
  ((1 ≤ i ∧ i ≤ 64) ∧ ts.length ≤ 10000 ∧ ∃ k, k < ts.length ∧ LstK i ts k ∧ ((¬ lstE (tIn ts k) (tOut ts k) i = 0 ∧ v = lstE (tIn ts k) (tOut ts k) i) ∨ (lstE (tIn ts k) (tOut ts k) i = 0 ∧ 0 < k ∧ 0 ≤ shlex (tIn ts (k - 1)) (tIn ts k) ∧ v = 10))) ∨
  ((1 ≤ i ∧ i ≤ 64) ∧ ts.length ≤ 10000 ∧ LstK i ts ts.length ∧ ∃ os ss, Dict ts os ss ∧ FitR ts os ss v)
theorem LstK.srt {i : Int} {ts : List (List Int × List Int)} (h : LstK i ts ts.length) : Srt ts := by
  intro a b hab hb
  obtain ⟨d, rfl⟩ : ∃ d, b = a + 1 + d := ⟨b - a - 1, by omega⟩
  induction d with
  | zero =>
    have := (h (a + 1) hb).2 (by omega)
    rwa [Nat.add_sub_cancel] at this
  | succ d ih =>
    have h1 := ih (by omega) (by omega)
    have h2 := (h (a + 1 + (d + 1)) hb).2 (by omega)
    rw [show a + 1 + (d + 1) - 1 = a + 1 + d by omega] at h2
    exact shlex_lt_trans h1 h2
theorem LstK.props {i : Int} {ts : List (List Int × List Int)} (h : LstK i ts ts.length) : Props i ts := fun j hj => (lst_zero (h j hj).1).2
theorem LstK.full {i : Int} {ts : List (List Int × List Int)} (h : LstK i ts ts.length) : Full ts := fun j hj => (prp_zero (h.props j hj)).2.1
/-- What observations without an error are. -/
theorem vld16_ok {i : Int} {ts : List (List Int × List Int)} (h : VldR i ts 0) : 1 ≤ i ∧ i ≤ 64 ∧ ts.length ≤ 10000 ∧ Srt ts ∧ Full ts ∧ Props i ts ∧ (∀ j, j < ts.length → 0 < (tIn ts j).length) ∧ PreF ts ∧ Cons ts := by
  rcases h with ⟨_, h⟩ | ⟨_, _, h⟩ | ⟨_, _, k, _, _, ⟨h1, h2⟩ | ⟨_, _, _, h2⟩⟩ | ⟨h1, h2, h3, os, ss, h4, h5⟩
  · omega
  · omega
  · exact absurd h2.symm h1
  · omega
  · obtain ⟨p1, p2⟩ := fit_ok h4 h3.srt h5
    exact ⟨h1.1, h1.2, h2, h3.srt, h3.full, h3.props, fun j hj => (lst_zero (h3 j hj).1).1, p1, p2⟩
/-- Observations that are fine have no error. -/
theorem vld16_good {i v : Int} {ts : List (List Int × List Int)} (h : VldR i ts v) (h1 : 1 ≤ i) (h2 : i ≤ 64) (h3 : ts.length ≤ 10000) (hS : Srt ts) (hP : Props i ts) (h0 : ∀ j, j < ts.length → 0 < (tIn ts j).length) (hF : PreF ts) (hC : Cons ts) : v = 0 := by
  have hl : ∀ j, j < ts.length → lstE (tIn ts j) (tOut ts j) i = 0 := fun j hj => lst_ok (h0 j hj) (hP j hj)
  rcases h with ⟨h, _⟩ | ⟨_, h, _⟩ | ⟨_, _, k, hk, _, ⟨h4, _⟩ | ⟨_, h5, h6, _⟩⟩ | ⟨_, _, h7, os, ss, h4, h5⟩
  · exact absurd ⟨h1, h2⟩ h
  · omega
  · exact absurd (hl k hk) h4
  · have := hS (k - 1) k (by omega) hk
    omega
  · exact fit_good h4 h7.full hF hC h5

set_option linter.unusedSimpArgs false in
set_option linter.unusedVariables false in
set_option maxHeartbeats 8000000 in
set_option maxRecDepth 100000 in
theorem pvalid16 (i : Int) (T : Option Addr) (tn tc : Nat) (ts : List (List Int × List Int)) (w : World) (hT : Trs w T tn ts) (htc : tn ≤ tc) :
    Calls Try.prog 19 #[.agg #[.int .i64 i, .slice T tn tc]] w fun e w' => ∃ v, e = .returned (.int .i64 v) ∧ VldR i ts v ∧ Below w.heap.size w w' := by
  obtain ⟨w0, hw0⟩ : ∃ w0, w0 = w.alloc (.cells #[.int .i64 i, .slice T tn tc] 24) := ⟨_, rfl⟩
  have hb0 : Below w.heap.size w w0 := by rw [hw0]; exact alloc_below _ _
  have m0 : Bx w0 w.heap.size #[.int .i64 i, .slice T tn tc] 24 := by rw [hw0]; exact bx_new _ _ _
  have HM := Lib.hid (fun (W : World) (h : Below w0.heap.size w0 W) => m0.on h)
  have HT := Lib.hid (fun (W : World) (h : Below w0.heap.size w0 W) => (hT.below hb0).below h)
  have HB0 := Lib.hid hb0
  have HW0 := Lib.hid hw0
  have HLT := Lib.hid hT.1
  have htb := hT.2.1
  have k0 := m0.cell 0
  have k1 := m0.cell 1
  simp at k0 k1
  have K0 := Lib.hid k0
  have K1 := Lib.hid k1
  rw [hw0] at k0 k1
  clear hw0 hb0 m0 hT
  by_cases hi : 1 ≤ i ∧ i ≤ 64
  case neg =>
    have HI := Lib.hid hi
    have hd : decide (1 ≤ i ∧ i ≤ 64) = false := by simpa using hi
    clear hi
    go_enter Try.func19, Try.ntmps19
    go_wp2_with fail
    refine (ppermit16 i _).mono ?_
    rintro e w1 ⟨rfl, rfl⟩
    rw [hd]
    go_wp2_with fail
    go_ret
    exact ⟨2, rfl, .inl ⟨HI.out, rfl⟩, alloc_below _ _⟩
  have HI := Lib.hid hi
  have hd : decide (1 ≤ i ∧ i ≤ 64) = true := by simpa using hi
  clear hi
  go_enter Try.func19, Try.ntmps19
  go_wp2_with fail
  refine (ppermit16 i _).mono ?_
  rintro e w1 ⟨rfl, rfl⟩
  rw [hd]
  by_cases hbig : 10000 < tn
  · have hbI : (10000 : Int) < (tn : Int) := by omega
    go_wp2_with fail
    go_ret
    exact ⟨11, rfl, .inr (.inl ⟨HI.out, by rw [HLT.out]; exact hbig, rfl⟩), alloc_below _ _⟩
  have hbI : ¬ (10000 : Int) < (tn : Int) := by omega
  go_upto_region 6 with fail
  rw [← HW0.out]
  clear k0 k1 hd hbI
  go_loopw [17] (fun v17 wr => ∃ k : Nat, v17 = .int .i64 k ∧ k ≤ tn ∧ Hid (LstK i ts k) ∧ Hid (Below w0.heap.size w0 wr)) (fun v17 _ => tn - (intOf v17).toNat)
  case atStart => exact ⟨0, rfl, Nat.zero_le _, Lib.hid (fun j h => absurd h (by omega)), Lib.hid (Below.refl _ _)⟩
  case round =>
    obtain ⟨k, rfl, hk, HK, HBR⟩ := hrel
    by_cases hlt : k < tn
    · obtain ⟨b, off, A1, n1, c1, A2, n2, c2, eT, hgb, j1, j2, q1, q2, j3, j4⟩ := (HT.out _ HBR.out).at_ hlt
      subst eT
      have hkI : (k : Int) < (tn : Int) := by omega
      have hk0 : (0 : Int) ≤ (k : Int) := by omega
      have hl7 := alloc_below wr (.cells #[.slice A1 n1 c1, .slice A2 n2 c2] 38)
      have hm7 := bx_new wr #[.slice A1 n1 c1, .slice A2 n2 c2] 38
      have t0 := hm7.cell 0
      have t1 := hm7.cell 1
      simp at t0 t1
      have hB7 := HBR.out.trans (hl7.mono HBR.out.size)
      have k0 := (HM.out _ hB7).cell 0
      simp at k0
      have HLS := Lib.hid (plisted A1 A2 n1 c1 n2 c2 i (tIn ts k) (tOut ts k) _ (j3.below hl7) (j4.below hl7))
      have HM7 := Lib.hid hm7
      have HB7 := Lib.hid hB7
      have HJ3 := Lib.hid (j3.below hl7)
      clear hl7 hm7 hB7 j4
      go_wp2_with fail
      refine HLS.out.mono ?_
      rintro r w8 ⟨rfl, b8⟩
      have hB8 := bt HB7.out b8
      have HB8 := Lib.hid hB8
      have HM8 := Lib.hid (HM7.out.on b8)
      have HJ8 := Lib.hid (HJ3.out.below b8)
      clear j1 j2 t0 t1 k0 b8 hB8
      obtain ⟨E, hE⟩ : ∃ E, E = lstE (tIn ts k) (tOut ts k) i := ⟨_, rfl⟩
      rw [← hE]
      have HE := Lib.hid hE
      by_cases he : E = 0
      case neg =>
        have hne : (E != 0) = true := by simpa using he
        clear hE
        go_wp2_with fail
        go_ret
        exact ⟨E, rfl, .inr (.inr (.inl ⟨HI.out, by rw [HLT.out]; omega, k, by rw [HLT.out]; exact hlt, HK.out, .inl ⟨by rw [← HE.out]; exact he, HE.out⟩⟩)), bt HB0.out HB8.out⟩
      clear hE
      subst he
      by_cases h0 : k = 0
      · subst h0
        have HKn := Lib.hid (show LstK i ts 1 from fun j hj => by
          obtain rfl : j = 0 := by omega
          exact ⟨HE.out.symm, fun h => absurd h (by omega)⟩)
        go_wp2_with fail
        go_quiet (fail)
        go_wp2_with fail
        go_roundw
        case measure => simp [intOf]; omega
        case rel => exact ⟨1, rfl, by omega, HKn, Lib.hid (below_drewN HB8.out _)⟩
      · obtain ⟨k', rfl⟩ : ∃ k', k = k' + 1 := ⟨k - 1, by omega⟩
        obtain ⟨_, _, B1, m1, d1, B2, m2, d2, eT, hgb2, i1, _, _, _, i3, _⟩ := (HT.out _ HB8.out).at_ (k := k') (by omega)
        cases eT
        have t0 := HM8.out.cell 0
        have l1 := (HM.out _ HB8.out).cell 1
        simp at t0 l1
        obtain ⟨C, hC⟩ : ∃ C, C = shlex (tIn ts k') (tIn ts (k' + 1)) := ⟨_, rfl⟩
        have HCM := Lib.hid (fun q => wcompare B1 A1 m1 d1 n1 c1 (tIn ts k') (tIn ts (k' + 1)) (w8.drewN q) (i3.drewN q) (HJ8.out.drewN q))
        rw [← hC] at HCM
        have HC := Lib.hid hC
        have g0 : (0 : Int) < (k' : Int) + 1 := by omega
        have wk0 : IntKind.i64.wrap ((k' : Int) + 1 - 1) = (k' : Int) := by rw [IntKind.wrap_i64]; omega
        have wk0' : IntKind.i64.wrap (k' : Int) = (k' : Int) := by rw [IntKind.wrap_i64]; omega
        have g1 : (0 : Int) ≤ (k' : Int) := by omega
        have g2 : (k' : Int) < (tn : Int) := by omega
        have wk1 : IntKind.i64.wrap ((k' : Int) + 1 + 1) = ((k' + 1 + 1 : Nat) : Int) := by rw [IntKind.wrap_i64]; omega
        clear hC i3 hgb2
        by_cases hcm : 0 ≤ C
        · go_wp2_with fail
          go_quiet ((go_at_call 57; exact Calls.quiet_of (HCM.out _)))
          go_wp2_with fail
          go_ret
          exact ⟨10, rfl, .inr (.inr (.inl ⟨HI.out, by rw [HLT.out]; omega, k' + 1, by rw [HLT.out]; exact hlt, HK.out, .inr ⟨HE.out.symm, by omega, by rw [Nat.add_sub_cancel, ← HC.out]; exact hcm, rfl⟩⟩)), below_drewN (bt HB0.out HB8.out) _⟩
        · have HKn := Lib.hid (show LstK i ts (k' + 1 + 1) from fun j hj => by
            rcases Nat.lt_or_ge j (k' + 1) with h | h
            · exact HK.out j h
            · obtain rfl : j = k' + 1 := by omega
              exact ⟨HE.out.symm, fun _ => by rw [Nat.add_sub_cancel, ← HC.out]; omega⟩)
          go_wp2_with fail
          go_quiet ((go_at_call 57; exact Calls.quiet_of (HCM.out _)))
          go_wp2_with fail
          go_roundw
          case measure => simp [intOf]; omega
          case rel => exact ⟨k' + 1 + 1, rfl, by omega, HKn, Lib.hid (below_drewN HB8.out _)⟩
    · obtain rfl : k = tn := by omega
      have hkI : ¬ (k : Int) < (k : Int) := by omega
      have HKt := Lib.hid (show LstK i ts ts.length by rw [HLT.out]; exact HK.out)
      have hmx : ∀ j, j < ts.length → (tIn ts j).length ≤ 1024 := fun j hj => (chk_zero (prp_zero (HKt.out.props j hj)).1).2.2.1
      have HFI := Lib.hid (pfit T k tc ts wr (HT.out _ HBR.out) htc HKt.out.full (by omega) hmx (pdict T k tc ts wr (HT.out _ HBR.out) (by omega)))
      have l1 := (HM.out _ HBR.out).cell 1
      simp at l1
      clear hmx
      go_wp2_with fail
      refine HFI.out.mono ?_
      rintro r w9 ⟨R, rfl, hR, b9⟩
      have HRR := Lib.hid hR
      have HB9 := Lib.hid (bt HBR.out b9)
      clear hR b9
      go_wp2_with fail
      go_ret
      exact ⟨R, rfl, .inr (.inr (.inr ⟨HI.out, by rw [HLT.out]; omega, HKt.out, HRR.out⟩)), bt HB0.out HB9.out⟩
end Go.Proofs.Ytkgdgnmobahhfaa
end

section
/- The law HypothesisCounter: the walk. -/
namespace Go.Proofs.Ytkgdgnmobahhfaa
open Go.RowKit

/-- What a word that refutes says about the answer and the machine. -/
theorem ctr_word {st : Nat} {nx ot : List (List Int)} {ts : List (List Int × List Int)} {xs : List Int} (hF : Full ts) (h : Rf nx ot st ts ts.length xs) : ∃ (j M : Nat), j < ts.length ∧ xs.length = M + 1 ∧ xs = (tIn ts j).take (M + 1) ∧ M < (tIn ts j).length ∧
    (runO nx ot st xs).take M = (tOut ts j).take M ∧ ¬ (runO nx ot st xs).getD M 0 = (tOut ts j).getD M 0 := by
  obtain ⟨j, hj, hd, rfl⟩ := h
  obtain ⟨M, hM⟩ : ∃ M, M = dfN nx ot st ts j := ⟨_, rfl⟩
  rw [← hM] at hd ⊢
  have hl : (runO nx ot st (tIn ts j)).length = (tIn ts j).length := runO_len _ _ _ _
  have hlo : (tOut ts j).length = (tIn ts j).length := hF j hj
  have hag := cmn_agree (runO nx ot st (tIn ts j)) (tOut ts j)
  have hpt := cmn_part (runO nx ot st (tIn ts j)) (tOut ts j)
  have hMc : cmn (runO nx ot st (tIn ts j)) (tOut ts j) = M := hM.symm
  rw [hMc] at hag hpt
  have hxl : ((tIn ts j).take (M + 1)).length = M + 1 := by rw [List.length_take]; omega
  have hpre : ∀ k, k < M + 1 → (runO nx ot st ((tIn ts j).take (M + 1))).getD k 0 = (runO nx ot st (tIn ts j)).getD k 0 := by
    intro k hk
    have := runO_pre nx ot st (x := (tIn ts j).take (k + 1)) (a := (tIn ts j).take (M + 1)) (b := tIn ts j) (List.take_prefix_take_left (by omega)) (List.take_prefix _ _) (by rw [List.length_take]; omega)
    rw [List.length_take, Nat.min_eq_left (by omega)] at this
    exact this
  refine ⟨j, M, hj, hxl, rfl, hd, ?_, ?_⟩
  · apply List.ext_getElem
    · rw [List.length_take, List.length_take, runO_len, hxl]; omega
    · intro k h1 h2
      rw [List.length_take, runO_len, hxl] at h1
      have e1 := hpre k (by omega)
      have e2 := hag k (by omega)
      rw [List.getD_eq_getElem?_getD, List.getD_eq_getElem?_getD, List.getElem?_eq_getElem (by rw [runO_len]; omega), List.getElem?_eq_getElem (by omega)] at e1
      rw [List.getD_eq_getElem?_getD, List.getD_eq_getElem?_getD, List.getElem?_eq_getElem (by omega), List.getElem?_eq_getElem (by omega)] at e2
      rw [List.getElem_take, List.getElem_take]
      exact e1.trans e2
  · rw [hpre M (by omega)]
    exact hpt (by omega) (by omega)
/-- No word refutes: every trace is as the machine's. -/
theorem ctr_none {st : Nat} {nx ot : List (List Int)} {ts : List (List Int × List Int)} (hF : Full ts) (h : ∀ x, ¬ Rf nx ot st ts ts.length x) {j : Nat} (hj : j < ts.length) : runO nx ot st (tIn ts j) = tOut ts j := by
  have h1 : ¬ dfN nx ot st ts j < (tIn ts j).length := fun hlt => h _ ⟨j, hj, hlt, rfl⟩
  have h2 := cmn_le_left (runO nx ot st (tIn ts j)) (tOut ts j)
  have h3 : (runO nx ot st (tIn ts j)).length = (tIn ts j).length := runO_len _ _ _ _
  exact (cmn_full (by rw [h3]; exact (hF j hj).symm)).1 (by unfold dfN at h1; omega)
theorem prun_ok {i st n : Nat} {A B D : Option Addr} {c d k e : Nat} {nx ot : List (List Int)} {xs : List Int} {w : World} (hx : Lists w A n nx) (ho : Lists w B n ot) (hM : Mok i st n nx ot) (hD : Ints w D k xs) (hc : chk xs i = 0) :
    Calls Try.prog 38 #[.agg #[.int .i64 i, .int .i64 st, .slice A n c, .slice B n d], .slice D k e] w fun r w' => ∃ A' c', r = .returned (.tuple #[.slice A' k c', .int .i64 0]) ∧ Owned w' w.heap.size (.slice A' k c') (runO nx ot st xs) ∧ Below w.heap.size w w' := by
  have := prunw (i : Int) (st : Int) A B D n c n d k e nx ot xs w hx ho hD
  rw [hM.frm hM.st hc] at this
  refine this.mono ?_
  rintro r w' ⟨A', c', rfl, o', b'⟩
  have hl : (runO nx ot st xs).length = k := by rw [runO_len]; exact hD.1
  rw [show ((runO nx ot st xs, (runS nx st xs : Int), (0 : Int)).1).length = k from hl] at o' ⊢
  exact ⟨A', c', rfl, o', b'⟩
/-- The answer to the beginning of a trace. -/
theorem ans_pre {n : Nat} {ts : List (List Int × List Int)} {ws : List Int} {w w' : World} {r : Ending} (h : AnsP ts ws n w r w') (hF : Full ts) (hC : Cons ts) {j : Nat} (hj : j < ts.length) (hp : cmn (tIn ts j) ws = n) (h0 : 0 < n) :
    ∃ A' c', r = .returned (.tuple #[.slice A' n c', .bool true]) ∧ Owned w' w.heap.size (.slice A' n c') ((tOut ts j).take n) ∧ Below w.heap.size w w' := by
  obtain ⟨hb, h⟩ := h
  have hkn := knw_ge (ts := ts) (w := ws) hj
  rcases h with ⟨_, h⟩ | ⟨_, h⟩ | ⟨a, A', c', _, ha, hc, rfl, hl, ho⟩
  · omega
  · omega
  · have e : (tOut ts a).take n = (tOut ts j).take n := by
      have l1 := cmn_le_left (tIn ts a) ws
      have l2 := cmn_le_left (tIn ts j) ws
      have f1 := hF a ha
      have f2 := hF j hj
      apply List.ext_getElem
      · rw [List.length_take, List.length_take]; omega
      · intro q h1 h2
        rw [List.length_take] at h1
        have hq : q < cmn (tIn ts a) (tIn ts j) := by
          have g1 := cmn_agree (tIn ts a) ws
          have g2 := cmn_agree (tIn ts j) ws
          have hag : ∀ p, p < n → (tIn ts a).getD p 0 = (tIn ts j).getD p 0 := fun p hp' => (g1 p (by omega)).trans (g2 p (by omega)).symm
          rcases Nat.lt_or_ge q (cmn (tIn ts a) (tIn ts j)) with hlt | hge
          · exact hlt
          · have := cmn_part (tIn ts a) (tIn ts j) (by omega) (by omega)
            exact absurd (hag _ (by omega)) this
        have e2 := hC a j ha hj q hq
        rw [List.getD_eq_getElem?_getD, List.getD_eq_getElem?_getD, List.getElem?_eq_getElem (by omega), List.getElem?_eq_getElem (by omega)] at e2
        rw [List.getElem_take, List.getElem_take]
        exact e2
    rw [e] at ho
    exact ⟨A', c', rfl, ho, hb⟩

set_option linter.unusedSimpArgs false in
set_option linter.unusedVariables false in
set_option maxHeartbeats 16000000 in
set_option maxRecDepth 100000 in
theorem counter22_walk (i st o : Int) (A B C T : Option Addr) (n c m d k e tn tc : Nat) (nx ot acc : List (List Int)) (ts : List (List Int × List Int)) (w : World) (hx : Lists w A n nx) (ho : Lists w B m ot) (hC : Lists w C k acc) (hT : Trs w T tn ts) (htc : tn ≤ tc) :
    Calls Try.prog 13 #[.agg #[.int .i64 i, .int .i64 st, .slice A n c, .slice B m d, .slice C k e], .agg #[.int .i64 o, .slice T tn tc]] w fun r w' => r = .returned (.bool true) ∧ Below w.heap.size w w' := by
  obtain ⟨w0, hw0⟩ : ∃ w0, w0 = (w.alloc (.cells #[.int .i64 i, .int .i64 st, .slice A n c, .slice B m d, .slice C k e] 65)).alloc (.cells #[.int .i64 o, .slice T tn tc] 24) := ⟨_, rfl⟩
  obtain ⟨hb0, m1, m2, hs0⟩ := bxs2 w #[.int .i64 i, .int .i64 st, .slice A n c, .slice B m d, .slice C k e] #[.int .i64 o, .slice T tn tc] 65 24 w0 hw0
  have HM1 := Lib.hid (fun (W : World) (h : Below w0.heap.size w0 W) => m1.on h)
  have HM2 := Lib.hid (fun (W : World) (h : Below w0.heap.size w0 W) => m2.on h)
  have HX := Lib.hid (fun (W : World) (h : Below w0.heap.size w0 W) => (hx.below hb0).below h)
  have HO := Lib.hid (fun (W : World) (h : Below w0.heap.size w0 W) => (ho.below hb0).below h)
  have HC := Lib.hid (fun (W : World) (h : Below w0.heap.size w0 W) => (hC.below hb0).below h)
  have HT := Lib.hid (fun (W : World) (h : Below w0.heap.size w0 W) => (hT.below hb0).below h)
  have HB0 := Lib.hid hb0
  have HW0 := Lib.hid hw0
  have HLX := Lib.hid hx.1
  have HLO := Lib.hid ho.1
  have HLC := Lib.hid hC.1
  have HLT := Lib.hid hT.1
  have hbc := Below.refl w0.heap.size w0
  have k0 := (HM1.out _ hbc).cell 0
  have k1 := (HM1.out _ hbc).cell 1
  have k2 := (HM1.out _ hbc).cell 2
  have k3 := (HM1.out _ hbc).cell 3
  have k4 := (HM1.out _ hbc).cell 4
  simp at k0 k1 k2 k3 k4
  have l0 := (HM2.out _ hbc).cell 0
  have l1 := (HM2.out _ hbc).cell 1
  simp at l0 l1
  rw [HW0.out] at k0 k1 k2 k3 k4 l0 l1
  clear hw0 hb0 m1 m2 hs0 hx ho hC hT
  go_enter Try.func13, Try.ntmps13
  go_wp2_with fail
  rw [← HW0.out]
  refine (rgreat22 i st A B C n c m d k e acc w0 (HC.out _ hbc)).mono ?_
  rintro r w1 ⟨b1, rfl, _, a1⟩
  have hbc := bt hbc a1
  clear a1 k0 k1 k2 k3 k4 l0 l1
  cases b1
  case true =>
    go_wp2_with fail
    refine (awake22 _).mono ?_
    rintro r w9 ⟨rfl, a9⟩
    go_wp2
    go_ret
    exact ⟨rfl, bt HB0.out (bt hbc a9)⟩
  have l0 := (HM2.out _ hbc).cell 0
  have l1 := (HM2.out _ hbc).cell 1
  simp at l0 l1
  go_wp2_with fail
  refine (rgreat16 o T tn tc ts w1 (HT.out _ hbc)).mono ?_
  rintro r w2 ⟨b2, rfl, hg2, a2⟩
  have hbc := bt hbc a2
  clear a2 l0 l1
  cases b2
  case true =>
    go_wp2_with fail
    refine (awake22 _).mono ?_
    rintro r w9 ⟨rfl, a9⟩
    go_wp2
    go_ret
    exact ⟨rfl, bt HB0.out (bt hbc a9)⟩
  have hg2 := hg2 rfl
  have htn : tn ≤ 10000 := by omega
  clear hg2
  have k0 := (HM1.out _ hbc).cell 0
  have k1 := (HM1.out _ hbc).cell 1
  have k2 := (HM1.out _ hbc).cell 2
  have k3 := (HM1.out _ hbc).cell 3
  have k4 := (HM1.out _ hbc).cell 4
  simp at k0 k1 k2 k3 k4
  go_wp2_with fail
  refine (phvalid i st A B C n c m d k e nx ot acc w2 (HX.out _ hbc) (HO.out _ hbc) (HC.out _ hbc)).mono ?_
  rintro r w3 ⟨rfl, a3⟩
  have hbc := bt hbc a3
  clear a3 k0 k1 k2 k3 k4
  by_cases hv : hvE i st nx ot acc = 0
  case neg =>
    obtain ⟨E, hE⟩ : ∃ E, E = hvE i st nx ot acc := ⟨_, rfl⟩
    rw [← hE] at hv ⊢
    have hne : (E != 0) = true := by simpa using hv
    clear hE
    go_wp2_with fail
    refine (awake22 _).mono ?_
    rintro r w9 ⟨rfl, a9⟩
    go_wp2
    go_ret
    exact ⟨rfl, bt HB0.out (bt hbc a9)⟩
  rw [hv]
  have l0 := (HM2.out _ hbc).cell 0
  have l1 := (HM2.out _ hbc).cell 1
  simp at l0 l1
  go_wp2_with fail
  refine (pvalid16 o T tn tc ts w3 (HT.out _ hbc) htc).mono ?_
  rintro r w4 ⟨v, rfl, hov, a4⟩
  have hbc := bt hbc a4
  clear a4 l0 l1
  by_cases hv0 : v = 0
  case neg =>
    have hne : (v != 0) = true := by simpa using hv0
    go_wp2_with fail
    refine (awake22 _).mono ?_
    rintro r w9 ⟨rfl, a9⟩
    go_wp2
    go_ret
    exact ⟨rfl, bt HB0.out (bt hbc a9)⟩
  subst hv0
  have hov := vld16_ok hov
  obtain ⟨hvl, hal, _, _⟩ := hvE_zero hv
  obtain ⟨i, st, n', rfl, rfl, hMok⟩ := vld_zero hvl
  obtain rfl : n' = n := by rw [← HLX.out]; exact hMok.nxl.symm
  obtain rfl : m = n' := by rw [← HLO.out]; exact hMok.otl
  obtain rfl : k = m := by rw [← HLC.out, hal, HLX.out]
  have HOV := Lib.hid hov
  have HMOK := Lib.hid hMok
  clear hvl hal hv hov hMok
  have k0 := (HM1.out _ hbc).cell 0
  have k1 := (HM1.out _ hbc).cell 1
  have k2 := (HM1.out _ hbc).cell 2
  have k3 := (HM1.out _ hbc).cell 3
  have k4 := (HM1.out _ hbc).cell 4
  simp at k0 k1 k2 k3 k4
  have l0 := (HM2.out _ hbc).cell 0
  have l1 := (HM2.out _ hbc).cell 1
  simp at l0 l1
  by_cases hio : (i : Int) = o
  case neg =>
    have hioI : ((i : Int) != o) = true := by rw [bne_iff_ne]; exact hio
    go_wp2_with fail
    refine (awake22 _).mono ?_
    rintro r w9 ⟨rfl, a9⟩
    go_wp2
    go_ret
    exact ⟨rfl, bt HB0.out (bt hbc a9)⟩
  subst hio
  have hiiI : ((i : Int) != (i : Int)) = false := by simp
  have HSRT := Lib.hid HOV.out.2.2.2.1
  have HFUL := Lib.hid HOV.out.2.2.2.2.1
  have HPRO := Lib.hid HOV.out.2.2.2.2.2.1
  have HCON := Lib.hid HOV.out.2.2.2.2.2.2.2.2
  go_wp2_with fail
  refine (phrefuted i st k A B C T c d k e tn tc nx ot ts w4 (HX.out _ hbc) (HO.out _ hbc) HMOK.out (HT.out _ hbc) HFUL.out HPRO.out htn).mono ?_
  rintro r w5 ⟨A5, n5, c5, xs, fd, rfl, hfx, hi5, hfd, a5⟩
  have hbc := bt hbc a5
  clear a5 k0 k1 k2 k3 k4 l0 l1
  have HI5 := Lib.hid (fun (W : World) (h : Below w5.heap.size w5 W) => hi5.below h)
  have HXL := Lib.hid hi5.1
  have HBC := Lib.hid hbc
  clear hi5
  cases fd
  case false =>
    have hxe : xs = [] := Classical.byContradiction fun h => absurd (hfd.2 h) (by decide)
    have hnone : ∀ x, ¬ Rf nx ot st ts tn x := by
      rcases hfx with ⟨_, h⟩ | ⟨_, h, _⟩
      · exact h
      · rw [hxe] at h; simp at h
    have HAG := Lib.hid (show ∀ j, j < tn → runO nx ot st (tIn ts j) = tOut ts j from fun j hj => ctr_none HFUL.out (by rw [HLT.out]; exact hnone) (by rw [HLT.out]; exact hj))
    have hn5 : n5 = 0 := by rw [← HXL.out, hxe]; rfl
    have hn5I : ((n5 : Int) == 0) = true := by rw [hn5]; rfl
    clear hxe hnone hn5 hfx hfd hbc
    go_wp2_with fail
    go_loopw [8] (fun v8 wr => ∃ p : Nat, v8 = .int .i64 p ∧ p ≤ tn ∧ Hid (Below w0.heap.size w0 wr)) (fun v8 _ => tn - (intOf v8).toNat)
    case atStart => exact ⟨0, rfl, Nat.zero_le _, HBC⟩
    case round =>
      obtain ⟨p, rfl, hp, HBR⟩ := hrel
      have k0 := (HM1.out _ HBR.out).cell 0
      have k1 := (HM1.out _ HBR.out).cell 1
      have k2 := (HM1.out _ HBR.out).cell 2
      have k3 := (HM1.out _ HBR.out).cell 3
      have k4 := (HM1.out _ HBR.out).cell 4
      simp at k0 k1 k2 k3 k4
      have l0 := (HM2.out _ HBR.out).cell 0
      have l1 := (HM2.out _ HBR.out).cell 1
      simp at l0 l1
      by_cases hlt : p < tn
      · obtain ⟨bT, oT, A1, n1, c1, A2, n2, c2, eT, hgT, j1, j2, _, _, j3, j4⟩ := (HT.out _ HBR.out).at_ hlt
        subst eT
        have hpI : (p : Int) < (tn : Int) := by omega
        have hp0 : (0 : Int) ≤ (p : Int) := by omega
        have wp1 : IntKind.i64.wrap ((p : Int) + 1) = ((p + 1 : Nat) : Int) := by rw [IntKind.wrap_i64]; omega
        have HCH := Lib.hid (show chk (tIn ts p) (i : Int) = 0 from (prp_zero (HPRO.out p (by rw [HLT.out]; exact hlt))).1)
        have HJ3 := Lib.hid (fun (W : World) (h : Below wr.heap.size wr W) => j3.below h)
        have HJ4 := Lib.hid (fun (W : World) (h : Below wr.heap.size wr W) => j4.below h)
        obtain rfl : n1 = n2 := by have a1 := HFUL.out p (by rw [HLT.out]; exact hlt); have a2 := j3.1; have a3 := j4.1; omega
        have hn1b := j3.2.1
        have HL1 := Lib.hid j3.1
        have HS := Lib.hid (show ∀ W, Below wr.heap.size wr W → W.cell? ⟨w.heap.size, 0, none⟩ = some (.int .i64 i) ∧ W.cell? ⟨w.heap.size, 1, none⟩ = some (.int .i64 st) ∧ W.cell? ⟨w.heap.size, 2, none⟩ = some (.slice A k c) ∧ W.cell? ⟨w.heap.size, 3, none⟩ = some (.slice B k d) ∧ W.cell? ⟨w.heap.size + 1, 1, none⟩ = some (.slice (some ⟨bT, oT, none⟩) tn tc) ∧ W.cell? ⟨bT, oT + p * 2, none⟩ = some (.slice A1 n1 c1) from fun W h => by
          have hh := HBR.out.trans (h.mono HBR.out.size)
          refine ⟨by have := (HM1.out _ hh).cell 0; simpa using this, by have := (HM1.out _ hh).cell 1; simpa using this, by have := (HM1.out _ hh).cell 2; simpa using this, by have := (HM1.out _ hh).cell 3; simpa using this, by have := (HM2.out _ hh).cell 1; simpa using this, (h.cell (p := ⟨bT, oT + p * 2, none⟩) hgT).trans j1⟩)
        have HJ2 := Lib.hid (show ∀ W, Below wr.heap.size wr W → W.cell? ⟨bT, oT + p * 2 + 1, none⟩ = some (.slice A2 n1 c2) from fun W h => (h.cell (p := ⟨bT, oT + p * 2 + 1, none⟩) hgT).trans j2)
        clear j1 j2 j3 j4 hgT
        go_upto_region 10 with fail
        clear k0 k1 k2 k3 k4 l0 l1
        have hbf : Below wr.heap.size wr wr.drew := below_drewN (Below.refl _ _) 1
        refine wp_region_heldX (X := fun k => ([] : List Nat).contains k) (S := fun W => W.cell? ⟨w.heap.size, 0, none⟩ = some (.int .i64 i) ∧ W.cell? ⟨w.heap.size, 1, none⟩ = some (.int .i64 st) ∧ W.cell? ⟨w.heap.size, 2, none⟩ = some (.slice A k c) ∧ W.cell? ⟨w.heap.size, 3, none⟩ = some (.slice B k d) ∧ W.cell? ⟨w.heap.size + 1, 1, none⟩ = some (.slice (some ⟨bT, oT, none⟩) tn tc) ∧ W.cell? ⟨bT, oT + p * 2, none⟩ = some (.slice A1 n1 c1)) (by kernel_rfl) ?_
        generalize wr.drew = wkd at hbf ⊢
        refine wpAnyX_pure (i := 0) (v := ?_) rfl (by kernel_rfl) (by kernel_rfl) (by kernel_rfl) (fun _ _ _ h => h) (Or.inl ⟨by rfl, ?_⟩) ?_
        rotate_left
        · (intro W _; go_simp; try with_reducible rfl)
        (try simp only [Act.put, List.getElem_toArray, List.getElem_cons_zero, List.getElem_cons_succ, List.setIfInBounds_toArray, List.set_cons_zero, List.set_cons_succ])
        refine wpAnyX_takeL (L := []) (i := 1) (v := ?_) rfl (by kernel_rfl) (by kernel_rfl) (by kernel_rfl) (by kernel_rfl) (fun _ _ _ h => h) (Or.inl ⟨by rfl, ?_⟩) (HS.out _ hbf) ?_
        rotate_left
        · (intro W hSW; (try dsimp only at hSW); obtain ⟨z0, z1, z2, z3, z4, z5⟩ := hSW; go_simp; try with_reducible rfl)
        (try simp only [Act.put, List.getElem_toArray, List.getElem_cons_zero, List.getElem_cons_succ, List.setIfInBounds_toArray, List.set_cons_zero, List.set_cons_succ])
        refine wpAnyX_pure (i := 2) (v := ?_) rfl (by kernel_rfl) (by kernel_rfl) (by kernel_rfl) (fun _ _ _ h => h) (Or.inl ⟨by rfl, ?_⟩) ?_
        rotate_left
        · (intro W _; go_simp; try with_reducible rfl)
        (try simp only [Act.put, List.getElem_toArray, List.getElem_cons_zero, List.getElem_cons_succ, List.setIfInBounds_toArray, List.set_cons_zero, List.set_cons_succ])
        refine wpAnyX_takeL (L := []) (i := 3) (v := ?_) rfl (by kernel_rfl) (by kernel_rfl) (by kernel_rfl) (by kernel_rfl) (fun _ _ _ h => h) (Or.inl ⟨by rfl, ?_⟩) (HS.out _ hbf) ?_
        rotate_left
        · (intro W hSW; (try dsimp only at hSW); obtain ⟨z0, z1, z2, z3, z4, z5⟩ := hSW; go_simp; try with_reducible rfl)
        (try simp only [Act.put, List.getElem_toArray, List.getElem_cons_zero, List.getElem_cons_succ, List.setIfInBounds_toArray, List.set_cons_zero, List.set_cons_succ])
        refine wpAnyX_pure (i := 4) (v := ?_) rfl (by kernel_rfl) (by kernel_rfl) (by kernel_rfl) (fun _ _ _ h => h) (Or.inl ⟨by rfl, ?_⟩) ?_
        rotate_left
        · (intro W _; go_simp; try with_reducible rfl)
        (try simp only [Act.put, List.getElem_toArray, List.getElem_cons_zero, List.getElem_cons_succ, List.setIfInBounds_toArray, List.set_cons_zero, List.set_cons_succ])
        refine wpAnyX_pure (i := 5) (v := ?_) rfl (by kernel_rfl) (by kernel_rfl) (by kernel_rfl) (fun _ _ _ h => h) (Or.inl ⟨by rfl, ?_⟩) ?_
        rotate_left
        · (intro W _; go_simp; try with_reducible rfl)
        (try simp only [Act.put, List.getElem_toArray, List.getElem_cons_zero, List.getElem_cons_succ, List.setIfInBounds_toArray, List.set_cons_zero, List.set_cons_succ])
        refine wpAnyX_pure (i := 6) (v := ?_) rfl (by kernel_rfl) (by kernel_rfl) (by kernel_rfl) (fun _ _ _ h => h) (Or.inl ⟨by rfl, ?_⟩) ?_
        rotate_left
        · (intro W _; go_simp; try with_reducible rfl)
        (try simp only [Act.put, List.getElem_toArray, List.getElem_cons_zero, List.getElem_cons_succ, List.setIfInBounds_toArray, List.set_cons_zero, List.set_cons_succ])
        refine wpAnyX_takeL (L := []) (i := 7) (v := ?_) rfl (by kernel_rfl) (by kernel_rfl) (by kernel_rfl) (by kernel_rfl) (fun _ _ _ h => h) (Or.inl ⟨by rfl, ?_⟩) (HS.out _ hbf) ?_
        rotate_left
        · (intro W hSW; (try dsimp only at hSW); obtain ⟨z0, z1, z2, z3, z4, z5⟩ := hSW; go_simp; try with_reducible rfl)
        (try simp only [Act.put, List.getElem_toArray, List.getElem_cons_zero, List.getElem_cons_succ, List.setIfInBounds_toArray, List.set_cons_zero, List.set_cons_succ])
        refine wpAnyX_one (i := 8) rfl (by kernel_rfl) (fun K hK => ?_)
        go_simp
        go_at_call 38
        refine (prun_ok (HX.out _ (HBR.out.trans (hbf.mono HBR.out.size))) (HO.out _ (HBR.out.trans (hbf.mono HBR.out.size))) HMOK.out (HJ3.out _ hbf) HCH.out).mono ?_
        rintro r w6 ⟨A6, c6, rfl, o6, a6⟩
        have i6 := o6.ints (by rw [runO_len, HL1.out]; exact hn1b)
        have hbf := bt hbf a6
        refine hK.out _ _ (fun _ _ => HS.out _ hbf) ?_
        (try simp only [Act.put, List.getElem_toArray, List.getElem_cons_zero, List.getElem_cons_succ, List.setIfInBounds_toArray, List.set_cons_zero, List.set_cons_succ])
        refine wpAnyX_pure (i := 9) (v := ?_) rfl (by kernel_rfl) (by kernel_rfl) (by kernel_rfl) (fun _ _ _ h => h) (Or.inl ⟨by rfl, ?_⟩) ?_
        rotate_left
        · (intro W _; go_simp; try with_reducible rfl)
        (try simp only [Act.put, List.getElem_toArray, List.getElem_cons_zero, List.getElem_cons_succ, List.setIfInBounds_toArray, List.set_cons_zero, List.set_cons_succ])
        refine wpAnyX_pure (i := 10) (v := ?_) rfl (by kernel_rfl) (by kernel_rfl) (by kernel_rfl) (fun _ _ _ h => h) (Or.inl ⟨by rfl, ?_⟩) ?_
        rotate_left
        · (intro W _; go_simp; try with_reducible rfl)
        (try simp only [Act.put, List.getElem_toArray, List.getElem_cons_zero, List.getElem_cons_succ, List.setIfInBounds_toArray, List.set_cons_zero, List.set_cons_succ])
        refine wpAnyX_pure (i := 11) (v := ?_) rfl (by kernel_rfl) (by kernel_rfl) (by kernel_rfl) (fun _ _ _ h => h) (Or.inl ⟨by rfl, ?_⟩) ?_
        rotate_left
        · (intro W _; go_simp; try with_reducible rfl)
        (try simp only [Act.put, List.getElem_toArray, List.getElem_cons_zero, List.getElem_cons_succ, List.setIfInBounds_toArray, List.set_cons_zero, List.set_cons_succ])
        refine wpAnyX_pure (i := 12) (v := ?_) rfl (by kernel_rfl) (by kernel_rfl) (by kernel_rfl) (fun _ _ _ h => h) (Or.inl ⟨by rfl, ?_⟩) ?_
        rotate_left
        · (intro W _; go_simp; try with_reducible rfl)
        (try simp only [Act.put, List.getElem_toArray, List.getElem_cons_zero, List.getElem_cons_succ, List.setIfInBounds_toArray, List.set_cons_zero, List.set_cons_succ])
        refine wpAnyX_pure (i := 13) (v := ?_) rfl (by kernel_rfl) (by kernel_rfl) (by kernel_rfl) (fun _ _ _ h => h) (Or.inl ⟨by rfl, ?_⟩) ?_
        rotate_left
        · (intro W _; go_simp; try with_reducible rfl)
        (try simp only [Act.put, List.getElem_toArray, List.getElem_cons_zero, List.getElem_cons_succ, List.setIfInBounds_toArray, List.set_cons_zero, List.set_cons_succ])
        refine wpAnyX_done (by kernel_rfl) ?_ _
        have hj2 := HJ2.out _ hbf
        have hl1 := (HM2.out _ (HBR.out.trans (hbf.mono HBR.out.size))).cell 1
        simp at hl1
        rw [HAG.out p hlt] at i6
        have HIN := Lib.hid (rints A6 A2 n1 c6 n1 c2 (tOut ts p) (tOut ts p) true w6 i6 (HJ4.out _ hbf) (by simp))
        have HB6 := Lib.hid (HBR.out.trans (hbf.mono HBR.out.size))
        clear o6 a6 i6 hbf
        go_wp2_with fail
        refine HIN.out.mono ?_
        rintro r w7 ⟨rfl, q7, rfl⟩
        clear hj2 hl1
        go_wp2_with fail
        go_roundw
        case rel => exact ⟨p + 1, rfl, by omega, Lib.hid (below_drewN HB6.out q7)⟩
        case measure => simp [intOf]; omega
      · have hpI : ¬ (p : Int) < (tn : Int) := by omega
        go_wp2_with fail
        refine (awake22 _).mono ?_
        rintro r w9 ⟨rfl, a9⟩
        go_wp2
        go_ret
        exact ⟨rfl, bt HB0.out (bt HBR.out a9)⟩
  have hxe : ¬ xs = [] := hfd.1 rfl
  have hrf : Rf nx ot st ts tn xs := by
    rcases hfx with ⟨h, _⟩ | ⟨h, _⟩
    · exact absurd h hxe
    · exact h
  obtain ⟨j, M, hj, hlM, hxp, hMl, hpre, hdif⟩ := ctr_word HFUL.out (by rw [HLT.out]; exact hrf)
  have hn5 : n5 = M + 1 := by rw [← HXL.out]; exact hlM
  subst hn5
  have hcj : cmn (tIn ts j) xs = M + 1 := by rw [hxp, cmn_comm]; have := pre_cmn.1 (List.take_prefix (M + 1) (tIn ts j)); rw [this, List.length_take]; omega
  have hchj := (prp_zero (HPRO.out j hj)).1
  have hMb : M + 1 ≤ 1024 := by have := (chk_zero hchj).2.2.1; omega
  have HCH := Lib.hid (show chk xs (i : Int) = 0 by
    obtain ⟨z1, z2, z3, z4⟩ := chk_zero hchj
    refine chk_ok ⟨z1, z2⟩ (by omega) (fun p hp => ?_)
    rw [hlM] at hp
    have := z4 p (by omega)
    rw [hxp, List.getD_eq_getElem?_getD, List.getElem?_take_of_lt hp, ← List.getD_eq_getElem?_getD]
    exact this)
  have HJ := Lib.hid hj
  have HCJ := Lib.hid hcj
  have HPRE := Lib.hid hpre
  have HDIF := Lib.hid hdif
  have HLM := Lib.hid hlM
  have HOL := Lib.hid (show ((tOut ts j).take (M + 1)).length = M + 1 by have := HFUL.out j hj; rw [List.length_take]; omega)
  clear hxe hrf hj hlM hxp hMl hpre hdif hcj hchj hfx hfd
  have k0 := (HM1.out _ hbc).cell 0
  have k1 := (HM1.out _ hbc).cell 1
  have k2 := (HM1.out _ hbc).cell 2
  have k3 := (HM1.out _ hbc).cell 3
  have k4 := (HM1.out _ hbc).cell 4
  simp at k0 k1 k2 k3 k4
  have l0 := (HM2.out _ hbc).cell 0
  have l1 := (HM2.out _ hbc).cell 1
  simp at l0 l1
  go_wp2_with fail
  refine (panswer16 (i : Int) T A5 tn tc (M + 1) c5 ts xs w5 (HT.out _ hbc) htc (HI5.out _ (Below.refl _ _)) HSRT.out HFUL.out).mono ?_
  rintro r w6 hans
  obtain ⟨A6, c6, rfl, o6, a6⟩ := ans_pre hans HFUL.out HCON.out HJ.out HCJ.out (by omega)
  have hc66 := o6.cap22
  have hbc := bt hbc a6
  have HI6 := Lib.hid (fun (W : World) (h : Below w6.heap.size w6 W) => (o6.ints (by rw [HOL.out]; omega)).below h)
  have HX6 := Lib.hid (HI5.out _ a6)
  clear hans o6 a6 k0 k1 k2 k3 k4 l0 l1
  have k0 := (HM1.out _ hbc).cell 0
  have k1 := (HM1.out _ hbc).cell 1
  have k2 := (HM1.out _ hbc).cell 2
  have k3 := (HM1.out _ hbc).cell 3
  have k4 := (HM1.out _ hbc).cell 4
  simp at k0 k1 k2 k3 k4
  go_wp2_with fail
  refine (prun_ok (HX.out _ hbc) (HO.out _ hbc) HMOK.out HX6.out HCH.out).mono ?_
  rintro r w7 ⟨A7, c7, rfl, o7, a7⟩
  have hbc := bt hbc a7
  have i7 := o7.ints (by rw [runO_len, HLM.out]; omega)
  have i6 := HI6.out _ a7
  have HBC7 := Lib.hid hbc
  have hz1 : (((M + 1 : Nat) : Int) == 0) = false := by rw [beq_eq_false_iff_ne]; omega
  have hz1' : (((M : Int) + 1) == 0) = false := by rw [beq_eq_false_iff_ne]; omega
  have hz2 : (((M + 1 : Nat) : Int) != ((M + 1 : Nat) : Int)) = false := by simp
  have hz2' : (((M : Int) + 1) != ((M : Int) + 1)) = false := by simp
  have wm1 : IntKind.i64.wrap ((M : Int) + 1 - 1) = (M : Int) := by rw [IntKind.wrap_i64]; omega
  have wm1' : IntKind.i64.wrap (M : Int) = (M : Int) := by rw [IntKind.wrap_i64]; omega
  have gm0 : (0 : Int) ≤ (M : Int) := by omega
  have gm1 : (M : Int) < (M : Int) + 1 := by omega
  have hc6 := o7.cap22
  obtain ⟨bx, ox, eA6, hgx, r6⟩ := i6.at_ (k := M) (by omega)
  obtain ⟨by', oy, eA7, hgy, r7⟩ := i7.at_ (k := M) (by omega)
  have HT6 := Lib.hid (fun (W : World) (h : Below w7.heap.size w7 W) => (i6.takeX (t := M) (by omega)).below h)
  have HT7 := Lib.hid (fun (W : World) (h : Below w7.heap.size w7 W) => (i7.takeX (t := M) (by omega)).below h)
  subst eA6
  subst eA7
  obtain ⟨y6, hy6⟩ : ∃ y6, y6 = ((tOut ts j).take (M + 1)).getD M 0 := ⟨_, rfl⟩
  obtain ⟨y7, hy7⟩ : ∃ y7, y7 = (runO nx ot st xs).getD M 0 := ⟨_, rfl⟩
  rw [← hy6] at r6
  rw [← hy7] at r7
  have hyy : (y6 != y7) = true := by
    rw [bne_iff_ne]
    intro h
    rw [hy6, hy7, take_getD (by omega)] at h
    exact HDIF.out h.symm
  have HEQ := Lib.hid (show ((tOut ts j).take (M + 1)).take M = (runO nx ot st xs).take M by rw [List.take_take, Nat.min_eq_left (by omega)]; exact HPRE.out.symm)
  have HS := Lib.hid (show ∀ W, Below w7.heap.size w7 W → W.cell? ⟨bx, ox + M, none⟩ = some (.int .i64 y6) ∧ W.cell? ⟨by', oy + M, none⟩ = some (.int .i64 y7) from fun W h => ⟨(h.cell (p := ⟨bx, ox + M, none⟩) hgx).trans r6, (h.cell (p := ⟨by', oy + M, none⟩) hgy).trans r7⟩)
  have hcM6 : (M : Int) ≤ (c6 : Int) := by have := hc66; omega
  have hcM7 : (M : Int) ≤ (c7 : Int) := by omega
  clear r6 r7 hy6 hy7 hgx hgy i6 i7 o7 a7 hbc k0 k1 k2 k3 k4
  go_upto_region 19 with fail
  have hbf : Below w7.heap.size w7 w7.drew := below_drewN (Below.refl _ _) 1
  refine wp_region_heldX (X := fun k => ([] : List Nat).contains k) (S := fun W => W.cell? ⟨bx, ox + M, none⟩ = some (.int .i64 y6) ∧ W.cell? ⟨by', oy + M, none⟩ = some (.int .i64 y7)) (by kernel_rfl) ?_
  generalize w7.drew = wkd at hbf ⊢
  refine wpAnyX_pure (i := 0) (v := ?_) rfl (by kernel_rfl) (by kernel_rfl) (by kernel_rfl) (fun _ _ _ h => h) (Or.inl ⟨by rfl, ?_⟩) ?_
  rotate_left
  · (intro W _; go_simp; try with_reducible rfl)
  (try simp only [Act.put, List.getElem_toArray, List.getElem_cons_zero, List.getElem_cons_succ, List.setIfInBounds_toArray, List.set_cons_zero, List.set_cons_succ])
  refine wpAnyX_pure (i := 1) (v := ?_) rfl (by kernel_rfl) (by kernel_rfl) (by kernel_rfl) (fun _ _ _ h => h) (Or.inl ⟨by rfl, ?_⟩) ?_
  rotate_left
  · (intro W _; go_simp; try with_reducible rfl)
  (try simp only [Act.put, List.getElem_toArray, List.getElem_cons_zero, List.getElem_cons_succ, List.setIfInBounds_toArray, List.set_cons_zero, List.set_cons_succ])
  refine wpAnyX_pure (i := 2) (v := ?_) rfl (by kernel_rfl) (by kernel_rfl) (by kernel_rfl) (fun _ _ _ h => h) (Or.inl ⟨by rfl, ?_⟩) ?_
  rotate_left
  · (intro W _; go_simp; try with_reducible rfl)
  (try simp only [Act.put, List.getElem_toArray, List.getElem_cons_zero, List.getElem_cons_succ, List.setIfInBounds_toArray, List.set_cons_zero, List.set_cons_succ])
  refine wpAnyX_pure (i := 3) (v := ?_) rfl (by kernel_rfl) (by kernel_rfl) (by kernel_rfl) (fun _ _ _ h => h) (Or.inl ⟨by rfl, ?_⟩) ?_
  rotate_left
  · (intro W _; go_simp; try with_reducible rfl)
  (try simp only [Act.put, List.getElem_toArray, List.getElem_cons_zero, List.getElem_cons_succ, List.setIfInBounds_toArray, List.set_cons_zero, List.set_cons_succ])
  refine wpAnyX_pure (i := 4) (v := ?_) rfl (by kernel_rfl) (by kernel_rfl) (by kernel_rfl) (fun _ _ _ h => h) (Or.inl ⟨by rfl, ?_⟩) ?_
  rotate_left
  · (intro W _; go_simp; try with_reducible rfl)
  (try simp only [Act.put, List.getElem_toArray, List.getElem_cons_zero, List.getElem_cons_succ, List.setIfInBounds_toArray, List.set_cons_zero, List.set_cons_succ])
  refine wpAnyX_pure (i := 5) (v := ?_) rfl (by kernel_rfl) (by kernel_rfl) (by kernel_rfl) (fun _ _ _ h => h) (Or.inl ⟨by rfl, ?_⟩) ?_
  rotate_left
  · (intro W _; go_simp; try with_reducible rfl)
  (try simp only [Act.put, List.getElem_toArray, List.getElem_cons_zero, List.getElem_cons_succ, List.setIfInBounds_toArray, List.set_cons_zero, List.set_cons_succ])
  refine wpAnyX_pure (i := 6) (v := ?_) rfl (by kernel_rfl) (by kernel_rfl) (by kernel_rfl) (fun _ _ _ h => h) (Or.inl ⟨by rfl, ?_⟩) ?_
  rotate_left
  · (intro W _; go_simp; try with_reducible rfl)
  (try simp only [Act.put, List.getElem_toArray, List.getElem_cons_zero, List.getElem_cons_succ, List.setIfInBounds_toArray, List.set_cons_zero, List.set_cons_succ])
  refine wpAnyX_pure (i := 7) (v := ?_) rfl (by kernel_rfl) (by kernel_rfl) (by kernel_rfl) (fun _ _ _ h => h) (Or.inl ⟨by rfl, ?_⟩) ?_
  rotate_left
  · (intro W _; go_simp; try with_reducible rfl)
  (try simp only [Act.put, List.getElem_toArray, List.getElem_cons_zero, List.getElem_cons_succ, List.setIfInBounds_toArray, List.set_cons_zero, List.set_cons_succ])
  refine wpAnyX_one (i := 8) rfl (by kernel_rfl) (fun K hK => ?_)
  go_simp
  go_at_call 28
  refine (rints (some ⟨bx, ox, none⟩) (some ⟨by', oy, none⟩) M c6 M c7 _ _ true _ (HT6.out _ hbf) (HT7.out _ hbf) (by rw [HEQ.out]; simp)).mono ?_
  rintro r w8 ⟨rfl, q8, rfl⟩
  have hbf := below_drewN hbf q8
  refine hK.out _ _ (fun _ _ => HS.out _ hbf) ?_
  (try simp only [Act.put, List.getElem_toArray, List.getElem_cons_zero, List.getElem_cons_succ, List.setIfInBounds_toArray, List.set_cons_zero, List.set_cons_succ])
  refine wpAnyX_pure (i := 9) (v := ?_) rfl (by kernel_rfl) (by kernel_rfl) (by kernel_rfl) (fun _ _ _ h => h) (Or.inl ⟨by rfl, ?_⟩) ?_
  rotate_left
  · (intro W _; go_simp; try with_reducible rfl)
  (try simp only [Act.put, List.getElem_toArray, List.getElem_cons_zero, List.getElem_cons_succ, List.setIfInBounds_toArray, List.set_cons_zero, List.set_cons_succ])
  refine wpAnyX_pure (i := 10) (v := ?_) rfl (by kernel_rfl) (by kernel_rfl) (by kernel_rfl) (fun _ _ _ h => h) (Or.inl ⟨by rfl, ?_⟩) ?_
  rotate_left
  · (intro W _; go_simp; try with_reducible rfl)
  (try simp only [Act.put, List.getElem_toArray, List.getElem_cons_zero, List.getElem_cons_succ, List.setIfInBounds_toArray, List.set_cons_zero, List.set_cons_succ])
  refine wpAnyX_pure (i := 11) (v := ?_) rfl (by kernel_rfl) (by kernel_rfl) (by kernel_rfl) (fun _ _ _ h => h) (Or.inl ⟨by rfl, ?_⟩) ?_
  rotate_left
  · (intro W _; go_simp; try with_reducible rfl)
  (try simp only [Act.put, List.getElem_toArray, List.getElem_cons_zero, List.getElem_cons_succ, List.setIfInBounds_toArray, List.set_cons_zero, List.set_cons_succ])
  refine wpAnyX_pure (i := 12) (v := ?_) rfl (by kernel_rfl) (by kernel_rfl) (by kernel_rfl) (fun _ _ _ h => h) (Or.inl ⟨by rfl, ?_⟩) ?_
  rotate_left
  · (intro W _; go_simp; try with_reducible rfl)
  (try simp only [Act.put, List.getElem_toArray, List.getElem_cons_zero, List.getElem_cons_succ, List.setIfInBounds_toArray, List.set_cons_zero, List.set_cons_succ])
  refine wpAnyX_pure (i := 13) (v := ?_) rfl (by kernel_rfl) (by kernel_rfl) (by kernel_rfl) (fun _ _ _ h => h) (Or.inl ⟨by rfl, ?_⟩) ?_
  rotate_left
  · (intro W _; go_simp; try with_reducible rfl)
  (try simp only [Act.put, List.getElem_toArray, List.getElem_cons_zero, List.getElem_cons_succ, List.setIfInBounds_toArray, List.set_cons_zero, List.set_cons_succ])
  refine wpAnyX_takeL (L := []) (i := 14) (v := ?_) rfl (by kernel_rfl) (by kernel_rfl) (by kernel_rfl) (by kernel_rfl) (fun _ _ _ h => h) (Or.inl ⟨by rfl, ?_⟩) (HS.out _ hbf) ?_
  rotate_left
  · (intro W hSW; (try dsimp only at hSW); obtain ⟨z0, z1⟩ := hSW; go_simp; try with_reducible rfl)
  (try simp only [Act.put, List.getElem_toArray, List.getElem_cons_zero, List.getElem_cons_succ, List.setIfInBounds_toArray, List.set_cons_zero, List.set_cons_succ])
  refine wpAnyX_pure (i := 15) (v := ?_) rfl (by kernel_rfl) (by kernel_rfl) (by kernel_rfl) (fun _ _ _ h => h) (Or.inl ⟨by rfl, ?_⟩) ?_
  rotate_left
  · (intro W _; go_simp; try with_reducible rfl)
  (try simp only [Act.put, List.getElem_toArray, List.getElem_cons_zero, List.getElem_cons_succ, List.setIfInBounds_toArray, List.set_cons_zero, List.set_cons_succ])
  refine wpAnyX_pure (i := 16) (v := ?_) rfl (by kernel_rfl) (by kernel_rfl) (by kernel_rfl) (fun _ _ _ h => h) (Or.inl ⟨by rfl, ?_⟩) ?_
  rotate_left
  · (intro W _; go_simp; try with_reducible rfl)
  (try simp only [Act.put, List.getElem_toArray, List.getElem_cons_zero, List.getElem_cons_succ, List.setIfInBounds_toArray, List.set_cons_zero, List.set_cons_succ])
  refine wpAnyX_pure (i := 17) (v := ?_) rfl (by kernel_rfl) (by kernel_rfl) (by kernel_rfl) (fun _ _ _ h => h) (Or.inl ⟨by rfl, ?_⟩) ?_
  rotate_left
  · (intro W _; go_simp; try with_reducible rfl)
  (try simp only [Act.put, List.getElem_toArray, List.getElem_cons_zero, List.getElem_cons_succ, List.setIfInBounds_toArray, List.set_cons_zero, List.set_cons_succ])
  refine wpAnyX_pure (i := 18) (v := ?_) rfl (by kernel_rfl) (by kernel_rfl) (by kernel_rfl) (fun _ _ _ h => h) (Or.inl ⟨by rfl, ?_⟩) ?_
  rotate_left
  · (intro W _; go_simp; try with_reducible rfl)
  (try simp only [Act.put, List.getElem_toArray, List.getElem_cons_zero, List.getElem_cons_succ, List.setIfInBounds_toArray, List.set_cons_zero, List.set_cons_succ])
  refine wpAnyX_takeL (L := []) (i := 19) (v := ?_) rfl (by kernel_rfl) (by kernel_rfl) (by kernel_rfl) (by kernel_rfl) (fun _ _ _ h => h) (Or.inl ⟨by rfl, ?_⟩) (HS.out _ hbf) ?_
  rotate_left
  · (intro W hSW; (try dsimp only at hSW); obtain ⟨z0, z1⟩ := hSW; go_simp; try with_reducible rfl)
  (try simp only [Act.put, List.getElem_toArray, List.getElem_cons_zero, List.getElem_cons_succ, List.setIfInBounds_toArray, List.set_cons_zero, List.set_cons_succ])
  refine wpAnyX_pure (i := 20) (v := ?_) rfl (by kernel_rfl) (by kernel_rfl) (by kernel_rfl) (fun _ _ _ h => h) (Or.inl ⟨by rfl, ?_⟩) ?_
  rotate_left
  · (intro W _; go_simp; try with_reducible rfl)
  (try simp only [Act.put, List.getElem_toArray, List.getElem_cons_zero, List.getElem_cons_succ, List.setIfInBounds_toArray, List.set_cons_zero, List.set_cons_succ])
  refine wpAnyX_pure (i := 21) (v := ?_) rfl (by kernel_rfl) (by kernel_rfl) (by kernel_rfl) (fun _ _ _ h => h) (Or.inl ⟨by rfl, ?_⟩) ?_
  rotate_left
  · (intro W _; go_simp; try with_reducible rfl)
  (try simp only [Act.put, List.getElem_toArray, List.getElem_cons_zero, List.getElem_cons_succ, List.setIfInBounds_toArray, List.set_cons_zero, List.set_cons_succ])
  refine wpAnyX_pure (i := 22) (v := ?_) rfl (by kernel_rfl) (by kernel_rfl) (by kernel_rfl) (fun _ _ _ h => h) (Or.inl ⟨by rfl, ?_⟩) ?_
  rotate_left
  · (intro W _; go_simp; try with_reducible rfl)
  (try simp only [Act.put, List.getElem_toArray, List.getElem_cons_zero, List.getElem_cons_succ, List.setIfInBounds_toArray, List.set_cons_zero, List.set_cons_succ])
  refine wpAnyX_one (i := 23) rfl (by kernel_rfl) (fun K hK => ?_)
  go_simp
  go_at_call 40
  refine (awake22 _).mono ?_
  rintro r w9 ⟨rfl, b9⟩
  have hbf := bt hbf b9
  clear b9
  refine hK.out _ _ (fun _ _ => HS.out _ hbf) ?_
  (try simp only [Act.put, List.getElem_toArray, List.getElem_cons_zero, List.getElem_cons_succ, List.setIfInBounds_toArray, List.set_cons_zero, List.set_cons_succ])
  refine wpAnyX_pure (i := 24) (v := ?_) rfl (by kernel_rfl) (by kernel_rfl) (by kernel_rfl) (fun _ _ _ h => h) (Or.inl ⟨by rfl, ?_⟩) ?_
  rotate_left
  · (intro W _; go_simp; try with_reducible rfl)
  (try simp only [Act.put, List.getElem_toArray, List.getElem_cons_zero, List.getElem_cons_succ, List.setIfInBounds_toArray, List.set_cons_zero, List.set_cons_succ])
  refine wpAnyX_pure (i := 25) (v := ?_) rfl (by kernel_rfl) (by kernel_rfl) (by kernel_rfl) (fun _ _ _ h => h) (Or.inl ⟨by rfl, ?_⟩) ?_
  rotate_left
  · (intro W _; go_simp; try with_reducible rfl)
  (try simp only [Act.put, List.getElem_toArray, List.getElem_cons_zero, List.getElem_cons_succ, List.setIfInBounds_toArray, List.set_cons_zero, List.set_cons_succ])
  refine wpAnyX_done (by kernel_rfl) ?_ _
  have HBF := Lib.hid (HBC7.out.trans (hbf.mono HBC7.out.size))
  clear hbf
  go_wp2_with fail
  go_ret
  exact ⟨rfl, HB0.out.trans (HBF.out.mono HB0.out.size)⟩
end Go.Proofs.Ytkgdgnmobahhfaa
end
