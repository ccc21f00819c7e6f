/- Lemmas of the proofs of this seat, of the parts Obh, Ins16, Del16, Runk, Tracep, Tracem, Hyx, Obg, Insw, Wthw, Ofw, Hyr. Conditions: none. -/
import Derived.Test.YtkgdgnmobahhfaaLab
import Derived.Test.YtkgdgnmobahhfaaLaa
import Derived.Shelf.Spec.SlicesInsert
import Derived.Deep.AppendSrc
section
/- The place of a trace; a trace in new memory. -/
namespace Go.Proofs.Ytkgdgnmobahhfaa
open Go.RowKit Go.Shelf

theorem pins1 (A1 A2 B : Option Addr) (n1 c1 n2 c2 m d : Nat) (xs ys : List Int) (w : World) (hx : Ints w A1 n1 xs) (hy : Ints w B m ys) :
    Calls Try.prog 122 #[.agg #[.slice A1 n1 c1, .slice A2 n2 c2], .slice B m d] w fun e w' => e = .returned (.int .i64 (shlex xs ys)) ∧ Below w.heap.size w w' := by
  have hb0 := alloc_below w (.cells #[.slice A1 n1 c1, .slice A2 n2 c2] 38)
  have HB := Lib.hid hb0
  have HX := Lib.hid (hx.below hb0)
  have HY := Lib.hid (hy.below hb0)
  clear hx hy hb0
  go_enter Try.func122, Try.ntmps122
  go_wp2_with (go_at_call 57; refine (wcompare _ _ _ _ _ _ _ _ _ HX.out HY.out).mono ?_; rintro e w' ⟨rfl, q, rfl⟩)
  go_ret
  exact ⟨rfl, below_drewN HB.out q⟩
theorem entI1 : ∀ args w, (callFunc 122 args).run Try.prog w = .ok (.enter 122 args) w := enters_of Try.func122 (by kernel_rfl) rfl

/-- The place of a word among traces in shortlex order. -/
theorem pplace (A Z : Option Addr) (n c m d : Nat) (ts : List (List Int × List Int)) (ws : List Int) (w : World) (hT : Trs w A n ts) (hW : Ints w Z m ws) (hS : Srt ts) :
    Calls Try.prog 103 #[.slice A n c, .slice Z m d, .func (.func 122) #[] #[]] w fun e w' => ∃ (i : Nat) (v : Value), e = .returned (.tuple #[.int .i64 i, v]) ∧ i ≤ n ∧ Hid (∀ j, j < i → shlex (tIn ts j) ws < 0) ∧ Hid (∀ j, i ≤ j → j < n → 0 ≤ shlex (tIn ts j) ws) ∧ Below w.heap.size w w' :=
  pbsw 122 Z m d (fun j => shlex (tIn ts j) ws) A n c ts w entI1 hT
    (fun j hj A1 n1 c1 A2 n2 c2 W hb hi => pins1 A1 A2 Z n1 c1 n2 c2 m d _ ws W hi (hW.below hb))
    (fun a b hab hb h => by
      by_cases e : a = b
      · rw [e]; exact h
      · exact (shlex_trans (tIn ts a) (tIn ts b) ws).2 (hS a b (by omega) (by rw [hT.1]; exact hb)) (by omega))

/-- The result of copied. -/
def CpyE (n1 n2 : Nat) (xs ys : List Int) (w : World) (r : Ending) (w' : World) : Prop :=
  ∃ (B1 B2 : Option Addr) (d1 d2 : Nat), r = .returned (.agg #[.slice B1 n1 d1, .slice B2 n2 d2]) ∧ Owned w' w.heap.size (.slice B1 n1 d1) xs ∧ Owned w' w.heap.size (.slice B2 n2 d2) ys ∧ Below w.heap.size w w'

set_option linter.unusedSimpArgs false in
set_option linter.unusedVariables false in
set_option maxHeartbeats 4000000 in
set_option maxRecDepth 100000 in
theorem pcopied16 (A1 A2 : Option Addr) (n1 c1 n2 c2 : Nat) (xs ys : List Int) (w : World) (hx : Ints w A1 n1 xs) (hy : Ints w A2 n2 ys) :
    Calls Try.prog 105 #[.agg #[.slice A1 n1 c1, .slice A2 n2 c2]] w fun r w' => CpyE n1 n2 xs ys w r w' := by
  obtain ⟨w0, hw0⟩ : ∃ w0, w0 = (w.alloc (.cells #[.slice A1 n1 c1, .slice A2 n2 c2] 38)).alloc (.cells #[.slice none 0 0, .slice none 0 0] 38) := ⟨_, rfl⟩
  obtain ⟨hb0, m1, m2, hs0⟩ := bxs2 w #[.slice A1 n1 c1, .slice A2 n2 c2] #[.slice none 0 0, .slice none 0 0] 38 38 w0 hw0
  have HM1 := Lib.hid (fun (W : World) (h : Below w0.heap.size w0 W) => m1.on h)
  have HM2 := Lib.hid (fun (W : World) (h : Below w0.heap.size w0 W) => m2.on h)
  have HX := Lib.hid (fun (W : World) (h : Below w0.heap.size w0 W) => (hx.below hb0).below h)
  have HY := Lib.hid (fun (W : World) (h : Below w0.heap.size w0 W) => (hy.below hb0).below h)
  have HB0 := Lib.hid hb0
  have HW0 := Lib.hid hw0
  have HZ0 := Lib.hid hs0
  have HS := Lib.hid (show ∀ W, Below w0.heap.size w0 W → W.cell? ⟨w.heap.size, 0, none⟩ = some (.slice A1 n1 c1) ∧ W.cell? ⟨w.heap.size, 1, none⟩ = some (.slice A2 n2 c2) from fun W h => ⟨by have := (m1.on h).cell 0; simpa using this, by have := (m1.on h).cell 1; simpa using this⟩)
  clear hw0 hb0 m1 m2 hs0 hx hy
  go_enter Try.func105, Try.ntmps105
  go_upto_region 1 with fail
  rw [← HW0.out]
  have hbf : Below w0.heap.size w0 w0.drew := below_drewN (Below.refl _ _) 1
  refine wp_region_heldX (X := fun k => ([7] : List Nat).contains k) (S := fun W => W.cell? ⟨w.heap.size, 0, none⟩ = some (.slice A1 n1 c1) ∧ W.cell? ⟨w.heap.size, 1, none⟩ = some (.slice A2 n2 c2)) (by kernel_rfl) ?_
  generalize w0.drew = wd at hbf ⊢
  refine wpAnyX_pure (i := 0) (v := ?_) rfl (by kernel_rfl) (by kernel_rfl) (by kernel_rfl) (fun _ _ _ h => h) (Or.inl ⟨by rfl, ?_⟩) ?_
  rotate_left
  · (intro W _; go_simp; try with_reducible rfl)
  (try simp only [Act.put, List.getElem_toArray, List.getElem_cons_zero, List.getElem_cons_succ, List.setIfInBounds_toArray, List.set_cons_zero, List.set_cons_succ])
  refine wpAnyX_takeL (L := [7]) (i := 1) (v := ?_) rfl (by kernel_rfl) (by kernel_rfl) (by kernel_rfl) (by kernel_rfl) (fun _ _ _ h => h) (Or.inl ⟨by rfl, ?_⟩) (HS.out _ hbf) ?_
  rotate_left
  · (intro W hSW; (try dsimp only at hSW); obtain ⟨z0, z1⟩ := hSW; go_simp; try with_reducible rfl)
  (try simp only [Act.put, List.getElem_toArray, List.getElem_cons_zero, List.getElem_cons_succ, List.setIfInBounds_toArray, List.set_cons_zero, List.set_cons_succ])
  refine wpAnyX_pure (i := 3) (v := ?_) rfl (by kernel_rfl) (by kernel_rfl) (by kernel_rfl) (fun _ _ _ h => h) (Or.inl ⟨by rfl, ?_⟩) ?_
  rotate_left
  · (intro W _; go_simp; try with_reducible rfl)
  (try simp only [Act.put, List.getElem_toArray, List.getElem_cons_zero, List.getElem_cons_succ, List.setIfInBounds_toArray, List.set_cons_zero, List.set_cons_succ])
  refine wpAnyX_takeL (L := [7]) (i := 4) (v := ?_) rfl (by kernel_rfl) (by kernel_rfl) (by kernel_rfl) (by kernel_rfl) (fun _ _ _ h => h) (Or.inl ⟨by rfl, ?_⟩) (HS.out _ hbf) ?_
  rotate_left
  · (intro W hSW; (try dsimp only at hSW); obtain ⟨z0, z1⟩ := hSW; go_simp; try with_reducible rfl)
  (try simp only [Act.put, List.getElem_toArray, List.getElem_cons_zero, List.getElem_cons_succ, List.setIfInBounds_toArray, List.set_cons_zero, List.set_cons_succ])
  refine wpAnyX_one (i := 2) rfl (by kernel_rfl) (fun K hK => ?_)
  go_simp
  go_at_call 68
  refine (sclone A1 n1 c1 _ _ (HX.out _ hbf)).mono ?_
  rintro r w5 ⟨B1, d1, rfl, o5, b9⟩
  have g5 := o5.lower (base' := w.heap.size) (Nat.le_trans (by have := HZ0.out; omega) hbf.size)
  have hbf := bt hbf b9
  clear b9
  refine hK.out _ _ (fun _ _ => HS.out _ hbf) ?_
  (try simp only [Act.put, List.getElem_toArray, List.getElem_cons_zero, List.getElem_cons_succ, List.setIfInBounds_toArray, List.set_cons_zero, List.set_cons_succ])
  refine wpAnyX_one (i := 5) rfl (by kernel_rfl) (fun K hK => ?_)
  go_simp
  go_at_call 68
  refine (sclone A2 n2 c2 _ _ (HY.out _ hbf)).mono ?_
  rintro r w6 ⟨B2, d2, rfl, o6, b9⟩
  have g6 := o6.lower (base' := w.heap.size) (Nat.le_trans (by have := HZ0.out; omega) hbf.size)
  have g5 := g5.keptT (KeptT.of_below b9)
  have hbf := bt hbf b9
  clear b9
  refine hK.out _ _ (fun _ _ => HS.out _ hbf) ?_
  (try simp only [Act.put, List.getElem_toArray, List.getElem_cons_zero, List.getElem_cons_succ, List.setIfInBounds_toArray, List.set_cons_zero, List.set_cons_succ])
  refine wpAnyX_pure (i := 6) (v := ?_) rfl (by kernel_rfl) (by kernel_rfl) (by kernel_rfl) (fun _ _ _ h => h) (Or.inl ⟨by rfl, ?_⟩) ?_
  rotate_left
  · (intro W _; go_simp; try with_reducible rfl)
  (try simp only [Act.put, List.getElem_toArray, List.getElem_cons_zero, List.getElem_cons_succ, List.setIfInBounds_toArray, List.set_cons_zero, List.set_cons_succ])
  have m6 := HM2.out _ hbf
  refine wpAnyX_one (i := 7) rfl (by kernel_rfl) (fun K hK => ?_)
  refine wp_store_row 38 _ _ rfl (w.heap.size + 1) (#[.slice B1 n1 d1, .slice B2 n2 d2]) rfl rfl 38 (#[.slice none 0 0, .slice none 0 0]) m6 (by kernel_rfl) (by rfl) (by simp [Value.oneCell']) (hK.out _ _ (fun h => absurd h (by decide)) ?_)
  (try simp only [Act.put, List.getElem_toArray, List.getElem_cons_zero, List.getElem_cons_succ, List.setIfInBounds_toArray, List.set_cons_zero, List.set_cons_succ])
  refine wpAnyX_done (by kernel_rfl) ?_ _
  have HR := Lib.hid (m6.row #[.slice B1 n1 d1, .slice B2 n2 d2])
  have HO1 := Lib.hid (g5.keptT (m6.keptRow (t := 3) (by decide) #[.slice B1 n1 d1, .slice B2 n2 d2]))
  have HO2 := Lib.hid (g6.keptT (m6.keptRow (t := 3) (by decide) #[.slice B1 n1 d1, .slice B2 n2 d2]))
  have HBX := Lib.hid (below_setRow (bt HB0.out hbf) (by omega : w.heap.size ≤ w.heap.size + 1) #[.slice B1 n1 d1, .slice B2 n2 d2])
  clear hbf g5 g6 m6 o5 o6
  go_wp2_with fail
  (try rw [Exit.noGoto_ret])
  refine bodyPost_ret (results_cell_row (by rfl) _ _ (w.heap.size + 1) 38 _ (0, 0) _ rfl HR.out Try.underlying38 rfl (by kernel_rfl)) rfl ?_
  exact ⟨B1, B2, d1, d2, rfl, HO1.out, HO2.out, HBX.out⟩
end Go.Proofs.Ytkgdgnmobahhfaa
end

section
/- slices.Insert of one trace, in place. -/
namespace Go.Proofs.Ytkgdgnmobahhfaa
open Go.RowKit Go.Shelf Go.Lib

theorem inft : (Try.prog.info? 38).map (·.size) = some 2 := by kernel_rfl
theorem Bx.shape {w : World} {g : Nat} {cs : Array Value} {t : TypeId} (h : Bx w g cs t) : w.shape? g = some (t, cs.size) := by unfold World.shape?; rw [h]
theorem trace_size (w : World) : (Go.sizeOf 38).run Try.prog w = .ok 2 w := by
  have := inft
  cases hq : Try.prog.info? 38 with
  | none => simp [hq] at this
  | some i =>
    have hi : i.size = 2 := by simpa [hq] using this
    simp [Go.sizeOf, Go.typeInfo, hq, hi]

set_option linter.unusedSimpArgs false in
set_option linter.unusedVariables false in
set_option maxHeartbeats 4000000 in
set_option maxRecDepth 100000 in
theorem pins_shift (b n c i vb : Nat) (cur : Array Value) (x1 x2 : Value) (w : World) (hb : Bx w b cur 38) (hv : Bx w vb #[x1, x2] 38) (hvb : vb ≠ b) (hi : i < n) (hroom : n + 1 ≤ c) (hc : c ≤ 1000000) (hsz : cur.size = c * 2)
    (h1c : ∀ v, v ∈ cur.toList → v.oneCell' = true) (h1 : x1.oneCell' = true) (h2 : x2.oneCell' = true) :
    Calls Try.prog 123 #[.slice (some ⟨b, 0, none⟩) n c, .int .i64 i, .slice (some ⟨vb, 0, none⟩) 1 1] w fun e w' =>
      e = .returned (.slice (some ⟨b, 0, none⟩) (n + 1) c) ∧ w' = (w.drew.setCells b ((i + 1) * 2) ((cur.toList.take (n * 2)).drop (i * 2))).setCells b (i * 2) [x1, x2] := by
  obtain ⟨cs, hcs⟩ : ∃ cs, cs = (cur.toList.take (n * 2)).drop (i * 2) := ⟨_, rfl⟩
  have hcl : cs.length = (n - i) * 2 := by rw [hcs, List.length_drop, List.length_take, Array.length_toList, hsz, Nat.min_eq_left (by omega)]; omega
  have hca : ∀ j v, cs[j]? = some v → cur[i * 2 + j]? = some v := fun j v h => by
    have hj := (List.getElem?_eq_some_iff.1 h).1
    rw [hcs, List.getElem?_drop, List.getElem?_take_of_lt (by omega), Array.getElem?_toList] at h
    exact h
  have hc1 : ∀ v, v ∈ cs → v.oneCell' = true := fun v hv => h1c v (by rw [hcs] at hv; exact List.mem_of_mem_take (List.mem_of_mem_drop hv))
  rw [← hcs]
  have hcell : ∀ j, w.cell? ⟨b, j, none⟩ = cur[j]? := fun j => hb.cell j
  have hov : ∀ lb cb, (callFunc 128 #[.slice (some ⟨vb, 0, none⟩) 1 1, .slice (some ⟨b, (i + 1) * 2, none⟩) lb cb]).run Try.prog w = .ok (.value (.bool false)) w := fun lb cb => by
    rw [run_callFunc_extern Try.func128 (by kernel_rfl) (by kernel_rfl) (by kernel_rfl) (e := Extern.SlicesOverlaps.overlaps #[22, 22] #[4]) (by kernel_rfl),
      Lib.run_overlaps_apart w 22 4 38 Try.underlying22 2 trace_size ⟨vb, 0, none⟩ ⟨b, (i + 1) * 2, none⟩ 1 1 lb cb hvb _ _ _ _ hv.shape hb.shape (by omega) (hv.free 0) (hv.free _)]
    rfl
  have hcp1 : ∀ ty dc sc, (Builtin.copy_ #[22, 22] ty #[.slice (some ⟨b, (i + 1) * 2, none⟩) (n - i) dc, .slice (some ⟨b, i * 2, none⟩) (n + 1 - i) sc]).run Try.prog w.drew = .ok (goInt (n - i : Nat)) (w.drew.setCells b ((i + 1) * 2) cs) := fun ty dc sc =>
    run_copy_k w.drew _ _ ty 38 2 b ((i + 1) * 2) (n - i) dc ⟨b, i * 2, none⟩ (n + 1 - i) sc (n - i) cs Try.underlying22 inft (by simp only [Nat.min_def]; split <;> omega) hcl
      (fun j v hj => by rw [Addr.add_lit]; exact (hcell _).trans (hca j v hj))
      (fun j hj => by
        have : w.cell? ⟨b, (i + 1) * 2 + j, none⟩ = cur[(i + 1) * 2 + j]? := hcell _
        show (w.cell? _).isSome = true
        rw [this, Array.getElem?_eq_getElem (by omega)]; rfl)
      (fun j hj => hb.free _) hc1
  obtain ⟨W1, hW1⟩ : ∃ W1, W1 = w.drew.setCells b ((i + 1) * 2) cs := ⟨_, rfl⟩
  have hb1 : Bx W1 b (ovr cur ((i + 1) * 2) cs) 38 := by rw [hW1]; exact (hb.drewN 1).ovr _ _
  have hcp2 : ∀ (W : World), (∀ x, W.cell? x = W1.cell? x) → (∀ x, W.frozen? x = W1.frozen? x) → ∀ ty dc, (Builtin.copy_ #[22, 22] ty #[.slice (some ⟨b, i * 2, none⟩) (n + 1 - i) dc, .slice (some ⟨vb, 0, none⟩) 1 1]).run Try.prog W = .ok (goInt 1) (W.setCells b (i * 2) [x1, x2]) := fun W hWc hWf ty dc =>
    run_copy_k W _ _ ty 38 2 b (i * 2) (n + 1 - i) dc ⟨vb, 0, none⟩ 1 1 1 [x1, x2] Try.underlying22 inft (by simp only [Nat.min_def]; split <;> omega) rfl
      (fun j v hj => by
        rw [Addr.add_lit, hWc, hW1, World.cell?_setCells_out b _ _ _ _ (fun h _ => absurd h hvb)]
        rw [Nat.zero_add]
        have : w.cell? ⟨vb, j, none⟩ = #[x1, x2][j]? := hv.cell j
        refine this.trans ?_
        rw [← hj]; simp)
      (fun j hj => by
        rw [hWc, hb1.cell, Array.getElem?_eq_getElem (by rw [ovr_size]; simp at hj; omega)]; rfl)
      (fun j hj => by rw [hWf]; exact hb1.free _) (by simp [h1, h2])
  rw [← hW1] at hcp1
  have hz2 : ¬ ((i : Int) = (n : Int)) := by omega
  have hw1 : IntKind.i64.wrap ((i : Int) + 1) = (i : Int) + 1 := by rw [IntKind.wrap_i64]; omega
  have hw2 : IntKind.i64.wrap ((n : Int) + 1) = (n : Int) + 1 := by rw [IntKind.wrap_i64]; omega
  have g1 : (0 : Int) ≤ (i : Int) + 1 := by omega
  have g2 : ¬ (c = i + 1) := by omega
  have g3 : (i : Int) ≤ (n : Int) + 1 := by omega
  have g4 : ¬ (c = i) := by omega
  have g5 : ¬ ((c : Int) < (n : Int) + 1) := by omega
  have g6 : (n : Int) + 1 ≤ (c : Int) := by omega
  have g7 : (i : Int) ≤ (n : Int) := by omega
  have g8 : (i : Int) + 1 ≤ (n : Int) + 1 := by omega
  have mixed : Try.prog.follows Departure.mixedOrders = true := by kernel_rfl
  have HW1 := Lib.hid hW1
  clear hb1 hW1 hcell hb hv
  go_enter Try.func123, Try.ntmps123
  go_wp2_with (simp only [hov])
  go_region_law_o (refine step_copy_runI rfl _ _ 22 22 rfl _ _ (by simp [Act.eval, Act.put]) (by simp [Act.eval, Act.put]) (hcp1 _ _ _) ?_)
  go_wp2_with (at_builtin; refine wpList_copy_runI _ rfl _ _ 22 22 rfl _ _ rfl rfl (hcp2 _ (fun _ => rfl) (fun _ => rfl) _ _) ?_)
  go_ret
  first | exact ⟨rfl, rfl⟩ | exact ⟨rfl, by rw [HW1.out]⟩

set_option linter.unusedSimpArgs false in
set_option linter.unusedVariables false in
set_option maxHeartbeats 4000000 in
set_option maxRecDepth 100000 in
theorem pins_end (b n c vb : Nat) (cur : Array Value) (x1 x2 : Value) (w : World) (hb : Bx w b cur 38) (hv : Bx w vb #[x1, x2] 38) (hroom : n + 1 ≤ c) (hc : c ≤ 1000000) (hsz : cur.size = c * 2) (h1 : x1.oneCell' = true) (h2 : x2.oneCell' = true) :
    Calls Try.prog 123 #[.slice (some ⟨b, 0, none⟩) n c, .int .i64 n, .slice (some ⟨vb, 0, none⟩) 1 1] w fun e w' =>
      e = .returned (.slice (some ⟨b, 0, none⟩) (n + 1) c) ∧ w' = w.setRow b (cur.toList.take (n * 2) ++ x1 :: x2 :: cur.toList.drop (n * 2 + 2)).toArray := by
  obtain ⟨i, hi, hz0, hz1, hz2⟩ := info_parts infot
  have hrn := fun ty => run_append_room (P := Try.prog) (w := w) 22 ty 38 i Try.underlying22 hi b n c cur hb ⟨vb, 0, none⟩ 1 1 [x1, x2] (by rw [hz1]; rfl)
    (fun j u hj => by
      rw [Addr.add_lit, Nat.zero_add]
      refine (hv.cell j).trans ?_
      rw [← hj]; simp) (by simp [h1, h2]) hroom (by rw [hz1, hsz]; simp; omega)
  rw [hz1] at hrn
  have g1 : (0 : Int) ≤ (n : Int) := by omega
  have g2 : ¬ (c = n) := by omega
  clear hb hv
  go_enter Try.func123, Try.ntmps123
  go_wp2_with (at_builtin; refine Lib.wpList_append_run _ rfl _ _ _ _ rfl _ _ rfl rfl _ _ (hrn _) ?_)
  go_ret
  exact ⟨rfl, rfl⟩
end Go.Proofs.Ytkgdgnmobahhfaa
end

section
/- slices.Delete of one trace. -/
namespace Go.Proofs.Ytkgdgnmobahhfaa
open Go.RowKit Go.Shelf Go.Lib

/-- 'clear' of one trace. -/
theorem run_clear_one (w : World) (ty : TypeId) (b o c : Nat) (cs : Array Value) (hb : Bx w b cs 38) (ho : o + 2 ≤ cs.size) :
    (Builtin.clear_ #[22] ty #[.slice (some ⟨b, o, none⟩) 1 c]).run Try.prog w = .ok (.tuple #[]) (w.setCells b o [.slice none 0 0, .slice none 0 0]) := by
  obtain ⟨i, hi, hz0, hz1, hz2⟩ := info_parts infot
  have hzv : (zeroValue 38).run Try.prog w = .ok (.agg #[.slice none 0 0, .slice none 0 0]) w := by
    simp [zeroValue, typeInfo, hi, hz0]
  have hst := run_storeCells_cells (P := Try.prog) b o [.slice none 0 0, .slice none 0 0] 0 w
    (fun j hj => by rw [Nat.add_zero, hb.cell, Array.getElem?_eq_getElem (by simp at hj; omega)]; rfl) (fun j hj => hb.free _) (by simp [Value.oneCell'])
  simp only [Nat.add_zero] at hst
  have hzc : (Builtin.zeroCells (Value.agg #[.slice none 0 0, .slice none 0 0]).cells 1).toList = [.slice none 0 0, .slice none 0 0] := by kernel_rfl
  simp [Builtin.clear_, run_underlying Try.underlying22, hzv, hzc, hst]

set_option linter.unusedSimpArgs false in
set_option linter.unusedVariables false in
set_option maxHeartbeats 4000000 in
set_option maxRecDepth 100000 in
theorem pdel16 (b n c i : Nat) (cur : Array Value) (w : World) (hb : Bx w b cur 38) (hi : i < n) (hroom : n < c) (hc : c ≤ 1000000) (hsz : cur.size = c * 2) (h1c : ∀ v, v ∈ cur.toList → v.oneCell' = true) :
    Calls Try.prog 121 #[.slice (some ⟨b, 0, none⟩) n c, .int .i64 i, .int .i64 (i + 1 : Nat)] w fun e w' =>
      e = .returned (.slice (some ⟨b, 0, none⟩) (n - 1) c) ∧ w' = (w.drew.setCells b (0 + i * 2) ((cur.toList.take (n * 2)).drop ((i + 1) * 2))).setCells b ((n - 1) * 2) [.slice none 0 0, .slice none 0 0] := by
  obtain ⟨j, hj⟩ : ∃ j, j = i + 1 := ⟨_, rfl⟩
  obtain ⟨m, hm⟩ : ∃ m, m = n - j := ⟨_, rfl⟩
  obtain ⟨news, hnews⟩ : ∃ news, news = (cur.toList.take (n * 2)).drop (j * 2) := ⟨_, rfl⟩
  rw [← hj, ← hnews]
  obtain ⟨i0, hi0, hz0, hz1, hz2⟩ := info_parts infot
  have hcl : news.length = m * 2 := by rw [hnews, List.length_drop, List.length_take, Array.length_toList, hsz, Nat.min_eq_left (by omega)]; omega
  have hca : ∀ k v, news[k]? = some v → cur[j * 2 + k]? = some v := fun k v h => by
    have hk := (List.getElem?_eq_some_iff.1 h).1
    rw [hnews, List.getElem?_drop, List.getElem?_take_of_lt (by omega), Array.getElem?_toList] at h
    exact h
  have s1 : Hid (news.length = (n - j) * 2) := by rw [← hm]; exact hcl
  have s2 : Hid (∀ u ∈ news, u.oneCell' = true) := fun v hv => h1c v (by rw [hnews] at hv; exact List.mem_of_mem_take (List.mem_of_mem_drop hv))
  have s0 : Hid (∀ k u, news[k]? = some u → w.drew.cell? ((⟨b, j * 2, none⟩ : Addr).add k) = some u) := fun k u hk => by
    rw [Addr.add_lit]
    exact (hb.cell (j * 2 + k)).trans (hca k u hk)
  have s3 : Hid (∀ t, t < news.length → (w.drew.cell? ⟨b, 0 + i * 2 + t, none⟩).isSome = true ∧ w.drew.frozen? ⟨b, 0 + i * 2 + t, none⟩ = false) := by
    intro t ht
    rw [hcl] at ht
    have : w.drew.cell? ⟨b, 0 + i * 2 + t, none⟩ = cur[0 + i * 2 + t]? := hb.cell _
    exact ⟨by rw [this, Array.getElem?_eq_getElem (by omega)]; rfl, hb.free _⟩
  obtain ⟨W1, hW1⟩ : ∃ W1, W1 = w.drew.setCells b (0 + i * 2) news := ⟨_, rfl⟩
  have hb1 : Bx W1 b (ovr cur (0 + i * 2) news) 38 := by rw [hW1]; exact (hb.drewN 1).ovr _ _
  have hclr := fun ty cc => run_clear_one W1 ty b ((n - 1) * 2) cc _ hb1 (by rw [ovr_size, hsz]; omega)
  have HW1 := Lib.hid hW1
  have hij : ¬ ((i : Int) = (j : Int)) := by omega
  have g1 : (j : Int) ≤ (n : Int) := by omega
  have g2 : (i : Int) ≤ (j : Int) := by omega
  have g3 : (0 : Int) ≤ (i : Int) := by omega
  have g4 : ¬ (c = j) := by omega
  have g5 : (n : Int) ≤ (c : Int) := by omega
  have g6 : (i : Int) ≤ (c : Int) := by omega
  have g7 : i ≤ c := by omega
  have g8 : j ≤ c := by omega
  have g9 : ¬ (n = i) := by omega
  have mixed : Try.prog.follows Departure.mixedOrders = true := by kernel_rfl
  have HNM := Lib.hid hm
  have hj1 : i + 1 ≤ j ∧ j ≤ i + 1 := by omega
  have HN1 := Lib.hid (show i + (n - j) = n - 1 by omega)
  have HN2 := Lib.hid (show n - (n - 1) = 1 by omega)
  have HNW := Lib.hid hnews
  have hcl2 : ∀ ty cc, (Builtin.clear_ #[22] ty #[.slice (some ⟨b, (n - 1) * 2, none⟩) (n - (n - 1)) cc]).run Try.prog W1 = .ok (.tuple #[]) (W1.setCells b ((n - 1) * 2) [.slice none 0 0, .slice none 0 0]) := fun ty cc => by rw [HN2.out]; exact hclr ty cc
  clear hclr
  clear hb hb1 hW1 hca hcl hj hm hnews
  rw [← HW1.out]
  go_enter Try.func121, Try.ntmps121
  go_wp2_with fail
  go_region_law_o (refine step_append_room rfl (.tmp 22) (.tmp 25) 22 rfl 38 i0 2 Try.underlying22 hi0 hz1 b 0 i c (by simp [Act.eval, Act.put]) ⟨b, j * 2, none⟩ (n - j) (c - j) news (by simp [Act.eval, Act.put]) s1.out s0.out s2.out (by omega) s3.out ?_; rw [← HW1.out])
  rw [HN1.out]
  go_wp2_with (simp only [hcl2])
  go_ret
  exact ⟨rfl, rfl⟩
end Go.Proofs.Ytkgdgnmobahhfaa
end

section
/- run of a runner, where more is kept. -/
namespace Go.Proofs.Ytkgdgnmobahhfaa
open Go.RowKit

/-- Blocks of other types than the runner's are kept. -/
def KeptR (w w' : World) : Prop := ∀ t, t ≠ (137 : TypeId) → KeptT t w w'
theorem KeptR.refl (w : World) : KeptR w w := fun _ _ => KeptT.refl _ _
theorem KeptR.trans {a b c : World} (h : KeptR a b) (k : KeptR b c) : KeptR a c := fun t ht => (h t ht).trans (k t ht)
theorem KeptR.below {a b c : World} (h : KeptR a b) (k : Below a.heap.size b c) : KeptR a c := fun t ht g cs e => (k.block g (heap_lt e)).trans (h t ht g cs e)

set_option maxHeartbeats 2000000 in
set_option maxRecDepth 100000 in
theorem prunk {W w : World} {g : Nat} {i st n : Nat} {A B D : Option Addr} {c d s k e : Nat} {nx ot : List (List Int)} {xs : List Int} (hM : Mok i st n nx ot) (hx : Lists W A n nx) (ho : Lists W B n ot) (hb : Below W.heap.size W w)
    (hR : Rnr w g i st A n c B n d s) (hg : W.heap.size ≤ g) (hs : s < n) (hD : Ints W D k xs) (hS : ∀ x, x ∈ xs → 0 ≤ x ∧ x < i) :
    Calls Try.prog 108 #[.pointer (some ⟨g, 0, none⟩), .slice D k e] w fun e w' => ∃ A' c', e = .returned (.slice A' k c') ∧ Owned w' w.heap.size (.slice A' k c') (runO nx ot s xs) ∧ Below W.heap.size W w' ∧ KeptR w w' := by
  have L := Lib.hid hD.1
  have hk := hD.2.1
  have HS := Lib.hid hS
  have HR := Lib.hid hR
  clear hS hR
  have hrn : (137 : TypeId) ≠ 3 := by decide
  have hWw := hb.size
  go_enter Try.func108, Try.ntmps108
  go_wp2
  go_loopw [5, 10] (fun v j wr => ∃ (q : Nat) (A' : Option Addr) (c' : Nat), q ≤ k ∧ j = .int .i64 q ∧ v = .slice A' q c' ∧ w.heap.size ≤ wr.heap.size ∧ KeptR w wr ∧ Owned wr w.heap.size (.slice A' q c') (runO nx ot s (xs.take q)) ∧ Below W.heap.size W wr ∧ Rnr wr g i st A n c B n d (runS nx s (xs.take q))) (fun _ j _ => k - (intOf j).toNat)
  case atStart => exact ⟨0, none, 0, Nat.zero_le _, rfl, rfl, Nat.le_refl _, KeptR.refl _, Owned.nil _ _, hb, HR.out⟩
  case round =>
    obtain ⟨q, A', c', hq, rfl, rfl, hsz, hkr, hown, hbr, hR⟩ := hrel
    have HKR := Lib.hid hkr
    clear hkr
    by_cases hlt : q < k
    · obtain ⟨b1, o1, rfl, _, hc1⟩ := (hD.below hbr).at_ hlt
      have hxm := HS.out (xs.getD q 0) (by rw [List.getD_eq_getElem?_getD, List.getElem?_eq_getElem (by rw [L.out]; exact hlt)]; exact List.getElem_mem _)
      have hO := Lib.hid (runO_next (nx := nx) (ot := ot) (s := s) (j := q) (xs := xs) (by rw [L.out]; exact hlt))
      have hT := Lib.hid (runS_next (nx := nx) (s := s) (j := q) (xs := xs) (by rw [L.out]; exact hlt))
      rw [show xs[q]?.getD 0 = xs.getD q 0 by simp] at hO hT
      generalize xs.getD q 0 = x at hc1 hxm hO hT
      obtain ⟨a, rfl⟩ : ∃ a : Nat, x = a := ⟨x.toNat, by omega⟩
      have ha : a < i := by omega
      rw [Int.toNat_natCast] at hO hT
      have hlast := hM.runS_lt (xs.take q) s hs (fun x hx => HS.out x (List.mem_of_mem_take hx))
      generalize hss : runS nx s (xs.take q) = s' at hR hO hT hlast
      have hlen : (runO nx ot s (xs.take q)).length = q := by rw [runO_len, List.length_take, L.out]; omega
      generalize runO nx ot s (xs.take q) = os at hown hO hlen
      have HL := Lib.hid hlen
      have HSS := Lib.hid hss
      have HRR := Lib.hid hR
      clear hss hlen
      have hset : ∀ q', Rnr ((wr.setCell ⟨g, 4, none⟩ (.int .i64 (nN nx s' a))).drewN q') g i st A n c B n d (nN nx s' a) := fun q' => hR.set (nN nx s' a) q'
      have HSET := Lib.hid hset
      have HKS : Hid (∀ q', KeptR w ((wr.setCell ⟨g, 4, none⟩ (.int .i64 (nN nx s' a))).drewN q')) := Lib.hid fun q' => HKR.out.trans (fun t ht => (KeptT.off hR ht _).trans (KeptT.drewN _ _ q'))
      have HSZ : Hid (∀ q', w.heap.size ≤ ((wr.setCell ⟨g, 4, none⟩ (.int .i64 (nN nx s' a))).drewN q').heap.size) := Lib.hid fun q' => by simpa using hsz
      have hoff : ∀ q', Owned ((wr.setCell ⟨g, 4, none⟩ (.int .i64 (nN nx s' a))).drewN q') w.heap.size (.slice A' q c') os := fun q' => hown.off hR hrn 4 _ q'
      have HOFF := Lib.hid hoff
      have hbs : ∀ q', Below W.heap.size W ((wr.setCell ⟨g, 4, none⟩ (.int .i64 (nN nx s' a))).drewN q') := fun q' => below_drewN (hbr.setCell (p := ⟨g, 4, none⟩) hg _) q'
      have HBS := Lib.hid hbs
      clear hset hoff hbs hR
      go_wp2_with fail
      refine (pstep hM hx ho hbr HRR.out hlast ha).mono ?_
      rintro e w1 ⟨rfl, q1, rfl⟩
      have h1 := HOFF.out q1
      have h2 := HBS.out q1
      have h3 := HSET.out q1
      have h5 := HKS.out q1
      have h6 := HSZ.out q1
      clear HOFF HBS HSET HKS HSZ
      generalize (wr.setCell ⟨g, 4, none⟩ (.int .i64 (nN nx s' a))).drewN q1 = w1 at h1 h2 h3 h5 h6 ⊢
      obtain ⟨A2, c2, w2, hr, ho2, hb2, hk2⟩ := run_append_one h1 (oN ot s' a) h6 (by rw [HL.out]; omega)
      rw [← hO.out] at ho2
      rw [HL.out] at hr ho2
      have h4 := Lib.hid (hk2 g _ _ h3 hrn)
      have h7 := Lib.hid (h5.below hb2)
      have h8 := Lib.hid (h2.trans (hb2.mono hWw))
      have h9 := Lib.hid (Nat.le_trans h6 hb2.size)
      clear hk2 hb2 h2 h5
      go_wp2_with (at_builtin; refine Lib.wpList_append_run _ rfl _ _ _ _ rfl _ _ rfl rfl _ _ hr ?_)
      go_roundw
      case rel => exact ⟨q + 1, A2, c2, by omega, by go_num, rfl, h9.out, h7.out, ho2, h8.out, by rw [hT.out]; exact h4.out⟩
      case measure => simp [intOf]; omega
    · obtain rfl : q = k := by omega
      have hall := Lib.hid (List.take_of_length_le (l := xs) (i := q) (by rw [L.out]; exact Nat.le_refl _))
      go_wp2
      go_ret
      rw [hall.out] at hown hR
      exact ⟨_, _, rfl, hown, hbr, HKR.out⟩
end Go.Proofs.Ytkgdgnmobahhfaa
end

section
/- Traces of words: what it returns. -/
namespace Go.Proofs.Ytkgdgnmobahhfaa
open Go.RowKit

/-- The traces of the words, and the error. -/
def trs (i st : Nat) (nx ot : List (List Int)) : List (List Int) → List (List Int × List Int) → List (List Int × List Int) × Int
  | [], l => (l, 0)
  | w :: ws, l => if chk w i = 0 then trs i st nx ot ws (l ++ [(w, runO nx ot st w)]) else ([], chk w i)
theorem trs_ok {i st j : Nat} {nx ot ws : List (List Int)} (h : j < ws.length) (hc : chk (ws.getD j []) i = 0) (l : List (List Int × List Int)) : trs i st nx ot (ws.drop j) l = trs i st nx ot (ws.drop (j + 1)) (l ++ [(ws.getD j [], runO nx ot st (ws.getD j []))]) := by
  rw [List.drop_eq_getElem_cons h]
  rw [List.getD_eq_getElem?_getD, List.getElem?_eq_getElem h] at hc ⊢
  show (if chk ws[j] i = 0 then _ else _) = _
  exact if_pos hc
theorem trs_bad {i st j : Nat} {nx ot ws : List (List Int)} (h : j < ws.length) (hc : ¬ chk (ws.getD j []) i = 0) (l : List (List Int × List Int)) : trs i st nx ot (ws.drop j) l = ([], chk (ws.getD j []) i) := by
  rw [List.drop_eq_getElem_cons h]
  rw [List.getD_eq_getElem?_getD, List.getElem?_eq_getElem h] at hc ⊢
  show (if chk ws[j] i = 0 then _ else _) = _
  exact if_neg hc
theorem trs_end {i st j : Nat} {nx ot ws : List (List Int)} (h : ws.length ≤ j) (l : List (List Int × List Int)) : trs i st nx ot (ws.drop j) l = (l, 0) := by
  rw [List.drop_eq_nil_of_le h]; rfl
theorem trs_len {i st : Nat} {nx ot : List (List Int)} : ∀ (ws : List (List Int)) (l : List (List Int × List Int)), (trs i st nx ot ws l).1.length ≤ l.length + ws.length
  | [], l => Nat.le_refl _
  | w :: ws, l => by
    unfold trs
    split
    · refine Nat.le_trans (trs_len ws _) ?_
      simp; omega
    · simp
theorem ret_trs {A : Option Addr} {l l' c : Nat} {k : IntKind} {y y' : Int} (h1 : l = l') (h3 : y = y') : Ending.returned (.tuple #[.slice A l c, .int k y]) = .returned (.tuple #[.slice A l' c, .int k y']) := by rw [h1, h3]

theorem one_word {w : World} {A : Option Addr} {n c : Nat} {xs : List Int} (h1 : Ints w A n xs) : Lists (w.alloc (.cells #[.slice A n c] 36)) (some ⟨w.heap.size, 0, none⟩) 1 [xs] := by
  have hb := alloc_below w (.cells #[.slice A n c] 36)
  refine ⟨rfl, by omega, fun _ => ⟨w.heap.size, 0, rfl, by simp, fun j hj => ?_⟩⟩
  have hc := fun j => cell_of_row (w.alloc (.cells #[.slice A n c] 36)) w.heap.size j _ 36 (0, 0) (heap_alloc_new w _)
  rw [Nat.zero_add, hc j]
  match j, hj with
  | 0, _ => exact ⟨_, n, c, rfl, h1.below hb⟩
theorem join_one {w : World} {A : Option Addr} {n c : Nat} {xs : List Int} (h1 : Ints w A n xs) :
    Calls Try.prog 54 #[.slice (some ⟨w.heap.size, 0, none⟩) 1 1] (w.alloc (.cells #[.slice A n c] 36)) fun e w' => ∃ A' c', e = .returned (.slice A' n c') ∧ Owned w' w.heap.size (.slice A' n c') xs ∧ Below w.heap.size w w' := by
  have e : [xs].flatten = xs := by simp
  refine (rjoin _ 1 1 [xs] _ (one_word h1) (by rw [e, h1.1]; exact h1.2.1)).mono ?_
  rintro e' w' ⟨v, rfl, ho, hb⟩
  rw [e] at ho
  obtain ⟨A', c', rfl⟩ := ho.form
  rw [h1.1] at ho ⊢
  exact ⟨A', c', rfl, ho.lower (by simp), bt (alloc_below _ _) hb⟩
theorem rcheckq (A : Option Addr) (n c : Nat) (k : Int) (xs : List Int) (w : World) (h : Ints w A n xs) :
    Calls Try.prog 59 #[.slice A n c, .int .i64 k] w fun e w' => e = .returned (.int .i64 (chk xs k)) ∧ ∃ q, w' = w.drewN q := (rcheck A n c k xs w h).mono fun _ _ ⟨h, e⟩ => ⟨h, 0, e.symm⟩
end Go.Proofs.Ytkgdgnmobahhfaa
end

section
/- The program: Traces. -/
namespace Go.Proofs.Ytkgdgnmobahhfaa
open Go.RowKit

theorem ptraces_bad (i st : Int) (A B C : Option Addr) (n c m d p e : Nat) (nx ot : List (List Int)) (E : Int) (w : World) (hx : Lists w A n nx) (ho : Lists w B m ot) (hE : vld i st nx ot = E) (hv : ¬ E = 0) :
    Calls Try.prog 77 #[.agg #[.int .i64 i, .int .i64 st, .slice A n c, .slice B m d], .slice C p e] w fun e w' => e = .returned (.tuple #[.slice none 0 0, .int .i64 E]) ∧ Below w.heap.size w w' := by
  have hb0 := alloc_below w (.cells #[.int .i64 i, .int .i64 st, .slice A n c, .slice B m d] 56)
  have hne : (E != 0) = true := by simpa using hv
  have HE := Lib.hid hE
  clear hE hv
  go_enter Try.func77, Try.ntmps77
  go_wp2_with fail
  refine (pvalid _ _ _ _ _ _ _ _ _ _ _ (hx.below hb0) (ho.below hb0)).mono ?_
  rintro e w1 ⟨rfl, b1⟩
  have hbb := bt hb0 b1
  rw [HE.out]
  clear hb0 b1
  go_wp2
  go_ret2
  exact ⟨rfl, hbb⟩

set_option maxHeartbeats 2000000 in
set_option maxRecDepth 100000 in
theorem ptraces_ok (i st n : Nat) (A B C : Option Addr) (c d p e : Nat) (nx ot ws : List (List Int)) (w : World) (hx : Lists w A n nx) (ho : Lists w B n ot) (hM : Mok i st n nx ot) (hW : Lists w C p ws) (hp : p ≤ 10000) :
    Calls Try.prog 77 #[.agg #[.int .i64 i, .int .i64 st, .slice A n c, .slice B n d], .slice C p e] w fun e w' => ∃ A' c', e = .returned (.tuple #[.slice A' (trs i st nx ot ws []).1.length c', .int .i64 (trs i st nx ot ws []).2]) ∧ OwnedT w' w.heap.size (.slice A' (trs i st nx ot ws []).1.length c') (trs i st nx ot ws []).1 ∧ Below w.heap.size w w' := by
  have HV := Lib.hid hM.vld
  have HW := Lib.hid hW.1
  have hb0 := alloc_below w (.cells #[.int .i64 i, .int .i64 st, .slice A n c, .slice B n d] 56)
  have HZ := Lib.hid (show (w.alloc (.cells #[.int .i64 i, .int .i64 st, .slice A n c, .slice B n d] 56)).heap.size = w.heap.size + 1 by simp)
  have hstn := hM.st
  have d0 : decide ((10000 : Int) < (p : Int)) = false := by simp; omega
  obtain ⟨R, hR⟩ : ∃ R, R = trs i st nx ot ws [] := ⟨_, rfl⟩
  have HR := Lib.hid (show R = trs i st nx ot (ws.drop 0) [] by rw [List.drop_zero]; exact hR)
  rw [← hR]
  clear hR
  go_enter Try.func77, Try.ntmps77
  go_wp2_with fail
  refine (pvalid _ _ _ _ _ _ _ _ _ _ _ (hx.below hb0) (ho.below hb0)).mono ?_
  rintro e w1 ⟨rfl, b1⟩
  rw [HZ.out] at b1
  rw [HV.out]
  go_wp2
  go_loopw [7, 22] (fun v jv wr => ∃ (l : List (List Int × List Int)) (j : Nat) (A' : Option Addr) (c' : Nat), j ≤ p ∧ jv = .int .i64 j ∧ v = .slice A' l.length c' ∧ l.length ≤ j ∧ R = trs i st nx ot (ws.drop j) l ∧ OwnedT wr (w.heap.size + 1) (.slice A' l.length c') l ∧ Below (w.heap.size + 1) (w.alloc (.cells #[.int .i64 i, .int .i64 st, .slice A n c, .slice B n d] 56)) wr) (fun _ jv _ => p - (intOf jv).toNat)
  case atStart => exact ⟨[], 0, none, 0, Nat.zero_le _, rfl, rfl, Nat.zero_le _, HR.out, OwnedT.nil _ _, b1⟩
  case round =>
    obtain ⟨l, j, A', c', hj, rfl, rfl, hll, hB, hown, hbr⟩ := hrel
    have HB := Lib.hid hB
    clear hB
    obtain ⟨k0, k1, k2, k3⟩ := box4 hbr
    have hbw := hb0.trans (hbr.mono (Nat.le_succ _))
    by_cases hlt : j < p
    · obtain ⟨g1, p1, A1, n1, c1, rfl, hg1, hd1, hr1⟩ := hW.at_ hlt
      have e1 := (hbw.cell (p := ⟨g1, p1 + j, none⟩) hg1).trans hd1
      have hi1 := hr1.below hbw
      by_cases hc : chk (ws.getD j []) i = 0
      · have HNX := Lib.hid (HB.out.trans (trs_ok (st := st) (nx := nx) (ot := ot) (by rw [HW.out]; exact hlt) hc l))
        generalize ws.getD j [] = row at hr1 hi1 hc HNX
        have HC := Lib.hid hc
        have L1 := Lib.hid hr1.1
        have hn1 := hr1.2.1
        have hsz : w.heap.size + 1 ≤ wr.heap.size := by have := hbr.size; simpa using this
        have hsy := Lib.hid (chk_zero HC.out).2.2.2.mem
        have ba := alloc_below wr (.cells #[.int .i64 i, .int .i64 st, .slice A n c, .slice B n d, .int .i64 st] 137)
        have hR : Rnr (wr.alloc (.cells #[.int .i64 i, .int .i64 st, .slice A n c, .slice B n d, .int .i64 st] 137)) wr.heap.size i st A n c B n d st := heap_alloc_new wr _
        have HCL := Lib.hid (sclone A1 n1 c1 row _ (hi1.below ba))
        have HBA := Lib.hid (hbr.trans (ba.mono hsz))
        have HKA := Lib.hid (show ∀ t, KeptT t wr _ from fun t => KeptT.of_below ba)
        have HSA := Lib.hid (show wr.heap.size + 1 = (wr.alloc (.cells #[.int .i64 i, .int .i64 st, .slice A n c, .slice B n d, .int .i64 st] 137)).heap.size by simp)
        have HR := Lib.hid hR
        have HOW := Lib.hid hown
        have HI1 := Lib.hid hi1
        have HR1 := Lib.hid (hr1.below hb0)
        clear hc hR hown hbr ba hd1 hr1 hi1
        go_wp2_with fail
        refine (wcheck _ _ _ _ row _ HI1.out).mono ?_
        rintro e w2 ⟨rfl, rfl⟩
        rw [HC.out]
        go_wp2_with fail
        refine HCL.out.mono ?_
        rintro e w3 ⟨A3, c3, rfl, o3, b3⟩
        have hg3 : wr.heap.size < (wr.alloc (.cells #[.int .i64 i, .int .i64 st, .slice A n c, .slice B n d, .int .i64 st] 137)).heap.size := by simp
        have HR3 := Lib.hid (HR.out.kept b3 hg3)
        have HB3 := Lib.hid (HBA.out.trans (b3.mono (by rw [← HSA.out]; omega)))
        have HK3 := Lib.hid (show ∀ t, KeptT t wr w3 from fun t => (HKA.out t).trans (KeptT.of_below b3))
        have HO3 := Lib.hid o3
        have HI3 := Lib.hid (HI1.out.below (bt (alloc_below wr (.cells #[.int .i64 i, .int .i64 st, .slice A n c, .slice B n d, .int .i64 st] 137)) b3))
        have HS3 := Lib.hid (show wr.heap.size ≤ w3.heap.size from Nat.le_trans (by simp) b3.size)
        have HRUN := Lib.hid (prunk (W := w.alloc (.cells #[.int .i64 i, .int .i64 st, .slice A n c, .slice B n d] 56)) (e := c1) hM (hx.below hb0) (ho.below hb0) (by rw [HZ.out]; exact HB3.out) HR3.out (by rw [HZ.out]; exact hsz) hstn HR1.out hsy.out)
        clear b3 o3 hg3
        go_wp2_with fail
        refine HRUN.out.mono ?_
        rintro e w4 ⟨A4, c4, rfl, o4, b4, k4⟩
        rw [HZ.out] at b4
        have HO4 := Lib.hid (o4.lower (base' := w.heap.size + 1) (Nat.le_trans hsz HS3.out))
        have HX4 := Lib.hid ((HO3.out.keptT (k4 _ (by decide))).lower (base' := w.heap.size + 1) (by rw [← HSA.out]; omega))
        have HT4 := Lib.hid (HOW.out.keptT ((HK3.out _).trans (k4 _ (by decide))) ((HK3.out _).trans (k4 _ (by decide))))
        have hz4 : w.heap.size + 1 ≤ w4.heap.size := by have := b4.size; simpa using this
        obtain ⟨A5, c5, w5, hr5, h5, b5, _⟩ := run_append_trace HT4.out HX4.out HO4.out hz4 (by omega)
        have HT5 := Lib.hid h5
        have HB5 := Lib.hid (Below.trans b4 b5)
        have HL := Lib.hid (show (l ++ [(row, runO nx ot st row)]).length = l.length + 1 by simp)
        clear h5 b5 b4 k4 o4 k0 k1 k2 k3
        go_wp2_with (at_builtin; refine Lib.wpList_append_run _ rfl _ _ _ _ rfl _ _ rfl rfl _ _ hr5 ?_)
        go_roundw
        case rel => exact ⟨l ++ [(row, runO nx ot st row)], j + 1, A5, c5, by omega, by go_num, by rw [HL.out], by rw [HL.out]; omega, HNX.out, by rw [HL.out]; exact HT5.out, HB5.out⟩
        case measure => simp [intOf]; omega
      · have HNX := Lib.hid (HB.out.trans (trs_bad (st := st) (nx := nx) (ot := ot) (by rw [HW.out]; exact hlt) hc l))
        generalize ws.getD j [] = row at hr1 hi1 hc HNX
        have hne : (chk row i != 0) = true := by simpa using hc
        have HBW := Lib.hid hbw
        clear hc hown hbr hd1 hr1
        go_wp2_with fail
        refine (wcheck _ _ _ _ row _ hi1).mono ?_
        rintro e w2 ⟨rfl, rfl⟩
        generalize chk row i = E at hne HNX
        clear hi1 hbw
        go_wp2
        go_ret2
        rw [HNX.out]
        exact ⟨none, 0, rfl, OwnedT.nil _ _, HBW.out⟩
    · obtain rfl : j = p := by omega
      have HN := Lib.hid (HB.out.trans (trs_end (by rw [HW.out]; exact Nat.le_refl _) l))
      have HOW := Lib.hid (hown.lower (base' := w.heap.size) (Nat.le_succ _))
      have HBW := Lib.hid hbw
      clear hown hbr hbw
      go_wp2
      go_ret2
      rw [HN.out]
      exact ⟨A', c', rfl, HOW.out, HBW.out⟩
end Go.Proofs.Ytkgdgnmobahhfaa
end

section
/- Refuted: what it looks for; a row of headers of words. -/
namespace Go.Proofs.Ytkgdgnmobahhfaa
open Go.RowKit

/-- Where the outputs of the machine for the trace j stop to be those of the trace. -/
def dfN (nx ot : List (List Int)) (st : Nat) (ts : List (List Int × List Int)) (j : Nat) : Nat := cmn (runO nx ot st (tIn ts j)) (tOut ts j)
/-- One of the first k traces refutes by x. -/
def Rf (nx ot : List (List Int)) (st : Nat) (ts : List (List Int × List Int)) (k : Nat) (x : List Int) : Prop := ∃ j, j < k ∧ dfN nx ot st ts j < (tIn ts j).length ∧ x = (tIn ts j).take (dfN nx ot st ts j + 1)
theorem fst1_skip {p q : List Int → Prop} {o : List Int} (h : Fst1 p o) (e : ∀ x, q x ↔ p x) : Fst1 q o := h.congr fun x => (e x).symm
theorem fst1_new {p q : List Int → Prop} {o z : List Int} (h : Fst1 p o) (hz : 0 < z.length) (e : ∀ x, q x ↔ p x ∨ x = z) (hc : o = [] ∨ shlex z o < 0) : Fst1 q z := by
  refine .inr ⟨(e z).2 (.inr rfl), hz, fun x hx => ?_⟩
  rcases (e x).1 hx with h1 | rfl
  · rcases h with ⟨rfl, h4⟩ | ⟨h4, h5, h6⟩
    · exact absurd h1 (h4 x)
    · rcases hc with rfl | hc
      · simp at h5
      · have := (shlex_trans z o x).2 hc (h6 x h1); omega
  · exact Int.le_of_eq ((shlex_zero x x).2 rfl)
theorem fst1_old {p q : List Int → Prop} {o z : List Int} (h : Fst1 p o) (e : ∀ x, q x ↔ p x ∨ x = z) (ho : ¬ o = []) (hc : ¬ shlex z o < 0) : Fst1 q o := by
  rcases h with ⟨h4, _⟩ | ⟨h4, h5, h6⟩
  · exact absurd h4 ho
  · refine .inr ⟨(e o).2 (.inl h4), h5, fun x hx => ?_⟩
    rcases (e x).1 hx with h1 | rfl
    · exact h6 x h1
    · have := shlex_neg x o; omega
theorem Rf.zero (nx ot : List (List Int)) (st : Nat) (ts : List (List Int × List Int)) : Fst1 (Rf nx ot st ts 0) [] := .inl ⟨rfl, fun _ ⟨j, h, _⟩ => absurd h (Nat.not_lt_zero j)⟩
theorem rf_no {nx ot : List (List Int)} {st k : Nat} {ts : List (List Int × List Int)} (h : ¬ dfN nx ot st ts k < (tIn ts k).length) (x : List Int) : Rf nx ot st ts (k + 1) x ↔ Rf nx ot st ts k x :=
  ⟨fun ⟨j, h1, h2, h3⟩ => ⟨j, by rcases Nat.lt_or_ge j k with h4 | h4; exact h4; rw [show j = k by omega] at h2; exact absurd h2 h, h2, h3⟩, fun ⟨j, h1, h2⟩ => ⟨j, by omega, h2⟩⟩
theorem rf_yes {nx ot : List (List Int)} {st k : Nat} {ts : List (List Int × List Int)} (h : dfN nx ot st ts k < (tIn ts k).length) (x : List Int) : Rf nx ot st ts (k + 1) x ↔ Rf nx ot st ts k x ∨ x = (tIn ts k).take (dfN nx ot st ts k + 1) := by
  constructor
  · rintro ⟨j, h1, h2, h3⟩
    rcases Nat.lt_or_ge j k with h4 | h4
    · exact .inl ⟨j, h4, h2, h3⟩
    · rw [show j = k by omega] at h3; exact .inr h3
  · rintro (⟨j, h1, h2⟩ | h1)
    · exact ⟨j, by omega, h2⟩
    · exact ⟨k, by omega, h, h1⟩
/-- The result of Refuted. -/
def Ref3 (p : List Int → Prop) (w : World) (r : Ending) (w' : World) : Prop :=
  ∃ (A' : Option Addr) (n' c' : Nat) (xs : List Int) (b : Bool), r = .returned (.tuple #[.slice A' n' c', .bool b, .int .i64 0]) ∧ Fst1 p xs ∧ Ints w' A' n' xs ∧ (b = true ↔ ¬ xs = []) ∧ Below w.heap.size w w'

/-- The slice value v is a row of headers of words in blocks from base on, which the call may write; the numbers lie in the memory of w0. -/
def LsH (w0 w : World) (base : Nat) (v : Value) (ws : List (List Int)) : Prop :=
  ∃ vs : List Value, w.ownsRow base 36 1 v ws.length vs ∧ ∀ j, j < ws.length → ∃ A1 n1 c1, vs[j]? = some (.slice A1 n1 c1) ∧ Ints w0 A1 n1 (ws.getD j [])
theorem LsH.nil (w0 w : World) (base : Nat) : LsH w0 w base (.slice none 0 0) [] := ⟨[], World.ownsRow_nil _ _ _ _, fun j h => absurd h (by simp)⟩
theorem LsH.form {w0 w : World} {base : Nat} {v : Value} {ws : List (List Int)} (h : LsH w0 w base v ws) : ∃ A c, v = .slice A ws.length c := by
  obtain ⟨vs, h, _⟩ := h
  rcases h.2 with ⟨rfl, h0⟩ | ⟨g, cap, cur, rfl, _⟩
  · have : ws.length = 0 := h0
    exact ⟨none, 0, by rw [this]⟩
  · exact ⟨_, _, rfl⟩
theorem LsH.keptT {w0 w w' : World} {base : Nat} {v : Value} {ws : List (List Int)} (h : LsH w0 w base v ws) (hl : KeptT 36 w w') : LsH w0 w' base v ws := by
  obtain ⟨vs, h, hr⟩ := h
  refine ⟨vs, ⟨h.1, ?_⟩, hr⟩
  rcases h.2 with e | ⟨g, cap, cur, hv, hbg, hg, r⟩
  · exact .inl e
  · exact .inr ⟨g, cap, cur, hv, hbg, hl g cur hg, r⟩
theorem LsH.lists {w0 w : World} {base : Nat} {A : Option Addr} {n c : Nat} {ws : List (List Int)} (h : LsH w0 w base (.slice A n c) ws) (hb : Below w0.heap.size w0 w) (hm : ws.length ≤ 17592186044416) : Lists w A n ws := by
  have hn : n = ws.length := by obtain ⟨A', c', e⟩ := h.form; cases e; rfl
  subst hn
  refine ⟨rfl, hm, fun h0 => ?_⟩
  obtain ⟨vs, ho, hv⟩ := h
  rcases ho.2 with ⟨e, h0'⟩ | ⟨g, cap, cur, e, _, hg, r⟩
  · omega
  · cases e
    refine ⟨g, 0, rfl, heap_lt hg, fun j hj => ?_⟩
    obtain ⟨A1, n1, c1, h1, h2⟩ := hv j hj
    have hl := ho.1
    refine ⟨A1, n1, c1, ?_, h2.below hb⟩
    rw [Nat.zero_add, World.ownsRow.cellAt ho j (by omega), h1]
/-- append of one header. -/
theorem run_append_lsh {w0 w : World} {base : Nat} {v : Value} {ws : List (List Int)} {A : Option Addr} {m c : Nat} {xs : List Int} (h : LsH w0 w base v ws) (hx : Ints w0 A m xs) (hbase : base ≤ w.heap.size) (hl : ws.length < 1000000000) :
    ∃ A' c' w', (Builtin.append_ #[54, 54] 54 #[v, .slice (some ⟨w.heap.size, 0, none⟩) 1 1]).run Try.prog (w.alloc (.cells #[.slice A m c] 36)) = .ok (.slice A' (ws.length + 1) c') w' ∧
      LsH w0 w' base (.slice A' (ws.length + 1) c') (ws ++ [xs]) ∧ Below base w w' := by
  obtain ⟨i, hi, hz0, hz1, hz2⟩ := info_parts infol
  obtain ⟨vs, ho, hv⟩ := h
  have hbz := alloc_below w (.cells #[.slice A m c] 36)
  have ho1 : (w.alloc (.cells #[.slice A m c] 36)).ownsRow base 36 1 v ws.length vs := by
    refine ⟨ho.1, ?_⟩
    rcases ho.2 with e | ⟨g, cap, cur, hv, hbg, hg, r⟩
    · exact .inl e
    · exact .inr ⟨g, cap, cur, hv, hbg, (hbz.block g (heap_lt hg)).trans hg, r⟩
  obtain ⟨v', w', hr, h1, h2, _, hmv⟩ := run_append_own_at (P := Try.prog) (w.alloc (.cells #[.slice A m c] 36)) base 54 54 36 i _ 1 24 Try.underlying54 hi hz0 hz1 hz2 rfl (by decide) v _ _ ho1 ⟨w.heap.size, 0, none⟩ 1 1 [.slice A m c] (by simp)
    (by
      intro j u hu
      match j with
      | 0 =>
        simp at hu
        subst hu
        simp [Addr.add]
      | j + 1 => simp at hu)
    (by intro u hu; simp at hu; rcases hu with rfl; rfl) (by unfold maxLen; omega) (by omega) (Nat.le_trans hbase hbz.size)
  have hform : ∃ A c, v' = .slice A (ws.length + 1) c := by
    rcases h1.2 with ⟨rfl, h0⟩ | ⟨g, cap, cur, rfl, _⟩
    · have := h1.1; rw [h0] at this; simp at this
    · exact ⟨_, _, rfl⟩
  obtain ⟨A', c', rfl⟩ := hform
  refine ⟨A', c', w', hr, ⟨vs ++ [.slice A m c], by rw [List.length_append]; exact h1, fun j hj => ?_⟩, (hbz.mono hbase).trans ((Below.refl _ _).grown h2 (Nat.le_trans hbase hbz.size) (fun k hk => (World.ownsRow.lt ho1 k hk).1))⟩
  have hvl : vs.length = ws.length := by have := ho.1; omega
  by_cases e : j < ws.length
  · obtain ⟨A2, n2, c2, h3, h4⟩ := hv j e
    have hg : (ws ++ [xs]).getD j [] = ws.getD j [] := by rw [List.getD_eq_getElem?_getD, List.getD_eq_getElem?_getD, List.getElem?_append_left e]
    rw [hg]
    exact ⟨A2, n2, c2, by rw [List.getElem?_append_left (by omega)]; exact h3, h4⟩
  · have hjl : j = ws.length := by simp at hj; omega
    subst hjl
    have hg : (ws ++ [xs]).getD ws.length [] = xs := by simp
    rw [hg]
    exact ⟨A, m, c, by rw [List.getElem?_append_right (by omega), hvl]; simp, hx⟩

/-- The words of the first k traces. -/
def insK (ts : List (List Int × List Int)) : Nat → List (List Int)
  | 0 => []
  | k + 1 => insK ts k ++ [tIn ts k]
theorem insK_len (ts : List (List Int × List Int)) (k : Nat) : (insK ts k).length = k := by
  induction k with
  | zero => rfl
  | succ k ih => rw [insK, List.length_append, ih]; rfl
theorem insK_at (ts : List (List Int × List Int)) {k j : Nat} (hj : j < k) : (insK ts k).getD j [] = tIn ts j := by
  induction k with
  | zero => omega
  | succ k ih =>
    rw [insK]
    rcases Nat.lt_or_ge j k with h | h
    · rw [List.getD_eq_getElem?_getD, List.getElem?_append_left (by rw [insK_len]; exact h), ← List.getD_eq_getElem?_getD]
      exact ih h
    · obtain rfl : j = k := by omega
      rw [List.getD_eq_getElem?_getD, List.getElem?_append_right (by rw [insK_len]; exact Nat.le_refl _), insK_len]
      simp
/-- The traces of the machine for words without an error. -/
theorem trs_map {i st : Nat} {nx ot : List (List Int)} : ∀ (ws : List (List Int)) (l : List (List Int × List Int)), (∀ x, x ∈ ws → chk x i = 0) → trs i st nx ot ws l = (l ++ ws.map (fun w => (w, runO nx ot st w)), 0)
  | [], l, _ => by simp [trs]
  | w :: r, l, h => by
    rw [trs, if_pos (h w (by simp)), trs_map r _ fun x hx => h x (by simp [hx])]
    simp
theorem map_tIn {f : List Int → List Int} {ws : List (List Int)} {j : Nat} (hj : j < ws.length) : tIn (ws.map fun w => (w, f w)) j = ws.getD j [] ∧ tOut (ws.map fun w => (w, f w)) j = f (ws.getD j []) := by
  unfold tIn tOut
  rw [List.getD_eq_getElem?_getD, List.getD_eq_getElem?_getD, List.getElem?_map, List.getElem?_eq_getElem hj]
  exact ⟨rfl, rfl⟩
theorem Owned.cap22 {w : World} {base n c : Nat} {A : Option Addr} {xs : List Int} (h : Owned w base (.slice A n c) xs) : n ≤ c := by
  have hn : n = xs.length := by obtain ⟨A', c', e⟩ := h.form; cases e; rfl
  have h1 := h.1
  simp at h1
  rcases h.2 with ⟨e, h0⟩ | ⟨g, cap, cur, e, _, hg, r⟩
  · cases e; omega
  · cases e; omega
theorem OwnedT.trs {w : World} {base : Nat} {A : Option Addr} {n c : Nat} {ts : List (List Int × List Int)} (h : OwnedT w base (.slice A n c) ts) (hm : ts.length ≤ 17592186044416) (hr : ∀ j, j < ts.length → (tIn ts j).length ≤ 17592186044416 ∧ (tOut ts j).length ≤ 17592186044416) : Trs w A n ts := by
  have hn : n = ts.length := by obtain ⟨A', c', e⟩ := h.form; cases e; rfl
  subst hn
  refine ⟨rfl, hm, fun h0 => ?_⟩
  obtain ⟨vs, ho, hv⟩ := h
  rcases ho.2 with ⟨e, h0'⟩ | ⟨g, cap, cur, e, _, hg, r⟩
  · omega
  · cases e
    refine ⟨g, 0, rfl, heap_lt hg, fun j hj => ?_⟩
    obtain ⟨A1, c1, A2, c2, h1, h2, h3, h4⟩ := hv j hj
    have hl := ho.1
    refine ⟨A1, _, c1, A2, _, c2, ?_, ?_, h3.cap22, h4.cap22, h3.ints (hr j hj).1, h4.ints (hr j hj).2⟩
    · rw [Nat.zero_add, World.ownsRow.cellAt ho (j * 2) (by omega), Nat.mul_comm, h1]
    · rw [Nat.zero_add, World.ownsRow.cellAt ho (j * 2 + 1) (by omega), Nat.mul_comm j 2, h2]
theorem Ints.takeX {w : World} {A : Option Addr} {n t : Nat} {xs : List Int} (h : Ints w A n xs) (ht : t ≤ n) : Ints w A t (xs.take t) := by
  refine ⟨by rw [List.length_take, h.1]; omega, by have := h.2.1; omega, fun h0 => ?_⟩
  obtain ⟨b', o', e, hlt, hc⟩ := h.2.2 (by omega)
  refine ⟨b', o', e, hlt, fun j hj => ?_⟩
  rw [hc j (by omega)]
  congr 2
  rw [List.getD_eq_getElem?_getD, List.getD_eq_getElem?_getD, List.getElem?_take_of_lt hj]
end Go.Proofs.Ytkgdgnmobahhfaa
end

section
/- observe.Answer of the program. -/
namespace Go.Proofs.Ytkgdgnmobahhfaa
open Go.RowKit

/-- The result of Answer: what the traces say, for any word. -/
def AnsP (ts : List (List Int × List Int)) (ws : List Int) (n : Nat) (w : World) (r : Ending) (w' : World) : Prop :=
  Below w.heap.size w w' ∧ ((r = .returned (.tuple #[.slice none 0 0, .bool false]) ∧ knw ts ws ts.length < n) ∨ (r = .returned (.tuple #[.slice none 0 0, .bool true]) ∧ n = 0) ∨
    ∃ (a : Nat) (A' : Option Addr) (c' : Nat), 0 < n ∧ a < ts.length ∧ cmn (tIn ts a) ws = n ∧ r = .returned (.tuple #[.slice A' n c', .bool true]) ∧ ((tOut ts a).take n).length = n ∧ Owned w' w.heap.size (.slice A' n c') ((tOut ts a).take n))

set_option linter.unusedSimpArgs false in
set_option linter.unusedVariables false in
set_option maxHeartbeats 8000000 in
set_option maxRecDepth 100000 in
theorem panswer16 (i : Int) (T A : Option Addr) (tn tc n c : Nat) (ts : List (List Int × List Int)) (ws : List Int) (w : World) (hT : Trs w T tn ts) (htc : tn ≤ tc) (hA : Ints w A n ws) (hS : Srt ts) (hF : Full ts) :
    Calls Try.prog 24 #[.agg #[.int .i64 i, .slice T tn tc], .slice A n c] w fun r w' => AnsP ts ws n w r w' := by
  obtain ⟨w0, hw0⟩ : ∃ w0, w0 = w.alloc (.cells #[.int .i64 i, .slice T tn tc] 24) := ⟨_, rfl⟩
  have hb0 : Below w.heap.size w w0 := by rw [hw0]; exact alloc_below _ _
  have m0 : Bx w0 w.heap.size #[.int .i64 i, .slice T tn tc] 24 := by rw [hw0]; exact bx_new _ _ _
  have HM := Lib.hid (fun (W : World) (h : Below w0.heap.size w0 W) => m0.on h)
  have HT := Lib.hid (fun (W : World) (h : Below w0.heap.size w0 W) => (hT.below hb0).below h)
  have HA := Lib.hid (fun (W : World) (h : Below w0.heap.size w0 W) => (hA.below hb0).below h)
  have HB0 := Lib.hid hb0
  have HW0 := Lib.hid hw0
  have HLT := Lib.hid hT.1
  have HLA := Lib.hid hA.1
  have HFF := Lib.hid hF
  have HSS := Lib.hid hS
  have hn := hT.2.1
  have hnb := hA.2.1
  have hbc := Below.refl w0.heap.size w0
  have k1 := m0.cell 1
  simp at k1
  rw [hw0] at k1
  clear hw0 hb0 m0 hT hA hF hS
  go_enter Try.func24, Try.ntmps24
  go_wp2_with fail
  rw [← HW0.out]
  refine (pnear T A tn tc n c ts ws _ (HT.out _ hbc) (HA.out _ hbc) HSS.out HFF.out htc).mono ?_
  rintro e w2 ⟨best, kn, rfl, hkn, HG, a2⟩
  have hbc := bt hbc a2
  clear a2 k1
  have hkx : kn ≤ n := by rw [hkn, ← HLA.out]; exact knw_le
  rw [← HLT.out] at hkn
  have HKN := Lib.hid hkn
  clear hkn
  have HBC := Lib.hid (bt HB0.out hbc)
  by_cases hlt : kn < n
  · have hltI : (kn : Int) < (n : Int) := by omega
    go_wp2
    go_ret2
    exact ⟨HBC.out, .inl ⟨rfl, by rw [← HKN.out]; exact hlt⟩⟩
  · obtain rfl : kn = n := by omega
    by_cases h0 : kn = 0
    · have hz : ((kn : Int) == 0) = true := by rw [h0]; rfl
      have HZ := Lib.hid h0
      clear h0
      go_wp2
      go_ret2
      exact ⟨HBC.out, .inr (.inl ⟨rfl, HZ.out⟩)⟩
    · have hz : ((kn : Int) == 0) = false := by rw [beq_eq_false_iff_ne]; omega
      obtain ⟨hb1, hb2⟩ := HG.out (by omega)
      have HB1 := Lib.hid hb1
      have HB2 := Lib.hid hb2
      rw [HLT.out] at hb1
      obtain ⟨b, off, A1, n1, c1, A2, n2, c2, rfl, hgb, j1, j2, q1, q2, j3, j4⟩ := (HT.out _ hbc).at_ hb1
      have k1 := (HM.out _ hbc).cell 1
      simp at k1
      have hbI : (best : Int) < (tn : Int) := by omega
      have hb0 : (0 : Int) ≤ (best : Int) := by omega
      have hkn2 : kn ≤ n2 := by
        have l1 := j4.1
        have l2 := HFF.out best HB1.out
        have l3 := cmn_le_left (tIn ts best) ws
        rw [HB2.out] at l3
        omega
      have i1' : (kn : Int) ≤ (c2 : Int) := by omega
      have i2' : (0 : Int) ≤ (kn : Int) := by omega
      have hzl : ((tOut ts best).take kn).length = kn := by rw [List.length_take, j4.1]; omega
      have HZL := Lib.hid hzl
      have HCL := Lib.hid (sclone A2 kn c2 _ w2 (j4.takeX (t := kn) hkn2))
      clear hzl hgb j1 j3 j4 hb2 q1 q2 hkn2
      go_wp2_with fail
      refine HCL.out.mono ?_
      rintro r w3 ⟨A3, c3, rfl, o3, a3⟩
      have HO3 := Lib.hid (o3.lower (base' := w.heap.size) HBC.out.size)
      have HB3 := Lib.hid (bt HBC.out a3)
      clear o3 a3
      go_wp2_with fail
      go_ret2
      exact ⟨HB3.out, .inr (.inr ⟨best, A3, c3, by omega, HB1.out, HB2.out, rfl, HZL.out, HO3.out⟩)⟩
end Go.Proofs.Ytkgdgnmobahhfaa
end

section
/- insert of the program. -/
namespace Go.Proofs.Ytkgdgnmobahhfaa
open Go.RowKit Go.Shelf Go.Lib

/-- The result of insert: the box gx leads to the block g, which now holds the new traces. -/
def InsE (i : Int) (gx g N base z : Nat) (ts : List (List Int × List Int)) (xs ys : List Int) (w : World) (r : Ending) (w' : World) : Prop :=
  ∃ (e : Int) (ts' : List (List Int × List Int)), r = .returned (.int .i64 e) ∧ InsR ts xs ys i e ts' ∧ Below z w w' ∧
    (e = 0 → ∃ cur', Bx w' gx #[.int .i64 i, .slice (some ⟨g, 0, none⟩) ts'.length N] 24 ∧ TrO w' base g N cur' ts')
theorem obs_ne_trace {w : World} {gx g : Nat} {a b : Array Value} (h1 : Bx w gx a 24) (h2 : Bx w g b 38) : gx ≠ g := by
  rintro rfl
  unfold Bx at h1 h2
  rw [h1] at h2
  injection h2 with h2
  injection h2 with _ h2
  exact absurd h2 (by decide)
theorem Bx.on1 {w : World} {g : Nat} {a b : Value} {t : TypeId} (h : Bx w g #[a, b] t) (v : Value) : Bx (w.setCell ⟨g, 1, none⟩ v) g #[a, v] t := by
  have := h.set 1 v
  simpa using this
/-- The header in the box is written. -/
theorem TrO.boxed {w : World} {base g N gx : Nat} {cur cs : Array Value} {ts : List (List Int × List Int)} (h : TrO w base g N cur ts) (hx : Bx w gx cs 24) (v : Value) : TrO (w.setCell ⟨gx, 1, none⟩ v) base g N cur ts :=
  h.kept (h.bx.other (obs_ne_trace hx h.bx).symm v) (hx.keptSet (by decide) v)
theorem below_cells {w0 w : World} {z g : Nat} (hb : Below z w0 w) (hg : z ≤ g) (o : Nat) (vs : List Value) : Below z w0 (w.setCells g o vs) := by
  induction vs generalizing w o with
  | nil => exact hb
  | cons v r ih => exact ih (hb.setCell (p := ⟨g, o, none⟩) hg v) (o + 1)
theorem bx_cells {w : World} {gx g : Nat} {cs : Array Value} {t : TypeId} (h : Bx w gx cs t) (hne : gx ≠ g) (o : Nat) (vs : List Value) : Bx (w.setCells g o vs) gx cs t := by
  induction vs generalizing w o with
  | nil => exact h
  | cons v r ih => exact ih (h.other hne v) (o + 1)

set_option linter.unusedSimpArgs false in
set_option linter.unusedVariables false in
set_option maxHeartbeats 16000000 in
set_option maxRecDepth 100000 in
theorem pinsert (i : Int) (A B : Option Addr) (n c m d gx g N base z : Nat) (cur : Array Value) (ts : List (List Int × List Int)) (xs ys : List Int) (w : World)
    (hX : Bx w gx #[.int .i64 i, .slice (some ⟨g, 0, none⟩) ts.length N] 24) (hT : TrO w base g N cur ts) (hx : ∀ W, Below z w W → Ints W A n xs) (hnc : n ≤ c) (hy : ∀ W, Below z w W → Ints W B m ys) (hmd : m ≤ d) (hS : Srt ts) (hF : Full ts)
    (hroom : ts.length + 1 ≤ N) (hz1 : z ≤ gx) (hz2 : z ≤ g) (hbz : base ≤ z) :
    Calls Try.prog 106 #[.pointer (some ⟨gx, 0, none⟩), .agg #[.slice A n c, .slice B m d]] w fun r w' => InsE i gx g N base z ts xs ys w r w' := by
  have HXZ := Lib.hid hx
  have HYZ := Lib.hid hy
  have hx := hx w (Below.refl _ _)
  have hy := hy w (Below.refl _ _)
  have HGN := Lib.hid (show w.heap.size ≠ g from fun e => by have := hT.bx.lt; omega)
  have HGX := Lib.hid (show w.heap.size ≠ gx from fun e => by have := hX.lt; omega)
  obtain ⟨w0, hw0⟩ : ∃ w0, w0 = w.alloc (.cells #[.slice A n c, .slice B m d] 38) := ⟨_, rfl⟩
  obtain ⟨q, hq⟩ : ∃ q, q = ts.length := ⟨_, rfl⟩
  rw [← hq] at hX hroom
  have hb0 : Below w.heap.size w w0 := by rw [hw0]; exact alloc_below _ _
  have mt0 : Bx w0 w.heap.size #[.slice A n c, .slice B m d] 38 := by rw [hw0]; exact bx_new _ _ _
  have mx0 := hX.on hb0
  have hT0 := hT.below hb0
  have hzs : z ≤ w.heap.size := Nat.le_trans hz1 (Nat.le_of_lt hX.lt)
  have hbs : base ≤ w0.heap.size := Nat.le_trans (Nat.le_trans hbz hzs) hb0.size
  have HB0 := Lib.hid (hb0.mono hzs)
  have HX := Lib.hid (fun (W : World) (h : Below w0.heap.size w0 W) => (hx.below hb0).below h)
  have HY := Lib.hid (fun (W : World) (h : Below w0.heap.size w0 W) => (hy.below hb0).below h)
  have HMT := Lib.hid (fun (W : World) (h : Below w0.heap.size w0 W) => mt0.on h)
  have HMX := Lib.hid (fun (W : World) (h : Below w0.heap.size w0 W) => mx0.on h)
  have HTT := Lib.hid (fun (W : World) (h : Below w0.heap.size w0 W) => hT0.below h)
  have HW0 := Lib.hid hw0
  have HQ := Lib.hid hq
  have HLX := Lib.hid hx.1
  have HLY := Lib.hid hy.1
  have hxm := hx.2.1
  have hym := hy.2.1
  have hcapN := hT.cap
  have HSS := Lib.hid hS
  have HFF := Lib.hid hF
  have HBS := Lib.hid hbs
  have hlt1 : w.heap.size < w0.heap.size := mt0.lt
  have HLT1 := Lib.hid hlt1
  have HG0 := Lib.hid hT0.bx.lt
  have HS := Lib.hid (show ∀ W, Below w0.heap.size w0 W → Bx W w.heap.size #[.slice A n c, .slice B m d] 38 ∧ W.cell? ⟨gx, 0, none⟩ = some (.int .i64 i) ∧ W.cell? ⟨gx, 1, none⟩ = some (.slice (some ⟨g, 0, none⟩) q N) ∧ W.cell? ⟨w.heap.size, 0, none⟩ = some (.slice A n c) from fun W h => ⟨(mt0).on h, by have := ((mx0).on h).cell 0; simpa using this, by have := ((mx0).on h).cell 1; simpa using this, by have := ((mt0).on h).cell 0; simpa using this⟩)
  have hbf := Below.refl w0.heap.size w0
  clear hw0 hb0 mt0 mx0 hT0 hX hT hx hy hS hF hq hzs hbs hlt1
  go_enter Try.func106, Try.ntmps106
  go_upto_region 1 with fail
  rw [← HW0.out]
  have hbf : Below w0.heap.size w0 w0.drew := below_drewN (Below.refl _ _) 1
  refine wp_region_heldX (X := fun k => ([] : List Nat).contains k) (S := fun W => Bx W w.heap.size #[.slice A n c, .slice B m d] 38 ∧ W.cell? ⟨gx, 0, none⟩ = some (.int .i64 i) ∧ W.cell? ⟨gx, 1, none⟩ = some (.slice (some ⟨g, 0, none⟩) q N) ∧ W.cell? ⟨w.heap.size, 0, none⟩ = some (.slice A n c)) (by kernel_rfl) ?_
  generalize w0.drew = wkd at hbf ⊢
  refine wpAnyX_takeL (L := []) (i := 0) (v := .agg (#[.slice A n c, .slice B m d])) rfl (by kernel_rfl) (by kernel_rfl) (by kernel_rfl) (by kernel_rfl) (fun _ _ _ h => h) (Or.inl ⟨by rfl, fun W hSW => run_load_bx 38 _ rfl (w.heap.size) rfl 38 (#[.slice A n c, .slice B m d]) (0, 0) _ (hSW.1) Try.underlying38 rfl (by kernel_rfl)⟩) (HS.out _ hbf) ?_
  (try simp only [Act.put, List.getElem_toArray, List.getElem_cons_zero, List.getElem_cons_succ, List.setIfInBounds_toArray, List.set_cons_zero, List.set_cons_succ])
  refine wpAnyX_pure (i := 1) (v := ?_) rfl (by kernel_rfl) (by kernel_rfl) (by kernel_rfl) (fun _ _ _ h => h) (Or.inl ⟨by rfl, ?_⟩) ?_
  rotate_left
  · (intro W _; go_simp; try with_reducible rfl)
  (try simp only [Act.put, List.getElem_toArray, List.getElem_cons_zero, List.getElem_cons_succ, List.setIfInBounds_toArray, List.set_cons_zero, List.set_cons_succ])
  refine wpAnyX_pure (i := 2) (v := ?_) rfl (by kernel_rfl) (by kernel_rfl) (by kernel_rfl) (fun _ _ _ h => h) (Or.inl ⟨by rfl, ?_⟩) ?_
  rotate_left
  · (intro W _; go_simp; try with_reducible rfl)
  (try simp only [Act.put, List.getElem_toArray, List.getElem_cons_zero, List.getElem_cons_succ, List.setIfInBounds_toArray, List.set_cons_zero, List.set_cons_succ])
  refine wpAnyX_pure (i := 3) (v := ?_) rfl (by kernel_rfl) (by kernel_rfl) (by kernel_rfl) (fun _ _ _ h => h) (Or.inl ⟨by rfl, ?_⟩) ?_
  rotate_left
  · (intro W _; go_simp; try with_reducible rfl)
  (try simp only [Act.put, List.getElem_toArray, List.getElem_cons_zero, List.getElem_cons_succ, List.setIfInBounds_toArray, List.set_cons_zero, List.set_cons_succ])
  refine wpAnyX_takeL (L := []) (i := 4) (v := ?_) rfl (by kernel_rfl) (by kernel_rfl) (by kernel_rfl) (by kernel_rfl) (fun _ _ _ h => h) (Or.inl ⟨by rfl, ?_⟩) (HS.out _ hbf) ?_
  rotate_left
  · (intro W hSW; (try dsimp only at hSW); obtain ⟨z0, z1, z2, z3⟩ := hSW; go_simp; try with_reducible rfl)
  (try simp only [Act.put, List.getElem_toArray, List.getElem_cons_zero, List.getElem_cons_succ, List.setIfInBounds_toArray, List.set_cons_zero, List.set_cons_succ])
  refine wpAnyX_one (i := 5) rfl (by kernel_rfl) (fun K hK => ?_)
  go_simp
  go_at_call 70
  refine (pproper A B n c m d i xs ys _ (HX.out _ hbf) (HY.out _ hbf)).mono ?_
  rintro r w2 ⟨rfl, b9⟩
  have hbf := bt hbf b9
  clear b9
  refine hK.out _ _ (fun _ _ => HS.out _ hbf) ?_
  (try simp only [Act.put, List.getElem_toArray, List.getElem_cons_zero, List.getElem_cons_succ, List.setIfInBounds_toArray, List.set_cons_zero, List.set_cons_succ])
  refine wpAnyX_pure (i := 6) (v := ?_) rfl (by kernel_rfl) (by kernel_rfl) (by kernel_rfl) (fun _ _ _ h => h) (Or.inl ⟨by rfl, ?_⟩) ?_
  rotate_left
  · (intro W _; go_simp; try with_reducible rfl)
  (try simp only [Act.put, List.getElem_toArray, List.getElem_cons_zero, List.getElem_cons_succ, List.setIfInBounds_toArray, List.set_cons_zero, List.set_cons_succ])
  refine wpAnyX_done (by kernel_rfl) ?_ _
  by_cases hpr : prpE xs ys i = 0
  case neg =>
    obtain ⟨E, hE⟩ : ∃ E, E = prpE xs ys i := ⟨_, rfl⟩
    have HE := Lib.hid hE
    have hne : (E != 0) = true := by rw [hE]; simpa using hpr
    have HPR := Lib.hid hpr
    rw [← hE]
    have HBF := Lib.hid hbf
    clear hE hbf hpr
    go_wp2_with fail
    go_ret
    obtain ⟨b, hb⟩ := got_any ts xs
    exact ⟨E, [], rfl, ⟨b, hb, .inl ⟨HPR.out, HE.out⟩⟩, HB0.out.trans (HBF.out.mono (Nat.le_trans hz1 (Nat.le_of_lt (HMX.out _ (Below.refl _ _)).lt))), fun h => absurd (HE.out.symm.trans h) HPR.out⟩
  rw [hpr]
  have HPR := Lib.hid hpr
  clear hpr
  go_upto_region 4 with fail
  have hbf : Below w0.heap.size w0 w2.drew := below_drewN hbf 1
  refine wp_region_heldX (X := fun k => ([] : List Nat).contains k) (S := fun W => Bx W w.heap.size #[.slice A n c, .slice B m d] 38 ∧ W.cell? ⟨gx, 0, none⟩ = some (.int .i64 i) ∧ W.cell? ⟨gx, 1, none⟩ = some (.slice (some ⟨g, 0, none⟩) q N) ∧ W.cell? ⟨w.heap.size, 0, none⟩ = some (.slice A n c)) (by kernel_rfl) ?_
  generalize w2.drew = wkd at hbf ⊢
  refine wpAnyX_pure (i := 0) (v := ?_) rfl (by kernel_rfl) (by kernel_rfl) (by kernel_rfl) (fun _ _ _ h => h) (Or.inl ⟨by rfl, ?_⟩) ?_
  rotate_left
  · (intro W _; go_simp; try with_reducible rfl)
  (try simp only [Act.put, List.getElem_toArray, List.getElem_cons_zero, List.getElem_cons_succ, List.setIfInBounds_toArray, List.set_cons_zero, List.set_cons_succ])
  refine wpAnyX_pure (i := 1) (v := ?_) rfl (by kernel_rfl) (by kernel_rfl) (by kernel_rfl) (fun _ _ _ h => h) (Or.inl ⟨by rfl, ?_⟩) ?_
  rotate_left
  · (intro W _; go_simp; try with_reducible rfl)
  (try simp only [Act.put, List.getElem_toArray, List.getElem_cons_zero, List.getElem_cons_succ, List.setIfInBounds_toArray, List.set_cons_zero, List.set_cons_succ])
  refine wpAnyX_pure (i := 2) (v := ?_) rfl (by kernel_rfl) (by kernel_rfl) (by kernel_rfl) (fun _ _ _ h => h) (Or.inl ⟨by rfl, ?_⟩) ?_
  rotate_left
  · (intro W _; go_simp; try with_reducible rfl)
  (try simp only [Act.put, List.getElem_toArray, List.getElem_cons_zero, List.getElem_cons_succ, List.setIfInBounds_toArray, List.set_cons_zero, List.set_cons_succ])
  refine wpAnyX_takeL (L := []) (i := 3) (v := ?_) rfl (by kernel_rfl) (by kernel_rfl) (by kernel_rfl) (by kernel_rfl) (fun _ _ _ h => h) (Or.inl ⟨by rfl, ?_⟩) (HS.out _ hbf) ?_
  rotate_left
  · (intro W hSW; (try dsimp only at hSW); obtain ⟨z0, z1, z2, z3⟩ := hSW; go_simp; try with_reducible rfl)
  (try simp only [Act.put, List.getElem_toArray, List.getElem_cons_zero, List.getElem_cons_succ, List.setIfInBounds_toArray, List.set_cons_zero, List.set_cons_succ])
  refine wpAnyX_pure (i := 4) (v := ?_) rfl (by kernel_rfl) (by kernel_rfl) (by kernel_rfl) (fun _ _ _ h => h) (Or.inl ⟨by rfl, ?_⟩) ?_
  rotate_left
  · (intro W _; go_simp; try with_reducible rfl)
  (try simp only [Act.put, List.getElem_toArray, List.getElem_cons_zero, List.getElem_cons_succ, List.setIfInBounds_toArray, List.set_cons_zero, List.set_cons_succ])
  refine wpAnyX_takeL (L := []) (i := 5) (v := ?_) rfl (by kernel_rfl) (by kernel_rfl) (by kernel_rfl) (by kernel_rfl) (fun _ _ _ h => h) (Or.inl ⟨by rfl, ?_⟩) (HS.out _ hbf) ?_
  rotate_left
  · (intro W hSW; (try dsimp only at hSW); obtain ⟨z0, z1, z2, z3⟩ := hSW; go_simp; try with_reducible rfl)
  (try simp only [Act.put, List.getElem_toArray, List.getElem_cons_zero, List.getElem_cons_succ, List.setIfInBounds_toArray, List.set_cons_zero, List.set_cons_succ])
  refine wpAnyX_one (i := 6) rfl (by kernel_rfl) (fun K hK => ?_)
  go_simp
  go_at_call 67
  refine (pnear (some ⟨g, 0, none⟩) A q N n c ts xs _ (by rw [HQ.out]; exact (HTT.out _ hbf).trs) (HX.out _ hbf) HSS.out HFF.out (by omega)).mono ?_
  rintro r w3 ⟨best, kn, rfl, hkn, HG, b9⟩
  have hkx : kn ≤ n := by rw [hkn, ← HLX.out]; exact knw_le
  have HKN := Lib.hid (show kn = knw ts xs ts.length by rw [hkn, HQ.out])
  clear hkn
  have hbf := bt hbf b9
  clear b9
  refine hK.out _ _ (fun _ _ => HS.out _ hbf) ?_
  (try simp only [Act.put, List.getElem_toArray, List.getElem_cons_zero, List.getElem_cons_succ, List.setIfInBounds_toArray, List.set_cons_zero, List.set_cons_succ])
  refine wpAnyX_pure (i := 7) (v := ?_) rfl (by kernel_rfl) (by kernel_rfl) (by kernel_rfl) (fun _ _ _ h => h) (Or.inl ⟨by rfl, ?_⟩) ?_
  rotate_left
  · (intro W _; go_simp; try with_reducible rfl)
  (try simp only [Act.put, List.getElem_toArray, List.getElem_cons_zero, List.getElem_cons_succ, List.setIfInBounds_toArray, List.set_cons_zero, List.set_cons_succ])
  refine wpAnyX_pure (i := 8) (v := ?_) rfl (by kernel_rfl) (by kernel_rfl) (by kernel_rfl) (fun _ _ _ h => h) (Or.inl ⟨by rfl, ?_⟩) ?_
  rotate_left
  · (intro W _; go_simp; try with_reducible rfl)
  (try simp only [Act.put, List.getElem_toArray, List.getElem_cons_zero, List.getElem_cons_succ, List.setIfInBounds_toArray, List.set_cons_zero, List.set_cons_succ])
  refine wpAnyX_pure (i := 9) (v := ?_) rfl (by kernel_rfl) (by kernel_rfl) (by kernel_rfl) (fun _ _ _ h => h) (Or.inl ⟨by rfl, ?_⟩) ?_
  rotate_left
  · (intro W _; go_simp; try with_reducible rfl)
  (try simp only [Act.put, List.getElem_toArray, List.getElem_cons_zero, List.getElem_cons_succ, List.setIfInBounds_toArray, List.set_cons_zero, List.set_cons_succ])
  refine wpAnyX_pure (i := 10) (v := ?_) rfl (by kernel_rfl) (by kernel_rfl) (by kernel_rfl) (fun _ _ _ h => h) (Or.inl ⟨by rfl, ?_⟩) ?_
  rotate_left
  · (intro W _; go_simp; try with_reducible rfl)
  (try simp only [Act.put, List.getElem_toArray, List.getElem_cons_zero, List.getElem_cons_succ, List.setIfInBounds_toArray, List.set_cons_zero, List.set_cons_succ])
  refine wpAnyX_pure (i := 11) (v := ?_) rfl (by kernel_rfl) (by kernel_rfl) (by kernel_rfl) (fun _ _ _ h => h) (Or.inl ⟨by rfl, ?_⟩) ?_
  rotate_left
  · (intro W _; go_simp; try with_reducible rfl)
  (try simp only [Act.put, List.getElem_toArray, List.getElem_cons_zero, List.getElem_cons_succ, List.setIfInBounds_toArray, List.set_cons_zero, List.set_cons_succ])
  refine wpAnyX_done (by kernel_rfl) ?_ _
  have HBB := Lib.hid (show 0 < kn → best < q ∧ kn ≤ (tOut ts best).length from fun h => by
    obtain ⟨g1, g2⟩ := HG.out h
    refine ⟨by rw [HQ.out]; exact g1, ?_⟩
    have l2 := HFF.out best g1
    have l3 := cmn_le_left (tIn ts best) xs
    omega)
  go_upto_region 5 with fail
  have hbf : Below w0.heap.size w0 w3.drew := below_drewN hbf 1
  refine wp_region_heldX (X := fun k => ([] : List Nat).contains k) (S := fun W => Bx W w.heap.size #[.slice A n c, .slice B m d] 38 ∧ W.cell? ⟨gx, 0, none⟩ = some (.int .i64 i) ∧ W.cell? ⟨gx, 1, none⟩ = some (.slice (some ⟨g, 0, none⟩) q N) ∧ W.cell? ⟨w.heap.size, 0, none⟩ = some (.slice A n c)) (by kernel_rfl) ?_
  generalize w3.drew = wkd at hbf ⊢
  refine wpAnyX_pure (i := 0) (v := ?_) rfl (by kernel_rfl) (by kernel_rfl) (by kernel_rfl) (fun _ _ _ h => h) (Or.inl ⟨by rfl, ?_⟩) ?_
  rotate_left
  · (intro W _; go_simp; try with_reducible rfl)
  (try simp only [Act.put, List.getElem_toArray, List.getElem_cons_zero, List.getElem_cons_succ, List.setIfInBounds_toArray, List.set_cons_zero, List.set_cons_succ])
  refine wpAnyX_pure (i := 1) (v := ?_) rfl (by kernel_rfl) (by kernel_rfl) (by kernel_rfl) (fun _ _ _ h => h) (Or.inl ⟨by rfl, ?_⟩) ?_
  rotate_left
  · (intro W _; go_simp; try with_reducible rfl)
  (try simp only [Act.put, List.getElem_toArray, List.getElem_cons_zero, List.getElem_cons_succ, List.setIfInBounds_toArray, List.set_cons_zero, List.set_cons_succ])
  refine wpAnyX_pure (i := 2) (v := ?_) rfl (by kernel_rfl) (by kernel_rfl) (by kernel_rfl) (fun _ _ _ h => h) (Or.inl ⟨by rfl, ?_⟩) ?_
  rotate_left
  · (intro W _; go_simp; try with_reducible rfl)
  (try simp only [Act.put, List.getElem_toArray, List.getElem_cons_zero, List.getElem_cons_succ, List.setIfInBounds_toArray, List.set_cons_zero, List.set_cons_succ])
  refine wpAnyX_takeL (L := []) (i := 3) (v := ?_) rfl (by kernel_rfl) (by kernel_rfl) (by kernel_rfl) (by kernel_rfl) (fun _ _ _ h => h) (Or.inl ⟨by rfl, ?_⟩) (HS.out _ hbf) ?_
  rotate_left
  · (intro W hSW; (try dsimp only at hSW); obtain ⟨z0, z1, z2, z3⟩ := hSW; go_simp; try with_reducible rfl)
  (try simp only [Act.put, List.getElem_toArray, List.getElem_cons_zero, List.getElem_cons_succ, List.setIfInBounds_toArray, List.set_cons_zero, List.set_cons_succ])
  refine wpAnyX_pure (i := 4) (v := ?_) rfl (by kernel_rfl) (by kernel_rfl) (by kernel_rfl) (fun _ _ _ h => h) (Or.inl ⟨by rfl, ?_⟩) ?_
  rotate_left
  · (intro W _; go_simp; try with_reducible rfl)
  (try simp only [Act.put, List.getElem_toArray, List.getElem_cons_zero, List.getElem_cons_succ, List.setIfInBounds_toArray, List.set_cons_zero, List.set_cons_succ])
  refine wpAnyX_pure (i := 5) (v := ?_) rfl (by kernel_rfl) (by kernel_rfl) (by kernel_rfl) (fun _ _ _ h => h) (Or.inl ⟨by rfl, ?_⟩) ?_
  rotate_left
  · (intro W _; go_simp; try with_reducible rfl)
  (try simp only [Act.put, List.getElem_toArray, List.getElem_cons_zero, List.getElem_cons_succ, List.setIfInBounds_toArray, List.set_cons_zero, List.set_cons_succ])
  refine wpAnyX_takeL (L := []) (i := 6) (v := .agg (#[.slice A n c, .slice B m d])) rfl (by kernel_rfl) (by kernel_rfl) (by kernel_rfl) (by kernel_rfl) (fun _ _ _ h => h) (Or.inl ⟨by rfl, fun W hSW => run_load_bx 38 _ rfl (w.heap.size) rfl 38 (#[.slice A n c, .slice B m d]) (0, 0) _ (hSW.1) Try.underlying38 rfl (by kernel_rfl)⟩) (HS.out _ hbf) ?_
  (try simp only [Act.put, List.getElem_toArray, List.getElem_cons_zero, List.getElem_cons_succ, List.setIfInBounds_toArray, List.set_cons_zero, List.set_cons_succ])
  refine wpAnyX_pure (i := 8) (v := ?_) rfl (by kernel_rfl) (by kernel_rfl) (by kernel_rfl) (fun _ _ _ h => h) (Or.inl ⟨by rfl, ?_⟩) ?_
  rotate_left
  · (intro W _; go_simp; try with_reducible rfl)
  (try simp only [Act.put, List.getElem_toArray, List.getElem_cons_zero, List.getElem_cons_succ, List.setIfInBounds_toArray, List.set_cons_zero, List.set_cons_succ])
  refine wpAnyX_one (i := 7) rfl (by kernel_rfl) (fun K hK => ?_)
  go_simp
  go_at_call 71
  refine (pagreed (some ⟨g, 0, none⟩) A B q N n c m d best kn ts ys _ (by rw [HQ.out]; exact (HTT.out _ hbf).trs) (HY.out _ hbf) HBB.out).mono ?_
  rintro r w4 ⟨rfl, b9⟩
  have hbf := bt hbf b9
  clear b9
  obtain ⟨a, ha⟩ : ∃ a, a = agrN ts best kn ys := ⟨_, rfl⟩
  have hal : a ≤ kn := by rw [ha]; exact agrN_le _ _ _ _
  rw [← ha]
  have HA := Lib.hid ha
  clear ha
  refine hK.out _ _ (fun _ _ => HS.out _ hbf) ?_
  (try simp only [Act.put, List.getElem_toArray, List.getElem_cons_zero, List.getElem_cons_succ, List.setIfInBounds_toArray, List.set_cons_zero, List.set_cons_succ])
  refine wpAnyX_pure (i := 9) (v := ?_) rfl (by kernel_rfl) (by kernel_rfl) (by kernel_rfl) (fun _ _ _ h => h) (Or.inl ⟨by rfl, ?_⟩) ?_
  rotate_left
  · (intro W _; go_simp; try with_reducible rfl)
  (try simp only [Act.put, List.getElem_toArray, List.getElem_cons_zero, List.getElem_cons_succ, List.setIfInBounds_toArray, List.set_cons_zero, List.set_cons_succ])
  refine wpAnyX_done (by kernel_rfl) ?_ _
  have HBW := Lib.hid (HB0.out.trans (hbf.mono (Nat.le_trans hz1 (Nat.le_of_lt (HMX.out _ (Below.refl _ _)).lt))))
  by_cases hag : a < kn
  · have hagI : (a : Int) < (kn : Int) := by omega
    go_wp2_with fail
    go_ret
    exact ⟨13, [], rfl, ⟨best, by rw [← HKN.out]; exact HG.out, .inr (.inl ⟨HPR.out, by rw [← HKN.out, ← HA.out]; exact hag, rfl⟩)⟩, HBW.out, fun h => absurd h (by decide)⟩
  obtain rfl : a = kn := by omega
  have hagI : ¬ ((a : Int) < (a : Int)) := by omega
  have k0 := ((HS.out _ hbf).2.2.2)
  have HAG := Lib.hid (show agrN ts best (knw ts xs ts.length) ys = knw ts xs ts.length by rw [← HKN.out, ← HA.out])
  by_cases hfull : a = n
  · have hfI : ((a : Int) == (n : Int)) = true := by simp; omega
    have HFU := Lib.hid (show knw ts xs ts.length = xs.length by rw [← HKN.out, HLX.out, hfull])
    have HMXf := Lib.hid (HMX.out _ hbf)
    have HTTf := Lib.hid (HTT.out _ hbf)
    clear hbf hagI hal hkx
    go_wp2_with fail
    go_ret
    exact ⟨0, ts, rfl, ⟨best, by rw [← HKN.out]; exact HG.out, .inr (.inr (.inl ⟨HPR.out, HAG.out, HFU.out, rfl, rfl⟩))⟩, HBW.out, fun _ => ⟨cur, by rw [← HQ.out]; exact HMXf.out, HTTf.out⟩⟩
  have hfI : ((a : Int) == (n : Int)) = false := by simp; omega
  have HLT := Lib.hid (show knw ts xs ts.length < xs.length by rw [← HKN.out, HLX.out]; omega)
  by_cases hdel : 0 < a ∧ a = (tIn ts best).length
  case neg =>
    have trkq : q = ts.length := HQ.out
    have HBO := Lib.hid (fun h : 0 < a => (HBB.out h).1)
    obtain ⟨cuk, hcuk⟩ : ∃ cuk, cuk = cur := ⟨_, rfl⟩
    rw [← hcuk] at HTT
    clear hcuk
    have hdl : ts = InsD ts best (knw ts xs ts.length) := by unfold InsD; rw [← HKN.out, if_neg hdel]
    have trf := HTT.out _ hbf
    by_cases ha0 : 0 < a
    · obtain ⟨A1, q1, A2, q2, e1, e2, p1, p2⟩ := trf.hd best (by rw [← HQ.out]; exact HBO.out ha0)
      have ha0I : (0 : Int) < (a : Int) := by omega
      have hbI : (best : Int) < (q : Int) := by have := HBO.out ha0; omega
      have hbI0 : (0 : Int) ≤ (best : Int) := by omega
      have hneL : ((a : Int) == ((tIn ts best).length : Int)) = false := by
        rw [beq_eq_false_iff_ne]
        intro h
        exact hdel ⟨ha0, by omega⟩
      have kb : w4.cell? ⟨g, best * 2, none⟩ = some (.slice A1 (tIn ts best).length q1) := by rw [trf.bx.cell]; exact e1
      have k1' := (HMX.out _ hbf).cell 1
      simp at k1'
      have HMXf := Lib.hid (HMX.out _ hbf)
      have HMTf := Lib.hid (HMT.out _ hbf)
      have HTTf := Lib.hid (HTT.out _ hbf)
      have HXf := Lib.hid (HX.out _ hbf)
      have HYf := Lib.hid (HY.out _ hbf)
      have HDL := Lib.hid hdl
      clear e1 e2 p1 p2 trf hdel hdl hbf
      go_upto_region 11 with fail
      clear kb hneL k1'
      have mxk := HMXf.out
      have mtk := HMTf.out
      have trk := HTTf.out
      have hik := HXf.out
      have hjk := HYf.out
      have BWK := Lib.hid (HBW.out)
      have HD := Lib.hid (HDL.out)
      have HQD := Lib.hid (show q = (ts).length from trkq)
      clear trkq
      have HSD := Lib.hid (InsD.srt HSS.out best (knw ts xs ts.length))
      rw [← HD.out] at HSD
      have k1 := mxk.cell 1
      simp at k1
      by_cases hlim : 10000 ≤ q
      · have hlI : (10000 : Int) ≤ (q : Int) := by omega
        clear mxk mtk trk hik hjk
        go_wp2_with fail
        go_ret
        exact ⟨11, [], rfl, ⟨best, by rw [← HKN.out]; exact HG.out, .inr (.inr (.inr (.inl ⟨HPR.out, HAG.out, HLT.out, by rw [← HD.out, ← HQD.out]; exact hlim, rfl⟩)))⟩, BWK.out, fun h => absurd h (by decide)⟩
      have hlI : ¬ (10000 : Int) ≤ (q : Int) := by omega
      have HS := Lib.hid (show ∀ W, Below w4.heap.size w4 W → Bx W w.heap.size #[.slice A n c, .slice B m d] 38 ∧ W.cell? ⟨gx, 0, none⟩ = some (.int .i64 i) ∧ W.cell? ⟨gx, 1, none⟩ = some (.slice (some ⟨g, 0, none⟩) q N) ∧ W.cell? ⟨w.heap.size, 0, none⟩ = some (.slice A n c) from fun W h => ⟨(mtk).on h, by have := ((mxk).on h).cell 0; simpa using this, by have := ((mxk).on h).cell 1; simpa using this, by have := ((mtk).on h).cell 0; simpa using this⟩)
      have HIK := Lib.hid (fun (W : World) (h : Below w4.heap.size w4 W) => hik.below h)
      have HJK := Lib.hid (fun (W : World) (h : Below w4.heap.size w4 W) => hjk.below h)
      have HTK := Lib.hid (fun (W : World) (h : Below w4.heap.size w4 W) => trk.below h)
      have HXK := Lib.hid (fun (W : World) (h : Below w4.heap.size w4 W) => mxk.on h)
      have hzk : z ≤ w4.heap.size := Nat.le_trans hz1 (Nat.le_of_lt mxk.lt)
      have hgk : g < w4.heap.size := trk.bx.lt
      have hszk := Lib.hid trk.sz
      have honek := Lib.hid trk.one
      have HNE := Lib.hid (obs_ne_trace mxk trk.bx)
      clear mxk mtk trk hik hjk
      go_upto_region 13 with fail
      have hbf : Below w4.heap.size w4 w4.drew := below_drewN (Below.refl _ _) 1
      refine wp_region_heldX (X := fun k => ([] : List Nat).contains k) (S := fun W => Bx W w.heap.size #[.slice A n c, .slice B m d] 38 ∧ W.cell? ⟨gx, 0, none⟩ = some (.int .i64 i) ∧ W.cell? ⟨gx, 1, none⟩ = some (.slice (some ⟨g, 0, none⟩) q N) ∧ W.cell? ⟨w.heap.size, 0, none⟩ = some (.slice A n c)) (by kernel_rfl) ?_
      generalize w4.drew = wkd at hbf ⊢
      refine wpAnyX_pure (i := 0) (v := ?_) rfl (by kernel_rfl) (by kernel_rfl) (by kernel_rfl) (fun _ _ _ h => h) (Or.inl ⟨by rfl, ?_⟩) ?_
      rotate_left
      · (intro W _; go_simp; try with_reducible rfl)
      (try simp only [Act.put, List.getElem_toArray, List.getElem_cons_zero, List.getElem_cons_succ, List.setIfInBounds_toArray, List.set_cons_zero, List.set_cons_succ])
      refine wpAnyX_pure (i := 1) (v := ?_) rfl (by kernel_rfl) (by kernel_rfl) (by kernel_rfl) (fun _ _ _ h => h) (Or.inl ⟨by rfl, ?_⟩) ?_
      rotate_left
      · (intro W _; go_simp; try with_reducible rfl)
      (try simp only [Act.put, List.getElem_toArray, List.getElem_cons_zero, List.getElem_cons_succ, List.setIfInBounds_toArray, List.set_cons_zero, List.set_cons_succ])
      refine wpAnyX_pure (i := 2) (v := ?_) rfl (by kernel_rfl) (by kernel_rfl) (by kernel_rfl) (fun _ _ _ h => h) (Or.inl ⟨by rfl, ?_⟩) ?_
      rotate_left
      · (intro W _; go_simp; try with_reducible rfl)
      (try simp only [Act.put, List.getElem_toArray, List.getElem_cons_zero, List.getElem_cons_succ, List.setIfInBounds_toArray, List.set_cons_zero, List.set_cons_succ])
      refine wpAnyX_takeL (L := []) (i := 3) (v := ?_) rfl (by kernel_rfl) (by kernel_rfl) (by kernel_rfl) (by kernel_rfl) (fun _ _ _ h => h) (Or.inl ⟨by rfl, ?_⟩) (HS.out _ hbf) ?_
      rotate_left
      · (intro W hSW; (try dsimp only at hSW); obtain ⟨z0, z1, z2, z3⟩ := hSW; go_simp; try with_reducible rfl)
      (try simp only [Act.put, List.getElem_toArray, List.getElem_cons_zero, List.getElem_cons_succ, List.setIfInBounds_toArray, List.set_cons_zero, List.set_cons_succ])
      refine wpAnyX_pure (i := 4) (v := ?_) rfl (by kernel_rfl) (by kernel_rfl) (by kernel_rfl) (fun _ _ _ h => h) (Or.inl ⟨by rfl, ?_⟩) ?_
      rotate_left
      · (intro W _; go_simp; try with_reducible rfl)
      (try simp only [Act.put, List.getElem_toArray, List.getElem_cons_zero, List.getElem_cons_succ, List.setIfInBounds_toArray, List.set_cons_zero, List.set_cons_succ])
      refine wpAnyX_takeL (L := []) (i := 5) (v := ?_) rfl (by kernel_rfl) (by kernel_rfl) (by kernel_rfl) (by kernel_rfl) (fun _ _ _ h => h) (Or.inl ⟨by rfl, ?_⟩) (HS.out _ hbf) ?_
      rotate_left
      · (intro W hSW; (try dsimp only at hSW); obtain ⟨z0, z1, z2, z3⟩ := hSW; go_simp; try with_reducible rfl)
      (try simp only [Act.put, List.getElem_toArray, List.getElem_cons_zero, List.getElem_cons_succ, List.setIfInBounds_toArray, List.set_cons_zero, List.set_cons_succ])
      refine wpAnyX_one (i := 6) rfl (by kernel_rfl) (fun K hK => ?_)
      go_simp
      go_at_call 103
      refine (pplace (some ⟨g, 0, none⟩) A q N n c (ts) xs _ (by rw [HQD.out]; exact (HTK.out _ hbf).trs) (HIK.out _ hbf) HSD.out).mono ?_
      rintro r w8 ⟨p, pv, rfl, hpq, HLO, HHI, b9⟩
      have hbf := bt hbf b9
      clear b9
      refine hK.out _ _ (fun _ _ => HS.out _ hbf) ?_
      (try simp only [Act.put, List.getElem_toArray, List.getElem_cons_zero, List.getElem_cons_succ, List.setIfInBounds_toArray, List.set_cons_zero, List.set_cons_succ])
      refine wpAnyX_pure (i := 7) (v := ?_) rfl (by kernel_rfl) (by kernel_rfl) (by kernel_rfl) (fun _ _ _ h => h) (Or.inl ⟨by rfl, ?_⟩) ?_
      rotate_left
      · (intro W _; go_simp; try with_reducible rfl)
      (try simp only [Act.put, List.getElem_toArray, List.getElem_cons_zero, List.getElem_cons_succ, List.setIfInBounds_toArray, List.set_cons_zero, List.set_cons_succ])
      refine wpAnyX_pure (i := 8) (v := ?_) rfl (by kernel_rfl) (by kernel_rfl) (by kernel_rfl) (fun _ _ _ h => h) (Or.inl ⟨by rfl, ?_⟩) ?_
      rotate_left
      · (intro W _; go_simp; try with_reducible rfl)
      (try simp only [Act.put, List.getElem_toArray, List.getElem_cons_zero, List.getElem_cons_succ, List.setIfInBounds_toArray, List.set_cons_zero, List.set_cons_succ])
      refine wpAnyX_pure (i := 9) (v := ?_) rfl (by kernel_rfl) (by kernel_rfl) (by kernel_rfl) (fun _ _ _ h => h) (Or.inl ⟨by rfl, ?_⟩) ?_
      rotate_left
      · (intro W _; go_simp; try with_reducible rfl)
      (try simp only [Act.put, List.getElem_toArray, List.getElem_cons_zero, List.getElem_cons_succ, List.setIfInBounds_toArray, List.set_cons_zero, List.set_cons_succ])
      refine wpAnyX_pure (i := 10) (v := ?_) rfl (by kernel_rfl) (by kernel_rfl) (by kernel_rfl) (fun _ _ _ h => h) (Or.inl ⟨by rfl, ?_⟩) ?_
      rotate_left
      · (intro W _; go_simp; try with_reducible rfl)
      (try simp only [Act.put, List.getElem_toArray, List.getElem_cons_zero, List.getElem_cons_succ, List.setIfInBounds_toArray, List.set_cons_zero, List.set_cons_succ])
      refine wpAnyX_pure (i := 11) (v := ?_) rfl (by kernel_rfl) (by kernel_rfl) (by kernel_rfl) (fun _ _ _ h => h) (Or.inl ⟨by rfl, ?_⟩) ?_
      rotate_left
      · (intro W _; go_simp; try with_reducible rfl)
      (try simp only [Act.put, List.getElem_toArray, List.getElem_cons_zero, List.getElem_cons_succ, List.setIfInBounds_toArray, List.set_cons_zero, List.set_cons_succ])
      refine wpAnyX_done (by kernel_rfl) ?_ _
      go_upto_region 14 with fail
      have hbf : Below w4.heap.size w4 w8.drew := below_drewN hbf 1
      refine wp_region_heldX (X := fun k => ([12] : List Nat).contains k) (S := fun W => Bx W w.heap.size #[.slice A n c, .slice B m d] 38 ∧ W.cell? ⟨gx, 0, none⟩ = some (.int .i64 i) ∧ W.cell? ⟨gx, 1, none⟩ = some (.slice (some ⟨g, 0, none⟩) q N) ∧ W.cell? ⟨w.heap.size, 0, none⟩ = some (.slice A n c)) (by kernel_rfl) ?_
      generalize w8.drew = wkd at hbf ⊢
      refine wpAnyX_pure (i := 0) (v := ?_) rfl (by kernel_rfl) (by kernel_rfl) (by kernel_rfl) (fun _ _ _ h => h) (Or.inl ⟨by rfl, ?_⟩) ?_
      rotate_left
      · (intro W _; go_simp; try with_reducible rfl)
      (try simp only [Act.put, List.getElem_toArray, List.getElem_cons_zero, List.getElem_cons_succ, List.setIfInBounds_toArray, List.set_cons_zero, List.set_cons_succ])
      refine wpAnyX_pure (i := 1) (v := ?_) rfl (by kernel_rfl) (by kernel_rfl) (by kernel_rfl) (fun _ _ _ h => h) (Or.inl ⟨by rfl, ?_⟩) ?_
      rotate_left
      · (intro W _; go_simp; try with_reducible rfl)
      (try simp only [Act.put, List.getElem_toArray, List.getElem_cons_zero, List.getElem_cons_succ, List.setIfInBounds_toArray, List.set_cons_zero, List.set_cons_succ])
      refine wpAnyX_pure (i := 2) (v := ?_) rfl (by kernel_rfl) (by kernel_rfl) (by kernel_rfl) (fun _ _ _ h => h) (Or.inl ⟨by rfl, ?_⟩) ?_
      rotate_left
      · (intro W _; go_simp; try with_reducible rfl)
      (try simp only [Act.put, List.getElem_toArray, List.getElem_cons_zero, List.getElem_cons_succ, List.setIfInBounds_toArray, List.set_cons_zero, List.set_cons_succ])
      refine wpAnyX_pure (i := 3) (v := ?_) rfl (by kernel_rfl) (by kernel_rfl) (by kernel_rfl) (fun _ _ _ h => h) (Or.inl ⟨by rfl, ?_⟩) ?_
      rotate_left
      · (intro W _; go_simp; try with_reducible rfl)
      (try simp only [Act.put, List.getElem_toArray, List.getElem_cons_zero, List.getElem_cons_succ, List.setIfInBounds_toArray, List.set_cons_zero, List.set_cons_succ])
      refine wpAnyX_takeL (L := [12]) (i := 4) (v := ?_) rfl (by kernel_rfl) (by kernel_rfl) (by kernel_rfl) (by kernel_rfl) (fun _ _ _ h => h) (Or.inl ⟨by rfl, ?_⟩) (HS.out _ hbf) ?_
      rotate_left
      · (intro W hSW; (try dsimp only at hSW); obtain ⟨z0, z1, z2, z3⟩ := hSW; go_simp; try with_reducible rfl)
      (try simp only [Act.put, List.getElem_toArray, List.getElem_cons_zero, List.getElem_cons_succ, List.setIfInBounds_toArray, List.set_cons_zero, List.set_cons_succ])
      refine wpAnyX_pure (i := 5) (v := ?_) rfl (by kernel_rfl) (by kernel_rfl) (by kernel_rfl) (fun _ _ _ h => h) (Or.inl ⟨by rfl, ?_⟩) ?_
      rotate_left
      · (intro W _; go_simp; try with_reducible rfl)
      (try simp only [Act.put, List.getElem_toArray, List.getElem_cons_zero, List.getElem_cons_succ, List.setIfInBounds_toArray, List.set_cons_zero, List.set_cons_succ])
      refine wpAnyX_takeL (L := [12]) (i := 6) (v := .agg (#[.slice A n c, .slice B m d])) rfl (by kernel_rfl) (by kernel_rfl) (by kernel_rfl) (by kernel_rfl) (fun _ _ _ h => h) (Or.inl ⟨by rfl, fun W hSW => run_load_bx 38 _ rfl (w.heap.size) rfl 38 (#[.slice A n c, .slice B m d]) (0, 0) _ (hSW.1) Try.underlying38 rfl (by kernel_rfl)⟩) (HS.out _ hbf) ?_
      (try simp only [Act.put, List.getElem_toArray, List.getElem_cons_zero, List.getElem_cons_succ, List.setIfInBounds_toArray, List.set_cons_zero, List.set_cons_succ])
      refine wpAnyX_one (i := 7) rfl (by kernel_rfl) (fun K hK => ?_)
      go_simp
      go_at_call 105
      refine (pcopied16 A B n c m d xs ys _ (HIK.out _ hbf) (HJK.out _ hbf)).mono ?_
      rintro r w9 ⟨B1, B2, d1, d2, rfl, o1, o2, b9⟩
      have o1 := o1.lower (base' := base) (Nat.le_trans (Nat.le_trans hbz hzk) hbf.size)
      have o2 := o2.lower (base' := base) (Nat.le_trans (Nat.le_trans hbz hzk) hbf.size)
      have hbf := bt hbf b9
      clear b9
      refine hK.out _ _ (fun _ _ => HS.out _ hbf) ?_
      (try simp only [Act.put, List.getElem_toArray, List.getElem_cons_zero, List.getElem_cons_succ, List.setIfInBounds_toArray, List.set_cons_zero, List.set_cons_succ])
      refine wpAnyX_one (i := 8) rfl (by kernel_rfl) (fun K hK => ?_)
      go_simp
      have l9 := alloc_below w9 (.cells #[.slice B1 n d1, .slice B2 m d2] 38)
      have hv9 := bx_new w9 #[.slice B1 n d1, .slice B2 m d2] 38
      obtain ⟨wa, hwa⟩ : ∃ wa, wa = w9.alloc (.cells #[.slice B1 n d1, .slice B2 m d2] 38) := ⟨_, rfl⟩
      rw [← hwa] at l9 hv9 ⊢
      have o1 := o1.kept l9
      have o2 := o2.kept l9
      have hgv : w9.heap.size ≠ g := by have := hbf.size; omega
      have hbf := bt hbf l9
      clear l9 hwa
      refine hK.out _ _ (fun _ _ => HS.out _ hbf) ?_
      (try simp only [Act.put, List.getElem_toArray, List.getElem_cons_zero, List.getElem_cons_succ, List.setIfInBounds_toArray, List.set_cons_zero, List.set_cons_succ])
      refine wpAnyX_one (i := 9) rfl (by kernel_rfl) (fun K hK => ?_)
      by_cases hpe : p < q
      · go_simp
        go_at_call 123
        refine (pins_shift g q N p w9.heap.size cuk _ _ wa (HTK.out _ hbf).bx hv9 hgv (by omega) (by omega) hcapN hszk.out honek.out rfl rfl).mono ?_
        rintro r wb ⟨rfl, hwb⟩
        obtain ⟨cur', htr⟩ := TrO.shifted (w1 := wb) (HTK.out _ hbf) (p := p) (by rw [← HQD.out]; exact hpq) (by rw [← HQD.out]; omega) (xs := xs) (ys := ys) (B1 := B1) (B2 := B2) (d1 := d1) (d2 := d2) (by rw [HLX.out]; exact o1) (by rw [HLY.out]; exact o2) (by rw [HLX.out]; exact hxm) (by rw [HLY.out]; exact hym) (by rw [← HQD.out, HLX.out, HLY.out]; exact hwb)
        have hBb : Below z w wb := by rw [hwb]; exact below_cells (below_cells (below_drewN (BWK.out.trans (hbf.mono hzk)) 1) hz2 _ _) hz2 _ _
        have hMb : Bx wb gx #[.int .i64 i, .slice (some ⟨g, 0, none⟩) q N] 24 := by rw [hwb]; exact bx_cells (bx_cells ((HXK.out _ hbf).drewN 1) HNE.out _ _) HNE.out _ _
        have hTb : Bx wb w.heap.size #[.slice A n c, .slice B m d] 38 := by rw [hwb]; exact bx_cells (bx_cells (((HS.out _ hbf).1).drewN 1) HGN.out _ _) HGN.out _ _
        have hSb : Bx wb w.heap.size #[.slice A n c, .slice B m d] 38 ∧ wb.cell? ⟨gx, 0, none⟩ = some (.int .i64 i) ∧ wb.cell? ⟨gx, 1, none⟩ = some (.slice (some ⟨g, 0, none⟩) q N) ∧ wb.cell? ⟨w.heap.size, 0, none⟩ = some (.slice A n c) := ⟨hTb, by have := hMb.cell 0; simpa using this, by have := hMb.cell 1; simpa using this, by have := hTb.cell 0; simpa using this⟩
        refine hK.out _ _ (fun _ _ => hSb) ?_
        clear hSb hTb
        (try simp only [Act.put, List.getElem_toArray, List.getElem_cons_zero, List.getElem_cons_succ, List.setIfInBounds_toArray, List.set_cons_zero, List.set_cons_succ])
        have kx1 := hMb.cell 1
        clear hwb
        have kf1 := hMb.free 1
        simp at kx1
        refine wpAnyX_pure (i := 10) (v := ?_) rfl (by kernel_rfl) (by kernel_rfl) (by kernel_rfl) (fun _ _ _ h => h) (Or.inl ⟨by rfl, ?_⟩) ?_
        rotate_left
        · (intro W _; go_simp; try with_reducible rfl)
        (try simp only [Act.put, List.getElem_toArray, List.getElem_cons_zero, List.getElem_cons_succ, List.setIfInBounds_toArray, List.set_cons_zero, List.set_cons_succ])
        refine wpAnyX_pure (i := 11) (v := ?_) rfl (by kernel_rfl) (by kernel_rfl) (by kernel_rfl) (fun _ _ _ h => h) (Or.inl ⟨by rfl, ?_⟩) ?_
        rotate_left
        · (intro W _; go_simp; try with_reducible rfl)
        (try simp only [Act.put, List.getElem_toArray, List.getElem_cons_zero, List.getElem_cons_succ, List.setIfInBounds_toArray, List.set_cons_zero, List.set_cons_succ])
        refine wpAnyX_one (i := 12) rfl (by kernel_rfl) (fun K hK => ?_)
        go_simp
        refine hK.out _ _ (fun h => absurd h (by decide)) ?_
        (try simp only [Act.put, List.getElem_toArray, List.getElem_cons_zero, List.getElem_cons_succ, List.setIfInBounds_toArray, List.set_cons_zero, List.set_cons_succ])
        refine wpAnyX_done (by kernel_rfl) ?_ _
        have HRES := Lib.hid (TrO.boxed htr hMb (.slice (some ⟨g, 0, none⟩) (q + 1) N))
        have HMF := Lib.hid (hMb.on1 (.slice (some ⟨g, 0, none⟩) (q + 1) N))
        have HBF := Lib.hid (hBb.setCell (p := ⟨gx, 1, none⟩) hz1 (.slice (some ⟨g, 0, none⟩) (q + 1) N))
        clear hbf o1 o2 hv9 htr hMb hBb
        go_wp2_with fail
        go_ret
        exact ⟨0, _, rfl, ⟨best, by rw [← HKN.out]; exact HG.out, .inr (.inr (.inr (.inr ⟨HPR.out, HAG.out, HLT.out, by rw [← HD.out, ← HQD.out]; omega, rfl, p, by rw [← HD.out, ← HQD.out]; exact hpq, by rw [← HD.out]; exact HLO.out, by rw [← HD.out, ← HQD.out]; exact HHI.out, rfl⟩)))⟩, HBF.out, fun _ => ⟨cur', by rw [← HD.out, ins_len (by rw [← HQD.out]; exact hpq), ← HQD.out]; exact HMF.out, by rw [← HD.out]; exact HRES.out⟩⟩
      obtain rfl : q = p := by omega
      go_simp
      go_at_call 123
      refine (pins_end g q N w9.heap.size cuk _ _ wa (HTK.out _ hbf).bx hv9 (by omega) hcapN hszk.out rfl rfl).mono ?_
      rintro r wb ⟨rfl, hwb⟩
      obtain ⟨cur', htr⟩ := TrO.pushed (w1 := wb) (HTK.out _ hbf) (by rw [← HQD.out]; omega) (xs := xs) (ys := ys) (B1 := B1) (B2 := B2) (d1 := d1) (d2 := d2) (by rw [HLX.out]; exact o1) (by rw [HLY.out]; exact o2) (by rw [HLX.out]; exact hxm) (by rw [HLY.out]; exact hym) (by rw [← HQD.out, HLX.out, HLY.out]; exact hwb)
      have htr : TrO wb base g N cur' ((ts).take q ++ (xs, ys) :: (ts).drop q) := by rw [List.take_of_length_le (by rw [← HQD.out]; omega), List.drop_eq_nil_of_le (by rw [← HQD.out]; omega)]; exact htr
      have hBb : Below z w wb := by rw [hwb]; exact below_setRow (BWK.out.trans (hbf.mono hzk)) hz2 _
      have hMb : Bx wb gx #[.int .i64 i, .slice (some ⟨g, 0, none⟩) q N] 24 := by rw [hwb]; exact (HXK.out _ hbf).rowOther HNE.out _
      have hTb : Bx wb w.heap.size #[.slice A n c, .slice B m d] 38 := by rw [hwb]; exact ((HS.out _ hbf).1).rowOther HGN.out _
      have hSb : Bx wb w.heap.size #[.slice A n c, .slice B m d] 38 ∧ wb.cell? ⟨gx, 0, none⟩ = some (.int .i64 i) ∧ wb.cell? ⟨gx, 1, none⟩ = some (.slice (some ⟨g, 0, none⟩) q N) ∧ wb.cell? ⟨w.heap.size, 0, none⟩ = some (.slice A n c) := ⟨hTb, by have := hMb.cell 0; simpa using this, by have := hMb.cell 1; simpa using this, by have := hTb.cell 0; simpa using this⟩
      refine hK.out _ _ (fun _ _ => hSb) ?_
      clear hSb hTb
      (try simp only [Act.put, List.getElem_toArray, List.getElem_cons_zero, List.getElem_cons_succ, List.setIfInBounds_toArray, List.set_cons_zero, List.set_cons_succ])
      have kx1 := hMb.cell 1
      clear hwb
      have kf1 := hMb.free 1
      simp at kx1
      refine wpAnyX_pure (i := 10) (v := ?_) rfl (by kernel_rfl) (by kernel_rfl) (by kernel_rfl) (fun _ _ _ h => h) (Or.inl ⟨by rfl, ?_⟩) ?_
      rotate_left
      · (intro W _; go_simp; try with_reducible rfl)
      (try simp only [Act.put, List.getElem_toArray, List.getElem_cons_zero, List.getElem_cons_succ, List.setIfInBounds_toArray, List.set_cons_zero, List.set_cons_succ])
      refine wpAnyX_pure (i := 11) (v := ?_) rfl (by kernel_rfl) (by kernel_rfl) (by kernel_rfl) (fun _ _ _ h => h) (Or.inl ⟨by rfl, ?_⟩) ?_
      rotate_left
      · (intro W _; go_simp; try with_reducible rfl)
      (try simp only [Act.put, List.getElem_toArray, List.getElem_cons_zero, List.getElem_cons_succ, List.setIfInBounds_toArray, List.set_cons_zero, List.set_cons_succ])
      refine wpAnyX_one (i := 12) rfl (by kernel_rfl) (fun K hK => ?_)
      go_simp
      refine hK.out _ _ (fun h => absurd h (by decide)) ?_
      (try simp only [Act.put, List.getElem_toArray, List.getElem_cons_zero, List.getElem_cons_succ, List.setIfInBounds_toArray, List.set_cons_zero, List.set_cons_succ])
      refine wpAnyX_done (by kernel_rfl) ?_ _
      have HRES := Lib.hid (TrO.boxed htr hMb (.slice (some ⟨g, 0, none⟩) (q + 1) N))
      have HMF := Lib.hid (hMb.on1 (.slice (some ⟨g, 0, none⟩) (q + 1) N))
      have HBF := Lib.hid (hBb.setCell (p := ⟨gx, 1, none⟩) hz1 (.slice (some ⟨g, 0, none⟩) (q + 1) N))
      clear hbf o1 o2 hv9 htr hMb hBb
      go_wp2_with fail
      go_ret
      exact ⟨0, _, rfl, ⟨best, by rw [← HKN.out]; exact HG.out, .inr (.inr (.inr (.inr ⟨HPR.out, HAG.out, HLT.out, by rw [← HD.out, ← HQD.out]; omega, rfl, q, by rw [← HD.out, ← HQD.out]; exact hpq, by rw [← HD.out]; exact HLO.out, by rw [← HD.out, ← HQD.out]; exact HHI.out, rfl⟩)))⟩, HBF.out, fun _ => ⟨cur', by rw [← HD.out, ins_len (by rw [← HQD.out]; exact hpq), ← HQD.out]; exact HMF.out, by rw [← HD.out]; exact HRES.out⟩⟩
    · have ha0I : ¬ (0 : Int) < (a : Int) := by omega
      have k1' := (HMX.out _ hbf).cell 1
      simp at k1'
      have HMXf := Lib.hid (HMX.out _ hbf)
      have HMTf := Lib.hid (HMT.out _ hbf)
      have HTTf := Lib.hid (HTT.out _ hbf)
      have HXf := Lib.hid (HX.out _ hbf)
      have HYf := Lib.hid (HY.out _ hbf)
      have HDL := Lib.hid hdl
      clear trf hdel hdl hbf
      go_upto_region 11 with fail
      clear k1'
      have mxk := HMXf.out
      have mtk := HMTf.out
      have trk := HTTf.out
      have hik := HXf.out
      have hjk := HYf.out
      have BWK := Lib.hid (HBW.out)
      have HD := Lib.hid (HDL.out)
      have HQD := Lib.hid (show q = (ts).length from trkq)
      clear trkq
      have HSD := Lib.hid (InsD.srt HSS.out best (knw ts xs ts.length))
      rw [← HD.out] at HSD
      have k1 := mxk.cell 1
      simp at k1
      by_cases hlim : 10000 ≤ q
      · have hlI : (10000 : Int) ≤ (q : Int) := by omega
        clear mxk mtk trk hik hjk
        go_wp2_with fail
        go_ret
        exact ⟨11, [], rfl, ⟨best, by rw [← HKN.out]; exact HG.out, .inr (.inr (.inr (.inl ⟨HPR.out, HAG.out, HLT.out, by rw [← HD.out, ← HQD.out]; exact hlim, rfl⟩)))⟩, BWK.out, fun h => absurd h (by decide)⟩
      have hlI : ¬ (10000 : Int) ≤ (q : Int) := by omega
      have HS := Lib.hid (show ∀ W, Below w4.heap.size w4 W → Bx W w.heap.size #[.slice A n c, .slice B m d] 38 ∧ W.cell? ⟨gx, 0, none⟩ = some (.int .i64 i) ∧ W.cell? ⟨gx, 1, none⟩ = some (.slice (some ⟨g, 0, none⟩) q N) ∧ W.cell? ⟨w.heap.size, 0, none⟩ = some (.slice A n c) from fun W h => ⟨(mtk).on h, by have := ((mxk).on h).cell 0; simpa using this, by have := ((mxk).on h).cell 1; simpa using this, by have := ((mtk).on h).cell 0; simpa using this⟩)
      have HIK := Lib.hid (fun (W : World) (h : Below w4.heap.size w4 W) => hik.below h)
      have HJK := Lib.hid (fun (W : World) (h : Below w4.heap.size w4 W) => hjk.below h)
      have HTK := Lib.hid (fun (W : World) (h : Below w4.heap.size w4 W) => trk.below h)
      have HXK := Lib.hid (fun (W : World) (h : Below w4.heap.size w4 W) => mxk.on h)
      have hzk : z ≤ w4.heap.size := Nat.le_trans hz1 (Nat.le_of_lt mxk.lt)
      have hgk : g < w4.heap.size := trk.bx.lt
      have hszk := Lib.hid trk.sz
      have honek := Lib.hid trk.one
      have HNE := Lib.hid (obs_ne_trace mxk trk.bx)
      clear mxk mtk trk hik hjk
      go_upto_region 13 with fail
      have hbf : Below w4.heap.size w4 w4.drew := below_drewN (Below.refl _ _) 1
      refine wp_region_heldX (X := fun k => ([] : List Nat).contains k) (S := fun W => Bx W w.heap.size #[.slice A n c, .slice B m d] 38 ∧ W.cell? ⟨gx, 0, none⟩ = some (.int .i64 i) ∧ W.cell? ⟨gx, 1, none⟩ = some (.slice (some ⟨g, 0, none⟩) q N) ∧ W.cell? ⟨w.heap.size, 0, none⟩ = some (.slice A n c)) (by kernel_rfl) ?_
      generalize w4.drew = wkd at hbf ⊢
      refine wpAnyX_pure (i := 0) (v := ?_) rfl (by kernel_rfl) (by kernel_rfl) (by kernel_rfl) (fun _ _ _ h => h) (Or.inl ⟨by rfl, ?_⟩) ?_
      rotate_left
      · (intro W _; go_simp; try with_reducible rfl)
      (try simp only [Act.put, List.getElem_toArray, List.getElem_cons_zero, List.getElem_cons_succ, List.setIfInBounds_toArray, List.set_cons_zero, List.set_cons_succ])
      refine wpAnyX_pure (i := 1) (v := ?_) rfl (by kernel_rfl) (by kernel_rfl) (by kernel_rfl) (fun _ _ _ h => h) (Or.inl ⟨by rfl, ?_⟩) ?_
      rotate_left
      · (intro W _; go_simp; try with_reducible rfl)
      (try simp only [Act.put, List.getElem_toArray, List.getElem_cons_zero, List.getElem_cons_succ, List.setIfInBounds_toArray, List.set_cons_zero, List.set_cons_succ])
      refine wpAnyX_pure (i := 2) (v := ?_) rfl (by kernel_rfl) (by kernel_rfl) (by kernel_rfl) (fun _ _ _ h => h) (Or.inl ⟨by rfl, ?_⟩) ?_
      rotate_left
      · (intro W _; go_simp; try with_reducible rfl)
      (try simp only [Act.put, List.getElem_toArray, List.getElem_cons_zero, List.getElem_cons_succ, List.setIfInBounds_toArray, List.set_cons_zero, List.set_cons_succ])
      refine wpAnyX_takeL (L := []) (i := 3) (v := ?_) rfl (by kernel_rfl) (by kernel_rfl) (by kernel_rfl) (by kernel_rfl) (fun _ _ _ h => h) (Or.inl ⟨by rfl, ?_⟩) (HS.out _ hbf) ?_
      rotate_left
      · (intro W hSW; (try dsimp only at hSW); obtain ⟨z0, z1, z2, z3⟩ := hSW; go_simp; try with_reducible rfl)
      (try simp only [Act.put, List.getElem_toArray, List.getElem_cons_zero, List.getElem_cons_succ, List.setIfInBounds_toArray, List.set_cons_zero, List.set_cons_succ])
      refine wpAnyX_pure (i := 4) (v := ?_) rfl (by kernel_rfl) (by kernel_rfl) (by kernel_rfl) (fun _ _ _ h => h) (Or.inl ⟨by rfl, ?_⟩) ?_
      rotate_left
      · (intro W _; go_simp; try with_reducible rfl)
      (try simp only [Act.put, List.getElem_toArray, List.getElem_cons_zero, List.getElem_cons_succ, List.setIfInBounds_toArray, List.set_cons_zero, List.set_cons_succ])
      refine wpAnyX_takeL (L := []) (i := 5) (v := ?_) rfl (by kernel_rfl) (by kernel_rfl) (by kernel_rfl) (by kernel_rfl) (fun _ _ _ h => h) (Or.inl ⟨by rfl, ?_⟩) (HS.out _ hbf) ?_
      rotate_left
      · (intro W hSW; (try dsimp only at hSW); obtain ⟨z0, z1, z2, z3⟩ := hSW; go_simp; try with_reducible rfl)
      (try simp only [Act.put, List.getElem_toArray, List.getElem_cons_zero, List.getElem_cons_succ, List.setIfInBounds_toArray, List.set_cons_zero, List.set_cons_succ])
      refine wpAnyX_one (i := 6) rfl (by kernel_rfl) (fun K hK => ?_)
      go_simp
      go_at_call 103
      refine (pplace (some ⟨g, 0, none⟩) A q N n c (ts) xs _ (by rw [HQD.out]; exact (HTK.out _ hbf).trs) (HIK.out _ hbf) HSD.out).mono ?_
      rintro r w8 ⟨p, pv, rfl, hpq, HLO, HHI, b9⟩
      have hbf := bt hbf b9
      clear b9
      refine hK.out _ _ (fun _ _ => HS.out _ hbf) ?_
      (try simp only [Act.put, List.getElem_toArray, List.getElem_cons_zero, List.getElem_cons_succ, List.setIfInBounds_toArray, List.set_cons_zero, List.set_cons_succ])
      refine wpAnyX_pure (i := 7) (v := ?_) rfl (by kernel_rfl) (by kernel_rfl) (by kernel_rfl) (fun _ _ _ h => h) (Or.inl ⟨by rfl, ?_⟩) ?_
      rotate_left
      · (intro W _; go_simp; try with_reducible rfl)
      (try simp only [Act.put, List.getElem_toArray, List.getElem_cons_zero, List.getElem_cons_succ, List.setIfInBounds_toArray, List.set_cons_zero, List.set_cons_succ])
      refine wpAnyX_pure (i := 8) (v := ?_) rfl (by kernel_rfl) (by kernel_rfl) (by kernel_rfl) (fun _ _ _ h => h) (Or.inl ⟨by rfl, ?_⟩) ?_
      rotate_left
      · (intro W _; go_simp; try with_reducible rfl)
      (try simp only [Act.put, List.getElem_toArray, List.getElem_cons_zero, List.getElem_cons_succ, List.setIfInBounds_toArray, List.set_cons_zero, List.set_cons_succ])
      refine wpAnyX_pure (i := 9) (v := ?_) rfl (by kernel_rfl) (by kernel_rfl) (by kernel_rfl) (fun _ _ _ h => h) (Or.inl ⟨by rfl, ?_⟩) ?_
      rotate_left
      · (intro W _; go_simp; try with_reducible rfl)
      (try simp only [Act.put, List.getElem_toArray, List.getElem_cons_zero, List.getElem_cons_succ, List.setIfInBounds_toArray, List.set_cons_zero, List.set_cons_succ])
      refine wpAnyX_pure (i := 10) (v := ?_) rfl (by kernel_rfl) (by kernel_rfl) (by kernel_rfl) (fun _ _ _ h => h) (Or.inl ⟨by rfl, ?_⟩) ?_
      rotate_left
      · (intro W _; go_simp; try with_reducible rfl)
      (try simp only [Act.put, List.getElem_toArray, List.getElem_cons_zero, List.getElem_cons_succ, List.setIfInBounds_toArray, List.set_cons_zero, List.set_cons_succ])
      refine wpAnyX_pure (i := 11) (v := ?_) rfl (by kernel_rfl) (by kernel_rfl) (by kernel_rfl) (fun _ _ _ h => h) (Or.inl ⟨by rfl, ?_⟩) ?_
      rotate_left
      · (intro W _; go_simp; try with_reducible rfl)
      (try simp only [Act.put, List.getElem_toArray, List.getElem_cons_zero, List.getElem_cons_succ, List.setIfInBounds_toArray, List.set_cons_zero, List.set_cons_succ])
      refine wpAnyX_done (by kernel_rfl) ?_ _
      go_upto_region 14 with fail
      have hbf : Below w4.heap.size w4 w8.drew := below_drewN hbf 1
      refine wp_region_heldX (X := fun k => ([12] : List Nat).contains k) (S := fun W => Bx W w.heap.size #[.slice A n c, .slice B m d] 38 ∧ W.cell? ⟨gx, 0, none⟩ = some (.int .i64 i) ∧ W.cell? ⟨gx, 1, none⟩ = some (.slice (some ⟨g, 0, none⟩) q N) ∧ W.cell? ⟨w.heap.size, 0, none⟩ = some (.slice A n c)) (by kernel_rfl) ?_
      generalize w8.drew = wkd at hbf ⊢
      refine wpAnyX_pure (i := 0) (v := ?_) rfl (by kernel_rfl) (by kernel_rfl) (by kernel_rfl) (fun _ _ _ h => h) (Or.inl ⟨by rfl, ?_⟩) ?_
      rotate_left
      · (intro W _; go_simp; try with_reducible rfl)
      (try simp only [Act.put, List.getElem_toArray, List.getElem_cons_zero, List.getElem_cons_succ, List.setIfInBounds_toArray, List.set_cons_zero, List.set_cons_succ])
      refine wpAnyX_pure (i := 1) (v := ?_) rfl (by kernel_rfl) (by kernel_rfl) (by kernel_rfl) (fun _ _ _ h => h) (Or.inl ⟨by rfl, ?_⟩) ?_
      rotate_left
      · (intro W _; go_simp; try with_reducible rfl)
      (try simp only [Act.put, List.getElem_toArray, List.getElem_cons_zero, List.getElem_cons_succ, List.setIfInBounds_toArray, List.set_cons_zero, List.set_cons_succ])
      refine wpAnyX_pure (i := 2) (v := ?_) rfl (by kernel_rfl) (by kernel_rfl) (by kernel_rfl) (fun _ _ _ h => h) (Or.inl ⟨by rfl, ?_⟩) ?_
      rotate_left
      · (intro W _; go_simp; try with_reducible rfl)
      (try simp only [Act.put, List.getElem_toArray, List.getElem_cons_zero, List.getElem_cons_succ, List.setIfInBounds_toArray, List.set_cons_zero, List.set_cons_succ])
      refine wpAnyX_pure (i := 3) (v := ?_) rfl (by kernel_rfl) (by kernel_rfl) (by kernel_rfl) (fun _ _ _ h => h) (Or.inl ⟨by rfl, ?_⟩) ?_
      rotate_left
      · (intro W _; go_simp; try with_reducible rfl)
      (try simp only [Act.put, List.getElem_toArray, List.getElem_cons_zero, List.getElem_cons_succ, List.setIfInBounds_toArray, List.set_cons_zero, List.set_cons_succ])
      refine wpAnyX_takeL (L := [12]) (i := 4) (v := ?_) rfl (by kernel_rfl) (by kernel_rfl) (by kernel_rfl) (by kernel_rfl) (fun _ _ _ h => h) (Or.inl ⟨by rfl, ?_⟩) (HS.out _ hbf) ?_
      rotate_left
      · (intro W hSW; (try dsimp only at hSW); obtain ⟨z0, z1, z2, z3⟩ := hSW; go_simp; try with_reducible rfl)
      (try simp only [Act.put, List.getElem_toArray, List.getElem_cons_zero, List.getElem_cons_succ, List.setIfInBounds_toArray, List.set_cons_zero, List.set_cons_succ])
      refine wpAnyX_pure (i := 5) (v := ?_) rfl (by kernel_rfl) (by kernel_rfl) (by kernel_rfl) (fun _ _ _ h => h) (Or.inl ⟨by rfl, ?_⟩) ?_
      rotate_left
      · (intro W _; go_simp; try with_reducible rfl)
      (try simp only [Act.put, List.getElem_toArray, List.getElem_cons_zero, List.getElem_cons_succ, List.setIfInBounds_toArray, List.set_cons_zero, List.set_cons_succ])
      refine wpAnyX_takeL (L := [12]) (i := 6) (v := .agg (#[.slice A n c, .slice B m d])) rfl (by kernel_rfl) (by kernel_rfl) (by kernel_rfl) (by kernel_rfl) (fun _ _ _ h => h) (Or.inl ⟨by rfl, fun W hSW => run_load_bx 38 _ rfl (w.heap.size) rfl 38 (#[.slice A n c, .slice B m d]) (0, 0) _ (hSW.1) Try.underlying38 rfl (by kernel_rfl)⟩) (HS.out _ hbf) ?_
      (try simp only [Act.put, List.getElem_toArray, List.getElem_cons_zero, List.getElem_cons_succ, List.setIfInBounds_toArray, List.set_cons_zero, List.set_cons_succ])
      refine wpAnyX_one (i := 7) rfl (by kernel_rfl) (fun K hK => ?_)
      go_simp
      go_at_call 105
      refine (pcopied16 A B n c m d xs ys _ (HIK.out _ hbf) (HJK.out _ hbf)).mono ?_
      rintro r w9 ⟨B1, B2, d1, d2, rfl, o1, o2, b9⟩
      have o1 := o1.lower (base' := base) (Nat.le_trans (Nat.le_trans hbz hzk) hbf.size)
      have o2 := o2.lower (base' := base) (Nat.le_trans (Nat.le_trans hbz hzk) hbf.size)
      have hbf := bt hbf b9
      clear b9
      refine hK.out _ _ (fun _ _ => HS.out _ hbf) ?_
      (try simp only [Act.put, List.getElem_toArray, List.getElem_cons_zero, List.getElem_cons_succ, List.setIfInBounds_toArray, List.set_cons_zero, List.set_cons_succ])
      refine wpAnyX_one (i := 8) rfl (by kernel_rfl) (fun K hK => ?_)
      go_simp
      have l9 := alloc_below w9 (.cells #[.slice B1 n d1, .slice B2 m d2] 38)
      have hv9 := bx_new w9 #[.slice B1 n d1, .slice B2 m d2] 38
      obtain ⟨wa, hwa⟩ : ∃ wa, wa = w9.alloc (.cells #[.slice B1 n d1, .slice B2 m d2] 38) := ⟨_, rfl⟩
      rw [← hwa] at l9 hv9 ⊢
      have o1 := o1.kept l9
      have o2 := o2.kept l9
      have hgv : w9.heap.size ≠ g := by have := hbf.size; omega
      have hbf := bt hbf l9
      clear l9 hwa
      refine hK.out _ _ (fun _ _ => HS.out _ hbf) ?_
      (try simp only [Act.put, List.getElem_toArray, List.getElem_cons_zero, List.getElem_cons_succ, List.setIfInBounds_toArray, List.set_cons_zero, List.set_cons_succ])
      refine wpAnyX_one (i := 9) rfl (by kernel_rfl) (fun K hK => ?_)
      by_cases hpe : p < q
      · go_simp
        go_at_call 123
        refine (pins_shift g q N p w9.heap.size cuk _ _ wa (HTK.out _ hbf).bx hv9 hgv (by omega) (by omega) hcapN hszk.out honek.out rfl rfl).mono ?_
        rintro r wb ⟨rfl, hwb⟩
        obtain ⟨cur', htr⟩ := TrO.shifted (w1 := wb) (HTK.out _ hbf) (p := p) (by rw [← HQD.out]; exact hpq) (by rw [← HQD.out]; omega) (xs := xs) (ys := ys) (B1 := B1) (B2 := B2) (d1 := d1) (d2 := d2) (by rw [HLX.out]; exact o1) (by rw [HLY.out]; exact o2) (by rw [HLX.out]; exact hxm) (by rw [HLY.out]; exact hym) (by rw [← HQD.out, HLX.out, HLY.out]; exact hwb)
        have hBb : Below z w wb := by rw [hwb]; exact below_cells (below_cells (below_drewN (BWK.out.trans (hbf.mono hzk)) 1) hz2 _ _) hz2 _ _
        have hMb : Bx wb gx #[.int .i64 i, .slice (some ⟨g, 0, none⟩) q N] 24 := by rw [hwb]; exact bx_cells (bx_cells ((HXK.out _ hbf).drewN 1) HNE.out _ _) HNE.out _ _
        have hTb : Bx wb w.heap.size #[.slice A n c, .slice B m d] 38 := by rw [hwb]; exact bx_cells (bx_cells (((HS.out _ hbf).1).drewN 1) HGN.out _ _) HGN.out _ _
        have hSb : Bx wb w.heap.size #[.slice A n c, .slice B m d] 38 ∧ wb.cell? ⟨gx, 0, none⟩ = some (.int .i64 i) ∧ wb.cell? ⟨gx, 1, none⟩ = some (.slice (some ⟨g, 0, none⟩) q N) ∧ wb.cell? ⟨w.heap.size, 0, none⟩ = some (.slice A n c) := ⟨hTb, by have := hMb.cell 0; simpa using this, by have := hMb.cell 1; simpa using this, by have := hTb.cell 0; simpa using this⟩
        refine hK.out _ _ (fun _ _ => hSb) ?_
        clear hSb hTb
        (try simp only [Act.put, List.getElem_toArray, List.getElem_cons_zero, List.getElem_cons_succ, List.setIfInBounds_toArray, List.set_cons_zero, List.set_cons_succ])
        have kx1 := hMb.cell 1
        clear hwb
        have kf1 := hMb.free 1
        simp at kx1
        refine wpAnyX_pure (i := 10) (v := ?_) rfl (by kernel_rfl) (by kernel_rfl) (by kernel_rfl) (fun _ _ _ h => h) (Or.inl ⟨by rfl, ?_⟩) ?_
        rotate_left
        · (intro W _; go_simp; try with_reducible rfl)
        (try simp only [Act.put, List.getElem_toArray, List.getElem_cons_zero, List.getElem_cons_succ, List.setIfInBounds_toArray, List.set_cons_zero, List.set_cons_succ])
        refine wpAnyX_pure (i := 11) (v := ?_) rfl (by kernel_rfl) (by kernel_rfl) (by kernel_rfl) (fun _ _ _ h => h) (Or.inl ⟨by rfl, ?_⟩) ?_
        rotate_left
        · (intro W _; go_simp; try with_reducible rfl)
        (try simp only [Act.put, List.getElem_toArray, List.getElem_cons_zero, List.getElem_cons_succ, List.setIfInBounds_toArray, List.set_cons_zero, List.set_cons_succ])
        refine wpAnyX_one (i := 12) rfl (by kernel_rfl) (fun K hK => ?_)
        go_simp
        refine hK.out _ _ (fun h => absurd h (by decide)) ?_
        (try simp only [Act.put, List.getElem_toArray, List.getElem_cons_zero, List.getElem_cons_succ, List.setIfInBounds_toArray, List.set_cons_zero, List.set_cons_succ])
        refine wpAnyX_done (by kernel_rfl) ?_ _
        have HRES := Lib.hid (TrO.boxed htr hMb (.slice (some ⟨g, 0, none⟩) (q + 1) N))
        have HMF := Lib.hid (hMb.on1 (.slice (some ⟨g, 0, none⟩) (q + 1) N))
        have HBF := Lib.hid (hBb.setCell (p := ⟨gx, 1, none⟩) hz1 (.slice (some ⟨g, 0, none⟩) (q + 1) N))
        clear hbf o1 o2 hv9 htr hMb hBb
        go_wp2_with fail
        go_ret
        exact ⟨0, _, rfl, ⟨best, by rw [← HKN.out]; exact HG.out, .inr (.inr (.inr (.inr ⟨HPR.out, HAG.out, HLT.out, by rw [← HD.out, ← HQD.out]; omega, rfl, p, by rw [← HD.out, ← HQD.out]; exact hpq, by rw [← HD.out]; exact HLO.out, by rw [← HD.out, ← HQD.out]; exact HHI.out, rfl⟩)))⟩, HBF.out, fun _ => ⟨cur', by rw [← HD.out, ins_len (by rw [← HQD.out]; exact hpq), ← HQD.out]; exact HMF.out, by rw [← HD.out]; exact HRES.out⟩⟩
      obtain rfl : q = p := by omega
      go_simp
      go_at_call 123
      refine (pins_end g q N w9.heap.size cuk _ _ wa (HTK.out _ hbf).bx hv9 (by omega) hcapN hszk.out rfl rfl).mono ?_
      rintro r wb ⟨rfl, hwb⟩
      obtain ⟨cur', htr⟩ := TrO.pushed (w1 := wb) (HTK.out _ hbf) (by rw [← HQD.out]; omega) (xs := xs) (ys := ys) (B1 := B1) (B2 := B2) (d1 := d1) (d2 := d2) (by rw [HLX.out]; exact o1) (by rw [HLY.out]; exact o2) (by rw [HLX.out]; exact hxm) (by rw [HLY.out]; exact hym) (by rw [← HQD.out, HLX.out, HLY.out]; exact hwb)
      have htr : TrO wb base g N cur' ((ts).take q ++ (xs, ys) :: (ts).drop q) := by rw [List.take_of_length_le (by rw [← HQD.out]; omega), List.drop_eq_nil_of_le (by rw [← HQD.out]; omega)]; exact htr
      have hBb : Below z w wb := by rw [hwb]; exact below_setRow (BWK.out.trans (hbf.mono hzk)) hz2 _
      have hMb : Bx wb gx #[.int .i64 i, .slice (some ⟨g, 0, none⟩) q N] 24 := by rw [hwb]; exact (HXK.out _ hbf).rowOther HNE.out _
      have hTb : Bx wb w.heap.size #[.slice A n c, .slice B m d] 38 := by rw [hwb]; exact ((HS.out _ hbf).1).rowOther HGN.out _
      have hSb : Bx wb w.heap.size #[.slice A n c, .slice B m d] 38 ∧ wb.cell? ⟨gx, 0, none⟩ = some (.int .i64 i) ∧ wb.cell? ⟨gx, 1, none⟩ = some (.slice (some ⟨g, 0, none⟩) q N) ∧ wb.cell? ⟨w.heap.size, 0, none⟩ = some (.slice A n c) := ⟨hTb, by have := hMb.cell 0; simpa using this, by have := hMb.cell 1; simpa using this, by have := hTb.cell 0; simpa using this⟩
      refine hK.out _ _ (fun _ _ => hSb) ?_
      clear hSb hTb
      (try simp only [Act.put, List.getElem_toArray, List.getElem_cons_zero, List.getElem_cons_succ, List.setIfInBounds_toArray, List.set_cons_zero, List.set_cons_succ])
      have kx1 := hMb.cell 1
      clear hwb
      have kf1 := hMb.free 1
      simp at kx1
      refine wpAnyX_pure (i := 10) (v := ?_) rfl (by kernel_rfl) (by kernel_rfl) (by kernel_rfl) (fun _ _ _ h => h) (Or.inl ⟨by rfl, ?_⟩) ?_
      rotate_left
      · (intro W _; go_simp; try with_reducible rfl)
      (try simp only [Act.put, List.getElem_toArray, List.getElem_cons_zero, List.getElem_cons_succ, List.setIfInBounds_toArray, List.set_cons_zero, List.set_cons_succ])
      refine wpAnyX_pure (i := 11) (v := ?_) rfl (by kernel_rfl) (by kernel_rfl) (by kernel_rfl) (fun _ _ _ h => h) (Or.inl ⟨by rfl, ?_⟩) ?_
      rotate_left
      · (intro W _; go_simp; try with_reducible rfl)
      (try simp only [Act.put, List.getElem_toArray, List.getElem_cons_zero, List.getElem_cons_succ, List.setIfInBounds_toArray, List.set_cons_zero, List.set_cons_succ])
      refine wpAnyX_one (i := 12) rfl (by kernel_rfl) (fun K hK => ?_)
      go_simp
      refine hK.out _ _ (fun h => absurd h (by decide)) ?_
      (try simp only [Act.put, List.getElem_toArray, List.getElem_cons_zero, List.getElem_cons_succ, List.setIfInBounds_toArray, List.set_cons_zero, List.set_cons_succ])
      refine wpAnyX_done (by kernel_rfl) ?_ _
      have HRES := Lib.hid (TrO.boxed htr hMb (.slice (some ⟨g, 0, none⟩) (q + 1) N))
      have HMF := Lib.hid (hMb.on1 (.slice (some ⟨g, 0, none⟩) (q + 1) N))
      have HBF := Lib.hid (hBb.setCell (p := ⟨gx, 1, none⟩) hz1 (.slice (some ⟨g, 0, none⟩) (q + 1) N))
      clear hbf o1 o2 hv9 htr hMb hBb
      go_wp2_with fail
      go_ret
      exact ⟨0, _, rfl, ⟨best, by rw [← HKN.out]; exact HG.out, .inr (.inr (.inr (.inr ⟨HPR.out, HAG.out, HLT.out, by rw [← HD.out, ← HQD.out]; omega, rfl, q, by rw [← HD.out, ← HQD.out]; exact hpq, by rw [← HD.out]; exact HLO.out, by rw [← HD.out, ← HQD.out]; exact HHI.out, rfl⟩)))⟩, HBF.out, fun _ => ⟨cur', by rw [← HD.out, ins_len (by rw [← HQD.out]; exact hpq), ← HQD.out]; exact HMF.out, by rw [← HD.out]; exact HRES.out⟩⟩
  obtain ⟨ha0, hal2⟩ := hdel
  have hbq : best < q := (HBB.out ha0).1
  obtain ⟨qd, rfl⟩ : ∃ qd, q = qd + 1 := ⟨q - 1, by omega⟩
  obtain ⟨dd, hdd⟩ : ∃ dd, dd = ts.eraseIdx best := ⟨_, rfl⟩
  have HDL := Lib.hid (show dd = InsD ts best (knw ts xs ts.length) by rw [hdd]; unfold InsD; rw [← HKN.out, if_pos ⟨ha0, hal2⟩])
  have HDD := Lib.hid hdd
  clear hdd
  have trf := HTT.out _ hbf
  obtain ⟨A1, q1, A2, q2, e1, e2, p1, p2⟩ := trf.hd best (by rw [← HQ.out]; exact hbq)
  have ha0I : (0 : Int) < (a : Int) := by omega
  have hbI : (best : Int) < ((qd + 1 : Nat) : Int) := by omega
  have hbI0 : (0 : Int) ≤ (best : Int) := by omega
  have heqL : ((a : Int) == ((tIn ts best).length : Int)) = true := by simp; omega
  have kb : w4.cell? ⟨g, best * 2, none⟩ = some (.slice A1 (tIn ts best).length q1) := by rw [trf.bx.cell]; exact e1
  have k1' := (HMX.out _ hbf).cell 1
  simp at k1'
  have HDE := Lib.hid (pdel16 g (qd + 1) N best cur w4 trf.bx hbq (by omega) hcapN trf.sz trf.one)
  have HMXf := Lib.hid (HMX.out _ hbf)
  have HMTf := Lib.hid (HMT.out _ hbf)
  have HTTf := Lib.hid (HTT.out _ hbf)
  have HALE := Lib.hid hal2
  have HBQ := Lib.hid hbq
  have wb1 : IntKind.i64.wrap ((best : Int) + 1) = ((best + 1 : Nat) : Int) := by rw [IntKind.wrap_i64]; omega
  clear e1 e2 p1 p2 trf hal2 hbf
  go_wp2_with fail
  refine HDE.out.mono ?_
  rintro r w5 ⟨rfl, hw5⟩
  obtain ⟨cuk, trd⟩ := TrO.deleted (w1 := w5) HTTf.out (p := best) (by rw [← HQ.out]; exact HBQ.out) (by rw [← HQ.out]; exact hw5)
  rw [← HDD.out] at trd
  have hM5 : Bx w5 gx #[.int .i64 i, .slice (some ⟨g, 0, none⟩) (qd + 1) N] 24 := by rw [hw5]; exact bx_cells (bx_cells (HMXf.out.drewN 1) (obs_ne_trace HMXf.out HTTf.out.bx) _ _) (obs_ne_trace HMXf.out HTTf.out.bx) _ _
  have hT5 : Bx w5 w.heap.size #[.slice A n c, .slice B m d] 38 := by rw [hw5]; exact bx_cells (bx_cells (HMTf.out.drewN 1) HGN.out _ _) HGN.out _ _
  have hB5 : Below z w w5 := by rw [hw5]; exact below_cells (below_cells (below_drewN HBW.out 1) hz2 _ _) hz2 _ _
  have hM6 := hM5.on1 (.slice (some ⟨g, 0, none⟩) qd N)
  have hT6 := hT5.other (k := 1) HGX.out (.slice (some ⟨g, 0, none⟩) qd N)
  have hB6 := hB5.setCell (p := ⟨gx, 1, none⟩) hz1 (.slice (some ⟨g, 0, none⟩) qd N)
  have trd6 := trd.boxed hM5 (.slice (some ⟨g, 0, none⟩) qd N)
  obtain ⟨w6, hw6⟩ : ∃ w6, w6 = w5.setCell ⟨gx, 1, none⟩ (.slice (some ⟨g, 0, none⟩) qd N) := ⟨_, rfl⟩
  rw [← hw6] at hM6 hT6 hB6 trd6
  have trkq : qd = dd.length := by rw [HDD.out, List.length_eraseIdx, if_pos (by rw [← HQ.out]; exact HBQ.out), ← HQ.out]; rfl
  have HM6 := Lib.hid hM6
  have HT6 := Lib.hid hT6
  have HB6 := Lib.hid hB6
  have HTD6 := Lib.hid trd6
  have HW6 := Lib.hid hw6
  have HTRK := Lib.hid trkq
  have HXf := Lib.hid (HXZ.out _ hB6)
  have HYf := Lib.hid (HYZ.out _ hB6)
  have kx5 := hM5.cell 1
  have kf5 := hM5.free 1
  simp at kx5
  have hq1 : qd + 1 - 1 = qd := by omega
  rw [hq1]
  have hroom' : qd + 1 ≤ N := by omega
  clear hM6 hT6 hB6 trd6 hM5 hT5 hB5 hw6 hw5 trd trkq hq1 kb heqL hroom k0 k1'
  go_upto_region 11 with fail
  rw [← HW6.out]
  clear kx5 kf5
  have trkq := HTRK.out
  have mxk := HM6.out
  have mtk := HT6.out
  have trk := HTD6.out
  have hik := HXf.out
  have hjk := HYf.out
  have BWK := Lib.hid (HB6.out)
  have HD := Lib.hid (HDL.out)
  have HQD := Lib.hid (show qd = (dd).length from trkq)
  clear trkq
  have HSD := Lib.hid (InsD.srt HSS.out best (knw ts xs ts.length))
  rw [← HD.out] at HSD
  have k1 := mxk.cell 1
  simp at k1
  by_cases hlim : 10000 ≤ qd
  · have hlI : (10000 : Int) ≤ (qd : Int) := by omega
    clear mxk mtk trk hik hjk
    go_wp2_with fail
    go_ret
    exact ⟨11, [], rfl, ⟨best, by rw [← HKN.out]; exact HG.out, .inr (.inr (.inr (.inl ⟨HPR.out, HAG.out, HLT.out, by rw [← HD.out, ← HQD.out]; exact hlim, rfl⟩)))⟩, BWK.out, fun h => absurd h (by decide)⟩
  have hlI : ¬ (10000 : Int) ≤ (qd : Int) := by omega
  have HS := Lib.hid (show ∀ W, Below w6.heap.size w6 W → Bx W w.heap.size #[.slice A n c, .slice B m d] 38 ∧ W.cell? ⟨gx, 0, none⟩ = some (.int .i64 i) ∧ W.cell? ⟨gx, 1, none⟩ = some (.slice (some ⟨g, 0, none⟩) qd N) ∧ W.cell? ⟨w.heap.size, 0, none⟩ = some (.slice A n c) from fun W h => ⟨(mtk).on h, by have := ((mxk).on h).cell 0; simpa using this, by have := ((mxk).on h).cell 1; simpa using this, by have := ((mtk).on h).cell 0; simpa using this⟩)
  have HIK := Lib.hid (fun (W : World) (h : Below w6.heap.size w6 W) => hik.below h)
  have HJK := Lib.hid (fun (W : World) (h : Below w6.heap.size w6 W) => hjk.below h)
  have HTK := Lib.hid (fun (W : World) (h : Below w6.heap.size w6 W) => trk.below h)
  have HXK := Lib.hid (fun (W : World) (h : Below w6.heap.size w6 W) => mxk.on h)
  have hzk : z ≤ w6.heap.size := Nat.le_trans hz1 (Nat.le_of_lt mxk.lt)
  have hgk : g < w6.heap.size := trk.bx.lt
  have hszk := Lib.hid trk.sz
  have honek := Lib.hid trk.one
  have HNE := Lib.hid (obs_ne_trace mxk trk.bx)
  clear mxk mtk trk hik hjk
  go_upto_region 13 with fail
  have hbf : Below w6.heap.size w6 w6.drew := below_drewN (Below.refl _ _) 1
  refine wp_region_heldX (X := fun k => ([] : List Nat).contains k) (S := fun W => Bx W w.heap.size #[.slice A n c, .slice B m d] 38 ∧ W.cell? ⟨gx, 0, none⟩ = some (.int .i64 i) ∧ W.cell? ⟨gx, 1, none⟩ = some (.slice (some ⟨g, 0, none⟩) qd N) ∧ W.cell? ⟨w.heap.size, 0, none⟩ = some (.slice A n c)) (by kernel_rfl) ?_
  generalize w6.drew = wkd at hbf ⊢
  refine wpAnyX_pure (i := 0) (v := ?_) rfl (by kernel_rfl) (by kernel_rfl) (by kernel_rfl) (fun _ _ _ h => h) (Or.inl ⟨by rfl, ?_⟩) ?_
  rotate_left
  · (intro W _; go_simp; try with_reducible rfl)
  (try simp only [Act.put, List.getElem_toArray, List.getElem_cons_zero, List.getElem_cons_succ, List.setIfInBounds_toArray, List.set_cons_zero, List.set_cons_succ])
  refine wpAnyX_pure (i := 1) (v := ?_) rfl (by kernel_rfl) (by kernel_rfl) (by kernel_rfl) (fun _ _ _ h => h) (Or.inl ⟨by rfl, ?_⟩) ?_
  rotate_left
  · (intro W _; go_simp; try with_reducible rfl)
  (try simp only [Act.put, List.getElem_toArray, List.getElem_cons_zero, List.getElem_cons_succ, List.setIfInBounds_toArray, List.set_cons_zero, List.set_cons_succ])
  refine wpAnyX_pure (i := 2) (v := ?_) rfl (by kernel_rfl) (by kernel_rfl) (by kernel_rfl) (fun _ _ _ h => h) (Or.inl ⟨by rfl, ?_⟩) ?_
  rotate_left
  · (intro W _; go_simp; try with_reducible rfl)
  (try simp only [Act.put, List.getElem_toArray, List.getElem_cons_zero, List.getElem_cons_succ, List.setIfInBounds_toArray, List.set_cons_zero, List.set_cons_succ])
  refine wpAnyX_takeL (L := []) (i := 3) (v := ?_) rfl (by kernel_rfl) (by kernel_rfl) (by kernel_rfl) (by kernel_rfl) (fun _ _ _ h => h) (Or.inl ⟨by rfl, ?_⟩) (HS.out _ hbf) ?_
  rotate_left
  · (intro W hSW; (try dsimp only at hSW); obtain ⟨z0, z1, z2, z3⟩ := hSW; go_simp; try with_reducible rfl)
  (try simp only [Act.put, List.getElem_toArray, List.getElem_cons_zero, List.getElem_cons_succ, List.setIfInBounds_toArray, List.set_cons_zero, List.set_cons_succ])
  refine wpAnyX_pure (i := 4) (v := ?_) rfl (by kernel_rfl) (by kernel_rfl) (by kernel_rfl) (fun _ _ _ h => h) (Or.inl ⟨by rfl, ?_⟩) ?_
  rotate_left
  · (intro W _; go_simp; try with_reducible rfl)
  (try simp only [Act.put, List.getElem_toArray, List.getElem_cons_zero, List.getElem_cons_succ, List.setIfInBounds_toArray, List.set_cons_zero, List.set_cons_succ])
  refine wpAnyX_takeL (L := []) (i := 5) (v := ?_) rfl (by kernel_rfl) (by kernel_rfl) (by kernel_rfl) (by kernel_rfl) (fun _ _ _ h => h) (Or.inl ⟨by rfl, ?_⟩) (HS.out _ hbf) ?_
  rotate_left
  · (intro W hSW; (try dsimp only at hSW); obtain ⟨z0, z1, z2, z3⟩ := hSW; go_simp; try with_reducible rfl)
  (try simp only [Act.put, List.getElem_toArray, List.getElem_cons_zero, List.getElem_cons_succ, List.setIfInBounds_toArray, List.set_cons_zero, List.set_cons_succ])
  refine wpAnyX_one (i := 6) rfl (by kernel_rfl) (fun K hK => ?_)
  go_simp
  go_at_call 103
  refine (pplace (some ⟨g, 0, none⟩) A qd N n c (dd) xs _ (by rw [HQD.out]; exact (HTK.out _ hbf).trs) (HIK.out _ hbf) HSD.out).mono ?_
  rintro r w8 ⟨p, pv, rfl, hpq, HLO, HHI, b9⟩
  have hbf := bt hbf b9
  clear b9
  refine hK.out _ _ (fun _ _ => HS.out _ hbf) ?_
  (try simp only [Act.put, List.getElem_toArray, List.getElem_cons_zero, List.getElem_cons_succ, List.setIfInBounds_toArray, List.set_cons_zero, List.set_cons_succ])
  refine wpAnyX_pure (i := 7) (v := ?_) rfl (by kernel_rfl) (by kernel_rfl) (by kernel_rfl) (fun _ _ _ h => h) (Or.inl ⟨by rfl, ?_⟩) ?_
  rotate_left
  · (intro W _; go_simp; try with_reducible rfl)
  (try simp only [Act.put, List.getElem_toArray, List.getElem_cons_zero, List.getElem_cons_succ, List.setIfInBounds_toArray, List.set_cons_zero, List.set_cons_succ])
  refine wpAnyX_pure (i := 8) (v := ?_) rfl (by kernel_rfl) (by kernel_rfl) (by kernel_rfl) (fun _ _ _ h => h) (Or.inl ⟨by rfl, ?_⟩) ?_
  rotate_left
  · (intro W _; go_simp; try with_reducible rfl)
  (try simp only [Act.put, List.getElem_toArray, List.getElem_cons_zero, List.getElem_cons_succ, List.setIfInBounds_toArray, List.set_cons_zero, List.set_cons_succ])
  refine wpAnyX_pure (i := 9) (v := ?_) rfl (by kernel_rfl) (by kernel_rfl) (by kernel_rfl) (fun _ _ _ h => h) (Or.inl ⟨by rfl, ?_⟩) ?_
  rotate_left
  · (intro W _; go_simp; try with_reducible rfl)
  (try simp only [Act.put, List.getElem_toArray, List.getElem_cons_zero, List.getElem_cons_succ, List.setIfInBounds_toArray, List.set_cons_zero, List.set_cons_succ])
  refine wpAnyX_pure (i := 10) (v := ?_) rfl (by kernel_rfl) (by kernel_rfl) (by kernel_rfl) (fun _ _ _ h => h) (Or.inl ⟨by rfl, ?_⟩) ?_
  rotate_left
  · (intro W _; go_simp; try with_reducible rfl)
  (try simp only [Act.put, List.getElem_toArray, List.getElem_cons_zero, List.getElem_cons_succ, List.setIfInBounds_toArray, List.set_cons_zero, List.set_cons_succ])
  refine wpAnyX_pure (i := 11) (v := ?_) rfl (by kernel_rfl) (by kernel_rfl) (by kernel_rfl) (fun _ _ _ h => h) (Or.inl ⟨by rfl, ?_⟩) ?_
  rotate_left
  · (intro W _; go_simp; try with_reducible rfl)
  (try simp only [Act.put, List.getElem_toArray, List.getElem_cons_zero, List.getElem_cons_succ, List.setIfInBounds_toArray, List.set_cons_zero, List.set_cons_succ])
  refine wpAnyX_done (by kernel_rfl) ?_ _
  go_upto_region 14 with fail
  have hbf : Below w6.heap.size w6 w8.drew := below_drewN hbf 1
  refine wp_region_heldX (X := fun k => ([12] : List Nat).contains k) (S := fun W => Bx W w.heap.size #[.slice A n c, .slice B m d] 38 ∧ W.cell? ⟨gx, 0, none⟩ = some (.int .i64 i) ∧ W.cell? ⟨gx, 1, none⟩ = some (.slice (some ⟨g, 0, none⟩) qd N) ∧ W.cell? ⟨w.heap.size, 0, none⟩ = some (.slice A n c)) (by kernel_rfl) ?_
  generalize w8.drew = wkd at hbf ⊢
  refine wpAnyX_pure (i := 0) (v := ?_) rfl (by kernel_rfl) (by kernel_rfl) (by kernel_rfl) (fun _ _ _ h => h) (Or.inl ⟨by rfl, ?_⟩) ?_
  rotate_left
  · (intro W _; go_simp; try with_reducible rfl)
  (try simp only [Act.put, List.getElem_toArray, List.getElem_cons_zero, List.getElem_cons_succ, List.setIfInBounds_toArray, List.set_cons_zero, List.set_cons_succ])
  refine wpAnyX_pure (i := 1) (v := ?_) rfl (by kernel_rfl) (by kernel_rfl) (by kernel_rfl) (fun _ _ _ h => h) (Or.inl ⟨by rfl, ?_⟩) ?_
  rotate_left
  · (intro W _; go_simp; try with_reducible rfl)
  (try simp only [Act.put, List.getElem_toArray, List.getElem_cons_zero, List.getElem_cons_succ, List.setIfInBounds_toArray, List.set_cons_zero, List.set_cons_succ])
  refine wpAnyX_pure (i := 2) (v := ?_) rfl (by kernel_rfl) (by kernel_rfl) (by kernel_rfl) (fun _ _ _ h => h) (Or.inl ⟨by rfl, ?_⟩) ?_
  rotate_left
  · (intro W _; go_simp; try with_reducible rfl)
  (try simp only [Act.put, List.getElem_toArray, List.getElem_cons_zero, List.getElem_cons_succ, List.setIfInBounds_toArray, List.set_cons_zero, List.set_cons_succ])
  refine wpAnyX_pure (i := 3) (v := ?_) rfl (by kernel_rfl) (by kernel_rfl) (by kernel_rfl) (fun _ _ _ h => h) (Or.inl ⟨by rfl, ?_⟩) ?_
  rotate_left
  · (intro W _; go_simp; try with_reducible rfl)
  (try simp only [Act.put, List.getElem_toArray, List.getElem_cons_zero, List.getElem_cons_succ, List.setIfInBounds_toArray, List.set_cons_zero, List.set_cons_succ])
  refine wpAnyX_takeL (L := [12]) (i := 4) (v := ?_) rfl (by kernel_rfl) (by kernel_rfl) (by kernel_rfl) (by kernel_rfl) (fun _ _ _ h => h) (Or.inl ⟨by rfl, ?_⟩) (HS.out _ hbf) ?_
  rotate_left
  · (intro W hSW; (try dsimp only at hSW); obtain ⟨z0, z1, z2, z3⟩ := hSW; go_simp; try with_reducible rfl)
  (try simp only [Act.put, List.getElem_toArray, List.getElem_cons_zero, List.getElem_cons_succ, List.setIfInBounds_toArray, List.set_cons_zero, List.set_cons_succ])
  refine wpAnyX_pure (i := 5) (v := ?_) rfl (by kernel_rfl) (by kernel_rfl) (by kernel_rfl) (fun _ _ _ h => h) (Or.inl ⟨by rfl, ?_⟩) ?_
  rotate_left
  · (intro W _; go_simp; try with_reducible rfl)
  (try simp only [Act.put, List.getElem_toArray, List.getElem_cons_zero, List.getElem_cons_succ, List.setIfInBounds_toArray, List.set_cons_zero, List.set_cons_succ])
  refine wpAnyX_takeL (L := [12]) (i := 6) (v := .agg (#[.slice A n c, .slice B m d])) rfl (by kernel_rfl) (by kernel_rfl) (by kernel_rfl) (by kernel_rfl) (fun _ _ _ h => h) (Or.inl ⟨by rfl, fun W hSW => run_load_bx 38 _ rfl (w.heap.size) rfl 38 (#[.slice A n c, .slice B m d]) (0, 0) _ (hSW.1) Try.underlying38 rfl (by kernel_rfl)⟩) (HS.out _ hbf) ?_
  (try simp only [Act.put, List.getElem_toArray, List.getElem_cons_zero, List.getElem_cons_succ, List.setIfInBounds_toArray, List.set_cons_zero, List.set_cons_succ])
  refine wpAnyX_one (i := 7) rfl (by kernel_rfl) (fun K hK => ?_)
  go_simp
  go_at_call 105
  refine (pcopied16 A B n c m d xs ys _ (HIK.out _ hbf) (HJK.out _ hbf)).mono ?_
  rintro r w9 ⟨B1, B2, d1, d2, rfl, o1, o2, b9⟩
  have o1 := o1.lower (base' := base) (Nat.le_trans (Nat.le_trans hbz hzk) hbf.size)
  have o2 := o2.lower (base' := base) (Nat.le_trans (Nat.le_trans hbz hzk) hbf.size)
  have hbf := bt hbf b9
  clear b9
  refine hK.out _ _ (fun _ _ => HS.out _ hbf) ?_
  (try simp only [Act.put, List.getElem_toArray, List.getElem_cons_zero, List.getElem_cons_succ, List.setIfInBounds_toArray, List.set_cons_zero, List.set_cons_succ])
  refine wpAnyX_one (i := 8) rfl (by kernel_rfl) (fun K hK => ?_)
  go_simp
  have l9 := alloc_below w9 (.cells #[.slice B1 n d1, .slice B2 m d2] 38)
  have hv9 := bx_new w9 #[.slice B1 n d1, .slice B2 m d2] 38
  obtain ⟨wa, hwa⟩ : ∃ wa, wa = w9.alloc (.cells #[.slice B1 n d1, .slice B2 m d2] 38) := ⟨_, rfl⟩
  rw [← hwa] at l9 hv9 ⊢
  have o1 := o1.kept l9
  have o2 := o2.kept l9
  have hgv : w9.heap.size ≠ g := by have := hbf.size; omega
  have hbf := bt hbf l9
  clear l9 hwa
  refine hK.out _ _ (fun _ _ => HS.out _ hbf) ?_
  (try simp only [Act.put, List.getElem_toArray, List.getElem_cons_zero, List.getElem_cons_succ, List.setIfInBounds_toArray, List.set_cons_zero, List.set_cons_succ])
  refine wpAnyX_one (i := 9) rfl (by kernel_rfl) (fun K hK => ?_)
  by_cases hpe : p < qd
  · go_simp
    go_at_call 123
    refine (pins_shift g qd N p w9.heap.size cuk _ _ wa (HTK.out _ hbf).bx hv9 hgv (by omega) (by omega) hcapN hszk.out honek.out rfl rfl).mono ?_
    rintro r wb ⟨rfl, hwb⟩
    obtain ⟨cur', htr⟩ := TrO.shifted (w1 := wb) (HTK.out _ hbf) (p := p) (by rw [← HQD.out]; exact hpq) (by rw [← HQD.out]; omega) (xs := xs) (ys := ys) (B1 := B1) (B2 := B2) (d1 := d1) (d2 := d2) (by rw [HLX.out]; exact o1) (by rw [HLY.out]; exact o2) (by rw [HLX.out]; exact hxm) (by rw [HLY.out]; exact hym) (by rw [← HQD.out, HLX.out, HLY.out]; exact hwb)
    have hBb : Below z w wb := by rw [hwb]; exact below_cells (below_cells (below_drewN (BWK.out.trans (hbf.mono hzk)) 1) hz2 _ _) hz2 _ _
    have hMb : Bx wb gx #[.int .i64 i, .slice (some ⟨g, 0, none⟩) qd N] 24 := by rw [hwb]; exact bx_cells (bx_cells ((HXK.out _ hbf).drewN 1) HNE.out _ _) HNE.out _ _
    have hTb : Bx wb w.heap.size #[.slice A n c, .slice B m d] 38 := by rw [hwb]; exact bx_cells (bx_cells (((HS.out _ hbf).1).drewN 1) HGN.out _ _) HGN.out _ _
    have hSb : Bx wb w.heap.size #[.slice A n c, .slice B m d] 38 ∧ wb.cell? ⟨gx, 0, none⟩ = some (.int .i64 i) ∧ wb.cell? ⟨gx, 1, none⟩ = some (.slice (some ⟨g, 0, none⟩) qd N) ∧ wb.cell? ⟨w.heap.size, 0, none⟩ = some (.slice A n c) := ⟨hTb, by have := hMb.cell 0; simpa using this, by have := hMb.cell 1; simpa using this, by have := hTb.cell 0; simpa using this⟩
    refine hK.out _ _ (fun _ _ => hSb) ?_
    clear hSb hTb
    (try simp only [Act.put, List.getElem_toArray, List.getElem_cons_zero, List.getElem_cons_succ, List.setIfInBounds_toArray, List.set_cons_zero, List.set_cons_succ])
    have kx1 := hMb.cell 1
    clear hwb
    have kf1 := hMb.free 1
    simp at kx1
    refine wpAnyX_pure (i := 10) (v := ?_) rfl (by kernel_rfl) (by kernel_rfl) (by kernel_rfl) (fun _ _ _ h => h) (Or.inl ⟨by rfl, ?_⟩) ?_
    rotate_left
    · (intro W _; go_simp; try with_reducible rfl)
    (try simp only [Act.put, List.getElem_toArray, List.getElem_cons_zero, List.getElem_cons_succ, List.setIfInBounds_toArray, List.set_cons_zero, List.set_cons_succ])
    refine wpAnyX_pure (i := 11) (v := ?_) rfl (by kernel_rfl) (by kernel_rfl) (by kernel_rfl) (fun _ _ _ h => h) (Or.inl ⟨by rfl, ?_⟩) ?_
    rotate_left
    · (intro W _; go_simp; try with_reducible rfl)
    (try simp only [Act.put, List.getElem_toArray, List.getElem_cons_zero, List.getElem_cons_succ, List.setIfInBounds_toArray, List.set_cons_zero, List.set_cons_succ])
    refine wpAnyX_one (i := 12) rfl (by kernel_rfl) (fun K hK => ?_)
    go_simp
    refine hK.out _ _ (fun h => absurd h (by decide)) ?_
    (try simp only [Act.put, List.getElem_toArray, List.getElem_cons_zero, List.getElem_cons_succ, List.setIfInBounds_toArray, List.set_cons_zero, List.set_cons_succ])
    refine wpAnyX_done (by kernel_rfl) ?_ _
    have HRES := Lib.hid (TrO.boxed htr hMb (.slice (some ⟨g, 0, none⟩) (qd + 1) N))
    have HMF := Lib.hid (hMb.on1 (.slice (some ⟨g, 0, none⟩) (qd + 1) N))
    have HBF := Lib.hid (hBb.setCell (p := ⟨gx, 1, none⟩) hz1 (.slice (some ⟨g, 0, none⟩) (qd + 1) N))
    clear hbf o1 o2 hv9 htr hMb hBb
    go_wp2_with fail
    go_ret
    exact ⟨0, _, rfl, ⟨best, by rw [← HKN.out]; exact HG.out, .inr (.inr (.inr (.inr ⟨HPR.out, HAG.out, HLT.out, by rw [← HD.out, ← HQD.out]; omega, rfl, p, by rw [← HD.out, ← HQD.out]; exact hpq, by rw [← HD.out]; exact HLO.out, by rw [← HD.out, ← HQD.out]; exact HHI.out, rfl⟩)))⟩, HBF.out, fun _ => ⟨cur', by rw [← HD.out, ins_len (by rw [← HQD.out]; exact hpq), ← HQD.out]; exact HMF.out, by rw [← HD.out]; exact HRES.out⟩⟩
  obtain rfl : qd = p := by omega
  go_simp
  go_at_call 123
  refine (pins_end g qd N w9.heap.size cuk _ _ wa (HTK.out _ hbf).bx hv9 (by omega) hcapN hszk.out rfl rfl).mono ?_
  rintro r wb ⟨rfl, hwb⟩
  obtain ⟨cur', htr⟩ := TrO.pushed (w1 := wb) (HTK.out _ hbf) (by rw [← HQD.out]; omega) (xs := xs) (ys := ys) (B1 := B1) (B2 := B2) (d1 := d1) (d2 := d2) (by rw [HLX.out]; exact o1) (by rw [HLY.out]; exact o2) (by rw [HLX.out]; exact hxm) (by rw [HLY.out]; exact hym) (by rw [← HQD.out, HLX.out, HLY.out]; exact hwb)
  have htr : TrO wb base g N cur' ((dd).take qd ++ (xs, ys) :: (dd).drop qd) := by rw [List.take_of_length_le (by rw [← HQD.out]; omega), List.drop_eq_nil_of_le (by rw [← HQD.out]; omega)]; exact htr
  have hBb : Below z w wb := by rw [hwb]; exact below_setRow (BWK.out.trans (hbf.mono hzk)) hz2 _
  have hMb : Bx wb gx #[.int .i64 i, .slice (some ⟨g, 0, none⟩) qd N] 24 := by rw [hwb]; exact (HXK.out _ hbf).rowOther HNE.out _
  have hTb : Bx wb w.heap.size #[.slice A n c, .slice B m d] 38 := by rw [hwb]; exact ((HS.out _ hbf).1).rowOther HGN.out _
  have hSb : Bx wb w.heap.size #[.slice A n c, .slice B m d] 38 ∧ wb.cell? ⟨gx, 0, none⟩ = some (.int .i64 i) ∧ wb.cell? ⟨gx, 1, none⟩ = some (.slice (some ⟨g, 0, none⟩) qd N) ∧ wb.cell? ⟨w.heap.size, 0, none⟩ = some (.slice A n c) := ⟨hTb, by have := hMb.cell 0; simpa using this, by have := hMb.cell 1; simpa using this, by have := hTb.cell 0; simpa using this⟩
  refine hK.out _ _ (fun _ _ => hSb) ?_
  clear hSb hTb
  (try simp only [Act.put, List.getElem_toArray, List.getElem_cons_zero, List.getElem_cons_succ, List.setIfInBounds_toArray, List.set_cons_zero, List.set_cons_succ])
  have kx1 := hMb.cell 1
  clear hwb
  have kf1 := hMb.free 1
  simp at kx1
  refine wpAnyX_pure (i := 10) (v := ?_) rfl (by kernel_rfl) (by kernel_rfl) (by kernel_rfl) (fun _ _ _ h => h) (Or.inl ⟨by rfl, ?_⟩) ?_
  rotate_left
  · (intro W _; go_simp; try with_reducible rfl)
  (try simp only [Act.put, List.getElem_toArray, List.getElem_cons_zero, List.getElem_cons_succ, List.setIfInBounds_toArray, List.set_cons_zero, List.set_cons_succ])
  refine wpAnyX_pure (i := 11) (v := ?_) rfl (by kernel_rfl) (by kernel_rfl) (by kernel_rfl) (fun _ _ _ h => h) (Or.inl ⟨by rfl, ?_⟩) ?_
  rotate_left
  · (intro W _; go_simp; try with_reducible rfl)
  (try simp only [Act.put, List.getElem_toArray, List.getElem_cons_zero, List.getElem_cons_succ, List.setIfInBounds_toArray, List.set_cons_zero, List.set_cons_succ])
  refine wpAnyX_one (i := 12) rfl (by kernel_rfl) (fun K hK => ?_)
  go_simp
  refine hK.out _ _ (fun h => absurd h (by decide)) ?_
  (try simp only [Act.put, List.getElem_toArray, List.getElem_cons_zero, List.getElem_cons_succ, List.setIfInBounds_toArray, List.set_cons_zero, List.set_cons_succ])
  refine wpAnyX_done (by kernel_rfl) ?_ _
  have HRES := Lib.hid (TrO.boxed htr hMb (.slice (some ⟨g, 0, none⟩) (qd + 1) N))
  have HMF := Lib.hid (hMb.on1 (.slice (some ⟨g, 0, none⟩) (qd + 1) N))
  have HBF := Lib.hid (hBb.setCell (p := ⟨gx, 1, none⟩) hz1 (.slice (some ⟨g, 0, none⟩) (qd + 1) N))
  clear hbf o1 o2 hv9 htr hMb hBb
  go_wp2_with fail
  go_ret
  exact ⟨0, _, rfl, ⟨best, by rw [← HKN.out]; exact HG.out, .inr (.inr (.inr (.inr ⟨HPR.out, HAG.out, HLT.out, by rw [← HD.out, ← HQD.out]; omega, rfl, qd, by rw [← HD.out, ← HQD.out]; exact hpq, by rw [← HD.out]; exact HLO.out, by rw [← HD.out, ← HQD.out]; exact HHI.out, rfl⟩)))⟩, HBF.out, fun _ => ⟨cur', by rw [← HD.out, ins_len (by rw [← HQD.out]; exact hpq), ← HQD.out]; exact HMF.out, by rw [← HD.out]; exact HRES.out⟩⟩
end Go.Proofs.Ytkgdgnmobahhfaa
end

section
/- with of the program. -/
namespace Go.Proofs.Ytkgdgnmobahhfaa
open Go.RowKit Go.Shelf

/-- The result of with: the traces added in order, in memory of its own, or the observations unchanged with the first error. -/
def WthE (i : Int) (T : Option Addr) (tn tc : Nat) (ts us : List (List Int × List Int)) (w : World) (r : Ending) (w' : World) : Prop :=
  Below w.heap.size w w' ∧ ∃ (e : Int) (ts' : List (List Int × List Int)), AddsR i us ts e ts' ∧
    ((¬ e = 0 ∧ r = .returned (.tuple #[.agg #[.int .i64 i, .slice T tn tc], .int .i64 e])) ∨
     (e = 0 ∧ ∃ (g N : Nat) (cur' : Array Value), r = .returned (.tuple #[.agg #[.int .i64 i, .slice (some ⟨g, 0, none⟩) ts'.length N], .int .i64 0]) ∧ TrO w' w.heap.size g N cur' ts'))
theorem results_obs_tmp {fn : Func} {p u : Tmp} (h : fn.results = #[.cell p 24, .tmp u]) (tmps : Array Value) (w : World) (g : Nat) (v1 v2 : Value)
    (hp : tmps.getD p undef = .pointer (some ⟨g, 0, none⟩)) (hg : Bx w g #[v1, v2] 24) :
    (results fn tmps).run Try.prog w = .ok (.tuple #[.agg #[v1, v2], tmps.getD u undef]) w := by
  rw [results_cell_tmp h, hp]
  have hl := run_loadVar_row (P := Try.prog) w g 24 24 #[v1, v2] (0, 0) _ hg Try.underlying24 rfl (by kernel_rfl)
  simp [asAddr, hl]
theorem Bx.set2 {w : World} {g : Nat} {a b : Value} {t : TypeId} (h : Bx w g #[a, b] t) (x y : Value) : Bx ((w.setCell ⟨g, 0, none⟩ x).setCell ⟨g, 1, none⟩ y) g #[x, y] t := by
  have := (h.set 0 x).set 1 y
  simpa using this
theorem set2B {w0 w : World} {z g : Nat} (hb : Below z w0 w) (hg : z ≤ g) (x y : Value) : Below z w0 ((w.setCell ⟨g, 0, none⟩ x).setCell ⟨g, 1, none⟩ y) :=
  (hb.setCell (p := ⟨g, 0, none⟩) hg x).setCell (p := ⟨g, 1, none⟩) hg y
theorem TrO.set2 {w : World} {base g N gx : Nat} {cur cs : Array Value} {ts : List (List Int × List Int)} (h : TrO w base g N cur ts) (hx : Bx w gx cs 24) (x y : Value) : TrO ((w.setCell ⟨gx, 0, none⟩ x).setCell ⟨gx, 1, none⟩ y) base g N cur ts := by
  have h0 : TrO (w.setCell ⟨gx, 0, none⟩ x) base g N cur ts := h.kept (h.bx.other (obs_ne_trace hx h.bx).symm x) (hx.keptSet (by decide) x)
  exact h0.boxed (hx.set 0 x) y
theorem wp_make_tr {ops : Array Oper} {o : Oper} {a : Act} {w : World} {K : Act → World → Prop} {Q : Exit → Act → World → Prop} {E : Prop} (hgd : o.guard = none) (l c : Operand) (ho : o.op = Op.makeSlice 22 l c)
    (kl kc : IntKind) (N : Nat) (hl : a.eval l = .int kl 0) (hc : a.eval c = .int kc N) (hN : N ≤ 1000000)
    (h : K (a.put o.dst (.slice (some ⟨w.heap.size, 0, none⟩) 0 N)) (w.alloc (.cells (madeCells #[.slice none 0 0, .slice none 0 0] (N * 2)) 38))) :
    if Region.wanted o (yielded ops a.tmps) = true then Oper.wp Try.prog o a w K Q else E := by
  obtain ⟨i, hi, hz0, hz1, hz2⟩ := info_parts infot
  have hw : Region.wanted o (yielded ops a.tmps) = true := by simp [Region.wanted, hgd]
  rw [if_pos hw]
  have hrun := run_make (P := Try.prog) w 22 38 i _ Try.underlying22 hi hz0 kl kc 0 (N : Int) (Int.le_refl _) (by omega) (by rw [hz2]; omega) (by omega)
  rw [hz1] at hrun
  simp only [Int.toNat_zero, Int.toNat_natCast] at hrun
  unfold Oper.wp
  simp [execOp, ho, hl, hc, hrun, Result.andThen]
  exact h
theorem step_appE {P : Program} {ops : Array Oper} {o : Oper} {a : Act} {w : World} {K : Act → World → Prop} {Q : Exit → Act → World → Prop} {E : Prop} (hgd : o.guard = none) (s x : Operand) (t tn : TypeId)
    (ho : o.op = .call { callee := .builtin .append, args := #[s, x], argTypes := #[t, tn] }) (vs vx : Value) (hs : a.eval s = vs) (hx : a.eval x = vx) (r : Value) (w' : World)
    (hr : (Builtin.append_ #[t, tn] o.type #[vs, vx]).run P w = .ok r w') (h : K (a.put o.dst r) w') :
    if Region.wanted o (yielded ops a.tmps) = true then Oper.wp P o a w K Q else E := by
  have hw : Region.wanted o (yielded ops a.tmps) = true := by simp [Region.wanted, hgd]
  rw [if_pos hw]
  exact Lib.wp_append_run w s x t tn ho vs vx hs hx _ w' hr h
/-- append of one trace where there is room. -/
theorem TrO.push_run {w : World} {base g N : Nat} {cur : Array Value} {ts : List (List Int × List Int)} (h : TrO w base g N cur ts) (hroom : ts.length + 1 ≤ N) {vb : Nat} {x1 x2 : Value} (hv : Bx w vb #[x1, x2] 38) (h1 : x1.oneCell' = true) (h2 : x2.oneCell' = true) (ty : TypeId) :
    (Builtin.append_ #[22, 22] ty #[.slice (some ⟨g, 0, none⟩) ts.length N, .slice (some ⟨vb, 0, none⟩) 1 1]).run Try.prog w = .ok (.slice (some ⟨g, 0, none⟩) (ts.length + 1) N) (w.setRow g (cur.toList.take (ts.length * 2) ++ x1 :: x2 :: cur.toList.drop (ts.length * 2 + 2)).toArray) := by
  obtain ⟨i, hi, hz0, hz1, hz2⟩ := info_parts infot
  have hrn := run_append_room (P := Try.prog) (w := w) 22 ty 38 i Try.underlying22 hi g ts.length N cur h.bx ⟨vb, 0, none⟩ 1 1 [x1, x2] (by rw [hz1]; rfl)
    (fun j u hj => by
      rw [Addr.add_lit, Nat.zero_add]
      refine (hv.cell j).trans ?_
      rw [← hj]; simp) (by simp [h1, h2]) hroom (by rw [hz1, h.sz]; simp; omega)
  rw [hz1, List.append_assoc] at hrn
  exact hrn
theorem made_one (N : Nat) : ∀ v, v ∈ (madeCells #[Value.slice none 0 0, .slice none 0 0] (N * 2)).toList → v.oneCell' = true := by
  intro v hv
  unfold madeCells at hv
  simp only [Array.toList_map, List.mem_map] at hv
  obtain ⟨k, _, rfl⟩ := hv
  have : k % 2 = 0 ∨ k % 2 = 1 := by omega
  rcases this with h | h <;> simp [h, Value.oneCell']
theorem take_snoc {ts : List (List Int × List Int)} {k : Nat} (h : k < ts.length) : ts.take k ++ [(tIn ts k, tOut ts k)] = ts.take (k + 1) := by
  rw [List.take_add_one, List.getElem?_eq_getElem h]
  unfold tIn tOut
  rw [List.getD_eq_getElem?_getD, List.getElem?_eq_getElem h]
  rfl
theorem drop_cons {ts : List (List Int × List Int)} {k : Nat} (h : k < ts.length) : ts.drop k = (tIn ts k, tOut ts k) :: ts.drop (k + 1) := by
  rw [List.drop_eq_getElem_cons h]
  unfold tIn tOut
  rw [List.getD_eq_getElem?_getD, List.getElem?_eq_getElem h]
  rfl

set_option linter.unusedSimpArgs false in
set_option linter.unusedVariables false in
set_option maxHeartbeats 16000000 in
set_option maxRecDepth 100000 in
theorem pwith (i : Int) (T U : Option Addr) (tn tc un uc : Nat) (ts us : List (List Int × List Int)) (w : World) (hT : Trs w T tn ts) (hU : Trs w U un us) (hS : Srt ts) (hF : Full ts) (htn : tn ≤ 500000) (hun : un ≤ 500000) :
    Calls Try.prog 74 #[.agg #[.int .i64 i, .slice T tn tc], .slice U un uc] w fun r w' => WthE i T tn tc ts us w r w' := by
  obtain ⟨w1, hw1⟩ : ∃ w1, w1 = (w.alloc (.cells #[.int .i64 i, .slice T tn tc] 24)).alloc (.cells #[.int .i64 0, .slice none 0 0] 24) := ⟨_, rfl⟩
  obtain ⟨hb0, m1, m2, hs0⟩ := bxs2 w #[.int .i64 i, .slice T tn tc] #[.int .i64 0, .slice none 0 0] 24 24 w1 hw1
  obtain ⟨N, hN⟩ : ∃ N : Nat, N = tn + un := ⟨_, rfl⟩
  have HT := Lib.hid (hT.below hb0)
  have HU := Lib.hid (hU.below hb0)
  have HM1 := Lib.hid (fun (W : World) (h : Below w1.heap.size w1 W) => m1.on h)
  have HM2 := Lib.hid (fun (W : World) (h : Below w1.heap.size w1 W) => m2.on h)
  have HB0 := Lib.hid hb0
  have HW1 := Lib.hid hw1
  have HZ1 := Lib.hid hs0
  have HSS := Lib.hid hS
  have HFF := Lib.hid hF
  have HLT := Lib.hid hT.1
  have HLU := Lib.hid hU.1
  have hwN : IntKind.i64.wrap ((tn : Int) + (un : Int)) = (N : Int) := by rw [IntKind.wrap_i64]; omega
  have hN2 : N ≤ 1000000 := by omega
  have hN0 : (0 : Int) ≤ (N : Int) := by omega
  have HN := Lib.hid hN
  have HS := Lib.hid (show ∀ W, Below w1.heap.size w1 W → W.cell? ⟨w.heap.size, 0, none⟩ = some (.int .i64 i) ∧ W.cell? ⟨w.heap.size, 1, none⟩ = some (.slice T tn tc) from fun W h => ⟨by have := (m1.on h).cell 0; simpa using this, by have := (m1.on h).cell 1; simpa using this⟩)
  clear hw1 hb0 m1 m2 hs0 hT hU hS hF hN
  go_enter Try.func74, Try.ntmps74
  go_upto_region 1 with fail
  rw [← HW1.out]
  have hbf : Below w1.heap.size w1 w1.drew := below_drewN (Below.refl _ _) 1
  refine wp_region_heldX (X := fun k => ([11] : List Nat).contains k) (S := fun W => W.cell? ⟨w.heap.size, 0, none⟩ = some (.int .i64 i) ∧ W.cell? ⟨w.heap.size, 1, none⟩ = some (.slice T tn tc)) (by kernel_rfl) ?_
  generalize w1.drew = wkd at hbf ⊢
  refine wpAnyX_pure (i := 0) (v := ?_) rfl (by kernel_rfl) (by kernel_rfl) (by kernel_rfl) (fun _ _ _ h => h) (Or.inl ⟨by rfl, ?_⟩) ?_
  rotate_left
  · (intro W _; go_simp; try with_reducible rfl)
  (try simp only [Act.put, List.getElem_toArray, List.getElem_cons_zero, List.getElem_cons_succ, List.setIfInBounds_toArray, List.set_cons_zero, List.set_cons_succ])
  refine wpAnyX_takeL (L := [11]) (i := 1) (v := ?_) rfl (by kernel_rfl) (by kernel_rfl) (by kernel_rfl) (by kernel_rfl) (fun _ _ _ h => h) (Or.inl ⟨by rfl, ?_⟩) (HS.out _ hbf) ?_
  rotate_left
  · (intro W hSW; (try dsimp only at hSW); obtain ⟨z0, z1⟩ := hSW; go_simp; try with_reducible rfl)
  (try simp only [Act.put, List.getElem_toArray, List.getElem_cons_zero, List.getElem_cons_succ, List.setIfInBounds_toArray, List.set_cons_zero, List.set_cons_succ])
  refine wpAnyX_pure (i := 2) (v := ?_) rfl (by kernel_rfl) (by kernel_rfl) (by kernel_rfl) (fun _ _ _ h => h) (Or.inl ⟨by rfl, ?_⟩) ?_
  rotate_left
  · (intro W _; go_simp; try with_reducible rfl)
  (try simp only [Act.put, List.getElem_toArray, List.getElem_cons_zero, List.getElem_cons_succ, List.setIfInBounds_toArray, List.set_cons_zero, List.set_cons_succ])
  refine wpAnyX_takeL (L := [11]) (i := 3) (v := ?_) rfl (by kernel_rfl) (by kernel_rfl) (by kernel_rfl) (by kernel_rfl) (fun _ _ _ h => h) (Or.inl ⟨by rfl, ?_⟩) (HS.out _ hbf) ?_
  rotate_left
  · (intro W hSW; (try dsimp only at hSW); obtain ⟨z0, z1⟩ := hSW; go_simp; try with_reducible rfl)
  (try simp only [Act.put, List.getElem_toArray, List.getElem_cons_zero, List.getElem_cons_succ, List.setIfInBounds_toArray, List.set_cons_zero, List.set_cons_succ])
  refine wpAnyX_pure (i := 4) (v := ?_) rfl (by kernel_rfl) (by kernel_rfl) (by kernel_rfl) (fun _ _ _ h => h) (Or.inl ⟨by rfl, ?_⟩) ?_
  rotate_left
  · (intro W _; go_simp; try with_reducible rfl)
  (try simp only [Act.put, List.getElem_toArray, List.getElem_cons_zero, List.getElem_cons_succ, List.setIfInBounds_toArray, List.set_cons_zero, List.set_cons_succ])
  refine wpAnyX_pure (i := 5) (v := ?_) rfl (by kernel_rfl) (by kernel_rfl) (by kernel_rfl) (fun _ _ _ h => h) (Or.inl ⟨by rfl, ?_⟩) ?_
  rotate_left
  · (intro W _; go_simp; try with_reducible rfl)
  (try simp only [Act.put, List.getElem_toArray, List.getElem_cons_zero, List.getElem_cons_succ, List.setIfInBounds_toArray, List.set_cons_zero, List.set_cons_succ])
  refine wpAnyX_pure (i := 6) (v := ?_) rfl (by kernel_rfl) (by kernel_rfl) (by kernel_rfl) (fun _ _ _ h => h) (Or.inl ⟨by rfl, ?_⟩) ?_
  rotate_left
  · (intro W _; go_simp; try with_reducible rfl)
  (try simp only [Act.put, List.getElem_toArray, List.getElem_cons_zero, List.getElem_cons_succ, List.setIfInBounds_toArray, List.set_cons_zero, List.set_cons_succ])
  refine wpAnyX_pure (i := 7) (v := ?_) rfl (by kernel_rfl) (by kernel_rfl) (by kernel_rfl) (fun _ _ _ h => h) (Or.inl ⟨by rfl, ?_⟩) ?_
  rotate_left
  · (intro W _; go_simp; try with_reducible rfl)
  (try simp only [Act.put, List.getElem_toArray, List.getElem_cons_zero, List.getElem_cons_succ, List.setIfInBounds_toArray, List.set_cons_zero, List.set_cons_succ])
  refine wpAnyX_two (i := 8) (j := 10) rfl rfl (by kernel_rfl) (fun K hK => ?_) (fun K hK => ?_)
  · refine wp_make_tr rfl _ _ rfl _ _ N rfl rfl hN2 (hK.out _ _ (fun _ _ => HS.out _ (bt hbf (alloc_below _ _))) ?_)
    (try simp only [Act.put, List.getElem_toArray, List.getElem_cons_zero, List.getElem_cons_succ, List.setIfInBounds_toArray, List.set_cons_zero, List.set_cons_succ])
    have hal := alloc_below wkd (.cells (madeCells #[.slice none 0 0, .slice none 0 0] (N * 2)) 38)
    have hg := bx_new wkd (madeCells #[.slice none 0 0, .slice none 0 0] (N * 2)) 38
    have hgz : w1.heap.size ≤ wkd.heap.size := hbf.size
    obtain ⟨g, eqg⟩ : ∃ g, g = wkd.heap.size := ⟨_, rfl⟩
    have hbf := bt hbf hal
    generalize wkd.alloc (.cells (madeCells #[.slice none 0 0, .slice none 0 0] (N * 2)) 38) = wk1 at hal hbf hg ⊢
    rw [← eqg] at hg hgz ⊢
    clear eqg hal
    refine wpAnyX_pure (i := 9) (v := ?_) rfl (by kernel_rfl) (by kernel_rfl) (by kernel_rfl) (fun _ _ _ h => h) (Or.inl ⟨by rfl, ?_⟩) ?_
    rotate_left
    · (intro W _; go_simp; try with_reducible rfl)
    (try simp only [Act.put, List.getElem_toArray, List.getElem_cons_zero, List.getElem_cons_succ, List.setIfInBounds_toArray, List.set_cons_zero, List.set_cons_succ])
    refine wpAnyX_one (i := 10) rfl (by kernel_rfl) (fun K hK => ?_)
    go_simp
    refine hK.out _ _ (fun _ _ => HS.out _ (bt hbf (alloc_below _ _))) ?_
    (try simp only [Act.put, List.getElem_toArray, List.getElem_cons_zero, List.getElem_cons_succ, List.setIfInBounds_toArray, List.set_cons_zero, List.set_cons_succ])
    have hal := alloc_below wk1 (.cells #[.int .i64 0, .slice none 0 0] 24)
    have hx := bx_new wk1 #[.int .i64 0, .slice none 0 0] 24
    have hxz : w1.heap.size ≤ wk1.heap.size := hbf.size
    have hg := hg.on hal
    obtain ⟨gx, eqgx⟩ : ∃ gx, gx = wk1.heap.size := ⟨_, rfl⟩
    have hbf := bt hbf hal
    generalize wk1.alloc (.cells #[.int .i64 0, .slice none 0 0] 24) = wk2 at hal hbf hg hx ⊢
    rw [← eqgx] at hx hxz ⊢
    clear eqgx hal
    refine wpAnyX_one (i := 11) rfl (by kernel_rfl) (fun K hK => ?_)
    refine wp_store_row 24 _ _ rfl gx (#[.int .i64 i, .slice (some ⟨g, 0, none⟩) 0 N]) rfl rfl 24 (#[.int .i64 0, .slice none 0 0]) hx (by kernel_rfl) (by rfl) (by simp [Value.oneCell']) (hK.out _ _ (fun h => absurd h (by decide)) ?_)
    (try simp only [Act.put, List.getElem_toArray, List.getElem_cons_zero, List.getElem_cons_succ, List.setIfInBounds_toArray, List.set_cons_zero, List.set_cons_succ])
    refine wpAnyX_done (by kernel_rfl) ?_ _
    have hX0 := hx.row #[.int .i64 i, .slice (some ⟨g, 0, none⟩) 0 N]
    have hT0 : TrO (wk2.setRow gx #[.int .i64 i, .slice (some ⟨g, 0, none⟩) 0 N]) w.heap.size g N _ [] := TrO.start (hg.rowOther (obs_ne_trace hx hg).symm _) (by have := HZ1.out; omega) (size_madeCells _ _) hN2 (made_one N)
    have hBA := below_setRow hbf hxz #[.int .i64 i, .slice (some ⟨g, 0, none⟩) 0 N]
    have HXA := Lib.hid hX0
    have HTA := Lib.hid hT0
    have HBA := Lib.hid hBA
    have t1 := (HM1.out _ hBA).cell 1
    simp at t1
    generalize wk2.setRow gx #[.int .i64 i, .slice (some ⟨g, 0, none⟩) 0 N] = wA at HXA HTA HBA t1 ⊢
    clear hX0 hT0 hBA hx hg hbf
    go_upto_region 3 with fail
    clear t1
    go_loopw [25] (fun v25 wr => ∃ (k : Nat) (cur : Array Value), v25 = .int .i64 k ∧ k ≤ tn ∧ Hid (Bx wr gx #[.int .i64 i, .slice (some ⟨g, 0, none⟩) k N] 24) ∧ Hid (TrO wr w.heap.size g N cur (ts.take k)) ∧ Hid (Below w1.heap.size w1 wr)) (fun v25 _ => tn - (intOf v25).toNat)
    case atStart => exact ⟨0, _, rfl, Nat.zero_le _, HXA, Lib.hid (by rw [List.take_zero]; exact HTA.out), HBA⟩
    case round =>
      obtain ⟨k, cur, rfl, hk, HX, HTk, HBR⟩ := hrel
      by_cases hlt : k < tn
      · obtain ⟨b, off, A1, n1, c1, A2, n2, c2, eT, hgb, j1, j2, q1, q2, j3, j4⟩ := (HT.out.below HBR.out).at_ hlt
        subst eT
        have hkI : (k : Int) < (tn : Int) := by omega
        have hk0 : (0 : Int) ≤ (k : Int) := by omega
        have hl7 := alloc_below wr (.cells #[.slice A1 n1 c1, .slice A2 n2 c2] 38)
        have hm7 := bx_new wr #[.slice A1 n1 c1, .slice A2 n2 c2] 38
        have HI1 := Lib.hid (j3.below hl7)
        have HI2 := Lib.hid (j4.below hl7)
        have HN1 := Lib.hid j3.1
        have HN2 := Lib.hid j4.1
        have hn1 := j3.2.1
        have hn2 := j4.2.1
        have HX7 := Lib.hid (HX.out.on hl7)
        have HT7 := Lib.hid (HTk.out.below hl7)
        have HB7 := Lib.hid (HBR.out.trans (hl7.mono HBR.out.size))
        have HM7 := Lib.hid hm7
        have hlk : (ts.take k).length = k := by rw [List.length_take, HLT.out]; omega
        have HLK := Lib.hid hlk
        have hszw : w.heap.size ≤ wr.heap.size := Nat.le_trans HB0.out.size HBR.out.size
        have hgr : g < wr.heap.size := HTk.out.bx.lt
        clear hm7 j3 j4 q1 q2 hgb hlk
        go_upto_region 5 with fail
        generalize wr.alloc (.cells #[.slice A1 n1 c1, .slice A2 n2 c2] 38) = w7 at hl7 HI1 HI2 HX7 HT7 HB7 HM7 ⊢
        have hw7 : w.heap.size ≤ w7.heap.size := Nat.le_trans hszw hl7.size
        clear j1 j2 hl7
        have HS := Lib.hid (show ∀ W, Below w7.heap.size w7 W → Bx W wr.heap.size #[.slice A1 n1 c1, .slice A2 n2 c2] 38 ∧ W.cell? ⟨gx, 1, none⟩ = some (.slice (some ⟨g, 0, none⟩) k N) from fun W h => ⟨HM7.out.on h, by have := (HX7.out.on h).cell 1; simpa using this⟩)
        have hbf : Below w7.heap.size w7 w7.drew := below_drewN (Below.refl _ _) 1
        refine wp_region_heldX (X := fun k => ([7] : List Nat).contains k) (S := fun W => Bx W wr.heap.size #[.slice A1 n1 c1, .slice A2 n2 c2] 38 ∧ W.cell? ⟨gx, 1, none⟩ = some (.slice (some ⟨g, 0, none⟩) k N)) (by kernel_rfl) ?_
        generalize w7.drew = wkd at hbf ⊢
        refine wpAnyX_pure (i := 0) (v := ?_) rfl (by kernel_rfl) (by kernel_rfl) (by kernel_rfl) (fun _ _ _ h => h) (Or.inl ⟨by rfl, ?_⟩) ?_
        rotate_left
        · (intro W _; go_simp; try with_reducible rfl)
        (try simp only [Act.put, List.getElem_toArray, List.getElem_cons_zero, List.getElem_cons_succ, List.setIfInBounds_toArray, List.set_cons_zero, List.set_cons_succ])
        refine wpAnyX_takeL (L := [7]) (i := 1) (v := ?_) rfl (by kernel_rfl) (by kernel_rfl) (by kernel_rfl) (by kernel_rfl) (fun _ _ _ h => h) (Or.inl ⟨by rfl, ?_⟩) (HS.out _ hbf) ?_
        rotate_left
        · (intro W hSW; (try dsimp only at hSW); obtain ⟨z0, z1⟩ := hSW; go_simp; try with_reducible rfl)
        (try simp only [Act.put, List.getElem_toArray, List.getElem_cons_zero, List.getElem_cons_succ, List.setIfInBounds_toArray, List.set_cons_zero, List.set_cons_succ])
        refine wpAnyX_takeL (L := [7]) (i := 2) (v := .agg (#[.slice A1 n1 c1, .slice A2 n2 c2])) rfl (by kernel_rfl) (by kernel_rfl) (by kernel_rfl) (by kernel_rfl) (fun _ _ _ h => h) (Or.inl ⟨by rfl, fun W hSW => run_load_bx 38 _ rfl (wr.heap.size) rfl 38 (#[.slice A1 n1 c1, .slice A2 n2 c2]) (0, 0) _ (hSW.1) Try.underlying38 rfl (by kernel_rfl)⟩) (HS.out _ hbf) ?_
        (try simp only [Act.put, List.getElem_toArray, List.getElem_cons_zero, List.getElem_cons_succ, List.setIfInBounds_toArray, List.set_cons_zero, List.set_cons_succ])
        refine wpAnyX_one (i := 3) rfl (by kernel_rfl) (fun K hK => ?_)
        go_simp
        go_at_call 105
        refine (pcopied16 A1 A2 n1 c1 n2 c2 (tIn ts k) (tOut ts k) _ (HI1.out.below hbf) (HI2.out.below hbf)).mono ?_
        rintro r w9 ⟨B1, B2, d1, d2, rfl, o1, o2, b9⟩
        have o1 := o1.lower (base' := w.heap.size) (Nat.le_trans hw7 hbf.size)
        have o2 := o2.lower (base' := w.heap.size) (Nat.le_trans hw7 hbf.size)
        have hbf := bt hbf b9
        clear b9
        refine hK.out _ _ (fun _ _ => HS.out _ hbf) ?_
        (try simp only [Act.put, List.getElem_toArray, List.getElem_cons_zero, List.getElem_cons_succ, List.setIfInBounds_toArray, List.set_cons_zero, List.set_cons_succ])
        refine wpAnyX_one (i := 4) rfl (by kernel_rfl) (fun K hK => ?_)
        go_simp
        have l9 := alloc_below w9 (.cells #[.slice B1 n1 d1, .slice B2 n2 d2] 38)
        have hv9 := bx_new w9 #[.slice B1 n1 d1, .slice B2 n2 d2] 38
        obtain ⟨wa, hwa⟩ : ∃ wa, wa = w9.alloc (.cells #[.slice B1 n1 d1, .slice B2 n2 d2] 38) := ⟨_, rfl⟩
        rw [← hwa] at l9 hv9 ⊢
        have o1 := o1.kept l9
        have o2 := o2.kept l9
        have hbf := bt hbf l9
        clear l9 hwa
        refine hK.out _ _ (fun _ _ => HS.out _ hbf) ?_
        (try simp only [Act.put, List.getElem_toArray, List.getElem_cons_zero, List.getElem_cons_succ, List.setIfInBounds_toArray, List.set_cons_zero, List.set_cons_succ])
        refine wpAnyX_one (i := 5) rfl (by kernel_rfl) (fun K hK => ?_)
        have hta := HT7.out.below hbf
        have hrn := hta.push_run (by rw [HLK.out]; have := HN.out; omega) hv9 rfl rfl 22
        rw [HLK.out] at hrn
        refine step_appE rfl _ _ _ _ rfl _ _ rfl rfl _ _ hrn (hK.out _ _ (fun _ _ => ?_) ?_)
        · exact ⟨(HS.out _ hbf).1.rowOther (by have := HX7.out.lt; have := hgr; omega) _, by have := ((HX7.out.on hbf).rowOther (obs_ne_trace (HX7.out.on hbf) hta.bx) (cur.toList.take (k * 2) ++ Value.slice B1 n1 d1 :: Value.slice B2 n2 d2 :: cur.toList.drop (k * 2 + 2)).toArray).cell 1; simpa using this⟩
        (try simp only [Act.put, List.getElem_toArray, List.getElem_cons_zero, List.getElem_cons_succ, List.setIfInBounds_toArray, List.set_cons_zero, List.set_cons_succ])
        obtain ⟨wb, hwb⟩ : ∃ wb, wb = wa.setRow g (cur.toList.take (k * 2) ++ Value.slice B1 n1 d1 :: Value.slice B2 n2 d2 :: cur.toList.drop (k * 2 + 2)).toArray := ⟨_, rfl⟩
        rw [← hwb]
        obtain ⟨cur', htr⟩ := TrO.pushed (w1 := wb) hta (by rw [HLK.out]; have := HN.out; omega) (xs := tIn ts k) (ys := tOut ts k) (B1 := B1) (B2 := B2) (d1 := d1) (d2 := d2) (by rw [HN1.out]; exact o1) (by rw [HN2.out]; exact o2) (by rw [HN1.out]; exact hn1) (by rw [HN2.out]; exact hn2) (by rw [HLK.out, HN1.out, HN2.out]; exact hwb)
        rw [take_snoc (by rw [HLT.out]; exact hlt)] at htr
        have hMb : Bx wb gx #[.int .i64 i, .slice (some ⟨g, 0, none⟩) k N] 24 := by rw [hwb]; exact (HX7.out.on hbf).rowOther (obs_ne_trace (HX7.out.on hbf) hta.bx) _
        have hBb : Below w1.heap.size w1 wb := by rw [hwb]; exact below_setRow (HB7.out.trans (hbf.mono HB7.out.size)) hgz _
        have kx1 := hMb.cell 1
        have kf1 := hMb.free 1
        simp at kx1
        clear hwb hrn hta
        refine wpAnyX_pure (i := 6) (v := ?_) rfl (by kernel_rfl) (by kernel_rfl) (by kernel_rfl) (fun _ _ _ h => h) (Or.inl ⟨by rfl, ?_⟩) ?_
        rotate_left
        · (intro W _; go_simp; try with_reducible rfl)
        (try simp only [Act.put, List.getElem_toArray, List.getElem_cons_zero, List.getElem_cons_succ, List.setIfInBounds_toArray, List.set_cons_zero, List.set_cons_succ])
        refine wpAnyX_one (i := 7) rfl (by kernel_rfl) (fun K hK => ?_)
        go_simp
        refine hK.out _ _ (fun h => absurd h (by decide)) ?_
        (try simp only [Act.put, List.getElem_toArray, List.getElem_cons_zero, List.getElem_cons_succ, List.setIfInBounds_toArray, List.set_cons_zero, List.set_cons_succ])
        refine wpAnyX_done (by kernel_rfl) ?_ _
        have HXn := Lib.hid (hMb.on1 (.slice (some ⟨g, 0, none⟩) (k + 1) N))
        have HTn := Lib.hid (htr.boxed hMb (.slice (some ⟨g, 0, none⟩) (k + 1) N))
        have HBn := Lib.hid (hBb.setCell (p := ⟨gx, 1, none⟩) hxz (.slice (some ⟨g, 0, none⟩) (k + 1) N))
        have wk1 : IntKind.i64.wrap ((k : Int) + 1) = ((k + 1 : Nat) : Int) := by rw [IntKind.wrap_i64]; omega
        clear hMb htr hBb kx1 kf1 hbf o1 o2 hv9
        go_wp2_with fail
        go_roundw
        case measure => simp [intOf]; omega
        case rel => exact ⟨k + 1, cur', rfl, by omega, HXn, HTn, HBn⟩
      obtain rfl : k = tn := by omega
      have hkI : ¬ (k : Int) < (k : Int) := by omega
      have HTk : Hid (TrO wr w.heap.size g N cur ts) := Lib.hid (by have := HTk.out; rwa [List.take_of_length_le (by rw [HLT.out]; exact Nat.le_refl _)] at this)
      go_wp2_with fail
      go_loopw [39] (fun v39 wr => ∃ (k2 q : Nat) (cur2 : Array Value) (tsk : List (List Int × List Int)), v39 = .int .i64 k2 ∧ k2 ≤ un ∧ Hid (q = tsk.length) ∧ q ≤ k + k2 ∧ Hid (Bx wr gx #[.int .i64 i, .slice (some ⟨g, 0, none⟩) q N] 24) ∧ Hid (TrO wr w.heap.size g N cur2 tsk) ∧ Hid (Below w1.heap.size w1 wr) ∧ Hid (Srt tsk) ∧ Hid (Full tsk) ∧ Hid (∀ e ts', AddsR i (us.drop k2) tsk e ts' → AddsR i us ts e ts')) (fun v39 _ => un - (intOf v39).toNat)
      case atStart => exact ⟨0, k, cur, ts, rfl, Nat.zero_le _, Lib.hid HLT.out.symm, Nat.le_refl _, HX, HTk, HBR, HSS, HFF, Lib.hid (fun e ts' h => by rwa [List.drop_zero] at h)⟩
      case round =>
        clear HX HTk HBR
        rename_i wr0
        obtain ⟨k2, q, cur2, tsk, rfl, hk2, HQ, hqk, HX, HTk, HBR, HSk, HFk, HAd⟩ := hrel
        by_cases hlt2 : k2 < un
        · obtain ⟨b, off, A1, n1, c1, A2, n2, c2, eU, hgb, j1, j2, q1, q2, j3, j4⟩ := (HU.out.below HBR.out).at_ hlt2
          subst eU
          obtain ⟨_, _, B1, p1, d1, B2, p2, d2, eU, _, i1, i2, _, _, i3, i4⟩ := HU.out.at_ hlt2
          cases eU
          have HI1 := Lib.hid (show Ints w1 A1 n1 (tIn us k2) by
            have e1 := (HBR.out.cell (p := ⟨b, off + k2 * 2, none⟩) (by assumption)).trans i1
            rw [j1] at e1; cases e1; exact i3)
          have HI2 := Lib.hid (show Ints w1 A2 n2 (tOut us k2) by
            have e1 := (HBR.out.cell (p := ⟨b, off + k2 * 2 + 1, none⟩) (by assumption)).trans i2
            rw [j2] at e1; cases e1; exact i4)
          have hkI2 : (k2 : Int) < (un : Int) := by omega
          have hk02 : (0 : Int) ≤ (k2 : Int) := by omega
          have hl7 := alloc_below wr (.cells #[.slice A1 n1 c1, .slice A2 n2 c2] 38)
          have hm7 := bx_new wr #[.slice A1 n1 c1, .slice A2 n2 c2] 38
          have hB7 := HBR.out.trans (hl7.mono HBR.out.size)
          have HIN := Lib.hid (pinsert i A1 A2 n1 c1 n2 c2 gx g N w.heap.size w1.heap.size cur2 tsk (tIn us k2) (tOut us k2) _ (by rw [← HQ.out]; exact HX.out.on hl7) (HTk.out.below hl7) (fun W h => HI1.out.below (hB7.trans h)) q1 (fun W h => HI2.out.below (hB7.trans h)) q2 HSk.out HFk.out (by rw [← HQ.out]; have := HN.out; omega) hxz hgz HB0.out.size)
          have HB7 := Lib.hid hB7
          have t0 := hm7.cell 0
          have t1 := hm7.cell 1
          simp at t0 t1
          have HUD := Lib.hid (drop_cons (ts := us) (k := k2) (by rw [HLU.out]; exact hlt2))
          clear hm7 hl7 hB7 i1 i2 i3 i4 j3 j4 q1 q2 hgb
          go_wp2_with fail
          refine HIN.out.mono ?_
          clear j1 j2 t0 t1
          rintro r w9 ⟨e, ts', rfl, HR, hB9, hok⟩
          have HRR := Lib.hid HR
          clear HR
          have hbw := HB7.out.trans hB9
          by_cases he : e = 0
          · subst he
            obtain ⟨cur', hX', hT'⟩ := hok rfl
            have HXn := Lib.hid hX'
            have HTn := Lib.hid hT'
            have HBn := Lib.hid hbw
            have hl' := HRR.out.len
            have wk1 : IntKind.i64.wrap ((k2 : Int) + 1) = ((k2 + 1 : Nat) : Int) := by rw [IntKind.wrap_i64]; omega
            have HQ2 : Hid (ts'.length ≤ k + (k2 + 1)) := Lib.hid (by have := HQ.out; omega)
            clear hX' hT' hok hbw hB9 hl'
            go_wp2_with fail
            go_roundw
            case measure => simp [intOf]; omega
            case rel =>
              exact ⟨k2 + 1, ts'.length, cur', ts', rfl, by omega, Lib.hid rfl, HQ2.out, HXn, HTn, HBn, Lib.hid (HRR.out.srt HSk.out), Lib.hid (HRR.out.full HFk.out), Lib.hid (fun e ts2 h => HAd.out e ts2 (by rw [HUD.out]; exact AddsR.step HRR.out h))⟩
          · have hne : (e != 0) = true := by simpa using he
            have HE := Lib.hid he
            have m1 := HM1.out _ hbw
            have m2 := HM2.out _ hbw
            have p0 := m1.cell 0
            have p1 := m1.cell 1
            have f0 := m2.free 0
            have f1 := m2.free 1
            have r0 := m2.cell 0
            have r1 := m2.cell 1
            simp at p0 p1 r0 r1
            have HR2 := Lib.hid (m2.set2 (.int .i64 i) (.slice T k tc))
            have HBF := Lib.hid (set2B (g := w.heap.size + 1) (HB0.out.trans (hbw.mono HB0.out.size)) (by omega) (.int .i64 i) (.slice T k tc))
            clear m1 m2 hok hbw hB9 he
            go_wp2_with fail
            (try rw [Exit.noGoto_ret])
            refine bodyPost_ret (results_obs_tmp rfl _ _ (w.heap.size + 1) (.int .i64 i) (.slice T k tc) rfl HR2.out) rfl ?_
            exact ⟨HBF.out, e, ts', HAd.out e ts' (by rw [HUD.out]; exact AddsR.stop HRR.out HE.out ts'), .inl ⟨HE.out, rfl⟩⟩
        · obtain rfl : k2 = un := by omega
          have hkI2 : ¬ (k2 : Int) < (k2 : Int) := by omega
          have m2 := HM2.out _ HBR.out
          have mx := HX.out
          have p0 := mx.cell 0
          have p1 := mx.cell 1
          have f0 := m2.free 0
          have f1 := m2.free 1
          have r0 := m2.cell 0
          have r1 := m2.cell 1
          simp at p0 p1 r0 r1
          have HR2 := Lib.hid (m2.set2 (.int .i64 i) (.slice (some ⟨g, 0, none⟩) q N))
          have HTF := Lib.hid (HTk.out.set2 m2 (.int .i64 i) (.slice (some ⟨g, 0, none⟩) q N))
          have HBF := Lib.hid (set2B (g := w.heap.size + 1) (HB0.out.trans (HBR.out.mono HB0.out.size)) (by omega) (.int .i64 i) (.slice (some ⟨g, 0, none⟩) q N))
          clear m2 mx
          go_wp2_with fail
          (try rw [Exit.noGoto_ret])
          refine bodyPost_ret (results_obs_tmp rfl _ _ (w.heap.size + 1) (.int .i64 i) (.slice (some ⟨g, 0, none⟩) q N) rfl HR2.out) rfl ?_
          exact ⟨HBF.out, 0, tsk, HAd.out 0 tsk (by rw [List.drop_eq_nil_of_le (by rw [HLU.out]; exact Nat.le_refl _)]; exact AddsR.nil tsk), .inr ⟨rfl, g, N, cur2, by rw [← HQ.out]; rfl, HTF.out⟩⟩
  · go_simp
    refine hK.out _ _ (fun _ _ => HS.out _ (bt hbf (alloc_below _ _))) ?_
    (try simp only [Act.put, List.getElem_toArray, List.getElem_cons_zero, List.getElem_cons_succ, List.setIfInBounds_toArray, List.set_cons_zero, List.set_cons_succ])
    have hal := alloc_below wkd (.cells #[.int .i64 0, .slice none 0 0] 24)
    have hx := bx_new wkd #[.int .i64 0, .slice none 0 0] 24
    have hxz : w1.heap.size ≤ wkd.heap.size := hbf.size
    obtain ⟨gx, eqgx⟩ : ∃ gx, gx = wkd.heap.size := ⟨_, rfl⟩
    have hbf := bt hbf hal
    generalize wkd.alloc (.cells #[.int .i64 0, .slice none 0 0] 24) = wk1 at hal hbf hx ⊢
    rw [← eqgx] at hx hxz ⊢
    clear eqgx hal
    refine wpAnyX_one (i := 8) rfl (by kernel_rfl) (fun K hK => ?_)
    refine wp_make_tr rfl _ _ rfl _ _ N rfl rfl hN2 (hK.out _ _ (fun _ _ => HS.out _ (bt hbf (alloc_below _ _))) ?_)
    (try simp only [Act.put, List.getElem_toArray, List.getElem_cons_zero, List.getElem_cons_succ, List.setIfInBounds_toArray, List.set_cons_zero, List.set_cons_succ])
    have hal := alloc_below wk1 (.cells (madeCells #[.slice none 0 0, .slice none 0 0] (N * 2)) 38)
    have hg := bx_new wk1 (madeCells #[.slice none 0 0, .slice none 0 0] (N * 2)) 38
    have hgz : w1.heap.size ≤ wk1.heap.size := hbf.size
    have hx := hx.on hal
    obtain ⟨g, eqg⟩ : ∃ g, g = wk1.heap.size := ⟨_, rfl⟩
    have hbf := bt hbf hal
    generalize wk1.alloc (.cells (madeCells #[.slice none 0 0, .slice none 0 0] (N * 2)) 38) = wk2 at hal hbf hg hx ⊢
    rw [← eqg] at hg hgz ⊢
    clear eqg hal
    refine wpAnyX_pure (i := 9) (v := ?_) rfl (by kernel_rfl) (by kernel_rfl) (by kernel_rfl) (fun _ _ _ h => h) (Or.inl ⟨by rfl, ?_⟩) ?_
    rotate_left
    · (intro W _; go_simp; try with_reducible rfl)
    (try simp only [Act.put, List.getElem_toArray, List.getElem_cons_zero, List.getElem_cons_succ, List.setIfInBounds_toArray, List.set_cons_zero, List.set_cons_succ])
    refine wpAnyX_one (i := 11) rfl (by kernel_rfl) (fun K hK => ?_)
    refine wp_store_row 24 _ _ rfl gx (#[.int .i64 i, .slice (some ⟨g, 0, none⟩) 0 N]) rfl rfl 24 (#[.int .i64 0, .slice none 0 0]) hx (by kernel_rfl) (by rfl) (by simp [Value.oneCell']) (hK.out _ _ (fun h => absurd h (by decide)) ?_)
    (try simp only [Act.put, List.getElem_toArray, List.getElem_cons_zero, List.getElem_cons_succ, List.setIfInBounds_toArray, List.set_cons_zero, List.set_cons_succ])
    refine wpAnyX_done (by kernel_rfl) ?_ _
    have hX0 := hx.row #[.int .i64 i, .slice (some ⟨g, 0, none⟩) 0 N]
    have hT0 : TrO (wk2.setRow gx #[.int .i64 i, .slice (some ⟨g, 0, none⟩) 0 N]) w.heap.size g N _ [] := TrO.start (hg.rowOther (obs_ne_trace hx hg).symm _) (by have := HZ1.out; omega) (size_madeCells _ _) hN2 (made_one N)
    have hBA := below_setRow hbf hxz #[.int .i64 i, .slice (some ⟨g, 0, none⟩) 0 N]
    have HXA := Lib.hid hX0
    have HTA := Lib.hid hT0
    have HBA := Lib.hid hBA
    have t1 := (HM1.out _ hBA).cell 1
    simp at t1
    generalize wk2.setRow gx #[.int .i64 i, .slice (some ⟨g, 0, none⟩) 0 N] = wA at HXA HTA HBA t1 ⊢
    clear hX0 hT0 hBA hx hg hbf
    go_upto_region 3 with fail
    clear t1
    go_loopw [25] (fun v25 wr => ∃ (k : Nat) (cur : Array Value), v25 = .int .i64 k ∧ k ≤ tn ∧ Hid (Bx wr gx #[.int .i64 i, .slice (some ⟨g, 0, none⟩) k N] 24) ∧ Hid (TrO wr w.heap.size g N cur (ts.take k)) ∧ Hid (Below w1.heap.size w1 wr)) (fun v25 _ => tn - (intOf v25).toNat)
    case atStart => exact ⟨0, _, rfl, Nat.zero_le _, HXA, Lib.hid (by rw [List.take_zero]; exact HTA.out), HBA⟩
    case round =>
      obtain ⟨k, cur, rfl, hk, HX, HTk, HBR⟩ := hrel
      by_cases hlt : k < tn
      · obtain ⟨b, off, A1, n1, c1, A2, n2, c2, eT, hgb, j1, j2, q1, q2, j3, j4⟩ := (HT.out.below HBR.out).at_ hlt
        subst eT
        have hkI : (k : Int) < (tn : Int) := by omega
        have hk0 : (0 : Int) ≤ (k : Int) := by omega
        have hl7 := alloc_below wr (.cells #[.slice A1 n1 c1, .slice A2 n2 c2] 38)
        have hm7 := bx_new wr #[.slice A1 n1 c1, .slice A2 n2 c2] 38
        have HI1 := Lib.hid (j3.below hl7)
        have HI2 := Lib.hid (j4.below hl7)
        have HN1 := Lib.hid j3.1
        have HN2 := Lib.hid j4.1
        have hn1 := j3.2.1
        have hn2 := j4.2.1
        have HX7 := Lib.hid (HX.out.on hl7)
        have HT7 := Lib.hid (HTk.out.below hl7)
        have HB7 := Lib.hid (HBR.out.trans (hl7.mono HBR.out.size))
        have HM7 := Lib.hid hm7
        have hlk : (ts.take k).length = k := by rw [List.length_take, HLT.out]; omega
        have HLK := Lib.hid hlk
        have hszw : w.heap.size ≤ wr.heap.size := Nat.le_trans HB0.out.size HBR.out.size
        have hgr : g < wr.heap.size := HTk.out.bx.lt
        clear hm7 j3 j4 q1 q2 hgb hlk
        go_upto_region 5 with fail
        generalize wr.alloc (.cells #[.slice A1 n1 c1, .slice A2 n2 c2] 38) = w7 at hl7 HI1 HI2 HX7 HT7 HB7 HM7 ⊢
        have hw7 : w.heap.size ≤ w7.heap.size := Nat.le_trans hszw hl7.size
        clear j1 j2 hl7
        have HS := Lib.hid (show ∀ W, Below w7.heap.size w7 W → Bx W wr.heap.size #[.slice A1 n1 c1, .slice A2 n2 c2] 38 ∧ W.cell? ⟨gx, 1, none⟩ = some (.slice (some ⟨g, 0, none⟩) k N) from fun W h => ⟨HM7.out.on h, by have := (HX7.out.on h).cell 1; simpa using this⟩)
        have hbf : Below w7.heap.size w7 w7.drew := below_drewN (Below.refl _ _) 1
        refine wp_region_heldX (X := fun k => ([7] : List Nat).contains k) (S := fun W => Bx W wr.heap.size #[.slice A1 n1 c1, .slice A2 n2 c2] 38 ∧ W.cell? ⟨gx, 1, none⟩ = some (.slice (some ⟨g, 0, none⟩) k N)) (by kernel_rfl) ?_
        generalize w7.drew = wkd at hbf ⊢
        refine wpAnyX_pure (i := 0) (v := ?_) rfl (by kernel_rfl) (by kernel_rfl) (by kernel_rfl) (fun _ _ _ h => h) (Or.inl ⟨by rfl, ?_⟩) ?_
        rotate_left
        · (intro W _; go_simp; try with_reducible rfl)
        (try simp only [Act.put, List.getElem_toArray, List.getElem_cons_zero, List.getElem_cons_succ, List.setIfInBounds_toArray, List.set_cons_zero, List.set_cons_succ])
        refine wpAnyX_takeL (L := [7]) (i := 1) (v := ?_) rfl (by kernel_rfl) (by kernel_rfl) (by kernel_rfl) (by kernel_rfl) (fun _ _ _ h => h) (Or.inl ⟨by rfl, ?_⟩) (HS.out _ hbf) ?_
        rotate_left
        · (intro W hSW; (try dsimp only at hSW); obtain ⟨z0, z1⟩ := hSW; go_simp; try with_reducible rfl)
        (try simp only [Act.put, List.getElem_toArray, List.getElem_cons_zero, List.getElem_cons_succ, List.setIfInBounds_toArray, List.set_cons_zero, List.set_cons_succ])
        refine wpAnyX_takeL (L := [7]) (i := 2) (v := .agg (#[.slice A1 n1 c1, .slice A2 n2 c2])) rfl (by kernel_rfl) (by kernel_rfl) (by kernel_rfl) (by kernel_rfl) (fun _ _ _ h => h) (Or.inl ⟨by rfl, fun W hSW => run_load_bx 38 _ rfl (wr.heap.size) rfl 38 (#[.slice A1 n1 c1, .slice A2 n2 c2]) (0, 0) _ (hSW.1) Try.underlying38 rfl (by kernel_rfl)⟩) (HS.out _ hbf) ?_
        (try simp only [Act.put, List.getElem_toArray, List.getElem_cons_zero, List.getElem_cons_succ, List.setIfInBounds_toArray, List.set_cons_zero, List.set_cons_succ])
        refine wpAnyX_one (i := 3) rfl (by kernel_rfl) (fun K hK => ?_)
        go_simp
        go_at_call 105
        refine (pcopied16 A1 A2 n1 c1 n2 c2 (tIn ts k) (tOut ts k) _ (HI1.out.below hbf) (HI2.out.below hbf)).mono ?_
        rintro r w9 ⟨B1, B2, d1, d2, rfl, o1, o2, b9⟩
        have o1 := o1.lower (base' := w.heap.size) (Nat.le_trans hw7 hbf.size)
        have o2 := o2.lower (base' := w.heap.size) (Nat.le_trans hw7 hbf.size)
        have hbf := bt hbf b9
        clear b9
        refine hK.out _ _ (fun _ _ => HS.out _ hbf) ?_
        (try simp only [Act.put, List.getElem_toArray, List.getElem_cons_zero, List.getElem_cons_succ, List.setIfInBounds_toArray, List.set_cons_zero, List.set_cons_succ])
        refine wpAnyX_one (i := 4) rfl (by kernel_rfl) (fun K hK => ?_)
        go_simp
        have l9 := alloc_below w9 (.cells #[.slice B1 n1 d1, .slice B2 n2 d2] 38)
        have hv9 := bx_new w9 #[.slice B1 n1 d1, .slice B2 n2 d2] 38
        obtain ⟨wa, hwa⟩ : ∃ wa, wa = w9.alloc (.cells #[.slice B1 n1 d1, .slice B2 n2 d2] 38) := ⟨_, rfl⟩
        rw [← hwa] at l9 hv9 ⊢
        have o1 := o1.kept l9
        have o2 := o2.kept l9
        have hbf := bt hbf l9
        clear l9 hwa
        refine hK.out _ _ (fun _ _ => HS.out _ hbf) ?_
        (try simp only [Act.put, List.getElem_toArray, List.getElem_cons_zero, List.getElem_cons_succ, List.setIfInBounds_toArray, List.set_cons_zero, List.set_cons_succ])
        refine wpAnyX_one (i := 5) rfl (by kernel_rfl) (fun K hK => ?_)
        have hta := HT7.out.below hbf
        have hrn := hta.push_run (by rw [HLK.out]; have := HN.out; omega) hv9 rfl rfl 22
        rw [HLK.out] at hrn
        refine step_appE rfl _ _ _ _ rfl _ _ rfl rfl _ _ hrn (hK.out _ _ (fun _ _ => ?_) ?_)
        · exact ⟨(HS.out _ hbf).1.rowOther (by have := HX7.out.lt; have := hgr; omega) _, by have := ((HX7.out.on hbf).rowOther (obs_ne_trace (HX7.out.on hbf) hta.bx) (cur.toList.take (k * 2) ++ Value.slice B1 n1 d1 :: Value.slice B2 n2 d2 :: cur.toList.drop (k * 2 + 2)).toArray).cell 1; simpa using this⟩
        (try simp only [Act.put, List.getElem_toArray, List.getElem_cons_zero, List.getElem_cons_succ, List.setIfInBounds_toArray, List.set_cons_zero, List.set_cons_succ])
        obtain ⟨wb, hwb⟩ : ∃ wb, wb = wa.setRow g (cur.toList.take (k * 2) ++ Value.slice B1 n1 d1 :: Value.slice B2 n2 d2 :: cur.toList.drop (k * 2 + 2)).toArray := ⟨_, rfl⟩
        rw [← hwb]
        obtain ⟨cur', htr⟩ := TrO.pushed (w1 := wb) hta (by rw [HLK.out]; have := HN.out; omega) (xs := tIn ts k) (ys := tOut ts k) (B1 := B1) (B2 := B2) (d1 := d1) (d2 := d2) (by rw [HN1.out]; exact o1) (by rw [HN2.out]; exact o2) (by rw [HN1.out]; exact hn1) (by rw [HN2.out]; exact hn2) (by rw [HLK.out, HN1.out, HN2.out]; exact hwb)
        rw [take_snoc (by rw [HLT.out]; exact hlt)] at htr
        have hMb : Bx wb gx #[.int .i64 i, .slice (some ⟨g, 0, none⟩) k N] 24 := by rw [hwb]; exact (HX7.out.on hbf).rowOther (obs_ne_trace (HX7.out.on hbf) hta.bx) _
        have hBb : Below w1.heap.size w1 wb := by rw [hwb]; exact below_setRow (HB7.out.trans (hbf.mono HB7.out.size)) hgz _
        have kx1 := hMb.cell 1
        have kf1 := hMb.free 1
        simp at kx1
        clear hwb hrn hta
        refine wpAnyX_pure (i := 6) (v := ?_) rfl (by kernel_rfl) (by kernel_rfl) (by kernel_rfl) (fun _ _ _ h => h) (Or.inl ⟨by rfl, ?_⟩) ?_
        rotate_left
        · (intro W _; go_simp; try with_reducible rfl)
        (try simp only [Act.put, List.getElem_toArray, List.getElem_cons_zero, List.getElem_cons_succ, List.setIfInBounds_toArray, List.set_cons_zero, List.set_cons_succ])
        refine wpAnyX_one (i := 7) rfl (by kernel_rfl) (fun K hK => ?_)
        go_simp
        refine hK.out _ _ (fun h => absurd h (by decide)) ?_
        (try simp only [Act.put, List.getElem_toArray, List.getElem_cons_zero, List.getElem_cons_succ, List.setIfInBounds_toArray, List.set_cons_zero, List.set_cons_succ])
        refine wpAnyX_done (by kernel_rfl) ?_ _
        have HXn := Lib.hid (hMb.on1 (.slice (some ⟨g, 0, none⟩) (k + 1) N))
        have HTn := Lib.hid (htr.boxed hMb (.slice (some ⟨g, 0, none⟩) (k + 1) N))
        have HBn := Lib.hid (hBb.setCell (p := ⟨gx, 1, none⟩) hxz (.slice (some ⟨g, 0, none⟩) (k + 1) N))
        have wk1 : IntKind.i64.wrap ((k : Int) + 1) = ((k + 1 : Nat) : Int) := by rw [IntKind.wrap_i64]; omega
        clear hMb htr hBb kx1 kf1 hbf o1 o2 hv9
        go_wp2_with fail
        go_roundw
        case measure => simp [intOf]; omega
        case rel => exact ⟨k + 1, cur', rfl, by omega, HXn, HTn, HBn⟩
      obtain rfl : k = tn := by omega
      have hkI : ¬ (k : Int) < (k : Int) := by omega
      have HTk : Hid (TrO wr w.heap.size g N cur ts) := Lib.hid (by have := HTk.out; rwa [List.take_of_length_le (by rw [HLT.out]; exact Nat.le_refl _)] at this)
      go_wp2_with fail
      go_loopw [39] (fun v39 wr => ∃ (k2 q : Nat) (cur2 : Array Value) (tsk : List (List Int × List Int)), v39 = .int .i64 k2 ∧ k2 ≤ un ∧ Hid (q = tsk.length) ∧ q ≤ k + k2 ∧ Hid (Bx wr gx #[.int .i64 i, .slice (some ⟨g, 0, none⟩) q N] 24) ∧ Hid (TrO wr w.heap.size g N cur2 tsk) ∧ Hid (Below w1.heap.size w1 wr) ∧ Hid (Srt tsk) ∧ Hid (Full tsk) ∧ Hid (∀ e ts', AddsR i (us.drop k2) tsk e ts' → AddsR i us ts e ts')) (fun v39 _ => un - (intOf v39).toNat)
      case atStart => exact ⟨0, k, cur, ts, rfl, Nat.zero_le _, Lib.hid HLT.out.symm, Nat.le_refl _, HX, HTk, HBR, HSS, HFF, Lib.hid (fun e ts' h => by rwa [List.drop_zero] at h)⟩
      case round =>
        clear HX HTk HBR
        rename_i wr0
        obtain ⟨k2, q, cur2, tsk, rfl, hk2, HQ, hqk, HX, HTk, HBR, HSk, HFk, HAd⟩ := hrel
        by_cases hlt2 : k2 < un
        · obtain ⟨b, off, A1, n1, c1, A2, n2, c2, eU, hgb, j1, j2, q1, q2, j3, j4⟩ := (HU.out.below HBR.out).at_ hlt2
          subst eU
          obtain ⟨_, _, B1, p1, d1, B2, p2, d2, eU, _, i1, i2, _, _, i3, i4⟩ := HU.out.at_ hlt2
          cases eU
          have HI1 := Lib.hid (show Ints w1 A1 n1 (tIn us k2) by
            have e1 := (HBR.out.cell (p := ⟨b, off + k2 * 2, none⟩) (by assumption)).trans i1
            rw [j1] at e1; cases e1; exact i3)
          have HI2 := Lib.hid (show Ints w1 A2 n2 (tOut us k2) by
            have e1 := (HBR.out.cell (p := ⟨b, off + k2 * 2 + 1, none⟩) (by assumption)).trans i2
            rw [j2] at e1; cases e1; exact i4)
          have hkI2 : (k2 : Int) < (un : Int) := by omega
          have hk02 : (0 : Int) ≤ (k2 : Int) := by omega
          have hl7 := alloc_below wr (.cells #[.slice A1 n1 c1, .slice A2 n2 c2] 38)
          have hm7 := bx_new wr #[.slice A1 n1 c1, .slice A2 n2 c2] 38
          have hB7 := HBR.out.trans (hl7.mono HBR.out.size)
          have HIN := Lib.hid (pinsert i A1 A2 n1 c1 n2 c2 gx g N w.heap.size w1.heap.size cur2 tsk (tIn us k2) (tOut us k2) _ (by rw [← HQ.out]; exact HX.out.on hl7) (HTk.out.below hl7) (fun W h => HI1.out.below (hB7.trans h)) q1 (fun W h => HI2.out.below (hB7.trans h)) q2 HSk.out HFk.out (by rw [← HQ.out]; have := HN.out; omega) hxz hgz HB0.out.size)
          have HB7 := Lib.hid hB7
          have t0 := hm7.cell 0
          have t1 := hm7.cell 1
          simp at t0 t1
          have HUD := Lib.hid (drop_cons (ts := us) (k := k2) (by rw [HLU.out]; exact hlt2))
          clear hm7 hl7 hB7 i1 i2 i3 i4 j3 j4 q1 q2 hgb
          go_wp2_with fail
          refine HIN.out.mono ?_
          clear j1 j2 t0 t1
          rintro r w9 ⟨e, ts', rfl, HR, hB9, hok⟩
          have HRR := Lib.hid HR
          clear HR
          have hbw := HB7.out.trans hB9
          by_cases he : e = 0
          · subst he
            obtain ⟨cur', hX', hT'⟩ := hok rfl
            have HXn := Lib.hid hX'
            have HTn := Lib.hid hT'
            have HBn := Lib.hid hbw
            have hl' := HRR.out.len
            have wk1 : IntKind.i64.wrap ((k2 : Int) + 1) = ((k2 + 1 : Nat) : Int) := by rw [IntKind.wrap_i64]; omega
            have HQ2 : Hid (ts'.length ≤ k + (k2 + 1)) := Lib.hid (by have := HQ.out; omega)
            clear hX' hT' hok hbw hB9 hl'
            go_wp2_with fail
            go_roundw
            case measure => simp [intOf]; omega
            case rel =>
              exact ⟨k2 + 1, ts'.length, cur', ts', rfl, by omega, Lib.hid rfl, HQ2.out, HXn, HTn, HBn, Lib.hid (HRR.out.srt HSk.out), Lib.hid (HRR.out.full HFk.out), Lib.hid (fun e ts2 h => HAd.out e ts2 (by rw [HUD.out]; exact AddsR.step HRR.out h))⟩
          · have hne : (e != 0) = true := by simpa using he
            have HE := Lib.hid he
            have m1 := HM1.out _ hbw
            have m2 := HM2.out _ hbw
            have p0 := m1.cell 0
            have p1 := m1.cell 1
            have f0 := m2.free 0
            have f1 := m2.free 1
            have r0 := m2.cell 0
            have r1 := m2.cell 1
            simp at p0 p1 r0 r1
            have HR2 := Lib.hid (m2.set2 (.int .i64 i) (.slice T k tc))
            have HBF := Lib.hid (set2B (g := w.heap.size + 1) (HB0.out.trans (hbw.mono HB0.out.size)) (by omega) (.int .i64 i) (.slice T k tc))
            clear m1 m2 hok hbw hB9 he
            go_wp2_with fail
            (try rw [Exit.noGoto_ret])
            refine bodyPost_ret (results_obs_tmp rfl _ _ (w.heap.size + 1) (.int .i64 i) (.slice T k tc) rfl HR2.out) rfl ?_
            exact ⟨HBF.out, e, ts', HAd.out e ts' (by rw [HUD.out]; exact AddsR.stop HRR.out HE.out ts'), .inl ⟨HE.out, rfl⟩⟩
        · obtain rfl : k2 = un := by omega
          have hkI2 : ¬ (k2 : Int) < (k2 : Int) := by omega
          have m2 := HM2.out _ HBR.out
          have mx := HX.out
          have p0 := mx.cell 0
          have p1 := mx.cell 1
          have f0 := m2.free 0
          have f1 := m2.free 1
          have r0 := m2.cell 0
          have r1 := m2.cell 1
          simp at p0 p1 r0 r1
          have HR2 := Lib.hid (m2.set2 (.int .i64 i) (.slice (some ⟨g, 0, none⟩) q N))
          have HTF := Lib.hid (HTk.out.set2 m2 (.int .i64 i) (.slice (some ⟨g, 0, none⟩) q N))
          have HBF := Lib.hid (set2B (g := w.heap.size + 1) (HB0.out.trans (HBR.out.mono HB0.out.size)) (by omega) (.int .i64 i) (.slice (some ⟨g, 0, none⟩) q N))
          clear m2 mx
          go_wp2_with fail
          (try rw [Exit.noGoto_ret])
          refine bodyPost_ret (results_obs_tmp rfl _ _ (w.heap.size + 1) (.int .i64 i) (.slice (some ⟨g, 0, none⟩) q N) rfl HR2.out) rfl ?_
          exact ⟨HBF.out, 0, tsk, HAd.out 0 tsk (by rw [List.drop_eq_nil_of_le (by rw [HLU.out]; exact Nat.le_refl _)]; exact AddsR.nil tsk), .inr ⟨rfl, g, N, cur2, by rw [← HQ.out]; rfl, HTF.out⟩⟩
end Go.Proofs.Ytkgdgnmobahhfaa
end

section
/- observe.Of of the program. -/
namespace Go.Proofs.Ytkgdgnmobahhfaa
open Go.RowKit Go.Shelf

theorem trs_mem {i st : Nat} {nx ot : List (List Int)} {ws : List (List Int)} : ∀ (vs : List (List Int)) (l : List (List Int × List Int)), (∀ v, v ∈ vs → v ∈ ws) → (∀ u, u ∈ l → u.1 ∈ ws ∧ u.2 = runO nx ot st u.1 ∧ chk u.1 i = 0) → ∀ u, u ∈ (trs i st nx ot vs l).1 → u.1 ∈ ws ∧ u.2 = runO nx ot st u.1 ∧ chk u.1 i = 0
  | [], l, _, hl => hl
  | v :: vs, l, hv, hl => by
    unfold trs
    by_cases hc : chk v i = 0
    · rw [if_pos hc]
      refine trs_mem vs _ (fun x hx => hv x (List.mem_cons_of_mem _ hx)) (fun u hu => ?_)
      rcases List.mem_append.1 hu with hu | hu
      · exact hl u hu
      · rw [List.mem_singleton] at hu
        subst hu
        exact ⟨hv v List.mem_cons_self, rfl, hc⟩
    · rw [if_neg hc]
      intro u hu
      simp at hu
/-- The result of Of: the error of Traces, or what adding the traces in order gives. -/
def OfE (i : Int) (us : List (List Int × List Int)) (e0 : Int) (w : World) (r : Ending) (w' : World) : Prop :=
  Below w.heap.size w w' ∧ ∃ (e : Int) (ts' : List (List Int × List Int)), ((¬ e0 = 0 ∧ e = e0) ∨ (e0 = 0 ∧ AddsR i us [] e ts')) ∧
    ((¬ e = 0 ∧ r = .returned (.tuple #[.agg #[.int .i64 0, .slice none 0 0], .int .i64 e])) ∨
     (e = 0 ∧ ∃ (g N : Nat) (cur' : Array Value), r = .returned (.tuple #[.agg #[.int .i64 i, .slice (some ⟨g, 0, none⟩) ts'.length N], .int .i64 0]) ∧ TrO w' w.heap.size g N cur' ts'))
theorem TrO.base {w : World} {base base' g N : Nat} {cur : Array Value} {ts : List (List Int × List Int)} (h : TrO w base g N cur ts) (hb : base' ≤ base) : TrO w base' g N cur ts :=
  ⟨h.bx, Nat.le_trans hb h.ge, h.sz, h.le, h.cap, h.one, fun j hj => by
    obtain ⟨A1, c1, A2, c2, e1, e2, o1, o2⟩ := h.hd j hj
    exact ⟨A1, c1, A2, c2, e1, e2, o1.lower hb, o2.lower hb⟩, h.sm⟩
theorem Trs.none_ (w : World) : Trs w none 0 [] := ⟨rfl, by omega, fun h => absurd h (by omega)⟩

set_option linter.unusedSimpArgs false in
set_option linter.unusedVariables false in
set_option maxHeartbeats 8000000 in
set_option maxRecDepth 100000 in
theorem pof_bad (i st : Int) (A B C : Option Addr) (n c m d p e : Nat) (nx ot : List (List Int)) (E : Int) (w : World) (hx : Lists w A n nx) (ho : Lists w B m ot) (hE : vld i st nx ot = E) (hv : ¬ E = 0) :
    Calls Try.prog 36 #[.agg #[.int .i64 i, .int .i64 st, .slice A n c, .slice B m d], .slice C p e] w fun r w' => OfE i [] E w r w' := by
  obtain ⟨w1, hw1⟩ : ∃ w1, w1 = (w.alloc (.cells #[.int .i64 i, .int .i64 st, .slice A n c, .slice B m d] 56)).alloc (.cells #[.int .i64 0, .slice none 0 0] 24) := ⟨_, rfl⟩
  obtain ⟨hb0, m1, m2, hs0⟩ := bxs2 w #[.int .i64 i, .int .i64 st, .slice A n c, .slice B m d] #[.int .i64 0, .slice none 0 0] 56 24 w1 hw1
  have HCT := Lib.hid (ptraces_bad i st A B C n c m d p e nx ot E w1 (hx.below hb0) (ho.below hb0) hE hv)
  have HM2 := Lib.hid (fun (W : World) (h : Below w1.heap.size w1 W) => m2.on h)
  have HB0 := Lib.hid hb0
  have HW1 := Lib.hid hw1
  have HE := Lib.hid hv
  have hne : (E != 0) = true := by simpa using hv
  have q0 := m1.cell 0
  have q1 := m1.cell 1
  have q2 := m1.cell 2
  have q3 := m1.cell 3
  simp at q0 q1 q2 q3
  rw [hw1] at q0 q1 q2 q3
  clear hw1 hb0 m1 m2 hs0 hx ho hE hv
  go_enter Try.func36, Try.ntmps36
  go_wp2_with fail
  rw [← HW1.out]
  refine HCT.out.mono ?_
  rintro r w2 ⟨rfl, b2⟩
  clear q0 q1 q2 q3
  have m2 := HM2.out _ b2
  have f0 := m2.free 0
  have f1 := m2.free 1
  have r0 := m2.cell 0
  have r1 := m2.cell 1
  simp at r0 r1
  have HR2 := Lib.hid (m2.set2 (.int .i64 0) (.slice none 0 0))
  have HBF := Lib.hid (set2B (g := w.heap.size + 1) (HB0.out.trans (b2.mono HB0.out.size)) (by omega) (.int .i64 0) (.slice none 0 0))
  clear m2 b2
  go_wp2_with fail
  (try rw [Exit.noGoto_ret])
  refine bodyPost_ret (results_obs_tmp rfl _ _ (w.heap.size + 1) (.int .i64 0) (.slice none 0 0) rfl HR2.out) rfl ?_
  exact ⟨HBF.out, E, [], .inl ⟨HE.out, rfl⟩, .inl ⟨HE.out, rfl⟩⟩

set_option linter.unusedSimpArgs false in
set_option linter.unusedVariables false in
set_option maxHeartbeats 8000000 in
set_option maxRecDepth 100000 in
theorem pof_ok (i st n : Nat) (A B C : Option Addr) (c d p e : Nat) (nx ot ws : List (List Int)) (w : World) (hx : Lists w A n nx) (ho : Lists w B n ot) (hM : Mok i st n nx ot) (hW : Lists w C p ws) (hp : p ≤ 10000) (hwl : ∀ x, x ∈ ws → x.length ≤ 17592186044416) :
    Calls Try.prog 36 #[.agg #[.int .i64 i, .int .i64 st, .slice A n c, .slice B n d], .slice C p e] w fun r w' => OfE i (trs i st nx ot ws []).1 (trs i st nx ot ws []).2 w r w' := by
  obtain ⟨w1, hw1⟩ : ∃ w1, w1 = (w.alloc (.cells #[.int .i64 i, .int .i64 st, .slice A n c, .slice B n d] 56)).alloc (.cells #[.int .i64 0, .slice none 0 0] 24) := ⟨_, rfl⟩
  obtain ⟨hb0, m1, m2, hs0⟩ := bxs2 w #[.int .i64 i, .int .i64 st, .slice A n c, .slice B n d] #[.int .i64 0, .slice none 0 0] 56 24 w1 hw1
  have HCT := Lib.hid (ptraces_ok i st n A B C c d p e nx ot ws w1 (hx.below hb0) (ho.below hb0) hM (hW.below hb0) hp)
  obtain ⟨us, hus⟩ : ∃ us, us = (trs i st nx ot ws []).1 := ⟨_, rfl⟩
  obtain ⟨E, hE⟩ : ∃ E, E = (trs i st nx ot ws []).2 := ⟨_, rfl⟩
  have hul : us.length ≤ p := by rw [hus]; have := trs_len (i := i) (st := st) (nx := nx) (ot := ot) ws []; rw [hW.1] at this; simpa using this
  have HUM := Lib.hid (show ∀ u, u ∈ us → u.1 ∈ ws ∧ u.2 = runO nx ot st u.1 ∧ chk u.1 i = 0 by rw [hus]; exact trs_mem ws [] (fun _ h => h) (fun u hu => absurd hu (by simp)))
  rw [← hus, ← hE] at HCT ⊢
  clear hus
  have HEE := Lib.hid hE
  clear hE
  have HM1 := Lib.hid (fun (W : World) (h : Below w1.heap.size w1 W) => m1.on h)
  have HM2 := Lib.hid (fun (W : World) (h : Below w1.heap.size w1 W) => m2.on h)
  have HB0 := Lib.hid hb0
  have HW1 := Lib.hid hw1
  have HZ1 := Lib.hid hs0
  have HWL := Lib.hid hwl
  have q0 := m1.cell 0
  have q1 := m1.cell 1
  have q2 := m1.cell 2
  have q3 := m1.cell 3
  simp at q0 q1 q2 q3
  rw [hw1] at q0 q1 q2 q3
  clear hw1 hb0 m1 m2 hs0 hx ho hM hW hwl
  go_enter Try.func36, Try.ntmps36
  go_wp2_with fail
  rw [← HW1.out]
  refine HCT.out.mono ?_
  rintro r w2 ⟨A', c', rfl, o2, b2⟩
  clear q0 q1 q2 q3
  by_cases hE : E = 0
  case neg =>
    have hne : (E != 0) = true := by simpa using hE
    have HE := Lib.hid hE
    have m2 := HM2.out _ b2
    have f0 := m2.free 0
    have f1 := m2.free 1
    have r0 := m2.cell 0
    have r1 := m2.cell 1
    simp at r0 r1
    have HR2 := Lib.hid (m2.set2 (.int .i64 0) (.slice none 0 0))
    have HBF := Lib.hid (set2B (g := w.heap.size + 1) (HB0.out.trans (b2.mono HB0.out.size)) (by omega) (.int .i64 0) (.slice none 0 0))
    clear m2 b2 o2 hE
    go_wp2_with fail
    (try rw [Exit.noGoto_ret])
    refine bodyPost_ret (results_obs_tmp rfl _ _ (w.heap.size + 1) (.int .i64 0) (.slice none 0 0) rfl HR2.out) rfl ?_
    exact ⟨HBF.out, E, [], .inl ⟨HE.out, rfl⟩, .inl ⟨HE.out, rfl⟩⟩
  subst hE
  have hU : Trs w2 A' us.length us := o2.trs (by omega) (fun j hj => by
    obtain ⟨h1, h2, _⟩ := HUM.out _ (List.getElem_mem hj)
    have e1 : tIn us j = us[j].1 := by unfold tIn; rw [List.getD_eq_getElem?_getD, List.getElem?_eq_getElem hj]; rfl
    have e2 : tOut us j = us[j].2 := by unfold tOut; rw [List.getD_eq_getElem?_getD, List.getElem?_eq_getElem hj]; rfl
    rw [e1, e2, h2, runO_len]
    exact ⟨HWL.out _ h1, HWL.out _ h1⟩)
  have HWI := Lib.hid (pwith (i : Int) none A' 0 0 us.length c' [] us w2 (Trs.none_ w2) hU srt_none full_none (by omega) (by omega))
  have k0 := (HM1.out _ b2).cell 0
  simp at k0
  have HB2 := Lib.hid b2
  clear o2 hU b2
  go_wp2_with fail
  refine HWI.out.mono ?_
  rintro r w3 ⟨b3, e, ts', hA, hr⟩
  clear k0
  have HAA := Lib.hid hA
  have HB3 := Lib.hid (bt HB2.out b3)
  have hz2 : w.heap.size ≤ w2.heap.size := Nat.le_trans HB0.out.size HB2.out.size
  clear hA
  rcases hr with ⟨he, rfl⟩ | ⟨rfl, g, N, cur', rfl, hT⟩
  · have hne : (e != 0) = true := by simpa using he
    have HE := Lib.hid he
    have hal := alloc_below w3 (.cells #[.int .i64 (i : Int), .slice none 0 0] 24)
    have m2 := HM2.out _ (HB3.out.trans (hal.mono HB3.out.size))
    have f0 := m2.free 0
    have f1 := m2.free 1
    have r0 := m2.cell 0
    have r1 := m2.cell 1
    simp at r0 r1
    have HR2 := Lib.hid (m2.set2 (.int .i64 0) (.slice none 0 0))
    have HBF := Lib.hid (set2B (g := w.heap.size + 1) (HB0.out.trans ((HB3.out.trans (hal.mono HB3.out.size)).mono HB0.out.size)) (by omega) (.int .i64 0) (.slice none 0 0))
    clear m2 b3 he hal
    go_wp2_with fail
    (try rw [Exit.noGoto_ret])
    refine bodyPost_ret (results_obs_tmp rfl _ _ (w.heap.size + 1) (.int .i64 0) (.slice none 0 0) rfl HR2.out) rfl ?_
    exact ⟨HBF.out, e, ts', .inr ⟨rfl, HAA.out⟩, .inl ⟨HE.out, rfl⟩⟩
  · obtain ⟨q, hq⟩ : ∃ q, q = ts'.length := ⟨_, rfl⟩
    rw [← hq]
    have HQ := Lib.hid hq
    clear hq
    have hal := alloc_below w3 (.cells #[.int .i64 (i : Int), .slice (some ⟨g, 0, none⟩) q N] 24)
    have m9 := bx_new w3 #[.int .i64 (i : Int), .slice (some ⟨g, 0, none⟩) q N] 24
    have hT := hT.below hal
    have m2 := HM2.out _ (HB3.out.trans (hal.mono HB3.out.size))
    have p0 := m9.cell 0
    have p1 := m9.cell 1
    have f0 := m2.free 0
    have f1 := m2.free 1
    have r0 := m2.cell 0
    have r1 := m2.cell 1
    simp at p0 p1 r0 r1
    have HR2 := Lib.hid (m2.set2 (.int .i64 (i : Int)) (.slice (some ⟨g, 0, none⟩) q N))
    have HTF := Lib.hid (hT.set2 m2 (.int .i64 (i : Int)) (.slice (some ⟨g, 0, none⟩) q N))
    have HBF := Lib.hid (set2B (g := w.heap.size + 1) (HB0.out.trans ((HB3.out.trans (hal.mono HB3.out.size)).mono HB0.out.size)) (by omega) (.int .i64 (i : Int)) (.slice (some ⟨g, 0, none⟩) q N))
    clear m2 b3 hal hT m9
    go_wp2_with fail
    (try rw [Exit.noGoto_ret])
    refine bodyPost_ret (results_obs_tmp rfl _ _ (w.heap.size + 1) (.int .i64 (i : Int)) (.slice (some ⟨g, 0, none⟩) q N) rfl HR2.out) rfl ?_
    exact ⟨HBF.out, 0, ts', .inr ⟨rfl, HAA.out⟩, .inr ⟨rfl, g, N, cur', by rw [← HQ.out]; rfl, HTF.out.base hz2⟩⟩
end Go.Proofs.Ytkgdgnmobahhfaa
end

section
/- Refuted, the program. -/
namespace Go.Proofs.Ytkgdgnmobahhfaa
open Go.RowKit

set_option linter.unusedSimpArgs false in
set_option linter.unusedVariables false in
set_option maxHeartbeats 4000000 in
set_option maxRecDepth 100000 in
theorem phrefuted_no (i st o : Int) (A B C T : Option Addr) (n c m d k e tn tc : Nat) (w : World) (hio : ¬ i = o) :
    Calls Try.prog 45 #[.agg #[.int .i64 i, .int .i64 st, .slice A n c, .slice B m d, .slice C k e], .agg #[.int .i64 o, .slice T tn tc]] w fun r w' => r = .returned (.tuple #[.slice none 0 0, .bool false, .int .i64 15]) ∧ Below w.heap.size w w' := by
  obtain ⟨hb0, m1, m2, hs0⟩ := bxs2 w #[.int .i64 i, .int .i64 st, .slice A n c, .slice B m d, .slice C k e] #[.int .i64 o, .slice T tn tc] 65 24 _ rfl
  have HB := Lib.hid hb0
  have k0 := m1.cell 0
  have l0 := m2.cell 0
  simp at k0 l0
  have hne : (i != o) = true := by rw [bne_iff_ne]; exact hio
  clear hb0 m1 m2 hs0
  go_enter Try.func45, Try.ntmps45
  go_wp2
  go_ret3
  exact ⟨rfl, HB.out⟩

set_option linter.unusedSimpArgs false in
set_option linter.unusedVariables false in
set_option maxHeartbeats 8000000 in
set_option maxRecDepth 100000 in
theorem phrefuted (i st n : Nat) (A B C T : Option Addr) (c d k e tn tc : Nat) (nx ot : List (List Int)) (ts : List (List Int × List Int)) (w : World) (hx : Lists w A n nx) (ho : Lists w B n ot) (hM : Mok i st n nx ot) (hT : Trs w T tn ts) (hF : Full ts) (hI : Props i ts) (htn : tn ≤ 10000) :
    Calls Try.prog 45 #[.agg #[.int .i64 i, .int .i64 st, .slice A n c, .slice B n d, .slice C k e], .agg #[.int .i64 i, .slice T tn tc]] w fun r w' => Ref3 (Rf nx ot st ts tn) w r w' := by
  obtain ⟨w0, hw0⟩ : ∃ w0, w0 = (w.alloc (.cells #[.int .i64 i, .int .i64 st, .slice A n c, .slice B n d, .slice C k e] 65)).alloc (.cells #[.int .i64 i, .slice T tn tc] 24) := ⟨_, rfl⟩
  obtain ⟨hb0, m1, m2, hs0⟩ := bxs2 w #[.int .i64 i, .int .i64 st, .slice A n c, .slice B n d, .slice C k e] #[.int .i64 i, .slice T tn tc] 65 24 w0 hw0
  have HM1 := Lib.hid (fun (W : World) (h : Below w0.heap.size w0 W) => m1.on h)
  have HM2 := Lib.hid (fun (W : World) (h : Below w0.heap.size w0 W) => m2.on h)
  have HX := Lib.hid (fun (W : World) (h : Below w0.heap.size w0 W) => (hx.below hb0).below h)
  have HO := Lib.hid (fun (W : World) (h : Below w0.heap.size w0 W) => (ho.below hb0).below h)
  have HT := Lib.hid (fun (W : World) (h : Below w0.heap.size w0 W) => (hT.below hb0).below h)
  have HB0 := Lib.hid hb0
  have HW0 := Lib.hid hw0
  have HLT := Lib.hid hT.1
  have HMOK := Lib.hid hM
  have HFF := Lib.hid hF
  have HII := Lib.hid hI
  have hbc := Below.refl w0.heap.size w0
  have k0 := m1.cell 0
  have k1 := m1.cell 1
  have k2 := m1.cell 2
  have k3 := m1.cell 3
  have l0 := m2.cell 0
  have l1 := m2.cell 1
  simp at k0 k1 k2 k3 l0 l1
  rw [hw0] at k0 k1 k2 k3 l0 l1
  have hne : ((i : Int) != (i : Int)) = false := by simp
  clear hw0 hb0 m1 m2 hs0 hx ho hT hM hF hI
  go_enter Try.func45, Try.ntmps45
  go_wp2_with fail
  rw [← HW0.out]
  clear k0 k1 k2 k3 l0 l1
  go_loopw [26, 7] (fun v26 v7 wr => ∃ (q : Nat) (A' : Option Addr) (c' : Nat), v26 = .int .i64 q ∧ q ≤ tn ∧ v7 = .slice A' q c' ∧ Hid (LsH w0 wr w0.heap.size (.slice A' q c') (insK ts q)) ∧ Hid (Below w0.heap.size w0 wr)) (fun v26 _ _ => tn - (intOf v26).toNat)
  case atStart => exact ⟨0, none, 0, rfl, Nat.zero_le _, rfl, Lib.hid (LsH.nil _ _ _), Lib.hid (Below.refl _ _)⟩
  case round =>
    obtain ⟨q, A', c', rfl, hq, rfl, HL, HBR⟩ := hrel
    by_cases hlt : q < tn
    · obtain ⟨b, off, A1, n1, c1, A2, n2, c2, rfl, hgb, j1, j2, _, _, j3, j4⟩ := (HT.out _ HBR.out).at_ hlt
      obtain ⟨_, _, B1, p1, d1, B2, p2, d2, eT, _, i1, _, _, _, i3, _⟩ := (HT.out _ (Below.refl _ _)).at_ hlt
      cases eT
      have HI1 := Lib.hid (show Ints w0 A1 n1 (tIn ts q) by
        have e1 := (HBR.out.cell (p := ⟨b, off + q * 2, none⟩) (by assumption)).trans i1
        rw [j1] at e1; cases e1; exact i3)
      have hil := insK_len ts q
      have hbx := bx_new wr #[.slice A1 n1 c1, .slice A2 n2 c2] 38
      have hal := alloc_below wr (.cells #[.slice A1 n1 c1, .slice A2 n2 c2] 38)
      obtain ⟨A9, c9, w9, hrn, o9, b9⟩ := run_append_lsh (c := c1) (HL.out.keptT (KeptT.of_below hal)) HI1.out (bt HBR.out hal).size (by rw [hil]; omega)
      rw [hil] at hrn o9
      have x0 := hbx.cell 0
      simp at x0
      have HO9 := Lib.hid (show LsH w0 w9 w0.heap.size (.slice A9 (q + 1) c9) (insK ts (q + 1)) from o9)
      have HB9 := Lib.hid ((bt HBR.out hal).trans b9)
      have hsz : (wr.alloc (.cells #[.slice A1 n1 c1, .slice A2 n2 c2] 38)).heap.size = wr.heap.size + 1 := by simp
      rw [hsz] at hrn
      clear i1 i3 j3 j4 hgb o9 b9
      go_wp2_with (at_builtin; refine Lib.wpList_append_run _ rfl _ _ _ _ rfl _ _ rfl rfl _ _ hrn ?_)
      go_roundw
      case rel => exact ⟨q + 1, A9, c9, by go_num, by omega, rfl, HO9, HB9⟩
      case measure => simp [intOf]; omega
    · obtain rfl : q = tn := by omega
      have k0 := (HM1.out _ HBR.out).cell 0
      have k1 := (HM1.out _ HBR.out).cell 1
      have k2 := (HM1.out _ HBR.out).cell 2
      have k3 := (HM1.out _ HBR.out).cell 3
      simp at k0 k1 k2 k3
      have hLW := HL.out.lists HBR.out (by rw [insK_len]; omega)
      have HTR := Lib.hid (ptraces_ok i st n A B A' c d q c' nx ot (insK ts q) wr (HX.out _ HBR.out) (HO.out _ HBR.out) HMOK.out hLW htn)
      have HTM := Lib.hid (show trs i st nx ot (insK ts q) [] = ((insK ts q).map (fun w => (w, runO nx ot st w)), 0) from by
        rw [trs_map _ _ (fun x hx => by
          obtain ⟨j, hj, rfl⟩ := List.getElem_of_mem hx
          rw [insK_len] at hj
          have e1 : (insK ts q)[j] = tIn ts j := by have := insK_at ts hj; rwa [List.getD_eq_getElem?_getD, List.getElem?_eq_getElem (by rw [insK_len]; exact hj)] at this
          rw [e1]
          exact (prp_zero (HII.out j (by rw [HLT.out]; exact hj))).1)]
        simp)
      have HPL := Lib.hid (show ((insK ts q).map (fun w => (w, runO nx ot st w))).length = q by rw [List.length_map, insK_len])
      obtain ⟨Pd, hPd⟩ : ∃ Pd, Pd = (insK ts q).map (fun w => (w, runO nx ot st w)) := ⟨_, rfl⟩
      rw [← hPd] at HTM HPL
      have HPT := Lib.hid (show ∀ j, j < q → tIn Pd j = tIn ts j ∧ tOut Pd j = runO nx ot st (tIn ts j) from fun j hj => by
        have := map_tIn (f := runO nx ot st) (ws := insK ts q) (j := j) (by rw [insK_len]; exact hj)
        rw [hPd, this.1, this.2, insK_at ts hj]; exact ⟨rfl, rfl⟩)
      clear hLW hPd
      go_wp2_with fail
      refine HTR.out.mono ?_
      rintro r w2 ⟨A2, c2, rfl, o2, a2⟩
      rw [HTM.out] at o2 ⊢
      rw [show (Pd, (0 : Int)).1 = Pd from rfl] at o2 ⊢
      rw [HPL.out] at o2 ⊢
      have hbr2 := bt HBR.out a2
      have hPdT := o2.trs (by rw [HPL.out]; omega) (fun j hj => by
        rw [HPL.out] at hj
        have h1 := (prp_zero (HII.out j (by rw [HLT.out]; exact hj))).1
        have h2 := (chk_zero h1).2.2.1
        rw [(HPT.out j hj).1, (HPT.out j hj).2, runO_len]
        omega)
      have HPD := Lib.hid (fun (W : World) (h : Below w2.heap.size w2 W) => hPdT.below h)
      have HB2 := Lib.hid hbr2
      clear o2 hPdT a2 hbr2 k0 k1 k2 k3
      go_wp2_with fail
      go_loopw [48, 12] (fun v48 v12 wr => ∃ (p : Nat) (xs : List Int), v48 = .int .i64 p ∧ p ≤ q ∧ Hid (FirstV wr v12 xs) ∧ Hid (Fst1 (Rf nx ot st ts p) xs) ∧ Hid (Below w2.heap.size w2 wr)) (fun v48 _ _ => q - (intOf v48).toNat)
      case atStart => exact ⟨0, [], rfl, Nat.zero_le _, Lib.hid (.inl ⟨rfl, rfl⟩), Lib.hid (Rf.zero _ _ _ _), Lib.hid (Below.refl _ _)⟩
      case round =>
        obtain ⟨p, xs, rfl, hp, HV, HFS, HBW⟩ := hrel
        by_cases hlp : p < q
        · obtain ⟨b, off, A1, n1, c1, A3, n3, c3, rfl, hgb, j1, j2, q1, q2, j3, j4⟩ := (HPD.out _ HBW.out).at_ hlp
          have hbw0 := bt HB2.out HBW.out
          obtain ⟨wa, hwa⟩ : ∃ wa, wa = wr.alloc (.cells #[.slice A1 n1 c1, .slice A3 n3 c3] 38) := ⟨_, rfl⟩
          have hal : Below wr.heap.size wr wa := by rw [hwa]; exact alloc_below _ _
          have hbx : Bx wa wr.heap.size #[.slice A1 n1 c1, .slice A3 n3 c3] 38 := by rw [hwa]; exact bx_new _ _ _
          obtain ⟨b', off', D1, m1, e1, D2, m2, e2, eT, hgt, i1, i2, _, _, i3, i4⟩ := (HT.out _ (bt hbw0 hal)).at_ hlp
          subst eT
          have x0 := hbx.cell 0
          have x1 := hbx.cell 1
          have l1 := (HM2.out _ (bt hbw0 hal)).cell 1
          simp at x0 x1 l1
          have hPp := HPT.out p hlp
          rw [hPp.1] at j3
          rw [hPp.2] at j4
          have hprp := prp_zero (HII.out p (by rw [HLT.out]; exact hlp))
          have hchk := (chk_zero hprp.1).2.2.1
          have hlen : (runO nx ot st (tIn ts p)).length = (tOut ts p).length := by rw [runO_len, hprp.2.1]
          have hn3 : n3 = n1 := by rw [← j4.1, ← j3.1, runO_len]
          subst hn3
          have hn3l : (tIn ts p).length = n3 := j3.1
          obtain ⟨K, hK⟩ : ∃ K, K = (if cmn (runO nx ot st (tIn ts p)) (tOut ts p) < n3 then cmn (runO nx ot st (tIn ts p)) (tOut ts p) else 0) := ⟨_, rfl⟩
          obtain ⟨bb, hbb⟩ : ∃ bb, bb = decide (cmn (runO nx ot st (tIn ts p)) (tOut ts p) < n3) := ⟨_, rfl⟩
          have HDF := Lib.hid (fun u => wdiff A3 D2 n3 c3 m2 e2 _ _ K bb (wa.drewN u) ((j4.below hal).drewN u) (i4.drewN u) hlen hK hbb)
          have HJ3 := Lib.hid (j3.below hal)
          have HAL := Lib.hid hal
          have HWA := Lib.hid hwa
          have HBA := Lib.hid (bt HBW.out hal)
          have hpI : (p : Int) < (q : Int) := by omega
          have hp0 : (0 : Int) ≤ (p : Int) := by omega
          have hwa' := hwa
          clear hbx hgb hgt i3 i4 j3 j4 hPp hprp hlen hal hbw0
          by_cases hd : dfN nx ot st ts p < n3
          · have hbt : bb = true := by rw [hbb]; exact decide_eq_true hd
            have hKd : K = dfN nx ot st ts p := by rw [hK]; exact if_pos hd
            subst hbt
            have HKD := Lib.hid hKd
            have hKn : K < n3 := by rw [hKd]; exact hd
            have HYS := Lib.hid (rf_yes (nx := nx) (ot := ot) (st := st) (k := p) (ts := ts) (by rw [hn3l]; exact hd))
            rw [← hKd] at HYS
            have HZL := Lib.hid (show ((tIn ts p).take (K + 1)).length = K + 1 by rw [List.length_take, hn3l]; omega)
            have w1' : IntKind.i64.wrap ((K : Int) + 1) = (K : Int) + 1 := by rw [IntKind.wrap_i64]; omega
            have i1' : (K : Int) + 1 ≤ (c1 : Int) := by omega
            have i2' : (0 : Int) ≤ (K : Int) + 1 := by omega
            have HTK := Lib.hid (HJ3.out.takeX (t := K + 1) (by omega))
            clear hK hbb hd hKd hn3l hwa' hchk
            rw [hwa] at x0 x1 l1 i1 i2 HDF
            clear hwa
            have HV6 := HV.out.below HAL.out
            rcases HV6 with ⟨rfl, rfl⟩ | ⟨g, n8, c8, rfl, hi8, hne8⟩
            · have HX2 := Lib.hid (fst1_new HFS.out (by rw [HZL.out]; exact Nat.succ_pos K) HYS.out (.inl rfl))
              go_wp2
              go_quiet ((go_at_call 83; exact Calls.quiet_of (HDF.out _)))
              go_wp2_with fail
              refine (pearlier_none A1 (K + 1) c1 _).mono ?_
              rintro r w7 ⟨rfl, rfl⟩
              rw [← HWA.out]
              have HFV := Lib.hid (show FirstV (wa.drewN nq) (.slice A1 (K + 1) c1) ((tIn ts p).take (K + 1)) from FirstV.of (HTK.out.drewN nq) (by rw [HZL.out]; exact Nat.succ_pos K))
              go_wp2
              go_roundw
              case rel => exact ⟨p + 1, _, by go_num, by omega, HFV, HX2, Lib.hid (below_drewN HBA.out nq)⟩
              case measure => simp [intOf]; omega
            · have HI8 := Lib.hid hi8
              by_cases hc : shlex ((tIn ts p).take (K + 1)) xs < 0
              · have HX2 := Lib.hid (fst1_new HFS.out (by rw [HZL.out]; exact Nat.succ_pos K) HYS.out (.inr hc))
                have HC := Lib.hid hc
                clear hi8 hne8 hc
                go_wp2
                go_quiet ((go_at_call 83; exact Calls.quiet_of (HDF.out _)))
                go_wp2_with fail
                rw [← HWA.out]
                refine (pearlier_some g A1 n8 c8 (K + 1) c1 xs _ (wa.drewN nq) (HI8.out.drewN nq) (HTK.out.drewN nq)).mono ?_
                rintro r w7 ⟨rfl, u, rfl⟩
                rw [if_pos HC.out]
                have HFV := Lib.hid (show FirstV ((wa.drewN nq).drewN u) (.slice A1 (K + 1) c1) ((tIn ts p).take (K + 1)) from FirstV.of ((HTK.out.drewN nq).drewN u) (by rw [HZL.out]; exact Nat.succ_pos K))
                go_wp2
                go_roundw
                case rel => exact ⟨p + 1, _, by go_num, by omega, HFV, HX2, Lib.hid (below_drewN HBA.out _)⟩
                case measure => simp [intOf]; omega
              · have HX2 := Lib.hid (fst1_old HFS.out HYS.out hne8 hc)
                have HC := Lib.hid hc
                have HN8 := Lib.hid hne8
                clear hi8 hne8 hc
                go_wp2
                go_quiet ((go_at_call 83; exact Calls.quiet_of (HDF.out _)))
                go_wp2_with fail
                rw [← HWA.out]
                refine (pearlier_some g A1 n8 c8 (K + 1) c1 xs _ (wa.drewN nq) (HI8.out.drewN nq) (HTK.out.drewN nq)).mono ?_
                rintro r w7 ⟨rfl, u, rfl⟩
                rw [if_neg (show ¬ shlex ((tIn ts p).take (K + 1)) xs < 0 by have := HC.out; omega)]
                have HFV := Lib.hid (show FirstV ((wa.drewN nq).drewN u) (.slice (some g) n8 c8) xs from .inr ⟨g, n8, c8, rfl, (HI8.out.drewN nq).drewN u, HN8.out⟩)
                go_wp2
                go_roundw
                case rel => exact ⟨p + 1, xs, by go_num, by omega, HFV, HX2, Lib.hid (below_drewN HBA.out _)⟩
                case measure => simp [intOf]; omega
          · have hbt : bb = false := by rw [hbb]; exact decide_eq_false hd
            subst hbt
            have HNO := Lib.hid (rf_no (nx := nx) (ot := ot) (st := st) (k := p) (ts := ts) (by rw [hn3l]; exact hd))
            clear hK hbb hd hn3l hwa' hchk
            rw [hwa] at x0 x1 l1 i1 i2 HDF
            clear hwa
            go_wp2
            go_quiet ((go_at_call 83; exact Calls.quiet_of (HDF.out _)))
            go_wp2
            go_roundw
            case rel => rw [← HWA.out]; exact ⟨p + 1, xs, by go_num, by omega, Lib.hid ((HV.out.below HAL.out).below (below_drewN (Below.refl _ _) nq)), Lib.hid (fst1_skip HFS.out HNO.out), Lib.hid (below_drewN HBA.out nq)⟩
            case measure => simp [intOf]; omega
        · obtain rfl : p = q := by omega
          rcases HV.out with ⟨rfl, rfl⟩ | ⟨g, n', c', rfl, hi8, hne8⟩
          · have he := fun W => run_neqs (P := Try.prog) W 36 3 none 0 0 0 0 Try.underlying36
            go_wp2
            go_ret3
            exact ⟨none, 0, 0, [], false, rfl, HFS.out, Ints.none_ _, ⟨(fun h => nomatch h), fun h => absurd rfl h⟩, bt HB0.out (bt HB2.out HBW.out)⟩
          · have he := fun W => run_neqs (P := Try.prog) W 36 3 (some g) n' c' 0 0 Try.underlying36
            have HI8 := Lib.hid hi8
            have HN8 := Lib.hid hne8
            clear hi8 hne8
            go_wp2
            go_ret3
            exact ⟨some g, n', c', xs, true, rfl, HFS.out, HI8.out, ⟨fun _ => HN8.out, fun _ => rfl⟩, bt HB0.out (bt HB2.out HBW.out)⟩
end Go.Proofs.Ytkgdgnmobahhfaa
end
