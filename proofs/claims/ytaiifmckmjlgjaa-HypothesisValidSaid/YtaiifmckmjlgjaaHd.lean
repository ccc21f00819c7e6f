/- Lemmas of the proofs of this seat, of the parts L22v. Conditions: none. -/
import Derived.Test.YtaiifmckmjlgjaaHc
import Derived.Test.YtaiifmckmjlgjaaHb
section
/- The law HypothesisValid: the walk. -/
namespace Go.Proofs.Ytaiifmckmjlgjaa
open Go.RowKit

set_option linter.unusedSimpArgs false in
set_option linter.unusedVariables false in
set_option maxHeartbeats 8000000 in
set_option maxRecDepth 100000 in
theorem valid22_walk (i st : Int) (A B C : Option Addr) (n c m d k e : Nat) (nx ot acc : List (List Int)) (w : World) (hx : Lists w A n nx) (ho : Lists w B m ot) (hC : Lists w C k acc) :
    Calls Try.prog 3 #[.agg #[.int .i64 i, .int .i64 st, .slice A n c, .slice B m d, .slice C k e]] w fun r w' => r = .returned (.bool true) ∧ Below w.heap.size w w' := by
  obtain ⟨w0, hw0⟩ : ∃ w0, w0 = w.alloc (.cells #[.int .i64 i, .int .i64 st, .slice A n c, .slice B m d, .slice C k e] 26) := ⟨_, rfl⟩
  have hb0 : Below w.heap.size w w0 := by rw [hw0]; exact alloc_below _ _
  have m0 : Bx w0 w.heap.size #[.int .i64 i, .int .i64 st, .slice A n c, .slice B m d, .slice C k e] 26 := by rw [hw0]; exact bx_new _ _ _
  have HM := Lib.hid (fun (W : World) (h : Below w0.heap.size w0 W) => m0.on h)
  have HX := Lib.hid (fun (W : World) (h : Below w0.heap.size w0 W) => (hx.below hb0).below h)
  have HO := Lib.hid (fun (W : World) (h : Below w0.heap.size w0 W) => (ho.below hb0).below h)
  have HC := Lib.hid (fun (W : World) (h : Below w0.heap.size w0 W) => (hC.below hb0).below h)
  have HB0 := Lib.hid hb0
  have HW0 := Lib.hid hw0
  have hbc := Below.refl w0.heap.size w0
  have k0 := m0.cell 0
  have k1 := m0.cell 1
  have k2 := m0.cell 2
  have k3 := m0.cell 3
  have k4 := m0.cell 4
  simp at k0 k1 k2 k3 k4
  rw [hw0] at k0 k1 k2 k3 k4
  clear hw0 hb0 m0 hx ho hC
  go_enter Try.func3, Try.ntmps3
  go_wp2_with fail
  rw [← HW0.out]
  refine (rgreat22 i st A B C n c m d k e acc w0 (HC.out _ hbc)).mono ?_
  rintro r w1 ⟨b, rfl, _, a1⟩
  have hbc := bt hbc a1
  clear a1 k0 k1 k2 k3 k4
  cases b
  case true =>
    go_wp2_with fail
    refine (awake22 _).mono ?_
    rintro r w9 ⟨rfl, a9⟩
    go_wp2
    go_ret
    exact ⟨rfl, bt HB0.out (bt hbc a9)⟩
  case false =>
    obtain ⟨E, hE⟩ : ∃ E, E = hvE i st nx ot acc := ⟨_, rfl⟩
    have HPV := Lib.hid (fun (W : World) (h : Below w1.heap.size w1 W) => phvalid i st A B C n c m d k e nx ot acc W (HX.out _ (bt hbc h)) (HO.out _ (bt hbc h)) (HC.out _ (bt hbc h)))
    have HRV := Lib.hid (fun (W : World) (h : Below w1.heap.size w1 W) => rhvalid i st A B C n c m d k e nx ot acc W (HX.out _ (bt hbc h)) (HO.out _ (bt hbc h)) (HC.out _ (bt hbc h)))
    rw [← hE] at HPV HRV
    have HS := Lib.hid (fun (W : World) (h : Below w1.heap.size w1 W) => HM.out _ (bt hbc h))
    have HBC := Lib.hid (bt HB0.out hbc)
    clear hE hbc
    go_upto_region 3 with fail
    have hbf : Below w1.heap.size w1 w1.drew := below_drewN (Below.refl _ _) 1
    refine wp_region_heldX (X := fun k => ([] : List Nat).contains k) (S := fun W => Bx W w.heap.size #[.int .i64 i, .int .i64 st, .slice A n c, .slice B m d, .slice C k e] 26) (by kernel_rfl) ?_
    refine wpAnyX_takeL (L := []) (i := 0) (v := .agg (#[.int .i64 i, .int .i64 st, .slice A n c, .slice B m d, .slice C k e])) rfl (by kernel_rfl) (by kernel_rfl) (by kernel_rfl) (by kernel_rfl) (fun _ _ _ h => h) (Or.inl ⟨by rfl, fun W hSW => run_load_bx 26 _ rfl (w.heap.size) rfl 26 (#[.int .i64 i, .int .i64 st, .slice A n c, .slice B m d, .slice C k e]) (0, 0) _ (hSW) Try.underlying26 rfl (by kernel_rfl)⟩) (HS.out _ hbf) ?_
    (try simp only [Act.put, List.getElem_toArray, List.getElem_cons_zero, List.getElem_cons_succ, List.setIfInBounds_toArray, List.set_cons_zero, List.set_cons_succ])
    refine wpAnyX_takeL (L := []) (i := 2) (v := .agg (#[.int .i64 i, .int .i64 st, .slice A n c, .slice B m d, .slice C k e])) rfl (by kernel_rfl) (by kernel_rfl) (by kernel_rfl) (by kernel_rfl) (fun _ _ _ h => h) (Or.inl ⟨by rfl, fun W hSW => run_load_bx 26 _ rfl (w.heap.size) rfl 26 (#[.int .i64 i, .int .i64 st, .slice A n c, .slice B m d, .slice C k e]) (0, 0) _ (hSW) Try.underlying26 rfl (by kernel_rfl)⟩) (HS.out _ hbf) ?_
    (try simp only [Act.put, List.getElem_toArray, List.getElem_cons_zero, List.getElem_cons_succ, List.setIfInBounds_toArray, List.set_cons_zero, List.set_cons_succ])
    refine wpAnyX_one (i := 1) rfl (by kernel_rfl) (fun K hK => ?_)
    go_simp
    go_at_call 10
    refine (HPV.out _ hbf).mono ?_
    rintro r u1 ⟨rfl, b9⟩
    have hbf := bt hbf b9
    clear b9
    refine hK.out _ _ (fun _ _ => HS.out _ hbf) ?_
    (try simp only [Act.put, List.getElem_toArray, List.getElem_cons_zero, List.getElem_cons_succ, List.setIfInBounds_toArray, List.set_cons_zero, List.set_cons_succ])
    refine wpAnyX_one (i := 3) rfl (by kernel_rfl) (fun K hK => ?_)
    go_simp
    go_at_call 11
    refine (HRV.out _ hbf).mono ?_
    rintro r u2 ⟨rfl, b9⟩
    have hbf := bt hbf b9
    clear b9
    refine hK.out _ _ (fun _ _ => HS.out _ hbf) ?_
    (try simp only [Act.put, List.getElem_toArray, List.getElem_cons_zero, List.getElem_cons_succ, List.setIfInBounds_toArray, List.set_cons_zero, List.set_cons_succ])
    refine wpAnyX_pure (i := 4) (v := ?_) rfl (by kernel_rfl) (by kernel_rfl) (by kernel_rfl) (fun _ _ _ h => h) (Or.inl ⟨by rfl, ?_⟩) ?_
    rotate_left
    · (intro W _; go_simp; try with_reducible rfl)
    (try simp only [Act.put, List.getElem_toArray, List.getElem_cons_zero, List.getElem_cons_succ, List.setIfInBounds_toArray, List.set_cons_zero, List.set_cons_succ])
    refine wpAnyX_pure (i := 5) (v := ?_) rfl (by kernel_rfl) (by kernel_rfl) (by kernel_rfl) (fun _ _ _ h => h) (Or.inl ⟨by rfl, ?_⟩) ?_
    rotate_left
    · (intro W _; go_simp; try with_reducible rfl)
    (try simp only [Act.put, List.getElem_toArray, List.getElem_cons_zero, List.getElem_cons_succ, List.setIfInBounds_toArray, List.set_cons_zero, List.set_cons_succ])
    refine wpAnyX_one (i := 6) rfl (by kernel_rfl) (fun K hK => ?_)
    go_simp
    go_at_call 9
    refine (awake22 _).mono ?_
    rintro r u3 ⟨rfl, b9⟩
    have hbf := bt hbf b9
    clear b9
    refine hK.out _ _ (fun _ _ => HS.out _ hbf) ?_
    (try simp only [Act.put, List.getElem_toArray, List.getElem_cons_zero, List.getElem_cons_succ, List.setIfInBounds_toArray, List.set_cons_zero, List.set_cons_succ])
    refine wpAnyX_pure (i := 7) (v := ?_) rfl (by kernel_rfl) (by kernel_rfl) (by kernel_rfl) (fun _ _ _ h => h) (Or.inl ⟨by rfl, ?_⟩) ?_
    rotate_left
    · (intro W _; go_simp; try with_reducible rfl)
    (try simp only [Act.put, List.getElem_toArray, List.getElem_cons_zero, List.getElem_cons_succ, List.setIfInBounds_toArray, List.set_cons_zero, List.set_cons_succ])
    refine wpAnyX_pure (i := 8) (v := ?_) rfl (by kernel_rfl) (by kernel_rfl) (by kernel_rfl) (fun _ _ _ h => h) (Or.inl ⟨by rfl, ?_⟩) ?_
    rotate_left
    · (intro W _; go_simp; try with_reducible rfl)
    (try simp only [Act.put, List.getElem_toArray, List.getElem_cons_zero, List.getElem_cons_succ, List.setIfInBounds_toArray, List.set_cons_zero, List.set_cons_succ])
    refine wpAnyX_done (by kernel_rfl) ?_ _
    have HBF := Lib.hid (bt HBC.out hbf)
    clear hbf
    go_wp2
    go_ret
    exact ⟨rfl, HBF.out⟩
end Go.Proofs.Ytaiifmckmjlgjaa
end
