/- The program: Outputs. -/
import Derived.Test.YtihahljpfekmbaaConci
import Derived.Test.YtihahljpfekmbaaSorti
import Derived.Test.YtihahljpfekmbaaCmpi
import Derived.Test.YtihahljpfekmbaaVald
namespace Go.Proofs.Ytihahljpfekmbaa
open Go.RowKit

theorem poutputs_bad (i st : Int) (A B : Option Addr) (n c m d : Nat) (nx ot : List (List Int)) (w : World) (hx : Lists w A n nx) (ho : Lists w B m ot) (hv : ¬ vld i st nx ot = 0) :
    Calls Try.prog 58 #[.agg #[.int .i64 i, .int .i64 st, .slice A n c, .slice B m d]] w fun e w' => e = .returned (.slice none 0 0) ∧ Below w.heap.size w w' := by
  have hb0 := alloc_below w (.cells #[.int .i64 i, .int .i64 st, .slice A n c, .slice B m d] 65)
  have hne : (vld i st nx ot != 0) = true := by simpa using hv
  go_enter Try.func58, Try.ntmps58
  go_wp2_with fail
  refine (pvalid _ _ _ _ _ _ _ _ _ _ _ (hx.below hb0) (ho.below hb0)).mono ?_
  rintro e w1 ⟨rfl, b1⟩
  have hbb := bt hb0 b1
  generalize vld i st nx ot = V at hne hv
  clear hb0 b1 hv
  go_wp2
  go_ret
  exact ⟨rfl, hbb⟩

set_option maxHeartbeats 2000000 in
set_option maxRecDepth 100000 in
theorem poutputs_ok (i st n : Nat) (A B : Option Addr) (c d : Nat) (nx ot : List (List Int)) (w : World) (hx : Lists w A n nx) (ho : Lists w B n ot) (hM : Mok i st n nx ot) :
    Calls Try.prog 58 #[.agg #[.int .i64 i, .int .i64 st, .slice A n c, .slice B n d]] w fun e w' => ∃ A' c', e = .returned (.slice A' (outL ot []).length c') ∧ Owned w' w.heap.size (.slice A' (outL ot []).length c') (outL ot []) ∧ Below w.heap.size w w' := by
  have HV := Lib.hid hM.vld
  have hF : ot.flatten.length ≤ 100000 := by
    have hn128 := hM.n2
    have hi64 := hM.i2
    have hrow : ∀ l, l ∈ ot → l.length ≤ 64 := fun l hl => by
      obtain ⟨j, hj, rfl⟩ := List.getElem_of_mem hl
      have h1 := (hM.row j (by rw [← hM.otl]; exact hj)).2.1
      rw [List.getD_eq_getElem?_getD, List.getElem?_eq_getElem hj] at h1
      have h2 : (ot[j]).length = i := h1
      omega
    have hlen : ∀ (t : List (List Int)), (∀ l, l ∈ t → l.length ≤ 64) → t.flatten.length ≤ 64 * t.length := by
      intro t
      induction t with
      | nil => intro _; simp
      | cons r t ih =>
        intro h
        have h1 := h r List.mem_cons_self
        have h2 := ih fun l hl => h l (List.mem_cons_of_mem _ hl)
        rw [List.flatten_cons, List.length_append, List.length_cons]
        omega
    have h3 := hlen ot hrow
    have h4 := hM.otl
    omega
  have HE := Lib.hid (out_eq ot)
  have HL := Lib.hid (show (ot.flatten.mergeSort fun x y => decide (x ≤ y)).length = ot.flatten.length from List.length_mergeSort _)
  have hb0 := alloc_below w (.cells #[.int .i64 i, .int .i64 st, .slice A n c, .slice B n d] 65)
  have HZ := Lib.hid (show (w.alloc (.cells #[.int .i64 i, .int .i64 st, .slice A n c, .slice B n d] 65)).heap.size = w.heap.size + 1 by simp)
  go_enter Try.func58, Try.ntmps58
  go_wp2_with fail
  refine (pvalid _ _ _ _ _ _ _ _ _ _ _ (hx.below hb0) (ho.below hb0)).mono ?_
  rintro e w1 ⟨rfl, b1⟩
  rw [HZ.out] at b1
  rw [HV.out]
  obtain ⟨k0, k1, k2, k3⟩ := box4 b1
  have hb1 := hb0.trans (b1.mono (Nat.le_succ _))
  have B1 := Lib.hid hb1
  have HC := Lib.hid (sconcat B n d ot w1 (ho.below hb1) (by omega))
  clear hb0 b1 hb1
  generalize ot.flatten = fl at HC HE HL hF
  go_wp2_with fail
  refine HC.out.mono ?_
  rintro e w2 ⟨A2, c2, rfl, o2, b2⟩
  have B2 := Lib.hid (bt B1.out b2)
  have HS := Lib.hid (psorti A2 fl.length c2 fl w.heap.size w2 (o2.lower B1.out.size) B2.out.size (by omega))
  clear b2 o2 k0 k1 k2 k3
  go_wp2_with fail
  refine HS.out.mono ?_
  rintro e w3 ⟨rfl, o3, b3⟩
  have B3 := Lib.hid (B2.out.trans b3)
  have HP := Lib.hid (pcompacti A2 fl.length c2 _ w.heap.size w3 o3 B3.out.size (by omega))
  clear b3 o3
  go_wp2_with fail
  refine HP.out.mono ?_
  rintro e w4 ⟨A4, c4, rfl, o4, b4⟩
  rw [HE.out] at o4 ⊢
  have O4 := Lib.hid o4
  have B4 := Lib.hid (B3.out.trans b4)
  clear o4 b4
  go_wp2
  go_ret
  exact ⟨A4, c4, rfl, O4.out, B4.out⟩
end Go.Proofs.Ytihahljpfekmbaa
