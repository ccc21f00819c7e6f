/- The reference: Outputs. -/
import Derived.Test.YtihahljpfekmbaaOutpr
namespace Go.Proofs.Ytihahljpfekmbaa
open Go.RowKit

/-- All outputs, row by row, put into one list. -/
def outR : List Int → List Int → List Int
  | [], acc => acc
  | x :: r, acc => outR r (insS acc x)
def outL : List (List Int) → List Int → List Int
  | [], acc => acc
  | r :: t, acc => outL t (outR r acc)
theorem outR_drop {r : List Int} {a : Nat} (h : a < r.length) (acc : List Int) : outR (r.drop a) acc = outR (r.drop (a + 1)) (insS acc (r.getD a 0)) := by
  rw [drop_on h]; rfl
theorem outL_drop {t : List (List Int)} {j : Nat} (h : j < t.length) (acc : List Int) : outL (t.drop j) acc = outL (t.drop (j + 1)) (outR (t.getD j []) acc) := by
  rw [List.drop_eq_getElem_cons h, List.getD_eq_getElem?_getD, List.getElem?_eq_getElem h]; rfl

theorem routputs_bad (i st : Int) (A B : Option Addr) (n c m d : Nat) (nx ot : List (List Int)) (w : World) (hx : Lists w A n nx) (ho : Lists w B m ot) (hv : ¬ vld i st nx ot = 0) :
    Calls Try.prog 59 #[.agg #[.int .i64 i, .int .i64 st, .slice A n c, .slice B m d]] w fun e w' => e = .returned (.slice none 0 0) ∧ Below w.heap.size w w' := by
  have hb0 := alloc_below w (.cells #[.int .i64 i, .int .i64 st, .slice A n c, .slice B m d] 65)
  have hne : (vld i st nx ot != 0) = true := by simpa using hv
  go_enter Try.func59, Try.ntmps59
  go_wp2_with fail
  refine (rvalid _ _ _ _ _ _ _ _ _ _ _ (hx.below hb0) (ho.below hb0)).mono ?_
  rintro e w1 ⟨rfl, b1⟩
  have hbb := bt hb0 b1
  generalize vld i st nx ot = V at hne hv
  clear hb0 b1 hv
  go_wp2
  go_ret
  exact ⟨rfl, hbb⟩

set_option maxHeartbeats 2000000 in
set_option maxRecDepth 100000 in
theorem routputs_ok (i st n : Nat) (A B : Option Addr) (c d : Nat) (nx ot : List (List Int)) (w : World) (hx : Lists w A n nx) (ho : Lists w B n ot) (hM : Mok i st n nx ot) :
    Calls Try.prog 59 #[.agg #[.int .i64 i, .int .i64 st, .slice A n c, .slice B n d]] w fun e w' => ∃ A' c', e = .returned (.slice A' (outL ot []).length c') ∧ Owned w' w.heap.size (.slice A' (outL ot []).length c') (outL ot []) ∧ Below w.heap.size w w' ∧ (outL ot []).length ≤ 10000 := by
  have HV := Lib.hid hM.vld
  have hn := hx.2.1
  have hn128 := hM.n2
  have hi64 := hM.i2
  have hol := Lib.hid hM.otl
  have hb0 := alloc_below w (.cells #[.int .i64 i, .int .i64 st, .slice A n c, .slice B n d] 65)
  have HZ := Lib.hid (show (w.alloc (.cells #[.int .i64 i, .int .i64 st, .slice A n c, .slice B n d] 65)).heap.size = w.heap.size + 1 by simp)
  obtain ⟨R, hR⟩ : ∃ R, R = outL ot [] := ⟨_, rfl⟩
  have HR := Lib.hid (show R = outL (ot.drop 0) [] by rw [List.drop_zero]; exact hR)
  rw [← hR]
  clear hR
  go_enter Try.func59, Try.ntmps59
  go_wp2_with fail
  refine (rvalid _ _ _ _ _ _ _ _ _ _ _ (hx.below hb0) (ho.below hb0)).mono ?_
  rintro e w1 ⟨rfl, b1⟩
  rw [HZ.out] at b1
  rw [HV.out]
  go_wp2
  go_loopw [3, 4] (fun v jv wr => ∃ (l : List Int) (j : Nat) (A' : Option Addr) (c' : Nat), j ≤ n ∧ jv = .int .i64 j ∧ v = .slice A' l.length c' ∧ l.length ≤ 64 * j ∧ R = outL (ot.drop j) l ∧ Owned wr (w.heap.size + 1) (.slice A' l.length c') l ∧ Below (w.heap.size + 1) (w.alloc (.cells #[.int .i64 i, .int .i64 st, .slice A n c, .slice B n d] 65)) wr) (fun _ jv _ => n - (intOf jv).toNat)
  case atStart => exact ⟨[], 0, none, 0, Nat.zero_le _, rfl, rfl, Nat.zero_le _, HR.out, Owned.nil _ _, b1⟩
  case round =>
    obtain ⟨l, j, A', c', hj, rfl, rfl, hll, hB, hown, hbr⟩ := hrel
    have HB := Lib.hid hB
    clear hB
    obtain ⟨k0, k1, k2, k3⟩ := box4 hbr
    by_cases hlt : j < n
    · obtain ⟨g1, p1, A1, n1, c1, rfl, hg1, hd1, hr1⟩ := ho.at_ hlt
      have hi1 := (hM.row j hlt).2.1
      have hl1 := hr1.1
      obtain rfl : n1 = i := by omega
      have HNX := Lib.hid (HB.out.trans (outL_drop (by rw [hol.out]; exact hlt) l))
      have HIL := Lib.hid hi1
      clear hl1 hi1
      generalize ot.getD j [] = row at hr1 HNX HIL
      have HOW := Lib.hid hown
      have HBR := Lib.hid hbr
      obtain ⟨Q, hQ⟩ : ∃ Q, Q = outR row l := ⟨_, rfl⟩
      have HQ := Lib.hid (show Q = outR (row.drop 0) l by rw [List.drop_zero]; exact hQ)
      rw [← hQ] at HNX
      clear hown hbr hQ
      go_wp2
      obtain ⟨wo, rfl⟩ : ∃ wo : World, wo = wr := ⟨_, rfl⟩
      clear k0 k1 k2 k3
      go_loopw [3, 5] (fun v av wq => ∃ (a : Nat) (l2 : List Int) (A2 : Option Addr) (c2 : Nat), a ≤ n1 ∧ av = .int .i64 a ∧ v = .slice A2 l2.length c2 ∧ l2.length ≤ 64 * j + a ∧ Q = outR (row.drop a) l2 ∧ Owned wq (w.heap.size + 1) (.slice A2 l2.length c2) l2 ∧ Below (w.heap.size + 1) (w.alloc (.cells #[.int .i64 n1, .int .i64 st, .slice A n c, .slice (some ⟨g1, p1, none⟩) n d] 65)) wq) (fun _ av _ => n1 - (intOf av).toNat)
      case atStart => exact ⟨0, l, _, _, Nat.zero_le _, rfl, rfl, hll, HQ.out, HOW.out, HBR.out⟩
      case round =>
        obtain ⟨a, l2, A2, c2, ha, rfl, rfl, hl2, hq2, hown, hbr⟩ := hrel
        have HQ2 := Lib.hid hq2
        clear hq2
        obtain ⟨k0, k1, k2, k3⟩ := box4 hbr
        have hbw := hb0.trans (hbr.mono (Nat.le_succ _))
        by_cases hla : a < n1
        · obtain ⟨g3, p3, rfl, hg3, hy1⟩ := hr1.at_ hla
          have e1 := (hbw.cell (p := ⟨g1, p1 + j, none⟩) hg1).trans hd1
          have e3 := (hbw.cell (p := ⟨g3, p3 + a, none⟩) hg3).trans hy1
          have HN := Lib.hid (HQ2.out.trans (outR_drop (by rw [HIL.out]; exact hla) l2))
          generalize row.getD a 0 = x at e3 HN hy1
          have hsz : w.heap.size + 1 ≤ wr.heap.size := by have := hbr.size; simpa using this
          have HI := Lib.hid (rinsert A2 l2.length c2 l2 x (w.heap.size + 1) wr hown hsz (by omega))
          have hil := insS_len l2 x
          generalize insS l2 x = l3 at HN HI hil
          have HBR2 := Lib.hid hbr
          clear hown hbr hbw hy1
          go_wp2_with fail
          refine HI.out.mono ?_
          rintro e w3 ⟨A3, c3, rfl, o3, b3⟩
          have O3 := Lib.hid o3
          have B3 := Lib.hid (HBR2.out.trans b3)
          clear o3 b3 e1 e3 k0 k1 k2 k3
          go_wp2
          go_roundw
          case rel => exact ⟨a + 1, l3, A3, c3, by omega, by go_num, rfl, by omega, HN.out, O3.out, B3.out⟩
          case measure => simp [intOf]; omega
        · obtain rfl : a = n1 := by omega
          have HN := Lib.hid (HQ2.out.trans (show outR (row.drop a) l2 = l2 by rw [List.drop_eq_nil_of_le (by rw [HIL.out]; exact Nat.le_refl _)]; rfl))
          have HX := Lib.hid (HNX.out.trans (by rw [HN.out]))
          have HOW2 := Lib.hid hown
          clear hown
          go_wp2
          go_roundw
          case rel => exact ⟨l2, j + 1, A2, c2, by omega, by go_num, rfl, by omega, HX.out, HOW2.out, hbr⟩
          case measure => simp [intOf]; omega
    · obtain rfl : j = n := by omega
      have HN := Lib.hid (HB.out.trans (show outL (ot.drop j) l = l by rw [List.drop_eq_nil_of_le (by rw [hol.out]; exact Nat.le_refl _)]; rfl))
      have HOW := Lib.hid (hown.lower (base' := w.heap.size) (Nat.le_succ _))
      have HBW := Lib.hid (hb0.trans (hbr.mono (Nat.le_succ _)))
      have hll2 : l.length ≤ 10000 := by omega
      clear hown hbr
      go_wp2
      go_ret
      rw [HN.out]
      exact ⟨A', c', rfl, HOW.out, HBW.out, hll2⟩
end Go.Proofs.Ytihahljpfekmbaa
