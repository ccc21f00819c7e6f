/- The walks of Decimal and SameNames. -/
import Derived.Test.YtiongejdedhcjaaDoorWordr
namespace Go.Proofs.YtiongejdedhcjaaDoor
open Go.RowKit

/-- The text of a number. -/
noncomputable def dg (i : Nat) : ByteArray := Classical.choose (⟨_, rfl⟩ : ∃ s : ByteArray, s = ⟨(Lib.decDigits i).toArray⟩)
theorem dg_eq (i : Nat) : dg i = ⟨(Lib.decDigits i).toArray⟩ := Classical.choose_spec (⟨_, rfl⟩ : ∃ s : ByteArray, s = ⟨(Lib.decDigits i).toArray⟩)
def tenD : ByteArray := ⟨#[48, 49, 50, 51, 52, 53, 54, 55, 56, 57]⟩
theorem dg_small (i : Nat) (h : i < 10) : tenD.extract i (i + 1) = dg i := by
  rw [dg_eq, Lib.decDigits, dif_pos h]
  rcases (by omega : i = 0 ∨ i = 1 ∨ i = 2 ∨ i = 3 ∨ i = 4 ∨ i = 5 ∨ i = 6 ∨ i = 7 ∨ i = 8 ∨ i = 9) with rfl | rfl | rfl | rfl | rfl | rfl | rfl | rfl | rfl | rfl
  all_goals rfl
theorem dg_big (i : Nat) (h : ¬ i < 10) : dg (i / 10) ++ tenD.extract (i % 10) (i % 10 + 1) = dg i := by
  rw [dg_small _ (by omega), dg_eq, dg_eq, dg_eq]
  apply str_inj
  rw [ByteArray.data_append, Array.toList_append]
  show Lib.decDigits (i / 10) ++ Lib.decDigits (i % 10) = Lib.decDigits i
  conv => rhs; rw [Lib.decDigits, dif_neg h]
  congr 1
  rw [Lib.decDigits, dif_pos (by omega)]
theorem dg_len (i : Nat) (h : i < 100) : (dg i).size ≤ 2 := by
  rw [dg_eq]
  show (Lib.decDigits i).toArray.size ≤ 2
  rw [List.size_toArray]
  by_cases h1 : i < 10
  · rw [Lib.decDigits, dif_pos h1]; simp
  · rw [Lib.decDigits, dif_neg h1, Lib.decDigits, dif_pos (by omega)]; simp
theorem ret_str {s s' : ByteArray} (h : s = s') : Ending.returned (.string s) = .returned (.string s') := by rw [h]

theorem rdec1 (i : Nat) (hi : i < 10) (w : World) :
    Calls Tryd.prog 37 #[.int .i64 i] w fun e w' => e = .returned (.string (dg i)) ∧ ∃ q, w' = w.drewN q := by
  have E := Lib.hid (dg_small i hi)
  go_enter Tryd.func37, Tryd.ntmps37
  go_wp2
  go_ret
  exact ⟨ret_str E.out, 0, rfl⟩

theorem rdec1k (K : Int) (i : Nat) (hK : K = i) (hi : i < 10) (w : World) :
    Calls Tryd.prog 37 #[.int .i64 K] w fun e w' => e = .returned (.string (dg i)) ∧ ∃ q, w' = w.drewN q := by
  subst hK; exact rdec1 i hi w

theorem dec_slice (b : Nat) (hb : b < 10) (w : World) : (Instr.slice 9 (.string ⟨#[48, 49, 50, 51, 52, 53, 54, 55, 56, 57]⟩) (some (.int .i64 (b : Int))) (some (.int .i64 ((b : Int) + 1))) none).run Tryd.prog w = .ok (.string (dg b)) w := by
  have hs : (⟨#[48, 49, 50, 51, 52, 53, 54, 55, 56, 57]⟩ : ByteArray).size = 10 := rfl
  rw [run_slice_string_if (h := Tryd.underlying9), if_pos (by rw [hs]; omega), if_pos (by omega)]
  rw [show ((b : Int) + 1).toNat = b + 1 by omega, show (b : Int).toNat = b by omega, ← dg_small b hb]
  rfl

theorem rdec (i : Nat) (hi : i < 100) (w : World) :
    Calls Tryd.prog 37 #[.int .i64 i] w fun e w' => e = .returned (.string (dg i)) ∧ ∃ q, w' = w.drewN q := by
  by_cases h : i < 10
  · exact rdec1 i h w
  · have E := Lib.hid (dg_big i h)
    obtain ⟨a, ha⟩ : ∃ a, a = i / 10 := ⟨_, rfl⟩
    obtain ⟨b, hb⟩ : ∃ b, b = i % 10 := ⟨_, rfl⟩
    have e1 : (i : Int) / 10 = (a : Int) := by omega
    have e2 : (i : Int) % 10 = (b : Int) := by omega
    have e3 : (i : Int).tmod 10 = (b : Int) := by rw [Int.tmod_eq_emod_of_nonneg (by omega)]; exact e2
    have a10 : a < 10 := by omega
    have b10 : b < 10 := by omega
    rw [← ha, ← hb, dg_small b b10] at E
    have s1 := dg_len a (by omega)
    have s2 := dg_len b (by omega)
    clear ha hb
    go_enter Tryd.func37, Tryd.ntmps37
    go_wp2
    have e4 : IntKind.i64.wrap ((b : Int) + 1) = (b : Int) + 1 := by rw [IntKind.wrap_i64]; omega
    have hsl := dec_slice b b10
    have hw : IntKind.i64.wrap (a : Int) = (a : Int) := by rw [IntKind.wrap_i64]; omega
    go_quiet (first
      | (go_at_call 37; refine Calls.quiet_of (rdec1k _ a ?_ a10 _); first | exact hw | rfl))
    go_wp2
    go_ret
    exact ⟨ret_str E.out, _, rfl⟩

set_option maxHeartbeats 1000000 in
theorem rsamen (A B : Option Addr) (n c m d : Nat) (xs ys : List ByteArray) (b : Bool) (w : World) (hx : Strs w A n xs) (hy : Strs w B m ys) (hb : b = true ↔ xs = ys) :
    Calls Tryd.prog 26 #[.slice A n c, .slice B m d] w fun e w' => e = .returned (.bool b) ∧ ∃ q, w' = w.drewN q := by
  have L1 := Lib.hid hx.1
  have L2 := Lib.hid hy.1
  have HB := Lib.hid hb
  clear hb
  have hn := hx.2.1
  have hm := hy.2.1
  by_cases hnm : n = m
  · subst hnm
    go_enter Tryd.func26, Tryd.ntmps26
    go_wp2
    go_loopw [5] (fun i wr => ∃ j q : Nat, j ≤ n ∧ i = .int .i64 j ∧ (∀ m, m < j → xs.getD m ByteArray.empty = ys.getD m ByteArray.empty) ∧ wr = w.drewN q) (fun i _ => n - (intOf i).toNat)
    case atStart => exact ⟨0, 0, Nat.zero_le _, rfl, fun m h => absurd h (by omega), rfl⟩
    case round =>
      obtain ⟨j, q, hj, rfl, heq, rfl⟩ := hrel
      have HE := Lib.hid heq
      clear heq
      by_cases hlt : j < n
      · obtain ⟨g1, o1, rfl, _, hc1⟩ := hx.at_ hlt
        obtain ⟨g2, o2, rfl, _, hc2⟩ := hy.at_ hlt
        by_cases he : xs.getD j ByteArray.empty = ys.getD j ByteArray.empty
        · have hnx := Lib.hid (show ∀ m, m < j + 1 → xs.getD m ByteArray.empty = ys.getD m ByteArray.empty from fun m hm => by
            by_cases e : m = j
            · subst e; exact he
            · exact HE.out m (by omega))
          rw [← he] at hc2
          generalize xs.getD j ByteArray.empty = y at hc1 hc2
          clear he
          go_wp2
          go_quiet (fail)
          go_wp2
          go_roundw
          case rel => exact ⟨j + 1, _, by omega, by go_num, hnx.out, rfl⟩
          case measure => simp [intOf]; omega
        · have hfin : Hid (b = false) := Lib.hid (by
            cases hb : b with
            | false => rfl
            | true => exact absurd (by rw [HB.out.1 hb]) he)
          have hne := str_ne he
          generalize xs.getD j ByteArray.empty = y at hc1 hne
          generalize ys.getD j ByteArray.empty = z at hc2 hne
          clear he
          go_wp2
          go_quiet (fail)
          go_wp2
          go_ret
          exact ⟨ret_bool hfin.out.symm, _, World.drewN_drewN _ _ _⟩
      · obtain rfl : j = n := by omega
        have hfin : Hid (b = true) := Lib.hid (HB.out.2 (by
          apply List.ext_getElem?
          intro m
          rcases Nat.lt_or_ge m j with h | h
          · have := HE.out m h
            rw [List.getElem?_eq_getElem (by rw [L1.out]; exact h), List.getElem?_eq_getElem (by rw [L2.out]; exact h)]
            simpa [List.getD, List.getElem?_eq_getElem (show m < xs.length by rw [L1.out]; exact h), List.getElem?_eq_getElem (show m < ys.length by rw [L2.out]; exact h)] using this
          · rw [List.getElem?_eq_none (by rw [L1.out]; exact h), List.getElem?_eq_none (by rw [L2.out]; exact h)]))
        go_wp2
        go_ret
        exact ⟨ret_bool hfin.out.symm, _, rfl⟩
  · have hfin : Hid (b = false) := Lib.hid (by
      cases hb : b with
      | false => rfl
      | true => exact absurd (by rw [← L1.out, ← L2.out, HB.out.1 hb]) hnm)
    have hd : ((n : Int) != (m : Int)) = true := by simp; omega
    clear hnm
    go_enter Tryd.func26, Tryd.ntmps26
    go_wp2
    go_ret
    exact ⟨ret_bool hfin.out.symm, 0, rfl⟩
end Go.Proofs.YtiongejdedhcjaaDoor
