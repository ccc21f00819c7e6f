/- A decoder: numberSize. -/
import Derived.Test.YtihahljpfekmbaaByts
import Derived.BigQuiet
import Derived.Deep.QuietTactic
namespace Go.Proofs.Ytihahljpfekmbaa
open Go.RowKit

/-- The end of a call that panics with an error. -/
def pan (e : Int) : Ending := .panicked [{ v := .iface 24 (.int .i64 e), recovered := false }]

theorem run_heady (A : Option Addr) (n c p : Nat) (hp : p ≤ n) (hc : n ≤ c) (w : World) : (Instr.slice 22 (.slice A n c) none (some (.int .i64 p)) none).run Try.prog w = .ok (.slice A p c) w := by
  obtain ⟨i, hi, hz0, hz1, hz2⟩ := info_parts infoy
  have he : Try.prog.elem 22 = 5 := by kernel_rfl
  rw [run_slice_h (P := Try.prog) w 22 A n c (by rw [he]; exact Try.underlying22) .i64 p (by omega) (by omega), he]
  simp [sizeOf, typeInfo, hi, sliced]
  cases A <;> simp [Addr.add]
theorem run_taily (A : Option Addr) (n c p : Nat) (hp : p ≤ n) (w : World) : (Instr.slice 22 (.slice A n c) (some (.int .i64 p)) none none).run Try.prog w = .ok (.slice (if c = p then A else A.map (·.add p)) (n - p) (c - p)) w := by
  obtain ⟨i, hi, hz0, hz1, hz2⟩ := info_parts infoy
  have he : Try.prog.elem 22 = 5 := by kernel_rfl
  rw [run_slice_l (P := Try.prog) w 22 A n c (by rw [he]; exact Try.underlying22) .i64 p (by omega) (by omega), he]
  simp [sizeOf, typeInfo, hi, sliced, hz1]

theorem drop_at {bs : List Nat} {j : Nat} (h : j < bs.length) : bs.drop j = bs.getD j 0 :: bs.drop (j + 1) := by
  rw [List.drop_eq_getElem_cons h, List.getD_eq_getElem?_getD, List.getElem?_eq_getElem h]; rfl

set_option maxHeartbeats 2000000 in
set_option maxRecDepth 100000 in
theorem pnumsize (A : Option Addr) (n c : Nat) (bs : List Nat) (w : World) (h : Byts w A n bs) (hc : n ≤ c) :
    Calls Try.prog 94 #[.slice A n c] w fun e w' => ((scn 0 bs).2 = 0 → e = .returned (.int .i64 (scn 0 bs).1)) ∧ (¬ (scn 0 bs).2 = 0 → e = pan (scn 0 bs).2) ∧ w = w' := by
  have L := Lib.hid h.1
  have hn := h.2.1
  obtain ⟨R, hR⟩ : ∃ R, R = scn 0 bs := ⟨_, rfl⟩
  rw [← hR]
  have HR := Lib.hid hR
  clear hR
  have hmx : (max 10 0 : Int) = 10 := by decide
  by_cases h10 : 10 < n
  · have hhd := fun W => run_heady A n c 10 (by omega) hc W
    go_enter Try.func94, Try.ntmps94
    go_wp2
    clear hhd
    go_loop [13] (fun jv => ∃ j : Nat, j ≤ 10 ∧ j ≤ 10 ∧ jv = .int .i64 j ∧ R = scn j (bs.drop j)) (fun jv => 10 - (intOf jv).toNat)
    case atStart => exact ⟨0, Nat.zero_le _, by omega, rfl, HR.out⟩
    case round =>
      obtain ⟨j, hj, hj10, rfl, hR⟩ := hrel
      have HJ := Lib.hid hR
      clear hR
      by_cases hlt : j < 10
      · obtain ⟨g, o, rfl, _, hcell, h256⟩ := h.at_ (k := j) (by omega)
        have HD := Lib.hid (HJ.out.trans (by rw [drop_at (by rw [L.out]; omega)]))
        generalize bs.getD j 0 = b at hcell h256 HD
        by_cases hb : 128 ≤ b
        · have hd : decide ((128 : Int) ≤ (b : Int)) = true := by simp; omega
          have hnx := Lib.hid (HD.out.trans (scn_on (by omega) hb))
          go_wp2
          go_round
          case rel => exact ⟨j + 1, by omega, by omega, by go_num, hnx.out⟩
          case measure => simp [intOf]; omega
        · have hd : decide ((128 : Int) ≤ (b : Int)) = false := by simp; omega
          by_cases h2 : (0 < j ∧ b = 0) ∨ (j = 9 ∧ 1 < b)
          · have hfin := Lib.hid (HD.out.trans (scn_bad (by omega) hb h2))
            rcases h2 with ⟨h3, rfl⟩ | ⟨rfl, h3⟩
            · have d1 : decide ((0 : Int) < (j : Int)) = true := by simp; omega
              by_cases h9 : j = 9
              · subst h9
                go_wp2
                exact ⟨rfl, fun H => by rw [hfin.out] at H; exact absurd H (by simp), fun _ => by rw [hfin.out]; rfl, rfl⟩
              · have d2 : ((j : Int) == 9) = false := by simp; omega
                go_wp2
                exact ⟨rfl, fun H => by rw [hfin.out] at H; exact absurd H (by simp), fun _ => by rw [hfin.out]; rfl, rfl⟩
            · have d1 : ((b : Int) == 0) = false := by simp; omega
              have d2 : decide ((1 : Int) < (b : Int)) = true := by simp; omega
              go_wp2
              exact ⟨rfl, fun H => by rw [hfin.out] at H; exact absurd H (by simp), fun _ => by rw [hfin.out]; rfl, rfl⟩
          · have hfin := Lib.hid (HD.out.trans (scn_ok (by omega) hb h2))
            by_cases h0 : 0 < j
            · have d1 : decide ((0 : Int) < (j : Int)) = true := by simp; omega
              have hb0 : ¬ b = 0 := fun e => h2 (.inl ⟨h0, e⟩)
              have d3 : ((b : Int) == 0) = false := by simp; omega
              by_cases h9 : j = 9
              · have hb1 : ¬ 1 < b := fun e => h2 (.inr ⟨h9, e⟩)
                have d4 : decide ((1 : Int) < (b : Int)) = false := by simp; omega
                have d2 : ((j : Int) == 9) = true := by simp; omega
                clear h2 h9 hb0 hb1
                go_wp2
                go_ret
                exact ⟨fun _ => by rw [hfin.out]; rfl, fun H => absurd (by rw [hfin.out]) H, rfl⟩
              · have d2 : ((j : Int) == 9) = false := by simp; omega
                clear h2 h9 hb0
                go_wp2
                go_ret
                exact ⟨fun _ => by rw [hfin.out]; rfl, fun H => absurd (by rw [hfin.out]) H, rfl⟩
            · obtain rfl : j = 0 := by omega
              rw [Nat.add_zero] at hcell
              clear h2
              go_wp2
              go_ret
              exact ⟨fun _ => by rw [hfin.out]; rfl, fun H => absurd (by rw [hfin.out]) H, rfl⟩
      · obtain rfl : j = 10 := by omega
        have hfin := Lib.hid (HJ.out.trans (scn_ten _))
        have d1 : decide ((n : Int) < 10) = false := by simp; omega
        go_wp2
        exact ⟨rfl, fun H => by rw [hfin.out] at H; exact absurd H (by simp), fun _ => by rw [hfin.out]; rfl, rfl⟩
  · have hhd := fun W => run_heady A n c n (by omega) hc W
    go_enter Try.func94, Try.ntmps94
    go_wp2
    clear hhd
    go_loop [13] (fun jv => ∃ j : Nat, j ≤ n ∧ j ≤ 10 ∧ jv = .int .i64 j ∧ R = scn j (bs.drop j)) (fun jv => n - (intOf jv).toNat)
    case atStart => exact ⟨0, Nat.zero_le _, by omega, rfl, HR.out⟩
    case round =>
      obtain ⟨j, hj, hj10, rfl, hR⟩ := hrel
      have HJ := Lib.hid hR
      clear hR
      by_cases hlt : j < n
      · obtain ⟨g, o, rfl, _, hcell, h256⟩ := h.at_ (k := j) (by omega)
        have HD := Lib.hid (HJ.out.trans (by rw [drop_at (by rw [L.out]; omega)]))
        generalize bs.getD j 0 = b at hcell h256 HD
        by_cases hb : 128 ≤ b
        · have hd : decide ((128 : Int) ≤ (b : Int)) = true := by simp; omega
          have hnx := Lib.hid (HD.out.trans (scn_on (by omega) hb))
          go_wp2
          go_round
          case rel => exact ⟨j + 1, by omega, by omega, by go_num, hnx.out⟩
          case measure => simp [intOf]; omega
        · have hd : decide ((128 : Int) ≤ (b : Int)) = false := by simp; omega
          by_cases h2 : (0 < j ∧ b = 0) ∨ (j = 9 ∧ 1 < b)
          · have hfin := Lib.hid (HD.out.trans (scn_bad (by omega) hb h2))
            rcases h2 with ⟨h3, rfl⟩ | ⟨rfl, h3⟩
            · have d1 : decide ((0 : Int) < (j : Int)) = true := by simp; omega
              by_cases h9 : j = 9
              · subst h9
                go_wp2
                exact ⟨rfl, fun H => by rw [hfin.out] at H; exact absurd H (by simp), fun _ => by rw [hfin.out]; rfl, rfl⟩
              · have d2 : ((j : Int) == 9) = false := by simp; omega
                go_wp2
                exact ⟨rfl, fun H => by rw [hfin.out] at H; exact absurd H (by simp), fun _ => by rw [hfin.out]; rfl, rfl⟩
            · have d1 : ((b : Int) == 0) = false := by simp; omega
              have d2 : decide ((1 : Int) < (b : Int)) = true := by simp; omega
              go_wp2
              exact ⟨rfl, fun H => by rw [hfin.out] at H; exact absurd H (by simp), fun _ => by rw [hfin.out]; rfl, rfl⟩
          · have hfin := Lib.hid (HD.out.trans (scn_ok (by omega) hb h2))
            by_cases h0 : 0 < j
            · have d1 : decide ((0 : Int) < (j : Int)) = true := by simp; omega
              have hb0 : ¬ b = 0 := fun e => h2 (.inl ⟨h0, e⟩)
              have d3 : ((b : Int) == 0) = false := by simp; omega
              by_cases h9 : j = 9
              · have hb1 : ¬ 1 < b := fun e => h2 (.inr ⟨h9, e⟩)
                have d4 : decide ((1 : Int) < (b : Int)) = false := by simp; omega
                have d2 : ((j : Int) == 9) = true := by simp; omega
                clear h2 h9 hb0 hb1
                go_wp2
                go_ret
                exact ⟨fun _ => by rw [hfin.out]; rfl, fun H => absurd (by rw [hfin.out]) H, rfl⟩
              · have d2 : ((j : Int) == 9) = false := by simp; omega
                clear h2 h9 hb0
                go_wp2
                go_ret
                exact ⟨fun _ => by rw [hfin.out]; rfl, fun H => absurd (by rw [hfin.out]) H, rfl⟩
            · obtain rfl : j = 0 := by omega
              rw [Nat.add_zero] at hcell
              clear h2
              go_wp2
              go_ret
              exact ⟨fun _ => by rw [hfin.out]; rfl, fun H => absurd (by rw [hfin.out]) H, rfl⟩
      · obtain rfl : j = n := by omega
        have hfin := Lib.hid (HJ.out.trans (by rw [List.drop_eq_nil_of_le (by rw [L.out]; exact Nat.le_refl _), scn_end]))
        by_cases h11 : j < 10
        · have d1 : decide ((j : Int) < 10) = true := by simp; omega
          have hfin := Lib.hid (hfin.out.trans (by rw [if_pos h11]))
          go_wp2
          exact ⟨rfl, fun H => by rw [hfin.out] at H; exact absurd H (by simp), fun _ => by rw [hfin.out]; rfl, rfl⟩
        · have d1 : decide ((j : Int) < 10) = false := by simp; omega
          have hfin := Lib.hid (hfin.out.trans (by rw [if_neg h11]))
          go_wp2
          exact ⟨rfl, fun H => by rw [hfin.out] at H; exact absurd H (by simp), fun _ => by rw [hfin.out]; rfl, rfl⟩
end Go.Proofs.Ytihahljpfekmbaa
