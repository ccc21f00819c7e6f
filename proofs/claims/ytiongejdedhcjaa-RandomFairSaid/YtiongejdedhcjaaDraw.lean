/- The walks of Next and of drawing below n, by the two texts. -/
import Derived.Test.YtiongejdedhcjaaBase
import Derived.Test.YtiongejdedhcjaaSeal
import Derived.Test.YtiongejdedhcjaaProg
import Derived.Outline
import Derived.WalkLawsBesides
import Derived.WalkSpells
import Derived.Laws.BitsAllLaws
namespace Go.Proofs.Ytiongejdedhcjaa
open Go.RowKit

theorem wrapu (a : Nat) : IntKind.u64.wrap (a : Int) = ((a % 18446744073709551616 : Nat) : Int) := by
  rw [IntKind.wrap_u64]; omega

theorem nxw (s : Nat) : IntKind.u64.wrap (s + 11400714819323198485) = ((Nx s : Nat) : Int) := by rw [Nx_eq]; exact wrapu (s + 11400714819323198485)
theorem mzw {y : Nat} (h : y < 18446744073709551616) : IntKind.u64.wrap (bits .xor .u64 (y : Int) ((y : Int) / 1073741824) * 13787848793156543929) = ((mz y : Nat) : Int) := by
  rw [show ((y : Int) / 1073741824) = ((y / 1073741824 : Nat) : Int) by omega, u64_xor_nat _ _ h (by omega)]
  exact wrapu ((y ^^^ (y / 1073741824)) * 13787848793156543929)
theorem muw {y : Nat} (h : y < 18446744073709551616) : IntKind.u64.wrap (bits .xor .u64 (y : Int) ((y : Int) / 134217728) * 10723151780598845931) = ((mu y : Nat) : Int) := by
  rw [show ((y : Int) / 134217728) = ((y / 134217728 : Nat) : Int) by omega, u64_xor_nat _ _ h (by omega)]
  exact wrapu ((y ^^^ (y / 134217728)) * 10723151780598845931)
theorem mxw (s : Nat) : bits .xor .u64 (mu (mz (nx s)) : Int) ((mu (mz (nx s)) : Int) / 2147483648) = ((Mx s : Nat) : Int) := by
  have h := mu_lt (mz (nx s))
  rw [Mx_eq]
  unfold mx
  generalize mu (mz (nx s)) = u at h
  rw [show ((u : Int) / 2147483648) = ((u / 2147483648 : Nat) : Int) by omega, u64_xor_nat _ _ h (by omega)]

theorem ret_pair {k k' : IntKind} {a b a' b' : Int} (h1 : a = a') (h2 : b = b') : Ending.returned (.tuple #[.int k a, .int k' b]) = .returned (.tuple #[.int k a', .int k' b']) := by rw [h1, h2]
theorem ret_three {k k' k'' : IntKind} {a b c a' b' c' : Int} (h1 : a = a') (h2 : b = b') (h3 : c = c') : Ending.returned (.tuple #[.int k a, .int k' b, .int k'' c]) = .returned (.tuple #[.int k a', .int k' b', .int k'' c']) := by rw [h1, h2, h3]

theorem mx_all (s : Nat) :
    bits .xor .u64 (IntKind.u64.wrap (bits .xor .u64 (IntKind.u64.wrap (bits .xor .u64 (IntKind.u64.wrap (s + 11400714819323198485)) (IntKind.u64.wrap (s + 11400714819323198485) / 1073741824) * 13787848793156543929))
      (IntKind.u64.wrap (bits .xor .u64 (IntKind.u64.wrap (s + 11400714819323198485)) (IntKind.u64.wrap (s + 11400714819323198485) / 1073741824) * 13787848793156543929) / 134217728) * 10723151780598845931))
      (IntKind.u64.wrap (bits .xor .u64 (IntKind.u64.wrap (bits .xor .u64 (IntKind.u64.wrap (s + 11400714819323198485)) (IntKind.u64.wrap (s + 11400714819323198485) / 1073741824) * 13787848793156543929))
      (IntKind.u64.wrap (bits .xor .u64 (IntKind.u64.wrap (s + 11400714819323198485)) (IntKind.u64.wrap (s + 11400714819323198485) / 1073741824) * 13787848793156543929) / 134217728) * 10723151780598845931) / 2147483648) = ((Mx s : Nat) : Int) := by
  rw [nxw, Nx_eq, mzw (nx_lt _), muw (mz_lt _), mxw]

theorem pnext (s : Nat) (w : World) :
    Calls Try.prog 9 #[.int .u64 s] w fun e w' => e = .returned (.tuple #[.int .u64 (Mx s), .int .u64 (Nx s)]) ∧ w = w' := by
  have H1 := Lib.hid (mx_all s)
  have H2 := Lib.hid (nxw s)
  go_enter Try.func9, Try.ntmps9
  go_wp2
  go_ret2
  exact ⟨ret_pair H1.out H2.out, rfl⟩
theorem rnext (s : Nat) (w : World) :
    Calls Try.prog 10 #[.int .u64 s] w fun e w' => e = .returned (.tuple #[.int .u64 (Mx s), .int .u64 (Nx s)]) ∧ w = w' := by
  have H1 := Lib.hid (mx_all s)
  have H2 := Lib.hid (nxw s)
  go_enter Try.func10, Try.ntmps10
  go_wp2
  go_ret2
  exact ⟨ret_pair H1.out H2.out, rfl⟩

theorem rst_two {n : Nat} (h : Drawable n) : (IntKind.u64.wrap (18446744073709551615 % (n : Int) + 1)).tmod (n : Int) = ((Rst n : Nat) : Int) := by
  have h1 := h.1
  have h2 := h.2
  have e0 : (18446744073709551615 % (n : Int) + 1) = ((18446744073709551615 % n + 1 : Nat) : Int) := by
    rw [show (18446744073709551615 : Int) = ((18446744073709551615 : Nat) : Int) by rfl, ← Int.natCast_emod]; rfl
  have hlt : 18446744073709551615 % n < n := Nat.mod_lt _ (by omega)
  rw [e0, wrapu, Nat.mod_eq_of_lt (by omega), Int.tmod_eq_emod_of_nonneg (by omega), Rst_eq]
  unfold rst
  rw [← Int.natCast_emod, Nat.mod_add_mod]
theorem rst_one {n : Nat} (h : Drawable n) : (18446744073709551615 - (n : Int) + 1) % (n : Int) = ((Rst n : Nat) : Int) := by
  have h1 := h.1
  have h2 := h.2
  have e0 : (18446744073709551615 - (n : Int) + 1) = ((18446744073709551616 - n : Nat) : Int) := by omega
  rw [e0, Rst_eq]
  unfold rst
  rw [← Int.natCast_emod]
  have := Nat.add_mod_right (18446744073709551616 - n) n
  rw [show 18446744073709551616 - n + n = 18446744073709551616 by omega] at this
  rw [this]
theorem rst_le {n : Nat} (h : Drawable n) : Rst n < 2147483648 := by
  have h1 := rst_lt h
  have h2 := h.2
  rw [Rst_eq]; omega
theorem lim_rst (n : Nat) : Lim n = 18446744073709551615 - Rst n := by rw [Lim_eq, Rst_eq]; rfl
theorem lim_w {n : Nat} (h : Drawable n) : IntKind.u64.wrap (18446744073709551615 - ((Rst n : Nat) : Int)) = ((Lim n : Nat) : Int) := by
  have h1 := rst_le h
  rw [lim_rst, show (18446744073709551615 - ((Rst n : Nat) : Int)) = ((18446744073709551615 - Rst n : Nat) : Int) by omega, wrapu, Nat.mod_eq_of_lt (by omega)]
theorem drx_w {s n : Nat} (h : Drawable n) {p : Nat × Nat} (hp : Hit n s = p) : RowKit.wrap64 ((p.1 : Int) % (n : Int)) = ((Drx s n : Nat) : Int) := by
  have h1 := (Hit_dr n s).1
  have h2 := Drx_lt (s := s) h
  have h3 := h.2
  rw [hp] at h1
  rw [← Int.natCast_emod, h1]
  exact IntWalk.wrap64_in _ (by omega)

set_option maxHeartbeats 400000 in
theorem pdraw (s n : Nat) (hs : s < 18446744073709551616) (hn : Drawable n) (w : World) :
    Calls Try.prog 23 #[.int .u64 s, .int .i64 n] w fun e w' => e = .returned (.tuple #[.int .i64 (Drx s n), .int .u64 (Drs s n)]) ∧ w = w' := by
  have hn1 := hn.1
  have hn2 := hn.2
  have HT := rst_two hn
  have HL := lim_w hn
  have HD := Lib.hid hn
  clear hn
  go_enter Try.func23, Try.ntmps23
  go_wp2_with (go_at_call 9; refine (pnext _ _).mono ?_; rintro e w' ⟨rfl, rfl⟩)
  go_loop [8, 9] (fun x t => ∃ s' : Nat, x = .int .u64 (Mx s') ∧ t = .int .u64 (Nx s') ∧ s' < 18446744073709551616 ∧ Hit n s' = Hit n s) (fun x t => Lft n (intOf x).toNat (intOf t).toNat)
  case atStart => exact ⟨s, rfl, rfl, hs, rfl⟩
  case round =>
    obtain ⟨s', rfl, rfl, hs', hgo⟩ := hrel
    have HG := Lib.hid hgo
    clear hgo
    by_cases hx : Lim n < Mx s'
    · have hon := Lib.hid (Hit_on HD.out hs' (by omega))
      have hlf := Lft_on HD.out (Nx_lt s') (x := Mx s') (by omega)
      have hb : decide (Lim n < Mx s') = true := by simpa using hx
      clear hx
      go_wp2_with (go_at_call 9; refine (pnext _ _).mono ?_; rintro e w' ⟨rfl, rfl⟩)
      go_round
      case rel => exact ⟨Nx s', rfl, rfl, Nx_lt _, by rw [← hon.out, HG.out]⟩
      case measure => simpa [intOf] using hlf
    · have hat := Lib.hid (Hit_at HD.out hs' (by omega))
      have hb : decide (Lim n < Mx s') = false := by simpa using hx
      clear hx
      have H1 := Lib.hid (drx_w HD.out (HG.out.symm.trans hat.out))
      have H2 := Lib.hid ((Hit_dr n s).2)
      have H3 := Lib.hid (HG.out.symm.trans hat.out)
      go_wp2
      go_ret2
      exact ⟨ret_pair H1.out (by rw [← H2.out, H3.out]), rfl⟩

set_option maxHeartbeats 400000 in
theorem rdraw (s n : Nat) (hs : s < 18446744073709551616) (hn : Drawable n) (w : World) :
    Calls Try.prog 24 #[.int .u64 s, .int .i64 n] w fun e w' => e = .returned (.tuple #[.int .i64 (Drx s n), .int .u64 (Drs s n)]) ∧ w = w' := by
  have hn1 := hn.1
  have hn2 := hn.2
  have HT := rst_one hn
  have HL := lim_w hn
  have hl0 := Lib.hid (lim_rst n)
  have HD := Lib.hid hn
  clear hn
  go_enter Try.func24, Try.ntmps24
  go_wp2_with (go_at_call 10; refine (rnext _ _).mono ?_; rintro e w' ⟨rfl, rfl⟩)
  go_loop [7, 8] (fun x t => ∃ s' : Nat, x = .int .u64 (Mx s') ∧ t = .int .u64 (Nx s') ∧ s' < 18446744073709551616 ∧ Hit n s' = Hit n s) (fun x t => Lft n (intOf x).toNat (intOf t).toNat)
  case atStart => exact ⟨s, rfl, rfl, hs, rfl⟩
  case round =>
    obtain ⟨s', rfl, rfl, hs', hgo⟩ := hrel
    have HG := Lib.hid hgo
    clear hgo
    by_cases hx : Lim n < Mx s'
    · have hon := Lib.hid (Hit_on HD.out hs' (by omega))
      have hlf := Lft_on HD.out (Nx_lt s') (x := Mx s') (by omega)
      have hb : decide (Lim n < Mx s') = true := by simpa using hx
      have hr0 : 0 < Rst n := by
        have h1 := Mx_lt s'
        have h2 := hl0.out
        omega
      have hr : decide (0 < Rst n) = true := by simpa using hr0
      clear hx
      go_wp2_with (go_at_call 10; refine (rnext _ _).mono ?_; rintro e w' ⟨rfl, rfl⟩)
      go_round
      case rel => exact ⟨Nx s', rfl, rfl, Nx_lt _, by rw [← hon.out, HG.out]⟩
      case measure => simpa [intOf] using hlf
    · have hat := Lib.hid (Hit_at HD.out hs' (by omega))
      have hb : decide (Lim n < Mx s') = false := by simpa using hx
      clear hx
      have H1 := Lib.hid (drx_w HD.out (HG.out.symm.trans hat.out))
      have H2 := Lib.hid ((Hit_dr n s).2)
      have H3 := Lib.hid (HG.out.symm.trans hat.out)
      by_cases h0 : Rst n = 0
      · have hr : decide (0 < Rst n) = false := by simp; omega
        clear h0
        go_wp2
        go_ret2
        exact ⟨ret_pair H1.out (by rw [← H2.out, H3.out]), rfl⟩
      · have hr : decide (0 < Rst n) = true := by simp; omega
        clear h0
        go_wp2
        go_ret2
        exact ⟨ret_pair H1.out (by rw [← H2.out, H3.out]), rfl⟩
end Go.Proofs.Ytiongejdedhcjaa
