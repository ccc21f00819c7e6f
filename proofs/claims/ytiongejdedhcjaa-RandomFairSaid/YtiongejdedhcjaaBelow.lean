/- The walks of Below, by the two texts. -/
import Derived.Test.YtiongejdedhcjaaDraw
namespace Go.Proofs.Ytiongejdedhcjaa
open Go.RowKit

/-- What Below returns. -/
def Can (n : Int) : Prop := 1 ≤ n ∧ n ≤ 2147483648
instance (n : Int) : Decidable (Can n) := by unfold Can; exact inferInstance
noncomputable def belV (s : Nat) (n : Int) : Int × Int × Int := if Can n then ((Drx s n.toNat : Int), (Drs s n.toNat : Int), 0) else (0, 0, 2)
theorem belV_ok (s n : Nat) (h : Drawable n) : belV s n = ((Drx s n : Int), (Drs s n : Int), 0) := by
  unfold belV; rw [if_pos ⟨by have := h.1; omega, by have := h.2; omega⟩]; rfl
theorem belV_bad {n : Int} (h : ¬ Can n) (s : Nat) : belV s n = (0, 0, 2) := by unfold belV; rw [if_neg h]
theorem ret_trip {k k' k'' : IntKind} {a b c a' b' c' : Int} {p : Int × Int × Int} (h : p = (a', b', c')) (h1 : a = a') (h2 : b = b') (h3 : c = c') :
    Ending.returned (.tuple #[.int k a, .int k' b, .int k'' c]) = .returned (.tuple #[.int k p.1, .int k' p.2.1, .int k'' p.2.2]) := by rw [h, h1, h2, h3]

theorem pdrawable (n : Int) (w : World) : Calls Try.prog 22 #[.int .i64 n] w fun e w' => e = .returned (.bool (decide (Can n))) ∧ w = w' := by
  by_cases h : Can n
  · have H := Lib.hid h
    have h1 := h.1
    have h2 := h.2
    clear h
    go_enter Try.func22, Try.ntmps22
    go_wp2
    go_ret
    exact ⟨by rw [decide_eq_true H.out]; rfl, rfl⟩
  · have H := Lib.hid h
    have hor : n < 1 ∨ 2147483648 < n := by unfold Can at h; omega
    clear h
    rcases hor with h | h
    · go_enter Try.func22, Try.ntmps22
      go_wp2
      go_ret
      exact ⟨by rw [decide_eq_false H.out]; rfl, rfl⟩
    · have hq : decide (n ≤ 2147483648) = false := decide_eq_false (by omega)
      go_enter Try.func22, Try.ntmps22
      go_wp2
      go_ret
      exact ⟨by rw [decide_eq_false H.out, ← hq]; rfl, rfl⟩

theorem pbelow (s : Nat) (n : Int) (hs : s < 18446744073709551616) (w : World) :
    Calls Try.prog 11 #[.int .u64 s, .int .i64 n] w fun e w' => e = .returned (.tuple #[.int .i64 (belV s n).1, .int .u64 (belV s n).2.1, .int .i64 (belV s n).2.2]) ∧ w = w' := by
  by_cases h : Can n
  · obtain ⟨m, rfl⟩ : ∃ m : Nat, n = m := ⟨n.toNat, by have := h.1; omega⟩
    have hd : Drawable m := ⟨by have := h.1; omega, by have := h.2; omega⟩
    have H := Lib.hid (belV_ok s m hd)
    have HD := Lib.hid hd
    have hb : decide (Can (m : Int)) = true := decide_eq_true h
    clear h hd
    go_enter Try.func11, Try.ntmps11
    go_wp2_with (first | (go_at_call 22; refine (pdrawable _ _).mono ?_; rintro e w' ⟨rfl, rfl⟩) | (go_at_call 23; refine (pdraw _ _ hs HD.out _).mono ?_; rintro e w' ⟨rfl, rfl⟩))
    go_ret3
    exact ⟨ret_trip H.out rfl rfl rfl, rfl⟩
  · have H := Lib.hid (belV_bad h s)
    have hb : decide (Can n) = false := decide_eq_false h
    clear h
    go_enter Try.func11, Try.ntmps11
    go_wp2_with (go_at_call 22; refine (pdrawable _ _).mono ?_; rintro e w' ⟨rfl, rfl⟩)
    go_ret3
    exact ⟨ret_trip H.out rfl rfl rfl, rfl⟩

theorem rbelow (s : Nat) (n : Int) (hs : s < 18446744073709551616) (w : World) :
    Calls Try.prog 12 #[.int .u64 s, .int .i64 n] w fun e w' => e = .returned (.tuple #[.int .i64 (belV s n).1, .int .u64 (belV s n).2.1, .int .i64 (belV s n).2.2]) ∧ w = w' := by
  by_cases h : Can n
  · obtain ⟨m, rfl⟩ : ∃ m : Nat, n = m := ⟨n.toNat, by have := h.1; omega⟩
    have hd : Drawable m := ⟨by have := h.1; omega, by have := h.2; omega⟩
    have H := Lib.hid (belV_ok s m hd)
    have h1 := hd.1
    have h2 := hd.2
    have HD := Lib.hid hd
    clear h hd
    go_enter Try.func12, Try.ntmps12
    go_wp2_with (go_at_call 24; refine (rdraw _ _ hs HD.out _).mono ?_; rintro e w' ⟨rfl, rfl⟩)
    go_ret3
    exact ⟨ret_trip H.out rfl rfl rfl, rfl⟩
  · have H := Lib.hid (belV_bad h s)
    have hor : n < 1 ∨ 2147483648 < n := by unfold Can at h; omega
    clear h
    rcases hor with h | h
    · go_enter Try.func12, Try.ntmps12
      go_wp2
      go_ret3
      exact ⟨ret_trip H.out rfl rfl rfl, rfl⟩
    · go_enter Try.func12, Try.ntmps12
      go_wp2
      go_ret3
      exact ⟨ret_trip H.out rfl rfl rfl, rfl⟩
end Go.Proofs.Ytiongejdedhcjaa
