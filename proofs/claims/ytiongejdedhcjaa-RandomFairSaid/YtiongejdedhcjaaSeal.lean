/- The numbers of Mix as names that nothing unfolds. No program. -/
import Derived.Test.YtiongejdedhcjaaMix
namespace Go.Proofs.Ytiongejdedhcjaa

noncomputable def shut {α : Type} (a : α) : α := Classical.choose (⟨a, rfl⟩ : ∃ b, b = a)
theorem shut_eq {α : Type} (a : α) : shut a = a := Classical.choose_spec (⟨a, rfl⟩ : ∃ b, b = a)

noncomputable def Nx : Nat → Nat := shut nx
noncomputable def Mx : Nat → Nat := shut mx
noncomputable def Lim : Nat → Nat := shut lim
noncomputable def Rst : Nat → Nat := shut rst
noncomputable def Hit : Nat → Nat → Nat × Nat := shut (fun n s => hit (lim n) (rst n) s)
noncomputable def Lft : Nat → Nat → Nat → Nat := shut lft
noncomputable def Drx : Nat → Nat → Nat := shut drx
noncomputable def Drs : Nat → Nat → Nat := shut drs

theorem Nx_eq (s : Nat) : Nx s = nx s := congrFun (shut_eq nx) s
theorem Mx_eq (s : Nat) : Mx s = mx s := congrFun (shut_eq mx) s
theorem Lim_eq (s : Nat) : Lim s = lim s := congrFun (shut_eq lim) s
theorem Rst_eq (s : Nat) : Rst s = rst s := congrFun (shut_eq rst) s
theorem Hit_eq (n s : Nat) : Hit n s = hit (lim n) (rst n) s := congrFun (congrFun (shut_eq (fun n s => hit (lim n) (rst n) s)) n) s
theorem Lft_eq (n x s : Nat) : Lft n x s = lft n x s := congrFun (congrFun (congrFun (shut_eq lft) n) x) s
theorem Drx_eq (s n : Nat) : Drx s n = drx s n := congrFun (congrFun (shut_eq drx) s) n
theorem Drs_eq (s n : Nat) : Drs s n = drs s n := congrFun (congrFun (shut_eq drs) s) n

theorem Nx_lt (s : Nat) : Nx s < 18446744073709551616 := by rw [Nx_eq]; exact nx_lt s
theorem Mx_lt (s : Nat) : Mx s < 18446744073709551616 := by rw [Mx_eq]; exact mx_lt s
theorem Hit_at {n s : Nat} (h : Drawable n) (hs : s < 18446744073709551616) (hx : Mx s ≤ Lim n) : Hit n s = (Mx s, Nx s) := by
  rw [Mx_eq, Lim_eq] at hx; rw [Hit_eq, Mx_eq, Nx_eq]; exact hit_at h hs hx
theorem Hit_on {n s : Nat} (h : Drawable n) (hs : s < 18446744073709551616) (hx : ¬ Mx s ≤ Lim n) : Hit n s = Hit n (Nx s) := by
  rw [Mx_eq, Lim_eq] at hx; rw [Hit_eq, Hit_eq, Nx_eq]; exact hit_on h hs hx
theorem Lft_on {n x s : Nat} (h : Drawable n) (hs : s < 18446744073709551616) (hx : ¬ x ≤ Lim n) : Lft n (Mx s) (Nx s) < Lft n x s := by
  rw [Lim_eq] at hx; rw [Lft_eq, Lft_eq, Mx_eq, Nx_eq]; exact lft_on h hs hx
theorem Hit_dr (n s : Nat) : (Hit n s).1 % n = Drx s n ∧ (Hit n s).2 = Drs s n := by rw [Hit_eq, Drx_eq, Drs_eq]; exact ⟨rfl, rfl⟩
theorem Drx_lt {s n : Nat} (h : Drawable n) : Drx s n < n := by rw [Drx_eq]; exact drx_lt h
theorem Drs_lt (s n : Nat) : Drs s n < 18446744073709551616 := by rw [Drs_eq]; exact drs_lt
theorem Drs_ne {s n : Nat} (h : Drawable n) (hs : s < 18446744073709551616) : Drs s n ≠ s := by rw [Drs_eq]; exact drs_ne h hs
end Go.Proofs.Ytiongejdedhcjaa
