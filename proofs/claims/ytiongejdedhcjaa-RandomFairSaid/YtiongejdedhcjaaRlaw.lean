/- The makers' contracts in the form in which the laws use them (random). -/
import Derived.Test.YtiongejdedhcjaaAwak
import Derived.Test.YtiongejdedhcjaaWf
namespace Go.Proofs.Ytiongejdedhcjaa
open Go.RowKit

theorem worV_len (s : Nat) (k n : Int) : (worV s k n).1.length ≤ 1024 := by
  unfold worV; split
  · rename_i h; show (wsy _ _ _).length ≤ _; rw [wsy_len]; have := h.2.2.2; omega
  · simp
theorem shuV_len (s : Nat) (n : Int) : (shuV s n).1.length ≤ 10000 := by
  unfold shuV; split
  · show (shl _ _ _).1.length ≤ _; rw [shl_len]; omega
  · simp

theorem pword_law (s : Nat) (k n : Int) (hs : s < 18446744073709551616) (w : World) :
    Calls Try.prog 14 #[.int .u64 s, .int .i64 k, .int .i64 n] w fun e w' => ∃ A m c, e = .returned (.tuple #[.slice A m c, .int .u64 (worV s k n).2.1, .int .i64 (worV s k n).2.2]) ∧ Ints w' A m (worV s k n).1 ∧ Below w.heap.size w w' := by
  refine (pword s k n hs w).mono ?_
  rintro e w' ⟨v, rfl, ho, hb⟩
  obtain ⟨A, m, c, rfl, hI⟩ := ho.look (by have := worV_len s k n; omega)
  exact ⟨A, m, c, rfl, hI, hb⟩
theorem rword_law (s : Nat) (k n : Int) (hs : s < 18446744073709551616) (w : World) :
    Calls Try.prog 15 #[.int .u64 s, .int .i64 k, .int .i64 n] w fun e w' => ∃ A m c, e = .returned (.tuple #[.slice A m c, .int .u64 (worV s k n).2.1, .int .i64 (worV s k n).2.2]) ∧ Ints w' A m (worV s k n).1 ∧ Below w.heap.size w w' := by
  refine (rword s k n hs w).mono ?_
  rintro e w' ⟨v, rfl, ho, hb⟩
  obtain ⟨A, m, c, rfl, hI⟩ := ho.look (by have := worV_len s k n; omega)
  exact ⟨A, m, c, rfl, hI, hb⟩
theorem pshuffle_law (s : Nat) (n : Int) (hs : s < 18446744073709551616) (w : World) :
    Calls Try.prog 17 #[.int .u64 s, .int .i64 n] w fun e w' => ∃ A m c, e = .returned (.tuple #[.slice A m c, .int .u64 (shuV s n).2.1, .int .i64 (shuV s n).2.2]) ∧ Ints w' A m (shuV s n).1 ∧ Below w.heap.size w w' := by
  refine (pshuffle s n hs w).mono ?_
  rintro e w' ⟨v, rfl, ho, hb⟩
  obtain ⟨A, m, c, rfl, hI⟩ := ho.look (by have := shuV_len s n; omega)
  exact ⟨A, m, c, rfl, hI, hb⟩
theorem rshuffle_law (s : Nat) (n : Int) (hs : s < 18446744073709551616) (w : World) :
    Calls Try.prog 18 #[.int .u64 s, .int .i64 n] w fun e w' => ∃ A m c, e = .returned (.tuple #[.slice A m c, .int .u64 (shuV s n).2.1, .int .i64 (shuV s n).2.2]) ∧ Ints w' A m (shuV s n).1 ∧ Below w.heap.size w w' := by
  refine (rshuffle s n hs w).mono ?_
  rintro e w' ⟨v, rfl, ho, hb⟩
  obtain ⟨A, m, c, rfl, hI⟩ := ho.look (by have := shuV_len s n; omega)
  exact ⟨A, m, c, rfl, hI, hb⟩
end Go.Proofs.Ytiongejdedhcjaa
