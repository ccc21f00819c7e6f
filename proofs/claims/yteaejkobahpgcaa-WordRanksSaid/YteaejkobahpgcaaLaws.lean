/- The contracts in the form in which the laws use them: results that read as lists. -/
import Derived.Test.YteaejkobahpgcaaIn
import Derived.Test.YteaejkobahpgcaaNextr
import Derived.Test.YteaejkobahpgcaaUnrankr
namespace Go.Proofs.Yteaejkobahpgcaa
open Go.RowKit

theorem nxt_len (k : Int) (xs : List Int) (i : Nat) (h : i ≤ xs.length) : (nxt k xs i).1.length ≤ xs.length + 1 := by
  induction i with
  | zero => rw [nxt]; split <;> simp
  | succ i ih =>
    rw [nxt]
    split
    · simp; omega
    · exact ih (by omega)

theorem nextV_len (xs : List Int) (k : Int) : (nextV xs k).1.length ≤ 1025 := by
  unfold nextV
  split
  · rename_i h
    have h2 := (chk_zero h).2.2.1
    have := nxt_len k xs xs.length (Nat.le_refl _)
    omega
  · simp

theorem unrankV_len (m k : Int) : (unrankV m k).1.length ≤ 1024 := by
  unfold unrankV
  split
  · split
    · simpa
    · simp
  · simp

theorem Owned.look {w : World} {base : Nat} {v : Value} {xs : List Int} (h : Owned w base v xs) (hm : xs.length ≤ 17592186044416) : ∃ A n c, v = .slice A n c ∧ Ints w A n xs := by
  obtain ⟨A, c, rfl⟩ := h.form
  exact ⟨A, _, c, rfl, h.ints hm⟩

theorem wnext_law (A : Option Addr) (n c : Nat) (k : Int) (xs : List Int) (w : World) (h : Ints w A n xs) :
    Calls Try.prog 23 #[.slice A n c, .int .i64 k] w fun e w' => ∃ A' n' c', e = .returned (.tuple #[.slice A' n' c', .bool (nextV xs k).2]) ∧ Ints w' A' n' (nextV xs k).1 ∧ Below w.heap.size w w' := by
  refine (wnext A n c k xs w h).mono ?_
  rintro e w' ⟨v, rfl, ho, hb⟩
  obtain ⟨A', n', c', rfl, hI⟩ := ho.look (by have := nextV_len xs k; omega)
  exact ⟨A', n', c', rfl, hI, hb⟩

theorem rnext_law (A : Option Addr) (n c : Nat) (k : Int) (xs : List Int) (w : World) (h : Ints w A n xs) :
    Calls Try.prog 24 #[.slice A n c, .int .i64 k] w fun e w' => ∃ A' n' c', e = .returned (.tuple #[.slice A' n' c', .bool (nextV xs k).2]) ∧ Ints w' A' n' (nextV xs k).1 ∧ Below w.heap.size w w' := by
  refine (rnext A n c k xs w h).mono ?_
  rintro e w' ⟨v, rfl, ho, hb⟩
  obtain ⟨A', n', c', rfl, hI⟩ := ho.look (by have := nextV_len xs k; omega)
  exact ⟨A', n', c', rfl, hI, hb⟩

theorem wunrank_law (m k : Int) (w : World) (hm : m ≤ 9223372036854775807) :
    Calls Try.prog 27 #[.int .i64 m, .int .i64 k] w fun e w' => ∃ A' n' c', e = .returned (.tuple #[.slice A' n' c', .int .i64 (unrankV m k).2]) ∧ Ints w' A' n' (unrankV m k).1 ∧ Below w.heap.size w w' := by
  refine (wunrank m k w hm).mono ?_
  rintro e w' ⟨v, rfl, ho, hb⟩
  obtain ⟨A', n', c', rfl, hI⟩ := ho.look (by have := unrankV_len m k; omega)
  exact ⟨A', n', c', rfl, hI, hb⟩

theorem runrank_law (m k : Int) (w : World) (hm : m ≤ 9223372036854775807) :
    Calls Try.prog 28 #[.int .i64 m, .int .i64 k] w fun e w' => ∃ A' n' c', e = .returned (.tuple #[.slice A' n' c', .int .i64 (unrankV m k).2]) ∧ Ints w' A' n' (unrankV m k).1 ∧ Below w.heap.size w w' := by
  refine (runrank m k w hm).mono ?_
  rintro e w' ⟨v, rfl, ho, hb⟩
  obtain ⟨A', n', c', rfl, hI⟩ := ho.look (by have := unrankV_len m k; omega)
  exact ⟨A', n', c', rfl, hI, hb⟩

theorem same_law (A B : Option Addr) (n c m d : Nat) (xs : List Int) (w : World) (hx : Ints w A n xs) (hy : Ints w B m xs) :
    Calls Try.prog 22 #[.slice A n c, .slice B m d] w fun e w' => e = .returned (.bool true) ∧ Below w.heap.size w w' := by
  refine (rsame _ _ _ _ _ _ xs xs true _ hx hy (by simp)).mono ?_
  rintro e w' ⟨rfl, hq⟩
  exact ⟨rfl, rd_below hq⟩
end Go.Proofs.Yteaejkobahpgcaa
