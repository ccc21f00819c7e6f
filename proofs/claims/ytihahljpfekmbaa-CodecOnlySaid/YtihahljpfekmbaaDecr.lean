/- A decoder: take. -/
import Derived.Test.YtihahljpfekmbaaSize
import Derived.RegionTactic
import Derived.BigRegion
namespace Go.Proofs.Ytihahljpfekmbaa
open Go.RowKit

/-- The block of a decoder. -/
def Dec (w : World) (g : Nat) (A : Option Addr) (n c u : Nat) : Prop := w.heap[g]? = some (.cells #[.slice A n c, .int .i64 u] 97 (0, 0))
theorem Dec.cells {w : World} {g : Nat} {A : Option Addr} {n c u : Nat} (h : Dec w g A n c u) : w.cell? ⟨g, 0, none⟩ = some (.slice A n c) ∧ w.cell? ⟨g, 1, none⟩ = some (.int .i64 u) ∧ w.frozen? ⟨g, 1, none⟩ = false :=
  ⟨cell_of_row w g 0 _ _ (0, 0) h, cell_of_row w g 1 _ _ (0, 0) h, frozen_of_row w g 1 _ _ h⟩
theorem Dec.set {w : World} {g : Nat} {A : Option Addr} {n c u : Nat} (h : Dec w g A n c u) (t : Nat) : Dec (w.setCell ⟨g, 1, none⟩ (.int .i64 t)) g A n c t := heap_setCell_same w g 1 _ _ (.int .i64 t) h
theorem Dec.drew {w : World} {g : Nat} {A : Option Addr} {n c u : Nat} (h : Dec w g A n c u) (q : Nat) : Dec (w.drewN q) g A n c u := h

/-- What is left of the data. -/
def rst (A : Option Addr) (c u : Nat) : Option Addr := if c = u then A else A.map (·.add u)

theorem run_rest (A : Option Addr) (n c p : Nat) (hp : p ≤ n) (w : World) : (Instr.slice 22 (.slice A n c) (some (.int .i64 p)) none none).run Try.prog w = .ok (.slice (rst A c p) (n - p) (c - p)) w := run_taily A n c p hp w

theorem ptake (g : Nat) (A : Option Addr) (n c u k : Nat) (w : World) (hD : Dec w g A n c u) (hu : u ≤ n) (hc : n ≤ c) (hn : n ≤ 140737488355328) (hk : k ≤ n - u) :
    Calls Try.prog 93 #[.pointer (some ⟨g, 0, none⟩), .int .i64 k] w fun e w' => e = .returned (.slice (rst A c u) k (c - u)) ∧ ∃ q, w' = (w.setCell ⟨g, 1, none⟩ (.int .i64 ((u + k : Nat) : Int))).drewN q := by
  obtain ⟨c0, c1, f1⟩ := hD.cells
  have hsl := fun W => run_rest A n c u hu W
  have hsl2 := fun W => run_heady (rst A c u) (n - u) (c - u) k hk (by omega) W
  have d1 : decide (((n - u : Nat) : Int) < (k : Int)) = false := by simp; omega
  have e1 : IntKind.i64.wrap ((u : Int) + (k : Int)) = ((u + k : Nat) : Int) := by rw [IntKind.wrap_i64]; omega
  generalize rst A c u = R at hsl hsl2
  have hd2 : decide (n - u < k) = false := by simp; omega
  go_enter Try.func93, Try.ntmps93
  go_wp2
  go_quiet (fail)
  go_wp2
  go_ret
  exact ⟨rfl, _, rfl⟩

theorem ptake_bad (g : Nat) (A : Option Addr) (n c u : Nat) (k : Int) (w : World) (hD : Dec w g A n c u) (hu : u ≤ n) (hk : ((n - u : Nat) : Int) < k) :
    Calls Try.prog 93 #[.pointer (some ⟨g, 0, none⟩), .int .i64 k] w fun e w' => e = pan 4 ∧ ∃ q, w' = w.drewN q := by
  obtain ⟨c0, c1, f1⟩ := hD.cells
  have hsl := fun W => run_rest A n c u hu W
  have d1 : decide (((n - u : Nat) : Int) < k) = true := decide_eq_true hk
  generalize rst A c u = R at hsl
  go_enter Try.func93, Try.ntmps93
  go_wp2
  go_quiet (fail)
  go_wp2
  exact ⟨rfl, rfl, _, rfl⟩
end Go.Proofs.Ytihahljpfekmbaa
