/- The walk of slices.Grow of a nil slice. -/
import Derived.Test.YtihahljpfekmbaaProg
import Derived.Test.YtihahljpfekmbaaOwn
import Derived.WalkSpells
import Derived.WalkLawsBesides
import Derived.Outline
import Derived.Lib.AppendZeros
namespace Go.Proofs.Ytihahljpfekmbaa
open Go.RowKit

set_option maxHeartbeats 1000000 in
set_option maxRecDepth 100000 in
theorem grow_nil (N : Nat) (hN : N ≤ 17592186044416) (w : World) :
    Calls Try.prog 101 #[.slice none 0 0, .int .i64 N] w fun e w' => ∃ v, e = .returned v ∧ w'.ownsRow w.heap.size 3 1 v 0 [] ∧ Below w.heap.size w w' := by
  obtain ⟨i0, hi, hz0, hz1, hz2⟩ := info_parts info3
  by_cases h0 : N = 0
  · subst h0
    go_enter Try.func101, Try.ntmps101
    go_wp2
    go_ret
    exact ⟨_, rfl, World.ownsRow_nil _ _ _ _, Below.refl _ _⟩
  · have happ := Lib.run_append_nil_zeros (P := Try.prog) w 32 3 32 3 i0 (.int .i64 0) .i64 .i64 Try.underlying32 Try.underlying3 hi hz0 N (by omega) (by omega) (by omega) (by rw [hz2]; omega)
    have hge := grownCap_ge w N 0 3
    have hcm := grownCap_le_maxLen w N 0 3 (by unfold maxLen; omega)
    generalize grownCap w N 0 3 = cap at happ hge hcm
    generalize hZ : (Builtin.zeroCells (Value.int .i64 0).cells N ++ Builtin.zeroCells (Value.int .i64 0).cells (cap - N)) = Z at happ
    have hZs : Z.size = cap := by rw [← hZ]; simp [size_zeroCells, Value.cells]; omega
    have hp : (0 : Int) < N := by omega
    have HZ := Lib.hid hZs
    clear hZ hZs
    have hmx : cap ≤ 9223372036854775807 := by unfold maxLen at hcm; omega
    go_enter Try.func101, Try.ntmps101
    go_wp2_with (at_builtin; refine Lib.wpList_append_run _ rfl _ _ _ _ rfl _ _ rfl rfl _ _ happ ?_)
    go_ret
    refine ⟨_, rfl, ?_, (Below.refl _ _).drew.alloc (Nat.le_refl _) _⟩
    refine ⟨by simp, .inr ⟨w.heap.size, cap, Z, rfl, Nat.le_refl _, heap_alloc_new w _, Nat.zero_le _, hcm, by rw [HZ.out]; simp, by simp⟩⟩
end Go.Proofs.Ytihahljpfekmbaa
