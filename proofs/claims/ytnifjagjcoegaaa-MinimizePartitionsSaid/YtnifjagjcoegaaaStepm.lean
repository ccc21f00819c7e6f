/- A runner: step and run. -/
import Derived.Test.YtnifjagjcoegaaaVald
import Derived.RegionTactic
import Derived.BigRegion
namespace Go.Proofs.Ytnifjagjcoegaaa
open Go.RowKit

/-- The block of a runner. -/
def Rnr (w : World) (g : Nat) (i st : Int) (A : Option Addr) (n c : Nat) (B : Option Addr) (m d : Nat) (s : Nat) : Prop :=
  w.heap[g]? = some (.cells #[.int .i64 i, .int .i64 st, .slice A n c, .slice B m d, .int .i64 s] 136 (0, 0))

theorem Rnr.cells {w : World} {g : Nat} {i st : Int} {A B : Option Addr} {n c m d s : Nat} (h : Rnr w g i st A n c B m d s) :
    w.cell? ⟨g, 2, none⟩ = some (.slice A n c) ∧ w.cell? ⟨g, 3, none⟩ = some (.slice B m d) ∧ w.cell? ⟨g, 4, none⟩ = some (.int .i64 s) ∧ w.frozen? ⟨g, 4, none⟩ = false :=
  ⟨cell_of_row w g 2 _ _ (0, 0) h, cell_of_row w g 3 _ _ (0, 0) h, cell_of_row w g 4 _ _ (0, 0) h, frozen_of_row w g 4 _ _ h⟩

set_option maxHeartbeats 2000000 in
set_option maxRecDepth 100000 in
theorem pstep {W w : World} {g : Nat} {i st n : Nat} {A B : Option Addr} {c d s a : Nat} {nx ot : List (List Int)} (hM : Mok i st n nx ot) (hx : Lists W A n nx) (ho : Lists W B n ot) (hb : Below W.heap.size W w)
    (hR : Rnr w g i st A n c B n d s) (hs : s < n) (ha : a < i) :
    Calls Try.prog 124 #[.pointer (some ⟨g, 0, none⟩), .int .i64 a] w fun e w' => e = .returned (.int .i64 (oN ot s a)) ∧ ∃ q, w' = (w.setCell ⟨g, 4, none⟩ (.int .i64 (nN nx s a))).drewN q := by
  obtain ⟨c2, c3, c4, f4⟩ := hR.cells
  obtain ⟨g1, o1, A1, n1, c1, rfl, hg1, hc1, hr1⟩ := (hx.below hb).at_ hs
  obtain ⟨g2, o2, A2, n2, c2', rfl, hg2, hc2, hr2⟩ := (ho.below hb).at_ hs
  have hi1 := (hM.row s hs).1
  have hi2 := (hM.row s hs).2.1
  have hl1 := hr1.1
  have hl2 := hr2.1
  obtain rfl : n1 = i := by omega
  obtain rfl : n2 = n1 := by omega
  obtain ⟨b1, p1, rfl, _, hy1⟩ := hr1.at_ ha
  obtain ⟨b2, p2, rfl, _, hy2⟩ := hr2.at_ ha
  rw [hM.nN_eq hs ha] at hy1
  change w.cell? _ = some (.int .i64 (oN ot s a)) at hy2
  have hn := hr1.2.1
  have hN := hx.2.1
  clear hl1 hl2 hi1 hi2
  go_enter Try.func124, Try.ntmps124
  go_wp2
  go_quiet (fail)
  go_wp2
  go_region
  all_goals
    go_wp2
    go_ret
    exact ⟨rfl, by first | exact ⟨_, rfl⟩ | exact ⟨_, World.drewN_drewN _ _ _⟩⟩
end Go.Proofs.Ytnifjagjcoegaaa
