/- TakeInt. -/
import Derived.Test.YtihahljpfekmbaaTakc
import Derived.Tactics2
import Derived.Defers
import Derived.Laws.Pointers
namespace Go.Proofs.Ytihahljpfekmbaa
open Go.RowKit

/-- What TakeInt returns. -/
def nmA (bs : List Nat) (u : Nat) : Int × Nat × Int := if erA bs u = 0 then (nuA bs u, szA bs u, 0) else (0, 0, erA bs u)
theorem nmA_ok {bs : List Nat} {u : Nat} (h : erA bs u = 0) : nmA bs u = (nuA bs u, szA bs u, 0) := by unfold nmA; rw [if_pos h]
theorem nmA_bad {bs : List Nat} {u : Nat} (h : ¬ erA bs u = 0) : nmA bs u = (0, 0, erA bs u) := by unfold nmA; rw [if_neg h]

/-- The error's cell and the decoder's block. -/
theorem take_world (A : Option Addr) (n c : Nat) (w : World) : Below w.heap.size w ((w.alloc (.cells #[.int .i64 0] 24)).alloc (.cells #[.slice A n c, .int .i64 0] 97)) ∧
    Dec ((w.alloc (.cells #[.int .i64 0] 24)).alloc (.cells #[.slice A n c, .int .i64 0] 97)) (w.heap.size + 1) A n c 0 ∧
    ((w.alloc (.cells #[.int .i64 0] 24)).alloc (.cells #[.slice A n c, .int .i64 0] 97)).heap[w.heap.size]? = some (.cells #[.int .i64 0] 24 (0, 0)) ∧
    ((w.alloc (.cells #[.int .i64 0] 24)).alloc (.cells #[.slice A n c, .int .i64 0] 97)).heap.size = w.heap.size + 2 := by
  have b1 := alloc_below w (.cells #[.int .i64 0] 24)
  have n1 := heap_alloc_new w (.cells #[.int .i64 0] 24)
  have s1 : (w.alloc (.cells #[.int .i64 0] 24)).heap.size = w.heap.size + 1 := by simp
  generalize w.alloc (.cells #[.int .i64 0] 24) = w1 at b1 n1 s1 ⊢
  have b2 := alloc_below w1 (.cells #[.slice A n c, .int .i64 0] 97)
  have n2 := heap_alloc_new w1 (.cells #[.slice A n c, .int .i64 0] 97)
  have s2 : (w1.alloc (.cells #[.slice A n c, .int .i64 0] 97)).heap.size = w1.heap.size + 1 := by simp
  rw [s1] at n2 s2
  exact ⟨bt b1 b2, n2, (b2.block _ (by omega)).trans n1, s2⟩
/-- What the block of the error says. -/
theorem err_cells {w : World} {g : Nat} {x : Int} (h : w.heap[g]? = some (.cells #[.int .i64 x] 24 (0, 0))) : w.cell? ⟨g, 0, none⟩ = some (.int .i64 x) ∧ w.frozen? ⟨g, 0, none⟩ = false :=
  ⟨cell_of_row w g 0 _ _ (0, 0) h, frozen_of_row w g 0 _ _ h⟩

set_option maxHeartbeats 1000000 in
set_option maxRecDepth 100000 in
theorem ptakeInt (A : Option Addr) (n c : Nat) (bs : List Nat) (w : World) (h : Byts w A n bs) (hc : n ≤ c) :
    Calls Try.prog 15 #[.slice A n c] w fun e w' => e = .returned (.tuple #[.int .i64 (nmA bs 0).1, .int .i64 (nmA bs 0).2.1, .int .i64 (nmA bs 0).2.2]) ∧ Below w.heap.size w w' := by
  have hmf : ∀ (fn : Fn) (first cap : Array Value) (w : World), (Instr.makeFunc fn first cap).run Try.prog w = .ok (.func fn first cap) w := fun _ _ _ _ => rfl
  have TW := Lib.hid (take_world A n c w)
  by_cases he : erA bs 0 = 0
  · have HN := Lib.hid (dnumber (w.heap.size + 1) A n c 0 bs _ h TW.out.1 (by omega) TW.out.2.1 (Nat.zero_le _) hc he)
    rw [Nat.zero_add] at HN
    rw [nmA_ok he]
    generalize nuA bs 0 = v at HN
    generalize szA bs 0 = u at HN
    clear he
    go_enter_defers Try.func15, Try.ntmps15
    go_wp2_with fail
    refine HN.out.mono ?_
    rintro e w3 ⟨rfl, q, rfl⟩
    have d3 := (TW.out.2.1.set u).drew q
    have g3 := only_drewN (only_setCell (World.grownBy.refl _ (some (w.heap.size + 1))) 1 (.int .i64 (u : Int))) q (a := ((w.alloc (.cells #[.int .i64 0] 24)).alloc (.cells #[.slice A n c, .int .i64 0] 97)))
    have e3 := (g3.block w.heap.size (by rw [TW.out.2.2.2]; omega) (by simp)).trans TW.out.2.2.1
    have b3 := below_only TW.out.1 (Nat.le_succ _) g3
    clear TW HN
    generalize (((w.alloc (.cells #[.int .i64 0] 24)).alloc (.cells #[.slice A n c, .int .i64 0] 97)).setCell ⟨w.heap.size + 1, 1, none⟩ (.int .i64 (u : Int))).drewN q = w3 at d3 g3 e3 b3 ⊢
    obtain ⟨c0, f0⟩ := err_cells e3
    obtain ⟨_, c1, _⟩ := d3.cells
    go_wp2
    go_region
    go_wp2
    have e4 : (w3.setCell ⟨w.heap.size, 0, none⟩ (.int .i64 0)).drew.heap[w.heap.size]? = some (.cells #[.int .i64 0] 24 (0, 0)) := heap_setCell_same w3 w.heap.size 0 _ _ (.int .i64 0) e3
    have b4 : Below w.heap.size w (w3.setCell ⟨w.heap.size, 0, none⟩ (.int .i64 0)).drew := below_drewN (b3.setCell (p := ⟨w.heap.size, 0, none⟩) (Nat.le_refl _) _) 1
    generalize (w3.setCell ⟨w.heap.size, 0, none⟩ (.int .i64 0)).drew = w4 at e4 b4 ⊢
    obtain ⟨c4, f4⟩ := err_cells e4
    refine leaves_cons (f := 62) (args := #[.pointer (some ⟨w.heap.size, 0, none⟩)]) (by simp) (by simp [go_sem]) ?_
    refine (catch_int_no ⟨w.heap.size, 0, none⟩ 0 w4 c4 f4).mono ?_
    rintro e u' w5 ⟨rfl, rfl, rfl⟩
    have c5 : (w4.setCell ⟨w.heap.size, 0, none⟩ (.int .i64 0)).cell? ⟨w.heap.size, 0, none⟩ = some (.int .i64 0) := (err_cells (x := 0) (heap_setCell_same w4 w.heap.size 0 _ _ (.int .i64 0) e4)).1
    simp [Leaves, settle, results, Try.results15, go_sem, c5]
    exact b4.setCell (p := ⟨w.heap.size, 0, none⟩) (Nat.le_refl _) _
  · have HN := Lib.hid (dnumber_bad (w.heap.size + 1) A n c 0 bs _ h TW.out.1 TW.out.2.1 (Nat.zero_le _) hc he)
    rw [nmA_bad he]
    generalize erA bs 0 = k at HN
    clear he
    go_enter_defers Try.func15, Try.ntmps15
    go_wp2_with fail
    refine HN.out.mono ?_
    rintro e w3 ⟨rfl, q, rfl⟩
    have e3 := TW.out.2.2.1
    have b3 := below_drewN TW.out.1 q
    clear TW HN
    generalize hw : ((w.alloc (.cells #[.int .i64 0] 24)).alloc (.cells #[.slice A n c, .int .i64 0] 97)) = w2 at e3 b3 ⊢
    have e3 : (w2.drewN q).heap[w.heap.size]? = some (.cells #[.int .i64 0] 24 (0, 0)) := e3
    generalize w2.drewN q = w3 at e3 b3 ⊢
    obtain ⟨c0, f0⟩ := err_cells e3
    refine leaves_cons (f := 62) (args := #[.pointer (some ⟨w.heap.size, 0, none⟩)]) (by simp) (by simp [go_sem]) ?_
    refine (catch_int ⟨w.heap.size, 0, none⟩ 0 k [] w3 c0 f0).mono ?_
    rintro e u' w4 ⟨rfl, rfl, rfl⟩
    have c4 : (w3.setCell ⟨w.heap.size, 0, none⟩ (.int .i64 k)).cell? ⟨w.heap.size, 0, none⟩ = some (.int .i64 k) := (err_cells (x := k) (heap_setCell_same w3 w.heap.size 0 _ _ (.int .i64 k) e3)).1
    simp [Leaves, settle, results, Try.results15, go_sem, c4]
    exact b3.setCell (p := ⟨w.heap.size, 0, none⟩) (Nat.le_refl _) _
end Go.Proofs.Ytihahljpfekmbaa
