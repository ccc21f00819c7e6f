/- awake: the chapter's examples (random). -/
import Derived.Test.YtiongejdedhcjaaLits
import Derived.Test.YtiongejdedhcjaaShuf
import Derived.Test.YtiongejdedhcjaaChoo
namespace Go.Proofs.Ytiongejdedhcjaa
open Go.RowKit

theorem next0 : Mx 0 = 16294208416658607535 ∧ Nx 0 = 11400714819323198485 := by
  rw [Mx_eq, Nx_eq]; exact ⟨by decide +kernel, by decide +kernel⟩
theorem bel16 : belV 0 16 = (15, 11400714819323198485, 0) := by
  have h := belV_ok 0 16 ⟨by omega, by omega⟩
  rw [Drx_eq, Drs_eq, show drx 0 16 = 15 by decide +kernel, show drs 0 16 = 11400714819323198485 by decide +kernel] at h
  exact h
theorem shu2 : (shuV 0 2).1 = [0, 1] ∧ (shuV 0 2).2.2 = 0 := by
  have h := shuV_ok 0 2 (by omega)
  have h2 : shl 2 0 1 = (swp (iot 2) 1 (Drx 0 2), Drs 0 2) := rfl
  rw [show (2 - 1 : Nat) = 1 from rfl, h2, Drx_eq, show drx 0 2 = 1 by decide +kernel] at h
  rw [show ((2 : Nat) : Int) = 2 from rfl] at h
  rw [h]; exact ⟨rfl, rfl⟩
theorem cho3 : (choV 0 [3, 0, 13]).1 = 2 ∧ (choV 0 [3, 0, 13]).2.2 = 0 := by
  have h := choV_ok (xs := [3, 0, 13]) (n := 3) (t := 16) rfl (by decide) (by decide) ⟨by omega, by omega⟩ 0
  rw [Drx_eq, show drx 0 16 = 15 by decide +kernel] at h
  rw [h]; exact ⟨by decide, rfl⟩
theorem choneg : (choV 0 [1, -1]).2.2 = 1 := by
  rw [choV_neg (xs := [1, -1]) (n := 2) (j := 1) rfl (by omega) (by decide) 0]

theorem choose_lit (w : World) (xs : List Int) (cs : Array Value) (n : Nat) (hcs : cs = lit xs) (hn : n = xs.length) (hl : xs.length ≤ 1000) :
    Calls Try.prog 19 #[.int .u64 0, .slice (some ⟨w.heap.size, 0, none⟩) n n] (w.alloc (.cells cs 3)) fun e w' =>
      e = .returned (.tuple #[.int .i64 (choV 0 xs).1, .int .u64 (choV 0 xs).2.1, .int .i64 (choV 0 xs).2.2]) ∧ Below w.heap.size w w' := by
  refine (pchoose 0 _ _ _ xs (by omega) _ (Ints.new w xs cs n hcs hn (by omega))).mono ?_
  rintro e w' ⟨rfl, rfl⟩
  exact ⟨rfl, alloc_below w _⟩

theorem shuffle2 (w : World) : Calls Try.prog 17 #[.int .u64 0, .int .i64 2] w fun e w' => ∃ A c z, e = .returned (.tuple #[.slice A 2 c, .int .u64 z, .int .i64 0]) ∧ Ints w' A 2 [0, 1] ∧ Below w.heap.size w w' := by
  refine (pshuffle 0 2 (by omega) w).mono ?_
  rintro e w' ⟨v, rfl, ho, hb⟩
  rw [shu2.1] at ho
  rw [shu2.2]
  obtain ⟨A, c, e⟩ := ho.form
  subst e
  exact ⟨A, c, _, rfl, ho.ints (by simp), hb⟩

set_option maxHeartbeats 1000000 in
set_option maxRecDepth 100000 in
theorem awake (w : World) : Calls Try.prog 13 #[] w fun e w' => e = .returned (.bool true) ∧ Below w.heap.size w w' := by
  go_enter Try.func13, Try.ntmps13
  go_wp2_with fail
  refine (pnext 0 _).mono ?_
  rintro e w' ⟨rfl, rfl⟩
  rw [next0.1, next0.2]
  go_wp2_with fail
  refine (pbelow 0 16 (by omega) _).mono ?_
  rintro e w' ⟨rfl, rfl⟩
  rw [bel16]
  go_wp2_with fail
  refine (shuffle2 _).mono ?_
  rintro e w1 ⟨A1, c1, z1, rfl, h1, b1⟩
  go_wp2_with fail
  refine (choose_lit _ [3, 0, 13] _ 3 rfl rfl (by decide)).mono ?_
  rintro e w2 ⟨rfl, b2⟩
  rw [cho3.1, cho3.2]
  generalize (choV 0 [3, 0, 13]).2.1 = z2
  go_wp2_with fail
  refine (choose_lit _ [1, -1] _ 2 rfl rfl (by decide)).mono ?_
  rintro e w3 ⟨rfl, b3⟩
  rw [choneg]
  generalize (choV 0 [1, -1]).1 = z3
  generalize (choV 0 [1, -1]).2.1 = z4
  go_wp2_with fail
  refine (same_lit _ _ _ _ _ 2 [0, 1] ((h1.below b2).below b3) rfl rfl (by decide)).mono ?_
  rintro e w4 ⟨rfl, b4⟩
  go_wp2
  go_ret
  exact ⟨rfl, bt (bt (bt b1 b2) b3) b4⟩
end Go.Proofs.Ytiongejdedhcjaa
