/- One refinement of classes: the walk. -/
import Derived.Test.YtnifjagjcoegaaaSgn
namespace Go.Proofs.Ytnifjagjcoegaaa
open Go.RowKit

theorem sigT : KeyT 162 164 := ⟨Try.underlying162, Go.Maps.Keyed.of_law (deep_law_laid laidOutB_ (m := 3) (by omega) (of_decide_eq_true (by kernel_rfl)) (by kernel_rfl) (by rw [Try.underlying164]))⟩

theorem sigK {x : List Int} (hl : x.length = 128) (hx : ∀ a, a ∈ x → I64 a) : IsK 164 x := by
  have c1 : Try.prog.cellsOf 164 = 128 := by kernel_rfl
  have c2 : Try.prog.cellsOf 100 = 2 := by kernel_rfl
  refine keyOf_arr Try.underlying164 (fun x hl hx => ?_) (by kernel_rfl) (by rw [c1, hl]) hx
  refine keyLits_arr Try.underlying164 (by simp [hl]) fun j hj => ?_
  rw [c2, ← List.map_drop, ← List.map_take]
  have e : Try.prog.types.size = (Try.prog.types.size - 2) + 2 := by kernel_rfl
  rw [e]
  refine keyLits_row Try.underlying100 c2 ?_ fun a ha => hx a (List.mem_of_mem_drop (List.mem_of_mem_take ha))
  rw [List.length_take, List.length_drop, hl, c1]; omega
theorem sgmK {i st n : Nat} {nx ot : List (List Int)} (hM : Mok i st n nx ot) {cl : List Nat} (hcl : ∀ t, t < n → cl.getD t 0 ≤ n) {s : Nat} (hs : s < n) : IsK 164 (sgm nx ot cl s i) := by
  refine sigK (sgm_len _ _ _ _ _) fun a ha => ?_
  obtain ⟨j, hj, rfl⟩ := List.getElem_of_mem ha
  rw [sgm_len] at hj
  have h := sgm_get nx ot cl s i j hj
  rw [List.getElem?_eq_getElem (by rw [sgm_len]; exact hj)] at h
  simp only [Option.some.injEq] at h
  rw [h]
  have hn := hM.n2
  by_cases e : j / 2 < i
  · rw [if_pos e]
    by_cases e2 : j % 2 = 0
    · rw [if_pos e2]
      have := (hM.row s hs).2.2 _ e
      unfold oN
      exact I64.mk (by omega) (by omega)
    · rw [if_neg e2]
      have := hcl _ (hM.nN_lt hs e)
      exact I64.mk (by omega) (by omega)
  · rw [if_neg e]; exact I64.mk (by omega) (by omega)
end Go.Proofs.Ytnifjagjcoegaaa
