/- Literals, and what readers and makers leave. -/
import Derived.Test.YtnifjagjcoegaaaIn
import Derived.Test.YtnifjagjcoegaaaSame
namespace Go.Proofs.Ytnifjagjcoegaaa
open Go.RowKit

/-- Calls of readers give Below. -/
theorem rd_below {w w' : World} (h : ∃ q, w' = w.drewN q) : Below w.heap.size w w' := by obtain ⟨q, rfl⟩ := h; exact below_drewN (Below.refl _ _) q

theorem alloc_below (w : World) (o : Obj) : Below w.heap.size w (w.alloc o) := (Below.refl _ _).alloc (Nat.le_refl _) _

/-- The list xs as a literal's cells. -/
def lit (xs : List Int) : Array Value := (xs.map (Value.int .i64)).toArray

theorem bt {a b c : World} (h : Below a.heap.size a b) (k : Below b.heap.size b c) : Below a.heap.size a c := h.trans (k.mono h.size)

theorem Ints.none_ (w : World) : Ints w none 0 [] := ⟨rfl, by omega, fun h => absurd h (by omega)⟩

/-- Same of a list and a literal that is equal to it. -/
theorem same_lit (w : World) (A : Option Addr) (n c : Nat) (cs : Array Value) (m : Nat) (xs : List Int) (h : Ints w A n xs) (h1 : cs = lit xs) (h2 : m = xs.length) (l1 : xs.length ≤ 1000) :
    Calls Try.prog 27 #[.slice A n c, .slice (some ⟨w.heap.size, 0, none⟩) m m] (w.alloc (.cells cs 3)) fun e w' => e = .returned (.bool true) ∧ Below w.heap.size w w' := by
  refine (rsame _ _ _ _ _ _ xs xs true _ (h.below (alloc_below w _)) (Ints.new w xs cs m h1 h2 (by omega)) (by simp)).mono ?_
  rintro e w' ⟨rfl, hq⟩
  exact ⟨rfl, (alloc_below w _).trans ((rd_below hq).mono (by simp))⟩
end Go.Proofs.Ytnifjagjcoegaaa
