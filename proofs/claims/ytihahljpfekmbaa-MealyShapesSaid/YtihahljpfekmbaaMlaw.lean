/- From and Run of a machine, in the words of the laws. -/
import Derived.Test.YtihahljpfekmbaaFromm
import Derived.Test.YtihahljpfekmbaaFromr
import Derived.Test.YtihahljpfekmbaaAwakm
namespace Go.Proofs.Ytihahljpfekmbaa
open Go.RowKit

theorem pfrom_law (i st : Int) (A B D : Option Addr) (n c m d k e : Nat) (nx ot : List (List Int)) (s : Int) (xs : List Int) (w : World) (hx : Lists w A n nx) (ho : Lists w B m ot) (hD : Ints w D k xs) :
    Calls Try.prog 43 #[.agg #[.int .i64 i, .int .i64 st, .slice A n c, .slice B m d], .int .i64 s, .slice D k e] w fun e w' => ∃ A' c',
      e = .returned (.tuple #[.slice A' (frm i st nx ot s xs).1.length c', .int .i64 (frm i st nx ot s xs).2.1, .int .i64 (frm i st nx ot s xs).2.2]) ∧ Ints w' A' (frm i st nx ot s xs).1.length (frm i st nx ot s xs).1 ∧ Below w.heap.size w w' :=
  (pfrom i st A B D n c m d k e nx ot s xs w hx ho hD).mono fun _ _ ⟨A', c', h1, h2, h3⟩ => ⟨A', c', h1, Owned.ints h2 (by have := frm_len (i := i) (st := st) (nx := nx) (ot := ot) (s := s) (xs := xs); omega), h3⟩
theorem rfrom_law (i st : Int) (A B D : Option Addr) (n c m d k e : Nat) (nx ot : List (List Int)) (s : Int) (xs : List Int) (w : World) (hx : Lists w A n nx) (ho : Lists w B m ot) (hD : Ints w D k xs) :
    Calls Try.prog 44 #[.agg #[.int .i64 i, .int .i64 st, .slice A n c, .slice B m d], .int .i64 s, .slice D k e] w fun e w' => ∃ A' c',
      e = .returned (.tuple #[.slice A' (frm i st nx ot s xs).1.length c', .int .i64 (frm i st nx ot s xs).2.1, .int .i64 (frm i st nx ot s xs).2.2]) ∧ Ints w' A' (frm i st nx ot s xs).1.length (frm i st nx ot s xs).1 ∧ Below w.heap.size w w' :=
  (rfrom i st A B D n c m d k e nx ot s xs w hx ho hD).mono fun _ _ ⟨A', c', h1, h2, h3⟩ => ⟨A', c', h1, Owned.ints h2 (by have := frm_len (i := i) (st := st) (nx := nx) (ot := ot) (s := s) (xs := xs); omega), h3⟩
theorem prun_law (i st : Int) (A B D : Option Addr) (n c m d k e : Nat) (nx ot : List (List Int)) (xs : List Int) (w : World) (hx : Lists w A n nx) (ho : Lists w B m ot) (hD : Ints w D k xs) :
    Calls Try.prog 46 #[.agg #[.int .i64 i, .int .i64 st, .slice A n c, .slice B m d], .slice D k e] w fun e w' => ∃ A' c',
      e = .returned (.tuple #[.slice A' (frm i st nx ot st xs).1.length c', .int .i64 (frm i st nx ot st xs).2.2]) ∧ Ints w' A' (frm i st nx ot st xs).1.length (frm i st nx ot st xs).1 ∧ Below w.heap.size w w' :=
  (prunw i st A B D n c m d k e nx ot xs w hx ho hD).mono fun _ _ ⟨A', c', h1, h2, h3⟩ => ⟨A', c', h1, Owned.ints h2 (by have := frm_len (i := i) (st := st) (nx := nx) (ot := ot) (s := st) (xs := xs); omega), h3⟩
theorem rrun_law (i st : Int) (A B D : Option Addr) (n c m d k e : Nat) (nx ot : List (List Int)) (xs : List Int) (w : World) (hx : Lists w A n nx) (ho : Lists w B m ot) (hD : Ints w D k xs) :
    Calls Try.prog 47 #[.agg #[.int .i64 i, .int .i64 st, .slice A n c, .slice B m d], .slice D k e] w fun e w' => ∃ A' c',
      e = .returned (.tuple #[.slice A' (frm i st nx ot st xs).1.length c', .int .i64 (frm i st nx ot st xs).2.2]) ∧ Ints w' A' (frm i st nx ot st xs).1.length (frm i st nx ot st xs).1 ∧ Below w.heap.size w w' :=
  (rrunw i st A B D n c m d k e nx ot xs w hx ho hD).mono fun _ _ ⟨A', c', h1, h2, h3⟩ => ⟨A', c', h1, Owned.ints h2 (by have := frm_len (i := i) (st := st) (nx := nx) (ot := ot) (s := st) (xs := xs); omega), h3⟩
theorem ints_same (A B : Option Addr) (n c m d : Nat) (xs : List Int) (w : World) (hx : Ints w A n xs) (hy : Ints w B m xs) :
    Calls Try.prog 45 #[.slice A n c, .slice B m d] w fun e w' => e = .returned (.bool true) ∧ Below w.heap.size w w' :=
  (rints A B n c m d xs xs true w hx hy (by simp)).mono fun _ _ ⟨h1, h2⟩ => ⟨h1, rd_below h2⟩
end Go.Proofs.Ytihahljpfekmbaa
