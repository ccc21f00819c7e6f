/- What the rows hand over of the struct of AlphabetTrips. -/
import Derived.Test.YtiongejdedhcjaaDoorOpen
import Derived.OpenShut
import Derived.ShutString
namespace Go.Proofs.YtiongejdedhcjaaDoor
open Go.RowKit Go.ChangeShapes Go.WideShapes Go.Joins Go.ChangeAt
open Go.ChangeMaps (open_string shut_string)

/-- What the walk is told of a slice of integers that came in. -/
def IsRow0 (k : IntKind) (w : World) (a : Option Addr) (len cap : Nat) (zs : List Int) : Prop :=
  (a = none ∧ len = 0 ∧ cap = 0 ∧ zs = []) ∨
  ∃ x, a = some x ∧ len ≤ cap ∧ cap ≤ maxLen ∧ zs.length = cap ∧ (∀ i, i < zs.length → w.cell? (x.add i) = some (.int k (zs.getD i 0))) ∧ ∀ n ∈ zs, (Lit.int k n).wf = true

theorem open_ints0 {H : Type} {enc : TypeId × Value → H} {W : World} {held : Bool} {n : Nat} {v : Value} {y : DataW H × List MemPlace}
    (h : DataW.trod enc Tryd.prog W 0 (fun _ => true) held n 34 [v] = some y) : ∃ A len cap zs, v = .slice A len cap ∧ IsRow0 .i64 W A len cap zs := by
  rcases open_ints Tryd.underlying34 Tryd.underlying3 (by kernel_rfl) h with ⟨hcs, _⟩ | ⟨x, l, c, zs, hcs, _, hl, hm, hz, _, hcell, hwz⟩
  · simp at hcs
    exact ⟨none, 0, 0, [], hcs, .inl ⟨rfl, rfl, rfl, rfl⟩⟩
  · simp at hcs
    exact ⟨some x, l, c, zs, hcs, .inr ⟨_, rfl, hl, hm, by simpa using hz, hcell, hwz⟩⟩

theorem open_trips {H : Type} {enc : TypeId × Value → H} {W : World} {r : Reach} {b0 : Nat} {held : Bool} {v : Value} {d : DataW H} {p : List MemPlace}
    (hv : Value.okWide Tryd.prog W r b0 52 v) (h : DataW.Trod enc Tryd.prog W 0 (fun _ => true) held 52 v d p) :
    ∃ A len cap zs V m dd vs K k f ws s, v = .agg #[.slice A len cap, .slice V m dd, .slice K k f, .string s] ∧ len ≤ cap ∧ Strs0 W A len zs ∧ IsRow0 .i64 W V m dd vs ∧ IsRow0 .i64 W K k f ws := by
  obtain ⟨c0, c1, c2, c3, y0, y1, y2, y3, n, rfl, _, _, h0, h1, h2, h3⟩ := open_agg4 Tryd.underlying52 (by kernel_rfl) (by kernel_rfl) hv h
  obtain ⟨z0, n0, _, _, g0⟩ := trod_struct1 Tryd.underlying24 h0
  have g1 : DataW.trod enc Tryd.prog W 0 (fun _ => true) held n0 22 [c0] = some z0 := by
    have e : Tryd.prog.cellsOf 22 = 1 := by kernel_rfl
    simpa [Value.cells, e] using g0
  obtain ⟨A, len, cap, zs, rfl, hl, hS⟩ := open_strs g1
  obtain ⟨V, m, dd, vs, rfl, hV⟩ := open_ints0 h1
  obtain ⟨K, k, f, ws, rfl, hK⟩ := open_ints0 h2
  obtain ⟨s, e3, _, _⟩ := DataW.trod_string Tryd.underlying9 h3
  simp at e3
  subst e3
  exact ⟨A, len, cap, zs, V, m, dd, vs, K, k, f, ws, _, rfl, hl, hS, hV, hK⟩
end Go.Proofs.YtiongejdedhcjaaDoor
