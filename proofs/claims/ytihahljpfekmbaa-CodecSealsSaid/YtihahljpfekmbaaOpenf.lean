/- What the rows hand over: the structs of CodecTrips and CodecSeals. -/
import Derived.Test.YtihahljpfekmbaaOpeny
import Derived.Test.YtihahljpfekmbaaMach
namespace Go.Proofs.Ytihahljpfekmbaa
open Go.ChangeShapes Go.WideShapes Go.ChangeAt Go.RowKit Go.Joins Go.Deep

theorem five {α : Type} {cs : Array α} (h : cs.size = 5) : ∃ a b c d e, cs = #[a, b, c, d, e] := by
  obtain ⟨l⟩ := cs
  match l, h with
  | [a, b, c, d, e], _ => exact ⟨a, b, c, d, e, rfl⟩

section
variable {H : Type} {enc : TypeId × Value → H} {w : World} {base : Nat} {held : Bool}
/-- A struct of five fields of one cell each. -/
theorem open_five {P : Program} {r : Reach} {b0 : Nat} {t : TypeId} {f0 f1 f2 f3 f4 : Field} {v : Value} {d : DataW H} {p : List MemPlace} (hs : P.underlying t = some (.struct #[f0, f1, f2, f3, f4])) (hone : oneCellFields P #[f0, f1, f2, f3, f4] = true) (hC : P.cellsOf t = 5)
    (hv : Value.okWide P w r b0 t v) (h : DataW.Trod enc P w base (fun _ => true) held t v d p) :
    ∃ (v0 v1 v2 v3 v4 : Value) (y0 y1 y2 y3 y4 : DataW H × List MemPlace) (n : Nat), v = .agg #[v0, v1, v2, v3, v4] ∧ d = .agg [y0.1, y1.1, y2.1, y3.1, y4.1] ∧
      DataW.trod enc P w base (fun _ => true) held n f0.type [v0] = some y0 ∧ DataW.trod enc P w base (fun _ => true) held n f1.type [v1] = some y1 ∧ DataW.trod enc P w base (fun _ => true) held n f2.type [v2] = some y2 ∧
      DataW.trod enc P w base (fun _ => true) held n f3.type [v3] = some y3 ∧ DataW.trod enc P w base (fun _ => true) held n f4.type [v4] = some y4 := by
  obtain ⟨cs, rfl, hsz⟩ := okWide_struct hs hv
  obtain ⟨c0, c1, c2, c3, c4, rfl⟩ := five (hsz.trans hC)
  obtain ⟨fuel, hf⟩ := h
  obtain ⟨xs, n, _, hx, _, hlen, hg⟩ := DataW.trod_struct hs hf
  match xs, hlen, hx, hg with
  | [y0, y1, y2, y3, y4], _, hx, hg =>
    obtain ⟨o0, k0⟩ := hone_of hone 0 f0 rfl
    obtain ⟨o1, k1⟩ := hone_of hone 1 f1 rfl
    obtain ⟨o2, k2⟩ := hone_of hone 2 f2 rfl
    obtain ⟨o3, k3⟩ := hone_of hone 3 f3 rfl
    obtain ⟨o4, k4⟩ := hone_of hone 4 f4 rfl
    simp only [Prod.mk.injEq] at hx
    exact ⟨c0, c1, c2, c3, c4, y0, y1, y2, y3, y4, n, rfl, hx.1, by simpa [Value.cells, o0, k0] using hg 0 f0 rfl, by simpa [Value.cells, o1, k1] using hg 1 f1 rfl, by simpa [Value.cells, o2, k2] using hg 2 f2 rfl,
      by simpa [Value.cells, o3, k3] using hg 3 f3 rfl, by simpa [Value.cells, o4, k4] using hg 4 f4 rfl⟩

set_option maxRecDepth 100000 in
theorem open_trips {r : Reach} {b0 : Nat} {v : Value} {d : DataW H} {p : List MemPlace} (hv : Value.okWide Try.prog w r b0 57 v) (h : DataW.Trod enc Try.prog w base (fun _ => true) held 57 v d p) (hl : Light Try.prog 57 d) :
    ∃ n A m c xs B k e xss D q f bs cut, v = .agg #[.int .i64 n, .slice A m c, .slice B k e, .slice D q f, .int .u16 cut] ∧ (Lit.int .i64 n).wf = true ∧ Ints w A m xs ∧ RL xs ∧ Lists w B k xss ∧ (∀ l, l ∈ xss → RL l) ∧ q ≤ f ∧ Byts w D q bs ∧ (Lit.int .u16 cut).wf = true := by
  obtain ⟨c0, c1, c2, c3, c4, y0, y1, y2, y3, y4, f, rfl, hd, h0, h1, h2, h3, h4⟩ := open_five Try.underlying57 (by kernel_rfl) (by kernel_rfl) hv h
  obtain ⟨n, e0, _, w0⟩ := DataW.trod_int Try.underlying3 h0
  obtain ⟨cut, e4, _, w4⟩ := DataW.trod_int Try.underlying55 h4
  subst hd
  have hw : ∀ n, n ∈ y1.1.weights Try.prog 32 ∨ n ∈ y2.1.weights Try.prog 33 ∨ n ∈ y3.1.weights Try.prog 22 → n ≤ reachBytes := fun n hn => hl n (by
    simp only [DataW.weights, Try.underlying57]
    rcases hn with hn | hn | hn
    · exact DataW.weights_mem_each (j := 1) rfl rfl n hn
    · exact DataW.weights_mem_each (j := 2) rfl rfl n hn
    · exact DataW.weights_mem_each (j := 3) rfl rfl n hn)
  obtain ⟨A, m, c, xs, e1, _, l1, r1⟩ := open_intsr (by kernel_rfl) h1 (fun n hn => hw n (.inl hn))
  obtain ⟨B, k, e, xss, e2, _, l2, r2⟩ := open_listsr (by kernel_rfl) (by kernel_rfl) h2 (fun n hn => hw n (.inr (.inl hn)))
  obtain ⟨D, q, f, bs, e3, c3, l3⟩ := open_bytesw (by kernel_rfl) h3 (fun n hn => hw n (.inr (.inr hn)))
  simp at e0 e1 e2 e3 e4
  subst e0 e1 e2 e3 e4
  exact ⟨n, A, m, c, xs, B, k, e, xss, D, q, f, bs, cut, rfl, w0, l1, r1, l2, r2, c3, l3, w4⟩

set_option maxRecDepth 100000 in
theorem open_seals {r : Reach} {b0 : Nat} {v : Value} {d : DataW H} {p : List MemPlace} (hv : Value.okWide Try.prog w r b0 62 v) (h : DataW.Trod enc Try.prog w base (fun _ => true) held 62 v d p) (hl : Light Try.prog 62 d) :
    ∃ kd A m c xs B k e ys at_ by_, v = .agg #[.int .u8 kd, .slice A m c, .slice B k e, .int .u16 at_, .int .u8 by_] ∧ (Lit.int .u8 kd).wf = true ∧ m ≤ c ∧ Byts w A m xs ∧ k ≤ e ∧ Byts w B k ys ∧ (Lit.int .u16 at_).wf = true ∧ (Lit.int .u8 by_).wf = true := by
  obtain ⟨c0, c1, c2, c3, c4, y0, y1, y2, y3, y4, f, rfl, hd, h0, h1, h2, h3, h4⟩ := open_five Try.underlying62 (by kernel_rfl) (by kernel_rfl) hv h
  obtain ⟨kd, e0, _, w0⟩ := DataW.trod_int Try.underlying5 h0
  obtain ⟨at_, e3, _, w3⟩ := DataW.trod_int Try.underlying55 h3
  obtain ⟨by_, e4, _, w4⟩ := DataW.trod_int Try.underlying5 h4
  subst hd
  have hw : ∀ n, n ∈ y1.1.weights Try.prog 22 ∨ n ∈ y2.1.weights Try.prog 22 → n ≤ reachBytes := fun n hn => hl n (by
    simp only [DataW.weights, Try.underlying62]
    rcases hn with hn | hn
    · exact DataW.weights_mem_each (j := 1) rfl rfl n hn
    · exact DataW.weights_mem_each (j := 2) rfl rfl n hn)
  obtain ⟨A, m, c, xs, e1, q1, l1⟩ := open_bytesw (by kernel_rfl) h1 (fun n hn => hw n (.inl hn))
  obtain ⟨B, k, e, ys, e2, q2, l2⟩ := open_bytesw (by kernel_rfl) h2 (fun n hn => hw n (.inr hn))
  simp at e0 e1 e2 e3 e4
  subst e0 e1 e2 e3 e4
  exact ⟨kd, A, m, c, xs, B, k, e, ys, at_, by_, rfl, w0, q1, l1, q2, l2, w3, w4⟩
end
end Go.Proofs.Ytihahljpfekmbaa
