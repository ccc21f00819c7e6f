/- What the rows hand over of an alphabet; Great over any alphabet. -/
import Derived.Test.YtiongejdedhcjaaDoorAwaka
import Derived.Test.YtiongejdedhcjaaDoorNums
import Derived.SliceStrings
import Derived.ChangeSame
import Derived.WideShapes
import Derived.Lib.SmallJoins
namespace Go.Proofs.YtiongejdedhcjaaDoor
open Go.RowKit Go.ChangeShapes Go.WideShapes Go.Joins

/-- The slice '.slice A n _' holds the strings ss, however many. -/
def Strs0 (w : World) (A : Option Addr) (n : Nat) (ss : List ByteArray) : Prop :=
  ss.length = n ∧ n ≤ 9223372036854775807 ∧ (0 < n → ∃ b off, A = some ⟨b, off, none⟩ ∧ b < w.heap.size ∧ ∀ j, j < n → w.cell? ⟨b, off + j, none⟩ = some (.string (ss.getD j ByteArray.empty))) ∧
  ∀ j, j < n → (ss.getD j ByteArray.empty).size ≤ 9223372036854775807

theorem Strs0.below {w w' : World} {A : Option Addr} {n : Nat} {ss : List ByteArray} (h : Strs0 w A n ss) (hb : Below w.heap.size w w') : Strs0 w' A n ss :=
  ⟨h.1, h.2.1, fun hn => by
    obtain ⟨b, off, e, hlt, hc⟩ := h.2.2.1 hn
    exact ⟨b, off, e, Nat.lt_of_lt_of_le hlt hb.size, fun j hj => (hb.cell hlt).trans (hc j hj)⟩, h.2.2.2⟩
theorem Strs0.at_ {w : World} {A : Option Addr} {n : Nat} {ss : List ByteArray} (h : Strs0 w A n ss) {k : Nat} (hk : k < n) :
    ∃ b off, A = some ⟨b, off, none⟩ ∧ b < w.heap.size ∧ w.cell? ⟨b, off + k, none⟩ = some (.string (ss.getD k ByteArray.empty)) := by
  obtain ⟨b, off, e, hlt, hc⟩ := h.2.2.1 (by omega)
  exact ⟨b, off, e, hlt, hc k hk⟩
theorem Strs0.small {w : World} {A : Option Addr} {n : Nat} {ss : List ByteArray} (h : Strs0 w A n ss) (hg : ¬ Grt ss) : Strs w A n ss ∧ n ≤ 70 ∧ ∀ j, j < n → (ss.getD j ByteArray.empty).size ≤ 100 := by
  have hn : n ≤ 70 := by
    rcases Nat.lt_or_ge 70 n with h1 | h1
    · exact absurd (.inl (by rw [h.1]; exact h1)) hg
    · exact h1
  have hz : ∀ j, j < n → (ss.getD j ByteArray.empty).size ≤ 100 := fun j hj => by
    rcases Nat.lt_or_ge 100 (ss.getD j ByteArray.empty).size with h1 | h1
    · exact absurd (.inr ⟨j, by rw [h.1]; exact hj, by omega, h1⟩) hg
    · exact h1
  exact ⟨⟨h.1, by omega, h.2.2.1, fun j hj => by have := hz j hj; omega⟩, hn, hz⟩

set_option maxHeartbeats 1000000 in
theorem rgreat0 (A : Option Addr) (n c : Nat) (ss : List ByteArray) (w : World) (h : Strs0 w A n ss) :
    Calls Tryd.prog 9 #[.agg #[.slice A n c]] w fun e w' => e = .returned (.bool (decide (Grt ss))) ∧ Below w.heap.size w w' := by
  have L := Lib.hid h.1
  have hn := h.2.1
  have hb0 := alloc_below w (.cells #[.slice A n c] 24)
  have h' := h.below hb0
  go_enter Tryd.func9, Tryd.ntmps9
  go_wp2
  go_loop [3] (fun i => ∃ j : Nat, j ≤ n ∧ j ≤ 71 ∧ i = .int .i64 j ∧ ∀ m, m < j → ¬ 100 < (ss.getD m ByteArray.empty).size) (fun i => n - (intOf i).toNat)
  case atStart => exact ⟨0, Nat.zero_le _, by omega, rfl, fun m h => absurd h (by omega)⟩
  case round =>
    obtain ⟨j, hj, hj2, rfl, hne⟩ := hrel
    have HN := Lib.hid hne
    clear hne
    by_cases hlt : j < n ∧ j < 71
    · obtain ⟨hlt, hl2⟩ := hlt
      obtain ⟨b, off, rfl, _, hcell⟩ := h'.at_ hlt
      by_cases hx : 100 < (ss.getD j ByteArray.empty).size
      · have hfin := Lib.hid (show decide (Grt ss) = true from decide_eq_true (.inr ⟨j, by rw [L.out]; exact hlt, hl2, hx⟩))
        generalize ss.getD j ByteArray.empty = y at hcell hx
        go_wp2
        go_ret
        exact ⟨ret_bool hfin.out.symm, hb0⟩
      · have hnx := Lib.hid (show ∀ m, m < j + 1 → ¬ 100 < (ss.getD m ByteArray.empty).size from fun m hm => by
          by_cases e : m = j
          · subst e; exact hx
          · exact HN.out m (by omega))
        generalize ss.getD j ByteArray.empty = y at hcell hx
        go_wp2
        go_round
        case rel => exact ⟨j + 1, by omega, by omega, by go_num, hnx.out⟩
        case measure => simp [intOf]; omega
    · have hfin := Lib.hid (show decide ((70 : Int) < (n : Int)) = decide (Grt ss) from decide_eq_decide.2 ⟨fun h => .inl (by rw [L.out]; omega), fun h => by
        rcases h with h | ⟨m, h1, h2, h3⟩
        · rw [L.out] at h; omega
        · rw [L.out] at h1
          exact absurd h3 (HN.out m (by omega))⟩)
      have hor : n ≤ j ∨ (j < n ∧ 71 ≤ j) := by omega
      clear hlt
      rcases hor with h1 | ⟨h1, h2⟩
      · go_wp2
        go_ret
        exact ⟨ret_bool hfin.out, hb0⟩
      · go_wp2
        go_ret
        exact ⟨ret_bool hfin.out, hb0⟩

/-- The addresses of a row's cells. -/
theorem Strs0.of_cells {w : World} {a : Addr} {len : Nat} {zs : List ByteArray} (hl : len ≤ zs.length) (hm : len ≤ maxLen) (hc : ∀ i, i < zs.length → w.cell? (a.add i) = some (.string (zs.getD i ByteArray.empty))) (hz : ∀ s ∈ zs, s.size ≤ maxLen) :
    Strs0 w (some a) len (zs.take len) := by
  refine ⟨by rw [List.length_take]; omega, by unfold maxLen at hm; omega, fun h0 => ?_, fun j hj => ?_⟩
  · obtain ⟨b, off, spot⟩ := a
    have hc0 := hc 0 (by omega)
    have hspot : spot = none := by simpa [Addr.add] using World.cell?_spot hc0
    subst hspot
    refine ⟨b, off, rfl, by have := block_lt hc0; simpa [Addr.add] using this, fun j hj => ?_⟩
    have := hc j (by omega)
    rw [show (⟨b, off, none⟩ : Addr).add j = ⟨b, off + j, none⟩ by unfold Addr.add; split <;> simp_all] at this
    rw [this]
    simp [List.getD, hj]
  · have h1 : (zs.take len).getD j ByteArray.empty = zs[j]'(by omega) := by simp [List.getD, hj, show j < zs.length by omega]
    rw [h1]
    have := hz _ (List.getElem_mem (show j < zs.length by omega))
    unfold maxLen at this
    omega

/-- A slice of strings as data. -/
theorem open_strs {H : Type} {enc : TypeId × Value → H} {W : World} {held : Bool} {n : Nat} {v : Value} {y : DataW H × List MemPlace}
    (h : DataW.trod enc Tryd.prog W 0 (fun _ => true) held n 22 [v] = some y) : ∃ A len cap zs, v = .slice A len cap ∧ len ≤ cap ∧ Strs0 W A len zs := by
  rcases open_strings Tryd.underlying22 Tryd.underlying9 (by kernel_rfl) h with ⟨hcs, _⟩ | ⟨x, l, c, zs, hcs, _, hl, hm, hz, _, hcell, hwz⟩
  · simp at hcs
    exact ⟨none, 0, 0, [], hcs, Nat.le_refl _, rfl, Nat.zero_le _, fun h => absurd h (by omega), fun j h => absurd h (by omega)⟩
  · simp at hcs
    exact ⟨some x, l, c, zs.take l, hcs, hl, Strs0.of_cells (by have : zs.length = c := by simpa using hz
                                                                omega) (by omega) hcell hwz⟩

/-- An alphabet by value, as data. -/
theorem open_alpha {H : Type} {enc : TypeId × Value → H} {W : World} {r : Reach} {b0 : Nat} {held : Bool} {v : Value} {d : DataW H} {p : List MemPlace}
    (hv : Value.okWide Tryd.prog W r b0 24 v) (h : DataW.Trod enc Tryd.prog W 0 (fun _ => true) held 24 v d p) :
    ∃ A len cap zs, v = .agg #[.slice A len cap] ∧ len ≤ cap ∧ Strs0 W A len zs := by
  obtain ⟨cs, rfl, hsz⟩ := okWide_struct Tryd.underlying24 hv
  rw [show Tryd.prog.cellsOf 24 = 1 by kernel_rfl] at hsz
  obtain ⟨l⟩ := cs
  match l, hsz with
  | [c0], _ =>
    obtain ⟨fuel, hf⟩ := h
    obtain ⟨y0, n, _, _, h0⟩ := trod_struct1 Tryd.underlying24 hf
    have h1 : DataW.trod enc Tryd.prog W 0 (fun _ => true) held n 22 [c0] = some y0 := by
      have e : Tryd.prog.cellsOf 22 = 1 := by kernel_rfl
      simpa [Value.cells, e] using h0
    obtain ⟨A, len, cap, zs, rfl, hl, hS⟩ := open_strs h1
    exact ⟨A, len, cap, zs, rfl, hl, hS⟩
end Go.Proofs.YtiongejdedhcjaaDoor
