/- What the rows hand over: bytes; lists with their ranges. -/
import Derived.Test.YtihahljpfekmbaaOpenm
import Derived.Test.YtihahljpfekmbaaPutl
namespace Go.Proofs.Ytihahljpfekmbaa
open Go.ChangeShapes Go.WideShapes Go.ChangeAt Go.RowKit Go.Joins Go.Deep

section
variable {H : Type} {enc : TypeId × Value → H} {w : World} {base : Nat} {held : Bool} {fuel : Nat} {cs : List Value} {x : DataW H × List MemPlace}

theorem Byts.of_in {A : Addr} {l cap : Nat} {zs : List Int} (hl : l ≤ cap) (hn : l ≤ 140737488355328) (h2 : zs.length = cap) (hc : ∀ i, i < zs.length → w.cell? (A.add i) = some (.int .u8 (zs.getD i 0))) (hw : ∀ n ∈ zs, (Lit.int .u8 n).wf = true) :
    Byts w (some A) l ((zs.take l).map Int.toNat) := by
  refine ⟨by simp; omega, hn, fun h0 => ?_, ?_⟩
  · obtain ⟨b, off, spot⟩ := A
    have hc0 := hc 0 (by omega)
    have hspot : spot = none := by simpa [Addr.add] using World.cell?_spot hc0
    subst hspot
    refine ⟨b, off, rfl, by have := block_lt hc0; simpa [Addr.add] using this, fun j hj => ?_⟩
    have := hc j (by omega)
    rw [show (⟨b, off, none⟩ : Addr).add j = ⟨b, off + j, none⟩ by unfold Addr.add; split <;> simp_all] at this
    rw [this]
    have hjz : j < zs.length := by omega
    obtain ⟨s, hs, _⟩ := u8_nat (hw (zs.getD j 0) (by rw [List.getD_eq_getElem?_getD, List.getElem?_eq_getElem hjz]; exact List.getElem_mem _))
    have e : ((zs.take l).map Int.toNat).getD j 0 = s := by
      rw [List.getD_eq_getElem?_getD, List.getElem?_eq_getElem hjz] at hs
      simp at hs
      simp [List.getD, hj, hjz, hs]
    rw [e, hs]
  · intro b hb
    obtain ⟨z, hz, rfl⟩ := List.mem_map.1 hb
    obtain ⟨s, rfl, hs⟩ := u8_nat (hw z (List.mem_of_mem_take hz))
    simpa using hs

/-- A slice of bytes that came in. -/
theorem open_bytesw (hb3 : Try.prog.bytesOf 5 = 1) (h : DataW.trod enc Try.prog w base (fun _ => true) held fuel 22 cs = some x) (hl : Light Try.prog 22 x.1) :
    ∃ A n c bs, cs = [.slice A n c] ∧ n ≤ c ∧ Byts w A n bs := by
  rcases open_ints Try.underlying22 Try.underlying5 (by kernel_rfl) h with ⟨hcs, hx⟩ | ⟨a, l, c, zs, hcs, _, hlc, hm, hz, hx, hcell, hwz⟩
  · exact ⟨none, 0, 0, [], hcs, Nat.le_refl _, ⟨rfl, by omega, fun h => absurd h (by omega), by simp⟩⟩
  · simp only [if_true] at hz
    subst hx
    have := hl (((lits (H := H) .u8 (zs.take l)).length + (lits (H := H) .u8 (zs.drop l)).length) * 1) (by simp [DataW.weights, Try.underlying22, hb3])
    rw [reach_num] at this
    simp only [lits, List.length_map, List.length_take, List.length_drop] at this
    exact ⟨some a, l, c, _, hcs, hlc, Byts.of_in hlc (by omega) hz hcell hwz⟩

theorem open_intsr (hb3 : Try.prog.bytesOf 3 = 8) (h : DataW.trod enc Try.prog w base (fun _ => true) held fuel 32 cs = some x) (hl : Light Try.prog 32 x.1) :
    ∃ A n c zs, cs = [.slice A n c] ∧ n ≤ c ∧ Ints w A n zs ∧ RL zs := by
  obtain ⟨A, n, c, zs, h1, h2, h3, h4⟩ := open_intsw hb3 h hl
  exact ⟨A, n, c, zs, h1, h2, h3, fun z hz => i64_in (h4 z hz)⟩

/-- A slice of slices of ints that came in, with their ranges. -/
theorem open_listsr (hb3 : Try.prog.bytesOf 3 = 8) (hb4 : Try.prog.bytesOf 32 = 24) (h : DataW.trod enc Try.prog w base (fun _ => true) held fuel 33 cs = some x) (hl : Light Try.prog 33 x.1) :
    ∃ A n c xss, cs = [.slice A n c] ∧ n ≤ c ∧ Lists w A n xss ∧ ∀ l, l ∈ xss → RL l := by
  rcases open_int_rows Try.underlying33 Try.underlying32 Try.underlying3 (by kernel_rfl) (by kernel_rfl) h with ⟨hcs, hx⟩ | ⟨a, l, c, A, L, C, Z, hcs, _, hlc, hm, hx, hcell⟩
  · exact ⟨none, 0, 0, [], hcs, Nat.le_refl _, ⟨rfl, by omega, fun h => absurd h (by omega)⟩, by simp⟩
  · subst hx
    refine ⟨some a, l, c, (List.range l).map fun r => (Z r).take (L r), hcs, hlc, ⟨by simp, ?_, fun h0 => ?_⟩, ?_⟩
    · have := hl ((((List.range l).map fun r => intRow (H := H) .i64 (A r) (L r) (Z r)).length + ((List.range (c - l)).map fun j => intRow (H := H) .i64 (A (l + j)) (L (l + j)) (Z (l + j))).length) * 24) (by simp [DataW.weights, Try.underlying33, hb4])
      rw [reach_num] at this
      simp only [List.length_map, List.length_range] at this
      omega
    · obtain ⟨b, off, spot⟩ := a
      have hc0 := (hcell 0 (by omega)).1
      have hspot : spot = none := by simpa [Addr.add] using World.cell?_spot hc0
      subst hspot
      refine ⟨b, off, rfl, by have := block_lt hc0; simpa [Addr.add] using this, fun j hj => ?_⟩
      obtain ⟨h1, h2, h3, h4, h5, h6, h7⟩ := hcell j (by omega)
      have e : ((List.range l).map fun r => (Z r).take (L r)).getD j [] = (Z j).take (L j) := by simp [List.getD, hj]
      rw [add_none] at h1
      refine ⟨A j, L j, C j, h1, ?_⟩
      rw [e]
      cases hA : A j with
      | none =>
        have hC := h6 hA
        exact Ints.of_in (cap := C j) (by omega) (.inl ⟨rfl, by omega, hC, List.eq_nil_of_length_eq_zero (by omega)⟩)
      | some y =>
        have hw : Light Try.prog 32 (intRow (H := H) .i64 (A j) (L j) (Z j)) := fun n hn => hl n (by
          simp only [DataW.weights, Try.underlying33]
          exact List.mem_cons_of_mem _ (List.mem_append_left _ (weightsAll_mem (List.mem_map.2 ⟨j, List.mem_range.2 hj, rfl⟩) hn)))
        rw [hA] at hw
        have := hw (((lits (H := H) .i64 ((Z j).take (L j))).length + (lits (H := H) .i64 ((Z j).drop (L j))).length) * 8) (by simp [intRow, DataW.weights, Try.underlying32, hb3])
        rw [reach_num] at this
        simp only [lits, List.length_map, List.length_take, List.length_drop] at this
        exact Ints.of_in (cap := C j) (by omega) (.inr ⟨y, rfl, h2, h3, h4, fun i hi => (h7 y hA).2 i (by omega), h5⟩)
    · intro xs hxs z hz
      obtain ⟨r, hr, rfl⟩ := List.mem_map.1 hxs
      obtain ⟨h1, h2, h3, h4, h5, h6, h7⟩ := hcell r (by have := List.mem_range.1 hr; omega)
      exact i64_in (h5 z (List.mem_of_mem_take hz))
end
end Go.Proofs.Ytihahljpfekmbaa
