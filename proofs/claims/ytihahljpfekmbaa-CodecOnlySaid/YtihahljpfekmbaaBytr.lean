/- Bytes: append of a list of bytes; a string of bytes; SameBytes. -/
import Derived.Test.YtihahljpfekmbaaPut
import Derived.Laws.BytesArg
namespace Go.Proofs.Ytihahljpfekmbaa
open Go.RowKit

theorem run_append_noney (w : World) (base c : Nat) (i : TypeInfo) (hi : Try.prog.info? 5 = some i) (v : Value) (xs : List Nat) (h : OwnedY w base v xs) :
    (Builtin.append_ #[22, 22] 22 #[v, .slice none 0 c]).run Try.prog w = .ok v w := by
  rcases h.2 with ⟨rfl, _⟩ | ⟨g, cap, cur, rfl, _, _, hnc, _⟩
  · simp [Builtin.append_, run_underlying Try.underlying22, sizeOf, typeInfo, hi, Builtin.lenOf, Builtin.firstCells]
  · simp [Builtin.append_, run_underlying Try.underlying22, sizeOf, typeInfo, hi, Builtin.lenOf, Builtin.firstCells, hnc, storeCells]

/-- append(v, ys...) onto an owned row of bytes. -/
theorem run_append_bytes (w : World) (base : Nat) (v : Value) (xs ys : List Nat) (A : Option Addr) (m c : Nat) (h : OwnedY w base v xs) (hy : Byts w A m ys)
    (hbase : base ≤ w.heap.size) (hlen : (xs ++ ys).length ≤ 17592186044416) :
    ∃ v' w', (Builtin.append_ #[22, 22] 22 #[v, .slice A m c]).run Try.prog w = .ok v' w' ∧ OwnedY w' base v' (xs ++ ys) ∧ Below base w w' := by
  obtain ⟨i, hi, hz0, hz1, hz2⟩ := info_parts infoy
  have hsplit : ∀ k, v.ownBlock = some k → base ≤ k := fun k hk => (World.ownsRow.lt h k hk).1
  rcases Nat.eq_zero_or_pos m with h0 | h0
  · have hys : ys = [] := List.eq_nil_of_length_eq_zero (by rw [hy.1, h0])
    subst h0 hys
    cases A with
    | none => exact ⟨v, w, run_append_noney w base c i hi v xs h, by simpa using h, Below.refl _ _⟩
    | some a =>
      obtain ⟨v', w', hr, h1, h2, _⟩ := run_append_own (P := Try.prog) w base 22 22 5 i (.int .u8 0) 1 1 Try.underlying22 hi hz0 hz1 hz2 rfl (by decide) v _ _ h a 0 c [] (by simp) (by simp) (by simp)
        (by have := h.1; simp at hlen; unfold maxLen; omega) (by simp at hlen; omega) hbase
      exact ⟨v', w', hr, by unfold OwnedY; simpa using h1, (Below.refl _ _).grown h2 hbase hsplit⟩
  · obtain ⟨b, off, rfl, hb, hc⟩ := hy.2.2.1 h0
    obtain ⟨v', w', hr, h1, h2, _⟩ := run_append_own (P := Try.prog) w base 22 22 5 i (.int .u8 0) 1 1 Try.underlying22 hi hz0 hz1 hz2 rfl (by decide) v _ _ h ⟨b, off, none⟩ m c (yv ys)
      (by rw [yv_len, Nat.mul_one]; exact hy.1)
      (by
        intro j u hu
        have hj : j < ys.length := by
          rcases Nat.lt_or_ge j ys.length with hlt | hge
          · exact hlt
          · rw [List.getElem?_eq_none (by rw [yv_len]; exact hge)] at hu; cases hu
        have hcj := hc j (by rw [← hy.1]; exact hj)
        unfold yv at hu
        rw [List.getElem?_map, List.getElem?_eq_getElem hj] at hu
        simp only [Option.map_some, Option.some.injEq] at hu
        subst hu
        rw [show (⟨b, off, none⟩ : Addr).add j = ⟨b, off + j, none⟩ by unfold Addr.add; split <;> simp_all]
        rw [hcj]; simp [List.getD, hj])
      (by intro u hu; simp [yv] at hu; obtain ⟨a, _, rfl⟩ := hu; rfl)
      (by rw [List.length_append] at hlen; rw [← hy.1]; unfold maxLen; omega) (by rw [List.length_append] at hlen; rw [← hy.1]; omega) hbase
    refine ⟨v', w', hr, ?_, (Below.refl _ _).grown h2 hbase hsplit⟩
    unfold OwnedY
    rw [List.length_append, show yv (xs ++ ys) = yv xs ++ yv ys by simp [yv], hy.1]
    exact h1

/-- A string of bytes. -/
def sob (bs : List Nat) : ByteArray := strOfNums (bs.map fun b : Nat => (b : Int))
theorem sob_inj {a b : List Nat} (ha : ∀ x, x ∈ a → x < 256) (hb : ∀ x, x ∈ b → x < 256) (h : (sob a).data = (sob b).data) : a = b := by
  have h : a.map (fun n => UInt8.ofNat n) = b.map (fun n => UInt8.ofNat n) := by
    have := congrArg Array.toList h
    unfold sob at this
    rw [strOfNums_data, strOfNums_data, List.map_map, List.map_map] at this
    exact this
  have h2 := congrArg (List.map UInt8.toNat) h
  rw [List.map_map, List.map_map] at h2
  have e : ∀ l : List Nat, (∀ x, x ∈ l → x < 256) → l.map (UInt8.toNat ∘ fun n => UInt8.ofNat n) = l := by
    intro l hl
    conv => rhs; rw [← List.map_id l]
    apply List.map_congr_left
    intro x hx
    have := hl x hx
    simp [UInt8.toNat_ofNat']
    omega
  rwa [e a ha, e b hb] at h2
theorem run_conv {w : World} {A : Option Addr} {n : Nat} {bs : List Nat} (h : Byts w A n bs) (c : Nat) : (convert 22 9 (.slice A n c)).run Try.prog w = .ok (.string (sob bs)) w := by
  rcases Nat.eq_zero_or_pos n with h0 | h0
  · subst h0
    obtain rfl : bs = [] := List.eq_nil_of_length_eq_zero h.1
    cases A with
    | none => exact run_convert_bytes_nil w 22 5 Try.underlying22 Try.underlying5 0 c 9 Try.underlying9
    | some a =>
      rw [run_convert_bytes_string w 22 9 5 (some a) 0 c Try.underlying22 Try.underlying5 Try.underlying9]
      exact run_bytesToString w a 0 c [] (run_loadCells_list (P := Try.prog) w a [] (by simp))
  · obtain ⟨b, off, rfl, _, hc⟩ := h.2.2.1 h0
    refine run_convert_bytes_arg (P := Try.prog) w 22 5 Try.underlying22 Try.underlying5 b off n c (bs.map fun b : Nat => (b : Int)) (by simp [h.1]) (fun i hi => ?_) 9 Try.underlying9
    rw [hc i hi]
    have : i < bs.length := by rw [h.1]; exact hi
    simp [List.getD, this]
theorem sob_eq {a b : List Nat} (ha : ∀ x, x ∈ a → x < 256) (hb : ∀ x, x ∈ b → x < 256) : ((sob b).toList == (sob a).toList) = decide (a = b) := by
  by_cases e : a = b
  · subst e; simp
  · rw [decide_eq_false e]
    apply beq_false_of_ne
    intro h
    refine e (sob_inj ha hb ?_)
    rw [ByteArray.toList_eq, ByteArray.toList_eq] at h
    exact (Array.ext' h).symm
end Go.Proofs.Ytihahljpfekmbaa
