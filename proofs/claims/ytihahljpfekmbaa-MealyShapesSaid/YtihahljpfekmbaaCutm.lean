/- Parts of a slice; two words as a list. -/
import Derived.Test.YtihahljpfekmbaaMlaw
namespace Go.Proofs.Ytihahljpfekmbaa
open Go.RowKit

theorem Owned.cap {w : World} {base n c : Nat} {A : Option Addr} {xs : List Int} (h : Owned w base (.slice A n c) xs) : n ≤ c := by
  have hn : n = xs.length := by obtain ⟨A', c', e⟩ := h.form; cases e; rfl
  rcases h.2 with ⟨e, _⟩ | ⟨g, cap, cur, e, _, _, h1, _⟩
  · cases e; exact Nat.le_refl _
  · cases e; omega

theorem run_head (A : Option Addr) (n c p : Nat) (hp : p ≤ n) (hc : n ≤ c) (w : World) : (Instr.slice 32 (.slice A n c) none (some (.int .i64 p)) none).run Try.prog w = .ok (.slice A p c) w := by
  obtain ⟨i, hi, hz0, hz1, hz2⟩ := info_parts info3
  have he : Try.prog.elem 32 = 3 := by kernel_rfl
  rw [run_slice_h (P := Try.prog) w 32 A n c (by rw [he]; exact Try.underlying32) .i64 p (by omega) (by omega), he]
  simp [sizeOf, typeInfo, hi, sliced]
  cases A <;> simp [Addr.add]
theorem run_tail (A : Option Addr) (n c p : Nat) (hp : p ≤ n) (w : World) : (Instr.slice 32 (.slice A n c) (some (.int .i64 p)) none none).run Try.prog w = .ok (.slice (if c = p then A else A.map (·.add p)) (n - p) (c - p)) w := by
  obtain ⟨i, hi, hz0, hz1, hz2⟩ := info_parts info3
  have he : Try.prog.elem 32 = 3 := by kernel_rfl
  rw [run_slice_l (P := Try.prog) w 32 A n c (by rw [he]; exact Try.underlying32) .i64 p (by omega) (by omega), he]
  simp [sizeOf, typeInfo, hi, sliced, hz1]
theorem Ints.head {w : World} {A : Option Addr} {n : Nat} {xs : List Int} (h : Ints w A n xs) {p : Nat} (hp : p ≤ n) : Ints w A p (xs.take p) :=
  ⟨by rw [List.length_take, h.1]; omega, Nat.le_trans hp h.2.1, fun h0 => by
    obtain ⟨b, off, e, hlt, hc⟩ := h.2.2 (by omega)
    exact ⟨b, off, e, hlt, fun j hj => by rw [hc j (by omega)]; simp [List.getD, hj]⟩⟩
theorem Ints.tail {w : World} {A : Option Addr} {n c : Nat} {xs : List Int} (h : Ints w A n xs) {p : Nat} (hp : p ≤ n) (hc : n ≤ c) : Ints w (if c = p then A else A.map (·.add p)) (n - p) (xs.drop p) :=
  ⟨by rw [List.length_drop, h.1], by have := h.2.1; omega, fun h0 => by
    obtain ⟨b, off, e, hlt, hcell⟩ := h.2.2 (by omega)
    rw [if_neg (by omega), e]
    refine ⟨b, off + p, ?_, hlt, fun j hj => ?_⟩
    · simp [Addr.add]
    · have := hcell (p + j) (by omega)
      rw [show off + p + j = off + (p + j) by omega, this]
      simp [List.getD]⟩

theorem two_words {w : World} {A B : Option Addr} {n c m d : Nat} {xs ys : List Int} (h1 : Ints w A n xs) (h2 : Ints w B m ys) :
    Lists (w.alloc (.cells #[.slice A n c, .slice B m d] 32)) (some ⟨w.heap.size, 0, none⟩) 2 [xs, ys] := by
  have hb := alloc_below w (.cells #[.slice A n c, .slice B m d] 32)
  refine ⟨rfl, by omega, fun _ => ⟨w.heap.size, 0, rfl, by simp, fun j hj => ?_⟩⟩
  have hc := fun j => cell_of_row (w.alloc (.cells #[.slice A n c, .slice B m d] 32)) w.heap.size j _ 32 (0, 0) (heap_alloc_new w _)
  rw [Nat.zero_add, hc j]
  match j, hj with
  | 0, _ => exact ⟨_, n, c, rfl, h1.below hb⟩
  | 1, _ => exact ⟨_, m, d, rfl, h2.below hb⟩

theorem join_two {w : World} {A B : Option Addr} {n c m d : Nat} {xs ys : List Int} (h1 : Ints w A n xs) (h2 : Ints w B m ys) (hl : n + m ≤ 17592186044416) :
    Calls Try.prog 61 #[.slice (some ⟨w.heap.size, 0, none⟩) 2 2] (w.alloc (.cells #[.slice A n c, .slice B m d] 32)) fun e w' => ∃ A' c', e = .returned (.slice A' (n + m) c') ∧ Ints w' A' (n + m) (xs ++ ys) ∧ Below w.heap.size w w' := by
  have e : [xs, ys].flatten = xs ++ ys := by simp
  have el : (xs ++ ys).length = n + m := by rw [List.length_append, h1.1, h2.1]
  refine (rjoin _ 2 2 [xs, ys] _ (two_words h1 h2) (by rw [e, el]; exact hl)).mono ?_
  rintro e' w' ⟨v, rfl, ho, hb⟩
  rw [e] at ho
  obtain ⟨A', c', rfl⟩ := ho.form
  have hi := ho.ints (by rw [el]; exact hl)
  rw [el] at hi
  exact ⟨A', c', by rw [el], hi, bt (alloc_below _ _) hb⟩
theorem chk_append {xs ys : List Int} {k : Int} (h1 : chk xs k = 0) (h2 : chk ys k = 0) (hl : xs.length + ys.length ≤ 1024) : chk (xs ++ ys) k = 0 := by
  obtain ⟨a1, a2, _, s1⟩ := chk_zero h1
  obtain ⟨_, _, _, s2⟩ := chk_zero h2
  refine chk_ok ⟨a1, a2⟩ (by rw [List.length_append]; omega) fun m hm => ?_
  rw [List.length_append] at hm
  by_cases e : m < xs.length
  · rw [List.getD_eq_getElem?_getD, List.getElem?_append_left e, ← List.getD_eq_getElem?_getD]; exact s1 m e
  · rw [List.getD_eq_getElem?_getD, List.getElem?_append_right (by omega), ← List.getD_eq_getElem?_getD]; exact s2 _ (by omega)
theorem chk_len {xs : List Int} {k : Int} (h : chk xs k = 0) : xs.length ≤ 1024 := (chk_zero h).2.2.1

/-- From, with what its slice may hold. -/
theorem pfrom_ok (i st n : Nat) (A B D : Option Addr) (c d k e s : Nat) (nx ot : List (List Int)) (xs : List Int) (w : World) (hM : Mok i st n nx ot) (hx : Lists w A n nx) (ho : Lists w B n ot) (hD : Ints w D k xs) (hs : s < n) (hc : chk xs i = 0) :
    Calls Try.prog 43 #[.agg #[.int .i64 i, .int .i64 st, .slice A n c, .slice B n d], .int .i64 s, .slice D k e] w fun e w' => ∃ A' c',
      e = .returned (.tuple #[.slice A' k c', .int .i64 (runS nx s xs), .int .i64 0]) ∧ Ints w' A' k (runO nx ot s xs) ∧ k ≤ c' ∧ Below w.heap.size w w' := by
  refine (pfrom i st A B D n c n d k e nx ot s xs w hx ho hD).mono ?_
  rintro e w' ⟨A', c', rfl, h, hb⟩
  rw [hM.frm hs hc] at h ⊢
  have hl : (runO nx ot s xs).length = k := by rw [runO_len, hD.1]
  have h : Owned w' w.heap.size (.slice A' (runO nx ot s xs).length c') (runO nx ot s xs) := h
  have h1 := h.ints (by rw [hl]; exact hD.2.1)
  have h2 := h.cap
  rw [hl] at h1 h2
  exact ⟨A', c', by show Ending.returned (.tuple #[.slice A' (runO nx ot s xs).length c', _, _]) = _; rw [hl], h1, h2, hb⟩
end Go.Proofs.Ytihahljpfekmbaa
