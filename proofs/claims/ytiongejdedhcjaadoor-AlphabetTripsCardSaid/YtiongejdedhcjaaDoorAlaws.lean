/- The walks of the laws over alphabets: AlphabetNumbers, AlphabetChecks, AlphabetWords, AlphabetTexts. -/
import Derived.Test.YtiongejdedhcjaaDoorOpen
namespace Go.Proofs.YtiongejdedhcjaaDoor
open Go.RowKit

/-- What makes an alphabet valid. -/
theorem valid_of {ss : List ByteArray} (h1 : 1 ≤ ss.length) (h2 : ss.length ≤ 64) (hN : ∀ j, j < ss.length → Nam (ss.getD j ByteArray.empty)) (hd : ∀ i j, i < j → j < ss.length → ss.getD i ByteArray.empty ≠ ss.getD j ByteArray.empty) : valV ss = 0 := by
  have hc : ∀ j, j < ss.length → ¬ Lib.containsS (ss.take j) (ss.getD j ByteArray.empty) = true := fun j hj h => by
    rw [Lib.containsS_iff, List.mem_take_iff_getElem] at h
    obtain ⟨i, hi, e⟩ := h
    have := hd i j (by omega) hj
    apply this
    rw [← e]
    simp [List.getD, show i < ss.length by omega]
  have go : ∀ f i, f = ss.length - i → i ≤ ss.length → vGo ss f i = 0 := by
    intro f
    induction f with
    | zero => intro i _ _; rfl
    | succ f ih =>
      intro i hf hi
      rw [vGo, if_neg (fun h => h (hN i (by omega))), if_neg (hc i (by omega))]
      exact ih (i + 1) (by omega) (by omega)
  rw [valV_go rfl (by omega) (by omega)]
  exact go ss.length 0 (by omega) (Nat.zero_le _)

theorem dg_list (i : Nat) (h : i < 100) : (dg i).data.toList = if i < 10 then [UInt8.ofNat (48 + i)] else [UInt8.ofNat (48 + i / 10), UInt8.ofNat (48 + i % 10)] := by
  rw [dg_eq]
  show Lib.decDigits i = _
  by_cases h1 : i < 10
  · rw [Lib.decDigits, dif_pos h1, if_pos h1]
  · rw [Lib.decDigits, dif_neg h1, if_neg h1, Lib.decDigits, dif_pos (by omega)]; rfl
theorem ofNat_inj {a b : Nat} (ha : a < 256) (hb : b < 256) (h : UInt8.ofNat a = UInt8.ofNat b) : a = b := by
  have := congrArg UInt8.toNat h
  rw [UInt8.toNat_ofNat', UInt8.toNat_ofNat'] at this
  omega
theorem dg_inj {i j : Nat} (hi : i < 100) (hj : j < 100) (h : (dg i).data.toList = (dg j).data.toList) : i = j := by
  rw [dg_list i hi, dg_list j hj] at h
  split at h
  · split at h
    · have := ofNat_inj (by omega) (by omega) (List.cons.inj h).1; omega
    · simp at h
  · split at h
    · simp at h
    · have h1 := ofNat_inj (by omega) (by omega) (List.cons.inj h).1
      have h2 := ofNat_inj (by omega) (by omega) (List.cons.inj (List.cons.inj h).2).1
      omega
theorem dg_ok {i : Nat} (hi : i < 100) : ∀ c, c ∈ (dg i).data.toList → OkC c.toNat := by
  intro c hc
  rw [dg_list i hi] at hc
  split at hc
  · rw [List.mem_singleton.1 hc, UInt8.toNat_ofNat']; unfold OkC; omega
  · rcases List.mem_cons.1 hc with e | hc
    · rw [e, UInt8.toNat_ofNat']; unfold OkC; omega
    · rw [List.mem_singleton.1 hc, UInt8.toNat_ofNat']; unfold OkC; omega
theorem nam_bytes {s : ByteArray} (h : ∀ i, i < s.size → OkC (byt s i)) : ∀ c, c ∈ s.data.toList → OkC c.toNat := by
  intro c hc
  obtain ⟨i, hi, e⟩ := List.mem_iff_getElem.1 hc
  have := h i (by rw [← size_len]; exact hi)
  unfold byt at this
  rw [List.getElem?_eq_getElem hi] at this
  rw [← e]; exact this
theorem bytes_nam {s : ByteArray} (h : ∀ c, c ∈ s.data.toList → OkC c.toNat) : ∀ i, i < s.size → OkC (byt s i) := by
  intro i hi
  rw [← size_len] at hi
  unfold byt
  rw [List.getElem?_eq_getElem hi]
  exact h _ (List.getElem_mem _)
theorem nmb_get (p : ByteArray) (n j : Nat) (h : j < n) : (nmb p n).getD j ByteArray.empty = p ++ dg j := by
  induction n with
  | zero => omega
  | succ n ih =>
    rw [nmb]
    rcases Nat.lt_or_ge j n with h1 | h1
    · rw [List.getD, List.getElem?_append_left (by rw [nmb_len]; exact h1)]; exact ih h1
    · obtain rfl : j = n := by omega
      rw [List.getD, List.getElem?_append_right (by rw [nmb_len]; exact Nat.le_refl _), nmb_len, Nat.sub_self]; rfl
theorem app_list (a b : ByteArray) : (a ++ b).data.toList = a.data.toList ++ b.data.toList := by rw [ByteArray.data_append, Array.toList_append]
theorem num_valid {p : ByteArray} {n : Int} (h : (numV p n).2 = 0) : valV (numV p n).1 = 0 := by
  unfold numV at h ⊢
  split at h
  · simp at h
  · rename_i h1
    rw [if_neg h1]
    have h1 : Nam p ∧ p.size ≤ 30 := Classical.not_not.1 h1
    split at h
    · simp at h
    · rename_i h2
      rw [if_neg h2]
      have h2 : 1 ≤ n ∧ n ≤ 64 := Classical.not_not.1 h2
      show valV (nmb p n.toNat) = 0
      have hl := nmb_len p n.toNat
      refine valid_of (by omega) (by omega) (fun j hj => ?_) (fun i j hij hj => ?_)
      · rw [nmb_get p _ j (by omega)]
        have hz := dg_len j (by omega)
        refine ⟨bytes_nam (fun c hc => ?_), ?_, ?_⟩
        · rw [app_list] at hc
          rcases List.mem_append.1 hc with hc | hc
          · exact nam_bytes h1.1.1 c hc
          · exact dg_ok (by omega) c hc
        · rw [ByteArray.size_append]; have := h1.1.2.1; omega
        · rw [ByteArray.size_append]; omega
      · rw [nmb_get p _ i (by omega), nmb_get p _ j (by omega)]
        intro e
        have e2 := congrArg (fun s : ByteArray => s.data.toList) e
        simp only [app_list] at e2
        have := dg_inj (by omega) (by omega) (List.append_cancel_left e2)
        omega

set_option maxHeartbeats 2000000 in
theorem numbers_walk (p : ByteArray) (n : Int) (w : World) :
    Calls Tryd.prog 6 #[.string p, .int .i64 n] w fun e w' => e = .returned (.bool true) ∧ Below w.heap.size w w' := by
  by_cases h0 : 100 < p.size
  · go_enter Tryd.func6, Tryd.ntmps6
    go_wp2_with (go_at_call 10; refine (awake _).mono ?_; rintro e w4 ⟨rfl, b4⟩)
    go_ret
    exact ⟨rfl, b4⟩
  · have hs : p.size ≤ 17592186044416 := by omega
    go_enter Tryd.func6, Tryd.ntmps6
    go_wp2_with fail
    refine (pnumbered_law p n hs _).mono ?_
    rintro e w1 ⟨A1, n1, c1, rfl, i1, hc1, b1⟩
    go_wp2_with fail
    have hb1 := alloc_below w1 (.cells #[.slice A1 n1 c1] 24)
    have hx1 : (w1.alloc (.cells #[.slice A1 n1 c1] 24)).cell? ⟨w1.heap.size, 0, none⟩ = some (.slice A1 n1 c1) := by rw [cell_of_row _ _ 0 _ _ _ (heap_alloc_new _ _)]; rfl
    have i1 := i1.below hb1
    have b1 := bt b1 hb1
    generalize hW1 : w1.alloc (.cells #[.slice A1 n1 c1] 24) = W1 at i1 b1 hx1 ⊢
    have hs1 : w1.heap.size < W1.heap.size := by rw [← hW1]; simp
    clear hb1 hW1
    refine (rnumbered_law p n hs _).mono ?_
    rintro e w2 ⟨A2, n2, c2, rfl, i2, hc2, b2⟩
    have hb2 := alloc_below w2 (.cells #[.slice A2 n2 c2] 24)
    have i1 := (i1.below b2).below hb2
    have i2 := i2.below hb2
    have b12 := bt b2 hb2
    have hx1' := (b12.cell (p := ⟨w1.heap.size, 0, none⟩) hs1).trans hx1
    have hx2 : (w2.alloc (.cells #[.slice A2 n2 c2] 24)).cell? ⟨w2.heap.size, 0, none⟩ = some (.slice A2 n2 c2) := by rw [cell_of_row _ _ 0 _ _ _ (heap_alloc_new _ _)]; rfl
    have b2 := bt b1 b12
    go_wp2_with fail
    generalize hW2 : w2.alloc (.cells #[.slice A2 n2 c2] 24) = W2 at i1 i2 b2 b12 hx1' hx2 ⊢
    have hs2 : w1.heap.size < W2.heap.size := by have := b12.size; omega
    clear hb2 hW2
    refine (rsamea _ _ n1 c1 n2 c2 _ _ true _ i1 i2 (by simp)).mono ?_
    rintro e w3 ⟨rfl, b3⟩
    have hx3 := (b3.cell (p := ⟨w1.heap.size, 0, none⟩) hs2).trans hx1'
    have i1 := i1.below b3
    have b3 := bt b2 b3
    by_cases hz : (numV p n).2 = 0
    · have hv := Lib.hid (num_valid hz)
      have HZ := Lib.hid hz
      rw [hz]
      generalize (numV p n).1 = xs at i1 hv
      clear hz i2 b1 b2 hx1 hx1' hx2 b12
      go_wp2_with fail
      refine (pvalid _ n1 c1 xs _ i1 hc1).mono ?_
      rintro e w4 ⟨rfl, b4⟩
      rw [hv.out]
      go_wp2_with (go_at_call 10; refine (awake _).mono ?_; rintro e w5 ⟨rfl, b5⟩)
      go_ret
      exact ⟨rfl, bt (bt b3 b4) b5⟩
    · have hq : ((numV p n).2 != 0) = true := by simpa using hz
      clear hz
      go_wp2_with (go_at_call 10; refine (awake _).mono ?_; rintro e w5 ⟨rfl, b5⟩)
      go_ret
      exact ⟨rfl, bt b3 b5⟩
end Go.Proofs.YtiongejdedhcjaaDoor
