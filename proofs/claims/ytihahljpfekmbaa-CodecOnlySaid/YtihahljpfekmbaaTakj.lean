/- TakeInts and TakeWords. -/
import Derived.Test.YtihahljpfekmbaaTaki
namespace Go.Proofs.Ytihahljpfekmbaa
open Go.RowKit

theorem numsR_form {bs : List Nat} : ∀ (k u : Nat) (acc : List Int), ¬ (numsR bs k u acc).2.2 = 0 → numsR bs k u acc = ([], 0, (numsR bs k u acc).2.2)
  | 0, _, _, h => absurd rfl h
  | k + 1, u, acc, h => by
    by_cases he : erA bs u = 0
    · rw [numsR_ok he] at h ⊢; exact numsR_form k _ _ h
    · rw [numsR_bad he]
theorem lisA_form {bs : List Nat} {u : Nat} (h : ¬ (lisA bs u).2.2 = 0) : lisA bs u = ([], 0, (lisA bs u).2.2) := by
  by_cases he : erA bs u = 0
  · by_cases hn : nuA bs u < 0
    · rw [lisA_neg he hn]
    · obtain ⟨k, hk⟩ : ∃ k : Nat, nuA bs u = k := ⟨(nuA bs u).toNat, by omega⟩
      rw [lisA_ok he hk] at h ⊢
      exact numsR_form _ _ _ h
  · rw [lisA_err he]
theorem wrdsR_form {bs : List Nat} : ∀ (k u : Nat) (acc : List (List Int)), ¬ (wrdsR bs k u acc).2.2 = 0 → wrdsR bs k u acc = ([], 0, (wrdsR bs k u acc).2.2)
  | 0, _, _, h => absurd rfl h
  | k + 1, u, acc, h => by
    by_cases he : (lisA bs u).2.2 = 0
    · rw [wrdsR_ok he] at h ⊢; exact wrdsR_form k _ _ h
    · rw [wrdsR_bad he]
theorem worA_form {bs : List Nat} {u : Nat} (h : ¬ (worA bs u).2.2 = 0) : worA bs u = ([], 0, (worA bs u).2.2) := by
  by_cases he : erA bs u = 0
  · by_cases hn : nuA bs u < 0
    · rw [worA_neg he hn]
    · obtain ⟨k, hk⟩ : ∃ k : Nat, nuA bs u = k := ⟨(nuA bs u).toNat, by omega⟩
      rw [worA_ok he hk] at h ⊢
      exact wrdsR_form _ _ _ h
  · rw [worA_err he]
theorem err_ne_int : (24 : TypeId) ≠ 3 := by decide
theorem err_ne_list : (24 : TypeId) ≠ 32 := by decide

set_option maxHeartbeats 1000000 in
set_option maxRecDepth 100000 in
theorem ptakeInts (A : Option Addr) (n c : Nat) (bs : List Nat) (w : World) (h : Byts w A n bs) (hc : n ≤ c) (hn : n ≤ 1000000) :
    Calls Try.prog 21 #[.slice A n c] w fun e w' => ∃ B d, e = .returned (.tuple #[.slice B (lisA bs 0).1.length d, .int .i64 (lisA bs 0).2.1, .int .i64 (lisA bs 0).2.2]) ∧ Owned w' w.heap.size (.slice B (lisA bs 0).1.length d) (lisA bs 0).1 ∧ Below w.heap.size w w' := by
  have hmf : ∀ (fn : Fn) (first cap : Array Value) (w : World), (Instr.makeFunc fn first cap).run Try.prog w = .ok (.func fn first cap) w := fun _ _ _ _ => rfl
  have TW := Lib.hid (take_world A n c w)
  have HN := Lib.hid (dnumbers (w.heap.size + 1) A n c 0 bs _ h TW.out.1 (by omega) TW.out.2.1 (Nat.zero_le _) hc hn)
  by_cases he : (lisA bs 0).2.2 = 0
  · have HE := Lib.hid he
    clear he
    generalize lisA bs 0 = X at HN HE
    obtain ⟨xs, u, k⟩ := X
    have HE : Hid (k = 0) := HE
    go_enter_defers Try.func21, Try.ntmps21
    go_wp2_with fail
    refine HN.out.mono ?_
    rintro e w3 ⟨hp, _, g3⟩
    obtain ⟨B, d, he, ho, d3⟩ := hp HE.out
    have he : e = .returned (.slice B xs.length d) := he
    have d3 : Dec w3 (w.heap.size + 1) A n c u := d3
    have ho : Owned w3 w.heap.size (.slice B xs.length d) xs := ho.lower (by rw [TW.out.2.2.2]; omega)
    subst he
    have e3 := (g3.block w.heap.size (by rw [TW.out.2.2.2]; omega) (by simp)).trans TW.out.2.2.1
    have b3 := below_only TW.out.1 (Nat.le_succ _) g3
    clear TW HN hp g3
    obtain ⟨c0, f0⟩ := err_cells e3
    obtain ⟨_, c1, _⟩ := d3.cells
    have HO := Lib.hid ho
    clear ho
    go_wp2
    go_region
    go_wp2
    have e4 : (w3.setCell ⟨w.heap.size, 0, none⟩ (.int .i64 0)).drew.heap[w.heap.size]? = some (.cells #[.int .i64 0] 24 (0, 0)) := heap_setCell_same w3 w.heap.size 0 _ _ (.int .i64 0) e3
    have b4 : Below w.heap.size w (w3.setCell ⟨w.heap.size, 0, none⟩ (.int .i64 0)).drew := below_drewN (b3.setCell (p := ⟨w.heap.size, 0, none⟩) (Nat.le_refl _) _) 1
    have o4 : Owned (w3.setCell ⟨w.heap.size, 0, none⟩ (.int .i64 0)).drew w.heap.size (.slice B xs.length d) xs := HO.out.keptT (KeptT.off e3 err_ne_int.symm _)
    generalize (w3.setCell ⟨w.heap.size, 0, none⟩ (.int .i64 0)).drew = w4 at e4 b4 o4 ⊢
    obtain ⟨c4, f4⟩ := err_cells e4
    refine leaves_cons (f := 66) (args := #[.pointer (some ⟨w.heap.size, 0, none⟩)]) (by simp) (by simp [go_sem]) ?_
    refine (catch_ints_no ⟨w.heap.size, 0, none⟩ 0 w4 c4 f4).mono ?_
    rintro e u' w5 ⟨rfl, rfl, rfl⟩
    have c5 : (w4.setCell ⟨w.heap.size, 0, none⟩ (.int .i64 0)).cell? ⟨w.heap.size, 0, none⟩ = some (.int .i64 0) := (err_cells (x := 0) (heap_setCell_same w4 w.heap.size 0 _ _ (.int .i64 0) e4)).1
    have o5 := Lib.hid (show Owned (w4.setCell ⟨w.heap.size, 0, none⟩ (.int .i64 0)) w.heap.size (.slice B xs.length d) xs from o4.keptT (KeptT.off e4 err_ne_int.symm _))
    have b5 := Lib.hid (b4.setCell (p := ⟨w.heap.size, 0, none⟩) (Nat.le_refl _) (.int .i64 0))
    obtain rfl : k = 0 := HE.out
    clear HO o4 HE
    simp [Leaves, settle, results, Try.results21, go_sem, c5]
    exact ⟨B, d, ⟨rfl, rfl⟩, o5.out, b5.out⟩
  · have HE := Lib.hid he
    have HV := Lib.hid (lisA_form he)
    clear he
    generalize lisA bs 0 = X at HN HE HV
    obtain ⟨xs, u, k⟩ := X
    have HV2 : xs = [] ∧ u = 0 := by
      have := HV.out
      simp at this
      exact this
    obtain ⟨rfl, rfl⟩ := HV2
    have HE : Hid (¬ k = 0) := HE
    clear HV
    go_enter_defers Try.func21, Try.ntmps21
    go_wp2_with fail
    refine HN.out.mono ?_
    rintro e w3 ⟨_, hp, g3⟩
    have he : e = pan k := hp HE.out
    subst he
    have e3 := (g3.block w.heap.size (by rw [TW.out.2.2.2]; omega) (by simp)).trans TW.out.2.2.1
    have b3 := below_only TW.out.1 (Nat.le_succ _) g3
    clear TW HN hp g3
    obtain ⟨c0, f0⟩ := err_cells e3
    refine leaves_cons (f := 66) (args := #[.pointer (some ⟨w.heap.size, 0, none⟩)]) (by simp) (by simp [go_sem]) ?_
    refine (catch_ints ⟨w.heap.size, 0, none⟩ 0 k [] w3 c0 f0).mono ?_
    rintro e u' w4 ⟨rfl, rfl, rfl⟩
    have c4 : (w3.setCell ⟨w.heap.size, 0, none⟩ (.int .i64 k)).cell? ⟨w.heap.size, 0, none⟩ = some (.int .i64 k) := (err_cells (x := k) (heap_setCell_same w3 w.heap.size 0 _ _ (.int .i64 k) e3)).1
    simp [Leaves, settle, results, Try.results21, go_sem, c4]
    exact ⟨none, 0, ⟨rfl, rfl⟩, Owned.nil _ _, b3.setCell (p := ⟨w.heap.size, 0, none⟩) (Nat.le_refl _) _⟩

set_option maxHeartbeats 1000000 in
set_option maxRecDepth 100000 in
theorem ptakeWords (A : Option Addr) (n c : Nat) (bs : List Nat) (w : World) (h : Byts w A n bs) (hc : n ≤ c) (hn : n ≤ 1000000) :
    Calls Try.prog 23 #[.slice A n c] w fun e w' => ∃ B d, e = .returned (.tuple #[.slice B (worA bs 0).1.length d, .int .i64 (worA bs 0).2.1, .int .i64 (worA bs 0).2.2]) ∧ OwnedL w' w.heap.size (.slice B (worA bs 0).1.length d) (worA bs 0).1 ∧ Below w.heap.size w w' := by
  have hmf : ∀ (fn : Fn) (first cap : Array Value) (w : World), (Instr.makeFunc fn first cap).run Try.prog w = .ok (.func fn first cap) w := fun _ _ _ _ => rfl
  have TW := Lib.hid (take_world A n c w)
  have HN := Lib.hid (dwords (w.heap.size + 1) A n c 0 bs _ h TW.out.1 (by omega) TW.out.2.1 (Nat.zero_le _) hc hn)
  by_cases he : (worA bs 0).2.2 = 0
  · have HE := Lib.hid he
    clear he
    generalize worA bs 0 = X at HN HE
    obtain ⟨xs, u, k⟩ := X
    have HE : Hid (k = 0) := HE
    go_enter_defers Try.func23, Try.ntmps23
    go_wp2_with fail
    refine HN.out.mono ?_
    rintro e w3 ⟨hp, _, g3⟩
    obtain ⟨B, d, he, ho, d3⟩ := hp HE.out
    have he : e = .returned (.slice B xs.length d) := he
    have d3 : Dec w3 (w.heap.size + 1) A n c u := d3
    have ho : OwnedL w3 w.heap.size (.slice B xs.length d) xs := ho.lower (by rw [TW.out.2.2.2]; omega)
    subst he
    have e3 := (g3.block w.heap.size (by rw [TW.out.2.2.2]; omega) (by simp)).trans TW.out.2.2.1
    have b3 := below_only TW.out.1 (Nat.le_succ _) g3
    clear TW HN hp g3
    obtain ⟨c0, f0⟩ := err_cells e3
    obtain ⟨_, c1, _⟩ := d3.cells
    have HO := Lib.hid ho
    clear ho
    go_wp2
    go_region
    go_wp2
    have e4 : (w3.setCell ⟨w.heap.size, 0, none⟩ (.int .i64 0)).drew.heap[w.heap.size]? = some (.cells #[.int .i64 0] 24 (0, 0)) := heap_setCell_same w3 w.heap.size 0 _ _ (.int .i64 0) e3
    have b4 : Below w.heap.size w (w3.setCell ⟨w.heap.size, 0, none⟩ (.int .i64 0)).drew := below_drewN (b3.setCell (p := ⟨w.heap.size, 0, none⟩) (Nat.le_refl _) _) 1
    have o4 : OwnedL (w3.setCell ⟨w.heap.size, 0, none⟩ (.int .i64 0)).drew w.heap.size (.slice B xs.length d) xs := HO.out.keptT (KeptT.off e3 err_ne_int.symm _) (KeptT.off e3 err_ne_list.symm _)
    generalize (w3.setCell ⟨w.heap.size, 0, none⟩ (.int .i64 0)).drew = w4 at e4 b4 o4 ⊢
    obtain ⟨c4, f4⟩ := err_cells e4
    refine leaves_cons (f := 68) (args := #[.pointer (some ⟨w.heap.size, 0, none⟩)]) (by simp) (by simp [go_sem]) ?_
    refine (catch_words_no ⟨w.heap.size, 0, none⟩ 0 w4 c4 f4).mono ?_
    rintro e u' w5 ⟨rfl, rfl, rfl⟩
    have c5 : (w4.setCell ⟨w.heap.size, 0, none⟩ (.int .i64 0)).cell? ⟨w.heap.size, 0, none⟩ = some (.int .i64 0) := (err_cells (x := 0) (heap_setCell_same w4 w.heap.size 0 _ _ (.int .i64 0) e4)).1
    have o5 := Lib.hid (show OwnedL (w4.setCell ⟨w.heap.size, 0, none⟩ (.int .i64 0)) w.heap.size (.slice B xs.length d) xs from o4.keptT (KeptT.off e4 err_ne_int.symm _) (KeptT.off e4 err_ne_list.symm _))
    have b5 := Lib.hid (b4.setCell (p := ⟨w.heap.size, 0, none⟩) (Nat.le_refl _) (.int .i64 0))
    obtain rfl : k = 0 := HE.out
    clear HO o4 HE
    simp [Leaves, settle, results, Try.results23, go_sem, c5]
    exact ⟨B, d, ⟨rfl, rfl⟩, o5.out, b5.out⟩
  · have HE := Lib.hid he
    have HV := Lib.hid (worA_form he)
    clear he
    generalize worA bs 0 = X at HN HE HV
    obtain ⟨xs, u, k⟩ := X
    have HV2 : xs = [] ∧ u = 0 := by
      have := HV.out
      simp at this
      exact this
    obtain ⟨rfl, rfl⟩ := HV2
    have HE : Hid (¬ k = 0) := HE
    clear HV
    go_enter_defers Try.func23, Try.ntmps23
    go_wp2_with fail
    refine HN.out.mono ?_
    rintro e w3 ⟨_, hp, g3⟩
    have he : e = pan k := hp HE.out
    subst he
    have e3 := (g3.block w.heap.size (by rw [TW.out.2.2.2]; omega) (by simp)).trans TW.out.2.2.1
    have b3 := below_only TW.out.1 (Nat.le_succ _) g3
    clear TW HN hp g3
    obtain ⟨c0, f0⟩ := err_cells e3
    refine leaves_cons (f := 68) (args := #[.pointer (some ⟨w.heap.size, 0, none⟩)]) (by simp) (by simp [go_sem]) ?_
    refine (catch_words ⟨w.heap.size, 0, none⟩ 0 k [] w3 c0 f0).mono ?_
    rintro e u' w4 ⟨rfl, rfl, rfl⟩
    have c4 : (w3.setCell ⟨w.heap.size, 0, none⟩ (.int .i64 k)).cell? ⟨w.heap.size, 0, none⟩ = some (.int .i64 k) := (err_cells (x := k) (heap_setCell_same w3 w.heap.size 0 _ _ (.int .i64 k) e3)).1
    simp [Leaves, settle, results, Try.results23, go_sem, c4]
    exact ⟨none, 0, ⟨rfl, rfl⟩, OwnedL.nil _ _, b3.setCell (p := ⟨w.heap.size, 0, none⟩) (Nat.le_refl _) _⟩
end Go.Proofs.Ytihahljpfekmbaa
