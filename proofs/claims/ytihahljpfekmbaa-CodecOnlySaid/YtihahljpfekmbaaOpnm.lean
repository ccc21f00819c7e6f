/- Open of the program. -/
import Derived.Test.YtihahljpfekmbaaFram
import Derived.Test.YtihahljpfekmbaaTaki
namespace Go.Proofs.Ytihahljpfekmbaa
open Go.RowKit

theorem opR_form {bs : List Nat} (h : ¬ (opR bs).2.2.2 = 0) : opR bs = opE (opR bs).2.2.2 := by
  by_cases h0 : bs.length = 0
  · rw [opR_nil h0]; rfl
  · by_cases h1 : erA bs 1 = 0
    · by_cases h2 : nuA bs 1 < 0
      · rw [opR_neg h0 h1 h2]; rfl
      · obtain ⟨m, hm⟩ : ∃ m : Nat, nuA bs 1 = m := ⟨(nuA bs 1).toNat, by omega⟩
        by_cases h3 : bs.length - (1 + szA bs 1) < m
        · rw [opR_cut h0 h1 hm h3]; rfl
        · by_cases h4 : bs.length - (1 + szA bs 1 + m) < 4
          · rw [opR_cut2 h0 h1 hm h3 h4]; rfl
          · by_cases h5 : (bs.drop (1 + szA bs 1 + m)).take 4 = four (crcZ (bs.take (1 + szA bs 1 + m)))
            · rw [opR_ok h0 h1 hm h3 h4 h5] at h; exact absurd rfl h
            · rw [opR_sum h0 h1 hm h3 h4 h5]; rfl
    · rw [opR_err h0 h1]; rfl
theorem OwnedY.keptT {w w' : World} {base : Nat} {v : Value} {bs : List Nat} (h : OwnedY w base v bs) (hk : KeptT 5 w w') : OwnedY w' base v bs := by
  refine ⟨h.1, ?_⟩
  rcases h.2 with e | ⟨g, cap, cur, hv, hbg, hg, r⟩
  · exact .inl e
  · exact .inr ⟨g, cap, cur, hv, hbg, hk g cur hg, r⟩
theorem err_ne_byte : (5 : TypeId) ≠ 24 := by decide

set_option maxHeartbeats 1000000 in
set_option maxRecDepth 100000 in
theorem pOpen (A : Option Addr) (n c : Nat) (bs : List Nat) (w : World) (h : Byts w A n bs) (hc : n ≤ c) (hn : n ≤ 1000000) :
    Calls Try.prog 31 #[.slice A n c] w fun e w' => ∃ B d, e = .returned (.tuple #[.int .i64 (opR bs).1, .slice B (opR bs).2.1.length d, .int .i64 (opR bs).2.2.1, .int .i64 (opR bs).2.2.2]) ∧ OwnedY w' w.heap.size (.slice B (opR bs).2.1.length d) (opR bs).2.1 ∧ Below w.heap.size w w' := by
  have hmf : ∀ (fn : Fn) (first cap : Array Value) (w : World), (Instr.makeFunc fn first cap).run Try.prog w = .ok (.func fn first cap) w := fun _ _ _ _ => rfl
  have TW := Lib.hid (take_world A n c w)
  have HN := Lib.hid (dframe (w.heap.size + 1) A n c bs _ h TW.out.1 (by omega) TW.out.2.1 hc hn)
  by_cases he : (opR bs).2.2.2 = 0
  · have HE := Lib.hid he
    clear he
    generalize opR bs = X at HN HE
    obtain ⟨kd, xs, u, k⟩ := X
    have HE : Hid (k = 0) := HE
    go_enter_defers Try.func31, Try.ntmps31
    go_wp2_with fail
    refine HN.out.mono ?_
    rintro e w3 ⟨hp, _, g3⟩
    obtain ⟨B, d, he, ho, d3⟩ := hp HE.out
    have he : e = .returned (.tuple #[.int .i64 kd, .slice B xs.length d]) := he
    have d3 : Dec w3 (w.heap.size + 1) A n c u := d3
    have ho : OwnedY w3 w.heap.size (.slice B xs.length d) xs := ho.lower (by rw [TW.out.2.2.2]; omega)
    subst he
    have e3 := (g3.block w.heap.size (by rw [TW.out.2.2.2]; omega) (by simp)).trans TW.out.2.2.1
    have b3 := below_only TW.out.1 (Nat.le_succ _) g3
    clear TW HN hp g3
    obtain ⟨c0, f0⟩ := err_cells e3
    obtain ⟨_, c1, _⟩ := d3.cells
    have HO := Lib.hid ho
    clear ho
    go_wp2
    go_region
    go_wp2
    have e4 : (w3.setCell ⟨w.heap.size, 0, none⟩ (.int .i64 0)).drew.heap[w.heap.size]? = some (.cells #[.int .i64 0] 24 (0, 0)) := heap_setCell_same w3 w.heap.size 0 _ _ (.int .i64 0) e3
    have b4 : Below w.heap.size w (w3.setCell ⟨w.heap.size, 0, none⟩ (.int .i64 0)).drew := below_drewN (b3.setCell (p := ⟨w.heap.size, 0, none⟩) (Nat.le_refl _) _) 1
    have o4 : OwnedY (w3.setCell ⟨w.heap.size, 0, none⟩ (.int .i64 0)).drew w.heap.size (.slice B xs.length d) xs := HO.out.keptT (KeptT.off e3 err_ne_byte _)
    generalize (w3.setCell ⟨w.heap.size, 0, none⟩ (.int .i64 0)).drew = w4 at e4 b4 o4 ⊢
    obtain ⟨c4, f4⟩ := err_cells e4
    refine leaves_cons (f := 72) (args := #[.pointer (some ⟨w.heap.size, 0, none⟩)]) (by simp) (by simp [go_sem]) ?_
    refine (catch_open_no ⟨w.heap.size, 0, none⟩ 0 w4 c4 f4).mono ?_
    rintro e u' w5 ⟨rfl, rfl, rfl⟩
    have c5 : (w4.setCell ⟨w.heap.size, 0, none⟩ (.int .i64 0)).cell? ⟨w.heap.size, 0, none⟩ = some (.int .i64 0) := (err_cells (x := 0) (heap_setCell_same w4 w.heap.size 0 _ _ (.int .i64 0) e4)).1
    have o5 := Lib.hid (show OwnedY (w4.setCell ⟨w.heap.size, 0, none⟩ (.int .i64 0)) w.heap.size (.slice B xs.length d) xs from o4.keptT (KeptT.off e4 err_ne_byte _))
    have b5 := Lib.hid (b4.setCell (p := ⟨w.heap.size, 0, none⟩) (Nat.le_refl _) (.int .i64 0))
    obtain rfl : k = 0 := HE.out
    clear HO o4 HE
    simp [Leaves, settle, results, Try.results31, go_sem, c5]
    exact ⟨B, d, ⟨rfl, rfl⟩, o5.out, b5.out⟩
  · have HE := Lib.hid he
    have HV := Lib.hid (opR_form he)
    clear he
    generalize opR bs = X at HN HE HV
    obtain ⟨kd, xs, u, k⟩ := X
    have HV2 : kd = 0 ∧ xs = [] ∧ u = 0 := by
      have := HV.out
      simp [opE] at this
      exact this
    obtain ⟨rfl, rfl, rfl⟩ := HV2
    have HE : Hid (¬ k = 0) := HE
    clear HV
    go_enter_defers Try.func31, Try.ntmps31
    go_wp2_with fail
    refine HN.out.mono ?_
    rintro e w3 ⟨_, hp, g3⟩
    have he : e = pan k := hp HE.out
    subst he
    have e3 := (g3.block w.heap.size (by rw [TW.out.2.2.2]; omega) (by simp)).trans TW.out.2.2.1
    have b3 := below_only TW.out.1 (Nat.le_succ _) g3
    clear TW HN hp g3
    obtain ⟨c0, f0⟩ := err_cells e3
    refine leaves_cons (f := 72) (args := #[.pointer (some ⟨w.heap.size, 0, none⟩)]) (by simp) (by simp [go_sem]) ?_
    refine (catch_open ⟨w.heap.size, 0, none⟩ 0 k [] w3 c0 f0).mono ?_
    rintro e u' w4 ⟨rfl, rfl, rfl⟩
    have c4 : (w3.setCell ⟨w.heap.size, 0, none⟩ (.int .i64 k)).cell? ⟨w.heap.size, 0, none⟩ = some (.int .i64 k) := (err_cells (x := k) (heap_setCell_same w3 w.heap.size 0 _ _ (.int .i64 k) e3)).1
    simp [Leaves, settle, results, Try.results31, go_sem, c4]
    exact ⟨none, 0, ⟨rfl, rfl⟩, OwnedY.nil _ _, b3.setCell (p := ⟨w.heap.size, 0, none⟩) (Nat.le_refl _) _⟩
end Go.Proofs.Ytihahljpfekmbaa
