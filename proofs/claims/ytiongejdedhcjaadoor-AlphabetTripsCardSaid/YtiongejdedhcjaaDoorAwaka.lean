/- awake: the chapter's examples (alphabet). -/
import Derived.Test.YtiongejdedhcjaaDoorNumbr
import Derived.Test.YtiongejdedhcjaaDoorTextr
namespace Go.Proofs.YtiongejdedhcjaaDoor
open Go.RowKit

def cp : List ByteArray := [⟨#[99, 111, 105, 110]⟩, ⟨#[112, 117, 115, 104]⟩]
theorem ex1 : texV cp [1, 0, 1] = (⟨#[112, 117, 115, 104, 32, 99, 111, 105, 110, 32, 112, 117, 115, 104]⟩, 0) := by decide +kernel
theorem ex2 : wrdV cp ⟨#[112, 117, 115, 104, 32, 99, 111, 105, 110, 32, 112, 117, 115, 104]⟩ = ([1, 0, 1], 0) := by decide +kernel
theorem ex3 : (wrdV cp ⟨#[112, 117, 115, 104, 32, 32, 99, 111, 105, 110]⟩).2 = 5 := by decide +kernel
theorem ex4 : (wrdV cp ⟨#[112, 117, 115, 104, 32, 67, 111, 105, 110]⟩).2 = 8 := by decide +kernel
theorem ex5 : ixV cp ⟨#[112, 117, 115, 104]⟩ = (1, true) := by decide +kernel
theorem ex6 : valV [⟨#[97]⟩, ⟨#[97]⟩] = 7 := by decide +kernel
theorem ex7 : decide (Nam ⟨#[97, 45, 49, 46, 95, 66]⟩) = true := by decide +kernel
theorem ex8 : decide (Nam ⟨#[97, 32, 98]⟩) = false := by decide +kernel
theorem ex9 : numV ⟨#[113]⟩ 3 = ([⟨#[113, 48]⟩, ⟨#[113, 49]⟩, ⟨#[113, 50]⟩], 0) := by
  have h := numV_ok (p := ⟨#[113]⟩) (n := 3) ⟨by decide +kernel, by decide⟩ (by omega)
  have e : nmb ⟨#[113]⟩ 3 = [⟨#[113, 48]⟩, ⟨#[113, 49]⟩, ⟨#[113, 50]⟩] := by
    simp only [nmb, ← dg_small 0 (by omega), ← dg_small 1 (by omega), ← dg_small 2 (by omega)]
    rfl
  rw [e] at h
  exact h

/-- A literal of strings. -/
theorem Strs.new (w : World) (ss : List ByteArray) (cs : Array Value) (n : Nat) (hcs : cs = (ss.map Value.string).toArray) (hn : n = ss.length) (hm : ss.length ≤ 1000) (hz : ∀ x, x ∈ ss → x.size ≤ 1000) :
    Strs (w.alloc (.cells cs 9)) (some ⟨w.heap.size, 0, none⟩) n ss := by
  subst hcs hn
  refine ⟨rfl, by omega, fun _ => ⟨w.heap.size, 0, rfl, by simp, fun j hj => ?_⟩, fun j hj => ?_⟩
  · rw [Nat.zero_add, cell_of_row (w.alloc (.cells (ss.map Value.string).toArray 9)) w.heap.size j (ss.map Value.string).toArray 9 (0, 0) (heap_alloc_new w _)]
    simp [List.getD, hj]
  · have := hz (ss.getD j ByteArray.empty) (by simp [List.getD, hj]); omega

theorem rsamea (A B : Option Addr) (n c m d : Nat) (xs ys : List ByteArray) (b : Bool) (w : World) (hx : Strs w A n xs) (hy : Strs w B m ys) (hb : b = true ↔ xs = ys) :
    Calls Tryd.prog 24 #[.agg #[.slice A n c], .agg #[.slice B m d]] w fun e w' => e = .returned (.bool b) ∧ Below w.heap.size w w' := by
  have b0 : Below w.heap.size w ((w.alloc (.cells #[.slice A n c] 24)).alloc (.cells #[.slice B m d] 24)) := (alloc_below _ _).alloc (by simp) _
  go_enter Tryd.func24, Tryd.ntmps24
  go_wp2_with fail
  refine (rsamen A B n c m d xs ys b _ (hx.below b0) (hy.below b0) hb).mono ?_
  rintro e w' ⟨rfl, q, rfl⟩
  go_wp2
  go_ret
  exact ⟨rfl, below_drewN b0 _⟩

theorem pword_law (A : Option Addr) (n c : Nat) (ss : List ByteArray) (s : ByteArray) (hs : s.size ≤ 17592186044416) (w : World) (h : Strs w A n ss) (hc : n ≤ c) :
    Calls Tryd.prog 17 #[.agg #[.slice A n c], .string s] w fun e w' => ∃ B m d, e = .returned (.tuple #[.slice B m d, .int .i64 (wrdV ss s).2]) ∧ Ints w' B m (wrdV ss s).1 ∧ Below w.heap.size w w' := by
  refine (pword A n c ss s hs w h hc).mono ?_
  rintro e w' ⟨v, rfl, ho, hb⟩
  obtain ⟨B, m, d, rfl, hI⟩ := ho.look (by have := wrdV_len ss s; omega)
  exact ⟨B, m, d, rfl, hI, hb⟩
theorem rword_law (A : Option Addr) (n c : Nat) (ss : List ByteArray) (s : ByteArray) (hs : s.size ≤ 17592186044416) (w : World) (h : Strs w A n ss) :
    Calls Tryd.prog 18 #[.agg #[.slice A n c], .string s] w fun e w' => ∃ B m d, e = .returned (.tuple #[.slice B m d, .int .i64 (wrdV ss s).2]) ∧ Ints w' B m (wrdV ss s).1 ∧ Below w.heap.size w w' := by
  refine (rword A n c ss s hs w h).mono ?_
  rintro e w' ⟨v, rfl, ho, hb⟩
  obtain ⟨B, m, d, rfl, hI⟩ := ho.look (by have := wrdV_len ss s; omega)
  exact ⟨B, m, d, rfl, hI, hb⟩
theorem numV_small (p : ByteArray) (n : Int) : (numV p n).1.length ≤ 64 ∧ ∀ x, x ∈ (numV p n).1 → x.size ≤ 32 := by
  unfold numV
  split
  · simp
  · rename_i h
    have h : Nam p ∧ p.size ≤ 30 := Classical.not_not.1 h
    split
    · simp
    · rename_i h2
      refine ⟨by show (nmb _ _).length ≤ _; rw [nmb_len]; omega, ?_⟩
      have : ∀ k, k ≤ 64 → ∀ x, x ∈ nmb p k → x.size ≤ 32 := by
        intro k
        induction k with
        | zero => intro _ x hx; simp [nmb] at hx
        | succ k ih =>
          intro hk x hx
          rw [nmb, List.mem_append] at hx
          rcases hx with hx | hx
          · exact ih (by omega) x hx
          · rw [List.mem_singleton.1 hx, ByteArray.size_append]
            have := dg_len k (by omega)
            omega
      exact this n.toNat (by omega)
theorem pnumbered_law (p : ByteArray) (n : Int) (hs : p.size ≤ 17592186044416) (w : World) :
    Calls Tryd.prog 22 #[.string p, .int .i64 n] w fun e w' => ∃ A m c, e = .returned (.tuple #[.agg #[.slice A m c], .int .i64 (numV p n).2]) ∧ Strs w' A m (numV p n).1 ∧ m ≤ c ∧ Below w.heap.size w w' := by
  refine (pnumbered p n hs w).mono ?_
  rintro e w' ⟨v, rfl, ho, hb⟩
  obtain ⟨A, c, e⟩ := ho.form
  have hc : (numV p n).1.length ≤ c := by rw [e] at ho; exact ho.cap_.1
  subst e
  have hsm := numV_small p n
  exact ⟨A, _, c, rfl, ho.strs (by have := hsm.1; omega) (fun x hx => by have := hsm.2 x hx; omega), hc, hb⟩
theorem rnumbered_law (p : ByteArray) (n : Int) (hs : p.size ≤ 17592186044416) (w : World) :
    Calls Tryd.prog 23 #[.string p, .int .i64 n] w fun e w' => ∃ A m c, e = .returned (.tuple #[.agg #[.slice A m c], .int .i64 (numV p n).2]) ∧ Strs w' A m (numV p n).1 ∧ m ≤ c ∧ Below w.heap.size w w' := by
  refine (rnumbered p n hs w).mono ?_
  rintro e w' ⟨v, rfl, ho, hb⟩
  obtain ⟨A, c, e⟩ := ho.form
  have hc : (numV p n).1.length ≤ c := by rw [e] at ho; exact ho.cap_.1
  subst e
  have hsm := numV_small p n
  exact ⟨A, _, c, rfl, ho.strs (by have := hsm.1; omega) (fun x hx => by have := hsm.2 x hx; omega), hc, hb⟩

theorem text_lit (w : World) (A : Option Addr) (n c : Nat) (ss : List ByteArray) (xs : List Int) (cs : Array Value) (m : Nat) (r : ByteArray × Int) (h : Strs w A n ss) (hc : n ≤ c) (hcs : cs = lit xs) (hm : m = xs.length) (hl : xs.length ≤ 1000) (hr : texV ss xs = r) :
    Calls Tryd.prog 20 #[.agg #[.slice A n c], .slice (some ⟨w.heap.size, 0, none⟩) m m] (w.alloc (.cells cs 3)) fun e w' => e = .returned (.tuple #[.string r.1, .int .i64 r.2]) ∧ Below w.heap.size w w' := by
  have b0 := alloc_below w (.cells cs 3)
  refine (ptext A n c ss _ m m xs _ (h.below b0) hc (Ints.new w xs cs m hcs hm (by omega))).mono ?_
  rintro e w' ⟨rfl, hb⟩
  rw [hr]
  exact ⟨rfl, bt b0 hb⟩

set_option maxHeartbeats 2000000 in
set_option maxRecDepth 100000 in
theorem awake (w : World) : Calls Tryd.prog 10 #[] w fun e w' => e = .returned (.bool true) ∧ Below w.heap.size w w' := by
  obtain ⟨W0, hW0⟩ : ∃ W0, W0 = (w.alloc (.cells #[.string ⟨#[99, 111, 105, 110]⟩, .string ⟨#[112, 117, 115, 104]⟩] 9)).alloc (.cells #[.slice (some ⟨w.heap.size, 0, none⟩) 2 2] 24) := ⟨_, rfl⟩
  have b0 : Below w.heap.size w W0 := by rw [hW0]; exact (alloc_below _ _).alloc (by simp) _
  have hbox0 : W0.cell? ⟨w.heap.size + 1, 0, none⟩ = some (.slice (some ⟨w.heap.size, 0, none⟩) 2 2) := by
    rw [hW0, cell_of_row _ _ 0 _ _ _ (heap_alloc2_new _ _ _)]; rfl
  have hszE : W0.heap.size = w.heap.size + 1 + 1 := by rw [hW0]; simp
  have hsz0 : w.heap.size + 1 < W0.heap.size := by omega
  have hS0 : Strs W0 (some ⟨w.heap.size, 0, none⟩) 2 cp := by
    rw [hW0]
    exact (Strs.new w cp _ 2 rfl rfl (by decide) (by decide)).below (alloc_below _ _)
  go_enter Tryd.func10, Tryd.ntmps10
  go_wp2_with fail
  rw [← hW0, ← hszE]
  clear hW0
  refine (text_lit W0 _ 2 2 cp [1, 0, 1] _ 3 _ hS0 (Nat.le_refl _) rfl rfl (by decide) ex1).mono ?_
  rintro e w1 ⟨rfl, b1⟩
  have hbox1 := (b1.cell (p := ⟨w.heap.size + 1, 0, none⟩) hsz0).trans hbox0
  go_wp2_with fail
  refine (pword_law _ 2 2 cp ⟨#[112, 117, 115, 104, 32, 99, 111, 105, 110, 32, 112, 117, 115, 104]⟩ (by decide) _ (hS0.below b1) (Nat.le_refl _)).mono ?_
  rintro e w2 ⟨A2, n2, c2, rfl, i2, b2⟩
  rw [ex2] at i2 ⊢
  have b2 := bt b1 b2
  have hbox2 := (b2.cell (p := ⟨w.heap.size + 1, 0, none⟩) hsz0).trans hbox0
  clear b1 hbox1
  go_wp2_with fail
  refine (pword_law _ 2 2 cp ⟨#[112, 117, 115, 104, 32, 32, 99, 111, 105, 110]⟩ (by decide) _ (hS0.below b2) (Nat.le_refl _)).mono ?_
  rintro e w3 ⟨A3, n3, c3, rfl, _, b3⟩
  rw [ex3]
  have i2 := i2.below b3
  have b3 := bt b2 b3
  have hbox3 := (b3.cell (p := ⟨w.heap.size + 1, 0, none⟩) hsz0).trans hbox0
  clear b2 hbox2
  go_wp2_with fail
  refine (pword_law _ 2 2 cp ⟨#[112, 117, 115, 104, 32, 67, 111, 105, 110]⟩ (by decide) _ (hS0.below b3) (Nat.le_refl _)).mono ?_
  rintro e w4 ⟨A4, n4, c4, rfl, _, b4⟩
  rw [ex4]
  have i2 := i2.below b4
  have b4 := bt b3 b4
  clear b3 hbox3
  go_wp2_with fail
  refine (pnumbered_law ⟨#[113]⟩ 3 (by decide) _).mono ?_
  rintro e w5 ⟨A5, n5, c5, rfl, i5, hc5, b5⟩
  rw [ex9] at i5 ⊢
  have i2 := i2.below b5
  have b5 := bt b4 b5
  clear b4
  have hb5 := alloc_below w5 (.cells #[.slice A5 n5 c5] 24)
  have i2 := i2.below hb5
  have i5 := i5.below hb5
  have b6 := bt b5 hb5
  have hbox6 := (b6.cell (p := ⟨w.heap.size + 1, 0, none⟩) hsz0).trans hbox0
  have hc6 : (w5.alloc (.cells #[.slice A5 n5 c5] 24)).cell? ⟨w5.heap.size, 0, none⟩ = some (.slice A5 n5 c5) := by rw [cell_of_row _ _ 0 _ _ _ (heap_alloc_new _ _)]; rfl
  go_wp2_with fail
  generalize hW5 : w5.alloc (.cells #[.slice A5 n5 c5] 24) = W5 at i2 i5 b6 hbox6 hc6 ⊢
  have hs5 : w5.heap.size < W5.heap.size := by rw [← hW5]; simp
  clear hb5 hW5
  refine (pindex _ 2 2 cp _ _ (hS0.below b6)).mono ?_
  rintro e w7 ⟨rfl, b7⟩
  rw [ex5]
  have i2 := i2.below b7
  have i5 := i5.below b7
  have hc7 := (b7.cell (p := ⟨w5.heap.size, 0, none⟩) hs5).trans hc6
  have b8 := bt b6 b7
  go_wp2_with fail
  refine (same_lit _ _ _ _ _ 3 [1, 0, 1] i2 rfl rfl (by decide)).mono ?_
  rintro e w9 ⟨rfl, b9⟩
  have i5 := i5.below b9
  have hc9 := (b9.cell (p := ⟨w5.heap.size, 0, none⟩) (by show w5.heap.size < _; have := b7.size; omega)).trans hc7
  have b10 := bt b8 b9
  clear b5 b6 b7 b8 b9 hc6 hc7 i2
  go_wp2_with fail
  refine (rsamen _ _ _ _ 3 3 _ [⟨#[113, 48]⟩, ⟨#[113, 49]⟩, ⟨#[113, 50]⟩] true _ (i5.below (alloc_below _ _)) (Strs.new w9 _ _ 3 rfl rfl (by decide) (by decide)) (by simp)).mono ?_
  rintro e w11 ⟨rfl, q, rfl⟩
  have b11 := bt b10 (below_drewN (alloc_below w9 (.cells #[.string ⟨#[113, 48]⟩, .string ⟨#[113, 49]⟩, .string ⟨#[113, 50]⟩] 9)) q)
  go_wp2_with fail
  have hs11 : ((w9.alloc (.cells #[.string ⟨#[113, 48]⟩, .string ⟨#[113, 49]⟩, .string ⟨#[113, 50]⟩] 9)).drewN q).heap.size = w9.heap.size + 1 := by simp
  generalize (w9.alloc (.cells #[.string ⟨#[113, 48]⟩, .string ⟨#[113, 49]⟩, .string ⟨#[113, 50]⟩] 9)).drewN q = w11 at b11 hs11 ⊢
  rw [← hs11]
  refine (pvalid _ 2 2 [⟨#[97]⟩, ⟨#[97]⟩] _ (Strs.new w11 _ _ 2 rfl rfl (by decide) (by decide)) (Nat.le_refl _)).mono ?_
  rintro e w12 ⟨rfl, b12⟩
  rw [ex6]
  have b12 := bt (bt b11 (alloc_below _ _)) b12
  go_wp2_with fail
  refine (pname _ (by decide) _).mono ?_
  rintro e w13 ⟨rfl, b13⟩
  rw [ex7]
  go_wp2_with fail
  refine (pname _ (by decide) _).mono ?_
  rintro e w14 ⟨rfl, b14⟩
  rw [ex8]
  go_wp2
  go_ret
  exact ⟨rfl, bt b0 (bt (bt b12 b13) b14)⟩
end Go.Proofs.YtiongejdedhcjaaDoor
