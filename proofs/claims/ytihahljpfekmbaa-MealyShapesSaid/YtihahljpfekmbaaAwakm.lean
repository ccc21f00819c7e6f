/- gate and awake of the machines' laws. -/
import Derived.Test.YtihahljpfekmbaaTrimm
import Derived.Test.YtihahljpfekmbaaFromm
import Derived.Test.YtihahljpfekmbaaSamem
namespace Go.Proofs.Ytihahljpfekmbaa
open Go.RowKit

/-- A result that lies in memory, a machine. -/
theorem results_mealy1 {fn : Func} {p : Tmp} (h : fn.results = #[.cell p 65]) (tmps : Array Value) (w : World) (g : Nat) (a b c d : Value)
    (hp : tmps.getD p undef = .pointer (some ⟨g, 0, none⟩)) (hg : Mblk w g a b c d) :
    (results fn tmps).run Try.prog w = .ok (.agg #[a, b, c, d]) w := by
  have hl := run_loadVar_row (P := Try.prog) w g 65 65 #[a, b, c, d] (0, 0) _ hg Try.underlying65 rfl (by kernel_rfl)
  unfold results
  rw [h]
  have hp2 : tmps[p]?.getD undef = .pointer (some ⟨g, 0, none⟩) := by simpa [Array.getD_eq_getD_getElem?] using hp
  simp [hp2, asAddr, hl]

def gN : List (List Int) := [[1, 0], [1, 0]]
def gO : List (List Int) := [[1, 0], [1, 2]]

/-- Two literals of two numbers, and the list of both. -/
theorem two_lists (w : World) (g : Nat) (a b c d : Int) (hg : w.heap.size = g) : Lists (((w.alloc (.cells #[.int .i64 a, .int .i64 b] 3)).alloc (.cells #[.int .i64 c, .int .i64 d] 3)).alloc (.cells #[.slice (some ⟨g, 0, none⟩) 2 2, .slice (some ⟨g + 1, 0, none⟩) 2 2] 32)) (some ⟨g + 1 + 1, 0, none⟩) 2 [[a, b], [c, d]] ∧
    Below w.heap.size w (((w.alloc (.cells #[.int .i64 a, .int .i64 b] 3)).alloc (.cells #[.int .i64 c, .int .i64 d] 3)).alloc (.cells #[.slice (some ⟨g, 0, none⟩) 2 2, .slice (some ⟨g + 1, 0, none⟩) 2 2] 32)) ∧
    (((w.alloc (.cells #[.int .i64 a, .int .i64 b] 3)).alloc (.cells #[.int .i64 c, .int .i64 d] 3)).alloc (.cells #[.slice (some ⟨g, 0, none⟩) 2 2, .slice (some ⟨g + 1, 0, none⟩) 2 2] 32)).heap.size = g + 1 + 1 + 1 := by
  have h1 := Ints.new w [a, b] #[.int .i64 a, .int .i64 b] 2 rfl rfl (by simp)
  have h2 := Ints.new (w.alloc (.cells #[.int .i64 a, .int .i64 b] 3)) [c, d] #[.int .i64 c, .int .i64 d] 2 rfl rfl (by simp)
  have e1 : (w.alloc (.cells #[.int .i64 a, .int .i64 b] 3)).heap.size = g + 1 := by simp [hg]
  have hb0 := alloc_below w (.cells #[.int .i64 a, .int .i64 b] 3)
  have hb1 := alloc_below (w.alloc (.cells #[.int .i64 a, .int .i64 b] 3)) (.cells #[.int .i64 c, .int .i64 d] 3)
  have e2 : ((w.alloc (.cells #[.int .i64 a, .int .i64 b] 3)).alloc (.cells #[.int .i64 c, .int .i64 d] 3)).heap.size = g + 1 + 1 := by simp [hg]
  rw [e1] at h2
  rw [hg] at h1
  have h1 := h1.below hb1
  have hbb := bt hb0 hb1
  generalize (w.alloc (.cells #[.int .i64 a, .int .i64 b] 3)).alloc (.cells #[.int .i64 c, .int .i64 d] 3) = w2 at h1 h2 e2 hbb ⊢
  rw [← e2]
  have hb := alloc_below w2 (.cells #[.slice (some ⟨g, 0, none⟩) 2 2, .slice (some ⟨g + 1, 0, none⟩) 2 2] 32)
  refine ⟨⟨rfl, by omega, fun _ => ⟨w2.heap.size, 0, rfl, by simp, fun j hj => ?_⟩⟩, bt hbb hb, by simp⟩
  have hc := fun j => cell_of_row (w2.alloc (.cells #[.slice (some ⟨g, 0, none⟩) 2 2, .slice (some ⟨g + 1, 0, none⟩) 2 2] 32)) w2.heap.size j _ 32 (0, 0) (heap_alloc_new w2 _)
  rw [Nat.zero_add, hc j]
  match j, hj with
  | 0, _ => exact ⟨_, 2, 2, rfl, h1.below hb⟩
  | 1, _ => exact ⟨_, 2, 2, rfl, h2.below hb⟩

theorem pgate (w : World) :
    Calls Try.prog 79 #[] w fun e w' => ∃ A B, e = .returned (.agg #[.int .i64 2, .int .i64 0, .slice A 2 2, .slice B 2 2]) ∧ Lists w' A 2 gN ∧ Lists w' B 2 gO ∧ Below w.heap.size w w' := by
  go_enter Try.func79, Try.ntmps79
  go_wp2
  generalize hm : (#[.int .i64 2, .int .i64 0, .slice (some ⟨w.heap.size + 1 + 1 + 1, 0, none⟩) 2 2, .slice (some ⟨w.heap.size + 1 + 1 + 1 + 1 + 1 + 1, 0, none⟩) 2 2] : Array Value) = M
  have hb0 := alloc_below w (.cells M 65)
  have hn0 := heap_alloc_new w (.cells M 65)
  have hz0 : (w.alloc (.cells M 65)).heap.size = w.heap.size + 1 := by simp
  generalize w.alloc (.cells M 65) = w1 at hb0 hn0 hz0 ⊢
  obtain ⟨a1, a2, a3⟩ := two_lists w1 (w.heap.size + 1) 1 0 1 0 hz0
  generalize ((w1.alloc (.cells #[.int .i64 1, .int .i64 0] 3)).alloc (.cells #[.int .i64 1, .int .i64 0] 3)).alloc (.cells #[.slice (some ⟨w.heap.size + 1, 0, none⟩) 2 2, .slice (some ⟨w.heap.size + 1 + 1, 0, none⟩) 2 2] 32) = w2 at a1 a2 a3 ⊢
  obtain ⟨c1, c2, c3⟩ := two_lists w2 (w.heap.size + 1 + 1 + 1 + 1) 1 0 1 2 a3
  have hB : Mblk _ w.heap.size _ _ _ _ := ((c2.block w.heap.size (by omega)).trans ((a2.block w.heap.size (by omega)).trans (by rw [← hm] at hn0; exact hn0)))
  refine bodyPost_ret (results_mealy1 rfl _ _ w.heap.size _ _ _ _ rfl hB) rfl ?_
  exact ⟨_, _, rfl, a1.below c2, c1, bt (bt hb0 a2) c2⟩

theorem gate_ok : Mok 2 0 2 gN gO := by
  refine ⟨by decide, by decide, by decide, by decide, by decide, rfl, rfl, fun s hs => ?_⟩
  match s, hs with
  | 0, _ => exact ⟨rfl, rfl, by decide⟩
  | 1, _ => exact ⟨rfl, rfl, by decide⟩
theorem gate_ok1 : Mok 2 1 2 gN gO := by
  refine ⟨by decide, by decide, by decide, by decide, by decide, rfl, rfl, fun s hs => ?_⟩
  match s, hs with
  | 0, _ => exact ⟨rfl, rfl, by decide⟩
  | 1, _ => exact ⟨rfl, rfl, by decide⟩

/-- Ints of a list and a literal that is equal to it. -/
theorem ints_lit (w : World) (A : Option Addr) (n c : Nat) (cs : Array Value) (m : Nat) (xs : List Int) (h : Ints w A n xs) (h1 : cs = lit xs) (h2 : m = xs.length) (l1 : xs.length ≤ 1000) :
    Calls Try.prog 45 #[.slice A n c, .slice (some ⟨w.heap.size, 0, none⟩) m m] (w.alloc (.cells cs 3)) fun e w' => e = .returned (.bool true) ∧ Below w.heap.size w w' := by
  refine (rints _ _ _ _ _ _ xs xs true _ (h.below (alloc_below w _)) (Ints.new w xs cs m h1 h2 (by omega)) (by simp)).mono ?_
  rintro e w' ⟨rfl, hq⟩
  exact ⟨rfl, (alloc_below w _).trans ((rd_below hq).mono (by simp))⟩

set_option maxHeartbeats 1000000 in
set_option maxRecDepth 100000 in
theorem awakem (w : World) : Calls Try.prog 40 #[] w fun e w' => e = .returned (.bool true) ∧ Below w.heap.size w w' := by
  go_enter Try.func40, Try.ntmps40
  go_wp2_with fail
  refine (pgate _).mono ?_
  rintro e w1 ⟨A1, B1, rfl, n1, o1, b1⟩
  have l1 := alloc_below w1 (.cells #[.int .i64 1, .int .i64 0, .int .i64 1] 3)
  have i1 := Ints.new w1 [1, 0, 1] #[.int .i64 1, .int .i64 0, .int .i64 1] 3 rfl rfl (by simp)
  go_wp2_with fail
  refine (prunw 2 0 _ _ _ 2 2 2 2 3 3 gN gO [1, 0, 1] _ (n1.below l1) (o1.below l1) i1).mono ?_
  rintro e w2 ⟨A2, c2, rfl, h2, b2⟩
  rw [show frm 2 0 gN gO 0 [1, 0, 1] = ([0, 1, 2], 0, 0) by decide +kernel] at h2 ⊢
  have b2 := bt b1 (bt l1 b2)
  have h2 := Owned.ints h2 (by simp)
  clear b1 l1 i1 n1 o1
  go_wp2_with fail
  refine (pgate _).mono ?_
  rintro e w3 ⟨A3, B3, rfl, n3, o3, b3⟩
  have l3 := alloc_below w3 (.cells #[.int .i64 1] 3)
  have i3 := Ints.new w3 [1] #[.int .i64 1] 1 rfl rfl (by simp)
  go_wp2_with fail
  refine (pfrom 2 0 _ _ _ 2 2 2 2 1 1 gN gO 1 [1] _ (n3.below l3) (o3.below l3) i3).mono ?_
  rintro e w4 ⟨A4, c4, rfl, h4, b4⟩
  rw [show frm 2 0 gN gO 1 [1] = ([2], 0, 0) by decide +kernel] at h4 ⊢
  have h4 := Owned.ints h4 (by simp)
  have h2 := ((h2.below b3).below l3).below b4
  have b4 := bt b2 (bt b3 (bt l3 b4))
  clear b2 b3 l3 i3 n3 o3
  go_wp2_with fail
  refine (pgate _).mono ?_
  rintro e w5 ⟨A5, B5, rfl, n5, o5, b5⟩
  have h2 := h2.below b5
  have h4 := h4.below b5
  have b5 := bt b4 b5
  clear b4
  have l5 := alloc_below w5 (.cells #[.int .i64 2, .int .i64 1, .slice A5 2 2, .slice B5 2 2] 65)
  have hX : Mblk (w5.alloc (.cells #[.int .i64 2, .int .i64 1, .slice A5 2 2, .slice B5 2 2] 65)) w5.heap.size (.int .i64 2) (.int .i64 1) (.slice A5 2 2) (.slice B5 2 2) := heap_alloc_new w5 _
  have hsz5 : (w5.alloc (.cells #[.int .i64 2, .int .i64 1, .slice A5 2 2, .slice B5 2 2] 65)).heap.size = w5.heap.size + 1 := by simp
  have HX := Lib.hid (And.intro hX hsz5)
  clear hX hsz5
  go_wp2_with fail
  refine (ptrim_ok 2 1 2 _ _ 2 2 gN gO _ (n5.below l5) (o5.below l5) gate_ok1).mono ?_
  rintro e w6 ⟨A6, c6, B6, d6, rfl, ln6, lo6, b6⟩
  rw [show rch gN 2 1 = [1, 0] by decide +kernel] at ln6 lo6 ⊢
  rw [show trN gN 2 [1, 0] = [[0, 1], [0, 1]] by decide +kernel] at ln6
  rw [show trO gO [1, 0] = [[1, 2], [1, 0]] by decide +kernel] at lo6
  have ln6 := ln6.lists (by simp) (by simp)
  have lo6 := lo6.lists (by simp) (by simp)
  obtain ⟨hX, hsz5⟩ := HX.out
  have hX6 := hX.kept b6 (by omega)
  have h2 := (h2.below l5).below b6
  have h4 := (h4.below l5).below b6
  have n6 := (n5.below l5).below b6
  have o6 := (o5.below l5).below b6
  have b6 := bt b5 (bt l5 b6)
  clear HX hX l5 b5 n5 o5 hsz5
  -- the trimmed machine in its block
  have l7 := alloc_below w6 (.cells #[.int .i64 2, .int .i64 0, .slice A6 2 c6, .slice B6 2 d6] 65)
  have hT : Mblk (w6.alloc (.cells #[.int .i64 2, .int .i64 0, .slice A6 2 c6, .slice B6 2 d6] 65)) w6.heap.size (.int .i64 2) (.int .i64 0) (.slice A6 2 c6) (.slice B6 2 d6) := heap_alloc_new w6 _
  obtain ⟨w7, hw7⟩ : ∃ w7, w7 = w6.alloc (.cells #[.int .i64 2, .int .i64 0, .slice A6 2 c6, .slice B6 2 d6] 65) := ⟨_, rfl⟩
  rw [← hw7] at l7 hT
  have h2 := h2.below l7
  have h4 := h4.below l7
  have n7 := n6.below l7
  have o7 := o6.below l7
  have tn7 := ln6.below l7
  have to7 := lo6.below l7
  have hX7 := hX6.kept l7 (heap_lt hX6)
  have b7 := bt b6 l7
  have H7 := Lib.hid hw7
  have Z7 := Lib.hid (show w6.heap.size + 1 = w7.heap.size by rw [hw7]; simp)
  have HT := Lib.hid hT
  have HX := Lib.hid hX7
  have l8 := alloc_below w7 (.cells #[.int .i64 0, .int .i64 1, .int .i64 2] 3)
  clear hw7 hT hX7 hX6 n6 o6 ln6 lo6 l7 b6
  go_wp2_with fail
  rw [← H7.out, Z7.out]
  refine (ints_lit _ _ _ _ _ 3 [0, 1, 2] h2 rfl rfl (by decide)).mono ?_
  rintro e w8 ⟨rfl, b8⟩
  have h4 := h4.below b8
  go_wp2_with fail
  refine (ints_lit _ _ _ _ _ 1 [2] h4 rfl rfl (by decide)).mono ?_
  rintro e w9 ⟨rfl, b9⟩
  have b89 := bt b8 b9
  have hX9 := HX.out.kept b89 (heap_lt HX.out)
  have hT9 := HT.out.kept b89 (heap_lt HT.out)
  obtain ⟨x0, x1, x2, x3, _⟩ := hX9.cells
  obtain ⟨t0, t1, t2, t3, _⟩ := hT9.cells
  go_wp2_with fail
  refine (preach_ok 2 1 2 _ _ 2 2 gN gO _ (n7.below b89) (o7.below b89) gate_ok1).mono ?_
  rintro e w10 ⟨A10, c10, rfl, h10, b10⟩
  rw [show rch gN 2 1 = [1, 0] by decide +kernel] at h10 ⊢
  have h10 := Owned.ints h10 (by rw [zs_len]; simp)
  rw [show zs [1, 0] = [1, 0] from rfl] at h10
  go_wp2_with fail
  refine (ints_lit _ _ _ _ _ 2 [1, 0] h10 rfl rfl (by decide)).mono ?_
  rintro e w11 ⟨rfl, b11⟩
  have b1011 := bt b10 b11
  have hT11 := hT9.kept b1011 (heap_lt hT9)
  obtain ⟨t0, t1, t2, t3, _⟩ := hT11.cells
  have to11 := (to7.below b89).below b1011
  have tn11 := (tn7.below b89).below b1011
  obtain ⟨g, o, Aj, nj, cj, rfl, hg, hc, hi⟩ := to11.at_ (k := 0) (by decide)
  obtain rfl : 2 = nj := hi.1
  rw [Nat.add_zero] at hc
  go_wp2_with fail
  refine (ints_lit _ _ _ _ _ 2 [1, 2] hi rfl rfl (by decide)).mono ?_
  rintro e w12 ⟨rfl, b12⟩
  have hT12 := hT11.kept b12 (heap_lt hT11)
  obtain ⟨t0, t1, t2, t3, _⟩ := hT12.cells
  go_wp2_with fail
  refine (psame _ _ _ _ _ _ _ _ _ _ _ _ _ _ _ _ _ _ _ _ true _ (tn11.below b12) (to11.below b12) (tn11.below b12) (to11.below b12) (by simp)).mono ?_
  rintro e w13 ⟨rfl, b13⟩
  go_wp2
  go_ret
  exact ⟨rfl, bt (bt (bt (bt b7 b89) b1011) b12) b13⟩
end Go.Proofs.Ytihahljpfekmbaa
