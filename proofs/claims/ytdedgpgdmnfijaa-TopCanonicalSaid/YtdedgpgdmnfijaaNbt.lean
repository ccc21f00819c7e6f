/- Lemmas of the proofs of this seat, of the parts Awakm, Topm, L9t. Conditions: none. -/
import Derived.Test.YtdedgpgdmnfijaaNbb
import Derived.Test.YtdedgpgdmnfijaaNbc
import Derived.Test.YtdedgpgdmnfijaaNbd
import Derived.Test.YtdedgpgdmnfijaaNbm
import Derived.Deep.RegionHeld3
section
/- gate and awake of the machines' laws. -/
namespace Go.Proofs.Ytdedgpgdmnfijaa
open Go.RowKit

/-- A result that lies in memory, a machine. -/
theorem results_mealy1 {fn : Func} {p : Tmp} (h : fn.results = #[.cell p 24]) (tmps : Array Value) (w : World) (g : Nat) (a b c d : Value)
    (hp : tmps.getD p undef = .pointer (some ⟨g, 0, none⟩)) (hg : Mblk w g a b c d) :
    (results fn tmps).run Try.prog w = .ok (.agg #[a, b, c, d]) w := by
  have hl := run_loadVar_row (P := Try.prog) w g 24 24 #[a, b, c, d] (0, 0) _ hg Try.underlying24 rfl (by kernel_rfl)
  unfold results
  rw [h]
  have hp2 : tmps[p]?.getD undef = .pointer (some ⟨g, 0, none⟩) := by simpa [Array.getD_eq_getD_getElem?] using hp
  simp [hp2, asAddr, hl]

def gN : List (List Int) := [[1, 0], [1, 0]]
def gO : List (List Int) := [[1, 0], [1, 2]]

/-- Two literals of two numbers, and the list of both. -/
theorem two_lists (w : World) (g : Nat) (a b c d : Int) (hg : w.heap.size = g) : Lists (((w.alloc (.cells #[.int .i64 a, .int .i64 b] 3)).alloc (.cells #[.int .i64 c, .int .i64 d] 3)).alloc (.cells #[.slice (some ⟨g, 0, none⟩) 2 2, .slice (some ⟨g + 1, 0, none⟩) 2 2] 33)) (some ⟨g + 1 + 1, 0, none⟩) 2 [[a, b], [c, d]] ∧
    Below w.heap.size w (((w.alloc (.cells #[.int .i64 a, .int .i64 b] 3)).alloc (.cells #[.int .i64 c, .int .i64 d] 3)).alloc (.cells #[.slice (some ⟨g, 0, none⟩) 2 2, .slice (some ⟨g + 1, 0, none⟩) 2 2] 33)) ∧
    (((w.alloc (.cells #[.int .i64 a, .int .i64 b] 3)).alloc (.cells #[.int .i64 c, .int .i64 d] 3)).alloc (.cells #[.slice (some ⟨g, 0, none⟩) 2 2, .slice (some ⟨g + 1, 0, none⟩) 2 2] 33)).heap.size = g + 1 + 1 + 1 := by
  have h1 := Ints.new w [a, b] #[.int .i64 a, .int .i64 b] 2 rfl rfl (by simp)
  have h2 := Ints.new (w.alloc (.cells #[.int .i64 a, .int .i64 b] 3)) [c, d] #[.int .i64 c, .int .i64 d] 2 rfl rfl (by simp)
  have e1 : (w.alloc (.cells #[.int .i64 a, .int .i64 b] 3)).heap.size = g + 1 := by simp [hg]
  have hb0 := alloc_below w (.cells #[.int .i64 a, .int .i64 b] 3)
  have hb1 := alloc_below (w.alloc (.cells #[.int .i64 a, .int .i64 b] 3)) (.cells #[.int .i64 c, .int .i64 d] 3)
  have e2 : ((w.alloc (.cells #[.int .i64 a, .int .i64 b] 3)).alloc (.cells #[.int .i64 c, .int .i64 d] 3)).heap.size = g + 1 + 1 := by simp [hg]
  rw [e1] at h2
  rw [hg] at h1
  have h1 := h1.below hb1
  have hbb := bt hb0 hb1
  generalize (w.alloc (.cells #[.int .i64 a, .int .i64 b] 3)).alloc (.cells #[.int .i64 c, .int .i64 d] 3) = w2 at h1 h2 e2 hbb ⊢
  rw [← e2]
  have hb := alloc_below w2 (.cells #[.slice (some ⟨g, 0, none⟩) 2 2, .slice (some ⟨g + 1, 0, none⟩) 2 2] 33)
  refine ⟨⟨rfl, by omega, fun _ => ⟨w2.heap.size, 0, rfl, by simp, fun j hj => ?_⟩⟩, bt hbb hb, by simp⟩
  have hc := fun j => cell_of_row (w2.alloc (.cells #[.slice (some ⟨g, 0, none⟩) 2 2, .slice (some ⟨g + 1, 0, none⟩) 2 2] 33)) w2.heap.size j _ 33 (0, 0) (heap_alloc_new w2 _)
  rw [Nat.zero_add, hc j]
  match j, hj with
  | 0, _ => exact ⟨_, 2, 2, rfl, h1.below hb⟩
  | 1, _ => exact ⟨_, 2, 2, rfl, h2.below hb⟩

theorem gate_ok : Mok 2 0 2 gN gO := by
  refine ⟨by decide, by decide, by decide, by decide, by decide, rfl, rfl, fun s hs => ?_⟩
  match s, hs with
  | 0, _ => exact ⟨rfl, rfl, by decide⟩
  | 1, _ => exact ⟨rfl, rfl, by decide⟩
theorem gate_ok1 : Mok 2 1 2 gN gO := by
  refine ⟨by decide, by decide, by decide, by decide, by decide, rfl, rfl, fun s hs => ?_⟩
  match s, hs with
  | 0, _ => exact ⟨rfl, rfl, by decide⟩
  | 1, _ => exact ⟨rfl, rfl, by decide⟩

/-- Ints of a list and a literal that is equal to it. -/
theorem ints_lit (w : World) (A : Option Addr) (n c : Nat) (cs : Array Value) (m : Nat) (xs : List Int) (h : Ints w A n xs) (h1 : cs = lit xs) (h2 : m = xs.length) (l1 : xs.length ≤ 1000) :
    Calls Try.prog 61 #[.slice A n c, .slice (some ⟨w.heap.size, 0, none⟩) m m] (w.alloc (.cells cs 3)) fun e w' => e = .returned (.bool true) ∧ Below w.heap.size w w' := by
  refine (rints _ _ _ _ _ _ xs xs true _ (h.below (alloc_below w _)) (Ints.new w xs cs m h1 h2 (by omega)) (by simp)).mono ?_
  rintro e w' ⟨rfl, hq⟩
  exact ⟨rfl, (alloc_below w _).trans ((rd_below hq).mono (by simp))⟩

end Go.Proofs.Ytdedgpgdmnfijaa
end

section
/- The machines of the whole's laws, and minimizes. -/
namespace Go.Proofs.Ytdedgpgdmnfijaa
open Go.RowKit

def tgN : List (List Int) := [[1, 0], [1, 0]]
def tgO : List (List Int) := [[1, 0], [1, 2]]
def ttN : List (List Int) := [[1, 0], [2, 0], [1, 0]]
def ttO : List (List Int) := [[1, 0], [1, 2], [1, 2]]
theorem tg_ok : Mok 2 0 2 tgN tgO := by
  refine ⟨by decide, by decide, by decide, by decide, by decide, rfl, rfl, fun s hs => ?_⟩
  match s, hs with
  | 0, _ => exact ⟨rfl, rfl, by decide⟩
  | 1, _ => exact ⟨rfl, rfl, by decide⟩
theorem tt_ok : Mok 2 0 3 ttN ttO := by
  refine ⟨by decide, by decide, by decide, by decide, by decide, rfl, rfl, fun s hs => ?_⟩
  match s, hs with
  | 0, _ => exact ⟨rfl, rfl, by decide⟩
  | 1, _ => exact ⟨rfl, rfl, by decide⟩
  | 2, _ => exact ⟨rfl, rfl, by decide⟩
theorem tt_1 : (mnR ttN ttO 2 0 3).length = 2 := by decide +kernel
theorem tt_2 : mnN ttN ttO 2 0 3 = tgN := by decide +kernel
theorem tt_3 : mnO ttN ttO 2 0 3 = tgO := by decide +kernel
theorem tt_4 : dres 2 0 ttN ttO 2 0 tgN tgO = (none, 0) := by decide +kernel
set_option maxRecDepth 100000 in
theorem ptgate (w : World) :
    Calls Try.prog 57 #[] w fun e w' => ∃ A B, e = .returned (.agg #[.int .i64 2, .int .i64 0, .slice A 2 2, .slice B 2 2]) ∧ Lists w' A 2 tgN ∧ Lists w' B 2 tgO ∧ Below w.heap.size w w' := by
  obtain ⟨w1, hw1⟩ : ∃ w1, w1 = w.alloc (.cells #[.int .i64 2, .int .i64 0, .slice (some ⟨w.heap.size + 1 + 1 + 1, 0, none⟩) 2 2, .slice (some ⟨w.heap.size + 1 + 1 + 1 + 1 + 1 + 1, 0, none⟩) 2 2] 24) := ⟨_, rfl⟩
  have b0 := alloc_below w (.cells #[.int .i64 2, .int .i64 0, .slice (some ⟨w.heap.size + 1 + 1 + 1, 0, none⟩) 2 2, .slice (some ⟨w.heap.size + 1 + 1 + 1 + 1 + 1 + 1, 0, none⟩) 2 2] 24)
  have hn0 := heap_alloc_new w (.cells #[.int .i64 2, .int .i64 0, .slice (some ⟨w.heap.size + 1 + 1 + 1, 0, none⟩) 2 2, .slice (some ⟨w.heap.size + 1 + 1 + 1 + 1 + 1 + 1, 0, none⟩) 2 2] 24)
  rw [← hw1] at b0 hn0
  have zw1 : w1.heap.size = w.heap.size + 1 := by rw [hw1]; simp
  obtain ⟨W1, hW1⟩ : ∃ W1, W1 = (((w1.alloc (.cells #[.int .i64 1, .int .i64 0] 3)).alloc (.cells #[.int .i64 1, .int .i64 0] 3)).alloc (.cells #[.slice (some ⟨w.heap.size + 1, 0, none⟩) 2 2, .slice (some ⟨w.heap.size + 1 + 1, 0, none⟩) 2 2] 33)) := ⟨_, rfl⟩
  have fW1 : Lists W1 (some ⟨w.heap.size + 1 + 1 + 1, 0, none⟩) 2 tgN ∧ Below w1.heap.size w1 W1 ∧ W1.heap.size = w.heap.size + 1 + 1 + 1 + 1 := by
    rw [hW1]
    exact ⟨(litL_lists w1 (w.heap.size + 1) tgN 2 zw1 rfl (by decide) (by decide)).lists, litL_below w1 (w.heap.size + 1) tgN, (litL_size w1 (w.heap.size + 1) tgN).trans (by rw [zw1]; rfl)⟩
  obtain ⟨n1, b1, zW1⟩ := fW1
  obtain ⟨W2, hW2⟩ : ∃ W2, W2 = (((W1.alloc (.cells #[.int .i64 1, .int .i64 0] 3)).alloc (.cells #[.int .i64 1, .int .i64 2] 3)).alloc (.cells #[.slice (some ⟨w.heap.size + 1 + 1 + 1 + 1, 0, none⟩) 2 2, .slice (some ⟨w.heap.size + 1 + 1 + 1 + 1 + 1, 0, none⟩) 2 2] 33)) := ⟨_, rfl⟩
  have fW2 : Lists W2 (some ⟨w.heap.size + 1 + 1 + 1 + 1 + 1 + 1, 0, none⟩) 2 tgO ∧ Below W1.heap.size W1 W2 ∧ W2.heap.size = w.heap.size + 1 + 1 + 1 + 1 + 1 + 1 + 1 := by
    rw [hW2]
    exact ⟨(litL_lists W1 (w.heap.size + 1 + 1 + 1 + 1) tgO 2 zW1 rfl (by decide) (by decide)).lists, litL_below W1 (w.heap.size + 1 + 1 + 1 + 1) tgO, (litL_size W1 (w.heap.size + 1 + 1 + 1 + 1) tgO).trans (by rw [zW1]; rfl)⟩
  obtain ⟨o2, b2, zW2⟩ := fW2
  have n2 := n1.below b2
  have bb := bt b0 (bt b1 b2)
  have hB : Mblk W2 w.heap.size _ _ _ _ := (b2.block w.heap.size (by omega)).trans ((b1.block w.heap.size (by omega)).trans hn0)
  have HW : Hid (W2 = (((((((w.alloc (.cells #[.int .i64 2, .int .i64 0, .slice (some ⟨w.heap.size + 1 + 1 + 1, 0, none⟩) 2 2, .slice (some ⟨w.heap.size + 1 + 1 + 1 + 1 + 1 + 1, 0, none⟩) 2 2] 24)).alloc (.cells #[.int .i64 1, .int .i64 0] 3)).alloc (.cells #[.int .i64 1, .int .i64 0] 3)).alloc (.cells #[.slice (some ⟨w.heap.size + 1, 0, none⟩) 2 2, .slice (some ⟨w.heap.size + 1 + 1, 0, none⟩) 2 2] 33)).alloc (.cells #[.int .i64 1, .int .i64 0] 3)).alloc (.cells #[.int .i64 1, .int .i64 2] 3)).alloc (.cells #[.slice (some ⟨w.heap.size + 1 + 1 + 1 + 1, 0, none⟩) 2 2, .slice (some ⟨w.heap.size + 1 + 1 + 1 + 1 + 1, 0, none⟩) 2 2] 33))) := Lib.hid (by rw [hW2, hW1, hw1])
  clear hW1 hW2 hw1 zW1 zW2 zw1 b1 b2 b0 hn0 n1
  go_enter Try.func57, Try.ntmps57
  go_wp2
  rw [← HW.out]
  refine bodyPost_ret (results_mealy1 rfl _ _ w.heap.size _ _ _ _ rfl hB) rfl ?_
  exact ⟨_, _, rfl, n2, o2, bb⟩
set_option maxRecDepth 100000 in
theorem pttwice (w : World) :
    Calls Try.prog 56 #[] w fun e w' => ∃ A B, e = .returned (.agg #[.int .i64 2, .int .i64 0, .slice A 3 3, .slice B 3 3]) ∧ Lists w' A 3 ttN ∧ Lists w' B 3 ttO ∧ Below w.heap.size w w' := by
  obtain ⟨w1, hw1⟩ : ∃ w1, w1 = w.alloc (.cells #[.int .i64 2, .int .i64 0, .slice (some ⟨w.heap.size + 1 + 1 + 1 + 1, 0, none⟩) 3 3, .slice (some ⟨w.heap.size + 1 + 1 + 1 + 1 + 1 + 1 + 1 + 1, 0, none⟩) 3 3] 24) := ⟨_, rfl⟩
  have b0 := alloc_below w (.cells #[.int .i64 2, .int .i64 0, .slice (some ⟨w.heap.size + 1 + 1 + 1 + 1, 0, none⟩) 3 3, .slice (some ⟨w.heap.size + 1 + 1 + 1 + 1 + 1 + 1 + 1 + 1, 0, none⟩) 3 3] 24)
  have hn0 := heap_alloc_new w (.cells #[.int .i64 2, .int .i64 0, .slice (some ⟨w.heap.size + 1 + 1 + 1 + 1, 0, none⟩) 3 3, .slice (some ⟨w.heap.size + 1 + 1 + 1 + 1 + 1 + 1 + 1 + 1, 0, none⟩) 3 3] 24)
  rw [← hw1] at b0 hn0
  have zw1 : w1.heap.size = w.heap.size + 1 := by rw [hw1]; simp
  obtain ⟨W1, hW1⟩ : ∃ W1, W1 = ((((w1.alloc (.cells #[.int .i64 1, .int .i64 0] 3)).alloc (.cells #[.int .i64 2, .int .i64 0] 3)).alloc (.cells #[.int .i64 1, .int .i64 0] 3)).alloc (.cells #[.slice (some ⟨w.heap.size + 1, 0, none⟩) 2 2, .slice (some ⟨w.heap.size + 1 + 1, 0, none⟩) 2 2, .slice (some ⟨w.heap.size + 1 + 1 + 1, 0, none⟩) 2 2] 33)) := ⟨_, rfl⟩
  have fW1 : Lists W1 (some ⟨w.heap.size + 1 + 1 + 1 + 1, 0, none⟩) 3 ttN ∧ Below w1.heap.size w1 W1 ∧ W1.heap.size = w.heap.size + 1 + 1 + 1 + 1 + 1 := by
    rw [hW1]
    exact ⟨(litL_lists w1 (w.heap.size + 1) ttN 3 zw1 rfl (by decide) (by decide)).lists, litL_below w1 (w.heap.size + 1) ttN, (litL_size w1 (w.heap.size + 1) ttN).trans (by rw [zw1]; rfl)⟩
  obtain ⟨n1, b1, zW1⟩ := fW1
  obtain ⟨W2, hW2⟩ : ∃ W2, W2 = ((((W1.alloc (.cells #[.int .i64 1, .int .i64 0] 3)).alloc (.cells #[.int .i64 1, .int .i64 2] 3)).alloc (.cells #[.int .i64 1, .int .i64 2] 3)).alloc (.cells #[.slice (some ⟨w.heap.size + 1 + 1 + 1 + 1 + 1, 0, none⟩) 2 2, .slice (some ⟨w.heap.size + 1 + 1 + 1 + 1 + 1 + 1, 0, none⟩) 2 2, .slice (some ⟨w.heap.size + 1 + 1 + 1 + 1 + 1 + 1 + 1, 0, none⟩) 2 2] 33)) := ⟨_, rfl⟩
  have fW2 : Lists W2 (some ⟨w.heap.size + 1 + 1 + 1 + 1 + 1 + 1 + 1 + 1, 0, none⟩) 3 ttO ∧ Below W1.heap.size W1 W2 ∧ W2.heap.size = w.heap.size + 1 + 1 + 1 + 1 + 1 + 1 + 1 + 1 + 1 := by
    rw [hW2]
    exact ⟨(litL_lists W1 (w.heap.size + 1 + 1 + 1 + 1 + 1) ttO 3 zW1 rfl (by decide) (by decide)).lists, litL_below W1 (w.heap.size + 1 + 1 + 1 + 1 + 1) ttO, (litL_size W1 (w.heap.size + 1 + 1 + 1 + 1 + 1) ttO).trans (by rw [zW1]; rfl)⟩
  obtain ⟨o2, b2, zW2⟩ := fW2
  have n2 := n1.below b2
  have bb := bt b0 (bt b1 b2)
  have hB : Mblk W2 w.heap.size _ _ _ _ := (b2.block w.heap.size (by omega)).trans ((b1.block w.heap.size (by omega)).trans hn0)
  have HW : Hid (W2 = (((((((((w.alloc (.cells #[.int .i64 2, .int .i64 0, .slice (some ⟨w.heap.size + 1 + 1 + 1 + 1, 0, none⟩) 3 3, .slice (some ⟨w.heap.size + 1 + 1 + 1 + 1 + 1 + 1 + 1 + 1, 0, none⟩) 3 3] 24)).alloc (.cells #[.int .i64 1, .int .i64 0] 3)).alloc (.cells #[.int .i64 2, .int .i64 0] 3)).alloc (.cells #[.int .i64 1, .int .i64 0] 3)).alloc (.cells #[.slice (some ⟨w.heap.size + 1, 0, none⟩) 2 2, .slice (some ⟨w.heap.size + 1 + 1, 0, none⟩) 2 2, .slice (some ⟨w.heap.size + 1 + 1 + 1, 0, none⟩) 2 2] 33)).alloc (.cells #[.int .i64 1, .int .i64 0] 3)).alloc (.cells #[.int .i64 1, .int .i64 2] 3)).alloc (.cells #[.int .i64 1, .int .i64 2] 3)).alloc (.cells #[.slice (some ⟨w.heap.size + 1 + 1 + 1 + 1 + 1, 0, none⟩) 2 2, .slice (some ⟨w.heap.size + 1 + 1 + 1 + 1 + 1 + 1, 0, none⟩) 2 2, .slice (some ⟨w.heap.size + 1 + 1 + 1 + 1 + 1 + 1 + 1, 0, none⟩) 2 2] 33))) := Lib.hid (by rw [hW2, hW1, hw1])
  clear hW1 hW2 hw1 zW1 zW2 zw1 b1 b2 b0 hn0 n1
  go_enter Try.func56, Try.ntmps56
  go_wp2
  rw [← HW.out]
  refine bodyPost_ret (results_mealy1 rfl _ _ w.heap.size _ _ _ _ rfl hB) rfl ?_
  exact ⟨_, _, rfl, n2, o2, bb⟩
set_option maxHeartbeats 8000000 in
set_option maxRecDepth 100000 in
theorem awakeT (w : World) : Calls Try.prog 37 #[] w fun e w' => e = .returned (.bool true) ∧ Below w.heap.size w w' := by
  have hbc := Below.refl w.heap.size w
  go_enter Try.func37, Try.ntmps37
  go_wp2_with fail
  refine (pttwice _).mono ?_
  rintro e w1 ⟨A1, B1, rfl, n1, o1, a1⟩
  have hbc := bt hbc a1
  go_wp2_with fail
  refine (pmin_ok 2 0 3 _ _ _ _ ttN ttO _ n1 o1 tt_ok).mono ?_
  rintro e w2 ⟨A2, c2, B2, d2, rfl, hN, hO, a2⟩
  rw [tt_1] at hN hO ⊢
  rw [tt_2] at hN
  rw [tt_3] at hO
  have x2 := lists_ownedM tg_ok hN
  have y2 := lists_ownedO tg_ok hO
  have hbc := bt hbc a2
  obtain ⟨w3, hw3⟩ : ∃ w3, w3 = w2.alloc (.cells #[.int .i64 2, .int .i64 0, .slice A2 2 c2, .slice B2 2 d2] 24) := ⟨_, rfl⟩
  have a3 := alloc_below w2 (.cells #[.int .i64 2, .int .i64 0, .slice A2 2 c2, .slice B2 2 d2] 24)
  have Y3 := mealy_box w2 (.int .i64 2) (.int .i64 0) (.slice A2 2 c2) (.slice B2 2 d2)
  rw [← hw3] at a3 Y3
  have HW3 := Lib.hid hw3
  have x3 := x2.below a3
  have y3 := y2.below a3
  have HX := Lib.hid (fun (W : World) (h : Below w3.heap.size w3 W) => And.intro (x3.below h) (y3.below h))
  have HY := Lib.hid (fun (W : World) (h : Below w3.heap.size w3 W) => Y3.kept h (heap_lt Y3))
  have hbc := bt hbc a3
  have hbd := Below.refl w3.heap.size w3
  clear hw3 hN hO x2 y2 x3 y3 a1 a2 a3 Y3 n1 o1
  go_wp2_with fail
  try rw [← HW3.out]
  refine (pttwice _).mono ?_
  rintro e w4 ⟨A4, B4, rfl, n4, o4, a4⟩
  have hbc := bt hbc a4
  have hbd := bt hbd a4
  go_wp2_with fail
  refine (ptgate _).mono ?_
  rintro e w5 ⟨A5, B5, rfl, n5, o5, a5⟩
  have hbc := bt hbc a5
  have hbd := bt hbd a5
  have n4 := n4.below a5
  have o4 := o4.below a5
  go_wp2_with fail
  refine (pequ 2 0 2 0 _ _ _ _ 3 3 3 3 2 2 2 2 ttN ttO tgN tgO _ n4 o4 n5 o5).mono ?_
  rintro e w6 ⟨rfl, a6⟩
  rw [tt_4]
  have u4 : eqb (none, 0) = true := by decide
  rw [u4]
  have hbc := bt hbc a6
  have hbd := bt hbd a6
  clear a4 a5 a6 n4 o4 n5 o5 u4
  have HS := Lib.hid (show ∀ W : World, Below w6.heap.size w6 W → W.cell? ⟨w2.heap.size, 0, none⟩ = some (.int .i64 2) ∧ W.cell? ⟨w2.heap.size, 1, none⟩ = some (.int .i64 0) ∧ W.cell? ⟨w2.heap.size, 2, none⟩ = some (.slice A2 2 c2) ∧ W.cell? ⟨w2.heap.size, 3, none⟩ = some (.slice B2 2 d2) from fun W h => by
    obtain ⟨k0, k1, k2, k3, _⟩ := (HY.out W (bt hbd h)).cells
    exact ⟨k0, k1, k2, k3⟩)
  have HXX := Lib.hid (fun (W : World) (h : Below w6.heap.size w6 W) => HX.out W (bt hbd h))
  have hbf : Below w6.heap.size w6 w6.drew := (Below.refl _ w6).drew
  go_wp2
  go_region_held3 (fun W => W.cell? ⟨w2.heap.size, 0, none⟩ = some (.int .i64 2) ∧ W.cell? ⟨w2.heap.size, 1, none⟩ = some (.int .i64 0) ∧ W.cell? ⟨w2.heap.size, 2, none⟩ = some (.slice A2 2 c2) ∧ W.cell? ⟨w2.heap.size, 3, none⟩ = some (.slice B2 2 d2)) (first | exact HS.out _ hbf) (first
    | (go_at_call 57; refine (ptgate _).mono ?_; rintro e w' ⟨A7, B7, rfl, n7, o7, b'⟩; have hbf := bt hbf b')
    | (go_at_call 35; refine (psame 2 0 2 0 A2 B2 A7 B7 2 c2 2 d2 2 2 2 2 tgN tgO tgN tgO true _ (HXX.out _ hbf).1 (HXX.out _ hbf).2 n7 o7 (by simp)).mono ?_; rintro e w' ⟨rfl, b'⟩; have hbf := bt hbf b'))
  go_wp2
  go_ret
  exact ⟨rfl, bt hbc hbf⟩
end Go.Proofs.Ytdedgpgdmnfijaa
end

section
/- The law TopCanonical: the walk. -/
namespace Go.Proofs.Ytdedgpgdmnfijaa
open Go.RowKit

set_option maxHeartbeats 8000000 in
set_option maxRecDepth 100000 in
theorem top5_walk (i1 st1 i2 st2 : Int) (A B C D : Option Addr) (n c m d n2 c2 m2 d2 : Nat) (nx1 ot1 nx2 ot2 : List (List Int)) (w : World) (hx1 : Lists w A n nx1) (ho1 : Lists w B m ot1) (hx2 : Lists w C n2 nx2) (ho2 : Lists w D m2 ot2) :
    Calls Try.prog 11 #[.agg #[.int .i64 i1, .int .i64 st1, .slice A n c, .slice B m d], .agg #[.int .i64 i2, .int .i64 st2, .slice C n2 c2, .slice D m2 d2]] w fun e w' => e = .returned (.bool true) ∧ Below w.heap.size w w' := by
  obtain ⟨hb0, hB1, hB2⟩ := pair_boxes w i1 st1 i2 st2 A B C D n c m d n2 c2 m2 d2
  obtain ⟨w0, hw0⟩ : ∃ w0, w0 = (w.alloc (.cells #[.int .i64 i1, .int .i64 st1, .slice A n c, .slice B m d] 24)).alloc (.cells #[.int .i64 i2, .int .i64 st2, .slice C n2 c2, .slice D m2 d2] 24) := ⟨_, rfl⟩
  rw [← hw0] at hb0 hB1 hB2
  have HW0 := Lib.hid hw0
  have HX1 := Lib.hid (fun (W : World) (h : Below w0.heap.size w0 W) => (hx1.below hb0).below h)
  have HO1 := Lib.hid (fun (W : World) (h : Below w0.heap.size w0 W) => (ho1.below hb0).below h)
  have HX2 := Lib.hid (fun (W : World) (h : Below w0.heap.size w0 W) => (hx2.below hb0).below h)
  have HO2 := Lib.hid (fun (W : World) (h : Below w0.heap.size w0 W) => (ho2.below hb0).below h)
  have HB1 := Lib.hid (fun (W : World) (h : Below w0.heap.size w0 W) => hB1.on9 h)
  have HB2 := Lib.hid (fun (W : World) (h : Below w0.heap.size w0 W) => hB2.on9 h)
  have hbc := Below.refl w0.heap.size w0
  obtain ⟨k0, k1, k2, k3, _⟩ := hB1.cells
  obtain ⟨l0, l1, l2, l3, _⟩ := hB2.cells
  rw [HW0.out] at k0 k1 k2 k3 l0 l1 l2 l3
  clear hw0 hB1 hB2 hx1 ho1 hx2 ho2
  go_enter Try.func11, Try.ntmps11
  by_cases q1 : (20 : Int) < n
  · have f1 : decide ((20 : Int) < n) = true := decide_eq_true q1
    clear q1
    go_wp2_with fail
    rw [← HW0.out]
    clear k0 k1 k2 k3 l0 l1 l2 l3
    refine (awakeT _).mono ?_
    rintro e w9 ⟨rfl, a9⟩
    have hbc := bt hbc a9
    go_wp2
    go_ret
    exact ⟨rfl, bt hb0 hbc⟩
  · have f1 : decide ((20 : Int) < n) = false := decide_eq_false q1
    by_cases q2 : (20 : Int) < n2
    · have f2 : decide ((20 : Int) < n2) = true := decide_eq_true q2
      clear q1 q2
      go_wp2_with fail
      rw [← HW0.out]
      clear k0 k1 k2 k3 l0 l1 l2 l3
      refine (awakeT _).mono ?_
      rintro e w9 ⟨rfl, a9⟩
      have hbc := bt hbc a9
      go_wp2
      go_ret
      exact ⟨rfl, bt hb0 hbc⟩
    · have f2 : decide ((20 : Int) < n2) = false := decide_eq_false q2
      by_cases q3 : (6 : Int) < i1
      · have f3 : decide ((6 : Int) < i1) = true := decide_eq_true q3
        clear q1 q2 q3
        go_wp2_with fail
        rw [← HW0.out]
        clear k0 k1 k2 k3 l0 l1 l2 l3
        refine (awakeT _).mono ?_
        rintro e w9 ⟨rfl, a9⟩
        have hbc := bt hbc a9
        go_wp2
        go_ret
        exact ⟨rfl, bt hb0 hbc⟩
      · have f3 : decide ((6 : Int) < i1) = false := decide_eq_false q3
        by_cases q4 : i2 = i1
        · subst q4
          have f4 : (i2 != i2) = false := by simp
          clear q1 q2 q3
          by_cases hv1 : vld i2 st1 nx1 ot1 = 0
          · by_cases hv2 : vld i2 st2 nx2 ot2 = 0
            · obtain ⟨i', s', n', rfl, rfl, hM⟩ := vld_zero hv1
              obtain ⟨i'', s'', n'', e1, rfl, hN⟩ := vld_zero hv2
              obtain rfl : i' = i'' := by omega
              have e1 := (HX1.out _ hbc).1
              have e2 := (HO1.out _ hbc).1
              have e3 := hM.nxl
              have e4 := hM.otl
              have e5 := (HX2.out _ hbc).1
              have e6 := (HO2.out _ hbc).1
              have e7 := hN.nxl
              have e8 := hN.otl
              obtain rfl : n = n' := by omega
              obtain rfl : n = m := by omega
              obtain rfl : n2 = n'' := by omega
              obtain rfl : n2 = m2 := by omega
              clear e1 e2 e3 e4 e5 e6 e7 e8 hv1 hv2
              have HM := Lib.hid hM
              have HN := Lib.hid hN
              clear hM hN
              have hMa := HM.out.mn
              have hMb := HN.out.mn
              obtain ⟨bb, hbb⟩ := bis_bool i' nx1 ot1 s' nx2 ot2 s''
              have hq1 := (mn_eq_iff HM.out HN.out).trans hbb.symm
              have hq2 := (mn_iso HM.out HN.out).trans hbb.symm
              have hq3 := hbb.trans (mn_bis_iff HM.out HN.out).symm
              obtain ⟨N1, hN1⟩ : ∃ N1, N1 = mnN nx1 ot1 i' s' n := ⟨_, rfl⟩
              obtain ⟨O1, hO1⟩ : ∃ O1, O1 = mnO nx1 ot1 i' s' n := ⟨_, rfl⟩
              obtain ⟨L1, hL1⟩ : ∃ L1, L1 = (mnR nx1 ot1 i' s' n).length := ⟨_, rfl⟩
              obtain ⟨N2, hN2⟩ : ∃ N2, N2 = mnN nx2 ot2 i' s'' n2 := ⟨_, rfl⟩
              obtain ⟨O2, hO2⟩ : ∃ O2, O2 = mnO nx2 ot2 i' s'' n2 := ⟨_, rfl⟩
              obtain ⟨L2, hL2⟩ : ∃ L2, L2 = (mnR nx2 ot2 i' s'' n2).length := ⟨_, rfl⟩
              rw [← hN1, ← hO1, ← hL1] at hMa
              rw [← hN2, ← hO2, ← hL2] at hMb
              rw [← hN1, ← hO1, ← hN2, ← hO2] at hq1
              rw [← hN1, ← hO1, ← hL1, ← hN2, ← hO2, ← hL2] at hq2
              rw [← hN1, ← hO1, ← hN2, ← hO2] at hq3
              have HMa := Lib.hid hMa
              have HMb := Lib.hid hMb
              have HQ1 := Lib.hid hq1
              have HQ2 := Lib.hid hq2
              have HQ3 := Lib.hid hq3
              have HBB := Lib.hid hbb
              have HN1 := Lib.hid hN1
              have HO1' := Lib.hid hO1
              have HL1 := Lib.hid hL1
              have HN2 := Lib.hid hN2
              have HO2' := Lib.hid hO2
              have HL2 := Lib.hid hL2
              clear hMa hMb hq1 hq2 hq3 hbb hN1 hO1 hL1 hN2 hO2 hL2
              go_wp2_with fail
              rw [← HW0.out]
              refine (pmin_ok _ _ _ _ _ _ _ _ _ _ (HX1.out _ hbc) (HO1.out _ hbc) HM.out).mono ?_
              rintro e w4 ⟨A3, c3, B3, d3, rfl, hO3, hQ3, a4⟩
              rw [← HL1.out, ← HN1.out] at hO3
              rw [← HL1.out, ← HO1'.out] at hQ3
              rw [← HL1.out]
              have x3 := lists_ownedM HMa.out hO3
              have y3 := lists_ownedO HMa.out hQ3
              have hbc := bt hbc a4
              obtain ⟨w5, hw5⟩ : ∃ w5, w5 = w4.alloc (.cells #[.int .i64 i', .int .i64 0, .slice A3 L1 c3, .slice B3 L1 d3] 24) := ⟨_, rfl⟩
              have a5 := alloc_below w4 (.cells #[.int .i64 i', .int .i64 0, .slice A3 L1 c3, .slice B3 L1 d3] 24)
              have Y5 := mealy_box w4 (.int .i64 i') (.int .i64 0) (.slice A3 L1 c3) (.slice B3 L1 d3)
              rw [← hw5] at a5 Y5
              have HW5 := Lib.hid hw5
              have x5 := x3.below a5
              have y5 := y3.below a5
              have hbc := bt hbc a5
              clear hO3 hQ3 x3 y3 a4 a5 hw5 k0 k1 k2 k3 l0 l1 l2 l3 f1 f2 f3 f4
              obtain ⟨l0, l1, l2, l3, _⟩ := (HB2.out _ hbc).cells
              rw [HW5.out] at l0 l1 l2 l3
              go_wp2_with fail
              try rw [← HW5.out]
              refine (pmin_ok _ _ _ _ _ _ _ _ _ _ (HX2.out _ hbc) (HO2.out _ hbc) HN.out).mono ?_
              rintro e w6 ⟨A4, c4, B4, d4, rfl, hO4, hQ4, a6⟩
              rw [← HL2.out, ← HN2.out] at hO4
              rw [← HL2.out, ← HO2'.out] at hQ4
              rw [← HL2.out]
              have x4 := lists_ownedM HMb.out hO4
              have y4 := lists_ownedO HMb.out hQ4
              have hbc := bt hbc a6
              obtain ⟨w7, hw7⟩ : ∃ w7, w7 = w6.alloc (.cells #[.int .i64 i', .int .i64 0, .slice A4 L2 c4, .slice B4 L2 d4] 24) := ⟨_, rfl⟩
              have a7 := alloc_below w6 (.cells #[.int .i64 i', .int .i64 0, .slice A4 L2 c4, .slice B4 L2 d4] 24)
              have Z7 := mealy_box w6 (.int .i64 i') (.int .i64 0) (.slice A4 L2 c4) (.slice B4 L2 d4)
              rw [← hw7] at a7 Z7
              have HW7 := Lib.hid hw7
              have Y7 := Y5.on9 (bt a6 a7)
              have x7 := x5.below (bt a6 a7)
              have y7 := y5.below (bt a6 a7)
              have u7 := x4.below a7
              have v7 := y4.below a7
              have HX3 := Lib.hid (fun (W : World) (h : Below w7.heap.size w7 W) => x7.below h)
              have HO3 := Lib.hid (fun (W : World) (h : Below w7.heap.size w7 W) => y7.below h)
              have HX4 := Lib.hid (fun (W : World) (h : Below w7.heap.size w7 W) => u7.below h)
              have HO4 := Lib.hid (fun (W : World) (h : Below w7.heap.size w7 W) => v7.below h)
              have HB3 := Lib.hid (fun (W : World) (h : Below w7.heap.size w7 W) => Y7.on9 h)
              have HB4 := Lib.hid (fun (W : World) (h : Below w7.heap.size w7 W) => Z7.on9 h)
              have hbc := bt hbc a7
              have hbd := Below.refl w7.heap.size w7
              clear hO4 hQ4 x4 y4 a6 a7 hw7 l0 l1 l2 l3 x5 y5 Y5 x7 y7 u7 v7 Y7 Z7
              obtain ⟨k0, k1, k2, k3, _⟩ := (HB1.out _ hbc).cells
              obtain ⟨l0, l1, l2, l3, _⟩ := (HB2.out _ hbc).cells
              rw [HW7.out] at k0 k1 k2 k3 l0 l1 l2 l3
              have hE1 : eqb (dres i' s' nx1 ot1 i' s'' nx2 ot2) = bb := by
                rw [dres_ok HM.out HN.out]
                show (((0 : Int) == 0) && !(dst nx1 ot1 nx2 ot2 i' n n2 s' s'').isSome) = bb
                rw [dst_val HM.out HN.out HM.out.st HN.out.st HBB.out]
                simp
              have hE2 : (dres i' s' nx1 ot1 i' s'' nx2 ot2).2 = 0 := by rw [dres_ok HM.out HN.out]
              have HE1 := Lib.hid hE1
              have HE2 := Lib.hid hE2
              clear hE1 hE2
              go_wp2_with fail
              try rw [← HW7.out]
              refine (pequ _ _ _ _ _ _ _ _ _ _ _ _ _ _ _ _ _ _ _ _ _ (HX1.out _ hbc) (HO1.out _ hbc) (HX2.out _ hbc) (HO2.out _ hbc)).mono ?_
              rintro e w8 ⟨rfl, a8⟩
              rw [HE1.out, HE2.out]
              have hbc := bt hbc a8
              have hbd := bt hbd a8
              clear k0 k1 k2 k3 l0 l1 l2 l3 a8
              obtain ⟨r0, r1, r2, r3, _⟩ := (HB3.out _ hbd).cells
              obtain ⟨t0, t1, t2, t3, _⟩ := (HB4.out _ hbd).cells
              have hI0 := dres_ok HMa.out HMb.out
              simp only [Int.natCast_zero] at hI0
              obtain ⟨R, hR⟩ : ∃ R, R = dst N1 O1 N2 O2 i' L1 L2 0 0 := ⟨_, rfl⟩
              rw [← hR] at hI0
              have hR1 : R.isSome = !bb := by rw [hR]; exact dst_val HMa.out HMb.out HMa.out.st HMb.out.st HQ3.out
              have hR2 : ∀ v, R = some v → 0 < v.length := fun v hv => dst_pos (hR.symm.trans hv)
              have HI0 := Lib.hid hI0
              have HR1 := Lib.hid hR1
              have HR2 := Lib.hid hR2
              clear hI0 hR hR1 hR2
              go_wp2_with fail
              refine (pdist _ _ _ _ _ _ _ _ _ _ _ _ _ _ _ _ _ _ _ _ _ (HX3.out _ hbd) (HO3.out _ hbd) (HX4.out _ hbd) (HO4.out _ hbd)).mono ?_
              rintro e w9 ⟨A9, c9, rfl, _, a9⟩
              rw [HI0.out]
              have hbc := bt hbc a9
              have hbd := bt hbd a9
              clear r0 r1 r2 r3 t0 t1 t2 t3 a9
              obtain ⟨r0, r1, r2, r3, _⟩ := (HB3.out _ hbd).cells
              obtain ⟨t0, t1, t2, t3, _⟩ := (HB4.out _ hbd).cells
              have HSB := Lib.hid (show bb = decide (N1 = N2 ∧ O1 = O2) by
                by_cases h : N1 = N2 ∧ O1 = O2
                · rw [decide_eq_true h, HQ1.out.1 h]
                · rw [decide_eq_false h]
                  cases hb2 : bb with
                  | false => rfl
                  | true => exact absurd (HQ1.out.2 hb2) h)
              cases bb
              all_goals
                cases R with
                | none =>
                  first
                    | (exact absurd (show true = false from HR1.out) (by decide))
                    | (exact absurd (show false = true from HR1.out) (by decide))
                    | (go_wp2_with fail
                       refine (psame i' 0 i' 0 A3 B3 A4 B4 L1 c3 L1 d3 L2 c4 L2 d4 N1 O1 N2 O2 _ _ (HX3.out _ hbd) (HO3.out _ hbd) (HX4.out _ hbd) (HO4.out _ hbd) (HSB.out.trans (by simp))).mono ?_
                       rintro e w10 ⟨rfl, a10⟩
                       have hbc := bt hbc a10
                       go_wp2_with fail
                       refine (awakeT _).mono ?_
                       rintro e w9 ⟨rfl, a9⟩
                       have hbc := bt hbc a9
                       go_wp2
                       go_ret
                       exact ⟨rfl, bt hb0 hbc⟩)
                | some u =>
                  first
                    | (exact absurd (show true = false from HR1.out) (by decide))
                    | (exact absurd (show false = true from HR1.out) (by decide))
                    | (have hu0 : 0 < u.length := HR2.out u rfl
                       have hu1 : ¬ u = [] := fun h => by rw [h] at hu0; exact absurd hu0 (by decide)
                       have hu2 : (0 : Int) < (u.length : Int) := by omega
                       go_wp2_with fail
                       refine (psame i' 0 i' 0 A3 B3 A4 B4 L1 c3 L1 d3 L2 c4 L2 d4 N1 O1 N2 O2 _ _ (HX3.out _ hbd) (HO3.out _ hbd) (HX4.out _ hbd) (HO4.out _ hbd) (HSB.out.trans (by simp))).mono ?_
                       rintro e w10 ⟨rfl, a10⟩
                       have hbc := bt hbc a10
                       go_wp2_with fail
                       refine (awakeT _).mono ?_
                       rintro e w9 ⟨rfl, a9⟩
                       have hbc := bt hbc a9
                       go_wp2
                       go_ret
                       exact ⟨rfl, bt hb0 hbc⟩)
            · obtain ⟨i', s', n', rfl, rfl, hM⟩ := vld_zero hv1
              have e1 := (HX1.out _ hbc).1
              have e2 := (HO1.out _ hbc).1
              have e3 := hM.nxl
              have e4 := hM.otl
              obtain rfl : n = n' := by omega
              obtain rfl : n = m := by omega
              clear e1 e2 e3 e4 hv1
              go_wp2_with fail
              rw [← HW0.out]
              refine (pmin_ok _ _ _ _ _ _ _ _ _ _ (HX1.out _ hbc) (HO1.out _ hbc) hM).mono ?_
              rintro e w4 ⟨A3, c3, B3, d3', rfl, _, _, a4⟩
              have hbc := bt hbc a4
              clear k0 k1 k2 k3 l0 l1 l2 l3 f1 f2 f3 f4 a4
              generalize (mnR nx1 ot1 i' s' n).length = L1
              obtain ⟨w5, hw5⟩ : ∃ w5, w5 = w4.alloc (.cells #[.int .i64 i', .int .i64 0, .slice A3 L1 c3, .slice B3 L1 d3'] 24) := ⟨_, rfl⟩
              have a5 := alloc_below w4 (.cells #[.int .i64 i', .int .i64 0, .slice A3 L1 c3, .slice B3 L1 d3'] 24)
              rw [← hw5] at a5
              have HW5 := Lib.hid hw5
              have hbc := bt hbc a5
              clear a5 hw5
              obtain ⟨l0, l1, l2, l3, _⟩ := (HB2.out _ hbc).cells
              rw [HW5.out] at l0 l1 l2 l3
              go_wp2_with fail
              try rw [← HW5.out]
              refine (pmin_bad _ _ _ _ _ _ _ _ _ _ _ (HX2.out _ hbc) (HO2.out _ hbc) hv2).mono ?_
              rintro e w6 ⟨rfl, a6⟩
              have hbc := bt hbc a6
              have hne2 : (vld (i' : Int) st2 nx2 ot2 != 0) = true := by simpa using hv2
              generalize vld (i' : Int) st2 nx2 ot2 = E2 at hne2 ⊢
              clear hv2 a6 l0 l1 l2 l3
              obtain ⟨w7, hw7⟩ : ∃ w7, w7 = w6.alloc (.cells #[.int .i64 0, .int .i64 0, .slice none 0 0, .slice none 0 0] 24) := ⟨_, rfl⟩
              have a7 := alloc_below w6 (.cells #[.int .i64 0, .int .i64 0, .slice none 0 0, .slice none 0 0] 24)
              rw [← hw7] at a7
              have HW7 := Lib.hid hw7
              have hbc := bt hbc a7
              clear hw7 a7
              go_wp2_with fail
              try rw [← HW7.out]
              refine (awakeT _).mono ?_
              rintro e w9 ⟨rfl, a9⟩
              have hbc := bt hbc a9
              go_wp2
              go_ret
              exact ⟨rfl, bt hb0 hbc⟩
          · have hne1 : (vld i2 st1 nx1 ot1 != 0) = true := by simpa using hv1
            go_wp2_with fail
            rw [← HW0.out]
            refine (pmin_bad _ _ _ _ _ _ _ _ _ _ _ (HX1.out _ hbc) (HO1.out _ hbc) hv1).mono ?_
            rintro e w4 ⟨rfl, a4⟩
            have hbc := bt hbc a4
            generalize vld i2 st1 nx1 ot1 = E1 at hne1 ⊢
            clear k0 k1 k2 k3 l0 l1 l2 l3 f1 f2 f3 f4 a4 hv1
            obtain ⟨w5, hw5⟩ : ∃ w5, w5 = w4.alloc (.cells #[.int .i64 0, .int .i64 0, .slice none 0 0, .slice none 0 0] 24) := ⟨_, rfl⟩
            have a5 := alloc_below w4 (.cells #[.int .i64 0, .int .i64 0, .slice none 0 0, .slice none 0 0] 24)
            rw [← hw5] at a5
            have HW5 := Lib.hid hw5
            have hbc := bt hbc a5
            clear a5 hw5
            obtain ⟨l0, l1, l2, l3, _⟩ := (HB2.out _ hbc).cells
            rw [HW5.out] at l0 l1 l2 l3
            by_cases hv2 : vld i2 st2 nx2 ot2 = 0
            · obtain ⟨i', s', n', rfl, rfl, hM⟩ := vld_zero hv2
              have e1 := (HX2.out _ hbc).1
              have e2 := (HO2.out _ hbc).1
              have e3 := hM.nxl
              have e4 := hM.otl
              obtain rfl : n2 = n' := by omega
              obtain rfl : n2 = m2 := by omega
              clear e1 e2 e3 e4 hv2
              go_wp2_with fail
              try rw [← HW5.out]
              refine (pmin_ok _ _ _ _ _ _ _ _ _ _ (HX2.out _ hbc) (HO2.out _ hbc) hM).mono ?_
              rintro e w6 ⟨A3, c3, B3, d3', rfl, _, _, a6⟩
              have hbc := bt hbc a6
              clear l0 l1 l2 l3 a6
              generalize (mnR nx2 ot2 i' s' n2).length = L1
              obtain ⟨w7, hw7⟩ : ∃ w7, w7 = w6.alloc (.cells #[.int .i64 i', .int .i64 0, .slice A3 L1 c3, .slice B3 L1 d3'] 24) := ⟨_, rfl⟩
              have a7 := alloc_below w6 (.cells #[.int .i64 i', .int .i64 0, .slice A3 L1 c3, .slice B3 L1 d3'] 24)
              rw [← hw7] at a7
              have HW7 := Lib.hid hw7
              have hbc := bt hbc a7
              clear a7 hw7
              go_wp2_with fail
              try rw [← HW7.out]
              refine (awakeT _).mono ?_
              rintro e w9 ⟨rfl, a9⟩
              have hbc := bt hbc a9
              go_wp2
              go_ret
              exact ⟨rfl, bt hb0 hbc⟩
            · go_wp2_with fail
              try rw [← HW5.out]
              refine (pmin_bad _ _ _ _ _ _ _ _ _ _ _ (HX2.out _ hbc) (HO2.out _ hbc) hv2).mono ?_
              rintro e w6 ⟨rfl, a6⟩
              have hbc := bt hbc a6
              have hne2 : (vld i2 st2 nx2 ot2 != 0) = true := by simpa using hv2
              generalize vld i2 st2 nx2 ot2 = E2 at hne2 ⊢
              clear hv2 a6 l0 l1 l2 l3
              obtain ⟨w7, hw7⟩ : ∃ w7, w7 = w6.alloc (.cells #[.int .i64 0, .int .i64 0, .slice none 0 0, .slice none 0 0] 24) := ⟨_, rfl⟩
              have a7 := alloc_below w6 (.cells #[.int .i64 0, .int .i64 0, .slice none 0 0, .slice none 0 0] 24)
              rw [← hw7] at a7
              have HW7 := Lib.hid hw7
              have hbc := bt hbc a7
              clear hw7 a7
              go_wp2_with fail
              try rw [← HW7.out]
              refine (awakeT _).mono ?_
              rintro e w9 ⟨rfl, a9⟩
              have hbc := bt hbc a9
              go_wp2
              go_ret
              exact ⟨rfl, bt hb0 hbc⟩
        · have f4 : (i2 != i1) = true := by simpa using q4
          clear q1 q2 q3 q4
          go_wp2_with fail
          rw [← HW0.out]
          clear k0 k1 k2 k3 l0 l1 l2 l3
          refine (awakeT _).mono ?_
          rintro e w9 ⟨rfl, a9⟩
          have hbc := bt hbc a9
          go_wp2
          go_ret
          exact ⟨rfl, bt hb0 hbc⟩
end Go.Proofs.Ytdedgpgdmnfijaa
end
