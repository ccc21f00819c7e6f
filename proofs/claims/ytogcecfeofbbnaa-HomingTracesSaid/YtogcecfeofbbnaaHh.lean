/- Lemmas of the proofs of this seat, of the parts Awak13, Gr9, Sml, Wf, Nums, Openb, Openm. Conditions: none. -/
import Derived.Test.YtogcecfeofbbnaaHg
import Derived.Test.YtogcecfeofbbnaaHf
import Derived.Test.YtogcecfeofbbnaaHc
import Derived.WalkKit
import Derived.DataShut
import Derived.Test.YtogcecfeofbbnaaHa
import Derived.Deep.Matrix
import Derived.Lib.SmallJoins
import Derived.ProofKit
import Derived.SizedLaws
section
/- The examples of homing; Word in all cases. -/
namespace Go.Proofs.Ytogcecfeofbbnaa
open Go.RowKit

/-- What Word returns: a word and an error. -/
def HomR (i st : Int) (nx ot : List (List Int)) (r : List Int) (e : Int) : Prop := (mck i st nx ot = 0 ∧ Hom i.toNat nx.length nx ot [] r e) ∨ (¬ mck i st nx ot = 0 ∧ r = [] ∧ e = mck i st nx ot)
theorem mck_zero {i st : Int} {nx ot : List (List Int)} (h : mck i st nx ot = 0) : ∃ i' st' n : Nat, i = i' ∧ st = st' ∧ Mok i' st' n nx ot ∧ (mnR nx ot i' st' n).length = n := by
  unfold mck at h
  by_cases h0 : vld i st nx ot = 0
  · rw [if_pos h0] at h
    obtain ⟨i', st', n, rfl, rfl, hM⟩ := vld_zero h0
    rw [Int.toNat_natCast, Int.toNat_natCast, hM.nxl] at h
    by_cases h1 : (mnR nx ot i' st' n).length = n
    · exact ⟨i', st', n, rfl, rfl, hM, h1⟩
    · rw [if_neg h1] at h; exact absurd h (by decide)
  · rw [if_neg h0] at h; exact absurd h h0
theorem HomR.ex (i st : Int) (nx ot : List (List Int)) : ∃ r e, HomR i st nx ot r e ∧ r.length ≤ 1024 := by
  by_cases h : mck i st nx ot = 0
  · obtain ⟨i', st', n, rfl, rfl, hM, hR⟩ := mck_zero h
    obtain ⟨r, e, h1, h2⟩ := Hom.ex hM hR 1024 [] (Wd.nil i') (by simp) (by simp)
    exact ⟨r, e, .inl ⟨h, by rw [Int.toNat_natCast, hM.nxl]; exact h1⟩, h2⟩
  · exact ⟨[], _, .inr ⟨h, rfl, rfl⟩, by simp⟩

set_option maxHeartbeats 1000000 in
theorem pword_bad (i st : Int) (A B : Option Addr) (n c m d : Nat) (nx ot : List (List Int)) (w : World) (hx : Lists w A n nx) (ho : Lists w B m ot) (h0 : ¬ mck i st nx ot = 0) :
    Calls Try.prog 17 #[.agg #[.int .i64 i, .int .i64 st, .slice A n c, .slice B m d]] w fun e w' => e = .returned (.tuple #[.slice none 0 0, .int .i64 (mck i st nx ot)]) ∧ Below w.heap.size w w' := by
  obtain ⟨w1, hw1⟩ : ∃ w1, w1 = w.alloc (.cells #[.int .i64 i, .int .i64 st, .slice A n c, .slice B m d] 24) := ⟨_, rfl⟩
  have b1 : Below w.heap.size w w1 := by rw [hw1]; exact alloc_below _ _
  have m1 : Mblk w1 w.heap.size (.int .i64 i) (.int .i64 st) (.slice A n c) (.slice B m d) := by rw [hw1]; exact mealy_box _ _ _ _ _
  have z1 : w1.heap.size = w.heap.size + 1 := by rw [hw1]; simp
  obtain ⟨k0, k1, k2, k3, _⟩ := m1.cells
  rw [hw1] at k0 k1 k2 k3
  have HW1 := Lib.hid hw1
  have HM1 := Lib.hid m1
  have HV := Lib.hid (pvalid i st A B n c m d nx ot w1 (hx.below b1) (ho.below b1))
  have HB1 := Lib.hid b1
  by_cases hv : vld i st nx ot = 0
  · obtain ⟨i', st', n', rfl, rfl, hM⟩ := vld_zero hv
    have h2 := hM.nxl
    have h3 := hM.otl
    have h4 := hx.1
    have h5 := ho.1
    obtain rfl : n = n' := by omega
    obtain rfl : m = n := by omega
    rw [hv] at HV
    have e0 : mck i' st' nx ot = if (mnR nx ot i' st' m).length = m then 0 else 1 := by unfold mck; rw [if_pos hv, Int.toNat_natCast, Int.toNat_natCast, h2]
    have hR : ¬ (mnR nx ot i' st' m).length = m := fun h => by rw [if_pos h] at e0; exact h0 e0
    rw [if_neg hR] at e0
    have HE := Lib.hid e0
    have HM2 := Lib.hid (fun (W : World) (h : Below w1.heap.size w1 W) => pminl_ok i' st' m A B c d nx ot false W ((hx.below b1).below h) ((ho.below b1).below h) hM (decide_eq_false hR).symm)
    clear hw1 m1 b1 hx ho hM hv h0 h2 h3 h4 h5 hR e0
    go_enter Try.func17, Try.ntmps17
    go_wp2_with fail
    rw [← HW1.out]
    refine HV.out.mono ?_
    rintro e w2 ⟨rfl, b2⟩
    clear k0 k1 k2 k3
    obtain ⟨k0, k1, k2, k3, _⟩ := (HM1.out.kept b2 (by omega)).cells
    have HB2 := Lib.hid b2
    clear b2
    go_wp2_with fail
    refine (HM2.out _ HB2.out).mono ?_
    rintro e w3 ⟨rfl, b3⟩
    have HB3 := Lib.hid (bt HB1.out (bt HB2.out b3))
    clear b3 k0 k1 k2 k3
    go_wp2
    go_ret2
    exact ⟨by rw [HE.out]; rfl, HB3.out⟩
  · have HE : Hid (mck i st nx ot = vld i st nx ot) := Lib.hid (by unfold mck; rw [if_neg hv])
    generalize vld i st nx ot = v at HV HE hv
    have hne : (v != 0) = true := by simpa using hv
    clear hw1 m1 b1 hx ho hv h0
    go_enter Try.func17, Try.ntmps17
    go_wp2_with fail
    rw [← HW1.out]
    refine HV.out.mono ?_
    rintro e w2 ⟨rfl, b2⟩
    have HB2 := Lib.hid (bt HB1.out b2)
    clear b2 k0 k1 k2 k3
    go_wp2
    go_ret2
    exact ⟨by rw [HE.out]; rfl, HB2.out⟩
set_option maxHeartbeats 1000000 in
theorem rword_bad (i st : Int) (A B : Option Addr) (n c m d : Nat) (nx ot : List (List Int)) (w : World) (hx : Lists w A n nx) (ho : Lists w B m ot) (h0 : ¬ mck i st nx ot = 0) :
    Calls Try.prog 18 #[.agg #[.int .i64 i, .int .i64 st, .slice A n c, .slice B m d]] w fun e w' => e = .returned (.tuple #[.slice none 0 0, .int .i64 (mck i st nx ot)]) ∧ Below w.heap.size w w' := by
  obtain ⟨w1, hw1⟩ : ∃ w1, w1 = w.alloc (.cells #[.int .i64 i, .int .i64 st, .slice A n c, .slice B m d] 24) := ⟨_, rfl⟩
  have b1 : Below w.heap.size w w1 := by rw [hw1]; exact alloc_below _ _
  have m1 : Mblk w1 w.heap.size (.int .i64 i) (.int .i64 st) (.slice A n c) (.slice B m d) := by rw [hw1]; exact mealy_box _ _ _ _ _
  obtain ⟨k0, k1, k2, k3, _⟩ := m1.cells
  rw [hw1] at k0 k1 k2 k3
  have HW1 := Lib.hid hw1
  have HV := Lib.hid (rcheck11 i st A B n c m d nx ot w1 (hx.below b1) (ho.below b1))
  have HB1 := Lib.hid b1
  generalize mck i st nx ot = v at HV h0 ⊢
  have hne : (v != 0) = true := by simpa using h0
  clear hw1 m1 b1 hx ho h0
  go_enter Try.func18, Try.ntmps18
  go_wp2_with fail
  rw [← HW1.out]
  refine HV.out.mono ?_
  rintro e w2 ⟨rfl, b2⟩
  have HB2 := Lib.hid (bt HB1.out b2)
  clear b2 k0 k1 k2 k3
  go_wp2
  go_ret2
  exact ⟨rfl, HB2.out⟩
theorem pword13 (i st : Int) (A B : Option Addr) (n c m d : Nat) (nx ot : List (List Int)) (r : List Int) (er : Int) (w : World) (hx : Lists w A n nx) (ho : Lists w B m ot) (hh : HomR i st nx ot r er) :
    Calls Try.prog 17 #[.agg #[.int .i64 i, .int .i64 st, .slice A n c, .slice B m d]] w fun e w' => ∃ A' c', e = .returned (.tuple #[.slice A' r.length c', .int .i64 er]) ∧ Owned w' w.heap.size (.slice A' r.length c') r ∧ Below w.heap.size w w' := by
  rcases hh with ⟨h0, h1⟩ | ⟨h0, rfl, rfl⟩
  · obtain ⟨i', st', n', rfl, rfl, hM, hR⟩ := mck_zero h0
    have h2 := hM.nxl
    have h3 := hM.otl
    have h4 := hx.1
    have h5 := ho.1
    obtain rfl : n = n' := by omega
    obtain rfl : m = n := by omega
    rw [Int.toNat_natCast, h2] at h1
    exact pword_ok i' st' m A B c d nx ot r er w hx ho hM hR h1
  · refine (pword_bad i st A B n c m d nx ot w hx ho h0).mono ?_
    rintro e w' ⟨rfl, hb⟩
    exact ⟨none, 0, rfl, Owned.nil _ _, hb⟩
theorem rword13 (i st : Int) (A B : Option Addr) (n c m d : Nat) (nx ot : List (List Int)) (r : List Int) (er : Int) (w : World) (hx : Lists w A n nx) (ho : Lists w B m ot) (hh : HomR i st nx ot r er) :
    Calls Try.prog 18 #[.agg #[.int .i64 i, .int .i64 st, .slice A n c, .slice B m d]] w fun e w' => ∃ A' c', e = .returned (.tuple #[.slice A' r.length c', .int .i64 er]) ∧ Owned w' w.heap.size (.slice A' r.length c') r ∧ Below w.heap.size w w' := by
  rcases hh with ⟨h0, h1⟩ | ⟨h0, rfl, rfl⟩
  · obtain ⟨i', st', n', rfl, rfl, hM, hR⟩ := mck_zero h0
    have h2 := hM.nxl
    have h3 := hM.otl
    have h4 := hx.1
    have h5 := ho.1
    obtain rfl : n = n' := by omega
    obtain rfl : m = n := by omega
    rw [Int.toNat_natCast, h2] at h1
    exact rword_ok i' st' m A B c d nx ot r er w hx ho hM hR h1
  · refine (rword_bad i st A B n c m d nx ot w hx ho h0).mono ?_
    rintro e w' ⟨rfl, hb⟩
    exact ⟨none, 0, rfl, Owned.nil _ _, hb⟩

def q13N : List (List Int) := [[1], [2], [0]]
def q13O : List (List Int) := [[0], [0], [1]]
theorem q13_0 : mck 1 0 q13N q13O = 0 := by decide +kernel
theorem q13_1 : opnL 3 q13N q13O [] 3 = [0, 1, 2] := by decide +kernel
theorem q13_2 : dst q13N q13O q13N q13O 1 3 3 0 1 = some [0, 0] := by decide +kernel
theorem q13_3 : opnL 3 q13N q13O [0, 0] 3 = [] := by decide +kernel
theorem q13_4 : HomR 1 0 q13N q13O [0, 0] 0 := .inl ⟨q13_0, .more (s := 0) (t := 1) (by show (opnL 3 q13N q13O [] 3).getD 0 0 = _; rw [q13_1]; rfl) (by show (opnL 3 q13N q13O [] 3).getD 1 0 = _; rw [q13_1]; rfl) (by show ¬ opnL 3 q13N q13O [] 3 = []; rw [q13_1]; simp) q13_2 (by simp) (.done q13_3)⟩
theorem q13_5 : resB 1 0 q13N q13O [0, 0] = true := by decide +kernel
theorem q13_6 : resB 1 0 q13N q13O [0] = false := by decide +kernel
theorem q13_7 : hck 1 0 q13N q13O [0, 0] = 0 := by decide +kernel
theorem q13_8 : hck 1 0 q13N q13O [0] = 0 := by decide +kernel
theorem q13_9 : posL 1 0 q13N q13O [0] [0] = [1, 2] := by decide +kernel
theorem q13_a : posE 1 0 q13N q13O [0] [0] = 0 := by decide +kernel
theorem q13_b : posL 1 0 q13N q13O [0, 0] [0, 1] = [0] := by decide +kernel
theorem q13_c : posE 1 0 q13N q13O [0, 0] [0, 1] = 0 := by decide +kernel
theorem q13_d : posL 1 0 q13N q13O [0] [] = [] := by decide +kernel
theorem q13_e : posE 1 0 q13N q13O [0] [] = 1 := by decide +kernel
/-- Equal of a list and a literal that is equal to it. -/
theorem equal_lit13 (w : World) (A : Option Addr) (n c : Nat) (cs : Array Value) (m : Nat) (xs : List Int) (h : Ints w A n xs) (h1 : cs = lit xs) (h2 : m = xs.length) (l1 : xs.length ≤ 1000) :
    Calls Try.prog 19 #[.slice A n c, .slice (some ⟨w.heap.size, 0, none⟩) m m] (w.alloc (.cells cs 3)) fun e w' => e = .returned (.bool true) ∧ Below w.heap.size w w' := by
  refine (requal _ _ _ _ _ _ xs xs true _ (h.below (alloc_below w _)) (Ints.new w xs cs m h1 h2 (by omega)) (by simp)).mono ?_
  rintro e w' ⟨rfl, hq⟩
  exact ⟨rfl, (alloc_below w _).trans ((rd_below hq).mono (by simp))⟩

set_option maxHeartbeats 8000000 in
set_option maxRecDepth 100000 in
theorem awake13 (w : World) : Calls Try.prog 16 #[] w fun e w' => e = .returned (.bool true) ∧ Below w.heap.size w w' := by
  have zw : w.heap.size = w.heap.size := rfl
  obtain ⟨N, hN⟩ : ∃ N, N = ((((w.alloc (.cells #[.int .i64 1] 3)).alloc (.cells #[.int .i64 2] 3)).alloc (.cells #[.int .i64 0] 3)).alloc (.cells #[.slice (some ⟨w.heap.size, 0, none⟩) 1 1, .slice (some ⟨w.heap.size + 1, 0, none⟩) 1 1, .slice (some ⟨w.heap.size + 1 + 1, 0, none⟩) 1 1] 27)) := ⟨_, rfl⟩
  have fN : Lists N (some ⟨w.heap.size + 1 + 1 + 1, 0, none⟩) 3 q13N ∧ Below w.heap.size w N ∧ N.heap.size = w.heap.size + 1 + 1 + 1 + 1 := by
    rw [hN]
    exact ⟨(litL_lists w (w.heap.size) q13N 3 zw rfl (by decide) (by decide)).lists, litL_below w (w.heap.size) q13N, (litL_size w (w.heap.size) q13N).trans (by rw [zw]; rfl)⟩
  obtain ⟨n0, bn, zN⟩ := fN
  obtain ⟨O, hO⟩ : ∃ O, O = ((((N.alloc (.cells #[.int .i64 0] 3)).alloc (.cells #[.int .i64 0] 3)).alloc (.cells #[.int .i64 1] 3)).alloc (.cells #[.slice (some ⟨w.heap.size + 1 + 1 + 1 + 1, 0, none⟩) 1 1, .slice (some ⟨w.heap.size + 1 + 1 + 1 + 1 + 1, 0, none⟩) 1 1, .slice (some ⟨w.heap.size + 1 + 1 + 1 + 1 + 1 + 1, 0, none⟩) 1 1] 27)) := ⟨_, rfl⟩
  have fO : Lists O (some ⟨w.heap.size + 1 + 1 + 1 + 1 + 1 + 1 + 1, 0, none⟩) 3 q13O ∧ Below N.heap.size N O ∧ O.heap.size = w.heap.size + 1 + 1 + 1 + 1 + 1 + 1 + 1 + 1 := by
    rw [hO]
    exact ⟨(litL_lists N (w.heap.size + 1 + 1 + 1 + 1) q13O 3 zN rfl (by decide) (by decide)).lists, litL_below N (w.heap.size + 1 + 1 + 1 + 1) q13O, (litL_size N (w.heap.size + 1 + 1 + 1 + 1) q13O).trans (by rw [zN]; rfl)⟩
  obtain ⟨o0, bo, zO⟩ := fO
  obtain ⟨X, hX⟩ : ∃ X, X = O.alloc (.cells #[.int .i64 1, .int .i64 0, .slice (some ⟨w.heap.size + 1 + 1 + 1, 0, none⟩) 3 3, .slice (some ⟨w.heap.size + 1 + 1 + 1 + 1 + 1 + 1 + 1, 0, none⟩) 3 3] 24) := ⟨_, rfl⟩
  have bx := alloc_below O (.cells #[.int .i64 1, .int .i64 0, .slice (some ⟨w.heap.size + 1 + 1 + 1, 0, none⟩) 3 3, .slice (some ⟨w.heap.size + 1 + 1 + 1 + 1 + 1 + 1 + 1, 0, none⟩) 3 3] 24)
  have mx := mealy_box O (.int .i64 1) (.int .i64 0) (.slice (some ⟨w.heap.size + 1 + 1 + 1, 0, none⟩) 3 3) (.slice (some ⟨w.heap.size + 1 + 1 + 1 + 1 + 1 + 1 + 1, 0, none⟩) 3 3)
  rw [← hX] at bx mx
  rw [zO] at mx
  have b0 : Below w.heap.size w X := bt bn (bt bo bx)
  have HW : Hid (X = (((((((((w.alloc (.cells #[.int .i64 1] 3)).alloc (.cells #[.int .i64 2] 3)).alloc (.cells #[.int .i64 0] 3)).alloc (.cells #[.slice (some ⟨w.heap.size, 0, none⟩) 1 1, .slice (some ⟨w.heap.size + 1, 0, none⟩) 1 1, .slice (some ⟨w.heap.size + 1 + 1, 0, none⟩) 1 1] 27)).alloc (.cells #[.int .i64 0] 3)).alloc (.cells #[.int .i64 0] 3)).alloc (.cells #[.int .i64 1] 3)).alloc (.cells #[.slice (some ⟨w.heap.size + 1 + 1 + 1 + 1, 0, none⟩) 1 1, .slice (some ⟨w.heap.size + 1 + 1 + 1 + 1 + 1, 0, none⟩) 1 1, .slice (some ⟨w.heap.size + 1 + 1 + 1 + 1 + 1 + 1, 0, none⟩) 1 1] 27)).alloc (.cells #[.int .i64 1, .int .i64 0, .slice (some ⟨w.heap.size + 1 + 1 + 1, 0, none⟩) 3 3, .slice (some ⟨w.heap.size + 1 + 1 + 1 + 1 + 1 + 1 + 1, 0, none⟩) 3 3] 24))) := Lib.hid (by rw [hX, hO, hN])
  have hn := n0.below (bt bo bx)
  have ho := o0.below bx
  have HN := Lib.hid (fun (W : World) (h : Below X.heap.size X W) => hn.below h)
  have HO := Lib.hid (fun (W : World) (h : Below X.heap.size X W) => ho.below h)
  have HM := Lib.hid (fun (W : World) (h : Below X.heap.size X W) => mx.on9 h)
  obtain ⟨p0, p1, p2, p3, _⟩ := mx.cells
  rw [HW.out] at p0 p1 p2 p3
  have hbc := Below.refl X.heap.size X
  clear hX hO hN n0 o0 mx hn ho bn bo bx zN zO zw
  go_enter Try.func16, Try.ntmps16
  go_wp2_with fail
  rw [← HW.out]
  refine (pword13 1 0 _ _ 3 3 3 3 q13N q13O [0, 0] 0 _ (HN.out _ hbc) (HO.out _ hbc) q13_4).mono ?_
  rintro e w1 ⟨A1, c1, rfl, h1, a1⟩
  have h1 := Owned.ints h1 (by simp)
  have hbc := bt hbc a1
  clear p0 p1 p2 p3 a1
  obtain ⟨p0, p1, p2, p3, _⟩ := (HM.out _ hbc).cells
  go_wp2_with fail
  refine (presolves 1 0 _ _ _ 3 3 3 3 _ _ q13N q13O [0, 0] _ (HN.out _ hbc) (HO.out _ hbc) h1).mono ?_
  rintro e w2 ⟨rfl, a2⟩
  rw [q13_5, q13_7]
  have h1 := h1.below a2
  have hbc := bt hbc a2
  clear p0 p1 p2 p3 a2
  obtain ⟨p0, p1, p2, p3, _⟩ := (HM.out _ hbc).cells
  go_wp2_with fail
  refine (presolves 1 0 _ _ _ 3 3 3 3 1 1 q13N q13O [0] _ ((HN.out _ hbc).below (alloc_below _ _)) ((HO.out _ hbc).below (alloc_below _ _)) (Ints.new w2 [0] _ 1 rfl rfl (by simp))).mono ?_
  rintro e w3 ⟨rfl, a3⟩
  rw [q13_6, q13_8]
  have a3 := bt (alloc_below _ _) a3
  have h1 := h1.below a3
  have hbc := bt hbc a3
  clear p0 p1 p2 p3 a3
  obtain ⟨p0, p1, p2, p3, _⟩ := (HM.out _ hbc).cells
  go_wp2_with fail
  refine (ppossible 1 0 _ _ _ _ 3 3 3 3 1 1 1 1 q13N q13O [0] [0] _ ((HN.out _ hbc).below (bt (alloc_below _ _) (alloc_below _ _))) ((HO.out _ hbc).below (bt (alloc_below _ _) (alloc_below _ _))) ((Ints.new w3 [0] _ 1 rfl rfl (by simp)).below (alloc_below _ _)) (by have := Ints.new (w3.alloc (.cells #[.int .i64 0] 3)) [0] _ 1 rfl rfl (by simp); simpa [lit] using this)).mono ?_
  rintro e w4 ⟨A4, c4, rfl, h4, a4⟩
  rw [q13_9] at h4 ⊢
  rw [q13_a]
  have h4 := Owned.ints h4 (by simp)
  have a4 := bt (bt (alloc_below _ _) (alloc_below _ _)) a4
  have h1 := h1.below a4
  have hbc := bt hbc a4
  clear p0 p1 p2 p3 a4
  obtain ⟨p0, p1, p2, p3, _⟩ := (HM.out _ hbc).cells
  go_wp2_with fail
  refine (pfinal 1 0 _ _ _ _ 3 3 3 3 2 2 2 2 q13N q13O [0, 0] [0, 1] _ ((HN.out _ hbc).below (bt (alloc_below _ _) (alloc_below _ _))) ((HO.out _ hbc).below (bt (alloc_below _ _) (alloc_below _ _))) ((Ints.new w4 [0, 0] _ 2 rfl rfl (by simp)).below (alloc_below _ _)) (by have := Ints.new (w4.alloc (.cells #[.int .i64 0, .int .i64 0] 3)) [0, 1] _ 2 rfl rfl (by simp); simpa [lit] using this)).mono ?_
  rintro e w5 ⟨rfl, a5⟩
  rw [q13_b, q13_c]
  have a5 := bt (bt (alloc_below _ _) (alloc_below _ _)) a5
  have h1 := h1.below a5
  have h4 := h4.below a5
  have hbc := bt hbc a5
  clear p0 p1 p2 p3 a5
  obtain ⟨p0, p1, p2, p3, _⟩ := (HM.out _ hbc).cells
  go_wp2_with fail
  refine (ppossible 1 0 _ _ _ _ 3 3 3 3 1 1 0 0 q13N q13O [0] [] _ ((HN.out _ hbc).below (alloc_below _ _)) ((HO.out _ hbc).below (alloc_below _ _)) (Ints.new w5 [0] _ 1 rfl rfl (by simp)) (Ints.none_ _)).mono ?_
  rintro e w6 ⟨A6, c6, rfl, _, a6⟩
  rw [q13_d, q13_e]
  have a6 := bt (alloc_below _ _) a6
  have h1 := h1.below a6
  have h4 := h4.below a6
  have hbc := bt hbc a6
  clear p0 p1 p2 p3 a6
  go_wp2_with fail
  refine (equal_lit13 _ _ _ _ _ 2 [0, 0] h1 rfl rfl (by decide)).mono ?_
  rintro e w8 ⟨rfl, a8⟩
  have h4 := h4.below a8
  have hbc := bt hbc a8
  clear h1 a8
  go_wp2_with fail
  refine (equal_lit13 _ _ _ _ _ 2 [1, 2] h4 rfl rfl (by decide)).mono ?_
  rintro e w9 ⟨rfl, a9⟩
  have hbc := bt hbc a9
  clear h4 a9
  have hf1 : finS [0] = 0 := rfl
  have hf2 : finB [0] = true := rfl
  go_wp2
  go_ret
  exact ⟨rfl, bt b0 hbc⟩
end Go.Proofs.Ytogcecfeofbbnaa
end

section
/- Great of the laws of minimize, with what it says of the number of states. -/
namespace Go.Proofs.Ytogcecfeofbbnaa
open Go.RowKit

def SomeN (n : Nat) (w : World) (e : Ending) (w' : World) : Prop := ∃ b : Bool, e = .returned (.bool b) ∧ (b = false → n ≤ 12) ∧ Below w.heap.size w w'
set_option maxHeartbeats 1000000 in
theorem rgreat9 (i st : Int) (A B : Option Addr) (n c m d : Nat) (nx ot : List (List Int)) (w : World) (hx : Lists w A n nx) (ho : Lists w B m ot) :
    Calls Try.prog 30 #[.agg #[.int .i64 i, .int .i64 st, .slice A n c, .slice B m d]] w (SomeN n w) := by
  have hb0 := alloc_below w (.cells #[.int .i64 i, .int .i64 st, .slice A n c, .slice B m d] 24)
  have hB := mealy_box w (.int .i64 i) (.int .i64 st) (.slice A n c) (.slice B m d)
  have hn := hx.2.1
  have hm := ho.2.1
  by_cases h1 : 12 < n
  · have d1 : decide ((12 : Int) < (n : Int)) = true := by simp; omega
    go_enter Try.func30, Try.ntmps30
    go_wp2
    go_ret
    exact ⟨true, rfl, (fun h => absurd h (by decide)), hb0⟩
  · have d1 : decide ((12 : Int) < (n : Int)) = false := by simp; omega
    have hn12 : n ≤ 12 := by omega
    by_cases h2 : 12 < m
    · have d2 : decide ((12 : Int) < (m : Int)) = true := by simp; omega
      go_enter Try.func30, Try.ntmps30
      go_wp2
      go_ret
      exact ⟨_, rfl, fun _ => hn12, hb0⟩
    · have d2 : decide ((12 : Int) < (m : Int)) = false := by simp; omega
      by_cases h3 : 6 < i
      · have d3 : decide ((6 : Int) < i) = true := by simpa using h3
        go_enter Try.func30, Try.ntmps30
        go_wp2
        go_ret
        exact ⟨_, rfl, fun _ => hn12, hb0⟩
      · have d3 : decide ((6 : Int) < i) = false := by simpa using h3
        go_enter Try.func30, Try.ntmps30
        go_wp2
        generalize w.alloc (.cells #[.int .i64 i, .int .i64 st, .slice A n c, .slice B m d] 24) = w1 at hb0 hB ⊢
        obtain ⟨k0, k1, k2, k3, _⟩ := hB.cells
        clear hB d1 d2 d3
        go_loop [23] (fun kv => ∃ k : Nat, k ≤ n ∧ kv = .int .i64 k) (fun kv => n - (intOf kv).toNat)
        case atStart => exact ⟨0, Nat.zero_le _, rfl⟩
        case round =>
          obtain ⟨k, hk, rfl⟩ := hrel
          by_cases hlt : k < n
          · obtain ⟨g1, o1, A1, n1, c1, rfl, hg1, hd1, hr1⟩ := hx.at_ hlt
            have e1 := (hb0.cell (p := ⟨g1, o1 + k, none⟩) hg1).trans hd1
            clear hd1
            go_wp2
            · go_ret
              exact ⟨_, rfl, fun _ => hn12, hb0⟩
            · go_round
              case rel => exact ⟨k + 1, by omega, by go_num⟩
              case measure => simp [intOf]; omega
          · go_wp2
            go_loop [37] (fun kv => ∃ k : Nat, k ≤ m ∧ kv = .int .i64 k) (fun kv => m - (intOf kv).toNat)
            case atStart => exact ⟨0, Nat.zero_le _, rfl⟩
            case round =>
              obtain ⟨k, hk, rfl⟩ := hrel
              by_cases hlt : k < m
              · obtain ⟨g1, o1, A1, n1, c1, rfl, hg1, hd1, hr1⟩ := ho.at_ hlt
                have e1 := (hb0.cell (p := ⟨g1, o1 + k, none⟩) hg1).trans hd1
                clear hd1
                go_wp2
                · go_ret
                  exact ⟨_, rfl, fun _ => hn12, hb0⟩
                · go_round
                  case rel => exact ⟨k + 1, by omega, by go_num⟩
                  case measure => simp [intOf]; omega
              · go_wp2
                go_ret
                exact ⟨_, rfl, fun _ => hn12, hb0⟩
end Go.Proofs.Ytogcecfeofbbnaa
end

section
/- Small of the laws of separate: at most 8 states and 4 inputs. -/
namespace Go.Proofs.Ytogcecfeofbbnaa
open Go.RowKit

def SmallN (n : Nat) (i : Int) (w : World) (e : Ending) (w' : World) : Prop := ∃ b : Bool, e = .returned (.bool b) ∧ (b = true → n ≤ 8 ∧ i ≤ 4) ∧ Below w.heap.size w w'
set_option maxHeartbeats 1000000 in
theorem lsmall (i st : Int) (A B : Option Addr) (n c m d : Nat) (nx ot : List (List Int)) (w : World) (hx : Lists w A n nx) (ho : Lists w B m ot) :
    Calls Try.prog 15 #[.agg #[.int .i64 i, .int .i64 st, .slice A n c, .slice B m d]] w (SmallN n i w) := by
  obtain ⟨w1, hw1⟩ : ∃ w1, w1 = w.alloc (.cells #[.int .i64 i, .int .i64 st, .slice A n c, .slice B m d] 24) := ⟨_, rfl⟩
  have b1 : Below w.heap.size w w1 := by rw [hw1]; exact alloc_below _ _
  have m1 : Mblk w1 w.heap.size (.int .i64 i) (.int .i64 st) (.slice A n c) (.slice B m d) := by rw [hw1]; exact mealy_box _ _ _ _ _
  have z1 : w1.heap.size = w.heap.size + 1 := by rw [hw1]; simp
  obtain ⟨k0, k1, k2, k3, _⟩ := m1.cells
  rw [hw1] at k0 k1 k2 k3
  have HW1 := Lib.hid hw1
  have HM1 := Lib.hid m1
  have HG := Lib.hid (rgreat9 i st A B n c m d nx ot w1 (hx.below b1) (ho.below b1))
  have HB1 := Lib.hid b1
  clear hw1 m1 b1 hx ho
  go_enter Try.func15, Try.ntmps15
  go_wp2_with fail
  rw [← HW1.out]
  refine HG.out.mono ?_
  rintro e w2 ⟨b, rfl, _, b2⟩
  clear k0 k1 k2 k3
  obtain ⟨k0, k1, k2, k3, _⟩ := (HM1.out.kept b2 (by omega)).cells
  have HB2 := Lib.hid (bt HB1.out b2)
  clear b2
  cases b with
  | true =>
    go_wp2
    go_ret
    exact ⟨_, rfl, fun h => absurd h (by decide), HB2.out⟩
  | false =>
    by_cases h1 : n ≤ 8
    · have d1 : decide ((n : Int) ≤ 8) = true := decide_eq_true (by omega)
      by_cases h2 : i ≤ 4
      · have d2 : decide (i ≤ (4 : Int)) = true := decide_eq_true h2
        go_wp2
        go_ret
        exact ⟨_, rfl, fun _ => ⟨h1, h2⟩, HB2.out⟩
      · have d2 : decide (i ≤ (4 : Int)) = false := decide_eq_false h2
        go_wp2
        go_ret
        exact ⟨_, rfl, fun h => absurd h (by decide), HB2.out⟩
    · have d1 : decide ((n : Int) ≤ 8) = false := decide_eq_false (by omega)
      go_wp2
      go_ret
      exact ⟨_, rfl, fun h => absurd h (by decide), HB2.out⟩
end Go.Proofs.Ytogcecfeofbbnaa
end

section
/- What a well formed number is. -/
namespace Go.Proofs.Ytogcecfeofbbnaa

theorem u64_nat {a : Int} (h : (Lit.int .u64 a).wf = true) : ∃ s : Nat, a = s ∧ s < 18446744073709551616 := by
  obtain ⟨h1, h2⟩ := (Lit.wf_int_iff _ _).1 h
  simp [IntKind.min, IntKind.max, IntKind.signed, IntKind.bits] at h1 h2
  exact ⟨a.toNat, by omega, by omega⟩
theorem u8_nat {a : Int} (h : (Lit.int .u8 a).wf = true) : ∃ s : Nat, a = s ∧ s < 256 := by
  obtain ⟨h1, h2⟩ := (Lit.wf_int_iff _ _).1 h
  simp [IntKind.min, IntKind.max, IntKind.signed, IntKind.bits] at h1 h2
  exact ⟨a.toNat, by omega, by omega⟩
theorem i64_in {a : Int} (h : (Lit.int .i64 a).wf = true) : -9223372036854775808 ≤ a ∧ a ≤ 9223372036854775807 := by
  obtain ⟨h1, h2⟩ := (Lit.wf_int_iff _ _).1 h
  simp [IntKind.min, IntKind.max, IntKind.signed, IntKind.bits] at h1 h2
  exact ⟨h1, h2⟩
end Go.Proofs.Ytogcecfeofbbnaa
end

section
/- A slice of numbers of any kind that reads as a list. -/
namespace Go.Proofs.Ytogcecfeofbbnaa
open Go.RowKit

/-- The slice '.slice A n _' holds the numbers xs of the kind kd, which fit it. -/
def Nums (kd : IntKind) (w : World) (A : Option Addr) (n : Nat) (xs : List Int) : Prop :=
  xs.length = n ∧ n ≤ 17592186044416 ∧ (0 < n → ∃ b off, A = some ⟨b, off, none⟩ ∧ b < w.heap.size ∧ ∀ j, j < n → w.cell? ⟨b, off + j, none⟩ = some (.int kd (xs[j]?.getD 0))) ∧
  ∀ j, j < n → (Lit.int kd (xs[j]?.getD 0)).wf = true

theorem Nums.below {kd : IntKind} {w w' : World} {A : Option Addr} {n : Nat} {xs : List Int} (h : Nums kd w A n xs) (hb : Below w.heap.size w w') : Nums kd w' A n xs :=
  ⟨h.1, h.2.1, fun hn => by
    obtain ⟨b, off, e, hlt, hc⟩ := h.2.2.1 hn
    exact ⟨b, off, e, Nat.lt_of_lt_of_le hlt hb.size, fun j hj => (hb.cell hlt).trans (hc j hj)⟩, h.2.2.2⟩

theorem Nums.at_ {kd : IntKind} {w : World} {A : Option Addr} {n : Nat} {xs : List Int} (h : Nums kd w A n xs) {k : Nat} (hk : k < n) :
    ∃ b off, A = some ⟨b, off, none⟩ ∧ b < w.heap.size ∧ w.cell? ⟨b, off + k, none⟩ = some (.int kd (xs[k]?.getD 0)) := by
  obtain ⟨b, off, e, hlt, hc⟩ := h.2.2.1 (by omega)
  exact ⟨b, off, e, hlt, hc k hk⟩

theorem Nums.of_in {kd : IntKind} {w : World} {A : Option Addr} {n cap : Nat} {zs : List Int} (hn : n ≤ 17592186044416)
    (h : (A = none ∧ n = 0 ∧ cap = 0 ∧ zs = []) ∨
      ∃ x, A = some x ∧ n ≤ cap ∧ cap ≤ maxLen ∧ zs.length = cap ∧ (∀ i, i < zs.length → w.cell? (x.add i) = some (.int kd (zs.getD i 0))) ∧ ∀ n ∈ zs, (Lit.int kd n).wf = true) :
    Nums kd w A n (zs.take n) := by
  rcases h with ⟨rfl, rfl, rfl, rfl⟩ | ⟨x, rfl, h1, _, h2, hc, hw⟩
  · exact ⟨rfl, by omega, fun h => absurd h (by omega), fun j h => absurd h (by omega)⟩
  · refine ⟨by rw [List.length_take]; omega, hn, fun h0 => ?_, fun j hj => ?_⟩
    · obtain ⟨b, off, spot⟩ := x
      have hc0 := hc 0 (by omega)
      have hspot : spot = none := by simpa [Addr.add] using World.cell?_spot hc0
      subst hspot
      refine ⟨b, off, rfl, by have := block_lt hc0; simpa [Addr.add] using this, fun j hj => ?_⟩
      have := hc j (by omega)
      rw [show (⟨b, off, none⟩ : Addr).add j = ⟨b, off + j, none⟩ by unfold Addr.add; split <;> simp_all] at this
      rw [this]
      simp [List.getD, hj]
    · apply hw
      rw [List.getElem?_take, if_pos hj, List.getElem?_eq_getElem (by omega)]
      exact List.getElem_mem _
end Go.Proofs.Ytogcecfeofbbnaa
end

section
/- What the rows hand over: slices of numbers, with the form's reach. -/
namespace Go.Proofs.Ytogcecfeofbbnaa
open Go.ChangeShapes Go.WideShapes Go.ChangeAt Go.RowKit Go.Joins Go.Deep

theorem bsz {w w' : World} {o : Obj} (h : Below (w.heap.size + 1) (w.alloc o) w') : w.heap.size + 1 ≤ w'.heap.size := by have := h.size; simpa using this

section
variable {H : Type} {enc : TypeId × Value → H}

/-- A change's contract with the reach at hand. -/
theorem handed_sized {C : Checked} {os : Os} {f : FuncId} {fn : Func} {s : ChangeSpec} {conds : List PathCond} {apart fresh handsOn again : Bool}
    (own : ownKnob C.prog.godebug = none) (started : os.Started) (noInit : C.prog.inits.idxOf? f = none) (hfn : C.prog.funcs[f]? = some fn)
    (witness : ∃ (w : World) (tape : Tape) (i : Input), w.os = os ∧ (w.forCall tape i).Shaped C.prog ∧ i.vars = [] ∧ Input.okWide C.prog (w.forCall tape i) .any w.heap.size f i ∧
      s.pre6 enc C.prog fn conds apart (w.forCall tape i).memory i.args ∧ ({} : Assume).holds C.prog (lone (Frame.enter C.prog f i.args .normal) [] (w.forCall tape i)))
    (contract : ∀ (W : World) (base : Nat) (args : Array Value) (ds gs : List (DataW H)) (before : List MemPlace),
      (∀ (j : Nat) t v, fn.params[j]? = some t → args[j]? = some v → Value.okWide C.prog W .any base t v) →
      DataW.Whole enc C.prog fn.params.toList s.vars apart W args.toList ds gs before →
      (DataW.weightsEach C.prog (fn.params.toList ++ s.plain.varTypes C.prog) (ds ++ gs)).all (· ≤ reachBytes) = true →
      Calls C.prog f args W fun e W' => ∃ v, e = .returned v ∧ s.post enc C.prog fn apart fresh handsOn again W args v W') :
    ReturnsInHanded {} C os f .any (s.pre6 enc C.prog fn conds apart) (s.post enc C.prog fn apart fresh handsOn again) := by
  have e : s.pre6 enc C.prog fn conds apart = fun w args => (s.pre enc C.prog fn conds apart w args ∧ True) ∧ sizedMet enc C.prog fn (OpenSpec.ofChange s) apart w args := by
    funext w args
    unfold ChangeSpec.pre6
    rw [and_true]
  rw [e] at witness ⊢
  exact returnsInHanded_of_change_and (X := fun _ _ => True) (fun _ _ _ _ _ => trivial) own started noInit hfn witness (fun W base args ds gs before h1 h2 _ h4 _ _ => contract W base args ds gs before h1 h2 h4)

/-- What a datum weighs is within the reach. -/
def Light (P : Program) (t : TypeId) (d : DataW H) : Prop := ∀ n ∈ d.weights P t, n ≤ reachBytes
theorem light_of {P : Program} {ts : List TypeId} {ds : List (DataW H)} (h : (DataW.weightsEach P ts ds).all (· ≤ reachBytes) = true) {j : Nat} {t : TypeId} {d : DataW H} (ht : ts[j]? = some t) (hd : ds[j]? = some d) : Light P t d := fun n hn => by
  have := List.all_eq_true.1 h _ (DataW.weights_mem_each ht hd n hn)
  simpa using this

theorem add_none {b off k : Nat} : (⟨b, off, none⟩ : Addr).add k = ⟨b, off + k, none⟩ := by unfold Addr.add; split <;> simp_all
theorem reach_num : reachBytes = 140737488351232 := rfl

variable {w : World} {base : Nat} {held : Bool} {fuel : Nat} {cs : List Value} {x : DataW H × List MemPlace}

/-- A slice of ints that came in. -/
theorem open_intsw (hb3 : Try.prog.bytesOf 3 = 8) (h : DataW.trod enc Try.prog w base (fun _ => true) held fuel 27 cs = some x) (hl : Light Try.prog 27 x.1) :
    ∃ A n c zs, cs = [.slice A n c] ∧ n ≤ c ∧ Ints w A n zs ∧ (∀ z, z ∈ zs → (Lit.int .i64 z).wf = true) := by
  rcases open_ints Try.underlying27 Try.underlying3 (by kernel_rfl) h with ⟨hcs, hx⟩ | ⟨a, l, c, zs, hcs, _, hlc, hm, hz, hx, hcell, hwz⟩
  · exact ⟨none, 0, 0, [], hcs, Nat.le_refl _, ⟨rfl, by omega, fun h => absurd h (by omega)⟩, by simp⟩
  · simp only [if_true] at hz
    subst hx
    have := hl (((lits (H := H) .i64 (zs.take l)).length + (lits (H := H) .i64 (zs.drop l)).length) * 8) (by simp [DataW.weights, Try.underlying27, hb3])
    rw [reach_num] at this
    simp only [lits, List.length_map, List.length_take, List.length_drop] at this
    have hb : l ≤ 17592186044416 := by omega
    exact ⟨some a, l, c, zs.take l, hcs, hlc, Ints.of_in (cap := c) hb (.inr ⟨a, rfl, hlc, hm, hz, hcell, hwz⟩), fun z hz => hwz z (List.mem_of_mem_take hz)⟩

theorem weightsAll_mem {P : Program} {e : TypeId} : ∀ {l : List (DataW H)} {d : DataW H} {n : Nat}, d ∈ l → n ∈ d.weights P e → n ∈ DataW.weightsAll P e l
  | [], _, _, h, _ => absurd h (by simp)
  | d0 :: l, d, n, h, hn => by
    rw [DataW.weightsAll, List.mem_append]
    rcases List.mem_cons.1 h with e | h
    · subst e; exact .inl hn
    · exact .inr (weightsAll_mem h hn)
end
end Go.Proofs.Ytogcecfeofbbnaa
end

section
/- What the rows hand over: slices of lists, machines, with the form's reach. -/
namespace Go.Proofs.Ytogcecfeofbbnaa
open Go.ChangeShapes Go.WideShapes Go.ChangeAt Go.RowKit Go.Joins Go.Deep

section
variable {H : Type} {enc : TypeId × Value → H} {w : World} {base : Nat} {held : Bool} {fuel : Nat} {cs : List Value} {x : DataW H × List MemPlace}

/-- A slice of slices of ints that came in. -/
theorem open_lists (hb3 : Try.prog.bytesOf 3 = 8) (hb4 : Try.prog.bytesOf 27 = 24) (h : DataW.trod enc Try.prog w base (fun _ => true) held fuel 22 cs = some x) (hl : Light Try.prog 22 x.1) :
    ∃ A n c xss, cs = [.slice A n c] ∧ n ≤ c ∧ Lists w A n xss := by
  rcases open_int_rows Try.underlying22 Try.underlying27 Try.underlying3 (by kernel_rfl) (by kernel_rfl) h with ⟨hcs, hx⟩ | ⟨a, l, c, A, L, C, Z, hcs, _, hlc, hm, hx, hcell⟩
  · exact ⟨none, 0, 0, [], hcs, Nat.le_refl _, ⟨rfl, by omega, fun h => absurd h (by omega)⟩⟩
  · subst hx
    refine ⟨some a, l, c, (List.range l).map fun r => (Z r).take (L r), hcs, hlc, by simp, ?_, fun h0 => ?_⟩
    · have := hl ((((List.range l).map fun r => intRow (H := H) .i64 (A r) (L r) (Z r)).length + ((List.range (c - l)).map fun j => intRow (H := H) .i64 (A (l + j)) (L (l + j)) (Z (l + j))).length) * 24) (by simp [DataW.weights, Try.underlying22, hb4])
      rw [reach_num] at this
      simp only [List.length_map, List.length_range] at this
      omega
    · obtain ⟨b, off, spot⟩ := a
      have hc0 := (hcell 0 (by omega)).1
      have hspot : spot = none := by simpa [Addr.add] using World.cell?_spot hc0
      subst hspot
      refine ⟨b, off, rfl, by have := block_lt hc0; simpa [Addr.add] using this, fun j hj => ?_⟩
      obtain ⟨h1, h2, h3, h4, h5, h6, h7⟩ := hcell j (by omega)
      have e : ((List.range l).map fun r => (Z r).take (L r)).getD j [] = (Z j).take (L j) := by simp [List.getD, hj]
      rw [add_none] at h1
      refine ⟨A j, L j, C j, h1, ?_⟩
      rw [e]
      cases hA : A j with
      | none =>
        have hC := h6 hA
        exact Ints.of_in (cap := C j) (by omega) (.inl ⟨rfl, by omega, hC, List.eq_nil_of_length_eq_zero (by omega)⟩)
      | some y =>
        have hw : Light Try.prog 27 (intRow (H := H) .i64 (A j) (L j) (Z j)) := fun n hn => hl n (by
          simp only [DataW.weights, Try.underlying22]
          exact List.mem_cons_of_mem _ (List.mem_append_left _ (weightsAll_mem (List.mem_map.2 ⟨j, List.mem_range.2 hj, rfl⟩) hn)))
        rw [hA] at hw
        have := hw (((lits (H := H) .i64 ((Z j).take (L j))).length + (lits (H := H) .i64 ((Z j).drop (L j))).length) * 8) (by simp [intRow, DataW.weights, Try.underlying27, hb3])
        rw [reach_num] at this
        simp only [lits, List.length_map, List.length_take, List.length_drop] at this
        exact Ints.of_in (cap := C j) (by omega) (.inr ⟨y, rfl, h2, h3, h4, fun i hi => (h7 y hA).2 i (by omega), h5⟩)

theorem cells_mealy : Try.prog.cellsOf 24 = 4 := by kernel_rfl
set_option maxRecDepth 100000 in
/-- A machine that came in. -/
theorem open_mealy (hb3 : Try.prog.bytesOf 3 = 8) (hb4 : Try.prog.bytesOf 27 = 24) {r : Reach} {b0 : Nat} {v : Value} {d : DataW H} {p : List MemPlace} (hv : Value.okWide Try.prog w r b0 24 v) (h : DataW.Trod enc Try.prog w base (fun _ => true) held 24 v d p) (hl : Light Try.prog 24 d) :
    ∃ i st A n c B m e nx ot, v = .agg #[.int .i64 i, .int .i64 st, .slice A n c, .slice B m e] ∧ Lists w A n nx ∧ Lists w B m ot ∧ (Lit.int .i64 i).wf = true ∧ (Lit.int .i64 st).wf = true := by
  obtain ⟨c0, c1, c2, c3, y0, y1, y2, y3, f, rfl, hd, _, h0, h1, h2, h3⟩ := open_agg4 Try.underlying24 (by kernel_rfl) cells_mealy hv h
  obtain ⟨i, e0, _, w0⟩ := DataW.trod_int Try.underlying3 h0
  obtain ⟨st, e1, _, w1⟩ := DataW.trod_int Try.underlying3 h1
  subst hd
  have hw : ∀ n, n ∈ y2.1.weights Try.prog 22 ∨ n ∈ y3.1.weights Try.prog 22 → n ≤ reachBytes := fun n hn => hl n (by
    simp only [DataW.weights, Try.underlying24]
    rcases hn with hn | hn
    · exact DataW.weights_mem_each (j := 2) rfl rfl n hn
    · exact DataW.weights_mem_each (j := 3) rfl rfl n hn)
  obtain ⟨A, n, c, nx, e2, _, l2⟩ := open_lists hb3 hb4 h2 (fun n hn => hw n (.inl hn))
  obtain ⟨B, m, e, ot, e3, _, l3⟩ := open_lists hb3 hb4 h3 (fun n hn => hw n (.inr hn))
  simp at e0 e1 e2 e3
  subst e0 e1 e2 e3
  exact ⟨i, st, A, n, c, B, m, e, nx, ot, rfl, l2, l3, w0, w1⟩
end
end Go.Proofs.Ytogcecfeofbbnaa
end
