/- awake: the chapter's examples. -/
import Derived.Test.YteaejkobahpgcaaOrderr
import Derived.Test.YteaejkobahpgcaaNext
import Derived.Test.YteaejkobahpgcaaUnrank
namespace Go.Proofs.Yteaejkobahpgcaa
open Go.RowKit

/-- Calls of readers give Below. -/
theorem rd_below {w w' : World} (h : ∃ q, w' = w.drewN q) : Below w.heap.size w w' := by obtain ⟨q, rfl⟩ := h; exact below_drewN (Below.refl _ _) q

theorem alloc_below (w : World) (o : Obj) : Below w.heap.size w (w.alloc o) := (Below.refl _ _).alloc (Nat.le_refl _) _

/-- The list xs as a literal's cells. -/
def lit (xs : List Int) : Array Value := (xs.map (Value.int .i64)).toArray

theorem next_lit (w : World) (cs : Array Value) (n m : Nat) (k : Int) (xs zs : List Int) (hcs : cs = lit xs) (hn : n = xs.length) (hm : m = zs.length) (hl : xs.length ≤ 1000) (hz : nextV xs k = (zs, true)) (hzl : zs.length ≤ 1000) :
    Calls Try.prog 23 #[.slice (some ⟨w.heap.size, 0, none⟩) n n, .int .i64 k] (w.alloc (.cells cs 3)) fun e w' => ∃ A c, e = .returned (.tuple #[.slice A m c, .bool true]) ∧ Ints w' A m zs ∧ Below w.heap.size w w' := by
  refine (wnext _ _ _ k xs _ (Ints.new w xs cs n hcs hn (by omega))).mono ?_
  rintro e w' ⟨v, rfl, ho, hb⟩
  rw [hz] at ho ⊢
  obtain ⟨A, c, e⟩ := ho.form
  subst e hm
  exact ⟨A, c, rfl, ho.ints (by show zs.length ≤ _; omega), (alloc_below w _).trans (hb.mono (by simp))⟩

theorem rank_lit (w : World) (cs : Array Value) (n : Nat) (k r : Int) (xs : List Int) (hcs : cs = lit xs) (hn : n = xs.length) (hl : xs.length ≤ 1000) (hz : rankV xs k = (r, 0)) :
    Calls Try.prog 25 #[.slice (some ⟨w.heap.size, 0, none⟩) n n, .int .i64 k] (w.alloc (.cells cs 3)) fun e w' => e = .returned (.tuple #[.int .i64 r, .int .i64 0]) ∧ Below w.heap.size w w' := by
  refine (wrank _ _ _ k xs _ (Ints.new w xs cs n hcs hn (by omega))).mono ?_
  rintro e w' ⟨rfl, rfl⟩
  rw [hz]
  exact ⟨rfl, alloc_below w _⟩

theorem unrank_lit (w : World) (m k : Int) (n : Nat) (zs : List Int) (hm : m ≤ 9223372036854775807) (hn : n = zs.length) (hl : zs.length ≤ 1000) (hz : unrankV m k = (zs, 0)) :
    Calls Try.prog 27 #[.int .i64 m, .int .i64 k] w fun e w' => ∃ A c, e = .returned (.tuple #[.slice A n c, .int .i64 0]) ∧ Ints w' A n zs ∧ Below w.heap.size w w' := by
  refine (wunrank m k w hm).mono ?_
  rintro e w' ⟨v, rfl, ho, hb⟩
  rw [hz] at ho ⊢
  obtain ⟨A, c, e⟩ := ho.form
  subst e hn
  exact ⟨A, c, rfl, ho.ints (by show zs.length ≤ _; omega), hb⟩

theorem two_lit (w : World) (cs ds : Array Value) (n m : Nat) (xs ys : List Int) (h1 : cs = lit xs) (h2 : n = xs.length) (h3 : ds = lit ys) (h4 : m = ys.length) (l1 : xs.length ≤ 1000) (l2 : ys.length ≤ 1000) :
    Ints ((w.alloc (.cells cs 3)).alloc (.cells ds 3)) (some ⟨w.heap.size, 0, none⟩) n xs ∧ Ints ((w.alloc (.cells cs 3)).alloc (.cells ds 3)) (some ⟨w.heap.size + 1, 0, none⟩) m ys ∧ Below w.heap.size w ((w.alloc (.cells cs 3)).alloc (.cells ds 3)) := by
  refine ⟨(Ints.new w xs cs n h1 h2 (by omega)).below (alloc_below _ _), ?_, (alloc_below w _).trans ((alloc_below _ _).mono (by simp))⟩
  have := Ints.new (w.alloc (.cells cs 3)) ys ds m h3 h4 (by omega)
  simpa using this

theorem compare_lit (w : World) (cs ds : Array Value) (n m : Nat) (r : Int) (xs ys : List Int) (h1 : cs = lit xs) (h2 : n = xs.length) (h3 : ds = lit ys) (h4 : m = ys.length) (l1 : xs.length ≤ 1000) (l2 : ys.length ≤ 1000) (hz : shlex xs ys = r) :
    Calls Try.prog 12 #[.slice (some ⟨w.heap.size, 0, none⟩) n n, .slice (some ⟨w.heap.size + 1, 0, none⟩) m m] ((w.alloc (.cells cs 3)).alloc (.cells ds 3)) fun e w' => e = .returned (.int .i64 r) ∧ Below w.heap.size w w' := by
  obtain ⟨a1, a2, a3⟩ := two_lit w cs ds n m xs ys h1 h2 h3 h4 l1 l2
  refine (wcompare _ _ _ _ _ _ xs ys _ a1 a2).mono ?_
  rintro e w' ⟨rfl, hq⟩
  rw [hz]
  exact ⟨rfl, a3.trans ((rd_below hq).mono a3.size)⟩

theorem lex_lit (w : World) (cs ds : Array Value) (n m : Nat) (r : Int) (xs ys : List Int) (h1 : cs = lit xs) (h2 : n = xs.length) (h3 : ds = lit ys) (h4 : m = ys.length) (l1 : xs.length ≤ 1000) (l2 : ys.length ≤ 1000) (hz : lexi xs ys = r) :
    Calls Try.prog 14 #[.slice (some ⟨w.heap.size, 0, none⟩) n n, .slice (some ⟨w.heap.size + 1, 0, none⟩) m m] ((w.alloc (.cells cs 3)).alloc (.cells ds 3)) fun e w' => e = .returned (.int .i64 r) ∧ Below w.heap.size w w' := by
  obtain ⟨a1, a2, a3⟩ := two_lit w cs ds n m xs ys h1 h2 h3 h4 l1 l2
  refine (wlex _ _ _ _ _ _ xs ys _ a1 a2).mono ?_
  rintro e w' ⟨rfl, hq⟩
  rw [hz]
  exact ⟨rfl, a3.trans ((rd_below hq).mono a3.size)⟩

theorem common_lit (w : World) (cs ds : Array Value) (n m r : Nat) (xs ys : List Int) (h1 : cs = lit xs) (h2 : n = xs.length) (h3 : ds = lit ys) (h4 : m = ys.length) (l1 : xs.length ≤ 1000) (l2 : ys.length ≤ 1000) (hz : cmn xs ys = r) :
    Calls Try.prog 18 #[.slice (some ⟨w.heap.size, 0, none⟩) n n, .slice (some ⟨w.heap.size + 1, 0, none⟩) m m] ((w.alloc (.cells cs 3)).alloc (.cells ds 3)) fun e w' => e = .returned (.int .i64 r) ∧ Below w.heap.size w w' := by
  obtain ⟨a1, a2, a3⟩ := two_lit w cs ds n m xs ys h1 h2 h3 h4 l1 l2
  refine (wcommon _ _ _ _ _ _ xs ys _ a1 a2).mono ?_
  rintro e w' ⟨rfl, hq⟩
  rw [hz]
  exact ⟨rfl, a3.trans ((rd_below hq).mono a3.size)⟩

/-- Same of a list and a literal that is equal to it. -/
theorem same_lit (w : World) (A : Option Addr) (n c : Nat) (cs : Array Value) (m : Nat) (xs : List Int) (h : Ints w A n xs) (h1 : cs = lit xs) (h2 : m = xs.length) (l1 : xs.length ≤ 1000) :
    Calls Try.prog 22 #[.slice A n c, .slice (some ⟨w.heap.size, 0, none⟩) m m] (w.alloc (.cells cs 3)) fun e w' => e = .returned (.bool true) ∧ Below w.heap.size w w' := by
  refine (rsame _ _ _ _ _ _ xs xs true _ (h.below (alloc_below w _)) (Ints.new w xs cs m h1 h2 (by omega)) (by simp)).mono ?_
  rintro e w' ⟨rfl, hq⟩
  exact ⟨rfl, (alloc_below w _).trans ((rd_below hq).mono (by simp))⟩

theorem check_lit (w : World) (cs : Array Value) (n : Nat) (k r : Int) (xs : List Int) (hcs : cs = lit xs) (hn : n = xs.length) (hl : xs.length ≤ 1000) (hz : chk xs k = r) :
    Calls Try.prog 10 #[.slice (some ⟨w.heap.size, 0, none⟩) n n, .int .i64 k] (w.alloc (.cells cs 3)) fun e w' => e = .returned (.int .i64 r) ∧ Below w.heap.size w w' := by
  refine (wcheck _ _ _ k xs _ (Ints.new w xs cs n hcs hn (by omega))).mono ?_
  rintro e w' ⟨rfl, rfl⟩
  rw [hz]
  exact ⟨rfl, alloc_below w _⟩

theorem bt {a b c : World} (h : Below a.heap.size a b) (k : Below b.heap.size b c) : Below a.heap.size a c := h.trans (k.mono h.size)

theorem Ints.none_ (w : World) : Ints w none 0 [] := ⟨rfl, by omega, fun h => absurd h (by omega)⟩

theorem join_lit (w : World) (xs ys : List Int) (cs ds : Array Value) (n m k : Nat) (h1 : cs = lit xs) (h2 : n = xs.length) (h3 : ds = lit ys) (h4 : m = ys.length) (l1 : xs.length ≤ 1000) (l2 : ys.length ≤ 1000) (hk : k = (xs ++ ys).length) :
    Calls Try.prog 21 #[.slice (some ⟨w.heap.size + 1 + 1, 0, none⟩) 3 3]
      (((w.alloc (.cells cs 3)).alloc (.cells ds 3)).alloc (.cells #[.slice (some ⟨w.heap.size, 0, none⟩) n n, .slice none 0 0, .slice (some ⟨w.heap.size + 1, 0, none⟩) m m] 22))
      fun e w' => ∃ A c, e = .returned (.slice A k c) ∧ Ints w' A k (xs ++ ys) ∧ Below w.heap.size w w' := by
  obtain ⟨a1, a2, a3⟩ := two_lit w cs ds n m xs ys h1 h2 h3 h4 l1 l2
  generalize hw : (w.alloc (.cells cs 3)).alloc (.cells ds 3) = wq at a1 a2 a3 ⊢
  have hsz : wq.heap.size = w.heap.size + 1 + 1 := by rw [← hw]; simp
  rw [← hsz]
  generalize hcells : (#[.slice (some ⟨w.heap.size, 0, none⟩) n n, .slice none 0 0, .slice (some ⟨w.heap.size + 1, 0, none⟩) m m] : Array Value) = cells
  have hb := alloc_below wq (.cells cells 22)
  have hl : Lists (wq.alloc (.cells cells 22)) (some ⟨wq.heap.size, 0, none⟩) 3 [xs, [], ys] := by
    refine ⟨rfl, by omega, fun _ => ⟨wq.heap.size, 0, rfl, by simp, fun j hj => ?_⟩⟩
    have hc := fun j => cell_of_row (wq.alloc (.cells cells 22)) wq.heap.size j cells 22 (0, 0) (heap_alloc_new wq _)
    rw [Nat.zero_add, hc j]
    match j, hj with
    | 0, _ => exact ⟨some ⟨w.heap.size, 0, none⟩, n, n, by rw [← hcells]; rfl, a1.below hb⟩
    | 1, _ => exact ⟨none, 0, 0, by rw [← hcells]; rfl, Ints.none_ _⟩
    | 2, _ => exact ⟨some ⟨w.heap.size + 1, 0, none⟩, m, m, by rw [← hcells]; rfl, a2.below hb⟩
  refine (wjoin _ _ _ _ _ hl (by simp; omega)).mono ?_
  rintro e w' ⟨v, rfl, ho, hbw⟩
  rw [show ([xs, [], ys] : List (List Int)).flatten = xs ++ ys by simp] at ho
  obtain ⟨A, c, e⟩ := ho.form
  subst e hk
  exact ⟨A, c, rfl, ho.ints (by simp; omega), a3.trans (((hb.trans (hbw.mono hb.size))).mono a3.size)⟩

set_option maxHeartbeats 1000000 in
set_option maxRecDepth 100000 in
theorem awake (w : World) : Calls Try.prog 9 #[] w fun e w' => e = .returned (.bool true) ∧ Below w.heap.size w w' := by
  go_enter Try.func9, Try.ntmps9
  go_wp2_with fail
  refine (next_lit _ _ 2 2 2 [0, 1] [1, 0] rfl rfl rfl (by decide) (by decide +kernel) (by decide)).mono ?_
  rintro e w1 ⟨A1, c1, rfl, h1, b1⟩
  go_wp2_with fail
  refine (next_lit _ _ 2 3 2 [1, 1] [0, 0, 0] rfl rfl rfl (by decide) (by decide +kernel) (by decide)).mono ?_
  rintro e w2 ⟨A2, c2, rfl, h2, b2⟩
  go_wp2_with fail
  refine (rank_lit _ _ 2 3 8 [1, 1] rfl rfl (by decide) (by decide +kernel)).mono ?_
  rintro e w3 ⟨rfl, b3⟩
  go_wp2_with fail
  refine (unrank_lit _ 4 2 2 [0, 1] (by decide) rfl (by decide) (by decide +kernel)).mono ?_
  rintro e w4 ⟨A4, c4, rfl, h4, b4⟩
  have h1 := ((h1.below b2).below b3).below b4
  have h2 := (h2.below b3).below b4
  have b4 := bt (bt (bt b1 b2) b3) b4
  clear b1 b2 b3
  go_wp2_with fail
  refine (compare_lit _ _ _ 1 2 (-1) [1] [0, 0] rfl rfl rfl rfl (by decide) (by decide) (by decide +kernel)).mono ?_
  rintro e w5 ⟨rfl, b5⟩
  go_wp2_with fail
  refine (lex_lit _ _ _ 1 2 1 [1] [0, 0] rfl rfl rfl rfl (by decide) (by decide) (by decide +kernel)).mono ?_
  rintro e w6 ⟨rfl, b6⟩
  go_wp2_with fail
  refine (same_lit _ _ _ _ _ 2 [1, 0] ((h1.below b5).below b6) rfl rfl (by decide)).mono ?_
  rintro e w7 ⟨rfl, b7⟩
  go_wp2_with fail
  refine (same_lit _ _ _ _ _ 3 [0, 0, 0] (((h2.below b5).below b6).below b7) rfl rfl (by decide)).mono ?_
  rintro e w8 ⟨rfl, b8⟩
  go_wp2_with fail
  refine (same_lit _ _ _ _ _ 2 [0, 1] ((((h4.below b5).below b6).below b7).below b8) rfl rfl (by decide)).mono ?_
  rintro e w9 ⟨rfl, b9⟩
  have b9 := bt (bt (bt (bt (bt b4 b5) b6) b7) b8) b9
  clear b4 b5 b6 b7 b8 h1 h2 h4
  go_wp2_with fail
  refine (join_lit _ [1] [2, 3] _ _ 1 2 3 rfl rfl rfl rfl (by decide) (by decide) rfl).mono ?_
  rintro e w10 ⟨A5, c5, rfl, h5, b10⟩
  go_wp2_with fail
  refine (same_lit _ _ _ _ _ 3 [1, 2, 3] h5 rfl rfl (by decide)).mono ?_
  rintro e w11 ⟨rfl, b11⟩
  go_wp2_with fail
  refine (common_lit _ _ _ 3 3 2 [1, 2, 3] [1, 2, 4] rfl rfl rfl rfl (by decide) (by decide) (by decide +kernel)).mono ?_
  rintro e w12 ⟨rfl, b12⟩
  go_wp2_with fail
  refine (check_lit _ _ 1 2 1 [2] rfl rfl (by decide) (by decide +kernel)).mono ?_
  rintro e w13 ⟨rfl, b13⟩
  go_wp2
  go_ret
  exact ⟨rfl, bt (bt (bt (bt b9 b10) b11) b12) b13⟩
end Go.Proofs.Yteaejkobahpgcaa
