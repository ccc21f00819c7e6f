/- WordOrder: the contracts in the form in which the law uses them, and its walk. -/
import Derived.Test.YteaejkobahpgcaaLaws
import Derived.Test.YteaejkobahpgcaaOrdp
import Derived.Deep.DeepCutAuto
import Derived.Deep.Cut
import Derived.BigGuardPart
namespace Go.Proofs.Yteaejkobahpgcaa
open Go.RowKit

theorem compare_law (A B : Option Addr) (n c m d : Nat) (xs ys : List Int) (r : Int) (w : World) (hx : Ints w A n xs) (hy : Ints w B m ys) (hr : shlex xs ys = r) :
    Calls Try.prog 12 #[.slice A n c, .slice B m d] w fun e w' => e = .returned (.int .i64 r) ∧ Below w.heap.size w w' := by
  refine (wcompare _ _ _ _ _ _ xs ys _ hx hy).mono ?_
  rintro e w' ⟨rfl, hq⟩
  exact ⟨by rw [hr], rd_below hq⟩

theorem lex_law (A B : Option Addr) (n c m d : Nat) (xs ys : List Int) (r : Int) (w : World) (hx : Ints w A n xs) (hy : Ints w B m ys) (hr : lexi xs ys = r) :
    Calls Try.prog 14 #[.slice A n c, .slice B m d] w fun e w' => e = .returned (.int .i64 r) ∧ Below w.heap.size w w' := by
  refine (wlex _ _ _ _ _ _ xs ys _ hx hy).mono ?_
  rintro e w' ⟨rfl, hq⟩
  exact ⟨by rw [hr], rd_below hq⟩

theorem prefix_law (A B : Option Addr) (n c m d : Nat) (xs ys : List Int) (b : Bool) (w : World) (hx : Ints w A n xs) (hy : Ints w B m ys) (hb : decide (cmn xs ys = ys.length) = b) :
    Calls Try.prog 16 #[.slice A n c, .slice B m d] w fun e w' => e = .returned (.bool b) ∧ Below w.heap.size w w' := by
  refine (whasprefix _ _ _ _ _ _ xs ys _ hx hy).mono ?_
  rintro e w' ⟨rfl, hq⟩
  exact ⟨by rw [hb], rd_below hq⟩

theorem same_is (A B : Option Addr) (n c m d : Nat) (xs ys : List Int) (b : Bool) (w : World) (hx : Ints w A n xs) (hy : Ints w B m ys) (hb : b = true ↔ xs = ys) :
    Calls Try.prog 22 #[.slice A n c, .slice B m d] w fun e w' => e = .returned (.bool b) ∧ Below w.heap.size w w' := by
  refine (rsame _ _ _ _ _ _ xs ys b _ hx hy hb).mono ?_
  rintro e w' ⟨rfl, hq⟩
  exact ⟨rfl, rd_below hq⟩

theorem join2 (A B : Option Addr) (n c m d : Nat) (xs ys : List Int) (w : World) (hx : Ints w A n xs) (hy : Ints w B m ys) (hl : n + m ≤ 17592186044416) :
    Calls Try.prog 21 #[.slice (some ⟨w.heap.size, 0, none⟩) 2 2] (w.alloc (.cells #[.slice A n c, .slice B m d] 22)) fun e w' => ∃ A' n' c', e = .returned (.slice A' n' c') ∧ Ints w' A' n' (xs ++ ys) ∧ Below w.heap.size w w' := by
  generalize hcells : (#[.slice A n c, .slice B m d] : Array Value) = cells
  have hb := alloc_below w (.cells cells 22)
  have hlst : Lists (w.alloc (.cells cells 22)) (some ⟨w.heap.size, 0, none⟩) 2 [xs, ys] := by
    refine ⟨rfl, by omega, fun _ => ⟨w.heap.size, 0, rfl, by simp, fun j hj => ?_⟩⟩
    have hc := fun j => cell_of_row (w.alloc (.cells cells 22)) w.heap.size j cells 22 (0, 0) (heap_alloc_new w _)
    rw [Nat.zero_add, hc j]
    match j, hj with
    | 0, _ => exact ⟨A, n, c, by rw [← hcells]; rfl, hx.below hb⟩
    | 1, _ => exact ⟨B, m, d, by rw [← hcells]; rfl, hy.below hb⟩
  have hfl : ([xs, ys] : List (List Int)).flatten = xs ++ ys := by simp
  have hle : (xs ++ ys).length ≤ 17592186044416 := by rw [List.length_append, hx.1, hy.1]; exact hl
  refine (wjoin _ _ _ _ _ hlst (by rw [hfl]; exact hle)).mono ?_
  rintro e w' ⟨v, rfl, ho, hbw⟩
  rw [hfl] at ho
  obtain ⟨A', n', c', rfl, hI⟩ := ho.look hle
  exact ⟨A', n', c', rfl, hI, hb.trans (hbw.mono hb.size)⟩

set_option maxHeartbeats 2000000 in
set_option maxRecDepth 100000 in
theorem order_law (A B C : Option Addr) (n m p c d f : Nat) (xs ys zs : List Int) (b : Bool) (x y z l u v : Int) (w : World) (hx : Ints w A n xs) (hy : Ints w B m ys) (hz : Ints w C p zs)
    (hn : n ≤ 300) (hm : m ≤ 300) (hp : p ≤ 300) (hb : b = true ↔ xs = ys)
    (ex : shlex xs ys = x) (ey : shlex ys zs = y) (ez : shlex xs zs = z) (el : lexi xs ys = l) (eu : lexi ys zs = u) (ev : lexi xs zs = v)
    (x1 : -1 ≤ x) (x2 : x ≤ 1) (l1 : -1 ≤ l) (l2 : l ≤ 1) (bx : (x == 0) = b) (bl : (l == 0) = b)
    (t1 : 0 < x ∨ 0 < y ∨ z ≤ 0) (t2 : 0 ≤ x ∨ 0 < y ∨ z < 0) (t3 : 0 < l ∨ 0 < u ∨ v ≤ 0) (t4 : 0 ≤ l ∨ 0 < u ∨ v < 0) :
    Calls Try.prog 7 #[.slice A n c, .slice B m d, .slice C p f] w fun e w' => e = .returned (.bool true) ∧ Below w.heap.size w w' := by
  have Ex := Lib.hid ex
  have Ey := Lib.hid ey
  have Ez := Lib.hid ez
  have El := Lib.hid el
  have Eu := Lib.hid eu
  have Ev := Lib.hid ev
  have Hb := Lib.hid hb
  have T1 := Lib.hid t1
  have T2 := Lib.hid t2
  have T3 := Lib.hid t3
  have T4 := Lib.hid t4
  have Lx := Lib.hid hx.1
  have Ly := Lib.hid hy.1
  clear ex ey ez el eu ev hb t1 t2 t3 t4
  go_enter Try.func7, Try.ntmps7
  go_wp2_with fail
  refine (compare_law _ _ _ _ _ _ xs ys x _ hx hy Ex.out).mono ?_
  rintro e w1 ⟨rfl, b1⟩
  go_wp2_with fail
  refine (compare_law _ _ _ _ _ _ ys zs y _ (hy.below b1) (hz.below b1) Ey.out).mono ?_
  rintro e w2 ⟨rfl, b2⟩
  have b2 := bt b1 b2
  clear b1
  go_wp2_with fail
  refine (compare_law _ _ _ _ _ _ xs zs z _ (hx.below b2) (hz.below b2) Ez.out).mono ?_
  rintro e w3 ⟨rfl, b3⟩
  have b3 := bt b2 b3
  clear b2
  go_wp2_with fail
  refine (lex_law _ _ _ _ _ _ xs ys l _ (hx.below b3) (hy.below b3) El.out).mono ?_
  rintro e w4 ⟨rfl, b4⟩
  have b4 := bt b3 b4
  clear b3
  go_wp2_with fail
  refine (lex_law _ _ _ _ _ _ ys zs u _ (hy.below b4) (hz.below b4) Eu.out).mono ?_
  rintro e w5 ⟨rfl, b5⟩
  have b5 := bt b4 b5
  clear b4
  go_wp2_with fail
  refine (lex_law _ _ _ _ _ _ xs zs v _ (hx.below b5) (hz.below b5) Ev.out).mono ?_
  rintro e w6 ⟨rfl, b6⟩
  have b6 := bt b5 b6
  clear b5
  go_wp2_with fail
  refine (compare_law _ _ _ _ _ _ ys xs (-x) _ (hy.below b6) (hx.below b6) (by rw [shlex_neg xs ys, Ex.out])).mono ?_
  rintro e w7 ⟨rfl, b7⟩
  have b7 := bt b6 b7
  clear b6
  go_wp2_with fail
  refine (lex_law _ _ _ _ _ _ ys xs (-l) _ (hy.below b7) (hx.below b7) (by rw [lexi_lexR, lexR_neg xs ys, ← lexi_lexR, El.out])).mono ?_
  rintro e w8 ⟨rfl, b8⟩
  have b8 := bt b7 b8
  clear b7
  go_wp2_with fail
  refine (same_is _ _ _ _ _ _ xs ys b _ (hx.below b8) (hy.below b8) Hb.out).mono ?_
  rintro e w9 ⟨rfl, b9⟩
  have b9 := bt b8 b9
  clear b8
  go_wp2_with fail
  refine (compare_law _ _ _ _ _ _ xs xs 0 _ (hx.below b9) (hx.below b9) ((shlex_zero xs xs).2 rfl)).mono ?_
  rintro e w10 ⟨rfl, b10⟩
  have b10 := bt b9 b10
  clear b9
  go_upto_region 7 with fail
  go_cut [125] (fun s wx => s = .bool false ∧ wx = w10)
  case first =>
    have t1 := T1.out
    have t2 := T2.out
    have t3 := T3.out
    have t4 := T4.out
    clear T1 T2 T3 T4 b10 bx bl Hb Ex Ey Ez El Eu Ev
    go_wp2_with fail
    all_goals first | (exfalso; omega) | (go_meet; exact ⟨rfl, rfl⟩) | (go_meet; refine ⟨?_, rfl⟩; congr 1; simp; omega)
  case rest =>
    obtain ⟨rfl, rfl⟩ := hcut
    clear T1 T2 T3 T4
    go_upto_region 9 with fail
    go_cut [147] (fun s wx => s = .bool false ∧ Below w.heap.size w wx)
    case first =>
      have hx' := hx.below b10
      have hy' := hy.below b10
      by_cases hp : cmn xs ys = ys.length
      · have g1 : 0 ≤ x := by rw [← Ex.out]; exact shlex_prefix xs ys hp
        have g2 : 0 ≤ l := by rw [← El.out, lexi_lexR]; exact lexR_prefix xs ys hp
        have g3 : ¬ n < m := by have := cmn_le_left xs ys; rw [hp, Lx.out, Ly.out] at this; omega
        have HP := Lib.hid hp
        clear hp
        go_wp2_with (go_at_call 16; refine (prefix_law _ _ _ _ _ _ xs ys true _ hx' hy' (by simp [HP.out])).mono ?_; rintro e w11 ⟨rfl, b11⟩)
        all_goals first | (exfalso; omega) | (go_meet; exact ⟨rfl, bt b10 b11⟩)
      · have HP := Lib.hid hp
        clear hp
        by_cases hnm : n < m
        · have g1 : (x != -1) = false := by rw [← Ex.out, shlex_lt (by rw [Lx.out, Ly.out]; exact hnm)]; rfl
          go_wp2_with (go_at_call 16; refine (prefix_law _ _ _ _ _ _ xs ys false _ hx' hy' (by simp [HP.out])).mono ?_; rintro e w11 ⟨rfl, b11⟩)
          all_goals first | (exfalso; omega) | (go_meet; exact ⟨rfl, bt b10 b11⟩)
        · go_wp2_with (go_at_call 16; refine (prefix_law _ _ _ _ _ _ xs ys false _ hx' hy' (by simp [HP.out])).mono ?_; rintro e w11 ⟨rfl, b11⟩)
          all_goals first | (exfalso; omega) | (go_meet; exact ⟨rfl, bt b10 b11⟩)
    case rest =>
      obtain ⟨rfl, bc⟩ := hcut
      have hX := hx.below bc
      have hY := hy.below bc
      have hZ := hz.below bc
      go_wp2_with fail
      refine (join2 _ _ _ _ _ _ zs xs _ hZ hX (by omega)).mono ?_
      rintro e w1 ⟨A1, n1, c1, rfl, h1, b1⟩
      go_wp2_with fail
      refine (join2 _ _ _ _ _ _ zs ys _ (hZ.below b1) (hY.below b1) (by omega)).mono ?_
      rintro e w2 ⟨A2, n2, c2, rfl, h2, b2⟩
      go_wp2_with fail
      refine (compare_law _ _ _ _ _ _ _ _ x _ (h1.below b2) h2 (by rw [shlex_join, Ex.out])).mono ?_
      rintro e w3 ⟨rfl, b3⟩
      have b3 := bt (bt b1 b2) b3
      clear b1 b2 h1 h2
      go_wp2_with fail
      refine (join2 _ _ _ _ _ _ zs xs _ (hZ.below b3) (hX.below b3) (by omega)).mono ?_
      rintro e w4 ⟨A1, n1, c1, rfl, h1, b4⟩
      have b4 := bt b3 b4
      go_wp2_with fail
      refine (join2 _ _ _ _ _ _ zs ys _ (hZ.below b4) (hY.below b4) (by omega)).mono ?_
      rintro e w5 ⟨A2, n2, c2, rfl, h2, b5⟩
      go_wp2_with fail
      refine (lex_law _ _ _ _ _ _ _ _ l _ (h1.below b5) h2 (by rw [lexi_lexR, lexR_join, ← lexi_lexR, El.out])).mono ?_
      rintro e w6 ⟨rfl, b6⟩
      go_wp2_with fail
      refine (awake _).mono ?_
      rintro e w7 ⟨rfl, b7⟩
      go_wp2
      go_ret
      exact ⟨rfl, bt bc (bt (bt (bt b4 b5) b6) b7)⟩
end Go.Proofs.Yteaejkobahpgcaa
