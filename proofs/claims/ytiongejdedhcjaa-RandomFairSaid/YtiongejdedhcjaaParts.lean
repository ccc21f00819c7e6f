/- RandomParts: the walk. -/
import Derived.Test.YtiongejdedhcjaaRlaw
import Derived.Test.YtiongejdedhcjaaJoin
import Derived.BigQuiet
import Derived.Deep.QuietTactic
namespace Go.Proofs.Ytiongejdedhcjaa
open Go.RowKit

theorem wst_add (k s a b : Nat) : wst k s (a + b) = wst k (wst k s a) b := by
  induction b with
  | zero => rfl
  | succ b ih => rw [← Nat.add_assoc, wst, ih, ← wst]
theorem wsy_add (k s a b : Nat) : wsy k s (a + b) = wsy k s a ++ wsy k (wst k s a) b := by
  induction b with
  | zero => rw [Nat.add_zero, wsy, List.append_nil]
  | succ b ih => rw [← Nat.add_assoc, wsy, ih, wst_add, List.append_assoc, show wsy k (wst k s a) (b + 1) = wsy k (wst k s a) b ++ [(Drx (wst k (wst k s a) b) k : Int)] from rfl]
theorem wsy_at (k s n j : Nat) (h : j < n) : (wsy k s n)[j]?.getD 0 = (Drx (wst k s j) k : Int) := by
  induction n with
  | zero => omega
  | succ n ih =>
    rw [wsy]
    rcases Nat.lt_or_ge j n with h1 | h1
    · rw [List.getElem?_append_left (by rw [wsy_len]; exact h1)]; exact ih h1
    · obtain rfl : j = n := by omega
      rw [List.getElem?_append_right (by rw [wsy_len]; exact Nat.le_refl _), wsy_len, Nat.sub_self]; rfl

theorem pword_n (s k m : Nat) (hc : CanW k m) (hs : s < 18446744073709551616) (w : World) :
    Calls Try.prog 14 #[.int .u64 s, .int .i64 k, .int .i64 m] w fun e w' => ∃ A c, e = .returned (.tuple #[.slice A m c, .int .u64 (wst k s m), .int .i64 0]) ∧ Ints w' A m (wsy k s m) ∧ Below w.heap.size w w' := by
  refine (pword s k m hs w).mono ?_
  rintro e w' ⟨v, rfl, ho, hb⟩
  rw [worV_ok s k m hc] at ho ⊢
  obtain ⟨A, c, e⟩ := ho.form
  rw [show ((wsy k s m, (wst k s m : Int), (0 : Int)).1).length = m from wsy_len k s m] at e
  subst e
  exact ⟨A, c, rfl, ho.ints (by show (wsy k s m).length ≤ _; rw [wsy_len]; have := hc.2.2.2; omega), hb⟩

theorem pbelow_n (s k : Nat) (hd : Drawable k) (hs : s < 18446744073709551616) (w : World) :
    Calls Try.prog 11 #[.int .u64 s, .int .i64 k] w fun e w' => e = .returned (.tuple #[.int .i64 (Drx s k), .int .u64 (Drs s k), .int .i64 0]) ∧ w = w' := by
  refine (pbelow s k hs w).mono ?_
  rintro e w' ⟨rfl, rfl⟩
  rw [belV_ok s k hd]
  exact ⟨rfl, rfl⟩

/-- The reference's Join of a literal of two lists. -/
theorem join2 (w : World) (A B : Option Addr) (n m c d : Nat) (xs ys : List Int) (hx : Ints w A n xs) (hy : Ints w B m ys) (hl : n + m ≤ 100000) :
    Calls Try.prog 21 #[.slice (some ⟨w.heap.size, 0, none⟩) 2 2] (w.alloc (.cells #[.slice A n c, .slice B m d] 32))
      fun e w' => ∃ A' c', e = .returned (.slice A' (n + m) c') ∧ Ints w' A' (n + m) (xs ++ ys) ∧ Below w.heap.size w w' := by
  have hb := alloc_below w (.cells #[.slice A n c, .slice B m d] 32)
  have hls : Lists (w.alloc (.cells #[.slice A n c, .slice B m d] 32)) (some ⟨w.heap.size, 0, none⟩) 2 [xs, ys] := by
    refine ⟨rfl, by omega, fun _ => ⟨w.heap.size, 0, rfl, by simp, fun j hj => ?_⟩⟩
    have hc := fun j => cell_of_row (w.alloc (.cells #[.slice A n c, .slice B m d] 32)) w.heap.size j #[.slice A n c, .slice B m d] 32 (0, 0) (heap_alloc_new w _)
    rw [Nat.zero_add, hc j]
    match j, hj with
    | 0, _ => exact ⟨A, n, c, rfl, hx.below hb⟩
    | 1, _ => exact ⟨B, m, d, rfl, hy.below hb⟩
  have hlen : ([xs, ys] : List (List Int)).flatten.length = n + m := by simp; rw [hx.1, hy.1]
  refine (rjoin _ _ _ [xs, ys] _ hls (by rw [hlen]; omega)).mono ?_
  rintro e w' ⟨v, rfl, ho, hbw⟩
  obtain ⟨A', c', e⟩ := ho.form
  rw [hlen] at e
  subst e
  rw [show ([xs, ys] : List (List Int)).flatten = xs ++ ys by simp] at ho
  exact ⟨A', c', rfl, ho.ints (by rw [List.length_append, hx.1, hy.1]; omega), hb.trans (hbw.mono hb.size)⟩

set_option maxHeartbeats 4000000 in
set_option maxRecDepth 100000 in
theorem parts_walk (s inp n0 m0 : Nat) (hs : s < 18446744073709551616) (h1 : inp < 256) (h2 : n0 < 256) (h3 : m0 < 256) (w : World) :
    Calls Try.prog 7 #[.agg #[.int .u64 s, .int .u8 inp, .int .u8 n0, .int .u8 m0]] w fun e w' => e = .returned (.bool true) ∧ Below w.heap.size w w' := by
  obtain ⟨k, hk⟩ : ∃ k : Nat, k = 1 + inp := ⟨_, rfl⟩
  obtain ⟨a, ha⟩ : ∃ a : Nat, a = n0 % 64 := ⟨_, rfl⟩
  obtain ⟨b, hb⟩ : ∃ b : Nat, b = m0 % 64 := ⟨_, rfl⟩
  obtain ⟨n, hn⟩ : ∃ n : Nat, n = a + b := ⟨_, rfl⟩
  have e1 : (1 : Int) + (inp : Int) = (k : Int) := by omega
  have e2 : (n0 : Int) % 64 = (a : Int) := by omega
  have e3 : (m0 : Int) % 64 = (b : Int) := by omega
  have e4 : (a : Int) + (b : Int) = (n : Int) := by omega
  have k1 : 1 ≤ k := by omega
  have k2 : k ≤ 256 := by omega
  have a1 : a < 64 := by omega
  have b1 : b < 64 := by omega
  have n1 : n < 128 := by omega
  have HN := Lib.hid hn
  clear hk ha hb hn
  have D := Lib.hid (show Drawable k from ⟨k1, by omega⟩)
  have st := Lib.hid (wst_add k s a b)
  have sy := Lib.hid (wsy_add k s a b)
  rw [← HN.out] at st sy
  go_enter Try.func7, Try.ntmps7
  go_wp2
  go_quiet (fail)
  go_wp2_with fail
  refine (pword_n s k a ⟨by omega, by omega, by omega, by omega⟩ hs _).mono ?_
  rintro e w1 ⟨A1, c1, rfl, i1, b1⟩
  go_wp2_with fail
  refine (pword_n _ k b ⟨by omega, by omega, by omega, by omega⟩ (wst_lt hs a) _).mono ?_
  rintro e w2 ⟨A2, c2, rfl, i2, b2⟩
  rw [← st.out]
  go_wp2_with fail
  refine (pword_n s k n ⟨by omega, by omega, by omega, by omega⟩ hs _).mono ?_
  rintro e w3 ⟨A3, c3, rfl, i3, b3⟩
  go_wp2_with fail
  refine (join2 _ _ _ _ _ _ _ _ _ ((i1.below b2).below b3) (i2.below b3) (by omega)).mono ?_
  rintro e w4 ⟨A4, c4, rfl, i4, b4⟩
  go_wp2_with fail
  refine (rsame _ _ _ _ _ _ _ _ true _ (i3.below b4) i4 (by rw [sy.out]; simp)).mono ?_
  rintro e w5 ⟨rfl, h5⟩
  have i3 := (i3.below b4).below (rd_below h5)
  have b5 := bt (bt (bt (bt b1 b2) b3) b4) (rd_below h5)
  clear i1 i2 i4 b1 b2 b3 b4 h5
  go_wp2
  go_loop [19, 20] (fun x i => ∃ j : Nat, j ≤ n ∧ i = .int .i64 j ∧ x = .int .u64 (wst k s j)) (fun _ i => n - (intOf i).toNat)
  case atStart => exact ⟨0, Nat.zero_le _, rfl, rfl⟩
  case round =>
    obtain ⟨j, hj, rfl, rfl⟩ := hrel
    by_cases hlt : j < n
    · obtain ⟨g, off, rfl, _, hcell⟩ := i3.at_ hlt
      rw [show (wsy k s n).getD j 0 = (Drx (wst k s j) k : Int) by rw [← wsy_at k s n j hlt]; simp [List.getD]] at hcell
      have hx : Drx (wst k s j) k < k := Drx_lt D.out
      have hne : ((Drs (wst k s j) k : Int) == (wst k s j : Int)) = false := by
        have := Drs_ne (s := wst k s j) D.out (wst_lt (k := k) hs j)
        simp; omega
      go_wp2_with (go_at_call 11; refine (pbelow_n _ k D.out (wst_lt hs j) _).mono ?_; rintro e w' ⟨rfl, rfl⟩)
      go_round
      case rel => exact ⟨j + 1, by omega, by go_num, rfl⟩
      case measure => simp [intOf]; omega
    · obtain rfl : j = n := by omega
      go_wp2_with (go_at_call 13; refine (awake _).mono ?_; rintro e w6 ⟨rfl, b6⟩)
      go_ret
      exact ⟨rfl, (below_drewN (alloc_below _ _) _).trans ((bt b5 b6).mono (by simp))⟩
end Go.Proofs.Ytiongejdedhcjaa
