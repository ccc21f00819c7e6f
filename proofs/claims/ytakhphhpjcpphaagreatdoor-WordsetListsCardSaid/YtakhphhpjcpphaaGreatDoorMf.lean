/- Lemmas of the proofs of this seat, of the parts Check, Nxtp, Nxtm, Uptp, Uptw, Valw, Litl, Awakw. Conditions: none. -/
import Derived.Test.YtakhphhpjcpphaaGreatDoorMa
import Derived.Test.YtakhphhpjcpphaaGreatDoorProg
import Derived.WalkSpells
import Derived.WalkLawsBesides
import Derived.Outline
import Derived.Test.YtakhphhpjcpphaaGreatDoorMc
import Derived.RegionTactic
import Derived.Test.YtakhphhpjcpphaaGreatDoorMb
import Derived.Deep.LoopGhost
import Derived.Test.YtakhphhpjcpphaaGreatDoorMd
section
/- The walks of Check, by the two texts. -/
namespace Go.Proofs.YtakhphhpjcpphaaGreatDoor
open Go.RowKit

/-- The first j numbers are symbols of the size k. -/
def Syms (xs : List Int) (k : Int) (j : Nat) : Prop := ∀ m, m < j → 0 ≤ xs.getD m 0 ∧ xs.getD m 0 < k

instance (xs : List Int) (k : Int) (j : Nat) : Decidable (Syms xs k j) := by unfold Syms; exact inferInstance

theorem Syms.zero (xs : List Int) (k : Int) : Syms xs k 0 := fun m hm => absurd hm (by omega)
theorem Syms.succ {xs : List Int} {k : Int} {j : Nat} (h : Syms xs k j) (h0 : 0 ≤ xs.getD j 0) (h1 : xs.getD j 0 < k) : Syms xs k (j + 1) := fun m hm => by
  by_cases e : m = j
  · subst e; exact ⟨h0, h1⟩
  · exact h m (by omega)

/-- The error of Check. -/
def chk (xs : List Int) (k : Int) : Int :=
  if 1 ≤ k ∧ k ≤ 1024 then (if 1024 < xs.length then 3 else if Syms xs k xs.length then 0 else 1) else 2

theorem chk_range {xs : List Int} {k : Int} (h : ¬ (1 ≤ k ∧ k ≤ 1024)) : chk xs k = 2 := by unfold chk; rw [if_neg h]
theorem chk_long {xs : List Int} {k : Int} (h : 1 ≤ k ∧ k ≤ 1024) (hl : 1024 < xs.length) : chk xs k = 3 := by unfold chk; rw [if_pos h, if_pos hl]
theorem chk_ok {xs : List Int} {k : Int} (h : 1 ≤ k ∧ k ≤ 1024) (hl : ¬ 1024 < xs.length) (hs : Syms xs k xs.length) : chk xs k = 0 := by unfold chk; rw [if_pos h, if_neg hl, if_pos hs]
theorem chk_bad {xs : List Int} {k : Int} (h : 1 ≤ k ∧ k ≤ 1024) (hl : ¬ 1024 < xs.length) {j : Nat} (hj : j < xs.length) (hs : ¬ (0 ≤ xs.getD j 0 ∧ xs.getD j 0 < k)) : chk xs k = 1 := by
  unfold chk; rw [if_pos h, if_neg hl, if_neg fun H => hs (H j hj)]


theorem chk_zero {xs : List Int} {k : Int} (h : chk xs k = 0) : 1 ≤ k ∧ k ≤ 1024 ∧ xs.length ≤ 1024 ∧ Syms xs k xs.length := by
  unfold chk at h
  by_cases h1 : 1 ≤ k ∧ k ≤ 1024
  · rw [if_pos h1] at h
    by_cases h2 : 1024 < xs.length
    · rw [if_pos h2] at h; omega
    · rw [if_neg h2] at h
      by_cases h3 : Syms xs k xs.length
      · exact ⟨h1.1, h1.2, by omega, h3⟩
      · rw [if_neg h3] at h; omega
  · rw [if_neg h1] at h; omega

theorem wperm (k : Int) (b : Bool) (h : b = true ↔ (1 ≤ k ∧ k ≤ 1024)) (w : World) :
    Calls Tryz.prog 65 #[.int .i64 k] w fun e w' => e = .returned (.bool b) ∧ w = w' := by
  by_cases h1 : 1 ≤ k
  · by_cases h2 : k ≤ 1024
    · obtain rfl : b = true := h.2 ⟨h1, h2⟩
      go_enter Tryz.func65, Tryz.ntmps65
      go_wp2
      go_ret
      exact ⟨rfl, rfl⟩
    · obtain rfl : b = false := by cases b; rfl; exact absurd (h.1 rfl).2 h2
      go_enter Tryz.func65, Tryz.ntmps65
      go_wp2
      go_ret
      exact ⟨rfl, rfl⟩
  · obtain rfl : b = false := by cases b; rfl; exact absurd (h.1 rfl).1 h1
    go_enter Tryz.func65, Tryz.ntmps65
    go_wp2
    go_ret
    exact ⟨rfl, rfl⟩

set_option maxHeartbeats 400000 in
theorem wcheck (A : Option Addr) (n c : Nat) (k : Int) (xs : List Int) (w : World) (h : Ints w A n xs) :
    Calls Tryz.prog 53 #[.slice A n c, .int .i64 k] w fun e w' => e = .returned (.int .i64 (chk xs k)) ∧ w = w' := by
  have hlen := h.1
  have hn := h.2.1
  by_cases hr : 1 ≤ k ∧ k ≤ 1024
  · have H1 := Lib.hid hr
    obtain ⟨h1, h2⟩ := hr
    by_cases hl : 1024 < n
    · have hfin := Lib.hid (chk_long (xs := xs) ⟨h1, h2⟩ (by omega))
      clear hlen
      go_enter Tryz.func53, Tryz.ntmps53
      go_wp2_with (go_at_call 65; refine (wperm k true (by simp; omega) _).mono ?_; rintro e w' ⟨rfl, rfl⟩)
      go_ret
      exact ⟨ret_int hfin.out.symm, rfl⟩
    · have hd : decide ((1024 : Int) < (n : Int)) = false := by simp; omega
      have hL := Lib.hid hlen
      clear hlen
      go_enter Tryz.func53, Tryz.ntmps53
      go_wp2_with (go_at_call 65; refine (wperm k true (by simp; omega) _).mono ?_; rintro e w' ⟨rfl, rfl⟩)
      go_loop [15] (fun i => ∃ j : Nat, j ≤ n ∧ i = .int .i64 j ∧ Syms xs k j) (fun i => n - (intOf i).toNat)
      case atStart => exact ⟨0, Nat.zero_le _, rfl, Syms.zero _ _⟩
      case round =>
        obtain ⟨j, hj, rfl, hs⟩ := hrel
        by_cases hlt : j < n
        · obtain ⟨b, off, rfl, hb, hc⟩ := h.at_ hlt
          by_cases hg : 0 ≤ xs[j]?.getD 0 ∧ xs[j]?.getD 0 < k
          · obtain ⟨g1, g2⟩ := hg
            have g3 : ¬ xs[j]?.getD 0 < 0 := by omega
            have hs' := hs.succ (by simpa using g1) (by simpa using g2)
            go_wp2
            go_round
            case rel => exact ⟨j + 1, by omega, by go_num, hs'⟩
            case measure => simp [intOf]; omega
          · have hbad := Lib.hid (chk_bad H1.out (by rw [hL.out]; exact hl) (by rw [hL.out]; exact hlt) (by simpa using hg))
            by_cases g1 : xs[j]?.getD 0 < 0
            · go_wp2
              go_ret
              exact ⟨ret_int hbad.out.symm, rfl⟩
            · have g2 : k ≤ xs[j]?.getD 0 := by omega
              have g0 : 0 ≤ xs[j]?.getD 0 := by omega
              clear hg
              go_wp2
              go_ret
              exact ⟨ret_int hbad.out.symm, rfl⟩
        · have hok := Lib.hid (chk_ok H1.out (by rw [hL.out]; exact hl) (by rw [hL.out]; exact (by omega : j = n) ▸ hs))
          go_wp2
          go_ret
          exact ⟨ret_int hok.out.symm, rfl⟩
  · have hbad := Lib.hid (chk_range (xs := xs) hr)
    go_enter Tryz.func53, Tryz.ntmps53
    go_wp2_with (go_at_call 65; refine (wperm k false (by simp; omega) _).mono ?_; rintro e w' ⟨rfl, rfl⟩)
    go_ret
    exact ⟨ret_int hbad.out.symm, rfl⟩

end Go.Proofs.YtakhphhpjcpphaaGreatDoor
end

section
/- Plain: what Next returns; the state of its loop. -/
namespace Go.Proofs.YtakhphhpjcpphaaGreatDoor
open Go.RowKit

/-- The word after xs, if the symbols from the place i on are the last ones. -/
def nxt (k : Int) (xs : List Int) : Nat → List Int × Bool
  | 0 => if xs.length = 1024 then ([], false) else (List.replicate xs.length 0 ++ [0], true)
  | i + 1 => if xs[i]?.getD 0 < k - 1 then ((xs.take i ++ List.replicate (xs.length - i) 0).set i (xs[i]?.getD 0 + 1), true) else nxt k xs i

def nextV (xs : List Int) (k : Int) : List Int × Bool := if chk xs k = 0 then nxt k xs xs.length else ([], false)

/-- The list when the symbols from the place j on have been set to 0. -/
def tail0 (xs : List Int) (j : Nat) : List Int := xs.take j ++ List.replicate (xs.length - j) 0

theorem tail0_len (xs : List Int) {j : Nat} (h : j ≤ xs.length) : (tail0 xs j).length = xs.length := by unfold tail0; simp; omega
theorem tail0_full (xs : List Int) : tail0 xs xs.length = xs := by unfold tail0; simp
theorem tail0_none (xs : List Int) : tail0 xs 0 = List.replicate xs.length 0 := by unfold tail0; simp
theorem tail0_at {xs : List Int} {m : Nat} (h : m < xs.length) : (tail0 xs (m + 1)).getD m 0 = xs[m]?.getD 0 := by
  unfold tail0
  rw [List.getD, List.getElem?_append_left (by simp; omega), List.getElem?_take, if_pos (by omega)]
theorem tail0_step {xs : List Int} {m : Nat} (h : m < xs.length) : (tail0 xs (m + 1)).set m 0 = tail0 xs m := by
  unfold tail0
  apply List.ext_getElem?
  intro i
  grind
theorem tail0_bump {xs : List Int} {m : Nat} (h : m < xs.length) (u : Int) : (tail0 xs (m + 1)).set m u = (xs.take m ++ List.replicate (xs.length - m) 0).set m u := by
  have := tail0_step h
  have e : xs.take m ++ List.replicate (xs.length - m) 0 = tail0 xs m := rfl
  rw [e, ← this, List.set_set]

theorem nxt_up {k : Int} {xs : List Int} {m : Nat} (h : m < xs.length) (ht : xs[m]?.getD 0 < k - 1) : nxt k xs (m + 1) = ((tail0 xs (m + 1)).set m (xs[m]?.getD 0 + 1), true) := by
  rw [nxt, if_pos ht, tail0_bump h]
theorem nxt_on {k : Int} {xs : List Int} {m : Nat} (ht : ¬ xs[m]?.getD 0 < k - 1) : nxt k xs (m + 1) = nxt k xs m := by rw [nxt, if_neg ht]
theorem nxt_full {k : Int} {xs : List Int} (h : xs.length = 1024) : nxt k xs 0 = ([], false) := by rw [nxt, if_pos h]
theorem nxt_more {k : Int} {xs : List Int} (h : ¬ xs.length = 1024) : nxt k xs 0 = (tail0 xs 0 ++ [0], true) := by rw [nxt, if_neg h, tail0_none]

theorem nextV_bad {xs : List Int} {k : Int} (h : chk xs k ≠ 0) : nextV xs k = ([], false) := by unfold nextV; rw [if_neg h]
theorem nextV_ok {xs : List Int} {k : Int} (h : chk xs k = 0) : nextV xs k = nxt k xs xs.length := by unfold nextV; rw [if_pos h]

end Go.Proofs.YtakhphhpjcpphaaGreatDoor
end

section
/- word.Next. -/
namespace Go.Proofs.YtakhphhpjcpphaaGreatDoor
open Go.RowKit

set_option maxHeartbeats 1000000 in
theorem wnext (A : Option Addr) (n c : Nat) (k : Int) (xs : List Int) (w : World) (h : Ints w A n xs) :
    Calls Tryz.prog 38 #[.slice A n c, .int .i64 k] w fun e w' => ∃ v, e = .returned (.tuple #[v, .bool (nextV xs k).2]) ∧ Owned w' w.heap.size v (nextV xs k).1 ∧ Below w.heap.size w w' := by
  have L := Lib.hid h.1
  by_cases hc : chk xs k = 0
  · obtain ⟨k1, k2, l1, hs⟩ := chk_zero hc
    rw [L.out] at l1 hs
    have HN := Lib.hid (nextV_ok hc)
    have HC := Lib.hid hc
    clear hc
    go_enter Tryz.func38, Tryz.ntmps38
    go_wp2_with (first | (go_at_call 53; refine (wcheck _ _ _ _ xs _ h).mono ?_; rintro e w' ⟨rfl, rfl⟩; rw [HC.out]) | (go_at_call 37; refine (wjoin1 A n c xs w h).mono ?_; rintro e w1 ⟨A1, c1, rfl, hv, hbel⟩))
    have hv0 : Owned w1 w.heap.size (.slice A1 n c1) (tail0 xs n) := by rw [← L.out, tail0_full]; rw [L.out]; exact hv
    clear hv
    go_loopw [7] (fun i wr => ∃ (j : Nat) (i0 : Int), j ≤ n ∧ i0 = (j : Int) - 1 ∧ i = .int .i64 i0 ∧ Owned wr w.heap.size (.slice A1 n c1) (tail0 xs j) ∧ Below w.heap.size w wr ∧ nxt k xs j = nxt k xs n) (fun i _ => (intOf i + 1).toNat)
    case atStart => exact ⟨n, _, Nat.le_refl _, rfl, rfl, hv0, hbel, rfl⟩
    case round =>
      clear hv0 hbel
      obtain ⟨j, i0, hj, hi0, rfl, hown, hbr, hgo⟩ := hrel
      have HG := Lib.hid hgo
      clear hgo
      cases j with
      | succ m =>
        obtain rfl : i0 = (m : Int) := by omega
        clear hi0
        obtain ⟨g, hA, hg1, hg2, hfr⟩ := hown.head (by omega)
        subst hA
        have hI := hown.ints (by rw [tail0_len xs (by rw [L.out]; exact hj), L.out]; omega)
        obtain ⟨g', o', e, _, hcell⟩ := hI.at_ (k := m) (by omega)
        cases e
        rw [tail0_at (by rw [L.out]; omega), Nat.zero_add] at hcell
        have hfm := hfr m
        clear hfr hI
        obtain ⟨x1, x2⟩ := hs m (by omega)
        have x1 : 0 ≤ xs[m]?.getD 0 := by simpa using x1
        have x2 : xs[m]?.getD 0 < k := by simpa using x2
        by_cases ht : xs[m]?.getD 0 < k - 1
        · have hfin := Lib.hid (HG.out.symm.trans (nxt_up (by rw [L.out]; omega) ht))
          have hst := hown.stored m (xs[m]?.getD 0 + 1)
          go_wp2
          go_ret2
          refine ⟨.slice (some ⟨g, 0, none⟩) n c1, ?_, ?_, hbr.setCell (by exact hg1) _⟩
          · rw [HN.out, L.out, hfin.out]; rfl
          · rw [HN.out, L.out, hfin.out]; exact hst
        · have hnx := Lib.hid (nxt_on (k := k) (xs := xs) ht)
          have hst := hown.stored m 0
          rw [tail0_step (by rw [L.out]; omega)] at hst
          go_wp2
          go_roundw
          case rel => exact ⟨m, _, by omega, rfl, rfl, hst, hbr.setCell (by exact hg1) _, by rw [← hnx.out, HG.out]⟩
          case measure => simp [intOf]
      | zero =>
        obtain rfl : i0 = -1 := by omega
        clear hi0
        by_cases hf : n = 1024
        · have hfin := Lib.hid (HG.out.symm.trans (nxt_full (k := k) (xs := xs) (by rw [L.out]; exact hf)))
          have hq : ((n : Int) == 1024) = true := by simp; omega
          clear hf
          go_wp2
          go_ret2
          refine ⟨.slice none 0 0, ?_, ?_, hbr⟩
          · rw [HN.out, L.out, hfin.out]; rfl
          · rw [HN.out, L.out, hfin.out]; exact Owned.nil _ _
        · have hfin := Lib.hid (HG.out.symm.trans (nxt_more (k := k) (xs := xs) (by rw [L.out]; exact hf)))
          have hq : ((n : Int) == 1024) = false := by simp; omega
          have hbz : Below wr.heap.size wr (wr.alloc (.cells #[.int .i64 0] 3)) := (Below.refl _ _).alloc (Nat.le_refl _) _
          have hnew := Ints.new wr [0] #[.int .i64 0] 1 rfl rfl (by simp)
          obtain ⟨v', w', hr, ho', _, hbel'⟩ := run_append_ints _ _ _ _ _ _ _ 1 (hown.kept hbz) hnew (Nat.le_trans hbr.size hbz.size) (by rw [List.length_append, tail0_len xs (by omega), L.out]; simp; omega)
          clear hf
          go_wp2_with (at_builtin; refine Lib.wpList_append_run _ rfl _ _ _ _ rfl _ _ rfl rfl _ _ hr ?_)
          go_ret2
          refine ⟨v', ?_, ?_, (hbr.trans (hbz.mono hbr.size)).trans hbel'⟩
          · rw [HN.out, L.out, hfin.out]; rfl
          · rw [HN.out, L.out, hfin.out]; exact ho'
  · have hfin := Lib.hid (nextV_bad hc)
    have hb : (chk xs k != 0) = true := by simpa using hc
    clear hc
    go_enter Tryz.func38, Tryz.ntmps38
    go_wp2_with (go_at_call 53; refine (wcheck _ _ _ _ xs _ h).mono ?_; rintro e w' ⟨rfl, rfl⟩)
    go_ret2
    refine ⟨.slice none 0 0, ?_, ?_, Below.refl _ _⟩
    · rw [hfin.out]; rfl
    · rw [hfin.out]; exact Owned.nil _ _
end Go.Proofs.YtakhphhpjcpphaaGreatDoor
end

section
/- The words up to a length: what both loops compute. No program. -/
namespace Go.Proofs.YtakhphhpjcpphaaGreatDoor
open Go.RowKit

/-- The words from a state on, and the error; the fuel is what the list may still take. -/
def upto (k n : Int) : Nat → List (List Int) → List Int × Bool → List (List Int) × Int
  | 0, acc, s => if s.2 = true ∧ (s.1.length : Int) ≤ n then ([], 11) else (acc, 0)
  | f + 1, acc, s => if s.2 = true ∧ (s.1.length : Int) ≤ n then upto k n f (acc ++ [s.1]) (nextV s.1 k) else (acc, 0)
/-- What Upto returns. -/
def uptV (k n : Int) : List (List Int) × Int := if k < 1 ∨ 1024 < k ∨ n < 0 ∨ 1024 < n then ([], 2) else upto k n 10000 [] ([], true)
theorem uptV_bad {k n : Int} (h : k < 1 ∨ 1024 < k ∨ n < 0 ∨ 1024 < n) : uptV k n = ([], 2) := by unfold uptV; rw [if_pos h]
theorem uptV_ok {k n : Int} (h : ¬ (k < 1 ∨ 1024 < k ∨ n < 0 ∨ 1024 < n)) : uptV k n = upto k n 10000 [] ([], true) := by unfold uptV; rw [if_neg h]
theorem upto_end {k n : Int} {f : Nat} {acc : List (List Int)} {s : List Int × Bool} (h : ¬ (s.2 = true ∧ (s.1.length : Int) ≤ n)) : upto k n f acc s = (acc, 0) := by
  cases f <;> (unfold upto; rw [if_neg h])
theorem upto_full {k n : Int} {acc : List (List Int)} {s : List Int × Bool} (h : s.2 = true ∧ (s.1.length : Int) ≤ n) : upto k n 0 acc s = ([], 11) := by unfold upto; rw [if_pos h]
theorem upto_on {k n : Int} {f : Nat} {acc : List (List Int)} {s : List Int × Bool} (h : s.2 = true ∧ (s.1.length : Int) ≤ n) : upto k n (f + 1) acc s = upto k n f (acc ++ [s.1]) (nextV s.1 k) := by rw [upto, if_pos h]
end Go.Proofs.YtakhphhpjcpphaaGreatDoor
end

section
/- Upto of the program. -/
namespace Go.Proofs.YtakhphhpjcpphaaGreatDoor
open Go.RowKit Go.Shelf

/-- The words found so far, and the present one, which lies apart from them. -/
def UpS (w : World) (v u : Value) (acc : List (List Int)) (xs : List Int) (wr : World) : Prop :=
  ∃ w0, OwnW w0 w.heap.size v acc ∧ Below w0.heap.size w0 wr ∧ Owned wr w0.heap.size u xs ∧ Below w.heap.size w w0
theorem UpS.below {w wr : World} {v u : Value} {acc : List (List Int)} {xs : List Int} (h : UpS w v u acc xs wr) : Below w.heap.size w wr := by
  obtain ⟨w0, _, h2, _, h4⟩ := h
  exact h4.trans (h2.mono h4.size)
theorem UpS.words {w wr : World} {v u : Value} {acc : List (List Int)} {xs : List Int} (h : UpS w v u acc xs wr) : OwnW wr w.heap.size v acc := by
  obtain ⟨w0, h1, h2, _, _⟩ := h
  exact h1.kept h2
theorem UpS.cur {w wr : World} {v u : Value} {acc : List (List Int)} {xs : List Int} (h : UpS w v u acc xs wr) : Owned wr w.heap.size u xs := by
  obtain ⟨w0, _, _, h3, h4⟩ := h
  exact h3.lower h4.size
/-- The present word is appended. -/
theorem UpS.app {w wr : World} {v : Value} {B : Option Addr} {m d : Nat} {acc : List (List Int)} {xs : List Int} (h : UpS w v (.slice B m d) acc xs wr) (hl : acc.length < 1759218604441) :
    ∃ A c w', (Builtin.append_ #[22, 22] 22 #[v, .slice (some ⟨wr.heap.size, 0, none⟩) 1 1]).run Tryz.prog (wr.alloc (.cells #[.slice B m d] 23)) = .ok (.slice A (acc.length + 1) c) w' ∧
      OwnW w' w.heap.size (.slice A (acc.length + 1) c) (acc ++ [xs]) ∧ Below w.heap.size w w' ∧ Owned w' w.heap.size (.slice B m d) xs := by
  obtain ⟨w0, ⟨qs, h1, rfl⟩, h2, h3, h4⟩ := h
  rw [List.length_map] at hl ⊢
  have hk := h1.kept h2
  obtain ⟨A, c, w', hr, hrow, hg, hb⟩ := run_append_head (B := B) (m := m) (d := d) hk.1 xs (Nat.le_trans h4.size h2.size) hl
  have ho := h1.app h2 h3 h4.size hrow hg
  exact ⟨A, c, w', hr, ⟨_, ho, by rw [List.map_append]; rfl⟩, h4.trans ((h2.mono h4.size).trans hb), (ho.2.1 (.slice B m d, xs) (by simp))⟩

set_option maxHeartbeats 2000000 in
set_option maxRecDepth 100000 in
theorem pupto (k n : Int) (w : World) :
    Calls Tryz.prog 20 #[.int .i64 k, .int .i64 n] w fun e w' => ∃ v, e = .returned (.tuple #[v, .int .i64 (uptV k n).2]) ∧ OwnW w' w.heap.size v (uptV k n).1 ∧ Below w.heap.size w w' := by
  by_cases hbad : k < 1 ∨ 1024 < k ∨ n < 0 ∨ 1024 < n
  · have U := Lib.hid (uptV_bad hbad)
    by_cases h1 : k < 1
    · clear hbad
      go_enter Tryz.func20, Tryz.ntmps20
      go_wp2
      go_ret2
      exact ⟨_, by rw [U.out]; rfl, by rw [U.out]; exact ⟨[], OwnR.nil _ _, rfl⟩, Below.refl _ _⟩
    · have h1' : 1 ≤ k := by omega
      by_cases h2 : 1024 < k
      · clear hbad h1
        go_enter Tryz.func20, Tryz.ntmps20
        go_wp2
        go_ret2
        exact ⟨_, by rw [U.out]; rfl, by rw [U.out]; exact ⟨[], OwnR.nil _ _, rfl⟩, Below.refl _ _⟩
      · have h2' : k ≤ 1024 := by omega
        by_cases h3 : n < 0
        · clear hbad h1 h2
          go_enter Tryz.func20, Tryz.ntmps20
          go_wp2
          go_ret2
          exact ⟨_, by rw [U.out]; rfl, by rw [U.out]; exact ⟨[], OwnR.nil _ _, rfl⟩, Below.refl _ _⟩
        · have h3' : 0 ≤ n := by omega
          have h4 : 1024 < n := by omega
          clear hbad h1 h2 h3
          go_enter Tryz.func20, Tryz.ntmps20
          go_wp2
          go_ret2
          exact ⟨_, by rw [U.out]; rfl, by rw [U.out]; exact ⟨[], OwnR.nil _ _, rfl⟩, Below.refl _ _⟩
  · have U := Lib.hid (uptV_ok hbad)
    have k1 : 1 ≤ k := by omega
    have k2 : k ≤ 1024 := by omega
    have n1 : 0 ≤ n := by omega
    have n2 : n ≤ 1024 := by omega
    clear hbad
    go_enter Tryz.func20, Tryz.ntmps20
    go_wp2
    go_loopg [6, 7, 8] 10000 (fun gg v u b wr => ∃ (acc : List (List Int)) (xs : List Int) (bb : Bool), acc.length ≤ 10000 ∧ 10000 - acc.length ≤ gg ∧ b = .bool bb ∧ UpS w v u acc xs wr ∧ Hid (uptV k n = upto k n (10000 - acc.length) acc (xs, bb)))
    case atStart => exact ⟨[], [], true, by simp, by simp, rfl, ⟨w, ⟨[], OwnR.nil _ _, rfl⟩, Below.refl _ _, Owned.nil _ _, Below.refl _ _⟩, Lib.hid U.out⟩
    case round =>
      obtain ⟨acc, xs, bb, hal, hgg, rfl, hup, hu⟩ := hrel
      obtain ⟨Bu, du, eu⟩ := hup.cur.form
      subst eu
      obtain ⟨Av, cv, ev⟩ := hup.words.form
      subst ev
      have HUP := Lib.hid hup
      obtain ⟨mm, hmm⟩ : ∃ mm, mm = xs.length := ⟨_, rfl⟩
      obtain ⟨al, hal2⟩ : ∃ al, al = acc.length := ⟨_, rfl⟩
      rw [← hmm] at HUP ⊢
      rw [← hal2] at HUP hal hgg ⊢
      have MM := Lib.hid hmm
      have AL := Lib.hid hal2
      clear hup hmm hal2
      cases bb with
      | false =>
        have E := Lib.hid (show uptV k n = (acc, 0) by rw [hu.out, upto_end (by simp)])
        go_wp2
        go_ret2
        exact ⟨_, by rw [E.out]; rfl, by rw [E.out]; exact HUP.out.words, HUP.out.below⟩
      | true =>
        by_cases hle : (mm : Int) ≤ n
        · by_cases h10 : al = 10000
          · have E := Lib.hid (show uptV k n = ([], 11) by rw [hu.out, ← AL.out, h10, upto_full ⟨rfl, by rw [← MM.out]; exact hle⟩])
            have t10 : ((al : Int) == 10000) = true := by simp; omega
            clear h10
            go_wp2
            go_ret2
            exact ⟨_, by rw [E.out]; rfl, by rw [E.out]; exact ⟨[], OwnR.nil _ _, rfl⟩, HUP.out.below⟩
          · have t10 : ((al : Int) == 10000) = false := by simp; omega
            have E := Lib.hid (show uptV k n = upto k n (10000 - (al + 1)) (acc ++ [xs]) (nextV xs k) by
              rw [hu.out, ← AL.out, show 10000 - al = (10000 - (al + 1)) + 1 by omega, upto_on ⟨rfl, by rw [← MM.out]; exact hle⟩])
            obtain ⟨A2, c2, w2, hr, ho2, hb2, hc2⟩ := HUP.out.app (by rw [← AL.out]; omega)
            rw [← AL.out] at hr ho2
            have HO := Lib.hid ho2
            have HB := Lib.hid hb2
            have hcall := wnext Bu mm du k xs w2 (hc2.ints (by rw [← MM.out]; omega))
            have HC := Lib.hid hcall
            have a10 : al < 10000 := by omega
            clear ho2 hb2 hc2 hcall h10
            go_wp2_with (first | (at_builtin; refine Lib.wpList_append_run _ rfl _ _ _ _ rfl _ _ rfl rfl _ _ hr ?_) | fail)
            refine HC.out.mono ?_
            rintro e w3 ⟨u3, rfl, o3, b3⟩
            have O3 := Lib.hid o3
            have B3 := Lib.hid b3
            clear o3 b3
            go_wp2
            go_roundg (10000 - (al + 1))
            case measure => omega
            case rel => exact ⟨acc ++ [xs], _, _, by rw [List.length_append, ← AL.out]; simp; omega, by rw [List.length_append, ← AL.out]; simp, rfl, ⟨w2, HO.out, B3.out, O3.out, HB.out⟩, Lib.hid (by rw [E.out, List.length_append, ← AL.out]; rfl)⟩
        · have E := Lib.hid (show uptV k n = (acc, 0) by rw [hu.out, upto_end (by rintro ⟨_, h⟩; rw [← MM.out] at h; exact hle h)])
          go_wp2
          go_ret2
          exact ⟨_, by rw [E.out]; rfl, by rw [E.out]; exact HUP.out.words, HUP.out.below⟩
end Go.Proofs.YtakhphhpjcpphaaGreatDoor
end

section
/- The value of a word: its number in shortlex order; the word after it. No program. -/
namespace Go.Proofs.YtakhphhpjcpphaaGreatDoor
open Go.RowKit


/-- The number of the word whose symbols, the last one first, are r. -/
def valr (k : Int) : List Int → Int
  | [] => 0
  | x :: r => valr k r * k + x + 1

def val (k : Int) (xs : List Int) : Int := valr k xs.reverse

/-- All numbers are symbols of the size k. -/
def Sy (k : Int) (xs : List Int) : Prop := ∀ x ∈ xs, 0 ≤ x ∧ x < k

theorem Sy.of_syms {xs : List Int} {k : Int} (h : Syms xs k xs.length) : Sy k xs := fun x hx => by
  obtain ⟨i, hi, rfl⟩ := List.getElem_of_mem hx
  have := h i hi
  simpa [List.getD, hi] using this
theorem Sy.syms {xs : List Int} {k : Int} (h : Sy k xs) : Syms xs k xs.length := fun m hm => by
  have := h xs[m] (List.getElem_mem hm)
  simpa [List.getD, hm] using this
theorem Sy.rev {xs : List Int} {k : Int} (h : Sy k xs) : Sy k xs.reverse := fun x hx => h x (by simpa using hx)
theorem Sy.tail {x : Int} {xs : List Int} {k : Int} (h : Sy k (x :: xs)) : Sy k xs := fun y hy => h y (by simp [hy])
theorem Sy.head {x : Int} {xs : List Int} {k : Int} (h : Sy k (x :: xs)) : 0 ≤ x ∧ x < k := h x (by simp)

theorem valr_nonneg {k : Int} (hk : 1 ≤ k) {r : List Int} (h : Sy k r) : 0 ≤ valr k r := by
  induction r with
  | nil => simp [valr]
  | cons x r ih =>
    have h1 := ih h.tail
    have h2 := h.head
    have := Int.mul_nonneg h1 (show 0 ≤ k by omega)
    rw [valr]; omega

/-- Next, on the symbols from the last one on. -/
def succ (k : Int) : List Int → List Int
  | [] => [0]
  | x :: r => if x < k - 1 then (x + 1) :: r else 0 :: succ k r

theorem valr_succ {k : Int} {r : List Int} (h : Sy k r) : valr k (succ k r) = valr k r + 1 := by
  induction r with
  | nil => simp [succ, valr]
  | cons x r ih =>
    have h1 := ih h.tail
    have h2 := h.head
    rw [succ]
    split
    · simp [valr]; omega
    · have e : x = k - 1 := by omega
      rw [valr, valr, h1, e, Int.add_mul]; omega

theorem succ_sy {k : Int} (hk : 1 ≤ k) {r : List Int} (h : Sy k r) : Sy k (succ k r) := by
  induction r with
  | nil => intro x hx; simp [succ] at hx; omega
  | cons x r ih =>
    have h1 := ih h.tail
    have h2 := h.head
    rw [succ]
    split
    · intro y hy
      rcases List.mem_cons.1 hy with e | e
      · omega
      · exact h.tail y e
    · intro y hy
      rcases List.mem_cons.1 hy with e | e
      · omega
      · exact h1 y e

theorem succ_len (k : Int) (r : List Int) : (succ k r).length ≤ r.length + 1 := by
  induction r with
  | nil => simp [succ]
  | cons x r ih => rw [succ]; split <;> simp <;> omega

theorem nxt_succ {k : Int} {xs : List Int} (hl : xs.length ≠ 1024) (i : Nat) (hi : i ≤ xs.length) :
    nxt k xs i = ((succ k (xs.take i).reverse).reverse ++ List.replicate (xs.length - i) 0, true) := by
  induction i with
  | zero => rw [nxt, if_neg hl]; simp [succ, ← List.replicate_succ, ← List.replicate_succ']
  | succ i ih =>
    have hlt : i < xs.length := by omega
    have ht : (xs.take (i + 1)).reverse = xs[i]?.getD 0 :: (xs.take i).reverse := by
      rw [List.take_succ_eq_append_getElem hlt, List.reverse_append]; simp [hlt]
    rw [nxt, ht, succ]
    by_cases hc : xs[i]?.getD 0 < k - 1
    · rw [if_pos hc, if_pos hc]
      congr 1
      apply List.ext_getElem?
      intro m
      grind
    · rw [if_neg hc, if_neg hc, ih (by omega)]
      congr 1
      rw [List.reverse_cons, List.append_assoc]
      congr 1
      rw [show xs.length - i = (xs.length - (i + 1)) + 1 by omega, List.replicate_succ]; rfl

theorem next_succ {k : Int} {xs : List Int} (hl : xs.length ≤ 300) : nxt k xs xs.length = ((succ k xs.reverse).reverse, true) := by
  rw [nxt_succ (by omega) _ (Nat.le_refl _)]; simp

/-- The number of the first word of the length n. -/
def lo (k : Int) : Nat → Int
  | 0 => 0
  | n + 1 => lo k n * k + 1

theorem lo_pow (k : Int) (n : Nat) : lo k (n + 1) = lo k n + k ^ n := by
  induction n with
  | zero => simp [lo]
  | succ n ih =>
    have h1 : lo k (n + 1 + 1) = lo k (n + 1) * k + 1 := rfl
    have h2 : lo k (n + 1) = lo k n * k + 1 := rfl
    rw [h1, ih, Int.add_mul, Int.pow_succ]
    rw [h2] at ih
    omega

theorem pow_pos' {k : Int} (hk : 1 ≤ k) (n : Nat) : 1 ≤ k ^ n := by
  induction n with
  | zero => simp
  | succ n ih =>
    rw [Int.pow_succ]
    have := Int.mul_le_mul_of_nonneg_left hk (show 0 ≤ k ^ n by omega)
    omega

theorem lo_mono {k : Int} (hk : 1 ≤ k) {n m : Nat} (h : n ≤ m) : lo k n ≤ lo k m := by
  induction m with
  | zero => obtain rfl : n = 0 := by omega
            exact Int.le_refl _
  | succ m ih =>
    by_cases e : n = m + 1
    · rw [e]; exact Int.le_refl _
    · have := ih (by omega)
      have := lo_pow k m
      have := pow_pos' hk m
      omega

theorem valr_snoc (k : Int) (r : List Int) (x : Int) : valr k (r ++ [x]) = (x + 1) * k ^ r.length + valr k r := by
  induction r with
  | nil => simp [valr]
  | cons y r ih =>
    rw [List.cons_append, valr, ih, valr, List.length_cons, Int.pow_succ, Int.add_mul, Int.mul_assoc]
    omega

theorem val_cons (k : Int) (x : Int) (xs : List Int) : val k (x :: xs) = (x + 1) * k ^ xs.length + val k xs := by
  unfold val; rw [List.reverse_cons, valr_snoc, List.length_reverse]

theorem val_bd {k : Int} (hk : 1 ≤ k) {xs : List Int} (h : Sy k xs) : lo k xs.length ≤ val k xs ∧ val k xs < lo k (xs.length + 1) := by
  induction xs with
  | nil => simp [val, valr, lo]
  | cons x xs ih =>
    have h1 := ih h.tail
    have hx := h.head
    have hp := pow_pos' hk xs.length
    have e1 := lo_pow k xs.length
    have e2 := lo_pow k (xs.length + 1)
    rw [val_cons, List.length_cons]
    have m1 : 1 * k ^ xs.length ≤ (x + 1) * k ^ xs.length := Int.mul_le_mul_of_nonneg_right (by omega) (by omega)
    have m2 : (x + 1) * k ^ xs.length ≤ k * k ^ xs.length := Int.mul_le_mul_of_nonneg_right (by omega) (by omega)
    have m3 : k * k ^ xs.length = k ^ (xs.length + 1) := by rw [Int.pow_succ, Int.mul_comm]
    omega


theorem upto_over {k n : Int} (k1 : 1 ≤ k) (k2 : k ≤ 1024) (n0 : 0 ≤ n) (n1 : n ≤ 300) : ∀ (f : Nat) (acc : List (List Int)) (xs : List Int), Sy k xs → val k xs + f < lo k (n.toNat + 1) → upto k n f acc (xs, true) = ([], 11) := by
  intro f
  induction f with
  | zero =>
    intro acc xs h hv
    refine upto_full ⟨rfl, ?_⟩
    show (xs.length : Int) ≤ n
    rcases Int.lt_or_le n xs.length with hlt | hle
    · have h1 := (val_bd k1 h).1
      have h2 := lo_mono k1 (show n.toNat + 1 ≤ xs.length by omega)
      omega
    · exact hle
  | succ f ih =>
    intro acc xs h hv
    have hle : (xs.length : Int) ≤ n := by
      rcases Int.lt_or_le n xs.length with hlt | hle
      · have h1 := (val_bd k1 h).1
        have h2 := lo_mono k1 (show n.toNat + 1 ≤ xs.length by omega)
        omega
      · exact hle
    rw [upto_on ⟨rfl, hle⟩]
    have hc : chk xs k = 0 := chk_ok ⟨k1, k2⟩ (by omega) h.syms
    have hn : nextV xs k = ((succ k xs.reverse).reverse, true) := by rw [nextV_ok hc, next_succ (by omega)]
    show upto k n f (acc ++ [xs]) (nextV xs k) = _
    rw [hn]
    refine ih _ _ ?_ ?_
    · exact (succ_sy k1 h.rev).rev
    · have : val k (succ k xs.reverse).reverse = val k xs + 1 := by
        unfold val
        rw [List.reverse_reverse, valr_succ h.rev]
      rw [this]
      push_cast at hv
      omega
theorem upto13 : (uptV 2 13).2 = 11 := by
  rw [uptV_ok (by omega), upto_over (by omega) (by omega) (by omega) (by omega) 10000 [] [] (fun x hx => absurd hx (by simp)) (by decide +kernel)]
theorem upto2 : (uptV 2 2).2 = 0 ∧ (uptV 2 2).1.length = 7 := by decide +kernel
end Go.Proofs.YtakhphhpjcpphaaGreatDoor
end

section
/- Lists of words that literals make. -/
namespace Go.Proofs.YtakhphhpjcpphaaGreatDoor
open Go.RowKit

/-- The words' cells, one block each. -/
def litA (W : World) : List (List Int) → World
  | [] => W
  | x :: r => litA (W.alloc (.cells (lit x) 3)) r
/-- Their headers, from block b on. -/
def litH (b : Nat) : List (List Int) → List Value
  | [] => []
  | x :: r => .slice (some ⟨b, 0, none⟩) x.length x.length :: litH (b + 1) r
/-- The world with the list's own cells. -/
def litL (W : World) (b : Nat) (xss : List (List Int)) : World := (litA W xss).alloc (.cells (litH b xss).toArray 23)
theorem litA_below (W : World) (xss : List (List Int)) : Below W.heap.size W (litA W xss) := by
  induction xss generalizing W with
  | nil => exact Below.refl _ _
  | cons x r ih => exact (alloc_below W _).trans ((ih _).mono (by simp))
theorem litA_size (W : World) (xss : List (List Int)) : (litA W xss).heap.size = W.heap.size + xss.length := by
  induction xss generalizing W with
  | nil => rfl
  | cons x r ih =>
    show (litA (W.alloc (.cells (lit x) 3)) r).heap.size = _
    rw [ih]; simp; omega
theorem litH_len (b : Nat) (xss : List (List Int)) : (litH b xss).length = xss.length := by
  induction xss generalizing b with
  | nil => rfl
  | cons x r ih => simp [litH, ih]
theorem litH_get (b : Nat) (xss : List (List Int)) (j : Nat) (hj : j < xss.length) : (litH b xss)[j]? = some (.slice (some ⟨b + j, 0, none⟩) (xss.getD j []).length (xss.getD j []).length) := by
  induction xss generalizing b j with
  | nil => simp at hj
  | cons x r ih =>
    cases j with
    | zero => simp [litH]
    | succ j =>
      have := ih (b + 1) j (by simpa using hj)
      simp only [litH, List.getElem?_cons_succ, this]
      rw [show b + 1 + j = b + (j + 1) by omega]
      simp
theorem litA_ints (W : World) (xss : List (List Int)) (j : Nat) (hj : j < xss.length) (hl : ∀ x, x ∈ xss → x.length ≤ 1000) : Ints (litA W xss) (some ⟨W.heap.size + j, 0, none⟩) (xss.getD j []).length (xss.getD j []) := by
  induction xss generalizing W j with
  | nil => simp at hj
  | cons x r ih =>
    cases j with
    | zero =>
      have h := Ints.new W x (lit x) x.length rfl rfl (by have := hl x List.mem_cons_self; omega)
      have hb := litA_below (W.alloc (.cells (lit x) 3)) r
      exact h.below hb
    | succ j =>
      have := ih (W.alloc (.cells (lit x) 3)) j (by simpa using hj) (fun y hy => hl y (List.mem_cons_of_mem _ hy))
      have e : (W.alloc (.cells (lit x) 3)).heap.size + j = W.heap.size + (j + 1) := by simp; omega
      rw [e] at this
      show Ints (litA (W.alloc (.cells (lit x) 3)) r) _ ((x :: r).getD (j + 1) []).length ((x :: r).getD (j + 1) [])
      simpa using this
theorem litL_below (W : World) (b : Nat) (xss : List (List Int)) : Below W.heap.size W (litL W b xss) := (litA_below W xss).trans ((alloc_below _ _).mono (litA_below W xss).size)
theorem litL_size (W : World) (b : Nat) (xss : List (List Int)) : (litL W b xss).heap.size = W.heap.size + xss.length + 1 := by
  show ((litA W xss).alloc _).heap.size = _
  simp [litA_size]
theorem litL_lists (W : World) (b : Nat) (xss : List (List Int)) (n : Nat) (hb : W.heap.size = b) (hn : n = xss.length) (hl : ∀ x, x ∈ xss → x.length ≤ 1000) (hm : xss.length ≤ 1000) : ListsC (litL W b xss) (some ⟨b + n, 0, none⟩) n xss := by
  subst hn hb
  have hb := alloc_below (litA W xss) (.cells (litH W.heap.size xss).toArray 23)
  refine ⟨rfl, by omega, fun _ => ⟨W.heap.size + xss.length, 0, rfl, ?_, fun j hj => ?_⟩⟩
  · show W.heap.size + xss.length < ((litA W xss).alloc _).heap.size
    simp [litA_size]
  · refine ⟨_, _, _, ?_, Nat.le_refl _, (litA_ints W xss j hj hl).below hb⟩
    have := cell_of_row (litL W W.heap.size xss) (W.heap.size + xss.length) j (litH W.heap.size xss).toArray 23 (0, 0) (by
      have := heap_alloc_new (litA W xss) (.cells (litH W.heap.size xss).toArray 23)
      rw [litA_size] at this
      exact this)
    rw [Nat.zero_add, this]
    simpa using litH_get W.heap.size xss j hj
end Go.Proofs.YtakhphhpjcpphaaGreatDoor
end

section
/- awake: the chapter's examples. -/
namespace Go.Proofs.YtakhphhpjcpphaaGreatDoor
open Go.RowKit Go.Shelf

theorem sz1 : (sw (maxS [[1, 0], [], [1], [1, 0]])).length = 1 ∧ symS (sw (maxS [[1, 0], [], [1], [1, 0]])) = 2 := by decide +kernel
theorem pr1 : prodE [[], [0]] [[0], [1]] = 0 ∧ prodW [[], [0]] [[0], [1]] = [[0], [1], [0, 0], [0, 1]] := by decide +kernel
theorem so1 : sw [[1, 0], [], [1], [1, 0]] = [[], [1], [1, 0]] := by decide +kernel
theorem mx1 : sw (maxS [[1, 0], [], [1], [1, 0]]) = [[1, 0]] := by decide +kernel
theorem su1 : sw (sufS [[0, 1]]) = [[], [1], [0, 1]] := by decide +kernel
theorem un1 : sw ([[[1, 0], [], [1], [1, 0]], [[0]]] : List (List (List Int))).flatten = [[], [0], [1], [1, 0]] := by decide +kernel
theorem in641 : ∀ x, x ∈ ([[], [0]] : List (List Int)) → In64 x := by unfold In64; decide
theorem in642 : ∀ x, x ∈ ([[0], [1]] : List (List Int)) → In64 x := by unfold In64; decide
/-- Reading calls and calls that make memory, one after the other. -/
theorem bl {a b c d : World} (h : Below a.heap.size a b) (hl : Below b.heap.size b c) (hc : Below c.heap.size c d) : Below a.heap.size a d := bt (bt h hl) hc

/-- A list of two lists of words, as a literal makes it. -/
theorem Lists3.two (W : World) (b : Nat) (A B : Option Addr) (n c m d : Nat) (x y : List (List Int)) (hb : W.heap.size = b) (h : ListsC W A n x) (k : ListsC W B m y) (h1 : n ≤ c) (h2 : m ≤ d) :
    Lists3 (W.alloc (.cells #[.slice A n c, .slice B m d] 22)) (some ⟨b, 0, none⟩) 2 [x, y] := by
  subst hb
  have hb := alloc_below W (.cells #[.slice A n c, .slice B m d] 22)
  refine ⟨rfl, by omega, fun _ => ⟨W.heap.size, 0, rfl, by simp, fun j hj => ?_⟩⟩
  have hc := cell_of_row (W.alloc (.cells #[.slice A n c, .slice B m d] 22)) W.heap.size j #[.slice A n c, .slice B m d] 22 (0, 0) (heap_alloc_new W _)
  rw [Nat.zero_add, hc]
  match j, hj with
  | 0, _ => exact ⟨A, n, c, rfl, h1, h.below hb⟩
  | 1, _ => exact ⟨B, m, d, rfl, h2, k.below hb⟩

set_option maxHeartbeats 8000000 in
set_option maxRecDepth 100000 in
theorem awake (w : World) (T : Lib.TabBelow Tryz.prog w.heap.size w "internal/strconv.uint64pow10" .u64 Lib.pow10Tab) :
    Calls Tryz.prog 5 #[] w fun e w' => e = .returned (.bool true) ∧ Below w.heap.size w w' := by
  have TT := Lib.hid T
  clear T
  have L0 := Lib.hid (litL_lists w w.heap.size [[1, 0], [], [1], [1, 0]] 4 rfl rfl (by decide) (by decide))
  have B0 := Lib.hid (litL_below w w.heap.size [[1, 0], [], [1], [1, 0]])
  go_enter Tryz.func5, Tryz.ntmps5
  go_wp2_with fail
  refine (pSize _ _ _ _ 2 [[1, 0], [], [1], [1, 0]] L0.out (by decide) (by decide)).mono ?_
  rintro e w1 ⟨he, b1⟩
  rw [sz1.1, sz1.2] at he
  subst he
  have B1 := Lib.hid (show Below w.heap.size w w1 from bt B0.out b1)
  have L1 := Lib.hid (show ListsC w1 (some ⟨w.heap.size + 4, 0, none⟩) 4 [[1, 0], [], [1], [1, 0]] from L0.out.below b1)
  clear b1
  -- Product of two literals
  have PA := Lib.hid (litL_lists w1 w1.heap.size [[], [0]] 2 rfl rfl (by decide) (by decide))
  have BA := Lib.hid (litL_below w1 w1.heap.size [[], [0]])
  have SA := Lib.hid (litL_size w1 w1.heap.size [[], [0]])
  have PB := Lib.hid (litL_lists (litL w1 w1.heap.size [[], [0]]) (w1.heap.size + 3) [[0], [1]] 2 SA.out rfl (by decide) (by decide))
  have BB := Lib.hid (litL_below (litL w1 w1.heap.size [[], [0]]) (w1.heap.size + 3) [[0], [1]])
  have BAB := Lib.hid (bt BA.out BB.out)
  go_wp2_with fail
  refine (pproduct _ _ _ _ _ _ _ [[], [0]] [[0], [1]] (PA.out.below BB.out) PB.out in641 in642 (by decide) (by decide) (tab_at TT.out (bt B1.out BAB.out))).mono ?_
  rintro e w2 ⟨v2, he, o2, b2⟩
  rw [pr1.1] at he
  subst he
  rw [pr1.2] at o2
  have B2 := Lib.hid (show Below w.heap.size w w2 from bl B1.out BAB.out b2)
  have L2 := Lib.hid (show ListsC w2 (some ⟨w.heap.size + 4, 0, none⟩) 4 [[1, 0], [], [1], [1, 0]] from (L1.out.below BAB.out).below b2)
  obtain ⟨A2, c2, e2⟩ := o2.form
  subst e2
  have P2 := Lib.hid (show ListsC w2 A2 4 [[0], [1], [0, 0], [0, 1]] from o2.lists (by decide) (by decide))
  clear b2 o2 PA BA SA PB BB BAB L1 L0 B0 B1
  go_wp2_with fail
  refine (pupto 2 2 w2).mono ?_
  rintro e w3 ⟨v3, he, o3, b3⟩
  rw [upto2.1] at he
  subst he
  obtain ⟨A3, c3, e3⟩ := o3.form
  rw [upto2.2] at e3
  subst e3
  have B3 := Lib.hid (bt B2.out b3)
  have L3 := Lib.hid (L2.out.below b3)
  have P3 := Lib.hid (P2.out.below b3)
  clear b3 o3 L2 P2 B2
  go_wp2_with fail
  refine (pupto 2 13 w3).mono ?_
  rintro e w4 ⟨v4, he, _, b4⟩
  rw [upto13] at he
  subst he
  have B4 := Lib.hid (bt B3.out b4)
  have L4 := Lib.hid (L3.out.below b4)
  have P4 := Lib.hid (P3.out.below b4)
  clear b4 L3 P3 B3
  go_wp2_with fail
  refine (psorted w4 _ _ _ _ L4.out (by decide)).mono ?_
  rintro e w5 ⟨v5, rfl, o5, b5⟩
  rw [so1] at o5
  obtain ⟨A5, c5, e5⟩ := o5.form
  subst e5
  have B5 := Lib.hid (bt B4.out b5)
  have L5 := Lib.hid (L4.out.below b5)
  have P5 := Lib.hid (P4.out.below b5)
  have S5 := Lib.hid (show ListsC w5 A5 3 [[], [1], [1, 0]] from o5.lists (by decide) (by decide))
  clear b5 o5 L4 P4 B4
  have X5 := Lib.hid (litL_lists w5 w5.heap.size [[], [1], [1, 0]] 3 rfl rfl (by decide) (by decide))
  have Y5 := Lib.hid (litL_below w5 w5.heap.size [[], [1], [1, 0]])
  go_wp2_with fail
  refine (rsameWords _ _ _ _ _ _ [[], [1], [1, 0]] [[], [1], [1, 0]] true _ (S5.out.below Y5.out).lists X5.out.lists (by decide)).mono ?_
  rintro e w6 ⟨rfl, b6⟩
  have B6 := Lib.hid (show Below w.heap.size w w6 from bl B5.out Y5.out (rd_below b6))
  have L6 := Lib.hid (show ListsC w6 (some ⟨w.heap.size + 4, 0, none⟩) 4 [[1, 0], [], [1], [1, 0]] from (L5.out.below Y5.out).below (rd_below b6))
  have P6 := Lib.hid (show ListsC w6 A2 4 [[0], [1], [0, 0], [0, 1]] from (P5.out.below Y5.out).below (rd_below b6))
  clear b6 S5 X5 Y5 L5 P5 B5
  go_wp2_with fail
  refine (pMaximal w6 _ _ _ _ L6.out (by decide)).mono ?_
  rintro e w7 ⟨v7, rfl, o7, b7⟩
  rw [mx1] at o7
  obtain ⟨A7, c7, e7⟩ := o7.form
  subst e7
  have B7 := Lib.hid (bt B6.out b7)
  have L7 := Lib.hid (L6.out.below b7)
  have P7 := Lib.hid (P6.out.below b7)
  have S7 := Lib.hid (show ListsC w7 A7 1 [[1, 0]] from o7.lists (by decide) (by decide))
  clear b7 o7 L6 P6 B6
  have X7 := Lib.hid (litL_lists w7 w7.heap.size [[1, 0]] 1 rfl rfl (by decide) (by decide))
  have Y7 := Lib.hid (litL_below w7 w7.heap.size [[1, 0]])
  go_wp2_with fail
  refine (rsameWords _ _ _ _ _ _ [[1, 0]] [[1, 0]] true _ (S7.out.below Y7.out).lists X7.out.lists (by decide)).mono ?_
  rintro e w8 ⟨rfl, b8⟩
  have B8 := Lib.hid (show Below w.heap.size w w8 from bl B7.out Y7.out (rd_below b8))
  have L8 := Lib.hid (show ListsC w8 (some ⟨w.heap.size + 4, 0, none⟩) 4 [[1, 0], [], [1], [1, 0]] from (L7.out.below Y7.out).below (rd_below b8))
  have P8 := Lib.hid (show ListsC w8 A2 4 [[0], [1], [0, 0], [0, 1]] from (P7.out.below Y7.out).below (rd_below b8))
  clear b8 S7 X7 Y7 L7 P7 B7
  have X8 := Lib.hid (litL_lists w8 w8.heap.size [[0, 1]] 1 rfl rfl (by decide) (by decide))
  have Y8 := Lib.hid (litL_below w8 w8.heap.size [[0, 1]])
  go_wp2_with fail
  refine (pSuffixes _ _ _ _ 2 [[0, 1]] X8.out (by decide) (by decide) (by decide)).mono ?_
  rintro e w9 ⟨v9, rfl, o9, b9⟩
  rw [su1] at o9
  obtain ⟨A9, c9, e9⟩ := o9.form
  subst e9
  have B9 := Lib.hid (show Below w.heap.size w w9 from bl B8.out Y8.out b9)
  have L9 := Lib.hid (show ListsC w9 (some ⟨w.heap.size + 4, 0, none⟩) 4 [[1, 0], [], [1], [1, 0]] from (L8.out.below Y8.out).below b9)
  have P9 := Lib.hid (show ListsC w9 A2 4 [[0], [1], [0, 0], [0, 1]] from (P8.out.below Y8.out).below b9)
  have S9 := Lib.hid (show ListsC w9 A9 3 [[], [1], [0, 1]] from o9.lists (by decide) (by decide))
  clear b9 o9 X8 Y8 L8 P8 B8
  have X9 := Lib.hid (litL_lists w9 w9.heap.size [[], [1], [0, 1]] 3 rfl rfl (by decide) (by decide))
  have Y9 := Lib.hid (litL_below w9 w9.heap.size [[], [1], [0, 1]])
  go_wp2_with fail
  refine (rsameWords _ _ _ _ _ _ [[], [1], [0, 1]] [[], [1], [0, 1]] true _ (S9.out.below Y9.out).lists X9.out.lists (by decide)).mono ?_
  rintro e w10 ⟨rfl, b10⟩
  have B10 := Lib.hid (show Below w.heap.size w w10 from bl B9.out Y9.out (rd_below b10))
  have L10 := Lib.hid (show ListsC w10 (some ⟨w.heap.size + 4, 0, none⟩) 4 [[1, 0], [], [1], [1, 0]] from (L9.out.below Y9.out).below (rd_below b10))
  have P10 := Lib.hid (show ListsC w10 A2 4 [[0], [1], [0, 0], [0, 1]] from (P9.out.below Y9.out).below (rd_below b10))
  clear b10 S9 X9 Y9 L9 P9 B9
  have X10 := Lib.hid (litL_lists w10 w10.heap.size [[0], [1], [0, 0], [0, 1]] 4 rfl rfl (by decide) (by decide))
  have Y10 := Lib.hid (litL_below w10 w10.heap.size [[0], [1], [0, 0], [0, 1]])
  go_wp2_with fail
  refine (rsameWords _ _ _ _ _ _ [[0], [1], [0, 0], [0, 1]] [[0], [1], [0, 0], [0, 1]] true _ (P10.out.below Y10.out).lists X10.out.lists (by decide)).mono ?_
  rintro e w11 ⟨rfl, b11⟩
  have B11 := Lib.hid (show Below w.heap.size w w11 from bl B10.out Y10.out (rd_below b11))
  have L11 := Lib.hid (show ListsC w11 (some ⟨w.heap.size + 4, 0, none⟩) 4 [[1, 0], [], [1], [1, 0]] from (L10.out.below Y10.out).below (rd_below b11))
  clear b11 P10 X10 Y10 L10 B10
  have I11 := Lib.hid (Ints.new w11 [1] (lit [1]) 1 rfl rfl (by decide))
  have Y11 := Lib.hid (alloc_below w11 (.cells (lit [1]) 3))
  go_wp2_with fail
  refine (pHas _ _ _ _ _ _ _ [[1, 0], [], [1], [1, 0]] [1] true (L11.out.below Y11.out).lists I11.out (by decide)).mono ?_
  rintro e w12 ⟨rfl, b12⟩
  have B12 := Lib.hid (show Below w.heap.size w w12 from bl B11.out Y11.out b12)
  have L12 := Lib.hid (show ListsC w12 (some ⟨w.heap.size + 4, 0, none⟩) 4 [[1, 0], [], [1], [1, 0]] from (L11.out.below Y11.out).below b12)
  clear b12 I11 Y11 L11 B11
  have X12 := Lib.hid (litL_lists w12 w12.heap.size [[0]] 1 rfl rfl (by decide) (by decide))
  have Y12 := Lib.hid (litL_below w12 w12.heap.size [[0]])
  have Z12 := Lib.hid (Lists3.two (litL w12 w12.heap.size [[0]]) (w12.heap.size + 2) _ _ 4 4 1 1 _ _ (litL_size w12 w12.heap.size [[0]]) (L12.out.below Y12.out) X12.out (by decide) (by decide))
  have Y13 := Lib.hid (bt Y12.out (alloc_below (litL w12 w12.heap.size [[0]]) (.cells #[.slice (some ⟨w.heap.size + 4, 0, none⟩) 4 4, .slice (some ⟨w12.heap.size + 1, 0, none⟩) 1 1] 22)))
  go_wp2_with fail
  refine (pUnion _ _ _ _ _ Z12.out (by decide)).mono ?_
  rintro e w13 ⟨v13, rfl, o13, b13⟩
  rw [un1] at o13
  obtain ⟨A13, c13, e13⟩ := o13.form
  subst e13
  have B13 := Lib.hid (show Below w.heap.size w w13 from bl B12.out Y13.out b13)
  have S13 := Lib.hid (show ListsC w13 A13 4 [[], [0], [1], [1, 0]] from o13.lists (by decide) (by decide))
  clear b13 o13 X12 Y12 Z12 Y13 L12 B12
  have X13 := Lib.hid (litL_lists w13 w13.heap.size [[], [0], [1], [1, 0]] 4 rfl rfl (by decide) (by decide))
  have Y13 := Lib.hid (litL_below w13 w13.heap.size [[], [0], [1], [1, 0]])
  go_wp2_with fail
  refine (rsameWords _ _ _ _ _ _ [[], [0], [1], [1, 0]] [[], [0], [1], [1, 0]] true _ (S13.out.below Y13.out).lists X13.out.lists (by decide)).mono ?_
  rintro e w14 ⟨rfl, b14⟩
  have B14 := Lib.hid (show Below w.heap.size w w14 from bl B13.out Y13.out (rd_below b14))
  clear b14 S13 X13 Y13 B13
  go_wp2
  go_ret
  exact ⟨rfl, B14.out⟩
end Go.Proofs.YtakhphhpjcpphaaGreatDoor
end
