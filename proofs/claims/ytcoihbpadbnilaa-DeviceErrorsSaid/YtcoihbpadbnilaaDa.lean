/- Lemmas of the proofs of this seat, of the parts Base, Check, Mp, Fromp, Mix, Seal, Draw, Below, Dvp, Own, Join, Agrl, In, Ord, Same, Lits, Mach, Vald, Appo, Reachp, Reachm, Kept, OwnL, Trimp, Stepm, Runm, Fromm, Outsr, Trimm, Boxm, Dvb, Dva, Dvv, Rgnx, Dvr, Dve, Dvf. Conditions: none. -/
import Derived.WalkKit
import Derived.Lib.Hide
import Derived.Laws.Rows
import Derived.Deep.Draws
import Derived.Test.YtcoihbpadbnilaaProg
import Derived.WalkSpells
import Derived.WalkLawsBesides
import Derived.Outline
import Derived.Laws.BitsAllLaws
import Derived.Deep.AppendSrc
import Derived.Lib.AppendZeros
import Derived.BigQuiet
import Derived.Deep.QuietTactic
import Derived.RegionTactic
import Derived.BigRegion
import Derived.Lib.SliceRun
import Derived.Maps.AppendAt
import Derived.Deep.RegionLaw
import Derived.Deep.RegionHeld3
import Derived.StillTail
import Derived.Laws.Tables
import Derived.Laws.CopyOwn
import Derived.Deep.DeepCutAuto
section
/- A slice of ints that reads as a list. -/
namespace Go.Proofs.Ytcoihbpadbnilaa
open Go.RowKit

/-- The slice '.slice A n _' holds the numbers xs. -/
def Ints (w : World) (A : Option Addr) (n : Nat) (xs : List Int) : Prop :=
  xs.length = n ∧ n ≤ 17592186044416 ∧ (0 < n → ∃ b off, A = some ⟨b, off, none⟩ ∧ b < w.heap.size ∧ ∀ j, j < n → w.cell? ⟨b, off + j, none⟩ = some (.int .i64 (xs.getD j 0)))

theorem Ints.below {w w' : World} {A : Option Addr} {n : Nat} {xs : List Int} (h : Ints w A n xs) (hb : Below w.heap.size w w') : Ints w' A n xs :=
  ⟨h.1, h.2.1, fun hn => by
    obtain ⟨b, off, e, hlt, hc⟩ := h.2.2 hn
    exact ⟨b, off, e, Nat.lt_of_lt_of_le hlt hb.size, fun j hj => (hb.cell hlt).trans (hc j hj)⟩⟩

theorem Ints.drewN {w : World} {A : Option Addr} {n : Nat} {xs : List Int} (h : Ints w A n xs) (d : Nat) : Ints (w.drewN d) A n xs := h

theorem Ints.at_ {w : World} {A : Option Addr} {n : Nat} {xs : List Int} (h : Ints w A n xs) {k : Nat} (hk : k < n) :
    ∃ b off, A = some ⟨b, off, none⟩ ∧ b < w.heap.size ∧ w.cell? ⟨b, off + k, none⟩ = some (.int .i64 (xs.getD k 0)) := by
  obtain ⟨b, off, e, hlt, hc⟩ := h.2.2 (by omega)
  exact ⟨b, off, e, hlt, hc k hk⟩

theorem below_drewN {B : Nat} {w w' : World} (h : Below B w w') (d : Nat) : Below B w (w'.drewN d) := ⟨h.os, h.tape, h.output, h.size, h.block⟩

/-- A slice that a literal makes. -/
theorem Ints.new (w : World) (xs : List Int) (cs : Array Value) (n : Nat) (hcs : cs = (xs.map (Value.int .i64)).toArray) (hn : n = xs.length) (hm : xs.length ≤ 17592186044416) :
    Ints (w.alloc (.cells cs 3)) (some ⟨w.heap.size, 0, none⟩) n xs := by
  subst hcs hn
  refine ⟨rfl, hm, fun _ => ⟨w.heap.size, 0, rfl, by simp, fun j hj => ?_⟩⟩
  have h := cell_of_row (w.alloc (.cells (xs.map (Value.int .i64)).toArray 3)) w.heap.size j (xs.map (Value.int .i64)).toArray 3 (0, 0) (heap_alloc_new w _)
  rw [Nat.zero_add, h]
  simp [List.getD, hj]

theorem ret_int {k : IntKind} {a b : Int} (h : a = b) : Ending.returned (.int k a) = .returned (.int k b) := by rw [h]
end Go.Proofs.Ytcoihbpadbnilaa
end

section
/- The walks of Check, by the two texts. -/
namespace Go.Proofs.Ytcoihbpadbnilaa
open Go.RowKit

/-- The first j numbers are symbols of the size k. -/
def Syms (xs : List Int) (k : Int) (j : Nat) : Prop := ∀ m, m < j → 0 ≤ xs.getD m 0 ∧ xs.getD m 0 < k

instance (xs : List Int) (k : Int) (j : Nat) : Decidable (Syms xs k j) := by unfold Syms; exact inferInstance

theorem Syms.zero (xs : List Int) (k : Int) : Syms xs k 0 := fun m hm => absurd hm (by omega)
theorem Syms.succ {xs : List Int} {k : Int} {j : Nat} (h : Syms xs k j) (h0 : 0 ≤ xs.getD j 0) (h1 : xs.getD j 0 < k) : Syms xs k (j + 1) := fun m hm => by
  by_cases e : m = j
  · subst e; exact ⟨h0, h1⟩
  · exact h m (by omega)

/-- The error of Check. -/
def chk (xs : List Int) (k : Int) : Int :=
  if 1 ≤ k ∧ k ≤ 1024 then (if 1024 < xs.length then 3 else if Syms xs k xs.length then 0 else 1) else 2

theorem chk_range {xs : List Int} {k : Int} (h : ¬ (1 ≤ k ∧ k ≤ 1024)) : chk xs k = 2 := by unfold chk; rw [if_neg h]
theorem chk_long {xs : List Int} {k : Int} (h : 1 ≤ k ∧ k ≤ 1024) (hl : 1024 < xs.length) : chk xs k = 3 := by unfold chk; rw [if_pos h, if_pos hl]
theorem chk_ok {xs : List Int} {k : Int} (h : 1 ≤ k ∧ k ≤ 1024) (hl : ¬ 1024 < xs.length) (hs : Syms xs k xs.length) : chk xs k = 0 := by unfold chk; rw [if_pos h, if_neg hl, if_pos hs]
theorem chk_bad {xs : List Int} {k : Int} (h : 1 ≤ k ∧ k ≤ 1024) (hl : ¬ 1024 < xs.length) {j : Nat} (hj : j < xs.length) (hs : ¬ (0 ≤ xs.getD j 0 ∧ xs.getD j 0 < k)) : chk xs k = 1 := by
  unfold chk; rw [if_pos h, if_neg hl, if_neg fun H => hs (H j hj)]


theorem chk_zero {xs : List Int} {k : Int} (h : chk xs k = 0) : 1 ≤ k ∧ k ≤ 1024 ∧ xs.length ≤ 1024 ∧ Syms xs k xs.length := by
  unfold chk at h
  by_cases h1 : 1 ≤ k ∧ k ≤ 1024
  · rw [if_pos h1] at h
    by_cases h2 : 1024 < xs.length
    · rw [if_pos h2] at h; omega
    · rw [if_neg h2] at h
      by_cases h3 : Syms xs k xs.length
      · exact ⟨h1.1, h1.2, by omega, h3⟩
      · rw [if_neg h3] at h; omega
  · rw [if_neg h1] at h; omega

theorem wperm (k : Int) (b : Bool) (h : b = true ↔ (1 ≤ k ∧ k ≤ 1024)) (w : World) :
    Calls Try.prog 53 #[.int .i64 k] w fun e w' => e = .returned (.bool b) ∧ w = w' := by
  by_cases h1 : 1 ≤ k
  · by_cases h2 : k ≤ 1024
    · obtain rfl : b = true := h.2 ⟨h1, h2⟩
      go_enter Try.func53, Try.ntmps53
      go_wp2
      go_ret
      exact ⟨rfl, rfl⟩
    · obtain rfl : b = false := by cases b; rfl; exact absurd (h.1 rfl).2 h2
      go_enter Try.func53, Try.ntmps53
      go_wp2
      go_ret
      exact ⟨rfl, rfl⟩
  · obtain rfl : b = false := by cases b; rfl; exact absurd (h.1 rfl).1 h1
    go_enter Try.func53, Try.ntmps53
    go_wp2
    go_ret
    exact ⟨rfl, rfl⟩

theorem rsize (k : Int) (b : Bool) (h : b = true ↔ (1 ≤ k ∧ k ≤ 1024)) (w : World) :
    Calls Try.prog 48 #[.int .i64 k] w fun e w' => e = .returned (.bool b) ∧ w = w' := by
  by_cases h1 : 1 ≤ k
  · by_cases h2 : k ≤ 1024
    · obtain rfl : b = true := h.2 ⟨h1, h2⟩
      go_enter Try.func48, Try.ntmps48
      go_wp2
      go_ret
      exact ⟨rfl, rfl⟩
    · obtain rfl : b = false := by cases b; rfl; exact absurd (h.1 rfl).2 h2
      go_enter Try.func48, Try.ntmps48
      go_wp2
      go_ret
      exact ⟨rfl, rfl⟩
  · obtain rfl : b = false := by cases b; rfl; exact absurd (h.1 rfl).1 h1
    go_enter Try.func48, Try.ntmps48
    go_wp2
    go_ret
    exact ⟨rfl, rfl⟩

set_option maxHeartbeats 400000 in
theorem wcheck (A : Option Addr) (n c : Nat) (k : Int) (xs : List Int) (w : World) (h : Ints w A n xs) :
    Calls Try.prog 32 #[.slice A n c, .int .i64 k] w fun e w' => e = .returned (.int .i64 (chk xs k)) ∧ w = w' := by
  have hlen := h.1
  have hn := h.2.1
  by_cases hr : 1 ≤ k ∧ k ≤ 1024
  · have H1 := Lib.hid hr
    obtain ⟨h1, h2⟩ := hr
    by_cases hl : 1024 < n
    · have hfin := Lib.hid (chk_long (xs := xs) ⟨h1, h2⟩ (by omega))
      clear hlen
      go_enter Try.func32, Try.ntmps32
      go_wp2_with (go_at_call 53; refine (wperm k true (by simp; omega) _).mono ?_; rintro e w' ⟨rfl, rfl⟩)
      go_ret
      exact ⟨ret_int hfin.out.symm, rfl⟩
    · have hd : decide ((1024 : Int) < (n : Int)) = false := by simp; omega
      have hL := Lib.hid hlen
      clear hlen
      go_enter Try.func32, Try.ntmps32
      go_wp2_with (go_at_call 53; refine (wperm k true (by simp; omega) _).mono ?_; rintro e w' ⟨rfl, rfl⟩)
      go_loop [15] (fun i => ∃ j : Nat, j ≤ n ∧ i = .int .i64 j ∧ Syms xs k j) (fun i => n - (intOf i).toNat)
      case atStart => exact ⟨0, Nat.zero_le _, rfl, Syms.zero _ _⟩
      case round =>
        obtain ⟨j, hj, rfl, hs⟩ := hrel
        by_cases hlt : j < n
        · obtain ⟨b, off, rfl, hb, hc⟩ := h.at_ hlt
          by_cases hg : 0 ≤ xs[j]?.getD 0 ∧ xs[j]?.getD 0 < k
          · obtain ⟨g1, g2⟩ := hg
            have g3 : ¬ xs[j]?.getD 0 < 0 := by omega
            have hs' := hs.succ (by simpa using g1) (by simpa using g2)
            go_wp2
            go_round
            case rel => exact ⟨j + 1, by omega, by go_num, hs'⟩
            case measure => simp [intOf]; omega
          · have hbad := Lib.hid (chk_bad H1.out (by rw [hL.out]; exact hl) (by rw [hL.out]; exact hlt) (by simpa using hg))
            by_cases g1 : xs[j]?.getD 0 < 0
            · go_wp2
              go_ret
              exact ⟨ret_int hbad.out.symm, rfl⟩
            · have g2 : k ≤ xs[j]?.getD 0 := by omega
              have g0 : 0 ≤ xs[j]?.getD 0 := by omega
              clear hg
              go_wp2
              go_ret
              exact ⟨ret_int hbad.out.symm, rfl⟩
        · have hok := Lib.hid (chk_ok H1.out (by rw [hL.out]; exact hl) (by rw [hL.out]; exact (by omega : j = n) ▸ hs))
          go_wp2
          go_ret
          exact ⟨ret_int hok.out.symm, rfl⟩
  · have hbad := Lib.hid (chk_range (xs := xs) hr)
    go_enter Try.func32, Try.ntmps32
    go_wp2_with (go_at_call 53; refine (wperm k false (by simp; omega) _).mono ?_; rintro e w' ⟨rfl, rfl⟩)
    go_ret
    exact ⟨ret_int hbad.out.symm, rfl⟩

set_option maxHeartbeats 400000 in
theorem rcheck (A : Option Addr) (n c : Nat) (k : Int) (xs : List Int) (w : World) (h : Ints w A n xs) :
    Calls Try.prog 28 #[.slice A n c, .int .i64 k] w fun e w' => e = .returned (.int .i64 (chk xs k)) ∧ w = w' := by
  have hlen := h.1
  have hn := h.2.1
  by_cases hr : 1 ≤ k ∧ k ≤ 1024
  · have H1 := Lib.hid hr
    obtain ⟨h1, h2⟩ := hr
    by_cases hl : 1024 < n
    · have hfin := Lib.hid (chk_long (xs := xs) ⟨h1, h2⟩ (by omega))
      clear hlen
      go_enter Try.func28, Try.ntmps28
      go_wp2_with (go_at_call 48; refine (rsize k true (by simp; omega) _).mono ?_; rintro e w' ⟨rfl, rfl⟩)
      go_ret
      exact ⟨ret_int hfin.out.symm, rfl⟩
    · have hd : decide ((1024 : Int) < (n : Int)) = false := by simp; omega
      have hL := Lib.hid hlen
      clear hlen
      go_enter Try.func28, Try.ntmps28
      go_wp2_with (go_at_call 48; refine (rsize k true (by simp; omega) _).mono ?_; rintro e w' ⟨rfl, rfl⟩)
      go_loop [5] (fun i => ∃ j : Nat, j ≤ n ∧ i = .int .i64 j ∧ Syms xs k j) (fun i => n - (intOf i).toNat)
      case atStart => exact ⟨0, Nat.zero_le _, rfl, Syms.zero _ _⟩
      case round =>
        obtain ⟨j, hj, rfl, hs⟩ := hrel
        by_cases hlt : j < n
        · obtain ⟨b, off, rfl, hb, hc⟩ := h.at_ hlt
          by_cases hg : 0 ≤ xs[j]?.getD 0 ∧ xs[j]?.getD 0 < k
          · obtain ⟨g1, g2⟩ := hg
            have g3 : ¬ xs[j]?.getD 0 < 0 := by omega
            have hs' := hs.succ (by simpa using g1) (by simpa using g2)
            go_wp2
            go_round
            case rel => exact ⟨j + 1, by omega, by go_num, hs'⟩
            case measure => simp [intOf]; omega
          · have hbad := Lib.hid (chk_bad H1.out (by rw [hL.out]; exact hl) (by rw [hL.out]; exact hlt) (by simpa using hg))
            by_cases g1 : xs[j]?.getD 0 < 0
            · go_wp2
              go_ret
              exact ⟨ret_int hbad.out.symm, rfl⟩
            · have g2 : k ≤ xs[j]?.getD 0 := by omega
              have g0 : 0 ≤ xs[j]?.getD 0 := by omega
              clear hg
              go_wp2
              go_ret
              exact ⟨ret_int hbad.out.symm, rfl⟩
        · have hok := Lib.hid (chk_ok H1.out (by rw [hL.out]; exact hl) (by rw [hL.out]; exact (by omega : j = n) ▸ hs))
          go_wp2
          go_ret
          exact ⟨ret_int hok.out.symm, rfl⟩
  · have hbad := Lib.hid (chk_range (xs := xs) hr)
    go_enter Try.func28, Try.ntmps28
    go_wp2_with (go_at_call 48; refine (rsize k false (by simp; omega) _).mono ?_; rintro e w' ⟨rfl, rfl⟩)
    go_ret
    exact ⟨ret_int hbad.out.symm, rfl⟩
end Go.Proofs.Ytcoihbpadbnilaa
end

section
/- Mealy machines as lists: what is valid, executed, reached. -/
namespace Go.Proofs.Ytcoihbpadbnilaa

/-- The first number that is not 0 among f 0 .. f (k - 1). -/
def fstE (f : Nat → Int) : Nat → Int
  | 0 => 0
  | k + 1 => if fstE f k = 0 then f k else fstE f k
theorem fstE_ok {f : Nat → Int} : ∀ {k : Nat}, (∀ t, t < k → f t = 0) → fstE f k = 0
  | 0, _ => rfl
  | k + 1, h => by
    unfold fstE
    rw [if_pos (fstE_ok fun t ht => h t (by omega))]
    exact h k (by omega)
theorem fstE_bad {f : Nat → Int} {j : Nat} (h : ∀ t, t < j → f t = 0) (hj : f j ≠ 0) : ∀ {k : Nat}, j < k → fstE f k = f j
  | 0, hk => absurd hk (by omega)
  | k + 1, hk => by
    unfold fstE
    by_cases e : j = k
    · subst e; rw [if_pos (fstE_ok h)]
    · have := fstE_bad h hj (k := k) (by omega)
      rw [this, if_neg hj]
theorem fstE_zero {f : Nat → Int} : ∀ {k : Nat}, fstE f k = 0 → ∀ t, t < k → f t = 0
  | 0, _, t, ht => absurd ht (by omega)
  | k + 1, h, t, ht => by
    unfold fstE at h
    by_cases e : fstE f k = 0
    · rw [if_pos e] at h
      by_cases e2 : t = k
      · subst e2; exact h
      · exact fstE_zero e t (by omega)
    · rw [if_neg e] at h; exact absurd h e

/-- The first k transitions of a row are fine. -/
def RowOk (n : Int) (r o : List Int) (k : Nat) : Prop := ∀ m, m < k → 0 ≤ r.getD m 0 ∧ r.getD m 0 < n ∧ 0 ≤ o.getD m 0 ∧ o.getD m 0 ≤ 1048576
theorem RowOk.zero (n : Int) (r o : List Int) : RowOk n r o 0 := fun m h => absurd h (by omega)
theorem RowOk.succ {n : Int} {r o : List Int} {k : Nat} (h : RowOk n r o k) (h1 : 0 ≤ r.getD k 0) (h2 : r.getD k 0 < n) (h3 : 0 ≤ o.getD k 0) (h4 : o.getD k 0 ≤ 1048576) : RowOk n r o (k + 1) := fun m hm => by
  by_cases e : m = k
  · subst e; exact ⟨h1, h2, h3, h4⟩
  · exact h m (by omega)
instance (n : Int) (r o : List Int) (k : Nat) : Decidable (RowOk n r o k) := by unfold RowOk; exact inferInstance

/-- The error of a row. -/
def rowE (i n : Int) (r o : List Int) : Int :=
  if (r.length : Int) = i ∧ (o.length : Int) = i then (if RowOk n r o r.length then 0 else 2) else 1
theorem rowE_len {i n : Int} {r o : List Int} (h : ¬ ((r.length : Int) = i ∧ (o.length : Int) = i)) : rowE i n r o = 1 := by unfold rowE; rw [if_neg h]
theorem rowE_ok {i n : Int} {r o : List Int} (h : (r.length : Int) = i ∧ (o.length : Int) = i) (h2 : RowOk n r o r.length) : rowE i n r o = 0 := by unfold rowE; rw [if_pos h, if_pos h2]
theorem rowE_bad {i n : Int} {r o : List Int} (h : (r.length : Int) = i ∧ (o.length : Int) = i) {k : Nat} (hk : k < r.length) (h2 : ¬ (0 ≤ r.getD k 0 ∧ r.getD k 0 < n ∧ 0 ≤ o.getD k 0 ∧ o.getD k 0 ≤ 1048576)) : rowE i n r o = 2 := by
  unfold rowE; rw [if_pos h, if_neg fun H => h2 (H k hk)]
theorem rowE_zero {i n : Int} {r o : List Int} (h : rowE i n r o = 0) : (r.length : Int) = i ∧ (o.length : Int) = i ∧ RowOk n r o r.length := by
  unfold rowE at h
  by_cases h1 : (r.length : Int) = i ∧ (o.length : Int) = i
  · rw [if_pos h1] at h
    by_cases h2 : RowOk n r o r.length
    · exact ⟨h1.1, h1.2, h2⟩
    · rw [if_neg h2] at h; omega
  · rw [if_neg h1] at h; omega

/-- The error of the row s of a machine. -/
def rowAt (i : Int) (nx ot : List (List Int)) (s : Nat) : Int := rowE i nx.length (nx.getD s []) (ot.getD s [])

/-- The error of Valid. -/
def vld (i st : Int) (nx ot : List (List Int)) : Int :=
  if 1 ≤ i ∧ i ≤ 64 then
    (if nx.length = 0 then 19 else if 128 < nx.length then 11 else if 0 ≤ st ∧ st < nx.length then (if ot.length = nx.length then fstE (rowAt i nx ot) nx.length else 1) else 2)
  else 2
theorem vld_in {i st : Int} {nx ot : List (List Int)} (h : ¬ (1 ≤ i ∧ i ≤ 64)) : vld i st nx ot = 2 := by unfold vld; rw [if_neg h]
theorem vld_empty {i st : Int} {nx ot : List (List Int)} (h : 1 ≤ i ∧ i ≤ 64) (h0 : nx.length = 0) : vld i st nx ot = 19 := by unfold vld; rw [if_pos h, if_pos h0]
theorem vld_many {i st : Int} {nx ot : List (List Int)} (h : 1 ≤ i ∧ i ≤ 64) (h0 : 128 < nx.length) : vld i st nx ot = 11 := by unfold vld; rw [if_pos h, if_neg (by omega), if_pos h0]
theorem vld_start {i st : Int} {nx ot : List (List Int)} (h : 1 ≤ i ∧ i ≤ 64) (h0 : ¬ nx.length = 0) (h1 : ¬ 128 < nx.length) (h2 : ¬ (0 ≤ st ∧ st < nx.length)) : vld i st nx ot = 2 := by
  unfold vld; rw [if_pos h, if_neg h0, if_neg h1, if_neg h2]
theorem vld_out {i st : Int} {nx ot : List (List Int)} (h : 1 ≤ i ∧ i ≤ 64) (h0 : ¬ nx.length = 0) (h1 : ¬ 128 < nx.length) (h2 : 0 ≤ st ∧ st < nx.length) (h3 : ¬ ot.length = nx.length) : vld i st nx ot = 1 := by
  unfold vld; rw [if_pos h, if_neg h0, if_neg h1, if_pos h2, if_neg h3]
theorem vld_rows {i st : Int} {nx ot : List (List Int)} (h : 1 ≤ i ∧ i ≤ 64) (h0 : ¬ nx.length = 0) (h1 : ¬ 128 < nx.length) (h2 : 0 ≤ st ∧ st < nx.length) (h3 : ot.length = nx.length) : vld i st nx ot = fstE (rowAt i nx ot) nx.length := by
  unfold vld; rw [if_pos h, if_neg h0, if_neg h1, if_pos h2, if_pos h3]

/-- A machine of n states and i inputs is valid. -/
structure Mok (i st n : Nat) (nx ot : List (List Int)) : Prop where
  i1 : 1 ≤ i
  i2 : i ≤ 64
  n1 : 0 < n
  n2 : n ≤ 128
  st : st < n
  nxl : nx.length = n
  otl : ot.length = n
  row : ∀ s, s < n → (nx.getD s []).length = i ∧ (ot.getD s []).length = i ∧ ∀ a, a < i → 0 ≤ (nx.getD s []).getD a 0 ∧ (nx.getD s []).getD a 0 < n ∧ 0 ≤ (ot.getD s []).getD a 0 ∧ (ot.getD s []).getD a 0 ≤ 1048576

theorem vld_zero {i st : Int} {nx ot : List (List Int)} (h : vld i st nx ot = 0) : ∃ i' st' n : Nat, i = i' ∧ st = st' ∧ Mok i' st' n nx ot := by
  unfold vld at h
  by_cases h1 : 1 ≤ i ∧ i ≤ 64
  · rw [if_pos h1] at h
    by_cases h2 : nx.length = 0
    · rw [if_pos h2] at h; omega
    · rw [if_neg h2] at h
      by_cases h3 : 128 < nx.length
      · rw [if_pos h3] at h; omega
      · rw [if_neg h3] at h
        by_cases h4 : 0 ≤ st ∧ st < nx.length
        · rw [if_pos h4] at h
          by_cases h5 : ot.length = nx.length
          · rw [if_pos h5] at h
            refine ⟨i.toNat, st.toNat, nx.length, by omega, by omega, by omega, by omega, by omega, by omega, by omega, rfl, h5, fun s hs => ?_⟩
            obtain ⟨r1, r2, r3⟩ := rowE_zero (fstE_zero h s hs)
            exact ⟨by omega, by omega, fun a ha => r3 a (by omega)⟩
          · rw [if_neg h5] at h; omega
        · rw [if_neg h4] at h; omega
  · rw [if_neg h1] at h; omega

theorem Mok.vld {i st n : Nat} {nx ot : List (List Int)} (h : Mok i st n nx ot) : vld i st nx ot = 0 := by
  have h1 := h.i1; have h2 := h.i2; have h3 := h.n1; have h4 := h.n2; have h5 := h.st; have h6 := h.nxl; have h7 := h.otl
  rw [vld_rows (by omega) (by omega) (by omega) (by omega) (by omega)]
  refine fstE_ok fun t ht => rowE_ok ⟨?_, ?_⟩ fun m hm => ?_
  · have := (h.row t (by omega)).1; omega
  · have := (h.row t (by omega)).2.1; omega
  · have := (h.row t (by omega)).1
    have := (h.row t (by omega)).2.2 m (by omega)
    rw [h6]; exact this

/-- The next state, and the output. -/
def nN (nx : List (List Int)) (s a : Nat) : Nat := ((nx.getD s []).getD a 0).toNat
def oN (ot : List (List Int)) (s a : Nat) : Int := (ot.getD s []).getD a 0
theorem Mok.nN_lt {i st n : Nat} {nx ot : List (List Int)} (h : Mok i st n nx ot) {s a : Nat} (hs : s < n) (ha : a < i) : nN nx s a < n := by
  have := (h.row s hs).2.2 a ha; unfold nN; omega
theorem Mok.nN_eq {i st n : Nat} {nx ot : List (List Int)} (h : Mok i st n nx ot) {s a : Nat} (hs : s < n) (ha : a < i) : (nx.getD s []).getD a 0 = (nN nx s a : Int) := by
  have := (h.row s hs).2.2 a ha; unfold nN; omega

/-- The output word from a state, and the state after it. -/
def runO (nx ot : List (List Int)) : Nat → List Int → List Int
  | _, [] => []
  | s, x :: w => oN ot s x.toNat :: runO nx ot (nN nx s x.toNat) w
def runS (nx : List (List Int)) : Nat → List Int → Nat
  | s, [] => s
  | s, x :: w => runS nx (nN nx s x.toNat) w
theorem runO_append (nx ot : List (List Int)) : ∀ (u v : List Int) (s : Nat), runO nx ot s (u ++ v) = runO nx ot s u ++ runO nx ot (runS nx s u) v
  | [], _, _ => rfl
  | x :: u, v, s => by
    show oN ot s x.toNat :: runO nx ot (nN nx s x.toNat) (u ++ v) = _
    rw [runO_append nx ot u v]; rfl
theorem runS_append (nx : List (List Int)) : ∀ (u v : List Int) (s : Nat), runS nx s (u ++ v) = runS nx (runS nx s u) v
  | [], _, _ => rfl
  | x :: u, v, s => runS_append nx u v (nN nx s x.toNat)
theorem runO_len (nx ot : List (List Int)) : ∀ (u : List Int) (s : Nat), (runO nx ot s u).length = u.length
  | [], _ => rfl
  | x :: u, s => by
    show (runO nx ot (nN nx s x.toNat) u).length + 1 = u.length + 1
    rw [runO_len nx ot u]
theorem take_next {xs : List Int} {j : Nat} (h : j < xs.length) : xs.take (j + 1) = xs.take j ++ [xs[j]?.getD 0] := by
  rw [List.take_succ_eq_append_getElem h, List.getElem?_eq_getElem h]; rfl
theorem runO_next {nx ot : List (List Int)} {s j : Nat} {xs : List Int} (h : j < xs.length) : runO nx ot s (xs.take (j + 1)) = runO nx ot s (xs.take j) ++ [oN ot (runS nx s (xs.take j)) (xs[j]?.getD 0).toNat] := by
  rw [take_next h, runO_append]; rfl
theorem runS_next {nx : List (List Int)} {s j : Nat} {xs : List Int} (h : j < xs.length) : runS nx s (xs.take (j + 1)) = nN nx (runS nx s (xs.take j)) (xs[j]?.getD 0).toNat := by
  rw [take_next h, runS_append]; rfl
theorem Mok.runS_lt {i st n : Nat} {nx ot : List (List Int)} (h : Mok i st n nx ot) : ∀ (u : List Int) (s : Nat), s < n → (∀ x, x ∈ u → 0 ≤ x ∧ x < i) → runS nx s u < n
  | [], _, hs, _ => hs
  | x :: u, s, hs, hu => by
    have hx := hu x (by simp)
    exact h.runS_lt u _ (h.nN_lt hs (by omega)) fun y hy => hu y (by simp [hy])
theorem Syms.mem {xs : List Int} {k : Int} (h : Syms xs k xs.length) : ∀ x, x ∈ xs → 0 ≤ x ∧ x < k := by
  intro x hx
  obtain ⟨j, hj, rfl⟩ := List.getElem_of_mem hx
  have := h j hj
  simpa [List.getD, List.getElem?_eq_getElem hj] using this

/-- One row of a search: what is new is added at the end. -/
def addN (l : List Nat) (x : Nat) : List Nat := if x ∈ l then l else l ++ [x]
def addR (nx : List (List Int)) (s : Nat) (l : List Nat) : Nat → List Nat
  | 0 => l
  | a + 1 => addN (addR nx s l a) (nN nx s a)
/-- The search. -/
def bfs (nx : List (List Int)) (i : Nat) : Nat → List Nat → Nat → List Nat
  | 0, l, _ => l
  | k + 1, l, j => if j < l.length then bfs nx i k (addR nx (l.getD j 0) l i) (j + 1) else l
def rch (nx : List (List Int)) (i st : Nat) : List Nat := bfs nx i nx.length [st] 0

theorem addN_pre (l : List Nat) (x : Nat) : ∃ t, addN l x = l ++ t := by
  unfold addN; split
  · exact ⟨[], by simp⟩
  · exact ⟨[x], rfl⟩
theorem addR_pre (nx : List (List Int)) (s : Nat) (l : List Nat) : ∀ a, ∃ t, addR nx s l a = l ++ t
  | 0 => ⟨[], by simp [addR]⟩
  | a + 1 => by
    obtain ⟨t, ht⟩ := addR_pre nx s l a
    obtain ⟨u, hu⟩ := addN_pre (addR nx s l a) (nN nx s a)
    exact ⟨t ++ u, by show addN _ _ = _; rw [hu, ht, List.append_assoc]⟩
theorem bfs_pre (nx : List (List Int)) (i : Nat) : ∀ (k : Nat) (l : List Nat) (j : Nat), ∃ t, bfs nx i k l j = l ++ t
  | 0, l, _ => ⟨[], by simp [bfs]⟩
  | k + 1, l, j => by
    unfold bfs
    split
    · obtain ⟨t, ht⟩ := addR_pre nx (l.getD j 0) l i
      obtain ⟨u, hu⟩ := bfs_pre nx i k (addR nx (l.getD j 0) l i) (j + 1)
      exact ⟨t ++ u, by rw [hu, ht, List.append_assoc]⟩
    · exact ⟨[], by simp⟩

/-- A list of different states. -/
def Stt (n : Nat) (l : List Nat) : Prop := l.Nodup ∧ ∀ x, x ∈ l → x < n
theorem Stt.len : ∀ {n : Nat} {l : List Nat}, Stt n l → l.length ≤ n
  | 0, l, h => by
    cases l with
    | nil => exact Nat.le_refl _
    | cons x t => exact absurd (h.2 x (by simp)) (by omega)
  | n + 1, l, h => by
    by_cases hm : n ∈ l
    · have h1 : Stt n (l.erase n) := ⟨h.1.erase n, fun x hx => by
        have := (h.1.mem_erase_iff).1 hx
        have := h.2 x this.2
        omega⟩
      have := h1.len
      rw [List.length_erase_of_mem hm] at this
      omega
    · have h1 : Stt n l := ⟨h.1, fun x hx => by
        have := h.2 x hx
        by_cases e : x = n
        · subst e; exact absurd hx hm
        · omega⟩
      have := h1.len
      omega
theorem addN_stt {n : Nat} {l : List Nat} (h : Stt n l) {x : Nat} (hx : x < n) : Stt n (addN l x) := by
  unfold addN
  split
  · exact h
  · rename_i hm
    refine ⟨List.nodup_append.2 ⟨h.1, by simp, ?_⟩, fun y hy => ?_⟩
    · intro a ha b hb; simp at hb; subst hb; intro e; subst e; exact hm ha
    · rw [List.mem_append] at hy
      rcases hy with hy | hy
      · exact h.2 y hy
      · simp at hy; omega
theorem addR_stt {i st n : Nat} {nx ot : List (List Int)} (hm : Mok i st n nx ot) {l : List Nat} (h : Stt n l) {s : Nat} (hs : s < n) : ∀ a, a ≤ i → Stt n (addR nx s l a)
  | 0, _ => h
  | a + 1, ha => addN_stt (addR_stt hm h hs a (by omega)) (hm.nN_lt hs (by omega))
theorem mem_addN (l : List Nat) (x : Nat) : x ∈ addN l x := by
  unfold addN; split
  · assumption
  · simp
theorem addN_mem {l : List Nat} {x y : Nat} (h : y ∈ l) : y ∈ addN l x := by obtain ⟨t, ht⟩ := addN_pre l x; rw [ht]; simp [h]
theorem getD_mem {l : List Nat} {j : Nat} (h : j < l.length) : l.getD j 0 ∈ l := by
  rw [List.getD_eq_getElem?_getD, List.getElem?_eq_getElem h]; exact List.getElem_mem _
theorem getD_pre {l t : List Nat} {j : Nat} (h : j < l.length) : (l ++ t).getD j 0 = l.getD j 0 := by
  rw [List.getD_eq_getElem?_getD, List.getD_eq_getElem?_getD, List.getElem?_append_left h]

/-- More rounds than states turn nothing. -/
theorem bfs_fuel {i st n : Nat} {nx ot : List (List Int)} (hm : Mok i st n nx ot) : ∀ (k : Nat) (l : List Nat) (j : Nat), Stt n l → n ≤ k + j → bfs nx i (k + 1) l j = bfs nx i k l j
  | 0, l, j, h, hk => by
    have := h.len
    unfold bfs
    rw [if_neg (by omega)]
  | k + 1, l, j, h, hk => by
    by_cases hj : j < l.length
    · show (if j < l.length then bfs nx i (k + 1) (addR nx (l.getD j 0) l i) (j + 1) else l) = (if j < l.length then bfs nx i k (addR nx (l.getD j 0) l i) (j + 1) else l)
      rw [if_pos hj, if_pos hj]
      exact bfs_fuel hm k _ _ (addR_stt hm h (h.2 _ (getD_mem hj)) i (Nat.le_refl _)) (by omega)
    · show (if j < l.length then bfs nx i (k + 1) (addR nx (l.getD j 0) l i) (j + 1) else l) = (if j < l.length then bfs nx i k (addR nx (l.getD j 0) l i) (j + 1) else l)
      rw [if_neg hj, if_neg hj]
theorem bfs_on {i st n : Nat} {nx ot : List (List Int)} (hm : Mok i st n nx ot) {l : List Nat} {j : Nat} (h : Stt n l) (hj : j < l.length) :
    bfs nx i n (addR nx (l.getD j 0) l i) (j + 1) = bfs nx i n l j := by
  have hn := hm.n1
  have hx := addR_stt hm h (h.2 _ (getD_mem hj)) i (Nat.le_refl _)
  obtain ⟨k, rfl⟩ : ∃ k, n = k + 1 := ⟨n - 1, by omega⟩
  rw [bfs_fuel hm k _ (j + 1) hx (by omega)]
  show _ = (if j < l.length then bfs nx i k (addR nx (l.getD j 0) l i) (j + 1) else l)
  rw [if_pos hj]
theorem bfs_end (nx : List (List Int)) (i : Nat) (k : Nat) {l : List Nat} {j : Nat} (hj : ¬ j < l.length) : bfs nx i k l j = l := by
  cases k with
  | zero => rfl
  | succ k => unfold bfs; rw [if_neg hj]
end Go.Proofs.Ytcoihbpadbnilaa
end

section
/- What From, Run and Step return. -/
namespace Go.Proofs.Ytcoihbpadbnilaa

/-- What From returns. -/
def frm (i st : Int) (nx ot : List (List Int)) (s : Int) (xs : List Int) : List Int × Int × Int :=
  if vld i st nx ot = 0 then (if 0 ≤ s ∧ s < nx.length then (if chk xs i = 0 then (runO nx ot s.toNat xs, (runS nx s.toNat xs : Int), 0) else ([], 0, chk xs i)) else ([], 0, 2)) else ([], 0, vld i st nx ot)
theorem frm_bad {i st : Int} {nx ot : List (List Int)} {s : Int} {xs : List Int} (h : ¬ vld i st nx ot = 0) : frm i st nx ot s xs = ([], 0, vld i st nx ot) := by unfold frm; rw [if_neg h]
theorem frm_state {i st : Int} {nx ot : List (List Int)} {s : Int} {xs : List Int} (h : vld i st nx ot = 0) (h1 : ¬ (0 ≤ s ∧ s < nx.length)) : frm i st nx ot s xs = ([], 0, 2) := by unfold frm; rw [if_pos h, if_neg h1]
theorem frm_word {i st : Int} {nx ot : List (List Int)} {s : Int} {xs : List Int} (h : vld i st nx ot = 0) (h1 : 0 ≤ s ∧ s < nx.length) (h2 : ¬ chk xs i = 0) : frm i st nx ot s xs = ([], 0, chk xs i) := by unfold frm; rw [if_pos h, if_pos h1, if_neg h2]
theorem frm_ok {i st : Int} {nx ot : List (List Int)} {s : Nat} {xs : List Int} (h : vld i st nx ot = 0) (h1 : s < nx.length) (h2 : chk xs i = 0) : frm i st nx ot s xs = (runO nx ot s xs, (runS nx s xs : Int), 0) := by
  unfold frm; rw [if_pos h, if_pos (by omega), if_pos h2]; rfl
theorem frm_len {i st : Int} {nx ot : List (List Int)} {s : Int} {xs : List Int} : (frm i st nx ot s xs).1.length ≤ 1024 := by
  by_cases h : vld i st nx ot = 0
  · by_cases h1 : 0 ≤ s ∧ s < nx.length
    · by_cases h2 : chk xs i = 0
      · obtain ⟨t, rfl⟩ : ∃ t : Nat, s = t := ⟨s.toNat, by omega⟩
        rw [frm_ok h (by omega) h2]
        show (runO nx ot t xs).length ≤ 1024
        rw [runO_len]
        exact (chk_zero h2).2.2.1
      · rw [frm_word h h1 h2]; simp
    · rw [frm_state h h1]; simp
  · rw [frm_bad h]; simp
theorem frm_zero {i st : Int} {nx ot : List (List Int)} {s : Int} {xs : List Int} (h : (frm i st nx ot s xs).2.2 = 0) : ∃ i' st' n t : Nat, i = i' ∧ st = st' ∧ s = t ∧ t < n ∧ Mok i' st' n nx ot ∧ chk xs i = 0 := by
  by_cases h0 : vld i st nx ot = 0
  · obtain ⟨i', st', n, rfl, rfl, hM⟩ := vld_zero h0
    by_cases h1 : 0 ≤ s ∧ s < nx.length
    · by_cases h2 : chk xs i' = 0
      · exact ⟨i', st', n, s.toNat, rfl, rfl, by omega, by have := hM.nxl; omega, hM, h2⟩
      · rw [frm_word h0 h1 h2] at h; exact absurd h h2
    · rw [frm_state h0 h1] at h; exact absurd h (by show ¬ (2 : Int) = 0; omega)
  · rw [frm_bad h0] at h; exact absurd h h0
theorem Mok.frm {i st n : Nat} {nx ot : List (List Int)} (hM : Mok i st n nx ot) {s : Nat} (hs : s < n) {xs : List Int} (h : chk xs i = 0) : frm i st nx ot s xs = (runO nx ot s xs, (runS nx s xs : Int), 0) :=
  frm_ok hM.vld (by rw [hM.nxl]; exact hs) h

/-- What Step returns. -/
def stp (i st : Int) (nx ot : List (List Int)) (s a : Int) : Int × Int × Int :=
  if vld i st nx ot = 0 then (if (0 ≤ s ∧ s < nx.length) ∧ 0 ≤ a ∧ a < i then ((nN nx s.toNat a.toNat : Int), oN ot s.toNat a.toNat, 0) else (0, 0, 2)) else (0, 0, vld i st nx ot)
theorem stp_bad {i st : Int} {nx ot : List (List Int)} {s a : Int} (h : ¬ vld i st nx ot = 0) : stp i st nx ot s a = (0, 0, vld i st nx ot) := by unfold stp; rw [if_neg h]
theorem stp_state {i st : Int} {nx ot : List (List Int)} {s a : Int} (h : vld i st nx ot = 0) (h1 : ¬ ((0 ≤ s ∧ s < nx.length) ∧ 0 ≤ a ∧ a < i)) : stp i st nx ot s a = (0, 0, 2) := by unfold stp; rw [if_pos h, if_neg h1]
theorem stp_ok {i st : Int} {nx ot : List (List Int)} {s a : Nat} (h : vld i st nx ot = 0) (h1 : s < nx.length) (h2 : (a : Int) < i) : stp i st nx ot s a = ((nN nx s a : Int), oN ot s a, 0) := by unfold stp; rw [if_pos h, if_pos (by omega)]; rfl
end Go.Proofs.Ytcoihbpadbnilaa
end

section

/- Plain numbers: SplitMix64 draws below n, and the rejection ends. No program. -/
namespace Go.Proofs.Ytcoihbpadbnilaa

/-- The next state, and the random number of a state. -/
def nx (s : Nat) : Nat := (s + 11400714819323198485) % 18446744073709551616
def mz (y : Nat) : Nat := ((y ^^^ (y / 1073741824)) * 13787848793156543929) % 18446744073709551616
def mu (z : Nat) : Nat := ((z ^^^ (z / 134217728)) * 10723151780598845931) % 18446744073709551616
def mx (s : Nat) : Nat := mu (mz (nx s)) ^^^ (mu (mz (nx s)) / 2147483648)

theorem nx_lt (s : Nat) : nx s < 18446744073709551616 := Nat.mod_lt _ (by decide)
theorem mz_lt (s : Nat) : mz s < 18446744073709551616 := Nat.mod_lt _ (by decide)
theorem mu_lt (s : Nat) : mu s < 18446744073709551616 := Nat.mod_lt _ (by decide)
theorem mx_lt (s : Nat) : mx s < 18446744073709551616 := by
  unfold mx
  have h := mu_lt (mz (nx s))
  generalize mu (mz (nx s)) = u at h
  exact Nat.xor_lt_two_pow (n := 64) h (by omega)

/-- Exclusive or with the upper part loses nothing. -/
theorem shx_inj (k : Nat) (hk : 27 ≤ k) (x y : BitVec 64) (h : x ^^^ (x >>> k) = y ^^^ (y >>> k)) : x = y := by
  have key : ∀ z : BitVec 64, (z ^^^ (z >>> k)) ^^^ ((z ^^^ (z >>> k)) >>> k) ^^^ ((z ^^^ (z >>> k)) >>> (k + k)) = z := by
    intro z
    ext i hi
    simp only [BitVec.getElem_xor, BitVec.getElem_ushiftRight, BitVec.getLsbD_xor, BitVec.getLsbD_ushiftRight]
    have e1 : z.getLsbD (k + k + (k + i)) = false ∨ True := Or.inr trivial
    have e2 : z.getLsbD (k + (k + k + i)) = false := BitVec.getLsbD_of_ge _ _ (by omega)
    rw [show k + (k + i) = k + k + i by omega, e2]
    rw [← BitVec.getLsbD_eq_getElem]
    cases z.getLsbD i <;> cases z.getLsbD (k + i) <;> cases z.getLsbD (k + k + i) <;> rfl
  rw [← key x, h, key y]

theorem nat_shx_inj (k : Nat) (hk : 27 ≤ k) (x y : Nat) (hx : x < 18446744073709551616) (hy : y < 18446744073709551616) (h : x ^^^ (x / 2 ^ k) = y ^^^ (y / 2 ^ k)) : x = y := by
  have h2 : BitVec.ofNat 64 x = BitVec.ofNat 64 y := by
    apply shx_inj k hk
    apply BitVec.eq_of_toNat_eq
    rw [BitVec.toNat_xor, BitVec.toNat_xor, BitVec.toNat_ushiftRight, BitVec.toNat_ushiftRight, BitVec.toNat_ofNat, BitVec.toNat_ofNat, Nat.mod_eq_of_lt hx, Nat.mod_eq_of_lt hy,
      Nat.shiftRight_eq_div_pow, Nat.shiftRight_eq_div_pow, h]
  have h3 := congrArg BitVec.toNat h2
  rwa [BitVec.toNat_ofNat, BitVec.toNat_ofNat, Nat.mod_eq_of_lt hx, Nat.mod_eq_of_lt hy] at h3

theorem mul_inj (c d : Nat) (hcd : c * d % 18446744073709551616 = 1) (x y : Nat) (hx : x < 18446744073709551616) (hy : y < 18446744073709551616)
    (h : x * c % 18446744073709551616 = y * c % 18446744073709551616) : x = y := by
  have f : ∀ z, z < 18446744073709551616 → (z * c % 18446744073709551616) * d % 18446744073709551616 = z := fun z hz => by
    rw [Nat.mod_mul_mod, Nat.mul_assoc, ← Nat.mul_mod_mod, hcd, Nat.mul_one, Nat.mod_eq_of_lt hz]
  rw [← f x hx, h, f y hy]

theorem mz_inj (x y : Nat) (hx : x < 18446744073709551616) (hy : y < 18446744073709551616) (h : mz x = mz y) : x = y :=
  nat_shx_inj 30 (by decide) x y hx hy (mul_inj _ 10871156337175269513 (by decide) _ _ (Nat.xor_lt_two_pow (n := 64) hx (by omega)) (Nat.xor_lt_two_pow (n := 64) hy (by omega)) h)
theorem mu_inj (x y : Nat) (hx : x < 18446744073709551616) (hy : y < 18446744073709551616) (h : mu x = mu y) : x = y :=
  nat_shx_inj 27 (by decide) x y hx hy (mul_inj _ 3573116690164977347 (by decide) _ _ (Nat.xor_lt_two_pow (n := 64) hx (by omega)) (Nat.xor_lt_two_pow (n := 64) hy (by omega)) h)
theorem nx_inj (x y : Nat) (hx : x < 18446744073709551616) (hy : y < 18446744073709551616) (h : nx x = nx y) : x = y := by
  unfold nx at h; omega
theorem mx_inj (x y : Nat) (hx : x < 18446744073709551616) (hy : y < 18446744073709551616) (h : mx x = mx y) : x = y :=
  nx_inj _ _ hx hy (mz_inj _ _ (nx_lt _) (nx_lt _) (mu_inj _ _ (mz_lt _) (mz_lt _) (nat_shx_inj 31 (by decide) _ _ (mu_lt _) (mu_lt _) h)))

/-- The state after i steps. -/
def nk (s i : Nat) : Nat := (s + i * 11400714819323198485) % 18446744073709551616
theorem nk_lt (s i : Nat) : nk s i < 18446744073709551616 := Nat.mod_lt _ (by decide)
theorem nk_zero {s : Nat} (h : s < 18446744073709551616) : nk s 0 = s := by unfold nk; rw [Nat.zero_mul, Nat.add_zero, Nat.mod_eq_of_lt h]
theorem nk_nx (s i : Nat) : nk (nx s) i = nk s (i + 1) := by
  unfold nk nx
  generalize 11400714819323198485 = c
  generalize 18446744073709551616 = m
  rw [Nat.mod_add_mod, Nat.add_mul, Nat.one_mul, Nat.add_assoc, Nat.add_comm c]
theorem nx_nk (s i : Nat) : nx (nk s i) = nk s (i + 1) := by
  unfold nk nx
  generalize 11400714819323198485 = c
  generalize 18446744073709551616 = m
  rw [Nat.mod_add_mod, Nat.add_mul, Nat.one_mul, Nat.add_assoc]
theorem nx_one (s : Nat) : nx s = nk s 1 := by
  unfold nk nx
  generalize 11400714819323198485 = c
  generalize 18446744073709551616 = m
  rw [Nat.one_mul]
theorem mod_canc (s a b : Nat) (h : (s + a) % 18446744073709551616 = (s + b) % 18446744073709551616) : a % 18446744073709551616 = b % 18446744073709551616 := by omega
theorem nk_inj (s i j : Nat) (hi : i < 18446744073709551616) (hj : j < 18446744073709551616) (h : nk s i = nk s j) : i = j :=
  mul_inj 11400714819323198485 17428512612931826493 (by decide) i j hi hj (mod_canc s _ _ h)

theorem pigeon : ∀ (r : Nat) (f : Nat → Nat), (∀ i j, i < r + 1 → j < r + 1 → f i = f j → i = j) → ∃ i, i < r + 1 ∧ r ≤ f i := by
  intro r
  induction r with
  | zero => intro f _; exact ⟨0, by omega, by omega⟩
  | succ r ih =>
    intro f hf
    by_cases hall : ∀ i, i < r + 2 → f i < r + 1
    · exfalso
      obtain ⟨i, hi, hri⟩ := ih (fun i => if f i = r then f (r + 1) else f i) (by
        intro i j hi hj h
        have h1 := hall i (by omega)
        have h2 := hall j (by omega)
        by_cases ei : f i = r
        · by_cases ej : f j = r
          · exact hf i j (by omega) (by omega) (by omega)
          · rw [if_pos ei, if_neg ej] at h
            have := hf (r + 1) j (by omega) (by omega) h
            omega
        · by_cases ej : f j = r
          · rw [if_neg ei, if_pos ej] at h
            have := hf i (r + 1) (by omega) (by omega) h
            omega
          · rw [if_neg ei, if_neg ej] at h
            exact hf i j (by omega) (by omega) h)
      by_cases ei : f i = r
      · simp only [if_pos ei] at hri
        have h1 := hall (r + 1) (by omega)
        have := hf i (r + 1) (by omega) (by omega) (by omega)
        omega
      · simp only [if_neg ei] at hri
        have h1 := hall i (by omega)
        omega
    · have : ∃ i, i < r + 2 ∧ ¬ f i < r + 1 := by
        by_cases h : ∃ i, i < r + 2 ∧ ¬ f i < r + 1
        · exact h
        · exact absurd (fun i hi => by
            by_cases h' : f i < r + 1
            · exact h'
            · exact absurd ⟨i, hi, h'⟩ h) hall
      obtain ⟨i, hi, h⟩ := this
      exact ⟨i, hi, by omega⟩

/-- Within r steps a number is accepted. -/
theorem found (r s : Nat) (hr : r < 18446744073709551615) : ∃ i, i < r + 1 ∧ mx (nk s i) ≤ 18446744073709551615 - r := by
  obtain ⟨i, hi, h⟩ := pigeon r (fun i => 18446744073709551615 - mx (nk s i)) (by
    intro i j hi hj h
    have h1 := mx_lt (nk s i)
    have h2 := mx_lt (nk s j)
    have h : 18446744073709551615 - mx (nk s i) = 18446744073709551615 - mx (nk s j) := h
    exact nk_inj s i j (by omega) (by omega) (mx_inj _ _ (nk_lt _ _) (nk_lt _ _) (by omega)))
  have h1 := mx_lt (nk s i)
  exact ⟨i, hi, by have h : r ≤ 18446744073709551615 - mx (nk s i) := h; omega⟩

/-- The first accepted number and the state after it. -/
def hit (lim : Nat) : Nat → Nat → Nat × Nat
  | 0, s => (mx s, nx s)
  | k + 1, s => if mx s ≤ lim then (mx s, nx s) else hit lim k (nx s)
/-- How many are rejected. -/
def cnt (lim : Nat) : Nat → Nat → Nat
  | 0, _ => 0
  | k + 1, s => if mx s ≤ lim then 0 else 1 + cnt lim k (nx s)

theorem hit_more (lim : Nat) : ∀ k s, s < 18446744073709551616 → (∃ i, i < k + 1 ∧ mx (nk s i) ≤ lim) → hit lim (k + 1) s = hit lim k s ∧ (hit lim k s).1 ≤ lim := by
  intro k
  induction k with
  | zero =>
    rintro s hs ⟨i, hi, h⟩
    obtain rfl : i = 0 := by omega
    rw [nk_zero hs] at h
    refine ⟨?_, h⟩
    show (if mx s ≤ lim then (mx s, nx s) else _) = _
    rw [if_pos h]; rfl
  | succ k ih =>
    rintro s hs ⟨i, hi, h⟩
    by_cases h0 : mx s ≤ lim
    · refine ⟨?_, ?_⟩
      · show (if mx s ≤ lim then (mx s, nx s) else _) = (if mx s ≤ lim then (mx s, nx s) else _)
        rw [if_pos h0, if_pos h0]
      · show (if mx s ≤ lim then (mx s, nx s) else _).1 ≤ lim
        rw [if_pos h0]; exact h0
    · cases i with
      | zero => rw [nk_zero hs] at h; exact absurd h h0
      | succ i =>
        rw [← nk_nx] at h
        obtain ⟨e, l⟩ := ih (nx s) (nx_lt s) ⟨i, by omega, h⟩
        refine ⟨?_, ?_⟩
        · show (if mx s ≤ lim then (mx s, nx s) else hit lim (k + 1) (nx s)) = (if mx s ≤ lim then (mx s, nx s) else hit lim k (nx s))
          rw [if_neg h0, if_neg h0, e]
        · show (if mx s ≤ lim then (mx s, nx s) else hit lim k (nx s)).1 ≤ lim
          rw [if_neg h0]; exact l

theorem cnt_more (lim : Nat) : ∀ k s, s < 18446744073709551616 → (∃ i, i < k + 1 ∧ mx (nk s i) ≤ lim) → cnt lim (k + 1) s = cnt lim k s := by
  intro k
  induction k with
  | zero =>
    rintro s hs ⟨i, hi, h⟩
    obtain rfl : i = 0 := by omega
    rw [nk_zero hs] at h
    show (if mx s ≤ lim then 0 else _) = 0
    rw [if_pos h]
  | succ k ih =>
    rintro s hs ⟨i, hi, h⟩
    by_cases h0 : mx s ≤ lim
    · show (if mx s ≤ lim then 0 else _) = (if mx s ≤ lim then 0 else _)
      rw [if_pos h0, if_pos h0]
    · cases i with
      | zero => rw [nk_zero hs] at h; exact absurd h h0
      | succ i =>
        rw [← nk_nx] at h
        have e := ih (nx s) (nx_lt s) ⟨i, by omega, h⟩
        show (if mx s ≤ lim then 0 else 1 + cnt lim (k + 1) (nx s)) = (if mx s ≤ lim then 0 else 1 + cnt lim k (nx s))
        rw [if_neg h0, if_neg h0, e]

/-- How many numbers are rejected below n, and the number drawn with its state. -/
def rst (n : Nat) : Nat := 18446744073709551616 % n
def lim (n : Nat) : Nat := 18446744073709551615 - rst n
def drx (s n : Nat) : Nat := (hit (lim n) (rst n) s).1 % n
def drs (s n : Nat) : Nat := (hit (lim n) (rst n) s).2
/-- What the loop goes down by. -/
def lft (n x s : Nat) : Nat := if x ≤ lim n then 0 else 1 + cnt (lim n) (rst n) s

def Drawable (n : Nat) : Prop := 1 ≤ n ∧ n ≤ 2147483648

theorem rst_lt {n : Nat} (h : Drawable n) : rst n < n := Nat.mod_lt _ h.1
theorem rst_found {n : Nat} (h : Drawable n) (s : Nat) : ∃ i, i < rst n + 1 ∧ mx (nk s i) ≤ lim n :=
  found (rst n) s (by have := rst_lt h; have := h.2; omega)

theorem hit_at {n s : Nat} (h : Drawable n) (hs : s < 18446744073709551616) (hx : mx s ≤ lim n) : hit (lim n) (rst n) s = (mx s, nx s) := by
  rw [← (hit_more (lim n) (rst n) s hs (rst_found h s)).1]
  show (if mx s ≤ lim n then (mx s, nx s) else _) = _
  rw [if_pos hx]
theorem hit_on {n s : Nat} (h : Drawable n) (hs : s < 18446744073709551616) (hx : ¬ mx s ≤ lim n) : hit (lim n) (rst n) s = hit (lim n) (rst n) (nx s) := by
  rw [← (hit_more (lim n) (rst n) s hs (rst_found h s)).1]
  show (if mx s ≤ lim n then (mx s, nx s) else _) = _
  rw [if_neg hx]
theorem lft_on {n x s : Nat} (h : Drawable n) (hs : s < 18446744073709551616) (hx : ¬ x ≤ lim n) : lft n (mx s) (nx s) < lft n x s := by
  have e := cnt_more (lim n) (rst n) s hs (rst_found h s)
  have e2 : lft n (mx s) (nx s) = cnt (lim n) (rst n + 1) s := rfl
  rw [e2, e]
  unfold lft
  rw [if_neg hx]; omega

theorem drx_lt {s n : Nat} (h : Drawable n) : drx s n < n := Nat.mod_lt _ h.1

theorem hit_nk (lim : Nat) : ∀ k s, ∃ j, j < k + 1 ∧ (hit lim k s).2 = nk s (j + 1) := by
  intro k
  induction k with
  | zero => intro s; exact ⟨0, by omega, nx_one s⟩
  | succ k ih =>
    intro s
    by_cases h0 : mx s ≤ lim
    · exact ⟨0, by omega, by show (if mx s ≤ lim then (mx s, nx s) else _).2 = _; rw [if_pos h0]; exact nx_one s⟩
    · obtain ⟨j, hj, e⟩ := ih (nx s)
      exact ⟨j + 1, by omega, by show (if mx s ≤ lim then (mx s, nx s) else hit lim k (nx s)).2 = _; rw [if_neg h0, e, nk_nx]⟩

theorem drs_lt {s n : Nat} : drs s n < 18446744073709551616 := by
  obtain ⟨j, _, e⟩ := hit_nk (lim n) (rst n) s
  unfold drs; rw [e]; exact nk_lt _ _
theorem drs_ne {s n : Nat} (h : Drawable n) (hs : s < 18446744073709551616) : drs s n ≠ s := by
  obtain ⟨j, hj, e⟩ := hit_nk (lim n) (rst n) s
  unfold drs; rw [e]
  intro he
  have h1 := rst_lt h
  have h2 := h.2
  have := nk_inj s (j + 1) 0 (by omega) (by omega) (by rw [he, nk_zero hs])
  omega
end Go.Proofs.Ytcoihbpadbnilaa
end

section
/- The numbers of Mix as names that nothing unfolds. No program. -/
namespace Go.Proofs.Ytcoihbpadbnilaa

noncomputable def shut {α : Type} (a : α) : α := Classical.choose (⟨a, rfl⟩ : ∃ b, b = a)
theorem shut_eq {α : Type} (a : α) : shut a = a := Classical.choose_spec (⟨a, rfl⟩ : ∃ b, b = a)

noncomputable def Nx : Nat → Nat := shut nx
noncomputable def Mx : Nat → Nat := shut mx
noncomputable def Lim : Nat → Nat := shut lim
noncomputable def Rst : Nat → Nat := shut rst
noncomputable def Hit : Nat → Nat → Nat × Nat := shut (fun n s => hit (lim n) (rst n) s)
noncomputable def Lft : Nat → Nat → Nat → Nat := shut lft
noncomputable def Drx : Nat → Nat → Nat := shut drx
noncomputable def Drs : Nat → Nat → Nat := shut drs

theorem Nx_eq (s : Nat) : Nx s = nx s := congrFun (shut_eq nx) s
theorem Mx_eq (s : Nat) : Mx s = mx s := congrFun (shut_eq mx) s
theorem Lim_eq (s : Nat) : Lim s = lim s := congrFun (shut_eq lim) s
theorem Rst_eq (s : Nat) : Rst s = rst s := congrFun (shut_eq rst) s
theorem Hit_eq (n s : Nat) : Hit n s = hit (lim n) (rst n) s := congrFun (congrFun (shut_eq (fun n s => hit (lim n) (rst n) s)) n) s
theorem Lft_eq (n x s : Nat) : Lft n x s = lft n x s := congrFun (congrFun (congrFun (shut_eq lft) n) x) s
theorem Drx_eq (s n : Nat) : Drx s n = drx s n := congrFun (congrFun (shut_eq drx) s) n
theorem Drs_eq (s n : Nat) : Drs s n = drs s n := congrFun (congrFun (shut_eq drs) s) n

theorem Nx_lt (s : Nat) : Nx s < 18446744073709551616 := by rw [Nx_eq]; exact nx_lt s
theorem Mx_lt (s : Nat) : Mx s < 18446744073709551616 := by rw [Mx_eq]; exact mx_lt s
theorem Hit_at {n s : Nat} (h : Drawable n) (hs : s < 18446744073709551616) (hx : Mx s ≤ Lim n) : Hit n s = (Mx s, Nx s) := by
  rw [Mx_eq, Lim_eq] at hx; rw [Hit_eq, Mx_eq, Nx_eq]; exact hit_at h hs hx
theorem Hit_on {n s : Nat} (h : Drawable n) (hs : s < 18446744073709551616) (hx : ¬ Mx s ≤ Lim n) : Hit n s = Hit n (Nx s) := by
  rw [Mx_eq, Lim_eq] at hx; rw [Hit_eq, Hit_eq, Nx_eq]; exact hit_on h hs hx
theorem Lft_on {n x s : Nat} (h : Drawable n) (hs : s < 18446744073709551616) (hx : ¬ x ≤ Lim n) : Lft n (Mx s) (Nx s) < Lft n x s := by
  rw [Lim_eq] at hx; rw [Lft_eq, Lft_eq, Mx_eq, Nx_eq]; exact lft_on h hs hx
theorem Hit_dr (n s : Nat) : (Hit n s).1 % n = Drx s n ∧ (Hit n s).2 = Drs s n := by rw [Hit_eq, Drx_eq, Drs_eq]; exact ⟨rfl, rfl⟩
theorem Drx_lt {s n : Nat} (h : Drawable n) : Drx s n < n := by rw [Drx_eq]; exact drx_lt h
theorem Drs_lt (s n : Nat) : Drs s n < 18446744073709551616 := by rw [Drs_eq]; exact drs_lt
theorem Drs_ne {s n : Nat} (h : Drawable n) (hs : s < 18446744073709551616) : Drs s n ≠ s := by rw [Drs_eq]; exact drs_ne h hs
end Go.Proofs.Ytcoihbpadbnilaa
end

section
/- The walks of Next and of drawing below n, by the two texts. -/
namespace Go.Proofs.Ytcoihbpadbnilaa
open Go.RowKit

theorem wrapu (a : Nat) : IntKind.u64.wrap (a : Int) = ((a % 18446744073709551616 : Nat) : Int) := by
  rw [IntKind.wrap_u64]; omega

theorem nxw (s : Nat) : IntKind.u64.wrap (s + 11400714819323198485) = ((Nx s : Nat) : Int) := by rw [Nx_eq]; exact wrapu (s + 11400714819323198485)
theorem mzw {y : Nat} (h : y < 18446744073709551616) : IntKind.u64.wrap (bits .xor .u64 (y : Int) ((y : Int) / 1073741824) * 13787848793156543929) = ((mz y : Nat) : Int) := by
  rw [show ((y : Int) / 1073741824) = ((y / 1073741824 : Nat) : Int) by omega, u64_xor_nat _ _ h (by omega)]
  exact wrapu ((y ^^^ (y / 1073741824)) * 13787848793156543929)
theorem muw {y : Nat} (h : y < 18446744073709551616) : IntKind.u64.wrap (bits .xor .u64 (y : Int) ((y : Int) / 134217728) * 10723151780598845931) = ((mu y : Nat) : Int) := by
  rw [show ((y : Int) / 134217728) = ((y / 134217728 : Nat) : Int) by omega, u64_xor_nat _ _ h (by omega)]
  exact wrapu ((y ^^^ (y / 134217728)) * 10723151780598845931)
theorem mxw (s : Nat) : bits .xor .u64 (mu (mz (nx s)) : Int) ((mu (mz (nx s)) : Int) / 2147483648) = ((Mx s : Nat) : Int) := by
  have h := mu_lt (mz (nx s))
  rw [Mx_eq]
  unfold mx
  generalize mu (mz (nx s)) = u at h
  rw [show ((u : Int) / 2147483648) = ((u / 2147483648 : Nat) : Int) by omega, u64_xor_nat _ _ h (by omega)]

theorem ret_pair {k k' : IntKind} {a b a' b' : Int} (h1 : a = a') (h2 : b = b') : Ending.returned (.tuple #[.int k a, .int k' b]) = .returned (.tuple #[.int k a', .int k' b']) := by rw [h1, h2]
theorem ret_three {k k' k'' : IntKind} {a b c a' b' c' : Int} (h1 : a = a') (h2 : b = b') (h3 : c = c') : Ending.returned (.tuple #[.int k a, .int k' b, .int k'' c]) = .returned (.tuple #[.int k a', .int k' b', .int k'' c']) := by rw [h1, h2, h3]

theorem mx_all (s : Nat) :
    bits .xor .u64 (IntKind.u64.wrap (bits .xor .u64 (IntKind.u64.wrap (bits .xor .u64 (IntKind.u64.wrap (s + 11400714819323198485)) (IntKind.u64.wrap (s + 11400714819323198485) / 1073741824) * 13787848793156543929))
      (IntKind.u64.wrap (bits .xor .u64 (IntKind.u64.wrap (s + 11400714819323198485)) (IntKind.u64.wrap (s + 11400714819323198485) / 1073741824) * 13787848793156543929) / 134217728) * 10723151780598845931))
      (IntKind.u64.wrap (bits .xor .u64 (IntKind.u64.wrap (bits .xor .u64 (IntKind.u64.wrap (s + 11400714819323198485)) (IntKind.u64.wrap (s + 11400714819323198485) / 1073741824) * 13787848793156543929))
      (IntKind.u64.wrap (bits .xor .u64 (IntKind.u64.wrap (s + 11400714819323198485)) (IntKind.u64.wrap (s + 11400714819323198485) / 1073741824) * 13787848793156543929) / 134217728) * 10723151780598845931) / 2147483648) = ((Mx s : Nat) : Int) := by
  rw [nxw, Nx_eq, mzw (nx_lt _), muw (mz_lt _), mxw]

theorem pnext (s : Nat) (w : World) :
    Calls Try.prog 68 #[.int .u64 s] w fun e w' => e = .returned (.tuple #[.int .u64 (Mx s), .int .u64 (Nx s)]) ∧ w = w' := by
  have H1 := Lib.hid (mx_all s)
  have H2 := Lib.hid (nxw s)
  go_enter Try.func68, Try.ntmps68
  go_wp2
  go_ret2
  exact ⟨ret_pair H1.out H2.out, rfl⟩
theorem rnext (s : Nat) (w : World) :
    Calls Try.prog 65 #[.int .u64 s] w fun e w' => e = .returned (.tuple #[.int .u64 (Mx s), .int .u64 (Nx s)]) ∧ w = w' := by
  have H1 := Lib.hid (mx_all s)
  have H2 := Lib.hid (nxw s)
  go_enter Try.func65, Try.ntmps65
  go_wp2
  go_ret2
  exact ⟨ret_pair H1.out H2.out, rfl⟩

theorem rst_two {n : Nat} (h : Drawable n) : (IntKind.u64.wrap (18446744073709551615 % (n : Int) + 1)).tmod (n : Int) = ((Rst n : Nat) : Int) := by
  have h1 := h.1
  have h2 := h.2
  have e0 : (18446744073709551615 % (n : Int) + 1) = ((18446744073709551615 % n + 1 : Nat) : Int) := by
    rw [show (18446744073709551615 : Int) = ((18446744073709551615 : Nat) : Int) by rfl, ← Int.natCast_emod]; rfl
  have hlt : 18446744073709551615 % n < n := Nat.mod_lt _ (by omega)
  rw [e0, wrapu, Nat.mod_eq_of_lt (by omega), Int.tmod_eq_emod_of_nonneg (by omega), Rst_eq]
  unfold rst
  rw [← Int.natCast_emod, Nat.mod_add_mod]
theorem rst_one {n : Nat} (h : Drawable n) : (18446744073709551615 - (n : Int) + 1) % (n : Int) = ((Rst n : Nat) : Int) := by
  have h1 := h.1
  have h2 := h.2
  have e0 : (18446744073709551615 - (n : Int) + 1) = ((18446744073709551616 - n : Nat) : Int) := by omega
  rw [e0, Rst_eq]
  unfold rst
  rw [← Int.natCast_emod]
  have := Nat.add_mod_right (18446744073709551616 - n) n
  rw [show 18446744073709551616 - n + n = 18446744073709551616 by omega] at this
  rw [this]
theorem rst_le {n : Nat} (h : Drawable n) : Rst n < 2147483648 := by
  have h1 := rst_lt h
  have h2 := h.2
  rw [Rst_eq]; omega
theorem lim_rst (n : Nat) : Lim n = 18446744073709551615 - Rst n := by rw [Lim_eq, Rst_eq]; rfl
theorem lim_w {n : Nat} (h : Drawable n) : IntKind.u64.wrap (18446744073709551615 - ((Rst n : Nat) : Int)) = ((Lim n : Nat) : Int) := by
  have h1 := rst_le h
  rw [lim_rst, show (18446744073709551615 - ((Rst n : Nat) : Int)) = ((18446744073709551615 - Rst n : Nat) : Int) by omega, wrapu, Nat.mod_eq_of_lt (by omega)]
theorem drx_w {s n : Nat} (h : Drawable n) {p : Nat × Nat} (hp : Hit n s = p) : RowKit.wrap64 ((p.1 : Int) % (n : Int)) = ((Drx s n : Nat) : Int) := by
  have h1 := (Hit_dr n s).1
  have h2 := Drx_lt (s := s) h
  have h3 := h.2
  rw [hp] at h1
  rw [← Int.natCast_emod, h1]
  exact IntWalk.wrap64_in _ (by omega)

set_option maxHeartbeats 400000 in
theorem pdraw (s n : Nat) (hs : s < 18446744073709551616) (hn : Drawable n) (w : World) :
    Calls Try.prog 67 #[.int .u64 s, .int .i64 n] w fun e w' => e = .returned (.tuple #[.int .i64 (Drx s n), .int .u64 (Drs s n)]) ∧ w = w' := by
  have hn1 := hn.1
  have hn2 := hn.2
  have HT := rst_two hn
  have HL := lim_w hn
  have HD := Lib.hid hn
  clear hn
  go_enter Try.func67, Try.ntmps67
  go_wp2_with (go_at_call 68; refine (pnext _ _).mono ?_; rintro e w' ⟨rfl, rfl⟩)
  go_loop [8, 9] (fun x t => ∃ s' : Nat, x = .int .u64 (Mx s') ∧ t = .int .u64 (Nx s') ∧ s' < 18446744073709551616 ∧ Hit n s' = Hit n s) (fun x t => Lft n (intOf x).toNat (intOf t).toNat)
  case atStart => exact ⟨s, rfl, rfl, hs, rfl⟩
  case round =>
    obtain ⟨s', rfl, rfl, hs', hgo⟩ := hrel
    have HG := Lib.hid hgo
    clear hgo
    by_cases hx : Lim n < Mx s'
    · have hon := Lib.hid (Hit_on HD.out hs' (by omega))
      have hlf := Lft_on HD.out (Nx_lt s') (x := Mx s') (by omega)
      have hb : decide (Lim n < Mx s') = true := by simpa using hx
      clear hx
      go_wp2_with (go_at_call 68; refine (pnext _ _).mono ?_; rintro e w' ⟨rfl, rfl⟩)
      go_round
      case rel => exact ⟨Nx s', rfl, rfl, Nx_lt _, by rw [← hon.out, HG.out]⟩
      case measure => simpa [intOf] using hlf
    · have hat := Lib.hid (Hit_at HD.out hs' (by omega))
      have hb : decide (Lim n < Mx s') = false := by simpa using hx
      clear hx
      have H1 := Lib.hid (drx_w HD.out (HG.out.symm.trans hat.out))
      have H2 := Lib.hid ((Hit_dr n s).2)
      have H3 := Lib.hid (HG.out.symm.trans hat.out)
      go_wp2
      go_ret2
      exact ⟨ret_pair H1.out (by rw [← H2.out, H3.out]), rfl⟩

set_option maxHeartbeats 400000 in
theorem rdraw (s n : Nat) (hs : s < 18446744073709551616) (hn : Drawable n) (w : World) :
    Calls Try.prog 60 #[.int .u64 s, .int .i64 n] w fun e w' => e = .returned (.tuple #[.int .i64 (Drx s n), .int .u64 (Drs s n)]) ∧ w = w' := by
  have hn1 := hn.1
  have hn2 := hn.2
  have HT := rst_one hn
  have HL := lim_w hn
  have hl0 := Lib.hid (lim_rst n)
  have HD := Lib.hid hn
  clear hn
  go_enter Try.func60, Try.ntmps60
  go_wp2_with (go_at_call 65; refine (rnext _ _).mono ?_; rintro e w' ⟨rfl, rfl⟩)
  go_loop [7, 8] (fun x t => ∃ s' : Nat, x = .int .u64 (Mx s') ∧ t = .int .u64 (Nx s') ∧ s' < 18446744073709551616 ∧ Hit n s' = Hit n s) (fun x t => Lft n (intOf x).toNat (intOf t).toNat)
  case atStart => exact ⟨s, rfl, rfl, hs, rfl⟩
  case round =>
    obtain ⟨s', rfl, rfl, hs', hgo⟩ := hrel
    have HG := Lib.hid hgo
    clear hgo
    by_cases hx : Lim n < Mx s'
    · have hon := Lib.hid (Hit_on HD.out hs' (by omega))
      have hlf := Lft_on HD.out (Nx_lt s') (x := Mx s') (by omega)
      have hb : decide (Lim n < Mx s') = true := by simpa using hx
      have hr0 : 0 < Rst n := by
        have h1 := Mx_lt s'
        have h2 := hl0.out
        omega
      have hr : decide (0 < Rst n) = true := by simpa using hr0
      clear hx
      go_wp2_with (go_at_call 65; refine (rnext _ _).mono ?_; rintro e w' ⟨rfl, rfl⟩)
      go_round
      case rel => exact ⟨Nx s', rfl, rfl, Nx_lt _, by rw [← hon.out, HG.out]⟩
      case measure => simpa [intOf] using hlf
    · have hat := Lib.hid (Hit_at HD.out hs' (by omega))
      have hb : decide (Lim n < Mx s') = false := by simpa using hx
      clear hx
      have H1 := Lib.hid (drx_w HD.out (HG.out.symm.trans hat.out))
      have H2 := Lib.hid ((Hit_dr n s).2)
      have H3 := Lib.hid (HG.out.symm.trans hat.out)
      by_cases h0 : Rst n = 0
      · have hr : decide (0 < Rst n) = false := by simp; omega
        clear h0
        go_wp2
        go_ret2
        exact ⟨ret_pair H1.out (by rw [← H2.out, H3.out]), rfl⟩
      · have hr : decide (0 < Rst n) = true := by simp; omega
        clear h0
        go_wp2
        go_ret2
        exact ⟨ret_pair H1.out (by rw [← H2.out, H3.out]), rfl⟩
end Go.Proofs.Ytcoihbpadbnilaa
end

section
/- The walks of Below, by the two texts. -/
namespace Go.Proofs.Ytcoihbpadbnilaa
open Go.RowKit

/-- What Below returns. -/
def Can (n : Int) : Prop := 1 ≤ n ∧ n ≤ 2147483648
instance (n : Int) : Decidable (Can n) := by unfold Can; exact inferInstance
noncomputable def belV (s : Nat) (n : Int) : Int × Int × Int := if Can n then ((Drx s n.toNat : Int), (Drs s n.toNat : Int), 0) else (0, 0, 2)
theorem belV_ok (s n : Nat) (h : Drawable n) : belV s n = ((Drx s n : Int), (Drs s n : Int), 0) := by
  unfold belV; rw [if_pos ⟨by have := h.1; omega, by have := h.2; omega⟩]; rfl
theorem belV_bad {n : Int} (h : ¬ Can n) (s : Nat) : belV s n = (0, 0, 2) := by unfold belV; rw [if_neg h]
theorem ret_trip {k k' k'' : IntKind} {a b c a' b' c' : Int} {p : Int × Int × Int} (h : p = (a', b', c')) (h1 : a = a') (h2 : b = b') (h3 : c = c') :
    Ending.returned (.tuple #[.int k a, .int k' b, .int k'' c]) = .returned (.tuple #[.int k p.1, .int k' p.2.1, .int k'' p.2.2]) := by rw [h, h1, h2, h3]

theorem pdrawable (n : Int) (w : World) : Calls Try.prog 66 #[.int .i64 n] w fun e w' => e = .returned (.bool (decide (Can n))) ∧ w = w' := by
  by_cases h : Can n
  · have H := Lib.hid h
    have h1 := h.1
    have h2 := h.2
    clear h
    go_enter Try.func66, Try.ntmps66
    go_wp2
    go_ret
    exact ⟨by rw [decide_eq_true H.out]; rfl, rfl⟩
  · have H := Lib.hid h
    have hor : n < 1 ∨ 2147483648 < n := by unfold Can at h; omega
    clear h
    rcases hor with h | h
    · go_enter Try.func66, Try.ntmps66
      go_wp2
      go_ret
      exact ⟨by rw [decide_eq_false H.out]; rfl, rfl⟩
    · have hq : decide (n ≤ 2147483648) = false := decide_eq_false (by omega)
      go_enter Try.func66, Try.ntmps66
      go_wp2
      go_ret
      exact ⟨by rw [decide_eq_false H.out, ← hq]; rfl, rfl⟩

theorem pbelow (s : Nat) (n : Int) (hs : s < 18446744073709551616) (w : World) :
    Calls Try.prog 63 #[.int .u64 s, .int .i64 n] w fun e w' => e = .returned (.tuple #[.int .i64 (belV s n).1, .int .u64 (belV s n).2.1, .int .i64 (belV s n).2.2]) ∧ w = w' := by
  by_cases h : Can n
  · obtain ⟨m, rfl⟩ : ∃ m : Nat, n = m := ⟨n.toNat, by have := h.1; omega⟩
    have hd : Drawable m := ⟨by have := h.1; omega, by have := h.2; omega⟩
    have H := Lib.hid (belV_ok s m hd)
    have HD := Lib.hid hd
    have hb : decide (Can (m : Int)) = true := decide_eq_true h
    clear h hd
    go_enter Try.func63, Try.ntmps63
    go_wp2_with (first | (go_at_call 66; refine (pdrawable _ _).mono ?_; rintro e w' ⟨rfl, rfl⟩) | (go_at_call 67; refine (pdraw _ _ hs HD.out _).mono ?_; rintro e w' ⟨rfl, rfl⟩))
    go_ret3
    exact ⟨ret_trip H.out rfl rfl rfl, rfl⟩
  · have H := Lib.hid (belV_bad h s)
    have hb : decide (Can n) = false := decide_eq_false h
    clear h
    go_enter Try.func63, Try.ntmps63
    go_wp2_with (go_at_call 66; refine (pdrawable _ _).mono ?_; rintro e w' ⟨rfl, rfl⟩)
    go_ret3
    exact ⟨ret_trip H.out rfl rfl rfl, rfl⟩

theorem rbelow (s : Nat) (n : Int) (hs : s < 18446744073709551616) (w : World) :
    Calls Try.prog 43 #[.int .u64 s, .int .i64 n] w fun e w' => e = .returned (.tuple #[.int .i64 (belV s n).1, .int .u64 (belV s n).2.1, .int .i64 (belV s n).2.2]) ∧ w = w' := by
  by_cases h : Can n
  · obtain ⟨m, rfl⟩ : ∃ m : Nat, n = m := ⟨n.toNat, by have := h.1; omega⟩
    have hd : Drawable m := ⟨by have := h.1; omega, by have := h.2; omega⟩
    have H := Lib.hid (belV_ok s m hd)
    have h1 := hd.1
    have h2 := hd.2
    have HD := Lib.hid hd
    clear h hd
    go_enter Try.func43, Try.ntmps43
    go_wp2_with (go_at_call 60; refine (rdraw _ _ hs HD.out _).mono ?_; rintro e w' ⟨rfl, rfl⟩)
    go_ret3
    exact ⟨ret_trip H.out rfl rfl rfl, rfl⟩
  · have H := Lib.hid (belV_bad h s)
    have hor : n < 1 ∨ 2147483648 < n := by unfold Can at h; omega
    clear h
    rcases hor with h | h
    · go_enter Try.func43, Try.ntmps43
      go_wp2
      go_ret3
      exact ⟨ret_trip H.out rfl rfl rfl, rfl⟩
    · go_enter Try.func43, Try.ntmps43
      go_wp2
      go_ret3
      exact ⟨ret_trip H.out rfl rfl rfl, rfl⟩
end Go.Proofs.Ytcoihbpadbnilaa
end

section
/- device: what a device does. -/
namespace Go.Proofs.Ytcoihbpadbnilaa

/-- A device: what its fields say. -/
structure DD where
  i : Int
  st : Int
  nx : List (List Int)
  ot : List (List Int)
  s : Int
  rdy : Bool
  cs : List Int
  rc : Int
  f1 : Int
  f2 : Int
  f3 : Int
  sd : Nat
  sp : Int
  rs : Int
  tm : Int

/-- Are all costs permitted? -/
def dAff (cs : List Int) (rc : Int) : Prop := (0 ≤ rc ∧ rc ≤ 1048576) ∧ ∀ x, x ∈ cs → 0 ≤ x ∧ x ≤ 1048576
instance (cs : List Int) (rc : Int) : Decidable (dAff cs rc) := by unfold dAff; infer_instance
/-- Are the rates parts of the scale? -/
def dPos (f1 f2 f3 : Int) : Prop := 0 ≤ f1 ∧ 0 ≤ f2 ∧ 0 ≤ f3 ∧ f1 + f2 + f3 ≤ 10000
instance (f1 f2 f3 : Int) : Decidable (dPos f1 f2 f3) := by unfold dPos; infer_instance
/-- Are the counters permitted? -/
def dCnt (sp rs tm : Int) : Prop := (0 ≤ sp ∧ sp ≤ 1125899906842624) ∧ (0 ≤ rs ∧ rs ≤ 1125899906842624) ∧ 0 ≤ tm ∧ tm ≤ 1125899906842624
instance (sp rs tm : Int) : Decidable (dCnt sp rs tm) := by unfold dCnt; infer_instance

/-- The first error of a device. -/
def DD.err (D : DD) : Int :=
  if vld D.i D.st D.nx D.ot = 0 then
    (if 0 ≤ D.s ∧ D.s < (D.nx.length : Int) then
      (if (D.cs.length : Int) = D.i then (if dAff D.cs D.rc ∧ dPos D.f1 D.f2 D.f3 ∧ dCnt D.sp D.rs D.tm then 0 else 2) else 1)
    else 2)
  else vld D.i D.st D.nx D.ot

/-- Reset. -/
def DD.canR (D : DD) : Prop := D.rs < 1125899906842624 ∧ D.tm ≤ 1125899906842624 - D.rc
instance (D : DD) : Decidable D.canR := by unfold DD.canR; infer_instance
def DD.rst (D : DD) : DD := { D with s := D.st, rdy := true, rs := D.rs + 1, tm := D.tm + D.rc }
def DD.rstD (D : DD) : DD := if D.canR then D.rst else D
def DD.rstE (D : DD) : Int := if D.canR then 0 else 11

/-- What is received of an output, and whether the device is ready then. -/
def wrg (o : Int) : Int := if o = 1048576 then o - 1 else o + 1
def rcv (x f1 f2 : Int) (o : Int) : Int := if x < f1 then -1 else if x < f1 + f2 then wrg o else o
def crs (x f1 f2 f3 : Int) : Bool := decide (¬ x < f1 ∧ ¬ x < f1 + f2 ∧ x < f1 + f2 + f3)

/-- Step. -/
def DD.stpE (D : DD) (a : Int) : Int :=
  if D.rdy = true then (if 0 ≤ a ∧ a < D.i then (if D.sp < 1125899906842624 ∧ D.tm ≤ 1125899906842624 - D.cs.getD a.toNat 0 then 0 else 11) else 2) else 10
noncomputable def DD.stp (D : DD) (a : Int) : DD :=
  { D with s := (nN D.nx D.s.toNat a.toNat : Int), sp := D.sp + 1, tm := D.tm + D.cs.getD a.toNat 0, sd := Drs D.sd 10000, rdy := !crs (Drx D.sd 10000 : Int) D.f1 D.f2 D.f3 }
noncomputable def DD.stpD (D : DD) (a : Int) : DD := if D.stpE a = 0 then D.stp a else D
noncomputable def DD.stpO (D : DD) (a : Int) : Int := if D.stpE a = 0 then rcv (Drx D.sd 10000 : Int) D.f1 D.f2 (oN D.ot D.s.toNat a.toNat) else 0

/-- The steps of a query: the device, the outputs and the error. -/
noncomputable def qgo (D : DD) : List Int → List Int → DD × List Int × Int
  | [], acc => (D, acc, 0)
  | a :: w, acc =>
    if D.stpE a = 0 then
      (if D.stpO a = -1 ∨ (D.stpD a).rdy = false ∧ ¬ w = [] then (D.stpD a, [], 14) else qgo (D.stpD a) w (acc ++ [D.stpO a]))
    else (D, [], D.stpE a)
noncomputable def DD.qry (D : DD) (w : List Int) : DD × List Int × Int :=
  if D.canR then qgo D.rst w [] else (D, [], 11)

/-- The time of a query. -/
def dCost (cs : List Int) (rc : Int) (w : List Int) : Int := w.foldl (fun n a => n + cs.getD a.toNat 0) rc
def dCostE (cs : List Int) (rc : Int) (w : List Int) : Int :=
  if (1 ≤ cs.length ∧ cs.length ≤ 64) ∧ dAff cs rc then chk w cs.length else 2
def dCostN (cs : List Int) (rc : Int) (w : List Int) : Int := if dCostE cs rc w = 0 then dCost cs rc w else 0
end Go.Proofs.Ytcoihbpadbnilaa
end

section
/- Rows of numbers that a call owns: what they read as; append of a list that reads as numbers. -/
namespace Go.Proofs.Ytcoihbpadbnilaa
open Go.RowKit

theorem info3 : (Try.prog.info? 3).map (fun i => (i.zero, i.size, i.bytes)) = some (some (.int .i64 0), 1, 8) := by kernel_rfl

/-- The slice value v is a row of the numbers xs in a block from base on, which the call may write. -/
def Owned (w : World) (base : Nat) (v : Value) (xs : List Int) : Prop := w.ownsRow base 3 1 v xs.length (xs.map (Value.int .i64))

theorem Owned.form {w : World} {base : Nat} {v : Value} {xs : List Int} (h : Owned w base v xs) : ∃ A c, v = .slice A xs.length c := by
  rcases h.2 with ⟨rfl, h0⟩ | ⟨g, cap, cur, rfl, _⟩
  · exact ⟨none, 0, by rw [h0]⟩
  · exact ⟨_, _, rfl⟩

theorem Owned.ints {w : World} {base : Nat} {A : Option Addr} {n c : Nat} {xs : List Int} (h : Owned w base (.slice A n c) xs) (hm : xs.length ≤ 17592186044416) : Ints w A n xs := by
  have hn : n = xs.length := by obtain ⟨A', c', e⟩ := h.form; cases e; rfl
  subst hn
  refine ⟨rfl, hm, fun h0 => ?_⟩
  rcases h.2 with ⟨e, h1⟩ | ⟨g, cap, cur, e, _, hg, _⟩
  · omega
  · cases e
    refine ⟨g, 0, rfl, ?_, fun j hj => ?_⟩
    · rcases Nat.lt_or_ge g w.heap.size with hlt | hge
      · exact hlt
      · rw [Array.getElem?_eq_none hge] at hg; cases hg
    · have := World.ownsRow.cellAt h j (by omega)
      rw [Nat.zero_add, this]
      simp [List.getD, hj]

theorem Owned.nil (w : World) (base : Nat) : Owned w base (.slice none 0 0) [] := World.ownsRow_nil _ _ _ _

/-- An owned row is still owned where only blocks below its base, or new ones, have turned. -/
theorem Owned.kept {w w' : World} {base : Nat} {v : Value} {xs : List Int} (h : Owned w base v xs) (hb : Below w.heap.size w w') : Owned w' base v xs := by
  refine ⟨h.1, ?_⟩
  rcases h.2 with e | ⟨g, cap, cur, hv, hbg, hg, r⟩
  · exact .inl e
  · refine .inr ⟨g, cap, cur, hv, hbg, ?_, r⟩
    rw [hb.block g ?_]
    · exact hg
    · rcases Nat.lt_or_ge g w.heap.size with hlt | hge
      · exact hlt
      · rw [Array.getElem?_eq_none hge] at hg; cases hg

theorem Owned.lower {w : World} {base base' : Nat} {v : Value} {xs : List Int} (h : Owned w base v xs) (hb : base' ≤ base) : Owned w base' v xs := by
  refine ⟨h.1, ?_⟩
  rcases h.2 with e | ⟨g, cap, cur, hv, hbg, r⟩
  · exact .inl e
  · exact .inr ⟨g, cap, cur, hv, by omega, r⟩

theorem run_append_none (w : World) (base c : Nat) (i : TypeInfo) (hi : Try.prog.info? 3 = some i) (v : Value) (xs : List Int) (h : Owned w base v xs) :
    (Builtin.append_ #[25, 25] 25 #[v, .slice none 0 c]).run Try.prog w = .ok v w := by
  rcases h.2 with ⟨rfl, _⟩ | ⟨g, cap, cur, rfl, _, _, hnc, _⟩
  · simp [Builtin.append_, run_underlying Try.underlying25, sizeOf, typeInfo, hi, Builtin.lenOf, Builtin.firstCells]
  · simp [Builtin.append_, run_underlying Try.underlying25, sizeOf, typeInfo, hi, Builtin.lenOf, Builtin.firstCells, hnc, storeCells]

/-- append(v, ys...) onto an owned row. -/
theorem run_append_ints (w : World) (base : Nat) (v : Value) (xs ys : List Int) (A : Option Addr) (m c : Nat) (h : Owned w base v xs) (hy : Ints w A m ys)
    (hbase : base ≤ w.heap.size) (hlen : (xs ++ ys).length ≤ 17592186044416) :
    ∃ v' w', (Builtin.append_ #[25, 25] 25 #[v, .slice A m c]).run Try.prog w = .ok v' w' ∧ Owned w' base v' (xs ++ ys) ∧ w.grownBy w' v.ownBlock ∧ Below base w w' := by
  obtain ⟨i, hi, hz0, hz1, hz2⟩ := info_parts info3
  have hsplit : ∀ k, v.ownBlock = some k → base ≤ k := fun k hk => (World.ownsRow.lt h k hk).1
  rcases Nat.eq_zero_or_pos m with h0 | h0
  · have hys : ys = [] := List.eq_nil_of_length_eq_zero (by rw [hy.1, h0])
    subst h0 hys
    cases A with
    | none => exact ⟨v, w, run_append_none w base c i hi v xs h, by simpa using h, World.grownBy.refl w _, Below.refl _ _⟩
    | some a =>
      obtain ⟨v', w', hr, h1, h2, _⟩ := run_append_own (P := Try.prog) w base 25 25 3 i (.int .i64 0) 1 8 Try.underlying25 hi hz0 hz1 hz2 rfl (by decide) v _ _ h a 0 c [] (by simp) (by simp) (by simp)
        (by have := h.1; simp at hlen; unfold maxLen; omega) (by simp at hlen; omega) hbase
      exact ⟨v', w', hr, by unfold Owned; simpa using h1, h2, (Below.refl _ _).grown h2 hbase hsplit⟩
  · obtain ⟨b, off, rfl, hb, hc⟩ := hy.2.2 h0
    obtain ⟨v', w', hr, h1, h2, _⟩ := run_append_own (P := Try.prog) w base 25 25 3 i (.int .i64 0) 1 8 Try.underlying25 hi hz0 hz1 hz2 rfl (by decide) v _ _ h ⟨b, off, none⟩ m c (ys.map (Value.int .i64))
      (by simp [hy.1])
      (by
        intro j u hu
        have hj : j < ys.length := by
          rcases Nat.lt_or_ge j ys.length with hlt | hge
          · exact hlt
          · rw [List.getElem?_eq_none (by simpa using hge)] at hu; cases hu
        have hcj := hc j (by rw [← hy.1]; exact hj)
        rw [List.getElem?_map, List.getElem?_eq_getElem hj] at hu
        simp only [Option.map_some, Option.some.injEq] at hu
        subst hu
        rw [show (⟨b, off, none⟩ : Addr).add j = ⟨b, off + j, none⟩ by unfold Addr.add; split <;> simp_all]
        rw [hcj]; simp [List.getD, hj])
      (by intro u hu; simp at hu; obtain ⟨a, _, rfl⟩ := hu; rfl)
      (by rw [List.length_append] at hlen; rw [← hy.1]; unfold maxLen; omega) (by rw [List.length_append] at hlen; rw [← hy.1]; omega) hbase
    refine ⟨v', w', hr, ?_, h2, (Below.refl _ _).grown h2 hbase hsplit⟩
    unfold Owned
    rw [List.length_append, List.map_append, hy.1]
    exact h1

theorem Owned.head {w : World} {base n c : Nat} {A : Option Addr} {xs : List Int} (h : Owned w base (.slice A n c) xs) (h0 : 0 < n) :
    ∃ g, A = some ⟨g, 0, none⟩ ∧ base ≤ g ∧ g < w.heap.size ∧ ∀ j, w.frozen? ⟨g, j, none⟩ = false := by
  have h' := h
  obtain ⟨A', c', e⟩ := h'.form
  cases e
  rcases h.2 with ⟨e, h1⟩ | ⟨g, cap, cur, e, hb, hg, _⟩
  · omega
  · cases e
    refine ⟨g, rfl, hb, ?_, fun j => frozen_of_row w g j cur 3 hg⟩
    rcases Nat.lt_or_ge g w.heap.size with hlt | hge
    · exact hlt
    · rw [Array.getElem?_eq_none hge] at hg; cases hg

theorem Owned.stored {w : World} {base g n c : Nat} {xs : List Int} (h : Owned w base (.slice (some ⟨g, 0, none⟩) n c) xs) (j : Nat) (u : Int) :
    Owned (w.setCell ⟨g, j, none⟩ (.int .i64 u)) base (.slice (some ⟨g, 0, none⟩) n c) (xs.set j u) := by
  have hf := h.form
  obtain ⟨A', c', e⟩ := hf
  cases e
  have := (World.ownsRow.stored h j (.int .i64 u)).1
  unfold Owned
  rw [List.length_set, List.map_set]
  exact this

theorem Owned.literal (w : World) (base : Nat) (xs : List Int) (cs : Array Value) (n : Nat) (hb : base ≤ w.heap.size) (hcs : cs = (xs.map (Value.int .i64)).toArray) (hn : n = xs.length) (hm : xs.length ≤ 17592186044416) :
    Owned (w.alloc (.cells cs 3)) base (.slice (some ⟨w.heap.size, 0, none⟩) n n) xs := by
  subst hcs hn
  have := World.ownsRow_lit (e := 3) (size := 1) w (xs.map (Value.int .i64)).toArray xs.length hb (by unfold maxLen; omega) (by simp)
  unfold Owned
  simpa using this

theorem made_ints (n : Nat) : (madeCells (Value.int .i64 0).cells (n * 1)).toList = (List.replicate n (0 : Int)).map (Value.int .i64) := by
  rw [show (Value.int IntKind.i64 0).cells = #[Value.int .i64 0] from rfl, Nat.mul_one, toList_madeCells_one, List.map_replicate]

/-- make([]int, n). -/
theorem wpList_make_ints {ops : Array Oper} {rest : List Oper} {o : Oper} {a : Act} {Q : Exit → Act → World → Prop} (w : World) (hg : o.guard = none) (l c : Operand) (hop : o.op = Op.makeSlice 25 l c)
    (kl kc : IntKind) (n : Nat) (hl : a.eval l = .int kl n) (hc : a.eval c = .int kc n) (hn : n ≤ 17592186044416)
    (hK : ∀ w', Owned w' w.heap.size (.slice (some ⟨w.heap.size, 0, none⟩) n n) (List.replicate n 0) → Below w.heap.size w w' → wpList Try.prog ops Q rest (a.put o.dst (.slice (some ⟨w.heap.size, 0, none⟩) n n)) w') :
    wpList Try.prog ops Q (o :: rest) a w := by
  obtain ⟨i, hi, hz0, hz1, hz2⟩ := info_parts info3
  refine wpList_make_full w hg l c 25 hop w.heap.size 3 i _ 1 Try.underlying25 hi hz0 hz1 kl kc _ _ n hl hc rfl rfl (by rw [hz2]; omega) (by unfold maxLen; omega) (Nat.le_refl _) ?_
  intro w' h1 h2
  refine hK w' ?_ ((Below.refl _ _).grown h2 (Nat.le_refl _) (fun k hk => by cases hk))
  unfold Owned
  rw [← made_ints, List.length_replicate]
  exact h1
end Go.Proofs.Ytcoihbpadbnilaa
end

section
/- Lists of lists, and the reference's Join. -/
namespace Go.Proofs.Ytcoihbpadbnilaa
open Go.RowKit

/-- The slice '.slice A n _' holds the lists xss. -/
def Lists (w : World) (A : Option Addr) (n : Nat) (xss : List (List Int)) : Prop :=
  xss.length = n ∧ n ≤ 17592186044416 ∧ (0 < n → ∃ b off, A = some ⟨b, off, none⟩ ∧ b < w.heap.size ∧
    ∀ j, j < n → ∃ Aj nj cj, w.cell? ⟨b, off + j, none⟩ = some (.slice Aj nj cj) ∧ Ints w Aj nj (xss.getD j []))

theorem Lists.below {w w' : World} {A : Option Addr} {n : Nat} {xss : List (List Int)} (h : Lists w A n xss) (hb : Below w.heap.size w w') : Lists w' A n xss :=
  ⟨h.1, h.2.1, fun hn => by
    obtain ⟨b, off, e, hlt, hc⟩ := h.2.2 hn
    refine ⟨b, off, e, Nat.lt_of_lt_of_le hlt hb.size, fun j hj => ?_⟩
    obtain ⟨Aj, nj, cj, h1, h2⟩ := hc j hj
    exact ⟨Aj, nj, cj, (hb.cell hlt).trans h1, h2.below hb⟩⟩

theorem Lists.at_ {w : World} {A : Option Addr} {n : Nat} {xss : List (List Int)} (h : Lists w A n xss) {k : Nat} (hk : k < n) :
    ∃ b off Aj nj cj, A = some ⟨b, off, none⟩ ∧ b < w.heap.size ∧ w.cell? ⟨b, off + k, none⟩ = some (.slice Aj nj cj) ∧ Ints w Aj nj (xss.getD k []) := by
  obtain ⟨b, off, e, hlt, hc⟩ := h.2.2 (by omega)
  obtain ⟨Aj, nj, cj, h1, h2⟩ := hc k hk
  exact ⟨b, off, Aj, nj, cj, e, hlt, h1, h2⟩

/-- The first j lists, one after the other. -/
def cat (xss : List (List Int)) (j : Nat) : List Int := (xss.take j).flatten

theorem cat_zero (xss : List (List Int)) : cat xss 0 = [] := by simp [cat]
theorem cat_succ {xss : List (List Int)} {j : Nat} (h : j < xss.length) : cat xss (j + 1) = cat xss j ++ xss.getD j [] := by
  unfold cat
  rw [List.take_succ_eq_append_getElem h, List.flatten_append]
  simp [List.getD, h]
theorem cat_all (xss : List (List Int)) : cat xss xss.length = xss.flatten := by simp [cat]
theorem cat_len (xss : List (List Int)) (j : Nat) : (cat xss j).length ≤ xss.flatten.length := by
  have h : xss.flatten = cat xss j ++ (xss.drop j).flatten := by unfold cat; rw [← List.flatten_append, List.take_append_drop]
  rw [h, List.length_append]; omega


end Go.Proofs.Ytcoihbpadbnilaa
end

section
/- Lists that agree; readers that draw more. -/
namespace Go.Proofs.Ytcoihbpadbnilaa
open Go.RowKit

/-- Two lists agree on the first j. -/
def AgreeL {α : Type} (d : α) (xs ys : List α) (j : Nat) : Prop := ∀ m, m < j → xs.getD m d = ys.getD m d
theorem AgreeL.zero {α : Type} (d : α) (xs ys : List α) : AgreeL d xs ys 0 := fun m h => absurd h (by omega)
theorem AgreeL.succ {α : Type} {d : α} {xs ys : List α} {j : Nat} (h : AgreeL d xs ys j) (e : xs.getD j d = ys.getD j d) : AgreeL d xs ys (j + 1) := fun m hm => by
  by_cases e2 : m = j
  · subst e2; exact e
  · exact h m (by omega)
theorem AgreeL.all {α : Type} {d : α} {xs ys : List α} {n : Nat} (h : AgreeL d xs ys n) (h1 : xs.length = n) (h2 : ys.length = n) : xs = ys := by
  apply List.ext_getElem (by omega)
  intro m a b
  have := h m (by omega)
  rw [List.getD_eq_getElem?_getD, List.getD_eq_getElem?_getD, List.getElem?_eq_getElem a, List.getElem?_eq_getElem b] at this
  exact this

theorem drew_more {w wr : World} (h : ∃ q, wr = w.drewN q) (n : Nat) : ∃ q, wr.drewN n = w.drewN q := by
  obtain ⟨q, rfl⟩ := h
  exact ⟨_, World.drewN_drewN _ _ _⟩
theorem ret_bool {a b : Bool} (h : a = b) : Ending.returned (.bool a) = .returned (.bool b) := by rw [h]
end Go.Proofs.Ytcoihbpadbnilaa
end

section
/- What the rows hand over of a slice of numbers, in the words of these proofs. -/
namespace Go.Proofs.Ytcoihbpadbnilaa
open Go.RowKit

theorem block_lt {w : World} {p : Addr} {v : Value} (h : w.cell? p = some v) : p.block < w.heap.size := by
  rcases Nat.lt_or_ge p.block w.heap.size with hlt | hge
  · exact hlt
  · unfold World.cell? at h
    rw [Array.getElem?_eq_none hge] at h
    simp at h

theorem Ints.of_in {w : World} {A : Option Addr} {n cap : Nat} {zs : List Int} (hn : n ≤ 17592186044416)
    (h : (A = none ∧ n = 0 ∧ cap = 0 ∧ zs = []) ∨
      ∃ x, A = some x ∧ n ≤ cap ∧ cap ≤ maxLen ∧ zs.length = cap ∧ (∀ i, i < zs.length → w.cell? (x.add i) = some (.int .i64 (zs.getD i 0))) ∧ ∀ n ∈ zs, (Lit.int .i64 n).wf = true) :
    Ints w A n (zs.take n) := by
  rcases h with ⟨rfl, rfl, rfl, rfl⟩ | ⟨x, rfl, h1, _, h2, hc, _⟩
  · exact ⟨rfl, by omega, fun h => absurd h (by omega)⟩
  · refine ⟨by rw [List.length_take]; omega, hn, fun h0 => ?_⟩
    obtain ⟨b, off, spot⟩ := x
    have hc0 := hc 0 (by omega)
    have hspot : spot = none := by simpa [Addr.add] using World.cell?_spot hc0
    subst hspot
    refine ⟨b, off, rfl, by have := block_lt hc0; simpa [Addr.add] using this, fun j hj => ?_⟩
    have := hc j (by omega)
    rw [show (⟨b, off, none⟩ : Addr).add j = ⟨b, off + j, none⟩ by unfold Addr.add; split <;> simp_all] at this
    rw [this]
    simp [List.getD, hj]

theorem Owned.look {w : World} {base : Nat} {v : Value} {xs : List Int} (h : Owned w base v xs) (hm : xs.length ≤ 17592186044416) : ∃ A n c, v = .slice A n c ∧ Ints w A n xs := by
  obtain ⟨A, c, rfl⟩ := h.form
  exact ⟨A, _, c, rfl, h.ints hm⟩
end Go.Proofs.Ytcoihbpadbnilaa
end

section

/- Plain functions on lists of numbers: the longest common beginning, both orders. No program. -/
namespace Go.Proofs.Ytcoihbpadbnilaa

/-- The length of the longest list that begins both. -/
def cmn : List Int → List Int → Nat
  | a :: as1, b :: bs => if a = b then cmn as1 bs + 1 else 0
  | _, _ => 0

theorem cmn_le_left (xs ys : List Int) : cmn xs ys ≤ xs.length := by
  induction xs generalizing ys with
  | nil => simp [cmn]
  | cons a as1 ih =>
    cases ys with
    | nil => simp [cmn]
    | cons b bs =>
      rw [cmn]
      split
      · have := ih bs; simp; omega
      · omega

theorem cmn_comm (xs ys : List Int) : cmn xs ys = cmn ys xs := by
  induction xs generalizing ys with
  | nil => cases ys <;> simp [cmn]
  | cons a as1 ih =>
    cases ys with
    | nil => simp [cmn]
    | cons b bs =>
      rw [cmn, cmn, ih bs]
      by_cases h : a = b
      · rw [if_pos h, if_pos h.symm]
      · rw [if_neg h, if_neg fun e => h e.symm]

theorem cmn_le_right (xs ys : List Int) : cmn xs ys ≤ ys.length := by rw [cmn_comm]; exact cmn_le_left ys xs

/-- The first j numbers of both are the same. -/
def Agree (xs ys : List Int) (j : Nat) : Prop := ∀ m, m < j → xs.getD m 0 = ys.getD m 0

theorem Agree.zero (xs ys : List Int) : Agree xs ys 0 := fun m hm => absurd hm (by omega)
theorem Agree.succ {xs ys : List Int} {j : Nat} (h : Agree xs ys j) (e : xs.getD j 0 = ys.getD j 0) : Agree xs ys (j + 1) := fun m hm => by
  by_cases h' : m = j
  · subst h'; exact e
  · exact h m (by omega)

theorem cmn_agree (xs ys : List Int) : Agree xs ys (cmn xs ys) := by
  induction xs generalizing ys with
  | nil => simp [cmn, Agree.zero]
  | cons a as1 ih =>
    cases ys with
    | nil => simp [cmn, Agree.zero]
    | cons b bs =>
      rw [cmn]
      split
      · rename_i h
        intro m hm
        cases m with
        | zero => simpa using h
        | succ m => simpa using ih bs m (by omega)
      · exact Agree.zero _ _

theorem cmn_part (xs ys : List Int) (h1 : cmn xs ys < xs.length) (h2 : cmn xs ys < ys.length) : xs.getD (cmn xs ys) 0 ≠ ys.getD (cmn xs ys) 0 := by
  induction xs generalizing ys with
  | nil => simp at h1
  | cons a as1 ih =>
    cases ys with
    | nil => simp at h2
    | cons b bs =>
      rw [cmn] at h1 h2 ⊢
      split
      · rename_i h
        rw [if_pos h] at h1 h2
        simpa using ih bs (by simpa using h1) (by simpa using h2)
      · rename_i h; simpa using h

theorem cmn_eq {xs ys : List Int} {j : Nat} (h1 : j ≤ xs.length) (h2 : j ≤ ys.length) (ha : Agree xs ys j) (he : j = xs.length ∨ j = ys.length ∨ xs.getD j 0 ≠ ys.getD j 0) : cmn xs ys = j := by
  have l1 := cmn_le_left xs ys
  have l2 := cmn_le_right xs ys
  rcases Nat.lt_trichotomy (cmn xs ys) j with h | h | h
  · exact absurd (ha _ h) (cmn_part xs ys (by omega) (by omega))
  · exact h
  · rcases he with e | e | e
    · omega
    · omega
    · exact absurd (cmn_agree xs ys j h) e

/-- Dictionary order. -/
def lexi (xs ys : List Int) : Int :=
  if cmn xs ys = xs.length ∧ cmn xs ys = ys.length then 0
  else if cmn xs ys = xs.length ∨ (cmn xs ys < ys.length ∧ xs.getD (cmn xs ys) 0 < ys.getD (cmn xs ys) 0) then -1 else 1

/-- The order of two numbers. -/
def cmpI (a b : Int) : Int := if a < b then -1 else if b < a then 1 else 0

/-- Shortlex order. -/
def shlex (xs ys : List Int) : Int :=
  if xs.length < ys.length then -1 else if ys.length < xs.length then 1 else lexi xs ys

theorem lexi_of {xs ys : List Int} {j : Nat} (h1 : j < xs.length) (h2 : j < ys.length) (ha : Agree xs ys j) (he : xs.getD j 0 ≠ ys.getD j 0) : lexi xs ys = cmpI (xs.getD j 0) (ys.getD j 0) := by
  have e := cmn_eq (by omega) (by omega) ha (.inr (.inr he))
  unfold lexi cmpI
  rw [e, if_neg (by omega)]
  by_cases h : xs.getD j 0 < ys.getD j 0
  · rw [if_pos (.inr ⟨h2, h⟩), if_pos h]
  · rw [if_neg (by omega), if_neg h, if_pos (by omega)]

theorem lexi_long {xs ys : List Int} (h : ys.length < xs.length) (ha : Agree xs ys ys.length) : lexi xs ys = 1 := by
  have e := cmn_eq (j := ys.length) (by omega) (by omega) ha (.inr (.inl rfl))
  unfold lexi
  rw [e, if_neg (by omega), if_neg (by omega)]

theorem lexi_short {xs ys : List Int} (h : xs.length < ys.length) (ha : Agree xs ys xs.length) : lexi xs ys = -1 := by
  have e := cmn_eq (j := xs.length) (by omega) (by omega) ha (.inl rfl)
  unfold lexi
  rw [e, if_neg (by omega), if_pos (.inl rfl)]

theorem lexi_same {xs ys : List Int} (h : xs.length = ys.length) (ha : Agree xs ys xs.length) : lexi xs ys = 0 := by
  have e := cmn_eq (j := xs.length) (by omega) (by omega) ha (.inl rfl)
  unfold lexi
  rw [e, if_pos ⟨rfl, h⟩]

theorem cmn_full {xs ys : List Int} (h : xs.length = ys.length) : cmn xs ys = xs.length ↔ xs = ys := by
  constructor
  · intro e
    have ha := cmn_agree xs ys
    rw [e] at ha
    apply List.ext_getElem h
    intro m h1 h2
    have := ha m h1
    simpa [List.getD, h1, h2] using this
  · rintro rfl
    exact cmn_eq (Nat.le_refl _) (Nat.le_refl _) (fun _ _ => rfl) (.inl rfl)
end Go.Proofs.Ytcoihbpadbnilaa
end

section
/- The reference: Common and Same. -/
namespace Go.Proofs.Ytcoihbpadbnilaa
open Go.RowKit

set_option maxHeartbeats 400000 in
theorem rcommon (A B : Option Addr) (n c m d : Nat) (xs ys : List Int) (w : World) (hx : Ints w A n xs) (hy : Ints w B m ys) :
    Calls Try.prog 45 #[.slice A n c, .slice B m d] w fun e w' => e = .returned (.int .i64 (cmn xs ys)) ∧ ∃ q, w' = w.drewN q := by
  have L1 := Lib.hid hx.1
  have L2 := Lib.hid hy.1
  have hn := hx.2.1
  have hm := hy.2.1
  go_enter Try.func45, Try.ntmps45
  go_wp2
  go_loopw [5] (fun i wr => ∃ j : Nat, j ≤ n ∧ j ≤ m ∧ i = .int .i64 j ∧ Agree xs ys j ∧ ∃ q, wr = w.drewN q) (fun i _ => n - (intOf i).toNat)
  case atStart => exact ⟨0, Nat.zero_le _, Nat.zero_le _, rfl, Agree.zero _ _, 0, rfl⟩
  case round =>
    obtain ⟨j, hj1, hj2, rfl, ha, q, rfl⟩ := hrel
    by_cases hl1 : j < n
    · by_cases hl2 : j < m
      · have d1 : decide ((j : Int) < (n : Int)) = true := by simp; omega
        have d2 : decide ((j : Int) < (m : Int)) = true := by simp; omega
        obtain ⟨b1, o1, rfl, _, hc1⟩ := hx.at_ (k := j) (by omega)
        obtain ⟨b2, o2, rfl, _, hc2⟩ := hy.at_ (k := j) (by omega)
        by_cases he : xs[j]?.getD 0 = ys[j]?.getD 0
        · have ha' := Lib.hid (ha.succ (by simpa using he))
          have hb : (xs[j]?.getD 0 == ys[j]?.getD 0) = true := by simp [he]
          have hE := Lib.hid he
          clear he ha
          go_wp2
          go_quiet (fail)
          go_wp2
          go_roundw
          case rel => exact ⟨j + 1, by omega, by omega, by go_num, ha'.out, by first | exact ⟨_, rfl⟩ | exact ⟨_, World.drewN_drewN _ _ _⟩⟩
          case measure => simp [intOf]; omega
        · have hfin := Lib.hid (cmn_eq (j := j) (by rw [L1.out]; omega) (by rw [L2.out]; omega) ha (.inr (.inr (by simpa using he))))
          have hb : (xs[j]?.getD 0 == ys[j]?.getD 0) = false := by simpa using he
          clear he ha
          go_wp2
          go_quiet (fail)
          go_wp2
          go_ret
          exact ⟨ret_int (by rw [hfin.out]), by first | exact ⟨_, rfl⟩ | exact ⟨_, World.drewN_drewN _ _ _⟩⟩
      · have hfin := Lib.hid (cmn_eq (j := j) (by rw [L1.out]; omega) (by rw [L2.out]; omega) ha (by rw [L1.out, L2.out]; omega))
        have d1 : decide ((j : Int) < (n : Int)) = true := by simp; omega
        have d2 : decide ((j : Int) < (m : Int)) = false := by simp; omega
        clear ha
        go_wp2
        go_quiet (fail)
        go_wp2
        go_ret
        exact ⟨ret_int (by rw [hfin.out]), by first | exact ⟨_, rfl⟩ | exact ⟨_, World.drewN_drewN _ _ _⟩⟩
    · have hfin := Lib.hid (cmn_eq (j := j) (by rw [L1.out]; omega) (by rw [L2.out]; omega) ha (by rw [L1.out, L2.out]; omega))
      have d1 : decide ((j : Int) < (n : Int)) = false := by simp; omega
      clear ha
      go_wp2
      go_quiet (fail)
      go_wp2
      go_ret
      exact ⟨ret_int (by rw [hfin.out]), by first | exact ⟨_, rfl⟩ | exact ⟨_, World.drewN_drewN _ _ _⟩⟩

theorem rsame (A B : Option Addr) (n c m d : Nat) (xs ys : List Int) (b : Bool) (w : World) (hx : Ints w A n xs) (hy : Ints w B m ys) (hb : b = true ↔ xs = ys) :
    Calls Try.prog 23 #[.slice A n c, .slice B m d] w fun e w' => e = .returned (.bool b) ∧ ∃ q, w' = w.drewN q := by
  have L1 := Lib.hid hx.1
  have L2 := Lib.hid hy.1
  by_cases hnm : n = m
  · subst hnm
    have hq : ((cmn xs ys : Int) == (n : Int)) = b := by
      have := cmn_full (xs := xs) (ys := ys) (by rw [L1.out, L2.out])
      rw [L1.out] at this
      rw [Bool.eq_iff_iff, hb, ← this]; simp; omega
    have HQ := Lib.hid hq
    clear hq hb
    go_enter Try.func23, Try.ntmps23
    go_wp2_with (go_at_call 45; refine (rcommon _ _ _ _ _ _ xs ys _ hx hy).mono ?_; rintro e w' ⟨rfl, q, rfl⟩)
    go_ret
    exact ⟨by rw [HQ.out]; rfl, _, rfl⟩
  · obtain rfl : b = false := by
      cases b
      · rfl
      · exact absurd (by rw [← L1.out, ← L2.out, hb.1 rfl]) hnm
    have hd : ((n : Int) == (m : Int)) = false := by simp; omega
    clear hb
    go_enter Try.func23, Try.ntmps23
    go_wp2
    go_ret
    exact ⟨rfl, 0, rfl⟩
end Go.Proofs.Ytcoihbpadbnilaa
end

section
/- Literals, and what readers and makers leave. -/
namespace Go.Proofs.Ytcoihbpadbnilaa
open Go.RowKit

/-- Calls of readers give Below. -/
theorem rd_below {w w' : World} (h : ∃ q, w' = w.drewN q) : Below w.heap.size w w' := by obtain ⟨q, rfl⟩ := h; exact below_drewN (Below.refl _ _) q

theorem alloc_below (w : World) (o : Obj) : Below w.heap.size w (w.alloc o) := (Below.refl _ _).alloc (Nat.le_refl _) _

/-- The list xs as a literal's cells. -/
def lit (xs : List Int) : Array Value := (xs.map (Value.int .i64)).toArray

theorem bt {a b c : World} (h : Below a.heap.size a b) (k : Below b.heap.size b c) : Below a.heap.size a c := h.trans (k.mono h.size)

theorem Ints.none_ (w : World) : Ints w none 0 [] := ⟨rfl, by omega, fun h => absurd h (by omega)⟩

/-- Same of a list and a literal that is equal to it. -/
theorem same_lit (w : World) (A : Option Addr) (n c : Nat) (cs : Array Value) (m : Nat) (xs : List Int) (h : Ints w A n xs) (h1 : cs = lit xs) (h2 : m = xs.length) (l1 : xs.length ≤ 1000) :
    Calls Try.prog 23 #[.slice A n c, .slice (some ⟨w.heap.size, 0, none⟩) m m] (w.alloc (.cells cs 3)) fun e w' => e = .returned (.bool true) ∧ Below w.heap.size w w' := by
  refine (rsame _ _ _ _ _ _ xs xs true _ (h.below (alloc_below w _)) (Ints.new w xs cs m h1 h2 (by omega)) (by simp)).mono ?_
  rintro e w' ⟨rfl, hq⟩
  exact ⟨rfl, (alloc_below w _).trans ((rd_below hq).mono (by simp))⟩
end Go.Proofs.Ytcoihbpadbnilaa
end

section
/- A machine in memory: isState, and the error of a row, by the two texts. -/
namespace Go.Proofs.Ytcoihbpadbnilaa
open Go.RowKit

theorem box_cells {w wr : World} {cs : Array Value} {t : TypeId} (hb : Below (w.heap.size + 1) (w.alloc (.cells cs t)) wr) (k : Nat) : wr.cell? ⟨w.heap.size, k, none⟩ = cs[k]? := by
  rw [hb.cell (by simp)]
  exact cell_of_row (w.alloc (.cells cs t)) w.heap.size k cs t (0, 0) (heap_alloc_new w _)
theorem box4 {w wr : World} {a b c d : Value} {t : TypeId} (hb : Below (w.heap.size + 1) (w.alloc (.cells #[a, b, c, d] t)) wr) :
    wr.cell? ⟨w.heap.size, 0, none⟩ = some a ∧ wr.cell? ⟨w.heap.size, 1, none⟩ = some b ∧ wr.cell? ⟨w.heap.size, 2, none⟩ = some c ∧ wr.cell? ⟨w.heap.size, 3, none⟩ = some d :=
  ⟨box_cells hb 0, box_cells hb 1, box_cells hb 2, box_cells hb 3⟩

theorem pisst (i st : Int) (A B : Option Addr) (n c m d : Nat) (s : Int) (b : Bool) (w : World) (_ : n ≤ 17592186044416) (hb : b = decide (0 ≤ s ∧ s < n)) :
    Calls Try.prog 54 #[.agg #[.int .i64 i, .int .i64 st, .slice A n c, .slice B m d], .int .i64 s] w fun e w' => e = .returned (.bool b) ∧ Below w.heap.size w w' := by
  by_cases h1 : 0 ≤ s
  · by_cases h2 : s < n
    · have hf := Lib.hid (hb.trans (decide_eq_true ⟨h1, h2⟩))
      have d2 : decide (s < (n : Int)) = true := decide_eq_true h2
      clear hb
      go_enter Try.func54, Try.ntmps54
      go_wp2
      go_ret
      exact ⟨ret_bool hf.out.symm, alloc_below _ _⟩
    · have hf := Lib.hid (hb.trans (decide_eq_false (fun H => h2 H.2)))
      have d2 : decide (s < (n : Int)) = false := decide_eq_false h2
      clear hb
      go_enter Try.func54, Try.ntmps54
      go_wp2
      go_ret
      exact ⟨ret_bool hf.out.symm, alloc_below _ _⟩
  · have hf := Lib.hid (hb.trans (decide_eq_false (fun H => h1 H.1)))
    have d2 : decide ((0 : Int) ≤ s) = false := decide_eq_false h1
    clear hb
    go_enter Try.func54, Try.ntmps54
    go_wp2
    go_ret
    exact ⟨ret_bool hf.out.symm, alloc_below _ _⟩

set_option maxHeartbeats 2000000 in
set_option maxRecDepth 100000 in
theorem pvstate (i st : Int) (A B : Option Addr) (n c m d : Nat) (nx ot : List (List Int)) (s : Nat) (w : World) (hx : Lists w A n nx) (ho : Lists w B m ot) (hs1 : s < n) (hs2 : s < m) :
    Calls Try.prog 55 #[.agg #[.int .i64 i, .int .i64 st, .slice A n c, .slice B m d], .int .i64 s] w fun e w' => e = .returned (.int .i64 (rowE i n (nx.getD s []) (ot.getD s []))) ∧ Below w.heap.size w w' := by
  have hn := hx.2.1
  have hm := ho.2.1
  obtain ⟨g1, o1, A1, n1, c1, rfl, hg1, hc1, hr1⟩ := hx.at_ hs1
  obtain ⟨g2, o2, A2, n2, c2, rfl, hg2, hc2, hr2⟩ := ho.at_ hs2
  have hb0 := alloc_below w (.cells #[.int .i64 i, .int .i64 st, .slice (some ⟨g1, o1, none⟩) n c, .slice (some ⟨g2, o2, none⟩) m d] 24)
  have hn1 := hr1.2.1
  have hn2 := hr2.2.1
  have L1 := Lib.hid hr1.1
  have L2 := Lib.hid hr2.1
  generalize nx.getD s [] = r at hr1 L1
  generalize ot.getD s [] = o at hr2 L2
  by_cases e1 : (n1 : Int) = i
  · by_cases e2 : (n2 : Int) = i
    · obtain rfl : n1 = n2 := by omega
      subst e1
      clear e2
      have D1 : ((n1 : Int) != (n1 : Int)) = false := by simp
      go_enter Try.func55, Try.ntmps55
      go_wp2
      go_quiet (fail)
      go_wp2
      clear D1
      go_loopw [34] (fun i wr => ∃ j : Nat, j ≤ n1 ∧ i = .int .i64 j ∧ RowOk n r o j ∧ Below (w.heap.size + 1) (w.alloc (.cells #[.int .i64 n1, .int .i64 st, .slice (some ⟨g1, o1, none⟩) n c, .slice (some ⟨g2, o2, none⟩) m d] 24)) wr) (fun i _ => n1 - (intOf i).toNat)
      case atStart => exact ⟨0, Nat.zero_le _, rfl, RowOk.zero _ _ _, below_drewN (Below.refl _ _) _⟩
      case round =>
        obtain ⟨j, hj, rfl, hok, hbr⟩ := hrel
        have hbw := hb0.trans (hbr.mono (Nat.le_succ _))
        have hsz1 : w.heap.size + 1 ≤ wr.heap.size := by have := hbr.size; simpa using this
        have HK := Lib.hid hok
        clear hok
        by_cases hlt : j < n1
        · obtain ⟨b1, p1, rfl, _, hy1⟩ := (hr1.below hbw).at_ hlt
          obtain ⟨b2, p2, rfl, _, hy2⟩ := (hr2.below hbw).at_ hlt
          have hd1 := (hbw.cell (p := ⟨g1, o1 + s, none⟩) hg1).trans hc1
          have hd2 := (hbw.cell (p := ⟨g2, o2 + s, none⟩) hg2).trans hc2
          obtain ⟨k0, k1, k2, k3⟩ := box4 hbr
          have hsuc := fun h1 h2 h3 h4 => HK.out.succ (k := j) h1 h2 h3 h4
          have hbad := fun h => rowE_bad (i := n1) (n := n) (r := r) (o := o) (k := j) ⟨by rw [L1.out], by rw [L2.out]⟩ (by rw [L1.out]; exact hlt) h
          have HS := Lib.hid hsuc
          have HB := Lib.hid hbad
          clear hsuc hbad
          generalize r.getD j 0 = x at hy1 HS HB
          generalize o.getD j 0 = y at hy2 HS HB
          by_cases hx0 : 0 ≤ x ∧ x < n
          · have hdx : (true : Bool) = decide (0 ≤ x ∧ x < n) := (decide_eq_true hx0).symm
            by_cases hy0 : 0 ≤ y
            · by_cases hy3 : y ≤ 1048576
              · have hnx := Lib.hid (HS.out hx0.1 hx0.2 hy0 hy3)
                have hy4 : ¬ y < 0 := by omega
                have hy5 : ¬ 1048576 < y := by omega
                have HD := Lib.hid hdx
                clear hx0 hdx
                go_wp2_with fail
                refine (pisst _ _ _ _ _ _ _ _ _ _ _ hn HD.out).mono ?_
                rintro e w1 ⟨rfl, b1⟩
                go_wp2
                go_roundw
                case rel => exact ⟨j + 1, by omega, by go_num, hnx.out, hbr.trans (b1.mono hsz1)⟩
                case measure => simp [intOf]; omega
              · have hfin := Lib.hid (HB.out (fun H => hy3 H.2.2.2))
                have hy4 : ¬ y < 0 := by omega
                have hy5 : 1048576 < y := by omega
                have HD := Lib.hid hdx
                clear hx0 hdx
                go_wp2_with fail
                refine (pisst _ _ _ _ _ _ _ _ _ _ _ hn HD.out).mono ?_
                rintro e w1 ⟨rfl, b1⟩
                go_wp2
                go_ret
                exact ⟨ret_int hfin.out.symm, bt hbw b1⟩
            · have hfin := Lib.hid (HB.out (fun H => hy0 H.2.2.1))
              have hy4 : y < 0 := by omega
              have HD := Lib.hid hdx
              clear hx0 hdx
              go_wp2_with fail
              refine (pisst _ _ _ _ _ _ _ _ _ _ _ hn HD.out).mono ?_
              rintro e w1 ⟨rfl, b1⟩
              go_wp2
              go_ret
              exact ⟨ret_int hfin.out.symm, bt hbw b1⟩
          · have hfin := Lib.hid (HB.out (fun H => hx0 ⟨H.1, H.2.1⟩))
            have HD := Lib.hid (show (false : Bool) = decide (0 ≤ x ∧ x < n) from (decide_eq_false hx0).symm)
            clear hx0
            go_wp2_with fail
            refine (pisst _ _ _ _ _ _ _ _ _ _ _ hn HD.out).mono ?_
            rintro e w1 ⟨rfl, b1⟩
            go_wp2
            go_ret
            exact ⟨ret_int hfin.out.symm, bt hbw b1⟩
        · obtain rfl : j = n1 := by omega
          have hfin := Lib.hid (rowE_ok (i := j) (n := n) (r := r) (o := o) ⟨by rw [L1.out], by rw [L2.out]⟩ (by rw [L1.out]; exact HK.out))
          go_wp2
          go_ret
          exact ⟨ret_int hfin.out.symm, hbw⟩
    · have hfin := Lib.hid (rowE_len (i := i) (n := n) (r := r) (o := o) (fun H => e2 (by rw [← L2.out]; exact H.2)))
      have D1 : ((n1 : Int) != i) = false := by simp [e1]
      have D2 : ((n2 : Int) != i) = true := by simp [e2]
      clear e1 e2
      go_enter Try.func55, Try.ntmps55
      go_wp2
      go_quiet (fail)
      go_wp2
      go_ret
      exact ⟨ret_int hfin.out.symm, below_drewN hb0 _⟩
  · have hfin := Lib.hid (rowE_len (i := i) (n := n) (r := r) (o := o) (fun H => e1 (by rw [← L1.out]; exact H.1)))
    have D1 : ((n1 : Int) != i) = true := by simp [e1]
    clear e1
    go_enter Try.func55, Try.ntmps55
    go_wp2
    go_quiet (fail)
    go_wp2
    go_ret
    exact ⟨ret_int hfin.out.symm, below_drewN hb0 _⟩
end Go.Proofs.Ytcoihbpadbnilaa
end

section
/- Valid of a machine, and the reference's row, by the two texts. -/
namespace Go.Proofs.Ytcoihbpadbnilaa
open Go.RowKit

set_option maxHeartbeats 2000000 in
set_option maxRecDepth 100000 in
theorem rrow (i st : Int) (A B : Option Addr) (n c m d : Nat) (nx ot : List (List Int)) (s : Nat) (w : World) (hx : Lists w A n nx) (ho : Lists w B m ot) (hs1 : s < n) (hs2 : s < m) :
    Calls Try.prog 57 #[.agg #[.int .i64 i, .int .i64 st, .slice A n c, .slice B m d], .int .i64 s] w fun e w' => e = .returned (.int .i64 (rowE i n (nx.getD s []) (ot.getD s []))) ∧ Below w.heap.size w w' := by
  have hn := hx.2.1
  have hm := ho.2.1
  obtain ⟨g1, o1, A1, n1, c1, rfl, hg1, hc1, hr1⟩ := hx.at_ hs1
  obtain ⟨g2, o2, A2, n2, c2, rfl, hg2, hc2, hr2⟩ := ho.at_ hs2
  have hb0 := alloc_below w (.cells #[.int .i64 i, .int .i64 st, .slice (some ⟨g1, o1, none⟩) n c, .slice (some ⟨g2, o2, none⟩) m d] 24)
  have hn1 := hr1.2.1
  have hn2 := hr2.2.1
  have L1 := Lib.hid hr1.1
  have L2 := Lib.hid hr2.1
  generalize nx.getD s [] = r at hr1 L1
  generalize ot.getD s [] = o at hr2 L2
  by_cases e1 : (n1 : Int) = i
  · by_cases e2 : (n2 : Int) = i
    · obtain rfl : n1 = n2 := by omega
      subst e1
      clear e2
      have D1 : ((n1 : Int) != (n1 : Int)) = false := by simp
      go_enter Try.func57, Try.ntmps57
      go_wp2
      go_quiet (fail)
      go_wp2
      clear D1
      go_loopw [5] (fun i wr => ∃ j : Nat, j ≤ n1 ∧ i = .int .i64 j ∧ RowOk n r o j ∧ Below (w.heap.size + 1) (w.alloc (.cells #[.int .i64 n1, .int .i64 st, .slice (some ⟨g1, o1, none⟩) n c, .slice (some ⟨g2, o2, none⟩) m d] 24)) wr) (fun i _ => n1 - (intOf i).toNat)
      case atStart => exact ⟨0, Nat.zero_le _, rfl, RowOk.zero _ _ _, below_drewN (Below.refl _ _) _⟩
      case round =>
        obtain ⟨j, hj, rfl, hok, hbr⟩ := hrel
        have hbw := hb0.trans (hbr.mono (Nat.le_succ _))
        have hsz1 : w.heap.size + 1 ≤ wr.heap.size := by have := hbr.size; simpa using this
        have HK := Lib.hid hok
        clear hok
        obtain ⟨k0, k1, k2, k3⟩ := box4 hbr
        by_cases hlt : j < n1
        · obtain ⟨b1, p1, rfl, _, hy1⟩ := (hr1.below hbw).at_ hlt
          obtain ⟨b2, p2, rfl, _, hy2⟩ := (hr2.below hbw).at_ hlt
          have hd1 := (hbw.cell (p := ⟨g1, o1 + s, none⟩) hg1).trans hc1
          have hd2 := (hbw.cell (p := ⟨g2, o2 + s, none⟩) hg2).trans hc2
          have HS := Lib.hid (fun h1 h2 h3 h4 => HK.out.succ (k := j) h1 h2 h3 h4)
          have HB := Lib.hid (fun h => rowE_bad (i := n1) (n := n) (r := r) (o := o) (k := j) ⟨by rw [L1.out], by rw [L2.out]⟩ (by rw [L1.out]; exact hlt) h)
          generalize r.getD j 0 = x at hy1 HS HB
          generalize o.getD j 0 = y at hy2 HS HB
          by_cases hx1 : 0 ≤ x
          · have t1 : decide (x < 0) = false := by simpa using hx1
            by_cases hx2 : x < n
            · have t2 : decide ((n : Int) ≤ x) = false := by simpa using hx2
              by_cases hy0 : 0 ≤ y
              · have t3 : decide (y < 0) = false := by simpa using hy0
                by_cases hy3 : y ≤ 1048576
                · have t4 : decide (1048576 < y) = false := by simpa using hy3
                  have hnx := Lib.hid (HS.out hx1 hx2 hy0 hy3)
                  go_wp2
                  go_quiet (fail)
                  go_wp2
                  go_roundw
                  case rel => exact ⟨j + 1, by omega, by go_num, hnx.out, below_drewN hbr _⟩
                  case measure => simp [intOf]; omega
                · have t4 : decide (1048576 < y) = true := by simpa using hy3
                  have hfin := Lib.hid (HB.out (fun H => hy3 H.2.2.2))
                  go_wp2
                  go_quiet (fail)
                  go_wp2
                  go_ret
                  exact ⟨ret_int hfin.out.symm, below_drewN hbw _⟩
              · have t3 : decide (y < 0) = true := by simpa using hy0
                have hfin := Lib.hid (HB.out (fun H => hy0 H.2.2.1))
                go_wp2
                go_quiet (fail)
                go_wp2
                go_ret
                exact ⟨ret_int hfin.out.symm, below_drewN hbw _⟩
            · have t2 : decide ((n : Int) ≤ x) = true := by simpa using hx2
              have hfin := Lib.hid (HB.out (fun H => hx2 H.2.1))
              go_wp2
              go_quiet (fail)
              go_wp2
              go_ret
              exact ⟨ret_int hfin.out.symm, below_drewN hbw _⟩
          · have t1 : decide (x < 0) = true := by simpa using hx1
            have hfin := Lib.hid (HB.out (fun H => hx1 H.1))
            go_wp2
            go_quiet (fail)
            go_wp2
            go_ret
            exact ⟨ret_int hfin.out.symm, below_drewN hbw _⟩
        · obtain rfl : j = n1 := by omega
          have hfin := Lib.hid (rowE_ok (i := j) (n := n) (r := r) (o := o) ⟨by rw [L1.out], by rw [L2.out]⟩ (by rw [L1.out]; exact HK.out))
          go_wp2
          go_ret
          exact ⟨ret_int hfin.out.symm, hbw⟩
    · have hfin := Lib.hid (rowE_len (i := i) (n := n) (r := r) (o := o) (fun H => e2 (by rw [← L2.out]; exact H.2)))
      have D1 : ((n1 : Int) != i) = false := by simp [e1]
      have D2 : ((n2 : Int) != i) = true := by simp [e2]
      clear e1 e2
      go_enter Try.func57, Try.ntmps57
      go_wp2
      go_quiet (fail)
      go_wp2
      go_ret
      exact ⟨ret_int hfin.out.symm, below_drewN hb0 _⟩
  · have hfin := Lib.hid (rowE_len (i := i) (n := n) (r := r) (o := o) (fun H => e1 (by rw [← L1.out]; exact H.1)))
    have D1 : ((n1 : Int) != i) = true := by simp [e1]
    clear e1
    go_enter Try.func57, Try.ntmps57
    go_wp2
    go_quiet (fail)
    go_wp2
    go_ret
    exact ⟨ret_int hfin.out.symm, below_drewN hb0 _⟩

set_option maxHeartbeats 2000000 in
set_option maxRecDepth 100000 in
theorem pvalid (i st : Int) (A B : Option Addr) (n c m d : Nat) (nx ot : List (List Int)) (w : World) (hx : Lists w A n nx) (ho : Lists w B m ot) :
    Calls Try.prog 34 #[.agg #[.int .i64 i, .int .i64 st, .slice A n c, .slice B m d]] w fun e w' => e = .returned (.int .i64 (vld i st nx ot)) ∧ Below w.heap.size w w' := by
  have L1 := Lib.hid hx.1
  have L2 := Lib.hid ho.1
  have hn := hx.2.1
  have hm := ho.2.1
  have hb0 := alloc_below w (.cells #[.int .i64 i, .int .i64 st, .slice A n c, .slice B m d] 24)
  have hsz0 : (w.alloc (.cells #[.int .i64 i, .int .i64 st, .slice A n c, .slice B m d] 24)).heap.size = w.heap.size + 1 := by simp
  have HZ := Lib.hid hsz0
  clear hsz0
  by_cases hi : 1 ≤ i ∧ i ≤ 64
  · have HI := Lib.hid hi
    obtain ⟨hi1, hi2⟩ := hi
    have i1 : decide (i < 1) = false := by simpa using hi1
    have i2 : decide (64 < i) = false := by simpa using hi2
    by_cases h0 : n = 0
    · have hfin := Lib.hid (vld_empty (st := st) (ot := ot) HI.out (by rw [L1.out]; exact h0))
      subst h0
      go_enter Try.func34, Try.ntmps34
      go_wp2
      go_ret
      exact ⟨ret_int hfin.out.symm, hb0⟩
    · have z0 : ((n : Int) == 0) = false := by simp; omega
      by_cases h1 : 128 < n
      · have hfin := Lib.hid (vld_many (st := st) (ot := ot) HI.out (by rw [L1.out]; exact h1))
        clear h0
        go_enter Try.func34, Try.ntmps34
        go_wp2
        go_ret
        exact ⟨ret_int hfin.out.symm, hb0⟩
      · have z1 : decide ((128 : Int) < (n : Int)) = false := by simp; omega
        by_cases h2 : 0 ≤ st ∧ st < n
        · have H2 := Lib.hid h2
          have HT := Lib.hid ((decide_eq_true h2).symm)
          by_cases h3 : m = n
          · subst h3
            have z3 : ((m : Int) != (m : Int)) = false := by simp
            have hrows := Lib.hid (vld_rows (i := i) (st := st) (nx := nx) (ot := ot) HI.out (by rw [L1.out]; exact h0) (by rw [L1.out]; exact h1) (by rw [L1.out]; exact H2.out) (by rw [L1.out, L2.out]))
            clear h0 h2
            go_enter Try.func34, Try.ntmps34
            go_wp2_with fail
            refine (pisst _ _ _ _ _ _ _ _ _ _ _ hn HT.out).mono ?_
            rintro e w1 ⟨rfl, b1⟩
            rw [HZ.out] at b1
            obtain ⟨k0, k1, k2, k3⟩ := box4 b1
            go_wp2
            clear k0 k1 k2 k3
            go_loopw [36] (fun x wr => ∃ j : Nat, j ≤ m ∧ x = .int .i64 j ∧ (∀ t, t < j → rowAt i nx ot t = 0) ∧ Below (w.heap.size + 1) (w.alloc (.cells #[.int .i64 i, .int .i64 st, .slice A m c, .slice B m d] 24)) wr) (fun x _ => m - (intOf x).toNat)
            case atStart => exact ⟨0, Nat.zero_le _, rfl, fun t h => absurd h (by omega), b1⟩
            case round =>
              obtain ⟨j, hj, rfl, hok, hbr⟩ := hrel
              have hbw := hb0.trans (hbr.mono (Nat.le_succ _))
              have hsz1 : w.heap.size + 1 ≤ wr.heap.size := by have := hbr.size; simpa using this
              have HK := Lib.hid hok
              clear hok
              obtain ⟨k0, k1, k2, k3⟩ := box4 hbr
              by_cases hlt : j < m
              · have HV := Lib.hid (show rowAt i nx ot j = rowE i m (nx.getD j []) (ot.getD j []) by unfold rowAt; rw [L1.out])
                by_cases he : rowE i m (nx.getD j []) (ot.getD j []) = 0
                · have hnx := Lib.hid (show ∀ t, t < j + 1 → rowAt i nx ot t = 0 from fun t ht => by
                    by_cases e : t = j
                    · subst e; rw [HV.out]; exact he
                    · exact HK.out t (by omega))
                  have HE := Lib.hid he
                  clear he
                  go_wp2_with fail
                  refine (pvstate _ _ _ _ _ _ _ _ _ _ _ _ (hx.below hbw) (ho.below hbw) hlt hlt).mono ?_
                  rintro e w2 ⟨rfl, b2⟩
                  have b3 := hbr.trans (b2.mono hsz1)
                  rw [HE.out]
                  obtain ⟨k0, k1, k2, k3⟩ := box4 b3
                  go_wp2
                  go_roundw
                  case rel => exact ⟨j + 1, by omega, by go_num, hnx.out, b3⟩
                  case measure => simp [intOf]; omega
                · have hfin := Lib.hid (hrows.out.trans (fstE_bad HK.out (by rw [HV.out]; exact he) (by rw [L1.out]; exact hlt)))
                  have he2 : (rowE i m (nx.getD j []) (ot.getD j []) != 0) = true := by simpa using he
                  go_wp2_with fail
                  refine (pvstate _ _ _ _ _ _ _ _ _ _ _ _ (hx.below hbw) (ho.below hbw) hlt hlt).mono ?_
                  rintro e w2 ⟨rfl, b2⟩
                  have b3 := hbr.trans (b2.mono hsz1)
                  have HF := Lib.hid (hfin.out.trans HV.out)
                  clear hfin HV
                  generalize rowE i m (nx.getD j []) (ot.getD j []) = E at he2 he HF
                  clear he
                  go_wp2
                  go_ret
                  exact ⟨ret_int HF.out.symm, hb0.trans (b3.mono (Nat.le_succ _))⟩
              · obtain rfl : j = m := by omega
                have hfin := Lib.hid (hrows.out.trans (fstE_ok (by rw [L1.out]; exact HK.out)))
                go_wp2
                go_ret
                exact ⟨ret_int hfin.out.symm, hbw⟩
          · have z3 : ((m : Int) != (n : Int)) = true := by simp; omega
            have hfin := Lib.hid (vld_out (i := i) (st := st) (nx := nx) (ot := ot) HI.out (by rw [L1.out]; exact h0) (by rw [L1.out]; exact h1) (by rw [L1.out]; exact H2.out) (by rw [L1.out, L2.out]; exact h3))
            clear h0 h3
            go_enter Try.func34, Try.ntmps34
            go_wp2_with fail
            refine (pisst _ _ _ _ _ _ _ _ _ _ _ hn HT.out).mono ?_
            rintro e w1 ⟨rfl, b1⟩
            rw [HZ.out] at b1
            obtain ⟨k0, k1, k2, k3⟩ := box4 b1
            go_wp2
            go_ret
            exact ⟨ret_int hfin.out.symm, hb0.trans (b1.mono (Nat.le_succ _))⟩
        · have hfin := Lib.hid (vld_start (i := i) (st := st) (nx := nx) (ot := ot) HI.out (by rw [L1.out]; exact h0) (by rw [L1.out]; exact h1) (by rw [L1.out]; exact h2))
          have HT := Lib.hid ((decide_eq_false h2).symm)
          clear h0 h2
          go_enter Try.func34, Try.ntmps34
          go_wp2_with fail
          refine (pisst _ _ _ _ _ _ _ _ _ _ _ hn HT.out).mono ?_
          rintro e w1 ⟨rfl, b1⟩
          go_wp2
          go_ret
          exact ⟨ret_int hfin.out.symm, bt hb0 b1⟩
  · have hfin := Lib.hid (vld_in (st := st) (nx := nx) (ot := ot) hi)
    by_cases hi1 : 1 ≤ i
    · have hi2 : 64 < i := by omega
      have t1 : ¬ i < 1 := by omega
      clear hi
      go_enter Try.func34, Try.ntmps34
      go_wp2
      go_ret
      exact ⟨ret_int hfin.out.symm, hb0⟩
    · have t1 : i < 1 := by omega
      clear hi hi1
      go_enter Try.func34, Try.ntmps34
      go_wp2
      go_ret
      exact ⟨ret_int hfin.out.symm, hb0⟩
end Go.Proofs.Ytcoihbpadbnilaa
end

section
/- append of one number to a row of one's own. -/
namespace Go.Proofs.Ytcoihbpadbnilaa
open Go.RowKit

theorem Ints.one (w : World) (x : Int) : Ints (w.alloc (.cells #[.int .i64 x] 3)) (some ⟨w.heap.size, 0, none⟩) 1 [x] := Ints.new w [x] _ 1 rfl rfl (by simp)
/-- append of one number to a row of one's own; the runner's block is another. -/
theorem run_append_one {w : World} {base : Nat} {v : Value} {xs : List Int} (h : Owned w base v xs) (x : Int) (hbase : base ≤ w.heap.size) (hl : xs.length < 17592186044416) :
    ∃ A c w', (Builtin.append_ #[25, 25] 25 #[v, .slice (some ⟨w.heap.size, 0, none⟩) 1 1]).run Try.prog (w.alloc (.cells #[.int .i64 x] 3)) = .ok (.slice A (xs.length + 1) c) w' ∧
      Owned w' base (.slice A (xs.length + 1) c) (xs ++ [x]) ∧ Below base w w' ∧ ∀ (g : Nat) (t : TypeId) (cs : Array Value), w.heap[g]? = some (Obj.cells cs t (0, 0)) → t ≠ 3 → w'.heap[g]? = some (Obj.cells cs t (0, 0)) := by
  have hbz := alloc_below w (.cells #[.int .i64 x] 3)
  obtain ⟨v', w', hr, ho', hg, hbel⟩ := run_append_ints _ _ _ _ _ _ _ 1 (h.kept hbz) (Ints.one w x) (Nat.le_trans hbase hbz.size) (by simp; omega)
  obtain ⟨A, c, rfl⟩ := ho'.form
  rw [List.length_append] at hr ho'
  refine ⟨A, c, w', hr, ho', (hbz.mono hbase).trans hbel, fun g t cs hc ht => ?_⟩
  have hlt : g < w.heap.size := by
    rcases Nat.lt_or_ge g w.heap.size with hlt | hge
    · exact hlt
    · rw [Array.getElem?_eq_none hge] at hc; cases hc
  rw [hg.block g (by simp; omega) ?_, hbz.block g hlt]
  · exact hc
  · intro e
    rcases h.2 with ⟨rfl, _⟩ | ⟨g', cap, cur, rfl, _, hh, _⟩
    · cases e
    · have : g = g' := by simpa [Value.ownBlock] using e
      subst this
      rw [hc] at hh
      injection hh with hh
      injection hh with _ h2 _
      exact ht h2
theorem Owned.off {w : World} {base g : Nat} {v : Value} {xs : List Int} {t : TypeId} {cs : Array Value} (h : Owned w base v xs) (hg : w.heap[g]? = some (.cells cs t (0, 0))) (ht : t ≠ 3) (k : Nat) (u : Value) (q : Nat) : Owned ((w.setCell ⟨g, k, none⟩ u).drewN q) base v xs := by
  refine ⟨h.1, ?_⟩
  rcases h.2 with e | ⟨g', cap, cur, hv, hbg, hh, r⟩
  · exact .inl e
  · refine .inr ⟨g', cap, cur, hv, hbg, ?_, r⟩
    show (w.setCell ⟨g, k, none⟩ u).heap[g']? = _
    rw [heap_setCell_other _ _ _ _ ?_]
    · exact hh
    · show g' ≠ g
      intro e
      subst e
      rw [hg] at hh
      injection hh with hh
      injection hh with _ h2 _
      exact ht h2
end Go.Proofs.Ytcoihbpadbnilaa
end

section
/- The search, step by step. -/
namespace Go.Proofs.Ytcoihbpadbnilaa

/-- Which states a search has seen. -/
def seenOf (n : Nat) (l : List Nat) : List Bool := (List.range n).map fun x => decide (x ∈ l)
theorem seenOf_len (n : Nat) (l : List Nat) : (seenOf n l).length = n := by simp [seenOf]
theorem seenOf_at {n : Nat} {l : List Nat} {x : Nat} (hx : x < n) : (seenOf n l).getD x false = decide (x ∈ l) := by
  unfold seenOf; simp [List.getD, hx]
theorem seenOf_set {n : Nat} {l : List Nat} {x : Nat} : (seenOf n l).set x true = seenOf n (l ++ [x]) := by
  apply List.ext_getElem
  · simp [seenOf]
  · intro m h1 h2
    have hm : m < n := by simpa [seenOf] using h2
    rw [List.getElem_set]
    by_cases e : x = m
    · subst e; simp [seenOf]
    · rw [if_neg e]; simp [seenOf, show ¬ m = x from fun h => e h.symm]
theorem seenOf_nil (n : Nat) : seenOf n [] = List.replicate n false := by
  apply List.ext_getElem
  · simp [seenOf]
  · intro m h1 h2; simp [seenOf]

/-- A list of states as numbers. -/
def zs (l : List Nat) : List Int := l.map fun x : Nat => (x : Int)
theorem zs_len (l : List Nat) : (zs l).length = l.length := by simp [zs]
theorem zs_at (l : List Nat) (j : Nat) : (zs l).getD j 0 = ((l.getD j 0 : Nat) : Int) := by
  unfold zs
  rw [List.getD_eq_getElem?_getD, List.getD_eq_getElem?_getD, List.getElem?_map]
  cases l[j]? <;> rfl
theorem zs_append (l t : List Nat) : zs (l ++ t) = zs l ++ zs t := by simp [zs]
theorem zs_one (x : Nat) : zs [x] = [(x : Int)] := rfl
theorem zs_inj {l t : List Nat} (h : zs l = zs t) : l = t := by
  induction l generalizing t with
  | nil => cases t with
    | nil => rfl
    | cons => simp [zs] at h
  | cons x l ih => cases t with
    | nil => simp [zs] at h
    | cons y t =>
      simp only [zs, List.map_cons, List.cons.injEq] at h
      rw [ih (by simpa [zs] using h.2), show x = y by omega]
theorem mem_zs {l : List Nat} {x : Nat} : ((x : Int) ∈ zs l) ↔ x ∈ l := by
  simp only [zs, List.mem_map]
  exact ⟨fun ⟨a, h, e⟩ => by rw [show x = a by omega]; exact h, fun h => ⟨x, h, rfl⟩⟩

theorem addR_in {nx : List (List Int)} {s a : Nat} {l : List Nat} (h : nN nx s a ∈ addR nx s l a) : addR nx s l (a + 1) = addR nx s l a := by
  show addN _ _ = _; unfold addN; rw [if_pos h]
theorem addR_out {nx : List (List Int)} {s a : Nat} {l : List Nat} (h : ¬ nN nx s a ∈ addR nx s l a) : addR nx s l (a + 1) = addR nx s l a ++ [nN nx s a] := by
  show addN _ _ = _; unfold addN; rw [if_neg h]
theorem Stt.one {n s : Nat} (h : s < n) : Stt n [s] := ⟨by simp, fun x hx => by simp at hx; omega⟩
theorem addR_at {nx : List (List Int)} {s : Nat} {l : List Nat} {j : Nat} (h : j < l.length) (a : Nat) : (addR nx s l a).getD j 0 = l.getD j 0 := by
  obtain ⟨t, ht⟩ := addR_pre nx s l a
  rw [ht]; exact getD_pre h
theorem addR_len {nx : List (List Int)} {s : Nat} {l : List Nat} (a : Nat) : l.length ≤ (addR nx s l a).length := by
  obtain ⟨t, ht⟩ := addR_pre nx s l a
  rw [ht, List.length_append]; omega
end Go.Proofs.Ytcoihbpadbnilaa
end

section
/- Reach of a machine. -/
namespace Go.Proofs.Ytcoihbpadbnilaa
open Go.RowKit

theorem infob : (Try.prog.info? 4).map (fun i => (i.zero, i.size, i.bytes)) = some (some (.bool false), 1, 1) := by kernel_rfl

/-- The row of the seen states. -/
def Seen (w : World) (g : Nat) (bs : List Bool) : Prop := w.heap[g]? = some (.cells (bs.map Value.bool).toArray 4 (0, 0))
theorem Seen.at_ {w : World} {g : Nat} {bs : List Bool} (h : Seen w g bs) {x : Nat} (hx : x < bs.length) : w.cell? ⟨g, x, none⟩ = some (.bool (bs.getD x false)) ∧ w.frozen? ⟨g, x, none⟩ = false := by
  refine ⟨?_, frozen_of_row w g x _ _ h⟩
  rw [cell_of_row w g x _ _ (0, 0) h]
  simp [List.getD, hx]
theorem Seen.set {w : World} {g : Nat} {bs : List Bool} (h : Seen w g bs) (x : Nat) (b : Bool) : Seen (w.setCell ⟨g, x, none⟩ (.bool b)) g (bs.set x b) := by
  have := heap_setCell_same w g x _ _ (Value.bool b) h
  unfold Seen
  rw [this]
  simp [List.map_set]
theorem Seen.of_below {w w' : World} {g : Nat} {bs : List Bool} (h : Seen w g bs) {b : Nat} (hb : Below b w w') (hg : g < b) : Seen w' g bs := (hb.block g hg).trans h

theorem made_bools (n : Nat) : madeCells (Value.bool false).cells (n * 1) = ((List.replicate n false).map Value.bool).toArray := by
  apply Array.ext'
  rw [show (Value.bool false).cells = #[Value.bool false] from rfl, Nat.mul_one, toList_madeCells_one, List.map_replicate]

end Go.Proofs.Ytcoihbpadbnilaa
end

section
/- Blocks that are as they were: of a type, all but one; rows apart. -/
namespace Go.Proofs.Ytcoihbpadbnilaa
open Go.RowKit

/-- The blocks of a type are as they were. -/
def KeptT (t : TypeId) (w w' : World) : Prop := ∀ (g : Nat) (cs : Array Value), w.heap[g]? = some (.cells cs t (0, 0)) → w'.heap[g]? = some (.cells cs t (0, 0))
theorem heap_lt {w : World} {g : Nat} {o : Obj} (h : w.heap[g]? = some o) : g < w.heap.size := by
  rcases Nat.lt_or_ge g w.heap.size with hlt | hge
  · exact hlt
  · rw [Array.getElem?_eq_none hge] at h; cases h
theorem KeptT.refl (t : TypeId) (w : World) : KeptT t w w := fun _ _ h => h
theorem KeptT.trans {t : TypeId} {a b c : World} (h : KeptT t a b) (k : KeptT t b c) : KeptT t a c := fun g cs e => k g cs (h g cs e)
theorem KeptT.of_below {t : TypeId} {w w' : World} (h : Below w.heap.size w w') : KeptT t w w' := fun g _ e => (h.block g (heap_lt e)).trans e
theorem KeptT.drewN (t : TypeId) (w : World) (q : Nat) : KeptT t w (w.drewN q) := fun _ _ h => h
theorem KeptT.off {t t' : TypeId} {w : World} {g k : Nat} {cs : Array Value} (hg : w.heap[g]? = some (.cells cs t' (0, 0))) (ht : t ≠ t') (u : Value) : KeptT t w (w.setCell ⟨g, k, none⟩ u) := fun g' cs' e => by
  rw [heap_setCell_other _ _ _ _ ?_]
  · exact e
  · show g' ≠ g
    intro e2
    subst e2
    rw [hg] at e
    injection e with e
    injection e with _ h2 _
    exact ht h2.symm
theorem KeptT.grown {t t' : TypeId} {w w' : World} {base size n : Nat} {v : Value} {xs : List Value} (h : w.grownBy w' v.ownBlock) (ho : w.ownsRow base t' size v n xs) (ht : t ≠ t') : KeptT t w w' := fun g cs e => by
  rw [h.block g (heap_lt e) ?_]
  · exact e
  · intro e2
    rcases ho.2 with ⟨rfl, _⟩ | ⟨g', cap, cur, rfl, _, hh, _⟩
    · cases e2
    · have : g = g' := by simpa [Value.ownBlock] using e2
      subst this
      rw [e] at hh
      injection hh with hh
      injection hh with _ h2 _
      exact ht h2

theorem Owned.keptT {w w' : World} {base : Nat} {v : Value} {xs : List Int} (h : Owned w base v xs) (hk : KeptT 3 w w') : Owned w' base v xs := by
  refine ⟨h.1, ?_⟩
  rcases h.2 with e | ⟨g, cap, cur, hv, hbg, hg, r⟩
  · exact .inl e
  · exact .inr ⟨g, cap, cur, hv, hbg, hk g cur hg, r⟩

theorem infol : (Try.prog.info? 25).map (fun i => (i.zero, i.size, i.bytes)) = some (some (.slice none 0 0), 1, 24) := by kernel_rfl

/-- All blocks but one are as they were. -/
def KeptB (r : Option Nat) (w w' : World) : Prop := ∀ (g : Nat) (o : Obj), w.heap[g]? = some o → r ≠ some g → w'.heap[g]? = some o
/-- Two rows lie in different blocks. -/
def Apart (v u : Value) : Prop := ∀ g, v.ownBlock = some g → u.ownBlock ≠ some g
theorem Apart.nil (u : Value) : Apart (.slice none 0 0) u := fun g h => by simp [Value.ownBlock] at h
theorem Apart.symm {v u : Value} (h : Apart v u) : Apart u v := fun g h1 h2 => h g h2 h1
/-- append turns a row's block or makes a new one. -/
def Moved (w : World) (v v' : Value) : Prop := v'.ownBlock = v.ownBlock ∨ ∃ g, w.heap.size ≤ g ∧ v'.ownBlock = some g
end Go.Proofs.Ytcoihbpadbnilaa
end

section
/- Rows of lists that a call owns: what they read as; append of a list. -/
namespace Go.Proofs.Ytcoihbpadbnilaa
open Go.RowKit

/-- The slice value v is a row of lists in blocks from base on, which the call may write. -/
def OwnedL (w : World) (base : Nat) (v : Value) (xss : List (List Int)) : Prop :=
  ∃ vs : List Value, w.ownsRow base 25 1 v xss.length vs ∧ ∀ j, j < xss.length → ∃ A c, vs[j]? = some (.slice A (xss.getD j []).length c) ∧ Owned w base (.slice A (xss.getD j []).length c) (xss.getD j [])

theorem OwnedL.nil (w : World) (base : Nat) : OwnedL w base (.slice none 0 0) [] := ⟨[], World.ownsRow_nil _ _ _ _, fun j h => absurd h (by simp)⟩
theorem OwnedL.form {w : World} {base : Nat} {v : Value} {xss : List (List Int)} (h : OwnedL w base v xss) : ∃ A c, v = .slice A xss.length c := by
  obtain ⟨vs, h, _⟩ := h
  rcases h.2 with ⟨rfl, h0⟩ | ⟨g, cap, cur, rfl, _⟩
  · have : xss.length = 0 := h0
    exact ⟨none, 0, by rw [this]⟩
  · exact ⟨_, _, rfl⟩
theorem OwnedL.keptT {w w' : World} {base : Nat} {v : Value} {xss : List (List Int)} (h : OwnedL w base v xss) (hk : KeptT 3 w w') (hl : KeptT 25 w w') : OwnedL w' base v xss := by
  obtain ⟨vs, h, hr⟩ := h
  refine ⟨vs, ⟨h.1, ?_⟩, fun j hj => ?_⟩
  · rcases h.2 with e | ⟨g, cap, cur, hv, hbg, hg, r⟩
    · exact .inl e
    · exact .inr ⟨g, cap, cur, hv, hbg, hl g cur hg, r⟩
  · obtain ⟨A, c, h1, h2⟩ := hr j hj
    exact ⟨A, c, h1, h2.keptT hk⟩
theorem OwnedL.kept {w w' : World} {base : Nat} {v : Value} {xss : List (List Int)} (h : OwnedL w base v xss) (hb : Below w.heap.size w w') : OwnedL w' base v xss := h.keptT (KeptT.of_below hb) (KeptT.of_below hb)
theorem OwnedL.lower {w : World} {base base' : Nat} {v : Value} {xss : List (List Int)} (h : OwnedL w base v xss) (hb : base' ≤ base) : OwnedL w base' v xss := by
  obtain ⟨vs, h, hr⟩ := h
  refine ⟨vs, ⟨h.1, ?_⟩, fun j hj => ?_⟩
  · rcases h.2 with e | ⟨g, cap, cur, hv, hbg, r⟩
    · exact .inl e
    · exact .inr ⟨g, cap, cur, hv, by omega, r⟩
  · obtain ⟨A, c, h1, h2⟩ := hr j hj
    exact ⟨A, c, h1, h2.lower hb⟩
theorem OwnedL.lists {w : World} {base : Nat} {A : Option Addr} {n c : Nat} {xss : List (List Int)} (h : OwnedL w base (.slice A n c) xss) (hm : xss.length ≤ 17592186044416) (hr : ∀ xs, xs ∈ xss → xs.length ≤ 17592186044416) : Lists w A n xss := by
  have hn : n = xss.length := by obtain ⟨A', c', e⟩ := h.form; cases e; rfl
  subst hn
  obtain ⟨vs, ho, hv⟩ := h
  refine ⟨rfl, hm, fun h0 => ?_⟩
  rcases ho.2 with ⟨e, h1⟩ | ⟨g, cap, cur, e, _, hg, _⟩
  · have : xss.length = 0 := h1
    omega
  · cases e
    refine ⟨g, 0, rfl, heap_lt hg, fun j hj => ?_⟩
    obtain ⟨A, c, h1, h2⟩ := hv j hj
    have h3 := World.ownsRow.cellAt ho j (by omega)
    refine ⟨A, _, c, ?_, h2.ints (hr _ ?_)⟩
    · rw [Nat.zero_add, h3, h1]
    · rw [List.getD_eq_getElem?_getD, List.getElem?_eq_getElem hj]; exact List.getElem_mem _

theorem OwnedL.lt {w : World} {base : Nat} {v : Value} {xss : List (List Int)} (h : OwnedL w base v xss) : ∀ k, v.ownBlock = some k → base ≤ k ∧ k < w.heap.size := by
  obtain ⟨vs, ho, _⟩ := h
  exact World.ownsRow.lt ho
theorem OwnedL.keptB {w w' : World} {base : Nat} {u v : Value} {xss : List (List Int)} (h : OwnedL w base v xss) (hk : KeptB u.ownBlock w w') (ha : Apart u v) (hi : KeptT 3 w w') : OwnedL w' base v xss := by
  obtain ⟨vs, ho, hr⟩ := h
  refine ⟨vs, ⟨ho.1, ?_⟩, fun j hj => ?_⟩
  · rcases ho.2 with e | ⟨g, cap, cur, hv, hbg, hg, r⟩
    · exact .inl e
    · exact .inr ⟨g, cap, cur, hv, hbg, hk g _ hg (fun e => ha g e (by rw [hv]; rfl)), r⟩
  · obtain ⟨A, c, h1, h2⟩ := hr j hj
    exact ⟨A, c, h1, h2.keptT hi⟩
theorem Apart.moved {w : World} {base : Nat} {v v' u : Value} {xss : List (List Int)} (h : Apart v u) (hm : Moved w v v') (hu : OwnedL w base u xss) : Apart v' u := by
  rcases hm with e | ⟨g, hg, e⟩
  · intro k hk; rw [e] at hk; exact h k hk
  · intro k hk h2
    rw [e] at hk
    injection hk with hk
    have := (hu.lt k h2).2
    omega

/-- append of one list to a row of lists. -/
theorem run_append_list {w : World} {base : Nat} {v : Value} {xss : List (List Int)} {B : Option Addr} {m d : Nat} {xs : List Int} (h : OwnedL w base v xss) (hx : Owned w base (.slice B m d) xs) (hbase : base ≤ w.heap.size) (hl : xss.length < 1759218604441) :
    ∃ A c w', (Builtin.append_ #[22, 22] 22 #[v, .slice (some ⟨w.heap.size, 0, none⟩) 1 1]).run Try.prog (w.alloc (.cells #[.slice B m d] 25)) = .ok (.slice A (xss.length + 1) c) w' ∧
      OwnedL w' base (.slice A (xss.length + 1) c) (xss ++ [xs]) ∧ Below base w w' ∧ (∀ t, t ≠ 25 → KeptT t w w') ∧ KeptB v.ownBlock w w' ∧ Moved w v (.slice A (xss.length + 1) c) := by
  obtain ⟨i, hi, hz0, hz1, hz2⟩ := info_parts infol
  obtain ⟨vs, ho, hv⟩ := h
  have hbz := alloc_below w (.cells #[.slice B m d] 25)
  have ho1 : (w.alloc (.cells #[.slice B m d] 25)).ownsRow base 25 1 v xss.length vs := by
    refine ⟨ho.1, ?_⟩
    rcases ho.2 with e | ⟨g, cap, cur, hv, hbg, hg, r⟩
    · exact .inl e
    · exact .inr ⟨g, cap, cur, hv, hbg, (hbz.block g (heap_lt hg)).trans hg, r⟩
  obtain ⟨v', w', hr, h1, h2, _, hmv⟩ := run_append_own_at (P := Try.prog) (w.alloc (.cells #[.slice B m d] 25)) base 22 22 25 i (.slice none 0 0) 1 24 Try.underlying22 hi hz0 hz1 hz2 rfl (by decide) v _ _ ho1 ⟨w.heap.size, 0, none⟩ 1 1 [.slice B m d] (by simp)
    (by
      intro j u hu
      cases j with
      | zero =>
        simp at hu
        subst hu
        simp [Addr.add]
      | succ j => simp at hu)
    (by intro u hu; simp at hu; subst hu; rfl) (by unfold maxLen; omega) (by omega) (Nat.le_trans hbase hbz.size)
  have hs : ∀ t, t ≠ 25 → KeptT t w w' := fun t ht => (KeptT.of_below hbz).trans (KeptT.grown h2 ho1 ht)
  have hform : ∃ A c, v' = .slice A (xss.length + 1) c := by
    rcases h1.2 with ⟨rfl, h0⟩ | ⟨g, cap, cur, rfl, _⟩
    · have := h1.1; rw [h0] at this; simp at this
    · exact ⟨_, _, rfl⟩
  obtain ⟨A, c, rfl⟩ := hform
  have hkb : KeptB v.ownBlock w w' := fun g o e hne => (h2.block g (Nat.lt_of_lt_of_le (heap_lt e) hbz.size) (fun e2 => hne e2.symm)).trans ((hbz.block g (heap_lt e)).trans e)
  have hmoved : Moved w v (.slice A (xss.length + 1) c) := by
    rcases hmv with e | e
    · exact .inl e
    · exact .inr ⟨_, by simp, e⟩
  have hn : m = xs.length := by obtain ⟨A', c', e⟩ := hx.form; cases e; rfl
  subst hn
  refine ⟨A, c, w', hr, ⟨vs ++ [.slice B xs.length d], by rw [List.length_append]; exact h1, fun j hj => ?_⟩, (hbz.mono hbase).trans ((Below.refl _ _).grown h2 (Nat.le_trans hbase hbz.size) (fun k hk => (World.ownsRow.lt ho1 k hk).1)), hs, hkb, hmoved⟩
  have hvl : vs.length = xss.length := by have := ho.1; omega
  by_cases e : j < xss.length
  · obtain ⟨A2, c2, h3, h4⟩ := hv j e
    have hg : (xss ++ [xs]).getD j [] = xss.getD j [] := by rw [List.getD_eq_getElem?_getD, List.getD_eq_getElem?_getD, List.getElem?_append_left e]
    rw [hg]
    exact ⟨A2, c2, by rw [List.getElem?_append_left (by omega)]; exact h3, h4.keptT (hs _ (by decide))⟩
  · have hjl : j = xss.length := by simp at hj; omega
    subst hjl
    have hg : (xss ++ [xs]).getD xss.length [] = xs := by simp
    rw [hg]
    exact ⟨B, d, by rw [List.getElem?_append_right (by omega), hvl]; simp, hx.keptT (hs _ (by decide))⟩

set_option maxHeartbeats 1000000 in
set_option maxRecDepth 100000 in
/-- Clone of a list. -/
theorem sclone (A : Option Addr) (n c : Nat) (xs : List Int) (w : World) (hx : Ints w A n xs) :
    Calls Try.prog 50 #[.slice A n c] w fun e w' => ∃ A' c', e = .returned (.slice A' n c') ∧ Owned w' w.heap.size (.slice A' n c') xs ∧ Below w.heap.size w w' := by
  have L := Lib.hid hx.1
  have hn := hx.2.1
  cases A with
  | none =>
    have h0 : n = 0 := by
      rcases Nat.eq_zero_or_pos n with h | h
      · exact h
      · obtain ⟨b, off, e, _⟩ := hx.2.2 h; cases e
    subst h0
    obtain rfl : xs = [] := List.eq_nil_of_length_eq_zero L.out
    have he := fun W => Lib.run_eql_slice_nil (P := Try.prog) W 25 3 none 0 c 0 0 Try.underlying25
    go_enter Try.func50, Try.ntmps50
    go_wp2
    go_ret
    exact ⟨none, 0, rfl, Owned.nil _ _, Below.refl _ _⟩
  | some a =>
    have hb0 := alloc_below w (.cells #[] 3)
    have ho := Owned.literal w w.heap.size [] #[] 0 (Nat.le_refl _) rfl rfl (by simp)
    obtain ⟨v', w', hr, ho', _, hb'⟩ := run_append_ints _ _ _ _ _ _ _ c ho (hx.below hb0) hb0.size (by rw [List.nil_append, L.out]; exact hn)
    obtain ⟨A', c', rfl⟩ := ho'.form
    rw [List.nil_append, L.out] at hr ho'
    have hB := Lib.hid (hb0.trans hb')
    have HO := Lib.hid ho'
    clear ho hb0 hb' ho'
    have he := fun W => Lib.run_eql_slice_nil (P := Try.prog) W 25 3 (some a) n c 0 0 Try.underlying25
    go_enter Try.func50, Try.ntmps50
    go_wp2_with (at_builtin; refine Lib.wpList_append_run _ rfl _ _ _ _ rfl _ _ rfl rfl _ _ hr ?_)
    go_ret
    exact ⟨A', c', rfl, HO.out, hB.out⟩
end Go.Proofs.Ytcoihbpadbnilaa
end

section
/- The trimmed machine. -/
namespace Go.Proofs.Ytcoihbpadbnilaa

theorem addR_has {nx : List (List Int)} {s : Nat} {l : List Nat} : ∀ {b : Nat}, ∀ a, a < b → nN nx s a ∈ addR nx s l b
  | 0, a, h => absurd h (by omega)
  | b + 1, a, h => by
    by_cases e : a = b
    · subst e; exact mem_addN _ _
    · exact addN_mem (addR_has a (by omega))
theorem addR_mem {nx : List (List Int)} {s : Nat} {l : List Nat} {x : Nat} (h : x ∈ l) (a : Nat) : x ∈ addR nx s l a := by obtain ⟨t, ht⟩ := addR_pre nx s l a; rw [ht]; simp [h]

theorem bfs_closed {i st n : Nat} {nx ot : List (List Int)} (hM : Mok i st n nx ot) : ∀ (k : Nat) (l : List Nat) (j : Nat), Stt n l → n ≤ k + j → (∀ m, m < j → m < l.length → ∀ a, a < i → nN nx (l.getD m 0) a ∈ l) →
    Stt n (bfs nx i k l j) ∧ ∀ m, m < (bfs nx i k l j).length → ∀ a, a < i → nN nx ((bfs nx i k l j).getD m 0) a ∈ bfs nx i k l j
  | 0, l, j, hS, hk, h => ⟨hS, fun m hm a ha => h m (by have := hS.len; have hm : m < l.length := hm; omega) hm a ha⟩
  | k + 1, l, j, hS, hk, h => by
    by_cases hj : j < l.length
    · have e : bfs nx i (k + 1) l j = bfs nx i k (addR nx (l.getD j 0) l i) (j + 1) := by
        show (if j < l.length then _ else _) = _; rw [if_pos hj]
      rw [e]
      refine bfs_closed hM k _ _ (addR_stt hM hS (hS.2 _ (getD_mem hj)) i (Nat.le_refl _)) (by omega) fun m hm hml a ha => ?_
      by_cases e2 : m = j
      · subst e2; rw [addR_at hj]; exact addR_has a ha
      · rw [addR_at (by omega)]; exact addR_mem (h m (by omega) (by omega) a ha) i
    · rw [bfs_end nx i (k + 1) hj]
      exact ⟨hS, fun m hm a ha => h m (by omega) hm a ha⟩

theorem Mok.rch_stt {i st n : Nat} {nx ot : List (List Int)} (hM : Mok i st n nx ot) : Stt n (rch nx i st) :=
  (bfs_closed hM _ _ _ (Stt.one hM.st) (by rw [hM.nxl]; omega) (fun m hm => absurd hm (by omega))).1
theorem Mok.rch_in {i st n : Nat} {nx ot : List (List Int)} (hM : Mok i st n nx ot) {s a : Nat} (hs : s ∈ rch nx i st) (ha : a < i) : nN nx s a ∈ rch nx i st := by
  obtain ⟨m, hm, rfl⟩ := List.getElem_of_mem hs
  have := (bfs_closed hM nx.length [st] 0 (Stt.one hM.st) (by rw [hM.nxl]; omega) (fun m hm => absurd hm (by omega))).2 m hm a ha
  rw [show (bfs nx i nx.length [st] 0).getD m 0 = (rch nx i st)[m] by rw [List.getD_eq_getElem?_getD]; show (rch nx i st)[m]?.getD 0 = _; rw [List.getElem?_eq_getElem hm]; rfl] at this
  exact this
theorem rch_pre (nx : List (List Int)) (i st : Nat) : ∃ t, rch nx i st = st :: t := by
  obtain ⟨t, ht⟩ := bfs_pre nx i nx.length [st] 0
  exact ⟨t, ht⟩

/-- The place of a state. -/
def ixN (R : List Nat) (x : Nat) : Nat := R.idxOf x
theorem ixN_lt {R : List Nat} {x : Nat} (h : x ∈ R) : ixN R x < R.length := List.idxOf_lt_length_of_mem h
theorem ixN_at {R : List Nat} {x : Nat} (h : x ∈ R) : R.getD (ixN R x) 0 = x := by
  rw [List.getD_eq_getElem?_getD, List.getElem?_eq_getElem (ixN_lt h)]
  exact List.getElem_idxOf (ixN_lt h)
theorem ixN_of {R : List Nat} (hR : R.Nodup) {j : Nat} (hj : j < R.length) : ixN R (R.getD j 0) = j := by
  have hm : R.getD j 0 ∈ R := getD_mem hj
  have h1 := ixN_at hm
  have h2 := ixN_lt hm
  rw [List.getD_eq_getElem?_getD, List.getD_eq_getElem?_getD, List.getElem?_eq_getElem hj, List.getElem?_eq_getElem (by rw [List.getD_eq_getElem?_getD, List.getElem?_eq_getElem hj] at h2; exact h2)] at h1
  rw [List.getD_eq_getElem?_getD, List.getElem?_eq_getElem hj] at h2 ⊢
  exact (List.getElem_inj hR).1 h1

/-- The rows of the trimmed machine. -/
def trR (nx : List (List Int)) (i : Nat) (R : List Nat) (s : Nat) : List Int := (List.range i).map fun a => ((ixN R (nN nx s a) : Nat) : Int)
def trN (nx : List (List Int)) (i : Nat) (R : List Nat) : List (List Int) := R.map (trR nx i R)
def trO (ot : List (List Int)) (R : List Nat) : List (List Int) := R.map fun s => ot.getD s []
theorem trR_len (nx : List (List Int)) (i : Nat) (R : List Nat) (s : Nat) : (trR nx i R s).length = i := by simp [trR]
theorem trR_at {nx : List (List Int)} {i : Nat} {R : List Nat} {s a : Nat} (ha : a < i) : (trR nx i R s).getD a 0 = ((ixN R (nN nx s a) : Nat) : Int) := by
  unfold trR; simp [List.getD, ha]
/-- A row while it is renumbered. -/
def midR (nx : List (List Int)) (i : Nat) (R : List Nat) (s a : Nat) : List Int := (trR nx i R s).take a ++ (nx.getD s []).drop a
theorem midR_zero (nx : List (List Int)) (i : Nat) (R : List Nat) (s : Nat) : midR nx i R s 0 = nx.getD s [] := by simp [midR]
theorem midR_all {nx : List (List Int)} {i : Nat} {R : List Nat} {s : Nat} (h : (nx.getD s []).length = i) : midR nx i R s i = trR nx i R s := by
  unfold midR; rw [List.take_of_length_le (by rw [trR_len]; exact Nat.le_refl _), List.drop_eq_nil_of_le (by omega), List.append_nil]
theorem midR_len {nx : List (List Int)} {i : Nat} {R : List Nat} {s a : Nat} (h : (nx.getD s []).length = i) (ha : a ≤ i) : (midR nx i R s a).length = i := by
  unfold midR; rw [List.length_append, List.length_take, List.length_drop, trR_len, h]; omega
theorem midR_get {nx : List (List Int)} {i : Nat} {R : List Nat} {s a m : Nat} (ha : a ≤ i) : (midR nx i R s a)[m]? = if m < a then (trR nx i R s)[m]? else (nx.getD s [])[m]? := by
  unfold midR
  have hl : ((trR nx i R s).take a).length = a := by rw [List.length_take, trR_len]; omega
  by_cases h : m < a
  · rw [if_pos h, List.getElem?_append_left (by omega), List.getElem?_take, if_pos h]
  · rw [if_neg h, List.getElem?_append_right (by omega), List.getElem?_drop, hl, show a + (m - a) = m by omega]
theorem midR_at {nx : List (List Int)} {i : Nat} {R : List Nat} {s a : Nat} (ha : a < i) : (midR nx i R s a).getD a 0 = (nx.getD s []).getD a 0 := by
  rw [List.getD_eq_getElem?_getD, midR_get (by omega), if_neg (by omega), ← List.getD_eq_getElem?_getD]
theorem midR_set {nx : List (List Int)} {i : Nat} {R : List Nat} {s a : Nat} (h : (nx.getD s []).length = i) (ha : a < i) : (midR nx i R s a).set a ((ixN R (nN nx s a) : Nat) : Int) = midR nx i R s (a + 1) := by
  apply List.ext_getElem?
  intro m
  have ht : (trR nx i R s)[a]? = some ((ixN R (nN nx s a) : Nat) : Int) := by
    have := trR_at (nx := nx) (R := R) (s := s) ha
    rw [List.getD_eq_getElem?_getD, List.getElem?_eq_getElem (by rw [trR_len]; exact ha)] at this
    rw [List.getElem?_eq_getElem (by rw [trR_len]; exact ha)]
    exact congrArg some this
  rw [List.getElem?_set, midR_get (by omega), midR_get (by omega), midR_len h (by omega)]
  by_cases e : a = m
  · subst e
    rw [if_pos rfl, if_pos ha, if_pos (by omega), ht]
  · rw [if_neg e]
    by_cases e2 : m < a
    · rw [if_pos e2, if_pos (by omega)]
    · rw [if_neg e2, if_neg (by omega)]
theorem map_take_succ {α β : Type} (f : α → β) (l : List α) (d : α) {k : Nat} (h : k < l.length) : (l.take (k + 1)).map f = (l.take k).map f ++ [f (l.getD k d)] := by
  rw [List.take_succ_eq_append_getElem h, List.map_append, List.getD_eq_getElem?_getD, List.getElem?_eq_getElem h]; rfl
end Go.Proofs.Ytcoihbpadbnilaa
end

section
/- A runner: step and run. -/
namespace Go.Proofs.Ytcoihbpadbnilaa
open Go.RowKit

end Go.Proofs.Ytcoihbpadbnilaa
end

section
/- run, From, Run and Step of a machine. -/
namespace Go.Proofs.Ytcoihbpadbnilaa
open Go.RowKit

end Go.Proofs.Ytcoihbpadbnilaa
end

section
/- From, Run and Step of a machine. -/
namespace Go.Proofs.Ytcoihbpadbnilaa
open Go.RowKit

theorem ret_from {A : Option Addr} {l l' c : Nat} {x x' y y' : Int} (h1 : l = l') (h2 : x = x') (h3 : y = y') : Ending.returned (.tuple #[.slice A l c, .int .i64 x, .int .i64 y]) = .returned (.tuple #[.slice A l' c, .int .i64 x', .int .i64 y']) := by rw [h1, h2, h3]
theorem ret_run {A : Option Addr} {l l' c : Nat} {y y' : Int} (h1 : l = l') (h3 : y = y') : Ending.returned (.tuple #[.slice A l c, .int .i64 y]) = .returned (.tuple #[.slice A l' c, .int .i64 y']) := by rw [h1, h3]

end Go.Proofs.Ytcoihbpadbnilaa
end

section
/- The reference: Outs. -/
namespace Go.Proofs.Ytcoihbpadbnilaa
open Go.RowKit

theorem skol {α : Sort _} {p : Nat → α → Prop} (h : ∀ k, ∃ x, p k x) : ∃ F : Nat → α, ∀ k, p k (F k) := ⟨fun k => Classical.choose (h k), fun k => Classical.choose_spec (h k)⟩

/-- append at a step of a region that draws. -/
theorem step_append_run {P : Program} {ops : Array Oper} {o : Oper} {a : Act} {w : World} {K : Act → World → Prop} {Q : Exit → Act → World → Prop} {E : Prop} (hgd : o.guard = none) (s x : Operand) (t tn : TypeId)
    (ho : o.op = .call { callee := .builtin .append, args := #[s, x], argTypes := #[t, tn] }) (vs vx : Value) (hs : a.eval s = vs) (hx : a.eval x = vx)
    (v' : Value) (w' : World) (hr : (Builtin.append_ #[t, tn] o.type #[vs, vx]).run P w = .ok v' w') (h : K (a.put o.dst v') w') :
    if Region.wanted o (yielded ops a.tmps) = true then Oper.wp P o a w K Q else E := by
  have hw : Region.wanted o (yielded ops a.tmps) = true := by simp [Region.wanted, hgd]
  rw [if_pos hw]
  exact Lib.wp_append_run w s x t tn ho vs vx hs hx v' w' hr h

theorem Owned.drew {w : World} {base : Nat} {v : Value} {xs : List Int} (h : Owned w base v xs) (k : Nat) : Owned (w.drewN k) base v xs := h

/-- append of one number, behind any number of draws. -/
theorem app_all {wr : World} {base q : Nat} {A : Option Addr} {c : Nat} {xs : List Int} (h : Owned wr base (.slice A q c) xs) (x : Int) (hbase : base ≤ wr.heap.size) (hl : xs.length < 17592186044416) :
    ∃ F : Nat → (Option Addr × Nat) × World, ∀ k, (Builtin.append_ #[25, 25] 25 #[.slice A q c, .slice (some ⟨wr.heap.size, 0, none⟩) 1 1]).run Try.prog ((wr.drewN k).alloc (.cells #[.int .i64 x] 3)) = .ok (.slice (F k).1.1 (q + 1) (F k).1.2) (F k).2 ∧
      Owned (F k).2 base (.slice (F k).1.1 (q + 1) (F k).1.2) (xs ++ [x]) ∧ Below base wr (F k).2 := by
  have hq : q = xs.length := by obtain ⟨A', c', e⟩ := h.form; cases e; rfl
  refine skol (p := fun k (r : (Option Addr × Nat) × World) => (Builtin.append_ #[25, 25] 25 #[.slice A q c, .slice (some ⟨wr.heap.size, 0, none⟩) 1 1]).run Try.prog ((wr.drewN k).alloc (.cells #[.int .i64 x] 3)) = .ok (.slice r.1.1 (q + 1) r.1.2) r.2 ∧
      Owned r.2 base (.slice r.1.1 (q + 1) r.1.2) (xs ++ [x]) ∧ Below base wr r.2) fun k => ?_
  obtain ⟨A', c', w', h1, h2, h3, _⟩ := run_append_one (h.drew k) x hbase hl
  rw [← hq] at h1 h2
  exact ⟨((A', c'), w'), h1, h2, (below_drewN (Below.refl _ _) k).trans h3⟩

set_option maxHeartbeats 2000000 in
set_option maxRecDepth 100000 in
theorem routs (i st n : Nat) (A B D : Option Addr) (c d k e s : Nat) (nx ot : List (List Int)) (xs : List Int) (w : World) (hM : Mok i st n nx ot) (hx : Lists w A n nx) (ho : Lists w B n ot) (hs : s < n) (hD : Ints w D k xs) (hS : ∀ x, x ∈ xs → 0 ≤ x ∧ x < i) :
    Calls Try.prog 46 #[.agg #[.int .i64 i, .int .i64 st, .slice A n c, .slice B n d], .int .i64 s, .slice D k e] w fun e w' => ∃ A' c', e = .returned (.tuple #[.slice A' k c', .int .i64 (runS nx s xs)]) ∧ Owned w' w.heap.size (.slice A' k c') (runO nx ot s xs) ∧ Below w.heap.size w w' := by
  have L := Lib.hid hD.1
  have hk := hD.2.1
  have hN := hx.2.1
  have HS := Lib.hid hS
  clear hS
  have hb0 := alloc_below w (.cells #[.int .i64 i, .int .i64 st, .slice A n c, .slice B n d] 24)
  go_enter Try.func46, Try.ntmps46
  go_wp2
  go_loopw [1, 8, 9] (fun sv v j wr => ∃ (q s' : Nat) (A' : Option Addr) (c' : Nat), q ≤ k ∧ j = .int .i64 q ∧ v = .slice A' q c' ∧ sv = .int .i64 s' ∧ s' = runS nx s (xs.take q) ∧ s' < n ∧ Owned wr (w.heap.size + 1) (.slice A' q c') (runO nx ot s (xs.take q)) ∧ Below (w.heap.size + 1) (w.alloc (.cells #[.int .i64 i, .int .i64 st, .slice A n c, .slice B n d] 24)) wr) (fun _ _ j _ => k - (intOf j).toNat)
  case atStart => exact ⟨0, s, none, 0, Nat.zero_le _, rfl, rfl, rfl, rfl, hs, Owned.nil _ _, Below.refl _ _⟩
  case round =>
    obtain ⟨q, s', A', c', hq, rfl, rfl, rfl, hss, hs', hown, hbr⟩ := hrel
    have hbw := hb0.trans (hbr.mono (Nat.le_succ _))
    have hsz : w.heap.size + 1 ≤ wr.heap.size := by have := hbr.size; simpa using this
    have HSS := Lib.hid hss
    clear hss
    by_cases hlt : q < k
    · obtain ⟨k0, k1, k2, k3⟩ := box4 hbr
      obtain ⟨b1, o1, rfl, hb1, hc0⟩ := hD.at_ hlt
      have hc1 := (hbw.cell (p := ⟨b1, o1 + q, none⟩) hb1).trans hc0
      clear hc0
      have hxm := HS.out (xs.getD q 0) (by rw [List.getD_eq_getElem?_getD, List.getElem?_eq_getElem (by rw [L.out]; exact hlt)]; exact List.getElem_mem _)
      have hO := Lib.hid (runO_next (nx := nx) (ot := ot) (s := s) (j := q) (xs := xs) (by rw [L.out]; exact hlt))
      have hT := Lib.hid (runS_next (nx := nx) (s := s) (j := q) (xs := xs) (by rw [L.out]; exact hlt))
      rw [show xs[q]?.getD 0 = xs.getD q 0 by simp, ← HSS.out] at hO hT
      generalize xs.getD q 0 = x at hc1 hxm hO hT
      obtain ⟨a, rfl⟩ : ∃ a : Nat, x = a := ⟨x.toNat, by omega⟩
      have ha : a < i := by omega
      rw [Int.toNat_natCast] at hO hT
      have hlen : (runO nx ot s (xs.take q)).length = q := by rw [runO_len, List.length_take, L.out]; omega
      generalize runO nx ot s (xs.take q) = os at hown hO hlen
      obtain ⟨F, hF⟩ := app_all hown (oN ot s' a) hsz (by rw [hlen]; omega)
      rw [← hO.out] at hF
      have HF := Lib.hid hF
      obtain ⟨g1, p1, A1, n1, c1, hA, hg1, hd1, hr1⟩ := hx.at_ hs'
      obtain ⟨g2, p2, A2, n2, c2, hB, hg2, hd2, hr2⟩ := ho.at_ hs'
      have hi1 := (hM.row s' hs').1
      have hi2 := (hM.row s' hs').2.1
      have hl1 := hr1.1
      have hl2 := hr2.1
      obtain rfl : n1 = i := by omega
      obtain rfl : n2 = n1 := by omega
      obtain ⟨g3, p3, rfl, hg3, hy1⟩ := hr1.at_ ha
      obtain ⟨g4, p4, rfl, hg4, hy2⟩ := hr2.at_ ha
      rw [hM.nN_eq hs' ha] at hy1
      change w.cell? _ = some (.int .i64 (oN ot s' a)) at hy2
      have hlt2 := hM.nN_lt hs' ha
      have hn1 := hr1.2.1
      subst hA hB
      clear hl1 hl2 hi1 hi2 hlen
      have tr : ∀ (g o : Nat) (v : Value), g < w.heap.size → w.cell? ⟨g, o, none⟩ = some v → wr.cell? ⟨g, o, none⟩ = some v := fun g o v h h2 => (hbw.cell (p := ⟨g, o, none⟩) h).trans h2
      have trF : ∀ (g o : Nat) (v : Value), g < w.heap.size + 1 → wr.cell? ⟨g, o, none⟩ = some v → ∀ k, (F k).2.cell? ⟨g, o, none⟩ = some v := fun g o v h h2 k => ((hF k).2.2.cell (p := ⟨g, o, none⟩) h).trans h2
      have e1 := tr _ _ _ hg1 hd1
      have e2 := tr _ _ _ hg2 hd2
      have e3 := tr _ _ _ hg3 hy1
      have e4 := tr _ _ _ hg4 hy2
      have f1 := trF _ _ _ (by omega) e1
      have f3 := trF _ _ _ (by omega) e3
      have f5 := trF _ _ _ (by omega) hc1
      have f6 := trF _ _ _ (by omega) k2
      clear tr trF hF hd1 hd2 hy1 hy2 k0 k1
      go_wp2
      go_region_law (refine step_append_run rfl _ _ _ _ rfl _ _ rfl rfl _ _ (HF.out _).1 ?_)
      all_goals
        go_wp2
        go_quiet (fail)
        go_wp2
        go_roundw
        case rel => exact ⟨q + 1, _, _, _, by omega, by go_num, rfl, rfl, hT.out.symm, hlt2, (HF.out _).2.1, below_drewN (hbr.trans (HF.out _).2.2) _⟩
        case measure => simp [intOf]; omega
    · obtain rfl : q = k := by omega
      have hall := Lib.hid (List.take_of_length_le (l := xs) (i := q) (by rw [L.out]; exact Nat.le_refl _))
      have hss := HSS.out
      rw [hall.out] at hown hss
      subst hss
      go_wp2
      go_ret2
      exact ⟨A', c', rfl, hown.lower (Nat.le_succ _), hbw⟩
end Go.Proofs.Ytcoihbpadbnilaa
end

section
/- Trim of a machine. -/
namespace Go.Proofs.Ytcoihbpadbnilaa
open Go.RowKit

/-- A block of a machine. -/
def Mblk (w : World) (g : Nat) (a b c d : Value) : Prop := w.heap[g]? = some (.cells #[a, b, c, d] 24 (0, 0))
theorem Mblk.cells {w : World} {g : Nat} {a b c d : Value} (h : Mblk w g a b c d) :
    w.cell? ⟨g, 0, none⟩ = some a ∧ w.cell? ⟨g, 1, none⟩ = some b ∧ w.cell? ⟨g, 2, none⟩ = some c ∧ w.cell? ⟨g, 3, none⟩ = some d ∧ w.frozen? ⟨g, 0, none⟩ = false ∧ w.frozen? ⟨g, 1, none⟩ = false ∧ w.frozen? ⟨g, 2, none⟩ = false ∧ w.frozen? ⟨g, 3, none⟩ = false :=
  ⟨cell_of_row w g 0 _ _ (0, 0) h, cell_of_row w g 1 _ _ (0, 0) h, cell_of_row w g 2 _ _ (0, 0) h, cell_of_row w g 3 _ _ (0, 0) h, frozen_of_row w g 0 _ _ h, frozen_of_row w g 1 _ _ h, frozen_of_row w g 2 _ _ h, frozen_of_row w g 3 _ _ h⟩
theorem Mblk.kept {w w' : World} {g : Nat} {a b c d : Value} (h : Mblk w g a b c d) {k : Nat} (hb : Below k w w') (hg : g < k) : Mblk w' g a b c d := (hb.block g hg).trans h
theorem Mblk.keptT {w w' : World} {g : Nat} {a b c d : Value} (h : Mblk w g a b c d) (hb : KeptT 24 w w') : Mblk w' g a b c d := hb g _ h

/-- A result that lies in memory, a machine, and one more. -/
theorem results_mealy {fn : Func} {p u : Tmp} (h : fn.results = #[.cell p 24, .tmp u]) (tmps : Array Value) (w : World) (g : Nat) (a b c d : Value)
    (hp : tmps.getD p undef = .pointer (some ⟨g, 0, none⟩)) (hg : Mblk w g a b c d) :
    (results fn tmps).run Try.prog w = .ok (.tuple #[.agg #[a, b, c, d], tmps.getD u undef]) w := by
  rw [results_cell_tmp h, hp]
  have hl := run_loadVar_row (P := Try.prog) w g 24 24 #[a, b, c, d] (0, 0) _ hg Try.underlying24 rfl (by kernel_rfl)
  simp [asAddr, hl]
theorem Mblk.set4 {w : World} {g : Nat} {a b c d : Value} (h : Mblk w g a b c d) (a' b' c' d' : Value) :
    Mblk ((((w.setCell ⟨g, 0, none⟩ a').setCell ⟨g, 1, none⟩ b').setCell ⟨g, 2, none⟩ c').setCell ⟨g, 3, none⟩ d') g a' b' c' d' := by
  have h1 := heap_setCell_same w g 0 _ _ a' h
  have h2 := heap_setCell_same _ g 1 _ _ b' h1
  have h3 := heap_setCell_same _ g 2 _ _ c' h2
  have h4 := heap_setCell_same _ g 3 _ _ d' h3
  exact h4

theorem OwnedL.drew {w : World} {base : Nat} {v : Value} {xss : List (List Int)} (h : OwnedL w base v xss) (q : Nat) : OwnedL (w.drewN q) base v xss := h
theorem Mblk.set2 {w : World} {g : Nat} {a b c d : Value} (h : Mblk w g a b c d) (v : Value) : Mblk (w.setCell ⟨g, 2, none⟩ v) g a b v d := heap_setCell_same w g 2 _ _ v h
theorem Mblk.set3 {w : World} {g : Nat} {a b c d : Value} (h : Mblk w g a b c d) (v : Value) : Mblk (w.setCell ⟨g, 3, none⟩ v) g a b c v := heap_setCell_same w g 3 _ _ v h
theorem OwnedL.offM {w : World} {base g j : Nat} {v : Value} {xss : List (List Int)} {a b c d : Value} (h : OwnedL w base v xss) (hM : Mblk w g a b c d) (u : Value) : OwnedL (w.setCell ⟨g, j, none⟩ u) base v xss :=
  h.keptT (KeptT.off hM (by decide) u) (KeptT.off hM (by decide) u)

/-- What a row of lists in a machine's block is behind a call and an append. -/
theorem trim_step {wo w8 w9 : World} {gT k m c9 : Nat} {x y u : Value} {AO A9 : Option Addr} {cO : Nat} {xss yss : List (List Int)} {xs : List Int} (b8 : Below gT wo w8) (hT : Mblk w8 gT x y u (.slice AO k cO)) (hN : OwnedL w8 gT u xss) (hO : OwnedL w8 gT (.slice AO k cO) yss) (hA : Apart u (.slice AO k cO))
    (q8 : Nat) (b9 : Below (w8.drewN q8).heap.size (w8.drewN q8) w9) (ho : Owned w9 (w8.drewN q8).heap.size (.slice A9 m c9) xs) (hk : k < 1759218604441) (hg : gT < w8.heap.size) :
    Mblk w9 gT x y u (.slice AO k cO) ∧ ∃ F : Nat → (Option Addr × Nat) × World, ∀ q, (Builtin.append_ #[22, 22] 22 #[.slice AO k cO, .slice (some ⟨w9.heap.size, 0, none⟩) 1 1]).run Try.prog ((w9.drewN q).alloc (.cells #[.slice A9 m c9] 25)) = .ok (.slice (F q).1.1 (k + 1) (F q).1.2) (F q).2 ∧
      Mblk (F q).2 gT x y u (.slice AO k cO) ∧ OwnedL (F q).2 gT u xss ∧ OwnedL (F q).2 gT (.slice (F q).1.1 (k + 1) (F q).1.2) (yss ++ [xs]) ∧ Apart u (.slice (F q).1.1 (k + 1) (F q).1.2) ∧ Below gT wo (F q).2 := by
  have b9' : Below w8.heap.size w8 w9 := (below_drewN (Below.refl _ _) q8).trans b9
  have hT9 := hT.kept b9' hg
  have hyl : yss.length = k := by obtain ⟨A', c', e⟩ := hO.form; cases e; rfl
  refine ⟨hT9, skol (p := fun q (r : (Option Addr × Nat) × World) => (Builtin.append_ #[22, 22] 22 #[.slice AO k cO, .slice (some ⟨w9.heap.size, 0, none⟩) 1 1]).run Try.prog ((w9.drewN q).alloc (.cells #[.slice A9 m c9] 25)) = .ok (.slice r.1.1 (k + 1) r.1.2) r.2 ∧
      Mblk r.2 gT x y u (.slice AO k cO) ∧ OwnedL r.2 gT u xss ∧ OwnedL r.2 gT (.slice r.1.1 (k + 1) r.1.2) (yss ++ [xs]) ∧ Apart u (.slice r.1.1 (k + 1) r.1.2) ∧ Below gT wo r.2) fun q => ?_⟩
  have hN9 := hN.kept b9'
  obtain ⟨A', c', w', h1, h2, h3, h4, h5, h6⟩ := run_append_list ((hO.kept b9').drew q) ((ho.lower (base' := gT) (Nat.le_of_lt hg)).drew q) (by have := b9'.size; show gT ≤ w9.heap.size; omega) (by omega)
  rw [hyl] at h1 h2 h6
  have hT9q : Mblk (w9.drewN q) gT x y u (.slice AO k cO) := hT9
  exact ⟨((A', c'), w'), h1, hT9q.keptT (h4 _ (by decide)), (hN9.drew q).keptB h5 hA.symm (h4 _ (by decide)), h2, (hA.symm.moved h6 (hN9.drew q)).symm, b8.trans ((b9'.mono (Nat.le_of_lt hg)).trans ((below_drewN (Below.refl _ _) q).trans h3))⟩

end Go.Proofs.Ytcoihbpadbnilaa
end

section
/- Boxes of machines; rows that a call owns, as lists. -/
namespace Go.Proofs.Ytcoihbpadbnilaa
open Go.RowKit

theorem mealy_box (w : World) (a b c d : Value) : Mblk (w.alloc (.cells #[a, b, c, d] 24)) w.heap.size a b c d := heap_alloc_new _ _
theorem lists_ownedM {w : World} {base : Nat} {A : Option Addr} {n c i st : Nat} {nx ot : List (List Int)} (hM : Mok i st n nx ot) (h : OwnedL w base (.slice A n c) nx) : Lists w A n nx :=
  h.lists (by rw [hM.nxl]; have := hM.n2; omega) fun xs hxs => by
    obtain ⟨s, hs, rfl⟩ := List.getElem_of_mem hxs
    have h1 := (hM.row s (by rw [← hM.nxl]; exact hs)).1
    rw [List.getD_eq_getElem?_getD, List.getElem?_eq_getElem hs] at h1
    have := hM.i2
    have h1 : nx[s].length = i := h1
    omega
theorem lists_ownedO {w : World} {base : Nat} {A : Option Addr} {n c i st : Nat} {nx ot : List (List Int)} (hM : Mok i st n nx ot) (h : OwnedL w base (.slice A n c) ot) : Lists w A n ot :=
  h.lists (by rw [hM.otl]; have := hM.n2; omega) fun xs hxs => by
    obtain ⟨s, hs, rfl⟩ := List.getElem_of_mem hxs
    have h1 := (hM.row s (by rw [← hM.otl]; exact hs)).2.1
    rw [List.getD_eq_getElem?_getD, List.getElem?_eq_getElem hs] at h1
    have := hM.i2
    have h1 : ot[s].length = i := h1
    omega
end Go.Proofs.Ytcoihbpadbnilaa
end

section
/- device: a device in memory. -/
namespace Go.Proofs.Ytcoihbpadbnilaa
open Go.RowKit

/-- Where the lists of a device lie. -/
structure DH where
  A : Option Addr
  n : Nat
  c : Nat
  B : Option Addr
  m : Nat
  d : Nat
  L : Option Addr
  l : Nat
  lc : Nat

def dvC (D : DD) (H : DH) : Array Value := #[.int .i64 D.i, .int .i64 D.st, .slice H.A H.n H.c, .slice H.B H.m H.d, .int .i64 D.s, .bool D.rdy, .slice H.L H.l H.lc, .int .i64 D.rc, .int .i64 D.f1, .int .i64 D.f2, .int .i64 D.f3, .int .u64 (D.sd : Int), .int .i64 D.sp, .int .i64 D.rs, .int .i64 D.tm]
def dvA (D : DD) (H : DH) : Value := .agg (dvC D H)
/-- The lists of a device read as they should. -/
structure DevR (w : World) (D : DD) (H : DH) : Prop where
  nx : Lists w H.A H.n D.nx
  ot : Lists w H.B H.m D.ot
  cs : Ints w H.L H.l D.cs
theorem DevR.below {w w' : World} {D : DD} {H : DH} (h : DevR w D H) (hb : Below w.heap.size w w') : DevR w' D H := ⟨h.nx.below hb, h.ot.below hb, h.cs.below hb⟩

/-- A block of cells. -/
def Blk (w : World) (g : Nat) (cs : Array Value) (t : TypeId) : Prop := w.heap[g]? = some (.cells cs t (0, 0))
theorem Blk.cell {w : World} {g : Nat} {cs : Array Value} {t : TypeId} (h : Blk w g cs t) (k : Nat) : w.cell? ⟨g, k, none⟩ = cs[k]? := cell_of_row w g k _ _ (0, 0) h
theorem Blk.free {w : World} {g : Nat} {cs : Array Value} {t : TypeId} (h : Blk w g cs t) (k : Nat) : w.frozen? ⟨g, k, none⟩ = false := frozen_of_row w g k _ _ h
theorem Blk.lt {w : World} {g : Nat} {cs : Array Value} {t : TypeId} (h : Blk w g cs t) : g < w.heap.size := by
  rcases Nat.lt_or_ge g w.heap.size with hlt | hge
  · exact hlt
  · unfold Blk at h
    rw [Array.getElem?_eq_none hge] at h; cases h
theorem Blk.kept {w w' : World} {g : Nat} {cs : Array Value} {t : TypeId} (h : Blk w g cs t) {k : Nat} (hb : Below k w w') (hg : g < k) : Blk w' g cs t := (hb.block g hg).trans h
theorem Blk.on {w w' : World} {g : Nat} {cs : Array Value} {t : TypeId} (h : Blk w g cs t) (hb : Below w.heap.size w w') : Blk w' g cs t := h.kept hb h.lt
theorem blk_new (w : World) (cs : Array Value) (t : TypeId) : Blk (w.alloc (.cells cs t)) w.heap.size cs t := heap_alloc_new _ _

/-- The cells of a device. -/
def DevC (w : World) (g : Nat) (D : DD) (H : DH) : Prop :=
  w.cell? ⟨g, 0, none⟩ = some (.int .i64 D.i) ∧ w.cell? ⟨g, 1, none⟩ = some (.int .i64 D.st) ∧ w.cell? ⟨g, 2, none⟩ = some (.slice H.A H.n H.c) ∧ w.cell? ⟨g, 3, none⟩ = some (.slice H.B H.m H.d) ∧
  w.cell? ⟨g, 4, none⟩ = some (.int .i64 D.s) ∧ w.cell? ⟨g, 5, none⟩ = some (.bool D.rdy) ∧ w.cell? ⟨g, 6, none⟩ = some (.slice H.L H.l H.lc) ∧ w.cell? ⟨g, 7, none⟩ = some (.int .i64 D.rc) ∧
  w.cell? ⟨g, 8, none⟩ = some (.int .i64 D.f1) ∧ w.cell? ⟨g, 9, none⟩ = some (.int .i64 D.f2) ∧ w.cell? ⟨g, 10, none⟩ = some (.int .i64 D.f3) ∧ w.cell? ⟨g, 11, none⟩ = some (.int .u64 (D.sd : Int)) ∧
  w.cell? ⟨g, 12, none⟩ = some (.int .i64 D.sp) ∧ w.cell? ⟨g, 13, none⟩ = some (.int .i64 D.rs) ∧ w.cell? ⟨g, 14, none⟩ = some (.int .i64 D.tm)
theorem Blk.dev {w : World} {g : Nat} {D : DD} {H : DH} {t : TypeId} (h : Blk w g (dvC D H) t) : DevC w g D H :=
  ⟨h.cell 0, h.cell 1, h.cell 2, h.cell 3, h.cell 4, h.cell 5, h.cell 6, h.cell 7, h.cell 8, h.cell 9, h.cell 10, h.cell 11, h.cell 12, h.cell 13, h.cell 14⟩

theorem pwithin (a b : Int) (r : Bool) (hr : r = decide (0 ≤ a ∧ a ≤ b)) (w : World) : Calls Try.prog 56 #[.int .i64 a, .int .i64 b] w fun e w' => e = .returned (.bool r) ∧ w = w' := by
  by_cases h1 : 0 ≤ a
  · by_cases h2 : a ≤ b
    · obtain rfl : r = true := hr.trans (decide_eq_true ⟨h1, h2⟩)
      have d1 : decide ((0 : Int) ≤ a) = true := decide_eq_true h1
      have d2 : decide (a ≤ b) = true := decide_eq_true h2
      clear hr
      go_enter Try.func56, Try.ntmps56
      go_wp2
      go_ret
      exact ⟨rfl, rfl⟩
    · obtain rfl : r = false := hr.trans (decide_eq_false fun h => h2 h.2)
      have d1 : decide ((0 : Int) ≤ a) = true := decide_eq_true h1
      have d2 : decide (a ≤ b) = false := decide_eq_false h2
      clear hr
      go_enter Try.func56, Try.ntmps56
      go_wp2
      go_ret
      exact ⟨rfl, rfl⟩
  · obtain rfl : r = false := hr.trans (decide_eq_false fun h => h1 h.1)
    have d1 : decide ((0 : Int) ≤ a) = false := decide_eq_false h1
    clear hr
    go_enter Try.func56, Try.ntmps56
    go_wp2
    go_ret
    exact ⟨rfl, rfl⟩

set_option maxHeartbeats 1000000 in
theorem pcountable (D : DD) (H : DH) (r : Bool) (hr : r = decide (dCnt D.sp D.rs D.tm)) (w : World) : Calls Try.prog 36 #[dvA D H] w fun e w' => e = .returned (.bool r) ∧ Below w.heap.size w w' := by
  obtain ⟨w1, hw1⟩ : ∃ w1, w1 = w.alloc (.cells (dvC D H) 32) := ⟨_, rfl⟩
  have b1 : Below w.heap.size w w1 := by rw [hw1]; exact alloc_below _ _
  have m1 : Blk w1 w.heap.size (dvC D H) 32 := by rw [hw1]; exact blk_new _ _ _
  obtain ⟨k0, k1, k2, k3, k4, k5, k6, k7, k8, k9, k10, k11, k12, k13, k14⟩ := m1.dev
  clear k0 k1 k2 k3 k4 k5 k6 k7 k8 k9 k10 k11
  rw [hw1] at k12 k13 k14
  have HW1 := Lib.hid hw1
  have HB1 := Lib.hid b1
  clear hw1 m1 b1
  unfold dvA dvC
  unfold dvC at k12 k13 k14 HW1
  by_cases h1 : 0 ≤ D.sp ∧ D.sp ≤ 1125899906842624
  · by_cases h2 : 0 ≤ D.rs ∧ D.rs ≤ 1125899906842624
    · by_cases h3 : 0 ≤ D.tm ∧ D.tm ≤ 1125899906842624
      · have HP1 := Lib.hid (fun (W : World) => pwithin D.sp 1125899906842624 true (decide_eq_true h1).symm W)
        have HP2 := Lib.hid (fun (W : World) => pwithin D.rs 1125899906842624 true (decide_eq_true h2).symm W)
        have HP3 := Lib.hid (fun (W : World) => pwithin D.tm 1125899906842624 true (decide_eq_true h3).symm W)
        have HR := Lib.hid (hr.trans (decide_eq_true ⟨h1, h2, h3⟩))
        clear hr
        go_enter Try.func36, Try.ntmps36
        go_wp2_with fail
        refine (HP1.out _).mono ?_
        rintro e w2 ⟨rfl, rfl⟩
        go_wp2_with fail
        refine (HP2.out _).mono ?_
        rintro e w2 ⟨rfl, rfl⟩
        go_wp2_with fail
        refine (HP3.out _).mono ?_
        rintro e w2 ⟨rfl, rfl⟩
        go_wp2
        go_ret
        exact ⟨by rw [HR.out]; rfl, by rw [← HW1.out]; exact HB1.out⟩
      · have HP1 := Lib.hid (fun (W : World) => pwithin D.sp 1125899906842624 true (decide_eq_true h1).symm W)
        have HP2 := Lib.hid (fun (W : World) => pwithin D.rs 1125899906842624 true (decide_eq_true h2).symm W)
        have HP3 := Lib.hid (fun (W : World) => pwithin D.tm 1125899906842624 false (decide_eq_false h3).symm W)
        have HR := Lib.hid (hr.trans (decide_eq_false fun h => h3 h.2.2))
        clear hr
        go_enter Try.func36, Try.ntmps36
        go_wp2_with fail
        refine (HP1.out _).mono ?_
        rintro e w2 ⟨rfl, rfl⟩
        go_wp2_with fail
        refine (HP2.out _).mono ?_
        rintro e w2 ⟨rfl, rfl⟩
        go_wp2_with fail
        refine (HP3.out _).mono ?_
        rintro e w2 ⟨rfl, rfl⟩
        go_wp2
        go_ret
        exact ⟨by rw [HR.out]; rfl, by rw [← HW1.out]; exact HB1.out⟩
    · have HP1 := Lib.hid (fun (W : World) => pwithin D.sp 1125899906842624 true (decide_eq_true h1).symm W)
      have HP2 := Lib.hid (fun (W : World) => pwithin D.rs 1125899906842624 false (decide_eq_false h2).symm W)
      have HR := Lib.hid (hr.trans (decide_eq_false fun h => h2 h.2.1))
      clear hr
      go_enter Try.func36, Try.ntmps36
      go_wp2_with fail
      refine (HP1.out _).mono ?_
      rintro e w2 ⟨rfl, rfl⟩
      go_wp2_with fail
      refine (HP2.out _).mono ?_
      rintro e w2 ⟨rfl, rfl⟩
      go_wp2
      go_ret
      exact ⟨by rw [HR.out]; rfl, by rw [← HW1.out]; exact HB1.out⟩
  · have HP1 := Lib.hid (fun (W : World) => pwithin D.sp 1125899906842624 false (decide_eq_false h1).symm W)
    have HR := Lib.hid (hr.trans (decide_eq_false fun h => h1 h.1))
    clear hr
    go_enter Try.func36, Try.ntmps36
    go_wp2_with fail
    refine (HP1.out _).mono ?_
    rintro e w2 ⟨rfl, rfl⟩
    go_wp2
    go_ret
    exact ⟨by rw [HR.out]; rfl, by rw [← HW1.out]; exact HB1.out⟩
end Go.Proofs.Ytcoihbpadbnilaa
end

section
/- device: costs and rates. -/
namespace Go.Proofs.Ytcoihbpadbnilaa
open Go.RowKit

theorem punp (x : Int) (r : Bool) (hr : r = decide (x < 0 ∨ 1048576 < x)) (w : World) : Calls Try.prog 51 #[.int .i64 x] w fun e w' => e = .returned (.bool r) ∧ w = w' := by
  by_cases h1 : x < 0
  · obtain rfl : r = true := hr.trans (decide_eq_true (.inl h1))
    have d1 : decide (x < (0 : Int)) = true := decide_eq_true h1
    clear hr
    go_enter Try.func51, Try.ntmps51
    go_wp2
    go_ret
    exact ⟨rfl, rfl⟩
  · have d1 : decide (x < (0 : Int)) = false := decide_eq_false h1
    by_cases h2 : 1048576 < x
    · obtain rfl : r = true := hr.trans (decide_eq_true (.inr h2))
      have d2 : decide ((1048576 : Int) < x) = true := decide_eq_true h2
      clear hr
      go_enter Try.func51, Try.ntmps51
      go_wp2
      go_ret
      exact ⟨rfl, rfl⟩
    · obtain rfl : r = false := hr.trans (decide_eq_false fun h => h.elim h1 h2)
      have d2 : decide ((1048576 : Int) < x) = false := decide_eq_false h2
      clear hr
      go_enter Try.func51, Try.ntmps51
      go_wp2
      go_ret
      exact ⟨rfl, rfl⟩

def Unp (x : Int) : Prop := x < 0 ∨ 1048576 < x
instance (x : Int) : Decidable (Unp x) := by unfold Unp; infer_instance

set_option maxHeartbeats 1000000 in
theorem pidxu (A : Option Addr) (n c : Nat) (xs : List Int) (w : World) (hx : Ints w A n xs) :
    Calls Try.prog 62 #[.slice A n c, .func (.func 51) #[] #[]] w fun e w' => ∃ r : Int, e = .returned (.int .i64 r) ∧ w = w' ∧
      ((r = -1 ∧ ∀ j, j < n → ¬ Unp (xs.getD j 0)) ∨ ∃ k : Nat, r = k ∧ k < n ∧ Unp (xs.getD k 0)) := by
  have hn := hx.2.1
  go_enter Try.func62, Try.ntmps62
  go_wp2
  go_loop [8] (fun kv => ∃ q : Nat, q ≤ n ∧ kv = .int .i64 q ∧ ∀ j, j < q → ¬ Unp (xs.getD j 0)) (fun kv => n - (intOf kv).toNat)
  case atStart => exact ⟨0, Nat.zero_le _, rfl, fun j hj => absurd hj (by omega)⟩
  case round =>
    obtain ⟨q, hq, rfl, hall⟩ := hrel
    have HA := Lib.hid hall
    clear hall
    by_cases hlt : q < n
    · obtain ⟨b, o, rfl, _, hc⟩ := hx.at_ hlt
      by_cases hU : Unp (xs.getD q 0)
      · have HU := Lib.hid hU
        have HP := Lib.hid (fun (W : World) => punp (xs.getD q 0) true (decide_eq_true hU).symm W)
        clear hU
        generalize xs.getD q 0 = x at hc HP
        go_wp2_with fail
        refine (HP.out _).mono ?_
        rintro e w2 ⟨rfl, rfl⟩
        go_wp2
        go_ret
        exact ⟨(q : Int), rfl, rfl, .inr ⟨q, rfl, hlt, HU.out⟩⟩
      · have HU := Lib.hid hU
        have HP := Lib.hid (fun (W : World) => punp (xs.getD q 0) false (decide_eq_false hU).symm W)
        have HN : Hid (∀ j, j < q + 1 → ¬ Unp (xs.getD j 0)) := Lib.hid (fun j hj => by
          by_cases e : j = q
          · subst e; exact HU.out
          · exact HA.out j (by omega))
        clear hU HU
        generalize xs.getD q 0 = x at hc HP
        go_wp2_with fail
        refine (HP.out _).mono ?_
        rintro e w2 ⟨rfl, rfl⟩
        go_wp2
        go_round
        case rel => exact ⟨q + 1, by omega, by go_num, HN.out⟩
        case measure => simp [intOf]; omega
    · obtain rfl : q = n := by omega
      go_wp2
      go_ret
      exact ⟨-1, rfl, rfl, .inl ⟨rfl, HA.out⟩⟩
theorem pcontu (A : Option Addr) (n c : Nat) (xs : List Int) (r : Bool) (w : World) (hx : Ints w A n xs) (hr : r = decide (∃ x, x ∈ xs ∧ Unp x)) :
    Calls Try.prog 52 #[.slice A n c, .func (.func 51) #[] #[]] w fun e w' => e = .returned (.bool r) ∧ w = w' := by
  have hl := Lib.hid hx.1
  have HI := Lib.hid (pidxu A n c xs w hx)
  have HR := Lib.hid hr
  clear hr
  go_enter Try.func52, Try.ntmps52
  go_wp2_with fail
  refine HI.out.mono ?_
  rintro e w2 ⟨k, rfl, rfl, hk⟩
  rcases hk with ⟨rfl, hk⟩ | ⟨k, rfl, hk, hU⟩
  · have HF : Hid (r = false) := Lib.hid (by
      rw [HR.out]
      refine decide_eq_false fun ⟨x, hx, hu⟩ => ?_
      obtain ⟨j, hj, rfl⟩ := List.getElem_of_mem hx
      have := hk j (by rw [← hl.out]; exact hj)
      rw [List.getD_eq_getElem?_getD, List.getElem?_eq_getElem hj] at this
      exact this hu)
    clear hk
    go_wp2
    go_ret
    exact ⟨by rw [HF.out]; rfl, rfl⟩
  · have HF : Hid (r = true) := Lib.hid (by
      rw [HR.out]
      refine decide_eq_true ⟨xs.getD k 0, ?_, hU⟩
      rw [List.getD_eq_getElem?_getD, List.getElem?_eq_getElem (by rw [hl.out]; exact hk)]
      exact List.getElem_mem _)
    clear hk hU
    have hge : decide ((0 : Int) ≤ (k : Int)) = true := decide_eq_true (by omega)
    go_wp2
    go_ret
    exact ⟨by rw [HF.out]; rfl, rfl⟩

theorem aff_iff {cs : List Int} {rc : Int} : dAff cs rc ↔ ¬ Unp rc ∧ ¬ ∃ x, x ∈ cs ∧ Unp x := by
  unfold dAff Unp
  constructor
  · rintro ⟨h1, h2⟩
    refine ⟨by omega, fun ⟨x, hx, hu⟩ => ?_⟩
    have := h2 x hx
    omega
  · rintro ⟨h1, h2⟩
    refine ⟨by omega, fun x hx => ?_⟩
    by_cases hu : x < 0 ∨ 1048576 < x
    · exact absurd ⟨x, hx, hu⟩ h2
    · omega

set_option maxHeartbeats 1000000 in
theorem paffordable (A : Option Addr) (n c : Nat) (xs : List Int) (rc : Int) (r : Bool) (w : World) (hx : Ints w A n xs) (hr : r = decide (dAff xs rc)) :
    Calls Try.prog 31 #[.agg #[.slice A n c, .int .i64 rc]] w fun e w' => e = .returned (.bool r) ∧ Below w.heap.size w w' := by
  obtain ⟨w1, hw1⟩ : ∃ w1, w1 = w.alloc (.cells #[.slice A n c, .int .i64 rc] 27) := ⟨_, rfl⟩
  have b1 : Below w.heap.size w w1 := by rw [hw1]; exact alloc_below _ _
  have m1 : Blk w1 w.heap.size #[.slice A n c, .int .i64 rc] 27 := by rw [hw1]; exact blk_new _ _ _
  have k0 := m1.cell 0
  have k1 := m1.cell 1
  have k0 : w1.cell? ⟨w.heap.size, 0, none⟩ = some (.slice A n c) := k0
  have k1 : w1.cell? ⟨w.heap.size, 1, none⟩ = some (.int .i64 rc) := k1
  rw [hw1] at k0 k1
  have HW1 := Lib.hid hw1
  have HB1 := Lib.hid b1
  have HX := Lib.hid (hx.below b1)
  clear hw1 m1 b1 hx
  by_cases h1 : Unp rc
  · obtain rfl : r = false := hr.trans (decide_eq_false fun h => (aff_iff.1 h).1 h1)
    have HP := Lib.hid (fun (W : World) => punp rc true (decide_eq_true h1).symm W)
    clear hr h1
    go_enter Try.func31, Try.ntmps31
    go_wp2_with fail
    refine (HP.out _).mono ?_
    rintro e w2 ⟨rfl, rfl⟩
    go_wp2
    go_ret
    exact ⟨rfl, by rw [← HW1.out]; exact HB1.out⟩
  · have HP := Lib.hid (fun (W : World) => punp rc false (decide_eq_false h1).symm W)
    by_cases h2 : ∃ x, x ∈ xs ∧ Unp x
    · obtain rfl : r = false := hr.trans (decide_eq_false fun h => (aff_iff.1 h).2 h2)
      have HC := Lib.hid (pcontu A n c xs true w1 HX.out (decide_eq_true h2).symm)
      rw [HW1.out] at HC
      clear hr h1 h2
      go_enter Try.func31, Try.ntmps31
      go_wp2_with fail
      refine (HP.out _).mono ?_
      rintro e w2 ⟨rfl, rfl⟩
      go_wp2_with fail
      refine HC.out.mono ?_
      rintro e w2 ⟨rfl, rfl⟩
      go_wp2
      go_ret
      exact ⟨rfl, by rw [← HW1.out]; exact HB1.out⟩
    · obtain rfl : r = true := hr.trans (decide_eq_true (aff_iff.2 ⟨h1, h2⟩))
      have HC := Lib.hid (pcontu A n c xs false w1 HX.out (decide_eq_false h2).symm)
      rw [HW1.out] at HC
      clear hr h1 h2
      go_enter Try.func31, Try.ntmps31
      go_wp2_with fail
      refine (HP.out _).mono ?_
      rintro e w2 ⟨rfl, rfl⟩
      go_wp2_with fail
      refine HC.out.mono ?_
      rintro e w2 ⟨rfl, rfl⟩
      go_wp2
      go_ret
      exact ⟨rfl, by rw [← HW1.out]; exact HB1.out⟩

set_option maxHeartbeats 2000000 in
set_option maxRecDepth 100000 in
theorem ppossible19 (f1 f2 f3 : Int) (r : Bool) (w : World) (hr : r = decide (dPos f1 f2 f3)) :
    Calls Try.prog 35 #[.agg #[.int .i64 f1, .int .i64 f2, .int .i64 f3]] w fun e w' => e = .returned (.bool r) ∧ Below w.heap.size w w' := by
  obtain ⟨w1, hw1⟩ : ∃ w1, w1 = w.alloc (.cells #[.int .i64 f1, .int .i64 f2, .int .i64 f3] 29) := ⟨_, rfl⟩
  have b1 : Below w.heap.size w w1 := by rw [hw1]; exact alloc_below _ _
  have m1 : Blk w1 w.heap.size #[.int .i64 f1, .int .i64 f2, .int .i64 f3] 29 := by rw [hw1]; exact blk_new _ _ _
  have k0 : w1.cell? ⟨w.heap.size, 0, none⟩ = some (.int .i64 f1) := m1.cell 0
  have k1 : w1.cell? ⟨w.heap.size, 1, none⟩ = some (.int .i64 f2) := m1.cell 1
  have k2 : w1.cell? ⟨w.heap.size, 2, none⟩ = some (.int .i64 f3) := m1.cell 2
  rw [hw1] at k0 k1 k2
  have HW1 := Lib.hid hw1
  have HB1 := Lib.hid b1
  have HR := Lib.hid hr
  clear hw1 m1 b1 hr
  go_enter Try.func35, Try.ntmps35
  go_wp2
  rw [← HW1.out]
  clear k0 k1 k2
  have i0 : ∀ w, (Instr.index 99 (.agg #[.int .i64 f1, .int .i64 f2, .int .i64 f3]) (.int .i64 0)).run Try.prog w = .ok (.int .i64 f1) w := fun _ => by kernel_rfl
  have i1 : ∀ w, (Instr.index 99 (.agg #[.int .i64 f1, .int .i64 f2, .int .i64 f3]) (.int .i64 1)).run Try.prog w = .ok (.int .i64 f2) w := fun _ => by kernel_rfl
  have i2 : ∀ w, (Instr.index 99 (.agg #[.int .i64 f1, .int .i64 f2, .int .i64 f3]) (.int .i64 2)).run Try.prog w = .ok (.int .i64 f3) w := fun _ => by kernel_rfl
  go_loop [13, 3] (fun kv lv => ∃ (q : Nat) (s : Int), q ≤ 3 ∧ kv = .int .i64 q ∧ lv = .int .i64 (10000 - s) ∧ (0 ≤ s ∧ s ≤ 10000) ∧ ((q = 0 ∧ s = 0) ∨ (q = 1 ∧ s = f1 ∧ 0 ≤ f1) ∨ (q = 2 ∧ s = f1 + f2 ∧ 0 ≤ f1 ∧ 0 ≤ f2) ∨ (q = 3 ∧ s = f1 + f2 + f3 ∧ 0 ≤ f1 ∧ 0 ≤ f2 ∧ 0 ≤ f3))) (fun kv _ => 3 - (intOf kv).toNat)
  case atStart => exact ⟨0, 0, by omega, rfl, rfl, by omega, .inl ⟨rfl, rfl⟩⟩
  case round =>
    obtain ⟨q, s, hq, rfl, rfl, hs, hor⟩ := hrel
    rcases hor with ⟨rfl, h1⟩ | ⟨rfl, h1, g1⟩ | ⟨rfl, h1, g1, g2⟩ | ⟨rfl, h1, g1, g2, g3⟩ <;> obtain rfl := h1.symm
    · by_cases hA : f1 < 0
      · have d1 : decide (f1 < (0 : Int)) = true := decide_eq_true hA
        have HF : Hid (r = false) := Lib.hid (HR.out.trans (decide_eq_false fun h => by unfold dPos at h; omega))
        clear hA
        go_wp2
        go_ret
        exact ⟨by rw [HF.out]; rfl, HB1.out⟩
      · have d1 : decide (f1 < (0 : Int)) = false := decide_eq_false hA
        by_cases hB : (10000 : Int) < f1
        · have d2 : decide ((10000 : Int) < f1) = true := decide_eq_true hB
          have HF : Hid (r = false) := Lib.hid (HR.out.trans (decide_eq_false fun h => by unfold dPos at h; omega))
          clear hA
          go_wp2
          go_ret
          exact ⟨by rw [HF.out]; rfl, HB1.out⟩
        · have d2 : decide ((10000 : Int) < f1) = false := decide_eq_false hB
          go_wp2
          go_round
          case rel => exact ⟨1, f1, by omega, rfl, by first | rfl | (congr 1; omega), by omega, .inr (.inl ⟨rfl, rfl, by omega⟩)⟩
          case measure => simp [intOf]
    · by_cases hA : f2 < 0
      · have d1 : decide (f2 < (0 : Int)) = true := decide_eq_true hA
        have HF : Hid (r = false) := Lib.hid (HR.out.trans (decide_eq_false fun h => by unfold dPos at h; omega))
        clear hA
        go_wp2
        go_ret
        exact ⟨by rw [HF.out]; rfl, HB1.out⟩
      · have d1 : decide (f2 < (0 : Int)) = false := decide_eq_false hA
        by_cases hB : ((10000 : Int) - f1) < f2
        · have d2 : decide (((10000 : Int) - f1) < f2) = true := decide_eq_true hB
          have HF : Hid (r = false) := Lib.hid (HR.out.trans (decide_eq_false fun h => by unfold dPos at h; omega))
          clear hA
          go_wp2
          go_ret
          exact ⟨by rw [HF.out]; rfl, HB1.out⟩
        · have d2 : decide (((10000 : Int) - f1) < f2) = false := decide_eq_false hB
          go_wp2
          go_round
          case rel => exact ⟨2, f1 + f2, by omega, rfl, by first | rfl | (congr 1; omega), by omega, .inr (.inr (.inl ⟨rfl, rfl, g1, by omega⟩))⟩
          case measure => simp [intOf]
    · by_cases hA : f3 < 0
      · have d1 : decide (f3 < (0 : Int)) = true := decide_eq_true hA
        have HF : Hid (r = false) := Lib.hid (HR.out.trans (decide_eq_false fun h => by unfold dPos at h; omega))
        clear hA
        go_wp2
        go_ret
        exact ⟨by rw [HF.out]; rfl, HB1.out⟩
      · have d1 : decide (f3 < (0 : Int)) = false := decide_eq_false hA
        by_cases hB : ((10000 : Int) - (f1 + f2)) < f3
        · have d2 : decide (((10000 : Int) - (f1 + f2)) < f3) = true := decide_eq_true hB
          have HF : Hid (r = false) := Lib.hid (HR.out.trans (decide_eq_false fun h => by unfold dPos at h; omega))
          clear hA
          go_wp2
          go_ret
          exact ⟨by rw [HF.out]; rfl, HB1.out⟩
        · have d2 : decide (((10000 : Int) - (f1 + f2)) < f3) = false := decide_eq_false hB
          go_wp2
          go_round
          case rel => exact ⟨3, f1 + f2 + f3, by omega, rfl, by first | rfl | (congr 1; omega), by omega, .inr (.inr (.inr ⟨rfl, rfl, g1, g2, by omega⟩))⟩
          case measure => simp [intOf]
    · have HF : Hid (r = true) := Lib.hid (HR.out.trans (decide_eq_true (by unfold dPos; omega)))
      go_wp2
      go_ret
      exact ⟨by rw [HF.out]; rfl, HB1.out⟩
end Go.Proofs.Ytcoihbpadbnilaa
end

section
/- device: Valid. -/
namespace Go.Proofs.Ytcoihbpadbnilaa
open Go.RowKit

theorem DevC.of {w1 w' : World} {g : Nat} {D : DD} {H : DH} {t : TypeId} (h : Blk w1 g (dvC D H) t) (hb : Below w1.heap.size w1 w') : DevC w' g D H := (h.on hb).dev

set_option maxHeartbeats 4000000 in
set_option maxRecDepth 100000 in
theorem pdvalid (D : DD) (H : DH) (r : Int) (w : World) (hD : DevR w D H) (hr : r = D.err) : Calls Try.prog 15 #[dvA D H] w fun e w' => e = .returned (.int .i64 r) ∧ Below w.heap.size w w' := by
  obtain ⟨w1, hw1⟩ : ∃ w1, w1 = w.alloc (.cells (dvC D H) 32) := ⟨_, rfl⟩
  have b1 : Below w.heap.size w w1 := by rw [hw1]; exact alloc_below _ _
  have m1 : Blk w1 w.heap.size (dvC D H) 32 := by rw [hw1]; exact blk_new _ _ _
  have HW1 := Lib.hid hw1
  have HB1 := Lib.hid b1
  have HM1 := Lib.hid m1
  have HD1 := Lib.hid (hD.below b1)
  have hn : (D.nx.length : Int) = (H.n : Int) := by rw [hD.nx.1]
  have hl : (D.cs.length : Int) = (H.l : Int) := by rw [hD.cs.1]
  have HR : Hid (r = if vld D.i D.st D.nx D.ot = 0 then (if 0 ≤ D.s ∧ D.s < (H.n : Int) then (if (H.l : Int) = D.i then (if dAff D.cs D.rc ∧ dPos D.f1 D.f2 D.f3 ∧ dCnt D.sp D.rs D.tm then 0 else 2) else 1) else 2) else vld D.i D.st D.nx D.ot) := Lib.hid (by rw [hr]; unfold DD.err; rw [hn, hl])
  have HV := Lib.hid (pvalid D.i D.st H.A H.B H.n H.c H.m H.d D.nx D.ot w1 HD1.out.nx HD1.out.ot)
  obtain ⟨k0, k1, k2, k3, k4, k5, k6, k7, k8, k9, k10, k11, k12, k13, k14⟩ := m1.dev
  rw [hw1] at k0 k1 k2 k3
  clear hw1 m1 b1 hD hr hn hl k4 k5 k6 k7 k8 k9 k10 k11 k12 k13 k14
  unfold dvA dvC
  unfold dvC at k0 k1 k2 k3 HW1
  go_enter Try.func15, Try.ntmps15
  go_wp2_with fail
  rw [← HW1.out]
  refine HV.out.mono ?_
  rintro e w2 ⟨rfl, b2⟩
  have HB2 := Lib.hid b2
  clear k0 k1 k2 k3 b2
  by_cases h0 : vld D.i D.st D.nx D.ot = 0
  · rw [if_pos h0] at HR
    rw [h0]
    obtain ⟨k0, k1, k2, k3, k4, k5, k6, k7, k8, k9, k10, k11, k12, k13, k14⟩ := DevC.of HM1.out HB2.out
    by_cases h1 : 0 ≤ D.s ∧ D.s < (H.n : Int)
    · have d1 : decide (D.s < (0 : Int)) = false := decide_eq_false (by omega)
      have d2 : decide ((H.n : Int) ≤ D.s) = false := decide_eq_false (by omega)
      rw [if_pos h1] at HR
      by_cases h2 : (H.l : Int) = D.i
      · have d3 : ((H.l : Int) != D.i) = false := by rw [h2]; simp
        rw [if_pos h2] at HR
        have HA := Lib.hid (fun (r : Bool) (hr : r = decide (dAff D.cs D.rc)) (W : World) (hW : Below w1.heap.size w1 W) => paffordable H.L H.l H.lc D.cs D.rc r W (HD1.out.cs.below hW) hr)
        have HP := Lib.hid (fun (r : Bool) (hr : r = decide (dPos D.f1 D.f2 D.f3)) (W : World) => ppossible19 D.f1 D.f2 D.f3 r W hr)
        have HC := Lib.hid (fun (r : Bool) (hr : r = decide (dCnt D.sp D.rs D.tm)) (W : World) => pcountable D H r hr W)
        unfold dvA dvC at HC
        clear h0 h1 h2
        by_cases hA : dAff D.cs D.rc
        · have HA2 := Lib.hid (HA.out true (decide_eq_true hA).symm)
          clear HA
          by_cases hP : dPos D.f1 D.f2 D.f3
          · have HP2 := Lib.hid (HP.out true (decide_eq_true hP).symm)
            clear HP
            by_cases hC : dCnt D.sp D.rs D.tm
            · rw [if_pos ⟨hA, hP, hC⟩] at HR
              have HC2 := Lib.hid (HC.out true (decide_eq_true hC).symm)
              clear hA hP hC HC
              go_wp2_with fail
              refine (HA2.out _ HB2.out).mono ?_
              rintro e w3 ⟨rfl, b3⟩
              have hb3 := bt HB2.out b3
              have HB3 := Lib.hid hb3
              clear b3 k0 k1 k2 k3 k4 k5 k6 k7 k8 k9 k10 k11 k12 k13 k14
              obtain ⟨k0, k1, k2, k3, k4, k5, k6, k7, k8, k9, k10, k11, k12, k13, k14⟩ := DevC.of HM1.out hb3
              clear hb3
              go_wp2_with fail
              refine (HP2.out _).mono ?_
              rintro e w4 ⟨rfl, b4⟩
              have hb4 := bt HB3.out b4
              have HB4 := Lib.hid hb4
              clear b4 k0 k1 k2 k3 k4 k5 k6 k7 k8 k9 k10 k11 k12 k13 k14
              obtain ⟨k0, k1, k2, k3, k4, k5, k6, k7, k8, k9, k10, k11, k12, k13, k14⟩ := DevC.of HM1.out hb4
              clear hb4
              go_wp2_with fail
              refine (HC2.out _).mono ?_
              rintro e w5 ⟨rfl, b5⟩
              have HB5 := Lib.hid (bt HB1.out (bt HB4.out b5))
              clear b5 k0 k1 k2 k3 k4 k5 k6 k7 k8 k9 k10 k11 k12 k13 k14
              go_wp2
              go_ret
              exact ⟨by rw [HR.out]; rfl, HB5.out⟩
            · rw [if_neg fun h => hC h.2.2] at HR
              have HC2 := Lib.hid (HC.out false (decide_eq_false hC).symm)
              clear hA hP hC HC
              go_wp2_with fail
              refine (HA2.out _ HB2.out).mono ?_
              rintro e w3 ⟨rfl, b3⟩
              have hb3 := bt HB2.out b3
              have HB3 := Lib.hid hb3
              clear b3 k0 k1 k2 k3 k4 k5 k6 k7 k8 k9 k10 k11 k12 k13 k14
              obtain ⟨k0, k1, k2, k3, k4, k5, k6, k7, k8, k9, k10, k11, k12, k13, k14⟩ := DevC.of HM1.out hb3
              clear hb3
              go_wp2_with fail
              refine (HP2.out _).mono ?_
              rintro e w4 ⟨rfl, b4⟩
              have hb4 := bt HB3.out b4
              have HB4 := Lib.hid hb4
              clear b4 k0 k1 k2 k3 k4 k5 k6 k7 k8 k9 k10 k11 k12 k13 k14
              obtain ⟨k0, k1, k2, k3, k4, k5, k6, k7, k8, k9, k10, k11, k12, k13, k14⟩ := DevC.of HM1.out hb4
              clear hb4
              go_wp2_with fail
              refine (HC2.out _).mono ?_
              rintro e w5 ⟨rfl, b5⟩
              have HB5 := Lib.hid (bt HB1.out (bt HB4.out b5))
              clear b5 k0 k1 k2 k3 k4 k5 k6 k7 k8 k9 k10 k11 k12 k13 k14
              go_wp2
              go_ret
              exact ⟨by rw [HR.out]; rfl, HB5.out⟩
          · rw [if_neg fun h => hP h.2.1] at HR
            have HP2 := Lib.hid (HP.out false (decide_eq_false hP).symm)
            clear hA hP HP HC k11 k12 k13 k14
            go_wp2_with fail
            refine (HA2.out _ HB2.out).mono ?_
            rintro e w3 ⟨rfl, b3⟩
            have hb3 := bt HB2.out b3
            have HB3 := Lib.hid hb3
            clear b3 k0 k1 k2 k3 k4 k5 k6 k7 k8 k9 k10
            obtain ⟨k0, k1, k2, k3, k4, k5, k6, k7, k8, k9, k10, k11, k12, k13, k14⟩ := DevC.of HM1.out hb3
            clear hb3
            go_wp2_with fail
            refine (HP2.out _).mono ?_
            rintro e w4 ⟨rfl, b4⟩
            have hb4 := bt HB3.out b4
            have HB4 := Lib.hid hb4
            clear hb4 b4 k0 k1 k2 k3 k4 k5 k6 k7 k8 k9 k10 k11 k12 k13 k14
            go_wp2
            go_ret
            exact ⟨by rw [HR.out]; rfl, bt HB1.out HB4.out⟩
        · rw [if_neg fun h => hA h.1] at HR
          have HA2 := Lib.hid (HA.out false (decide_eq_false hA).symm)
          clear hA HA HP HC k8 k9 k10 k11 k12 k13 k14 k1 k3
          go_wp2_with fail
          refine (HA2.out _ HB2.out).mono ?_
          rintro e w3 ⟨rfl, b3⟩
          have HB3 := Lib.hid (bt HB1.out (bt HB2.out b3))
          clear b3 k0 k2 k4 k5 k6 k7
          go_wp2
          go_ret
          exact ⟨by rw [HR.out]; rfl, HB3.out⟩
      · have d3 : ((H.l : Int) != D.i) = true := by rw [bne_iff_ne]; exact h2
        rw [if_neg h2] at HR
        clear h0 h1 h2 k8 k9 k10 k11 k12 k13 k14
        go_wp2
        go_ret
        exact ⟨by rw [HR.out]; rfl, bt HB1.out HB2.out⟩
    · rw [if_neg h1] at HR
      clear k5 k6 k7 k8 k9 k10 k11 k12 k13 k14
      by_cases h2 : D.s < 0
      · have d1 : decide (D.s < (0 : Int)) = true := decide_eq_true h2
        clear h0 h1 h2
        go_wp2
        go_ret
        exact ⟨by rw [HR.out]; rfl, bt HB1.out HB2.out⟩
      · have d1 : decide (D.s < (0 : Int)) = false := decide_eq_false h2
        have d2 : decide ((H.n : Int) ≤ D.s) = true := decide_eq_true (by omega)
        clear h0 h1 h2
        go_wp2
        go_ret
        exact ⟨by rw [HR.out]; rfl, bt HB1.out HB2.out⟩
  · rw [if_neg h0] at HR
    generalize vld D.i D.st D.nx D.ot = v at h0 HR ⊢
    have hne : (v != 0) = true := by simpa using h0
    clear h0
    go_wp2
    go_ret
    exact ⟨by rw [HR.out]; rfl, bt HB1.out HB2.out⟩
end Go.Proofs.Ytcoihbpadbnilaa
end

section
/- A region that draws its order and some of whose operations, which wait for all that read, may write what is read: the fact S is kept by the others only. Operations that read nothing are taken first, too. -/
namespace Go.Proofs.Ytcoihbpadbnilaa

section
variable {P : Program} {ops : Array Oper} {Q : Exit → Act → World → Prop} {md : Region.Mode} {S : World → Prop} {X : Nat → Bool}
/-- S is kept by every operation but those of X. -/
def wpAnyX (P : Program) (md : Region.Mode) (ops : Array Oper) (Q : Exit → Act → World → Prop) (S : World → Prop) (X : Nat → Bool) : Nat → Array Bool → Act → World → Prop
  | 0, listed, a, w => Region.ready md ops listed = [] ∧ Q .normal a w
  | fuel + 1, listed, a, w =>
    (Region.ready md ops listed = [] → Q .normal a w) ∧
    ∀ i ∈ Region.ready md ops listed, wpOp P ops Q i (fun a' w' => (X i = false → S w → S w') ∧ wpAnyX P md ops Q S X fuel (listed.setIfInBounds i true) a' w') a w
theorem wpAny_of_heldX : ∀ (fuel : Nat) (listed : Array Bool) (a : Act) (w : World), wpAnyX P md ops Q S X fuel listed a w → wpAny P md ops Q fuel listed a w
  | 0, _, _, _, h => h
  | fuel + 1, _, _, _, h => ⟨h.1, fun i hi => wpOp_mono (fun a' w' h' => wpAny_of_heldX fuel _ a' w' h'.2) (h.2 i hi)⟩
theorem wpAnyX_first {i : Nat} {oi : Oper} {v : Value} (hi : ops[i]? = some oi) (hk : ∀ k, X k = true → Region.waitsFor md ops k i = true) (hsel : ∀ (j : Nat) (o : Oper) cs b, ops[j]? = some o → o.op ≠ .select cs b)
    (hQ : ∀ c a w, Q (.panic c) (a.put oi.dst v) w → Q (.panic c) a w) :
    ∀ (fuel : Nat) (listed : Array Bool) (a : Act) (w : World),
      (∀ j oj, ops[j]? = some oj → j ≠ i → listed.getD j true = false → (∀ e ∈ oj.after, Region.binds md e = true → e.on ≠ i) → oi.apart ops oj = true) →
      i ∈ Region.ready md ops listed → YieldsIf P ops S oi v a → S w →
      wpAnyX P md ops Q S X fuel (listed.setIfInBounds i true) (a.put oi.dst v) w → wpAnyX P md ops Q S X (fuel + 1) listed a w := by
  intro fuel
  induction fuel with
  | zero =>
    intro listed a w _ hr hy hS H
    refine ⟨fun h => (by rw [h] at hr; cases hr), fun j hj => ?_⟩
    by_cases hji : j = i
    · subst hji; exact hy.wpOp hi hS ⟨fun _ h => h, H⟩
    · have := ready_mono hj hji
      rw [H.1] at this
      cases this
  | succ fuel ih =>
    intro listed a w hfree hr hy hS H
    refine ⟨fun h => (by rw [h] at hr; cases hr), fun j hj => ?_⟩
    by_cases hji : j = i
    · subst hji; exact hy.wpOp hi hS ⟨fun _ h => h, H⟩
    · have h1 := H.2 j (ready_mono hj hji)
      obtain ⟨hjun, oj, hoj, hall⟩ := mem_ready.1 hj
      have hnot : ∀ e ∈ oj.after, Region.binds md e = true → e.on ≠ i := fun e he hb heq => by
        have h1 := hall e he hb
        have h0 := (mem_ready.1 hr).1
        rw [heq] at h1
        rcases Nat.lt_or_ge i listed.size with h' | h'
        · simp [h'] at h0 h1; rw [h0] at h1; cases h1
        · simp [Array.getElem?_eq_none h'] at h1
      have hjk : X j = false := by
        rcases hXj : X j with _ | _
        · rfl
        · obtain ⟨o', ho', e, he, hb, hon⟩ := Region.waitsFor_spec (hk j hXj)
          have : o' = oj := Option.some.inj (ho'.symm.trans hoj)
          subst this
          exact absurd hon (hnot e he hb)
      have h2 := wpOp_putIf hoj (hfree j oj hoj hji hjun hnot) (fun cs b => hsel i oi cs b hi) (fun cs b => hsel j oj cs b hoj) hQ hy h1
      have hfree' : ∀ l ok, ops[l]? = some ok → l ≠ i → (listed.setIfInBounds j true).getD l true = false →
          (∀ e ∈ ok.after, Region.binds md e = true → e.on ≠ i) → oi.apart ops ok = true := fun l ok hl hli hun hno => by
        refine hfree l ok hl hli ?_ hno
        by_cases hjl : j = l
        · subst hjl; exact hjun
        · rw [getD_set_ne true hjl] at hun; exact hun
      refine wpOp_mono (fun a' w' h3 => ⟨h3.2.1, ih (listed.setIfInBounds j true) a' w' hfree' (ready_mono hr (Ne.symm hji)) h3.1 (h3.2.1 hjk hS) ?_⟩) h2
      rw [Array.setIfInBounds_comm _ _ hji]
      exact h3.2.2
theorem wpAnyX_firstP {i : Nat} {oi : Oper} {v : Value} (hi : ops[i]? = some oi) (hsel : ∀ (j : Nat) (o : Oper) cs b, ops[j]? = some o → o.op ≠ .select cs b)
    (hQ : ∀ c a w, Q (.panic c) (a.put oi.dst v) w → Q (.panic c) a w) :
    ∀ (fuel : Nat) (listed : Array Bool) (a : Act) (w : World),
      (∀ j oj, ops[j]? = some oj → j ≠ i → listed.getD j true = false → (∀ e ∈ oj.after, Region.binds md e = true → e.on ≠ i) → oi.apart ops oj = true) →
      i ∈ Region.ready md ops listed → YieldsIf P ops (fun _ => True) oi v a →
      wpAnyX P md ops Q S X fuel (listed.setIfInBounds i true) (a.put oi.dst v) w → wpAnyX P md ops Q S X (fuel + 1) listed a w := by
  intro fuel
  induction fuel with
  | zero =>
    intro listed a w _ hr hy H
    refine ⟨fun h => (by rw [h] at hr; cases hr), fun j hj => ?_⟩
    by_cases hji : j = i
    · subst hji; exact hy.wpOp hi trivial ⟨fun _ h => h, H⟩
    · have := ready_mono hj hji
      rw [H.1] at this
      cases this
  | succ fuel ih =>
    intro listed a w hfree hr hy H
    refine ⟨fun h => (by rw [h] at hr; cases hr), fun j hj => ?_⟩
    by_cases hji : j = i
    · subst hji; exact hy.wpOp hi trivial ⟨fun _ h => h, H⟩
    · have h1 := H.2 j (ready_mono hj hji)
      obtain ⟨hjun, oj, hoj, hall⟩ := mem_ready.1 hj
      have hnot : ∀ e ∈ oj.after, Region.binds md e = true → e.on ≠ i := fun e he hb heq => by
        have h1 := hall e he hb
        have h0 := (mem_ready.1 hr).1
        rw [heq] at h1
        rcases Nat.lt_or_ge i listed.size with h' | h'
        · simp [h'] at h0 h1; rw [h0] at h1; cases h1
        · simp [Array.getElem?_eq_none h'] at h1
      have h2 := wpOp_putIf hoj (hfree j oj hoj hji hjun hnot) (fun cs b => hsel i oi cs b hi) (fun cs b => hsel j oj cs b hoj) hQ hy h1
      have hfree' : ∀ l ok, ops[l]? = some ok → l ≠ i → (listed.setIfInBounds j true).getD l true = false →
          (∀ e ∈ ok.after, Region.binds md e = true → e.on ≠ i) → oi.apart ops ok = true := fun l ok hl hli hun hno => by
        refine hfree l ok hl hli ?_ hno
        by_cases hjl : j = l
        · subst hjl; exact hjun
        · rw [getD_set_ne true hjl] at hun; exact hun
      refine wpOp_mono (fun a' w' h3 => ⟨h3.2.1, ih (listed.setIfInBounds j true) a' w' hfree' (ready_mono hr (Ne.symm hji)) h3.1 ?_⟩) h2
      rw [Array.setIfInBounds_comm _ _ hji]
      exact h3.2.2
/-- Take number i, which reads what S says, first. -/
theorem wpAnyX_take {i : Nat} {oi : Oper} {v : Value} {fuel : Nat} {listed : Array Bool} {a : Act} {w : World} (hi : ops[i]? = some oi) (hk : ∀ k, X k = true → Region.waitsFor md ops k i = true)
    (hs : Region.noSelect ops = true) (hf : Region.free md ops listed i = true) (hr : (Region.ready md ops listed).contains i = true)
    (hQ : ∀ c a w, Q (.panic c) (a.put oi.dst v) w → Q (.panic c) a w) (hy : YieldsIf P ops S oi v a) (hS : S w)
    (h : wpAnyX P md ops Q S X fuel (listed.setIfInBounds i true) (a.put oi.dst v) w) : wpAnyX P md ops Q S X (fuel + 1) listed a w :=
  wpAnyX_first hi hk (Region.noSelect_spec hs) hQ fuel listed a w (Region.free_spec hi hf) (by simpa using hr) hy hS h
theorem wpAnyX_takeL {L : List Nat} {i : Nat} {oi : Oper} {v : Value} {fuel : Nat} {listed : Array Bool} {a : Act} {w : World} (hi : ops[i]? = some oi) (hk : (L.all fun k => Region.waitsFor md ops k i) = true)
    (hs : Region.noSelect ops = true) (hf : Region.free md ops listed i = true) (hr : (Region.ready md ops listed).contains i = true)
    (hQ : ∀ c a w, Q (.panic c) (a.put oi.dst v) w → Q (.panic c) a w) (hy : YieldsIf P ops S oi v a) (hS : S w)
    (h : wpAnyX P md ops Q S (fun k => L.contains k) fuel (listed.setIfInBounds i true) (a.put oi.dst v) w) : wpAnyX P md ops Q S (fun k => L.contains k) (fuel + 1) listed a w :=
  wpAnyX_take hi (fun k hX => List.all_eq_true.1 hk k (by simpa using hX)) hs hf hr hQ hy hS h
/-- Take number i, which reads nothing, first. -/
theorem wpAnyX_pure {i : Nat} {oi : Oper} {v : Value} {fuel : Nat} {listed : Array Bool} {a : Act} {w : World} (hi : ops[i]? = some oi)
    (hs : Region.noSelect ops = true) (hf : Region.free md ops listed i = true) (hr : (Region.ready md ops listed).contains i = true)
    (hQ : ∀ c a w, Q (.panic c) (a.put oi.dst v) w → Q (.panic c) a w) (hy : YieldsIf P ops (fun _ => True) oi v a)
    (h : wpAnyX P md ops Q S X fuel (listed.setIfInBounds i true) (a.put oi.dst v) w) : wpAnyX P md ops Q S X (fuel + 1) listed a w :=
  wpAnyX_firstP hi (Region.noSelect_spec hs) hQ fuel listed a w (Region.free_spec hi hf) (by simpa using hr) hy h
/-- The only one that may come up. -/
theorem wpAnyX_one {i : Nat} {o : Oper} {fuel : Nat} {listed : Array Bool} {a : Act} {w : World} (ho : ops[i]? = some o) (hr : Region.ready md ops listed = [i])
    (h : ∀ K' : Act → World → Prop, Shut (∀ a w', (X i = false → S w → S w') → wpAnyX P md ops Q S X fuel (listed.setIfInBounds i true) a w' → K' a w') → if Region.wanted o (yielded ops a.tmps) = true then Oper.wp P o a w K' Q else K' (a.put o.dst undef) w) : wpAnyX P md ops Q S X (fuel + 1) listed a w := by
  refine ⟨fun h0 => ?_, fun j hj => ?_⟩
  · rw [hr] at h0; cases h0
  · rw [hr] at hj
    obtain rfl := List.mem_singleton.1 hj
    exact wpOp_step ho (fun K' hK => h K' (fun a w hS hW => hK a w ⟨hS, hW⟩))
/-- One of two may come up. -/
theorem wpAnyX_two {i j : Nat} {o u : Oper} {fuel : Nat} {listed : Array Bool} {a : Act} {w : World} (ho : ops[i]? = some o) (hu : ops[j]? = some u) (hr : Region.ready md ops listed = [i, j])
    (h : ∀ K' : Act → World → Prop, Shut (∀ a w', (X i = false → S w → S w') → wpAnyX P md ops Q S X fuel (listed.setIfInBounds i true) a w' → K' a w') → if Region.wanted o (yielded ops a.tmps) = true then Oper.wp P o a w K' Q else K' (a.put o.dst undef) w)
    (k : ∀ K' : Act → World → Prop, Shut (∀ a w', (X j = false → S w → S w') → wpAnyX P md ops Q S X fuel (listed.setIfInBounds j true) a w' → K' a w') → if Region.wanted u (yielded ops a.tmps) = true then Oper.wp P u a w K' Q else K' (a.put u.dst undef) w) : wpAnyX P md ops Q S X (fuel + 1) listed a w := by
  refine ⟨fun h0 => ?_, fun l hl => ?_⟩
  · rw [hr] at h0; cases h0
  · rw [hr] at hl
    rcases List.mem_cons.1 hl with rfl | hl
    · exact wpOp_step ho (fun K' hK => h K' (fun a w hS hW => hK a w ⟨hS, hW⟩))
    · obtain rfl := List.mem_singleton.1 hl
      exact wpOp_step hu (fun K' hK => k K' (fun a w hS hW => hK a w ⟨hS, hW⟩))
theorem wpAnyX_done {listed : Array Bool} {a : Act} {w : World} (hr : Region.ready md ops listed = []) (h : Q .normal a w) : ∀ fuel, wpAnyX P md ops Q S X fuel listed a w
  | 0 => ⟨hr, h⟩
  | _ + 1 => ⟨fun _ => h, by rw [hr]; simp⟩
theorem wp_region_heldX {id : Nat} {a : Act} {w : World} (hm : P.follows .mixedOrders = true)
    (h : wpAnyX P .any ops Q S X ops.size (Array.replicate ops.size false) a w.drew) : (Code.region id ops true).wp P Q a w :=
  wp_region_any hm (wpAny_of_heldX _ _ _ _ h)
end
end Go.Proofs.Ytcoihbpadbnilaa
end

section
/- device: copies. -/
namespace Go.Proofs.Ytcoihbpadbnilaa
open Go.RowKit

set_option maxHeartbeats 2000000 in
set_option maxRecDepth 100000 in
theorem prows (A : Option Addr) (n c : Nat) (xss : List (List Int)) (w : World) (hx : Lists w A n xss) (hn : n ≤ 100000) :
    Calls Try.prog 49 #[.slice A n c] w fun e w' => ∃ A' c', e = .returned (.slice A' n c') ∧ OwnedL w' w.heap.size (.slice A' n c') xss ∧ Below w.heap.size w w' := by
  have hl := Lib.hid hx.1
  have HX := Lib.hid hx
  clear hx
  go_enter Try.func49, Try.ntmps49
  go_wp2
  go_loopw [8, 3] (fun kv lv wr => ∃ (q : Nat) (A' : Option Addr) (c' : Nat), q ≤ n ∧ kv = .int .i64 q ∧ lv = .slice A' q c' ∧ OwnedL wr w.heap.size (.slice A' q c') (xss.take q) ∧ Below w.heap.size w wr) (fun kv _ _ => n - (intOf kv).toNat)
  case atStart => exact ⟨0, none, 0, Nat.zero_le _, rfl, rfl, by rw [List.take_zero]; exact OwnedL.nil _ _, Below.refl _ _⟩
  case round =>
    obtain ⟨q, A', c', hq, rfl, rfl, hown, hbr⟩ := hrel
    have HOW := Lib.hid hown
    have HBR := Lib.hid hbr
    by_cases hlt : q < n
    · obtain ⟨b, o, Aj, nj, cj, rfl, hb0, hcj, hr⟩ := HX.out.at_ hlt
      have e1 := (hbr.cell (p := ⟨b, o + q, none⟩) hb0).trans hcj
      have HC := Lib.hid (sclone Aj nj cj (xss.getD q []) wr (hr.below hbr))
      have htk : Hid (xss.take q ++ [xss.getD q []] = xss.take (q + 1)) := Lib.hid (by
        rw [List.getD_eq_getElem?_getD, List.take_add_one, List.getElem?_eq_getElem (by rw [hl.out]; exact hlt)]
        rfl)
      have hlen : (xss.take q).length = q := by rw [List.length_take, hl.out]; omega
      have HLEN := Lib.hid hlen
      have hz := hbr.size
      generalize xss.getD q [] = row at HC htk
      clear hown hbr hcj hb0 hr hlen
      go_wp2_with fail
      refine HC.out.mono ?_
      rintro e w3 ⟨A3, c3, rfl, o3, b3⟩
      obtain ⟨A4, c4, w4, hrun, ho4, hb4, _⟩ := run_append_list (HOW.out.kept b3) (o3.lower hz) (Nat.le_trans hz b3.size) (by rw [HLEN.out]; omega)
      rw [HLEN.out] at hrun ho4
      rw [htk.out] at ho4
      have HO4 := Lib.hid ho4
      have HB4 := Lib.hid ((HBR.out.trans (b3.mono hz)).trans hb4)
      clear o3 b3 ho4 hb4 e1
      go_wp2_with (at_builtin; refine Lib.wpList_append_run _ rfl _ _ _ _ rfl _ _ rfl rfl _ _ hrun ?_)
      go_roundw
      case rel => exact ⟨q + 1, A4, c4, by omega, by go_num, rfl, HO4.out, HB4.out⟩
      case measure => simp [intOf]; omega
    · obtain rfl : q = n := by omega
      have hall := Lib.hid (List.take_of_length_le (l := xss) (i := q) (by rw [hl.out]; exact Nat.le_refl _))
      clear hown hbr
      go_wp2
      go_ret
      exact ⟨A', c', rfl, by rw [← hall.out]; exact HOW.out, HBR.out⟩


theorem Blk.set {w : World} {g : Nat} {cs : Array Value} {t : TypeId} (h : Blk w g cs t) (k : Nat) (v : Value) : Blk (w.setCell ⟨g, k, none⟩ v) g (cs.setIfInBounds k v) t := by
  have := heap_setCell_same w g k _ _ v h
  unfold Blk
  rw [this]
theorem Blk.other {w : World} {g g' k : Nat} {cs : Array Value} {t : TypeId} (h : Blk w g cs t) (hg : g ≠ g') (v : Value) : Blk (w.setCell ⟨g', k, none⟩ v) g cs t := by
  unfold Blk
  rw [heap_setCell_other _ _ _ _ hg]
  exact h
theorem Blk.row {w : World} {g : Nat} {cs : Array Value} {t : TypeId} (h : Blk w g cs t) (cs' : Array Value) : Blk (w.setRow g cs') g cs' t := setRow_heap w g _ _ _ _ h
theorem Blk.rowOther {w : World} {g g' : Nat} {cs : Array Value} {t : TypeId} (h : Blk w g cs t) (hg : g ≠ g') (cs' : Array Value) : Blk (w.setRow g' cs') g cs t := by
  unfold Blk
  rw [setRow_other _ _ _ _ hg]
  exact h
theorem Blk.keptRow {w : World} {g : Nat} {cs : Array Value} {t t' : TypeId} (h : Blk w g cs t') (ht : t ≠ t') (cs' : Array Value) : KeptT t w (w.setRow g cs') := fun k cs2 e => by
  rw [setRow_other]
  · exact e
  · intro hk
    subst hk
    unfold Blk at h
    rw [h] at e
    injection e with e
    injection e with _ e _
    exact ht e.symm
theorem Blk.keptSet {w : World} {g k : Nat} {cs : Array Value} {t t' : TypeId} (h : Blk w g cs t') (ht : t ≠ t') (v : Value) : KeptT t w (w.setCell ⟨g, k, none⟩ v) := KeptT.off h ht v

theorem results_dev1 {fn : Func} {p : Tmp} (h : fn.results = #[.cell p 32]) (tmps : Array Value) (w : World) (g : Nat) (cs : Array Value) (hs : cs.size = 15)
    (hp : tmps.getD p undef = .pointer (some ⟨g, 0, none⟩)) (hg : Blk w g cs 32) : (results fn tmps).run Try.prog w = .ok (.agg cs) w :=
  results_cell_row h tmps w g 32 cs (0, 0) _ hp hg Try.underlying32 rfl (by rw [hs]; kernel_rfl)
/-- The blocks from a number on are as they were. -/
def Above (base : Nat) (w W : World) : Prop := ∀ b, base ≤ b → b < w.heap.size → W.heap[b]? = w.heap[b]?
theorem Owned.above {w W : World} {base : Nat} {v : Value} {xs : List Int} (h : Owned w base v xs) (hk : Above base w W) : Owned W base v xs := by
  refine ⟨h.1, ?_⟩
  rcases h.2 with e | ⟨g, cap, cur, hv, hbg, hg, r⟩
  · exact .inl e
  · exact .inr ⟨g, cap, cur, hv, hbg, (hk g hbg (heap_lt hg)).trans hg, r⟩
theorem OwnedL.above {w W : World} {base : Nat} {v : Value} {xss : List (List Int)} (h : OwnedL w base v xss) (hk : Above base w W) : OwnedL W base v xss := by
  obtain ⟨vs, h, hr⟩ := h
  refine ⟨vs, ⟨h.1, ?_⟩, fun j hj => ?_⟩
  · rcases h.2 with e | ⟨g, cap, cur, hv, hbg, hg, r⟩
    · exact .inl e
    · exact .inr ⟨g, cap, cur, hv, hbg, (hk g hbg (heap_lt hg)).trans hg, r⟩
  · obtain ⟨A, c, h1, h2⟩ := hr j hj
    exact ⟨A, c, h1, h2.above hk⟩
/-- The lists of a device lie in blocks from a number on. -/
def DevN (w : World) (base : Nat) (D : DD) (H : DH) : Prop := ∀ W, Above base w W → DevR W D H
theorem DevN.dev {w : World} {base : Nat} {D : DD} {H : DH} (h : DevN w base D H) : DevR w D H := h w fun _ _ _ => rfl
theorem DevN.on {w w' : World} {base : Nat} {D : DD} {H : DH} (h : DevN w base D H) (hs : w.heap.size ≤ w'.heap.size) (hb : Above base w w') : DevN w' base D H := fun W hW => h W fun b h1 h2 => (hW b h1 (by omega)).trans (hb b h1 h2)
theorem DevN.below {w w' : World} {base : Nat} {D : DD} {H : DH} (h : DevN w base D H) (hb : Below w.heap.size w w') : DevN w' base D H := h.on hb.size fun b _ h2 => hb.block b h2
theorem DevN.lower {w : World} {base base' : Nat} {D : DD} {H : DH} (h : DevN w base D H) (hb : base' ≤ base) : DevN w base' D H := fun W hW => h W fun b h1 h2 => hW b (by omega) h2
theorem DevN.row {w : World} {base g : Nat} {D : DD} {H : DH} (h : DevN w base D H) (hg : g < base) (cs : Array Value) : DevN (w.setRow g cs) base D H := h.on (by simp) fun b h1 _ => setRow_other _ _ _ _ (by omega)
/-- The lists of a result: new ones, or those of the argument. -/
def DevG (w w' : World) (H : DH) (D : DD) (H' : DH) : Prop := DevN w' w.heap.size D H' ∨ (H' = H ∧ DevR w' D H')
theorem DevG.dev {w w' : World} {H H' : DH} {D : DD} (h : DevG w w' H D H') : DevR w' D H' := h.elim (·.dev) (·.2)
theorem dvC_size (D : DD) (H : DH) : (dvC D H).size = 15 := rfl
theorem dvC_one (D : DD) (H : DH) : (dvC D H).all (·.oneCell') = true := by unfold dvC; simp [Value.oneCell']

set_option linter.unusedSimpArgs false in
set_option maxHeartbeats 4000000 in
set_option maxRecDepth 100000 in
theorem pcopied19 (D : DD) (H : DH) (w : World) (hD : DevR w D H) (hn : H.n ≤ 128) (hm : H.m ≤ 128) (hr1 : ∀ xs, xs ∈ D.nx → xs.length ≤ 128) (hr2 : ∀ xs, xs ∈ D.ot → xs.length ≤ 128) :
    Calls Try.prog 30 #[dvA D H] w fun e w' => ∃ H', e = .returned (dvA D H') ∧ DevN w' w.heap.size D H' ∧ Below w.heap.size w w' := by
  obtain ⟨zc, hzc⟩ : ∃ zc : Array Value, zc = #[.int .i64 0, .int .i64 0, .slice none 0 0, .slice none 0 0, .int .i64 0, .bool false, .slice none 0 0, .int .i64 0, .int .i64 0, .int .i64 0, .int .i64 0, .int .u64 0, .int .i64 0, .int .i64 0, .int .i64 0] := ⟨_, rfl⟩
  obtain ⟨w1, hw1⟩ : ∃ w1, w1 = w.alloc (.cells (dvC D H) 32) := ⟨_, rfl⟩
  obtain ⟨w2, hw2⟩ : ∃ w2, w2 = w1.alloc (.cells zc 32) := ⟨_, rfl⟩
  have b1 : Below w.heap.size w w1 := by rw [hw1]; exact alloc_below _ _
  have z1 : w1.heap.size = w.heap.size + 1 := by rw [hw1]; simp
  have b2 : Below w1.heap.size w1 w2 := by rw [hw2]; exact alloc_below _ _
  have m1 : Blk w1 w.heap.size (dvC D H) 32 := by rw [hw1]; exact blk_new _ _ _
  have m2 : Blk w2 (w.heap.size + 1) zc 32 := by rw [hw2, ← z1]; exact blk_new _ _ _
  have b12 := bt b1 b2
  have HB2 := Lib.hid b12
  have HBK := Lib.hid (fun (W : World) (h : Below w2.heap.size w2 W) => (m1.on b2).on h)
  have HBZ := Lib.hid (fun (W : World) (h : Below w2.heap.size w2 W) => m2.on h)
  have hz := Lib.hid (show zc.size = 15 by rw [hzc]; rfl)
  have HRA := Lib.hid (fun (W : World) (h : Below w2.heap.size w2 W) => prows H.A H.n H.c D.nx W ((hD.below b12).nx.below h) (by omega))
  have HRB := Lib.hid (fun (W : World) (h : Below w2.heap.size w2 W) => prows H.B H.m H.d D.ot W ((hD.below b12).ot.below h) (by omega))
  have HCL := Lib.hid (fun (W : World) (h : Ints W H.L H.l D.cs) => sclone H.L H.l H.lc D.cs W h)
  have HCS := Lib.hid (hD.below b12).cs
  have HD := Lib.hid hD
  have hlb := hD.cs.2.1
  have hn' := hD.nx.1
  have hm' := hD.ot.1
  have hl' := hD.cs.1
  have HS := Lib.hid (fun (W : World) (h : Below w2.heap.size w2 W) => (show W.cell? ⟨w.heap.size, 2, none⟩ = some (.slice H.A H.n H.c) ∧ W.cell? ⟨w.heap.size, 3, none⟩ = some (.slice H.B H.m H.d) from ⟨(HBK.out W h).cell 2, (HBK.out W h).cell 3⟩))
  rw [hw1, hzc] at hw2
  have HW2 := Lib.hid hw2
  clear hw1 hw2 hzc b1 b2 m1 m2 b12 hD
  unfold dvA
  go_enter Try.func30, Try.ntmps30
  go_wp2_with fail
  rw [← HW2.out]
  have hbf : Below w2.heap.size w2 w2.drew := below_drewN (Below.refl _ _) 1
  refine wp_region_heldX (X := fun k => ([10, 13] : List Nat).contains k) (S := fun W => W.cell? ⟨w.heap.size, 2, none⟩ = some (.slice H.A H.n H.c) ∧ W.cell? ⟨w.heap.size, 3, none⟩ = some (.slice H.B H.m H.d)) (by kernel_rfl) ?_
  refine wpAnyX_pure (i := 0) (v := ?_) rfl (by kernel_rfl) (by kernel_rfl) (by kernel_rfl) (fun _ _ _ h => h) (Or.inl ⟨by rfl, ?_⟩) ?_
  rotate_left
  · (intro W _; go_simp; try with_reducible rfl)
  (try simp only [Act.put, List.getElem_toArray, List.getElem_cons_zero, List.getElem_cons_succ, List.setIfInBounds_toArray, List.set_cons_zero, List.set_cons_succ])
  refine wpAnyX_pure (i := 1) (v := ?_) rfl (by kernel_rfl) (by kernel_rfl) (by kernel_rfl) (fun _ _ _ h => h) (Or.inl ⟨by rfl, ?_⟩) ?_
  rotate_left
  · (intro W _; go_simp; try with_reducible rfl)
  (try simp only [Act.put, List.getElem_toArray, List.getElem_cons_zero, List.getElem_cons_succ, List.setIfInBounds_toArray, List.set_cons_zero, List.set_cons_succ])
  refine wpAnyX_takeL (L := [10, 13]) (i := 2) (v := ?_) rfl (by kernel_rfl) (by kernel_rfl) (by kernel_rfl) (by kernel_rfl) (fun _ _ _ h => h) (Or.inl ⟨by rfl, ?_⟩) (HS.out _ hbf) ?_
  rotate_left
  · (intro W hSW; (try dsimp only at hSW); obtain ⟨z0, z1⟩ := hSW; go_simp; try with_reducible rfl)
  (try simp only [Act.put, List.getElem_toArray, List.getElem_cons_zero, List.getElem_cons_succ, List.setIfInBounds_toArray, List.set_cons_zero, List.set_cons_succ])
  refine wpAnyX_pure (i := 4) (v := ?_) rfl (by kernel_rfl) (by kernel_rfl) (by kernel_rfl) (fun _ _ _ h => h) (Or.inl ⟨by rfl, ?_⟩) ?_
  rotate_left
  · (intro W _; go_simp; try with_reducible rfl)
  (try simp only [Act.put, List.getElem_toArray, List.getElem_cons_zero, List.getElem_cons_succ, List.setIfInBounds_toArray, List.set_cons_zero, List.set_cons_succ])
  refine wpAnyX_pure (i := 5) (v := ?_) rfl (by kernel_rfl) (by kernel_rfl) (by kernel_rfl) (fun _ _ _ h => h) (Or.inl ⟨by rfl, ?_⟩) ?_
  rotate_left
  · (intro W _; go_simp; try with_reducible rfl)
  (try simp only [Act.put, List.getElem_toArray, List.getElem_cons_zero, List.getElem_cons_succ, List.setIfInBounds_toArray, List.set_cons_zero, List.set_cons_succ])
  refine wpAnyX_takeL (L := [10, 13]) (i := 6) (v := ?_) rfl (by kernel_rfl) (by kernel_rfl) (by kernel_rfl) (by kernel_rfl) (fun _ _ _ h => h) (Or.inl ⟨by rfl, ?_⟩) (HS.out _ hbf) ?_
  rotate_left
  · (intro W hSW; (try dsimp only at hSW); obtain ⟨z0, z1⟩ := hSW; go_simp; try with_reducible rfl)
  (try simp only [Act.put, List.getElem_toArray, List.getElem_cons_zero, List.getElem_cons_succ, List.setIfInBounds_toArray, List.set_cons_zero, List.set_cons_succ])
  refine wpAnyX_one (i := 3) rfl (by kernel_rfl) (fun K hK => ?_)
  go_simp
  go_at_call 49
  refine (HRA.out _ hbf).mono ?_
  rintro e w3 ⟨A3, c3, rfl, o3, b3⟩
  have HB3Z := Lib.hid (Nat.le_trans HB2.out.size hbf.size)
  have hbf := bt hbf b3
  refine hK.out _ _ (fun _ _ => HS.out _ hbf) ?_
  (try simp only [Act.put, List.getElem_toArray, List.getElem_cons_zero, List.getElem_cons_succ, List.setIfInBounds_toArray, List.set_cons_zero, List.set_cons_succ])
  refine wpAnyX_pure (i := 8) (v := ?_) rfl (by kernel_rfl) (by kernel_rfl) (by kernel_rfl) (fun _ _ _ h => h) (Or.inl ⟨by rfl, ?_⟩) ?_
  rotate_left
  · (intro W _; go_simp; try with_reducible rfl)
  (try simp only [Act.put, List.getElem_toArray, List.getElem_cons_zero, List.getElem_cons_succ, List.setIfInBounds_toArray, List.set_cons_zero, List.set_cons_succ])
  refine wpAnyX_pure (i := 9) (v := ?_) rfl (by kernel_rfl) (by kernel_rfl) (by kernel_rfl) (fun _ _ _ h => h) (Or.inl ⟨by rfl, ?_⟩) ?_
  rotate_left
  · (intro W _; go_simp; try with_reducible rfl)
  (try simp only [Act.put, List.getElem_toArray, List.getElem_cons_zero, List.getElem_cons_succ, List.setIfInBounds_toArray, List.set_cons_zero, List.set_cons_succ])
  refine wpAnyX_one (i := 7) rfl (by kernel_rfl) (fun K hK => ?_)
  go_simp
  go_at_call 49
  refine (HRB.out _ hbf).mono ?_
  rintro e w4 ⟨A4, c4, rfl, o4, b4⟩
  have HO3 := Lib.hid (o3.kept b4)
  have HB4Z := Lib.hid (Nat.le_trans HB2.out.size hbf.size)
  have hbf := bt hbf b4
  have HBF := Lib.hid hbf
  have HO4 := Lib.hid o4
  refine hK.out _ _ (fun _ _ => HS.out _ hbf) ?_
  clear o3 o4 b3 b4
  have f2 := (HBK.out _ hbf).free 2
  have f3 := (HBK.out _ hbf).free 3
  obtain ⟨e2, e3⟩ := HS.out _ hbf
  (try simp only [Act.put, List.getElem_toArray, List.getElem_cons_zero, List.getElem_cons_succ, List.setIfInBounds_toArray, List.set_cons_zero, List.set_cons_succ])
  refine wpAnyX_one (i := 10) rfl (by kernel_rfl) (fun K hK => ?_)
  go_simp
  refine hK.out _ _ (fun h => absurd h (by decide)) ?_
  (try simp only [Act.put, List.getElem_toArray, List.getElem_cons_zero, List.getElem_cons_succ, List.setIfInBounds_toArray, List.set_cons_zero, List.set_cons_succ])
  refine wpAnyX_pure (i := 11) (v := ?_) rfl (by kernel_rfl) (by kernel_rfl) (by kernel_rfl) (fun _ _ _ h => h) (Or.inl ⟨by rfl, ?_⟩) ?_
  rotate_left
  · (intro W _; go_simp; try with_reducible rfl)
  (try simp only [Act.put, List.getElem_toArray, List.getElem_cons_zero, List.getElem_cons_succ, List.setIfInBounds_toArray, List.set_cons_zero, List.set_cons_succ])
  refine wpAnyX_pure (i := 12) (v := ?_) rfl (by kernel_rfl) (by kernel_rfl) (by kernel_rfl) (fun _ _ _ h => h) (Or.inl ⟨by rfl, ?_⟩) ?_
  rotate_left
  · (intro W _; go_simp; try with_reducible rfl)
  (try simp only [Act.put, List.getElem_toArray, List.getElem_cons_zero, List.getElem_cons_succ, List.setIfInBounds_toArray, List.set_cons_zero, List.set_cons_succ])
  refine wpAnyX_one (i := 13) rfl (by kernel_rfl) (fun K hK => ?_)
  go_simp
  refine hK.out _ _ (fun h => absurd h (by decide)) ?_
  (try simp only [Act.put, List.getElem_toArray, List.getElem_cons_zero, List.getElem_cons_succ, List.setIfInBounds_toArray, List.set_cons_zero, List.set_cons_succ])
  refine wpAnyX_done (by kernel_rfl) ?_ _
  obtain ⟨H1, hH1⟩ : ∃ H1 : DH, H1 = { H with A := A3, c := c3, B := A4, d := c4 } := ⟨_, rfl⟩
  obtain ⟨W5, hW5⟩ : ∃ W5, W5 = (w4.setCell ⟨w.heap.size, 2, none⟩ (.slice A3 H.n c3)).setCell ⟨w.heap.size, 3, none⟩ (.slice A4 H.m c4) := ⟨_, rfl⟩
  have k5 : Blk W5 w.heap.size (dvC D H1) 32 := by rw [hW5, hH1]; exact (((HBK.out _ HBF.out).set 2 (.slice A3 H.n c3)).set 3 (.slice A4 H.m c4))
  have z5 : Blk W5 (w.heap.size + 1) zc 32 := by rw [hW5]; exact ((HBZ.out _ HBF.out).other (by omega) _).other (by omega) _
  have t5 : ∀ t, t ≠ 32 → KeptT t w4 W5 := fun t ht => by rw [hW5]; exact ((HBK.out _ HBF.out).keptSet ht _).trans (((HBK.out _ HBF.out).set 2 _).keptSet ht _)
  have b5 : Below w.heap.size w W5 := by rw [hW5]; exact ((HB2.out.trans (HBF.out.mono (by have := HB2.out.size; omega))).setCell (p := ⟨w.heap.size, 2, none⟩) (Nat.le_refl _) _).setCell (p := ⟨w.heap.size, 3, none⟩) (Nat.le_refl _) _
  rw [← hW5]
  have e6 : W5.cell? ⟨w.heap.size, 6, none⟩ = some (.slice H.L H.l H.lc) := by have := k5.cell 6; rw [hH1] at this; exact this
  have g6 := k5.free 6
  have HT5 := Lib.hid t5
  have HB5 := Lib.hid b5
  have HK5 := Lib.hid k5
  have HZ5 := Lib.hid z5
  have hz5 := b5.size
  have HC5 := Lib.hid (HCL.out W5 (HD.out.cs.below b5))
  have hlt5 := k5.lt
  have hlt6 := z5.lt
  clear hW5 k5 z5 t5 b5 hbf f2 f3 e2 e3
  go_wp2_with fail
  refine HC5.out.mono ?_
  rintro e w6 ⟨A6, c6, rfl, o6, b6⟩
  obtain ⟨H2, hH2⟩ : ∃ H2 : DH, H2 = { H1 with L := A6, lc := c6 } := ⟨_, rfl⟩
  obtain ⟨W7, hW7⟩ : ∃ W7, W7 = w6.setCell ⟨w.heap.size, 6, none⟩ (.slice A6 H.l c6) := ⟨_, rfl⟩
  have k6 := HK5.out.on b6
  have k7 : Blk W7 w.heap.size (dvC D H2) 32 := by rw [hW7, hH2]; have := k6.set 6 (.slice A6 H.l c6); rw [hH1] at this ⊢; exact this
  have z7 : Blk W7 (w.heap.size + 1) zc 32 := by rw [hW7]; exact (HZ5.out.on b6).other (by omega) _
  have t7 : ∀ t, t ≠ 32 → KeptT t w6 W7 := fun t ht => by rw [hW7]; exact k6.keptSet ht _
  have b7 : Below w.heap.size w W7 := by rw [hW7]; exact ((HB5.out.trans (b6.mono hz5)).setCell (p := ⟨w.heap.size, 6, none⟩) (Nat.le_refl _) _)
  have g7 := k6.free 6
  have e7 : w6.cell? ⟨w.heap.size, 6, none⟩ = some (.slice H1.L H1.l H1.lc) := k6.cell 6
  have HW7 := Lib.hid hW7
  have HK7L : Hid (Blk (w6.setCell ⟨w.heap.size, 6, none⟩ (.slice A6 H.l c6)) w.heap.size (dvC D H2) 32) := Lib.hid (by rw [← hW7]; exact k7)
  have HT7 := Lib.hid t7
  have HT6 := Lib.hid (fun t => KeptT.of_below (t := t) b6)
  have HB7 := Lib.hid b7
  have HK7 := Lib.hid k7
  have HZ7 := Lib.hid z7
  have HO6 := Lib.hid o6
  have hsz : (dvC D H2).size = 15 := rfl
  have hone : (dvC D H2).all (·.oneCell') = true := dvC_one D H2
  have HSZ := Lib.hid hsz
  have HONE := Lib.hid hone
  have hF : Hid (DevN (W7.setRow (w.heap.size + 1) (dvC D H2)) w.heap.size D H2 ∧ Below w.heap.size w (W7.setRow (w.heap.size + 1) (dvC D H2)) ∧ Blk (W7.setRow (w.heap.size + 1) (dvC D H2)) (w.heap.size + 1) (dvC D H2) 32) := Lib.hid (by
    have tk : ∀ t, t ≠ 32 → KeptT t w6 (W7.setRow (w.heap.size + 1) (dvC D H2)) := fun t ht => (HT7.out t ht).trans (HZ7.out.keptRow ht _)
    have tk4 : ∀ t, t ≠ 32 → KeptT t w4 (W7.setRow (w.heap.size + 1) (dvC D H2)) := fun t ht => ((HT5.out t ht).trans (HT6.out t)).trans (tk t ht)
    have hz2 := HB2.out.size
    refine ⟨fun W hW => ⟨?_, ?_, ?_⟩, below_setRow HB7.out (by omega) _, HZ7.out.row _⟩
    · rw [show H2.A = A3 by rw [hH2, hH1], show H2.n = H.n by rw [hH2, hH1]]
      exact (((HO3.out.keptT (tk4 _ (by decide)) (tk4 _ (by decide))).lower (HB3Z.out)).above hW).lists (by omega) fun xs hx => by have := hr1 xs hx; omega
    · rw [show H2.B = A4 by rw [hH2, hH1], show H2.m = H.m by rw [hH2, hH1]]
      exact (((HO4.out.keptT (tk4 _ (by decide)) (tk4 _ (by decide))).lower (HB4Z.out)).above hW).lists (by omega) fun xs hx => by have := hr2 xs hx; omega
    · rw [show H2.L = A6 by rw [hH2], show H2.l = H.l by rw [hH2, hH1]]
      have : Owned (W7.setRow (w.heap.size + 1) (dvC D H2)) W5.heap.size (.slice A6 H.l c6) D.cs := HO6.out.keptT (tk _ (by decide))
      exact ((this.lower (Nat.le_trans hz5 (Nat.le_refl _))).above hW).ints (by omega))
  clear hH1 hH2 hW7 k6 k7 z7 t7 b7 o6 b6 hsz hone e6 g6
  go_upto_region 3 with fail
  refine wp_region_list ?_
  simp only [List.toList_toArray]
  refine wpList_load_row rfl 32 _ rfl w.heap.size rfl 32 (dvC D H2) (0, 0) _ HK7L.out Try.underlying32 rfl (by rw [HSZ.out]; kernel_rfl) ?_
  rw [← HW7.out]
  refine wpList_store_row rfl 32 _ _ rfl (w.heap.size + 1) (dvC D H2) rfl rfl 32 zc HZ7.out (by rw [HSZ.out]; kernel_rfl) (by rw [hz.out, HSZ.out]) HONE.out ?_
  go_wp2
  refine bodyPost_ret (results_dev1 (by rfl) _ _ (w.heap.size + 1) (dvC D H2) HSZ.out rfl hF.out.2.2) rfl ⟨H2, rfl, hF.out.1, hF.out.2.1⟩
end Go.Proofs.Ytcoihbpadbnilaa
end

section
/- device: the runner's reset and step. -/
namespace Go.Proofs.Ytcoihbpadbnilaa
open Go.RowKit

/-- Only the runner's block is changed, and it holds these cells. -/
structure Runs (g : Nat) (w w' : World) (cs : Array Value) : Prop where
  blk : Blk w' g cs 84
  below : Below g w w'
  kept : ∀ t, t ≠ 84 → KeptT t w w'
  off : ∀ b, b < w.heap.size → b ≠ g → w'.heap[b]? = w.heap[b]?
theorem Runs.start {g : Nat} {w : World} {cs : Array Value} (h : Blk w g cs 84) : Runs g w w cs := ⟨h, Below.refl _ _, fun _ _ _ _ e => e, fun _ _ _ => rfl⟩
theorem Runs.set {g : Nat} {w w' : World} {cs : Array Value} (h : Runs g w w' cs) (k : Nat) (v : Value) : Runs g w (w'.setCell ⟨g, k, none⟩ v) (cs.setIfInBounds k v) :=
  ⟨h.blk.set k v, h.below.setCell (p := ⟨g, k, none⟩) (Nat.le_refl _) _, fun t ht => (h.kept t ht).trans (h.blk.keptSet ht v), fun b hb hg => (heap_setCell_other _ _ _ _ hg).trans (h.off b hb hg)⟩
theorem Runs.drew {g : Nat} {w w' : World} {cs : Array Value} (h : Runs g w w' cs) (n : Nat) : Runs g w (w'.drewN n) cs := ⟨h.blk, below_drewN h.below n, fun t ht => (h.kept t ht).trans (KeptT.drewN t w' n), h.off⟩
theorem Runs.andThen {g : Nat} {w w1 w2 : World} {cs c2 : Array Value} (h : Runs g w w1 cs) (k : Runs g w1 w2 c2) : Runs g w w2 c2 := ⟨k.blk, h.below.trans k.below, fun t ht => (h.kept t ht).trans (k.kept t ht), fun b hb hg => (k.off b (Nat.lt_of_lt_of_le hb h.below.size) hg).trans (h.off b hb hg)⟩
theorem Runs.grow {g : Nat} {w w1 w2 : World} {cs : Array Value} (h : Runs g w w1 cs) (hg : g < w.heap.size) (hb : Below w.heap.size w1 w2) : Runs g w w2 cs :=
  ⟨h.blk.kept hb hg, h.below.trans (hb.mono (Nat.le_of_lt hg)), fun t ht k cs2 e => (hb.block k (heap_lt e)).trans (h.kept t ht k cs2 e), fun b hb2 hg2 => (hb.block b hb2).trans (h.off b hb2 hg2)⟩

theorem paffords (g : Nat) (D : DD) (H : DH) (x : Int) (r : Bool) (w : World) (hB : Blk w g (dvC D H) 84) (hx : 0 ≤ x ∧ x ≤ 1048576) (hr : r = decide (D.tm ≤ 1125899906842624 - x)) :
    Calls Try.prog 58 #[.pointer (some ⟨g, 0, none⟩), .int .i64 x] w fun e w' => e = .returned (.bool r) ∧ w = w' := by
  have k14 : w.cell? ⟨g, 14, none⟩ = some (.int .i64 D.tm) := hB.cell 14
  have hw : IntKind.i64.wrap (1125899906842624 - x) = 1125899906842624 - x := by rw [IntKind.wrap_i64]; omega
  clear hB
  by_cases h : D.tm ≤ 1125899906842624 - x
  · obtain rfl : r = true := hr.trans (decide_eq_true h)
    have d1 : decide (D.tm ≤ 1125899906842624 - x) = true := decide_eq_true h
    clear hr h
    go_enter Try.func58, Try.ntmps58
    go_wp2
    go_ret
    exact ⟨rfl, rfl⟩
  · obtain rfl : r = false := hr.trans (decide_eq_false h)
    have d1 : decide (D.tm ≤ 1125899906842624 - x) = false := decide_eq_false h
    clear hr h
    go_enter Try.func58, Try.ntmps58
    go_wp2
    go_ret
    exact ⟨rfl, rfl⟩

set_option linter.unusedSimpArgs false in
set_option maxHeartbeats 4000000 in
set_option maxRecDepth 100000 in
theorem preset (g : Nat) (D : DD) (H : DH) (w : World) (hB : Blk w g (dvC D H) 84) (hA : dAff D.cs D.rc) (hC : dCnt D.sp D.rs D.tm) :
    Calls Try.prog 41 #[.pointer (some ⟨g, 0, none⟩)] w fun e w' => e = .returned (.int .i64 D.rstE) ∧ Runs g w w' (dvC D.rstD H) := by
  have hrc := hA.1
  have hrs := hC.2.1
  have htm := hC.2.2
  have HB := Lib.hid hB
  have hg := hB.lt
  have k13 : w.cell? ⟨g, 13, none⟩ = some (.int .i64 D.rs) := hB.cell 13
  have k7 : w.cell? ⟨g, 7, none⟩ = some (.int .i64 D.rc) := hB.cell 7
  have f13 := hB.free 13
  have HAF := Lib.hid (fun (r : Bool) (hr : r = decide (D.tm ≤ 1125899906842624 - D.rc)) => paffords g D H D.rc r w hB hrc hr)
  clear hB hA hC
  by_cases h1 : D.rs < 1125899906842624
  · have d1 : decide ((1125899906842624 : Int) ≤ D.rs) = false := decide_eq_false (by omega)
    by_cases h2 : D.tm ≤ 1125899906842624 - D.rc
    · have HA2 := Lib.hid (HAF.out true (decide_eq_true h2).symm)
      have HR : Hid (D.rstE = 0 ∧ D.rstD = D.rst) := Lib.hid ⟨by unfold DD.rstE; rw [if_pos ⟨h1, h2⟩], by unfold DD.rstD; rw [if_pos ⟨h1, h2⟩]⟩
      have w1 : IntKind.i64.wrap (D.rs + 1) = D.rs + 1 := by rw [IntKind.wrap_i64]; omega
      have w2 : IntKind.i64.wrap (D.tm + D.rc) = D.tm + D.rc := by rw [IntKind.wrap_i64]; omega
      clear HAF h1 h2 hrc hrs htm
      go_enter Try.func41, Try.ntmps41
      go_wp2_with fail
      refine HA2.out.mono ?_
      rintro e w2' ⟨rfl, rfl⟩
      go_wp2_with fail
      obtain ⟨W3, hW3⟩ : ∃ W3, W3 = w.setCell ⟨g, 13, none⟩ (.int .i64 (D.rs + 1)) := ⟨_, rfl⟩
      have r3 : Runs g w W3 (dvC { D with rs := D.rs + 1 } H) := by rw [hW3]; exact (Runs.start HB.out).set 13 (.int .i64 (D.rs + 1))
      have k3 := r3.blk
      rw [← hW3]
      have R3 := Lib.hid r3
      clear hW3 k13 k7 f13
      have k14 : W3.cell? ⟨g, 14, none⟩ = some (.int .i64 D.tm) := k3.cell 14
      have k7 : W3.cell? ⟨g, 7, none⟩ = some (.int .i64 D.rc) := k3.cell 7
      have k1 : W3.cell? ⟨g, 1, none⟩ = some (.int .i64 D.st) := k3.cell 1
      have k4 : W3.cell? ⟨g, 4, none⟩ = some (.int .i64 D.s) := k3.cell 4
      have k5 : W3.cell? ⟨g, 5, none⟩ = some (.bool D.rdy) := k3.cell 5
      have f14 := k3.free 14
      have f4 := k3.free 4
      have f5 := k3.free 5
      have hS3 : W3.drew.cell? ⟨g, 14, none⟩ = some (.int .i64 D.tm) ∧ W3.drew.cell? ⟨g, 7, none⟩ = some (.int .i64 D.rc) := ⟨k14, k7⟩
      clear k3 r3
      refine wp_region_heldX (X := fun k => ([15] : List Nat).contains k) (S := fun W => W.cell? ⟨g, 14, none⟩ = some (.int .i64 D.tm) ∧ W.cell? ⟨g, 7, none⟩ = some (.int .i64 D.rc)) (by kernel_rfl) ?_
      refine wpAnyX_pure (i := 0) (v := ?_) rfl (by kernel_rfl) (by kernel_rfl) (by kernel_rfl) (fun _ _ _ h => h) (Or.inl ⟨by rfl, ?_⟩) ?_
      rotate_left
      · (intro W _; go_simp; try with_reducible rfl)
      (try simp only [Act.put, List.getElem_toArray, List.getElem_cons_zero, List.getElem_cons_succ, List.setIfInBounds_toArray, List.set_cons_zero, List.set_cons_succ])
      refine wpAnyX_pure (i := 1) (v := ?_) rfl (by kernel_rfl) (by kernel_rfl) (by kernel_rfl) (fun _ _ _ h => h) (Or.inl ⟨by rfl, ?_⟩) ?_
      rotate_left
      · (intro W _; go_simp; try with_reducible rfl)
      (try simp only [Act.put, List.getElem_toArray, List.getElem_cons_zero, List.getElem_cons_succ, List.setIfInBounds_toArray, List.set_cons_zero, List.set_cons_succ])
      refine wpAnyX_pure (i := 2) (v := ?_) rfl (by kernel_rfl) (by kernel_rfl) (by kernel_rfl) (fun _ _ _ h => h) (Or.inl ⟨by rfl, ?_⟩) ?_
      rotate_left
      · (intro W _; go_simp; try with_reducible rfl)
      (try simp only [Act.put, List.getElem_toArray, List.getElem_cons_zero, List.getElem_cons_succ, List.setIfInBounds_toArray, List.set_cons_zero, List.set_cons_succ])
      refine wpAnyX_pure (i := 3) (v := ?_) rfl (by kernel_rfl) (by kernel_rfl) (by kernel_rfl) (fun _ _ _ h => h) (Or.inl ⟨by rfl, ?_⟩) ?_
      rotate_left
      · (intro W _; go_simp; try with_reducible rfl)
      (try simp only [Act.put, List.getElem_toArray, List.getElem_cons_zero, List.getElem_cons_succ, List.setIfInBounds_toArray, List.set_cons_zero, List.set_cons_succ])
      refine wpAnyX_takeL (L := [15]) (i := 4) (v := ?_) rfl (by kernel_rfl) (by kernel_rfl) (by kernel_rfl) (by kernel_rfl) (fun _ _ _ h => h) (Or.inl ⟨by rfl, ?_⟩) (hS3) ?_
      rotate_left
      · (intro W hSW; (try dsimp only at hSW); obtain ⟨z0, z1⟩ := hSW; go_simp; try with_reducible rfl)
      (try simp only [Act.put, List.getElem_toArray, List.getElem_cons_zero, List.getElem_cons_succ, List.setIfInBounds_toArray, List.set_cons_zero, List.set_cons_succ])
      refine wpAnyX_pure (i := 5) (v := ?_) rfl (by kernel_rfl) (by kernel_rfl) (by kernel_rfl) (fun _ _ _ h => h) (Or.inl ⟨by rfl, ?_⟩) ?_
      rotate_left
      · (intro W _; go_simp; try with_reducible rfl)
      (try simp only [Act.put, List.getElem_toArray, List.getElem_cons_zero, List.getElem_cons_succ, List.setIfInBounds_toArray, List.set_cons_zero, List.set_cons_succ])
      refine wpAnyX_pure (i := 6) (v := ?_) rfl (by kernel_rfl) (by kernel_rfl) (by kernel_rfl) (fun _ _ _ h => h) (Or.inl ⟨by rfl, ?_⟩) ?_
      rotate_left
      · (intro W _; go_simp; try with_reducible rfl)
      (try simp only [Act.put, List.getElem_toArray, List.getElem_cons_zero, List.getElem_cons_succ, List.setIfInBounds_toArray, List.set_cons_zero, List.set_cons_succ])
      refine wpAnyX_pure (i := 7) (v := ?_) rfl (by kernel_rfl) (by kernel_rfl) (by kernel_rfl) (fun _ _ _ h => h) (Or.inl ⟨by rfl, ?_⟩) ?_
      rotate_left
      · (intro W _; go_simp; try with_reducible rfl)
      (try simp only [Act.put, List.getElem_toArray, List.getElem_cons_zero, List.getElem_cons_succ, List.setIfInBounds_toArray, List.set_cons_zero, List.set_cons_succ])
      refine wpAnyX_pure (i := 8) (v := ?_) rfl (by kernel_rfl) (by kernel_rfl) (by kernel_rfl) (fun _ _ _ h => h) (Or.inl ⟨by rfl, ?_⟩) ?_
      rotate_left
      · (intro W _; go_simp; try with_reducible rfl)
      (try simp only [Act.put, List.getElem_toArray, List.getElem_cons_zero, List.getElem_cons_succ, List.setIfInBounds_toArray, List.set_cons_zero, List.set_cons_succ])
      refine wpAnyX_pure (i := 9) (v := ?_) rfl (by kernel_rfl) (by kernel_rfl) (by kernel_rfl) (fun _ _ _ h => h) (Or.inl ⟨by rfl, ?_⟩) ?_
      rotate_left
      · (intro W _; go_simp; try with_reducible rfl)
      (try simp only [Act.put, List.getElem_toArray, List.getElem_cons_zero, List.getElem_cons_succ, List.setIfInBounds_toArray, List.set_cons_zero, List.set_cons_succ])
      refine wpAnyX_takeL (L := [15]) (i := 10) (v := ?_) rfl (by kernel_rfl) (by kernel_rfl) (by kernel_rfl) (by kernel_rfl) (fun _ _ _ h => h) (Or.inl ⟨by rfl, ?_⟩) (hS3) ?_
      rotate_left
      · (intro W hSW; (try dsimp only at hSW); obtain ⟨z0, z1⟩ := hSW; go_simp; try with_reducible rfl)
      (try simp only [Act.put, List.getElem_toArray, List.getElem_cons_zero, List.getElem_cons_succ, List.setIfInBounds_toArray, List.set_cons_zero, List.set_cons_succ])
      refine wpAnyX_pure (i := 11) (v := ?_) rfl (by kernel_rfl) (by kernel_rfl) (by kernel_rfl) (fun _ _ _ h => h) (Or.inl ⟨by rfl, ?_⟩) ?_
      rotate_left
      · (intro W _; go_simp; try with_reducible rfl)
      (try simp only [Act.put, List.getElem_toArray, List.getElem_cons_zero, List.getElem_cons_succ, List.setIfInBounds_toArray, List.set_cons_zero, List.set_cons_succ])
      refine wpAnyX_pure (i := 12) (v := ?_) rfl (by kernel_rfl) (by kernel_rfl) (by kernel_rfl) (fun _ _ _ h => h) (Or.inl ⟨by rfl, ?_⟩) ?_
      rotate_left
      · (intro W _; go_simp; try with_reducible rfl)
      (try simp only [Act.put, List.getElem_toArray, List.getElem_cons_zero, List.getElem_cons_succ, List.setIfInBounds_toArray, List.set_cons_zero, List.set_cons_succ])
      refine wpAnyX_pure (i := 13) (v := ?_) rfl (by kernel_rfl) (by kernel_rfl) (by kernel_rfl) (fun _ _ _ h => h) (Or.inl ⟨by rfl, ?_⟩) ?_
      rotate_left
      · (intro W _; go_simp; try with_reducible rfl)
      (try simp only [Act.put, List.getElem_toArray, List.getElem_cons_zero, List.getElem_cons_succ, List.setIfInBounds_toArray, List.set_cons_zero, List.set_cons_succ])
      refine wpAnyX_pure (i := 14) (v := ?_) rfl (by kernel_rfl) (by kernel_rfl) (by kernel_rfl) (fun _ _ _ h => h) (Or.inl ⟨by rfl, ?_⟩) ?_
      rotate_left
      · (intro W _; go_simp; try with_reducible rfl)
      (try simp only [Act.put, List.getElem_toArray, List.getElem_cons_zero, List.getElem_cons_succ, List.setIfInBounds_toArray, List.set_cons_zero, List.set_cons_succ])
      refine wpAnyX_one (i := 15) rfl (by kernel_rfl) (fun K hK => ?_)
      go_simp
      refine hK.out _ _ (fun h => absurd h (by decide)) ?_
      (try simp only [Act.put, List.getElem_toArray, List.getElem_cons_zero, List.getElem_cons_succ, List.setIfInBounds_toArray, List.set_cons_zero, List.set_cons_succ])
      refine wpAnyX_done (by kernel_rfl) ?_ _
      go_wp2
      go_ret
      exact ⟨by rw [HR.out.1]; rfl, by rw [HR.out.2]; exact ((((R3.out.drew 1).set 14 (.int .i64 (D.tm + D.rc))).set 4 (.int .i64 D.st)).set 5 (.bool true))⟩
    · have HA2 := Lib.hid (HAF.out false (decide_eq_false h2).symm)
      have HR : Hid (D.rstE = 11 ∧ D.rstD = D) := Lib.hid ⟨by unfold DD.rstE; rw [if_neg fun h => h2 h.2], by unfold DD.rstD; rw [if_neg fun h => h2 h.2]⟩
      clear HAF h1 h2 hrc hrs htm
      go_enter Try.func41, Try.ntmps41
      go_wp2_with fail
      refine HA2.out.mono ?_
      rintro e w2' ⟨rfl, rfl⟩
      go_wp2
      go_ret
      exact ⟨by rw [HR.out.1]; rfl, by rw [HR.out.2]; exact Runs.start HB.out⟩
  · have d1 : decide ((1125899906842624 : Int) ≤ D.rs) = true := decide_eq_true (by omega)
    have HR : Hid (D.rstE = 11 ∧ D.rstD = D) := Lib.hid ⟨by unfold DD.rstE; rw [if_neg fun h => h1 h.1], by unfold DD.rstD; rw [if_neg fun h => h1 h.1]⟩
    clear HAF h1 hrc hrs htm
    go_enter Try.func41, Try.ntmps41
    go_wp2
    go_ret
    exact ⟨by rw [HR.out.1]; rfl, by rw [HR.out.2]; exact Runs.start HB.out⟩

theorem pwrong (o : Int) (ho : 0 ≤ o ∧ o ≤ 1048576) (w : World) : Calls Try.prog 64 #[.int .i64 o] w fun e w' => e = .returned (.int .i64 (wrg o)) ∧ w = w' := by
  by_cases h : o = 1048576
  · have HR : Hid (wrg o = o - 1) := Lib.hid (by unfold wrg; rw [if_pos h])
    have d1 : (o == (1048576 : Int)) = true := by rw [h]; rfl
    have w1 : IntKind.i64.wrap (o - 1) = o - 1 := by rw [IntKind.wrap_i64]; omega
    clear h
    go_enter Try.func64, Try.ntmps64
    go_wp2
    go_ret
    exact ⟨by rw [HR.out]; rfl, rfl⟩
  · have HR : Hid (wrg o = o + 1) := Lib.hid (by unfold wrg; rw [if_neg h])
    have d1 : (o == (1048576 : Int)) = false := by rw [beq_eq_false_iff_ne]; exact h
    have w1 : IntKind.i64.wrap (o + 1) = o + 1 := by rw [IntKind.wrap_i64]; omega
    clear h
    go_enter Try.func64, Try.ntmps64
    go_wp2
    go_ret
    exact ⟨by rw [HR.out]; rfl, rfl⟩
end Go.Proofs.Ytcoihbpadbnilaa
end

section
/- device: the runner's step. -/
namespace Go.Proofs.Ytcoihbpadbnilaa
open Go.RowKit

/-- A valid device. -/
structure DOk (D : DD) (i st n : Nat) : Prop where
  m : Mok i st n D.nx D.ot
  ei : D.i = i
  est : D.st = st
  s0 : 0 ≤ D.s
  s1 : D.s < n
  cl : D.cs.length = i
  aff : dAff D.cs D.rc
  pos : dPos D.f1 D.f2 D.f3
  cnt : dCnt D.sp D.rs D.tm
  sd : D.sd < 18446744073709551616
theorem DD.err_zero {D : DD} (h : D.err = 0) (hs : D.sd < 18446744073709551616) : ∃ i st n, DOk D i st n := by
  unfold DD.err at h
  by_cases h0 : vld D.i D.st D.nx D.ot = 0
  · rw [if_pos h0] at h
    obtain ⟨i, st, n, e1, e2, hM⟩ := vld_zero h0
    by_cases h1 : 0 ≤ D.s ∧ D.s < (D.nx.length : Int)
    · rw [if_pos h1] at h
      by_cases h2 : (D.cs.length : Int) = D.i
      · rw [if_pos h2] at h
        by_cases h3 : dAff D.cs D.rc ∧ dPos D.f1 D.f2 D.f3 ∧ dCnt D.sp D.rs D.tm
        · exact ⟨i, st, n, hM, e1, e2, h1.1, by rw [← hM.nxl]; exact h1.2, by omega, h3.1, h3.2.1, h3.2.2, hs⟩
        · rw [if_neg h3] at h; exact absurd h (by decide)
      · rw [if_neg h2] at h; exact absurd h (by decide)
    · rw [if_neg h1] at h; exact absurd h (by decide)
  · rw [if_neg h0] at h; exact absurd h h0
section
variable {D : DD} {i st n : Nat}
theorem DOk.err (h : DOk D i st n) : D.err = 0 := by
  unfold DD.err
  rw [if_pos (by rw [h.ei, h.est]; exact h.m.vld), if_pos ⟨h.s0, by rw [h.m.nxl]; exact h.s1⟩, if_pos (by rw [h.cl, h.ei]), if_pos ⟨h.aff, h.pos, h.cnt⟩]
theorem DOk.rst (h : DOk D i st n) (hc : D.canR) : DOk D.rst i st n := by
  obtain ⟨h1, h2, h3, h4, h5, h6, h7, h8, h9, h10⟩ := h
  refine ⟨h1, h2, h3, ?_, ?_, h6, h7, h8, ?_, h10⟩
  · show 0 ≤ D.st; rw [h3]; omega
  · show D.st < n; rw [h3]; have := h1.st; omega
  · obtain ⟨c1, c2, c3⟩ := h9
    obtain ⟨r1, r2⟩ := hc
    have := h7.1
    refine ⟨c1, ?_, ?_⟩
    · show 0 ≤ D.rs + 1 ∧ D.rs + 1 ≤ _; omega
    · show 0 ≤ D.tm + D.rc ∧ D.tm + D.rc ≤ _; omega
theorem DOk.rstD (h : DOk D i st n) : DOk D.rstD i st n := by
  unfold DD.rstD
  by_cases hc : D.canR
  · rw [if_pos hc]; exact h.rst hc
  · rw [if_neg hc]; exact h
theorem stpE_zero {a : Int} (h : D.stpE a = 0) : D.rdy = true ∧ (0 ≤ a ∧ a < D.i) ∧ D.sp < 1125899906842624 ∧ D.tm ≤ 1125899906842624 - D.cs.getD a.toNat 0 := by
  unfold DD.stpE at h
  by_cases h1 : D.rdy = true
  · rw [if_pos h1] at h
    by_cases h2 : 0 ≤ a ∧ a < D.i
    · rw [if_pos h2] at h
      by_cases h3 : D.sp < 1125899906842624 ∧ D.tm ≤ 1125899906842624 - D.cs.getD a.toNat 0
      · exact ⟨h1, h2, h3⟩
      · rw [if_neg h3] at h; exact absurd h (by decide)
    · rw [if_neg h2] at h; exact absurd h (by decide)
  · rw [if_neg h1] at h; exact absurd h (by decide)
theorem DOk.cost (h : DOk D i st n) {a : Nat} (ha : a < i) : 0 ≤ D.cs.getD a 0 ∧ D.cs.getD a 0 ≤ 1048576 := h.aff.2 _ (by
  rw [List.getD_eq_getElem?_getD, List.getElem?_eq_getElem (by rw [h.cl]; exact ha)]; exact List.getElem_mem _)
theorem DOk.stp (h : DOk D i st n) {a : Int} (he : D.stpE a = 0) : DOk (D.stp a) i st n := by
  obtain ⟨e1, e2, e3, e4⟩ := stpE_zero he
  have e2' := e2
  rw [h.ei] at e2'
  have hco := h.cost (a := a.toNat) (by omega)
  obtain ⟨h1, h2, h3, h4, h5, h6, h7, h8, h9, h10⟩ := h
  refine ⟨h1, h2, h3, ?_, ?_, h6, h7, h8, ?_, Drs_lt _ _⟩
  · show 0 ≤ ((nN D.nx D.s.toNat a.toNat : Nat) : Int); omega
  · show ((nN D.nx D.s.toNat a.toNat : Nat) : Int) < n
    have := h1.nN_lt (s := D.s.toNat) (a := a.toNat) (by omega) (by omega)
    omega
  · obtain ⟨c1, c2, c3⟩ := h9
    refine ⟨?_, c2, ?_⟩
    · show 0 ≤ D.sp + 1 ∧ D.sp + 1 ≤ _; omega
    · show 0 ≤ D.tm + D.cs.getD a.toNat 0 ∧ D.tm + D.cs.getD a.toNat 0 ≤ _; omega
theorem DOk.stpD (h : DOk D i st n) (a : Int) : DOk (D.stpD a) i st n := by
  unfold DD.stpD
  by_cases hc : D.stpE a = 0
  · rw [if_pos hc]; exact h.stp hc
  · rw [if_neg hc]; exact h
end

theorem below10 (s : Nat) (hs : s < 18446744073709551616) (w : World) :
    Calls Try.prog 63 #[.int .u64 s, .int .i64 10000] w fun e w' => e = .returned (.tuple #[.int .i64 (Drx s 10000 : Nat), .int .u64 (Drs s 10000 : Nat), .int .i64 0]) ∧ w = w' := by
  have h := pbelow s ((10000 : Nat) : Int) hs w
  rw [belV_ok s 10000 ⟨by decide, by decide⟩] at h
  exact h

/-- The device behind a disturbance. -/
noncomputable def DD.dist (D : DD) : DD := { D with sd := Drs D.sd 10000, rdy := if crs (Drx D.sd 10000 : Nat) D.f1 D.f2 D.f3 = true then false else D.rdy }

set_option maxHeartbeats 4000000 in
set_option maxRecDepth 100000 in
theorem pdisturb (g : Nat) (D : DD) (H : DH) (o : Int) (w : World) (hB : Blk w g (dvC D H) 84) (hP : dPos D.f1 D.f2 D.f3) (ho : 0 ≤ o ∧ o ≤ 1048576) (hs : D.sd < 18446744073709551616) :
    Calls Try.prog 59 #[.pointer (some ⟨g, 0, none⟩), .int .i64 o] w fun e w' => e = .returned (.int .i64 (rcv (Drx D.sd 10000 : Nat) D.f1 D.f2 o)) ∧ Runs g w w' (dvC D.dist H) := by
  have HB := Lib.hid hB
  have HBE := Lib.hid (below10 D.sd hs w)
  have HWR := Lib.hid (pwrong o ho)
  have k11 : w.cell? ⟨g, 11, none⟩ = some (.int .u64 (D.sd : Int)) := hB.cell 11
  have f11 := hB.free 11
  have hD : Hid (D.dist = { D with sd := Drs D.sd 10000, rdy := if crs (Drx D.sd 10000 : Nat) D.f1 D.f2 D.f3 = true then false else D.rdy }) := Lib.hid rfl
  obtain ⟨f1, f2, f3, f4⟩ := hP
  obtain ⟨D2, hD2⟩ : ∃ D2 : DD, D2 = { D with sd := Drs D.sd 10000 } := ⟨_, rfl⟩
  have HD2 := Lib.hid hD2
  have HRC : Hid (∀ x : Int, rcv x D.f1 D.f2 o = if x < D.f1 then -1 else if x < D.f1 + D.f2 then wrg o else o) := Lib.hid fun _ => rfl
  have HCR : Hid (∀ x : Int, crs x D.f1 D.f2 D.f3 = decide (¬ x < D.f1 ∧ ¬ x < D.f1 + D.f2 ∧ x < D.f1 + D.f2 + D.f3)) := Lib.hid fun _ => rfl
  have w1 : IntKind.i64.wrap (D.f1 + D.f2) = D.f1 + D.f2 := by rw [IntKind.wrap_i64]; omega
  have w2 : IntKind.i64.wrap (D.f1 + D.f2 + D.f3) = D.f1 + D.f2 + D.f3 := by rw [IntKind.wrap_i64]; omega
  generalize Drx D.sd 10000 = x at HBE hD ⊢
  generalize Drs D.sd 10000 = sd at HBE hD HD2
  clear hB hs ho hD2 f1 f2 f3 f4
  go_enter Try.func59, Try.ntmps59
  go_wp2_with fail
  refine HBE.out.mono ?_
  rintro e w2' ⟨rfl, rfl⟩
  go_upto_region 3 with fail
  obtain ⟨W1, hW1⟩ : ∃ W1, W1 = w.setCell ⟨g, 11, none⟩ (.int .u64 (sd : Int)) := ⟨_, rfl⟩
  have l1 : Runs g w W1 (dvC D2 H) := by rw [hW1, HD2.out]; exact (Runs.start HB.out).set 11 (.int .u64 (sd : Int))
  have b1 := l1.blk
  rw [← hW1]
  have L1 := Lib.hid l1
  have k8 : W1.cell? ⟨g, 8, none⟩ = some (.int .i64 D.f1) := by have := b1.cell 8; rw [HD2.out] at this; exact this
  have k9 : W1.cell? ⟨g, 9, none⟩ = some (.int .i64 D.f2) := by have := b1.cell 9; rw [HD2.out] at this; exact this
  have k10 : W1.cell? ⟨g, 10, none⟩ = some (.int .i64 D.f3) := by have := b1.cell 10; rw [HD2.out] at this; exact this
  have k5 : W1.cell? ⟨g, 5, none⟩ = some (.bool D.rdy) := by have := b1.cell 5; rw [HD2.out] at this; exact this
  have f5 := b1.free 5
  clear hW1 b1 l1 k11 f11
  have hkeep : crs (x : Int) D.f1 D.f2 D.f3 = false → D.dist = D2 := fun h => by rw [hD.out, HD2.out, h]; rfl
  have HKP := Lib.hid hkeep
  clear hkeep
  by_cases h1 : (x : Int) < D.f1
  · have d1 : decide ((x : Int) < D.f1) = true := decide_eq_true h1
    have HR : Hid (rcv (x : Int) D.f1 D.f2 o = -1) := Lib.hid (by rw [HRC.out, if_pos h1])
    have HE := Lib.hid (HKP.out (by rw [HCR.out]; exact decide_eq_false fun h => by omega))
    clear h1
    go_wp2
    go_ret
    exact ⟨by rw [HR.out]; rfl, by rw [HE.out]; exact L1.out⟩
  · have d1 : decide ((x : Int) < D.f1) = false := decide_eq_false h1
    by_cases h2 : (x : Int) < D.f1 + D.f2
    · have d2 : decide ((x : Int) < D.f1 + D.f2) = true := decide_eq_true h2
      have HR : Hid (rcv (x : Int) D.f1 D.f2 o = wrg o) := Lib.hid (by rw [HRC.out, if_neg h1, if_pos h2])
      have HE := Lib.hid (HKP.out (by rw [HCR.out]; exact decide_eq_false fun h => by omega))
      clear h1 h2
      go_wp2
      go_quiet (fail)
      go_wp2_with fail
      refine (HWR.out _).mono ?_
      rintro e w3 ⟨rfl, rfl⟩
      go_wp2
      go_ret
      exact ⟨by rw [HR.out]; rfl, by rw [HE.out]; exact L1.out.drew _⟩
    · have d2 : decide ((x : Int) < D.f1 + D.f2) = false := decide_eq_false h2
      have HR : Hid (rcv (x : Int) D.f1 D.f2 o = o) := Lib.hid (by rw [HRC.out, if_neg h1, if_neg h2])
      by_cases h3 : (x : Int) < D.f1 + D.f2 + D.f3
      · have d3 : decide ((x : Int) < D.f1 + D.f2 + D.f3) = true := decide_eq_true h3
        have HE : Hid (D.dist = { D2 with rdy := false }) := Lib.hid (by rw [hD.out, HD2.out, if_pos (by rw [HCR.out]; exact decide_eq_true (by omega))])
        clear h1 h2 h3
        go_wp2
        go_quiet (fail)
        go_wp2
        go_quiet (fail)
        go_wp2
        go_ret
        exact ⟨by rw [HR.out]; rfl, by rw [HE.out]; first | exact (L1.out.drew _).set 5 (.bool false) | exact ((L1.out.drew _).drew _).set 5 (.bool false)⟩
      · have d3 : decide ((x : Int) < D.f1 + D.f2 + D.f3) = false := decide_eq_false h3
        have HE := Lib.hid (HKP.out (by rw [HCR.out]; exact decide_eq_false fun h => by omega))
        clear h1 h2 h3
        go_wp2
        go_quiet (fail)
        go_wp2
        go_quiet (fail)
        go_wp2
        go_ret
        exact ⟨by rw [HR.out]; rfl, by rw [HE.out]; first | exact L1.out.drew _ | exact (L1.out.drew _).drew _⟩
end Go.Proofs.Ytcoihbpadbnilaa
end
