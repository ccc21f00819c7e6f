/- The walks of random's Word, by the two texts. -/
import Derived.Test.YtiongejdedhcjaaBelow
import Derived.Test.YtiongejdedhcjaaIn
namespace Go.Proofs.Ytiongejdedhcjaa
open Go.RowKit

/-- The state after i draws below k. -/
noncomputable def wst (k s : Nat) : Nat → Nat
  | 0 => s
  | i + 1 => Drs (wst k s i) k
/-- The first i symbols. -/
noncomputable def wsy (k s : Nat) : Nat → List Int
  | 0 => []
  | i + 1 => wsy k s i ++ [(Drx (wst k s i) k : Int)]

theorem wsy_len (k s i : Nat) : (wsy k s i).length = i := by
  induction i with
  | zero => rfl
  | succ i ih => rw [wsy, List.length_append, ih]; rfl
theorem wst_lt {k s : Nat} (hs : s < 18446744073709551616) (i : Nat) : wst k s i < 18446744073709551616 := by
  cases i with
  | zero => exact hs
  | succ i => exact Drs_lt _ _

def CanW (k n : Int) : Prop := 1 ≤ k ∧ k ≤ 1024 ∧ 0 ≤ n ∧ n ≤ 1024
instance (k n : Int) : Decidable (CanW k n) := by unfold CanW; exact inferInstance
noncomputable def worV (s : Nat) (k n : Int) : List Int × Int × Int := if CanW k n then (wsy k.toNat s n.toNat, (wst k.toNat s n.toNat : Int), 0) else ([], 0, 2)
theorem worV_ok (s k n : Nat) (h : CanW k n) : worV s k n = (wsy k s n, (wst k s n : Int), 0) := by
  unfold worV; rw [if_pos h]; rfl
theorem worV_bad {k n : Int} (h : ¬ CanW k n) (s : Nat) : worV s k n = ([], 0, 2) := by unfold worV; rw [if_neg h]
theorem canW_draw {k n : Nat} (h : CanW k n) : Drawable k := ⟨by have := h.1; omega, by have := h.2.1; omega⟩

/-- The row while it is filled. -/
theorem fill_set (k s i n : Nat) (h : i < n) : (wsy k s i ++ List.replicate (n - i) 0).set i (Drx (wst k s i) k : Int) = wsy k s (i + 1) ++ List.replicate (n - (i + 1)) 0 := by
  rw [List.set_append_right _ _ (by rw [wsy_len]; omega), wsy_len, Nat.sub_self, wsy, List.append_assoc]
  rw [show n - i = (n - (i + 1)) + 1 by omega, List.replicate_succ]
  rfl

theorem ret_row {k' k'' : IntKind} {v : Value} {b c b' c' : Int} {p : List Int × Int × Int} {l : List Int} (h : p = (l, b', c')) (h2 : b = b') (h3 : c = c') :
    Ending.returned (.tuple #[v, .int k' b, .int k'' c]) = .returned (.tuple #[v, .int k' p.2.1, .int k'' p.2.2]) := by rw [h, h2, h3]

set_option maxHeartbeats 1000000 in
theorem pword (s : Nat) (k n : Int) (hs : s < 18446744073709551616) (w : World) :
    Calls Try.prog 14 #[.int .u64 s, .int .i64 k, .int .i64 n] w fun e w' => ∃ v, e = .returned (.tuple #[v, .int .u64 (worV s k n).2.1, .int .i64 (worV s k n).2.2]) ∧ Owned w' w.heap.size v (worV s k n).1 ∧ Below w.heap.size w w' := by
  by_cases h : CanW k n
  · obtain ⟨k, rfl⟩ : ∃ m : Nat, k = m := ⟨k.toNat, by have := h.1; omega⟩
    obtain ⟨n, rfl⟩ : ∃ m : Nat, n = m := ⟨n.toNat, by have := h.2.2.1; omega⟩
    have H := Lib.hid (worV_ok s k n h)
    have HD := Lib.hid (canW_draw h)
    obtain ⟨h1, h2, _, h3⟩ := h
    go_enter Try.func14, Try.ntmps14
    go_wp2_with (refine wpList_make_ints _ rfl _ _ rfl .i64 .i64 n rfl rfl (by omega) ?_; intro w1 hown1 hbel1)
    go_loopw [0, 28] (fun t i wr => ∃ j : Nat, j ≤ n ∧ i = .int .i64 j ∧ t = .int .u64 (wst k s j) ∧ Owned wr w.heap.size (.slice (some ⟨w.heap.size, 0, none⟩) n n) (wsy k s j ++ List.replicate (n - j) 0) ∧ Below w.heap.size w wr) (fun _ i _ => n - (intOf i).toNat)
    case atStart => exact ⟨0, Nat.zero_le _, rfl, rfl, hown1, hbel1⟩
    case round =>
      clear hown1 hbel1
      obtain ⟨j, hj, rfl, rfl, hown, hbr⟩ := hrel
      by_cases hlt : j < n
      · obtain ⟨g, hA, hg1, hg2, hfr⟩ := hown.head (by omega)
        cases hA
        have hln : (wsy k s j ++ List.replicate (n - j) (0 : Int)).length = n := by rw [List.length_append, wsy_len, List.length_replicate]; omega
        obtain ⟨g', o', e, _, hcell⟩ := (hown.ints (by rw [hln]; omega)).at_ hlt
        cases e
        rw [Nat.zero_add] at hcell
        clear hln
        have hst := hown.stored j (Drx (wst k s j) k)
        rw [fill_set k s j n hlt] at hst
        have hfm := hfr j
        clear hfr
        go_wp2_with (go_at_call 23; refine (pdraw _ _ (wst_lt hs j) HD.out _).mono ?_; rintro e w' ⟨rfl, rfl⟩)
        go_roundw
        case rel => exact ⟨j + 1, by omega, by go_num, rfl, hst, hbr.setCell (by exact hg1) _⟩
        case measure => simp [intOf]; omega
      · obtain rfl : j = n := by omega
        rw [Nat.sub_self] at hown
        go_wp2
        go_ret3
        refine ⟨_, ret_row H.out rfl rfl, ?_, hbr⟩
        rw [H.out]
        simpa using hown
  · have H := Lib.hid (worV_bad h s)
    have hor : k < 1 ∨ (1 ≤ k ∧ 1024 < k) ∨ (1 ≤ k ∧ k ≤ 1024 ∧ n < 0) ∨ (1 ≤ k ∧ k ≤ 1024 ∧ 0 ≤ n ∧ 1024 < n) := by unfold CanW at h; omega
    clear h
    rcases hor with h | ⟨h, h'⟩ | ⟨h, h', h''⟩ | ⟨h, h', h'', h'''⟩
    all_goals
      go_enter Try.func14, Try.ntmps14
      go_wp2
      go_ret3
      exact ⟨_, ret_row H.out rfl rfl, by rw [H.out]; exact Owned.nil _ _, Below.refl _ _⟩

set_option maxHeartbeats 1000000 in
theorem rword (s : Nat) (k n : Int) (hs : s < 18446744073709551616) (w : World) :
    Calls Try.prog 15 #[.int .u64 s, .int .i64 k, .int .i64 n] w fun e w' => ∃ v, e = .returned (.tuple #[v, .int .u64 (worV s k n).2.1, .int .i64 (worV s k n).2.2]) ∧ Owned w' w.heap.size v (worV s k n).1 ∧ Below w.heap.size w w' := by
  by_cases h : CanW k n
  · obtain ⟨k, rfl⟩ : ∃ m : Nat, k = m := ⟨k.toNat, by have := h.1; omega⟩
    obtain ⟨n, rfl⟩ : ∃ m : Nat, n = m := ⟨n.toNat, by have := h.2.2.1; omega⟩
    have H := Lib.hid (worV_ok s k n h)
    have HD := Lib.hid (canW_draw h)
    obtain ⟨h1, h2, _, h3⟩ := h
    go_enter Try.func15, Try.ntmps15
    go_wp2
    go_loopw [0, 9] (fun t v wr => ∃ (j : Nat) (A : Option Addr) (c : Nat), j ≤ n ∧ v = .slice A j c ∧ t = .int .u64 (wst k s j) ∧ Owned wr w.heap.size (.slice A j c) (wsy k s j) ∧ Below w.heap.size w wr) (fun _ v _ => match v with | .slice _ j _ => n - j | _ => 0)
    case atStart => exact ⟨0, _, _, Nat.zero_le _, rfl, rfl, Owned.nil _ _, Below.refl _ _⟩
    case round =>
      obtain ⟨j, A, c, hj, rfl, rfl, hown, hbr⟩ := hrel
      by_cases hlt : j < n
      · have hbz : Below wr.heap.size wr (wr.alloc (.cells #[.int .i64 (Drx (wst k s j) k)] 3)) := (Below.refl _ _).alloc (Nat.le_refl _) _
        have hnew := Ints.new wr [(Drx (wst k s j) k : Int)] #[.int .i64 (Drx (wst k s j) k)] 1 rfl rfl (by simp)
        obtain ⟨v', w', hr, ho', _, hbel'⟩ := run_append_ints _ _ _ _ _ _ _ 1 (hown.kept hbz) hnew (Nat.le_trans hbr.size hbz.size) (by rw [List.length_append, wsy_len]; simp; omega)
        have hf := ho'.form
        rw [List.length_append, wsy_len] at hf
        obtain ⟨A', c', rfl⟩ := hf
        go_wp2_with (first | (go_at_call 24; refine (rdraw _ _ (wst_lt hs j) HD.out _).mono ?_; rintro e w' ⟨rfl, rfl⟩) | (at_builtin; refine Lib.wpList_append_run _ rfl _ _ _ _ rfl _ _ rfl rfl _ _ hr ?_))
        go_roundw
        case rel => exact ⟨j + 1, _, _, by omega, rfl, rfl, ho', (hbr.trans (hbz.mono hbr.size)).trans hbel'⟩
        case measure => simp; omega
      · obtain rfl : j = n := by omega
        go_wp2
        go_ret3
        refine ⟨_, ret_row H.out rfl rfl, ?_, hbr⟩
        rw [H.out]
        exact hown
  · have H := Lib.hid (worV_bad h s)
    have hor : k < 1 ∨ (1 ≤ k ∧ 1024 < k) ∨ (1 ≤ k ∧ k ≤ 1024 ∧ n < 0) ∨ (1 ≤ k ∧ k ≤ 1024 ∧ 0 ≤ n ∧ 1024 < n) := by unfold CanW at h; omega
    clear h
    rcases hor with h | ⟨h, h'⟩ | ⟨h, h', h''⟩ | ⟨h, h', h'', h'''⟩
    all_goals
      go_enter Try.func15, Try.ntmps15
      go_wp2
      go_ret3
      exact ⟨_, ret_row H.out rfl rfl, by rw [H.out]; exact Owned.nil _ _, Below.refl _ _⟩
end Go.Proofs.Ytiongejdedhcjaa
