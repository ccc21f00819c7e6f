/- The walks of the reference's Index, of Valid by the two texts, and of Great. -/
import Derived.Test.YtiongejdedhcjaaDoorStrs
namespace Go.Proofs.YtiongejdedhcjaaDoor
open Go.RowKit

theorem str_inj {y x : ByteArray} (e : y.data.toList = x.data.toList) : y = x := ByteArray.ext (Array.ext' e)
theorem str_ne {y x : ByteArray} (h : y ≠ x) : (y.toList == x.toList) = false := by
  rw [beq_eq_false_iff_ne]
  intro e
  rw [ByteArray.toList_eq, ByteArray.toList_eq] at e
  exact h (str_inj e)

theorem idx_hit {ss : List ByteArray} {k : Nat} {x : ByteArray} (hk : k < ss.length) (h : ss.getD k ByteArray.empty = x) (hne : ∀ j, j < k → ss.getD j ByteArray.empty ≠ x) : ixV ss x = ((k : Int), true) := by
  have := Lib.idxOfS_hit ss ss.length k x hk (Nat.le_refl _) h hne
  rw [List.take_of_length_le (Nat.le_refl _)] at this
  rw [ixV_yes (by rw [this]; omega), this]
theorem idx_miss {ss : List ByteArray} {x : ByteArray} (h : ∀ j, j < ss.length → ss.getD j ByteArray.empty ≠ x) : ixV ss x = (0, false) := by
  have := Lib.idxOfS_miss ss ss.length x h
  rw [List.take_of_length_le (Nat.le_refl _)] at this
  exact ixV_no (by rw [this]; omega)

set_option maxHeartbeats 1000000 in
theorem rindex (A : Option Addr) (n c : Nat) (ss : List ByteArray) (x : ByteArray) (w : World) (h : Strs w A n ss) :
    Calls Tryd.prog 12 #[.agg #[.slice A n c], .string x] w fun e w' => e = .returned (.tuple #[.int .i64 (ixV ss x).1, .bool (ixV ss x).2]) ∧ Below w.heap.size w w' := by
  have L := Lib.hid h.1
  have hn := h.2.1
  have hb0 := alloc_below w (.cells #[.slice A n c] 24)
  have h' := h.below hb0
  go_enter Tryd.func12, Tryd.ntmps12
  go_wp2
  go_loop [6] (fun i => ∃ j : Nat, j ≤ n ∧ i = .int .i64 j ∧ ∀ m, m < j → ss.getD m ByteArray.empty ≠ x) (fun i => n - (intOf i).toNat)
  case atStart => exact ⟨0, Nat.zero_le _, rfl, fun m h => absurd h (by omega)⟩
  case round =>
    obtain ⟨j, hj, rfl, hne⟩ := hrel
    have HN := Lib.hid hne
    clear hne
    by_cases hlt : j < n
    · obtain ⟨b, off, rfl, _, hcell⟩ := h'.at_ hlt
      by_cases hx : ss.getD j ByteArray.empty = x
      · have hfin := Lib.hid (idx_hit (by rw [L.out]; exact hlt) hx HN.out)
        have HX := Lib.hid hx
        rw [hx] at hcell
        clear hx
        go_wp2
        go_ret2
        exact ⟨ret_ib hfin.out rfl rfl, hb0⟩
      · have hnx := Lib.hid (show ∀ m, m < j + 1 → ss.getD m ByteArray.empty ≠ x from fun m hm => by
          by_cases e : m = j
          · subst e; exact hx
          · exact HN.out m (by omega))
        generalize ss.getD j ByteArray.empty = y at hcell hx
        have hb2 := str_ne hx
        clear hx
        go_wp2
        go_round
        case rel => exact ⟨j + 1, by omega, by go_num, hnx.out⟩
        case measure => simp [intOf]; omega
    · have hfin := Lib.hid (idx_miss (ss := ss) (x := x) (fun m hm => HN.out m (by rw [L.out] at hm; omega)))
      go_wp2
      go_ret2
      exact ⟨ret_ib hfin.out rfl rfl, hb0⟩

/-- Whether an alphabet is great. -/
def Grt (ss : List ByteArray) : Prop := 70 < ss.length ∨ ∃ j, j < ss.length ∧ j < 71 ∧ 100 < (ss.getD j ByteArray.empty).size
noncomputable instance (ss : List ByteArray) : Decidable (Grt ss) := Classical.propDecidable _

set_option maxHeartbeats 1000000 in
theorem rgreat (A : Option Addr) (n c : Nat) (ss : List ByteArray) (w : World) (h : Strs w A n ss) :
    Calls Tryd.prog 9 #[.agg #[.slice A n c]] w fun e w' => e = .returned (.bool (decide (Grt ss))) ∧ Below w.heap.size w w' := by
  have L := Lib.hid h.1
  have hn := h.2.1
  have hb0 := alloc_below w (.cells #[.slice A n c] 24)
  have h' := h.below hb0
  go_enter Tryd.func9, Tryd.ntmps9
  go_wp2
  go_loop [3] (fun i => ∃ j : Nat, j ≤ n ∧ j ≤ 71 ∧ i = .int .i64 j ∧ ∀ m, m < j → ¬ 100 < (ss.getD m ByteArray.empty).size) (fun i => n - (intOf i).toNat)
  case atStart => exact ⟨0, Nat.zero_le _, by omega, rfl, fun m h => absurd h (by omega)⟩
  case round =>
    obtain ⟨j, hj, hj2, rfl, hne⟩ := hrel
    have HN := Lib.hid hne
    clear hne
    by_cases hlt : j < n ∧ j < 71
    · obtain ⟨hlt, hl2⟩ := hlt
      obtain ⟨b, off, rfl, _, hcell⟩ := h'.at_ hlt
      by_cases hx : 100 < (ss.getD j ByteArray.empty).size
      · have hfin := Lib.hid (show decide (Grt ss) = true from decide_eq_true (.inr ⟨j, by rw [L.out]; exact hlt, hl2, hx⟩))
        generalize ss.getD j ByteArray.empty = y at hcell hx
        go_wp2
        go_ret
        exact ⟨ret_bool hfin.out.symm, hb0⟩
      · have hnx := Lib.hid (show ∀ m, m < j + 1 → ¬ 100 < (ss.getD m ByteArray.empty).size from fun m hm => by
          by_cases e : m = j
          · subst e; exact hx
          · exact HN.out m (by omega))
        generalize ss.getD j ByteArray.empty = y at hcell hx
        go_wp2
        go_round
        case rel => exact ⟨j + 1, by omega, by omega, by go_num, hnx.out⟩
        case measure => simp [intOf]; omega
    · have hfin := Lib.hid (show decide ((70 : Int) < (n : Int)) = decide (Grt ss) from decide_eq_decide.2 ⟨fun h => .inl (by rw [L.out]; omega), fun h => by
        rcases h with h | ⟨m, h1, h2, h3⟩
        · rw [L.out] at h; omega
        · rw [L.out] at h1
          exact absurd h3 (HN.out m (by omega))⟩)
      have hor : n ≤ j ∨ (j < n ∧ 71 ≤ j) := by omega
      clear hlt
      rcases hor with h1 | ⟨h1, h2⟩
      · go_wp2
        go_ret
        exact ⟨ret_bool hfin.out, hb0⟩
      · go_wp2
        go_ret
        exact ⟨ret_bool hfin.out, hb0⟩

/-- The error of Valid from place i on. -/
def vGo (ss : List ByteArray) : Nat → Nat → Int
  | 0, _ => 0
  | f + 1, i => if ¬ Nam (ss.getD i ByteArray.empty) then 9 else if Lib.containsS (ss.take i) (ss.getD i ByteArray.empty) = true then 7 else vGo ss f (i + 1)
/-- The error of Valid. -/
def valV (ss : List ByteArray) : Int := if ss.length = 0 then 19 else if 64 < ss.length then 3 else vGo ss ss.length 0
theorem valV_empty {ss : List ByteArray} (h : ss.length = 0) : valV ss = 19 := by unfold valV; rw [if_pos h]
theorem valV_long {ss : List ByteArray} (h : 64 < ss.length) : valV ss = 3 := by unfold valV; rw [if_neg (by omega), if_pos h]
theorem valV_go {ss : List ByteArray} {n : Nat} (hn : ss.length = n) (h0 : n ≠ 0) (h : ¬ 64 < n) : valV ss = vGo ss n 0 := by subst hn; unfold valV; rw [if_neg h0, if_neg h]
theorem vGo_name {ss : List ByteArray} {n i : Nat} (h : i < n) (hN : ¬ Nam (ss.getD i ByteArray.empty)) : vGo ss (n - i) i = 9 := by
  rw [show n - i = (n - (i + 1)) + 1 by omega, vGo, if_pos hN]
theorem vGo_dup {ss : List ByteArray} {n i : Nat} (h : i < n) (hN : Nam (ss.getD i ByteArray.empty)) (hd : Lib.containsS (ss.take i) (ss.getD i ByteArray.empty) = true) : vGo ss (n - i) i = 7 := by
  rw [show n - i = (n - (i + 1)) + 1 by omega, vGo, if_neg (fun h => h hN), if_pos hd]
theorem vGo_next {ss : List ByteArray} {n i : Nat} (h : i < n) (hN : Nam (ss.getD i ByteArray.empty)) (hd : ¬ Lib.containsS (ss.take i) (ss.getD i ByteArray.empty) = true) : vGo ss (n - i) i = vGo ss (n - (i + 1)) (i + 1) := by
  rw [show n - i = (n - (i + 1)) + 1 by omega, vGo, if_neg (fun h => h hN), if_neg hd]

/-- The box of a parameter stays. -/
theorem box_cell (w : World) (v : Value) (t : TypeId) {wr : World} (hb : Below (w.heap.size + 1) (w.alloc (.cells #[v] t)) wr) : wr.cell? ⟨w.heap.size, 0, none⟩ = some v := by
  rw [hb.cell (by simp)]
  have := cell_of_row (w.alloc (.cells #[v] t)) w.heap.size 0 #[v] t (0, 0) (heap_alloc_new w _)
  rw [this]; rfl

set_option maxHeartbeats 1000000 in
theorem pvalid (A : Option Addr) (n c : Nat) (ss : List ByteArray) (w : World) (h : Strs w A n ss) (hc : n ≤ c) :
    Calls Tryd.prog 13 #[.agg #[.slice A n c]] w fun e w' => e = .returned (.int .i64 (valV ss)) ∧ Below w.heap.size w w' := by
  have L := Lib.hid h.1
  have hn := h.2.1
  have hb0 := alloc_below w (.cells #[.slice A n c] 24)
  by_cases h0 : n = 0
  · have hf := Lib.hid (valV_empty (by rw [L.out]; exact h0))
    subst h0
    go_enter Tryd.func13, Tryd.ntmps13
    go_wp2
    go_ret
    exact ⟨ret_int hf.out.symm, hb0⟩
  · have hz : ((n : Int) == 0) = false := by simp; omega
    by_cases h1 : 64 < n
    · have hf := Lib.hid (valV_long (ss := ss) (by rw [L.out]; exact h1))
      clear h0
      go_enter Tryd.func13, Tryd.ntmps13
      go_wp2
      go_ret
      exact ⟨ret_int hf.out.symm, hb0⟩
    · have hf := Lib.hid (valV_go L.out h0 h1)
      clear h0
      go_enter Tryd.func13, Tryd.ntmps13
      go_wp2
      go_loopw [16] (fun i wr => ∃ j : Nat, j ≤ n ∧ i = .int .i64 j ∧ vGo ss (n - j) j = vGo ss n 0 ∧ Below (w.heap.size + 1) (w.alloc (.cells #[.slice A n c] 24)) wr) (fun i _ => n - (intOf i).toNat)
      case atStart => exact ⟨0, Nat.zero_le _, rfl, rfl, Below.refl _ _⟩
      case round =>
        obtain ⟨j, hj, rfl, hgo, hbr⟩ := hrel
        have HG := Lib.hid hgo
        clear hgo
        have hbw := hb0.trans (hbr.mono (Nat.le_succ _))
        have hbox := box_cell w (.slice A n c) 24 hbr
        have hS := h.below hbw
        by_cases hlt : j < n
        · obtain ⟨b, off, hA, _, hcell⟩ := hS.at_ hlt
          have hsz := h.2.2.2 j hlt
          have hjc : j ≤ c := by omega
          have hsz1 : w.heap.size + 1 ≤ wr.heap.size := by have := hbr.size; simpa using this
          by_cases hN : Nam (ss.getD j ByteArray.empty)
          · have hNd : decide (Nam (ss.getD j ByteArray.empty)) = true := decide_eq_true hN
            by_cases hd : Lib.containsS (ss.take j) (ss.getD j ByteArray.empty) = true
            · have hfin := Lib.hid (hf.out.trans (HG.out.symm.trans (vGo_dup hlt hN hd)))
              generalize ss.getD j ByteArray.empty = y at hcell hsz hNd hd hN
              clear hN
              subst hA
              go_wp2_with fail
              refine (pname y hsz _).mono ?_
              rintro e w1 ⟨rfl, b1⟩
              have hbr1 := hbr.trans (b1.mono hsz1)
              have hbox1 := box_cell w (.slice (some ⟨b, off, none⟩) n c) 24 hbr1
              go_wp2_with fail
              refine (scontains _ n j c ss y _ (hS.below b1) hj).mono ?_
              rintro e w2 ⟨rfl, rfl⟩
              go_wp2
              go_ret
              exact ⟨ret_int hfin.out.symm, bt hbw b1⟩
            · have hnx := Lib.hid ((vGo_next hlt hN hd).symm.trans HG.out)
              have hd : Lib.containsS (ss.take j) (ss.getD j ByteArray.empty) = false := by simpa using hd
              generalize ss.getD j ByteArray.empty = y at hcell hsz hNd hd hN
              clear hN
              subst hA
              go_wp2_with fail
              refine (pname y hsz _).mono ?_
              rintro e w1 ⟨rfl, b1⟩
              have hbr1 := hbr.trans (b1.mono hsz1)
              have hbox1 := box_cell w (.slice (some ⟨b, off, none⟩) n c) 24 hbr1
              go_wp2_with fail
              refine (scontains _ n j c ss y _ (hS.below b1) hj).mono ?_
              rintro e w2 ⟨rfl, rfl⟩
              go_wp2
              go_roundw
              case rel => exact ⟨j + 1, by omega, by go_num, hnx.out, hbr1⟩
              case measure => simp [intOf]; omega
          · have hNd : decide (Nam (ss.getD j ByteArray.empty)) = false := decide_eq_false hN
            have hfin := Lib.hid (hf.out.trans (HG.out.symm.trans (vGo_name hlt hN)))
            generalize ss.getD j ByteArray.empty = y at hcell hsz hNd hN
            clear hN
            subst hA
            go_wp2_with fail
            refine (pname y hsz _).mono ?_
            rintro e w1 ⟨rfl, b1⟩
            go_wp2
            go_ret
            exact ⟨ret_int hfin.out.symm, bt hbw b1⟩
        · have hfin : Hid (valV ss = 0) := Lib.hid (by rw [hf.out, ← HG.out, show n - j = 0 by omega]; rfl)
          go_wp2
          go_ret
          exact ⟨ret_int hfin.out.symm, hbw⟩
end Go.Proofs.YtiongejdedhcjaaDoor
