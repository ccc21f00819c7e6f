/- WordJoins: the walk. -/
import Derived.Test.YteaejkobahpgcaaLaws
namespace Go.Proofs.Yteaejkobahpgcaa
open Go.RowKit

/-- What is known of the lists that come in before their lengths have been looked at. -/
def Heads (w : World) (A : Option Addr) (n : Nat) (xss : List (List Int)) : Prop :=
  xss.length = n ∧ (0 < n → ∃ b off, A = some ⟨b, off, none⟩ ∧ b < w.heap.size ∧
    ∀ j, j < n → ∃ Aj nj cj, w.cell? ⟨b, off + j, none⟩ = some (.slice Aj nj cj) ∧ (xss.getD j []).length = nj ∧ (nj ≤ 100 → Ints w Aj nj (xss.getD j [])))

/-- The first j lists are short. -/
def Short (xss : List (List Int)) (j : Nat) : Prop := ∀ i, i < j → (xss.getD i []).length ≤ 100

theorem Short.zero (xss : List (List Int)) : Short xss 0 := fun i hi => absurd hi (by omega)
theorem Short.succ {xss : List (List Int)} {j : Nat} (h : Short xss j) (h1 : (xss.getD j []).length ≤ 100) : Short xss (j + 1) := fun i hi => by
  by_cases e : i = j
  · subst e; exact h1
  · exact h i (by omega)
theorem Short.cat_len {xss : List (List Int)} {j : Nat} (h : Short xss j) (hj : j ≤ xss.length) : (cat xss j).length ≤ 100 * j := by
  induction j with
  | zero => simp [cat]
  | succ j ih =>
    have := ih (fun i hi => h i (by omega)) (by omega)
    have h1 := h j (by omega)
    rw [cat_succ (by omega), List.length_append]
    omega
theorem Heads.lists {w : World} {A : Option Addr} {n : Nat} {xss : List (List Int)} (h : Heads w A n xss) (hs : Short xss n) (hn : n ≤ 20) : Lists w A n xss := by
  refine ⟨h.1, by omega, fun h0 => ?_⟩
  obtain ⟨b, off, e, hb, hc⟩ := h.2 h0
  refine ⟨b, off, e, hb, fun j hj => ?_⟩
  obtain ⟨Aj, nj, cj, h1, h2, h3⟩ := hc j hj
  exact ⟨Aj, nj, cj, h1, h3 (by rw [← h2]; exact hs j hj)⟩

set_option maxHeartbeats 2000000 in
theorem joins_law (A : Option Addr) (n c : Nat) (xss : List (List Int)) (w : World) (h : Heads w A n xss) (hn : n ≤ 9223372036854775807) :
    Calls Try.prog 5 #[.slice A n c] w fun e w' => e = .returned (.bool true) ∧ Below w.heap.size w w' := by
  have L := Lib.hid h.1
  go_enter Try.func5, Try.ntmps5
  go_wp2
  go_loop [3, 4] (fun s i => ∃ j : Nat, j ≤ n ∧ j ≤ 21 ∧ i = .int .i64 j ∧ s = .int .i64 (cat xss j).length ∧ Short xss j) (fun _ i => 21 - (intOf i).toNat)
  case atStart => exact ⟨0, by omega, by omega, rfl, by rw [cat_zero]; rfl, Short.zero _⟩
  case round =>
    obtain ⟨j, hj, hj2, rfl, rfl, hs⟩ := hrel
    have hb1 := hs.cat_len (by rw [L.out]; exact hj)
    by_cases hlt : j < n
    · have d1 : decide (j < n) = true := by simp; omega
      by_cases hlt2 : j < 21
      · have d2 : decide ((j : Int) < 21) = true := by simp; omega
        obtain ⟨b, off, rfl, _, hc⟩ := h.2 (by omega)
        obtain ⟨Aj, nj, cj, hcell, hnj, _⟩ := hc j hlt
        have HC := Lib.hid hc
        have HJ := Lib.hid hnj
        clear hc hnj
        by_cases hbig : 100 < nj
        · go_wp2_with (go_at_call 9; refine (awake _).mono ?_; rintro e w1 ⟨rfl, hb⟩)
          go_ret
          exact ⟨rfl, hb⟩
        · have hs' := hs.succ (by rw [HJ.out]; omega)
          have hsum : Hid ((cat xss (j + 1)).length = (cat xss j).length + nj) := by unfold Hid; rw [cat_succ (by rw [L.out]; exact hlt), List.length_append, HJ.out]
          go_wp2
          go_round
          case rel => exact ⟨j + 1, by omega, by omega, by go_num, by rw [hsum.out]; go_num, hs'⟩
          case measure => simp [intOf]; omega
      · have d2 : decide ((j : Int) < 21) = false := by simp; omega
        have d3 : 20 < n := by omega
        go_wp2_with (go_at_call 9; refine (awake _).mono ?_; rintro e w1 ⟨rfl, hb⟩)
        go_ret
        exact ⟨rfl, hb⟩
    · obtain rfl : j = n := by omega
      by_cases hbig : 20 < j
      · go_wp2_with (go_at_call 9; refine (awake _).mono ?_; rintro e w1 ⟨rfl, hb⟩)
        go_ret
        exact ⟨rfl, hb⟩
      · have hl := h.lists hs (by omega)
        have hall := Lib.hid (show cat xss j = xss.flatten by rw [← L.out, cat_all])
        have hfl : xss.flatten.length ≤ 17592186044416 := by rw [← hall.out]; omega
        go_wp2_with fail
        refine (rjoin _ _ _ _ _ hl hfl).mono ?_
        rintro e w1 ⟨v1, rfl, ho1, b1⟩
        obtain ⟨A1, n1, c1, rfl, h1⟩ := ho1.look hfl
        clear ho1
        go_wp2_with fail
        refine (wjoin _ _ _ _ _ (hl.below b1) hfl).mono ?_
        rintro e w2 ⟨v2, rfl, ho2, b2⟩
        obtain ⟨A2, c2, rfl⟩ := ho2.form
        have h2 := ho2.ints hfl
        obtain ⟨t, ht⟩ : ∃ t, t = xss.flatten.length := ⟨_, rfl⟩
        rw [← ht] at h2 ho2 ⊢
        rw [hall.out, ← ht]
        have HT := Lib.hid ht
        have ht2 : t ≤ 17592186044416 := by omega
        clear ht hfl
        go_wp2_with fail
        refine (same_law _ _ _ _ _ _ _ _ h2 (h1.below b2)).mono ?_
        rintro e w3 ⟨rfl, b3⟩
        have ho3 := (ho2.kept b3)
        have b4 := bt b2 b3
        have hne : ((t : Int) != (t : Int)) = false := by simp
        go_wp2_with fail
        go_loopw [7] (fun i wr => ∃ (k : Nat) (zs : List Int), k ≤ t ∧ i = .int .i64 k ∧ zs.length = t ∧ Owned wr w1.heap.size (.slice A2 t c2) zs ∧ Below w1.heap.size w1 wr) (fun i _ => t - (intOf i).toNat)
        case atStart => exact ⟨0, xss.flatten, Nat.zero_le _, rfl, HT.out.symm, ho3, b4⟩
        case round =>
          obtain ⟨k, zs, hk, rfl, hz, ho, hb⟩ := hrel
          have HZ := Lib.hid hz
          clear hz ho2 h2 ho3 b4 b3
          by_cases hlt : k < t
          · obtain ⟨g, hA, hg1, hg2, hfr⟩ := ho.head (by omega)
            subst hA
            have hst := ho.stored k 77
            have hI := ho.ints (by rw [HZ.out]; exact ht2)
            obtain ⟨g', o', e, _, hcell⟩ := hI.at_ (k := k) hlt
            cases e
            rw [Nat.zero_add] at hcell
            have hfk := hfr k
            clear hfr hI
            go_wp2
            go_roundw
            case rel => exact ⟨k + 1, _, by omega, by go_num, by rw [List.length_set]; exact HZ.out, hst, hb.setCell (by exact hg1) _⟩
            case measure => simp [intOf]; omega
          · have hL := (hl.below b1).below hb
            have hW := h1.below hb
            have hb0 := bt b1 hb
            have hfl : xss.flatten.length ≤ 17592186044416 := by rw [← HT.out]; exact ht2
            clear h1 ho
            go_wp2_with fail
            refine (rjoin _ _ _ _ _ hL hfl).mono ?_
            rintro e w5 ⟨v5, rfl, ho5, b5⟩
            obtain ⟨A5, n5, c5, rfl, h5⟩ := ho5.look hfl
            go_wp2_with fail
            refine (same_law _ _ _ _ _ _ _ _ h5 (hW.below b5)).mono ?_
            rintro e w6 ⟨rfl, b6⟩
            go_wp2_with fail
            refine (awake _).mono ?_
            rintro e w7 ⟨rfl, b7⟩
            go_wp2
            go_ret
            exact ⟨rfl, bt (bt (bt hb0 b5) b6) b7⟩
end Go.Proofs.Yteaejkobahpgcaa
