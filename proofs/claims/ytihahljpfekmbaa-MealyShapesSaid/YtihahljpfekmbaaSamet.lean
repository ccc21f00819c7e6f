/- SameTraces, of the same traces. -/
import Derived.Test.YtihahljpfekmbaaOwnT
import Derived.Test.YtihahljpfekmbaaEqm
namespace Go.Proofs.Ytihahljpfekmbaa
open Go.RowKit

/-- The slice reads as traces. -/
def Trcs (w : World) (A : Option Addr) (n : Nat) (ts : List (List Int × List Int)) : Prop :=
  ts.length = n ∧ n ≤ 17592186044416 ∧ ∀ j, j < n → ∃ b A1 n1 c1 A2 n2 c2, A = some ⟨b, 0, none⟩ ∧ w.cell? ⟨b, j * 2, none⟩ = some (.slice A1 n1 c1) ∧ w.cell? ⟨b, j * 2 + 1, none⟩ = some (.slice A2 n2 c2) ∧ Ints w A1 n1 (ts.getD j ([], [])).1 ∧ Ints w A2 n2 (ts.getD j ([], [])).2
theorem OwnedT.trcs {w : World} {base : Nat} {A : Option Addr} {n c : Nat} {ts : List (List Int × List Int)} (h : OwnedT w base (.slice A n c) ts) (hm : ts.length ≤ 17592186044416) (hr : ∀ t, t ∈ ts → t.1.length ≤ 17592186044416 ∧ t.2.length ≤ 17592186044416) : Trcs w A n ts := by
  have hn : n = ts.length := by obtain ⟨A', c', e⟩ := h.form; cases e; rfl
  subst hn
  refine ⟨rfl, hm, fun j hj => ?_⟩
  obtain ⟨vs, ho, hv⟩ := h
  obtain ⟨A1, c1, A2, c2, h1, h2, h3, h4⟩ := hv j hj
  have hmem : ts.getD j ([], []) ∈ ts := by rw [List.getD_eq_getElem?_getD, List.getElem?_eq_getElem hj]; exact List.getElem_mem _
  have hlens := hr _ hmem
  rcases ho.2 with ⟨e, h0⟩ | ⟨g, cap, cur, e, _, hg, _⟩
  · omega
  · cases e
    have hl := ho.1
    refine ⟨g, A1, _, c1, A2, _, c2, rfl, ?_, ?_, h3.ints hlens.1, h4.ints hlens.2⟩
    · rw [World.ownsRow.cellAt ho (j * 2) (by omega), Nat.mul_comm, h1]
    · rw [World.ownsRow.cellAt ho (j * 2 + 1) (by omega), Nat.mul_comm j 2, h2]
theorem Trcs.below {w w' : World} {A : Option Addr} {n : Nat} {ts : List (List Int × List Int)} (h : Trcs w A n ts) (hb : Below w.heap.size w w') : Trcs w' A n ts := by
  refine ⟨h.1, h.2.1, fun j hj => ?_⟩
  obtain ⟨b, A1, n1, c1, A2, n2, c2, e, h1, h2, h3, h4⟩ := h.2.2 j hj
  have hlt : b < w.heap.size := by
    rcases Nat.lt_or_ge b w.heap.size with hlt | hge
    · exact hlt
    · unfold World.cell? at h1
      simp [Array.getElem?_eq_none hge] at h1
  exact ⟨b, A1, n1, c1, A2, n2, c2, e, (hb.cell (p := ⟨b, j * 2, none⟩) hlt).trans h1, (hb.cell (p := ⟨b, j * 2 + 1, none⟩) hlt).trans h2, h3.below hb, h4.below hb⟩

set_option maxHeartbeats 2000000 in
set_option maxRecDepth 100000 in
theorem rsamet (A B : Option Addr) (n c d : Nat) (ts : List (List Int × List Int)) (w : World) (hx : Trcs w A n ts) (hy : Trcs w B n ts) :
    Calls Try.prog 55 #[.slice A n c, .slice B n d] w fun e w' => e = .returned (.bool true) ∧ ∃ q, w' = w.drewN q := by
  have hn := hx.2.1
  go_enter Try.func55, Try.ntmps55
  go_wp2
  go_loopw [5] (fun jv wr => ∃ j : Nat, j ≤ n ∧ jv = .int .i64 j ∧ ∃ q, wr = w.drewN q) (fun jv _ => n - (intOf jv).toNat)
  case atStart => exact ⟨0, Nat.zero_le _, rfl, 0, rfl⟩
  case round =>
    obtain ⟨j, hj, rfl, hw⟩ := hrel
    have HW := Lib.hid hw
    by_cases hlt : j < n
    · obtain ⟨q0, hw⟩ := hw
      have hx' : Trcs wr A n ts := by rw [hw]; exact hx
      have hy' : Trcs wr B n ts := by rw [hw]; exact hy
      clear hw
      obtain ⟨b1, A1, n1, c1, A2, n2, c2, rfl, h1, h2, h3, h4⟩ := hx'.2.2 j hlt
      obtain ⟨b2, B1, m1, d1, B2, m2, d2, rfl, k1, k2, k3, k4⟩ := hy'.2.2 j hlt
      have HI1 := Lib.hid (fun q => rints A1 B1 n1 c1 m1 d1 _ _ true (wr.drewN q) (h3.drewN q) (k3.drewN q) (by simp))
      have HI2 := Lib.hid (fun q => rints A2 B2 n2 c2 m2 d2 _ _ true (wr.drewN q) (h4.drewN q) (k4.drewN q) (by simp))
      clear hx' hy' h3 h4 k3 k4
      go_wp2
      go_quiet (first
        | (go_at_call 45; with_reducible exact Calls.quiet_of (HI1.out _))
        | (go_at_call 45; with_reducible exact Calls.quiet_of (HI2.out _)))
      go_wp2
      go_roundw
      case rel => exact ⟨j + 1, by omega, by go_num, drew_more HW.out _⟩
      case measure => simp [intOf]; omega
    · obtain rfl : j = n := by omega
      go_wp2
      go_ret
      exact ⟨rfl, HW.out⟩
end Go.Proofs.Ytihahljpfekmbaa
