/- Lists of lists, and the reference's Join. -/
import Derived.Test.YtihahljpfekmbaaOwn
namespace Go.Proofs.Ytihahljpfekmbaa
open Go.RowKit

/-- The slice '.slice A n _' holds the lists xss. -/
def Lists (w : World) (A : Option Addr) (n : Nat) (xss : List (List Int)) : Prop :=
  xss.length = n ∧ n ≤ 17592186044416 ∧ (0 < n → ∃ b off, A = some ⟨b, off, none⟩ ∧ b < w.heap.size ∧
    ∀ j, j < n → ∃ Aj nj cj, w.cell? ⟨b, off + j, none⟩ = some (.slice Aj nj cj) ∧ Ints w Aj nj (xss.getD j []))

theorem Lists.below {w w' : World} {A : Option Addr} {n : Nat} {xss : List (List Int)} (h : Lists w A n xss) (hb : Below w.heap.size w w') : Lists w' A n xss :=
  ⟨h.1, h.2.1, fun hn => by
    obtain ⟨b, off, e, hlt, hc⟩ := h.2.2 hn
    refine ⟨b, off, e, Nat.lt_of_lt_of_le hlt hb.size, fun j hj => ?_⟩
    obtain ⟨Aj, nj, cj, h1, h2⟩ := hc j hj
    exact ⟨Aj, nj, cj, (hb.cell hlt).trans h1, h2.below hb⟩⟩

theorem Lists.at_ {w : World} {A : Option Addr} {n : Nat} {xss : List (List Int)} (h : Lists w A n xss) {k : Nat} (hk : k < n) :
    ∃ b off Aj nj cj, A = some ⟨b, off, none⟩ ∧ b < w.heap.size ∧ w.cell? ⟨b, off + k, none⟩ = some (.slice Aj nj cj) ∧ Ints w Aj nj (xss.getD k []) := by
  obtain ⟨b, off, e, hlt, hc⟩ := h.2.2 (by omega)
  obtain ⟨Aj, nj, cj, h1, h2⟩ := hc k hk
  exact ⟨b, off, Aj, nj, cj, e, hlt, h1, h2⟩

/-- The first j lists, one after the other. -/
def cat (xss : List (List Int)) (j : Nat) : List Int := (xss.take j).flatten

theorem cat_zero (xss : List (List Int)) : cat xss 0 = [] := by simp [cat]
theorem cat_succ {xss : List (List Int)} {j : Nat} (h : j < xss.length) : cat xss (j + 1) = cat xss j ++ xss.getD j [] := by
  unfold cat
  rw [List.take_succ_eq_append_getElem h, List.flatten_append]
  simp [List.getD, h]
theorem cat_all (xss : List (List Int)) : cat xss xss.length = xss.flatten := by simp [cat]
theorem cat_len (xss : List (List Int)) (j : Nat) : (cat xss j).length ≤ xss.flatten.length := by
  have h : xss.flatten = cat xss j ++ (xss.drop j).flatten := by unfold cat; rw [← List.flatten_append, List.take_append_drop]
  rw [h, List.length_append]; omega


set_option maxHeartbeats 1000000 in
theorem rjoin (A : Option Addr) (n c : Nat) (xss : List (List Int)) (w : World) (h : Lists w A n xss) (hlen : xss.flatten.length ≤ 17592186044416) :
    Calls Try.prog 61 #[.slice A n c] w fun e w' => ∃ v, e = .returned v ∧ Owned w' w.heap.size v xss.flatten ∧ Below w.heap.size w w' := by
  have L := Lib.hid h.1
  have hn := h.2.1
  have hB := Lib.hid hlen
  clear hlen
  have hall := Lib.hid (show cat xss n = xss.flatten by rw [← L.out, cat_all])
  go_enter Try.func61, Try.ntmps61
  go_wp2
  go_loopw [3, 4] (fun v i wr => ∃ k : Nat, k ≤ n ∧ i = .int .i64 k ∧ Owned wr w.heap.size v (cat xss k) ∧ Below w.heap.size w wr) (fun _ i _ => n - (intOf i).toNat)
  case atStart => exact ⟨0, Nat.zero_le _, rfl, by rw [cat_zero]; exact Owned.nil _ _, Below.refl _ _⟩
  case round =>
    obtain ⟨k, hk, rfl, hown, hbr⟩ := hrel
    by_cases hlt : k < n
    · obtain ⟨b, off, Aj, nj, cj, rfl, _, hcell, hI⟩ := (h.below hbr).at_ hlt
      have hs := Lib.hid (cat_succ (xss := xss) (j := k) (by rw [L.out]; exact hlt))
      have hb2 := Nat.le_trans (cat_len xss (k + 1)) hB.out
      rw [hs.out] at hb2
      obtain ⟨v', w', hr, ho', _, hbel'⟩ := run_append_ints _ _ _ _ _ _ _ cj hown hI hbr.size hb2
      rw [← hs.out] at ho'
      clear hb2
      go_wp2_with (at_builtin; refine Lib.wpList_append_run _ rfl _ _ _ _ rfl _ _ rfl rfl _ _ hr ?_)
      go_roundw
      case rel => exact ⟨k + 1, by omega, by go_num, ho', hbr.trans hbel'⟩
      case measure => simp [intOf]; omega
    · obtain rfl : k = n := by omega
      go_wp2
      go_ret
      exact ⟨_, rfl, by rw [← hall.out]; exact hown, hbr⟩
end Go.Proofs.Ytihahljpfekmbaa
