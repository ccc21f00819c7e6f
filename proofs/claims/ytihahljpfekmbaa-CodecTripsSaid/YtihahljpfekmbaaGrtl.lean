/- Great of a list of words. -/
import Derived.Test.YtihahljpfekmbaaJoin
import Derived.Test.YtihahljpfekmbaaSize
namespace Go.Proofs.Ytihahljpfekmbaa
open Go.RowKit

/-- What Great's answer says. -/
def GreatP (b : Bool) (n K : Nat) (xss : List (List Int)) : Prop := b = false → n ≤ K ∧ ∀ l, l ∈ xss → l.length ≤ K
def GreatE (n K : Nat) (xss : List (List Int)) (e : Ending) : Prop := ∃ b, e = .returned (.bool b) ∧ GreatP b n K xss

set_option maxHeartbeats 1000000 in
set_option maxRecDepth 100000 in
theorem rgreat (A : Option Addr) (n c K : Nat) (xss : List (List Int)) (w : World) (hK : K ≤ 1000) (hx : Lists w A n xss) :
    Calls Try.prog 20 #[.slice A n c, .int .i64 K, .int .i64 K] w fun e w' => GreatE n K xss e ∧ w = w' := by
  have L := Lib.hid hx.1
  have hn := hx.2.1
  go_enter Try.func20, Try.ntmps20
  go_wp2
  go_loop [7] (fun jv => ∃ j : Nat, j ≤ n ∧ j ≤ K + 1 ∧ jv = .int .i64 j ∧ ∀ i, i < j → (xss.getD i []).length ≤ K) (fun jv => n - (intOf jv).toNat)
  case atStart => exact ⟨0, Nat.zero_le _, by omega, rfl, fun i h => absurd h (by omega)⟩
  case round =>
    obtain ⟨j, hj, hjk, rfl, hall⟩ := hrel
    have HA := Lib.hid hall
    clear hall
    by_cases hlt : j < n
    · by_cases hk : j ≤ K
      · have d1 : decide ((j : Int) ≤ (K : Int)) = true := by simp; omega
        obtain ⟨g, o, B, m, d, rfl, _, hcell, hrow⟩ := hx.at_ (k := j) hlt
        have hm : (xss.getD j []).length = m := hrow.1
        by_cases hm2 : m ≤ K
        · have d2 : decide ((K : Int) < (m : Int)) = false := by simp; omega
          have HN := Lib.hid (show ∀ i, i < j + 1 → (xss.getD i []).length ≤ K from fun i hi => by
            rcases Nat.lt_or_ge i j with h | h
            · exact HA.out i h
            · obtain rfl : i = j := by omega
              omega)
          clear hrow hm
          go_wp2
          go_round
          case rel => exact ⟨j + 1, by omega, by omega, by go_num, HN.out⟩
          case measure => simp [intOf]; omega
        · have d2 : decide ((K : Int) < (m : Int)) = true := by simp; omega
          clear hrow hm
          go_wp2
          go_ret
          exact ⟨⟨true, rfl, fun h => absurd h (by simp)⟩, rfl⟩
      · have d1 : decide ((j : Int) ≤ (K : Int)) = false := by simp; omega
        have d2 : decide (K < n) = true := by simp; omega
        go_wp2
        go_ret
        exact ⟨⟨true, rfl, fun h => absurd h (by simp)⟩, rfl⟩
    · obtain rfl : j = n := by omega
      by_cases hk : j ≤ K
      · have d2 : decide (K < j) = false := by simp; omega
        go_wp2
        go_ret
        refine ⟨⟨false, rfl, fun _ => ⟨hk, fun l hl => ?_⟩⟩, rfl⟩
        obtain ⟨i, hi, rfl⟩ := List.getElem_of_mem hl
        have := HA.out i (by rw [← L.out]; exact hi)
        rwa [List.getD_eq_getElem?_getD, List.getElem?_eq_getElem hi] at this
      · have d2 : decide (K < j) = true := by simp; omega
        go_wp2
        go_ret
        exact ⟨⟨true, rfl, fun h => absurd h (by simp)⟩, rfl⟩
end Go.Proofs.Ytihahljpfekmbaa
