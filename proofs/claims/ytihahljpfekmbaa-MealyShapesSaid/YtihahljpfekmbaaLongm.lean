/- Long of the machines' laws. -/
import Derived.Test.YtihahljpfekmbaaJoin
import Derived.Test.YtihahljpfekmbaaMach
namespace Go.Proofs.Ytihahljpfekmbaa
open Go.RowKit

/-- What Long's answer says. -/
def LongP (b : Bool) (n : Nat) (xss : List (List Int)) : Prop := b = false → n ≤ 200 ∧ ∀ l, l ∈ xss → l.length ≤ 200
def LongE (n : Nat) (xss : List (List Int)) (e : Ending) : Prop := ∃ b, e = .returned (.bool b) ∧ LongP b n xss

set_option maxRecDepth 100000 in
theorem plong (A : Option Addr) (n c : Nat) (xss : List (List Int)) (w : World) (hx : Lists w A n xss) :
    Calls Try.prog 49 #[.slice A n c] w fun e w' => LongE n xss e ∧ w = w' := by
  have L := Lib.hid hx.1
  have hn := hx.2.1
  by_cases hk : 200 < n
  · have d1 : decide ((200 : Int) < (n : Int)) = true := by simp; omega
    go_enter Try.func49, Try.ntmps49
    go_wp2
    go_ret
    exact ⟨⟨true, rfl, fun h => absurd h (by simp)⟩, rfl⟩
  · have d1 : decide ((200 : Int) < (n : Int)) = false := by simp; omega
    go_enter Try.func49, Try.ntmps49
    go_wp2
    go_loop [3] (fun jv => ∃ j : Nat, j ≤ n ∧ jv = .int .i64 j ∧ ∀ i, i < j → (xss.getD i []).length ≤ 200) (fun jv => n - (intOf jv).toNat)
    case atStart => exact ⟨0, Nat.zero_le _, rfl, fun i h => absurd h (by omega)⟩
    case round =>
      obtain ⟨j, hj, rfl, hall⟩ := hrel
      have HA := Lib.hid hall
      clear hall
      by_cases hlt : j < n
      · obtain ⟨g, o, B, m, d, rfl, _, hcell, hrow⟩ := hx.at_ (k := j) hlt
        have hm : (xss.getD j []).length = m := hrow.1
        by_cases hm2 : m ≤ 200
        · have d2 : decide ((200 : Int) < (m : Int)) = false := by simp; omega
          have HN := Lib.hid (show ∀ i, i < j + 1 → (xss.getD i []).length ≤ 200 from fun i hi => by
            rcases Nat.lt_or_ge i j with h | h
            · exact HA.out i h
            · obtain rfl : i = j := by omega
              omega)
          clear hrow hm
          go_wp2
          go_round
          case rel => exact ⟨j + 1, by omega, by go_num, HN.out⟩
          case measure => simp [intOf]; omega
        · have d2 : decide ((200 : Int) < (m : Int)) = true := by simp; omega
          clear hrow hm
          go_wp2
          go_ret
          exact ⟨⟨true, rfl, fun h => absurd h (by simp)⟩, rfl⟩
      · obtain rfl : j = n := by omega
        go_wp2
        go_ret
        refine ⟨⟨false, rfl, fun _ => ⟨by omega, fun l hl => ?_⟩⟩, rfl⟩
        obtain ⟨i, hi, rfl⟩ := List.getElem_of_mem hl
        have := HA.out i (by rw [← L.out]; exact hi)
        rwa [List.getD_eq_getElem?_getD, List.getElem?_eq_getElem hi] at this
end Go.Proofs.Ytihahljpfekmbaa
