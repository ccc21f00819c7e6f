/- Great of the laws of minimize. -/
import Derived.Test.YtnifjagjcoegaaaAwak8
namespace Go.Proofs.Ytnifjagjcoegaaa
open Go.RowKit

def SomeB (w : World) (e : Ending) (w' : World) : Prop := ∃ b : Bool, e = .returned (.bool b) ∧ Below w.heap.size w w'
set_option maxHeartbeats 1000000 in
theorem rgreat8 (i st : Int) (A B : Option Addr) (n c m d : Nat) (nx ot : List (List Int)) (w : World) (hx : Lists w A n nx) (ho : Lists w B m ot) :
    Calls Try.prog 45 #[.agg #[.int .i64 i, .int .i64 st, .slice A n c, .slice B m d]] w (SomeB w) := by
  have hb0 := alloc_below w (.cells #[.int .i64 i, .int .i64 st, .slice A n c, .slice B m d] 58)
  have hB := mealy_box w (.int .i64 i) (.int .i64 st) (.slice A n c) (.slice B m d)
  have hn := hx.2.1
  have hm := ho.2.1
  by_cases h1 : 12 < n
  · have d1 : decide ((12 : Int) < (n : Int)) = true := by simp; omega
    go_enter Try.func45, Try.ntmps45
    go_wp2
    go_ret
    exact ⟨_, rfl, hb0⟩
  · have d1 : decide ((12 : Int) < (n : Int)) = false := by simp; omega
    by_cases h2 : 12 < m
    · have d2 : decide ((12 : Int) < (m : Int)) = true := by simp; omega
      go_enter Try.func45, Try.ntmps45
      go_wp2
      go_ret
      exact ⟨_, rfl, hb0⟩
    · have d2 : decide ((12 : Int) < (m : Int)) = false := by simp; omega
      by_cases h3 : 6 < i
      · have d3 : decide ((6 : Int) < i) = true := by simpa using h3
        go_enter Try.func45, Try.ntmps45
        go_wp2
        go_ret
        exact ⟨_, rfl, hb0⟩
      · have d3 : decide ((6 : Int) < i) = false := by simpa using h3
        go_enter Try.func45, Try.ntmps45
        go_wp2
        generalize w.alloc (.cells #[.int .i64 i, .int .i64 st, .slice A n c, .slice B m d] 58) = w1 at hb0 hB ⊢
        obtain ⟨k0, k1, k2, k3, _⟩ := hB.cells
        clear hB d1 d2 d3
        go_loop [23] (fun kv => ∃ k : Nat, k ≤ n ∧ kv = .int .i64 k) (fun kv => n - (intOf kv).toNat)
        case atStart => exact ⟨0, Nat.zero_le _, rfl⟩
        case round =>
          obtain ⟨k, hk, rfl⟩ := hrel
          by_cases hlt : k < n
          · obtain ⟨g1, o1, A1, n1, c1, rfl, hg1, hd1, hr1⟩ := hx.at_ hlt
            have e1 := (hb0.cell (p := ⟨g1, o1 + k, none⟩) hg1).trans hd1
            clear hd1
            go_wp2
            · go_ret
              exact ⟨_, rfl, hb0⟩
            · go_round
              case rel => exact ⟨k + 1, by omega, by go_num⟩
              case measure => simp [intOf]; omega
          · go_wp2
            go_loop [37] (fun kv => ∃ k : Nat, k ≤ m ∧ kv = .int .i64 k) (fun kv => m - (intOf kv).toNat)
            case atStart => exact ⟨0, Nat.zero_le _, rfl⟩
            case round =>
              obtain ⟨k, hk, rfl⟩ := hrel
              by_cases hlt : k < m
              · obtain ⟨g1, o1, A1, n1, c1, rfl, hg1, hd1, hr1⟩ := ho.at_ hlt
                have e1 := (hb0.cell (p := ⟨g1, o1 + k, none⟩) hg1).trans hd1
                clear hd1
                go_wp2
                · go_ret
                  exact ⟨_, rfl, hb0⟩
                · go_round
                  case rel => exact ⟨k + 1, by omega, by go_num⟩
                  case measure => simp [intOf]; omega
              · go_wp2
                go_ret
                exact ⟨_, rfl, hb0⟩
end Go.Proofs.Ytnifjagjcoegaaa
