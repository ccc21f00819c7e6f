/- The walk of the program's Name: a range over the string. -/
import Derived.Test.YtiongejdedhcjaaDoorName
import Derived.Laws.RangeAny
namespace Go.Proofs.YtiongejdedhcjaaDoor
open Go.RowKit

/-- A step over a byte that is not ASCII. -/
theorem dec_high {s : ByteArray} {i : Nat} (h : i < s.size) (hl : 128 ≤ byt s i) : 128 ≤ (Utf8.decode s i).1 ∧ 1 ≤ (Utf8.decode s i).2 :=
  decode_high s i h (by rw [byt_at]; exact hl)

theorem dec_le (s : ByteArray) (i : Nat) : (Utf8.decode s i).1 < 2147483648 := by
  have := decode_le s i
  omega

theorem iter_below (w : World) (s : ByteArray) (pos : Nat) : Below w.heap.size w (w.iter s pos) := (Below.refl _ _).alloc (Nat.le_refl _) _

set_option maxHeartbeats 1000000 in
theorem pname (s : ByteArray) (hs : s.size ≤ 17592186044416) (w : World) :
    Calls Tryd.prog 15 #[.string s] w fun e w' => e = .returned (.bool (decide (Nam s))) ∧ Below w.heap.size w w' := by
  go_enter Tryd.func15, Tryd.ntmps15
  go_wp2
  go_loopw [] (fun wr => ∃ j : Nat, j ≤ s.size ∧ wr = w.iter s j ∧ ∀ m, m < j → OkC (byt s m)) (fun wr => s.size - wr.iterPos w.heap.size)
  case atStart => exact ⟨0, Nat.zero_le _, rfl, fun m h => absurd h (by omega)⟩
  case round =>
    obtain ⟨j, hj, rfl, hok⟩ := hrel
    have HK := Lib.hid hok
    clear hok
    by_cases hlt : j < s.size
    · have hnx : ∀ ty, (Instr.next (.pointer (some ⟨w.heap.size, 0, none⟩)) true ty).run Tryd.prog (w.iter s j) = _ := fun ty => run_next_any w s j ty hlt
      obtain ⟨c, hc⟩ : ∃ c, byt s j = c := ⟨_, rfl⟩
      by_cases ok : OkC c
      · have hlow : byt s j < 128 := by rw [hc]; unfold OkC at ok; omega
        rw [dec_low hlt hlow, hc] at hnx
        have hnx2 := Lib.hid (show ∀ m, m < j + 1 → OkC (byt s m) from fun m hm => by
          by_cases e : m = j
          · subst e; rw [hc]; exact ok
          · exact HK.out m (by omega))
        have hd := decide_eq_true ok
        have hcl : c < 2147483648 := by unfold OkC at ok; omega
        clear ok hc hlow
        go_wp2_with (go_at_call 29; refine (ppermitted c hcl _).mono ?_; rintro e w' ⟨rfl, rfl⟩)
        go_roundw
        case rel => exact ⟨j + 1, by omega, rfl, hnx2.out⟩
        case measure => simp; omega
      · have hfin := Lib.hid (nam_bad s hlt (by rw [hc]; exact ok))
        have hd : decide (OkC (Utf8.decode s j).1) = false := by
          apply decide_eq_false
          rcases Nat.lt_or_ge (byt s j) 128 with h1 | h1
          · rw [dec_low hlt h1, hc]; exact ok
          · have := (dec_high hlt h1).1
            unfold OkC; omega
        have hcl := dec_le s j
        clear ok hc
        go_wp2_with (go_at_call 29; refine (ppermitted _ hcl _).mono ?_; rintro e w' ⟨rfl, rfl⟩)
        go_ret
        exact ⟨ret_bool hfin.out.symm, iter_below _ _ _⟩
    · have hnx : ∀ ty, (Instr.next (.pointer (some ⟨w.heap.size, 0, none⟩)) true ty).run Tryd.prog (w.iter s j) = _ := fun ty => run_next_end w s j ty hlt
      obtain rfl : j = s.size := by omega
      by_cases h1 : 1 ≤ s.size
      · have hfin := Lib.hid (nam_len s HK.out h1)
        go_wp2
        go_ret
        exact ⟨ret_bool hfin.out, iter_below _ _ _⟩
      · have hfin := Lib.hid (nam_empty s h1)
        go_wp2
        go_ret
        exact ⟨ret_bool hfin.out.symm, iter_below _ _ _⟩
end Go.Proofs.YtiongejdedhcjaaDoor
