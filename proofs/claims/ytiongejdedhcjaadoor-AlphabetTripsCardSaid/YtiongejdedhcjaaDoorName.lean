/- The walks of Name, by the two texts. -/
import Derived.Test.YtiongejdedhcjaaDoorBase
import Derived.Test.YtiongejdedhcjaaDoorProg
import Derived.Outline
import Derived.WalkLawsBesides
import Derived.WalkSpells
import Derived.Laws.RangeString
import Derived.Lib.OthersKept
namespace Go.Proofs.YtiongejdedhcjaaDoor
open Go.RowKit

/-- A byte or rune that may stand in a name. -/
def OkC (c : Nat) : Prop := (97 ≤ c ∧ c ≤ 122) ∨ (65 ≤ c ∧ c ≤ 90) ∨ (48 ≤ c ∧ c ≤ 57) ∨ c = 95 ∨ c = 45 ∨ c = 46
instance (c : Nat) : Decidable (OkC c) := by unfold OkC; exact inferInstance
theorem notOk {c : Nat} (h : ¬ OkC c) : c < 45 ∨ c = 47 ∨ (58 ≤ c ∧ c ≤ 64) ∨ (91 ≤ c ∧ c ≤ 94) ∨ c = 96 ∨ 123 ≤ c := by unfold OkC at h; omega

/-- The byte at place i. -/
def byt (s : ByteArray) (i : Nat) : Nat := (s.data.toList[i]?.getD 0).toNat
theorem byt_lt (s : ByteArray) (i : Nat) : byt s i < 256 := UInt8.toNat_lt _
theorem byt_at (s : ByteArray) (i : Nat) (h : i < s.size) : (s[i]'h).toNat = byt s i := by
  unfold byt
  congr 1
  have h' : i < s.data.toList.length := by simpa using h
  rw [List.getElem?_eq_getElem h']
  simp
  rfl

/-- A name. -/
def Nam (s : ByteArray) : Prop := (∀ i, i < s.size → OkC (byt s i)) ∧ 1 ≤ s.size ∧ s.size ≤ 32
instance (s : ByteArray) : Decidable (Nam s) := by unfold Nam; exact inferInstance

theorem nam_len (s : ByteArray) (h : ∀ i, i < s.size → OkC (byt s i)) (h1 : 1 ≤ s.size) : decide ((s.size : Int) ≤ 32) = decide (Nam s) := by
  rw [decide_eq_decide]
  exact ⟨fun h2 => ⟨h, h1, by omega⟩, fun H => by have := H.2.2; omega⟩
theorem nam_empty (s : ByteArray) (h1 : ¬ 1 ≤ s.size) : decide (Nam s) = false := decide_eq_false fun H => h1 H.2.1
theorem nam_bad (s : ByteArray) {i : Nat} (hi : i < s.size) (h : ¬ OkC (byt s i)) : decide (Nam s) = false := decide_eq_false fun H => h (H.1 i hi)
theorem ret_bool {a b : Bool} (h : a = b) : Ending.returned (.bool a) = .returned (.bool b) := by rw [h]

set_option maxHeartbeats 2000000 in
theorem rname (s : ByteArray) (hs : s.size ≤ 17592186044416) (w : World) :
    Calls Tryd.prog 16 #[.string s] w fun e w' => e = .returned (.bool (decide (Nam s))) ∧ w = w' := by
  go_enter Tryd.func16, Tryd.ntmps16
  go_wp2
  go_loop [3] (fun i => ∃ j : Nat, j ≤ s.size ∧ i = .int .i64 j ∧ ∀ m, m < j → OkC (byt s m)) (fun i => s.size - (intOf i).toNat)
  case atStart => exact ⟨0, Nat.zero_le _, rfl, fun m h => absurd h (by omega)⟩
  case round =>
    obtain ⟨j, hj, rfl, hok⟩ := hrel
    have HK := Lib.hid hok
    clear hok
    by_cases hlt : j < s.size
    · obtain ⟨c, hc⟩ : ∃ c, byt s j = c := ⟨_, rfl⟩
      have hb : (s[j]'hlt).toNat = c := (byt_at s j hlt).trans hc
      have HC := Lib.hid hc
      clear hc
      by_cases ok : OkC c
      · have hnx := Lib.hid (show ∀ m, m < j + 1 → OkC (byt s m) from fun m hm => by
          by_cases e : m = j
          · subst e; rw [HC.out]; exact ok
          · exact HK.out m (by omega))
        unfold OkC at ok
        rcases ok with ⟨o1, o2⟩ | ⟨o1, o2⟩ | ⟨o1, o2⟩ | rfl | rfl | rfl
        all_goals
          go_wp2
          go_round
          case rel => exact ⟨j + 1, by omega, by go_num, hnx.out⟩
          case measure => simp [intOf]; omega
      · have hfin := Lib.hid (nam_bad s hlt (by rw [HC.out]; exact ok))
        have q1 : ((c : Int) != 95) = true := by unfold OkC at ok; simp; omega
        have q2 : ((c : Int) != 45) = true := by unfold OkC at ok; simp; omega
        have q3 : ((c : Int) != 46) = true := by unfold OkC at ok; simp; omega
        have ok2 := notOk ok
        clear ok
        rcases ok2 with o1 | rfl | ⟨o1, o2⟩ | ⟨o1, o2⟩ | rfl | o1
        all_goals
          go_wp2
          go_ret
          exact ⟨ret_bool hfin.out.symm, rfl⟩
    · obtain rfl : j = s.size := by omega
      by_cases h1 : 1 ≤ s.size
      · have hfin := Lib.hid (nam_len s HK.out h1)
        go_wp2
        go_ret
        exact ⟨ret_bool hfin.out, rfl⟩
      · have hfin := Lib.hid (nam_empty s h1)
        go_wp2
        go_ret
        exact ⟨ret_bool hfin.out.symm, rfl⟩

set_option maxHeartbeats 1000000 in
theorem ppermitted (c : Nat) (hc : c < 2147483648) (w : World) :
    Calls Tryd.prog 29 #[.int .i32 c] w fun e w' => e = .returned (.bool (decide (OkC c))) ∧ w = w' := by
  by_cases ok : OkC c
  · have hd := Lib.hid (decide_eq_true ok)
    unfold OkC at ok
    rcases ok with ⟨o1, o2⟩ | ⟨o1, o2⟩ | ⟨o1, o2⟩ | rfl | rfl | rfl
    all_goals
      go_enter Tryd.func29, Tryd.ntmps29
      go_wp2
      go_ret
      exact ⟨ret_bool hd.out.symm, rfl⟩
  · have hd := Lib.hid (decide_eq_false ok)
    have q1 : ((c : Int) == 95) = false := by unfold OkC at ok; simp; omega
    have q2 : ((c : Int) == 45) = false := by unfold OkC at ok; simp; omega
    have q3 : ((c : Int) == 46) = false := by unfold OkC at ok; simp; omega
    have ok := notOk ok
    rcases ok with o1 | rfl | ⟨o1, o2⟩ | ⟨o1, o2⟩ | rfl | o1
    all_goals
      go_enter Tryd.func29, Tryd.ntmps29
      go_wp2
      go_ret
      first | exact ⟨ret_bool hd.out.symm, rfl⟩ | exact ⟨rfl, rfl⟩

/-- One step of a range over a string. -/
theorem dec_low {s : ByteArray} {i : Nat} (h : i < s.size) (hl : byt s i < 128) : Utf8.decode s i = (byt s i, 1) := by
  have := decode_ascii s i h (by rw [byt_at]; exact hl)
  rw [this, byt_at]
theorem get_byt (s : ByteArray) (i : Nat) (h : i < s.size) : (s.get! i).toNat = byt s i := by
  rw [← byt_at s i h]
  simp [ByteArray.get!, getElem!_pos, h]
  rfl
end Go.Proofs.YtiongejdedhcjaaDoor
