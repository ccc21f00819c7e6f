/- The walks of CodecNumbers and CodecLists. -/
import Derived.Test.YtihahljpfekmbaaAwak5
import Derived.Test.YtihahljpfekmbaaTakt
import Derived.Test.YtihahljpfekmbaaOpeny
namespace Go.Proofs.Ytihahljpfekmbaa
open Go.RowKit

theorem OwnedY.bytsl {w : World} {base : Nat} {v : Value} {bs : List Nat} (h : OwnedY w base v bs) (hm : bs.length ≤ 140737488355328) (h256 : ∀ b, b ∈ bs → b < 256) : ∃ A c, v = .slice A bs.length c ∧ Byts w A bs.length bs := by
  obtain ⟨A, c, rfl⟩ := h.form
  exact ⟨A, c, rfl, h.byts hm h256⟩

set_option maxHeartbeats 1000000 in
set_option maxRecDepth 100000 in
theorem numbers_walk (a : Int) (A : Option Addr) (n c : Nat) (bs : List Nat) (w : World) (hr : R64 a) (hc : n ≤ c) (h : Byts w A n bs) :
    Calls Try.prog 3 #[.int .i64 a, .slice A n c] w fun e w' => e = .returned (.bool true) ∧ Below w.heap.size w w' := by
  by_cases hn : 1000 < n
  · have hd : decide ((1000 : Int) < (n : Int)) = true := by simp; omega
    go_enter Try.func3, Try.ntmps3
    go_wp2_with fail
    refine (awake5 _).mono ?_
    rintro e w1 ⟨rfl, b1⟩
    go_wp2
    go_ret
    exact ⟨rfl, b1⟩
  · have hd : decide ((1000 : Int) < (n : Int)) = false := by simp; omega
    have hl := (enc_len (zig a)).2
    have HB := Lib.hid (enc_byte hr)
    go_enter Try.func3, Try.ntmps3
    go_wp2_with fail
    refine (ptakeInt A n c bs _ h hc).mono ?_
    rintro e w1 ⟨rfl, b1⟩
    generalize hX : nmA bs 0 = X
    have HX := Lib.hid hX
    clear hX
    go_wp2_with fail
    refine (rtakeInt A n c bs _ (h.below b1) hc).mono ?_
    rintro e w1' ⟨rfl, rfl⟩
    rw [HX.out]
    go_wp2_with fail
    refine (pputInt a _ hr.1 hr.2).mono ?_
    rintro e w2 ⟨v2, rfl, h2, b2⟩
    obtain ⟨A2, c2, rfl, y2⟩ := h2.bytsl (by omega) HB.out
    have b2 := bt b1 b2
    clear b1 h2
    go_wp2_with fail
    refine (rputInt a _ hr.1 hr.2).mono ?_
    rintro e w3 ⟨v3, rfl, h3, b3⟩
    obtain ⟨A3, c3, rfl, y3⟩ := h3.bytsl (by omega) HB.out
    have y2 := y2.below b3
    have b3 := bt b2 b3
    clear b2 h3
    go_wp2_with fail
    refine (rsameBytes _ _ _ _ _ _ _ _ _ y2 y3).mono ?_
    rintro e w3' ⟨rfl, rfl⟩
    rw [decide_eq_true (Eq.refl (enc (zig a)))]
    clear y2 y3
    go_wp2_with fail
    refine (awake5 _).mono ?_
    rintro e w4 ⟨rfl, b4⟩
    have b4 := bt b3 b4
    clear b3
    go_wp2
    go_ret
    exact ⟨rfl, b4⟩
end Go.Proofs.Ytihahljpfekmbaa
