/- The walk of CodecFrames. -/
import Derived.Test.YtihahljpfekmbaaOpnm
import Derived.Test.YtihahljpfekmbaaOpnr
import Derived.Test.YtihahljpfekmbaaAwak5
import Derived.Test.YtihahljpfekmbaaOpeny
namespace Go.Proofs.Ytihahljpfekmbaa
open Go.RowKit

theorem opR_sub (bs : List Nat) : (opR bs).2.1.length ≤ bs.length ∧ ∀ b, b ∈ (opR bs).2.1 → b ∈ bs := by
  by_cases h : (opR bs).2.2.2 = 0
  · by_cases h0 : bs.length = 0
    · rw [opR_nil h0]; simp [opE]
    · by_cases h1 : erA bs 1 = 0
      · by_cases h2 : nuA bs 1 < 0
        · rw [opR_neg h0 h1 h2]; simp [opE]
        · obtain ⟨m, hm⟩ : ∃ m : Nat, nuA bs 1 = m := ⟨(nuA bs 1).toNat, by omega⟩
          by_cases h3 : bs.length - (1 + szA bs 1) < m
          · rw [opR_cut h0 h1 hm h3]; simp [opE]
          · by_cases h4 : bs.length - (1 + szA bs 1 + m) < 4
            · rw [opR_cut2 h0 h1 hm h3 h4]; simp [opE]
            · by_cases h5 : (bs.drop (1 + szA bs 1 + m)).take 4 = four (crcZ (bs.take (1 + szA bs 1 + m)))
              · rw [opR_ok h0 h1 hm h3 h4 h5]
                refine ⟨?_, fun b hb => List.mem_of_mem_drop (List.mem_of_mem_take hb)⟩
                show ((bs.drop (1 + szA bs 1)).take m).length ≤ _
                rw [List.length_take, List.length_drop]; omega
              · rw [opR_sum h0 h1 hm h3 h4 h5]; simp [opE]
      · rw [opR_err h0 h1]; simp [opE]
  · rw [opR_form h]; simp [opE]

set_option maxHeartbeats 2000000 in
set_option maxRecDepth 100000 in
theorem frames_walk (kd : Int) (A B : Option Addr) (n c m d : Nat) (ct bs : List Nat) (w : World) (hc : Byts w A n ct) (hd : m ≤ d) (hb : Byts w B m bs) :
    Calls Try.prog 5 #[.int .i64 kd, .slice A n c, .slice B m d] w fun e w' => e = .returned (.bool true) ∧ Below w.heap.size w w' := by
  by_cases hn : 600 < n
  · have hx : decide ((600 : Int) < (n : Int)) = true := by simp; omega
    go_enter Try.func5, Try.ntmps5
    go_wp2_with fail
    refine (awake5 _).mono ?_
    rintro e w1 ⟨rfl, b1⟩
    go_wp2
    go_ret
    exact ⟨rfl, b1⟩
  · have hx : decide ((600 : Int) < (n : Int)) = false := by simp; omega
    by_cases hm : 600 < m
    · have hy : decide ((600 : Int) < (m : Int)) = true := by simp; omega
      go_enter Try.func5, Try.ntmps5
      go_wp2_with fail
      refine (awake5 _).mono ?_
      rintro e w1 ⟨rfl, b1⟩
      go_wp2
      go_ret
      exact ⟨rfl, b1⟩
    · have hy : decide ((600 : Int) < (m : Int)) = false := by simp; omega
      have hs := opR_sub bs
      have hl := hs.1
      rw [hb.1] at hl
      have HS := Lib.hid (fun b (h : b ∈ (opR bs).2.1) => hb.2.2.2 b (hs.2 b h))
      clear hs
      have HP := Lib.hid (fun w' h => pOpen B m d bs w' h hd (by omega))
      have HR := Lib.hid (fun w' h => rOpen B m d bs w' h hd (by omega))
      generalize opR bs = V at HP HR HS hl
      have SP := Lib.hid (fun w' h => pSeal kd A n c ct w' h (by omega))
      have SR := Lib.hid (fun w' h => rSeal kd A n c ct w' h (by omega))
      have hfl : (sealF (cl kd) ct).length ≤ n + 15 := by rw [sealF_len]; have := sealP_len (cl kd) ct; rw [hc.1] at this; omega
      have HF := Lib.hid (sealF_byte (cl_lt kd) (by rw [hc.1]; omega) hc.2.2.2)
      generalize sealF (cl kd) ct = sf at SP SR hfl HF
      go_enter Try.func5, Try.ntmps5
      go_wp2_with fail
      refine (HP.out _ hb).mono ?_
      rintro e w1 ⟨A1, c1, rfl, o1, b1⟩
      go_wp2_with fail
      refine (HR.out _ (hb.below b1)).mono ?_
      rintro e w2 ⟨A2, c2, rfl, o2, b2⟩
      have y1 := (o1.byts (by omega) HS.out).below b2
      have y2 := o2.byts (by omega) HS.out
      have H2 := Lib.hid (And.intro y1 (And.intro y2 (bt b1 b2)))
      clear o1 o2 y1 y2 b1 b2 HP HR
      go_wp2_with fail
      refine (psum A n c ct _ (hc.below H2.out.2.2)).mono ?_
      rintro e w2' ⟨rfl, rfl⟩
      go_wp2_with fail
      refine (rsum A n c ct _ (hc.below H2.out.2.2)).mono ?_
      rintro e w2' ⟨rfl, rfl⟩
      go_wp2_with fail
      refine (SP.out _ (hc.below H2.out.2.2)).mono ?_
      rintro e w3 ⟨v3, rfl, o3, b3⟩
      obtain ⟨A3, c3, rfl⟩ := o3.form
      have H3 := Lib.hid (And.intro (H2.out.1.below b3) (And.intro (H2.out.2.1.below b3) (And.intro (bt H2.out.2.2 b3) (o3.byts (by omega) HF.out))))
      clear H2 o3 b3 SP
      go_wp2_with fail
      refine (SR.out _ (hc.below H3.out.2.2.1)).mono ?_
      rintro e w4 ⟨v4, rfl, o4, b4⟩
      obtain ⟨A4, c4, rfl⟩ := o4.form
      have H4 := Lib.hid (And.intro (H3.out.1.below b4) (And.intro (H3.out.2.1.below b4) (And.intro (bt H3.out.2.2.1 b4) (And.intro (H3.out.2.2.2.below b4) (o4.byts (by omega) HF.out)))))
      clear H3 o4 b4 SR
      go_wp2_with fail
      refine (rsameBytes _ _ _ _ _ _ _ _ _ H4.out.2.2.2.1 H4.out.2.2.2.2).mono ?_
      rintro e w4' ⟨rfl, rfl⟩
      rw [decide_eq_true (Eq.refl sf)]
      go_wp2_with fail
      refine (rsameBytes _ _ _ _ _ _ _ _ _ H4.out.1 H4.out.2.1).mono ?_
      rintro e w4' ⟨rfl, rfl⟩
      rw [decide_eq_true (Eq.refl V.2.1)]
      have B4 := Lib.hid H4.out.2.2.1
      clear H4
      go_wp2_with fail
      refine (awake5 _).mono ?_
      rintro e w5 ⟨rfl, b5⟩
      have B5 := Lib.hid (bt B4.out b5)
      clear b5 B4
      go_wp2
      go_ret
      exact ⟨rfl, B5.out⟩
end Go.Proofs.Ytihahljpfekmbaa
