/- The walk of CodecLists. -/
import Derived.Test.YtihahljpfekmbaaCnum
import Derived.Test.YtihahljpfekmbaaGrtl
namespace Go.Proofs.Ytihahljpfekmbaa
open Go.RowKit

theorem lisA_len {bs : List Nat} {u : Nat} (hu : u ≤ bs.length) : (lisA bs u).1.length ≤ bs.length := by
  by_cases h : (lisA bs u).2.2 = 0
  · have := lisA_fit hu h; omega
  · rw [lisA_form h]; simp
theorem worA_len {bs : List Nat} {u : Nat} (hu : u ≤ bs.length) : (worA bs u).1.length ≤ bs.length ∧ ∀ xs, xs ∈ (worA bs u).1 → xs.length ≤ bs.length := by
  by_cases h : (worA bs u).2.2 = 0
  · have := worA_fit hu h; exact ⟨by omega, this.2.2.2⟩
  · rw [worA_form h]; simp

theorem awake_end {w w1 : World} {e : Ending} (b : Below w.heap.size w w1) : e = Ending.returned (.bool true) → Below w.heap.size w w1 := fun _ => b

set_option maxHeartbeats 2000000 in
set_option maxRecDepth 100000 in
theorem lists_walk (A B D : Option Addr) (n c m d k q : Nat) (xs : List Int) (xss : List (List Int)) (bs : List Nat) (w : World) (hx : Ints w A n xs) (hR : RL xs) (hy : Lists w B m xss) (hRR : ∀ l, l ∈ xss → RL l) (hc : k ≤ q) (h : Byts w D k bs) :
    Calls Try.prog 4 #[.slice A n c, .slice B m d, .slice D k q] w fun e w' => e = .returned (.bool true) ∧ Below w.heap.size w w' := by
  have HR := Lib.hid hR
  have HRR := Lib.hid hRR
  clear hR hRR
  by_cases hn : 200 < n
  · have hd : decide ((200 : Int) < (n : Int)) = true := by simp; omega
    go_enter Try.func4, Try.ntmps4
    go_wp2_with fail
    refine (awake5 _).mono ?_
    rintro e w1 ⟨rfl, b1⟩
    go_wp2
    go_ret
    exact ⟨rfl, b1⟩
  · have hd : decide ((200 : Int) < (n : Int)) = false := by simp; omega
    go_enter Try.func4, Try.ntmps4
    go_wp2_with fail
    refine (rgreat B m d 40 xss _ (by omega) hy).mono ?_
    rintro e w1 ⟨⟨b, rfl, hP⟩, rfl⟩
    cases b with
    | true =>
      go_wp2_with fail
      refine (awake5 _).mono ?_
      rintro e w1 ⟨rfl, b1⟩
      go_wp2
      go_ret
      exact ⟨rfl, b1⟩
    | false =>
      have HP := Lib.hid (hP rfl)
      clear hP
      by_cases hk : 1000 < k
      · have hd2 : decide ((1000 : Int) < (k : Int)) = true := by simp; omega
        go_wp2_with fail
        refine (awake5 _).mono ?_
        rintro e w1 ⟨rfl, b1⟩
        go_wp2
        go_ret
        exact ⟨rfl, b1⟩
      · have hd2 : decide ((1000 : Int) < (k : Int)) = false := by simp; omega
        have L := Lib.hid h.1
        have hV1 := lisA_len (bs := bs) (u := 0) (Nat.zero_le _)
        have hV2 := worA_len (bs := bs) (u := 0) (Nat.zero_le _)
        rw [L.out] at hV1 hV2
        have e1 := encI_len xs
        rw [hx.1] at e1
        have e2 := encW_len (K := 40) HP.out.2
        rw [hy.1] at e2
        have hm := HP.out.1
        have B1 := Lib.hid (encI_byte HR.out (by rw [hx.1]; omega))
        have B2 := Lib.hid (encW_byte (fun l hl => ⟨HRR.out l hl, by have := HP.out.2 l hl; omega⟩) (by rw [hy.1]; omega))
        have HL := Lib.hid (show RLL xss from fun l hl => ⟨HRR.out l hl, by have := HP.out.2 l hl; omega⟩)
        clear HRR HP
        go_wp2_with fail
        refine (ptakeInts D k q bs _ h hc (by omega)).mono ?_
        rintro e w2 ⟨A2, c2, rfl, o2, b2⟩
        go_wp2_with fail
        refine (rtakeInts D k q bs _ (h.below b2) hc (by omega)).mono ?_
        rintro e w3 ⟨A3, c3, rfl, o3, b3⟩
        generalize lisA bs 0 = V at hV1 o2 o3 ⊢
        have o2 := (Owned.ints o2 (by omega)).below b3
        have o3 := Owned.ints o3 (by omega)
        have b3 := bt b2 b3
        clear b2
        have H3 := Lib.hid (And.intro o2 (And.intro o3 b3))
        clear o2 o3 b3
        go_wp2_with fail
        refine (ptakeWords D k q bs _ (h.below H3.out.2.2) hc (by omega)).mono ?_
        rintro e w4 ⟨A4, c4, rfl, o4, b4⟩
        go_wp2_with fail
        refine (rtakeWords D k q bs _ ((h.below H3.out.2.2).below b4) hc (by omega)).mono ?_
        rintro e w5 ⟨A5, c5, rfl, o5, b5⟩
        generalize worA bs 0 = U at hV2 o4 o5 ⊢
        have o4 := (OwnedL.lists o4 (by omega) (fun z hz => by have := hV2.2 z hz; omega)).below b5
        have o5 := OwnedL.lists o5 (by omega) (fun z hz => by have := hV2.2 z hz; omega)
        have H5 := Lib.hid (And.intro ((H3.out.1.below b4).below b5) (And.intro ((H3.out.2.1.below b4).below b5) (And.intro o4 (And.intro o5 (bt H3.out.2.2 (bt b4 b5))))))
        clear o4 o5 b4 b5 H3 hV2
        go_wp2_with fail
        refine (pputInts A n c xs _ (hx.below H5.out.2.2.2.2) HR.out (by omega)).mono ?_
        rintro e w6 ⟨v6, rfl, h6, b6⟩
        obtain ⟨A6, c6, rfl, y6⟩ := h6.bytsl (by omega) B1.out
        go_wp2_with fail
        refine (rputInts A n c xs _ ((hx.below H5.out.2.2.2.2).below b6) HR.out (by omega)).mono ?_
        rintro e w7 ⟨v7, rfl, h7, b7⟩
        obtain ⟨A7, c7, rfl, y7⟩ := h7.bytsl (by omega) B1.out
        have y6 := y6.below b7
        have b7 := bt b6 b7
        have H7 := Lib.hid (And.intro (H5.out.1.below b7) (And.intro (H5.out.2.1.below b7) (And.intro (H5.out.2.2.1.below b7) (And.intro (H5.out.2.2.2.1.below b7) (bt H5.out.2.2.2.2 b7)))))
        clear h6 h7 b6 b7 H5
        go_wp2_with fail
        refine (rsameBytes _ _ _ _ _ _ _ _ _ y6 y7).mono ?_
        rintro e w7' ⟨rfl, rfl⟩
        rw [decide_eq_true (Eq.refl (encI xs))]
        clear y6 y7
        go_wp2_with fail
        refine (pputWords B m d xss _ (hy.below H7.out.2.2.2.2) HL.out (by omega)).mono ?_
        rintro e w8 ⟨v8, rfl, h8, b8⟩
        obtain ⟨A8, c8, rfl, y8⟩ := h8.bytsl (by omega) B2.out
        go_wp2_with fail
        refine (rputWords B m d xss _ ((hy.below H7.out.2.2.2.2).below b8) HL.out (by omega)).mono ?_
        rintro e w9 ⟨v9, rfl, h9, b9⟩
        obtain ⟨A9, c9, rfl, y9⟩ := h9.bytsl (by omega) B2.out
        have y8 := y8.below b9
        have b9 := bt b8 b9
        have H9 := Lib.hid (And.intro (H7.out.1.below b9) (And.intro (H7.out.2.1.below b9) (And.intro (H7.out.2.2.1.below b9) (And.intro (H7.out.2.2.2.1.below b9) (bt H7.out.2.2.2.2 b9)))))
        clear h8 h9 b8 b9 H7
        go_wp2_with fail
        refine (rsameBytes _ _ _ _ _ _ _ _ _ y8 y9).mono ?_
        rintro e w9' ⟨rfl, rfl⟩
        rw [decide_eq_true (Eq.refl (encW xss))]
        clear y8 y9
        go_wp2_with fail
        refine (rsameD _ _ _ _ _ _ V.1 V.1 true _ H9.out.1 H9.out.2.1 (by simp)).mono ?_
        rintro e w10 ⟨rfl, q10⟩
        have b10 := rd_below q10
        have H10 := Lib.hid (And.intro (H9.out.2.2.1.below b10) (And.intro (H9.out.2.2.2.1.below b10) (bt H9.out.2.2.2.2 b10)))
        clear H9 q10 b10
        go_wp2_with fail
        refine (rsameWords _ _ _ _ _ _ U.1 U.1 true _ H10.out.1 H10.out.2.1 (by simp)).mono ?_
        rintro e w11 ⟨rfl, q11⟩
        have B11 := Lib.hid (bt H10.out.2.2 (rd_below q11))
        clear H10 q11
        go_wp2_with fail
        refine (awake5 _).mono ?_
        rintro e w12 ⟨rfl, b12⟩
        have B12 := Lib.hid (bt B11.out b12)
        clear b12 B11
        go_wp2
        go_ret
        exact ⟨rfl, B12.out⟩
end Go.Proofs.Ytihahljpfekmbaa
