/- The walk of CodecSeals. -/
import Derived.Test.YtihahljpfekmbaaSeap
import Derived.Test.YtihahljpfekmbaaAwak5
import Derived.Test.YtihahljpfekmbaaOpenf
namespace Go.Proofs.Ytihahljpfekmbaa
open Go.RowKit

set_option maxRecDepth 100000 in
theorem pjoinO (A B : Option Addr) (n c m d : Nat) (a b : List Nat) (w : World) (ha : Byts w A n a) (hb : Byts w B m b) (hn : n ≤ 1000000) (hm : m ≤ 1000000) :
    Calls Try.prog 37 #[.slice A n c, .slice B m d] w fun e w' => ∃ D q, e = .returned (.slice D (n + m) q) ∧ n + m ≤ q ∧ OwnedY w' w.heap.size (.slice D (n + m) q) (a ++ b) ∧ Below w.heap.size w w' := by
  have L1 := Lib.hid ha.1
  have L2 := Lib.hid hb.1
  have b0 := alloc_below w (.cells #[] 5)
  obtain ⟨v1, w1, r1, o1, b1⟩ := run_append_bytes _ w.heap.size _ [] a A n c (OwnedY.literal w w.heap.size [] #[] 0 (Nat.le_refl _) rfl rfl (by simp)) (ha.below b0) b0.size (by rw [List.nil_append, L1.out]; omega)
  have b1 := b0.trans b1
  rw [List.nil_append] at o1
  obtain ⟨v2, w2, r2, o2, b2⟩ := run_append_bytes w1 w.heap.size v1 a b B m d o1 (hb.below b1) b1.size (by rw [List.length_append, L1.out, L2.out]; omega)
  have b2 := Lib.hid (b1.trans b2)
  obtain ⟨A2, c2, rfl⟩ := o2.form
  rw [List.length_append, L1.out, L2.out] at r2 o2
  have hc := o2.cap
  have hy := Lib.hid o2
  clear o1 o2 b0 b1 ha hb L1 L2
  go_enter Try.func37, Try.ntmps37
  go_wp2_with (at_builtin; first | (refine Lib.wpList_append_run _ rfl _ _ _ _ rfl _ _ rfl rfl _ _ r1 ?_) | (refine Lib.wpList_append_run _ rfl _ _ _ _ rfl _ _ rfl rfl _ _ r2 ?_))
  go_ret
  exact ⟨A2, c2, rfl, hc, hy.out, b2.out⟩

theorem OwnedY.stored {w : World} {base g n c : Nat} {bs : List Nat} (h : OwnedY w base (.slice (some ⟨g, 0, none⟩) n c) bs) (j x : Nat) :
    OwnedY (w.setCell ⟨g, j, none⟩ (.int .u8 (x : Int))) base (.slice (some ⟨g, 0, none⟩) n c) (bs.set j x) := by
  obtain ⟨A', c', e⟩ := h.form
  cases e
  have := (World.ownsRow.stored h j (.int .u8 (x : Int))).1
  unfold OwnedY
  rw [List.length_set, show yv (bs.set j x) = (yv bs).set j (.int .u8 (x : Int)) by simp [yv, List.map_set]]
  exact this
theorem OwnedY.head {w : World} {base n c : Nat} {A : Option Addr} {bs : List Nat} (h : OwnedY w base (.slice A n c) bs) (h0 : 0 < n) :
    ∃ g, A = some ⟨g, 0, none⟩ ∧ base ≤ g ∧ g < w.heap.size ∧ ∀ j, w.frozen? ⟨g, j, none⟩ = false := by
  obtain ⟨A', c', e⟩ := h.form
  cases e
  rcases h.2 with ⟨e, h1⟩ | ⟨g, cap, cur, e, hb, hg, _⟩
  · omega
  · cases e
    exact ⟨g, rfl, hb, heap_lt hg, fun j => frozen_of_row w g j cur 5 hg⟩
theorem five_cells (w : World) (a b c d e : Value) (t : TypeId) : (w.alloc (.cells #[a, b, c, d, e] t)).cell? ⟨w.heap.size, 0, none⟩ = some a ∧ (w.alloc (.cells #[a, b, c, d, e] t)).cell? ⟨w.heap.size, 1, none⟩ = some b ∧ (w.alloc (.cells #[a, b, c, d, e] t)).cell? ⟨w.heap.size, 2, none⟩ = some c ∧
    (w.alloc (.cells #[a, b, c, d, e] t)).cell? ⟨w.heap.size, 3, none⟩ = some d ∧ (w.alloc (.cells #[a, b, c, d, e] t)).cell? ⟨w.heap.size, 4, none⟩ = some e :=
  ⟨box_cells (Below.refl _ _) 0, box_cells (Below.refl _ _) 1, box_cells (Below.refl _ _) 2, box_cells (Below.refl _ _) 3, box_cells (Below.refl _ _) 4⟩

set_option maxHeartbeats 4000000 in
set_option maxRecDepth 100000 in
theorem seals_walk (kd at_ by_ : Nat) (A B : Option Addr) (n c m d : Nat) (ct rs : List Nat) (w : World) (hkd : kd < 256) (hat : at_ < 65536) (hby : by_ < 256) (hA : Byts w A n ct) (hB : Byts w B m rs) :
    Calls Try.prog 8 #[.agg #[.int .u8 kd, .slice A n c, .slice B m d, .int .u16 at_, .int .u8 by_]] w fun e w' => e = .returned (.bool true) ∧ Below w.heap.size w w' := by
  have b0 := alloc_below w (.cells #[.int .u8 kd, .slice A n c, .slice B m d, .int .u16 at_, .int .u8 by_] 62)
  obtain ⟨x0, x1, x2, x3, x4⟩ := five_cells w (.int .u8 (kd : Int)) (.slice A n c) (.slice B m d) (.int .u16 (at_ : Int)) (.int .u8 (by_ : Int)) 62
  go_enter Try.func8, Try.ntmps8
  go_wp2
  go_quiet (fail)
  have b1 := below_drewN b0 nq
  generalize (w.alloc (.cells #[.int .u8 kd, .slice A n c, .slice B m d, .int .u16 at_, .int .u8 by_] 62)).drewN nq = w1 at b1 ⊢
  clear b0 x0 x1 x2 x3 x4
  by_cases hn : 200 < n
  · have hd : decide ((200 : Int) < (n : Int)) = true := by simp; omega
    go_wp2_with fail
    refine (awake5 _).mono ?_
    rintro e w2 ⟨rfl, b2⟩
    go_wp2
    go_ret
    exact ⟨rfl, bt b1 b2⟩
  · have hd : decide ((200 : Int) < (n : Int)) = false := by simp; omega
    by_cases hm : 200 < m
    · have hd2 : decide ((200 : Int) < (m : Int)) = true := by simp; omega
      go_wp2_with fail
      refine (awake5 _).mono ?_
      rintro e w2 ⟨rfl, b2⟩
      go_wp2
      go_ret
      exact ⟨rfl, bt b1 b2⟩
    · have hd2 : decide ((200 : Int) < (m : Int)) = false := by simp; omega
      have hcl : ct.length ≤ 1000 := by rw [hA.1]; omega
      have HO := Lib.hid (seal_open (kd := kd) rs hcl)
      have HC := Lib.hid (fun i => seal_cut (kd := kd) (ct := ct) (i := i) hcl)
      have HFL := Lib.hid (fun i y => seal_flip (kd := kd) (ct := ct) (i := i) (y := y) hkd hA.2.2.2 hcl)
      have HB := Lib.hid (sealF_byte hkd (by rw [hA.1]; omega) hA.2.2.2)
      have hel := (enc_len (zig ct.length))
      have hs1 : n + 6 ≤ (sealF kd ct).length := by rw [sealF_len]; unfold sealP; rw [List.length_append, List.length_append, List.length_singleton]; have := hA.1; omega
      have hs2 : (sealF kd ct).length ≤ n + 15 := by rw [sealF_len]; unfold sealP; rw [List.length_append, List.length_append, List.length_singleton]; have := hA.1; omega
      have HS := Lib.hid (fun w' h => pSeal kd A n c ct w' h (by omega))
      rw [cl_mid (by omega)] at HS
      generalize sealF kd ct = sf at HO HC HFL HB hs1 hs2 HS
      clear hel
      go_wp2_with fail
      refine (HS.out _ (hA.below b1)).mono ?_
      rintro e w2 ⟨v2, rfl, o2, b2⟩
      obtain ⟨A2, c2, rfl⟩ := o2.form
      have u2 := o2.cap
      have H2 := Lib.hid (And.intro (o2.byts (by omega) HB.out) (bt b1 b2))
      clear o2 b1 b2 HS
      go_wp2_with fail
      refine (pjoinO _ _ _ _ _ _ _ _ _ H2.out.1 (hB.below H2.out.2) (by omega) (by omega)).mono ?_
      rintro e w3 ⟨D3, q3, rfl, g3, o3, b3⟩
      have y3 := o3.byts (by rw [List.length_append, hB.1]; omega) (fun x hx => by
        rcases List.mem_append.1 hx with h | h
        · exact HB.out x h
        · exact hB.2.2.2 x h)
      go_wp2_with fail
      refine (pOpen _ _ _ _ _ y3 g3 (by omega)).mono ?_
      rintro e w4 ⟨B4, d4, rfl, o4, b4⟩
      rw [HO.out] at o4 ⊢
      have b4 := bt b3 b4
      have H4 := Lib.hid (And.intro (H2.out.1.below b4) (And.intro (bt H2.out.2 b4) (show Byts w4 B4 ct.length ct from OwnedY.byts o4 (by show ct.length ≤ _; omega) hA.2.2.2)))
      clear o3 y3 g3 b3 o4 b4 H2
      go_wp2_with fail
      refine (rsameBytes _ _ _ _ _ _ _ _ _ H4.out.2.2 (hA.below H4.out.2.1)).mono ?_
      rintro e w4' ⟨rfl, rfl⟩
      rw [decide_eq_true (Eq.refl ct)]
      have H5 := Lib.hid (And.intro H4.out.1 H4.out.2.1)
      clear H4
      have d5 : decide (sf.length < n + 6) = false := by simp; omega
      have d6 : decide ((sf.length : Int) < (n : Int) + 6) = false := by simp; omega
      have z1 : ¬ (sf.length : Int) = 0 := by omega
      have m1 : at_ % sf.length < sf.length := Nat.mod_lt _ (by omega)
      have s1 := fun W => run_heady A2 sf.length c2 (at_ % sf.length) (Nat.le_of_lt m1) u2 W
      have HC1 := Lib.hid ((HC.out _ m1).trans (show opE 4 = (0, [], 0, 4) from rfl))
      have HF1 := Lib.hid (fun y => HFL.out (at_ % sf.length) y m1)
      have y5 := H5.out.1.head (Nat.le_of_lt m1)
      have HH := Lib.hid (pOpen _ _ c2 _ w4 y5 (Nat.le_trans (Nat.le_of_lt m1) u2) (Nat.le_trans (Nat.le_of_lt m1) (by omega)))
      rw [HC1.out] at HH
      have hix : (0 : Int) ≤ (at_ : Int) % (sf.length : Int) := by omega
      obtain ⟨i, hi⟩ : ∃ i, i = at_ % sf.length := ⟨_, rfl⟩
      have ei : (at_ : Int) % (sf.length : Int) = (i : Int) := by rw [hi]; exact (Int.natCast_emod _ _).symm
      rw [← hi] at m1 s1 HF1 HH
      clear HC HFL HC1 y5 hi hix
      go_wp2_with fail
      refine HH.out.mono ?_
      rintro e w6 ⟨B6, d6', rfl, o6, b6⟩
      have H6 := Lib.hid (And.intro (H5.out.1.below b6) (bt H5.out.2 b6))
      clear o6 b6 HH H5 s1
      by_cases hb0 : by_ = 0
      · subst hb0
        go_wp2_with fail
        refine (awake5 _).mono ?_
        rintro e w7 ⟨rfl, b7⟩
        have B7 := Lib.hid (bt H6.out.2 b7)
        clear b7 H6
        go_wp2
        go_ret
        exact ⟨rfl, B7.out⟩
      · have n0 : ((by_ : Int) == 0) = false := beq_false_of_ne (by omega)
        go_wp2_with fail
        refine (pjoinO _ _ _ _ _ _ _ _ _ H6.out.1 (show Byts w6 none 0 [] from ⟨rfl, by omega, fun h => absurd h (by omega), by simp⟩) (by omega) (by omega)).mono ?_
        rintro e w7 ⟨D7, q7, rfl, g7, o7, b7⟩
        rw [Nat.add_zero, List.append_nil] at *
        obtain ⟨g, rfl, hg1, hg2, hf⟩ := o7.head (by omega)
        have y7 := o7.byts (by omega) HB.out
        obtain ⟨g', o', e, _, hcell, h256⟩ := y7.at_ m1
        cases e
        rw [Nat.zero_add] at hcell
        have hfi := hf i
        have HF2 := Lib.hid (HF1.out (sf.getD i 0 ^^^ by_) (Nat.xor_lt_two_pow (n := 8) h256 hby) (xor_ne hb0))
        have hx := u8_xor_nat (sf.getD i 0) by_ h256 hby
        have hyb : sf.getD i 0 ^^^ by_ < 256 := Nat.xor_lt_two_pow (n := 8) h256 hby
        generalize sf.getD i 0 ^^^ by_ = y at HF2 hx hyb
        generalize sf.getD i 0 = x at hcell h256 hx
        have O8 := Lib.hid (o7.stored i y)
        have B8 := Lib.hid ((bt H6.out.2 b7).setCell (p := ⟨g, i, none⟩) (Nat.le_trans H6.out.2.size hg1) (.int .u8 (y : Int)))
        clear hf y7 o7 b7 HF1 H6
        go_wp2_with fail
        have hl8 : (sf.set i y).length = sf.length := List.length_set
        have y8 := O8.out.byts (by omega) (fun b hb => by
          rcases List.mem_or_eq_of_mem_set hb with h | h
          · exact HB.out b h
          · omega)
        refine (pOpen _ sf.length q7 (sf.set i y) _ y8 g7 (by omega)).mono ?_
        rintro e w9 ⟨B9, d9, rfl, o9, b9⟩
        have B10 := Lib.hid (bt B8.out b9)
        generalize opR (sf.set i y) = V at HF2
        clear o9 b9 y8 O8 B8
        by_cases he : V.2.2.2 = 0
        · have hu := fun e => HF2.out ⟨he, e⟩
          rw [he]
          have n1 : ((V.2.2.1 : Int) != (sf.length : Int)) = true := bne_iff_ne.2 (fun e => hu (by omega))
          go_wp2_with fail
          refine (awake5 _).mono ?_
          rintro e w11 ⟨rfl, b11⟩
          have B12 := Lib.hid (bt B10.out b11)
          clear b11 B10
          go_wp2
          go_ret
          exact ⟨rfl, B12.out⟩
        · have n1 : (V.2.2.2 != 0) = true := bne_iff_ne.2 he
          go_wp2_with fail
          refine (awake5 _).mono ?_
          rintro e w11 ⟨rfl, b11⟩
          have B12 := Lib.hid (bt B10.out b11)
          clear b11 B10
          go_wp2
          go_ret
          exact ⟨rfl, B12.out⟩
end Go.Proofs.Ytihahljpfekmbaa
