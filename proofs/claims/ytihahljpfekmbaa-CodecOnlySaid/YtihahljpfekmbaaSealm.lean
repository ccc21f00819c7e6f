/- seal and Seal of both. -/
import Derived.Test.YtihahljpfekmbaaCrcm
import Derived.Test.YtihahljpfekmbaaJoiny
import Derived.Test.YtihahljpfekmbaaEncq
namespace Go.Proofs.Ytihahljpfekmbaa
open Go.RowKit

/-- A kind in its range. -/
def cl (kd : Int) : Nat := if kd < 0 then 0 else if 255 < kd then 255 else kd.toNat
theorem cl_lt (kd : Int) : cl kd < 256 := by
  unfold cl
  split
  · omega
  · split <;> omega
theorem cl_low {kd : Int} (h : kd < 0) : cl kd = 0 := by unfold cl; rw [if_pos h]
theorem cl_high {kd : Int} (h : 255 < kd) : cl kd = 255 := by unfold cl; rw [if_neg (by omega), if_pos h]
theorem cl_mid {K : Nat} (h : K ≤ 255) : cl (K : Int) = K := by unfold cl; rw [if_neg (by omega), if_neg (by omega)]; rfl
def sealP (kd : Nat) (bs : List Nat) : List Nat := [kd] ++ enc (zig bs.length) ++ bs
def sealF (kd : Nat) (bs : List Nat) : List Nat := sealP kd bs ++ four (crcZ (sealP kd bs))
theorem sealP_len (kd : Nat) (bs : List Nat) : (sealP kd bs).length ≤ bs.length + 11 := by
  have := (enc_len (zig bs.length)).2
  unfold sealP
  rw [List.length_append, List.length_append, List.length_singleton]
  omega
theorem sealP_byte {kd : Nat} {bs : List Nat} (hk : kd < 256) (hl : bs.length ≤ 9223372036854775807) (hb : ∀ b, b ∈ bs → b < 256) : ∀ b, b ∈ sealP kd bs → b < 256 := by
  intro b h
  unfold sealP at h
  rcases List.mem_append.1 h with h | h
  · rcases List.mem_append.1 h with h | h
    · simp at h; omega
    · exact enc_byte (r64_nat hl) b h
  · exact hb b h
theorem sealF_len (kd : Nat) (bs : List Nat) : (sealF kd bs).length = (sealP kd bs).length + 4 := by unfold sealF; rw [List.length_append]; rfl
theorem sealF_byte {kd : Nat} {bs : List Nat} (hk : kd < 256) (hl : bs.length ≤ 9223372036854775807) (hb : ∀ b, b ∈ bs → b < 256) : ∀ b, b ∈ sealF kd bs → b < 256 := by
  intro b h
  rcases List.mem_append.1 h with h | h
  · exact sealP_byte hk hl hb b h
  · exact four_byte _ b h
theorem four_cells {z : Nat} (hl : z < 4294967296) : (#[Value.int .u8 ((z : Int) / 16777216), .int .u8 ((z : Int) / 65536 % 256), .int .u8 ((z : Int) / 256 % 256), .int .u8 ((z : Int) % 256)] : Array Value) = (yv (four z)).toArray := by
  simp [yv, four]
  omega

set_option maxRecDepth 100000 in
theorem pseal (A : Option Addr) (n c : Nat) (bs : List Nat) (w : World) (h : Byts w A n bs) :
    Calls Try.prog 75 #[.slice A n c] w fun e w' => e = .returned (.slice (some ⟨w.heap.size, 0, none⟩) 4 4) ∧ OwnedY w' w.heap.size (.slice (some ⟨w.heap.size, 0, none⟩) 4 4) (four (crcZ bs)) ∧ Below w.heap.size w w' := by
  have HP := Lib.hid (pchecksum A n c bs w h)
  have hl := crcZ_lt h.2.2.2
  generalize crcZ bs = z at HP hl ⊢
  have HC := Lib.hid (four_cells hl)
  go_enter Try.func75, Try.ntmps75
  go_wp2_with fail
  refine HP.out.mono ?_
  rintro e w' ⟨rfl, rfl⟩
  go_wp2
  go_ret
  exact ⟨rfl, OwnedY.literal _ _ _ _ 4 (Nat.le_refl _) HC.out rfl (by show 4 ≤ _; omega), alloc_below _ _⟩
def sealS (kd n : Nat) (bs : List Nat) : List Nat := [kd] ++ enc (zig n) ++ bs

set_option linter.unusedVariables false in
set_option maxHeartbeats 1000000 in
set_option maxRecDepth 100000 in
theorem pSeal (kd : Int) (A : Option Addr) (n c : Nat) (bs : List Nat) (w : World) (h : Byts w A n bs) (hn : n ≤ 1000000) :
    Calls Try.prog 35 #[.int .i64 kd, .slice A n c] w fun e w' => ∃ v, e = .returned v ∧ OwnedY w' w.heap.size v (sealF (cl kd) bs) ∧ Below w.heap.size w w' := by
  have HF := Lib.hid (show sealF (cl kd) bs = sealS (cl kd) n bs ++ four (crcZ (sealS (cl kd) n bs)) by unfold sealF sealP sealS; rw [h.1])
  have HB := Lib.hid (show ∀ b, b ∈ sealS (cl kd) n bs → b < 256 by have := sealP_byte (cl_lt kd) (by rw [h.1]; omega) h.2.2.2; unfold sealP at this; unfold sealS; rwa [h.1] at this)
  have hz := crcZ_lt HB.out
  have hls : (sealS (cl kd) n bs).length ≤ n + 11 := by have := sealP_len (cl kd) bs; unfold sealP at this; unfold sealS; rwa [h.1] at this
  by_cases h0 : kd < 0
  · rw [cl_low h0] at HF HB hz hls ⊢
    go_enter Try.func35, Try.ntmps35
    go_wp2_with fail
    have b0 := alloc_below w (.cells #[.int .u8 0] 5)
    refine (pappendInt n _ [0] w.heap.size _ (by omega) (by omega) (OwnedY.literal w w.heap.size [0] #[.int .u8 0] 1 (Nat.le_refl _) rfl rfl (by simp)) b0.size (by simp)).mono ?_
    rintro e w1 ⟨v1, rfl, o1, b1⟩
    have b1 := b0.trans b1
    obtain ⟨v2, w2, r2, o2, b2⟩ := run_append_bytes w1 w.heap.size v1 _ bs A n c o1 (h.below b1) b1.size (by show (sealS 0 n bs).length ≤ _; omega)
    have o2 : OwnedY w2 w.heap.size v2 (sealS 0 n bs) := o2
    obtain ⟨A2, c2, rfl⟩ := o2.form
    have b2 := b1.trans b2
    clear o1 b1 b0
    go_wp2_with (at_builtin; refine Lib.wpList_append_run _ rfl _ _ _ _ rfl _ _ rfl rfl _ _ r2 ?_)
    refine (pseal A2 _ c2 _ w2 (o2.byts (by omega) HB.out)).mono ?_
    rintro e w3 ⟨rfl, o3, b3⟩
    have b4 := b2.trans (b3.mono b2.size)
    obtain ⟨v5, w5, r5, o5, b5⟩ := run_append_bytes w3 w.heap.size _ _ (four (crcZ (sealS 0 n bs))) _ 4 4 (o2.kept b3) (o3.byts (by show 4 ≤ _; omega) (four_byte _)) b4.size (by rw [List.length_append]; show _ + 4 ≤ _; omega)
    have O5 := Lib.hid o5
    have B5 := Lib.hid (b4.trans b5)
    clear o2 o3 o5 b2 b3 b4 b5
    go_wp2_with (at_builtin; refine Lib.wpList_append_run _ rfl _ _ _ _ rfl _ _ rfl rfl _ _ r5 ?_)
    go_ret
    exact ⟨v5, rfl, by rw [HF.out]; exact O5.out, B5.out⟩
  · by_cases h1 : 255 < kd
    · rw [cl_high h1] at HF HB hz hls ⊢
      go_enter Try.func35, Try.ntmps35
      go_wp2_with fail
      have b0 := alloc_below w (.cells #[.int .u8 255] 5)
      refine (pappendInt n _ [255] w.heap.size _ (by omega) (by omega) (OwnedY.literal w w.heap.size [255] #[.int .u8 255] 1 (Nat.le_refl _) rfl rfl (by simp)) b0.size (by simp)).mono ?_
      rintro e w1 ⟨v1, rfl, o1, b1⟩
      have b1 := b0.trans b1
      obtain ⟨v2, w2, r2, o2, b2⟩ := run_append_bytes w1 w.heap.size v1 _ bs A n c o1 (h.below b1) b1.size (by show (sealS 255 n bs).length ≤ _; omega)
      have o2 : OwnedY w2 w.heap.size v2 (sealS 255 n bs) := o2
      obtain ⟨A2, c2, rfl⟩ := o2.form
      have b2 := b1.trans b2
      clear o1 b1 b0
      go_wp2_with (at_builtin; refine Lib.wpList_append_run _ rfl _ _ _ _ rfl _ _ rfl rfl _ _ r2 ?_)
      refine (pseal A2 _ c2 _ w2 (o2.byts (by omega) HB.out)).mono ?_
      rintro e w3 ⟨rfl, o3, b3⟩
      have b4 := b2.trans (b3.mono b2.size)
      obtain ⟨v5, w5, r5, o5, b5⟩ := run_append_bytes w3 w.heap.size _ _ (four (crcZ (sealS 255 n bs))) _ 4 4 (o2.kept b3) (o3.byts (by show 4 ≤ _; omega) (four_byte _)) b4.size (by rw [List.length_append]; show _ + 4 ≤ _; omega)
      have O5 := Lib.hid o5
      have B5 := Lib.hid (b4.trans b5)
      clear o2 o3 o5 b2 b3 b4 b5
      go_wp2_with (at_builtin; refine Lib.wpList_append_run _ rfl _ _ _ _ rfl _ _ rfl rfl _ _ r5 ?_)
      go_ret
      exact ⟨v5, rfl, by rw [HF.out]; exact O5.out, B5.out⟩
    · obtain ⟨K, rfl⟩ : ∃ K : Nat, kd = K := ⟨kd.toNat, by omega⟩
      rw [cl_mid (by omega)] at HF HB hz hls ⊢
      go_enter Try.func35, Try.ntmps35
      go_wp2_with fail
      have b0 := alloc_below w (.cells #[.int .u8 (K : Int)] 5)
      refine (pappendInt n _ [K] w.heap.size _ (by omega) (by omega) (OwnedY.literal w w.heap.size [K] #[.int .u8 (K : Int)] 1 (Nat.le_refl _) rfl rfl (by simp)) b0.size (by simp)).mono ?_
      rintro e w1 ⟨v1, rfl, o1, b1⟩
      have b1 := b0.trans b1
      obtain ⟨v2, w2, r2, o2, b2⟩ := run_append_bytes w1 w.heap.size v1 _ bs A n c o1 (h.below b1) b1.size (by show (sealS K n bs).length ≤ _; omega)
      have o2 : OwnedY w2 w.heap.size v2 (sealS K n bs) := o2
      obtain ⟨A2, c2, rfl⟩ := o2.form
      have b2 := b1.trans b2
      clear o1 b1 b0
      go_wp2_with (at_builtin; refine Lib.wpList_append_run _ rfl _ _ _ _ rfl _ _ rfl rfl _ _ r2 ?_)
      refine (pseal A2 _ c2 _ w2 (o2.byts (by omega) HB.out)).mono ?_
      rintro e w3 ⟨rfl, o3, b3⟩
      have b4 := b2.trans (b3.mono b2.size)
      obtain ⟨v5, w5, r5, o5, b5⟩ := run_append_bytes w3 w.heap.size _ _ (four (crcZ (sealS K n bs))) _ 4 4 (o2.kept b3) (o3.byts (by show 4 ≤ _; omega) (four_byte _)) b4.size (by rw [List.length_append]; show _ + 4 ≤ _; omega)
      have O5 := Lib.hid o5
      have B5 := Lib.hid (b4.trans b5)
      clear o2 o3 o5 b2 b3 b4 b5
      go_wp2_with (at_builtin; refine Lib.wpList_append_run _ rfl _ _ _ _ rfl _ _ rfl rfl _ _ r5 ?_)
      go_ret
      exact ⟨v5, rfl, by rw [HF.out]; exact O5.out, B5.out⟩

set_option maxHeartbeats 1000000 in
set_option maxRecDepth 100000 in
theorem rSeal (kd : Int) (A : Option Addr) (n c : Nat) (bs : List Nat) (w : World) (h : Byts w A n bs) (hn : n ≤ 1000000) :
    Calls Try.prog 36 #[.int .i64 kd, .slice A n c] w fun e w' => ∃ v, e = .returned v ∧ OwnedY w' w.heap.size v (sealF (cl kd) bs) ∧ Below w.heap.size w w' := by
  have HF := Lib.hid (show sealF (cl kd) bs = sealS (cl kd) n bs ++ four (crcZ (sealS (cl kd) n bs)) by unfold sealF sealP sealS; rw [h.1])
  have HB := Lib.hid (show ∀ b, b ∈ sealS (cl kd) n bs → b < 256 by have := sealP_byte (cl_lt kd) (by rw [h.1]; omega) h.2.2.2; unfold sealP at this; unfold sealS; rwa [h.1] at this)
  have hz := crcZ_lt HB.out
  have hls : (sealS (cl kd) n bs).length ≤ n + 11 := by have := sealP_len (cl kd) bs; unfold sealP at this; unfold sealS; rwa [h.1] at this
  have hel := (enc_len (zig n)).2
  have HE := Lib.hid (enc_byte (r64_nat (n := n) (by omega)))
  by_cases h0 : kd < 0
  · rw [cl_low h0] at HF HB hz hls ⊢
    go_enter Try.func36, Try.ntmps36
    go_wp2_with fail
    have b0 := alloc_below w (.cells #[.int .u8 0] 5)
    refine (rputInt n _ (by omega) (by omega)).mono ?_
    rintro e w1 ⟨v1, rfl, o1, b1⟩
    obtain ⟨A1, c1, rfl⟩ := o1.form
    have b6 := b0.trans (b1.mono b0.size)
    obtain ⟨v6, w6, r6, o6, b7⟩ := run_append_bytes w1 w.heap.size _ [0] (enc (zig n)) A1 _ c1 ((OwnedY.literal w w.heap.size [0] #[.int .u8 0] 1 (Nat.le_refl _) rfl rfl (by simp)).kept b1) (o1.byts (by omega) HE.out) b6.size (by rw [List.length_append]; show 1 + _ ≤ _; omega)
    have b7 := b6.trans b7
    obtain ⟨v2, w2, r2, o2, b2⟩ := run_append_bytes w6 w.heap.size v6 _ bs A n c o6 (h.below b7) b7.size (by show (sealS 0 n bs).length ≤ _; omega)
    have o2 : OwnedY w2 w.heap.size v2 (sealS 0 n bs) := o2
    obtain ⟨A2, c2, rfl⟩ := o2.form
    have b2 := b7.trans b2
    clear o1 b1 b0 o6 b6 b7
    go_wp2_with (at_builtin; first | (refine Lib.wpList_append_run _ rfl _ _ _ _ rfl _ _ rfl rfl _ _ r6 ?_) | (refine Lib.wpList_append_run _ rfl _ _ _ _ rfl _ _ rfl rfl _ _ r2 ?_))
    have HS := Lib.hid (rsum A2 _ c2 _ w2 (o2.byts (by omega) HB.out))
    generalize crcZ (sealS 0 n bs) = z at HS HF hz
    refine HS.out.mono ?_
    rintro e w3 ⟨rfl, rfl⟩
    have b3 := alloc_below w2 (.cells (yv (four z)).toArray 5)
    have b4 := b2.trans (b3.mono b2.size)
    obtain ⟨v5, w5, r5, o5, b5⟩ := run_append_bytes _ w.heap.size _ _ (four z) _ 4 4 (o2.kept b3) ((OwnedY.literal w2 w2.heap.size (four z) _ 4 (Nat.le_refl _) rfl rfl (by show 4 ≤ _; omega)).byts (by show 4 ≤ _; omega) (four_byte _)) b4.size (by rw [List.length_append]; show _ + 4 ≤ _; omega)
    rw [← four_cells hz] at r5
    have O5 := Lib.hid o5
    have B5 := Lib.hid (b4.trans b5)
    clear o2 o5 b2 b3 b4 b5
    go_wp2_with (at_builtin; refine Lib.wpList_append_run _ rfl _ _ _ _ rfl _ _ rfl rfl _ _ r5 ?_)
    go_ret
    exact ⟨v5, rfl, by rw [HF.out]; exact O5.out, B5.out⟩
  · by_cases h1 : 255 < kd
    · rw [cl_high h1] at HF HB hz hls ⊢
      go_enter Try.func36, Try.ntmps36
      go_wp2_with fail
      have b0 := alloc_below w (.cells #[.int .u8 255] 5)
      refine (rputInt n _ (by omega) (by omega)).mono ?_
      rintro e w1 ⟨v1, rfl, o1, b1⟩
      obtain ⟨A1, c1, rfl⟩ := o1.form
      have b6 := b0.trans (b1.mono b0.size)
      obtain ⟨v6, w6, r6, o6, b7⟩ := run_append_bytes w1 w.heap.size _ [255] (enc (zig n)) A1 _ c1 ((OwnedY.literal w w.heap.size [255] #[.int .u8 255] 1 (Nat.le_refl _) rfl rfl (by simp)).kept b1) (o1.byts (by omega) HE.out) b6.size (by rw [List.length_append]; show 1 + _ ≤ _; omega)
      have b7 := b6.trans b7
      obtain ⟨v2, w2, r2, o2, b2⟩ := run_append_bytes w6 w.heap.size v6 _ bs A n c o6 (h.below b7) b7.size (by show (sealS 255 n bs).length ≤ _; omega)
      have o2 : OwnedY w2 w.heap.size v2 (sealS 255 n bs) := o2
      obtain ⟨A2, c2, rfl⟩ := o2.form
      have b2 := b7.trans b2
      clear o1 b1 b0 o6 b6 b7
      go_wp2_with (at_builtin; first | (refine Lib.wpList_append_run _ rfl _ _ _ _ rfl _ _ rfl rfl _ _ r6 ?_) | (refine Lib.wpList_append_run _ rfl _ _ _ _ rfl _ _ rfl rfl _ _ r2 ?_))
      have HS := Lib.hid (rsum A2 _ c2 _ w2 (o2.byts (by omega) HB.out))
      generalize crcZ (sealS 255 n bs) = z at HS HF hz
      refine HS.out.mono ?_
      rintro e w3 ⟨rfl, rfl⟩
      have b3 := alloc_below w2 (.cells (yv (four z)).toArray 5)
      have b4 := b2.trans (b3.mono b2.size)
      obtain ⟨v5, w5, r5, o5, b5⟩ := run_append_bytes _ w.heap.size _ _ (four z) _ 4 4 (o2.kept b3) ((OwnedY.literal w2 w2.heap.size (four z) _ 4 (Nat.le_refl _) rfl rfl (by show 4 ≤ _; omega)).byts (by show 4 ≤ _; omega) (four_byte _)) b4.size (by rw [List.length_append]; show _ + 4 ≤ _; omega)
      rw [← four_cells hz] at r5
      have O5 := Lib.hid o5
      have B5 := Lib.hid (b4.trans b5)
      clear o2 o5 b2 b3 b4 b5
      go_wp2_with (at_builtin; refine Lib.wpList_append_run _ rfl _ _ _ _ rfl _ _ rfl rfl _ _ r5 ?_)
      go_ret
      exact ⟨v5, rfl, by rw [HF.out]; exact O5.out, B5.out⟩
    · obtain ⟨K, rfl⟩ : ∃ K : Nat, kd = K := ⟨kd.toNat, by omega⟩
      rw [cl_mid (by omega)] at HF HB hz hls ⊢
      have hq2 : (if 0 < K then (K : Int) else 0) = (K : Int) := by split <;> omega
      have hq : (if (K : Int) < 255 then (K : Int) else 255) = (K : Int) := by split <;> omega
      go_enter Try.func36, Try.ntmps36
      go_wp2_with fail
      have b0 := alloc_below w (.cells #[.int .u8 (K : Int)] 5)
      refine (rputInt n _ (by omega) (by omega)).mono ?_
      rintro e w1 ⟨v1, rfl, o1, b1⟩
      obtain ⟨A1, c1, rfl⟩ := o1.form
      have b6 := b0.trans (b1.mono b0.size)
      obtain ⟨v6, w6, r6, o6, b7⟩ := run_append_bytes w1 w.heap.size _ [K] (enc (zig n)) A1 _ c1 ((OwnedY.literal w w.heap.size [K] #[.int .u8 (K : Int)] 1 (Nat.le_refl _) rfl rfl (by simp)).kept b1) (o1.byts (by omega) HE.out) b6.size (by rw [List.length_append]; show 1 + _ ≤ _; omega)
      have b7 := b6.trans b7
      obtain ⟨v2, w2, r2, o2, b2⟩ := run_append_bytes w6 w.heap.size v6 _ bs A n c o6 (h.below b7) b7.size (by show (sealS K n bs).length ≤ _; omega)
      have o2 : OwnedY w2 w.heap.size v2 (sealS K n bs) := o2
      obtain ⟨A2, c2, rfl⟩ := o2.form
      have b2 := b7.trans b2
      clear o1 b1 b0 o6 b6 b7
      go_wp2_with (at_builtin; first | (refine Lib.wpList_append_run _ rfl _ _ _ _ rfl _ _ rfl rfl _ _ r6 ?_) | (refine Lib.wpList_append_run _ rfl _ _ _ _ rfl _ _ rfl rfl _ _ r2 ?_))
      have HS := Lib.hid (rsum A2 _ c2 _ w2 (o2.byts (by omega) HB.out))
      generalize crcZ (sealS K n bs) = z at HS HF hz
      refine HS.out.mono ?_
      rintro e w3 ⟨rfl, rfl⟩
      have b3 := alloc_below w2 (.cells (yv (four z)).toArray 5)
      have b4 := b2.trans (b3.mono b2.size)
      obtain ⟨v5, w5, r5, o5, b5⟩ := run_append_bytes _ w.heap.size _ _ (four z) _ 4 4 (o2.kept b3) ((OwnedY.literal w2 w2.heap.size (four z) _ 4 (Nat.le_refl _) rfl rfl (by show 4 ≤ _; omega)).byts (by show 4 ≤ _; omega) (four_byte _)) b4.size (by rw [List.length_append]; show _ + 4 ≤ _; omega)
      rw [← four_cells hz] at r5
      have O5 := Lib.hid o5
      have B5 := Lib.hid (b4.trans b5)
      clear o2 o5 b2 b3 b4 b5
      go_wp2_with (at_builtin; refine Lib.wpList_append_run _ rfl _ _ _ _ rfl _ _ rfl rfl _ _ r5 ?_)
      go_ret
      exact ⟨v5, rfl, by rw [HF.out]; exact O5.out, B5.out⟩
end Go.Proofs.Ytihahljpfekmbaa
