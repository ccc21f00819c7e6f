/- Only encodings are taken: what the results say. -/
import Derived.Test.YtihahljpfekmbaaSeap
import Derived.Test.YtihahljpfekmbaaAwak5
namespace Go.Proofs.Ytihahljpfekmbaa

theorem lisA_size {bs : List Nat} {u : Nat} (hu : u ≤ bs.length) : (lisA bs u).1.length ≤ bs.length := by
  by_cases h : (lisA bs u).2.2 = 0
  · have := lisA_fit hu h; omega
  · rw [lisA_form h]; simp
theorem worA_size {bs : List Nat} {u : Nat} (hu : u ≤ bs.length) : (worA bs u).1.length ≤ bs.length ∧ ∀ xs, xs ∈ (worA bs u).1 → xs.length ≤ bs.length := by
  by_cases h : (worA bs u).2.2 = 0
  · have := worA_fit hu h; exact ⟨by omega, this.2.2.2⟩
  · rw [worA_form h]; simp

theorem nuA_ok (bs : List Nat) : ∀ u, erA bs u = 0 → R64 (nuA bs u) := fun u h => nuA_r64 (by
  have hv := scn_val (bs.drop u) 0 (by omega) h
  rw [Nat.sub_zero] at hv
  unfold szA; omega)
/-- A result of numbers, of lists, of words, a frame. -/
def OI (bs : List Nat) (V : Int × Nat × Int) : Prop := (V.2.2 = 0 → 1 ≤ V.2.1 ∧ V.2.1 ≤ bs.length ∧ R64 V.1 ∧ enc (zig V.1) = bs.take V.2.1) ∧ (¬ V.2.2 = 0 → V.1 = 0 ∧ V.2.1 = 0)
theorem oI {bs : List Nat} (hb : ∀ b, b ∈ bs → b < 256) : OI bs (nmA bs 0) := by
  by_cases h : erA bs 0 = 0
  · rw [nmA_ok h]
    refine ⟨fun _ => ?_, fun e => absurd rfl e⟩
    have h1 := szA_bd (Nat.zero_le _) h
    have h2 := enc_at hb h
    rw [List.drop_zero] at h2
    exact ⟨h1.1, by show szA bs 0 ≤ bs.length; omega, nuA_ok bs 0 h, h2⟩
  · rw [nmA_bad h]
    exact ⟨fun e => absurd e h, fun _ => ⟨rfl, rfl⟩⟩
def OL (bs : List Nat) (V : List Int × Nat × Int) : Prop := (V.2.2 = 0 → 1 ≤ V.2.1 ∧ V.2.1 ≤ bs.length ∧ RL V.1 ∧ encI V.1 = bs.take V.2.1) ∧ (¬ V.2.2 = 0 → V.1 = [] ∧ V.2.1 = 0) ∧ V.1.length ≤ bs.length
theorem oL {bs : List Nat} (hb : ∀ b, b ∈ bs → b < 256) : OL bs (lisA bs 0) := by
  refine ⟨fun h => ?_, fun h => ?_, lisA_size (Nat.zero_le _)⟩
  · obtain ⟨h1, h2, h3, h4⟩ := encI_at hb (nuA_ok bs) (Nat.zero_le _) h
    rw [List.drop_zero, Nat.sub_zero] at h4
    exact ⟨h1, h2, h3, h4⟩
  · rw [lisA_form h]; exact ⟨rfl, rfl⟩
def OW (bs : List Nat) (V : List (List Int) × Nat × Int) : Prop := (V.2.2 = 0 → 1 ≤ V.2.1 ∧ V.2.1 ≤ bs.length ∧ (∀ x, x ∈ V.1 → RL x) ∧ encW V.1 = bs.take V.2.1) ∧ (¬ V.2.2 = 0 → V.1 = [] ∧ V.2.1 = 0) ∧ V.1.length ≤ bs.length ∧ ∀ x, x ∈ V.1 → x.length ≤ bs.length
theorem oW {bs : List Nat} (hb : ∀ b, b ∈ bs → b < 256) : OW bs (worA bs 0) := by
  refine ⟨fun h => ?_, fun h => ?_, worA_size (Nat.zero_le _)⟩
  · obtain ⟨h1, h2, h3, h4⟩ := encW_at hb (nuA_ok bs) (Nat.zero_le _) h
    rw [List.drop_zero, Nat.sub_zero] at h4
    exact ⟨h1, h2, h3, h4⟩
  · rw [worA_form h]; exact ⟨rfl, rfl⟩
theorem opR_pos {bs : List Nat} (hb : ∀ b, b ∈ bs → b < 256) (h : (opR bs).2.2.2 = 0) : (opR bs).1 < 256 ∧ 1 ≤ (opR bs).2.2.1 := by
  by_cases h0 : bs.length = 0
  · rw [opR_nil h0] at h; exact absurd h (by decide)
  · by_cases h1 : erA bs 1 = 0
    · by_cases h2 : nuA bs 1 < 0
      · rw [opR_neg h0 h1 h2] at h; exact absurd h (by decide)
      · obtain ⟨m, hm⟩ : ∃ m : Nat, nuA bs 1 = m := ⟨(nuA bs 1).toNat, by omega⟩
        by_cases h3 : bs.length - (1 + szA bs 1) < m
        · rw [opR_cut h0 h1 hm h3] at h; exact absurd h (by decide)
        · by_cases h4 : bs.length - (1 + szA bs 1 + m) < 4
          · rw [opR_cut2 h0 h1 hm h3 h4] at h; exact absurd h (by decide)
          · by_cases h5 : (bs.drop (1 + szA bs 1 + m)).take 4 = four (crcZ (bs.take (1 + szA bs 1 + m)))
            · rw [opR_ok h0 h1 hm h3 h4 h5]
              refine ⟨hb _ ?_, by show 1 ≤ 1 + szA bs 1 + m + 4; omega⟩
              show bs.getD 0 0 ∈ bs
              rw [List.getD_eq_getElem?_getD, List.getElem?_eq_getElem (by omega)]; exact List.getElem_mem _
            · rw [opR_sum h0 h1 hm h3 h4 h5] at h; exact absurd h (by decide)
    · rw [opR_err h0 h1] at h; exact absurd h h1
def OO (bs : List Nat) (V : Nat × List Nat × Nat × Int) : Prop := (V.2.2.2 = 0 → 1 ≤ V.2.2.1 ∧ V.2.2.1 ≤ bs.length ∧ V.1 < 256 ∧ sealF V.1 V.2.1 = bs.take V.2.2.1) ∧ (¬ V.2.2.2 = 0 → V.2.1 = [] ∧ V.2.2.1 = 0) ∧ V.2.1.length ≤ bs.length ∧ ∀ b, b ∈ V.2.1 → b < 256
theorem oO {bs : List Nat} (hb : ∀ b, b ∈ bs → b < 256) : OO bs (opR bs) := by
  have hs := opR_bytes bs
  refine ⟨fun h => ?_, fun h => ?_, hs.1, fun b h => hb b (hs.2 b h)⟩
  · obtain ⟨z1, z2⟩ := opR_zero hb h
    obtain ⟨z3, z4⟩ := opR_pos hb h
    exact ⟨z4, z1, z3, z2⟩
  · rw [opR_form h]; exact ⟨rfl, rfl⟩
end Go.Proofs.Ytihahljpfekmbaa
