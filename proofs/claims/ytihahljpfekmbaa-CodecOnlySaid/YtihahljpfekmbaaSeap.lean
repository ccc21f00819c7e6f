/- A frame is opened again; one that is cut off or changed is not. -/
import Derived.Test.YtihahljpfekmbaaOpnm
import Derived.Test.YtihahljpfekmbaaEncr
namespace Go.Proofs.Ytihahljpfekmbaa
open Go.RowKit

/-- What is said of a frame that was opened. -/
theorem opR_zero {bs : List Nat} (hb : ∀ b, b ∈ bs → b < 256) (h : (opR bs).2.2.2 = 0) : (opR bs).2.2.1 ≤ bs.length ∧ sealF (opR bs).1 (opR bs).2.1 = bs.take (opR bs).2.2.1 := by
  by_cases h0 : bs.length = 0
  · rw [opR_nil h0] at h; exact absurd h (by decide)
  · by_cases h1 : erA bs 1 = 0
    · by_cases h2 : nuA bs 1 < 0
      · rw [opR_neg h0 h1 h2] at h; exact absurd h (by decide)
      · obtain ⟨m, hm⟩ : ∃ m : Nat, nuA bs 1 = m := ⟨(nuA bs 1).toNat, by omega⟩
        by_cases h3 : bs.length - (1 + szA bs 1) < m
        · rw [opR_cut h0 h1 hm h3] at h; exact absurd h (by decide)
        · by_cases h4 : bs.length - (1 + szA bs 1 + m) < 4
          · rw [opR_cut2 h0 h1 hm h3 h4] at h; exact absurd h (by decide)
          · by_cases h5 : (bs.drop (1 + szA bs 1 + m)).take 4 = four (crcZ (bs.take (1 + szA bs 1 + m)))
            · rw [opR_ok h0 h1 hm h3 h4 h5]
              have hz := szA_bd (bs := bs) (u := 1) (by omega) h1
              have hlen : 1 + szA bs 1 + m + 4 ≤ bs.length := by omega
              refine ⟨hlen, ?_⟩
              show sealF (bs.getD 0 0) ((bs.drop (1 + szA bs 1)).take m) = bs.take (1 + szA bs 1 + m + 4)
              have hl : ((bs.drop (1 + szA bs 1)).take m).length = m := by rw [List.length_take, List.length_drop]; omega
              have hP : sealP (bs.getD 0 0) ((bs.drop (1 + szA bs 1)).take m) = bs.take (1 + szA bs 1 + m) := by
                unfold sealP
                rw [hl, ← hm, enc_at hb h1, List.take_add, List.take_add]
                congr 1
                congr 1
                cases bs with
                | nil => exact absurd rfl h0
                | cons b bs => rfl
              unfold sealF
              rw [hP, List.take_add (i := 1 + szA bs 1 + m) (j := 4), h5]
            · rw [opR_sum h0 h1 hm h3 h4 h5] at h; exact absurd h (by decide)
    · rw [opR_err h0 h1] at h; exact absurd h h1
theorem opR_bytes (bs : List Nat) : (opR bs).2.1.length ≤ bs.length ∧ ∀ b, b ∈ (opR bs).2.1 → b ∈ bs := by
  by_cases h : (opR bs).2.2.2 = 0
  · by_cases h0 : bs.length = 0
    · rw [opR_nil h0]; simp [opE]
    · by_cases h1 : erA bs 1 = 0
      · by_cases h2 : nuA bs 1 < 0
        · rw [opR_neg h0 h1 h2]; simp [opE]
        · obtain ⟨m, hm⟩ : ∃ m : Nat, nuA bs 1 = m := ⟨(nuA bs 1).toNat, by omega⟩
          by_cases h3 : bs.length - (1 + szA bs 1) < m
          · rw [opR_cut h0 h1 hm h3]; simp [opE]
          · by_cases h4 : bs.length - (1 + szA bs 1 + m) < 4
            · rw [opR_cut2 h0 h1 hm h3 h4]; simp [opE]
            · by_cases h5 : (bs.drop (1 + szA bs 1 + m)).take 4 = four (crcZ (bs.take (1 + szA bs 1 + m)))
              · rw [opR_ok h0 h1 hm h3 h4 h5]
                refine ⟨?_, fun b hb => List.mem_of_mem_drop (List.mem_of_mem_take hb)⟩
                show ((bs.drop (1 + szA bs 1)).take m).length ≤ _
                rw [List.length_take, List.length_drop]; omega
              · rw [opR_sum h0 h1 hm h3 h4 h5]; simp [opE]
      · rw [opR_err h0 h1]; simp [opE]
  · rw [opR_form h]; simp [opE]

/-- A frame, and what follows, is opened. -/
theorem seal_open {kd : Nat} {ct : List Nat} (rs : List Nat) (hl : ct.length ≤ 1000) : opR (sealF kd ct ++ rs) = (kd, ct, (sealF kd ct).length, 0) := by
  have e : sealF kd ct ++ rs = [kd] ++ enc (zig ct.length) ++ (ct ++ (four (crcZ (sealP kd ct)) ++ rs)) := by
    unfold sealF
    conv => lhs; lhs; lhs; unfold sealP
    simp only [List.append_assoc]
  obtain ⟨h1, h2, h3⟩ := at_enc (pre := [kd]) (r := ct ++ (four (crcZ (sealP kd ct)) ++ rs)) (r64_nat (n := ct.length) (by omega))
  rw [← e, List.length_singleton] at h1 h2 h3
  have hlen : (sealF kd ct ++ rs).length = 1 + (enc (zig ct.length)).length + ct.length + 4 + rs.length := by
    rw [e, List.length_append, List.length_append, List.length_append, List.length_append, List.length_singleton]
    show _ + (_ + (4 + _)) = _
    omega
  have hP : (sealP kd ct).length = 1 + (enc (zig ct.length)).length + ct.length := by unfold sealP; rw [List.length_append, List.length_append, List.length_singleton]
  have ht : (sealF kd ct ++ rs).take (1 + szA (sealF kd ct ++ rs) 1 + ct.length) = sealP kd ct := by
    rw [h2, ← hP]
    unfold sealF
    rw [List.append_assoc, List.take_left]
  have hd : ((sealF kd ct ++ rs).drop (1 + szA (sealF kd ct ++ rs) 1 + ct.length)).take 4 = four (crcZ (sealP kd ct)) := by
    rw [h2, ← hP]
    unfold sealF
    rw [List.append_assoc, List.drop_left]
    exact List.take_left' rfl
  have hc : ((sealF kd ct ++ rs).drop (1 + szA (sealF kd ct ++ rs) 1)).take ct.length = ct := by
    rw [h2, e, show 1 + (enc (zig ct.length)).length = ([kd] ++ enc (zig ct.length)).length by rw [List.length_append, List.length_singleton], List.drop_left]
    exact List.take_left' rfl
  have h0 : (sealF kd ct ++ rs).getD 0 0 = kd := by rw [e]; rfl
  rw [opR_ok (m := ct.length) (by omega) h1 h3 (by omega) (by omega) (by rw [hd, ht]), hc, h0, h2, sealF_len, hP]
/-- A frame that is cut off. -/
theorem seal_cut {kd : Nat} {ct : List Nat} {i : Nat} (hl : ct.length ≤ 1000) (hi : i < (sealF kd ct).length) : opR ((sealF kd ct).take i) = opE 4 := by
  have hP : (sealP kd ct).length = 1 + (enc (zig ct.length)).length + ct.length := by unfold sealP; rw [List.length_append, List.length_append, List.length_singleton]
  rw [sealF_len, hP] at hi
  have e : sealF kd ct = [kd] ++ (enc (zig ct.length) ++ (ct ++ four (crcZ (sealP kd ct)))) := by
    unfold sealF
    conv => lhs; lhs; unfold sealP
    simp only [List.append_assoc]
  have hlen : ((sealF kd ct).take i).length = i := by rw [List.length_take, sealF_len, hP]; omega
  by_cases h0 : i = 0
  · exact opR_nil (by rw [hlen]; exact h0)
  · obtain ⟨j, rfl⟩ : ∃ j, i = 1 + j := ⟨i - 1, by omega⟩
    have et : (sealF kd ct).take (1 + j) = [kd] ++ (enc (zig ct.length) ++ (ct ++ four (crcZ (sealP kd ct)))).take j := by
      rw [e, List.take_append, List.length_singleton, List.take_of_length_le (by rw [List.length_singleton]; omega), show 1 + j - 1 = j by omega]
    by_cases hj : j < (enc (zig ct.length)).length
    · have h1 := at_cut (pre := [kd]) hj
      rw [List.take_append_of_le_length (by omega)] at et
      rw [List.length_singleton] at h1
      rw [opR_err (by rw [hlen]; omega) (by rw [et, h1]; decide), et, h1]
    · rw [List.take_append (l₁ := enc (zig ct.length)), List.take_of_length_le (l := enc (zig ct.length)) (by omega), ← List.append_assoc] at et
      obtain ⟨h1, h2, h3⟩ := at_enc (pre := [kd]) (r := (ct ++ four (crcZ (sealP kd ct))).take (j - (enc (zig ct.length)).length)) (r64_nat (n := ct.length) (by omega))
      rw [← et, List.length_singleton] at h1 h2 h3
      by_cases h4 : ((sealF kd ct).take (1 + j)).length - (1 + szA ((sealF kd ct).take (1 + j)) 1) < ct.length
      · exact opR_cut (by rw [hlen]; omega) h1 h3 h4
      · exact opR_cut2 (by rw [hlen]; omega) h1 h3 h4 (by rw [hlen, h2]; omega)

theorem xor_ne {x b : Nat} (h : ¬ b = 0) : ¬ x ^^^ b = x := fun e => h (by
  have h1 : b ^^^ x = 0 ^^^ x := by rw [Nat.zero_xor, Nat.xor_comm]; exact e
  exact xor_cancel h1)
theorem set_split {l : List Nat} {i : Nat} (h : i < l.length) (y : Nat) : l.set i y = l.take i ++ y :: l.drop (i + 1) := List.set_eq_take_append_cons_drop.trans (if_pos h)
/-- A frame in which one byte is changed is no frame of the same length. -/
theorem seal_flip {kd : Nat} {ct : List Nat} {i y : Nat} (hk : kd < 256) (hc : ∀ b, b ∈ ct → b < 256) (hl : ct.length ≤ 1000) (hi : i < (sealF kd ct).length) (hy : y < 256) (hne : ¬ y = (sealF kd ct).getD i 0) :
    ¬ ((opR ((sealF kd ct).set i y)).2.2.2 = 0 ∧ (opR ((sealF kd ct).set i y)).2.2.1 = (sealF kd ct).length) := by
  rintro ⟨h1, h2⟩
  have hb : ∀ b, b ∈ (sealF kd ct).set i y → b < 256 := fun b hb => by
    rcases List.mem_or_eq_of_mem_set hb with h | h
    · exact sealF_byte hk (by omega) hc b h
    · omega
  obtain ⟨_, h3⟩ := opR_zero hb h1
  rw [h2, List.take_of_length_le (by rw [List.length_set]; exact Nat.le_refl _)] at h3
  generalize (opR ((sealF kd ct).set i y)).1 = k' at h3
  generalize (opR ((sealF kd ct).set i y)).2.1 = c' at h3
  have hPb := sealP_byte hk (by omega) hc
  have hl3 := congrArg List.length h3
  rw [List.length_set, sealF_len, sealF_len] at hl3
  rw [sealF_len] at hi
  unfold sealF at h3 hne
  generalize sealP kd ct = p at h3 hl3 hi hPb hne
  generalize sealP k' c' = p' at h3 hl3
  by_cases hip : i < p.length
  · rw [List.set_append_left _ _ hip] at h3
    obtain ⟨e1, e2⟩ := List.append_inj h3 (by rw [List.length_set]; omega)
    rw [List.getD_eq_getElem?_getD, List.getElem?_append_left hip, List.getElem?_eq_getElem hip] at hne
    have e3 := four_inj (crcZ_lt (fun b hb => by rw [e1] at hb; rcases List.mem_or_eq_of_mem_set hb with h | h
                                                 · exact hPb b h
                                                 · omega)) (crcZ_lt hPb) e2
    rw [e1, set_split hip] at e3
    have e4 : p = p.take i ++ p[i] :: p.drop (i + 1) := by rw [← List.drop_eq_getElem_cons hip, List.take_append_drop]
    have e5 : crcZ p = crcZ (p.take i ++ p[i] :: p.drop (i + 1)) := by rw [← e4]
    have hx := hPb p[i] (List.getElem_mem hip)
    exact hne (crcZ_byte (fun b hb => hPb b (List.mem_of_mem_take hb)) (fun b hb => hPb b (List.mem_of_mem_drop hb)) hy hx (e3.trans e5))
  · rw [List.set_append_right _ _ (by omega)] at h3
    obtain ⟨e1, e2⟩ := List.append_inj h3 (by omega)
    subst e1
    have hq : i - p'.length < (four (crcZ p')).length := by show _ < 4; omega
    have e6 := congrArg (fun l => l.getD (i - p'.length) 0) e2
    simp only [List.getD_eq_getElem?_getD, List.getElem?_set_self hq] at e6
    rw [List.getD_eq_getElem?_getD, List.getElem?_append_right (by omega)] at hne
    exact hne e6.symm
end Go.Proofs.Ytihahljpfekmbaa
