/- The walk of the reference's Words. -/
import Derived.Test.YtiongejdedhcjaaDoorCut
namespace Go.Proofs.YtiongejdedhcjaaDoor
open Go.RowKit

theorem btL_getD (bs : List ByteArray) (j : Nat) (h : j < bs.length) : (bs.getD j ByteArray.empty).data.toList ∈ btL bs := by
  unfold btL
  rw [List.mem_map]
  exact ⟨bs[j], List.getElem_mem _, by simp [List.getD, h]⟩
theorem btL_none (bs : List ByteArray) (h : ∀ j, j < bs.length → (bs.getD j ByteArray.empty).toList.isEmpty = false) : ¬ [] ∈ btL bs := by
  unfold btL
  rw [List.mem_map]
  rintro ⟨x, hx, e⟩
  obtain ⟨j, hj, ej⟩ := List.mem_iff_getElem.1 hx
  have := h j hj
  rw [show bs.getD j ByteArray.empty = x by simp [List.getD, hj, ej], ByteArray.toList_eq, e] at this
  cases this

set_option maxHeartbeats 2000000 in
theorem rwords (s : ByteArray) (hs : s.size ≤ 1048576) (w : World) :
    Calls Tryd.prog 31 #[.string s] w fun e w' => ∃ v, e = .returned (.tuple #[v, .bool (pv s.data.toList).2]) ∧ ∃ bs, OwnedS w' w.heap.size v bs ∧ btL bs = (pv s.data.toList).1 ∧ (∀ x, x ∈ bs → x.size ≤ 1048576) ∧ bs.length ≤ 1048577 ∧ Below w.heap.size w w' := by
  by_cases h0 : s.size = 0
  · obtain rfl : s = ⟨#[]⟩ := str_inj (by
      have := size_len s
      rw [h0] at this
      exact List.eq_nil_of_length_eq_zero this)
    go_enter Tryd.func31, Tryd.ntmps31
    go_wp2
    go_ret2
    exact ⟨_, rfl, [], OwnedS.nil _ _, rfl, by simp, by simp, Below.refl _ _⟩
  · have hl := size_len s
    have hnil : s.data.toList ≠ [] := by intro e; rw [e] at hl; simp at hl; omega
    have hne : s.toList.isEmpty = false := by
      rw [ByteArray.toList_eq]
      cases h : s.data.toList with
      | nil => exact absurd h hnil
      | cons a l => rfl
    have HNIL := Lib.hid hnil
    clear h0 hl hnil
    go_enter Tryd.func31, Tryd.ntmps31
    go_wp2_with fail
    refine (rcut s hs _).mono ?_
    rintro e w1 ⟨v, rfl, bs, hown, hbt, hsm, b1⟩
    have HB := Lib.hid hbt
    have HS := Lib.hid hsm
    have hcount : bs.length ≤ 1048577 := by
      have h1 := cutL_count s.data.toList
      rw [← hbt, size_len] at h1
      unfold btL at h1
      rw [List.length_map] at h1
      omega
    have hf := hown.form
    obtain ⟨A, c, rfl⟩ := hf
    obtain ⟨n, hn⟩ : ∃ n, bs.length = n := ⟨_, rfl⟩
    have L := Lib.hid hn
    have hS := hown.strs (by omega) (fun x hx => by have := hsm x hx; omega)
    rw [hn] at hS hown hcount ⊢
    clear hbt hsm hn
    go_wp2
    go_loop [5] (fun i => ∃ j : Nat, j ≤ n ∧ i = .int .i64 j ∧ ∀ m, m < j → (bs.getD m ByteArray.empty).toList.isEmpty = false) (fun i => n - (intOf i).toNat)
    case atStart => exact ⟨0, Nat.zero_le _, rfl, fun m h => absurd h (by omega)⟩
    case round =>
      obtain ⟨j, hj, rfl, hne2⟩ := hrel
      have HN := Lib.hid hne2
      clear hne2
      by_cases hlt : j < n
      · obtain ⟨b, off, rfl, _, hcell⟩ := hS.at_ hlt
        by_cases hx : (bs.getD j ByteArray.empty).toList.isEmpty = true
        · have hfin := Lib.hid (pv_bad HNIL.out (by
            rw [← HB.out]
            have := btL_getD bs j (by rw [L.out]; exact hlt)
            rw [ByteArray.toList_eq, List.isEmpty_iff] at hx
            rwa [hx] at this))
          generalize bs.getD j ByteArray.empty = y at hcell hx
          go_wp2
          go_ret2
          exact ⟨_, ret_vb rfl (by rw [hfin.out]), [], OwnedS.nil _ _, by rw [hfin.out]; rfl, by simp, by simp, b1⟩
        · have hx : (bs.getD j ByteArray.empty).toList.isEmpty = false := by simpa using hx
          have hnx := Lib.hid (show ∀ m, m < j + 1 → (bs.getD m ByteArray.empty).toList.isEmpty = false from fun m hm => by
            by_cases e : m = j
            · subst e; exact hx
            · exact HN.out m (by omega))
          generalize bs.getD j ByteArray.empty = y at hcell hx
          go_wp2
          go_round
          case rel => exact ⟨j + 1, by omega, by go_num, hnx.out⟩
          case measure => simp [intOf]; omega
      · have hfin := Lib.hid (pv_ok HNIL.out (by
          rw [← HB.out]
          exact btL_none bs (fun m hm => HN.out m (by rw [L.out] at hm; omega))))
        go_wp2
        go_ret2
        exact ⟨_, ret_vb rfl (by rw [hfin.out]), bs, hown, by rw [hfin.out, HB.out], HS.out, by rw [L.out]; exact hcount, b1⟩
end Go.Proofs.YtiongejdedhcjaaDoor
