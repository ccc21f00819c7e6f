/- run of a runner, where more is kept. -/
import Derived.Test.YtihahljpfekmbaaRunm
import Derived.Test.YtihahljpfekmbaaOwnL
namespace Go.Proofs.Ytihahljpfekmbaa
open Go.RowKit

/-- Blocks of other types than the runner's are kept. -/
def KeptR (w w' : World) : Prop := ∀ t, t ≠ (117 : TypeId) → KeptT t w w'
theorem KeptR.refl (w : World) : KeptR w w := fun _ _ => KeptT.refl _ _
theorem KeptR.trans {a b c : World} (h : KeptR a b) (k : KeptR b c) : KeptR a c := fun t ht => (h t ht).trans (k t ht)
theorem KeptR.below {a b c : World} (h : KeptR a b) (k : Below a.heap.size b c) : KeptR a c := fun t ht g cs e => (k.block g (heap_lt e)).trans (h t ht g cs e)

set_option maxHeartbeats 2000000 in
set_option maxRecDepth 100000 in
theorem prunk {W w : World} {g : Nat} {i st n : Nat} {A B D : Option Addr} {c d s k e : Nat} {nx ot : List (List Int)} {xs : List Int} (hM : Mok i st n nx ot) (hx : Lists W A n nx) (ho : Lists W B n ot) (hb : Below W.heap.size W w)
    (hR : Rnr w g i st A n c B n d s) (hg : W.heap.size ≤ g) (hs : s < n) (hD : Ints W D k xs) (hS : ∀ x, x ∈ xs → 0 ≤ x ∧ x < i) :
    Calls Try.prog 81 #[.pointer (some ⟨g, 0, none⟩), .slice D k e] w fun e w' => ∃ A' c', e = .returned (.slice A' k c') ∧ Owned w' w.heap.size (.slice A' k c') (runO nx ot s xs) ∧ Below W.heap.size W w' ∧ KeptR w w' := by
  have L := Lib.hid hD.1
  have hk := hD.2.1
  have HS := Lib.hid hS
  have HR := Lib.hid hR
  clear hS hR
  have hrn : (117 : TypeId) ≠ 3 := by decide
  have hWw := hb.size
  go_enter Try.func81, Try.ntmps81
  go_wp2
  go_loopw [5, 10] (fun v j wr => ∃ (q : Nat) (A' : Option Addr) (c' : Nat), q ≤ k ∧ j = .int .i64 q ∧ v = .slice A' q c' ∧ w.heap.size ≤ wr.heap.size ∧ KeptR w wr ∧ Owned wr w.heap.size (.slice A' q c') (runO nx ot s (xs.take q)) ∧ Below W.heap.size W wr ∧ Rnr wr g i st A n c B n d (runS nx s (xs.take q))) (fun _ j _ => k - (intOf j).toNat)
  case atStart => exact ⟨0, none, 0, Nat.zero_le _, rfl, rfl, Nat.le_refl _, KeptR.refl _, Owned.nil _ _, hb, HR.out⟩
  case round =>
    obtain ⟨q, A', c', hq, rfl, rfl, hsz, hkr, hown, hbr, hR⟩ := hrel
    have HKR := Lib.hid hkr
    clear hkr
    by_cases hlt : q < k
    · obtain ⟨b1, o1, rfl, _, hc1⟩ := (hD.below hbr).at_ hlt
      have hxm := HS.out (xs.getD q 0) (by rw [List.getD_eq_getElem?_getD, List.getElem?_eq_getElem (by rw [L.out]; exact hlt)]; exact List.getElem_mem _)
      have hO := Lib.hid (runO_next (nx := nx) (ot := ot) (s := s) (j := q) (xs := xs) (by rw [L.out]; exact hlt))
      have hT := Lib.hid (runS_next (nx := nx) (s := s) (j := q) (xs := xs) (by rw [L.out]; exact hlt))
      rw [show xs[q]?.getD 0 = xs.getD q 0 by simp] at hO hT
      generalize xs.getD q 0 = x at hc1 hxm hO hT
      obtain ⟨a, rfl⟩ : ∃ a : Nat, x = a := ⟨x.toNat, by omega⟩
      have ha : a < i := by omega
      rw [Int.toNat_natCast] at hO hT
      have hlast := hM.runS_lt (xs.take q) s hs (fun x hx => HS.out x (List.mem_of_mem_take hx))
      generalize hss : runS nx s (xs.take q) = s' at hR hO hT hlast
      have hlen : (runO nx ot s (xs.take q)).length = q := by rw [runO_len, List.length_take, L.out]; omega
      generalize runO nx ot s (xs.take q) = os at hown hO hlen
      have HL := Lib.hid hlen
      have HSS := Lib.hid hss
      have HRR := Lib.hid hR
      clear hss hlen
      have hset : ∀ q', Rnr ((wr.setCell ⟨g, 4, none⟩ (.int .i64 (nN nx s' a))).drewN q') g i st A n c B n d (nN nx s' a) := fun q' => hR.set (nN nx s' a) q'
      have HSET := Lib.hid hset
      have HKS : Hid (∀ q', KeptR w ((wr.setCell ⟨g, 4, none⟩ (.int .i64 (nN nx s' a))).drewN q')) := Lib.hid fun q' => HKR.out.trans (fun t ht => (KeptT.off hR ht _).trans (KeptT.drewN _ _ q'))
      have HSZ : Hid (∀ q', w.heap.size ≤ ((wr.setCell ⟨g, 4, none⟩ (.int .i64 (nN nx s' a))).drewN q').heap.size) := Lib.hid fun q' => by simpa using hsz
      have hoff : ∀ q', Owned ((wr.setCell ⟨g, 4, none⟩ (.int .i64 (nN nx s' a))).drewN q') w.heap.size (.slice A' q c') os := fun q' => hown.off hR hrn 4 _ q'
      have HOFF := Lib.hid hoff
      have hbs : ∀ q', Below W.heap.size W ((wr.setCell ⟨g, 4, none⟩ (.int .i64 (nN nx s' a))).drewN q') := fun q' => below_drewN (hbr.setCell (p := ⟨g, 4, none⟩) hg _) q'
      have HBS := Lib.hid hbs
      clear hset hoff hbs hR
      go_wp2_with fail
      refine (pstep hM hx ho hbr HRR.out hlast ha).mono ?_
      rintro e w1 ⟨rfl, q1, rfl⟩
      have h1 := HOFF.out q1
      have h2 := HBS.out q1
      have h3 := HSET.out q1
      have h5 := HKS.out q1
      have h6 := HSZ.out q1
      clear HOFF HBS HSET HKS HSZ
      generalize (wr.setCell ⟨g, 4, none⟩ (.int .i64 (nN nx s' a))).drewN q1 = w1 at h1 h2 h3 h5 h6 ⊢
      obtain ⟨A2, c2, w2, hr, ho2, hb2, hk2⟩ := run_append_one h1 (oN ot s' a) h6 (by rw [HL.out]; omega)
      rw [← hO.out] at ho2
      rw [HL.out] at hr ho2
      have h4 := Lib.hid (hk2 g _ _ h3 hrn)
      have h7 := Lib.hid (h5.below hb2)
      have h8 := Lib.hid (h2.trans (hb2.mono hWw))
      have h9 := Lib.hid (Nat.le_trans h6 hb2.size)
      clear hk2 hb2 h2 h5
      go_wp2_with (at_builtin; refine Lib.wpList_append_run _ rfl _ _ _ _ rfl _ _ rfl rfl _ _ hr ?_)
      go_roundw
      case rel => exact ⟨q + 1, A2, c2, by omega, by go_num, rfl, h9.out, h7.out, ho2, h8.out, by rw [hT.out]; exact h4.out⟩
      case measure => simp [intOf]; omega
    · obtain rfl : q = k := by omega
      have hall := Lib.hid (List.take_of_length_le (l := xs) (i := q) (by rw [L.out]; exact Nat.le_refl _))
      go_wp2
      go_ret
      rw [hall.out] at hown hR
      exact ⟨_, _, rfl, hown, hbr, HKR.out⟩
end Go.Proofs.Ytihahljpfekmbaa
