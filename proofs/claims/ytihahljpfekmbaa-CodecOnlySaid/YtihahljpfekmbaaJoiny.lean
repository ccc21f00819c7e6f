/- join of the codec's laws. -/
import Derived.Test.YtihahljpfekmbaaBytr
namespace Go.Proofs.Ytihahljpfekmbaa
open Go.RowKit

theorem OwnedY.literal (w : World) (base : Nat) (bs : List Nat) (cs : Array Value) (n : Nat) (hb : base ≤ w.heap.size) (hcs : cs = (yv bs).toArray) (hn : n = bs.length) (hm : bs.length ≤ 17592186044416) :
    OwnedY (w.alloc (.cells cs 5)) base (.slice (some ⟨w.heap.size, 0, none⟩) n n) bs := by
  subst hcs hn
  have := World.ownsRow_lit (e := 5) (size := 1) w (yv bs).toArray bs.length hb (by unfold maxLen; omega) (by simp [yv])
  unfold OwnedY
  simpa using this
theorem OwnedY.cap {w : World} {base n c : Nat} {A : Option Addr} {bs : List Nat} (h : OwnedY w base (.slice A n c) bs) : n ≤ c := by
  rcases h.2 with ⟨e, _⟩ | ⟨g, cap, cur, e, _, _, hnc, _⟩
  · cases e; exact Nat.le_refl _
  · cases e; omega

set_option maxRecDepth 100000 in
theorem pjoin (A B : Option Addr) (n c m d : Nat) (a b : List Nat) (w : World) (ha : Byts w A n a) (hb : Byts w B m b) (hn : n ≤ 1000000) (hm : m ≤ 1000000) :
    Calls Try.prog 37 #[.slice A n c, .slice B m d] w fun e w' => ∃ D q, e = .returned (.slice D (n + m) q) ∧ n + m ≤ q ∧ Byts w' D (n + m) (a ++ b) ∧ Below w.heap.size w w' := by
  have L1 := Lib.hid ha.1
  have L2 := Lib.hid hb.1
  have b0 := alloc_below w (.cells #[] 5)
  obtain ⟨v1, w1, r1, o1, b1⟩ := run_append_bytes _ w.heap.size _ [] a A n c (OwnedY.literal w w.heap.size [] #[] 0 (Nat.le_refl _) rfl rfl (by simp)) (ha.below b0) b0.size (by rw [List.nil_append, L1.out]; omega)
  have b1 := b0.trans b1
  rw [List.nil_append] at o1
  obtain ⟨v2, w2, r2, o2, b2⟩ := run_append_bytes w1 w.heap.size v1 a b B m d o1 (hb.below b1) b1.size (by rw [List.length_append, L1.out, L2.out]; omega)
  have b2 := Lib.hid (b1.trans b2)
  obtain ⟨A2, c2, rfl⟩ := o2.form
  rw [List.length_append, L1.out, L2.out] at r2 o2
  have hc := o2.cap
  have hy := Lib.hid (o2.byts (by rw [List.length_append, L1.out, L2.out]; omega) (fun x hx => by
    rcases List.mem_append.1 hx with h | h
    · exact ha.2.2.2 x h
    · exact hb.2.2.2 x h))
  clear o1 o2 b0 b1 ha hb L1 L2
  go_enter Try.func37, Try.ntmps37
  go_wp2_with (at_builtin; first | (refine Lib.wpList_append_run _ rfl _ _ _ _ rfl _ _ rfl rfl _ _ r1 ?_) | (refine Lib.wpList_append_run _ rfl _ _ _ _ rfl _ _ rfl rfl _ _ r2 ?_))
  go_ret
  exact ⟨A2, c2, rfl, hc, hy.out, b2.out⟩
end Go.Proofs.Ytihahljpfekmbaa
