/- A decoder: length, numbers, words. -/
import Derived.Test.YtihahljpfekmbaaNumd
import Derived.Test.YtihahljpfekmbaaTkp
namespace Go.Proofs.Ytihahljpfekmbaa
open Go.RowKit

theorem only_drewN {a w : World} {row : Option Nat} (h : a.grownBy w row) (n : Nat) : a.grownBy (w.drewN n) row := ⟨h.os, h.tape, h.output, h.size, h.block⟩
theorem only_setCell {a w : World} {g : Nat} (h : a.grownBy w (some g)) (k : Nat) (u : Value) : a.grownBy (w.setCell ⟨g, k, none⟩ u) (some g) :=
  ⟨h.os, h.tape, h.output, by simpa [World.setCell] using h.size, fun i hi hne => (Below.heap_setCell w ⟨g, k, none⟩ u i (by rintro rfl; exact hne rfl)).trans (h.block i hi hne)⟩
theorem only_below {a w w' : World} {row : Option Nat} (h : a.grownBy w row) (hb : Below a.heap.size w w') : a.grownBy w' row :=
  ⟨hb.os.trans h.os, hb.tape.trans h.tape, hb.output.trans h.output, Nat.le_trans h.size hb.size, fun i hi hne => (hb.block i hi).trans (h.block i hi hne)⟩
theorem below_only {W w w' : World} {g : Nat} (hb : Below W.heap.size W w) (hg : W.heap.size ≤ g) (h : w.grownBy w' (some g)) : Below W.heap.size W w' :=
  hb.trans ((Below.refl _ _).grown h hb.size (fun k hk => by injection hk with hk; omega))

/-- The number at u, by the decoder's words. -/
theorem dnumber {W : World} (g : Nat) (A : Option Addr) (n c u : Nat) (bs : List Nat) (w : World) (h : Byts W A n bs) (hb : Below W.heap.size W w) (hg : W.heap.size ≤ g) (hD : Dec w g A n c u) (hu : u ≤ n) (hc : n ≤ c) (hs : erA bs u = 0) :
    Calls Try.prog 64 #[.pointer (some ⟨g, 0, none⟩)] w fun e w' => e = .returned (.int .i64 (nuA bs u)) ∧ ∃ q, w' = (w.setCell ⟨g, 1, none⟩ (.int .i64 ((u + szA bs u : Nat) : Int))).drewN q := pnumber_ok g A n c u bs w h hb hg hD hu hc hs
theorem dnumber_bad {W : World} (g : Nat) (A : Option Addr) (n c u : Nat) (bs : List Nat) (w : World) (h : Byts W A n bs) (hb : Below W.heap.size W w) (hD : Dec w g A n c u) (hu : u ≤ n) (hc : n ≤ c) (hs : ¬ erA bs u = 0) :
    Calls Try.prog 64 #[.pointer (some ⟨g, 0, none⟩)] w fun e w' => e = pan (erA bs u) ∧ ∃ q, w' = w.drewN q := pnumber_bad g A n c u bs w h hb hD hu hc hs

theorem dlength {W : World} (g : Nat) (A : Option Addr) (n c u : Nat) (bs : List Nat) (w : World) (h : Byts W A n bs) (hb : Below W.heap.size W w) (hg : W.heap.size ≤ g) (hD : Dec w g A n c u) (hu : u ≤ n) (hc : n ≤ c) (hs : erA bs u = 0) (h0 : 0 ≤ nuA bs u) :
    Calls Try.prog 95 #[.pointer (some ⟨g, 0, none⟩)] w fun e w' => e = .returned (.int .i64 (nuA bs u)) ∧ ∃ q, w' = (w.setCell ⟨g, 1, none⟩ (.int .i64 ((u + szA bs u : Nat) : Int))).drewN q := by
  have hd : decide (nuA bs u < 0) = false := by simpa using h0
  have HN := Lib.hid (dnumber g A n c u bs w h hb hg hD hu hc hs)
  generalize nuA bs u = v at hd HN
  clear hD h0
  go_enter Try.func95, Try.ntmps95
  go_wp2_with fail
  refine HN.out.mono ?_
  rintro e w1 ⟨rfl, hq⟩
  have HQ := Lib.hid hq
  clear hq
  go_wp2
  go_ret
  exact ⟨rfl, HQ.out⟩
theorem dlength_bad {W : World} (g : Nat) (A : Option Addr) (n c u : Nat) (bs : List Nat) (w : World) (h : Byts W A n bs) (hb : Below W.heap.size W w) (hg : W.heap.size ≤ g) (hD : Dec w g A n c u) (hu : u ≤ n) (hc : n ≤ c) (k : Int)
    (hk : (¬ erA bs u = 0 ∧ k = erA bs u) ∨ (erA bs u = 0 ∧ nuA bs u < 0 ∧ k = 5)) :
    Calls Try.prog 95 #[.pointer (some ⟨g, 0, none⟩)] w fun e w' => e = pan k ∧ w.grownBy w' (some g) := by
  rcases hk with ⟨h1, h2⟩ | ⟨h1, h2, h3⟩
  · have HN := Lib.hid (dnumber_bad g A n c u bs w h hb hD hu hc h1)
    rw [← h2] at HN
    clear hD h1 h2
    go_enter Try.func95, Try.ntmps95
    go_wp2_with fail
    refine HN.out.mono ?_
    rintro e w1 ⟨rfl, q, rfl⟩
    exact ⟨rfl, rfl, only_drewN (World.grownBy.refl _ _) _⟩
  · have hd : decide (nuA bs u < 0) = true := by simpa using h2
    have HN := Lib.hid (dnumber g A n c u bs w h hb hg hD hu hc h1)
    generalize nuA bs u = v at hd HN
    subst h3
    clear hD h1 h2
    go_enter Try.func95, Try.ntmps95
    go_wp2_with fail
    refine HN.out.mono ?_
    rintro e w1 ⟨rfl, q, rfl⟩
    have HG := Lib.hid (only_drewN (only_setCell (World.grownBy.refl w (some g)) 1 (.int .i64 ((u + szA bs u : Nat) : Int))) q)
    go_wp2
    exact ⟨rfl, rfl, HG.out⟩
end Go.Proofs.Ytihahljpfekmbaa
