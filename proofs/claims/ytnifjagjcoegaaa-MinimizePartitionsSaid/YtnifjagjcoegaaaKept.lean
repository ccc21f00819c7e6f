/- Blocks that are as they were: of a type, all but one; rows apart. -/
import Derived.Test.YtnifjagjcoegaaaOwn
import Derived.Test.YtnifjagjcoegaaaLits
namespace Go.Proofs.Ytnifjagjcoegaaa
open Go.RowKit

/-- The blocks of a type are as they were. -/
def KeptT (t : TypeId) (w w' : World) : Prop := ∀ (g : Nat) (cs : Array Value), w.heap[g]? = some (.cells cs t (0, 0)) → w'.heap[g]? = some (.cells cs t (0, 0))
theorem heap_lt {w : World} {g : Nat} {o : Obj} (h : w.heap[g]? = some o) : g < w.heap.size := by
  rcases Nat.lt_or_ge g w.heap.size with hlt | hge
  · exact hlt
  · rw [Array.getElem?_eq_none hge] at h; cases h
theorem KeptT.refl (t : TypeId) (w : World) : KeptT t w w := fun _ _ h => h
theorem KeptT.trans {t : TypeId} {a b c : World} (h : KeptT t a b) (k : KeptT t b c) : KeptT t a c := fun g cs e => k g cs (h g cs e)
theorem KeptT.of_below {t : TypeId} {w w' : World} (h : Below w.heap.size w w') : KeptT t w w' := fun g _ e => (h.block g (heap_lt e)).trans e
theorem KeptT.drewN (t : TypeId) (w : World) (q : Nat) : KeptT t w (w.drewN q) := fun _ _ h => h
theorem KeptT.off {t t' : TypeId} {w : World} {g k : Nat} {cs : Array Value} (hg : w.heap[g]? = some (.cells cs t' (0, 0))) (ht : t ≠ t') (u : Value) : KeptT t w (w.setCell ⟨g, k, none⟩ u) := fun g' cs' e => by
  rw [heap_setCell_other _ _ _ _ ?_]
  · exact e
  · show g' ≠ g
    intro e2
    subst e2
    rw [hg] at e
    injection e with e
    injection e with _ h2 _
    exact ht h2.symm
theorem KeptT.grown {t t' : TypeId} {w w' : World} {base size n : Nat} {v : Value} {xs : List Value} (h : w.grownBy w' v.ownBlock) (ho : w.ownsRow base t' size v n xs) (ht : t ≠ t') : KeptT t w w' := fun g cs e => by
  rw [h.block g (heap_lt e) ?_]
  · exact e
  · intro e2
    rcases ho.2 with ⟨rfl, _⟩ | ⟨g', cap, cur, rfl, _, hh, _⟩
    · cases e2
    · have : g = g' := by simpa [Value.ownBlock] using e2
      subst this
      rw [e] at hh
      injection hh with hh
      injection hh with _ h2 _
      exact ht h2

theorem Owned.keptT {w w' : World} {base : Nat} {v : Value} {xs : List Int} (h : Owned w base v xs) (hk : KeptT 3 w w') : Owned w' base v xs := by
  refine ⟨h.1, ?_⟩
  rcases h.2 with e | ⟨g, cap, cur, hv, hbg, hg, r⟩
  · exact .inl e
  · exact .inr ⟨g, cap, cur, hv, hbg, hk g cur hg, r⟩

theorem infol : (Try.prog.info? 26).map (fun i => (i.zero, i.size, i.bytes)) = some (some (.slice none 0 0), 1, 24) := by kernel_rfl

/-- All blocks but one are as they were. -/
def KeptB (r : Option Nat) (w w' : World) : Prop := ∀ (g : Nat) (o : Obj), w.heap[g]? = some o → r ≠ some g → w'.heap[g]? = some o
/-- Two rows lie in different blocks. -/
def Apart (v u : Value) : Prop := ∀ g, v.ownBlock = some g → u.ownBlock ≠ some g
theorem Apart.nil (u : Value) : Apart (.slice none 0 0) u := fun g h => by simp [Value.ownBlock] at h
theorem Apart.symm {v u : Value} (h : Apart v u) : Apart u v := fun g h1 h2 => h g h2 h1
/-- append turns a row's block or makes a new one. -/
def Moved (w : World) (v v' : Value) : Prop := v'.ownBlock = v.ownBlock ∨ ∃ g, w.heap.size ≤ g ∧ v'.ownBlock = some g
end Go.Proofs.Ytnifjagjcoegaaa
