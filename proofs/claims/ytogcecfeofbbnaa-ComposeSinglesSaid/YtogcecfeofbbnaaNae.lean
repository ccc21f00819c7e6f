/- Lemmas of the proofs of this seat, of the parts Rgnx, Gcd, Gcm. Conditions: none. -/
import Derived.Test.YtogcecfeofbbnaaNaa
import Derived.Deep.RegionHeld3
import Derived.StillTail
import Derived.Test.YtogcecfeofbbnaaNad
import Derived.Deep.RegionLaw
import Derived.Deep.DeepCutAuto
import Derived.Shelf.Abstract
section
/- A region that draws its order and some of whose operations, which wait for all that read, may write what is read: the fact S is kept by the others only. Operations that read nothing are taken first, too. -/
namespace Go.Proofs.Ytogcecfeofbbnaa

section
variable {P : Program} {ops : Array Oper} {Q : Exit → Act → World → Prop} {md : Region.Mode} {S : World → Prop} {X : Nat → Bool}
/-- S is kept by every operation but those of X. -/
def wpAnyX (P : Program) (md : Region.Mode) (ops : Array Oper) (Q : Exit → Act → World → Prop) (S : World → Prop) (X : Nat → Bool) : Nat → Array Bool → Act → World → Prop
  | 0, listed, a, w => Region.ready md ops listed = [] ∧ Q .normal a w
  | fuel + 1, listed, a, w =>
    (Region.ready md ops listed = [] → Q .normal a w) ∧
    ∀ i ∈ Region.ready md ops listed, wpOp P ops Q i (fun a' w' => (X i = false → S w → S w') ∧ wpAnyX P md ops Q S X fuel (listed.setIfInBounds i true) a' w') a w
theorem wpAny_of_heldX : ∀ (fuel : Nat) (listed : Array Bool) (a : Act) (w : World), wpAnyX P md ops Q S X fuel listed a w → wpAny P md ops Q fuel listed a w
  | 0, _, _, _, h => h
  | fuel + 1, _, _, _, h => ⟨h.1, fun i hi => wpOp_mono (fun a' w' h' => wpAny_of_heldX fuel _ a' w' h'.2) (h.2 i hi)⟩
theorem wpAnyX_first {i : Nat} {oi : Oper} {v : Value} (hi : ops[i]? = some oi) (hk : ∀ k, X k = true → Region.waitsFor md ops k i = true) (hsel : ∀ (j : Nat) (o : Oper) cs b, ops[j]? = some o → o.op ≠ .select cs b)
    (hQ : ∀ c a w, Q (.panic c) (a.put oi.dst v) w → Q (.panic c) a w) :
    ∀ (fuel : Nat) (listed : Array Bool) (a : Act) (w : World),
      (∀ j oj, ops[j]? = some oj → j ≠ i → listed.getD j true = false → (∀ e ∈ oj.after, Region.binds md e = true → e.on ≠ i) → oi.apart ops oj = true) →
      i ∈ Region.ready md ops listed → YieldsIf P ops S oi v a → S w →
      wpAnyX P md ops Q S X fuel (listed.setIfInBounds i true) (a.put oi.dst v) w → wpAnyX P md ops Q S X (fuel + 1) listed a w := by
  intro fuel
  induction fuel with
  | zero =>
    intro listed a w _ hr hy hS H
    refine ⟨fun h => (by rw [h] at hr; cases hr), fun j hj => ?_⟩
    by_cases hji : j = i
    · subst hji; exact hy.wpOp hi hS ⟨fun _ h => h, H⟩
    · have := ready_mono hj hji
      rw [H.1] at this
      cases this
  | succ fuel ih =>
    intro listed a w hfree hr hy hS H
    refine ⟨fun h => (by rw [h] at hr; cases hr), fun j hj => ?_⟩
    by_cases hji : j = i
    · subst hji; exact hy.wpOp hi hS ⟨fun _ h => h, H⟩
    · have h1 := H.2 j (ready_mono hj hji)
      obtain ⟨hjun, oj, hoj, hall⟩ := mem_ready.1 hj
      have hnot : ∀ e ∈ oj.after, Region.binds md e = true → e.on ≠ i := fun e he hb heq => by
        have h1 := hall e he hb
        have h0 := (mem_ready.1 hr).1
        rw [heq] at h1
        rcases Nat.lt_or_ge i listed.size with h' | h'
        · simp [h'] at h0 h1; rw [h0] at h1; cases h1
        · simp [Array.getElem?_eq_none h'] at h1
      have hjk : X j = false := by
        rcases hXj : X j with _ | _
        · rfl
        · obtain ⟨o', ho', e, he, hb, hon⟩ := Region.waitsFor_spec (hk j hXj)
          have : o' = oj := Option.some.inj (ho'.symm.trans hoj)
          subst this
          exact absurd hon (hnot e he hb)
      have h2 := wpOp_putIf hoj (hfree j oj hoj hji hjun hnot) (fun cs b => hsel i oi cs b hi) (fun cs b => hsel j oj cs b hoj) hQ hy h1
      have hfree' : ∀ l ok, ops[l]? = some ok → l ≠ i → (listed.setIfInBounds j true).getD l true = false →
          (∀ e ∈ ok.after, Region.binds md e = true → e.on ≠ i) → oi.apart ops ok = true := fun l ok hl hli hun hno => by
        refine hfree l ok hl hli ?_ hno
        by_cases hjl : j = l
        · subst hjl; exact hjun
        · rw [getD_set_ne true hjl] at hun; exact hun
      refine wpOp_mono (fun a' w' h3 => ⟨h3.2.1, ih (listed.setIfInBounds j true) a' w' hfree' (ready_mono hr (Ne.symm hji)) h3.1 (h3.2.1 hjk hS) ?_⟩) h2
      rw [Array.setIfInBounds_comm _ _ hji]
      exact h3.2.2
theorem wpAnyX_firstP {i : Nat} {oi : Oper} {v : Value} (hi : ops[i]? = some oi) (hsel : ∀ (j : Nat) (o : Oper) cs b, ops[j]? = some o → o.op ≠ .select cs b)
    (hQ : ∀ c a w, Q (.panic c) (a.put oi.dst v) w → Q (.panic c) a w) :
    ∀ (fuel : Nat) (listed : Array Bool) (a : Act) (w : World),
      (∀ j oj, ops[j]? = some oj → j ≠ i → listed.getD j true = false → (∀ e ∈ oj.after, Region.binds md e = true → e.on ≠ i) → oi.apart ops oj = true) →
      i ∈ Region.ready md ops listed → YieldsIf P ops (fun _ => True) oi v a →
      wpAnyX P md ops Q S X fuel (listed.setIfInBounds i true) (a.put oi.dst v) w → wpAnyX P md ops Q S X (fuel + 1) listed a w := by
  intro fuel
  induction fuel with
  | zero =>
    intro listed a w _ hr hy H
    refine ⟨fun h => (by rw [h] at hr; cases hr), fun j hj => ?_⟩
    by_cases hji : j = i
    · subst hji; exact hy.wpOp hi trivial ⟨fun _ h => h, H⟩
    · have := ready_mono hj hji
      rw [H.1] at this
      cases this
  | succ fuel ih =>
    intro listed a w hfree hr hy H
    refine ⟨fun h => (by rw [h] at hr; cases hr), fun j hj => ?_⟩
    by_cases hji : j = i
    · subst hji; exact hy.wpOp hi trivial ⟨fun _ h => h, H⟩
    · have h1 := H.2 j (ready_mono hj hji)
      obtain ⟨hjun, oj, hoj, hall⟩ := mem_ready.1 hj
      have hnot : ∀ e ∈ oj.after, Region.binds md e = true → e.on ≠ i := fun e he hb heq => by
        have h1 := hall e he hb
        have h0 := (mem_ready.1 hr).1
        rw [heq] at h1
        rcases Nat.lt_or_ge i listed.size with h' | h'
        · simp [h'] at h0 h1; rw [h0] at h1; cases h1
        · simp [Array.getElem?_eq_none h'] at h1
      have h2 := wpOp_putIf hoj (hfree j oj hoj hji hjun hnot) (fun cs b => hsel i oi cs b hi) (fun cs b => hsel j oj cs b hoj) hQ hy h1
      have hfree' : ∀ l ok, ops[l]? = some ok → l ≠ i → (listed.setIfInBounds j true).getD l true = false →
          (∀ e ∈ ok.after, Region.binds md e = true → e.on ≠ i) → oi.apart ops ok = true := fun l ok hl hli hun hno => by
        refine hfree l ok hl hli ?_ hno
        by_cases hjl : j = l
        · subst hjl; exact hjun
        · rw [getD_set_ne true hjl] at hun; exact hun
      refine wpOp_mono (fun a' w' h3 => ⟨h3.2.1, ih (listed.setIfInBounds j true) a' w' hfree' (ready_mono hr (Ne.symm hji)) h3.1 ?_⟩) h2
      rw [Array.setIfInBounds_comm _ _ hji]
      exact h3.2.2
/-- Take number i, which reads what S says, first. -/
theorem wpAnyX_take {i : Nat} {oi : Oper} {v : Value} {fuel : Nat} {listed : Array Bool} {a : Act} {w : World} (hi : ops[i]? = some oi) (hk : ∀ k, X k = true → Region.waitsFor md ops k i = true)
    (hs : Region.noSelect ops = true) (hf : Region.free md ops listed i = true) (hr : (Region.ready md ops listed).contains i = true)
    (hQ : ∀ c a w, Q (.panic c) (a.put oi.dst v) w → Q (.panic c) a w) (hy : YieldsIf P ops S oi v a) (hS : S w)
    (h : wpAnyX P md ops Q S X fuel (listed.setIfInBounds i true) (a.put oi.dst v) w) : wpAnyX P md ops Q S X (fuel + 1) listed a w :=
  wpAnyX_first hi hk (Region.noSelect_spec hs) hQ fuel listed a w (Region.free_spec hi hf) (by simpa using hr) hy hS h
theorem wpAnyX_takeL {L : List Nat} {i : Nat} {oi : Oper} {v : Value} {fuel : Nat} {listed : Array Bool} {a : Act} {w : World} (hi : ops[i]? = some oi) (hk : (L.all fun k => Region.waitsFor md ops k i) = true)
    (hs : Region.noSelect ops = true) (hf : Region.free md ops listed i = true) (hr : (Region.ready md ops listed).contains i = true)
    (hQ : ∀ c a w, Q (.panic c) (a.put oi.dst v) w → Q (.panic c) a w) (hy : YieldsIf P ops S oi v a) (hS : S w)
    (h : wpAnyX P md ops Q S (fun k => L.contains k) fuel (listed.setIfInBounds i true) (a.put oi.dst v) w) : wpAnyX P md ops Q S (fun k => L.contains k) (fuel + 1) listed a w :=
  wpAnyX_take hi (fun k hX => List.all_eq_true.1 hk k (by simpa using hX)) hs hf hr hQ hy hS h
/-- Take number i, which reads nothing, first. -/
theorem wpAnyX_pure {i : Nat} {oi : Oper} {v : Value} {fuel : Nat} {listed : Array Bool} {a : Act} {w : World} (hi : ops[i]? = some oi)
    (hs : Region.noSelect ops = true) (hf : Region.free md ops listed i = true) (hr : (Region.ready md ops listed).contains i = true)
    (hQ : ∀ c a w, Q (.panic c) (a.put oi.dst v) w → Q (.panic c) a w) (hy : YieldsIf P ops (fun _ => True) oi v a)
    (h : wpAnyX P md ops Q S X fuel (listed.setIfInBounds i true) (a.put oi.dst v) w) : wpAnyX P md ops Q S X (fuel + 1) listed a w :=
  wpAnyX_firstP hi (Region.noSelect_spec hs) hQ fuel listed a w (Region.free_spec hi hf) (by simpa using hr) hy h
/-- The only one that may come up. -/
theorem wpAnyX_one {i : Nat} {o : Oper} {fuel : Nat} {listed : Array Bool} {a : Act} {w : World} (ho : ops[i]? = some o) (hr : Region.ready md ops listed = [i])
    (h : ∀ K' : Act → World → Prop, Shut (∀ a w', (X i = false → S w → S w') → wpAnyX P md ops Q S X fuel (listed.setIfInBounds i true) a w' → K' a w') → if Region.wanted o (yielded ops a.tmps) = true then Oper.wp P o a w K' Q else K' (a.put o.dst undef) w) : wpAnyX P md ops Q S X (fuel + 1) listed a w := by
  refine ⟨fun h0 => ?_, fun j hj => ?_⟩
  · rw [hr] at h0; cases h0
  · rw [hr] at hj
    obtain rfl := List.mem_singleton.1 hj
    exact wpOp_step ho (fun K' hK => h K' (fun a w hS hW => hK a w ⟨hS, hW⟩))
/-- One of two may come up. -/
theorem wpAnyX_two {i j : Nat} {o u : Oper} {fuel : Nat} {listed : Array Bool} {a : Act} {w : World} (ho : ops[i]? = some o) (hu : ops[j]? = some u) (hr : Region.ready md ops listed = [i, j])
    (h : ∀ K' : Act → World → Prop, Shut (∀ a w', (X i = false → S w → S w') → wpAnyX P md ops Q S X fuel (listed.setIfInBounds i true) a w' → K' a w') → if Region.wanted o (yielded ops a.tmps) = true then Oper.wp P o a w K' Q else K' (a.put o.dst undef) w)
    (k : ∀ K' : Act → World → Prop, Shut (∀ a w', (X j = false → S w → S w') → wpAnyX P md ops Q S X fuel (listed.setIfInBounds j true) a w' → K' a w') → if Region.wanted u (yielded ops a.tmps) = true then Oper.wp P u a w K' Q else K' (a.put u.dst undef) w) : wpAnyX P md ops Q S X (fuel + 1) listed a w := by
  refine ⟨fun h0 => ?_, fun l hl => ?_⟩
  · rw [hr] at h0; cases h0
  · rw [hr] at hl
    rcases List.mem_cons.1 hl with rfl | hl
    · exact wpOp_step ho (fun K' hK => h K' (fun a w hS hW => hK a w ⟨hS, hW⟩))
    · obtain rfl := List.mem_singleton.1 hl
      exact wpOp_step hu (fun K' hK => k K' (fun a w hS hW => hK a w ⟨hS, hW⟩))
theorem wpAnyX_done {listed : Array Bool} {a : Act} {w : World} (hr : Region.ready md ops listed = []) (h : Q .normal a w) : ∀ fuel, wpAnyX P md ops Q S X fuel listed a w
  | 0 => ⟨hr, h⟩
  | _ + 1 => ⟨fun _ => h, by rw [hr]; simp⟩
theorem wp_region_heldX {id : Nat} {a : Act} {w : World} (hm : P.follows .mixedOrders = true)
    (h : wpAnyX P .any ops Q S X ops.size (Array.replicate ops.size false) a w.drew) : (Code.region id ops true).wp P Q a w :=
  wp_region_any hm (wpAny_of_heldX _ _ _ _ h)
end
end Go.Proofs.Ytogcecfeofbbnaa
end

section
/- The closures of Product. -/
namespace Go.Proofs.Ytogcecfeofbbnaa
open Go.RowKit

/-- What a number closure answers for the outputs o. -/
def NumC (f : Nat) (caps : Array Value) (o : Array Value) (x : Nat) (w : World) : Prop := ∀ W, Below w.heap.size w W →
  Calls Try.prog f (#[.agg o] ++ caps) W fun e w' => e = .returned (.int .i64 (x : Nat)) ∧ Below W.heap.size W w'
/-- What a step closure does, and what the number closure makes of its outputs. -/
def StepO (f k : Nat) (cf ck : Array Value) (F : Nat × Nat → Nat → Nat × Nat) (O : Nat × Nat → Nat → Nat) (i n m : Nat) (w : World) : Prop :=
  (∀ args w, (callFunc f args).run Try.prog w = .ok (.enter f args) w) ∧ (∀ args w, (callFunc k args).run Try.prog w = .ok (.enter k args) w) ∧ ∀ p q x, p < n → q < m → x < i → ∃ (o0 : Bool) (o1 : Nat) (o2 : Bool) (o3 : Nat), NumC k ck #[.bool o0, .int .i64 o1, .bool o2, .int .i64 o3] (O (p, q) x) w ∧ ∀ W, Below w.heap.size w W →
    Calls Try.prog f (#[.agg #[.int .i64 (p : Nat), .int .i64 (q : Nat)], .int .i64 (x : Nat)] ++ cf) W fun e w' => e = .returned (.tuple #[.agg #[.int .i64 ((F (p, q) x).1 : Nat), .int .i64 ((F (p, q) x).2 : Nat)], .agg #[.bool o0, .int .i64 o1, .bool o2, .int .i64 o3]]) ∧ Below W.heap.size W w'
theorem NumC.below {f : Nat} {caps o : Array Value} {x : Nat} {w w' : World} (h : NumC f caps o x w) (hb : Below w.heap.size w w') : NumC f caps o x w' := fun W hW => h W (bt hb hW)
theorem StepO.below {f k : Nat} {cf ck : Array Value} {F : Nat × Nat → Nat → Nat × Nat} {O : Nat × Nat → Nat → Nat} {i n m : Nat} {w w' : World} (h : StepO f k cf ck F O i n m w) (hb : Below w.heap.size w w') : StepO f k cf ck F O i n m w' :=
  ⟨h.1, h.2.1, fun p q x hp hq hx => by
    obtain ⟨o0, o1, o2, o3, h1, h2⟩ := h.2.2 p q x hp hq hx
    exact ⟨o0, o1, o2, o3, h1.below hb, fun W hW => h2 W (bt hb hW)⟩⟩
theorem set_far {w : World} {g j : Nat} {p : Addr} {x : Value} (u : Value) (h : w.cell? p = some x) (hn : p.block ≠ g) : (w.setCell ⟨g, j, none⟩ u).cell? p = some x := (World.cell?_setCell_far _ _ _ _ (Ne.symm hn)).trans h
theorem drew_far {w : World} {p : Addr} {x : Value} (h : w.cell? p = some x) : w.drew.cell? p = some x := h
/-- Two boxes of two cells. -/
def Q4 (z y : Nat) (a b c d : Value) (W : World) : Prop := W.cell? ⟨z, 0, none⟩ = some a ∧ W.cell? ⟨z, 1, none⟩ = some b ∧ W.cell? ⟨y, 0, none⟩ = some c ∧ W.cell? ⟨y, 1, none⟩ = some d
theorem Q4.drew {z y : Nat} {a b c d : Value} {W : World} (h : Q4 z y a b c d W) : Q4 z y a b c d W.drew := h
theorem Q4.set {z y g j : Nat} {a b c d : Value} {W : World} (v : Value) (h1 : z ≠ g) (h2 : y ≠ g) (h : Q4 z y a b c d W) : Q4 z y a b c d (W.setCell ⟨g, j, none⟩ v) :=
  ⟨set_far v h.1 h1, set_far v h.2.1 h1, set_far v h.2.2.1 h2, set_far v h.2.2.2 h2⟩
/-- The boxes of a step closure: the pair, and both results. -/
theorem step_boxes (w : World) (p q : Nat) : ∃ w0, w0 = (((w.alloc (.cells #[.int .i64 p, .int .i64 q] 90)).alloc (.cells #[.int .i64 0, .int .i64 0] 90)).alloc (.cells #[.bool false, .int .i64 0, .bool false, .int .i64 0] 94)) ∧
    Below w.heap.size w w0 ∧ w0.heap[w.heap.size]? = some (.cells #[.int .i64 p, .int .i64 q] 90 (0, 0)) ∧ w0.heap[w.heap.size + 1]? = some (.cells #[.int .i64 0, .int .i64 0] 90 (0, 0)) ∧
    w0.heap[w.heap.size + 2]? = some (.cells #[.bool false, .int .i64 0, .bool false, .int .i64 0] 94 (0, 0)) ∧ w0.heap.size = w.heap.size + 3 := by
  refine ⟨_, rfl, ((alloc_below _ _).alloc (by simp) _).alloc (by simp; omega) _, ?_, ?_, ?_, by simp⟩
  · exact ((alloc_below _ _).block _ (by simp; omega)).trans (heap_alloc2_old w _ _)
  · exact ((alloc_below _ _).block _ (by simp)).trans (heap_alloc2_new w _ _)
  · have := heap_alloc_new ((w.alloc (.cells #[.int .i64 p, .int .i64 q] 90)).alloc (.cells #[.int .i64 0, .int .i64 0] 90)) (.cells #[.bool false, .int .i64 0, .bool false, .int .i64 0] 94)
    simpa using this
theorem six_sets {w w4 : World} {z : Nat} {x y x0 x1 x2 x3 : Value} (r1 : w4.heap[z + 1]? = some (.cells #[x, y] 90 (0, 0))) (r2 : w4.heap[z + 2]? = some (.cells #[x0, x1, x2, x3] 94 (0, 0))) (hb : Below z w w4) (u v a b c d : Value) :
    ∃ W, ((((((w4.setCell ⟨z + 1, 0, none⟩ u).setCell ⟨z + 1, 1, none⟩ v).setCell ⟨z + 1 + 1, 0, none⟩ a).setCell ⟨z + 1 + 1, 1, none⟩ b).setCell ⟨z + 1 + 1, 2, none⟩ c).setCell ⟨z + 1 + 1, 3, none⟩ d).drew = W ∧
      W.heap[z + 1]? = some (.cells #[u, v] 90 (0, 0)) ∧ W.heap[z + 1 + 1]? = some (.cells #[a, b, c, d] 94 (0, 0)) ∧ Below z w W := by
  have h1 := heap_setCell_same _ (z + 1) 1 _ _ v (heap_setCell_same w4 (z + 1) 0 _ _ u r1)
  have far : ∀ {W : World} {o : Obj} (j : Nat) (y : Value), W.heap[z + 1]? = some o → (W.setCell ⟨z + 1 + 1, j, none⟩ y).heap[z + 1]? = some o := fun j y h => (heap_setCell_other _ ⟨z + 1 + 1, j, none⟩ (z + 1) y (show z + 1 ≠ z + 1 + 1 by omega)).trans h
  have near : ∀ {W : World} {o : Obj} (j : Nat) (y : Value), W.heap[z + 1 + 1]? = some o → (W.setCell ⟨z + 1, j, none⟩ y).heap[z + 1 + 1]? = some o := fun j y h => (heap_setCell_other _ ⟨z + 1, j, none⟩ (z + 1 + 1) y (show z + 1 + 1 ≠ z + 1 by omega)).trans h
  have r2 : w4.heap[z + 1 + 1]? = some (.cells #[x0, x1, x2, x3] 94 (0, 0)) := r2
  have n1 := near 1 v (near 0 u r2)
  have m1 := far 3 d (far 2 c (far 1 b (far 0 a h1)))
  have hb5 := (hb.setCell (p := ⟨z + 1, 0, none⟩) (Nat.le_succ _) u).setCell (p := ⟨z + 1, 1, none⟩) (Nat.le_succ _) v
  generalize (w4.setCell ⟨z + 1, 0, none⟩ u).setCell ⟨z + 1, 1, none⟩ v = W5 at n1 m1 hb5 ⊢
  have g0 := heap_setCell_same W5 (z + 1 + 1) 0 _ _ a n1
  have g1 := heap_setCell_same _ (z + 1 + 1) 1 _ _ b g0
  have g2 := heap_setCell_same _ (z + 1 + 1) 2 _ _ c g1
  have g3 := heap_setCell_same _ (z + 1 + 1) 3 _ _ d g2
  refine ⟨_, rfl, m1, g3, ?_⟩
  exact below_drewN ((((hb5.setCell (p := ⟨z + 1 + 1, 0, none⟩) (show z ≤ z + 1 + 1 by omega) a).setCell (p := ⟨z + 1 + 1, 1, none⟩) (show z ≤ z + 1 + 1 by omega) b).setCell (p := ⟨z + 1 + 1, 2, none⟩) (show z ≤ z + 1 + 1 by omega) c).setCell (p := ⟨z + 1 + 1, 3, none⟩) (show z ≤ z + 1 + 1 by omega) d) 1
set_option maxHeartbeats 4000000 in
set_option maxRecDepth 100000 in
theorem pstep1 (g g' i st n i' st' n' : Nat) (A B A' B' : Option Addr) (c d c' d' : Nat) (nx ot nx' ot' : List (List Int)) (p q a : Nat) (w : World) (hM : Mok i st n nx ot) (hM' : Mok i' st' n' nx' ot')
    (hg : Mblk w g (.int .i64 i) (.int .i64 st) (.slice A n c) (.slice B n d)) (hg' : Mblk w g' (.int .i64 i') (.int .i64 st') (.slice A' n' c') (.slice B' n' d'))
    (hx : Lists w A n nx) (ho : Lists w B n ot) (hx' : Lists w A' n' nx') (ho' : Lists w B' n' ot') (hp : p < n) (hq : q < n') (ha : a < i) (ha' : a < i') :
    Calls Try.prog 66 #[.agg #[.int .i64 p, .int .i64 q], .int .i64 a, .pointer (some ⟨g, 0, none⟩), .pointer (some ⟨g', 0, none⟩)] w fun e w' => e = .returned (.tuple #[.agg #[.int .i64 (nN nx p a : Nat), .int .i64 (nN nx' q a : Nat)], .agg #[.bool true, .int .i64 (oM ot p a : Nat), .bool true, .int .i64 (oM ot' q a : Nat)]]) ∧ Below w.heap.size w w' := by
  obtain ⟨w0, hw0, hb0, p1, p2, p3, hz0⟩ := step_boxes w p q
  have HW0 := Lib.hid hw0
  have HX := Lib.hid (fun (W : World) (h : Below w0.heap.size w0 W) => (hx.below hb0).below h)
  have HO := Lib.hid (fun (W : World) (h : Below w0.heap.size w0 W) => (ho.below hb0).below h)
  have HX' := Lib.hid (fun (W : World) (h : Below w0.heap.size w0 W) => (hx'.below hb0).below h)
  have HO' := Lib.hid (fun (W : World) (h : Below w0.heap.size w0 W) => (ho'.below hb0).below h)
  have hg0 := hg.on hb0
  have hg0' := hg'.on hb0
  obtain ⟨k0, k1, k2, k3, _⟩ := hg0.cells
  have c0 := cell_of_row w0 w.heap.size 0 _ _ (0, 0) p1
  have HG := Lib.hid hg0
  have HG' := Lib.hid hg0'
  have HP1 := Lib.hid p1
  have HP2 := Lib.hid p2
  have HP3 := Lib.hid p3
  have HB0 := Lib.hid hb0
  have HZ := Lib.hid hz0
  have HM := Lib.hid hM
  have HM' := Lib.hid hM'
  clear hw0 hb0 p1 p2 p3 hz0 hg hg' hg0 hg0' hx ho hx' ho' hM hM'
  rw [HW0.out] at k0 k1 k2 k3 c0
  go_enter Try.func66, Try.ntmps66
  go_wp2_with fail
  rw [← HW0.out]
  go_wp2_with fail
  refine (panswer i st n A B c d nx ot p a _ HM.out (HX.out _ (Below.refl _ _)) (HO.out _ (Below.refl _ _)) hp ha).mono ?_
  rintro e w1 ⟨rfl, b1⟩
  obtain ⟨w2, hw2⟩ : ∃ w2, w2 = w1.alloc (.cells #[.bool true, .int .i64 (oM ot p a : Nat)] 92) := ⟨_, rfl⟩
  have b12 : Below w1.heap.size w1 w2 := by rw [hw2]; exact alloc_below _ _
  have b02 := bt b1 b12
  have q2 : w2.heap[w1.heap.size]? = some (.cells #[.bool true, .int .i64 (oM ot p a : Nat)] 92 (0, 0)) := by rw [hw2]; exact heap_alloc_new _ _
  clear k0 k1 k2 k3 c0
  have p1 := (b02.block _ (heap_lt HP1.out)).trans HP1.out
  have c1 := cell_of_row w2 w.heap.size 1 _ _ (0, 0) p1
  obtain ⟨k0, k1, k2, k3, _⟩ := (HG'.out.on b02).cells
  have HW2 := Lib.hid hw2
  have HB2 := Lib.hid b02
  have HQ2 := Lib.hid q2
  rw [hw2] at k0 k1 k2 k3 c1
  clear p1 b12 b02 hw2 q2
  have HZ1 := Lib.hid b1.size
  clear b1
  go_wp2_with fail
  rw [← HW2.out]
  refine (panswer i' st' n' A' B' c' d' nx' ot' q a _ HM'.out (HX'.out _ HB2.out) (HO'.out _ HB2.out) hq ha').mono ?_
  rintro e w3 ⟨rfl, b3⟩
  clear k0 k1 k2 k3 c1
  obtain ⟨w4, hw4⟩ : ∃ w4, w4 = w3.alloc (.cells #[.bool true, .int .i64 (oM ot' q a : Nat)] 92) := ⟨_, rfl⟩
  have b34 : Below w3.heap.size w3 w4 := by rw [hw4]; exact alloc_below _ _
  have b24 := bt b3 b34
  have b04 := bt HB2.out b24
  have q4 : w4.heap[w3.heap.size]? = some (.cells #[.bool true, .int .i64 (oM ot' q a : Nat)] 92 (0, 0)) := by rw [hw4]; exact heap_alloc_new _ _
  have q2 := (b24.block _ (heap_lt HQ2.out)).trans HQ2.out
  have r1 := (b04.block _ (heap_lt HP2.out)).trans HP2.out
  have r2 := (b04.block _ (heap_lt HP3.out)).trans HP3.out
  have s1 := cell_of_row w4 w1.heap.size 0 _ _ (0, 0) q2
  have s2 := cell_of_row w4 w1.heap.size 1 _ _ (0, 0) q2
  have s3 := cell_of_row w4 w3.heap.size 0 _ _ (0, 0) q4
  have s4 := cell_of_row w4 w3.heap.size 1 _ _ (0, 0) q4
  have u0 := cell_of_row w4 (w.heap.size + 1) 0 _ _ (0, 0) r1
  have u1 := cell_of_row w4 (w.heap.size + 1) 1 _ _ (0, 0) r1
  have v0 := cell_of_row w4 (w.heap.size + 2) 0 _ _ (0, 0) r2
  have v1 := cell_of_row w4 (w.heap.size + 2) 1 _ _ (0, 0) r2
  have v2 := cell_of_row w4 (w.heap.size + 2) 2 _ _ (0, 0) r2
  have v3 := cell_of_row w4 (w.heap.size + 2) 3 _ _ (0, 0) r2
  have f0 := frozen_of_row w4 (w.heap.size + 1) 0 _ _ r1
  have f1 := frozen_of_row w4 (w.heap.size + 1) 1 _ _ r1
  have g0 := frozen_of_row w4 (w.heap.size + 2) 0 _ _ r2
  have g1 := frozen_of_row w4 (w.heap.size + 2) 1 _ _ r2
  have g2 := frozen_of_row w4 (w.heap.size + 2) 2 _ _ r2
  have g3 := frozen_of_row w4 (w.heap.size + 2) 3 _ _ r2
  have HW4 := Lib.hid hw4
  have HB4 := Lib.hid (bt HB0.out b04)
  have HR1 := Lib.hid r1
  have HR2 := Lib.hid r2
  have hz2 := (bt HB0.out HB2.out).size
  have hz4 := HB4.out.size
  have hz1 : w.heap.size + 3 ≤ w1.heap.size := by rw [← HZ.out]; exact HZ1.out
  have hz3 : w.heap.size + 3 ≤ w3.heap.size := by have := b3.size; have := HB2.out.size; rw [HZ.out] at this; omega
  clear b3 b34 b24 b04 q4 q2 r1 r2 hw4
  have n1 : w1.heap.size ≠ w.heap.size + 1 := by omega
  have n2 : w1.heap.size ≠ w.heap.size + 2 := by omega
  have n3 : w3.heap.size ≠ w.heap.size + 1 := by omega
  have n4 : w3.heap.size ≠ w.heap.size + 2 := by omega
  go_wp2_with fail
  rw [← HW4.out]
  have KEY := Lib.hid (fun (W : World) (h : Q4 w1.heap.size w3.heap.size (.bool true) (.int .i64 (oM ot p a : Nat)) (.bool true) (.int .i64 (oM ot' q a : Nat)) W) => show W.cell? ⟨w1.heap.size, 0, none⟩ = some (.bool true) ∧ W.cell? ⟨w1.heap.size, 1, none⟩ = some (.int .i64 (oM ot p a : Nat)) ∧ W.cell? ⟨w3.heap.size, 0, none⟩ = some (.bool true) ∧ W.cell? ⟨w3.heap.size, 1, none⟩ = some (.int .i64 (oM ot' q a : Nat)) from h)
  have KZ := Lib.hid (show Q4 w1.heap.size w3.heap.size (.bool true) (.int .i64 (oM ot p a : Nat)) (.bool true) (.int .i64 (oM ot' q a : Nat)) w4 from ⟨s1, s2, s3, s4⟩)
  go_region_held3 (fun w' => w'.cell? ⟨w1.heap.size, 0, none⟩ = some (.bool true) ∧ w'.cell? ⟨w1.heap.size, 1, none⟩ = some (.int .i64 (oM ot p a : Nat)) ∧ w'.cell? ⟨w3.heap.size, 0, none⟩ = some (.bool true) ∧ w'.cell? ⟨w3.heap.size, 1, none⟩ = some (.int .i64 (oM ot' q a : Nat)))
    ((refine KEY.out _ ?_; repeat (first | (with_reducible exact KZ.out) | (with_reducible apply Q4.drew) | (with_reducible apply Q4.set _ (by omega) (by omega))))) (fail)
  obtain ⟨W, hW, e1, e2, e3⟩ := six_sets HR1.out HR2.out HB4.out (.int .i64 (nN nx p a : Nat)) (.int .i64 (nN nx' q a : Nat)) (.bool true) (.int .i64 (oM ot p a : Nat)) (.bool true) (.int .i64 (oM ot' q a : Nat))
  rw [hW]
  clear hW s1 s2 s3 s4 u0 u1 v0 v1 v2 v3 f0 f1 g0 g1 g2 g3
  go_wp2
  (try simp only [Exit.inBlock, Exit.then])
  refine bodyPost_ret (results_two_rows (by rfl) _ _ (w.heap.size + 1) (w.heap.size + 1 + 1) _ _ rfl (load_pairc e1) rfl (load_outputs e2)) rfl ?_
  exact ⟨rfl, e3⟩
end Go.Proofs.Ytogcecfeofbbnaa
end

section
/- The machine of the pairs: the walk. -/
namespace Go.Proofs.Ytogcecfeofbbnaa
open Go.RowKit Go.ChangeMaps

/-- What a composition answers. -/
def MacP (base i : Nat) (N T : List (List Int)) (n : Nat) (ok : Prop) (e : Ending) (w' : World) : Prop :=
  (ok ∧ ∃ A c B d, e = .returned (.tuple #[.agg #[.int .i64 i, .int .i64 0, .slice A n c, .slice B n d], .int .i64 0]) ∧ OwnedL w' base (.slice A n c) N ∧ OwnedL w' base (.slice B n d) T) ∨
  (¬ ok ∧ e = .returned (.tuple #[.agg #[.int .i64 0, .int .i64 0, .slice none 0 0, .slice none 0 0], .int .i64 11]))
def Prc (W : World) (g i s t ks kn : Nat) (cs cn : Array Value) : Prop := W.heap[g]? = some (.cells #[.int .i64 i, .int .i64 s, .int .i64 t, .func (.func ks) #[] cs, .func (.func kn) #[] cn] 100 (0, 0))
theorem Prc.cells {W : World} {g i s t ks kn : Nat} {cs cn : Array Value} (h : Prc W g i s t ks kn cs cn) : W.cell? ⟨g, 0, none⟩ = some (.int .i64 i) ∧ W.cell? ⟨g, 1, none⟩ = some (.int .i64 s) ∧ W.cell? ⟨g, 2, none⟩ = some (.int .i64 t) ∧ W.cell? ⟨g, 3, none⟩ = some (.func (.func ks) #[] cs) ∧ W.cell? ⟨g, 4, none⟩ = some (.func (.func kn) #[] cn) :=
  ⟨cell_of_row W g 0 _ _ (0, 0) h, cell_of_row W g 1 _ _ (0, 0) h, cell_of_row W g 2 _ _ (0, 0) h, cell_of_row W g 3 _ _ (0, 0) h, cell_of_row W g 4 _ _ (0, 0) h⟩
theorem Prc.kept {W W' : World} {g i s t ks kn B : Nat} {cs cn : Array Value} (h : Prc W g i s t ks kn cs cn) (hb : Below B W W') (hg : g < B) : Prc W' g i s t ks kn cs cn := (hb.block g hg).trans h
theorem take_mapC {β : Type} (g : Ent → β) {E R : List Ent} {j : Nat} (hR : ∃ T, R = E ++ T) (hj : j < E.length) : (R.map g).take j ++ [g (E.getD j Ent.zero)] = (R.map g).take (j + 1) := by
  obtain ⟨T, rfl⟩ := hR
  have h1 : j < ((E ++ T).map g).length := by simp; omega
  rw [List.take_succ_eq_append_getElem h1, List.getElem_map, List.getElem_append_left hj, getDE_at hj]
theorem plE_finC {E R : List Ent} {y : Nat × Nat} (hR : ∃ T, R = E ++ T) (h : y ∈ E.map Ent.pr) : plE R y = plE E y := by
  obtain ⟨T, rfl⟩ := hR
  exact plE_pre h
theorem addE_memC (E : List Ent) (e : Ent) : e.pr ∈ (addE E e).map Ent.pr := by
  unfold addE
  split
  · assumption
  · rw [List.map_append]; simp
theorem adG_leC (F : Nat × Nat → Nat → Nat × Nat) (j : Nat) (e : Ent) (E : List Ent) (x : Nat) : ∀ d, ∃ T, adG F j e E (x + d) = adG F j e E x ++ T
  | 0 => ⟨[], by simp⟩
  | d + 1 => by
    obtain ⟨T, hT⟩ := adG_leC F j e E x d
    show ∃ T, addE (adG F j e E (x + d)) _ = _
    unfold addE
    split
    · exact ⟨T, hT⟩
    · exact ⟨T ++ [nxG F j e (x + d)], by rw [hT, List.append_assoc]; rfl⟩
theorem adG_finC {F : Nat × Nat → Nat → Nat × Nat} {i n m s t j x : Nat} {E R : List Ent} (hF : Stp F i n m) (hE : Ens n m s t E) (hj : j < E.length) (hex : exG F i (n * m) E j = R) (hx : x ≤ i) : ∃ T, R = adG F j (E.getD j Ent.zero) E x ++ T := by
  obtain ⟨T, hT⟩ := adG_leC F j (E.getD j Ent.zero) E x (i - x)
  rw [show x + (i - x) = i by omega] at hT
  obtain ⟨U, hU⟩ := exG_pre F i (n * m) (adG F j (E.getD j Ent.zero) E i) (j + 1)
  rw [exG_on hF hE hj, hex] at hU
  exact ⟨T ++ U, by rw [hU, hT, List.append_assoc]⟩
/-- The outputs of the first pairs are small. -/
def OkTo (O : Nat × Nat → Nat → Nat) (i : Nat) (R : List Ent) (j : Nat) : Prop := ∀ k, k < j → ∀ a, a < i → O (R.getD k Ent.zero).pr a ≤ 1048576
/-- Those of one pair, up to an input. -/
def OkRow (O : Nat × Nat → Nat → Nat) (e : Ent) (x : Nat) : Prop := ∀ a, a < x → O e.pr a ≤ 1048576
theorem OkTo.zero (O : Nat × Nat → Nat → Nat) (i : Nat) (R : List Ent) : OkTo O i R 0 := fun _ h => absurd h (by omega)
theorem OkRow.zero (O : Nat × Nat → Nat → Nat) (e : Ent) : OkRow O e 0 := fun _ h => absurd h (by omega)
theorem OkRow.succ {O : Nat × Nat → Nat → Nat} {e : Ent} {x : Nat} (h : OkRow O e x) (h1 : O e.pr x ≤ 1048576) : OkRow O e (x + 1) := fun a ha => by
  by_cases hx : a = x
  · subst hx; exact h1
  · exact h a (by omega)
theorem OkTo.succ {O : Nat × Nat → Nat → Nat} {i : Nat} {R : List Ent} {j : Nat} (h : OkTo O i R j) (h1 : OkRow O (R.getD j Ent.zero) i) : OkTo O i R (j + 1) := fun k hk => by
  by_cases hx : k = j
  · subst hx; exact h1
  · exact h k (by omega)
/-- Rows of zeros. -/
def mkZ (n : Nat) : List Value := (List.replicate n (0 : Int)).map (Value.int .i64)
theorem run_make_zeros (n : Nat) (hn : n ≤ 1024) (w : World) : (Instr.makeSlice 27 (.int .i64 n) (.int .i64 n)).run Try.prog w = .ok (.slice (some ⟨w.heap.size, 0, none⟩) n n) (w.alloc (.cells (mkZ n).toArray 3)) := by
  obtain ⟨i, hi, hz0, hz1, hz2⟩ := info_parts info3
  have h := run_make (P := Try.prog) w 27 3 i _ Try.underlying27 hi hz0 .i64 .i64 n n (by omega) (by omega) (by rw [hz2]; omega) (by omega)
  rw [h, hz1]
  have e : madeCells (Value.int .i64 0).cells ((n : Int).toNat * 1) = (mkZ n).toArray := by
    apply Array.ext'
    rw [Int.toNat_natCast, made_ints]; rfl
  rw [e]; simp
theorem getLc_at {E : List Ent} {k : Nat} (h : k < E.length) : (E.map cellsL).getD k [] = [.int .i64 (E.getD k Ent.zero).p, .int .i64 (E.getD k Ent.zero).q] := by
  rw [getD_mapE _ _ h]; rfl
theorem below_dr {z : Nat} {w W : World} (h : Below z w W) : Below z w W.drew := below_drewN h 1
theorem below_al {z : Nat} {w W : World} {o : Obj} (hz : z ≤ W.heap.size) (h : Below z w W) : Below z w (W.alloc o) := h.alloc hz o
theorem below_st {z g j : Nat} {w W : World} {v : Value} (hz : z ≤ g) (h : Below z w W) : Below z w (W.setCell ⟨g, j, none⟩ v) := h.setCell (p := ⟨g, j, none⟩) hz v
theorem bcellC {W w1 : World} (hb : Below W.heap.size W w1) : (∀ b o, b < W.heap.size → w1.cell? ⟨b, o, none⟩ = W.cell? ⟨b, o, none⟩) ∧ (∀ b o, b < W.heap.size → w1.frozen? ⟨b, o, none⟩ = W.frozen? ⟨b, o, none⟩) :=
  ⟨fun b o h => hb.cell (p := ⟨b, o, none⟩) h, fun b o h => hb.frozen (p := ⟨b, o, none⟩) h⟩
theorem after2 {W w8 : World} {b : Nat} {x y : Value} {t : TypeId} (b8 : Below W.heap.size W w8) (h : W.heap[b]? = some (.cells #[x, y] t (0, 0))) : w8.cell? ⟨b, 0, none⟩ = some x ∧ w8.cell? ⟨b, 1, none⟩ = some y ∧ w8.frozen? ⟨b, 0, none⟩ = false ∧ w8.frozen? ⟨b, 1, none⟩ = false ∧ (∀ o, (w8.alloc o).cell? ⟨b, 0, none⟩ = some x) ∧ (∀ o, (w8.alloc o).cell? ⟨b, 1, none⟩ = some y) ∧ (∀ o, (w8.alloc o).frozen? ⟨b, 0, none⟩ = false) ∧ (∀ o, (w8.alloc o).frozen? ⟨b, 1, none⟩ = false) ∧ w8.heap.size ≠ b ∧ b ≠ w8.heap.size ∧ w8.heap[b]? = some (.cells #[x, y] t (0, 0)) := by
  have h8 := (b8.block b (heap_lt h)).trans h
  have h9 : ∀ o, (w8.alloc o).heap[b]? = some (.cells #[x, y] t (0, 0)) := fun o => ((alloc_below w8 o).block b (heap_lt h8)).trans h8
  exact ⟨cell_of_row w8 b 0 _ _ (0, 0) h8, cell_of_row w8 b 1 _ _ (0, 0) h8, frozen_of_row w8 b 0 _ _ h8, frozen_of_row w8 b 1 _ _ h8, fun o => cell_of_row _ b 0 _ _ (0, 0) (h9 o), fun o => cell_of_row _ b 1 _ _ (0, 0) (h9 o), fun o => frozen_of_row _ b 0 _ _ (h9 o), fun o => frozen_of_row _ b 1 _ _ (h9 o), Nat.ne_of_gt (heap_lt h8), Nat.ne_of_lt (heap_lt h8), h8⟩
theorem after4 {W w8 : World} {b : Nat} {x y u v : Value} {t : TypeId} (b8 : Below W.heap.size W w8) (h : W.heap[b]? = some (.cells #[x, y, u, v] t (0, 0))) : w8.cell? ⟨b, 0, none⟩ = some x ∧ w8.cell? ⟨b, 1, none⟩ = some y ∧ w8.cell? ⟨b, 2, none⟩ = some u ∧ w8.cell? ⟨b, 3, none⟩ = some v ∧ w8.frozen? ⟨b, 0, none⟩ = false ∧ w8.frozen? ⟨b, 1, none⟩ = false ∧ w8.frozen? ⟨b, 2, none⟩ = false ∧ w8.frozen? ⟨b, 3, none⟩ = false ∧ (∀ o, (w8.alloc o).cell? ⟨b, 0, none⟩ = some x) ∧ (∀ o, (w8.alloc o).cell? ⟨b, 1, none⟩ = some y) ∧ (∀ o, (w8.alloc o).cell? ⟨b, 2, none⟩ = some u) ∧ (∀ o, (w8.alloc o).cell? ⟨b, 3, none⟩ = some v) ∧ (∀ o, (w8.alloc o).frozen? ⟨b, 0, none⟩ = false) ∧ (∀ o, (w8.alloc o).frozen? ⟨b, 1, none⟩ = false) ∧ (∀ o, (w8.alloc o).frozen? ⟨b, 2, none⟩ = false) ∧ (∀ o, (w8.alloc o).frozen? ⟨b, 3, none⟩ = false) ∧ w8.heap.size ≠ b ∧ b ≠ w8.heap.size ∧ w8.heap[b]? = some (.cells #[x, y, u, v] t (0, 0)) := by
  have h8 := (b8.block b (heap_lt h)).trans h
  have h9 : ∀ o, (w8.alloc o).heap[b]? = some (.cells #[x, y, u, v] t (0, 0)) := fun o => ((alloc_below w8 o).block b (heap_lt h8)).trans h8
  exact ⟨cell_of_row w8 b 0 _ _ (0, 0) h8, cell_of_row w8 b 1 _ _ (0, 0) h8, cell_of_row w8 b 2 _ _ (0, 0) h8, cell_of_row w8 b 3 _ _ (0, 0) h8, frozen_of_row w8 b 0 _ _ h8, frozen_of_row w8 b 1 _ _ h8, frozen_of_row w8 b 2 _ _ h8, frozen_of_row w8 b 3 _ _ h8, fun o => cell_of_row _ b 0 _ _ (0, 0) (h9 o), fun o => cell_of_row _ b 1 _ _ (0, 0) (h9 o), fun o => cell_of_row _ b 2 _ _ (0, 0) (h9 o), fun o => cell_of_row _ b 3 _ _ (0, 0) (h9 o), fun o => frozen_of_row _ b 0 _ _ (h9 o), fun o => frozen_of_row _ b 1 _ _ (h9 o), fun o => frozen_of_row _ b 2 _ _ (h9 o), fun o => frozen_of_row _ b 3 _ _ (h9 o), Nat.ne_of_gt (heap_lt h8), Nat.ne_of_lt (heap_lt h8), h8⟩
/-- Blocks but those of pairs are as they were. -/
def KeptP (w w' : World) : Prop := ∀ t, t ≠ 90 → KeptT t w w'
theorem KeptP.of {w w' : World} (h : Below w.heap.size w w') : KeptP w w' := fun _ _ => KeptT.of_below h
theorem KeptP.trans {a b c : World} (h : KeptP a b) (k : KeptP b c) : KeptP a c := fun t ht => (h t ht).trans (k t ht)
theorem KeptP.later {w w' : World} {g k : Nat} {v : Value} (h : KeptP w w') (hg : w.heap.size ≤ g) : KeptP w (w'.setCell ⟨g, k, none⟩ v) := fun t ht => (h t ht).later hg
/-- The boxes of a step's results. -/
def BoxO (w : World) (v11 v12 : Value) (a b o0 o1 o2 o3 : Value) (W : World) : Prop := ∃ gp go, v11 = .pointer (some ⟨gp, 0, none⟩) ∧ v12 = .pointer (some ⟨go, 0, none⟩) ∧ W.heap[gp]? = some (.cells #[a, b] 90 (0, 0)) ∧ W.heap[go]? = some (.cells #[o0, o1, o2, o3] 94 (0, 0)) ∧ Below w.heap.size w W
theorem set2_blk {W : World} {g : Nat} {x y : Value} {t : TypeId} (h : W.heap[g]? = some (.cells #[x, y] t (0, 0))) (u v : Value) : ((W.setCell ⟨g, 0, none⟩ u).setCell ⟨g, 1, none⟩ v).heap[g]? = some (.cells #[u, v] t (0, 0)) :=
  heap_setCell_same _ g 1 _ _ v (heap_setCell_same W g 0 _ _ u h)
theorem set4_blk {W : World} {g : Nat} {x y x' y' : Value} {t : TypeId} (h : W.heap[g]? = some (.cells #[x, y, x', y'] t (0, 0))) (a b c d : Value) : ((((W.setCell ⟨g, 0, none⟩ a).setCell ⟨g, 1, none⟩ b).setCell ⟨g, 2, none⟩ c).setCell ⟨g, 3, none⟩ d).heap[g]? = some (.cells #[a, b, c, d] t (0, 0)) := by
  have h1 := heap_setCell_same W g 0 _ _ a h
  have h2 := heap_setCell_same _ g 1 _ _ b h1
  have h3 := heap_setCell_same _ g 2 _ _ c h2
  exact heap_setCell_same _ g 3 _ _ d h3
theorem set_blk_far {W : World} {g k j : Nat} {o : Obj} (v : Value) (h : W.heap[k]? = some o) (hn : k ≠ g) : (W.setCell ⟨g, j, none⟩ v).heap[k]? = some o := (heap_setCell_other W ⟨g, j, none⟩ k v hn).trans h
theorem below_st2 {z g : Nat} {w W : World} {u v : Value} (hz : z ≤ g) (h : Below z w W) : Below z w ((W.setCell ⟨g, 0, none⟩ u).setCell ⟨g, 1, none⟩ v) := below_st hz (below_st hz h)
theorem below_st4 {z g : Nat} {w W : World} {a b c d : Value} (hz : z ≤ g) (h : Below z w W) : Below z w ((((W.setCell ⟨g, 0, none⟩ a).setCell ⟨g, 1, none⟩ b).setCell ⟨g, 2, none⟩ c).setCell ⟨g, 3, none⟩ d) := below_st hz (below_st hz (below_st2 hz h))
theorem BoxO.sets4 {w W : World} {ga gb : Nat} {p q x0 x1 x2 x3 : Value} (hA : W.heap[ga]? = some (.cells #[p, q] 90 (0, 0))) (hB : W.heap[gb]? = some (.cells #[x0, x1, x2, x3] 94 (0, 0))) (hn : ga ≠ gb) (hb : w.heap.size ≤ gb) (h : Below w.heap.size w W) (a b c d : Value) :
    BoxO w (.pointer (some ⟨ga, 0, none⟩)) (.pointer (some ⟨gb, 0, none⟩)) p q a b c d ((((W.setCell ⟨gb, 0, none⟩ a).setCell ⟨gb, 1, none⟩ b).setCell ⟨gb, 2, none⟩ c).setCell ⟨gb, 3, none⟩ d) := by
  refine ⟨_, _, rfl, rfl, ?_, set4_blk hB a b c d, below_st4 hb h⟩
  exact set_blk_far d (set_blk_far c (set_blk_far b (set_blk_far a hA hn) hn) hn) hn
theorem BoxO.sets {w W : World} {ga gb : Nat} {x y x0 x1 x2 x3 : Value} (hA : W.heap[ga]? = some (.cells #[x, y] 90 (0, 0))) (hB : W.heap[gb]? = some (.cells #[x0, x1, x2, x3] 94 (0, 0))) (hn : ga ≠ gb) (ha : w.heap.size ≤ ga) (hb : w.heap.size ≤ gb) (h : Below w.heap.size w W) (p q a b c d : Value) :
    BoxO w (.pointer (some ⟨ga, 0, none⟩)) (.pointer (some ⟨gb, 0, none⟩)) p q a b c d ((((((W.setCell ⟨ga, 0, none⟩ p).setCell ⟨ga, 1, none⟩ q).setCell ⟨gb, 0, none⟩ a).setCell ⟨gb, 1, none⟩ b).setCell ⟨gb, 2, none⟩ c).setCell ⟨gb, 3, none⟩ d) :=
  BoxO.sets4 (set2_blk hA p q) (set_blk_far q (set_blk_far p hB (Ne.symm hn)) (Ne.symm hn)) hn hb (below_st2 ha h) a b c d
theorem BoxO.ab {w w8 : World} (h : Below w.heap.size w w8) (p q a b c d : Value) : BoxO w (.pointer (some ⟨w8.heap.size, 0, none⟩)) (.pointer (some ⟨w8.heap.size + 1, 0, none⟩)) p q a b c d ((w8.alloc (.cells #[p, q] 90)).alloc (.cells #[a, b, c, d] 94)) := by
  have := h.size
  exact ⟨_, _, rfl, rfl, heap_alloc2_old _ _ _, heap_alloc2_new _ _ _, below_al (by simp; omega) (below_al this h)⟩
theorem BoxO.ba {w w8 : World} (h : Below w.heap.size w w8) (p q a b c d : Value) : BoxO w (.pointer (some ⟨w8.heap.size + 1, 0, none⟩)) (.pointer (some ⟨w8.heap.size, 0, none⟩)) p q a b c d ((w8.alloc (.cells #[a, b, c, d] 94)).alloc (.cells #[p, q] 90)) := by
  have := h.size
  exact ⟨_, _, rfl, rfl, heap_alloc2_new _ _ _, heap_alloc2_old _ _ _, below_al (by simp; omega) (below_al this h)⟩
theorem Owned.offB {w : World} {base g g' n c k : Nat} {xs : List Int} {v : Value} (h : Owned w base (.slice (some ⟨g, 0, none⟩) n c) xs) (hn : g ≠ g') : Owned (w.setCell ⟨g', k, none⟩ v) base (.slice (some ⟨g, 0, none⟩) n c) xs := by
  refine h.keptB (u := .slice (some ⟨g', 0, none⟩) 0 0) (fun b o e hne => set_blk_far v e fun e2 => hne (by rw [e2]; rfl)) (fun b e1 e2 => hn ?_)
  injection e1 with e1
  injection e2 with e2
  exact (show g = b from e2).trans (show g' = b from e1).symm
theorem addE_le {E : List Ent} {e : Ent} (h : E.length ≤ 128) (h2 : plcE (addE E e) e.p e.q < 128) : (addE E e).length ≤ 128 := by
  by_cases hin : hasE E e.p e.q
  · rw [addE_in hin]; exact h
  · rw [addE_out hin] at h2 ⊢
    have : plcE (E ++ [e]) e.p e.q = E.length := by
      unfold plcE
      rw [List.map_append, List.idxOf_append, if_neg (show ¬ (e.p, e.q) ∈ E.map Ent.pr from hin)]
      simp [Ent.pr]
    rw [List.length_append]; simp; omega
theorem MacP.bad {base i n : Nat} {N T : List (List Int)} {ok : Prop} {w' : World} (h : ¬ ok) : MacP base i N T n ok (.returned (.tuple #[.agg #[.int .i64 0, .int .i64 0, .slice none 0 0, .slice none 0 0], .int .i64 11])) w' := .inr ⟨h, rfl⟩
theorem Mblk.set4' {w : World} {g : Nat} {a b c d : Value} (h : Mblk w g a b c d) (a' b' c' d' : Value) {t : TypeId} (ht : t ≠ 24) :
    KeptT t w ((((w.setCell ⟨g, 0, none⟩ a').setCell ⟨g, 1, none⟩ b').setCell ⟨g, 2, none⟩ c').setCell ⟨g, 3, none⟩ d') := by
  have h1 := heap_setCell_same w g 0 _ _ a' h
  have h2 := heap_setCell_same _ g 1 _ _ b' h1
  have h3 := heap_setCell_same _ g 2 _ _ c' h2
  exact (((KeptT.off h ht a').trans (KeptT.off h1 ht b')).trans (KeptT.off h2 ht c')).trans (KeptT.off h3 ht d')
theorem MresEnd {W w0 : World} {base g i : Nat} {N T : List (List Int)} {AN AT A A2 A3 : Option Addr} {cN cT c gm c2 c3 : Nat} {xs ys : List Int} {E : List Ent} (h : PreC W base g i N T AN AT cN cT xs ys E A c gm w0 A2 c2 A3 c3) (hg : base ≤ g) :
    Mres ((W.setCell ⟨g, 2, none⟩ (.slice A2 (N.length + 1) c2)).setCell ⟨g, 3, none⟩ (.slice A3 (T.length + 1) c3)) base g i (N ++ [xs]) (T ++ [ys]) A2 A3 c2 c3 ∧
    Fnd ((W.setCell ⟨g, 2, none⟩ (.slice A2 (N.length + 1) c2)).setCell ⟨g, 3, none⟩ (.slice A3 (T.length + 1) c3)) base E A c gm ∧
    Below base w0 ((W.setCell ⟨g, 2, none⟩ (.slice A2 (N.length + 1) c2)).setCell ⟨g, 3, none⟩ (.slice A3 (T.length + 1) c3)) ∧ True ∧ True := by
  have h2 := h.blk.set2 (.slice A2 (N.length + 1) c2)
  have h3 := h2.set3 (.slice A3 (T.length + 1) c3)
  have k2 : ∀ t, t ≠ 24 → KeptT t W ((W.setCell ⟨g, 2, none⟩ (.slice A2 (N.length + 1) c2)).setCell ⟨g, 3, none⟩ (.slice A3 (T.length + 1) c3)) := fun t ht => (KeptT.off h.blk ht _).trans (KeptT.off h2 ht _)
  refine ⟨⟨by rw [List.length_append, List.length_append]; exact h3, ?_, ?_, by rw [List.length_append, List.length_append]; exact h.ap⟩, h.fnd.mv (k2 _ (by decide)) ((KeptM.off h.blk _).trans (KeptM.off h2 _)), below_st hg (below_st hg h.bel), trivial, trivial⟩
  · rw [List.length_append]; exact h.nx.keptT (k2 _ (by decide)) (k2 _ (by decide))
  · rw [List.length_append]; exact h.ot.keptT (k2 _ (by decide)) (k2 _ (by decide))
theorem cellAl {w : World} {o : Obj} {p : Addr} {v : Value} (h : w.cell? p = some v) : (w.alloc o).cell? p = some v := ((alloc_below w o).cell (World.block_lt_of_cell? w p h)).trans h
/-- What a lookup says. -/
def LookS (E : List Ent) (e : Ent) (n0 : Nat) (kb : Bool) : Prop := (kb = true ∧ hasE E e.p e.q ∧ n0 = plcE E e.p e.q) ∨ (kb = false ∧ ¬ hasE E e.p e.q)
/-- Two rows of zeros, apart. -/
def TwoR (w : World) (i : Nat) (v8 v9 : Value) (W : World) : Prop := ∃ g1 g2, v8 = .slice (some ⟨g1, 0, none⟩) i i ∧ v9 = .slice (some ⟨g2, 0, none⟩) i i ∧ g1 ≠ g2 ∧ w.heap.size ≤ g1 ∧ w.heap.size ≤ g2 ∧
  Owned W w.heap.size (.slice (some ⟨g1, 0, none⟩) i i) (List.replicate i 0) ∧ Owned W w.heap.size (.slice (some ⟨g2, 0, none⟩) i i) (List.replicate i 0) ∧ Below w.heap.size w W
theorem TwoR.two (w : World) (i : Nat) (hi : i ≤ 1024) : Owned ((w.alloc (.cells (mkZ i).toArray 3)).alloc (.cells (mkZ i).toArray 3)).drew w.heap.size (.slice (some ⟨w.heap.size, 0, none⟩) i i) (List.replicate i 0) ∧
    Owned ((w.alloc (.cells (mkZ i).toArray 3)).alloc (.cells (mkZ i).toArray 3)).drew w.heap.size (.slice (some ⟨w.heap.size + 1, 0, none⟩) i i) (List.replicate i 0) ∧ Below w.heap.size w ((w.alloc (.cells (mkZ i).toArray 3)).alloc (.cells (mkZ i).toArray 3)).drew := by
  have h1 := Owned.literal w w.heap.size (List.replicate i 0) (mkZ i).toArray i (Nat.le_refl _) rfl (by simp) (by simp; omega)
  have hz : (w.alloc (.cells (mkZ i).toArray 3)).heap.size = w.heap.size + 1 := by simp
  have h2 := Owned.literal (w.alloc (.cells (mkZ i).toArray 3)) w.heap.size (List.replicate i 0) (mkZ i).toArray i (by simp) rfl (by simp) (by simp; omega)
  rw [hz] at h2
  exact ⟨(h1.kept (alloc_below _ _)).kept (below_drewN (Below.refl _ _) 1), h2.kept (below_drewN (Below.refl _ _) 1), below_drewN ((alloc_below w _).alloc (by simp) _) 1⟩
theorem TwoR.ab (w : World) (i : Nat) (hi : i ≤ 1024) : TwoR w i (.slice (some ⟨w.heap.size, 0, none⟩) i i) (.slice (some ⟨w.heap.size + 1, 0, none⟩) i i) ((w.alloc (.cells (mkZ i).toArray 3)).alloc (.cells (mkZ i).toArray 3)).drew := by
  obtain ⟨h1, h2, h3⟩ := TwoR.two w i hi
  exact ⟨_, _, rfl, rfl, by omega, Nat.le_refl _, Nat.le_succ _, h1, h2, h3⟩
theorem TwoR.ba (w : World) (i : Nat) (hi : i ≤ 1024) : TwoR w i (.slice (some ⟨w.heap.size + 1, 0, none⟩) i i) (.slice (some ⟨w.heap.size, 0, none⟩) i i) ((w.alloc (.cells (mkZ i).toArray 3)).alloc (.cells (mkZ i).toArray 3)).drew := by
  obtain ⟨h1, h2, h3⟩ := TwoR.two w i hi
  exact ⟨_, _, rfl, rfl, by omega, Nat.le_succ _, Nat.le_refl _, h2, h1, h3⟩
set_option linter.unusedSimpArgs false in
set_option maxHeartbeats 8000000 in
set_option maxRecDepth 100000 in
theorem pmachine (ks kn : Nat) (cs cn : Array Value) (F : Nat × Nat → Nat → Nat × Nat) (O : Nat × Nat → Nat → Nat) (i n m s t : Nat) (w : World) (hF : Stp F i n m) (hs : s < n) (ht : t < m) (hn : n ≤ 1024) (hm : m ≤ 1024) (hi1 : 1 ≤ i) (hi : i ≤ 1024)
    (hO : ∀ p q x, p < n → q < m → x < i → O (p, q) x ≤ 4611686018427387904) (hst : StepO ks kn cs cn F O i n m w) :
    Calls Try.prog 70 #[.agg #[.int .i64 i, .int .i64 s, .int .i64 t, .func (.func ks) #[] cs, .func (.func kn) #[] cn]] w fun e w' =>
      MacP w.heap.size i (autN F i (fdG F i n m s t)) (outN O i (fdG F i n m s t)) (fdG F i n m s t).length (Fits O i (fdG F i n m s t)) e w' ∧ Below w.heap.size w w' := by
  obtain ⟨R, hR⟩ : ∃ R, R = fdG F i n m s t := ⟨_, rfl⟩
  rw [← hR]
  have HR := Lib.hid (show exG F i (n * m) [⟨s, t, 0, 0, []⟩] 0 = R from hR.symm)
  have hnm : n * m ≤ 1048576 := Nat.mul_le_mul hn hm
  have es := hst.1
  have en := hst.2.1
  obtain ⟨w0, hw0⟩ : ∃ w0, w0 = (w.alloc (.cells #[.int .i64 i, .int .i64 s, .int .i64 t, .func (.func ks) #[] cs, .func (.func kn) #[] cn] 100)).alloc (.cells #[.int .i64 0, .int .i64 0, .slice none 0 0, .slice none 0 0] 24) := ⟨_, rfl⟩
  have hb0 : Below w.heap.size w w0 := by rw [hw0]; exact (alloc_below _ _).alloc (by simp) _
  have hz0 : w0.heap.size = w.heap.size + 2 := by rw [hw0]; simp
  have hP0 : Prc w0 w.heap.size i s t ks kn cs cn := by
    rw [hw0]
    exact ((alloc_below (w.alloc (.cells #[.int .i64 i, .int .i64 s, .int .i64 t, .func (.func ks) #[] cs, .func (.func kn) #[] cn] 100)) _).block _ (by simp)).trans (heap_alloc_new w _)
  have hR0 : Mblk w0 (w.heap.size + 1) (.int .i64 0) (.int .i64 0) (.slice none 0 0) (.slice none 0 0) := by
    rw [hw0]
    have := mealy_box (w.alloc (.cells #[.int .i64 i, .int .i64 s, .int .i64 t, .func (.func ks) #[] cs, .func (.func kn) #[] cn] 100)) (.int .i64 0) (.int .i64 0) (.slice none 0 0) (.slice none 0 0)
    simpa using this
  -- the machine, the first pair, the map
  obtain ⟨wd, hwd⟩ : ∃ wd, wd = w0.alloc (.cells #[.int .i64 i, .int .i64 0, .slice none 0 0, .slice none 0 0] 24) := ⟨_, rfl⟩
  have hbd : Below w0.heap.size w0 wd := by rw [hwd]; exact alloc_below _ _
  have hzd : wd.heap.size = w0.heap.size + 1 := by rw [hwd]; simp
  have hMd : Mres wd w0.heap.size w0.heap.size i [] [] none none 0 0 := ⟨by rw [hwd]; exact mealy_box w0 _ _ _ _, OwnedL.nil _ _, OwnedL.nil _ _, Apart.nil _⟩
  obtain ⟨wf, hwf⟩ : ∃ wf, wf = wd.alloc (.cells #[.int .i64 s, .int .i64 t] 90) := ⟨_, rfl⟩
  have hbf : Below wd.heap.size wd wf := by rw [hwf]; exact alloc_below _ _
  have hzf : wf.heap.size = wd.heap.size + 1 := by rw [hwf]; simp
  have hLf : Rws wf w0.heap.size 90 2 (.slice (some ⟨wd.heap.size, 0, none⟩) 1 1) [[.int .i64 s, .int .i64 t]] := by
    rw [hwf]
    exact Rws.one wd w0.heap.size 90 [.int .i64 s, .int .i64 t] (by omega)
  obtain ⟨wm, hwm⟩ : ∃ wm, wm = wf.alloc (.map #[] 0) := ⟨_, rfl⟩
  have hbm : Below wf.heap.size wf wm := by rw [hwm]; exact alloc_below _ _
  have hNm : NumIs 90 wm wf.heap.size [] := by rw [hwm]; exact NumIs.made _ _
  obtain ⟨w1, r1, n1, g1⟩ := hNm.put keyT_pairc (isK_pairc (a := s) (b := t) (by omega) (by omega)) (by simp) (by simp)
  have hb01 : Below w0.heap.size w0 wm := bt hbd (bt hbf hbm)
  have hb1 : Below w0.heap.size w0 w1 := hb01.trans ((Below.refl _ _).grown g1 hb01.size (fun k hk => by cases hk; omega))
  have hLm : Rws w1 w0.heap.size 90 2 (.slice (some ⟨wd.heap.size, 0, none⟩) 1 1) [[.int .i64 s, .int .i64 t]] := (hLf.kept hbm).apartMap hNm g1
  have hkk : ∀ ty, KeptT ty wm w1 := fun ty g' cs hh => by
    obtain ⟨es, ck, hmb⟩ := hNm.block
    refine (g1.block g' (heap_lt hh) fun e2 => ?_).trans hh
    have : wf.heap.size = g' := by injection e2 with e2; exact e2.symm
    subst this
    rw [hmb] at hh
    cases hh
  have hM1 : Mres w1 w0.heap.size w0.heap.size i [] [] none none 0 0 := (hMd.kept (bt hbf hbm)).keptT fun ty _ => hkk ty
  have hE1 : Fnd w1 w0.heap.size [⟨s, t, 0, 0, []⟩] (some ⟨wd.heap.size, 0, none⟩) 1 wf.heap.size := ⟨hLm, by simpa [keyE] using n1, by omega⟩
  obtain ⟨k0, k1, k2, k3, k4⟩ := hP0.cells
  obtain ⟨l0, l1, l2, l3, l4⟩ := (hP0.kept hbd (show w.heap.size < w0.heap.size by omega)).cells
  obtain ⟨m0, m1, m2, m3, m4⟩ := (hP0.kept hb01 (show w.heap.size < w0.heap.size by omega)).cells
  have r1 : (Instr.mapUpdate 127 (.map (some wf.heap.size)) (.agg #[.int .i64 s, .int .i64 t]) (.int .i64 0)).run Try.prog wm = .ok () w1 := r1
  have ez0 : w0.heap.size = w.heap.size + 1 + 1 := hz0
  have ezd : wd.heap.size = w.heap.size + 1 + 1 + 1 := by rw [hzd, ez0]
  have ezf : wf.heap.size = w.heap.size + 1 + 1 + 1 + 1 := by rw [hzf, ezd]
  have HP0 := Lib.hid hP0
  have HR0 := Lib.hid hR0
  have HB0 := Lib.hid hb0
  have HB1 := Lib.hid hb1
  have HM1 := Lib.hid hM1
  have HE1 := Lib.hid hE1
  have HZ0 := Lib.hid ez0
  have HZD := Lib.hid ezd
  have HZF := Lib.hid ezf
  have HST := Lib.hid (hst.below hb0)
  have HF := Lib.hid hF
  have HO := Lib.hid hO
  have HWD := Lib.hid hwd
  rw [ezf] at r1
  rw [hwm, hwf, hwd, hw0] at m0 m1 m2 m3 m4 r1
  rw [hwd, hw0] at l0 l1 l2 l3 l4
  rw [hw0] at k0 k1 k2 k3 k4
  clear hR hw0 hb0 hz0 hP0 hR0 hwd hbd hzd hMd hwf hbf hzf hLf hwm hbm hNm n1 g1 hb01 hb1 hLm hkk hM1 hE1 ez0 ezd ezf hst hF hO
  have hmm := @run_makeMap Try.prog
  go_enter Try.func70, Try.ntmps70
  go_wp2_with fail
  clear hmm r1 k0 k1 k2 k3 k4 l0 l1 l2 l3 l4 m0 m1 m2 m3 m4
  have hMs : Mres w1 w0.heap.size (w.heap.size + 1 + 1) i [] [] none none 0 0 := by rw [← HZ0.out]; exact HM1.out
  have hEs : Fnd w1 w0.heap.size [⟨s, t, 0, 0, []⟩] (some ⟨w.heap.size + 1 + 1 + 1, 0, none⟩) 1 (w.heap.size + 1 + 1 + 1 + 1) := by rw [← HZF.out, ← HZD.out]; exact HE1.out
  have hzz := HZ0.out
  go_loopw [5, 7] (fun v5 v7 wr => ∃ (j : Nat) (E : List Ent) (A : Option Addr) (c : Nat) (N T : List (List Int)) (AN AT : Option Addr) (cN cT : Nat), v5 = .slice A E.length c ∧ v7 = .int .i64 j ∧ j ≤ E.length ∧ E.length ≤ 128 ∧ Ens n m s t E ∧ exG F i (n * m) E j = R ∧ N = (autN F i R).take j ∧ T = (outN O i R).take j ∧ OkTo O i R j ∧
      Fnd wr w0.heap.size E A c (w.heap.size + 1 + 1 + 1 + 1) ∧ Mres wr w0.heap.size (w.heap.size + 1 + 1) i N T AN AT cN cT ∧ Below w0.heap.size w0 wr) (fun _ v7 _ => n * m - (intOf v7).toNat)
  case atStart => exact ⟨0, [⟨s, t, 0, 0, []⟩], _, 1, [], [], none, none, 0, 0, rfl, rfl, Nat.zero_le _, by simp, Ens.one hs ht, HR.out, rfl, rfl, OkTo.zero _ _ _, hEs, hMs, HB1.out⟩
  case round =>
    obtain ⟨j, E, A, c, N, T, AN, AT, cN, cT, rfl, rfl, hjE, hE128, hE, hex, hN, hT, hok, hD, hMr, hbr⟩ := hrel
    have hlen := hE.len
    have hP := HP0.out.kept hbr (show w.heap.size < w0.heap.size by omega)
    obtain ⟨k0, k1, k2, k3, k4⟩ := hP.cells
    have HE := Lib.hid hE
    have HEX := Lib.hid hex
    have HN := Lib.hid hN
    have HT := Lib.hid hT
    have HOK := Lib.hid hok
    have HD := Lib.hid hD
    have HMR := Lib.hid hMr
    have HBR := Lib.hid hbr
    clear hE hex hN hT hok hD hMr hbr hP
    by_cases hlt : j < E.length
    · obtain ⟨e, hee⟩ : ∃ e, e = E.getD j Ent.zero := ⟨_, rfl⟩
      have HEE := Lib.hid hee
      obtain ⟨hp, hq⟩ := HE.out.lt _ (getDE_mem hlt)
      rw [← hee] at hp hq
      clear hee
      have hmz := run_make_zeros i hi
      obtain ⟨Z0, hZ0⟩ : ∃ Z0, Z0 = (mkZ i).toArray := ⟨_, rfl⟩
      rw [← hZ0] at hmz
      have HZ9 := Lib.hid hZ0
      clear hZ0
      have hnw := World.new_ne wr _ k0
      go_wp2_with fail
      go_upto_region 7 with fail
      go_cut [8, 9] from 31 to 37 (fun v8 v9 wx => TwoR wr i v8 v9 wx)
      case first =>
        go_region_held3 (fun w' => w'.cell? ⟨w.heap.size, 0, none⟩ = some (.int .i64 i)) (go_keep) (fail)
        all_goals
          go_wp2_with fail
          go_meet
          rw [HZ9.out]
          first | exact TwoR.ab _ _ hi | exact TwoR.ba _ _ hi
      case rest =>
        obtain ⟨g1, g2, rfl, rfl, hne, hg1, hg2, o1, o2, b2⟩ := hcut
        have hzr := HBR.out.size
        obtain ⟨f, hf⟩ : ∃ f : Nat → Int, f = fun a => ((plE R (F (e.p, e.q) a) : Nat) : Int) := ⟨_, rfl⟩
        obtain ⟨h, hh⟩ : ∃ h : Nat → Int, h = fun a => ((O (e.p, e.q) a : Nat) : Int) := ⟨_, rfl⟩
        have o1 := o1.lower hzr
        have o2 := o2.lower hzr
        rw [← rowm_zero f i] at o1
        rw [← rowm_zero h i] at o2
        have HO1 := Lib.hid o1
        have HO2 := Lib.hid o2
        have HB2 := Lib.hid (bt HBR.out b2)
        have HD2 := Lib.hid (HD.out.kept b2)
        have HK2 := Lib.hid (KeptP.of b2)
        have HFF := Lib.hid hf
        have HHH := Lib.hid hh
        have HNE := Lib.hid hne
        have HOZ := Lib.hid (OkRow.zero O e)
        have HZ2 := Lib.hid b2.size
        clear o1 o2 b2 hf hh hne k0 k1 k2 k3 k4 hmz hnw
        obtain ⟨k0, k1, k2, k3, k4⟩ := (HP0.out.kept HB2.out (show w.heap.size < w0.heap.size by omega)).cells
        obtain ⟨wo, rfl⟩ : ∃ wo : World, wo = wr := ⟨_, rfl⟩
        go_wp2_with fail
        clear k0 k1 k2 k3 k4
        go_loopw [5, 39] (fun v5 v39 wq => ∃ (x : Nat) (A : Option Addr) (c : Nat), v5 = .slice A (adG F j e E x).length c ∧ v39 = .int .i64 x ∧ x ≤ i ∧ (adG F j e E x).length ≤ 128 ∧ Fnd wq w0.heap.size (adG F j e E x) A c (w.heap.size + 1 + 1 + 1 + 1) ∧
          Owned wq w0.heap.size (.slice (some ⟨g1, 0, none⟩) i i) (rowm f i x) ∧ Owned wq w0.heap.size (.slice (some ⟨g2, 0, none⟩) i i) (rowm h i x) ∧ OkRow O e x ∧ KeptP wo wq ∧ Below w0.heap.size w0 wq ∧ wo.heap.size ≤ wq.heap.size) (fun _ v39 _ => i - (intOf v39).toNat)
        case atStart => exact ⟨0, _, _, rfl, rfl, Nat.zero_le _, hE128, HD2.out, HO1.out, HO2.out, HOZ.out, HK2.out, HB2.out, HZ2.out⟩
        case round =>
          obtain ⟨x, A, c, rfl, rfl, hxi, hl128, hDq, hO1q, hO2q, hokq, hKq, hbq, hzq⟩ := hrel
          have HDQ := Lib.hid hDq
          have HO1Q := Lib.hid hO1q
          have HO2Q := Lib.hid hO2q
          have HOKQ := Lib.hid hokq
          have HKQ := Lib.hid hKq
          have HBQ := Lib.hid hbq
          have HZQ := Lib.hid (show wo.heap.size ≤ wr.heap.size from hzq)
          clear hDq hO1q hO2q hokq hKq hbq hzq
          by_cases hx : x < i
          · obtain ⟨e', he'⟩ : ∃ e', e' = nxG F j e x := ⟨_, rfl⟩
            have f1 : (F (e.p, e.q) x).1 = e'.p := by rw [he']; rfl
            have f2 : (F (e.p, e.q) x).2 = e'.q := by rw [he']; rfl
            have HAD := Lib.hid (show adG F j e E (x + 1) = addE (adG F j e E x) e' by rw [he']; rfl)
            obtain ⟨hp', hq'⟩ := HF.out e.p e.q x hp hq hx
            rw [f1] at hp'
            rw [f2] at hq'
            obtain ⟨o0, o1, o2, o3, hNC, hCS⟩ := HST.out.2.2 e.p e.q x hp hq hx
            rw [f1, f2] at hCS
            have HCS := Lib.hid hCS
            have HNC := Lib.hid hNC
            have hP := HP0.out.kept HBQ.out (show w.heap.size < w0.heap.size by omega)
            have hpl := hE128
            have hjx : j < (adG F j e E x).length := by obtain ⟨T, hT⟩ := adG_pre F j e E x; rw [hT, List.length_append]; omega
            obtain ⟨gA, cA, eA, hgA, hgA2, _, hat⟩ := HDQ.out.lst.at_ (by rw [List.length_map]; omega)
            rw [List.length_map] at eA hat
            injection eA with eA _ eC
            subst eA
            subst eC
            have x0 : wr.cell? ⟨gA, j * 2, none⟩ = some (.int .i64 (e.p : Nat)) := by
              have := hat j 0 hjx (by decide)
              obtain ⟨T, hT⟩ := adG_pre F j e E x
              rw [getLc_at hjx, hT, getDE_pre hlt, ← HEE.out] at this
              exact this
            have x1 : wr.cell? ⟨gA, j * 2 + 1, none⟩ = some (.int .i64 (e.q : Nat)) := by
              have := hat j 1 hjx (by decide)
              obtain ⟨T, hT⟩ := adG_pre F j e E x
              rw [getLc_at hjx, hT, getDE_pre hlt, ← HEE.out] at this
              exact this
            obtain ⟨k0, k1, k2, k3, k4⟩ := hP.cells
            have HK := Lib.hid (show ∀ W : World, Below wr.heap.size wr W → W.cell? ⟨w.heap.size, 3, none⟩ = some (.func (.func ks) #[] cs) ∧ W.cell? ⟨gA, j * 2, none⟩ = some (.int .i64 (e.p : Nat)) ∧ W.cell? ⟨gA, j * 2 + 1, none⟩ = some (.int .i64 (e.q : Nat)) from fun W h => ⟨(h.cell (p := ⟨w.heap.size, 3, none⟩) (block_lt k3)).trans k3, (h.cell (p := ⟨gA, j * 2, none⟩) (block_lt x0)).trans x0, (h.cell (p := ⟨gA, j * 2 + 1, none⟩) (block_lt x1)).trans x1⟩)
            have hbc : Below wr.heap.size wr wr := Below.refl _ _
            have hj0 : (0 : Int) ≤ (j : Int) := by omega
            have hj1 : (j : Int) < ((adG F j e E x).length : Int) := by omega
            have HF1 := Lib.hid f1
            have HF2' := Lib.hid f2
            clear hCS hNC he' f1 f2 hP hat
            go_wp2_with fail
            go_upto_region 11 with fail
            go_cut [11, 12] from 42 to 53 (fun v11 v12 wx => BoxO wr v11 v12 (.int .i64 e'.p) (.int .i64 e'.q) (.bool o0) (.int .i64 o1) (.bool o2) (.int .i64 o3) wx)
            case first =>
              have CHAIN := hbc
              go_region_held3 (fun W => W.cell? ⟨w.heap.size, 3, none⟩ = some (.func (.func ks) #[] cs) ∧ W.cell? ⟨gA, j * 2, none⟩ = some (.int .i64 (e.p : Nat)) ∧ W.cell? ⟨gA, j * 2 + 1, none⟩ = some (.int .i64 (e.q : Nat)))
                ((refine HK.out _ ?_; repeat (first | (with_reducible exact hbc) | (with_reducible exact Below.refl _ _) | (with_reducible refine below_dr ?_) | (with_reducible refine below_al (by first | omega | (simp; done) | (simp; omega)) ?_) | (with_reducible refine below_st (by first | omega | (simp; done) | (simp; omega)) ?_))))
                ((go_simp; go_at_fn ks; refine (HCS.out _ (bt HBQ.out (by (repeat (first | (with_reducible exact hbc) | (with_reducible exact Below.refl _ _) | (with_reducible refine below_dr ?_) | (with_reducible refine below_al (by first | omega | (simp; done) | (simp; omega)) ?_)))))).mono ?_; rintro r w8 ⟨rfl, b8⟩; (try obtain ⟨ca0, ca1, za0, za1, da0, da1, ya0, ya1, na, ma, hA9⟩ := after2 b8 (heap_alloc_new wr (.cells #[.int .i64 0, .int .i64 0] 90))); (try obtain ⟨cb0, cb1, cb2, cb3, zb0, zb1, zb2, zb3, db0, db1, db2, db3, yb0, yb1, yb2, yb3, nb, mb, hB9⟩ := after4 b8 (heap_alloc_new wr (.cells #[.bool false, .int .i64 0, .bool false, .int .i64 0] 94))); (try obtain ⟨ca0, ca1, za0, za1, da0, da1, ya0, ya1, na, ma, hA9⟩ := after2 b8 (heap_alloc2_old wr (.cells #[.int .i64 0, .int .i64 0] 90) (.cells #[.bool false, .int .i64 0, .bool false, .int .i64 0] 94))); (try obtain ⟨cb0, cb1, cb2, cb3, zb0, zb1, zb2, zb3, db0, db1, db2, db3, yb0, yb1, yb2, yb3, nb, mb, hB9⟩ := after4 b8 (heap_alloc2_new wr (.cells #[.int .i64 0, .int .i64 0] 90) (.cells #[.bool false, .int .i64 0, .bool false, .int .i64 0] 94))); (try obtain ⟨cb0, cb1, cb2, cb3, zb0, zb1, zb2, zb3, db0, db1, db2, db3, yb0, yb1, yb2, yb3, nb, mb, hB9⟩ := after4 b8 (heap_alloc2_old wr (.cells #[.bool false, .int .i64 0, .bool false, .int .i64 0] 94) (.cells #[.int .i64 0, .int .i64 0] 90))); (try obtain ⟨ca0, ca1, za0, za1, da0, da1, ya0, ya1, na, ma, hA9⟩ := after2 b8 (heap_alloc2_new wr (.cells #[.bool false, .int .i64 0, .bool false, .int .i64 0] 94) (.cells #[.int .i64 0, .int .i64 0] 90))); have hbc := bt (show Below wr.heap.size wr _ by (repeat (first | (with_reducible exact hbc) | (with_reducible exact Below.refl _ _) | (with_reducible refine below_dr ?_) | (with_reducible refine below_al (by first | omega | (simp; done) | (simp; omega)) ?_)))) b8; have hzc := hbc.size))
              all_goals
                go_wp2_with fail
                go_meet
                first
                  | exact BoxO.ab hbc _ _ _ _ _ _
                  | exact BoxO.ba hbc _ _ _ _ _ _
                  | exact BoxO.sets hA9 hB9 (by omega) (by omega) (by omega) hbc _ _ _ _ _ _
                  | exact BoxO.sets (W := w8.alloc _) (((alloc_below w8 _).block _ (heap_lt hA9)).trans hA9) (heap_alloc_new w8 _) (by omega) (by omega) (by omega) (below_al hzc hbc) _ _ _ _ _ _
                  | exact BoxO.sets4 (W := w8.alloc _) (heap_alloc_new w8 _) (((alloc_below w8 _).block _ (heap_lt hB9)).trans hB9) (by omega) (by omega) (below_al hzc hbc) _ _ _ _
            case rest =>
              obtain ⟨gp, go, rfl, rfl, hgp, hgo, bq⟩ := hcut
              have hzo : wo.heap.size ≤ wr.heap.size := HZQ.out
              have hjx2 : (adG F j e E x).length ≤ 1048576 := by omega
              have HDC := Lib.hid (HDQ.out.kept bq)
              have HO1C := Lib.hid (HO1Q.out.kept bq)
              have HO2C := Lib.hid (HO2Q.out.kept bq)
              have HKC := Lib.hid (HKQ.out.trans (KeptP.of bq))
              have HBC := Lib.hid (bt HBQ.out bq)
              have HNCC := Lib.hid (HNC.out.below (bt HBQ.out bq))
              have HGP := Lib.hid hgp
              have HGO := Lib.hid hgo
              have HPC := Lib.hid (HP0.out.kept (bt HBQ.out bq) (show w.heap.size < w0.heap.size by omega))
              have hbz := HBC.out.size
              have HZC := Lib.hid (show wo.heap.size ≤ wc.heap.size from Nat.le_trans hzo bq.size)
              have p0 := cell_of_row wc gp 0 _ _ (0, 0) hgp
              have p1 := cell_of_row wc gp 1 _ _ (0, 0) hgp
              have hep : e'.p ≤ 4611686018427387904 := by omega
              have heq : e'.q ≤ 4611686018427387904 := by omega
              clear hbc bq hgp hgo x0 x1 hj0 hj1 k0 k1 k2 k3 k4 HK
              obtain ⟨n0, kb, hlk, hkn⟩ : ∃ (n0 : Nat) (kb : Bool), (Instr.lookup 127 (.map (some (w.heap.size + 1 + 1 + 1 + 1))) (.agg #[.int .i64 e'.p, .int .i64 e'.q]) true).run Try.prog wc = .ok (.tuple #[.int .i64 n0, .bool kb]) wc ∧ LookS (adG F j e E x) e' n0 kb := by
                by_cases hin : hasE (adG F j e E x) e'.p e'.q
                · exact ⟨_, true, HDC.out.look_in e' hin, .inl ⟨rfl, hin, rfl⟩⟩
                · exact ⟨0, false, HDC.out.look_out e' hep heq hin, .inr ⟨rfl, hin⟩⟩
              have HKN := Lib.hid hkn
              clear hkn
              go_upto_if 60 with fail
              go_cut [5, 13] from 61 to 70 (fun v5 v13 wx => ∃ (A' : Option Addr) (c' : Nat), v5 = .slice A' (addE (adG F j e E x) e').length c' ∧ v13 = .int .i64 (plcE (addE (adG F j e E x) e') e'.p e'.q : Nat) ∧ Fnd wx w0.heap.size (addE (adG F j e E x) e') A' c' (w.heap.size + 1 + 1 + 1 + 1) ∧ KeptP wc wx ∧ Below w0.heap.size wc wx)
              case first =>
                rcases HKN.out with ⟨rfl, hin, hn0⟩ | ⟨rfl, hin⟩
                · have HA := Lib.hid (addE_in hin)
                  have HN0 := Lib.hid hn0
                  clear hin hn0
                  go_wp2_with fail
                  go_meet
                  rw [HA.out, ← HN0.out]
                  exact ⟨_, _, rfl, rfl, HDC.out, KeptP.of (Below.refl _ _), Below.refl _ _⟩
                · obtain ⟨w1', A1, c1, w2, r1, r2, hF2, b1, b2, t1, t2⟩ := HDC.out.grow e' hin hep heq hbz (by omega)
                  have HA := Lib.hid (addE_out hin)
                  have HPN := Lib.hid (show plcE (adG F j e E x ++ [e']) e'.p e'.q = (adG F j e E x).length by
                    unfold plcE
                    rw [List.map_append, List.idxOf_append, if_neg (show ¬ (e'.p, e'.q) ∈ (adG F j e E x).map Ent.pr from hin)]
                    simp [Ent.pr])
                  have HF2 := Lib.hid hF2
                  have HB2' := Lib.hid b2
                  have HT2 := Lib.hid t2
                  have q1 := t1 _ _ _ HGP.out
                  have y0 := cell_of_row w1' gp 0 _ _ (0, 0) q1
                  have y1 := cell_of_row w1' gp 1 _ _ (0, 0) q1
                  clear hin hF2 b1 b2 t1 t2 q1
                  go_wp2_with (at_builtin; refine Lib.wpList_append_run _ rfl _ _ _ _ rfl _ _ rfl rfl _ _ r2 ?_)
                  go_meet
                  rw [HA.out, HPN.out, List.length_append]
                  exact ⟨A1, c1, rfl, rfl, HF2.out, HT2.out, HB2'.out⟩
              case rest =>
                obtain ⟨A', c', rfl, rfl, hDd, hKd, hBd⟩ := hcut
                have HFIN := Lib.hid (show ∃ T, R = addE (adG F j e E x) e' ++ T by
                  have h1 := adG_finC (x := x + 1) HF.out HE.out hlt HEX.out hx
                  rw [← HEE.out, HAD.out] at h1
                  exact h1)
                obtain ⟨pl, hpl⟩ : ∃ pl, pl = plcE (addE (adG F j e E x) e') e'.p e'.q := ⟨_, rfl⟩
                obtain ⟨z, hz⟩ : ∃ z, z = O (e.p, e.q) x := ⟨_, rfl⟩
                have hplt : pl < (addE (adG F j e E x) e').length := by rw [hpl]; exact plE_lt (addE_memC _ _)
                have HV := Lib.hid (show f x = (pl : Int) by
                  rw [HFF.out, hpl]
                  show ((plE R (F (e.p, e.q) x) : Nat) : Int) = _
                  have h2 : F (e.p, e.q) x = e'.pr := Prod.ext HF1.out HF2'.out
                  rw [h2, plE_finC HFIN.out (addE_memC (adG F j e E x) e')]
                  rfl)
                have HH := Lib.hid (show h x = (z : Int) by rw [HHH.out, hz])
                have hz4 : z ≤ 4611686018427387904 := by rw [hz]; exact HO.out e.p e.q x hp hq hx
                have hle : (addE (adG F j e E x) e').length ≤ n * m := by
                  have h1 := (adG_ens HF.out HE.out hlt (x + 1) hx).len
                  rw [← HEE.out, HAD.out] at h1
                  exact h1
                have HPLE := Lib.hid (show pl < 128 → (addE (adG F j e E x) e').length ≤ 128 from fun h9 => addE_le hl128 (by rw [← hpl]; exact h9))
                have HCN := Lib.hid (show Calls Try.prog kn (#[.agg #[.bool o0, .int .i64 o1, .bool o2, .int .i64 o3]] ++ cn) wc fun e w' => e = .returned (.int .i64 (z : Nat)) ∧ Below wc.heap.size wc w' by rw [hz]; exact HNC.out wc (HBC.out.trans hBd))
                rw [← hpl]
                have HB9 := Lib.hid (HBC.out.trans hBd)
                have hgo9 := hKd _ (by decide) _ _ HGO.out
                have s0 := cell_of_row wc go 0 _ _ (0, 0) hgo9
                have s1 := cell_of_row wc go 1 _ _ (0, 0) hgo9
                have s2 := cell_of_row wc go 2 _ _ (0, 0) hgo9
                have s3 := cell_of_row wc go 3 _ _ (0, 0) hgo9
                obtain ⟨k0, k1, k2, k3, k4⟩ := (HP0.out.kept HB9.out (show w.heap.size < w0.heap.size by omega)).cells
                have HD9 := Lib.hid hDd
                have HO19 := Lib.hid (HO1C.out.keptT (hKd _ (by decide)))
                have HO29 := Lib.hid (HO2C.out.keptT (hKd _ (by decide)))
                have HK9 := Lib.hid (HKC.out.trans hKd)
                clear hDd hKd hBd hgo9 hlk p0 p1 hpl
                go_wp2_with (first | (go_at_fn kn; fail))
                refine HCN.out.mono ?_
                rintro r w9 ⟨rfl, b9⟩
                have hO1 := HO19.out.kept b9
                have hO2 := HO29.out.kept b9
                have HDA := Lib.hid (HD9.out.kept b9)
                have HKA := Lib.hid (HK9.out.trans (KeptP.of b9))
                have HBA := Lib.hid (bt HB9.out b9)
                obtain ⟨cur1, hc1⟩ := hO1.blk
                obtain ⟨cur2, hc2⟩ := hO2.blk
                obtain ⟨g5, e5, hg5, hg5', hfz5⟩ := hO1.head (by omega)
                cases e5
                obtain ⟨g6, e6, hg6, hg6', hfz6⟩ := hO2.head (by omega)
                cases e6
                obtain ⟨bq1, oq1, eq1, _, hcq1⟩ := (hO1.ints (by rw [rowm_len]; omega)).at_ hx
                cases eq1
                obtain ⟨bq2, oq2, eq2, _, hcq2⟩ := (hO2.ints (by rw [rowm_len]; omega)).at_ hx
                cases eq2
                rw [Nat.zero_add] at hcq1 hcq2
                have hf1 := hfz5 x
                have hf2 := hfz6 x
                have hne := HNE.out
                have hne' : g2 ≠ g1 := Ne.symm hne
                have HO1S := Lib.hid (show Owned ((w9.setCell ⟨g1, x, none⟩ (.int .i64 pl)).setCell ⟨g2, x, none⟩ (.int .i64 z)) w0.heap.size (.slice (some ⟨g1, 0, none⟩) i i) (rowm f i (x + 1)) by
                  have h1 := hO1.stored x (f x)
                  rw [rowm_set f i x, HV.out] at h1
                  exact h1.offB hne)
                have HO2S := Lib.hid (show Owned ((w9.setCell ⟨g1, x, none⟩ (.int .i64 pl)).setCell ⟨g2, x, none⟩ (.int .i64 z)) w0.heap.size (.slice (some ⟨g2, 0, none⟩) i i) (rowm h i (x + 1)) by
                  have h1 := (hO2.offB (k := x) (v := .int .i64 pl) hne').stored x (h x)
                  rw [rowm_set h i x, HH.out] at h1
                  exact h1)
                have hc2' := set_blk_far (j := x) (Value.int .i64 pl) hc2 hne'
                have HDS := Lib.hid (show Fnd ((w9.setCell ⟨g1, x, none⟩ (.int .i64 pl)).setCell ⟨g2, x, none⟩ (.int .i64 z)) w0.heap.size (addE (adG F j e E x) e') A' c' (w.heap.size + 1 + 1 + 1 + 1) from
                  (HDA.out.mv (KeptT.off hc1 (by decide) _) (KeptM.off hc1 _)).mv (KeptT.off hc2' (by decide) _) (KeptM.off hc2' _))
                have HKS := Lib.hid (show KeptP wo ((w9.setCell ⟨g1, x, none⟩ (.int .i64 pl)).setCell ⟨g2, x, none⟩ (.int .i64 z)) from (HKA.out.later hg1).later hg2)
                have HBS := Lib.hid (show Below w0.heap.size w0 ((w9.setCell ⟨g1, x, none⟩ (.int .i64 pl)).setCell ⟨g2, x, none⟩ (.int .i64 z)) from below_st (by omega) (below_st (by omega) HBA.out))
                have HZS := Lib.hid (show wo.heap.size ≤ ((w9.setCell ⟨g1, x, none⟩ (.int .i64 pl)).setCell ⟨g2, x, none⟩ (.int .i64 z)).heap.size by
                  have h1 := HKA.out
                  simp
                  have := b9.size
                  have := HZC.out
                  omega)
                have HRr := Lib.hid (HR0.out.kept HBS.out (show w.heap.size + 1 < w0.heap.size by omega))
                obtain ⟨q0, q1, q2, q3, y0, y1, y2, y3⟩ := HRr.out.cells
                clear hO1 hO2 hc1 hc2 hc2' hfz5 hfz6 b9 s0 s1 s2 s3 k0 k1 k2 k3 k4
                by_cases hbad1 : 128 ≤ pl
                · have d1 : decide ((128 : Int) ≤ (pl : Int)) = true := by simp; omega
                  have HNF := Lib.hid (show ¬ Fits O i R from fun hfit => by
                    obtain ⟨T, hT⟩ := HFIN.out
                    have h1 := hfit.1
                    rw [hT, List.length_append] at h1
                    omega)
                  clear hbad1 hz
                  go_wp2_with fail
                  (try rw [Exit.noGoto_ret])
                  refine bodyPost_ret (results_mealy rfl _ _ (w.heap.size + 1) (.int .i64 0) (.int .i64 0) (.slice none 0 0) (.slice none 0 0) rfl (HRr.out.set4 _ _ _ _)) rfl ?_
                  exact ⟨MacP.bad HNF.out, below_set4 (Nat.le_succ _) (bt HB0.out HBS.out) _ _ _ _⟩
                · have d1 : decide ((128 : Int) ≤ (pl : Int)) = false := by simp; omega
                  by_cases hbad2 : 1048576 < z
                  · have d2 : decide ((1048576 : Int) < (z : Int)) = true := by simp; omega
                    have HNF := Lib.hid (show ¬ Fits O i R from fun hfit => by
                      obtain ⟨T, hT⟩ := exG_pre F i (n * m) E j
                      rw [HEX.out] at hT
                      have h1 := hfit.2 j (by rw [hT, List.length_append]; omega) x hx
                      rw [hT, getDE_pre hlt, ← HEE.out] at h1
                      have h2 : O (e.p, e.q) x ≤ 1048576 := h1
                      rw [← hz] at h2
                      omega)
                    clear hbad2 hbad1 hz
                    go_wp2_with fail
                    (try rw [Exit.noGoto_ret])
                    refine bodyPost_ret (results_mealy rfl _ _ (w.heap.size + 1) (.int .i64 0) (.int .i64 0) (.slice none 0 0) (.slice none 0 0) rfl (HRr.out.set4 _ _ _ _)) rfl ?_
                    exact ⟨MacP.bad HNF.out, below_set4 (Nat.le_succ _) (bt HB0.out HBS.out) _ _ _ _⟩
                  · have d2 : decide ((1048576 : Int) < (z : Int)) = false := by simp; omega
                    have HL := Lib.hid (HPLE.out (by omega))
                    have HOKS := Lib.hid (HOKQ.out.succ (show O e.pr x ≤ 1048576 by show O (e.p, e.q) x ≤ 1048576; rw [← hz]; omega))
                    clear hbad2 hbad1 hz
                    go_wp2_with fail
                    go_roundw
                    case rel => exact ⟨x + 1, A', c', by rw [HAD.out], by go_num, by omega, by rw [HAD.out]; exact HL.out, by rw [HAD.out]; exact HDS.out, HO1S.out, HO2S.out, HOKS.out, HKS.out, HBS.out, HZS.out⟩
                    case measure => simp [intOf]; omega
          · obtain rfl : x = i := by omega
            have HEN := Lib.hid (show Ens n m s t (adG F j e E x) by
              have := adG_ens HF.out HE.out hlt x (Nat.le_refl _)
              rw [← HEE.out] at this
              exact this)
            have HEX2 := Lib.hid (show exG F x (n * m) (adG F j e E x) (j + 1) = R by
              have := exG_on HF.out HE.out hlt
              rw [← HEE.out] at this
              rw [this]; exact HEX.out)
            have HPRE := Lib.hid (adG_pre F j e E x)
            have HRE := Lib.hid (show ∃ T, R = E ++ T by
              obtain ⟨T, hT⟩ := exG_pre F x (n * m) E j
              exact ⟨T, by rw [← HEX.out, hT]⟩)
            have hzr := HBR.out.size
            have hMr := HMR.out.keptT HKQ.out
            have hNl : N.length ≤ 128 := by rw [HN.out, List.length_take]; omega
            have hTl : T.length ≤ 128 := by rw [HT.out, List.length_take]; omega
            have hpa : PreA wr w0.heap.size (w.heap.size + 1 + 1) x N T AN AT cN cT g1 g2 (rowm f x x) (rowm h x x) (adG F j e E x) A c (w.heap.size + 1 + 1 + 1 + 1) w0 wo.heap.size :=
              ⟨hMr.blk, hMr.nx, hMr.ot, hMr.ap, HO1Q.out, HO2Q.out, HDQ.out, HBQ.out, HZQ.out, hzr, fun k hk => (HMR.out.nx.lt k hk).2⟩
            have HPA := Lib.hid hpa
            obtain ⟨k0, k1, k2, k3, y0, y1, y2, y3⟩ := hMr.blk.cells
            have HL128 := Lib.hid hl128
            have HOKQ2 := Lib.hid HOKQ.out
            clear hpa hMr
            have key2 := Lib.hid (show ∀ W : World, Mblk W (w.heap.size + 1 + 1) (.int .i64 x) (.int .i64 0) (.slice AN N.length cN) (.slice AT T.length cT) → W.cell? ⟨w.heap.size + 1 + 1, 2, none⟩ = some (.slice AN N.length cN) ∧ W.cell? ⟨w.heap.size + 1 + 1, 3, none⟩ = some (.slice AT T.length cT) ∧ W.frozen? ⟨w.heap.size + 1 + 1, 2, none⟩ = false ∧ W.frozen? ⟨w.heap.size + 1 + 1, 3, none⟩ = false from fun W hW => ⟨hW.cells.2.2.1, hW.cells.2.2.2.1, hW.cells.2.2.2.2.2.2.1, hW.cells.2.2.2.2.2.2.2⟩)
            have hzq := HZQ.out
            have HS8 := Lib.hid (show wr.drew.cell? ⟨w.heap.size + 1 + 1, 2, none⟩ = some (.slice AN N.length cN) ∧ wr.drew.cell? ⟨w.heap.size + 1 + 1, 3, none⟩ = some (.slice AT T.length cT) from ⟨k2, k3⟩)
            go_wp2_with fail
            refine wp_region_heldX (X := fun k => [11, 13].contains k) (S := fun W => W.cell? ⟨w.heap.size + 1 + 1, 2, none⟩ = some (.slice AN N.length cN) ∧ W.cell? ⟨w.heap.size + 1 + 1, 3, none⟩ = some (.slice AT T.length cT)) (by kernel_rfl) ?_
            refine wpAnyX_pure (i := 0) (v := ?_) rfl (by kernel_rfl) (by kernel_rfl) (by kernel_rfl) (fun _ _ _ h => h) (Or.inl ⟨by rfl, ?_⟩) ?_
            rotate_left
            · (intro W _; go_simp; try with_reducible rfl)
            (try simp only [Act.put, List.setIfInBounds_toArray, List.set_cons_zero, List.set_cons_succ])
            refine wpAnyX_takeL (L := [11, 13]) (i := 1) (v := ?_) rfl (by kernel_rfl) (by kernel_rfl) (by kernel_rfl) (by kernel_rfl) (fun _ _ _ h => h) (Or.inl ⟨by rfl, ?_⟩) HS8.out ?_
            rotate_left
            · (intro W hSW; (try dsimp only at hSW); go_simp; try with_reducible rfl)
            (try simp only [Act.put, List.setIfInBounds_toArray, List.set_cons_zero, List.set_cons_succ])
            refine wpAnyX_pure (i := 2) (v := ?_) rfl (by kernel_rfl) (by kernel_rfl) (by kernel_rfl) (fun _ _ _ h => h) (Or.inl ⟨by rfl, ?_⟩) ?_
            rotate_left
            · (intro W _; go_simp; try with_reducible rfl)
            (try simp only [Act.put, List.setIfInBounds_toArray, List.set_cons_zero, List.set_cons_succ])
            refine wpAnyX_pure (i := 5) (v := ?_) rfl (by kernel_rfl) (by kernel_rfl) (by kernel_rfl) (fun _ _ _ h => h) (Or.inl ⟨by rfl, ?_⟩) ?_
            rotate_left
            · (intro W _; go_simp; try with_reducible rfl)
            (try simp only [Act.put, List.setIfInBounds_toArray, List.set_cons_zero, List.set_cons_succ])
            refine wpAnyX_takeL (L := [11, 13]) (i := 6) (v := ?_) rfl (by kernel_rfl) (by kernel_rfl) (by kernel_rfl) (by kernel_rfl) (fun _ _ _ h => h) (Or.inl ⟨by rfl, ?_⟩) HS8.out ?_
            rotate_left
            · (intro W hSW; (try dsimp only at hSW); go_simp; try with_reducible rfl)
            (try simp only [Act.put, List.setIfInBounds_toArray, List.set_cons_zero, List.set_cons_succ])
            refine wpAnyX_pure (i := 7) (v := ?_) rfl (by kernel_rfl) (by kernel_rfl) (by kernel_rfl) (fun _ _ _ h => h) (Or.inl ⟨by rfl, ?_⟩) ?_
            rotate_left
            · (intro W _; go_simp; try with_reducible rfl)
            (try simp only [Act.put, List.setIfInBounds_toArray, List.set_cons_zero, List.set_cons_succ])
            refine wpAnyX_two (i := 3) (j := 8) rfl rfl (by kernel_rfl) (fun K hK => ?_) (fun K hK => ?_)
            · go_simp
              refine hK.out _ _ (fun _ hS => ⟨cellAl hS.1, cellAl hS.2⟩) ?_
              (try simp only [Act.put, List.setIfInBounds_toArray, List.set_cons_zero, List.set_cons_succ])
              refine wpAnyX_two (i := 4) (j := 8) rfl rfl (by kernel_rfl) (fun K hK => ?_) (fun K hK => ?_)
              · refine step_appX rfl _ _ _ _ rfl _ _ rfl rfl (PreA.app (gb := _) (by (repeat (first | (with_reducible exact HPA.out) | (with_reducible apply PreA.drew) | (with_reducible apply PreA.alloc)))) (by simp) (by omega)) ?_
                rintro A2 c2 w7 ⟨hPB, hLat⟩
                have HPB := Lib.hid hPB
                obtain ⟨l2, l3, l4, l5⟩ := key2.out _ hPB.blk
                clear hPB hLat
                refine hK.out _ _ (fun _ _ => ⟨l2, l3⟩) ?_
                (try simp only [Act.put, List.setIfInBounds_toArray, List.set_cons_zero, List.set_cons_succ])
                refine wpAnyX_pure (i := 10) (v := ?_) rfl (by kernel_rfl) (by kernel_rfl) (by kernel_rfl) (fun _ _ _ h => h) (Or.inl ⟨by rfl, ?_⟩) ?_
                rotate_left
                · (intro W _; go_simp; try with_reducible rfl)
                (try simp only [Act.put, List.setIfInBounds_toArray, List.set_cons_zero, List.set_cons_succ])
                refine wpAnyX_one (i := 8) rfl (by kernel_rfl) (fun K hK => ?_)
                go_simp
                refine hK.out _ _ (fun _ hS => ⟨cellAl hS.1, cellAl hS.2⟩) ?_
                (try simp only [Act.put, List.setIfInBounds_toArray, List.set_cons_zero, List.set_cons_succ])
                refine wpAnyX_one (i := 9) rfl (by kernel_rfl) (fun K hK => ?_)
                refine step_appX rfl _ _ _ _ rfl _ _ rfl rfl (PreB.app (gb := _) (by (repeat (first | (with_reducible exact HPB.out) | (with_reducible apply PreB.drew) | (with_reducible apply PreB.alloc)))) (by simp) (by omega)) ?_
                rintro A3 c3 w8 hPC
                have HPC := Lib.hid hPC
                obtain ⟨l2, l3, l4, l5⟩ := key2.out _ hPC.blk
                clear hPC
                refine hK.out _ _ (fun _ _ => ⟨l2, l3⟩) ?_
                (try simp only [Act.put, List.setIfInBounds_toArray, List.set_cons_zero, List.set_cons_succ])
                refine wpAnyX_one (i := 11) rfl (by kernel_rfl) (fun K hK => ?_)
                go_simp
                refine hK.out _ _ (fun h => absurd h (by decide)) ?_
                (try simp only [Act.put, List.setIfInBounds_toArray, List.set_cons_zero, List.set_cons_succ])
                refine wpAnyX_pure (i := 12) (v := ?_) rfl (by kernel_rfl) (by kernel_rfl) (by kernel_rfl) (fun _ _ _ h => h) (Or.inl ⟨by rfl, ?_⟩) ?_
                rotate_left
                · (intro W _; go_simp; try with_reducible rfl)
                (try simp only [Act.put, List.setIfInBounds_toArray, List.set_cons_zero, List.set_cons_succ])
                refine wpAnyX_one (i := 13) rfl (by kernel_rfl) (fun K hK => ?_)
                go_simp
                refine hK.out _ _ (fun h => absurd h (by decide)) ?_
                (try simp only [Act.put, List.setIfInBounds_toArray, List.set_cons_zero, List.set_cons_succ])
                refine wpAnyX_done (by kernel_rfl) ?_ _
                obtain ⟨e1, e2, e3, e4, e5⟩ := MresEnd HPC.out (by rw [HZ0.out]; exact Nat.le_refl _)
                have HE1 := Lib.hid e1
                have HE2 := Lib.hid e2
                have HE3 := Lib.hid e3
                clear e1 e2 e3 e4 e5 l2 l3 l4 l5
                go_wp2_with fail
                go_roundw
                case rel =>
                  obtain ⟨T9, hT9⟩ := HPRE.out
                  refine ⟨j + 1, adG F j e E x, A, c, N ++ [rowm f x x], T ++ [rowm h x x], A2, A3, c2, c3, rfl, by go_num, by rw [hT9, List.length_append]; omega, HL128.out, HEN.out, HEX2.out, ?_, ?_, ?_, HE2.out, HE1.out, HE3.out⟩
                  · rw [HN.out, rowm_all, HFF.out]
                    have := take_mapC (fun e : Ent => (List.range x).map fun a => ((plE R (F e.pr a) : Nat) : Int)) HRE.out hlt
                    rw [← HEE.out] at this
                    exact this
                  · rw [HT.out, rowm_all, HHH.out]
                    have := take_mapC (fun e : Ent => (List.range x).map fun a => ((O e.pr a : Nat) : Int)) HRE.out hlt
                    rw [← HEE.out] at this
                    exact this
                  · refine HOK.out.succ ?_
                    obtain ⟨T8, hT8⟩ := HRE.out
                    rw [hT8, getDE_pre hlt, ← HEE.out]
                    exact HOKQ2.out
                case measure => simp [intOf]; omega
              · go_simp
                refine hK.out _ _ (fun _ hS => ⟨cellAl hS.1, cellAl hS.2⟩) ?_
                (try simp only [Act.put, List.setIfInBounds_toArray, List.set_cons_zero, List.set_cons_succ])
                refine wpAnyX_one (i := 4) rfl (by kernel_rfl) (fun K hK => ?_)
                refine step_appX rfl _ _ _ _ rfl _ _ rfl rfl (PreA.app (gb := _) (by (repeat (first | (with_reducible exact HPA.out) | (with_reducible apply PreA.drew) | (with_reducible apply PreA.alloc)))) (by simp) (by omega)) ?_
                rintro A2 c2 w7 ⟨hPB, hLat⟩
                have hl2 := hLat (wr.heap.size + 1) 0 (.slice (some ⟨g2, 0, none⟩) x x) (by omega) (by simp)
                have HPB := Lib.hid hPB
                obtain ⟨l2, l3, l4, l5⟩ := key2.out _ hPB.blk
                clear hPB hLat
                refine hK.out _ _ (fun _ _ => ⟨l2, l3⟩) ?_
                (try simp only [Act.put, List.setIfInBounds_toArray, List.set_cons_zero, List.set_cons_succ])
                refine wpAnyX_pure (i := 10) (v := ?_) rfl (by kernel_rfl) (by kernel_rfl) (by kernel_rfl) (fun _ _ _ h => h) (Or.inl ⟨by rfl, ?_⟩) ?_
                rotate_left
                · (intro W _; go_simp; try with_reducible rfl)
                (try simp only [Act.put, List.setIfInBounds_toArray, List.set_cons_zero, List.set_cons_succ])
                refine wpAnyX_one (i := 9) rfl (by kernel_rfl) (fun K hK => ?_)
                refine step_appX rfl _ _ _ _ rfl _ _ rfl rfl (PreB.app (gb := _) (by (repeat (first | (with_reducible exact HPB.out) | (with_reducible apply PreB.drew) | (with_reducible apply PreB.alloc)))) (by exact hl2) (by omega)) ?_
                rintro A3 c3 w8 hPC
                have HPC := Lib.hid hPC
                obtain ⟨l2, l3, l4, l5⟩ := key2.out _ hPC.blk
                clear hPC
                refine hK.out _ _ (fun _ _ => ⟨l2, l3⟩) ?_
                (try simp only [Act.put, List.setIfInBounds_toArray, List.set_cons_zero, List.set_cons_succ])
                refine wpAnyX_one (i := 11) rfl (by kernel_rfl) (fun K hK => ?_)
                go_simp
                refine hK.out _ _ (fun h => absurd h (by decide)) ?_
                (try simp only [Act.put, List.setIfInBounds_toArray, List.set_cons_zero, List.set_cons_succ])
                refine wpAnyX_pure (i := 12) (v := ?_) rfl (by kernel_rfl) (by kernel_rfl) (by kernel_rfl) (fun _ _ _ h => h) (Or.inl ⟨by rfl, ?_⟩) ?_
                rotate_left
                · (intro W _; go_simp; try with_reducible rfl)
                (try simp only [Act.put, List.setIfInBounds_toArray, List.set_cons_zero, List.set_cons_succ])
                refine wpAnyX_one (i := 13) rfl (by kernel_rfl) (fun K hK => ?_)
                go_simp
                refine hK.out _ _ (fun h => absurd h (by decide)) ?_
                (try simp only [Act.put, List.setIfInBounds_toArray, List.set_cons_zero, List.set_cons_succ])
                refine wpAnyX_done (by kernel_rfl) ?_ _
                obtain ⟨e1, e2, e3, e4, e5⟩ := MresEnd HPC.out (by rw [HZ0.out]; exact Nat.le_refl _)
                have HE1 := Lib.hid e1
                have HE2 := Lib.hid e2
                have HE3 := Lib.hid e3
                clear e1 e2 e3 e4 e5 l2 l3 l4 l5
                go_wp2_with fail
                go_roundw
                case rel =>
                  obtain ⟨T9, hT9⟩ := HPRE.out
                  refine ⟨j + 1, adG F j e E x, A, c, N ++ [rowm f x x], T ++ [rowm h x x], A2, A3, c2, c3, rfl, by go_num, by rw [hT9, List.length_append]; omega, HL128.out, HEN.out, HEX2.out, ?_, ?_, ?_, HE2.out, HE1.out, HE3.out⟩
                  · rw [HN.out, rowm_all, HFF.out]
                    have := take_mapC (fun e : Ent => (List.range x).map fun a => ((plE R (F e.pr a) : Nat) : Int)) HRE.out hlt
                    rw [← HEE.out] at this
                    exact this
                  · rw [HT.out, rowm_all, HHH.out]
                    have := take_mapC (fun e : Ent => (List.range x).map fun a => ((O e.pr a : Nat) : Int)) HRE.out hlt
                    rw [← HEE.out] at this
                    exact this
                  · refine HOK.out.succ ?_
                    obtain ⟨T8, hT8⟩ := HRE.out
                    rw [hT8, getDE_pre hlt, ← HEE.out]
                    exact HOKQ2.out
                case measure => simp [intOf]; omega
            · go_simp
              refine hK.out _ _ (fun _ hS => ⟨cellAl hS.1, cellAl hS.2⟩) ?_
              (try simp only [Act.put, List.setIfInBounds_toArray, List.set_cons_zero, List.set_cons_succ])
              refine wpAnyX_one (i := 3) rfl (by kernel_rfl) (fun K hK => ?_)
              go_simp
              refine hK.out _ _ (fun _ hS => ⟨cellAl hS.1, cellAl hS.2⟩) ?_
              (try simp only [Act.put, List.setIfInBounds_toArray, List.set_cons_zero, List.set_cons_succ])
              refine wpAnyX_one (i := 4) rfl (by kernel_rfl) (fun K hK => ?_)
              refine step_appX rfl _ _ _ _ rfl _ _ rfl rfl (PreA.app (gb := _) (by (repeat (first | (with_reducible exact HPA.out) | (with_reducible apply PreA.drew) | (with_reducible apply PreA.alloc)))) (by simp) (by omega)) ?_
              rintro A2 c2 w7 ⟨hPB, hLat⟩
              have hl2 := hLat wr.heap.size 0 (.slice (some ⟨g2, 0, none⟩) x x) hzq (by simp)
              have HPB := Lib.hid hPB
              obtain ⟨l2, l3, l4, l5⟩ := key2.out _ hPB.blk
              clear hPB hLat
              refine hK.out _ _ (fun _ _ => ⟨l2, l3⟩) ?_
              (try simp only [Act.put, List.setIfInBounds_toArray, List.set_cons_zero, List.set_cons_succ])
              refine wpAnyX_pure (i := 10) (v := ?_) rfl (by kernel_rfl) (by kernel_rfl) (by kernel_rfl) (fun _ _ _ h => h) (Or.inl ⟨by rfl, ?_⟩) ?_
              rotate_left
              · (intro W _; go_simp; try with_reducible rfl)
              (try simp only [Act.put, List.setIfInBounds_toArray, List.set_cons_zero, List.set_cons_succ])
              refine wpAnyX_one (i := 9) rfl (by kernel_rfl) (fun K hK => ?_)
              refine step_appX rfl _ _ _ _ rfl _ _ rfl rfl (PreB.app (gb := _) (by (repeat (first | (with_reducible exact HPB.out) | (with_reducible apply PreB.drew) | (with_reducible apply PreB.alloc)))) (by exact hl2) (by omega)) ?_
              rintro A3 c3 w8 hPC
              have HPC := Lib.hid hPC
              obtain ⟨l2, l3, l4, l5⟩ := key2.out _ hPC.blk
              clear hPC
              refine hK.out _ _ (fun _ _ => ⟨l2, l3⟩) ?_
              (try simp only [Act.put, List.setIfInBounds_toArray, List.set_cons_zero, List.set_cons_succ])
              refine wpAnyX_one (i := 11) rfl (by kernel_rfl) (fun K hK => ?_)
              go_simp
              refine hK.out _ _ (fun h => absurd h (by decide)) ?_
              (try simp only [Act.put, List.setIfInBounds_toArray, List.set_cons_zero, List.set_cons_succ])
              refine wpAnyX_pure (i := 12) (v := ?_) rfl (by kernel_rfl) (by kernel_rfl) (by kernel_rfl) (fun _ _ _ h => h) (Or.inl ⟨by rfl, ?_⟩) ?_
              rotate_left
              · (intro W _; go_simp; try with_reducible rfl)
              (try simp only [Act.put, List.setIfInBounds_toArray, List.set_cons_zero, List.set_cons_succ])
              refine wpAnyX_one (i := 13) rfl (by kernel_rfl) (fun K hK => ?_)
              go_simp
              refine hK.out _ _ (fun h => absurd h (by decide)) ?_
              (try simp only [Act.put, List.setIfInBounds_toArray, List.set_cons_zero, List.set_cons_succ])
              refine wpAnyX_done (by kernel_rfl) ?_ _
              obtain ⟨e1, e2, e3, e4, e5⟩ := MresEnd HPC.out (by rw [HZ0.out]; exact Nat.le_refl _)
              have HE1 := Lib.hid e1
              have HE2 := Lib.hid e2
              have HE3 := Lib.hid e3
              clear e1 e2 e3 e4 e5 l2 l3 l4 l5
              go_wp2_with fail
              go_roundw
              case rel =>
                obtain ⟨T9, hT9⟩ := HPRE.out
                refine ⟨j + 1, adG F j e E x, A, c, N ++ [rowm f x x], T ++ [rowm h x x], A2, A3, c2, c3, rfl, by go_num, by rw [hT9, List.length_append]; omega, HL128.out, HEN.out, HEX2.out, ?_, ?_, ?_, HE2.out, HE1.out, HE3.out⟩
                · rw [HN.out, rowm_all, HFF.out]
                  have := take_mapC (fun e : Ent => (List.range x).map fun a => ((plE R (F e.pr a) : Nat) : Int)) HRE.out hlt
                  rw [← HEE.out] at this
                  exact this
                · rw [HT.out, rowm_all, HHH.out]
                  have := take_mapC (fun e : Ent => (List.range x).map fun a => ((O e.pr a : Nat) : Int)) HRE.out hlt
                  rw [← HEE.out] at this
                  exact this
                · refine HOK.out.succ ?_
                  obtain ⟨T8, hT8⟩ := HRE.out
                  rw [hT8, getDE_pre hlt, ← HEE.out]
                  exact HOKQ2.out
              case measure => simp [intOf]; omega
    · obtain rfl : j = E.length := by omega
      have hRE : E = R := by rw [← HEX.out, exG_end (by omega)]
      have hj9 : E.length ≤ 1048576 := by omega
      have hNe : N = autN F i R := by rw [HN.out, hRE]; exact List.take_of_length_le (by simp [autN])
      have hTe : T = outN O i R := by rw [HT.out, hRE]; exact List.take_of_length_le (by simp [outN])
      have hNl : N.length = R.length := by rw [hNe]; simp [autN]
      have hTl : T.length = R.length := by rw [hTe]; simp [outN]
      have HFIT := Lib.hid (show Fits O i R from ⟨by rw [← hRE]; exact hE128, fun k hk a ha => HOK.out k (by rw [hRE]; exact hk) a ha⟩)
      obtain ⟨b1, b2, b3, _⟩ := HMR.out
      rw [hNl] at b1 b2
      rw [hTl] at b1 b3
      have HRr := Lib.hid (HR0.out.kept HBR.out (show w.heap.size + 1 < w0.heap.size by omega))
      obtain ⟨q0, q1, q2, q3, z0, z1, z2, z3⟩ := HRr.out.cells
      obtain ⟨y0, y1, y2, y3, _⟩ := b1.cells
      have HB2 := Lib.hid b2
      have HB3 := Lib.hid b3
      have HNE := Lib.hid hNe
      have HTE := Lib.hid hTe
      clear hRE hNe hTe hNl hTl b1 b2 b3 k0 k1 k2 k3 k4
      go_wp2_with fail
      refine bodyPost_ret (results_mealy rfl _ _ (w.heap.size + 1) (.int .i64 i) (.int .i64 0) (.slice AN R.length cN) (.slice AT R.length cT) rfl (HRr.out.set4 _ _ _ _)) rfl ?_
      have hz9 : w.heap.size ≤ w0.heap.size := HB0.out.size
      refine ⟨.inl ⟨HFIT.out, AN, cN, AT, cT, rfl, ?_, ?_⟩, below_set4 (Nat.le_succ _) (bt HB0.out HBR.out) _ _ _ _⟩
      · have := HB2.out
        rw [HNE.out] at this
        exact (this.keptT (HRr.out.set4' _ _ _ _ (by decide)) (HRr.out.set4' _ _ _ _ (by decide))).lower hz9
      · have := HB3.out
        rw [HTE.out] at this
        exact (this.keptT (HRr.out.set4' _ _ _ _ (by decide)) (HRr.out.set4' _ _ _ _ (by decide))).lower hz9
end Go.Proofs.Ytogcecfeofbbnaa
end
