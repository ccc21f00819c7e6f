/- Lemmas of the proofs of this seat, of the parts Rgnx, Obd, Hyp, Pfx, Hyb, Hyc, Hye, Hyf, Hyg, Reachp, Trimp, Trimq, Hyj, Hyh, Hyk, Fitm, Dsrt, Insm, Rwc, Trw, Stepm, Runm, Fromp, Fromm, Outsr, Valr, Hyv, Hyw, Obh, Ins16, Del16, Runk, Tracep, Tracem. Conditions: none. -/
import Derived.Test.YtkkmcgapbcikiaaKaa
import Derived.Deep.RegionHeld3
import Derived.StillTail
import Derived.Deep.DeepCutAuto
import Derived.BigQuiet
import Derived.Test.YtkkmcgapbcikiaaShelff
import Derived.Lib.OwnBridge
import Derived.Sort.OwnSortedInts
import Derived.Laws.IdiomCopy
import Derived.RegionTactic
import Derived.BigRegion
import Derived.Deep.RegionLaw
import Derived.Shelf.Spec.SlicesInsert
import Derived.Deep.AppendSrc
section
/- A region that draws its order and some of whose operations, which wait for all that read, may write what is read: the fact S is kept by the others only. Operations that read nothing are taken first, too. -/
namespace Go.Proofs.Ytkkmcgapbcikiaa

section
variable {P : Program} {ops : Array Oper} {Q : Exit → Act → World → Prop} {md : Region.Mode} {S : World → Prop} {X : Nat → Bool}
/-- S is kept by every operation but those of X. -/
def wpAnyX (P : Program) (md : Region.Mode) (ops : Array Oper) (Q : Exit → Act → World → Prop) (S : World → Prop) (X : Nat → Bool) : Nat → Array Bool → Act → World → Prop
  | 0, listed, a, w => Region.ready md ops listed = [] ∧ Q .normal a w
  | fuel + 1, listed, a, w =>
    (Region.ready md ops listed = [] → Q .normal a w) ∧
    ∀ i ∈ Region.ready md ops listed, wpOp P ops Q i (fun a' w' => (X i = false → S w → S w') ∧ wpAnyX P md ops Q S X fuel (listed.setIfInBounds i true) a' w') a w
theorem wpAny_of_heldX : ∀ (fuel : Nat) (listed : Array Bool) (a : Act) (w : World), wpAnyX P md ops Q S X fuel listed a w → wpAny P md ops Q fuel listed a w
  | 0, _, _, _, h => h
  | fuel + 1, _, _, _, h => ⟨h.1, fun i hi => wpOp_mono (fun a' w' h' => wpAny_of_heldX fuel _ a' w' h'.2) (h.2 i hi)⟩
theorem wpAnyX_first {i : Nat} {oi : Oper} {v : Value} (hi : ops[i]? = some oi) (hk : ∀ k, X k = true → Region.waitsFor md ops k i = true) (hsel : ∀ (j : Nat) (o : Oper) cs b, ops[j]? = some o → o.op ≠ .select cs b)
    (hQ : ∀ c a w, Q (.panic c) (a.put oi.dst v) w → Q (.panic c) a w) :
    ∀ (fuel : Nat) (listed : Array Bool) (a : Act) (w : World),
      (∀ j oj, ops[j]? = some oj → j ≠ i → listed.getD j true = false → (∀ e ∈ oj.after, Region.binds md e = true → e.on ≠ i) → oi.apart ops oj = true) →
      i ∈ Region.ready md ops listed → YieldsIf P ops S oi v a → S w →
      wpAnyX P md ops Q S X fuel (listed.setIfInBounds i true) (a.put oi.dst v) w → wpAnyX P md ops Q S X (fuel + 1) listed a w := by
  intro fuel
  induction fuel with
  | zero =>
    intro listed a w _ hr hy hS H
    refine ⟨fun h => (by rw [h] at hr; cases hr), fun j hj => ?_⟩
    by_cases hji : j = i
    · subst hji; exact hy.wpOp hi hS ⟨fun _ h => h, H⟩
    · have := ready_mono hj hji
      rw [H.1] at this
      cases this
  | succ fuel ih =>
    intro listed a w hfree hr hy hS H
    refine ⟨fun h => (by rw [h] at hr; cases hr), fun j hj => ?_⟩
    by_cases hji : j = i
    · subst hji; exact hy.wpOp hi hS ⟨fun _ h => h, H⟩
    · have h1 := H.2 j (ready_mono hj hji)
      obtain ⟨hjun, oj, hoj, hall⟩ := mem_ready.1 hj
      have hnot : ∀ e ∈ oj.after, Region.binds md e = true → e.on ≠ i := fun e he hb heq => by
        have h1 := hall e he hb
        have h0 := (mem_ready.1 hr).1
        rw [heq] at h1
        rcases Nat.lt_or_ge i listed.size with h' | h'
        · simp [h'] at h0 h1; rw [h0] at h1; cases h1
        · simp [Array.getElem?_eq_none h'] at h1
      have hjk : X j = false := by
        rcases hXj : X j with _ | _
        · rfl
        · obtain ⟨o', ho', e, he, hb, hon⟩ := Region.waitsFor_spec (hk j hXj)
          have : o' = oj := Option.some.inj (ho'.symm.trans hoj)
          subst this
          exact absurd hon (hnot e he hb)
      have h2 := wpOp_putIf hoj (hfree j oj hoj hji hjun hnot) (fun cs b => hsel i oi cs b hi) (fun cs b => hsel j oj cs b hoj) hQ hy h1
      have hfree' : ∀ l ok, ops[l]? = some ok → l ≠ i → (listed.setIfInBounds j true).getD l true = false →
          (∀ e ∈ ok.after, Region.binds md e = true → e.on ≠ i) → oi.apart ops ok = true := fun l ok hl hli hun hno => by
        refine hfree l ok hl hli ?_ hno
        by_cases hjl : j = l
        · subst hjl; exact hjun
        · rw [getD_set_ne true hjl] at hun; exact hun
      refine wpOp_mono (fun a' w' h3 => ⟨h3.2.1, ih (listed.setIfInBounds j true) a' w' hfree' (ready_mono hr (Ne.symm hji)) h3.1 (h3.2.1 hjk hS) ?_⟩) h2
      rw [Array.setIfInBounds_comm _ _ hji]
      exact h3.2.2
theorem wpAnyX_firstP {i : Nat} {oi : Oper} {v : Value} (hi : ops[i]? = some oi) (hsel : ∀ (j : Nat) (o : Oper) cs b, ops[j]? = some o → o.op ≠ .select cs b)
    (hQ : ∀ c a w, Q (.panic c) (a.put oi.dst v) w → Q (.panic c) a w) :
    ∀ (fuel : Nat) (listed : Array Bool) (a : Act) (w : World),
      (∀ j oj, ops[j]? = some oj → j ≠ i → listed.getD j true = false → (∀ e ∈ oj.after, Region.binds md e = true → e.on ≠ i) → oi.apart ops oj = true) →
      i ∈ Region.ready md ops listed → YieldsIf P ops (fun _ => True) oi v a →
      wpAnyX P md ops Q S X fuel (listed.setIfInBounds i true) (a.put oi.dst v) w → wpAnyX P md ops Q S X (fuel + 1) listed a w := by
  intro fuel
  induction fuel with
  | zero =>
    intro listed a w _ hr hy H
    refine ⟨fun h => (by rw [h] at hr; cases hr), fun j hj => ?_⟩
    by_cases hji : j = i
    · subst hji; exact hy.wpOp hi trivial ⟨fun _ h => h, H⟩
    · have := ready_mono hj hji
      rw [H.1] at this
      cases this
  | succ fuel ih =>
    intro listed a w hfree hr hy H
    refine ⟨fun h => (by rw [h] at hr; cases hr), fun j hj => ?_⟩
    by_cases hji : j = i
    · subst hji; exact hy.wpOp hi trivial ⟨fun _ h => h, H⟩
    · have h1 := H.2 j (ready_mono hj hji)
      obtain ⟨hjun, oj, hoj, hall⟩ := mem_ready.1 hj
      have hnot : ∀ e ∈ oj.after, Region.binds md e = true → e.on ≠ i := fun e he hb heq => by
        have h1 := hall e he hb
        have h0 := (mem_ready.1 hr).1
        rw [heq] at h1
        rcases Nat.lt_or_ge i listed.size with h' | h'
        · simp [h'] at h0 h1; rw [h0] at h1; cases h1
        · simp [Array.getElem?_eq_none h'] at h1
      have h2 := wpOp_putIf hoj (hfree j oj hoj hji hjun hnot) (fun cs b => hsel i oi cs b hi) (fun cs b => hsel j oj cs b hoj) hQ hy h1
      have hfree' : ∀ l ok, ops[l]? = some ok → l ≠ i → (listed.setIfInBounds j true).getD l true = false →
          (∀ e ∈ ok.after, Region.binds md e = true → e.on ≠ i) → oi.apart ops ok = true := fun l ok hl hli hun hno => by
        refine hfree l ok hl hli ?_ hno
        by_cases hjl : j = l
        · subst hjl; exact hjun
        · rw [getD_set_ne true hjl] at hun; exact hun
      refine wpOp_mono (fun a' w' h3 => ⟨h3.2.1, ih (listed.setIfInBounds j true) a' w' hfree' (ready_mono hr (Ne.symm hji)) h3.1 ?_⟩) h2
      rw [Array.setIfInBounds_comm _ _ hji]
      exact h3.2.2
/-- Take number i, which reads what S says, first. -/
theorem wpAnyX_take {i : Nat} {oi : Oper} {v : Value} {fuel : Nat} {listed : Array Bool} {a : Act} {w : World} (hi : ops[i]? = some oi) (hk : ∀ k, X k = true → Region.waitsFor md ops k i = true)
    (hs : Region.noSelect ops = true) (hf : Region.free md ops listed i = true) (hr : (Region.ready md ops listed).contains i = true)
    (hQ : ∀ c a w, Q (.panic c) (a.put oi.dst v) w → Q (.panic c) a w) (hy : YieldsIf P ops S oi v a) (hS : S w)
    (h : wpAnyX P md ops Q S X fuel (listed.setIfInBounds i true) (a.put oi.dst v) w) : wpAnyX P md ops Q S X (fuel + 1) listed a w :=
  wpAnyX_first hi hk (Region.noSelect_spec hs) hQ fuel listed a w (Region.free_spec hi hf) (by simpa using hr) hy hS h
theorem wpAnyX_takeL {L : List Nat} {i : Nat} {oi : Oper} {v : Value} {fuel : Nat} {listed : Array Bool} {a : Act} {w : World} (hi : ops[i]? = some oi) (hk : (L.all fun k => Region.waitsFor md ops k i) = true)
    (hs : Region.noSelect ops = true) (hf : Region.free md ops listed i = true) (hr : (Region.ready md ops listed).contains i = true)
    (hQ : ∀ c a w, Q (.panic c) (a.put oi.dst v) w → Q (.panic c) a w) (hy : YieldsIf P ops S oi v a) (hS : S w)
    (h : wpAnyX P md ops Q S (fun k => L.contains k) fuel (listed.setIfInBounds i true) (a.put oi.dst v) w) : wpAnyX P md ops Q S (fun k => L.contains k) (fuel + 1) listed a w :=
  wpAnyX_take hi (fun k hX => List.all_eq_true.1 hk k (by simpa using hX)) hs hf hr hQ hy hS h
/-- Take number i, which reads nothing, first. -/
theorem wpAnyX_pure {i : Nat} {oi : Oper} {v : Value} {fuel : Nat} {listed : Array Bool} {a : Act} {w : World} (hi : ops[i]? = some oi)
    (hs : Region.noSelect ops = true) (hf : Region.free md ops listed i = true) (hr : (Region.ready md ops listed).contains i = true)
    (hQ : ∀ c a w, Q (.panic c) (a.put oi.dst v) w → Q (.panic c) a w) (hy : YieldsIf P ops (fun _ => True) oi v a)
    (h : wpAnyX P md ops Q S X fuel (listed.setIfInBounds i true) (a.put oi.dst v) w) : wpAnyX P md ops Q S X (fuel + 1) listed a w :=
  wpAnyX_firstP hi (Region.noSelect_spec hs) hQ fuel listed a w (Region.free_spec hi hf) (by simpa using hr) hy h
/-- The only one that may come up. -/
theorem wpAnyX_one {i : Nat} {o : Oper} {fuel : Nat} {listed : Array Bool} {a : Act} {w : World} (ho : ops[i]? = some o) (hr : Region.ready md ops listed = [i])
    (h : ∀ K' : Act → World → Prop, Shut (∀ a w', (X i = false → S w → S w') → wpAnyX P md ops Q S X fuel (listed.setIfInBounds i true) a w' → K' a w') → if Region.wanted o (yielded ops a.tmps) = true then Oper.wp P o a w K' Q else K' (a.put o.dst undef) w) : wpAnyX P md ops Q S X (fuel + 1) listed a w := by
  refine ⟨fun h0 => ?_, fun j hj => ?_⟩
  · rw [hr] at h0; cases h0
  · rw [hr] at hj
    obtain rfl := List.mem_singleton.1 hj
    exact wpOp_step ho (fun K' hK => h K' (fun a w hS hW => hK a w ⟨hS, hW⟩))
/-- One of two may come up. -/
theorem wpAnyX_two {i j : Nat} {o u : Oper} {fuel : Nat} {listed : Array Bool} {a : Act} {w : World} (ho : ops[i]? = some o) (hu : ops[j]? = some u) (hr : Region.ready md ops listed = [i, j])
    (h : ∀ K' : Act → World → Prop, Shut (∀ a w', (X i = false → S w → S w') → wpAnyX P md ops Q S X fuel (listed.setIfInBounds i true) a w' → K' a w') → if Region.wanted o (yielded ops a.tmps) = true then Oper.wp P o a w K' Q else K' (a.put o.dst undef) w)
    (k : ∀ K' : Act → World → Prop, Shut (∀ a w', (X j = false → S w → S w') → wpAnyX P md ops Q S X fuel (listed.setIfInBounds j true) a w' → K' a w') → if Region.wanted u (yielded ops a.tmps) = true then Oper.wp P u a w K' Q else K' (a.put u.dst undef) w) : wpAnyX P md ops Q S X (fuel + 1) listed a w := by
  refine ⟨fun h0 => ?_, fun l hl => ?_⟩
  · rw [hr] at h0; cases h0
  · rw [hr] at hl
    rcases List.mem_cons.1 hl with rfl | hl
    · exact wpOp_step ho (fun K' hK => h K' (fun a w hS hW => hK a w ⟨hS, hW⟩))
    · obtain rfl := List.mem_singleton.1 hl
      exact wpOp_step hu (fun K' hK => k K' (fun a w hS hW => hK a w ⟨hS, hW⟩))
theorem wpAnyX_done {listed : Array Bool} {a : Act} {w : World} (hr : Region.ready md ops listed = []) (h : Q .normal a w) : ∀ fuel, wpAnyX P md ops Q S X fuel listed a w
  | 0 => ⟨hr, h⟩
  | _ + 1 => ⟨fun _ => h, by rw [hr]; simp⟩
theorem wp_region_heldX {id : Nat} {a : Act} {w : World} (hm : P.follows .mixedOrders = true)
    (h : wpAnyX P .any ops Q S X ops.size (Array.replicate ops.size false) a w.drew) : (Code.region id ops true).wp P Q a w :=
  wp_region_any hm (wpAny_of_heldX _ _ _ _ h)
end
end Go.Proofs.Ytkkmcgapbcikiaa
end

section
/- Clash. -/
namespace Go.Proofs.Ytkkmcgapbcikiaa
open Go.RowKit

theorem results_clash {fn : Func} {p u : Tmp} (h : fn.results = #[.cell p 43, .tmp u]) (tmps : Array Value) (w : World) (g : Nat) (v1 v2 v3 : Value)
    (hp : tmps.getD p undef = .pointer (some ⟨g, 0, none⟩)) (hg : Bx w g #[v1, v2, v3] 43) :
    (results fn tmps).run Try.prog w = .ok (.tuple #[.agg #[v1, v2, v3], tmps.getD u undef]) w := by
  rw [results_cell_tmp h, hp]
  have hl := run_loadVar_row (P := Try.prog) w g 43 43 #[v1, v2, v3] (0, 0) _ hg Try.underlying43 rfl (by kernel_rfl)
  simp [asAddr, hl]

/-- The result of Clash: what is found is where the outputs of the trace best stop to agree. -/
def ClsR (ts : List (List Int × List Int)) (xs ys : List Int) (i : Int) (fd : Bool) (zs : List Int) (f s : Int) : Prop :=
  ∃ best, Got ts xs best (knw ts xs ts.length) ∧ ((fd = false ∧ zs = [] ∧ f = 0 ∧ s = 0 ∧ (¬ prpE xs ys i = 0 ∨ agrN ts best (knw ts xs ts.length) ys = knw ts xs ts.length)) ∨
    (fd = true ∧ prpE xs ys i = 0 ∧ agrN ts best (knw ts xs ts.length) ys < knw ts xs ts.length ∧ zs = xs.take (agrN ts best (knw ts xs ts.length) ys + 1) ∧ f = (tOut ts best).getD (agrN ts best (knw ts xs ts.length) ys) 0 ∧ s = ys.getD (agrN ts best (knw ts xs ts.length) ys) 0))
def ClsE (ts : List (List Int × List Int)) (xs ys : List Int) (i : Int) (w : World) (e : Ending) (w' : World) : Prop :=
  ∃ (fd : Bool) (A' : Option Addr) (l c' : Nat) (f s : Int) (zs : List Int), e = .returned (.tuple #[.agg #[.slice A' l c', .int .i64 f, .int .i64 s], .bool fd]) ∧ ClsR ts xs ys i fd zs f s ∧ Owned w' w.heap.size (.slice A' l c') zs ∧ Below w.heap.size w w'
theorem agrN_le (ts : List (List Int × List Int)) (best known : Nat) (ys : List Int) : agrN ts best known ys ≤ known := by
  unfold agrN
  split
  · omega
  · have := cmn_le_left ((tOut ts best).take known) ys
    rw [List.length_take] at this
    omega
theorem ClsE.none_ {ts : List (List Int × List Int)} {xs ys : List Int} {i : Int} {w w' : World} {best : Nat} (hg : Got ts xs best (knw ts xs ts.length)) (h : ¬ prpE xs ys i = 0 ∨ agrN ts best (knw ts xs ts.length) ys = knw ts xs ts.length) (hb : Below w.heap.size w w') :
    ClsE ts xs ys i w (.returned (.tuple #[.agg #[.slice none 0 0, .int .i64 0, .int .i64 0], .bool false])) w' :=
  ⟨false, none, 0, 0, 0, 0, [], rfl, ⟨best, hg, .inl ⟨rfl, rfl, rfl, rfl, h⟩⟩, Owned.nil _ _, hb⟩

theorem got_any (ts : List (List Int × List Int)) (xs : List Int) : ∃ best, Got ts xs best (knw ts xs ts.length) := by
  by_cases h : 0 < knw ts xs ts.length
  · obtain ⟨j, hj, e⟩ := knw_at h
    exact ⟨j, fun _ => ⟨hj, e⟩⟩
  · exact ⟨0, fun h' => absurd h' h⟩
theorem set3B {w0 w : World} {z g : Nat} (hb : Below z w0 w) (hg : z ≤ g) (x y u : Value) : Below z w0 (((w.setCell ⟨g, 0, none⟩ x).setCell ⟨g, 1, none⟩ y).setCell ⟨g, 2, none⟩ u) :=
  ((hb.setCell (p := ⟨g, 0, none⟩) hg x).setCell (p := ⟨g, 1, none⟩) hg y).setCell (p := ⟨g, 2, none⟩) hg u
theorem Bx.set3 {w : World} {g : Nat} {a b c : Value} {t : TypeId} (h : Bx w g #[a, b, c] t) (x y u : Value) : Bx (((w.setCell ⟨g, 0, none⟩ x).setCell ⟨g, 1, none⟩ y).setCell ⟨g, 2, none⟩ u) g #[x, y, u] t := by
  have := ((h.set 0 x).set 1 y).set 2 u
  simpa using this

set_option linter.unusedSimpArgs false in
set_option linter.unusedVariables false in
set_option maxHeartbeats 4000000 in
set_option maxRecDepth 100000 in
theorem pclash (i : Int) (T A B : Option Addr) (tn tc n c m d : Nat) (ts : List (List Int × List Int)) (xs ys : List Int) (w : World) (hT : Trs w T tn ts) (htc : tn ≤ tc) (hx : Ints w A n xs) (hnc : n ≤ c) (hy : Ints w B m ys) (hS : Srt ts) (hF : Full ts) :
    Calls Try.prog 21 #[.agg #[.int .i64 i, .slice T tn tc], .agg #[.slice A n c, .slice B m d]] w fun e w' => ClsE ts xs ys i w e w' := by
  obtain ⟨w0, hw0⟩ : ∃ w0, w0 = ((w.alloc (.cells #[.int .i64 i, .slice T tn tc] 24)).alloc (.cells #[.slice A n c, .slice B m d] 38)).alloc (.cells #[.slice none 0 0, .int .i64 0, .int .i64 0] 43) := ⟨_, rfl⟩
  obtain ⟨hb0, m1, m2, m3, hs0⟩ := bxs3 w #[.int .i64 i, .slice T tn tc] #[.slice A n c, .slice B m d] #[.slice none 0 0, .int .i64 0, .int .i64 0] 24 38 43 w0 hw0
  have HW0 := Lib.hid hw0
  have HB0 := Lib.hid hb0
  have HX := Lib.hid (fun (W : World) (h : Below w0.heap.size w0 W) => (hx.below hb0).below h)
  have HY := Lib.hid (fun (W : World) (h : Below w0.heap.size w0 W) => (hy.below hb0).below h)
  have HT := Lib.hid (fun (W : World) (h : Below w0.heap.size w0 W) => (hT.below hb0).below h)
  have HM1 := Lib.hid (fun (W : World) (h : Below w0.heap.size w0 W) => m1.on h)
  have HM2 := Lib.hid (fun (W : World) (h : Below w0.heap.size w0 W) => m2.on h)
  have HM3 := Lib.hid (fun (W : World) (h : Below w0.heap.size w0 W) => m3.on h)
  have HLT := Lib.hid hT.1
  have HLX := Lib.hid hx.1
  have HLY := Lib.hid hy.1
  have HSS := Lib.hid hS
  have HFF := Lib.hid hF
  have hbc := Below.refl w0.heap.size w0
  have k0 := m1.cell 0
  have k1 := m1.cell 1
  have l0 := m2.cell 0
  have l1 := m2.cell 1
  simp at k0 k1 l0 l1
  rw [hw0] at k0 k1 l0 l1
  have hN := hT.2.1
  have hNx := hx.2.1
  have HZ0 := Lib.hid hs0
  clear hw0 hb0 hx hy hT m1 m2 m3 hS hF hs0
  go_enter Try.func21, Try.ntmps21
  go_wp2_with fail
  rw [← HW0.out]
  refine (pproper A B n c m d i xs ys _ (HX.out _ hbc) (HY.out _ hbc)).mono ?_
  rintro e w1 ⟨rfl, a1⟩
  have hbc := bt hbc a1
  clear a1 k0 k1 l0 l1
  obtain ⟨E, hE⟩ : ∃ E, E = prpE xs ys i := ⟨_, rfl⟩
  rw [← hE]
  have HE := Lib.hid hE
  clear hE
  have k0 := (HM1.out _ hbc).cell 0
  have k1 := (HM1.out _ hbc).cell 1
  have l0 := (HM2.out _ hbc).cell 0
  have l1 := (HM2.out _ hbc).cell 1
  simp at k0 k1 l0 l1
  by_cases he : E = 0
  case neg =>
    have hne : (E != 0) = true := by simpa using he
    have HNE := Lib.hid he
    have m3 := HM3.out _ hbc
    have f0 := m3.free 0
    have f1 := m3.free 1
    have f2 := m3.free 2
    have q0 := m3.cell 0
    have q1 := m3.cell 1
    have q2 := m3.cell 2
    simp at q0 q1 q2
    have HS3 := Lib.hid (m3.set3 (.slice none 0 0) (.int .i64 0) (.int .i64 0))
    have HBB := Lib.hid (set3B (g := w.heap.size + 1 + 1) (bt HB0.out hbc) (by omega) (.slice none 0 0) (.int .i64 0) (.int .i64 0))
    clear m3
    go_wp2_with fail
    (try rw [Exit.noGoto_ret])
    refine bodyPost_ret (results_clash rfl _ _ (w.heap.size + 1 + 1) (.slice none 0 0) (.int .i64 0) (.int .i64 0) rfl HS3.out) rfl ?_
    obtain ⟨best, hg⟩ := got_any ts xs
    exact ClsE.none_ hg (.inl (by rw [← HE.out]; exact HNE.out)) HBB.out
  subst he
  go_wp2_with fail
  refine (pnear T A tn tc n c ts xs _ (HT.out _ hbc) (HX.out _ hbc) HSS.out HFF.out htc).mono ?_
  rintro e w2 ⟨best, kn, rfl, hkn, HG, a2⟩
  have hbc := bt hbc a2
  clear a2 k0 k1 l0 l1
  have hkx : kn ≤ n := by rw [hkn, ← HLX.out]; exact knw_le
  rw [← HLT.out] at hkn
  have HKN := Lib.hid hkn
  clear hkn
  have HGB := Lib.hid (show 0 < kn → best < tn ∧ kn ≤ (tOut ts best).length from fun h => by
    obtain ⟨h1, h2⟩ := HG.out h
    refine ⟨by rw [← HLT.out]; exact h1, ?_⟩
    rw [HFF.out best h1, ← h2]
    exact cmn_le_left _ _)
  have k0 := (HM1.out _ hbc).cell 0
  have k1 := (HM1.out _ hbc).cell 1
  have l0 := (HM2.out _ hbc).cell 0
  have l1 := (HM2.out _ hbc).cell 1
  simp at k0 k1 l0 l1
  go_wp2_with fail
  refine (pagreed T A B tn tc n c m d best kn ts ys _ (HT.out _ hbc) (HY.out _ hbc) HGB.out).mono ?_
  rintro e w3 ⟨rfl, a3⟩
  have hbc := bt hbc a3
  clear a3 k0 k1 l0 l1
  obtain ⟨k, hk⟩ : ∃ k, k = agrN ts best kn ys := ⟨_, rfl⟩
  have hkk : k ≤ kn := by rw [hk]; exact agrN_le _ _ _ _
  rw [← hk]
  have HK := Lib.hid hk
  clear hk
  by_cases hq : k = kn
  case pos =>
    have HQ := Lib.hid hq
    have hqi : ((k : Int) == (kn : Int)) = true := by rw [beq_iff_eq]; omega
    have hqd : (k : Int) = (kn : Int) := by omega
    have m3 := HM3.out _ hbc
    have f0 := m3.free 0
    have f1 := m3.free 1
    have f2 := m3.free 2
    have q0 := m3.cell 0
    have q1 := m3.cell 1
    have q2 := m3.cell 2
    simp at q0 q1 q2
    have HS3 := Lib.hid (m3.set3 (.slice none 0 0) (.int .i64 0) (.int .i64 0))
    have HBB := Lib.hid (set3B (g := w.heap.size + 1 + 1) (bt HB0.out hbc) (by omega) (.slice none 0 0) (.int .i64 0) (.int .i64 0))
    clear m3
    go_wp2_with fail
    (try rw [Exit.noGoto_ret])
    refine bodyPost_ret (results_clash rfl _ _ (w.heap.size + 1 + 1) (.slice none 0 0) (.int .i64 0) (.int .i64 0) rfl HS3.out) rfl ?_
    exact ClsE.none_ (best := best) (by rw [← HKN.out]; exact HG.out) (.inr (by rw [← HKN.out, ← HK.out, HQ.out])) HBB.out
  have hqi : ((k : Int) == (kn : Int)) = false := by rw [beq_eq_false_iff_ne]; omega
  have hlt : k < kn := by omega
  obtain ⟨hbt, hko⟩ := HGB.out (by omega)
  obtain ⟨b, off, A1, n1, c1, A2, n2, c2, eT, hgb, _, j2, _, q2, _, j4⟩ := (HT.out _ hbc).at_ hbt
  subst eT
  have hn2 : n2 = (tOut ts best).length := j4.1.symm
  obtain ⟨b2, o2, eA, hg2, r2⟩ := j4.at_ (k := k) (by omega)
  subst eA
  have hpr : prpE xs ys i = 0 := HE.out.symm
  have hml : ys.length = xs.length := by
    unfold prpE at hpr
    split at hpr
    · exact (ansE_zero hpr).1
    · omega
  have hmn : m = n := by rw [← HLX.out, ← HLY.out, hml]
  obtain ⟨b3, o3, eB, hg3, r3⟩ := (HY.out _ hbc).at_ (k := k) (by omega)
  subst eB
  obtain ⟨F, hF⟩ : ∃ F, F = (tOut ts best).getD k 0 := ⟨_, rfl⟩
  obtain ⟨S2, hS2⟩ : ∃ S2, S2 = ys.getD k 0 := ⟨_, rfl⟩
  rw [← hF] at r2
  rw [← hS2] at r3
  have HF := Lib.hid hF
  have HS2 := Lib.hid hS2
  have HPR := Lib.hid hpr
  have k1 := (HM1.out _ hbc).cell 1
  have l0 := (HM2.out _ hbc).cell 0
  have l1 := (HM2.out _ hbc).cell 1
  simp at k1 l0 l1
  have hz := (HM3.out _ hbc).lt
  have HS := Lib.hid (show ∀ W, Below w3.heap.size w3 W → W.cell? ⟨w.heap.size + 1, 0, none⟩ = some (.slice A n c) ∧ W.cell? ⟨w.heap.size + 1, 1, none⟩ = some (.slice (some ⟨b3, o3, none⟩) m d) ∧ W.cell? ⟨w.heap.size, 1, none⟩ = some (.slice (some ⟨b, off, none⟩) tn tc) ∧ W.cell? ⟨b, off + best * 2 + 1, none⟩ = some (.slice (some ⟨b2, o2, none⟩) n2 c2) ∧ W.cell? ⟨b2, o2 + k, none⟩ = some (.int .i64 F) ∧ W.cell? ⟨b3, o3 + k, none⟩ = some (.int .i64 S2) from
    fun W h => ⟨(h.cell (p := ⟨w.heap.size + 1, 0, none⟩) (by show w.heap.size + 1 < w3.heap.size; omega)).trans l0, (h.cell (p := ⟨w.heap.size + 1, 1, none⟩) (by show w.heap.size + 1 < w3.heap.size; omega)).trans l1,
      (h.cell (p := ⟨w.heap.size, 1, none⟩) (by show w.heap.size < w3.heap.size; omega)).trans k1, (h.cell (p := ⟨b, off + best * 2 + 1, none⟩) hgb).trans j2, (h.cell (p := ⟨b2, o2 + k, none⟩) hg2).trans r2, (h.cell (p := ⟨b3, o3 + k, none⟩) hg3).trans r3⟩)
  have HR := Lib.hid (HM3.out _ hbc)
  have hz4 : w.heap.size + 1 + 1 < w3.heap.size := hz
  have HCL := Lib.hid (fun (W : World) (h : Below w3.heap.size w3 W) => sclone A (k + 1) c (xs.take (k + 1)) W (by
    have hI := (HX.out _ hbc).below h
    refine ⟨by rw [List.length_take, hI.1]; omega, by have := hI.2.1; omega, fun h0 => ?_⟩
    obtain ⟨b', o', e, hlt', hc⟩ := hI.2.2 (by omega)
    refine ⟨b', o', e, hlt', fun j hj => ?_⟩
    rw [hc j (by omega)]
    congr 2
    rw [List.getD_eq_getElem?_getD, List.getD_eq_getElem?_getD, List.getElem?_take_of_lt hj]))
  have w1' : IntKind.i64.wrap ((k : Int) + 1) = (k : Int) + 1 := by rw [IntKind.wrap_i64]; omega
  have i1 : (k : Int) + 1 ≤ (c : Int) := by omega
  have i2 : (0 : Int) ≤ (k : Int) + 1 := by omega
  have i3 : (best : Int) < (tn : Int) := by omega
  have i4 : (0 : Int) ≤ (best : Int) := by omega
  have i5 : (k : Int) < (n2 : Int) := by omega
  have i6 : (k : Int) < (m : Int) := by omega
  have i7 : (0 : Int) ≤ (k : Int) := by omega
  have HBC := Lib.hid hbc
  have HHK := Lib.hid hkk
  clear hg2 hg3 hgb j2 j4 q2 r2 r3 hF hS2 hpr hml hmn hn2 k1 l0 l1 hbt hko hz hbc
  go_upto_region 7 with fail
  have hbf : Below w3.heap.size w3 w3.drew := below_drewN (Below.refl _ _) 1
  refine wp_region_heldX (X := fun k => ([21] : List Nat).contains k) (S := fun W => W.cell? ⟨w.heap.size + 1, 0, none⟩ = some (.slice A n c) ∧ W.cell? ⟨w.heap.size + 1, 1, none⟩ = some (.slice (some ⟨b3, o3, none⟩) m d) ∧ W.cell? ⟨w.heap.size, 1, none⟩ = some (.slice (some ⟨b, off, none⟩) tn tc) ∧ W.cell? ⟨b, off + best * 2 + 1, none⟩ = some (.slice (some ⟨b2, o2, none⟩) n2 c2) ∧ W.cell? ⟨b2, o2 + k, none⟩ = some (.int .i64 F) ∧ W.cell? ⟨b3, o3 + k, none⟩ = some (.int .i64 S2)) (by kernel_rfl) ?_
  refine wpAnyX_pure (i := 0) (v := ?_) rfl (by kernel_rfl) (by kernel_rfl) (by kernel_rfl) (fun _ _ _ h => h) (Or.inl ⟨by rfl, ?_⟩) ?_
  rotate_left
  · (intro W _; go_simp; try with_reducible rfl)
  (try simp only [Act.put, List.getElem_toArray, List.getElem_cons_zero, List.getElem_cons_succ, List.setIfInBounds_toArray, List.set_cons_zero, List.set_cons_succ])
  refine wpAnyX_takeL (L := [21]) (i := 1) (v := ?_) rfl (by kernel_rfl) (by kernel_rfl) (by kernel_rfl) (by kernel_rfl) (fun _ _ _ h => h) (Or.inl ⟨by rfl, ?_⟩) (HS.out _ hbf) ?_
  rotate_left
  · (intro W hSW; (try dsimp only at hSW); obtain ⟨z0, z1, z2, z3, z4, z5⟩ := hSW; go_simp; try with_reducible rfl)
  (try simp only [Act.put, List.getElem_toArray, List.getElem_cons_zero, List.getElem_cons_succ, List.setIfInBounds_toArray, List.set_cons_zero, List.set_cons_succ])
  refine wpAnyX_pure (i := 2) (v := ?_) rfl (by kernel_rfl) (by kernel_rfl) (by kernel_rfl) (fun _ _ _ h => h) (Or.inl ⟨by rfl, ?_⟩) ?_
  rotate_left
  · (intro W _; go_simp; try with_reducible rfl)
  (try simp only [Act.put, List.getElem_toArray, List.getElem_cons_zero, List.getElem_cons_succ, List.setIfInBounds_toArray, List.set_cons_zero, List.set_cons_succ])
  refine wpAnyX_pure (i := 3) (v := ?_) rfl (by kernel_rfl) (by kernel_rfl) (by kernel_rfl) (fun _ _ _ h => h) (Or.inl ⟨by rfl, ?_⟩) ?_
  rotate_left
  · (intro W _; go_simp; try with_reducible rfl)
  (try simp only [Act.put, List.getElem_toArray, List.getElem_cons_zero, List.getElem_cons_succ, List.setIfInBounds_toArray, List.set_cons_zero, List.set_cons_succ])
  refine wpAnyX_pure (i := 4) (v := ?_) rfl (by kernel_rfl) (by kernel_rfl) (by kernel_rfl) (fun _ _ _ h => h) (Or.inl ⟨by rfl, ?_⟩) ?_
  rotate_left
  · (intro W _; go_simp; try with_reducible rfl)
  (try simp only [Act.put, List.getElem_toArray, List.getElem_cons_zero, List.getElem_cons_succ, List.setIfInBounds_toArray, List.set_cons_zero, List.set_cons_succ])
  refine wpAnyX_pure (i := 6) (v := ?_) rfl (by kernel_rfl) (by kernel_rfl) (by kernel_rfl) (fun _ _ _ h => h) (Or.inl ⟨by rfl, ?_⟩) ?_
  rotate_left
  · (intro W _; go_simp; try with_reducible rfl)
  (try simp only [Act.put, List.getElem_toArray, List.getElem_cons_zero, List.getElem_cons_succ, List.setIfInBounds_toArray, List.set_cons_zero, List.set_cons_succ])
  refine wpAnyX_takeL (L := [21]) (i := 7) (v := ?_) rfl (by kernel_rfl) (by kernel_rfl) (by kernel_rfl) (by kernel_rfl) (fun _ _ _ h => h) (Or.inl ⟨by rfl, ?_⟩) (HS.out _ hbf) ?_
  rotate_left
  · (intro W hSW; (try dsimp only at hSW); obtain ⟨z0, z1, z2, z3, z4, z5⟩ := hSW; go_simp; try with_reducible rfl)
  (try simp only [Act.put, List.getElem_toArray, List.getElem_cons_zero, List.getElem_cons_succ, List.setIfInBounds_toArray, List.set_cons_zero, List.set_cons_succ])
  refine wpAnyX_pure (i := 8) (v := ?_) rfl (by kernel_rfl) (by kernel_rfl) (by kernel_rfl) (fun _ _ _ h => h) (Or.inl ⟨by rfl, ?_⟩) ?_
  rotate_left
  · (intro W _; go_simp; try with_reducible rfl)
  (try simp only [Act.put, List.getElem_toArray, List.getElem_cons_zero, List.getElem_cons_succ, List.setIfInBounds_toArray, List.set_cons_zero, List.set_cons_succ])
  refine wpAnyX_pure (i := 9) (v := ?_) rfl (by kernel_rfl) (by kernel_rfl) (by kernel_rfl) (fun _ _ _ h => h) (Or.inl ⟨by rfl, ?_⟩) ?_
  rotate_left
  · (intro W _; go_simp; try with_reducible rfl)
  (try simp only [Act.put, List.getElem_toArray, List.getElem_cons_zero, List.getElem_cons_succ, List.setIfInBounds_toArray, List.set_cons_zero, List.set_cons_succ])
  refine wpAnyX_pure (i := 10) (v := ?_) rfl (by kernel_rfl) (by kernel_rfl) (by kernel_rfl) (fun _ _ _ h => h) (Or.inl ⟨by rfl, ?_⟩) ?_
  rotate_left
  · (intro W _; go_simp; try with_reducible rfl)
  (try simp only [Act.put, List.getElem_toArray, List.getElem_cons_zero, List.getElem_cons_succ, List.setIfInBounds_toArray, List.set_cons_zero, List.set_cons_succ])
  refine wpAnyX_takeL (L := [21]) (i := 11) (v := ?_) rfl (by kernel_rfl) (by kernel_rfl) (by kernel_rfl) (by kernel_rfl) (fun _ _ _ h => h) (Or.inl ⟨by rfl, ?_⟩) (HS.out _ hbf) ?_
  rotate_left
  · (intro W hSW; (try dsimp only at hSW); obtain ⟨z0, z1, z2, z3, z4, z5⟩ := hSW; go_simp; try with_reducible rfl)
  (try simp only [Act.put, List.getElem_toArray, List.getElem_cons_zero, List.getElem_cons_succ, List.setIfInBounds_toArray, List.set_cons_zero, List.set_cons_succ])
  refine wpAnyX_pure (i := 12) (v := ?_) rfl (by kernel_rfl) (by kernel_rfl) (by kernel_rfl) (fun _ _ _ h => h) (Or.inl ⟨by rfl, ?_⟩) ?_
  rotate_left
  · (intro W _; go_simp; try with_reducible rfl)
  (try simp only [Act.put, List.getElem_toArray, List.getElem_cons_zero, List.getElem_cons_succ, List.setIfInBounds_toArray, List.set_cons_zero, List.set_cons_succ])
  refine wpAnyX_pure (i := 13) (v := ?_) rfl (by kernel_rfl) (by kernel_rfl) (by kernel_rfl) (fun _ _ _ h => h) (Or.inl ⟨by rfl, ?_⟩) ?_
  rotate_left
  · (intro W _; go_simp; try with_reducible rfl)
  (try simp only [Act.put, List.getElem_toArray, List.getElem_cons_zero, List.getElem_cons_succ, List.setIfInBounds_toArray, List.set_cons_zero, List.set_cons_succ])
  refine wpAnyX_takeL (L := [21]) (i := 14) (v := ?_) rfl (by kernel_rfl) (by kernel_rfl) (by kernel_rfl) (by kernel_rfl) (fun _ _ _ h => h) (Or.inl ⟨by rfl, ?_⟩) (HS.out _ hbf) ?_
  rotate_left
  · (intro W hSW; (try dsimp only at hSW); obtain ⟨z0, z1, z2, z3, z4, z5⟩ := hSW; go_simp; try with_reducible rfl)
  (try simp only [Act.put, List.getElem_toArray, List.getElem_cons_zero, List.getElem_cons_succ, List.setIfInBounds_toArray, List.set_cons_zero, List.set_cons_succ])
  refine wpAnyX_pure (i := 15) (v := ?_) rfl (by kernel_rfl) (by kernel_rfl) (by kernel_rfl) (fun _ _ _ h => h) (Or.inl ⟨by rfl, ?_⟩) ?_
  rotate_left
  · (intro W _; go_simp; try with_reducible rfl)
  (try simp only [Act.put, List.getElem_toArray, List.getElem_cons_zero, List.getElem_cons_succ, List.setIfInBounds_toArray, List.set_cons_zero, List.set_cons_succ])
  refine wpAnyX_takeL (L := [21]) (i := 16) (v := ?_) rfl (by kernel_rfl) (by kernel_rfl) (by kernel_rfl) (by kernel_rfl) (fun _ _ _ h => h) (Or.inl ⟨by rfl, ?_⟩) (HS.out _ hbf) ?_
  rotate_left
  · (intro W hSW; (try dsimp only at hSW); obtain ⟨z0, z1, z2, z3, z4, z5⟩ := hSW; go_simp; try with_reducible rfl)
  (try simp only [Act.put, List.getElem_toArray, List.getElem_cons_zero, List.getElem_cons_succ, List.setIfInBounds_toArray, List.set_cons_zero, List.set_cons_succ])
  refine wpAnyX_pure (i := 17) (v := ?_) rfl (by kernel_rfl) (by kernel_rfl) (by kernel_rfl) (fun _ _ _ h => h) (Or.inl ⟨by rfl, ?_⟩) ?_
  rotate_left
  · (intro W _; go_simp; try with_reducible rfl)
  (try simp only [Act.put, List.getElem_toArray, List.getElem_cons_zero, List.getElem_cons_succ, List.setIfInBounds_toArray, List.set_cons_zero, List.set_cons_succ])
  refine wpAnyX_pure (i := 18) (v := ?_) rfl (by kernel_rfl) (by kernel_rfl) (by kernel_rfl) (fun _ _ _ h => h) (Or.inl ⟨by rfl, ?_⟩) ?_
  rotate_left
  · (intro W _; go_simp; try with_reducible rfl)
  (try simp only [Act.put, List.getElem_toArray, List.getElem_cons_zero, List.getElem_cons_succ, List.setIfInBounds_toArray, List.set_cons_zero, List.set_cons_succ])
  refine wpAnyX_takeL (L := [21]) (i := 19) (v := ?_) rfl (by kernel_rfl) (by kernel_rfl) (by kernel_rfl) (by kernel_rfl) (fun _ _ _ h => h) (Or.inl ⟨by rfl, ?_⟩) (HS.out _ hbf) ?_
  rotate_left
  · (intro W hSW; (try dsimp only at hSW); obtain ⟨z0, z1, z2, z3, z4, z5⟩ := hSW; go_simp; try with_reducible rfl)
  (try simp only [Act.put, List.getElem_toArray, List.getElem_cons_zero, List.getElem_cons_succ, List.setIfInBounds_toArray, List.set_cons_zero, List.set_cons_succ])
  refine wpAnyX_one (i := 5) rfl (by kernel_rfl) (fun K hK => ?_)
  go_simp
  go_at_call 47
  refine (HCL.out _ hbf).mono ?_
  rintro e w5 ⟨A5, c5, rfl, o5, b5⟩
  have hbf := bt hbf b5
  have HO5 := Lib.hid o5
  have HR5 := Lib.hid (HR.out.kept (hbf.mono (Nat.le_refl _)) hz4)
  refine hK.out _ _ (fun _ _ => HS.out _ hbf) ?_
  clear o5 b5
  (try simp only [Act.put, List.getElem_toArray, List.getElem_cons_zero, List.getElem_cons_succ, List.setIfInBounds_toArray, List.set_cons_zero, List.set_cons_succ])
  refine wpAnyX_pure (i := 20) (v := ?_) rfl (by kernel_rfl) (by kernel_rfl) (by kernel_rfl) (fun _ _ _ h => h) (Or.inl ⟨by rfl, ?_⟩) ?_
  rotate_left
  · (intro W _; go_simp; try with_reducible rfl)
  (try simp only [Act.put, List.getElem_toArray, List.getElem_cons_zero, List.getElem_cons_succ, List.setIfInBounds_toArray, List.set_cons_zero, List.set_cons_succ])
  refine wpAnyX_one (i := 21) rfl (by kernel_rfl) (fun K hK => ?_)
  refine wp_store_row 43 _ _ rfl (w.heap.size + 1 + 1) (#[.slice A5 (k + 1) c5, .int .i64 F, .int .i64 S2]) rfl rfl 43 (#[.slice none 0 0, .int .i64 0, .int .i64 0]) HR5.out (by kernel_rfl) (by rfl) (by simp [Value.oneCell']) (hK.out _ _ (fun h => absurd h (by decide)) ?_)
  (try simp only [Act.put, List.getElem_toArray, List.getElem_cons_zero, List.getElem_cons_succ, List.setIfInBounds_toArray, List.set_cons_zero, List.set_cons_succ])
  refine wpAnyX_pure (i := 22) (v := ?_) rfl (by kernel_rfl) (by kernel_rfl) (by kernel_rfl) (fun _ _ _ h => h) (Or.inl ⟨by rfl, ?_⟩) ?_
  rotate_left
  · (intro W _; go_simp; try with_reducible rfl)
  (try simp only [Act.put, List.getElem_toArray, List.getElem_cons_zero, List.getElem_cons_succ, List.setIfInBounds_toArray, List.set_cons_zero, List.set_cons_succ])
  refine wpAnyX_done (by kernel_rfl) ?_ _
  have HBF := Lib.hid hbf
  have HRX := Lib.hid (HR5.out.row #[.slice A5 (k + 1) c5, .int .i64 F, .int .i64 S2])
  have HOX := Lib.hid ((HO5.out.keptT (HR5.out.keptRow (t := 3) (by decide) #[.slice A5 (k + 1) c5, .int .i64 F, .int .i64 S2])).lower (base' := w.heap.size) (by
    have : (w3.drew).heap.size = w3.heap.size := rfl
    omega))
  have HBX := Lib.hid (below_setRow (bt HB0.out (bt HBC.out HBF.out)) (by omega : w.heap.size ≤ w.heap.size + 1 + 1) #[.slice A5 (k + 1) c5, .int .i64 F, .int .i64 S2])
  clear hbf
  go_wp2_with fail
  (try rw [Exit.noGoto_ret])
  refine bodyPost_ret (results_clash rfl _ _ (w.heap.size + 1 + 1) (.slice A5 (k + 1) c5) (.int .i64 F) (.int .i64 S2) rfl HRX.out) rfl ?_
  exact ⟨true, A5, k + 1, c5, F, S2, xs.take (k + 1), rfl, ⟨best, by rw [← HKN.out]; exact HG.out, .inr ⟨rfl, HPR.out, by rw [← HKN.out, ← HK.out]; exact hlt, by rw [← HKN.out, ← HK.out], by rw [← HKN.out, ← HK.out]; exact HF.out, by rw [← HKN.out, ← HK.out]; exact HS2.out⟩⟩, HOX.out, HBX.out⟩
end Go.Proofs.Ytkkmcgapbcikiaa
end

section
/- Hypotheses: what shows that words are apart; the first word of a set. No program. -/
namespace Go.Proofs.Ytkkmcgapbcikiaa

/-- The traces do not contradict each other. -/
def Cons (ts : List (List Int × List Int)) : Prop := ∀ a b, a < ts.length → b < ts.length → ∀ j, j < cmn (tIn ts a) (tIn ts b) → (tOut ts a).getD j 0 = (tOut ts b).getD j 0
/-- x shows that the trace xs / ys contradicts Q. -/
def Sh1 (Q : List (List Int × List Int)) (xs ys x : List Int) : Prop := x <+: xs ∧ 0 < x.length ∧ ∃ b, b < Q.length ∧ x <+: tIn Q b ∧ ¬ (tOut Q b).getD (x.length - 1) 0 = ys.getD (x.length - 1) 0
/-- x shows that one of the first k traces of P contradicts Q. -/
def ShK (P Q : List (List Int × List Int)) (k : Nat) (x : List Int) : Prop := ∃ a, a < k ∧ Sh1 Q (tIn P a) (tOut P a) x
/-- o is the first one in shortlex order, or nothing. -/
def Fst1 (p : List Int → Prop) (o : List Int) : Prop := (o = [] ∧ ∀ x, ¬ p x) ∨ (p o ∧ 0 < o.length ∧ ∀ x, p x → shlex o x ≤ 0)

theorem Fst1.uniq {p : List Int → Prop} {o o' : List Int} (h : Fst1 p o) (h' : Fst1 p o') : o = o' := by
  rcases h with ⟨rfl, h1⟩ | ⟨h1, h2, h3⟩
  · rcases h' with ⟨rfl, _⟩ | ⟨k1, _, _⟩
    · rfl
    · exact absurd k1 (h1 _)
  · rcases h' with ⟨rfl, k1⟩ | ⟨k1, k2, k3⟩
    · exact absurd h1 (k1 _)
    · have a := h3 _ k1
      have b := k3 _ h1
      have c := shlex_neg o o'
      exact (shlex_zero o o').1 (by omega)
theorem Fst1.congr {p q : List Int → Prop} {o : List Int} (h : Fst1 p o) (e : ∀ x, p x ↔ q x) : Fst1 q o := by
  rcases h with ⟨rfl, h1⟩ | ⟨h1, h2, h3⟩
  · exact .inl ⟨rfl, fun x hx => h1 x ((e x).2 hx)⟩
  · exact .inr ⟨(e _).1 h1, h2, fun x hx => h3 x ((e x).2 hx)⟩
theorem Fst1.some_ {p : List Int → Prop} {o : List Int} (h : Fst1 p o) : (¬ o = []) ↔ ∃ x, p x := by
  rcases h with ⟨rfl, h1⟩ | ⟨h1, h2, _⟩
  · exact ⟨fun h => absurd rfl h, fun ⟨x, hx⟩ => absurd hx (h1 x)⟩
  · exact ⟨fun _ => ⟨o, h1⟩, fun _ e => by rw [e] at h2; simp at h2⟩
theorem pre_shlex {x y : List Int} (h : x.length ≤ y.length) {z : List Int} (hx : x <+: z) (hy : y <+: z) : shlex x y ≤ 0 := by
  have hp : x <+: y := List.prefix_of_prefix_length_le hx hy h
  have := shlex_prefix y x (pre_cmn'.1 hp)
  have c := shlex_neg x y
  omega
theorem ShK.zero (P Q : List (List Int × List Int)) : Fst1 (ShK P Q 0) [] := .inl ⟨rfl, fun _ ⟨a, h, _⟩ => absurd h (Nat.not_lt_zero a)⟩
/-- One more trace, which does not contradict Q. -/
theorem fst_skip {P Q : List (List Int × List Int)} {k : Nat} {o : List Int} (h : Fst1 (ShK P Q k) o) (hn : ∀ x, ¬ Sh1 Q (tIn P k) (tOut P k) x) : Fst1 (ShK P Q (k + 1)) o :=
  h.congr fun x => ⟨fun ⟨a, h1, h2⟩ => ⟨a, by omega, h2⟩, fun ⟨a, h1, h2⟩ => by
    rcases Nat.lt_or_ge a k with h3 | h3
    · exact ⟨a, h3, h2⟩
    · rw [show a = k by omega] at h2; exact absurd h2 (hn x)⟩
/-- One more trace, whose first contradiction is z. -/
theorem fst_new {P Q : List (List Int × List Int)} {k : Nat} {o z : List Int} (h : Fst1 (ShK P Q k) o) (hz : Sh1 Q (tIn P k) (tOut P k) z) (hm : ∀ x, Sh1 Q (tIn P k) (tOut P k) x → z.length ≤ x.length) (hc : o = [] ∨ shlex z o < 0) : Fst1 (ShK P Q (k + 1)) z := by
  refine .inr ⟨⟨k, Nat.lt_succ_self k, hz⟩, hz.2.1, fun x ⟨a, h1, h2⟩ => ?_⟩
  rcases Nat.lt_or_ge a k with h3 | h3
  · rcases h with ⟨rfl, h4⟩ | ⟨h4, h5, h6⟩
    · exact absurd ⟨a, h3, h2⟩ (h4 x)
    · rcases hc with rfl | hc
      · simp at h5
      · have := (shlex_trans z o x).2 hc (h6 x ⟨a, h3, h2⟩); omega
  · rw [show a = k by omega] at h2
    exact pre_shlex (hm x h2) hz.1 h2.1
theorem fst_old {P Q : List (List Int × List Int)} {k : Nat} {o z : List Int} (h : Fst1 (ShK P Q k) o) (hz : Sh1 Q (tIn P k) (tOut P k) z) (hm : ∀ x, Sh1 Q (tIn P k) (tOut P k) x → z.length ≤ x.length) (ho : ¬ o = []) (hc : ¬ shlex z o < 0) : Fst1 (ShK P Q (k + 1)) o := by
  rcases h with ⟨h4, _⟩ | ⟨h4, h5, h6⟩
  · exact absurd h4 ho
  · obtain ⟨a0, h7, h8⟩ := h4
    refine .inr ⟨⟨a0, by omega, h8⟩, h5, fun x ⟨a, h1, h2⟩ => ?_⟩
    rcases Nat.lt_or_ge a k with h3 | h3
    · exact h6 x ⟨a, h3, h2⟩
    · rw [show a = k by omega] at h2
      have h9 := pre_shlex (hm x h2) hz.1 h2.1
      have h10 := shlex_neg z o
      exact (shlex_trans o z x).1 (by omega) h9
theorem Sh1.swap {P Q : List (List Int × List Int)} {x : List Int} (h : ShK P Q P.length x) : ShK Q P Q.length x := by
  obtain ⟨a, h1, h2, h3, b, h4, h5, h6⟩ := h
  exact ⟨b, h4, h5, h3, a, h1, h2, fun e => h6 e.symm⟩
theorem shk_comm (P Q : List (List Int × List Int)) (x : List Int) : ShK P Q P.length x ↔ ShK Q P Q.length x := ⟨Sh1.swap, Sh1.swap⟩

/-- What Clash finds. -/
theorem sh1_best {Q : List (List Int × List Int)} {xs ys x : List Int} {best : Nat} (hC : Cons Q) (hg : Got Q xs best (knw Q xs Q.length)) (h : Sh1 Q xs ys x) :
    x.length ≤ knw Q xs Q.length ∧ ¬ (tOut Q best).getD (x.length - 1) 0 = ys.getD (x.length - 1) 0 := by
  obtain ⟨h1, h2, b, h3, h4, h5⟩ := h
  have h6 : x.length ≤ cmn (tIn Q b) xs := pre_min h4 h1
  have h7 : x.length ≤ knw Q xs Q.length := Nat.le_trans h6 (knw_ge h3)
  obtain ⟨h8, h9⟩ := hg (by omega)
  refine ⟨h7, fun e => h5 ?_⟩
  rw [← e]
  have h10 : x <+: tIn Q best := by
    have := pre_take (x := xs) (y := tIn Q best) (n := x.length) (by rw [cmn_comm, h9]; exact h7)
    rwa [← List.prefix_iff_eq_take.1 h1] at this
  exact hC b best h3 h8 (x.length - 1) (by have := pre_min h4 h10; omega)
theorem sh1_of_best {Q : List (List Int × List Int)} {xs ys : List Int} {best k : Nat} (hg : Got Q xs best (knw Q xs Q.length)) (hk : k < knw Q xs Q.length) (hd : ¬ (tOut Q best).getD k 0 = ys.getD k 0) : Sh1 Q xs ys (xs.take (k + 1)) := by
  obtain ⟨h8, h9⟩ := hg (by omega)
  have hx := cmn_le_right (tIn Q best) xs
  have hl : (xs.take (k + 1)).length = k + 1 := by rw [List.length_take]; omega
  refine ⟨List.take_prefix _ _, by rw [hl]; omega, best, h8, pre_take (by rw [cmn_comm, h9]; omega), ?_⟩
  rw [hl]
  exact hd
theorem agr_part {Q : List (List Int × List Int)} {best kn : Nat} {xs ys : List Int} (hF : Full Q) (hb : best < Q.length) (hc : cmn (tIn Q best) xs = kn) (hl : ys.length = xs.length) :
    (∀ j, j < agrN Q best kn ys → (tOut Q best).getD j 0 = ys.getD j 0) ∧ (agrN Q best kn ys < kn → ¬ (tOut Q best).getD (agrN Q best kn ys) 0 = ys.getD (agrN Q best kn ys) 0) := by
  have h1 := cmn_le_left (tIn Q best) xs
  have h2 := cmn_le_right (tIn Q best) xs
  have h3 := hF best hb
  have hg : ∀ j, j < kn → ((tOut Q best).take kn).getD j 0 = (tOut Q best).getD j 0 := fun j hj => by
    rw [List.getD_eq_getElem?_getD, List.getD_eq_getElem?_getD, List.getElem?_take_of_lt hj]
  by_cases h0 : kn = 0
  · refine ⟨fun j hj => ?_, fun h => absurd h (by omega)⟩
    have := agrN_le Q best kn ys; omega
  · have he : agrN Q best kn ys = cmn ((tOut Q best).take kn) ys := by unfold agrN; rw [if_neg h0]
    have hle := agrN_le Q best kn ys
    refine ⟨fun j hj => ?_, fun h => ?_⟩
    · rw [he] at hj
      have := cmn_agree ((tOut Q best).take kn) ys j hj
      rwa [hg j (by omega)] at this
    · rw [he] at h ⊢
      have := cmn_part ((tOut Q best).take kn) ys (by rw [List.length_take]; omega) (by omega)
      rwa [hg _ h] at this
theorem cls_true {Q : List (List Int × List Int)} {xs ys zs : List Int} {i f s : Int} (hC : Cons Q) (hF : Full Q) (hl : ys.length = xs.length) (h : ClsR Q xs ys i true zs f s) : Sh1 Q xs ys zs ∧ ∀ x, Sh1 Q xs ys x → zs.length ≤ x.length := by
  obtain ⟨best, hg, ⟨h1, _⟩ | ⟨_, hp, hlt, hz, _, _⟩⟩ := h
  · cases h1
  · obtain ⟨hb, hc⟩ := hg (by omega)
    obtain ⟨ha, hd⟩ := agr_part hF hb hc hl
    have hx := cmn_le_right (tIn Q best) xs
    subst hz
    refine ⟨sh1_of_best hg hlt (hd hlt), fun x hx' => ?_⟩
    obtain ⟨k1, k2⟩ := sh1_best hC hg hx'
    have k3 := hx'.2.1
    rw [List.length_take]
    rcases Nat.lt_or_ge (x.length - 1) (agrN Q best (knw Q xs Q.length) ys) with h4 | h4
    · exact absurd (ha _ h4) k2
    · omega
theorem cls_false {Q : List (List Int × List Int)} {xs ys zs : List Int} {i f s : Int} (hC : Cons Q) (hF : Full Q) (hl : ys.length = xs.length) (hp : prpE xs ys i = 0) (h : ClsR Q xs ys i false zs f s) : ∀ x, ¬ Sh1 Q xs ys x := by
  obtain ⟨best, hg, ⟨_, _, _, _, h4⟩ | ⟨h1, _⟩⟩ := h
  · intro x hx
    obtain ⟨k1, k2⟩ := sh1_best hC hg hx
    have k3 := hx.2.1
    rcases h4 with h4 | h4
    · exact h4 hp
    · obtain ⟨hb, hc⟩ := hg (by omega)
      obtain ⟨ha, _⟩ := agr_part hF hb hc hl
      exact k2 (ha _ (by rw [h4]; omega))
  · cases h1
end Go.Proofs.Ytkkmcgapbcikiaa
end

section
/- HasPrefix of both. -/
namespace Go.Proofs.Ytkkmcgapbcikiaa
open Go.RowKit

theorem rhasprefix (A B : Option Addr) (n c m d : Nat) (xs ys : List Int) (w : World) (hx : Ints w A n xs) (hy : Ints w B m ys) :
    Calls Try.prog 48 #[.slice A n c, .slice B m d] w fun e w' => e = .returned (.bool (decide (cmn xs ys = ys.length))) ∧ ∃ q, w' = w.drewN q := by
  have L2 := Lib.hid hy.1
  have hq : ((cmn xs ys : Int) == (m : Int)) = decide (cmn xs ys = ys.length) := by rw [L2.out, Bool.eq_iff_iff]; simp; omega
  have HQ := Lib.hid hq
  clear hq
  go_enter Try.func48, Try.ntmps48
  go_wp2_with (go_at_call 53; refine (rcommon _ _ _ _ _ _ xs ys _ hx hy).mono ?_; rintro e w' ⟨rfl, q, rfl⟩)
  go_ret
  exact ⟨by rw [HQ.out]; rfl, _, rfl⟩
end Go.Proofs.Ytkkmcgapbcikiaa
end

section
/- after: what is observed after a word. -/
namespace Go.Proofs.Ytkkmcgapbcikiaa
open Go.RowKit

/-- append at a step of a region that draws. -/
theorem step_apph {P : Program} {ops : Array Oper} {o : Oper} {a : Act} {w : World} {K : Act → World → Prop} {Q : Exit → Act → World → Prop} {E : Prop} (hgd : o.guard = none) (s x : Operand) (t tn : TypeId)
    (ho : o.op = .call { callee := .builtin .append, args := #[s, x], argTypes := #[t, tn] }) (vs vx : Value) (hs : a.eval s = vs) (hx : a.eval x = vx)
    (v' : Value) (w' : World) (hr : (Builtin.append_ #[t, tn] o.type #[vs, vx]).run P w = .ok v' w') (h : K (a.put o.dst v') w') :
    if Region.wanted o (yielded ops a.tmps) = true then Oper.wp P o a w K Q else E := by
  have hw : Region.wanted o (yielded ops a.tmps) = true := by simp [Region.wanted, hgd]
  rw [if_pos hw]
  exact Lib.wp_append_run w s x t tn ho vs vx hs hx v' w' hr h
theorem results_obs {fn : Func} {p : Tmp} (h : fn.results = #[.cell p 24]) (tmps : Array Value) (w : World) (g : Nat) (v1 v2 : Value)
    (hp : tmps.getD p undef = .pointer (some ⟨g, 0, none⟩)) (hg : Bx w g #[v1, v2] 24) : (results fn tmps).run Try.prog w = .ok (.agg #[v1, v2]) w :=
  results_cell_row h tmps w g 24 #[v1, v2] (0, 0) _ hp hg Try.underlying24 rfl (by kernel_rfl)

end Go.Proofs.Ytkkmcgapbcikiaa
end

section
/- ordered, earlier, contradict. -/
namespace Go.Proofs.Ytkkmcgapbcikiaa
open Go.RowKit Go.Shelf

set_option linter.unusedSimpArgs false in
theorem results_obs2 {fn : Func} {p q : Tmp} (h : fn.results = #[.cell p 24, .cell q 24]) (tmps : Array Value) (w : World) (g k : Nat) (v1 v2 u1 u2 : Value)
    (hp : tmps.getD p undef = .pointer (some ⟨g, 0, none⟩)) (hq : tmps.getD q undef = .pointer (some ⟨k, 0, none⟩)) (hg : Bx w g #[v1, v2] 24) (hk : Bx w k #[u1, u2] 24) :
    (results fn tmps).run Try.prog w = .ok (.tuple #[.agg #[v1, v2], .agg #[u1, u2]]) w := by
  have hl := run_loadVar_row (P := Try.prog) w g 24 24 #[v1, v2] (0, 0) _ hg Try.underlying24 rfl (by kernel_rfl)
  have hl2 := run_loadVar_row (P := Try.prog) w k 24 24 #[u1, u2] (0, 0) _ hk Try.underlying24 rfl (by kernel_rfl)
  rw [Array.getD_eq_getD_getElem?] at hp hq
  unfold results
  rw [h]
  simp [hp, hq, asAddr, hl, hl2, Sem.run_bind, Sem.run_pure]

end Go.Proofs.Ytkkmcgapbcikiaa
end

section
/- Small facts for Apart: what is observed after a word is proper and consistent; the first word so far. -/
namespace Go.Proofs.Ytkkmcgapbcikiaa
open Go.RowKit

theorem run_neqs {P : Program} (w : World) (t e : TypeId) (a : Option Addr) (n c n' c' : Nat) (h : P.underlying t = some (.slice e)) :
    (binOp .neq t (.slice a n c) (.slice none n' c')).run P w = .ok (.bool (!a.isNone)) w := by
  simp only [binOp]
  simp [Op.equal, Op.maxDepth, Lib.run_equalIn_slice_nil w 9999 t e a n c n' c' h]
/-- Each trace is proper. -/
def Props (i : Int) (ts : List (List Int × List Int)) : Prop := ∀ j, j < ts.length → prpE (tIn ts j) (tOut ts j) i = 0
theorem prp_zero {xs ys : List Int} {i : Int} (h : prpE xs ys i = 0) : chk xs i = 0 ∧ ys.length = xs.length ∧ ∀ y, y ∈ ys → 0 ≤ y ∧ y ≤ 1048576 := by
  unfold prpE at h
  split at h
  · exact ⟨by assumption, ansE_zero h⟩
  · omega
theorem prp_drop {xs ys : List Int} {i : Int} (h : prpE xs ys i = 0) (k : Nat) : prpE (xs.drop k) (ys.drop k) i = 0 := by
  obtain ⟨h1, h2, h3⟩ := prp_zero h
  obtain ⟨k1, k2, k3, k4⟩ := chk_zero h1
  unfold prpE
  rw [if_pos]
  · exact ansE_ok (by rw [List.length_drop, List.length_drop, h2]) fun y hy => h3 y (List.mem_of_mem_drop hy)
  · refine chk_ok ⟨k1, k2⟩ (by rw [List.length_drop]; omega) fun j hj => ?_
    have := k4 (k + j) (by rw [List.length_drop] at hj; omega)
    rw [List.getD_eq_getElem?_getD, List.getElem?_drop, ← List.getD_eq_getElem?_getD]
    exact this
theorem aftK_props {ts : List (List Int × List Int)} {u : List Int} {i : Int} {k : Nat} (h : Props i ts) (hk : k ≤ ts.length) : Props i (aftK ts u k) := fun j hj => by
  obtain ⟨s, h1, _, _, h4, h5⟩ := aftK_at k j hj
  rw [h4, h5]
  exact prp_drop (h s (by omega)) _
theorem cmn_drop {x y u : List Int} (hx : cmn x u = u.length) (hy : cmn y u = u.length) : cmn x y = u.length + cmn (x.drop u.length) (y.drop u.length) := by
  have h1 := cut_pre hx
  have h2 := cut_pre hy
  generalize x.drop u.length = a at h1 ⊢
  generalize y.drop u.length = b at h2 ⊢
  subst h1 h2
  clear hx hy
  induction u with
  | nil => simp
  | cons z zs ih => rw [List.cons_append, List.cons_append, cmn, if_pos rfl, ih]; simp; omega
theorem getD_drop (l : List Int) (k j : Nat) : (l.drop k).getD j 0 = l.getD (k + j) 0 := by
  rw [List.getD_eq_getElem?_getD, List.getD_eq_getElem?_getD, List.getElem?_drop]
theorem aftK_cons {ts : List (List Int × List Int)} {u : List Int} {k : Nat} (h : Cons ts) (hk : k ≤ ts.length) : Cons (aftK ts u k) := fun a b ha hb j hj => by
  obtain ⟨s, h1, _, h3, h4, h5⟩ := aftK_at k a ha
  obtain ⟨r, k1, _, k3, k4, k5⟩ := aftK_at k b hb
  rw [h4, k4] at hj
  rw [h5, k5, getD_drop, getD_drop]
  exact h s r (by omega) (by omega) _ (by rw [cmn_drop h3 k3]; omega)
/-- The first word so far, as a slice: nil stands for none. -/
def FirstV (w : World) (v : Value) (xs : List Int) : Prop := (v = .slice none 0 0 ∧ xs = []) ∨ (∃ (g : Addr) (n c : Nat), v = .slice (some g) n c ∧ Ints w (some g) n xs ∧ ¬ xs = [])
theorem FirstV.below {w w' : World} {v : Value} {xs : List Int} (h : FirstV w v xs) (hb : Below w.heap.size w w') : FirstV w' v xs := by
  rcases h with h | ⟨g, n, c, h1, h2, h3⟩
  · exact .inl h
  · exact .inr ⟨g, n, c, h1, h2.below hb, h3⟩
theorem Ints.some_ {w : World} {A : Option Addr} {n : Nat} {xs : List Int} (h : Ints w A n xs) (hne : 0 < xs.length) : ∃ g, A = some g := by
  obtain ⟨b, off, e, _⟩ := h.2.2 (by rw [← h.1]; exact hne)
  exact ⟨_, e⟩
theorem FirstV.of {w : World} {A : Option Addr} {n c : Nat} {xs : List Int} (h : Ints w A n xs) (hne : 0 < xs.length) : FirstV w (.slice A n c) xs := by
  obtain ⟨g, rfl⟩ := h.some_ hne
  exact .inr ⟨g, n, c, rfl, h, fun e => by rw [e] at hne; simp at hne⟩
end Go.Proofs.Ytkkmcgapbcikiaa
end

section
/- contradict: do traces of two observations contradict each other? -/
namespace Go.Proofs.Ytkkmcgapbcikiaa
open Go.RowKit Go.Shelf

open Classical in
/-- Does the trace contradict M? -/
noncomputable def ctr1 (M : List (List Int × List Int)) (xs ys : List Int) : Bool := decide (∃ x, Sh1 M xs ys x)
open Classical in
/-- Does a trace of F contradict M? -/
noncomputable def ctr (F M : List (List Int × List Int)) : Bool := decide (∃ x, ShK F M F.length x)
open Classical in
theorem ctr1_iff (M : List (List Int × List Int)) (xs ys : List Int) : ctr1 M xs ys = true ↔ ∃ x, Sh1 M xs ys x := by unfold ctr1; exact decide_eq_true_iff
theorem ctr_comm (F M : List (List Int × List Int)) : ctr F M = ctr M F := by
  unfold ctr
  congr 1
  exact propext ⟨fun ⟨x, h⟩ => ⟨x, (shk_comm _ _ x).1 h⟩, fun ⟨x, h⟩ => ⟨x, (shk_comm _ _ x).1 h⟩⟩
theorem ctr_any (F M : List (List Int × List Int)) : ctr F M = true ↔ ∃ j, j < F.length ∧ ctr1 M (tIn F j) (tOut F j) = true := by
  unfold ctr ctr1
  simp only [decide_eq_true_eq]
  exact ⟨fun ⟨x, a, h1, h2⟩ => ⟨a, h1, x, h2⟩, fun ⟨a, h1, x, h2⟩ => ⟨x, a, h1, h2⟩⟩

end Go.Proofs.Ytkkmcgapbcikiaa
end

section
/- Rows of observations, Lower. -/
namespace Go.Proofs.Ytkkmcgapbcikiaa
open Go.RowKit Go.Shelf

abbrev TS := List (List Int × List Int)
theorem infoo : (Try.prog.info? 24).map (fun i => (i.zero, i.size, i.bytes)) = some (some (.agg #[.int .i64 0, .slice none 0 0]), 2, 32) := by kernel_rfl
/-- The slice value v is a row of observations in blocks from b on, which the call may write. -/
def ObsL (w1 w : World) (i : Int) (b : Nat) (v : Value) (l : List TS) : Prop :=
  ∃ vs : List Value, w.ownsRow b 24 2 v l.length vs ∧ ∀ j, j < l.length → ∃ A c, vs[2 * j]? = some (.int .i64 i) ∧ vs[2 * j + 1]? = some (.slice A (l.getD j []).length c) ∧ TrsH w1 w b (.slice A (l.getD j []).length c) (l.getD j [])
theorem ObsL.nil (w1 w : World) (i : Int) (b : Nat) : ObsL w1 w i b (.slice none 0 0) [] := ⟨[], World.ownsRow_nil _ _ _ _, fun j h => absurd h (by simp)⟩
theorem ObsL.form {w1 w : World} {i : Int} {b : Nat} {v : Value} {l : List TS} (h : ObsL w1 w i b v l) : ∃ A c, v = .slice A l.length c := by
  obtain ⟨vs, h, _⟩ := h
  rcases h.2 with ⟨rfl, h0⟩ | ⟨g, cap, cur, rfl, _⟩
  · have : l.length = 0 := h0
    exact ⟨none, 0, by rw [this]⟩
  · exact ⟨_, _, rfl⟩
theorem ObsL.keptT {w1 w w' : World} {i : Int} {b : Nat} {v : Value} {l : List TS} (h : ObsL w1 w i b v l) (hk : KeptT 38 w w') (hl : KeptT 24 w w') : ObsL w1 w' i b v l := by
  obtain ⟨vs, h, hr⟩ := h
  refine ⟨vs, ⟨h.1, ?_⟩, fun j hj => ?_⟩
  · rcases h.2 with e | ⟨g, cap, cur, hv, hbg, hg, r⟩
    · exact .inl e
    · exact .inr ⟨g, cap, cur, hv, hbg, hl g cur hg, r⟩
  · obtain ⟨A, c, h1, h2, h3⟩ := hr j hj
    exact ⟨A, c, h1, h2, h3.keptT hk⟩
theorem ObsL.kept {w1 w w' : World} {i : Int} {b : Nat} {v : Value} {l : List TS} (h : ObsL w1 w i b v l) (hb : Below w.heap.size w w') : ObsL w1 w' i b v l := h.keptT (KeptT.of_below hb) (KeptT.of_below hb)
theorem ObsL.at_ {w1 w : World} {i : Int} {b : Nat} {A : Option Addr} {n c : Nat} {l : List TS} (h : ObsL w1 w i b (.slice A n c) l) {j : Nat} (hj : j < n) :
    n = l.length ∧ ∃ g A1 c1, A = some ⟨g, 0, none⟩ ∧ w.cell? ⟨g, j * 2, none⟩ = some (.int .i64 i) ∧ w.cell? ⟨g, j * 2 + 1, none⟩ = some (.slice A1 (l.getD j []).length c1) ∧ TrsH w1 w b (.slice A1 (l.getD j []).length c1) (l.getD j []) := by
  have hn : n = l.length := by obtain ⟨A', c', e⟩ := h.form; cases e; rfl
  refine ⟨hn, ?_⟩
  obtain ⟨vs, ho, hv⟩ := h
  obtain ⟨A1, c1, h1, h2, h3⟩ := hv j (by omega)
  rcases ho.2 with ⟨e, h0⟩ | ⟨g, cap, cur, e, _, hg, _⟩
  · cases e; omega
  · cases e
    have hl := ho.1
    refine ⟨g, A1, c1, rfl, ?_, ?_, h3⟩
    · rw [World.ownsRow.cellAt ho (j * 2) (by omega), Nat.mul_comm, h1]
    · rw [World.ownsRow.cellAt ho (j * 2 + 1) (by omega), Nat.mul_comm j 2, h2]
/-- The words that Lower keeps of the first k. -/
noncomputable def kepK (ts : TS) (ws : List (List Int)) : Nat → List (List Int)
  | 0 => []
  | k + 1 => open Classical in if ∀ v, v ∈ kepK ts ws k → ctr (aftK ts v ts.length) (aftK ts (ws.getD k []) ts.length) = true then kepK ts ws k ++ [ws.getD k []] else kepK ts ws k
theorem kepK_yes {ts : TS} {ws : List (List Int)} {k : Nat} (h : ∀ v, v ∈ kepK ts ws k → ctr (aftK ts v ts.length) (aftK ts (ws.getD k []) ts.length) = true) : kepK ts ws (k + 1) = kepK ts ws k ++ [ws.getD k []] := by rw [kepK]; exact if_pos h
theorem kepK_no {ts : TS} {ws : List (List Int)} {k : Nat} (h : ¬ ∀ v, v ∈ kepK ts ws k → ctr (aftK ts v ts.length) (aftK ts (ws.getD k []) ts.length) = true) : kepK ts ws (k + 1) = kepK ts ws k := by rw [kepK]; exact if_neg h
theorem kepK_len (ts : TS) (ws : List (List Int)) (k : Nat) : (kepK ts ws k).length ≤ k := by
  induction k with
  | zero => simp [kepK]
  | succ k ih =>
    by_cases h : ∀ v, v ∈ kepK ts ws k → ctr (aftK ts v ts.length) (aftK ts (ws.getD k []) ts.length) = true
    · rw [kepK_yes h, List.length_append]; simp; omega
    · rw [kepK_no h]; omega
/-- What is observed after each of the words. -/
def afts (ts : TS) (l : List (List Int)) : List TS := l.map fun v => aftK ts v ts.length
theorem afts_len (ts : TS) (l : List (List Int)) : (afts ts l).length = l.length := by simp [afts]
theorem afts_at {ts : TS} {l : List (List Int)} {j : Nat} (hj : j < l.length) : (afts ts l).getD j [] = aftK ts (l.getD j []) ts.length := by
  unfold afts
  rw [List.getD_eq_getElem?_getD, List.getD_eq_getElem?_getD, List.getElem?_map, List.getElem?_eq_getElem hj]; rfl
theorem any_not {ts : TS} {l : List (List Int)} {Q : TS} : (∃ j, j < l.length ∧ (!ctr ((afts ts l).getD j []) Q) = true) ↔ ¬ ∀ v, v ∈ l → ctr (aftK ts v ts.length) Q = true := by
  constructor
  · rintro ⟨j, hj, h⟩ hall
    rw [afts_at hj] at h
    have := hall (l.getD j []) (by rw [List.getD_eq_getElem?_getD, List.getElem?_eq_getElem hj]; exact List.getElem_mem _)
    rw [this] at h; cases h
  · intro h
    rw [Classical.not_forall] at h
    obtain ⟨v, h⟩ := h
    rw [Classical.not_imp] at h
    obtain ⟨hv, h⟩ := h
    obtain ⟨j, hj, rfl⟩ := List.getElem_of_mem hv
    refine ⟨j, hj, ?_⟩
    rw [afts_at hj, List.getD_eq_getElem?_getD, List.getElem?_eq_getElem hj]
    simpa using h

end Go.Proofs.Ytkkmcgapbcikiaa
end

section
/- The search, step by step. -/
namespace Go.Proofs.Ytkkmcgapbcikiaa

/-- Which states a search has seen. -/
def seenOf (n : Nat) (l : List Nat) : List Bool := (List.range n).map fun x => decide (x ∈ l)
theorem seenOf_len (n : Nat) (l : List Nat) : (seenOf n l).length = n := by simp [seenOf]
theorem seenOf_at {n : Nat} {l : List Nat} {x : Nat} (hx : x < n) : (seenOf n l).getD x false = decide (x ∈ l) := by
  unfold seenOf; simp [List.getD, hx]
theorem seenOf_set {n : Nat} {l : List Nat} {x : Nat} : (seenOf n l).set x true = seenOf n (l ++ [x]) := by
  apply List.ext_getElem
  · simp [seenOf]
  · intro m h1 h2
    have hm : m < n := by simpa [seenOf] using h2
    rw [List.getElem_set]
    by_cases e : x = m
    · subst e; simp [seenOf]
    · rw [if_neg e]; simp [seenOf, show ¬ m = x from fun h => e h.symm]
theorem seenOf_nil (n : Nat) : seenOf n [] = List.replicate n false := by
  apply List.ext_getElem
  · simp [seenOf]
  · intro m h1 h2; simp [seenOf]

/-- A list of states as numbers. -/
def zs (l : List Nat) : List Int := l.map fun x : Nat => (x : Int)
theorem zs_len (l : List Nat) : (zs l).length = l.length := by simp [zs]
theorem zs_at (l : List Nat) (j : Nat) : (zs l).getD j 0 = ((l.getD j 0 : Nat) : Int) := by
  unfold zs
  rw [List.getD_eq_getElem?_getD, List.getD_eq_getElem?_getD, List.getElem?_map]
  cases l[j]? <;> rfl
theorem zs_append (l t : List Nat) : zs (l ++ t) = zs l ++ zs t := by simp [zs]
theorem zs_one (x : Nat) : zs [x] = [(x : Int)] := rfl
theorem zs_inj {l t : List Nat} (h : zs l = zs t) : l = t := by
  induction l generalizing t with
  | nil => cases t with
    | nil => rfl
    | cons => simp [zs] at h
  | cons x l ih => cases t with
    | nil => simp [zs] at h
    | cons y t =>
      simp only [zs, List.map_cons, List.cons.injEq] at h
      rw [ih (by simpa [zs] using h.2), show x = y by omega]
theorem mem_zs {l : List Nat} {x : Nat} : ((x : Int) ∈ zs l) ↔ x ∈ l := by
  simp only [zs, List.mem_map]
  exact ⟨fun ⟨a, h, e⟩ => by rw [show x = a by omega]; exact h, fun h => ⟨x, h, rfl⟩⟩

theorem addR_in {nx : List (List Int)} {s a : Nat} {l : List Nat} (h : nN nx s a ∈ addR nx s l a) : addR nx s l (a + 1) = addR nx s l a := by
  show addN _ _ = _; unfold addN; rw [if_pos h]
theorem addR_out {nx : List (List Int)} {s a : Nat} {l : List Nat} (h : ¬ nN nx s a ∈ addR nx s l a) : addR nx s l (a + 1) = addR nx s l a ++ [nN nx s a] := by
  show addN _ _ = _; unfold addN; rw [if_neg h]
theorem Stt.one {n s : Nat} (h : s < n) : Stt n [s] := ⟨by simp, fun x hx => by simp at hx; omega⟩
theorem addR_at {nx : List (List Int)} {s : Nat} {l : List Nat} {j : Nat} (h : j < l.length) (a : Nat) : (addR nx s l a).getD j 0 = l.getD j 0 := by
  obtain ⟨t, ht⟩ := addR_pre nx s l a
  rw [ht]; exact getD_pre h
theorem addR_len {nx : List (List Int)} {s : Nat} {l : List Nat} (a : Nat) : l.length ≤ (addR nx s l a).length := by
  obtain ⟨t, ht⟩ := addR_pre nx s l a
  rw [ht, List.length_append]; omega
end Go.Proofs.Ytkkmcgapbcikiaa
end

section
/- The trimmed machine. -/
namespace Go.Proofs.Ytkkmcgapbcikiaa

theorem addR_has {nx : List (List Int)} {s : Nat} {l : List Nat} : ∀ {b : Nat}, ∀ a, a < b → nN nx s a ∈ addR nx s l b
  | 0, a, h => absurd h (by omega)
  | b + 1, a, h => by
    by_cases e : a = b
    · subst e; exact mem_addN _ _
    · exact addN_mem (addR_has a (by omega))
theorem addR_mem {nx : List (List Int)} {s : Nat} {l : List Nat} {x : Nat} (h : x ∈ l) (a : Nat) : x ∈ addR nx s l a := by obtain ⟨t, ht⟩ := addR_pre nx s l a; rw [ht]; simp [h]

theorem bfs_closed {i st n : Nat} {nx ot : List (List Int)} (hM : Mok i st n nx ot) : ∀ (k : Nat) (l : List Nat) (j : Nat), Stt n l → n ≤ k + j → (∀ m, m < j → m < l.length → ∀ a, a < i → nN nx (l.getD m 0) a ∈ l) →
    Stt n (bfs nx i k l j) ∧ ∀ m, m < (bfs nx i k l j).length → ∀ a, a < i → nN nx ((bfs nx i k l j).getD m 0) a ∈ bfs nx i k l j
  | 0, l, j, hS, hk, h => ⟨hS, fun m hm a ha => h m (by have := hS.len; have hm : m < l.length := hm; omega) hm a ha⟩
  | k + 1, l, j, hS, hk, h => by
    by_cases hj : j < l.length
    · have e : bfs nx i (k + 1) l j = bfs nx i k (addR nx (l.getD j 0) l i) (j + 1) := by
        show (if j < l.length then _ else _) = _; rw [if_pos hj]
      rw [e]
      refine bfs_closed hM k _ _ (addR_stt hM hS (hS.2 _ (getD_mem hj)) i (Nat.le_refl _)) (by omega) fun m hm hml a ha => ?_
      by_cases e2 : m = j
      · subst e2; rw [addR_at hj]; exact addR_has a ha
      · rw [addR_at (by omega)]; exact addR_mem (h m (by omega) (by omega) a ha) i
    · rw [bfs_end nx i (k + 1) hj]
      exact ⟨hS, fun m hm a ha => h m (by omega) hm a ha⟩

theorem Mok.rch_stt {i st n : Nat} {nx ot : List (List Int)} (hM : Mok i st n nx ot) : Stt n (rch nx i st) :=
  (bfs_closed hM _ _ _ (Stt.one hM.st) (by rw [hM.nxl]; omega) (fun m hm => absurd hm (by omega))).1
theorem Mok.rch_in {i st n : Nat} {nx ot : List (List Int)} (hM : Mok i st n nx ot) {s a : Nat} (hs : s ∈ rch nx i st) (ha : a < i) : nN nx s a ∈ rch nx i st := by
  obtain ⟨m, hm, rfl⟩ := List.getElem_of_mem hs
  have := (bfs_closed hM nx.length [st] 0 (Stt.one hM.st) (by rw [hM.nxl]; omega) (fun m hm => absurd hm (by omega))).2 m hm a ha
  rw [show (bfs nx i nx.length [st] 0).getD m 0 = (rch nx i st)[m] by rw [List.getD_eq_getElem?_getD]; show (rch nx i st)[m]?.getD 0 = _; rw [List.getElem?_eq_getElem hm]; rfl] at this
  exact this
theorem rch_pre (nx : List (List Int)) (i st : Nat) : ∃ t, rch nx i st = st :: t := by
  obtain ⟨t, ht⟩ := bfs_pre nx i nx.length [st] 0
  exact ⟨t, ht⟩

/-- The place of a state. -/
def ixN (R : List Nat) (x : Nat) : Nat := R.idxOf x
theorem ixN_lt {R : List Nat} {x : Nat} (h : x ∈ R) : ixN R x < R.length := List.idxOf_lt_length_of_mem h
theorem ixN_at {R : List Nat} {x : Nat} (h : x ∈ R) : R.getD (ixN R x) 0 = x := by
  rw [List.getD_eq_getElem?_getD, List.getElem?_eq_getElem (ixN_lt h)]
  exact List.getElem_idxOf (ixN_lt h)
theorem ixN_of {R : List Nat} (hR : R.Nodup) {j : Nat} (hj : j < R.length) : ixN R (R.getD j 0) = j := by
  have hm : R.getD j 0 ∈ R := getD_mem hj
  have h1 := ixN_at hm
  have h2 := ixN_lt hm
  rw [List.getD_eq_getElem?_getD, List.getD_eq_getElem?_getD, List.getElem?_eq_getElem hj, List.getElem?_eq_getElem (by rw [List.getD_eq_getElem?_getD, List.getElem?_eq_getElem hj] at h2; exact h2)] at h1
  rw [List.getD_eq_getElem?_getD, List.getElem?_eq_getElem hj] at h2 ⊢
  exact (List.getElem_inj hR).1 h1

/-- The rows of the trimmed machine. -/
def trR (nx : List (List Int)) (i : Nat) (R : List Nat) (s : Nat) : List Int := (List.range i).map fun a => ((ixN R (nN nx s a) : Nat) : Int)
def trN (nx : List (List Int)) (i : Nat) (R : List Nat) : List (List Int) := R.map (trR nx i R)
def trO (ot : List (List Int)) (R : List Nat) : List (List Int) := R.map fun s => ot.getD s []
theorem trR_len (nx : List (List Int)) (i : Nat) (R : List Nat) (s : Nat) : (trR nx i R s).length = i := by simp [trR]
theorem trR_at {nx : List (List Int)} {i : Nat} {R : List Nat} {s a : Nat} (ha : a < i) : (trR nx i R s).getD a 0 = ((ixN R (nN nx s a) : Nat) : Int) := by
  unfold trR; simp [List.getD, ha]
/-- A row while it is renumbered. -/
def midR (nx : List (List Int)) (i : Nat) (R : List Nat) (s a : Nat) : List Int := (trR nx i R s).take a ++ (nx.getD s []).drop a
theorem midR_zero (nx : List (List Int)) (i : Nat) (R : List Nat) (s : Nat) : midR nx i R s 0 = nx.getD s [] := by simp [midR]
theorem midR_all {nx : List (List Int)} {i : Nat} {R : List Nat} {s : Nat} (h : (nx.getD s []).length = i) : midR nx i R s i = trR nx i R s := by
  unfold midR; rw [List.take_of_length_le (by rw [trR_len]; exact Nat.le_refl _), List.drop_eq_nil_of_le (by omega), List.append_nil]
theorem midR_len {nx : List (List Int)} {i : Nat} {R : List Nat} {s a : Nat} (h : (nx.getD s []).length = i) (ha : a ≤ i) : (midR nx i R s a).length = i := by
  unfold midR; rw [List.length_append, List.length_take, List.length_drop, trR_len, h]; omega
theorem midR_get {nx : List (List Int)} {i : Nat} {R : List Nat} {s a m : Nat} (ha : a ≤ i) : (midR nx i R s a)[m]? = if m < a then (trR nx i R s)[m]? else (nx.getD s [])[m]? := by
  unfold midR
  have hl : ((trR nx i R s).take a).length = a := by rw [List.length_take, trR_len]; omega
  by_cases h : m < a
  · rw [if_pos h, List.getElem?_append_left (by omega), List.getElem?_take, if_pos h]
  · rw [if_neg h, List.getElem?_append_right (by omega), List.getElem?_drop, hl, show a + (m - a) = m by omega]
theorem midR_at {nx : List (List Int)} {i : Nat} {R : List Nat} {s a : Nat} (ha : a < i) : (midR nx i R s a).getD a 0 = (nx.getD s []).getD a 0 := by
  rw [List.getD_eq_getElem?_getD, midR_get (by omega), if_neg (by omega), ← List.getD_eq_getElem?_getD]
theorem midR_set {nx : List (List Int)} {i : Nat} {R : List Nat} {s a : Nat} (h : (nx.getD s []).length = i) (ha : a < i) : (midR nx i R s a).set a ((ixN R (nN nx s a) : Nat) : Int) = midR nx i R s (a + 1) := by
  apply List.ext_getElem?
  intro m
  have ht : (trR nx i R s)[a]? = some ((ixN R (nN nx s a) : Nat) : Int) := by
    have := trR_at (nx := nx) (R := R) (s := s) ha
    rw [List.getD_eq_getElem?_getD, List.getElem?_eq_getElem (by rw [trR_len]; exact ha)] at this
    rw [List.getElem?_eq_getElem (by rw [trR_len]; exact ha)]
    exact congrArg some this
  rw [List.getElem?_set, midR_get (by omega), midR_get (by omega), midR_len h (by omega)]
  by_cases e : a = m
  · subst e
    rw [if_pos rfl, if_pos ha, if_pos (by omega), ht]
  · rw [if_neg e]
    by_cases e2 : m < a
    · rw [if_pos e2, if_pos (by omega)]
    · rw [if_neg e2, if_neg (by omega)]
theorem map_take_succ {α β : Type} (f : α → β) (l : List α) (d : α) {k : Nat} (h : k < l.length) : (l.take (k + 1)).map f = (l.take k).map f ++ [f (l.getD k d)] := by
  rw [List.take_succ_eq_append_getElem h, List.map_append, List.getD_eq_getElem?_getD, List.getElem?_eq_getElem h]; rfl
end Go.Proofs.Ytkkmcgapbcikiaa
end

section
/- What trimming keeps. -/
namespace Go.Proofs.Ytkkmcgapbcikiaa

section
variable {i st n : Nat} {nx ot : List (List Int)}

theorem tr_row {R : List Nat} {j : Nat} (hj : j < R.length) : (trN nx i R).getD j [] = trR nx i R (R.getD j 0) := by
  unfold trN; rw [List.getD_eq_getElem?_getD, List.getElem?_map, List.getElem?_eq_getElem hj, List.getD_eq_getElem?_getD, List.getElem?_eq_getElem hj]; rfl
theorem tr_out {R : List Nat} {j : Nat} (hj : j < R.length) : (trO ot R).getD j [] = ot.getD (R.getD j 0) [] := by
  unfold trO; rw [List.getD_eq_getElem?_getD, List.getElem?_map, List.getElem?_eq_getElem hj, List.getD_eq_getElem?_getD (l := R), List.getElem?_eq_getElem hj]; rfl
theorem tr_nN {R : List Nat} {j a : Nat} (hj : j < R.length) (ha : a < i) : nN (trN nx i R) j a = ixN R (nN nx (R.getD j 0) a) := by
  unfold nN; rw [tr_row hj, trR_at ha]; unfold nN; simp
theorem tr_oN {R : List Nat} {j a : Nat} (hj : j < R.length) : oN (trO ot R) j a = oN ot (R.getD j 0) a := by
  unfold oN; rw [tr_out hj]

theorem Mok.tr (hM : Mok i st n nx ot) : Mok i 0 (rch nx i st).length (trN nx i (rch nx i st)) (trO ot (rch nx i st)) := by
  have hs := hM.rch_stt
  have hl := hs.len
  have h0 : 0 < (rch nx i st).length := by obtain ⟨t, ht⟩ := rch_pre nx i st; rw [ht]; simp
  refine ⟨hM.i1, hM.i2, h0, by have := hM.n2; omega, h0, by simp [trN], by simp [trO], fun s h => ?_⟩
  have hm := getD_mem h
  have hr := hM.row _ (hs.2 _ hm)
  rw [tr_row h, tr_out h]
  refine ⟨trR_len _ _ _ _, hr.2.1, fun a ha => ?_⟩
  rw [trR_at ha]
  have := ixN_lt (hM.rch_in hm ha)
  exact ⟨by omega, by omega, (hr.2.2 a ha).2.2⟩

theorem tr_run (hM : Mok i st n nx ot) : ∀ (u : List Int) (s : Nat), s ∈ rch nx i st → (∀ x, x ∈ u → 0 ≤ x ∧ x < i) → runO (trN nx i (rch nx i st)) (trO ot (rch nx i st)) (ixN (rch nx i st) s) u = runO nx ot s u
  | [], _, _, _ => rfl
  | x :: u, s, hs, hu => by
    have hx := hu x (by simp)
    have ha : x.toNat < i := by omega
    show oN _ (ixN (rch nx i st) s) x.toNat :: runO _ _ (nN _ (ixN (rch nx i st) s) x.toNat) u = oN ot s x.toNat :: runO nx ot (nN nx s x.toNat) u
    rw [tr_oN (ixN_lt hs), tr_nN (ixN_lt hs) ha, ixN_at hs, tr_run hM u _ (hM.rch_in hs ha) fun y hy => hu y (by simp [hy])]

theorem ixN_st (nx : List (List Int)) (i st : Nat) : ixN (rch nx i st) st = 0 := by
  obtain ⟨t, ht⟩ := rch_pre nx i st
  rw [ht]; unfold ixN; simp
theorem st_mem (nx : List (List Int)) (i st : Nat) : st ∈ rch nx i st := by obtain ⟨t, ht⟩ := rch_pre nx i st; rw [ht]; simp

theorem addN_map {R : List Nat} {l : List Nat} {x : Nat} (hl : ∀ y, y ∈ l → y ∈ R) (hx : x ∈ R) : addN (l.map (ixN R)) (ixN R x) = (addN l x).map (ixN R) := by
  have h : ixN R x ∈ l.map (ixN R) ↔ x ∈ l := by
    rw [List.mem_map]
    constructor
    · rintro ⟨y, hy, e⟩
      have := congrArg (fun j => R.getD j 0) e
      simp only [ixN_at (hl y hy), ixN_at hx] at this
      rw [← this]; exact hy
    · intro h; exact ⟨x, h, rfl⟩
  unfold addN
  by_cases hm : x ∈ l
  · rw [if_pos (h.2 hm), if_pos hm]
  · rw [if_neg (fun H => hm (h.1 H)), if_neg hm, List.map_append]; rfl
theorem addN_sub {R l : List Nat} {x : Nat} (hl : ∀ y, y ∈ l → y ∈ R) (hx : x ∈ R) : ∀ y, y ∈ addN l x → y ∈ R := by
  unfold addN; split
  · exact hl
  · intro y hy; rw [List.mem_append] at hy
    rcases hy with hy | hy
    · exact hl y hy
    · simp at hy; subst hy; exact hx
theorem addR_map (hM : Mok i st n nx ot) {l : List Nat} {s : Nat} (hl : ∀ y, y ∈ l → y ∈ rch nx i st) (hs : s ∈ rch nx i st) : ∀ a, a ≤ i →
    addR (trN nx i (rch nx i st)) (ixN (rch nx i st) s) (l.map (ixN (rch nx i st))) a = (addR nx s l a).map (ixN (rch nx i st)) ∧ ∀ y, y ∈ addR nx s l a → y ∈ rch nx i st
  | 0, _ => ⟨rfl, hl⟩
  | a + 1, h => by
    obtain ⟨h1, h2⟩ := addR_map hM hl hs a (by omega)
    have hin := hM.rch_in hs (show a < i by omega)
    refine ⟨?_, addN_sub h2 hin⟩
    show addN (addR _ _ _ a) (nN _ _ a) = (addN _ _).map _
    rw [h1, tr_nN (ixN_lt hs) (by omega), ixN_at hs, addN_map h2 hin]
theorem bfs_map (hM : Mok i st n nx ot) : ∀ (k : Nat) (l : List Nat) (j : Nat), (∀ y, y ∈ l → y ∈ rch nx i st) →
    bfs (trN nx i (rch nx i st)) i k (l.map (ixN (rch nx i st))) j = (bfs nx i k l j).map (ixN (rch nx i st))
  | 0, _, _, _ => rfl
  | k + 1, l, j, hl => by
    show (if j < (l.map _).length then _ else _) = List.map _ (if j < l.length then _ else _)
    rw [List.length_map]
    by_cases hj : j < l.length
    · have hm := getD_mem hj
      obtain ⟨h1, h2⟩ := addR_map hM hl (hl _ hm) i (Nat.le_refl _)
      have e : (l.map (ixN (rch nx i st))).getD j 0 = ixN (rch nx i st) (l.getD j 0) := by
        rw [List.getD_eq_getElem?_getD, List.getElem?_map, List.getElem?_eq_getElem hj, List.getD_eq_getElem?_getD, List.getElem?_eq_getElem hj]; rfl
      rw [if_pos hj, if_pos hj, e, h1]
      exact bfs_map hM k _ _ h2
    · rw [if_neg hj, if_neg hj]

theorem bfs_more (hM : Mok i st n nx ot) {l : List Nat} {j : Nat} (h : Stt n l) : ∀ k, bfs nx i (n + k) l j = bfs nx i n l j
  | 0 => rfl
  | k + 1 => by rw [← Nat.add_assoc, bfs_fuel hM (n + k) l j h (by omega), bfs_more hM h k]

theorem map_ixN {R : List Nat} (hR : R.Nodup) : R.map (ixN R) = List.range R.length := by
  apply List.ext_getElem
  · simp
  · intro m h1 h2
    have hm : m < R.length := by simpa using h1
    rw [List.getElem_map, List.getElem_range]
    have := ixN_of hR hm
    rw [List.getD_eq_getElem?_getD, List.getElem?_eq_getElem hm] at this
    exact this

theorem tr_rch (hM : Mok i st n nx ot) : rch (trN nx i (rch nx i st)) i 0 = List.range (rch nx i st).length := by
  have hT := hM.tr
  have hl := hM.rch_stt.len
  have h := bfs_map hM nx.length [st] 0 (fun y hy => by simp at hy; subst hy; exact st_mem nx i y)
  rw [show [st].map (ixN (rch nx i st)) = [0] by show [ixN _ _] = _; rw [ixN_st]] at h
  show bfs _ i (trN nx i (rch nx i st)).length [0] 0 = _
  rw [hT.nxl]
  have hm := bfs_more hT (j := 0) (Stt.one hT.n1) (n - (rch nx i st).length)
  rw [show (rch nx i st).length + (n - (rch nx i st).length) = n by omega] at hm
  rw [← hm, ← hM.nxl, h]
  exact map_ixN hM.rch_stt.1

theorem ixN_range {k x : Nat} (h : x < k) : ixN (List.range k) x = x := by
  have hm : x ∈ List.range k := List.mem_range.2 h
  have h1 := ixN_at hm
  have h2 := ixN_lt hm
  rw [List.length_range] at h2
  rw [List.getD_eq_getElem?_getD, List.getElem?_eq_getElem (by rw [List.length_range]; exact h2), List.getElem_range] at h1
  exact h1
theorem getD_range {k j : Nat} (h : j < k) : (List.range k).getD j 0 = j := by
  rw [List.getD_eq_getElem?_getD, List.getElem?_eq_getElem (by rw [List.length_range]; exact h), List.getElem_range]; rfl

theorem tr_again (hM : Mok i st n nx ot) : trN (trN nx i (rch nx i st)) i (List.range (rch nx i st).length) = trN nx i (rch nx i st) := by
  have hT := hM.tr
  apply List.ext_getElem
  · simp [trN]
  · intro m h1 h2
    have hm : m < (rch nx i st).length := by simpa [trN] using h2
    have e1 := tr_row (nx := trN nx i (rch nx i st)) (i := i) (R := List.range (rch nx i st).length) (j := m) (by simpa using hm)
    have e2 := tr_row (nx := nx) (i := i) hm
    rw [List.getD_eq_getElem?_getD, List.getElem?_eq_getElem h1, getD_range hm] at e1
    rw [List.getD_eq_getElem?_getD, List.getElem?_eq_getElem h2] at e2
    have e1 : (trN (trN nx i (rch nx i st)) i (List.range (rch nx i st).length))[m] = _ := e1
    have e2 : (trN nx i (rch nx i st))[m] = _ := e2
    rw [e1, e2]
    unfold trR
    apply List.map_congr_left
    intro a ha
    have ha : a < i := List.mem_range.1 ha
    have hlt := hT.nN_lt hm ha
    rw [ixN_range hlt, tr_nN hm ha]
theorem tr_again_out (ot : List (List Int)) (R : List Nat) : trO (trO ot R) (List.range R.length) = trO ot R := by
  apply List.ext_getElem
  · simp [trO]
  · intro m h1 h2
    have hm : m < R.length := by simpa [trO] using h2
    have e1 := tr_out (ot := trO ot R) (R := List.range R.length) (j := m) (by simpa using hm)
    rw [List.getD_eq_getElem?_getD, List.getElem?_eq_getElem h1, getD_range hm, List.getD_eq_getElem?_getD, List.getElem?_eq_getElem h2] at e1
    exact e1
end
end Go.Proofs.Ytkkmcgapbcikiaa
end

section
/- A lower bound is not greater than the number of the states that are reached. No program. -/
namespace Go.Proofs.Ytkkmcgapbcikiaa

/-- The traces are those of a machine. -/
def OfM (i st : Nat) (nx ot : List (List Int)) (ts : List (List Int × List Int)) : Prop :=
  ∀ j, j < ts.length → tOut ts j = runO nx ot st (tIn ts j) ∧ ∀ x, x ∈ tIn ts j → 0 ≤ x ∧ x < (i : Int)

theorem runO_at (nx ot : List (List Int)) : ∀ (u : List Int) (s k : Nat), k < u.length → (runO nx ot s u).getD k 0 = oN ot (runS nx s (u.take k)) (u.getD k 0).toNat
  | [], _, _, h => by simp at h
  | x :: u, s, 0, _ => rfl
  | x :: u, s, k + 1, h => by
    have := runO_at nx ot u (nN nx s x.toNat) k (by simpa using h)
    simpa [runO, runS] using this
/-- Outputs of words with a common prefix. -/
theorem runO_pre (nx ot : List (List Int)) (s : Nat) {x a b : List Int} (ha : x <+: a) (hb : x <+: b) (h0 : 0 < x.length) : (runO nx ot s a).getD (x.length - 1) 0 = (runO nx ot s b).getD (x.length - 1) 0 := by
  obtain ⟨t, rfl⟩ := ha
  obtain ⟨u, rfl⟩ := hb
  rw [runO_append, runO_append]
  have hl := runO_len nx ot x s
  rw [List.getD_eq_getElem?_getD, List.getD_eq_getElem?_getD, List.getElem?_append_left (by omega), List.getElem?_append_left (by omega)]
/-- What is observed after a word, of a machine. -/
theorem aft_of {i st : Nat} {nx ot : List (List Int)} {ts : List (List Int × List Int)} {v : List Int} (h : OfM i st nx ot ts) {b : Nat} (hb : b < (aftK ts v ts.length).length) :
    tOut (aftK ts v ts.length) b = runO nx ot (runS nx st v) (tIn (aftK ts v ts.length) b) ∧ ∀ x, x ∈ v → 0 ≤ x ∧ x < (i : Int) := by
  obtain ⟨s, hs, hl, hc, e1, e2⟩ := aftK_at ts.length b hb
  obtain ⟨h1, h2⟩ := h s hs
  have hp := cut_pre hc
  constructor
  · rw [e2, e1, h1]
    conv => lhs; rw [← hp, runO_append]
    rw [List.drop_append_of_le_length (by rw [runO_len]; exact Nat.le_refl _), List.drop_of_length_le (by rw [runO_len]; exact Nat.le_refl _), List.nil_append]
  · intro x hx
    exact h2 x (by rw [← hp]; exact List.mem_append_left _ hx)
/-- Words that are apart lead to different states. -/
theorem ctr_state {i st : Nat} {nx ot : List (List Int)} {ts : List (List Int × List Int)} {v w : List Int} (h : OfM i st nx ot ts) (hc : ctr (aftK ts v ts.length) (aftK ts w ts.length) = true) :
    ¬ runS nx st v = runS nx st w ∧ (∀ x, x ∈ v → 0 ≤ x ∧ x < (i : Int)) ∧ ∀ x, x ∈ w → 0 ≤ x ∧ x < (i : Int) := by
  have : ∃ x, ShK (aftK ts v ts.length) (aftK ts w ts.length) (aftK ts v ts.length).length x := by
    simp only [ctr, decide_eq_true_eq] at hc
    exact hc
  obtain ⟨x, a, ha, hx, h0, b, hb, hy, hd⟩ := this
  obtain ⟨p1, p2⟩ := aft_of h ha
  obtain ⟨q1, q2⟩ := aft_of h hb
  refine ⟨fun e => hd ?_, p2, q2⟩
  rw [p1, q1, e]
  exact runO_pre nx ot _ hy hx h0
/-- The words that Lower keeps are apart. -/
theorem kep_pair {ts : List (List Int × List Int)} {ws : List (List Int)} (k : Nat) : (kepK ts ws k).Pairwise fun v w => ctr (aftK ts v ts.length) (aftK ts w ts.length) = true := by
  induction k with
  | zero => exact List.Pairwise.nil
  | succ k ih =>
    by_cases h : ∀ v, v ∈ kepK ts ws k → ctr (aftK ts v ts.length) (aftK ts (ws.getD k []) ts.length) = true
    · rw [kepK_yes h, List.pairwise_append]
      exact ⟨ih, List.pairwise_singleton _ _, fun v hv w hw => by simp at hw; rw [hw]; exact h v hv⟩
    · rw [kepK_no h]
      exact ih
theorem nd_le : ∀ {a b : List Nat}, a.Nodup → (∀ x, x ∈ a → x ∈ b) → a.length ≤ b.length
  | [], _, _, _ => by simp
  | x :: a, b, ha, h => by
    rw [List.nodup_cons] at ha
    have hx := h x (by simp)
    have := nd_le (a := a) (b := b.erase x) ha.2 (fun y hy => (List.mem_erase_of_ne (fun e => ha.1 (by rw [← e]; exact hy))).2 (h y (by simp [hy])))
    rw [List.length_erase_of_mem hx] at this
    have hp := List.length_pos_of_mem hx
    simp
    omega
theorem run_in {i st n : Nat} {nx ot : List (List Int)} (hM : Mok i st n nx ot) : ∀ (u : List Int) (q : Nat), q ∈ rch nx i st → (∀ x, x ∈ u → 0 ≤ x ∧ x < (i : Int)) → runS nx q u ∈ rch nx i st
  | [], _, h, _ => h
  | x :: u, q, h, hu => by
    have hx := hu x (by simp)
    have ha : x.toNat < i := by omega
    exact run_in hM u _ (hM.rch_in h ha) (fun y hy => hu y (by simp [hy]))
/-- A lower bound is not greater than the number of states. -/
theorem low_le {i st n : Nat} {nx ot : List (List Int)} {ts : List (List Int × List Int)} {ws : List (List Int)} (hM : Mok i st n nx ot) (h : OfM i st nx ot ts) (k : Nat) : (kepK ts ws k).length ≤ (rch nx i st).length := by
  have hp := kep_pair (ts := ts) (ws := ws) k
  have h1 : 0 < (rch nx i st).length := List.length_pos_of_mem (st_mem nx i st)
  by_cases h2 : (kepK ts ws k).length ≤ 1
  · omega
  · obtain ⟨l, hl⟩ : ∃ l, l = kepK ts ws k := ⟨_, rfl⟩
    rw [← hl] at hp h2 ⊢
    have hnd : (l.map (runS nx st)).Nodup := by
      rw [List.nodup_iff_pairwise_ne, List.pairwise_map]
      exact hp.imp fun {a b} hc => (ctr_state h hc).1
    have hin : ∀ q, q ∈ l.map (runS nx st) → q ∈ rch nx i st := by
      intro q hq
      obtain ⟨v, hv, rfl⟩ := List.mem_map.1 hq
      refine run_in hM v st (st_mem nx i st) ?_
      cases l with
      | nil => simp at hv
      | cons a l1 =>
        cases l1 with
        | nil => simp at h2
        | cons b t =>
          rw [List.pairwise_cons] at hp
          rcases List.mem_cons.1 hv with e | hv
          · rw [e]; exact (ctr_state h (hp.1 b (by simp))).2.1
          · exact (ctr_state h (hp.1 v hv)).2.2
    have := nd_le hnd hin
    rwa [List.length_map] at this
end Go.Proofs.Ytkkmcgapbcikiaa
end

section
/- What shows that words are apart, step by step, as the reference finds it. No program. -/
namespace Go.Proofs.Ytkkmcgapbcikiaa

/-- The first m symbols of X behind vs are answered, and as Y says. -/
def Agr (ts : List (List Int × List Int)) (vs X Y : List Int) (m : Nat) : Prop :=
  ∀ j, j < m → ∃ a, a < ts.length ∧ cmn (tIn ts a) (vs ++ X.take (j + 1)) = (vs ++ X.take (j + 1)).length ∧ (tOut ts a).getD (vs.length + j) 0 = Y.getD j 0
theorem sh1_of {ts : List (List Int × List Int)} {vs X Y x : List Int} (h : Sh1 (aftK ts vs ts.length) X Y x) :
    ∃ s, s < ts.length ∧ 0 < x.length ∧ x = X.take x.length ∧ x.length ≤ X.length ∧ cmn (tIn ts s) (vs ++ x) = (vs ++ x).length ∧ ¬ (tOut ts s).getD (vs.length + (x.length - 1)) 0 = Y.getD (x.length - 1) 0 := by
  obtain ⟨h1, h2, b, hb, h3, h4⟩ := h
  obtain ⟨s, hs, hl, hc, e1, e2⟩ := aftK_at ts.length b hb
  rw [e1] at h3
  rw [e2, getD_drop] at h4
  refine ⟨s, hs, h2, List.prefix_iff_eq_take.1 h1, h1.length_le, ?_, h4⟩
  have := cut_pre hc
  rw [← pre_cmn', ← this]
  exact (List.prefix_append_right_inj vs).2 h3
theorem pre_tk {x y z : List Int} (h : cmn z y = y.length) (hx : x <+: y) : cmn z x = x.length := pre_cmn'.1 (hx.trans (pre_cmn'.2 h))
theorem tk_pre {vs X : List Int} {a b : Nat} (h : a ≤ b) : vs ++ X.take a <+: vs ++ X.take b := (List.prefix_append_right_inj vs).2 (by
  have e : (X.take b).take a = X.take a := by rw [List.take_take, Nat.min_eq_left h]
  rw [← e]
  exact List.take_prefix _ _)
/-- What agrees shows nothing. -/
theorem agr_no {ts : List (List Int × List Int)} {vs X Y x : List Int} {m : Nat} (hC : Cons ts) (hA : Agr ts vs X Y m) (h : Sh1 (aftK ts vs ts.length) X Y x) : m < x.length := by
  obtain ⟨s, hs, h0, hx, hl, hc, hd⟩ := sh1_of h
  by_cases hm : m < x.length
  · exact hm
  · exfalso
    obtain ⟨a, ha, hca, he⟩ := hA (x.length - 1) (by omega)
    rw [show x.length - 1 + 1 = x.length by omega, ← hx] at hca
    refine hd ?_
    rw [← he]
    refine (hC s a hs ha _ ?_)
    have := pre_min (pre_cmn'.2 hc) (pre_cmn'.2 hca)
    rw [List.length_append] at this
    omega
theorem ans_none {ts : List (List Int × List Int)} {vs X Y x : List Int} {m : Nat} (hC : Cons ts) (hA : Agr ts vs X Y m) (hn : ∀ a, a < ts.length → ¬ cmn (tIn ts a) (vs ++ X.take (m + 1)) = (vs ++ X.take (m + 1)).length) : ¬ Sh1 (aftK ts vs ts.length) X Y x := fun h => by
  have hm := agr_no hC hA h
  obtain ⟨s, hs, h0, hx, hl, hc, hd⟩ := sh1_of h
  refine hn s hs (pre_tk hc ?_)
  rw [hx]
  exact tk_pre (by omega)
theorem ans_diff {ts : List (List Int × List Int)} {vs X Y : List Int} {m a : Nat} (hm : m < X.length) (ha : a < ts.length) (hc : cmn (tIn ts a) (vs ++ X.take (m + 1)) = (vs ++ X.take (m + 1)).length) (hd : ¬ (tOut ts a).getD (vs.length + m) 0 = Y.getD m 0) :
    Sh1 (aftK ts vs ts.length) X Y (X.take (m + 1)) := by
  have hl : (X.take (m + 1)).length = m + 1 := by rw [List.length_take]; omega
  have p := pre_cmn'.2 hc
  have pv : cmn (tIn ts a) vs = vs.length := pre_tk hc (List.prefix_append _ _)
  have hlt : vs.length < (tIn ts a).length := by
    have := p.length_le
    rw [List.length_append, hl] at this
    omega
  obtain ⟨j, hj, e1, e2⟩ := aftK_has ha hlt pv
  refine ⟨List.take_prefix _ _, by omega, j, hj, ?_, ?_⟩
  · rw [e1]
    have := cut_pre pv
    rw [← this] at p
    exact (List.prefix_append_right_inj vs).1 p
  · rw [e2, getD_drop, hl]
    exact hd
theorem Agr.zero (ts : List (List Int × List Int)) (vs X Y : List Int) : Agr ts vs X Y 0 := fun j h => absurd h (Nat.not_lt_zero j)
theorem Agr.step {ts : List (List Int × List Int)} {vs X Y : List Int} {m a : Nat} (h : Agr ts vs X Y m) (ha : a < ts.length) (hc : cmn (tIn ts a) (vs ++ X.take (m + 1)) = (vs ++ X.take (m + 1)).length) (hd : (tOut ts a).getD (vs.length + m) 0 = Y.getD m 0) : Agr ts vs X Y (m + 1) := fun j hj => by
  by_cases e : j = m
  · rw [e]; exact ⟨a, ha, hc, hd⟩
  · exact h j (by omega)
/-- Traces of the first words. -/
theorem shk_left {P Q : List (List Int × List Int)} {t : List Int × List Int} (x : List Int) : ShK (P ++ [t]) Q P.length x ↔ ShK P Q P.length x := by
  constructor
  · rintro ⟨a, ha, h⟩
    rw [tIn_left ha, tOut_left ha] at h
    exact ⟨a, ha, h⟩
  · rintro ⟨a, ha, h⟩
    refine ⟨a, ha, ?_⟩
    rw [tIn_left ha, tOut_left ha]
    exact h
theorem fst_left {P Q : List (List Int × List Int)} {t : List Int × List Int} {o : List Int} (h : Fst1 (ShK P Q P.length) o) : Fst1 (ShK (P ++ [t]) Q P.length) o := h.congr fun x => (shk_left x).symm
end Go.Proofs.Ytkkmcgapbcikiaa
end

section
/- Observations of a machine: one trace more or less; the answers behind words that are apart. No program. -/
namespace Go.Proofs.Ytkkmcgapbcikiaa

section
variable {i st : Nat} {nx ot : List (List Int)} {ts : List (List Int × List Int)}

theorem tr_mem {ts : List (List Int × List Int)} {q : List Int → List Int → Prop} : (∀ j, j < ts.length → q (tIn ts j) (tOut ts j)) ↔ ∀ t, t ∈ ts → q t.1 t.2 := by
  constructor
  · intro h t ht
    obtain ⟨j, hj, e⟩ := List.mem_iff_getElem.1 ht
    have := h j hj
    unfold tIn tOut at this
    rw [List.getD_eq_getElem?_getD, List.getElem?_eq_getElem hj] at this
    rw [← e]
    exact this
  · intro h j hj
    unfold tIn tOut
    rw [List.getD_eq_getElem?_getD, List.getElem?_eq_getElem hj]
    exact h _ (List.getElem_mem _)
theorem tr_ins {ts : List (List Int × List Int)} {q : List Int → List Int → Prop} (h : ∀ j, j < ts.length → q (tIn ts j) (tOut ts j)) {xs ys : List Int} (hx : q xs ys) (p : Nat) :
    ∀ j, j < (ts.take p ++ (xs, ys) :: ts.drop p).length → q (tIn (ts.take p ++ (xs, ys) :: ts.drop p) j) (tOut (ts.take p ++ (xs, ys) :: ts.drop p) j) := by
  rw [tr_mem] at h ⊢
  intro t ht
  rcases List.mem_append.1 ht with ht | ht
  · exact h t (List.mem_of_mem_take ht)
  · rcases List.mem_cons.1 ht with rfl | ht
    · exact hx
    · exact h t (List.mem_of_mem_drop ht)
theorem tr_del {ts : List (List Int × List Int)} {q : List Int → List Int → Prop} (h : ∀ j, j < ts.length → q (tIn ts j) (tOut ts j)) (b : Nat) : ∀ j, j < (ts.eraseIdx b).length → q (tIn (ts.eraseIdx b) j) (tOut (ts.eraseIdx b) j) := by
  rw [tr_mem] at h ⊢
  exact fun t ht => h t (List.mem_of_mem_eraseIdx ht)
theorem srt_pw {ts : List (List Int × List Int)} : Srt ts ↔ ts.Pairwise fun a b => shlex a.1 b.1 < 0 := by
  rw [List.pairwise_iff_getElem]
  have e : ∀ j (hj : j < ts.length), tIn ts j = (ts[j]).1 := fun j hj => by unfold tIn; rw [List.getD_eq_getElem?_getD, List.getElem?_eq_getElem hj]; rfl
  constructor
  · intro h a b ha hb hab
    rw [← e a ha, ← e b hb]
    exact h a b hab hb
  · intro h a b hab hb
    rw [e a (by omega), e b hb]
    exact h a b (by omega) hb hab
theorem srt_del {ts : List (List Int × List Int)} (h : Srt ts) (b : Nat) : Srt (ts.eraseIdx b) := by
  rw [srt_pw] at h ⊢
  exact h.sublist (List.eraseIdx_sublist _ _)
/-- A trace at its place. -/
theorem srt_ins {ts : List (List Int × List Int)} (h : Srt ts) {xs ys : List Int} {p : Nat} (h1 : ∀ j, j < p → j < ts.length → shlex (tIn ts j) xs < 0) (h2 : ∀ j, p ≤ j → j < ts.length → shlex xs (tIn ts j) < 0) : Srt (ts.take p ++ (xs, ys) :: ts.drop p) := by
  have e : ∀ j (hj : j < ts.length), tIn ts j = (ts[j]).1 := fun j hj => by unfold tIn; rw [List.getD_eq_getElem?_getD, List.getElem?_eq_getElem hj]; rfl
  have b1 : ∀ t, t ∈ ts.take p → shlex t.1 xs < 0 := fun t ht => by
    obtain ⟨j, hj, e1⟩ := List.mem_iff_getElem.1 ht
    rw [List.length_take] at hj
    rw [List.getElem_take] at e1
    have := h1 j (by omega) (by omega)
    rw [e j (by omega), e1] at this
    exact this
  have b2 : ∀ t, t ∈ ts.drop p → shlex xs t.1 < 0 := fun t ht => by
    obtain ⟨j, hj, e1⟩ := List.mem_iff_getElem.1 ht
    rw [List.length_drop] at hj
    rw [List.getElem_drop] at e1
    have := h2 (p + j) (by omega) (by omega)
    rw [e (p + j) (by omega), e1] at this
    exact this
  rw [srt_pw] at h ⊢
  have hs := h
  rw [← List.take_append_drop p ts, List.pairwise_append] at hs
  rw [List.pairwise_append, List.pairwise_cons]
  exact ⟨hs.1, ⟨b2, hs.2.1⟩, fun a ha b hb => by
    rcases List.mem_cons.1 hb with rfl | hb
    · exact b1 a ha
    · exact hs.2.2 a ha b hb⟩
/-- Traces of a machine agree with it as far as words are alike. -/
theorem of_agree (h : OfM i st nx ot ts) {b : Nat} (hb : b < ts.length) {xs : List Int} {j : Nat} (hj : j < cmn (tIn ts b) xs) : (tOut ts b).getD j 0 = (runO nx ot st xs).getD j 0 := by
  rw [(h b hb).1]
  have p1 : (xs.take (j + 1)) <+: tIn ts b := pre_take (by rw [cmn_comm]; omega)
  have p2 : (xs.take (j + 1)) <+: xs := List.take_prefix _ _
  have hl : (xs.take (j + 1)).length = j + 1 := by
    have := cmn_le_left xs (tIn ts b)
    rw [cmn_comm] at this
    rw [List.length_take]
    omega
  have := runO_pre nx ot st p1 p2 (by omega)
  rw [hl] at this
  exact this
theorem of_full (h : OfM i st nx ot ts) : Full ts := fun j hj => by rw [(h j hj).1, runO_len]
theorem of_cons (h : OfM i st nx ot ts) : Cons ts := fun a b ha hb j hj => by
  rw [of_agree h ha hj, (h b hb).1]
/-- The answer to a word that is known. -/
theorem of_take (h : OfM i st nx ot ts) {b : Nat} (hb : b < ts.length) {ws : List Int} (hc : cmn (tIn ts b) ws = ws.length) : (tOut ts b).take ws.length = runO nx ot st ws := by
  obtain ⟨t, ht⟩ := pre_cmn'.2 hc
  rw [(h b hb).1, ← ht, runO_append, List.take_append_of_le_length (by rw [runO_len]; exact Nat.le_refl _), List.take_of_length_le (by rw [runO_len]; exact Nat.le_refl _)]
/-- Behind words that are apart, both answers are known, and their last outputs differ. -/
theorem apart_known (h : OfM i st nx ot ts) {v w x : List Int} (hx : ShK (aftK ts v ts.length) (aftK ts w ts.length) (aftK ts v ts.length).length x) :
    0 < x.length ∧ knw ts (v ++ x) ts.length = (v ++ x).length ∧ knw ts (w ++ x) ts.length = (w ++ x).length ∧
      ¬ (runO nx ot st (v ++ x)).getD (v.length + (x.length - 1)) 0 = (runO nx ot st (w ++ x)).getD (w.length + (x.length - 1)) 0 := by
  have hsw := (shk_comm _ _ x).1 hx
  obtain ⟨a, ha, hx1, h0, b, hb, hy1, hd⟩ := hx
  have known : ∀ u {c : Nat}, c < (aftK ts u ts.length).length → x <+: tIn (aftK ts u ts.length) c → knw ts (u ++ x) ts.length = (u ++ x).length := by
    intro u c hc hp
    obtain ⟨s, hs, hl, hcm, e1, e2⟩ := aftK_at ts.length c hc
    rw [e1] at hp
    have hpre := cut_pre hcm
    have p : u ++ x <+: tIn ts s := by rw [← hpre]; exact (List.prefix_append_right_inj u).2 hp
    have g := knw_ge (ts := ts) (w := u ++ x) hs
    rw [pre_cmn'.1 p] at g
    exact Nat.le_antisymm knw_le g
  refine ⟨h0, known v ha hx1, known w hb hy1, fun e => hd ?_⟩
  rw [(aft_of h ha).1, (aft_of h hb).1]
  have r1 := runO_pre nx ot (runS nx st v) (List.prefix_refl x) hx1 h0
  have r2 := runO_pre nx ot (runS nx st w) (List.prefix_refl x) hy1 h0
  have g : ∀ u, (runO nx ot st (u ++ x)).getD (u.length + (x.length - 1)) 0 = (runO nx ot (runS nx st u) x).getD (x.length - 1) 0 := fun u => by
    rw [runO_append, List.getD_eq_getElem?_getD, List.getD_eq_getElem?_getD, List.getElem?_append_right (by rw [runO_len]; omega), runO_len, Nat.add_sub_cancel_left]
  rw [g, g] at e
  rw [← r1, ← r2]
  exact e.symm
end
end Go.Proofs.Ytkkmcgapbcikiaa
end

section
/- Traces in dictionary order: what fit finds out. No program. -/
namespace Go.Proofs.Ytkkmcgapbcikiaa
open Go.RowKit

/-- The trace at a position of the dictionary. -/
def opo (os : List Int) (p : Nat) : Nat := (os.getD p 0).toNat
/-- The dictionary of the traces. -/
structure Dict (ts : List (List Int × List Int)) (os ss : List Int) : Prop where
  ol : os.length = ts.length
  rng : ∀ p, p < ts.length → 0 ≤ os.getD p 0 ∧ opo os p < ts.length
  sur : ∀ i, i < ts.length → ∃ p, p < ts.length ∧ opo os p = i
  inj : ∀ p q, p < ts.length → q < ts.length → opo os p = opo os q → p = q
  srt : ∀ p q, p < q → q < ts.length → lexR (tIn ts (opo os p)) (tIn ts (opo os q)) ≤ 0
  sl : ss.length = ts.length - 1
  sh : ∀ p, p + 1 < ts.length → ss.getD p 0 = cmn (tIn ts (opo os p)) (tIn ts (opo os (p + 1)))
/-- The positions p and q are linked by k shared inputs. -/
def Lnk (ss : List Int) (k : Int) (p q : Nat) : Prop := (∀ j, p ≤ j → j < q → k ≤ ss.getD j 0) ∧ (∀ j, q ≤ j → j < p → k ≤ ss.getD j 0)
theorem Lnk.refl (ss : List Int) (k : Int) (p : Nat) : Lnk ss k p p := ⟨fun j h1 h2 => absurd h2 (by omega), fun j h1 h2 => absurd h2 (by omega)⟩
theorem arnd_iff {ss : List Int} {m p : Nat} {k : Int} {f t q : Nat} (h : Arnd ss m p k f t) (hq : q ≤ m) : (f ≤ q ∧ q < t) ↔ Lnk ss k p q := by
  obtain ⟨h1, h2, h3, h4, h5, h6, h7⟩ := h
  constructor
  · rintro ⟨g1, g2⟩
    exact ⟨fun j j1 j2 => h5 j j1 (by omega), fun j j1 j2 => h4 j (by omega) j2⟩
  · rintro ⟨g1, g2⟩
    constructor
    · rcases Nat.lt_or_ge q f with hlt | hge
      · rcases h6 with h6 | h6
        · omega
        · have := g2 (f - 1) (by omega) (by omega)
          omega
      · exact hge
    · rcases Nat.lt_or_ge q t with hlt | hge
      · exact hlt
      · rcases h7 with h7 | h7
        · omega
        · have := g1 (t - 1) (by omega) (by omega)
          omega
/-- How many of the shared outputs of neighbours agree. -/
def agrD (ts : List (List Int × List Int)) (os ss : List Int) (p : Nat) : Nat := cmn ((tOut ts (opo os p)).take (ss.getD p 0).toNat) ((tOut ts (opo os (p + 1))).take (ss.getD p 0).toNat)
/-- Among the first P neighbours one shows that i is a beginning of another trace. -/
def Ext (ts : List (List Int × List Int)) (os ss : List Int) (P i : Nat) : Prop := ∃ p, p < P ∧ opo os p = i ∧ ss.getD p 0 = ((tIn ts (opo os p)).length : Int)
/-- Among the first P neighbours one shows that i contradicts another trace. -/
def Con (ts : List (List Int × List Int)) (os ss : List Int) (P i : Nat) : Prop := ∃ p, p < P ∧ (agrD ts os ss p : Int) < ss.getD p 0 ∧ ∃ q, q < ts.length ∧ Lnk ss ((agrD ts os ss p : Int) + 1) p q ∧ opo os q = i
/-- The error that fit returns. -/
def FitR (ts : List (List Int × List Int)) (os ss : List Int) (R : Int) : Prop :=
  (R = 0 ∧ ∀ i, i < ts.length → ¬ Ext ts os ss ss.length i ∧ ¬ Con ts os ss ss.length i) ∨
  ∃ i, i < ts.length ∧ (∀ j, j < i → ¬ Ext ts os ss ss.length j ∧ ¬ Con ts os ss ss.length j) ∧ ((Ext ts os ss ss.length i ∧ R = 7) ∨ (¬ Ext ts os ss ss.length i ∧ Con ts os ss ss.length i ∧ R = 13))
/-- The result of dictionary. -/
def DictE (ts : List (List Int × List Int)) (n : Nat) (w : World) (e : Ending) (w' : World) : Prop :=
  ∃ (O S : Option Addr) (m cO cS : Nat) (os ss : List Int), e = .returned (.agg #[.slice O n cO, .slice S m cS]) ∧ Dict ts os ss ∧ Ints w' O n os ∧ Ints w' S m ss ∧ n ≤ cO ∧ m ≤ cS ∧ Below w.heap.size w w'
/-- No trace is a beginning of another one. -/
def PreF (ts : List (List Int × List Int)) : Prop := ∀ i k, i < ts.length → k < ts.length → ¬ i = k → ¬ tIn ts i <+: tIn ts k

section
variable {ts : List (List Int × List Int)} {os ss : List Int}

theorem Dict.snn (h : Dict ts os ss) {p : Nat} (hp : p + 1 < ts.length) : 0 ≤ ss.getD p 0 ∧ (ss.getD p 0).toNat = cmn (tIn ts (opo os p)) (tIn ts (opo os (p + 1))) := by
  rw [h.sh p hp]
  exact ⟨by omega, by omega⟩
theorem take_getD {xs : List Int} {s j : Nat} (h : j < s) : (xs.take s).getD j 0 = xs.getD j 0 := by
  rw [List.getD_eq_getElem?_getD, List.getD_eq_getElem?_getD, List.getElem?_take_of_lt h]
theorem agrD_le (h : Dict ts os ss) {p : Nat} (hp : p + 1 < ts.length) : (agrD ts os ss p : Int) ≤ ss.getD p 0 := by
  have h1 := (h.snn hp).1
  have h2 := cmn_le_left ((tOut ts (opo os p)).take (ss.getD p 0).toNat) ((tOut ts (opo os (p + 1))).take (ss.getD p 0).toNat)
  rw [List.length_take] at h2
  unfold agrD
  omega
theorem agrD_full (h : Dict ts os ss) {p : Nat} (hp : p + 1 < ts.length) (ha : ¬ (agrD ts os ss p : Int) < ss.getD p 0) : ∀ j, j < cmn (tIn ts (opo os p)) (tIn ts (opo os (p + 1))) → (tOut ts (opo os p)).getD j 0 = (tOut ts (opo os (p + 1))).getD j 0 := by
  intro j hj
  obtain ⟨h1, h2⟩ := h.snn hp
  have h3 := cmn_agree ((tOut ts (opo os p)).take (ss.getD p 0).toNat) ((tOut ts (opo os (p + 1))).take (ss.getD p 0).toNat)
  have h4 : (ss.getD p 0).toNat ≤ agrD ts os ss p := by omega
  have h5 := h3 j (by unfold agrD at h4; omega)
  rw [take_getD (by omega), take_getD (by omega)] at h5
  exact h5
theorem agrD_part (h : Dict ts os ss) (hF : Full ts) {p : Nat} (hp : p + 1 < ts.length) (ha : (agrD ts os ss p : Int) < ss.getD p 0) : agrD ts os ss p < cmn (tIn ts (opo os p)) (tIn ts (opo os (p + 1))) ∧ ¬ (tOut ts (opo os p)).getD (agrD ts os ss p) 0 = (tOut ts (opo os (p + 1))).getD (agrD ts os ss p) 0 := by
  obtain ⟨h1, h2⟩ := h.snn hp
  have l1 := cmn_le_left (tIn ts (opo os p)) (tIn ts (opo os (p + 1)))
  have l2 := cmn_le_right (tIn ts (opo os p)) (tIn ts (opo os (p + 1)))
  have f1 := hF _ (h.rng p (by omega)).2
  have f2 := hF _ (h.rng (p + 1) hp).2
  have hlt : agrD ts os ss p < (ss.getD p 0).toNat := by omega
  have h3 := cmn_part ((tOut ts (opo os p)).take (ss.getD p 0).toNat) ((tOut ts (opo os (p + 1))).take (ss.getD p 0).toNat)
    (by rw [List.length_take]; unfold agrD at hlt; omega) (by rw [List.length_take]; unfold agrD at hlt; omega)
  have h4 : ¬ ((tOut ts (opo os p)).take (ss.getD p 0).toNat).getD (agrD ts os ss p) 0 = ((tOut ts (opo os (p + 1))).take (ss.getD p 0).toNat).getD (agrD ts os ss p) 0 := h3
  rw [take_getD hlt, take_getD hlt] at h4
  exact ⟨by omega, h4⟩
theorem pre_lex0 {x y : List Int} (h : x <+: y) : lexR x y ≤ 0 := by
  have h1 := lexR_prefix y x (pre_cmn'.1 h)
  have h2 := lexR_neg x y
  omega
/-- No error: no trace is a beginning of another one, and none contradicts another one. -/
theorem fit_ok (h : Dict ts os ss) (hS : Srt ts) (hR : FitR ts os ss 0) : PreF ts ∧ Cons ts := by
  have hno : ∀ i, i < ts.length → ¬ Ext ts os ss ss.length i ∧ ¬ Con ts os ss ss.length i := by
    rcases hR with ⟨_, h1⟩ | ⟨i, _, _, ⟨_, h1⟩ | ⟨_, _, h1⟩⟩
    · exact h1
    · omega
    · omega
  have hsl := h.sl
  have hne : ∀ i k, i < ts.length → k < ts.length → ¬ i = k → ¬ tIn ts i = tIn ts k := by
    intro i k hi hk hik e
    rcases Nat.lt_or_ge i k with h1 | h1
    · have := hS i k h1 hk
      rw [e, shlex_irr] at this
      omega
    · have := hS k i (by omega) hi
      rw [e, shlex_irr] at this
      omega
  constructor
  · intro i k hi hk hik hp
    obtain ⟨a, ha, rfl⟩ := h.sur i hi
    obtain ⟨b, hb, rfl⟩ := h.sur k hk
    have hab : ¬ a = b := fun e => hik (by rw [e])
    rcases Nat.lt_or_ge a b with hlt | hge
    · refine (hno _ hi).1 ⟨a, by omega, rfl, ?_⟩
      rw [h.sh a (by omega)]
      have l1 := h.srt a (a + 1) (by omega) (by omega)
      have l2 : lexR (tIn ts (opo os (a + 1))) (tIn ts (opo os b)) ≤ 0 := by
        by_cases e : a + 1 = b
        · rw [e, lexR_irr]; exact Int.le_refl _
        · exact h.srt (a + 1) b (by omega) hb
      have l3 := (cmn_mono l1 l2).2
      rw [pre_cmn.1 hp] at l3
      have l4 := cmn_le_left (tIn ts (opo os a)) (tIn ts (opo os (a + 1)))
      omega
    · have l1 := h.srt b a (by omega) ha
      have l2 := pre_lex0 hp
      have l3 := lexR_neg (tIn ts (opo os a)) (tIn ts (opo os b))
      exact hne _ _ hi hk hik ((lexR_zero _ _).1 (by omega))
  · have key : ∀ d a, a + d < ts.length → ∀ j, j < cmn (tIn ts (opo os a)) (tIn ts (opo os (a + d))) → (tOut ts (opo os a)).getD j 0 = (tOut ts (opo os (a + d))).getD j 0 := by
      intro d
      induction d with
      | zero => intro a _ j _; rfl
      | succ d ih =>
        intro a had j hj
        have l1 : lexR (tIn ts (opo os a)) (tIn ts (opo os (a + d))) ≤ 0 := by
          cases d with
          | zero => rw [Nat.add_zero, lexR_irr]; exact Int.le_refl _
          | succ d => exact h.srt a (a + (d + 1)) (by omega) (by omega)
        have l2 := h.srt (a + d) (a + d + 1) (by omega) (by omega)
        rw [show a + (d + 1) = a + d + 1 by omega] at hj ⊢
        obtain ⟨m1, m2⟩ := cmn_mono l1 l2
        have e1 := ih a (by omega) j (by omega)
        have hnc := (hno (opo os (a + d)) (h.rng _ (by omega)).2).2
        have e2 := agrD_full h (p := a + d) (by omega) (fun hlt => hnc ⟨a + d, by omega, hlt, a + d, by omega, Lnk.refl _ _ _, rfl⟩) j (by omega)
        rw [e1, e2]
    intro i k hi hk j hj
    obtain ⟨a, ha, rfl⟩ := h.sur i hi
    obtain ⟨b, hb, rfl⟩ := h.sur k hk
    rcases Nat.lt_or_ge a b with hlt | hge
    · obtain ⟨d, rfl⟩ : ∃ d, b = a + d := ⟨b - a, by omega⟩
      exact key d a hb j hj
    · obtain ⟨d, rfl⟩ : ∃ d, a = b + d := ⟨a - b, by omega⟩
      exact (key d b ha j (by rw [cmn_comm]; exact hj)).symm
/-- Traces without beginnings and contradictions have no error. -/
theorem fit_good (h : Dict ts os ss) (hF : Full ts) (hP : PreF ts) (hC : Cons ts) {R : Int} (hR : FitR ts os ss R) : R = 0 := by
  have hsl := h.sl
  have e : ∀ i, ¬ Ext ts os ss ss.length i := by
    rintro i ⟨p, hp, _, he⟩
    have hp1 : p + 1 < ts.length := by omega
    rw [h.sh p hp1] at he
    refine hP _ _ (h.rng p (by omega)).2 (h.rng (p + 1) hp1).2 (fun e => ?_) (pre_cmn.2 (by omega))
    have := h.inj p (p + 1) (by omega) hp1 e
    omega
  have c : ∀ i, ¬ Con ts os ss ss.length i := by
    rintro i ⟨p, hp, ha, _⟩
    have hp1 : p + 1 < ts.length := by omega
    obtain ⟨h1, h2⟩ := agrD_part h hF hp1 ha
    exact h2 (hC _ _ (h.rng p (by omega)).2 (h.rng (p + 1) hp1).2 _ h1)
  rcases hR with ⟨h1, _⟩ | ⟨i, _, _, ⟨h1, _⟩ | ⟨_, h1, _⟩⟩
  · exact h1
  · exact absurd h1 (e i)
  · exact absurd h1 (c i)
end
end Go.Proofs.Ytkkmcgapbcikiaa
end

section
/- slices.SortFunc of the numbers of traces, in dictionary order of their input words. -/
namespace Go.Proofs.Ytkkmcgapbcikiaa
open Go.RowKit Go.Sort Go.Shelf

/-- Numbers below N + 1 as values. -/
def encF (N : Nat) (i : Fin (N + 1)) : Value := .int .i64 (i.val : Int)
def toI {N : Nat} (d : Array (Fin (N + 1))) : Array Int := d.map fun i => (i.val : Int)
theorem toI_get {N : Nat} (d : Array (Fin (N + 1))) {j : Nat} (hj : j < d.size) : (toI d)[j]! = ((d[j]!).val : Int) := by
  unfold toI
  rw [getElem!_pos _ j (by simpa using hj), getElem!_pos d j hj, Array.getElem_map]
theorem putRow_F {N : Nat} (w : World) (g : Nat) (d : Array (Fin (N + 1))) : putRow (encF N) w g 0 d = putRow (Value.int .i64) w g 0 (toI d) := by
  unfold putRow
  congr 1
  funext c
  unfold putCells
  have hs : (toI d).size = d.size := by simp [toI]
  congr 1
  funext k x
  rw [hs]
  by_cases h : 0 ≤ k ∧ k < 0 + d.size
  · rw [if_pos h, if_pos h, toI_get d (by omega)]
    rfl
  · rw [if_neg h, if_neg h]
theorem sortWorld_F {N : Nat} (w : World) (g n : Nat) (d : Array (Fin (N + 1))) (os : Array Obj) : sortWorld (encF N) w g 0 n d os = grow (putRow (Value.int .i64) (Sort.ahead w n) g 0 (toI d)) os := by
  unfold sortWorld
  rw [putRow_F]
/-- The comparison of two traces. -/
def cfT (ts : List (List Int × List Int)) (N : Nat) (x y : Fin (N + 1)) : Int := lexR (tIn ts x.val) (tIn ts y.val)
theorem swoT (ts : List (List Int × List Int)) (N : Nat) : SWO (ltOf (cfT ts N)) where
  irrefl x := by unfold ltOf cfT; rw [lexR_irr]; simp
  trans x y z h1 h2 := by
    unfold ltOf cfT at *
    simp only [decide_eq_true_eq] at *
    exact (lexR_trans _ _ _).2 h1 (by omega)
  ntrans x y z h1 h2 := by
    unfold ltOf cfT at *
    simp only [decide_eq_false_iff_not] at *
    have a1 := lexR_neg (tIn ts x.val) (tIn ts y.val)
    have a2 := lexR_neg (tIn ts y.val) (tIn ts z.val)
    have a3 := lexR_neg (tIn ts x.val) (tIn ts z.val)
    have := (lexR_trans (tIn ts z.val) (tIn ts y.val) (tIn ts x.val)).1 (by omega) (by omega)
    omega

set_option linter.unusedSimpArgs false in
set_option linter.unusedVariables false in
set_option maxHeartbeats 4000000 in
set_option maxRecDepth 100000 in
/-- The closure. -/
theorem pdic1 (L : Option Addr) (n c bl x y : Nat) (ts : List (List Int × List Int)) (w : World) (hT : Trs w L n ts) (hl : w.cell? ⟨bl, 0, none⟩ = some (.slice L n c)) (hx : x < n) (hy : y < n) :
    Calls Try.prog 86 #[.int .i64 x, .int .i64 y, .pointer (some ⟨bl, 0, none⟩)] w fun e w' => e = .returned (.int .i64 (lexR (tIn ts x) (tIn ts y))) ∧ ∃ q, w' = w.drewN q := by
  obtain ⟨b, off, A1, n1, c1, A2, n2, c2, eT, hgT, j1, j2, q1, q2, j3, j4⟩ := hT.at_ hx
  subst eT
  obtain ⟨_, _, B1, m1, d1, B2, m2, d2, eT, _, i1, i2, u1, u2, i3, i4⟩ := hT.at_ hy
  cases eT
  have HL := Lib.hid (fun q => wlex A1 B1 n1 c1 m1 d1 (tIn ts x) (tIn ts y) (w.drewN q) (j3.drewN q) (i3.drewN q))
  rw [lexi_lexR] at HL
  obtain ⟨z, hz⟩ : ∃ z, z = lexR (tIn ts x) (tIn ts y) := ⟨_, rfl⟩
  rw [← hz] at HL ⊢
  have hxI : (x : Int) < (n : Int) := by omega
  have hyI : (y : Int) < (n : Int) := by omega
  have hx0 : (0 : Int) ≤ (x : Int) := by omega
  have hy0 : (0 : Int) ≤ (y : Int) := by omega
  clear hz hT j3 j4 i3 i4 j2 i2 hgT
  go_enter Try.func86, Try.ntmps86
  go_wp2
  go_quiet ((go_at_call 63; exact Calls.quiet_of (HL.out _)))
  go_wp2
  go_ret
  exact ⟨rfl, _, rfl⟩
theorem entD1 : ∀ args w, (callFunc 86 args).run Try.prog w = .ok (.enter 86 args) w := enters_of Try.func86 (by kernel_rfl) rfl

/-- The numbers up to N in ascending order. -/
def allF (N : Nat) : Array (Fin (N + 1)) := Array.ofFn fun i => i
theorem allF_I (N : Nat) : (toI (allF N)).toList = (List.range (N + 1)).map fun k => ((k : Nat) : Int) := by
  unfold toI allF
  apply List.ext_getElem
  · simp
  · intro k h1 h2
    simp only [Array.toList_map, Array.toList_ofFn, List.getElem_map, List.getElem_ofFn, List.getElem_range]
theorem ext_all {α : Type} (a : Array α) (n : Nat) (h : a.size = n) : a.extract 0 n = a := by
  subst h
  exact Array.extract_size
/-- The sort. -/
theorem psortF (N : Nat) (L : Option Addr) (c bl g cO base : Nat) (ts : List (List Int × List Int)) (w : World)
    (hH : ∀ W, Below base w W → Trs W L (N + 1) ts ∧ W.cell? ⟨bl, 0, none⟩ = some (.slice L (N + 1) c))
    (ho : Owned w base (.slice (some ⟨g, 0, none⟩) (N + 1) cO) ((List.range (N + 1)).map fun k => ((k : Nat) : Int))) (hb : base ≤ w.heap.size) (hN : N ≤ 10000) :
    Calls Try.prog 85 #[.slice (some ⟨g, 0, none⟩) (N + 1) cO, .func (.func 86) #[] #[.pointer (some ⟨bl, 0, none⟩)]] w fun e w' =>
      e = .returned (.tuple #[]) ∧ Below base w w' ∧ ∃ d' : Array (Fin (N + 1)), PermIn 0 (N + 1) (allF N) d' ∧ SortedIn (ltOf (cfT ts N)) 0 (N + 1) d' ∧ Owned w' base (.slice (some ⟨g, 0, none⟩) (N + 1) cO) (toI d').toList := by
  rcases ho.2 with ⟨e, h0⟩ | ⟨g', cap, cur, e, hbg, hg, h1, h2, h3, h4⟩
  · cases e
  · injection e with e1 _ e3
    injection e1 with e1
    injection e1 with e1
    subst e1
    subst e3
    have hsz : (allF N).size = N + 1 := by simp [allF]
    have hlen : ((List.range (N + 1)).map fun k => ((k : Nat) : Int)).length = N + 1 := by simp
    have hH0 := holds_of_blockI hg (by rw [Nat.mul_one] at h4; exact h4)
    have hHF : Holds (encF N) w g 0 (allF N) := by
      intro j hj
      have h := hH0 j (by rw [List.size_toArray, hlen, ← hsz]; exact hj)
      rw [← allF_I] at h
      have e1 : (toI (allF N)).toList.toArray = toI (allF N) := Array.toArray_toList
      rw [e1, toI_get _ hj] at h
      exact h
    have hblk : g < w.heap.size := by
      rcases Nat.lt_or_ge g w.heap.size with hlt | hge
      · exact hlt
      · rw [Array.getElem?_eq_none hge] at hg; cases hg
    have hbel : ∀ m (d : Array (Fin (N + 1))) os, Below base w (sortWorld (encF N) w g 0 m d os) := fun m d os => by
      rw [sortWorld_F]
      exact (Below.refl _ _).grown (grownBy_sortedI _) hb (fun k hk => by cases hk; exact hbg)
    have hcmp : CmpLays1 Try.prog 86 #[.pointer (some ⟨bl, 0, none⟩)] (encF N) (cfT ts N) g 0 (N + 1) w := by
      intro m os dk hs x y
      obtain ⟨t1, t2⟩ := hH _ (hbel m dk os)
      refine (pdic1 L (N + 1) c bl x.val y.val ts _ t1 t2 x.isLt y.isLt).mono ?_
      rintro e w' ⟨rfl, q, rfl⟩
      exact ⟨rfl, q, #[], by rw [grow_empty]⟩
    have hcon := Any.slices_SortFunc Try.sortF (encF N) (fun _ => rfl) (cfT ts N) (swoT ts N) 86 #[.pointer (some ⟨bl, 0, none⟩)] g 0 cO (allF N) w entD1 (by rw [hsz]; exact hcmp) hHF hblk (by rw [hsz]; omega)
    rw [hsz] at hcon
    refine Calls.mono (hcon : Calls Try.prog 85 _ _ _) ?_
    rintro e w' ⟨rfl, d', n, os, hp, hs, rfl⟩
    have hsz' : d'.size = N + 1 := by rw [hp.1, hsz]
    refine ⟨rfl, hbel _ _ _, d', hp, hs, ?_⟩
    rw [sortWorld_F]
    have := ownsRow_sortedI (n := n) (os := os) (ts := (toI d').toList) (ss := (List.range (N + 1)).map fun k => ((k : Nat) : Int)) (by rw [hlen]; simp [toI, hsz']) hbg hg h1 h2 h3
    have e1 : (toI d').toList.toArray = toI d' := Array.toArray_toList
    rw [e1] at this
    have e2 : (toI d').toList.length = N + 1 := by simp [toI, hsz']
    unfold Owned
    rw [e2]
    rw [hlen] at this
    exact this
/-- What the sort gives is the order of a dictionary. -/
theorem dict_of {N : Nat} {ts : List (List Int × List Int)} {d' : Array (Fin (N + 1))} (hp : PermIn 0 (N + 1) (allF N) d') (hs : SortedIn (ltOf (cfT ts N)) 0 (N + 1) d') (hl : ts.length = N + 1) {ss : List Int} (sl : ss.length = N)
    (sh : ∀ p, p < N → ss.getD p 0 = cmn (tIn ts (opo (toI d').toList p)) (tIn ts (opo (toI d').toList (p + 1)))) : Dict ts (toI d').toList ss := by
  have hsz : d'.size = N + 1 := by rw [hp.1]; simp [allF]
  have hperm : (toI d').toList.Perm ((List.range (N + 1)).map fun k => ((k : Nat) : Int)) := by
    have h := hp.2.2
    have e1 : d'.extract 0 (N + 1) = d' := ext_all _ _ hsz
    have e2 : (allF N).extract 0 (N + 1) = allF N := ext_all _ _ (by simp [allF])
    rw [e1, e2] at h
    have h2 := h.map fun i : Fin (N + 1) => (i.val : Int)
    have e3 : (toI d').toList = d'.toList.map fun i => (i.val : Int) := by simp [toI]
    have e4 : (allF N).toList.map (fun i : Fin (N + 1) => (i.val : Int)) = (toI (allF N)).toList := by simp [toI]
    rw [e4, allF_I] at h2
    rw [e3]
    exact h2
  have hol : (toI d').toList.length = N + 1 := by simp [toI, hsz]
  have hval : ∀ p, p < N + 1 → (toI d').toList.getD p 0 = ((d'[p]!).val : Int) := fun p hp => by
    rw [← toI_get d' (by rw [hsz]; exact hp), List.getD_eq_getElem?_getD, Array.getElem?_toList, getElem!_pos _ p (by simpa [toI, hsz] using hp), Array.getElem?_eq_getElem (by simpa [toI, hsz] using hp)]
    rfl
  have hopo : ∀ p, p < N + 1 → opo (toI d').toList p = (d'[p]!).val := fun p hp => by unfold opo; rw [hval p hp]; omega
  have hnd : ((toI d').toList).Nodup := by
    rw [hperm.nodup_iff, List.nodup_iff_pairwise_ne, List.pairwise_map]
    exact List.pairwise_lt_range.imp fun {a b} h => by omega
  refine ⟨by rw [hol, hl], fun p h => ?_, fun i h => ?_, fun p q h1 h2 e => ?_, fun p q h1 h2 => ?_, by rw [sl, hl]; omega, fun p h => sh p (by omega)⟩
  · rw [hl] at h ⊢
    rw [hval p h, hopo p h]
    exact ⟨by omega, (d'[p]!).isLt⟩
  · rw [hl] at h
    have hm : (i : Int) ∈ (toI d').toList := hperm.mem_iff.2 (List.mem_map.2 ⟨i, by simpa using h, rfl⟩)
    obtain ⟨p, hp1, hp2⟩ := List.mem_iff_getElem.1 hm
    refine ⟨p, by rw [hl]; omega, ?_⟩
    unfold opo
    rw [List.getD_eq_getElem?_getD, List.getElem?_eq_getElem hp1, hp2]
    simp
  · rw [hl] at h1 h2
    have hv : (toI d').toList.getD p 0 = (toI d').toList.getD q 0 := by
      rw [hval p h1, hval q h2]
      rw [hopo p h1, hopo q h2] at e
      omega
    rw [List.getD_eq_getElem?_getD, List.getD_eq_getElem?_getD, List.getElem?_eq_getElem (by omega), List.getElem?_eq_getElem (by omega)] at hv
    rw [List.nodup_iff_pairwise_ne, List.pairwise_iff_getElem] at hnd
    rcases Nat.lt_trichotomy p q with h | h | h
    · exact absurd hv (hnd p q (by omega) (by omega) h)
    · exact h
    · exact absurd hv.symm (hnd q p (by omega) (by omega) h)
  · rw [hl] at h2
    have h3 := hs p q (Nat.zero_le _) h1 h2
    unfold ltOf cfT at h3
    simp only [decide_eq_false_iff_not] at h3
    rw [hopo p (by omega), hopo q h2]
    have := lexR_neg (tIn ts (d'[p]!).val) (tIn ts (d'[q]!).val)
    omega
end Go.Proofs.Ytkkmcgapbcikiaa
end

section
/- Adding a trace: what insert does, as a relation. No program. -/
namespace Go.Proofs.Ytkkmcgapbcikiaa

/-- The traces without the one that is a beginning of the new one. -/
def InsD (ts : List (List Int × List Int)) (best K : Nat) : List (List Int × List Int) := if 0 < K ∧ K = (tIn ts best).length then ts.eraseIdx best else ts
/-- What adding the trace xs / ys to ts gives: the error e, and ts' without an error. -/
def InsR (ts : List (List Int × List Int)) (xs ys : List Int) (i e : Int) (ts' : List (List Int × List Int)) : Prop :=
  ∃ best, Got ts xs best (knw ts xs ts.length) ∧
    ((¬ prpE xs ys i = 0 ∧ e = prpE xs ys i) ∨
     (prpE xs ys i = 0 ∧ agrN ts best (knw ts xs ts.length) ys < knw ts xs ts.length ∧ e = 13) ∨
     (prpE xs ys i = 0 ∧ agrN ts best (knw ts xs ts.length) ys = knw ts xs ts.length ∧ knw ts xs ts.length = xs.length ∧ e = 0 ∧ ts' = ts) ∨
     (prpE xs ys i = 0 ∧ agrN ts best (knw ts xs ts.length) ys = knw ts xs ts.length ∧ knw ts xs ts.length < xs.length ∧ 10000 ≤ (InsD ts best (knw ts xs ts.length)).length ∧ e = 11) ∨
     (prpE xs ys i = 0 ∧ agrN ts best (knw ts xs ts.length) ys = knw ts xs ts.length ∧ knw ts xs ts.length < xs.length ∧ (InsD ts best (knw ts xs ts.length)).length < 10000 ∧ e = 0 ∧
       ∃ p, p ≤ (InsD ts best (knw ts xs ts.length)).length ∧ (∀ j, j < p → shlex (tIn (InsD ts best (knw ts xs ts.length)) j) xs < 0) ∧ (∀ j, p ≤ j → j < (InsD ts best (knw ts xs ts.length)).length → 0 ≤ shlex (tIn (InsD ts best (knw ts xs ts.length)) j) xs) ∧
         ts' = (InsD ts best (knw ts xs ts.length)).take p ++ (xs, ys) :: (InsD ts best (knw ts xs ts.length)).drop p))

section
variable {ts ts' : List (List Int × List Int)} {xs ys : List Int} {i e : Int}

theorem InsD.len_le (ts : List (List Int × List Int)) (best K : Nat) : (InsD ts best K).length ≤ ts.length := by
  unfold InsD
  split
  · exact List.length_eraseIdx_le _ _
  · exact Nat.le_refl _
theorem InsD.all {q : List Int → List Int → Prop} (h : ∀ j, j < ts.length → q (tIn ts j) (tOut ts j)) (best K : Nat) : ∀ j, j < (InsD ts best K).length → q (tIn (InsD ts best K) j) (tOut (InsD ts best K) j) := by
  unfold InsD
  split
  · exact tr_del h _
  · exact h
theorem InsD.srt (h : Srt ts) (best K : Nat) : Srt (InsD ts best K) := by
  unfold InsD
  split
  · exact srt_del h _
  · exact h
theorem InsR.all {q : List Int → List Int → Prop} (hr : InsR ts xs ys i 0 ts') (h : ∀ j, j < ts.length → q (tIn ts j) (tOut ts j)) (hx : prpE xs ys i = 0 → q xs ys) : ∀ j, j < ts'.length → q (tIn ts' j) (tOut ts' j) := by
  obtain ⟨best, _, hr⟩ := hr
  rcases hr with ⟨h1, h2⟩ | ⟨_, _, h2⟩ | ⟨_, _, _, _, rfl⟩ | ⟨_, _, _, _, h2⟩ | ⟨h1, _, _, _, _, p, _, _, _, rfl⟩
  · exact absurd h2.symm h1
  · omega
  · exact h
  · omega
  · exact tr_ins (InsD.all h _ _) (hx h1) p
theorem InsR.prp (hr : InsR ts xs ys i 0 ts') : prpE xs ys i = 0 := by
  obtain ⟨best, _, hr⟩ := hr
  rcases hr with ⟨h1, h2⟩ | ⟨h1, _⟩ | ⟨h1, _⟩ | ⟨h1, _⟩ | ⟨h1, _⟩
  · exact h2.symm
  all_goals exact h1
theorem knw_lt_ne {j : Nat} (hj : j < ts.length) (h : knw ts xs ts.length < xs.length) : ¬ tIn ts j = xs := fun e => by
  have := knw_ge (ts := ts) (w := xs) hj
  rw [e, (cmn_full (xs := xs) (ys := xs) rfl).2 rfl] at this
  omega
theorem InsR.srt (hr : InsR ts xs ys i 0 ts') (hS : Srt ts) : Srt ts' := by
  obtain ⟨best, _, hr⟩ := hr
  rcases hr with ⟨h1, h2⟩ | ⟨_, _, h2⟩ | ⟨_, _, _, _, rfl⟩ | ⟨_, _, _, _, h2⟩ | ⟨h1, _, hlt, _, _, p, hp, hlo, hhi, rfl⟩
  · exact absurd h2.symm h1
  · omega
  · exact hS
  · omega
  · refine srt_ins (InsD.srt hS _ _) (fun j hj _ => hlo j hj) (fun j h1 h2 => ?_)
    refine shlex_gt' (by have := hhi j h1 h2; omega) ?_
    exact InsD.all (q := fun a _ => ¬ a = xs) (fun j hj => knw_lt_ne hj hlt) _ _ j h2
theorem InsR.len (hr : InsR ts xs ys i 0 ts') : ts'.length ≤ ts.length + 1 := by
  obtain ⟨best, _, hr⟩ := hr
  rcases hr with ⟨h1, h2⟩ | ⟨_, _, h2⟩ | ⟨_, _, _, _, rfl⟩ | ⟨_, _, _, _, h2⟩ | ⟨h1, _, hlt, _, _, p, hp, hlo, hhi, rfl⟩
  · exact absurd h2.symm h1
  · omega
  · omega
  · omega
  · have := InsD.len_le ts best (knw ts xs ts.length)
    rw [List.length_append, List.length_take, List.length_cons, List.length_drop]
    omega
theorem InsR.full (hr : InsR ts xs ys i 0 ts') (hF : Full ts) : Full ts' := hr.all (q := fun a b => b.length = a.length) hF fun h => (prp_zero h).2.1
theorem InsR.props (hr : InsR ts xs ys i 0 ts') (hF : Props i ts) : Props i ts' := hr.all (q := fun a b => prpE a b i = 0) hF fun h => h
end

/-- Adding traces one after another. -/
def AddsR (i : Int) : List (List Int × List Int) → List (List Int × List Int) → Int → List (List Int × List Int) → Prop
  | [], ts, e, ts' => e = 0 ∧ ts' = ts
  | u :: us, ts, e, ts' => ∃ e1 ts1, InsR ts u.1 u.2 i e1 ts1 ∧ ((¬ e1 = 0 ∧ e = e1) ∨ (e1 = 0 ∧ AddsR i us ts1 e ts'))
theorem AddsR.nil {i : Int} (ts : List (List Int × List Int)) : AddsR i [] ts 0 ts := ⟨rfl, rfl⟩
theorem AddsR.stop {i e : Int} {u : List Int × List Int} {us ts ts1 : List (List Int × List Int)} (h : InsR ts u.1 u.2 i e ts1) (he : ¬ e = 0) (ts' : List (List Int × List Int)) : AddsR i (u :: us) ts e ts' := ⟨e, ts1, h, .inl ⟨he, rfl⟩⟩
theorem AddsR.step {i e : Int} {u : List Int × List Int} {us ts ts1 ts' : List (List Int × List Int)} (h : InsR ts u.1 u.2 i 0 ts1) (hr : AddsR i us ts1 e ts') : AddsR i (u :: us) ts e ts' := ⟨0, ts1, h, .inr ⟨rfl, hr⟩⟩
theorem AddsR.all {i : Int} {q : List Int → List Int → Prop} : ∀ {us ts ts' : List (List Int × List Int)}, AddsR i us ts 0 ts' → (∀ j, j < ts.length → q (tIn ts j) (tOut ts j)) → (∀ u, u ∈ us → prpE u.1 u.2 i = 0 → q u.1 u.2) → ∀ j, j < ts'.length → q (tIn ts' j) (tOut ts' j)
  | [], ts, ts', h, h1, _ => by rw [h.2]; exact h1
  | u :: us, ts, ts', ⟨e1, ts1, hr, h⟩, h1, h2 => by
    rcases h with ⟨h3, h4⟩ | ⟨rfl, h⟩
    · exact absurd h4.symm h3
    · exact h.all (hr.all h1 (h2 u (by simp))) (fun v hv => h2 v (by simp [hv]))
theorem AddsR.srt {i : Int} : ∀ {us ts ts' : List (List Int × List Int)}, AddsR i us ts 0 ts' → Srt ts → Srt ts'
  | [], ts, ts', h, h1 => by rw [h.2]; exact h1
  | u :: us, ts, ts', ⟨e1, ts1, hr, h⟩, h1 => by
    rcases h with ⟨h3, h4⟩ | ⟨rfl, h⟩
    · exact absurd h4.symm h3
    · exact h.srt (hr.srt h1)
theorem AddsR.full {i : Int} {us ts ts' : List (List Int × List Int)} (h : AddsR i us ts 0 ts') (hF : Full ts) : Full ts' := h.all (q := fun a b => b.length = a.length) hF fun _ _ h => (prp_zero h).2.1
theorem AddsR.props {i : Int} {us ts ts' : List (List Int × List Int)} (h : AddsR i us ts 0 ts') (hF : Props i ts) : Props i ts' := h.all (q := fun a b => prpE a b i = 0) hF fun _ _ h => h
theorem srt_none : Srt [] := fun a b _ h => absurd h (by simp)
theorem full_none : Full [] := fun a h => absurd h (by simp)
end Go.Proofs.Ytkkmcgapbcikiaa
end

section
/- Copying elements of several cells within blocks. No program's function. -/
namespace Go.Proofs.Ytkkmcgapbcikiaa
open Go.RowKit

/-- Elements of k cells are copied as their cells are. -/
theorem run_copy_k {P : Program} (w : World) (dT sT ty elem : TypeId) (k b o dLen dCap : Nat) (a : Addr) (sLen sCap n : Nat) (cs : List Value)
    (hu : P.underlying dT = some (.slice elem)) (hs : (P.info? elem).map (·.size) = some k) (hn : n = Nat.min sLen dLen) (hl : cs.length = n * k)
    (hsrc : ∀ j v, cs[j]? = some v → w.cell? (a.add j) = some v) (hc : ∀ j, j < cs.length → (w.cell? ⟨b, o + j, none⟩).isSome = true) (hf : ∀ j, j < cs.length → w.frozen? ⟨b, o + j, none⟩ = false) (h1 : ∀ v ∈ cs, v.oneCell' = true) :
    (Builtin.copy_ #[dT, sT] ty #[.slice (some ⟨b, o, none⟩) dLen dCap, .slice (some a) sLen sCap]).run P w = .ok (goInt n) (w.setCells b o cs) := by
  have hld := run_loadCells_list (P := P) w a cs hsrc
  have hst := run_storeCells_cells (P := P) b o cs 0 w (by simpa using hc) (by simpa using hf) h1
  rw [hl] at hld
  cases hq : P.info? elem with
  | none => simp [hq] at hs
  | some i =>
    have hi : i.size = k := by simpa [hq] using hs
    simp [Builtin.copy_, run_underlying hu, Builtin.lenOf, Builtin.firstCells, sizeOf, typeInfo, hq, hi, ← hn, hld, hst]

/-- An array with some cells put over. -/
def ovr (cur : Array Value) (o : Nat) : List Value → Array Value
  | [] => cur
  | v :: r => ovr (cur.setIfInBounds o v) (o + 1) r
theorem ovr_size (cur : Array Value) (o : Nat) (vs : List Value) : (ovr cur o vs).size = cur.size := by
  induction vs generalizing cur o with
  | nil => rfl
  | cons v r ih => rw [ovr, ih, Array.size_setIfInBounds]
theorem ovr_out {cur : Array Value} {o j : Nat} {vs : List Value} (h : j < o ∨ o + vs.length ≤ j) : (ovr cur o vs)[j]? = cur[j]? := by
  induction vs generalizing cur o with
  | nil => rfl
  | cons v r ih =>
    rw [ovr, ih (by simp at h; omega)]
    rw [Array.getElem?_setIfInBounds_ne (by simp at h; omega)]
theorem ovr_in {cur : Array Value} {o j : Nat} {vs : List Value} (hb : o + vs.length ≤ cur.size) (hj : j < vs.length) : (ovr cur o vs)[o + j]? = vs[j]? := by
  induction vs generalizing cur o j with
  | nil => simp at hj
  | cons v r ih =>
    rw [ovr]
    cases j with
    | zero =>
      have := ovr_out (cur := cur.setIfInBounds o v) (o := o + 1) (j := o) (vs := r) (.inl (by omega))
      show (ovr (cur.setIfInBounds o v) (o + 1) r)[o]? = _
      rw [this, Array.getElem?_setIfInBounds_self_of_lt (by simp at hb; omega)]
      rfl
    | succ j =>
      have := ih (cur := cur.setIfInBounds o v) (o := o + 1) (j := j) (by rw [Array.size_setIfInBounds]; simp at hb; omega) (by simp at hj; omega)
      rw [show o + (j + 1) = o + 1 + j by omega, this]
      rfl
theorem Bx.ovr {w : World} {g : Nat} {cs : Array Value} {t : TypeId} (h : Bx w g cs t) (o : Nat) (vs : List Value) : Bx (w.setCells g o vs) g (ovr cs o vs) t := by
  induction vs generalizing w cs o with
  | nil => exact h
  | cons v r ih => exact ih (h.set o v) (o + 1)
/-- Other types' blocks stay. -/
theorem Bx.keptCells {w : World} {g : Nat} {cs : Array Value} {t t' : TypeId} (h : Bx w g cs t') (ht : t ≠ t') (o : Nat) (vs : List Value) : KeptT t w (w.setCells g o vs) := by
  induction vs generalizing w cs o with
  | nil => exact KeptT.refl _ _
  | cons v r ih => exact (KeptT.off h ht v).trans (ih (h.set o v) (o + 1))
end Go.Proofs.Ytkkmcgapbcikiaa
end

section
/- A block of traces that a call owns: one trace more, one less. -/
namespace Go.Proofs.Ytkkmcgapbcikiaa
open Go.RowKit

/-- The block g, with N places for traces, holds the traces ts, with lists of its own. -/
structure TrO (w : World) (base g N : Nat) (cur : Array Value) (ts : List (List Int × List Int)) : Prop where
  bx : Bx w g cur 38
  ge : base ≤ g
  sz : cur.size = N * 2
  le : ts.length ≤ N
  cap : N ≤ 1000000
  one : ∀ v, v ∈ cur.toList → v.oneCell' = true
  hd : ∀ j, j < ts.length → ∃ A1 c1 A2 c2, cur[j * 2]? = some (.slice A1 (tIn ts j).length c1) ∧ cur[j * 2 + 1]? = some (.slice A2 (tOut ts j).length c2) ∧ Owned w base (.slice A1 (tIn ts j).length c1) (tIn ts j) ∧ Owned w base (.slice A2 (tOut ts j).length c2) (tOut ts j)
  sm : ∀ j, j < ts.length → (tIn ts j).length ≤ 17592186044416 ∧ (tOut ts j).length ≤ 17592186044416

theorem Owned.capT {w : World} {base n c : Nat} {A : Option Addr} {xs : List Int} (h : Owned w base (.slice A n c) xs) : n ≤ c := by
  rcases h.2 with ⟨e, h1⟩ | ⟨g, cap, cur, e, _, _, h2, _⟩
  · cases e; omega
  · cases e; exact h2
theorem TrO.trs {w : World} {base g N : Nat} {cur : Array Value} {ts : List (List Int × List Int)} (h : TrO w base g N cur ts) : Trs w (some ⟨g, 0, none⟩) ts.length ts := by
  refine ⟨rfl, by have := h.le; have := h.cap; omega, fun _ => ⟨g, 0, rfl, h.bx.lt, fun j hj => ?_⟩⟩
  obtain ⟨A1, c1, A2, c2, e1, e2, o1, o2⟩ := h.hd j hj
  refine ⟨A1, _, c1, A2, _, c2, ?_, ?_, o1.capT, o2.capT, o1.ints (h.sm j hj).1, o2.ints (h.sm j hj).2⟩
  · rw [Nat.zero_add, h.bx.cell]; exact e1
  · rw [Nat.zero_add, h.bx.cell]; exact e2
theorem TrO.kept {w w' : World} {base g N : Nat} {cur : Array Value} {ts : List (List Int × List Int)} (h : TrO w base g N cur ts) (hb : Bx w' g cur 38) (hk : KeptT 3 w w') : TrO w' base g N cur ts :=
  ⟨hb, h.ge, h.sz, h.le, h.cap, h.one, fun j hj => by
    obtain ⟨A1, c1, A2, c2, e1, e2, o1, o2⟩ := h.hd j hj
    exact ⟨A1, c1, A2, c2, e1, e2, o1.keptT hk, o2.keptT hk⟩, h.sm⟩
theorem TrO.below {w w' : World} {base g N : Nat} {cur : Array Value} {ts : List (List Int × List Int)} (h : TrO w base g N cur ts) (hb : Below w.heap.size w w') : TrO w' base g N cur ts :=
  h.kept (h.bx.on hb) (KeptT.of_below hb)
theorem TrO.start {w : World} {base g N : Nat} {cur : Array Value} (hb : Bx w g cur 38) (hg : base ≤ g) (hs : cur.size = N * 2) (hN : N ≤ 1000000) (h1 : ∀ v, v ∈ cur.toList → v.oneCell' = true) : TrO w base g N cur [] :=
  ⟨hb, hg, hs, Nat.zero_le _, hN, h1, fun j hj => absurd hj (by simp), fun j hj => absurd hj (by simp)⟩

theorem tIn_get {ts : List (List Int × List Int)} {j : Nat} {t : List Int × List Int} (h : ts[j]? = some t) : tIn ts j = t.1 ∧ tOut ts j = t.2 := by
  unfold tIn tOut
  rw [List.getD_eq_getElem?_getD, h]
  exact ⟨rfl, rfl⟩
theorem ins_lt {ts : List (List Int × List Int)} {t : List Int × List Int} {p j : Nat} (hj : j < p) (hp : p ≤ ts.length) : (ts.take p ++ t :: ts.drop p)[j]? = ts[j]? := by
  rw [List.getElem?_append_left (by rw [List.length_take]; omega), List.getElem?_take_of_lt hj]
theorem ins_at {ts : List (List Int × List Int)} {t : List Int × List Int} {p : Nat} (hp : p ≤ ts.length) : (ts.take p ++ t :: ts.drop p)[p]? = some t := by
  rw [List.getElem?_append_right (by rw [List.length_take]; omega), List.length_take, Nat.min_eq_left hp, Nat.sub_self]
  rfl
theorem ins_gt {ts : List (List Int × List Int)} {t : List Int × List Int} {p j : Nat} (hj : p ≤ j) (hp : p ≤ ts.length) : (ts.take p ++ t :: ts.drop p)[j + 1]? = ts[j]? := by
  rw [List.getElem?_append_right (by rw [List.length_take]; omega), List.length_take, Nat.min_eq_left hp, show j + 1 - p = (j - p) + 1 by omega]
  rw [List.getElem?_cons_succ, List.getElem?_drop]
  congr 1
  omega
theorem ins_len {ts : List (List Int × List Int)} {t : List Int × List Int} {p : Nat} (hp : p ≤ ts.length) : (ts.take p ++ t :: ts.drop p).length = ts.length + 1 := by
  rw [List.length_append, List.length_take, List.length_cons, List.length_drop]
  omega
theorem tIn_congr {ts us : List (List Int × List Int)} {j k : Nat} (h : ts[j]? = us[k]?) : tIn ts j = tIn us k ∧ tOut ts j = tOut us k := by
  unfold tIn tOut
  rw [List.getD_eq_getElem?_getD, List.getD_eq_getElem?_getD, h]
  exact ⟨rfl, rfl⟩

/-- One trace more. -/
theorem TrO.ins {w W : World} {base g N : Nat} {cur cur' : Array Value} {ts : List (List Int × List Int)} (h : TrO w base g N cur ts) {p : Nat} (hp : p ≤ ts.length) (hroom : ts.length + 1 ≤ N) {xs ys : List Int} {B1 B2 : Option Addr} {d1 d2 : Nat}
    (hb : Bx W g cur' 38) (hs : cur'.size = cur.size) (hk : KeptT 3 w W) (h1 : ∀ v, v ∈ cur'.toList → v.oneCell' = true)
    (ox : Owned w base (.slice B1 xs.length d1) xs) (oy : Owned w base (.slice B2 ys.length d2) ys) (hx : xs.length ≤ 17592186044416) (hy : ys.length ≤ 17592186044416)
    (c1 : ∀ k, k < p * 2 → cur'[k]? = cur[k]?) (c2 : cur'[p * 2]? = some (.slice B1 xs.length d1)) (c3 : cur'[p * 2 + 1]? = some (.slice B2 ys.length d2)) (c4 : ∀ k, p * 2 ≤ k → k < ts.length * 2 → cur'[k + 2]? = cur[k]?) :
    TrO W base g N cur' (ts.take p ++ (xs, ys) :: ts.drop p) := by
  have hl := ins_len (t := (xs, ys)) hp
  refine ⟨hb, h.ge, by rw [hs]; exact h.sz, by rw [hl]; exact hroom, h.cap, h1, fun j hj => ?_, fun j hj => ?_⟩
  · rw [hl] at hj
    rcases Nat.lt_trichotomy j p with e | e | e
    · obtain ⟨A1, k1, A2, k2, e1, e2, o1, o2⟩ := h.hd j (by omega)
      obtain ⟨t1, t2⟩ := tIn_congr (ins_lt (ts := ts) (t := (xs, ys)) e hp)
      rw [t1, t2]
      exact ⟨A1, k1, A2, k2, by rw [c1 _ (by omega)]; exact e1, by rw [c1 _ (by omega)]; exact e2, o1.keptT hk, o2.keptT hk⟩
    · obtain ⟨t1, t2⟩ := tIn_get (ins_at (ts := ts) (t := (xs, ys)) hp)
      subst e
      rw [t1, t2]
      exact ⟨B1, d1, B2, d2, c2, c3, ox.keptT hk, oy.keptT hk⟩
    · obtain ⟨j, rfl⟩ : ∃ q, j = q + 1 := ⟨j - 1, by omega⟩
      obtain ⟨A1, k1, A2, k2, e1, e2, o1, o2⟩ := h.hd j (by omega)
      obtain ⟨t1, t2⟩ := tIn_congr (ins_gt (ts := ts) (t := (xs, ys)) (p := p) (j := j) (by omega) hp)
      rw [t1, t2]
      refine ⟨A1, k1, A2, k2, ?_, ?_, o1.keptT hk, o2.keptT hk⟩
      · rw [show (j + 1) * 2 = j * 2 + 2 by omega, c4 _ (by omega) (by omega)]; exact e1
      · rw [show (j + 1) * 2 + 1 = (j * 2 + 1) + 2 by omega, c4 _ (by omega) (by omega)]; exact e2
  · rw [hl] at hj
    rcases Nat.lt_trichotomy j p with e | e | e
    · obtain ⟨t1, t2⟩ := tIn_congr (ins_lt (ts := ts) (t := (xs, ys)) e hp)
      rw [t1, t2]; exact h.sm j (by omega)
    · obtain ⟨t1, t2⟩ := tIn_get (ins_at (ts := ts) (t := (xs, ys)) hp)
      subst e
      rw [t1, t2]; exact ⟨hx, hy⟩
    · obtain ⟨j, rfl⟩ : ∃ q, j = q + 1 := ⟨j - 1, by omega⟩
      obtain ⟨t1, t2⟩ := tIn_congr (ins_gt (ts := ts) (t := (xs, ys)) (p := p) (j := j) (by omega) hp)
      rw [t1, t2]; exact h.sm j (by omega)
/-- One trace less. -/
theorem TrO.del {w W : World} {base g N : Nat} {cur cur' : Array Value} {ts : List (List Int × List Int)} (h : TrO w base g N cur ts) {p : Nat} (hp : p < ts.length)
    (hb : Bx W g cur' 38) (hs : cur'.size = cur.size) (hk : KeptT 3 w W) (h1 : ∀ v, v ∈ cur'.toList → v.oneCell' = true)
    (c1 : ∀ k, k < p * 2 → cur'[k]? = cur[k]?) (c4 : ∀ k, (p + 1) * 2 ≤ k → k < ts.length * 2 → cur'[k - 2]? = cur[k]?) :
    TrO W base g N cur' (ts.eraseIdx p) := by
  have hl : (ts.eraseIdx p).length = ts.length - 1 := by rw [List.length_eraseIdx, if_pos hp]
  have hle := h.le
  refine ⟨hb, h.ge, by rw [hs]; exact h.sz, by rw [hl]; omega, h.cap, h1, fun j hj => ?_, fun j hj => ?_⟩
  · rw [hl] at hj
    rcases Nat.lt_or_ge j p with e | e
    · obtain ⟨A1, k1, A2, k2, e1, e2, o1, o2⟩ := h.hd j (by omega)
      obtain ⟨t1, t2⟩ := tIn_congr (ts := ts.eraseIdx p) (us := ts) (j := j) (k := j) (by rw [List.getElem?_eraseIdx, if_pos e])
      rw [t1, t2]
      exact ⟨A1, k1, A2, k2, by rw [c1 _ (by omega)]; exact e1, by rw [c1 _ (by omega)]; exact e2, o1.keptT hk, o2.keptT hk⟩
    · obtain ⟨A1, k1, A2, k2, e1, e2, o1, o2⟩ := h.hd (j + 1) (by omega)
      obtain ⟨t1, t2⟩ := tIn_congr (ts := ts.eraseIdx p) (us := ts) (j := j) (k := j + 1) (by rw [List.getElem?_eraseIdx, if_neg (by omega)])
      rw [t1, t2]
      refine ⟨A1, k1, A2, k2, ?_, ?_, o1.keptT hk, o2.keptT hk⟩
      · have := c4 ((j + 1) * 2) (by omega) (by omega)
        rw [show (j + 1) * 2 - 2 = j * 2 by omega] at this
        rw [this]; exact e1
      · have := c4 ((j + 1) * 2 + 1) (by omega) (by omega)
        rw [show (j + 1) * 2 + 1 - 2 = j * 2 + 1 by omega] at this
        rw [this]; exact e2
  · rw [hl] at hj
    rcases Nat.lt_or_ge j p with e | e
    · obtain ⟨t1, t2⟩ := tIn_congr (ts := ts.eraseIdx p) (us := ts) (j := j) (k := j) (by rw [List.getElem?_eraseIdx, if_pos e])
      rw [t1, t2]; exact h.sm j (by omega)
    · obtain ⟨t1, t2⟩ := tIn_congr (ts := ts.eraseIdx p) (us := ts) (j := j) (k := j + 1) (by rw [List.getElem?_eraseIdx, if_neg (by omega)])
      rw [t1, t2]; exact h.sm (j + 1) (by omega)

theorem ovr_mem {cur : Array Value} {o : Nat} {vs : List Value} : ∀ v, v ∈ (ovr cur o vs).toList → v ∈ cur.toList ∨ v ∈ vs := by
  induction vs generalizing cur o with
  | nil => exact fun v h => .inl h
  | cons u r ih =>
    intro v h
    rw [ovr] at h
    rcases ih v h with h | h
    · rw [Array.toList_setIfInBounds] at h
      rcases List.mem_or_eq_of_mem_set h with h | h
      · exact .inl h
      · exact .inr (by rw [h]; exact List.mem_cons_self)
    · exact .inr (List.mem_cons_of_mem _ h)
theorem slc_mem {cur : Array Value} {a b : Nat} {v : Value} (h : v ∈ (cur.toList.take a).drop b) : v ∈ cur.toList := List.mem_of_mem_take (List.mem_of_mem_drop h)
theorem slc_get {cur : Array Value} {a b k : Nat} (h : b + k < a) : ((cur.toList.take a).drop b)[k]? = cur[b + k]? := by
  rw [List.getElem?_drop, List.getElem?_take_of_lt h, Array.getElem?_toList]
theorem slc_len {cur : Array Value} {a b : Nat} (h : a ≤ cur.size) : ((cur.toList.take a).drop b).length = a - b := by
  rw [List.length_drop, List.length_take, Array.length_toList, Nat.min_eq_left h]

/-- After slices.Insert in the middle. -/
theorem TrO.shifted {w w1 : World} {base g N : Nat} {cur : Array Value} {ts : List (List Int × List Int)} (h : TrO w base g N cur ts) {p : Nat} (hp : p ≤ ts.length) (hroom : ts.length + 1 ≤ N) {xs ys : List Int} {B1 B2 : Option Addr} {d1 d2 : Nat}
    (ox : Owned w base (.slice B1 xs.length d1) xs) (oy : Owned w base (.slice B2 ys.length d2) ys) (hx : xs.length ≤ 17592186044416) (hy : ys.length ≤ 17592186044416)
    (hw : w1 = (w.drew.setCells g ((p + 1) * 2) ((cur.toList.take (ts.length * 2)).drop (p * 2))).setCells g (p * 2) [.slice B1 xs.length d1, .slice B2 ys.length d2]) :
    ∃ cur', TrO w1 base g N cur' (ts.take p ++ (xs, ys) :: ts.drop p) := by
  have hsz := h.sz
  have hle := h.le
  have hl := slc_len (cur := cur) (a := ts.length * 2) (b := p * 2) (by omega)
  have hb1 := (h.bx.drewN 1).ovr ((p + 1) * 2) ((cur.toList.take (ts.length * 2)).drop (p * 2))
  have hb2 := hb1.ovr (p * 2) [.slice B1 xs.length d1, .slice B2 ys.length d2]
  have hk : KeptT 3 w w1 := by
    rw [hw]
    exact ((KeptT.drewN _ w 1).trans ((h.bx.drewN 1).keptCells (by decide) _ _)).trans (hb1.keptCells (by decide) _ _)
  have s1 : (ovr cur ((p + 1) * 2) ((cur.toList.take (ts.length * 2)).drop (p * 2))).size = cur.size := ovr_size _ _ _
  refine ⟨_, h.ins hp hroom (by rw [hw]; exact hb2) (by rw [ovr_size, s1]) hk ?_ ox oy hx hy (fun k hk => ?_) ?_ ?_ (fun k hk1 hk2 => ?_)⟩
  · intro v hv
    rcases ovr_mem v hv with hv | hv
    · rcases ovr_mem v hv with hv | hv
      · exact h.one v hv
      · exact h.one v (slc_mem hv)
    · simp at hv
      rcases hv with rfl | rfl <;> rfl
  · rw [ovr_out (.inl hk), ovr_out (.inl (by omega))]
  · have := ovr_in (cur := ovr cur ((p + 1) * 2) ((cur.toList.take (ts.length * 2)).drop (p * 2))) (o := p * 2) (j := 0) (vs := [.slice B1 xs.length d1, .slice B2 ys.length d2]) (by rw [s1, hsz]; simp; omega) (by simp)
    simpa using this
  · have := ovr_in (cur := ovr cur ((p + 1) * 2) ((cur.toList.take (ts.length * 2)).drop (p * 2))) (o := p * 2) (j := 1) (vs := [.slice B1 xs.length d1, .slice B2 ys.length d2]) (by rw [s1, hsz]; simp; omega) (by simp)
    simpa using this
  · rw [ovr_out (.inr (by simp; omega))]
    have := ovr_in (cur := cur) (o := (p + 1) * 2) (j := k - p * 2) (vs := (cur.toList.take (ts.length * 2)).drop (p * 2)) (by rw [hl, hsz]; omega) (by rw [hl]; omega)
    rw [show (p + 1) * 2 + (k - p * 2) = k + 2 by omega] at this
    rw [this, slc_get (by omega)]
    congr 1
    omega
/-- After slices.Insert, or append, at the end. -/
theorem TrO.pushed {w w1 : World} {base g N : Nat} {cur : Array Value} {ts : List (List Int × List Int)} (h : TrO w base g N cur ts) (hroom : ts.length + 1 ≤ N) {xs ys : List Int} {B1 B2 : Option Addr} {d1 d2 : Nat}
    (ox : Owned w base (.slice B1 xs.length d1) xs) (oy : Owned w base (.slice B2 ys.length d2) ys) (hx : xs.length ≤ 17592186044416) (hy : ys.length ≤ 17592186044416)
    (hw : w1 = w.setRow g (cur.toList.take (ts.length * 2) ++ Value.slice B1 xs.length d1 :: Value.slice B2 ys.length d2 :: cur.toList.drop (ts.length * 2 + 2)).toArray) :
    ∃ cur', TrO w1 base g N cur' (ts ++ [(xs, ys)]) := by
  have hsz := h.sz
  have hle := h.le
  have hk : KeptT 3 w w1 := by rw [hw]; exact h.bx.keptRow (by decide) _
  have hcl : cur.toList.length = N * 2 := by rw [Array.length_toList]; exact hsz
  have hT : (cur.toList.take (ts.length * 2)).length = ts.length * 2 := by rw [List.length_take, hcl]; omega
  have := h.ins (W := w1) (cur' := (cur.toList.take (ts.length * 2) ++ Value.slice B1 xs.length d1 :: Value.slice B2 ys.length d2 :: cur.toList.drop (ts.length * 2 + 2)).toArray) (p := ts.length) (Nat.le_refl _) hroom (by rw [hw]; exact h.bx.row _)
    (by simp [hsz]; omega) hk
    (by
      intro v hv
      rw [List.toList_toArray] at hv
      rcases List.mem_append.1 hv with hv | hv
      · exact h.one v (List.mem_of_mem_take hv)
      · rcases List.mem_cons.1 hv with rfl | hv
        · rfl
        · rcases List.mem_cons.1 hv with rfl | hv
          · rfl
          · exact h.one v (List.mem_of_mem_drop hv)) ox oy hx hy
    (fun k hk => by rw [List.getElem?_toArray, List.getElem?_append_left (by omega), List.getElem?_take_of_lt hk, Array.getElem?_toList])
    (by rw [List.getElem?_toArray, List.getElem?_append_right (by omega), hT, Nat.sub_self]; rfl)
    (by rw [List.getElem?_toArray, List.getElem?_append_right (by omega), hT, show ts.length * 2 + 1 - ts.length * 2 = 1 by omega]; rfl)
    (fun k h1 h2 => by omega)
  rw [List.take_length, List.drop_length] at this
  exact ⟨_, this⟩
/-- After slices.Delete. -/
theorem TrO.deleted {w w1 : World} {base g N : Nat} {cur : Array Value} {ts : List (List Int × List Int)} (h : TrO w base g N cur ts) {p : Nat} (hp : p < ts.length)
    (hw : w1 = (w.drew.setCells g (0 + p * 2) ((cur.toList.take (ts.length * 2)).drop ((p + 1) * 2))).setCells g ((ts.length - 1) * 2) [.slice none 0 0, .slice none 0 0]) :
    ∃ cur', TrO w1 base g N cur' (ts.eraseIdx p) := by
  have hsz := h.sz
  have hle := h.le
  have hl := slc_len (cur := cur) (a := ts.length * 2) (b := (p + 1) * 2) (by omega)
  have hb1 := (h.bx.drewN 1).ovr (0 + p * 2) ((cur.toList.take (ts.length * 2)).drop ((p + 1) * 2))
  have hb2 := hb1.ovr ((ts.length - 1) * 2) [.slice none 0 0, .slice none 0 0]
  have hk : KeptT 3 w w1 := by
    rw [hw]
    exact ((KeptT.drewN _ w 1).trans ((h.bx.drewN 1).keptCells (by decide) _ _)).trans (hb1.keptCells (by decide) _ _)
  have s1 : (ovr cur (0 + p * 2) ((cur.toList.take (ts.length * 2)).drop ((p + 1) * 2))).size = cur.size := ovr_size _ _ _
  refine ⟨_, h.del hp (by rw [hw]; exact hb2) (by rw [ovr_size, s1]) hk ?_ (fun k hk => ?_) (fun k hk1 hk2 => ?_)⟩
  · intro v hv
    rcases ovr_mem v hv with hv | hv
    · rcases ovr_mem v hv with hv | hv
      · exact h.one v hv
      · exact h.one v (slc_mem hv)
    · simp at hv
      rw [hv]; rfl
  · rw [ovr_out (.inl (by omega)), ovr_out (.inl (by omega))]
  · rw [ovr_out (.inl (by omega))]
    have := ovr_in (cur := cur) (o := 0 + p * 2) (j := k - (p + 1) * 2) (vs := (cur.toList.take (ts.length * 2)).drop ((p + 1) * 2)) (by rw [hl, hsz]; omega) (by rw [hl]; omega)
    rw [show 0 + p * 2 + (k - (p + 1) * 2) = k - 2 by omega] at this
    rw [this, slc_get (by omega)]
    congr 1
    omega
end Go.Proofs.Ytkkmcgapbcikiaa
end

section
/- A runner: step and run. -/
namespace Go.Proofs.Ytkkmcgapbcikiaa
open Go.RowKit

/-- The block of a runner. -/
def Rnr (w : World) (g : Nat) (i st : Int) (A : Option Addr) (n c : Nat) (B : Option Addr) (m d : Nat) (s : Nat) : Prop :=
  w.heap[g]? = some (.cells #[.int .i64 i, .int .i64 st, .slice A n c, .slice B m d, .int .i64 s] 106 (0, 0))

theorem Rnr.cells {w : World} {g : Nat} {i st : Int} {A B : Option Addr} {n c m d s : Nat} (h : Rnr w g i st A n c B m d s) :
    w.cell? ⟨g, 2, none⟩ = some (.slice A n c) ∧ w.cell? ⟨g, 3, none⟩ = some (.slice B m d) ∧ w.cell? ⟨g, 4, none⟩ = some (.int .i64 s) ∧ w.frozen? ⟨g, 4, none⟩ = false :=
  ⟨cell_of_row w g 2 _ _ (0, 0) h, cell_of_row w g 3 _ _ (0, 0) h, cell_of_row w g 4 _ _ (0, 0) h, frozen_of_row w g 4 _ _ h⟩

set_option maxHeartbeats 2000000 in
set_option maxRecDepth 100000 in
theorem pstep {W w : World} {g : Nat} {i st n : Nat} {A B : Option Addr} {c d s a : Nat} {nx ot : List (List Int)} (hM : Mok i st n nx ot) (hx : Lists W A n nx) (ho : Lists W B n ot) (hb : Below W.heap.size W w)
    (hR : Rnr w g i st A n c B n d s) (hs : s < n) (ha : a < i) :
    Calls Try.prog 91 #[.pointer (some ⟨g, 0, none⟩), .int .i64 a] w fun e w' => e = .returned (.int .i64 (oN ot s a)) ∧ ∃ q, w' = (w.setCell ⟨g, 4, none⟩ (.int .i64 (nN nx s a))).drewN q := by
  obtain ⟨c2, c3, c4, f4⟩ := hR.cells
  obtain ⟨g1, o1, A1, n1, c1, rfl, hg1, hc1, hr1⟩ := (hx.below hb).at_ hs
  obtain ⟨g2, o2, A2, n2, c2', rfl, hg2, hc2, hr2⟩ := (ho.below hb).at_ hs
  have hi1 := (hM.row s hs).1
  have hi2 := (hM.row s hs).2.1
  have hl1 := hr1.1
  have hl2 := hr2.1
  obtain rfl : n1 = i := by omega
  obtain rfl : n2 = n1 := by omega
  obtain ⟨b1, p1, rfl, _, hy1⟩ := hr1.at_ ha
  obtain ⟨b2, p2, rfl, _, hy2⟩ := hr2.at_ ha
  rw [hM.nN_eq hs ha] at hy1
  change w.cell? _ = some (.int .i64 (oN ot s a)) at hy2
  have hn := hr1.2.1
  have hN := hx.2.1
  clear hl1 hl2 hi1 hi2
  go_enter Try.func91, Try.ntmps91
  go_wp2
  go_quiet (fail)
  go_wp2
  go_region
  all_goals
    go_wp2
    go_ret
    exact ⟨rfl, by first | exact ⟨_, rfl⟩ | exact ⟨_, World.drewN_drewN _ _ _⟩⟩
end Go.Proofs.Ytkkmcgapbcikiaa
end

section
/- run, From, Run and Step of a machine. -/
namespace Go.Proofs.Ytkkmcgapbcikiaa
open Go.RowKit

theorem Rnr.kept {w w' : World} {g : Nat} {i st : Int} {A B : Option Addr} {n c m d s : Nat} (h : Rnr w g i st A n c B m d s) {b : Nat} (hb : Below b w w') (hg : g < b) : Rnr w' g i st A n c B m d s := (hb.block g hg).trans h

theorem Rnr.set {w : World} {g : Nat} {i st : Int} {A B : Option Addr} {n c m d s : Nat} (h : Rnr w g i st A n c B m d s) (t q : Nat) : Rnr ((w.setCell ⟨g, 4, none⟩ (.int .i64 t)).drewN q) g i st A n c B m d t := by
  have := heap_setCell_same w g 4 _ _ (Value.int .i64 t) h
  exact this
set_option maxHeartbeats 2000000 in
set_option maxRecDepth 100000 in
theorem prun {W w : World} {g : Nat} {i st n : Nat} {A B D : Option Addr} {c d s k e : Nat} {nx ot : List (List Int)} {xs : List Int} (hM : Mok i st n nx ot) (hx : Lists W A n nx) (ho : Lists W B n ot) (hb : Below W.heap.size W w)
    (hR : Rnr w g i st A n c B n d s) (hg : W.heap.size ≤ g) (hs : s < n) (hD : Ints W D k xs) (hS : ∀ x, x ∈ xs → 0 ≤ x ∧ x < i) :
    Calls Try.prog 78 #[.pointer (some ⟨g, 0, none⟩), .slice D k e] w fun e w' => ∃ A' c', e = .returned (.slice A' k c') ∧ Owned w' W.heap.size (.slice A' k c') (runO nx ot s xs) ∧ Below W.heap.size W w' ∧ Rnr w' g i st A n c B n d (runS nx s xs) := by
  have L := Lib.hid hD.1
  have hk := hD.2.1
  have HS := Lib.hid hS
  have HR := Lib.hid hR
  clear hS hR
  have hrn : (106 : TypeId) ≠ 3 := by decide
  go_enter Try.func78, Try.ntmps78
  go_wp2
  go_loopw [5, 10] (fun v j wr => ∃ (q : Nat) (A' : Option Addr) (c' : Nat), q ≤ k ∧ j = .int .i64 q ∧ v = .slice A' q c' ∧ Owned wr W.heap.size (.slice A' q c') (runO nx ot s (xs.take q)) ∧ Below W.heap.size W wr ∧ Rnr wr g i st A n c B n d (runS nx s (xs.take q))) (fun _ j _ => k - (intOf j).toNat)
  case atStart => exact ⟨0, none, 0, Nat.zero_le _, rfl, rfl, Owned.nil _ _, hb, HR.out⟩
  case round =>
    obtain ⟨q, A', c', hq, rfl, rfl, hown, hbr, hR⟩ := hrel
    by_cases hlt : q < k
    · obtain ⟨b1, o1, rfl, _, hc1⟩ := (hD.below hbr).at_ hlt
      have hxm := HS.out (xs.getD q 0) (by rw [List.getD_eq_getElem?_getD, List.getElem?_eq_getElem (by rw [L.out]; exact hlt)]; exact List.getElem_mem _)
      have hO := Lib.hid (runO_next (nx := nx) (ot := ot) (s := s) (j := q) (xs := xs) (by rw [L.out]; exact hlt))
      have hT := Lib.hid (runS_next (nx := nx) (s := s) (j := q) (xs := xs) (by rw [L.out]; exact hlt))
      rw [show xs[q]?.getD 0 = xs.getD q 0 by simp] at hO hT
      generalize xs.getD q 0 = x at hc1 hxm hO hT
      obtain ⟨a, rfl⟩ : ∃ a : Nat, x = a := ⟨x.toNat, by omega⟩
      have ha : a < i := by omega
      rw [Int.toNat_natCast] at hO hT
      have hlast := hM.runS_lt (xs.take q) s hs (fun x hx => HS.out x (List.mem_of_mem_take hx))
      generalize hss : runS nx s (xs.take q) = s' at hR hO hT hlast
      have hlen : (runO nx ot s (xs.take q)).length = q := by rw [runO_len, List.length_take, L.out]; omega
      generalize runO nx ot s (xs.take q) = os at hown hO hlen
      have HL := Lib.hid hlen
      have HSS := Lib.hid hss
      have HRR := Lib.hid hR
      clear hss hlen
      have hset : ∀ q', Rnr ((wr.setCell ⟨g, 4, none⟩ (.int .i64 (nN nx s' a))).drewN q') g i st A n c B n d (nN nx s' a) := fun q' => hR.set (nN nx s' a) q'
      have HSET := Lib.hid hset
      have hoff : ∀ q', Owned ((wr.setCell ⟨g, 4, none⟩ (.int .i64 (nN nx s' a))).drewN q') W.heap.size (.slice A' q c') os := fun q' => hown.off hR hrn 4 _ q'
      have HOFF := Lib.hid hoff
      have hbs : ∀ q', Below W.heap.size W ((wr.setCell ⟨g, 4, none⟩ (.int .i64 (nN nx s' a))).drewN q') := fun q' => below_drewN (hbr.setCell (p := ⟨g, 4, none⟩) hg _) q'
      have HBS := Lib.hid hbs
      clear hset hoff hbs hR
      go_wp2_with fail
      refine (pstep hM hx ho hbr HRR.out hlast ha).mono ?_
      rintro e w1 ⟨rfl, q1, rfl⟩
      have h1 := HOFF.out q1
      have h2 := HBS.out q1
      have h3 := HSET.out q1
      clear HOFF HBS HSET
      generalize (wr.setCell ⟨g, 4, none⟩ (.int .i64 (nN nx s' a))).drewN q1 = w1 at h1 h2 h3 ⊢
      obtain ⟨A2, c2, w2, hr, ho2, hb2, hk2⟩ := run_append_one h1 (oN ot s' a) h2.size (by rw [HL.out]; omega)
      rw [← hO.out] at ho2
      rw [HL.out] at hr ho2
      have h4 := Lib.hid (hk2 g _ _ h3 hrn)
      clear hk2
      go_wp2_with (at_builtin; refine Lib.wpList_append_run _ rfl _ _ _ _ rfl _ _ rfl rfl _ _ hr ?_)
      go_roundw
      case rel => exact ⟨q + 1, A2, c2, by omega, by go_num, rfl, ho2, h2.trans hb2, by rw [hT.out]; exact h4.out⟩
      case measure => simp [intOf]; omega
    · obtain rfl : q = k := by omega
      have hall := Lib.hid (List.take_of_length_le (l := xs) (i := q) (by rw [L.out]; exact Nat.le_refl _))
      go_wp2
      go_ret
      rw [hall.out] at hown hR
      exact ⟨_, _, rfl, hown, hbr, hR⟩
end Go.Proofs.Ytkkmcgapbcikiaa
end

section
/- What From, Run and Step return. -/
namespace Go.Proofs.Ytkkmcgapbcikiaa

/-- What From returns. -/
def frm (i st : Int) (nx ot : List (List Int)) (s : Int) (xs : List Int) : List Int × Int × Int :=
  if vld i st nx ot = 0 then (if 0 ≤ s ∧ s < nx.length then (if chk xs i = 0 then (runO nx ot s.toNat xs, (runS nx s.toNat xs : Int), 0) else ([], 0, chk xs i)) else ([], 0, 2)) else ([], 0, vld i st nx ot)
theorem frm_bad {i st : Int} {nx ot : List (List Int)} {s : Int} {xs : List Int} (h : ¬ vld i st nx ot = 0) : frm i st nx ot s xs = ([], 0, vld i st nx ot) := by unfold frm; rw [if_neg h]
theorem frm_state {i st : Int} {nx ot : List (List Int)} {s : Int} {xs : List Int} (h : vld i st nx ot = 0) (h1 : ¬ (0 ≤ s ∧ s < nx.length)) : frm i st nx ot s xs = ([], 0, 2) := by unfold frm; rw [if_pos h, if_neg h1]
theorem frm_word {i st : Int} {nx ot : List (List Int)} {s : Int} {xs : List Int} (h : vld i st nx ot = 0) (h1 : 0 ≤ s ∧ s < nx.length) (h2 : ¬ chk xs i = 0) : frm i st nx ot s xs = ([], 0, chk xs i) := by unfold frm; rw [if_pos h, if_pos h1, if_neg h2]
theorem frm_ok {i st : Int} {nx ot : List (List Int)} {s : Nat} {xs : List Int} (h : vld i st nx ot = 0) (h1 : s < nx.length) (h2 : chk xs i = 0) : frm i st nx ot s xs = (runO nx ot s xs, (runS nx s xs : Int), 0) := by
  unfold frm; rw [if_pos h, if_pos (by omega), if_pos h2]; rfl
theorem frm_len {i st : Int} {nx ot : List (List Int)} {s : Int} {xs : List Int} : (frm i st nx ot s xs).1.length ≤ 1024 := by
  by_cases h : vld i st nx ot = 0
  · by_cases h1 : 0 ≤ s ∧ s < nx.length
    · by_cases h2 : chk xs i = 0
      · obtain ⟨t, rfl⟩ : ∃ t : Nat, s = t := ⟨s.toNat, by omega⟩
        rw [frm_ok h (by omega) h2]
        show (runO nx ot t xs).length ≤ 1024
        rw [runO_len]
        exact (chk_zero h2).2.2.1
      · rw [frm_word h h1 h2]; simp
    · rw [frm_state h h1]; simp
  · rw [frm_bad h]; simp
theorem frm_zero {i st : Int} {nx ot : List (List Int)} {s : Int} {xs : List Int} (h : (frm i st nx ot s xs).2.2 = 0) : ∃ i' st' n t : Nat, i = i' ∧ st = st' ∧ s = t ∧ t < n ∧ Mok i' st' n nx ot ∧ chk xs i = 0 := by
  by_cases h0 : vld i st nx ot = 0
  · obtain ⟨i', st', n, rfl, rfl, hM⟩ := vld_zero h0
    by_cases h1 : 0 ≤ s ∧ s < nx.length
    · by_cases h2 : chk xs i' = 0
      · exact ⟨i', st', n, s.toNat, rfl, rfl, by omega, by have := hM.nxl; omega, hM, h2⟩
      · rw [frm_word h0 h1 h2] at h; exact absurd h h2
    · rw [frm_state h0 h1] at h; exact absurd h (by show ¬ (2 : Int) = 0; omega)
  · rw [frm_bad h0] at h; exact absurd h h0
theorem Mok.frm {i st n : Nat} {nx ot : List (List Int)} (hM : Mok i st n nx ot) {s : Nat} (hs : s < n) {xs : List Int} (h : chk xs i = 0) : frm i st nx ot s xs = (runO nx ot s xs, (runS nx s xs : Int), 0) :=
  frm_ok hM.vld (by rw [hM.nxl]; exact hs) h

/-- What Step returns. -/
def stp (i st : Int) (nx ot : List (List Int)) (s a : Int) : Int × Int × Int :=
  if vld i st nx ot = 0 then (if (0 ≤ s ∧ s < nx.length) ∧ 0 ≤ a ∧ a < i then ((nN nx s.toNat a.toNat : Int), oN ot s.toNat a.toNat, 0) else (0, 0, 2)) else (0, 0, vld i st nx ot)
theorem stp_bad {i st : Int} {nx ot : List (List Int)} {s a : Int} (h : ¬ vld i st nx ot = 0) : stp i st nx ot s a = (0, 0, vld i st nx ot) := by unfold stp; rw [if_neg h]
theorem stp_state {i st : Int} {nx ot : List (List Int)} {s a : Int} (h : vld i st nx ot = 0) (h1 : ¬ ((0 ≤ s ∧ s < nx.length) ∧ 0 ≤ a ∧ a < i)) : stp i st nx ot s a = (0, 0, 2) := by unfold stp; rw [if_pos h, if_neg h1]
theorem stp_ok {i st : Int} {nx ot : List (List Int)} {s a : Nat} (h : vld i st nx ot = 0) (h1 : s < nx.length) (h2 : (a : Int) < i) : stp i st nx ot s a = ((nN nx s a : Int), oN ot s a, 0) := by unfold stp; rw [if_pos h, if_pos (by omega)]; rfl
end Go.Proofs.Ytkkmcgapbcikiaa
end

section
/- From, Run and Step of a machine. -/
namespace Go.Proofs.Ytkkmcgapbcikiaa
open Go.RowKit

theorem ret_from {A : Option Addr} {l l' c : Nat} {x x' y y' : Int} (h1 : l = l') (h2 : x = x') (h3 : y = y') : Ending.returned (.tuple #[.slice A l c, .int .i64 x, .int .i64 y]) = .returned (.tuple #[.slice A l' c, .int .i64 x', .int .i64 y']) := by rw [h1, h2, h3]
theorem ret_run {A : Option Addr} {l l' c : Nat} {y y' : Int} (h1 : l = l') (h3 : y = y') : Ending.returned (.tuple #[.slice A l c, .int .i64 y]) = .returned (.tuple #[.slice A l' c, .int .i64 y']) := by rw [h1, h3]
theorem ret_three {k k' k'' : IntKind} {a b c a' b' c' : Int} (h1 : a = a') (h2 : b = b') (h3 : c = c') : Ending.returned (.tuple #[.int k a, .int k' b, .int k'' c]) = .returned (.tuple #[.int k a', .int k' b', .int k'' c']) := by rw [h1, h2, h3]

set_option maxHeartbeats 2000000 in
set_option maxRecDepth 100000 in
theorem pfrom (i st : Int) (A B D : Option Addr) (n c m d k e : Nat) (nx ot : List (List Int)) (s : Int) (xs : List Int) (w : World) (hx : Lists w A n nx) (ho : Lists w B m ot) (hD : Ints w D k xs) :
    Calls Try.prog 59 #[.agg #[.int .i64 i, .int .i64 st, .slice A n c, .slice B m d], .int .i64 s, .slice D k e] w fun e w' => ∃ A' c',
      e = .returned (.tuple #[.slice A' (frm i st nx ot s xs).1.length c', .int .i64 (frm i st nx ot s xs).2.1, .int .i64 (frm i st nx ot s xs).2.2]) ∧ Owned w' w.heap.size (.slice A' (frm i st nx ot s xs).1.length c') (frm i st nx ot s xs).1 ∧ Below w.heap.size w w' := by
  have L1 := Lib.hid hx.1
  have LD := Lib.hid hD.1
  have hn := hx.2.1
  have hk := hD.2.1
  have hb0 := alloc_below w (.cells #[.int .i64 i, .int .i64 st, .slice A n c, .slice B m d] 56)
  have HZ := Lib.hid (show (w.alloc (.cells #[.int .i64 i, .int .i64 st, .slice A n c, .slice B m d] 56)).heap.size = w.heap.size + 1 by simp)
  by_cases hv : vld i st nx ot = 0
  · have HV := Lib.hid hv
    obtain ⟨i, st, n', rfl, rfl, hM⟩ := vld_zero hv
    obtain rfl : n = n' := by have := hM.nxl; rw [L1.out] at this; exact this
    obtain rfl : m = n := by have := hM.otl; rw [ho.1] at this; exact this
    clear hv
    by_cases hs : 0 ≤ s ∧ s < m
    · have HS := Lib.hid hs
      have HT := Lib.hid ((decide_eq_true hs).symm)
      by_cases hc : chk xs i = 0
      · obtain ⟨s, rfl⟩ : ∃ t : Nat, s = t := ⟨s.toNat, by omega⟩
        have hfin := Lib.hid (frm_ok (s := s) HV.out (by rw [L1.out]; omega) hc)
        have HC := Lib.hid hc
        clear hs hc
        go_enter Try.func59, Try.ntmps59
        go_wp2_with fail
        refine (pvalid _ _ _ _ _ _ _ _ _ _ _ (hx.below hb0) (ho.below hb0)).mono ?_
        rintro e w1 ⟨rfl, b1⟩
        rw [HZ.out] at b1
        rw [HV.out]
        obtain ⟨k0, k1, k2, k3⟩ := box4 b1
        go_wp2_with fail
        refine (pisst _ _ _ _ _ _ _ _ _ _ _ hn HT.out).mono ?_
        rintro e w2 ⟨rfl, b2⟩
        have b2 := b1.trans (b2.mono (by have := b1.size; simpa using this))
        obtain ⟨k0, k1, k2, k3⟩ := box4 b2
        have bw := hb0.trans (b2.mono (Nat.le_succ _))
        go_wp2_with fail
        refine (wcheck _ _ _ _ _ _ (hD.below bw)).mono ?_
        rintro e w3 ⟨rfl, rfl⟩
        rw [HC.out]
        have ba := alloc_below w2 (.cells #[.int .i64 i, .int .i64 st, .slice A m c, .slice B m d, .int .i64 s] 106)
        have hR : Rnr (w2.alloc (.cells #[.int .i64 i, .int .i64 st, .slice A m c, .slice B m d, .int .i64 s] 106)) w2.heap.size i st A m c B m d s := heap_alloc_new w2 _
        have HR := Lib.hid hR
        have hsy := Lib.hid (chk_zero HC.out).2.2.2.mem
        have hg := bw.size
        have bwa := bw.trans (ba.mono hg)
        have hsn : s < m := by have := HS.out; omega
        clear hR ba
        go_wp2_with fail
        refine (prun hM hx ho bwa HR.out hg hsn hD hsy.out).mono ?_
        rintro e w4 ⟨A4, c4, rfl, ho4, b4, hR4⟩
        obtain ⟨d2, d3, d4, _⟩ := hR4.cells
        have HR4 := Lib.hid hR4
        have ho4 := Lib.hid ho4
        clear hR4
        go_wp2
        go_quiet (fail)
        go_wp2
        go_ret3
        have hlen : (runO nx ot s xs).length = k := by rw [runO_len, LD.out]
        exact ⟨A4, c4, by rw [hfin.out]; exact ret_from hlen.symm rfl rfl, by rw [hfin.out]; show Owned _ _ (.slice A4 (runO nx ot s xs).length c4) _; rw [hlen]; exact ho4.out, below_drewN b4 _⟩
      · have hfin := Lib.hid (frm_word HV.out (by rw [L1.out]; exact HS.out) hc)
        have hne : (chk xs i != 0) = true := by simpa using hc
        clear hs
        go_enter Try.func59, Try.ntmps59
        go_wp2_with fail
        refine (pvalid _ _ _ _ _ _ _ _ _ _ _ (hx.below hb0) (ho.below hb0)).mono ?_
        rintro e w1 ⟨rfl, b1⟩
        rw [HZ.out] at b1
        rw [HV.out]
        obtain ⟨k0, k1, k2, k3⟩ := box4 b1
        go_wp2_with fail
        refine (pisst _ _ _ _ _ _ _ _ _ _ _ hn HT.out).mono ?_
        rintro e w2 ⟨rfl, b2⟩
        have b2 := b1.trans (b2.mono (by have := b1.size; simpa using this))
        obtain ⟨k0, k1, k2, k3⟩ := box4 b2
        have bw := hb0.trans (b2.mono (Nat.le_succ _))
        go_wp2_with fail
        refine (wcheck _ _ _ _ _ _ (hD.below bw)).mono ?_
        rintro e w3 ⟨rfl, rfl⟩
        generalize chk xs i = E at hne hfin hc
        clear hc
        go_wp2
        go_ret3
        exact ⟨none, 0, by rw [hfin.out]; rfl, by rw [hfin.out]; exact Owned.nil _ _, bw⟩
    · have hfin := Lib.hid (frm_state (xs := xs) HV.out (by rw [L1.out]; exact hs))
      have HT := Lib.hid ((decide_eq_false hs).symm)
      clear hs
      go_enter Try.func59, Try.ntmps59
      go_wp2_with fail
      refine (pvalid _ _ _ _ _ _ _ _ _ _ _ (hx.below hb0) (ho.below hb0)).mono ?_
      rintro e w1 ⟨rfl, b1⟩
      rw [HZ.out] at b1
      rw [HV.out]
      obtain ⟨k0, k1, k2, k3⟩ := box4 b1
      go_wp2_with fail
      refine (pisst _ _ _ _ _ _ _ _ _ _ _ hn HT.out).mono ?_
      rintro e w2 ⟨rfl, b2⟩
      have b2 := b1.trans (b2.mono (by have := b1.size; simpa using this))
      have bw := hb0.trans (b2.mono (Nat.le_succ _))
      go_wp2
      go_ret3
      exact ⟨none, 0, by rw [hfin.out]; rfl, by rw [hfin.out]; exact Owned.nil _ _, bw⟩
  · have hfin := Lib.hid (frm_bad (s := s) (xs := xs) hv)
    have hne : (vld i st nx ot != 0) = true := by simpa using hv
    go_enter Try.func59, Try.ntmps59
    go_wp2_with fail
    refine (pvalid _ _ _ _ _ _ _ _ _ _ _ (hx.below hb0) (ho.below hb0)).mono ?_
    rintro e w1 ⟨rfl, b1⟩
    generalize vld i st nx ot = E at hne hfin hv
    clear hv
    go_wp2
    go_ret3
    exact ⟨none, 0, by rw [hfin.out]; rfl, by rw [hfin.out]; exact Owned.nil _ _, bt hb0 b1⟩

set_option maxHeartbeats 1000000 in
set_option maxRecDepth 100000 in
theorem prunw (i st : Int) (A B D : Option Addr) (n c m d k e : Nat) (nx ot : List (List Int)) (xs : List Int) (w : World) (hx : Lists w A n nx) (ho : Lists w B m ot) (hD : Ints w D k xs) :
    Calls Try.prog 33 #[.agg #[.int .i64 i, .int .i64 st, .slice A n c, .slice B m d], .slice D k e] w fun e w' => ∃ A' c',
      e = .returned (.tuple #[.slice A' (frm i st nx ot st xs).1.length c', .int .i64 (frm i st nx ot st xs).2.2]) ∧ Owned w' w.heap.size (.slice A' (frm i st nx ot st xs).1.length c') (frm i st nx ot st xs).1 ∧ Below w.heap.size w w' := by
  have hb0 := alloc_below w (.cells #[.int .i64 i, .int .i64 st, .slice A n c, .slice B m d] 56)
  go_enter Try.func33, Try.ntmps33
  go_wp2_with fail
  refine (pfrom _ _ _ _ _ _ _ _ _ _ _ _ _ _ _ _ (hx.below hb0) (ho.below hb0) (hD.below hb0)).mono ?_
  rintro e w1 ⟨A1, c1, rfl, h1, b1⟩
  have h2 := Lib.hid (h1.lower (base' := w.heap.size) hb0.size)
  have b2 := Lib.hid (bt hb0 b1)
  clear h1 b1
  go_wp2
  go_ret2
  exact ⟨A1, c1, rfl, h2.out, b2.out⟩

end Go.Proofs.Ytkkmcgapbcikiaa
end

section
/- The reference: Outs. -/
namespace Go.Proofs.Ytkkmcgapbcikiaa
open Go.RowKit

theorem skol {α : Sort _} {p : Nat → α → Prop} (h : ∀ k, ∃ x, p k x) : ∃ F : Nat → α, ∀ k, p k (F k) := ⟨fun k => Classical.choose (h k), fun k => Classical.choose_spec (h k)⟩

/-- append at a step of a region that draws. -/
theorem step_append_run {P : Program} {ops : Array Oper} {o : Oper} {a : Act} {w : World} {K : Act → World → Prop} {Q : Exit → Act → World → Prop} {E : Prop} (hgd : o.guard = none) (s x : Operand) (t tn : TypeId)
    (ho : o.op = .call { callee := .builtin .append, args := #[s, x], argTypes := #[t, tn] }) (vs vx : Value) (hs : a.eval s = vs) (hx : a.eval x = vx)
    (v' : Value) (w' : World) (hr : (Builtin.append_ #[t, tn] o.type #[vs, vx]).run P w = .ok v' w') (h : K (a.put o.dst v') w') :
    if Region.wanted o (yielded ops a.tmps) = true then Oper.wp P o a w K Q else E := by
  have hw : Region.wanted o (yielded ops a.tmps) = true := by simp [Region.wanted, hgd]
  rw [if_pos hw]
  exact Lib.wp_append_run w s x t tn ho vs vx hs hx v' w' hr h

theorem Owned.drew {w : World} {base : Nat} {v : Value} {xs : List Int} (h : Owned w base v xs) (k : Nat) : Owned (w.drewN k) base v xs := h

/-- append of one number, behind any number of draws. -/
theorem app_all {wr : World} {base q : Nat} {A : Option Addr} {c : Nat} {xs : List Int} (h : Owned wr base (.slice A q c) xs) (x : Int) (hbase : base ≤ wr.heap.size) (hl : xs.length < 17592186044416) :
    ∃ F : Nat → (Option Addr × Nat) × World, ∀ k, (Builtin.append_ #[36, 36] 36 #[.slice A q c, .slice (some ⟨wr.heap.size, 0, none⟩) 1 1]).run Try.prog ((wr.drewN k).alloc (.cells #[.int .i64 x] 3)) = .ok (.slice (F k).1.1 (q + 1) (F k).1.2) (F k).2 ∧
      Owned (F k).2 base (.slice (F k).1.1 (q + 1) (F k).1.2) (xs ++ [x]) ∧ Below base wr (F k).2 := by
  have hq : q = xs.length := by obtain ⟨A', c', e⟩ := h.form; cases e; rfl
  refine skol (p := fun k (r : (Option Addr × Nat) × World) => (Builtin.append_ #[36, 36] 36 #[.slice A q c, .slice (some ⟨wr.heap.size, 0, none⟩) 1 1]).run Try.prog ((wr.drewN k).alloc (.cells #[.int .i64 x] 3)) = .ok (.slice r.1.1 (q + 1) r.1.2) r.2 ∧
      Owned r.2 base (.slice r.1.1 (q + 1) r.1.2) (xs ++ [x]) ∧ Below base wr r.2) fun k => ?_
  obtain ⟨A', c', w', h1, h2, h3, _⟩ := run_append_one (h.drew k) x hbase hl
  rw [← hq] at h1 h2
  exact ⟨((A', c'), w'), h1, h2, (below_drewN (Below.refl _ _) k).trans h3⟩

set_option maxHeartbeats 2000000 in
set_option maxRecDepth 100000 in
theorem routs (i st n : Nat) (A B D : Option Addr) (c d k e s : Nat) (nx ot : List (List Int)) (xs : List Int) (w : World) (hM : Mok i st n nx ot) (hx : Lists w A n nx) (ho : Lists w B n ot) (hs : s < n) (hD : Ints w D k xs) (hS : ∀ x, x ∈ xs → 0 ≤ x ∧ x < i) :
    Calls Try.prog 80 #[.agg #[.int .i64 i, .int .i64 st, .slice A n c, .slice B n d], .int .i64 s, .slice D k e] w fun e w' => ∃ A' c', e = .returned (.tuple #[.slice A' k c', .int .i64 (runS nx s xs)]) ∧ Owned w' w.heap.size (.slice A' k c') (runO nx ot s xs) ∧ Below w.heap.size w w' := by
  have L := Lib.hid hD.1
  have hk := hD.2.1
  have hN := hx.2.1
  have HS := Lib.hid hS
  clear hS
  have hb0 := alloc_below w (.cells #[.int .i64 i, .int .i64 st, .slice A n c, .slice B n d] 56)
  go_enter Try.func80, Try.ntmps80
  go_wp2
  go_loopw [1, 8, 9] (fun sv v j wr => ∃ (q s' : Nat) (A' : Option Addr) (c' : Nat), q ≤ k ∧ j = .int .i64 q ∧ v = .slice A' q c' ∧ sv = .int .i64 s' ∧ s' = runS nx s (xs.take q) ∧ s' < n ∧ Owned wr (w.heap.size + 1) (.slice A' q c') (runO nx ot s (xs.take q)) ∧ Below (w.heap.size + 1) (w.alloc (.cells #[.int .i64 i, .int .i64 st, .slice A n c, .slice B n d] 56)) wr) (fun _ _ j _ => k - (intOf j).toNat)
  case atStart => exact ⟨0, s, none, 0, Nat.zero_le _, rfl, rfl, rfl, rfl, hs, Owned.nil _ _, Below.refl _ _⟩
  case round =>
    obtain ⟨q, s', A', c', hq, rfl, rfl, rfl, hss, hs', hown, hbr⟩ := hrel
    have hbw := hb0.trans (hbr.mono (Nat.le_succ _))
    have hsz : w.heap.size + 1 ≤ wr.heap.size := by have := hbr.size; simpa using this
    have HSS := Lib.hid hss
    clear hss
    by_cases hlt : q < k
    · obtain ⟨k0, k1, k2, k3⟩ := box4 hbr
      obtain ⟨b1, o1, rfl, hb1, hc0⟩ := hD.at_ hlt
      have hc1 := (hbw.cell (p := ⟨b1, o1 + q, none⟩) hb1).trans hc0
      clear hc0
      have hxm := HS.out (xs.getD q 0) (by rw [List.getD_eq_getElem?_getD, List.getElem?_eq_getElem (by rw [L.out]; exact hlt)]; exact List.getElem_mem _)
      have hO := Lib.hid (runO_next (nx := nx) (ot := ot) (s := s) (j := q) (xs := xs) (by rw [L.out]; exact hlt))
      have hT := Lib.hid (runS_next (nx := nx) (s := s) (j := q) (xs := xs) (by rw [L.out]; exact hlt))
      rw [show xs[q]?.getD 0 = xs.getD q 0 by simp, ← HSS.out] at hO hT
      generalize xs.getD q 0 = x at hc1 hxm hO hT
      obtain ⟨a, rfl⟩ : ∃ a : Nat, x = a := ⟨x.toNat, by omega⟩
      have ha : a < i := by omega
      rw [Int.toNat_natCast] at hO hT
      have hlen : (runO nx ot s (xs.take q)).length = q := by rw [runO_len, List.length_take, L.out]; omega
      generalize runO nx ot s (xs.take q) = os at hown hO hlen
      obtain ⟨F, hF⟩ := app_all hown (oN ot s' a) hsz (by rw [hlen]; omega)
      rw [← hO.out] at hF
      have HF := Lib.hid hF
      obtain ⟨g1, p1, A1, n1, c1, hA, hg1, hd1, hr1⟩ := hx.at_ hs'
      obtain ⟨g2, p2, A2, n2, c2, hB, hg2, hd2, hr2⟩ := ho.at_ hs'
      have hi1 := (hM.row s' hs').1
      have hi2 := (hM.row s' hs').2.1
      have hl1 := hr1.1
      have hl2 := hr2.1
      obtain rfl : n1 = i := by omega
      obtain rfl : n2 = n1 := by omega
      obtain ⟨g3, p3, rfl, hg3, hy1⟩ := hr1.at_ ha
      obtain ⟨g4, p4, rfl, hg4, hy2⟩ := hr2.at_ ha
      rw [hM.nN_eq hs' ha] at hy1
      change w.cell? _ = some (.int .i64 (oN ot s' a)) at hy2
      have hlt2 := hM.nN_lt hs' ha
      have hn1 := hr1.2.1
      subst hA hB
      clear hl1 hl2 hi1 hi2 hlen
      have tr : ∀ (g o : Nat) (v : Value), g < w.heap.size → w.cell? ⟨g, o, none⟩ = some v → wr.cell? ⟨g, o, none⟩ = some v := fun g o v h h2 => (hbw.cell (p := ⟨g, o, none⟩) h).trans h2
      have trF : ∀ (g o : Nat) (v : Value), g < w.heap.size + 1 → wr.cell? ⟨g, o, none⟩ = some v → ∀ k, (F k).2.cell? ⟨g, o, none⟩ = some v := fun g o v h h2 k => ((hF k).2.2.cell (p := ⟨g, o, none⟩) h).trans h2
      have e1 := tr _ _ _ hg1 hd1
      have e2 := tr _ _ _ hg2 hd2
      have e3 := tr _ _ _ hg3 hy1
      have e4 := tr _ _ _ hg4 hy2
      have f1 := trF _ _ _ (by omega) e1
      have f3 := trF _ _ _ (by omega) e3
      have f5 := trF _ _ _ (by omega) hc1
      have f6 := trF _ _ _ (by omega) k2
      clear tr trF hF hd1 hd2 hy1 hy2 k0 k1
      go_wp2
      go_region_law (refine step_append_run rfl _ _ _ _ rfl _ _ rfl rfl _ _ (HF.out _).1 ?_)
      all_goals
        go_wp2
        go_quiet (fail)
        go_wp2
        go_roundw
        case rel => exact ⟨q + 1, _, _, _, by omega, by go_num, rfl, rfl, hT.out.symm, hlt2, (HF.out _).2.1, below_drewN (hbr.trans (HF.out _).2.2) _⟩
        case measure => simp [intOf]; omega
    · obtain rfl : q = k := by omega
      have hall := Lib.hid (List.take_of_length_le (l := xs) (i := q) (by rw [L.out]; exact Nat.le_refl _))
      have hss := HSS.out
      rw [hall.out] at hown hss
      subst hss
      go_wp2
      go_ret2
      exact ⟨A', c', rfl, hown.lower (Nat.le_succ _), hbw⟩
end Go.Proofs.Ytkkmcgapbcikiaa
end

section
/- Valid of a machine by the reference. -/
namespace Go.Proofs.Ytkkmcgapbcikiaa
open Go.RowKit

set_option maxHeartbeats 2000000 in
set_option maxRecDepth 100000 in
theorem rvalid (i st : Int) (A B : Option Addr) (n c m d : Nat) (nx ot : List (List Int)) (w : World) (hx : Lists w A n nx) (ho : Lists w B m ot) :
    Calls Try.prog 79 #[.agg #[.int .i64 i, .int .i64 st, .slice A n c, .slice B m d]] w fun e w' => e = .returned (.int .i64 (vld i st nx ot)) ∧ Below w.heap.size w w' := by
  have L1 := Lib.hid hx.1
  have L2 := Lib.hid ho.1
  have hn := hx.2.1
  have hm := ho.2.1
  have hb0 := alloc_below w (.cells #[.int .i64 i, .int .i64 st, .slice A n c, .slice B m d] 56)
  have hsz0 : (w.alloc (.cells #[.int .i64 i, .int .i64 st, .slice A n c, .slice B m d] 56)).heap.size = w.heap.size + 1 := by simp
  have HZ := Lib.hid hsz0
  clear hsz0
  by_cases hi : 1 ≤ i ∧ i ≤ 64
  · have HI := Lib.hid hi
    obtain ⟨hi1, hi2⟩ := hi
    have i1 : decide (i < 1) = false := by simpa using hi1
    have i2 : decide (64 < i) = false := by simpa using hi2
    by_cases h0 : n = 0
    · have hfin := Lib.hid (vld_empty (st := st) (ot := ot) HI.out (by rw [L1.out]; exact h0))
      subst h0
      go_enter Try.func79, Try.ntmps79
      go_wp2
      go_ret
      exact ⟨ret_int hfin.out.symm, hb0⟩
    · have z0 : ((n : Int) == 0) = false := by simp; omega
      by_cases h1 : 128 < n
      · have hfin := Lib.hid (vld_many (st := st) (ot := ot) HI.out (by rw [L1.out]; exact h1))
        clear h0
        go_enter Try.func79, Try.ntmps79
        go_wp2
        go_ret
        exact ⟨ret_int hfin.out.symm, hb0⟩
      · have z1 : decide ((128 : Int) < (n : Int)) = false := by simp; omega
        by_cases h2 : 0 ≤ st ∧ st < n
        · have H2 := Lib.hid h2
          have s1 : decide (st < 0) = false := by simpa using h2.1
          have s2 : decide ((n : Int) ≤ st) = false := by simpa using h2.2
          by_cases h3 : m = n
          · subst h3
            have z3 : ((m : Int) != (m : Int)) = false := by simp
            have hrows := Lib.hid (vld_rows (i := i) (st := st) (nx := nx) (ot := ot) HI.out (by rw [L1.out]; exact h0) (by rw [L1.out]; exact h1) (by rw [L1.out]; exact H2.out) (by rw [L1.out, L2.out]))
            clear h0 h2
            go_enter Try.func79, Try.ntmps79
            go_wp2
            go_loopw [3] (fun x wr => ∃ j : Nat, j ≤ m ∧ x = .int .i64 j ∧ (∀ t, t < j → rowAt i nx ot t = 0) ∧ Below (w.heap.size + 1) (w.alloc (.cells #[.int .i64 i, .int .i64 st, .slice A m c, .slice B m d] 56)) wr) (fun x _ => m - (intOf x).toNat)
            case atStart => exact ⟨0, Nat.zero_le _, rfl, fun t h => absurd h (by omega), Below.refl _ _⟩
            case round =>
              obtain ⟨j, hj, rfl, hok, hbr⟩ := hrel
              have hbw := hb0.trans (hbr.mono (Nat.le_succ _))
              have hsz1 : w.heap.size + 1 ≤ wr.heap.size := by have := hbr.size; simpa using this
              have HK := Lib.hid hok
              clear hok
              obtain ⟨k0, k1, k2, k3⟩ := box4 hbr
              by_cases hlt : j < m
              · have HV := Lib.hid (show rowAt i nx ot j = rowE i m (nx.getD j []) (ot.getD j []) by unfold rowAt; rw [L1.out])
                by_cases he : rowE i m (nx.getD j []) (ot.getD j []) = 0
                · have hnx := Lib.hid (show ∀ t, t < j + 1 → rowAt i nx ot t = 0 from fun t ht => by
                    by_cases e : t = j
                    · subst e; rw [HV.out]; exact he
                    · exact HK.out t (by omega))
                  have HE := Lib.hid he
                  clear he
                  go_wp2_with fail
                  refine (rrow _ _ _ _ _ _ _ _ _ _ _ _ (hx.below hbw) (ho.below hbw) hlt hlt).mono ?_
                  rintro e w2 ⟨rfl, b2⟩
                  have b3 := hbr.trans (b2.mono hsz1)
                  rw [HE.out]
                  obtain ⟨k0, k1, k2, k3⟩ := box4 b3
                  go_wp2
                  go_roundw
                  case rel => exact ⟨j + 1, by omega, by go_num, hnx.out, b3⟩
                  case measure => simp [intOf]; omega
                · have hfin := Lib.hid (hrows.out.trans (fstE_bad HK.out (by rw [HV.out]; exact he) (by rw [L1.out]; exact hlt)))
                  have he2 : (rowE i m (nx.getD j []) (ot.getD j []) != 0) = true := by simpa using he
                  go_wp2_with fail
                  refine (rrow _ _ _ _ _ _ _ _ _ _ _ _ (hx.below hbw) (ho.below hbw) hlt hlt).mono ?_
                  rintro e w2 ⟨rfl, b2⟩
                  have b3 := hbr.trans (b2.mono hsz1)
                  have HF := Lib.hid (hfin.out.trans HV.out)
                  clear hfin HV
                  generalize rowE i m (nx.getD j []) (ot.getD j []) = E at he2 he HF
                  clear he
                  go_wp2
                  go_ret
                  exact ⟨ret_int HF.out.symm, hb0.trans (b3.mono (Nat.le_succ _))⟩
              · obtain rfl : j = m := by omega
                have hfin := Lib.hid (hrows.out.trans (fstE_ok (by rw [L1.out]; exact HK.out)))
                go_wp2
                go_ret
                exact ⟨ret_int hfin.out.symm, hbw⟩
          · have z3 : ((m : Int) != (n : Int)) = true := by simp; omega
            have hfin := Lib.hid (vld_out (i := i) (st := st) (nx := nx) (ot := ot) HI.out (by rw [L1.out]; exact h0) (by rw [L1.out]; exact h1) (by rw [L1.out]; exact H2.out) (by rw [L1.out, L2.out]; exact h3))
            clear h0 h3
            go_enter Try.func79, Try.ntmps79
            go_wp2
            go_ret
            exact ⟨ret_int hfin.out.symm, hb0⟩
        · have hfin := Lib.hid (vld_start (i := i) (st := st) (nx := nx) (ot := ot) HI.out (by rw [L1.out]; exact h0) (by rw [L1.out]; exact h1) (by rw [L1.out]; exact h2))
          by_cases h3 : 0 ≤ st
          · have s1 : decide (st < 0) = false := by simpa using h3
            have s2 : decide ((n : Int) ≤ st) = true := by simp; omega
            clear h0 h2
            go_enter Try.func79, Try.ntmps79
            go_wp2
            go_ret
            exact ⟨ret_int hfin.out.symm, hb0⟩
          · have s1 : decide (st < 0) = true := by simpa using h3
            clear h0 h2
            go_enter Try.func79, Try.ntmps79
            go_wp2
            go_ret
            exact ⟨ret_int hfin.out.symm, hb0⟩
  · have hfin := Lib.hid (vld_in (st := st) (nx := nx) (ot := ot) hi)
    by_cases hi1 : 1 ≤ i
    · have hi2 : 64 < i := by omega
      have t1 : ¬ i < 1 := by omega
      clear hi
      go_enter Try.func79, Try.ntmps79
      go_wp2
      go_ret
      exact ⟨ret_int hfin.out.symm, hb0⟩
    · have t1 : i < 1 := by omega
      clear hi hi1
      go_enter Try.func79, Try.ntmps79
      go_wp2
      go_ret
      exact ⟨ret_int hfin.out.symm, hb0⟩
end Go.Proofs.Ytkkmcgapbcikiaa
end

section
/- Valid of a hypothesis: both sides. -/
namespace Go.Proofs.Ytkkmcgapbcikiaa
open Go.RowKit

/-- The first error of the access words. -/
def hvF (i : Int) (st : Nat) (nx : List (List Int)) : Nat → List (List Int) → Int
  | _, [] => 0
  | s, w :: r => if chk w i = 0 then (if runS nx st w = s then hvF i st nx (s + 1) r else 15) else chk w i
/-- The error of a hypothesis. -/
def hvE (i st : Int) (nx ot acc : List (List Int)) : Int :=
  if vld i st nx ot = 0 then (if acc.length = nx.length then (if hvF i st.toNat nx 0 acc = 0 then (if (acc.getD st.toNat []).length = 0 then 0 else 10) else hvF i st.toNat nx 0 acc) else 1) else vld i st nx ot
theorem drop_at {xss : List (List Int)} {k : Nat} (h : k < xss.length) : xss.drop k = xss.getD k [] :: xss.drop (k + 1) := by
  rw [List.drop_eq_getElem_cons h, List.getD_eq_getElem?_getD, List.getElem?_eq_getElem h]; rfl
theorem hvF_on {i : Int} {st : Nat} {nx acc : List (List Int)} {k : Nat} (h : k < acc.length) (h1 : chk (acc.getD k []) i = 0) (h2 : runS nx st (acc.getD k []) = k) : hvF i st nx k (acc.drop k) = hvF i st nx (k + 1) (acc.drop (k + 1)) := by
  rw [drop_at h, hvF, if_pos h1, if_pos h2]
theorem hvF_state {i : Int} {st : Nat} {nx acc : List (List Int)} {k : Nat} (h : k < acc.length) (h1 : chk (acc.getD k []) i = 0) (h2 : ¬ runS nx st (acc.getD k []) = k) : hvF i st nx k (acc.drop k) = 15 := by
  rw [drop_at h, hvF, if_pos h1, if_neg h2]
theorem hvF_word {i : Int} {st : Nat} {nx acc : List (List Int)} {k : Nat} (h : k < acc.length) (h1 : ¬ chk (acc.getD k []) i = 0) : hvF i st nx k (acc.drop k) = chk (acc.getD k []) i := by
  rw [drop_at h, hvF, if_neg h1]
/-- What a valid hypothesis is. -/
theorem hvF_zero {i : Int} {st : Nat} {nx : List (List Int)} : ∀ (acc : List (List Int)) (s : Nat), hvF i st nx s acc = 0 → ∀ j, j < acc.length → chk (acc.getD j []) i = 0 ∧ runS nx st (acc.getD j []) = s + j
  | [], _, _, j, hj => absurd hj (by simp)
  | w :: r, s, h, j, hj => by
    rw [hvF] at h
    split at h
    · next h1 =>
      split at h
      · next h2 =>
        cases j with
        | zero => exact ⟨h1, h2⟩
        | succ j =>
          have := hvF_zero r (s + 1) h j (by simp at hj; omega)
          exact ⟨this.1, by rw [show s + (j + 1) = s + 1 + j by omega]; exact this.2⟩
      · omega
    · omega
theorem hvE_vld {i st : Int} {nx ot acc : List (List Int)} (h : ¬ vld i st nx ot = 0) : hvE i st nx ot acc = vld i st nx ot := by unfold hvE; rw [if_neg h]
theorem hvE_len {i st : Int} {nx ot acc : List (List Int)} (h : vld i st nx ot = 0) (h1 : ¬ acc.length = nx.length) : hvE i st nx ot acc = 1 := by unfold hvE; rw [if_pos h, if_neg h1]
theorem hvE_bad {i st : Int} {nx ot acc : List (List Int)} (h : vld i st nx ot = 0) (h1 : acc.length = nx.length) (h2 : ¬ hvF i st.toNat nx 0 acc = 0) : hvE i st nx ot acc = hvF i st.toNat nx 0 acc := by unfold hvE; rw [if_pos h, if_pos h1, if_neg h2]
theorem hvE_st {i st : Int} {nx ot acc : List (List Int)} (h : vld i st nx ot = 0) (h1 : acc.length = nx.length) (h2 : hvF i st.toNat nx 0 acc = 0) (h3 : ¬ (acc.getD st.toNat []).length = 0) : hvE i st nx ot acc = 10 := by unfold hvE; rw [if_pos h, if_pos h1, if_pos h2, if_neg h3]
theorem hvE_ok {i st : Int} {nx ot acc : List (List Int)} (h : vld i st nx ot = 0) (h1 : acc.length = nx.length) (h2 : hvF i st.toNat nx 0 acc = 0) (h3 : (acc.getD st.toNat []).length = 0) : hvE i st nx ot acc = 0 := by unfold hvE; rw [if_pos h, if_pos h1, if_pos h2, if_pos h3]
theorem hvE_zero {i st : Int} {nx ot acc : List (List Int)} (h : hvE i st nx ot acc = 0) : vld i st nx ot = 0 ∧ acc.length = nx.length ∧ (∀ j, j < acc.length → chk (acc.getD j []) i = 0 ∧ runS nx st.toNat (acc.getD j []) = j) ∧ (acc.getD st.toNat []).length = 0 := by
  unfold hvE at h
  split at h
  · next h1 =>
    split at h
    · next h2 =>
      split at h
      · next h3 =>
        split at h
        · next h4 =>
          refine ⟨h1, h2, fun j hj => ?_, h4⟩
          have := hvF_zero acc 0 h3 j hj
          exact ⟨this.1, by rw [this.2]; omega⟩
        · omega
      · omega
    · omega
  · omega

end Go.Proofs.Ytkkmcgapbcikiaa
end

section
/- State of a hypothesis: both sides; difference. -/
namespace Go.Proofs.Ytkkmcgapbcikiaa
open Go.RowKit

theorem Lists.one {w : World} {A : Option Addr} {n c : Nat} {xs : List Int} (h : Ints w A n xs) : Lists (w.alloc (.cells #[.slice A n c] 36)) (some ⟨w.heap.size, 0, none⟩) 1 [xs] := by
  have hb := alloc_below w (.cells #[.slice A n c] 36)
  refine ⟨rfl, by omega, fun _ => ⟨w.heap.size, 0, rfl, by simp, fun j hj => ?_⟩⟩
  obtain rfl : j = 0 := by omega
  exact ⟨A, n, c, by simp, h.below hb⟩
theorem Lists.two {w : World} {A B : Option Addr} {n c m d : Nat} {xs ys : List Int} (h : Ints w A n xs) (k : Ints w B m ys) : Lists (w.alloc (.cells #[.slice A n c, .slice B m d] 36)) (some ⟨w.heap.size, 0, none⟩) 2 [xs, ys] := by
  have hb := alloc_below w (.cells #[.slice A n c, .slice B m d] 36)
  refine ⟨rfl, by omega, fun _ => ⟨w.heap.size, 0, rfl, by simp, fun j hj => ?_⟩⟩
  rcases Nat.lt_or_ge j 1 with h1 | h1
  · obtain rfl : j = 0 := by omega
    exact ⟨A, n, c, by simp, h.below hb⟩
  · obtain rfl : j = 1 := by omega
    exact ⟨B, m, d, by simp, k.below hb⟩
/-- The access word of the state that xs reaches. -/
def stW (i : Int) (st : Nat) (nx acc : List (List Int)) (xs : List Int) : List Int := if chk xs i = 0 then acc.getD (runS nx st xs) [] else []
/-- A slice of one's own that reads as xs. -/
def OwnE (w : World) (xs : List Int) (E : Int) (r : Ending) (w' : World) : Prop := ∃ (A' : Option Addr) (c' : Nat), r = .returned (.tuple #[.slice A' xs.length c', .int .i64 E]) ∧ Owned w' w.heap.size (.slice A' xs.length c') xs ∧ Below w.heap.size w w'

end Go.Proofs.Ytkkmcgapbcikiaa
end

section
/- The place of a trace; a trace in new memory. -/
namespace Go.Proofs.Ytkkmcgapbcikiaa
open Go.RowKit Go.Shelf

theorem pins1 (A1 A2 B : Option Addr) (n1 c1 n2 c2 m d : Nat) (xs ys : List Int) (w : World) (hx : Ints w A1 n1 xs) (hy : Ints w B m ys) :
    Calls Try.prog 88 #[.agg #[.slice A1 n1 c1, .slice A2 n2 c2], .slice B m d] w fun e w' => e = .returned (.int .i64 (shlex xs ys)) ∧ Below w.heap.size w w' := by
  have hb0 := alloc_below w (.cells #[.slice A1 n1 c1, .slice A2 n2 c2] 38)
  have HB := Lib.hid hb0
  have HX := Lib.hid (hx.below hb0)
  have HY := Lib.hid (hy.below hb0)
  clear hx hy hb0
  go_enter Try.func88, Try.ntmps88
  go_wp2_with (go_at_call 36; refine (wcompare _ _ _ _ _ _ _ _ _ HX.out HY.out).mono ?_; rintro e w' ⟨rfl, q, rfl⟩)
  go_ret
  exact ⟨rfl, below_drewN HB.out q⟩
theorem entI1 : ∀ args w, (callFunc 88 args).run Try.prog w = .ok (.enter 88 args) w := enters_of Try.func88 (by kernel_rfl) rfl

/-- The place of a word among traces in shortlex order. -/
theorem pplace (A Z : Option Addr) (n c m d : Nat) (ts : List (List Int × List Int)) (ws : List Int) (w : World) (hT : Trs w A n ts) (hW : Ints w Z m ws) (hS : Srt ts) :
    Calls Try.prog 72 #[.slice A n c, .slice Z m d, .func (.func 88) #[] #[]] w fun e w' => ∃ (i : Nat) (v : Value), e = .returned (.tuple #[.int .i64 i, v]) ∧ i ≤ n ∧ Hid (∀ j, j < i → shlex (tIn ts j) ws < 0) ∧ Hid (∀ j, i ≤ j → j < n → 0 ≤ shlex (tIn ts j) ws) ∧ Below w.heap.size w w' :=
  pbsw 88 Z m d (fun j => shlex (tIn ts j) ws) A n c ts w entI1 hT
    (fun j hj A1 n1 c1 A2 n2 c2 W hb hi => pins1 A1 A2 Z n1 c1 n2 c2 m d _ ws W hi (hW.below hb))
    (fun a b hab hb h => by
      by_cases e : a = b
      · rw [e]; exact h
      · exact (shlex_trans (tIn ts a) (tIn ts b) ws).2 (hS a b (by omega) (by rw [hT.1]; exact hb)) (by omega))

/-- The result of copied. -/
def CpyE (n1 n2 : Nat) (xs ys : List Int) (w : World) (r : Ending) (w' : World) : Prop :=
  ∃ (B1 B2 : Option Addr) (d1 d2 : Nat), r = .returned (.agg #[.slice B1 n1 d1, .slice B2 n2 d2]) ∧ Owned w' w.heap.size (.slice B1 n1 d1) xs ∧ Owned w' w.heap.size (.slice B2 n2 d2) ys ∧ Below w.heap.size w w'

set_option linter.unusedSimpArgs false in
set_option linter.unusedVariables false in
set_option maxHeartbeats 4000000 in
set_option maxRecDepth 100000 in
theorem pcopied16 (A1 A2 : Option Addr) (n1 c1 n2 c2 : Nat) (xs ys : List Int) (w : World) (hx : Ints w A1 n1 xs) (hy : Ints w A2 n2 ys) :
    Calls Try.prog 74 #[.agg #[.slice A1 n1 c1, .slice A2 n2 c2]] w fun r w' => CpyE n1 n2 xs ys w r w' := by
  obtain ⟨w0, hw0⟩ : ∃ w0, w0 = (w.alloc (.cells #[.slice A1 n1 c1, .slice A2 n2 c2] 38)).alloc (.cells #[.slice none 0 0, .slice none 0 0] 38) := ⟨_, rfl⟩
  obtain ⟨hb0, m1, m2, hs0⟩ := bxs2 w #[.slice A1 n1 c1, .slice A2 n2 c2] #[.slice none 0 0, .slice none 0 0] 38 38 w0 hw0
  have HM1 := Lib.hid (fun (W : World) (h : Below w0.heap.size w0 W) => m1.on h)
  have HM2 := Lib.hid (fun (W : World) (h : Below w0.heap.size w0 W) => m2.on h)
  have HX := Lib.hid (fun (W : World) (h : Below w0.heap.size w0 W) => (hx.below hb0).below h)
  have HY := Lib.hid (fun (W : World) (h : Below w0.heap.size w0 W) => (hy.below hb0).below h)
  have HB0 := Lib.hid hb0
  have HW0 := Lib.hid hw0
  have HZ0 := Lib.hid hs0
  have HS := Lib.hid (show ∀ W, Below w0.heap.size w0 W → W.cell? ⟨w.heap.size, 0, none⟩ = some (.slice A1 n1 c1) ∧ W.cell? ⟨w.heap.size, 1, none⟩ = some (.slice A2 n2 c2) from fun W h => ⟨by have := (m1.on h).cell 0; simpa using this, by have := (m1.on h).cell 1; simpa using this⟩)
  clear hw0 hb0 m1 m2 hs0 hx hy
  go_enter Try.func74, Try.ntmps74
  go_upto_region 1 with fail
  rw [← HW0.out]
  have hbf : Below w0.heap.size w0 w0.drew := below_drewN (Below.refl _ _) 1
  refine wp_region_heldX (X := fun k => ([7] : List Nat).contains k) (S := fun W => W.cell? ⟨w.heap.size, 0, none⟩ = some (.slice A1 n1 c1) ∧ W.cell? ⟨w.heap.size, 1, none⟩ = some (.slice A2 n2 c2)) (by kernel_rfl) ?_
  generalize w0.drew = wd at hbf ⊢
  refine wpAnyX_pure (i := 0) (v := ?_) rfl (by kernel_rfl) (by kernel_rfl) (by kernel_rfl) (fun _ _ _ h => h) (Or.inl ⟨by rfl, ?_⟩) ?_
  rotate_left
  · (intro W _; go_simp; try with_reducible rfl)
  (try simp only [Act.put, List.getElem_toArray, List.getElem_cons_zero, List.getElem_cons_succ, List.setIfInBounds_toArray, List.set_cons_zero, List.set_cons_succ])
  refine wpAnyX_takeL (L := [7]) (i := 1) (v := ?_) rfl (by kernel_rfl) (by kernel_rfl) (by kernel_rfl) (by kernel_rfl) (fun _ _ _ h => h) (Or.inl ⟨by rfl, ?_⟩) (HS.out _ hbf) ?_
  rotate_left
  · (intro W hSW; (try dsimp only at hSW); obtain ⟨z0, z1⟩ := hSW; go_simp; try with_reducible rfl)
  (try simp only [Act.put, List.getElem_toArray, List.getElem_cons_zero, List.getElem_cons_succ, List.setIfInBounds_toArray, List.set_cons_zero, List.set_cons_succ])
  refine wpAnyX_pure (i := 3) (v := ?_) rfl (by kernel_rfl) (by kernel_rfl) (by kernel_rfl) (fun _ _ _ h => h) (Or.inl ⟨by rfl, ?_⟩) ?_
  rotate_left
  · (intro W _; go_simp; try with_reducible rfl)
  (try simp only [Act.put, List.getElem_toArray, List.getElem_cons_zero, List.getElem_cons_succ, List.setIfInBounds_toArray, List.set_cons_zero, List.set_cons_succ])
  refine wpAnyX_takeL (L := [7]) (i := 4) (v := ?_) rfl (by kernel_rfl) (by kernel_rfl) (by kernel_rfl) (by kernel_rfl) (fun _ _ _ h => h) (Or.inl ⟨by rfl, ?_⟩) (HS.out _ hbf) ?_
  rotate_left
  · (intro W hSW; (try dsimp only at hSW); obtain ⟨z0, z1⟩ := hSW; go_simp; try with_reducible rfl)
  (try simp only [Act.put, List.getElem_toArray, List.getElem_cons_zero, List.getElem_cons_succ, List.setIfInBounds_toArray, List.set_cons_zero, List.set_cons_succ])
  refine wpAnyX_one (i := 2) rfl (by kernel_rfl) (fun K hK => ?_)
  go_simp
  go_at_call 47
  refine (sclone A1 n1 c1 _ _ (HX.out _ hbf)).mono ?_
  rintro r w5 ⟨B1, d1, rfl, o5, b9⟩
  have g5 := o5.lower (base' := w.heap.size) (Nat.le_trans (by have := HZ0.out; omega) hbf.size)
  have hbf := bt hbf b9
  clear b9
  refine hK.out _ _ (fun _ _ => HS.out _ hbf) ?_
  (try simp only [Act.put, List.getElem_toArray, List.getElem_cons_zero, List.getElem_cons_succ, List.setIfInBounds_toArray, List.set_cons_zero, List.set_cons_succ])
  refine wpAnyX_one (i := 5) rfl (by kernel_rfl) (fun K hK => ?_)
  go_simp
  go_at_call 47
  refine (sclone A2 n2 c2 _ _ (HY.out _ hbf)).mono ?_
  rintro r w6 ⟨B2, d2, rfl, o6, b9⟩
  have g6 := o6.lower (base' := w.heap.size) (Nat.le_trans (by have := HZ0.out; omega) hbf.size)
  have g5 := g5.keptT (KeptT.of_below b9)
  have hbf := bt hbf b9
  clear b9
  refine hK.out _ _ (fun _ _ => HS.out _ hbf) ?_
  (try simp only [Act.put, List.getElem_toArray, List.getElem_cons_zero, List.getElem_cons_succ, List.setIfInBounds_toArray, List.set_cons_zero, List.set_cons_succ])
  refine wpAnyX_pure (i := 6) (v := ?_) rfl (by kernel_rfl) (by kernel_rfl) (by kernel_rfl) (fun _ _ _ h => h) (Or.inl ⟨by rfl, ?_⟩) ?_
  rotate_left
  · (intro W _; go_simp; try with_reducible rfl)
  (try simp only [Act.put, List.getElem_toArray, List.getElem_cons_zero, List.getElem_cons_succ, List.setIfInBounds_toArray, List.set_cons_zero, List.set_cons_succ])
  have m6 := HM2.out _ hbf
  refine wpAnyX_one (i := 7) rfl (by kernel_rfl) (fun K hK => ?_)
  refine wp_store_row 38 _ _ rfl (w.heap.size + 1) (#[.slice B1 n1 d1, .slice B2 n2 d2]) rfl rfl 38 (#[.slice none 0 0, .slice none 0 0]) m6 (by kernel_rfl) (by rfl) (by simp [Value.oneCell']) (hK.out _ _ (fun h => absurd h (by decide)) ?_)
  (try simp only [Act.put, List.getElem_toArray, List.getElem_cons_zero, List.getElem_cons_succ, List.setIfInBounds_toArray, List.set_cons_zero, List.set_cons_succ])
  refine wpAnyX_done (by kernel_rfl) ?_ _
  have HR := Lib.hid (m6.row #[.slice B1 n1 d1, .slice B2 n2 d2])
  have HO1 := Lib.hid (g5.keptT (m6.keptRow (t := 3) (by decide) #[.slice B1 n1 d1, .slice B2 n2 d2]))
  have HO2 := Lib.hid (g6.keptT (m6.keptRow (t := 3) (by decide) #[.slice B1 n1 d1, .slice B2 n2 d2]))
  have HBX := Lib.hid (below_setRow (bt HB0.out hbf) (by omega : w.heap.size ≤ w.heap.size + 1) #[.slice B1 n1 d1, .slice B2 n2 d2])
  clear hbf g5 g6 m6 o5 o6
  go_wp2_with fail
  (try rw [Exit.noGoto_ret])
  refine bodyPost_ret (results_cell_row (by rfl) _ _ (w.heap.size + 1) 38 _ (0, 0) _ rfl HR.out Try.underlying38 rfl (by kernel_rfl)) rfl ?_
  exact ⟨B1, B2, d1, d2, rfl, HO1.out, HO2.out, HBX.out⟩
end Go.Proofs.Ytkkmcgapbcikiaa
end

section
/- slices.Insert of one trace, in place. -/
namespace Go.Proofs.Ytkkmcgapbcikiaa
open Go.RowKit Go.Shelf Go.Lib

theorem inft : (Try.prog.info? 38).map (·.size) = some 2 := by kernel_rfl
theorem Bx.shape {w : World} {g : Nat} {cs : Array Value} {t : TypeId} (h : Bx w g cs t) : w.shape? g = some (t, cs.size) := by unfold World.shape?; rw [h]
theorem trace_size (w : World) : (Go.sizeOf 38).run Try.prog w = .ok 2 w := by
  have := inft
  cases hq : Try.prog.info? 38 with
  | none => simp [hq] at this
  | some i =>
    have hi : i.size = 2 := by simpa [hq] using this
    simp [Go.sizeOf, Go.typeInfo, hq, hi]

set_option linter.unusedSimpArgs false in
set_option linter.unusedVariables false in
set_option maxHeartbeats 4000000 in
set_option maxRecDepth 100000 in
theorem pins_shift (b n c i vb : Nat) (cur : Array Value) (x1 x2 : Value) (w : World) (hb : Bx w b cur 38) (hv : Bx w vb #[x1, x2] 38) (hvb : vb ≠ b) (hi : i < n) (hroom : n + 1 ≤ c) (hc : c ≤ 1000000) (hsz : cur.size = c * 2)
    (h1c : ∀ v, v ∈ cur.toList → v.oneCell' = true) (h1 : x1.oneCell' = true) (h2 : x2.oneCell' = true) :
    Calls Try.prog 89 #[.slice (some ⟨b, 0, none⟩) n c, .int .i64 i, .slice (some ⟨vb, 0, none⟩) 1 1] w fun e w' =>
      e = .returned (.slice (some ⟨b, 0, none⟩) (n + 1) c) ∧ w' = (w.drew.setCells b ((i + 1) * 2) ((cur.toList.take (n * 2)).drop (i * 2))).setCells b (i * 2) [x1, x2] := by
  obtain ⟨cs, hcs⟩ : ∃ cs, cs = (cur.toList.take (n * 2)).drop (i * 2) := ⟨_, rfl⟩
  have hcl : cs.length = (n - i) * 2 := by rw [hcs, List.length_drop, List.length_take, Array.length_toList, hsz, Nat.min_eq_left (by omega)]; omega
  have hca : ∀ j v, cs[j]? = some v → cur[i * 2 + j]? = some v := fun j v h => by
    have hj := (List.getElem?_eq_some_iff.1 h).1
    rw [hcs, List.getElem?_drop, List.getElem?_take_of_lt (by omega), Array.getElem?_toList] at h
    exact h
  have hc1 : ∀ v, v ∈ cs → v.oneCell' = true := fun v hv => h1c v (by rw [hcs] at hv; exact List.mem_of_mem_take (List.mem_of_mem_drop hv))
  rw [← hcs]
  have hcell : ∀ j, w.cell? ⟨b, j, none⟩ = cur[j]? := fun j => hb.cell j
  have hov : ∀ lb cb, (callFunc 95 #[.slice (some ⟨vb, 0, none⟩) 1 1, .slice (some ⟨b, (i + 1) * 2, none⟩) lb cb]).run Try.prog w = .ok (.value (.bool false)) w := fun lb cb => by
    rw [run_callFunc_extern Try.func95 (by kernel_rfl) (by kernel_rfl) (by kernel_rfl) (e := Extern.SlicesOverlaps.overlaps #[22, 22] #[4]) (by kernel_rfl),
      Lib.run_overlaps_apart w 22 4 38 Try.underlying22 2 trace_size ⟨vb, 0, none⟩ ⟨b, (i + 1) * 2, none⟩ 1 1 lb cb hvb _ _ _ _ hv.shape hb.shape (by omega) (hv.free 0) (hv.free _)]
    rfl
  have hcp1 : ∀ ty dc sc, (Builtin.copy_ #[22, 22] ty #[.slice (some ⟨b, (i + 1) * 2, none⟩) (n - i) dc, .slice (some ⟨b, i * 2, none⟩) (n + 1 - i) sc]).run Try.prog w.drew = .ok (goInt (n - i : Nat)) (w.drew.setCells b ((i + 1) * 2) cs) := fun ty dc sc =>
    run_copy_k w.drew _ _ ty 38 2 b ((i + 1) * 2) (n - i) dc ⟨b, i * 2, none⟩ (n + 1 - i) sc (n - i) cs Try.underlying22 inft (by simp only [Nat.min_def]; split <;> omega) hcl
      (fun j v hj => by rw [Addr.add_lit]; exact (hcell _).trans (hca j v hj))
      (fun j hj => by
        have : w.cell? ⟨b, (i + 1) * 2 + j, none⟩ = cur[(i + 1) * 2 + j]? := hcell _
        show (w.cell? _).isSome = true
        rw [this, Array.getElem?_eq_getElem (by omega)]; rfl)
      (fun j hj => hb.free _) hc1
  obtain ⟨W1, hW1⟩ : ∃ W1, W1 = w.drew.setCells b ((i + 1) * 2) cs := ⟨_, rfl⟩
  have hb1 : Bx W1 b (ovr cur ((i + 1) * 2) cs) 38 := by rw [hW1]; exact (hb.drewN 1).ovr _ _
  have hcp2 : ∀ (W : World), (∀ x, W.cell? x = W1.cell? x) → (∀ x, W.frozen? x = W1.frozen? x) → ∀ ty dc, (Builtin.copy_ #[22, 22] ty #[.slice (some ⟨b, i * 2, none⟩) (n + 1 - i) dc, .slice (some ⟨vb, 0, none⟩) 1 1]).run Try.prog W = .ok (goInt 1) (W.setCells b (i * 2) [x1, x2]) := fun W hWc hWf ty dc =>
    run_copy_k W _ _ ty 38 2 b (i * 2) (n + 1 - i) dc ⟨vb, 0, none⟩ 1 1 1 [x1, x2] Try.underlying22 inft (by simp only [Nat.min_def]; split <;> omega) rfl
      (fun j v hj => by
        rw [Addr.add_lit, hWc, hW1, World.cell?_setCells_out b _ _ _ _ (fun h _ => absurd h hvb)]
        rw [Nat.zero_add]
        have : w.cell? ⟨vb, j, none⟩ = #[x1, x2][j]? := hv.cell j
        refine this.trans ?_
        rw [← hj]; simp)
      (fun j hj => by
        rw [hWc, hb1.cell, Array.getElem?_eq_getElem (by rw [ovr_size]; simp at hj; omega)]; rfl)
      (fun j hj => by rw [hWf]; exact hb1.free _) (by simp [h1, h2])
  rw [← hW1] at hcp1
  have hz2 : ¬ ((i : Int) = (n : Int)) := by omega
  have hw1 : IntKind.i64.wrap ((i : Int) + 1) = (i : Int) + 1 := by rw [IntKind.wrap_i64]; omega
  have hw2 : IntKind.i64.wrap ((n : Int) + 1) = (n : Int) + 1 := by rw [IntKind.wrap_i64]; omega
  have g1 : (0 : Int) ≤ (i : Int) + 1 := by omega
  have g2 : ¬ (c = i + 1) := by omega
  have g3 : (i : Int) ≤ (n : Int) + 1 := by omega
  have g4 : ¬ (c = i) := by omega
  have g5 : ¬ ((c : Int) < (n : Int) + 1) := by omega
  have g6 : (n : Int) + 1 ≤ (c : Int) := by omega
  have g7 : (i : Int) ≤ (n : Int) := by omega
  have g8 : (i : Int) + 1 ≤ (n : Int) + 1 := by omega
  have mixed : Try.prog.follows Departure.mixedOrders = true := by kernel_rfl
  have HW1 := Lib.hid hW1
  clear hb1 hW1 hcell hb hv
  go_enter Try.func89, Try.ntmps89
  go_wp2_with (simp only [hov])
  go_region_law_o (refine step_copy_runI rfl _ _ 22 22 rfl _ _ (by simp [Act.eval, Act.put]) (by simp [Act.eval, Act.put]) (hcp1 _ _ _) ?_)
  go_wp2_with (at_builtin; refine wpList_copy_runI _ rfl _ _ 22 22 rfl _ _ rfl rfl (hcp2 _ (fun _ => rfl) (fun _ => rfl) _ _) ?_)
  go_ret
  first | exact ⟨rfl, rfl⟩ | exact ⟨rfl, by rw [HW1.out]⟩

set_option linter.unusedSimpArgs false in
set_option linter.unusedVariables false in
set_option maxHeartbeats 4000000 in
set_option maxRecDepth 100000 in
theorem pins_end (b n c vb : Nat) (cur : Array Value) (x1 x2 : Value) (w : World) (hb : Bx w b cur 38) (hv : Bx w vb #[x1, x2] 38) (hroom : n + 1 ≤ c) (hc : c ≤ 1000000) (hsz : cur.size = c * 2) (h1 : x1.oneCell' = true) (h2 : x2.oneCell' = true) :
    Calls Try.prog 89 #[.slice (some ⟨b, 0, none⟩) n c, .int .i64 n, .slice (some ⟨vb, 0, none⟩) 1 1] w fun e w' =>
      e = .returned (.slice (some ⟨b, 0, none⟩) (n + 1) c) ∧ w' = w.setRow b (cur.toList.take (n * 2) ++ x1 :: x2 :: cur.toList.drop (n * 2 + 2)).toArray := by
  obtain ⟨i, hi, hz0, hz1, hz2⟩ := info_parts infot
  have hrn := fun ty => run_append_room (P := Try.prog) (w := w) 22 ty 38 i Try.underlying22 hi b n c cur hb ⟨vb, 0, none⟩ 1 1 [x1, x2] (by rw [hz1]; rfl)
    (fun j u hj => by
      rw [Addr.add_lit, Nat.zero_add]
      refine (hv.cell j).trans ?_
      rw [← hj]; simp) (by simp [h1, h2]) hroom (by rw [hz1, hsz]; simp; omega)
  rw [hz1] at hrn
  have g1 : (0 : Int) ≤ (n : Int) := by omega
  have g2 : ¬ (c = n) := by omega
  clear hb hv
  go_enter Try.func89, Try.ntmps89
  go_wp2_with (at_builtin; refine Lib.wpList_append_run _ rfl _ _ _ _ rfl _ _ rfl rfl _ _ (hrn _) ?_)
  go_ret
  exact ⟨rfl, rfl⟩
end Go.Proofs.Ytkkmcgapbcikiaa
end

section
/- slices.Delete of one trace. -/
namespace Go.Proofs.Ytkkmcgapbcikiaa
open Go.RowKit Go.Shelf Go.Lib

/-- 'clear' of one trace. -/
theorem run_clear_one (w : World) (ty : TypeId) (b o c : Nat) (cs : Array Value) (hb : Bx w b cs 38) (ho : o + 2 ≤ cs.size) :
    (Builtin.clear_ #[22] ty #[.slice (some ⟨b, o, none⟩) 1 c]).run Try.prog w = .ok (.tuple #[]) (w.setCells b o [.slice none 0 0, .slice none 0 0]) := by
  obtain ⟨i, hi, hz0, hz1, hz2⟩ := info_parts infot
  have hzv : (zeroValue 38).run Try.prog w = .ok (.agg #[.slice none 0 0, .slice none 0 0]) w := by
    simp [zeroValue, typeInfo, hi, hz0]
  have hst := run_storeCells_cells (P := Try.prog) b o [.slice none 0 0, .slice none 0 0] 0 w
    (fun j hj => by rw [Nat.add_zero, hb.cell, Array.getElem?_eq_getElem (by simp at hj; omega)]; rfl) (fun j hj => hb.free _) (by simp [Value.oneCell'])
  simp only [Nat.add_zero] at hst
  have hzc : (Builtin.zeroCells (Value.agg #[.slice none 0 0, .slice none 0 0]).cells 1).toList = [.slice none 0 0, .slice none 0 0] := by kernel_rfl
  simp [Builtin.clear_, run_underlying Try.underlying22, hzv, hzc, hst]

set_option linter.unusedSimpArgs false in
set_option linter.unusedVariables false in
set_option maxHeartbeats 4000000 in
set_option maxRecDepth 100000 in
theorem pdel16 (b n c i : Nat) (cur : Array Value) (w : World) (hb : Bx w b cur 38) (hi : i < n) (hroom : n < c) (hc : c ≤ 1000000) (hsz : cur.size = c * 2) (h1c : ∀ v, v ∈ cur.toList → v.oneCell' = true) :
    Calls Try.prog 87 #[.slice (some ⟨b, 0, none⟩) n c, .int .i64 i, .int .i64 (i + 1 : Nat)] w fun e w' =>
      e = .returned (.slice (some ⟨b, 0, none⟩) (n - 1) c) ∧ w' = (w.drew.setCells b (0 + i * 2) ((cur.toList.take (n * 2)).drop ((i + 1) * 2))).setCells b ((n - 1) * 2) [.slice none 0 0, .slice none 0 0] := by
  obtain ⟨j, hj⟩ : ∃ j, j = i + 1 := ⟨_, rfl⟩
  obtain ⟨m, hm⟩ : ∃ m, m = n - j := ⟨_, rfl⟩
  obtain ⟨news, hnews⟩ : ∃ news, news = (cur.toList.take (n * 2)).drop (j * 2) := ⟨_, rfl⟩
  rw [← hj, ← hnews]
  obtain ⟨i0, hi0, hz0, hz1, hz2⟩ := info_parts infot
  have hcl : news.length = m * 2 := by rw [hnews, List.length_drop, List.length_take, Array.length_toList, hsz, Nat.min_eq_left (by omega)]; omega
  have hca : ∀ k v, news[k]? = some v → cur[j * 2 + k]? = some v := fun k v h => by
    have hk := (List.getElem?_eq_some_iff.1 h).1
    rw [hnews, List.getElem?_drop, List.getElem?_take_of_lt (by omega), Array.getElem?_toList] at h
    exact h
  have s1 : Hid (news.length = (n - j) * 2) := by rw [← hm]; exact hcl
  have s2 : Hid (∀ u ∈ news, u.oneCell' = true) := fun v hv => h1c v (by rw [hnews] at hv; exact List.mem_of_mem_take (List.mem_of_mem_drop hv))
  have s0 : Hid (∀ k u, news[k]? = some u → w.drew.cell? ((⟨b, j * 2, none⟩ : Addr).add k) = some u) := fun k u hk => by
    rw [Addr.add_lit]
    exact (hb.cell (j * 2 + k)).trans (hca k u hk)
  have s3 : Hid (∀ t, t < news.length → (w.drew.cell? ⟨b, 0 + i * 2 + t, none⟩).isSome = true ∧ w.drew.frozen? ⟨b, 0 + i * 2 + t, none⟩ = false) := by
    intro t ht
    rw [hcl] at ht
    have : w.drew.cell? ⟨b, 0 + i * 2 + t, none⟩ = cur[0 + i * 2 + t]? := hb.cell _
    exact ⟨by rw [this, Array.getElem?_eq_getElem (by omega)]; rfl, hb.free _⟩
  obtain ⟨W1, hW1⟩ : ∃ W1, W1 = w.drew.setCells b (0 + i * 2) news := ⟨_, rfl⟩
  have hb1 : Bx W1 b (ovr cur (0 + i * 2) news) 38 := by rw [hW1]; exact (hb.drewN 1).ovr _ _
  have hclr := fun ty cc => run_clear_one W1 ty b ((n - 1) * 2) cc _ hb1 (by rw [ovr_size, hsz]; omega)
  have HW1 := Lib.hid hW1
  have hij : ¬ ((i : Int) = (j : Int)) := by omega
  have g1 : (j : Int) ≤ (n : Int) := by omega
  have g2 : (i : Int) ≤ (j : Int) := by omega
  have g3 : (0 : Int) ≤ (i : Int) := by omega
  have g4 : ¬ (c = j) := by omega
  have g5 : (n : Int) ≤ (c : Int) := by omega
  have g6 : (i : Int) ≤ (c : Int) := by omega
  have g7 : i ≤ c := by omega
  have g8 : j ≤ c := by omega
  have g9 : ¬ (n = i) := by omega
  have mixed : Try.prog.follows Departure.mixedOrders = true := by kernel_rfl
  have HNM := Lib.hid hm
  have hj1 : i + 1 ≤ j ∧ j ≤ i + 1 := by omega
  have HN1 := Lib.hid (show i + (n - j) = n - 1 by omega)
  have HN2 := Lib.hid (show n - (n - 1) = 1 by omega)
  have HNW := Lib.hid hnews
  have hcl2 : ∀ ty cc, (Builtin.clear_ #[22] ty #[.slice (some ⟨b, (n - 1) * 2, none⟩) (n - (n - 1)) cc]).run Try.prog W1 = .ok (.tuple #[]) (W1.setCells b ((n - 1) * 2) [.slice none 0 0, .slice none 0 0]) := fun ty cc => by rw [HN2.out]; exact hclr ty cc
  clear hclr
  clear hb hb1 hW1 hca hcl hj hm hnews
  rw [← HW1.out]
  go_enter Try.func87, Try.ntmps87
  go_wp2_with fail
  go_region_law_o (refine step_append_room rfl (.tmp 22) (.tmp 25) 22 rfl 38 i0 2 Try.underlying22 hi0 hz1 b 0 i c (by simp [Act.eval, Act.put]) ⟨b, j * 2, none⟩ (n - j) (c - j) news (by simp [Act.eval, Act.put]) s1.out s0.out s2.out (by omega) s3.out ?_; rw [← HW1.out])
  rw [HN1.out]
  go_wp2_with (simp only [hcl2])
  go_ret
  exact ⟨rfl, rfl⟩
end Go.Proofs.Ytkkmcgapbcikiaa
end

section
/- run of a runner, where more is kept. -/
namespace Go.Proofs.Ytkkmcgapbcikiaa
open Go.RowKit

/-- Blocks of other types than the runner's are kept. -/
def KeptR (w w' : World) : Prop := ∀ t, t ≠ (106 : TypeId) → KeptT t w w'
theorem KeptR.refl (w : World) : KeptR w w := fun _ _ => KeptT.refl _ _
theorem KeptR.trans {a b c : World} (h : KeptR a b) (k : KeptR b c) : KeptR a c := fun t ht => (h t ht).trans (k t ht)
theorem KeptR.below {a b c : World} (h : KeptR a b) (k : Below a.heap.size b c) : KeptR a c := fun t ht g cs e => (k.block g (heap_lt e)).trans (h t ht g cs e)

set_option maxHeartbeats 2000000 in
set_option maxRecDepth 100000 in
theorem prunk {W w : World} {g : Nat} {i st n : Nat} {A B D : Option Addr} {c d s k e : Nat} {nx ot : List (List Int)} {xs : List Int} (hM : Mok i st n nx ot) (hx : Lists W A n nx) (ho : Lists W B n ot) (hb : Below W.heap.size W w)
    (hR : Rnr w g i st A n c B n d s) (hg : W.heap.size ≤ g) (hs : s < n) (hD : Ints W D k xs) (hS : ∀ x, x ∈ xs → 0 ≤ x ∧ x < i) :
    Calls Try.prog 78 #[.pointer (some ⟨g, 0, none⟩), .slice D k e] w fun e w' => ∃ A' c', e = .returned (.slice A' k c') ∧ Owned w' w.heap.size (.slice A' k c') (runO nx ot s xs) ∧ Below W.heap.size W w' ∧ KeptR w w' := by
  have L := Lib.hid hD.1
  have hk := hD.2.1
  have HS := Lib.hid hS
  have HR := Lib.hid hR
  clear hS hR
  have hrn : (106 : TypeId) ≠ 3 := by decide
  have hWw := hb.size
  go_enter Try.func78, Try.ntmps78
  go_wp2
  go_loopw [5, 10] (fun v j wr => ∃ (q : Nat) (A' : Option Addr) (c' : Nat), q ≤ k ∧ j = .int .i64 q ∧ v = .slice A' q c' ∧ w.heap.size ≤ wr.heap.size ∧ KeptR w wr ∧ Owned wr w.heap.size (.slice A' q c') (runO nx ot s (xs.take q)) ∧ Below W.heap.size W wr ∧ Rnr wr g i st A n c B n d (runS nx s (xs.take q))) (fun _ j _ => k - (intOf j).toNat)
  case atStart => exact ⟨0, none, 0, Nat.zero_le _, rfl, rfl, Nat.le_refl _, KeptR.refl _, Owned.nil _ _, hb, HR.out⟩
  case round =>
    obtain ⟨q, A', c', hq, rfl, rfl, hsz, hkr, hown, hbr, hR⟩ := hrel
    have HKR := Lib.hid hkr
    clear hkr
    by_cases hlt : q < k
    · obtain ⟨b1, o1, rfl, _, hc1⟩ := (hD.below hbr).at_ hlt
      have hxm := HS.out (xs.getD q 0) (by rw [List.getD_eq_getElem?_getD, List.getElem?_eq_getElem (by rw [L.out]; exact hlt)]; exact List.getElem_mem _)
      have hO := Lib.hid (runO_next (nx := nx) (ot := ot) (s := s) (j := q) (xs := xs) (by rw [L.out]; exact hlt))
      have hT := Lib.hid (runS_next (nx := nx) (s := s) (j := q) (xs := xs) (by rw [L.out]; exact hlt))
      rw [show xs[q]?.getD 0 = xs.getD q 0 by simp] at hO hT
      generalize xs.getD q 0 = x at hc1 hxm hO hT
      obtain ⟨a, rfl⟩ : ∃ a : Nat, x = a := ⟨x.toNat, by omega⟩
      have ha : a < i := by omega
      rw [Int.toNat_natCast] at hO hT
      have hlast := hM.runS_lt (xs.take q) s hs (fun x hx => HS.out x (List.mem_of_mem_take hx))
      generalize hss : runS nx s (xs.take q) = s' at hR hO hT hlast
      have hlen : (runO nx ot s (xs.take q)).length = q := by rw [runO_len, List.length_take, L.out]; omega
      generalize runO nx ot s (xs.take q) = os at hown hO hlen
      have HL := Lib.hid hlen
      have HSS := Lib.hid hss
      have HRR := Lib.hid hR
      clear hss hlen
      have hset : ∀ q', Rnr ((wr.setCell ⟨g, 4, none⟩ (.int .i64 (nN nx s' a))).drewN q') g i st A n c B n d (nN nx s' a) := fun q' => hR.set (nN nx s' a) q'
      have HSET := Lib.hid hset
      have HKS : Hid (∀ q', KeptR w ((wr.setCell ⟨g, 4, none⟩ (.int .i64 (nN nx s' a))).drewN q')) := Lib.hid fun q' => HKR.out.trans (fun t ht => (KeptT.off hR ht _).trans (KeptT.drewN _ _ q'))
      have HSZ : Hid (∀ q', w.heap.size ≤ ((wr.setCell ⟨g, 4, none⟩ (.int .i64 (nN nx s' a))).drewN q').heap.size) := Lib.hid fun q' => by simpa using hsz
      have hoff : ∀ q', Owned ((wr.setCell ⟨g, 4, none⟩ (.int .i64 (nN nx s' a))).drewN q') w.heap.size (.slice A' q c') os := fun q' => hown.off hR hrn 4 _ q'
      have HOFF := Lib.hid hoff
      have hbs : ∀ q', Below W.heap.size W ((wr.setCell ⟨g, 4, none⟩ (.int .i64 (nN nx s' a))).drewN q') := fun q' => below_drewN (hbr.setCell (p := ⟨g, 4, none⟩) hg _) q'
      have HBS := Lib.hid hbs
      clear hset hoff hbs hR
      go_wp2_with fail
      refine (pstep hM hx ho hbr HRR.out hlast ha).mono ?_
      rintro e w1 ⟨rfl, q1, rfl⟩
      have h1 := HOFF.out q1
      have h2 := HBS.out q1
      have h3 := HSET.out q1
      have h5 := HKS.out q1
      have h6 := HSZ.out q1
      clear HOFF HBS HSET HKS HSZ
      generalize (wr.setCell ⟨g, 4, none⟩ (.int .i64 (nN nx s' a))).drewN q1 = w1 at h1 h2 h3 h5 h6 ⊢
      obtain ⟨A2, c2, w2, hr, ho2, hb2, hk2⟩ := run_append_one h1 (oN ot s' a) h6 (by rw [HL.out]; omega)
      rw [← hO.out] at ho2
      rw [HL.out] at hr ho2
      have h4 := Lib.hid (hk2 g _ _ h3 hrn)
      have h7 := Lib.hid (h5.below hb2)
      have h8 := Lib.hid (h2.trans (hb2.mono hWw))
      have h9 := Lib.hid (Nat.le_trans h6 hb2.size)
      clear hk2 hb2 h2 h5
      go_wp2_with (at_builtin; refine Lib.wpList_append_run _ rfl _ _ _ _ rfl _ _ rfl rfl _ _ hr ?_)
      go_roundw
      case rel => exact ⟨q + 1, A2, c2, by omega, by go_num, rfl, h9.out, h7.out, ho2, h8.out, by rw [hT.out]; exact h4.out⟩
      case measure => simp [intOf]; omega
    · obtain rfl : q = k := by omega
      have hall := Lib.hid (List.take_of_length_le (l := xs) (i := q) (by rw [L.out]; exact Nat.le_refl _))
      go_wp2
      go_ret
      rw [hall.out] at hown hR
      exact ⟨_, _, rfl, hown, hbr, HKR.out⟩
end Go.Proofs.Ytkkmcgapbcikiaa
end

section
/- Traces of words: what it returns. -/
namespace Go.Proofs.Ytkkmcgapbcikiaa
open Go.RowKit

/-- The traces of the words, and the error. -/
def trs (i st : Nat) (nx ot : List (List Int)) : List (List Int) → List (List Int × List Int) → List (List Int × List Int) × Int
  | [], l => (l, 0)
  | w :: ws, l => if chk w i = 0 then trs i st nx ot ws (l ++ [(w, runO nx ot st w)]) else ([], chk w i)
theorem trs_ok {i st j : Nat} {nx ot ws : List (List Int)} (h : j < ws.length) (hc : chk (ws.getD j []) i = 0) (l : List (List Int × List Int)) : trs i st nx ot (ws.drop j) l = trs i st nx ot (ws.drop (j + 1)) (l ++ [(ws.getD j [], runO nx ot st (ws.getD j []))]) := by
  rw [List.drop_eq_getElem_cons h]
  rw [List.getD_eq_getElem?_getD, List.getElem?_eq_getElem h] at hc ⊢
  show (if chk ws[j] i = 0 then _ else _) = _
  exact if_pos hc
theorem trs_bad {i st j : Nat} {nx ot ws : List (List Int)} (h : j < ws.length) (hc : ¬ chk (ws.getD j []) i = 0) (l : List (List Int × List Int)) : trs i st nx ot (ws.drop j) l = ([], chk (ws.getD j []) i) := by
  rw [List.drop_eq_getElem_cons h]
  rw [List.getD_eq_getElem?_getD, List.getElem?_eq_getElem h] at hc ⊢
  show (if chk ws[j] i = 0 then _ else _) = _
  exact if_neg hc
theorem trs_end {i st j : Nat} {nx ot ws : List (List Int)} (h : ws.length ≤ j) (l : List (List Int × List Int)) : trs i st nx ot (ws.drop j) l = (l, 0) := by
  rw [List.drop_eq_nil_of_le h]; rfl
theorem trs_len {i st : Nat} {nx ot : List (List Int)} : ∀ (ws : List (List Int)) (l : List (List Int × List Int)), (trs i st nx ot ws l).1.length ≤ l.length + ws.length
  | [], l => Nat.le_refl _
  | w :: ws, l => by
    unfold trs
    split
    · refine Nat.le_trans (trs_len ws _) ?_
      simp; omega
    · simp
theorem ret_trs {A : Option Addr} {l l' c : Nat} {k : IntKind} {y y' : Int} (h1 : l = l') (h3 : y = y') : Ending.returned (.tuple #[.slice A l c, .int k y]) = .returned (.tuple #[.slice A l' c, .int k y']) := by rw [h1, h3]

theorem one_word {w : World} {A : Option Addr} {n c : Nat} {xs : List Int} (h1 : Ints w A n xs) : Lists (w.alloc (.cells #[.slice A n c] 36)) (some ⟨w.heap.size, 0, none⟩) 1 [xs] := by
  have hb := alloc_below w (.cells #[.slice A n c] 36)
  refine ⟨rfl, by omega, fun _ => ⟨w.heap.size, 0, rfl, by simp, fun j hj => ?_⟩⟩
  have hc := fun j => cell_of_row (w.alloc (.cells #[.slice A n c] 36)) w.heap.size j _ 36 (0, 0) (heap_alloc_new w _)
  rw [Nat.zero_add, hc j]
  match j, hj with
  | 0, _ => exact ⟨_, n, c, rfl, h1.below hb⟩
theorem join_one {w : World} {A : Option Addr} {n c : Nat} {xs : List Int} (h1 : Ints w A n xs) :
    Calls Try.prog 49 #[.slice (some ⟨w.heap.size, 0, none⟩) 1 1] (w.alloc (.cells #[.slice A n c] 36)) fun e w' => ∃ A' c', e = .returned (.slice A' n c') ∧ Owned w' w.heap.size (.slice A' n c') xs ∧ Below w.heap.size w w' := by
  have e : [xs].flatten = xs := by simp
  refine (rjoin _ 1 1 [xs] _ (one_word h1) (by rw [e, h1.1]; exact h1.2.1)).mono ?_
  rintro e' w' ⟨v, rfl, ho, hb⟩
  rw [e] at ho
  obtain ⟨A', c', rfl⟩ := ho.form
  rw [h1.1] at ho ⊢
  exact ⟨A', c', rfl, ho.lower (by simp), bt (alloc_below _ _) hb⟩
theorem rcheckq (A : Option Addr) (n c : Nat) (k : Int) (xs : List Int) (w : World) (h : Ints w A n xs) :
    Calls Try.prog 38 #[.slice A n c, .int .i64 k] w fun e w' => e = .returned (.int .i64 (chk xs k)) ∧ ∃ q, w' = w.drewN q := (rcheck A n c k xs w h).mono fun _ _ ⟨h, e⟩ => ⟨h, 0, e.symm⟩
end Go.Proofs.Ytkkmcgapbcikiaa
end

section
/- The program: Traces. -/
namespace Go.Proofs.Ytkkmcgapbcikiaa
open Go.RowKit

theorem ptraces_bad (i st : Int) (A B C : Option Addr) (n c m d p e : Nat) (nx ot : List (List Int)) (E : Int) (w : World) (hx : Lists w A n nx) (ho : Lists w B m ot) (hE : vld i st nx ot = E) (hv : ¬ E = 0) :
    Calls Try.prog 57 #[.agg #[.int .i64 i, .int .i64 st, .slice A n c, .slice B m d], .slice C p e] w fun e w' => e = .returned (.tuple #[.slice none 0 0, .int .i64 E]) ∧ Below w.heap.size w w' := by
  have hb0 := alloc_below w (.cells #[.int .i64 i, .int .i64 st, .slice A n c, .slice B m d] 56)
  have hne : (E != 0) = true := by simpa using hv
  have HE := Lib.hid hE
  clear hE hv
  go_enter Try.func57, Try.ntmps57
  go_wp2_with fail
  refine (pvalid _ _ _ _ _ _ _ _ _ _ _ (hx.below hb0) (ho.below hb0)).mono ?_
  rintro e w1 ⟨rfl, b1⟩
  have hbb := bt hb0 b1
  rw [HE.out]
  clear hb0 b1
  go_wp2
  go_ret2
  exact ⟨rfl, hbb⟩

set_option maxHeartbeats 2000000 in
set_option maxRecDepth 100000 in
theorem ptraces_ok (i st n : Nat) (A B C : Option Addr) (c d p e : Nat) (nx ot ws : List (List Int)) (w : World) (hx : Lists w A n nx) (ho : Lists w B n ot) (hM : Mok i st n nx ot) (hW : Lists w C p ws) (hp : p ≤ 10000) :
    Calls Try.prog 57 #[.agg #[.int .i64 i, .int .i64 st, .slice A n c, .slice B n d], .slice C p e] w fun e w' => ∃ A' c', e = .returned (.tuple #[.slice A' (trs i st nx ot ws []).1.length c', .int .i64 (trs i st nx ot ws []).2]) ∧ OwnedT w' w.heap.size (.slice A' (trs i st nx ot ws []).1.length c') (trs i st nx ot ws []).1 ∧ Below w.heap.size w w' := by
  have HV := Lib.hid hM.vld
  have HW := Lib.hid hW.1
  have hb0 := alloc_below w (.cells #[.int .i64 i, .int .i64 st, .slice A n c, .slice B n d] 56)
  have HZ := Lib.hid (show (w.alloc (.cells #[.int .i64 i, .int .i64 st, .slice A n c, .slice B n d] 56)).heap.size = w.heap.size + 1 by simp)
  have hstn := hM.st
  have d0 : decide ((10000 : Int) < (p : Int)) = false := by simp; omega
  obtain ⟨R, hR⟩ : ∃ R, R = trs i st nx ot ws [] := ⟨_, rfl⟩
  have HR := Lib.hid (show R = trs i st nx ot (ws.drop 0) [] by rw [List.drop_zero]; exact hR)
  rw [← hR]
  clear hR
  go_enter Try.func57, Try.ntmps57
  go_wp2_with fail
  refine (pvalid _ _ _ _ _ _ _ _ _ _ _ (hx.below hb0) (ho.below hb0)).mono ?_
  rintro e w1 ⟨rfl, b1⟩
  rw [HZ.out] at b1
  rw [HV.out]
  go_wp2
  go_loopw [7, 22] (fun v jv wr => ∃ (l : List (List Int × List Int)) (j : Nat) (A' : Option Addr) (c' : Nat), j ≤ p ∧ jv = .int .i64 j ∧ v = .slice A' l.length c' ∧ l.length ≤ j ∧ R = trs i st nx ot (ws.drop j) l ∧ OwnedT wr (w.heap.size + 1) (.slice A' l.length c') l ∧ Below (w.heap.size + 1) (w.alloc (.cells #[.int .i64 i, .int .i64 st, .slice A n c, .slice B n d] 56)) wr) (fun _ jv _ => p - (intOf jv).toNat)
  case atStart => exact ⟨[], 0, none, 0, Nat.zero_le _, rfl, rfl, Nat.zero_le _, HR.out, OwnedT.nil _ _, b1⟩
  case round =>
    obtain ⟨l, j, A', c', hj, rfl, rfl, hll, hB, hown, hbr⟩ := hrel
    have HB := Lib.hid hB
    clear hB
    obtain ⟨k0, k1, k2, k3⟩ := box4 hbr
    have hbw := hb0.trans (hbr.mono (Nat.le_succ _))
    by_cases hlt : j < p
    · obtain ⟨g1, p1, A1, n1, c1, rfl, hg1, hd1, hr1⟩ := hW.at_ hlt
      have e1 := (hbw.cell (p := ⟨g1, p1 + j, none⟩) hg1).trans hd1
      have hi1 := hr1.below hbw
      by_cases hc : chk (ws.getD j []) i = 0
      · have HNX := Lib.hid (HB.out.trans (trs_ok (st := st) (nx := nx) (ot := ot) (by rw [HW.out]; exact hlt) hc l))
        generalize ws.getD j [] = row at hr1 hi1 hc HNX
        have HC := Lib.hid hc
        have L1 := Lib.hid hr1.1
        have hn1 := hr1.2.1
        have hsz : w.heap.size + 1 ≤ wr.heap.size := by have := hbr.size; simpa using this
        have hsy := Lib.hid (chk_zero HC.out).2.2.2.mem
        have ba := alloc_below wr (.cells #[.int .i64 i, .int .i64 st, .slice A n c, .slice B n d, .int .i64 st] 106)
        have hR : Rnr (wr.alloc (.cells #[.int .i64 i, .int .i64 st, .slice A n c, .slice B n d, .int .i64 st] 106)) wr.heap.size i st A n c B n d st := heap_alloc_new wr _
        have HCL := Lib.hid (sclone A1 n1 c1 row _ (hi1.below ba))
        have HBA := Lib.hid (hbr.trans (ba.mono hsz))
        have HKA := Lib.hid (show ∀ t, KeptT t wr _ from fun t => KeptT.of_below ba)
        have HSA := Lib.hid (show wr.heap.size + 1 = (wr.alloc (.cells #[.int .i64 i, .int .i64 st, .slice A n c, .slice B n d, .int .i64 st] 106)).heap.size by simp)
        have HR := Lib.hid hR
        have HOW := Lib.hid hown
        have HI1 := Lib.hid hi1
        have HR1 := Lib.hid (hr1.below hb0)
        clear hc hR hown hbr ba hd1 hr1 hi1
        go_wp2_with fail
        refine (wcheck _ _ _ _ row _ HI1.out).mono ?_
        rintro e w2 ⟨rfl, rfl⟩
        rw [HC.out]
        go_wp2_with fail
        refine HCL.out.mono ?_
        rintro e w3 ⟨A3, c3, rfl, o3, b3⟩
        have hg3 : wr.heap.size < (wr.alloc (.cells #[.int .i64 i, .int .i64 st, .slice A n c, .slice B n d, .int .i64 st] 106)).heap.size := by simp
        have HR3 := Lib.hid (HR.out.kept b3 hg3)
        have HB3 := Lib.hid (HBA.out.trans (b3.mono (by rw [← HSA.out]; omega)))
        have HK3 := Lib.hid (show ∀ t, KeptT t wr w3 from fun t => (HKA.out t).trans (KeptT.of_below b3))
        have HO3 := Lib.hid o3
        have HI3 := Lib.hid (HI1.out.below (bt (alloc_below wr (.cells #[.int .i64 i, .int .i64 st, .slice A n c, .slice B n d, .int .i64 st] 106)) b3))
        have HS3 := Lib.hid (show wr.heap.size ≤ w3.heap.size from Nat.le_trans (by simp) b3.size)
        have HRUN := Lib.hid (prunk (W := w.alloc (.cells #[.int .i64 i, .int .i64 st, .slice A n c, .slice B n d] 56)) (e := c1) hM (hx.below hb0) (ho.below hb0) (by rw [HZ.out]; exact HB3.out) HR3.out (by rw [HZ.out]; exact hsz) hstn HR1.out hsy.out)
        clear b3 o3 hg3
        go_wp2_with fail
        refine HRUN.out.mono ?_
        rintro e w4 ⟨A4, c4, rfl, o4, b4, k4⟩
        rw [HZ.out] at b4
        have HO4 := Lib.hid (o4.lower (base' := w.heap.size + 1) (Nat.le_trans hsz HS3.out))
        have HX4 := Lib.hid ((HO3.out.keptT (k4 _ (by decide))).lower (base' := w.heap.size + 1) (by rw [← HSA.out]; omega))
        have HT4 := Lib.hid (HOW.out.keptT ((HK3.out _).trans (k4 _ (by decide))) ((HK3.out _).trans (k4 _ (by decide))))
        have hz4 : w.heap.size + 1 ≤ w4.heap.size := by have := b4.size; simpa using this
        obtain ⟨A5, c5, w5, hr5, h5, b5, _⟩ := run_append_trace HT4.out HX4.out HO4.out hz4 (by omega)
        have HT5 := Lib.hid h5
        have HB5 := Lib.hid (Below.trans b4 b5)
        have HL := Lib.hid (show (l ++ [(row, runO nx ot st row)]).length = l.length + 1 by simp)
        clear h5 b5 b4 k4 o4 k0 k1 k2 k3
        go_wp2_with (at_builtin; refine Lib.wpList_append_run _ rfl _ _ _ _ rfl _ _ rfl rfl _ _ hr5 ?_)
        go_roundw
        case rel => exact ⟨l ++ [(row, runO nx ot st row)], j + 1, A5, c5, by omega, by go_num, by rw [HL.out], by rw [HL.out]; omega, HNX.out, by rw [HL.out]; exact HT5.out, HB5.out⟩
        case measure => simp [intOf]; omega
      · have HNX := Lib.hid (HB.out.trans (trs_bad (st := st) (nx := nx) (ot := ot) (by rw [HW.out]; exact hlt) hc l))
        generalize ws.getD j [] = row at hr1 hi1 hc HNX
        have hne : (chk row i != 0) = true := by simpa using hc
        have HBW := Lib.hid hbw
        clear hc hown hbr hd1 hr1
        go_wp2_with fail
        refine (wcheck _ _ _ _ row _ hi1).mono ?_
        rintro e w2 ⟨rfl, rfl⟩
        generalize chk row i = E at hne HNX
        clear hi1 hbw
        go_wp2
        go_ret2
        rw [HNX.out]
        exact ⟨none, 0, rfl, OwnedT.nil _ _, HBW.out⟩
    · obtain rfl : j = p := by omega
      have HN := Lib.hid (HB.out.trans (trs_end (by rw [HW.out]; exact Nat.le_refl _) l))
      have HOW := Lib.hid (hown.lower (base' := w.heap.size) (Nat.le_succ _))
      have HBW := Lib.hid hbw
      clear hown hbr hbw
      go_wp2
      go_ret2
      rw [HN.out]
      exact ⟨A', c', rfl, HOW.out, HBW.out⟩
end Go.Proofs.Ytkkmcgapbcikiaa
end
