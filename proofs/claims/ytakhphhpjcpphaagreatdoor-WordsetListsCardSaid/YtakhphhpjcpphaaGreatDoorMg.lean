/- Lemmas of the proofs of this seat, of the parts Openb, Openw, Tab, Lstw. Conditions: none. -/
import Derived.Test.YtakhphhpjcpphaaGreatDoorMa
import Derived.Deep.Matrix
import Derived.Lib.SmallJoins
import Derived.ProofKit
import Derived.SizedLaws
import Derived.Test.YtakhphhpjcpphaaGreatDoorMd
import Derived.Test.YtakhphhpjcpphaaGreatDoorLaid
import Derived.Lib.LaidTab
import Derived.Lib.AppendIntMem
import Derived.Test.YtakhphhpjcpphaaGreatDoorMf
import Derived.Test.YtakhphhpjcpphaaGreatDoorMe
section
/- What the rows hand over: slices of numbers, with the form's reach. -/
namespace Go.Proofs.YtakhphhpjcpphaaGreatDoor
open Go.ChangeShapes Go.WideShapes Go.ChangeAt Go.RowKit Go.Joins Go.Deep

theorem bsz {w w' : World} {o : Obj} (h : Below (w.heap.size + 1) (w.alloc o) w') : w.heap.size + 1 ≤ w'.heap.size := by have := h.size; simpa using this

section
variable {H : Type} {enc : TypeId × Value → H}

/-- A change's contract with the reach at hand. -/
theorem handed_sized {C : Checked} {os : Os} {f : FuncId} {fn : Func} {s : ChangeSpec} {conds : List PathCond} {apart fresh handsOn again : Bool}
    (own : ownKnob C.prog.godebug = none) (started : os.Started) (noInit : C.prog.inits.idxOf? f = none) (hfn : C.prog.funcs[f]? = some fn)
    (witness : ∃ (w : World) (tape : Tape) (i : Input), w.os = os ∧ (w.forCall tape i).Shaped C.prog ∧ i.vars = [] ∧ Input.okWide C.prog (w.forCall tape i) .any w.heap.size f i ∧
      s.pre6 enc C.prog fn conds apart (w.forCall tape i).memory i.args ∧ ({} : Assume).holds C.prog (lone (Frame.enter C.prog f i.args .normal) [] (w.forCall tape i)))
    (contract : ∀ (W : World) (base : Nat) (args : Array Value) (ds gs : List (DataW H)) (before : List MemPlace),
      (∀ (j : Nat) t v, fn.params[j]? = some t → args[j]? = some v → Value.okWide C.prog W .any base t v) →
      DataW.Whole enc C.prog fn.params.toList s.vars apart W args.toList ds gs before →
      (DataW.weightsEach C.prog (fn.params.toList ++ s.plain.varTypes C.prog) (ds ++ gs)).all (· ≤ reachBytes) = true →
      Calls C.prog f args W fun e W' => ∃ v, e = .returned v ∧ s.post enc C.prog fn apart fresh handsOn again W args v W') :
    ReturnsInHanded {} C os f .any (s.pre6 enc C.prog fn conds apart) (s.post enc C.prog fn apart fresh handsOn again) := by
  have e : s.pre6 enc C.prog fn conds apart = fun w args => (s.pre enc C.prog fn conds apart w args ∧ True) ∧ sizedMet enc C.prog fn (OpenSpec.ofChange s) apart w args := by
    funext w args
    unfold ChangeSpec.pre6
    rw [and_true]
  rw [e] at witness ⊢
  exact returnsInHanded_of_change_and (X := fun _ _ => True) (fun _ _ _ _ _ => trivial) own started noInit hfn witness (fun W base args ds gs before h1 h2 _ h4 _ _ => contract W base args ds gs before h1 h2 h4)

/-- What a datum weighs is within the reach. -/
def Light (P : Program) (t : TypeId) (d : DataW H) : Prop := ∀ n ∈ d.weights P t, n ≤ reachBytes
theorem light_of {P : Program} {ts : List TypeId} {ds : List (DataW H)} (h : (DataW.weightsEach P ts ds).all (· ≤ reachBytes) = true) {j : Nat} {t : TypeId} {d : DataW H} (ht : ts[j]? = some t) (hd : ds[j]? = some d) : Light P t d := fun n hn => by
  have := List.all_eq_true.1 h _ (DataW.weights_mem_each ht hd n hn)
  simpa using this

theorem add_none {b off k : Nat} : (⟨b, off, none⟩ : Addr).add k = ⟨b, off + k, none⟩ := by unfold Addr.add; split <;> simp_all
theorem reach_num : reachBytes = 140737488351232 := rfl

variable {w : World} {base : Nat} {held : Bool} {fuel : Nat} {cs : List Value} {x : DataW H × List MemPlace}

/-- A slice of ints that came in. -/
theorem open_intsw (hb3 : Tryz.prog.bytesOf 3 = 8) (h : DataW.trod enc Tryz.prog w base (fun _ => true) held fuel 23 cs = some x) (hl : Light Tryz.prog 23 x.1) :
    ∃ A n c zs, cs = [.slice A n c] ∧ n ≤ c ∧ Ints w A n zs ∧ (∀ z, z ∈ zs → (Lit.int .i64 z).wf = true) := by
  rcases open_ints Tryz.underlying23 Tryz.underlying3 (by kernel_rfl) h with ⟨hcs, hx⟩ | ⟨a, l, c, zs, hcs, _, hlc, hm, hz, hx, hcell, hwz⟩
  · exact ⟨none, 0, 0, [], hcs, Nat.le_refl _, ⟨rfl, by omega, fun h => absurd h (by omega)⟩, by simp⟩
  · simp only [if_true] at hz
    subst hx
    have := hl (((lits (H := H) .i64 (zs.take l)).length + (lits (H := H) .i64 (zs.drop l)).length) * 8) (by simp [DataW.weights, Tryz.underlying23, hb3])
    rw [reach_num] at this
    simp only [lits, List.length_map, List.length_take, List.length_drop] at this
    have hb : l ≤ 17592186044416 := by omega
    exact ⟨some a, l, c, zs.take l, hcs, hlc, Ints.of_in (cap := c) hb (.inr ⟨a, rfl, hlc, hm, hz, hcell, hwz⟩), fun z hz => hwz z (List.mem_of_mem_take hz)⟩

theorem weightsAll_mem {P : Program} {e : TypeId} : ∀ {l : List (DataW H)} {d : DataW H} {n : Nat}, d ∈ l → n ∈ d.weights P e → n ∈ DataW.weightsAll P e l
  | [], _, _, h, _ => absurd h (by simp)
  | d0 :: l, d, n, h, hn => by
    rw [DataW.weightsAll, List.mem_append]
    rcases List.mem_cons.1 h with e | h
    · subst e; exact .inl hn
    · exact .inr (weightsAll_mem h hn)
end
end Go.Proofs.YtakhphhpjcpphaaGreatDoor
end

section
/- What the rows hand over: slices of lists, with capacities and ranges. -/
namespace Go.Proofs.YtakhphhpjcpphaaGreatDoor
open Go.ChangeShapes Go.WideShapes Go.ChangeAt Go.RowKit Go.Joins Go.Deep

section
variable {H : Type} {enc : TypeId × Value → H} {w : World} {base : Nat} {held : Bool} {fuel : Nat} {cs : List Value} {x : DataW H × List MemPlace}

/-- A slice of slices of ints that came in, none longer than its capacity, with their ranges. -/
theorem open_listsC (hb3 : Tryz.prog.bytesOf 3 = 8) (hb4 : Tryz.prog.bytesOf 23 = 24) (h : DataW.trod enc Tryz.prog w base (fun _ => true) held fuel 22 cs = some x) (hl : Light Tryz.prog 22 x.1) :
    ∃ A n c xss, cs = [.slice A n c] ∧ n ≤ c ∧ ListsC w A n xss ∧ ∀ l, l ∈ xss → In64 l := by
  rcases open_int_rows Tryz.underlying22 Tryz.underlying23 Tryz.underlying3 (by kernel_rfl) (by kernel_rfl) h with ⟨hcs, hx⟩ | ⟨a, l, c, A, L, C, Z, hcs, _, hlc, hm, hx, hcell⟩
  · exact ⟨none, 0, 0, [], hcs, Nat.le_refl _, ⟨rfl, by omega, fun h => absurd h (by omega)⟩, by simp⟩
  · subst hx
    refine ⟨some a, l, c, (List.range l).map fun r => (Z r).take (L r), hcs, hlc, ⟨by simp, ?_, fun h0 => ?_⟩, ?_⟩
    · have := hl ((((List.range l).map fun r => intRow (H := H) .i64 (A r) (L r) (Z r)).length + ((List.range (c - l)).map fun j => intRow (H := H) .i64 (A (l + j)) (L (l + j)) (Z (l + j))).length) * 24) (by simp [DataW.weights, Tryz.underlying22, hb4])
      rw [reach_num] at this
      simp only [List.length_map, List.length_range] at this
      omega
    · obtain ⟨b, off, spot⟩ := a
      have hc0 := (hcell 0 (by omega)).1
      have hspot : spot = none := by simpa [Addr.add] using World.cell?_spot hc0
      subst hspot
      refine ⟨b, off, rfl, by have := block_lt hc0; simpa [Addr.add] using this, fun j hj => ?_⟩
      obtain ⟨h1, h2, h3, h4, h5, h6, h7⟩ := hcell j (by omega)
      have e : ((List.range l).map fun r => (Z r).take (L r)).getD j [] = (Z j).take (L j) := by simp [List.getD, hj]
      rw [add_none] at h1
      refine ⟨A j, L j, C j, h1, h2, ?_⟩
      rw [e]
      cases hA : A j with
      | none =>
        have hC := h6 hA
        exact Ints.of_in (cap := C j) (by omega) (.inl ⟨rfl, by omega, hC, List.eq_nil_of_length_eq_zero (by omega)⟩)
      | some y =>
        have hw : Light Tryz.prog 23 (intRow (H := H) .i64 (A j) (L j) (Z j)) := fun n hn => hl n (by
          simp only [DataW.weights, Tryz.underlying22]
          exact List.mem_cons_of_mem _ (List.mem_append_left _ (weightsAll_mem (List.mem_map.2 ⟨j, List.mem_range.2 hj, rfl⟩) hn)))
        rw [hA] at hw
        have := hw (((lits (H := H) .i64 ((Z j).take (L j))).length + (lits (H := H) .i64 ((Z j).drop (L j))).length) * 8) (by simp [intRow, DataW.weights, Tryz.underlying23, hb3])
        rw [reach_num] at this
        simp only [lits, List.length_map, List.length_take, List.length_drop] at this
        exact Ints.of_in (cap := C j) (by omega) (.inr ⟨y, rfl, h2, h3, h4, fun i hi => (h7 y hA).2 i (by omega), h5⟩)
    · intro xs hxs z hz
      obtain ⟨r, hr, rfl⟩ := List.mem_map.1 hxs
      obtain ⟨h1, h2, h3, h4, h5, h6, h7⟩ := hcell r (by have := List.mem_range.1 hr; omega)
      exact i64_in (h5 z (List.mem_of_mem_take hz))
end
end Go.Proofs.YtakhphhpjcpphaaGreatDoor
end

section
/- The table of powers of ten, off the listed variables. -/
namespace Go.Proofs.YtakhphhpjcpphaaGreatDoor
open Go.Lib

theorem laidMetH_plain {w : World} (h : laidMetH Tryz.prog laidList w) : laidMet Tryz.prog laidList w := h
theorem tab_of_laid {w : World} (h : laidMetH Tryz.prog laidList w) : TabBelow Tryz.prog w.heap.size w "internal/strconv.uint64pow10" .u64 pow10Tab := by
  refine tabBelow_of_tabIs ?_
  obtain ⟨ps, h1, h2, h3⟩ := laidMetH_plain h
  obtain ⟨_, _, _, _, _, q1, _, _, _, _, h4, e1⟩ := h1
  obtain ⟨_, _, _, _, _, q2, _, _, _, _, h5, e2⟩ := h4
  have hm : laidMet Tryz.prog [("internal/strconv.uint64pow10", tabData .u64 pow10Tab)] w := by
    refine ⟨q2, ?_, ?_, ?_⟩
    · exact h5
    · rw [e1, e2] at h2
      exact (List.nodup_append.1 (List.nodup_append.1 h2).2.1).2.1
    · intro b off hb
      exact h3 b off (by rw [e1, e2]; exact List.mem_append_right _ (List.mem_append_right _ hb))
  exact tabIs_of_head (g := 0) (t := 108) (e := 83) (n := 20) (by kernel_rfl) (by kernel_rfl) Tryz.underlying108 Tryz.underlying83 (by kernel_rfl) (by kernel_rfl) hm
end Go.Proofs.YtakhphhpjcpphaaGreatDoor
end

section
/- The laws' walks: Lists. -/
namespace Go.Proofs.YtakhphhpjcpphaaGreatDoor
open Go.RowKit Go.Shelf

/-- The table of powers of ten, at w and later. -/
abbrev Tab (w : World) : Prop := Lib.TabBelow Tryz.prog w.heap.size w "internal/strconv.uint64pow10" .u64 Lib.pow10Tab
theorem psortL (W : World) (A : Option Addr) (n c : Nat) (xs ys : List (List Int)) (z : Nat) (h : ListsC W A n xs) (hn : n ≤ 30) (hL : ∀ x, x ∈ xs → x.length ≤ 30) (e : sw (xs) = ys) (hz : ys.length = z) (hz2 : z ≤ 1000) :
    Calls Tryz.prog 9 #[.slice A n c] W fun e w' => ∃ A' c', e = .returned (.slice A' z c') ∧ ListsC w' A' z ys ∧ Below W.heap.size W w' := by
  refine (psorted W A n c xs h (by omega)).mono ?_
  rintro e1 w1 ⟨v, rfl, o, b⟩
  rw [e] at o
  obtain ⟨A', c', rfl⟩ := o.form
  have := o.lists (by omega) (fun x hx => by rw [← e] at hx; have := sw_small hL x hx; omega)
  rw [hz] at this ⊢
  exact ⟨A', c', rfl, this, b⟩
theorem rsortL (W : World) (A : Option Addr) (n c : Nat) (xs ys : List (List Int)) (z : Nat) (h : ListsC W A n xs) (hn : n ≤ 30) (hL : ∀ x, x ∈ xs → x.length ≤ 30) (e : sw (xs) = ys) (hz : ys.length = z) (hz2 : z ≤ 1000) :
    Calls Tryz.prog 10 #[.slice A n c] W fun e w' => ∃ A' c', e = .returned (.slice A' z c') ∧ ListsC w' A' z ys ∧ Below W.heap.size W w' := by
  refine (rsorted W A n c xs h (by omega)).mono ?_
  rintro e1 w1 ⟨v, rfl, o, b⟩
  rw [e] at o
  obtain ⟨A', c', rfl⟩ := o.form
  have := o.lists (by omega) (fun x hx => by rw [← e] at hx; have := sw_small hL x hx; omega)
  rw [hz] at this ⊢
  exact ⟨A', c', rfl, this, b⟩
theorem ppreL (W : World) (A : Option Addr) (n c : Nat) (xs ys : List (List Int)) (z : Nat) (h : ListsC W A n xs) (hn : n ≤ 30) (hL : ∀ x, x ∈ xs → x.length ≤ 30) (e : sw (preS xs) = ys) (hz : ys.length = z) (hz2 : z ≤ 1000) :
    Calls Tryz.prog 13 #[.slice A n c] W fun e w' => ∃ A' c', e = .returned (.slice A' z c') ∧ ListsC w' A' z ys ∧ Below W.heap.size W w' := by
  refine (pPrefixes W A n c 30 xs h hL (by omega)).mono ?_
  rintro e1 w1 ⟨v, rfl, o, b⟩
  rw [e] at o
  obtain ⟨A', c', rfl⟩ := o.form
  have := o.lists (by omega) (fun x hx => by rw [← e] at hx; have := preS_small hL x hx; omega)
  rw [hz] at this ⊢
  exact ⟨A', c', rfl, this, b⟩
theorem rpreL (W : World) (A : Option Addr) (n c : Nat) (xs ys : List (List Int)) (z : Nat) (h : ListsC W A n xs) (hn : n ≤ 30) (hL : ∀ x, x ∈ xs → x.length ≤ 30) (e : sw (preS xs) = ys) (hz : ys.length = z) (hz2 : z ≤ 1000) :
    Calls Tryz.prog 14 #[.slice A n c] W fun e w' => ∃ A' c', e = .returned (.slice A' z c') ∧ ListsC w' A' z ys ∧ Below W.heap.size W w' := by
  refine (rprefixes W A n c 30 xs h hL (by omega) (by omega)).mono ?_
  rintro e1 w1 ⟨v, rfl, o, b⟩
  rw [e] at o
  obtain ⟨A', c', rfl⟩ := o.form
  have := o.lists (by omega) (fun x hx => by rw [← e] at hx; have := preS_small hL x hx; omega)
  rw [hz] at this ⊢
  exact ⟨A', c', rfl, this, b⟩
theorem psufL (W : World) (A : Option Addr) (n c : Nat) (xs ys : List (List Int)) (z : Nat) (h : ListsC W A n xs) (hn : n ≤ 30) (hL : ∀ x, x ∈ xs → x.length ≤ 30) (e : sw (sufS xs) = ys) (hz : ys.length = z) (hz2 : z ≤ 1000) :
    Calls Tryz.prog 15 #[.slice A n c] W fun e w' => ∃ A' c', e = .returned (.slice A' z c') ∧ ListsC w' A' z ys ∧ Below W.heap.size W w' := by
  refine (pSuffixes W A n c 30 xs h hL (by omega) (by omega)).mono ?_
  rintro e1 w1 ⟨v, rfl, o, b⟩
  rw [e] at o
  obtain ⟨A', c', rfl⟩ := o.form
  have := o.lists (by omega) (fun x hx => by rw [← e] at hx; have := sufS_small hL x hx; omega)
  rw [hz] at this ⊢
  exact ⟨A', c', rfl, this, b⟩
theorem rsufL (W : World) (A : Option Addr) (n c : Nat) (xs ys : List (List Int)) (z : Nat) (h : ListsC W A n xs) (hn : n ≤ 30) (hL : ∀ x, x ∈ xs → x.length ≤ 30) (e : sw (sufS xs) = ys) (hz : ys.length = z) (hz2 : z ≤ 1000) :
    Calls Tryz.prog 16 #[.slice A n c] W fun e w' => ∃ A' c', e = .returned (.slice A' z c') ∧ ListsC w' A' z ys ∧ Below W.heap.size W w' := by
  refine (rsuffixes W A n c 30 xs h hL (by omega) (by omega)).mono ?_
  rintro e1 w1 ⟨v, rfl, o, b⟩
  rw [e] at o
  obtain ⟨A', c', rfl⟩ := o.form
  have := o.lists (by omega) (fun x hx => by rw [← e] at hx; have := sufS_small hL x hx; omega)
  rw [hz] at this ⊢
  exact ⟨A', c', rfl, this, b⟩
theorem pmxL (W : World) (A : Option Addr) (n c : Nat) (xs ys : List (List Int)) (z : Nat) (h : ListsC W A n xs) (hn : n ≤ 30) (hL : ∀ x, x ∈ xs → x.length ≤ 30) (e : sw (maxS xs) = ys) (hz : ys.length = z) (hz2 : z ≤ 1000) :
    Calls Tryz.prog 17 #[.slice A n c] W fun e w' => ∃ A' c', e = .returned (.slice A' z c') ∧ ListsC w' A' z ys ∧ Below W.heap.size W w' := by
  refine (pMaximal W A n c xs h (by omega)).mono ?_
  rintro e1 w1 ⟨v, rfl, o, b⟩
  rw [e] at o
  obtain ⟨A', c', rfl⟩ := o.form
  have := o.lists (by omega) (fun x hx => by rw [← e] at hx; have := maxS_small hL x hx; omega)
  rw [hz] at this ⊢
  exact ⟨A', c', rfl, this, b⟩
theorem rmxL (W : World) (A : Option Addr) (n c : Nat) (xs ys : List (List Int)) (z : Nat) (h : ListsC W A n xs) (hn : n ≤ 30) (e : sw (maxS xs) = ys) (hz : ys.length = z) :
    Calls Tryz.prog 18 #[.slice A n c] W fun e w' => ∃ A' c', e = .returned (.slice A' z c') ∧ ListsC w' A' z ys ∧ Below W.heap.size W w' := by
  have := rmaximal W A n c xs h (by omega)
  rw [e, hz] at this
  exact this
theorem psizeL (W : World) (A : Option Addr) (n c : Nat) (xs : List (List Int)) (y z : Nat) (h : ListsC W A n xs) (hn : n ≤ 30) (hL : ∀ x, x ∈ xs → x.length ≤ 30) (e1 : (sw (maxS xs)).length = y) (e2 : symS (sw (maxS xs)) = z) :
    Calls Tryz.prog 6 #[.slice A n c] W fun e w' => e = .returned (.tuple #[.int .i64 y, .int .i64 z]) ∧ Below W.heap.size W w' := by
  have := pSize W A n c 30 xs h hL (by omega)
  rw [e1, e2] at this
  exact this
theorem rsizeL (W : World) (A : Option Addr) (n c : Nat) (xs : List (List Int)) (y z : Nat) (h : ListsC W A n xs) (hn : n ≤ 30) (hL : ∀ x, x ∈ xs → x.length ≤ 30) (e1 : (sw (maxS xs)).length = y) (e2 : symS (sw (maxS xs)) = z) :
    Calls Tryz.prog 7 #[.slice A n c] W fun e w' => e = .returned (.tuple #[.int .i64 y, .int .i64 z]) ∧ Below W.heap.size W w' := by
  have := rsizew W A n c 30 xs h hL (by omega) (by omega)
  rw [e1, e2] at this
  exact this

set_option maxHeartbeats 8000000 in
set_option maxRecDepth 100000 in
theorem lists_walk (A B : Option Addr) (n c m d : Nat) (l : List (List Int)) (ws : List Int) (w : World) (ha : ListsC w A n l) (hw : Ints w B m ws) (hs : Small l 30 30) (hm : m ≤ 30) (T : Tab w) :
    Calls Tryz.prog 3 #[.slice A n c, .slice B m d] w fun e w' => e = .returned (.bool true) ∧ Below w.heap.size w w' := by
  have TT := Lib.hid T
  have L0 := Lib.hid ha
  have W0 := Lib.hid hw
  have n1 : n ≤ 30 := by rw [← ha.1]; exact hs.1
  have SL := Lib.hid hs.2
  have G1 := Lib.hid (rgreatw w A n c 30 30 l false ha.lists (by rw [decide_eq_true hs]; rfl) (by omega))
  have i30 : ¬ (30 : Int) < (m : Int) := by omega
  have B0 := Lib.hid (Below.refl w.heap.size w)
  obtain ⟨s, hs'⟩ : ∃ s, sw l = s := ⟨_, rfl⟩
  obtain ⟨p, hp⟩ : ∃ p, sw (preS l) = p := ⟨_, rfl⟩
  obtain ⟨q, hq⟩ : ∃ q, sw (sufS l) = q := ⟨_, rfl⟩
  obtain ⟨t, ht⟩ : ∃ t, sw (maxS l) = t := ⟨_, rfl⟩
  obtain ⟨zs, hzs⟩ : ∃ z, s.length = z := ⟨_, rfl⟩
  obtain ⟨zp, hzp⟩ : ∃ z, p.length = z := ⟨_, rfl⟩
  obtain ⟨zq, hzq⟩ : ∃ z, q.length = z := ⟨_, rfl⟩
  obtain ⟨zt, hzt⟩ : ∃ z, t.length = z := ⟨_, rfl⟩
  obtain ⟨y2, hy2⟩ : ∃ y, symS (sw (maxS l)) = y := ⟨_, rfl⟩
  have ZS : zs ≤ 1000 := by rw [← hzs, ← hs']; have := sw_len l; rw [ha.1] at this; omega
  have ZT : zt ≤ 1000 := by rw [← hzt, ← ht]; have := sw_len (maxS l); have h2 := maxS_len l; rw [ha.1] at h2; omega
  have ZP : zp ≤ 1000 := by rw [← hzp, ← hp]; have := sw_len (preS l); have h2 := preS_len hs.2; rw [ha.1] at h2; omega
  have ZQ : zq ≤ 1000 := by rw [← hzq, ← hq]; have := sw_len (sufS l); have h2 := sufS_len hs.2; rw [ha.1] at h2; omega
  have ES := Lib.hid hs'
  have EP := Lib.hid hp
  have EQ := Lib.hid hq
  have ET := Lib.hid ht
  have NS := Lib.hid hzs
  have NP := Lib.hid hzp
  have NQ := Lib.hid hzq
  have NT := Lib.hid hzt
  have Y1 := Lib.hid (show (sw (maxS l)).length = zt by rw [ht]; exact hzt)
  have Y2 := Lib.hid hy2
  clear T ha hw hs hs' hp hq ht hzs hzp hzq hzt hy2
  go_enter Tryz.func3, Tryz.ntmps3
  go_wp2_with fail
  refine G1.out.mono ?_
  rintro e w' ⟨rfl, rfl⟩
  go_wp2_with fail
  refine (psizeL w A n c l zt y2 L0.out n1 SL.out Y1.out Y2.out).mono ?_
  rintro e w1 ⟨rfl, b⟩
  have B1 := Lib.hid (bt B0.out b)
  have L1 := Lib.hid (L0.out.below b)
  have W1 := Lib.hid (W0.out.below b)
  clear b L0 W0 B0
  go_wp2_with fail
  refine (rsizeL w1 A n c l zt y2 L1.out n1 SL.out Y1.out Y2.out).mono ?_
  rintro e w2 ⟨rfl, b⟩
  have B2 := Lib.hid (bt B1.out b)
  have L2 := Lib.hid (L1.out.below b)
  have W2 := Lib.hid (W1.out.below b)
  clear b L1 W1 B1
  go_wp2_with fail
  refine (psortL w2 A n c l s zs L2.out n1 SL.out ES.out NS.out ZS).mono ?_
  rintro e w3 ⟨XA, Xc, rfl, ln, b⟩
  have B3 := Lib.hid (bt B2.out b)
  have L3 := Lib.hid (L2.out.below b)
  have W3 := Lib.hid (W2.out.below b)
  clear b L2 W2 B2
  have X3 := Lib.hid ln
  clear ln
  go_wp2_with fail
  refine (rsortL w3 A n c l s zs L3.out n1 SL.out ES.out NS.out ZS).mono ?_
  rintro e w4 ⟨YA, Yc, rfl, ln, b⟩
  have B4 := Lib.hid (bt B3.out b)
  have L4 := Lib.hid (L3.out.below b)
  have W4 := Lib.hid (W3.out.below b)
  have X4 := Lib.hid (X3.out.below b)
  clear b L3 W3 X3 B3
  have Y4 := Lib.hid ln
  clear ln
  go_wp2_with fail
  refine (rsameWords XA YA zs Xc zs Yc s s true w4 X4.out.lists Y4.out.lists (by simp)).mono ?_
  rintro e w5 ⟨rfl, b0⟩
  have b := rd_below b0
  clear b0 X4 Y4
  have B5 := Lib.hid (bt B4.out b)
  have L5 := Lib.hid (L4.out.below b)
  have W5 := Lib.hid (W4.out.below b)
  clear b L4 W4 B4
  obtain ⟨g, hg⟩ : ∃ g, g = decide (ws ∈ l) := ⟨_, rfl⟩
  have HG := Lib.hid hg
  clear hg
  go_wp2_with fail
  refine (pHas w5 A B n c m d l ws g L5.out.lists W5.out HG.out).mono ?_
  rintro e w6 ⟨rfl, b⟩
  have B6 := Lib.hid (bt B5.out b)
  have L6 := Lib.hid (L5.out.below b)
  have W6 := Lib.hid (W5.out.below b)
  clear b L5 W5 B5
  go_wp2_with fail
  refine (rhas w6 A B n c m d l ws g L6.out.lists W6.out HG.out).mono ?_
  rintro e w7 ⟨rfl, b0⟩
  have b := rd_below b0
  clear b0 W6
  have B7 := Lib.hid (bt B6.out b)
  have L7 := Lib.hid (L6.out.below b)
  clear b L6 B6
  go_wp2_with fail
  refine (ppreL w7 A n c l p zp L7.out n1 SL.out EP.out NP.out ZP).mono ?_
  rintro e w8 ⟨XA, Xc, rfl, ln, b⟩
  have B8 := Lib.hid (bt B7.out b)
  have L8 := Lib.hid (L7.out.below b)
  clear b L7 B7
  have X8 := Lib.hid ln
  clear ln
  go_wp2_with fail
  refine (rpreL w8 A n c l p zp L8.out n1 SL.out EP.out NP.out ZP).mono ?_
  rintro e w9 ⟨YA, Yc, rfl, ln, b⟩
  have B9 := Lib.hid (bt B8.out b)
  have L9 := Lib.hid (L8.out.below b)
  have X9 := Lib.hid (X8.out.below b)
  clear b L8 X8 B8
  have Y9 := Lib.hid ln
  clear ln
  go_wp2_with fail
  refine (rsameWords XA YA zp Xc zp Yc p p true w9 X9.out.lists Y9.out.lists (by simp)).mono ?_
  rintro e w10 ⟨rfl, b0⟩
  have b := rd_below b0
  clear b0 X9 Y9
  have B10 := Lib.hid (bt B9.out b)
  have L10 := Lib.hid (L9.out.below b)
  clear b L9 B9
  go_wp2_with fail
  refine (psufL w10 A n c l q zq L10.out n1 SL.out EQ.out NQ.out ZQ).mono ?_
  rintro e w11 ⟨XA, Xc, rfl, ln, b⟩
  have B11 := Lib.hid (bt B10.out b)
  have L11 := Lib.hid (L10.out.below b)
  clear b L10 B10
  have X11 := Lib.hid ln
  clear ln
  go_wp2_with fail
  refine (rsufL w11 A n c l q zq L11.out n1 SL.out EQ.out NQ.out ZQ).mono ?_
  rintro e w12 ⟨YA, Yc, rfl, ln, b⟩
  have B12 := Lib.hid (bt B11.out b)
  have L12 := Lib.hid (L11.out.below b)
  have X12 := Lib.hid (X11.out.below b)
  clear b L11 X11 B11
  have Y12 := Lib.hid ln
  clear ln
  go_wp2_with fail
  refine (rsameWords XA YA zq Xc zq Yc q q true w12 X12.out.lists Y12.out.lists (by simp)).mono ?_
  rintro e w13 ⟨rfl, b0⟩
  have b := rd_below b0
  clear b0 X12 Y12
  have B13 := Lib.hid (bt B12.out b)
  have L13 := Lib.hid (L12.out.below b)
  clear b L12 B12
  go_wp2_with fail
  refine (pmxL w13 A n c l t zt L13.out n1 SL.out ET.out NT.out ZT).mono ?_
  rintro e w14 ⟨XA, Xc, rfl, ln, b⟩
  have B14 := Lib.hid (bt B13.out b)
  have L14 := Lib.hid (L13.out.below b)
  clear b L13 B13
  have X14 := Lib.hid ln
  clear ln
  go_wp2_with fail
  refine (rmxL w14 A n c l t zt L14.out n1 ET.out NT.out).mono ?_
  rintro e w15 ⟨YA, Yc, rfl, ln, b⟩
  have B15 := Lib.hid (bt B14.out b)
  have L15 := Lib.hid (L14.out.below b)
  have X15 := Lib.hid (X14.out.below b)
  clear b L14 X14 B14
  have Y15 := Lib.hid ln
  clear ln
  go_wp2_with fail
  refine (rsameWords XA YA zt Xc zt Yc t t true w15 X15.out.lists Y15.out.lists (by simp)).mono ?_
  rintro e w16 ⟨rfl, b0⟩
  have b := rd_below b0
  clear b0 X15 Y15
  have B16 := Lib.hid (bt B15.out b)
  have L16 := Lib.hid (L15.out.below b)
  clear b L15 B15
  go_wp2_with fail
  refine (awake w16 (tab_at TT.out B16.out)).mono ?_
  rintro e wz ⟨rfl, b⟩
  have BZ := Lib.hid (bt B16.out b)
  clear b
  go_wp2
  go_ret
  exact ⟨rfl, BZ.out⟩

set_option maxHeartbeats 2000000 in
set_option maxRecDepth 100000 in
theorem lists_in (A : Option Addr) (n c : Nat) (l : List (List Int)) (B : Option Addr) (m d : Nat) (ws : List Int) (w : World) (_ : n ≤ c) (ha : ListsC w A n l) (_ : ∀ x, x ∈ l → In64 x) (_ : m ≤ d) (hw : Ints w B m ws) (_ : ∀ z, z ∈ ws → (Lit.int .i64 z).wf = true) (T : Tab w) :
    Calls Tryz.prog 3 #[.slice A n c, .slice B m d] w fun e w' => e = .returned (.bool true) ∧ Below w.heap.size w w' := by
  by_cases hs : Small l 30 30
  · by_cases hm : m ≤ 30
    · exact lists_walk A B n c m d l ws w ha hw hs hm T
    · have G1 := Lib.hid (rgreatw w A n c 30 30 l false ha.lists (by rw [decide_eq_true hs]; rfl) (by omega))
      have TT := Lib.hid T
      have i30 : (30 : Int) < (m : Int) := by omega
      clear hs ha hw T hm
      go_enter Tryz.func3, Tryz.ntmps3
      go_wp2_with fail
      refine G1.out.mono ?_
      rintro e w' ⟨rfl, rfl⟩
      go_wp2_with fail
      refine (awake w TT.out).mono ?_
      rintro e w4 ⟨rfl, b4⟩
      go_wp2
      go_ret
      exact ⟨rfl, b4⟩
  · have G1 := Lib.hid (rgreatw w A n c 30 30 l true ha.lists (by rw [decide_eq_false hs]; rfl) (by omega))
    have TT := Lib.hid T
    clear hs ha hw T
    go_enter Tryz.func3, Tryz.ntmps3
    go_wp2_with fail
    refine G1.out.mono ?_
    rintro e w' ⟨rfl, rfl⟩
    go_wp2_with fail
    refine (awake w TT.out).mono ?_
    rintro e w4 ⟨rfl, b4⟩
    go_wp2
    go_ret
    exact ⟨rfl, b4⟩
end Go.Proofs.YtakhphhpjcpphaaGreatDoor
end
