/- A map of the call's own that numbers keys: the numbers are the places in a list of different keys. -/
import Derived.Test.YtnifjagjcoegaaaOwn
import Derived.Maps.OwnSet
import Derived.Maps.Views
import Derived.DeepKeys4
namespace Go.Proofs.Ytnifjagjcoegaaa
open Go.RowKit
open Go.Maps (Keyed)

theorem laidOutB_ : laidOutB Try.prog = true := by kernel_rfl

/-- What a type of maps from keys to ints asks. -/
structure KeyT (t k : TypeId) : Prop where
  und : Try.prog.underlying t = some (.map k 3)
  law : Keyed Try.prog k

/-- A key: ints in a row. -/
def kv (x : List Int) : Value := .agg (x.map (Value.int .i64)).toArray
theorem map_int_inj : ∀ {x y : List Int}, x.map (Value.int .i64) = y.map (Value.int .i64) → x = y
  | [], [], _ => rfl
  | [], _ :: _, h => by simp at h
  | _ :: _, [], h => by simp at h
  | a :: x, b :: y, h => by
    simp only [List.map_cons, List.cons.injEq, Value.int.injEq, true_and] at h
    rw [h.1, map_int_inj h.2]
theorem kv_inj {x y : List Int} (h : kv x = kv y) : x = y := by
  unfold kv at h
  simp only [Value.agg.injEq] at h
  exact map_int_inj (by simpa using congrArg Array.toList h)
/-- What is a key. -/
def IsK (k : TypeId) (x : List Int) : Prop := ∃ l, keyOf Try.prog k (kv x) = some l

/-- Block b of w is a map from the keys ks to their places in ks. -/
def NumIs (k : TypeId) (w : World) (b : Nat) (ks : List (List Int)) : Prop :=
  ks.Nodup ∧ (∀ v, v ∈ ks → IsK k v) ∧ ks.length ≤ 17592186044416 ∧ ∃ D : DataW Unit, w.ownsMap Try.prog k (plainElem Try.prog 3) b ks.length D ∧ Maps.Tidy D ∧ Maps.size D = ks.length ∧
    ∀ v l, keyOf Try.prog k (kv v) = some l → Maps.has D l = decide (v ∈ ks) ∧ (v ∈ ks → ∀ z, D.atKey l z = .lit (.int .i64 (ks.idxOf v : Nat)))
theorem plainElem_i64 {a : Nat} (h : a ≤ 17592186044416) : plainElem (H := Unit) Try.prog 3 (.int .i64 a) = some (.lit (.int .i64 a), []) :=
  plainElem_int Try.underlying3 (by unfold Lit.wf; simp; have h1 : IntKind.i64.min = -9223372036854775808 := by decide
                                    have h2 : IntKind.i64.max = 9223372036854775807 := by decide
                                    omega)
theorem NumIs.made (k : TypeId) (w : World) : NumIs k (w.alloc (.map #[] 0)) w.heap.size [] := by
  refine ⟨by simp, by simp, by simp, .map [], World.ownsMap_made (H := Unit) w Try.prog k _, Maps.tidy_empty, rfl, fun v l h => ⟨rfl, by simp⟩⟩
theorem NumIs.kept {k : TypeId} {w w' : World} {b : Nat} {ks : List (List Int)} {r : Option Nat} (h : NumIs k w b ks) (hg : w.grownBy w' r) (hne : some b ≠ r) : NumIs k w' b ks := by
  obtain ⟨h1, h2, h3, D, h4, h5⟩ := h
  exact ⟨h1, h2, h3, D, h4.kept hg hne, h5⟩
theorem NumIs.lt {k : TypeId} {w : World} {b : Nat} {ks : List (List Int)} (h : NumIs k w b ks) : b < w.heap.size := by
  obtain ⟨h1, h2, h3, D, h4, h5⟩ := h
  exact h4.lt
theorem NumIs.block {k : TypeId} {w : World} {b : Nat} {ks : List (List Int)} (h : NumIs k w b ks) : ∃ es ck, w.heap[b]? = some (.map es ck) := by
  obtain ⟨_, _, _, D, ⟨es, ck, h1, _⟩, _⟩ := h
  exact ⟨es, ck, h1⟩
theorem NumIs.at_ {k : TypeId} {w w' : World} {b : Nat} {ks : List (List Int)} (h : NumIs k w b ks) (hb : w'.heap[b]? = w.heap[b]?) : NumIs k w' b ks := by
  obtain ⟨h1, h2, h3, D, ⟨es, ck, h4, h6⟩, h5⟩ := h
  exact ⟨h1, h2, h3, D, ⟨es, ck, hb.trans h4, h6⟩, h5⟩
theorem NumIs.below {k : TypeId} {w w' : World} {b B : Nat} {ks : List (List Int)} (h : NumIs k w b ks) (hb : Below B w w') (hB : b < B) : NumIs k w' b ks := h.at_ (hb.block b hB)
theorem NumIs.drewN {k : TypeId} {w : World} {b : Nat} {ks : List (List Int)} (h : NumIs k w b ks) (q : Nat) : NumIs k (w.drewN q) b ks := h.at_ rfl
theorem NumIs.setCell {k : TypeId} {w : World} {b : Nat} {ks : List (List Int)} (h : NumIs k w b ks) {a : Addr} (ha : b ≠ a.block) (u : Value) : NumIs k (w.setCell a u) b ks := by
  obtain ⟨h1, h2, h3, D, h4, h5⟩ := h
  exact ⟨h1, h2, h3, D, h4.setCell ha u, h5⟩
theorem NumIs.key {k : TypeId} {w : World} {b : Nat} {ks : List (List Int)} (h : NumIs k w b ks) {v : List Int} (hv : v ∈ ks) : IsK k v := h.2.1 v hv

/-- v, ok := m[key] at a key that is there, or not. -/
theorem NumIs.look_in {t k : TypeId} {w : World} {b : Nat} {ks : List (List Int)} (h : NumIs k w b ks) (T : KeyT t k) {v : List Int} (hv : v ∈ ks) :
    (Instr.lookup t (.map (some b)) (kv v) true).run Try.prog w = .ok (.tuple #[.int .i64 (ks.idxOf v : Nat), .bool true]) w := by
  obtain ⟨l, hl⟩ := h.key hv
  obtain ⟨h1, h2, h3, D, h4, h5, h6, h7⟩ := h
  obtain ⟨h8, h9⟩ := h7 v l hl
  obtain ⟨u, ps, hrun, hu⟩ := h4.look_ok T.law T.und (Try.zeroValue3 w) (plainElem_i64 (a := 0) (by omega)) hl
  rw [h9 hv] at hu
  obtain ⟨c, rfl, hc, _⟩ := plainElem_int_inv Try.underlying3 hu
  simp only [Prod.mk.injEq, DataW.lit.injEq, Lit.int.injEq, true_and] at hc
  rw [hrun, h8, decide_eq_true hv, ← hc.1]
theorem NumIs.look_out {t k : TypeId} {w : World} {b : Nat} {ks : List (List Int)} (h : NumIs k w b ks) (T : KeyT t k) {v : List Int} (hk : IsK k v) (hv : ¬ v ∈ ks) :
    (Instr.lookup t (.map (some b)) (kv v) true).run Try.prog w = .ok (.tuple #[.int .i64 0, .bool false]) w := by
  obtain ⟨l, hl⟩ := hk
  obtain ⟨h1, h2, h3, D, h4, h5, h6, h7⟩ := h
  obtain ⟨h8, h9⟩ := h7 v l hl
  obtain ⟨u, ps, hrun, hu⟩ := h4.look_ok T.law T.und (Try.zeroValue3 w) (plainElem_i64 (a := 0) (by omega)) hl
  rw [decide_eq_false hv] at h8
  rw [Maps.atKey_of_not_has h8] at hu
  obtain ⟨c, rfl, hc, _⟩ := plainElem_int_inv Try.underlying3 hu
  simp only [Prod.mk.injEq, DataW.lit.injEq, Lit.int.injEq, true_and] at hc
  rw [hrun, h8, ← hc.1]; rfl
theorem NumIs.len {t k : TypeId} {w : World} {b : Nat} {ks : List (List Int)} (h : NumIs k w b ks) (T : KeyT t k) (ty : TypeId) : (Builtin.len_ #[t] ty #[.map (some b)]).run Try.prog w = .ok (.int .i64 (ks.length : Nat)) w := by
  obtain ⟨h1, h2, h3, D, h4, h5, h6, h7⟩ := h
  rw [h4.len T.und ty, h6]
/-- m[key] = len(m) at a key that is not there. -/
theorem NumIs.put {t k : TypeId} {w : World} {b : Nat} {ks : List (List Int)} (h : NumIs k w b ks) (T : KeyT t k) {v : List Int} (hk : IsK k v) (hv : ¬ v ∈ ks) (hn : ks.length < 17592186044416) :
    ∃ w', (Instr.mapUpdate t (.map (some b)) (kv v) (.int .i64 (ks.length : Nat))).run Try.prog w = .ok () w' ∧ NumIs k w' b (ks ++ [v]) ∧ w.grownBy w' (some b) := by
  obtain ⟨l, hl⟩ := hk
  obtain ⟨h1, h2, h3, D, h4, h5, h6, h7⟩ := h
  obtain ⟨h8, _⟩ := h7 v l hl
  rw [decide_eq_false hv] at h8
  obtain ⟨w', hrun, h9, h10⟩ := h4.update T.law T.und (by unfold maxLen; omega) hl (plainElem_i64 (a := ks.length) (by omega))
  refine ⟨w', hrun, ⟨?_, ?_, ?_, _, by rw [List.length_append]; exact h9, h5.put (T.law.key hl) _, ?_, fun u lu hu => ?_⟩, h10⟩
  · refine List.nodup_append.2 ⟨h1, by simp, fun a ha c hc => ?_⟩
    simp at hc; subst hc; intro e; subst e; exact hv ha
  · intro u hu
    rcases List.mem_append.1 hu with hu | hu
    · exact h2 u hu
    · simp at hu; subst hu; exact ⟨l, hl⟩
  · rw [List.length_append]; simp; omega
  · rw [Maps.size_put h5, h8, h6, List.length_append]; rfl
  · by_cases e : u = v
    · subst e
      have : lu = l := by rw [hl] at hu; exact (Option.some.inj hu).symm
      subst this
      refine ⟨by rw [Maps.has_put_same h5.isMap (T.law.key hl)]; simp, fun _ z => ?_⟩
      rw [Maps.atKey_put_same h5.isMap (T.law.key hl), List.idxOf_append, if_neg hv]
      simp
    · have hne : lu ≠ l := fun H => e (kv_inj (T.law.inj hu (H ▸ hl)))
      obtain ⟨h11, h12⟩ := h7 u lu hu
      refine ⟨by rw [Maps.has_put_other hne, h11]; simp [e], fun hm z => ?_⟩
      have hm : u ∈ ks := by
        rcases List.mem_append.1 hm with hm | hm
        · exact hm
        · simp at hm; exact absurd hm e
      rw [Maps.atKey_put_other hne, h12 hm, List.idxOf_append, if_pos hm]

theorem mapM_some {α β : Type} {f : α → Option β} : ∀ {l : List α}, (∀ x, x ∈ l → ∃ y, f x = some y) → ∃ ys, l.mapM f = some ys
  | [], _ => ⟨[], rfl⟩
  | x :: l, h => by
    obtain ⟨y, hy⟩ := h x (by simp)
    obtain ⟨ys, hys⟩ := mapM_some (l := l) fun z hz => h z (by simp [hz])
    exact ⟨y :: ys, by rw [List.mapM_cons, hy, hys]; rfl⟩
theorem keyLits_arr {t e : TypeId} {n D : Nat} {cs : List Value} (hu : Try.prog.underlying t = some (.array n e)) (hl : cs.length = Try.prog.cellsOf t)
    (h : ∀ i, i < n → ∃ l, Try.prog.keyLits D e ((cs.drop (i * Try.prog.cellsOf e)).take (Try.prog.cellsOf e)) = some l) : ∃ l, Try.prog.keyLits (D + 1) t cs = some l := by
  obtain ⟨ys, hys⟩ := mapM_some (f := fun i => Try.prog.keyLits D e ((cs.drop (i * Try.prog.cellsOf e)).take (Try.prog.cellsOf e))) (l := List.range n) fun i hi => h i (by simpa using hi)
  refine ⟨ys.flatten, ?_⟩
  unfold Program.keyLits
  rw [hu]
  simp only [if_pos hl]
  rw [hys]; rfl
/-- A number that an int holds. -/
def I64 (a : Int) : Prop := (Lit.int .i64 a).wf = true
theorem I64.mk {a : Int} (h1 : -9223372036854775808 ≤ a) (h2 : a ≤ 9223372036854775807) : I64 a := by
  unfold I64 Lit.wf
  have h3 : IntKind.i64.min = -9223372036854775808 := by decide
  have h4 : IntKind.i64.max = 9223372036854775807 := by decide
  simp
  omega
theorem keyLits_int {D : Nat} {a : Int} (h : I64 a) : ∃ l, Try.prog.keyLits (D + 1) 3 [.int .i64 a] = some l := by
  refine ⟨[.int .i64 a], ?_⟩
  unfold Program.keyLits
  rw [Try.underlying3]
  have h : (Lit.int .i64 a).wf = true := h
  simp [h]
/-- An array of n pairs of ints. -/
theorem keyOf_arr {t e : TypeId} {n : Nat} (hu : Try.prog.underlying t = some (.array n e)) (hc : ∀ x : List Int, x.length = Try.prog.cellsOf t → (∀ a, a ∈ x → I64 a) → ∃ l, Try.prog.keyLits (Try.prog.types.size + 1) t (x.map (Value.int .i64)) = some l)
    (hk : Try.prog.keyType t = true) {x : List Int} (hl : x.length = Try.prog.cellsOf t) (hx : ∀ a, a ∈ x → I64 a) : IsK t x := by
  obtain ⟨l, h⟩ := hc x hl hx
  refine ⟨.string (keyBytes l), ?_⟩
  unfold keyOf kv
  rw [hu]
  have hf : (Value.agg ((x.map (Value.int .i64)).toArray)).formed Try.prog t = true := by
    unfold Value.formed
    rw [hu]
    simp [hl]
  simp only [hk, hf, Bool.and_self, if_true]
  have e : (Value.agg ((x.map (Value.int .i64)).toArray)).cells.toList = x.map (Value.int .i64) := by simp [Value.cells]
  rw [e, h]; rfl
theorem keyLits_row {t : TypeId} {n D : Nat} (hu : Try.prog.underlying t = some (.array n 3)) (hc : Try.prog.cellsOf t = n) {x : List Int} (hl : x.length = n) (hx : ∀ a, a ∈ x → I64 a) : ∃ l, Try.prog.keyLits (D + 2) t (x.map (Value.int .i64)) = some l := by
  refine keyLits_arr hu (by simp [hl, hc]) fun j hj => ?_
  have h1 : Try.prog.cellsOf 3 = 1 := by kernel_rfl
  rw [h1, Nat.mul_one]
  have hj : j < x.length := by omega
  have e : ((x.map (Value.int .i64)).drop j).take 1 = [.int .i64 x[j]] := by
    rw [← List.map_drop, List.drop_eq_getElem_cons hj]; rfl
  rw [e]
  exact keyLits_int (hx _ (List.getElem_mem hj))
end Go.Proofs.Ytnifjagjcoegaaa
