/- Lemmas of the proofs of this seat, of the parts Sgnm, Sgn, Rfn, Rfnw, Eqm, Ptnw, Qtw, Pmn, Pmm, Pml, Isop, Isoq, Eqlb, Growi, Conci, Joinw, Hwrd, Hrun, Hcur, Cmpr. Conditions: none. -/
import Derived.Test.YtogcecfeofbbnaaHc
import Derived.Test.YtogcecfeofbbnaaHd
import Derived.Deep.MidRow
import Derived.Deep.RegionHeld3
import Derived.Test.YtogcecfeofbbnaaHa
import Derived.Test.YtogcecfeofbbnaaHb
import Derived.Test.YtogcecfeofbbnaaProg
import Derived.WalkSpells
import Derived.WalkLawsBesides
import Derived.Outline
import Derived.Lib.AppendZeros
import Derived.Deep.CutRange
import Derived.Deep.RegionLaw
section
/- The signature of a state. -/
namespace Go.Proofs.Ytogcecfeofbbnaa
open Go.RowKit

/-- A block that holds ints. -/
def Zblk (w : World) (g : Nat) (t : TypeId) (xs : List Int) : Prop := w.heap[g]? = some (.cells (xs.map (Value.int .i64)).toArray t (0, 0))
theorem Zblk.at_ {w : World} {g : Nat} {t : TypeId} {xs : List Int} (h : Zblk w g t xs) {j : Nat} (hj : j < xs.length) : w.cell? ⟨g, j, none⟩ = some (.int .i64 (xs.getD j 0)) ∧ w.frozen? ⟨g, j, none⟩ = false := by
  refine ⟨?_, frozen_of_row w g j _ _ h⟩
  rw [cell_of_row w g j _ _ (0, 0) h]
  simp [List.getD, hj]
theorem Zblk.set {w : World} {g : Nat} {t : TypeId} {xs : List Int} (h : Zblk w g t xs) (j : Nat) (x : Int) : Zblk (w.setCell ⟨g, j, none⟩ (.int .i64 x)) g t (xs.set j x) := by
  have := heap_setCell_same w g j _ _ (.int .i64 x) h
  unfold Zblk
  rw [this, List.map_set]
  simp
theorem Zblk.kept {w w' : World} {g : Nat} {t : TypeId} {xs : List Int} (h : Zblk w g t xs) {k : Nat} (hb : Below k w w') (hg : g < k) : Zblk w' g t xs := (hb.block g hg).trans h
theorem zero128 : Try.zeroCells176 = ((List.replicate 128 (0 : Int)).map (Value.int .i64)).toArray := by kernel_rfl
theorem Zblk.cells_ (g : Nat) (t : TypeId) : ∀ (ys xs pre : List Int) (w : World), Zblk w g t (pre ++ xs) → xs.length = ys.length → Zblk (w.setCells g pre.length (ys.map (Value.int .i64))) g t (pre ++ ys)
  | [], xs, pre, w, h, hl => by
    obtain rfl : xs = [] := List.eq_nil_of_length_eq_zero hl
    exact h
  | y :: ys, [], pre, w, h, hl => by simp at hl
  | y :: ys, x :: xs, pre, w, h, hl => by
    have h1 := h.set pre.length y
    rw [List.set_append_right _ _ (Nat.le_refl _), Nat.sub_self, List.set_cons_zero] at h1
    have h2 := Zblk.cells_ g t ys xs (pre ++ [y]) _ (by simpa using h1) (by simpa using hl)
    rw [List.length_append, List.append_assoc] at h2
    exact h2
theorem Zblk.whole {w : World} {g : Nat} {t : TypeId} {xs : List Int} (h : Zblk w g t xs) (ys : List Int) (hl : xs.length = ys.length) : Zblk (w.setCells g 0 (ys.map (Value.int .i64))) g t ys := Zblk.cells_ g t ys xs [] w h hl
theorem below_setCells (B g : Nat) (hB : B ≤ g) : ∀ (vs : List Value) (o : Nat) (w : World), Below B w (w.setCells g o vs)
  | [], _, _ => Below.refl _ _
  | v :: vs, o, w => ((Below.refl B w).setCell (p := ⟨g, o, none⟩) hB v).trans (below_setCells B g hB vs (o + 1) _)
theorem Zblk.there {w : World} {g : Nat} {t : TypeId} {xs : List Int} (h : Zblk w g t xs) (n : Nat) (hn : xs.length = n) : w.there g 0 n := fun j hj => by
  obtain ⟨h1, h2⟩ := h.at_ (j := j) (by omega)
  rw [Nat.zero_add, h1]
  exact ⟨rfl, h2⟩
end Go.Proofs.Ytogcecfeofbbnaa
end

section
/- The signature of a state: the walk. -/
namespace Go.Proofs.Ytogcecfeofbbnaa
open Go.RowKit

set_option maxHeartbeats 4000000 in
set_option maxRecDepth 100000 in
theorem psign (i st n s : Nat) (A B C : Option Addr) (c d cc : Nat) (nx ot : List (List Int)) (cl : List Nat) (w : World) (hx : Lists w A n nx) (ho : Lists w B n ot) (hM : Mok i st n nx ot) (hc : Ints w C n (zs cl)) (hs : s < n) :
    Calls Try.prog 147 #[.agg #[.int .i64 i, .int .i64 st, .slice A n c, .slice B n d], .slice C n cc, .int .i64 s] w fun e w' => e = .returned (kv (sgm nx ot cl s i)) ∧ Below w.heap.size w w' := by
  have hn := hx.2.1
  have hn2 := hM.n2
  have hi64 := hM.i2
  obtain ⟨g1, o1, A1, n1, c1, rfl, hg1, hd1, hr1⟩ := hx.at_ hs
  obtain ⟨g2, o2, A2, n2, c2, rfl, hg2, hd2, hr2⟩ := ho.at_ hs
  have hl1 := hr1.1
  have hl2 := hr2.1
  have hi1 := (hM.row s hs).1
  have hi2 := (hM.row s hs).2.1
  obtain rfl : n1 = i := by omega
  obtain rfl : n1 = n2 := by omega
  clear hl1 hl2 hi1 hi2
  obtain ⟨g, hg⟩ : ∃ g, g = w.heap.size := ⟨_, rfl⟩
  obtain ⟨w1, hw1⟩ : ∃ w1, w1 = w.alloc (.cells #[.int .i64 n1, .int .i64 st, .slice (some ⟨g1, o1, none⟩) n c, .slice (some ⟨g2, o2, none⟩) n d] 24) := ⟨_, rfl⟩
  have hb1 : Below w.heap.size w w1 := by rw [hw1]; exact alloc_below _ _
  have hz1 : w1.heap.size = g + 1 := by rw [hw1, hg]; simp
  have hB1 : Mblk w1 g (.int .i64 n1) (.int .i64 st) (.slice (some ⟨g1, o1, none⟩) n c) (.slice (some ⟨g2, o2, none⟩) n d) := by rw [hw1, hg]; exact heap_alloc_new _ _
  obtain ⟨w2, hw2⟩ : ∃ w2, w2 = w1.alloc (.cells Try.zeroCells176 176) := ⟨_, rfl⟩
  have hb2 : Below w1.heap.size w1 w2 := by rw [hw2]; exact alloc_below _ _
  have hz2 : w2.heap.size = g + 2 := by rw [hw2]; simp; omega
  have hR2 : Zblk w2 (g + 1) 176 (List.replicate 128 0) := by rw [hw2, ← hz1, zero128]; exact heap_alloc_new _ _
  obtain ⟨w3, hw3⟩ : ∃ w3, w3 = w2.alloc (.cells Try.zeroCells176 176) := ⟨_, rfl⟩
  have hb3 : Below w2.heap.size w2 w3 := by rw [hw3]; exact alloc_below _ _
  have hz3 : w3.heap.size = g + 3 := by rw [hw3]; simp; omega
  have hS3 : Zblk w3 (g + 2) 176 (List.replicate 128 0) := by rw [hw3, ← hz2, zero128]; exact heap_alloc_new _ _
  have hbw3 : Below w.heap.size w w3 := bt hb1 (hb2.trans (hb3.mono (by omega)))
  have hB3 := hB1.kept (hb2.trans (hb3.mono (by omega))) (show g < w1.heap.size by omega)
  have hR3 := hR2.kept hb3 (by omega)
  have e1 := (hbw3.cell (p := ⟨g1, o1 + s, none⟩) hg1).trans hd1
  have HW : Hid (w3 = ((w.alloc (.cells #[.int .i64 n1, .int .i64 st, .slice (some ⟨g1, o1, none⟩) n c, .slice (some ⟨g2, o2, none⟩) n d] 24)).alloc (.cells Try.zeroCells176 176)).alloc (.cells Try.zeroCells176 176)) := Lib.hid (by rw [hw3, hw2, hw1])
  have HG := Lib.hid hg
  rw [hw3, hw2, hw1] at e1
  have HZ3 := Lib.hid hz3
  have HR3 := Lib.hid hR3
  have HB3 := Lib.hid hB3
  have HS3 := Lib.hid hS3
  have hs0 : (0 : Int) ≤ (s : Int) := by omega
  clear hw1 hw2 hw3 hz1 hz2 hz3 hb1 hb2 hb3 hB1 hR2 hg hB3 hR3 hS3
  go_enter Try.func147, Try.ntmps147
  go_wp2
  rw [← HW.out]
  try rw [← HG.out]
  clear e1
  go_loopw [16] (fun kv wr => ∃ a : Nat, a ≤ n1 ∧ kv = .int .i64 a ∧ Zblk wr (g + 2) 176 (sgm nx ot cl s a) ∧ Below (g + 2) w3 wr) (fun kv _ => n1 - (intOf kv).toNat)
  case atStart => exact ⟨0, Nat.zero_le _, rfl, by rw [sgm_zero]; exact HS3.out, Below.refl _ _⟩
  case round =>
    obtain ⟨a, ha, rfl, hS, hbr⟩ := hrel
    have hbW : Below w.heap.size w wr := hbw3.trans (hbr.mono (by have := hg1; rw [← HG.out]; omega))
    have hbox := HB3.out.kept hbr (show g < g + 2 by omega)
    obtain ⟨k0, k1, k2, k3, _⟩ := hbox.cells
    have hzr := hbr.size
    have hzr3 : g + 2 < wr.heap.size := by rw [HZ3.out] at hzr; omega
    by_cases hlt : a < n1
    · obtain ⟨b1, p1, rfl, hb1, hc1⟩ := hr1.at_ hlt
      have hc1 := (hbW.cell (p := ⟨b1, p1 + a, none⟩) hb1).trans hc1
      obtain ⟨b2, p2, rfl, hb2, hc2⟩ := hr2.at_ hlt
      have hc2 := (hbW.cell (p := ⟨b2, p2 + a, none⟩) hb2).trans hc2
      have e2 := (hbW.cell (p := ⟨g2, o2 + s, none⟩) hg2).trans hd2
      rw [hM.nN_eq hs hlt] at hc1
      have ht := hM.nN_lt hs hlt
      obtain ⟨b3, p3, rfl, hb3, hc3⟩ := hc.at_ ht
      have hc3 := (hbW.cell (p := ⟨b3, _, none⟩) hb3).trans hc3
      rw [zs_at] at hc3
      have lb : b2 < g + 2 ∧ b3 < g + 2 ∧ g2 < g + 2 := by have := HG.out; omega
      obtain ⟨lb2, lb3, lg2⟩ := lb
      have hnx := Lib.hid (sgm_succ nx ot cl s a)
      have hy : (ot.getD s []).getD a 0 = oN ot s a := rfl
      rw [hy] at hc2
      obtain ⟨q1, f1⟩ := hS.at_ (j := 2 * a) (by rw [sgm_len]; omega)
      obtain ⟨q2, f2⟩ := hS.at_ (j := 2 * a + 1) (by rw [sgm_len]; omega)
      have HS := Lib.hid hS
      generalize (sgm nx ot cl s a).getD (2 * a) 0 = u1 at q1
      generalize (sgm nx ot cl s a).getD (2 * a + 1) 0 = u2 at q2
      generalize oN ot s a = y at hc2 hnx
      generalize nN nx s a = t at hc1 ht hc3 hnx
      generalize cl.getD t 0 = z at hc3 hnx
      rw [Nat.mul_comm] at q1 f1 q2 f2
      have HY := Lib.hid hy
      clear hy hS hd1 hd2
      have j0 : (0 : Int) ≤ (a : Int) := by omega
      have j1 : (0 : Int) ≤ (t : Int) := by omega
      have j2 : (t : Int) < (n : Int) := by omega
      have j3 : (s : Int) < (n : Int) := by omega
      have j4 : (a : Int) < (n1 : Int) := by omega
      have j5 : (a : Int) < 64 := by omega
      have HK : Hid (∀ u v, ((wr.setCell ⟨g + 1 + 1, a * 2, none⟩ u).setCell ⟨g + 1 + 1, a * 2 + 1, none⟩ v).drew.cell? ⟨g, 3, none⟩ = some (.slice (some ⟨g2, o2, none⟩) n d) ∧ ((wr.setCell ⟨g + 1 + 1, a * 2, none⟩ u).setCell ⟨g + 1 + 1, a * 2 + 1, none⟩ v).drew.cell? ⟨g2, o2 + s, none⟩ = some (.slice (some ⟨b2, p2, none⟩) n1 c2) ∧ ((wr.setCell ⟨g + 1 + 1, a * 2, none⟩ u).setCell ⟨g + 1 + 1, a * 2 + 1, none⟩ v).drew.cell? ⟨b2, p2 + a, none⟩ = some (.int .i64 y) ∧ ((wr.setCell ⟨g + 1 + 1, a * 2, none⟩ u).setCell ⟨g + 1 + 1, a * 2 + 1, none⟩ v).drew.cell? ⟨b3, p3 + t, none⟩ = some (.int .i64 z)) := Lib.hid fun u v => by
        have h1 : Below (g + 2) wr (wr.setCell ⟨g + 1 + 1, a * 2, none⟩ u) := (Below.refl (g + 2) wr).setCell (p := ⟨g + 1 + 1, a * 2, none⟩) (Nat.le_refl (g + 2)) u
        have h2 : Below (g + 2) wr ((wr.setCell ⟨g + 1 + 1, a * 2, none⟩ u).setCell ⟨g + 1 + 1, a * 2 + 1, none⟩ v) := h1.setCell (p := ⟨g + 1 + 1, a * 2 + 1, none⟩) (Nat.le_refl (g + 2)) v
        have hk : Below (g + 2) wr (((wr.setCell ⟨g + 1 + 1, a * 2, none⟩ u).setCell ⟨g + 1 + 1, a * 2 + 1, none⟩ v).drew) := below_drewN h2 1
        exact ⟨(hk.cell (p := ⟨g, 3, none⟩) (show g < g + 2 by omega)).trans k3, (hk.cell (p := ⟨g2, o2 + s, none⟩) lg2).trans e2, (hk.cell (p := ⟨b2, p2 + a, none⟩) lb2).trans hc2, (hk.cell (p := ⟨b3, p3 + t, none⟩) lb3).trans hc3⟩
      go_wp2
      go_region_held3 (fun w' => w'.cell? ⟨g, 3, none⟩ = some (.slice (some ⟨g2, o2, none⟩) n d) ∧ w'.cell? ⟨g2, o2 + s, none⟩ = some (.slice (some ⟨b2, p2, none⟩) n1 c2) ∧ w'.cell? ⟨b2, p2 + a, none⟩ = some (.int .i64 y) ∧ w'.cell? ⟨b3, p3 + t, none⟩ = some (.int .i64 z)) (first | exact HK.out _ _ | exact ⟨k3, e2, hc2, hc3⟩ | go_keep) (fail)
      have hq1 := (HS.out.set (2 * a) y).set (2 * a + 1) (z : Int)
      rw [hnx.out] at hq1
      have hq2 : Below (g + 2) w3 ((wr.setCell ⟨g + 2, 2 * a, none⟩ (.int .i64 y)).setCell ⟨g + 2, 2 * a + 1, none⟩ (.int .i64 z)) := (hbr.setCell (p := ⟨g + 2, 2 * a, none⟩) (Nat.le_refl (g + 2)) _).setCell (p := ⟨g + 2, 2 * a + 1, none⟩) (Nat.le_refl (g + 2)) _
      rw [Nat.mul_comm 2 a] at hq1 hq2
      have HQ := Lib.hid (And.intro hq1 hq2)
      clear hq1 hq2
      go_wp2
      go_roundw
      case rel => exact ⟨a + 1, by omega, by go_num, HQ.out.1, below_drewN HQ.out.2 1⟩
      case measure => simp [intOf]; omega
    · obtain rfl : a = n1 := by omega
      have hR := HR3.out.kept hbr (show g + 1 < g + 2 by omega)
      have HS := Lib.hid hS
      have HR := Lib.hid hR
      have hWS := Lib.hid ((HR.out.whole (sgm nx ot cl s a) (by rw [sgm_len]; simp)))
      have hT := Lib.hid (HR.out.there 128 (by simp))
      have hBW := Lib.hid (hbW.trans (below_setCells w.heap.size (g + 1) (by rw [← HG.out]; omega) ((sgm nx ot cl s a).map (Value.int .i64)) 0 wr))
      have hsz : ((sgm nx ot cl s a).map (Value.int .i64)).toArray.size = 128 := by simp [sgm_len]
      have hone : ((sgm nx ot cl s a).map (Value.int .i64)).toArray.all (·.oneCell') = true := all_oneCell_toArray (fun v hv => by obtain ⟨x, _, rfl⟩ := List.mem_map.1 hv; rfl)
      have HSZ := Lib.hid hsz
      have HONE := Lib.hid hone
      clear hS hR hsz hone
      generalize hL : ((sgm nx ot cl s a).map (Value.int .i64)).toArray = cs at HSZ HONE
      have hS9 : wr.heap[g + 2]? = some (.cells cs 176 (0, 0)) := by rw [← hL]; exact HS.out
      have hL2 : cs.toList = (sgm nx ot cl s a).map (Value.int .i64) := by rw [← hL]
      have HL := Lib.hid hL
      have HL2 := Lib.hid hL2
      have HS9 := Lib.hid hS9
      clear hL hL2 hS9 k0 k1 k2 k3
      go_wp2_with (first
        | (refine wpList_load_row rfl 176 _ rfl (g + 2) rfl 176 cs (0, 0) _ HS9.out Try.underlying176 rfl (by rw [HSZ.out]; kernel_rfl) ?_)
        | (refine wpList_store_mid rfl 176 _ _ rfl (g + 1) 0 cs rfl rfl (by rw [HSZ.out]; exact hT.out) (by rw [HSZ.out]; kernel_rfl) HONE.out ?_))
      rw [HL2.out]
      refine bodyPost_ret (results_cell_row (by rfl) _ _ (g + 1) 176 _ (0, 0) _ rfl hWS.out Try.underlying176 rfl (by rw [List.size_toArray, List.length_map, sgm_len]; kernel_rfl)) rfl ⟨rfl, hBW.out⟩
end Go.Proofs.Ytogcecfeofbbnaa
end

section
/- One refinement of classes: the walk. -/
namespace Go.Proofs.Ytogcecfeofbbnaa
open Go.RowKit

theorem sigT : KeyT 173 176 := ⟨Try.underlying173, Go.Maps.Keyed.of_law (deep_law_laid laidOutB_ (m := 3) (by omega) (of_decide_eq_true (by kernel_rfl)) (by kernel_rfl) (by rw [Try.underlying176]))⟩

theorem sigK {x : List Int} (hl : x.length = 128) (hx : ∀ a, a ∈ x → I64 a) : IsK 176 x := by
  have c1 : Try.prog.cellsOf 176 = 128 := by kernel_rfl
  have c2 : Try.prog.cellsOf 174 = 2 := by kernel_rfl
  refine keyOf_arr Try.underlying176 (fun x hl hx => ?_) (by kernel_rfl) (by rw [c1, hl]) hx
  refine keyLits_arr Try.underlying176 (by simp [hl]) fun j hj => ?_
  rw [c2, ← List.map_drop, ← List.map_take]
  have e : Try.prog.types.size = (Try.prog.types.size - 2) + 2 := by kernel_rfl
  rw [e]
  refine keyLits_row Try.underlying174 c2 ?_ fun a ha => hx a (List.mem_of_mem_drop (List.mem_of_mem_take ha))
  rw [List.length_take, List.length_drop, hl, c1]; omega
theorem sgmK {i st n : Nat} {nx ot : List (List Int)} (hM : Mok i st n nx ot) {cl : List Nat} (hcl : ∀ t, t < n → cl.getD t 0 ≤ n) {s : Nat} (hs : s < n) : IsK 176 (sgm nx ot cl s i) := by
  refine sigK (sgm_len _ _ _ _ _) fun a ha => ?_
  obtain ⟨j, hj, rfl⟩ := List.getElem_of_mem ha
  rw [sgm_len] at hj
  have h := sgm_get nx ot cl s i j hj
  rw [List.getElem?_eq_getElem (by rw [sgm_len]; exact hj)] at h
  simp only [Option.some.injEq] at h
  rw [h]
  have hn := hM.n2
  by_cases e : j / 2 < i
  · rw [if_pos e]
    by_cases e2 : j % 2 = 0
    · rw [if_pos e2]
      have := (hM.row s hs).2.2 _ e
      unfold oN
      exact I64.mk (by omega) (by omega)
    · rw [if_neg e2]
      have := hcl _ (hM.nN_lt hs e)
      exact I64.mk (by omega) (by omega)
  · rw [if_neg e]; exact I64.mk (by omega) (by omega)
end Go.Proofs.Ytogcecfeofbbnaa
end

section
/- One refinement of classes: the walk. -/
namespace Go.Proofs.Ytogcecfeofbbnaa
open Go.RowKit

theorem Owned.apartMap {w w' : World} {base g n c b : Nat} {xs : List Int} (h : Owned w base (.slice (some ⟨g, 0, none⟩) n c) xs) (hg : w.grownBy w' (some b)) (hne : b ≠ g) : Owned w' base (.slice (some ⟨g, 0, none⟩) n c) xs :=
  World.ownsRow.kept h hg (.inr (by simp [Value.ownBlock]; exact fun e => hne e.symm))
/-- The key laid in a new block. -/
theorem sig_laid (w : World) (xs : List Int) (hl : xs.length = 128) (W : World) (hW : W = (w.alloc (.cells Try.zeroCells176 176)).setCells w.heap.size 0 (xs.map (Value.int .i64))) :
    Zblk W w.heap.size 176 xs ∧ Below w.heap.size w W ∧ w.heap.size < W.heap.size ∧ (w.alloc (.cells Try.zeroCells176 176)).there w.heap.size 0 128 := by
  have h1 : Zblk (w.alloc (.cells Try.zeroCells176 176)) w.heap.size 176 (List.replicate 128 0) := by rw [zero128]; exact heap_alloc_new _ _
  have h2 := h1.whole xs (by simp [hl])
  have h3 := below_setCells w.heap.size w.heap.size (Nat.le_refl _) (xs.map (Value.int .i64)) 0 (w.alloc (.cells Try.zeroCells176 176))
  rw [← hW] at h2 h3
  have h4 := h3.size
  simp at h4
  exact ⟨h2, (alloc_below _ _).trans h3, h4, h1.there 128 (by simp)⟩
theorem mid_set (l : List Int) (n k : Nat) (x : Int) (hl : l.length = n) (hk : k < n) (hx : l[k]? = some x) : (l.take k ++ List.replicate (n - k) 0).set k x = l.take (k + 1) ++ List.replicate (n - (k + 1)) 0 := by
  apply List.ext_getElem?
  intro j
  have h1 : (l.take k).length = k := by rw [List.length_take]; omega
  have h2 : (l.take (k + 1)).length = k + 1 := by rw [List.length_take]; omega
  rw [List.getElem?_set, List.length_append, h1, List.length_replicate]
  by_cases e : k = j
  · subst e
    rw [if_pos rfl, if_pos (by omega), List.getElem?_append_left (by omega), List.getElem?_take, if_pos (by omega), hx]
  · rw [if_neg e]
    by_cases e2 : j < k
    · rw [List.getElem?_append_left (by omega), List.getElem?_append_left (by omega), List.getElem?_take, List.getElem?_take, if_pos e2, if_pos (by omega)]
    · rw [List.getElem?_append_right (by omega), List.getElem?_append_right (by omega), h1, h2, List.getElem?_replicate, List.getElem?_replicate]
      by_cases e3 : j < n
      · rw [if_pos (by omega), if_pos (by omega)]
      · rw [if_neg (by omega), if_neg (by omega)]
theorem mid_len (l : List Int) (n k : Nat) (hl : l.length = n) (hk : k ≤ n) : (l.take k ++ List.replicate (n - k) 0).length = n := by
  rw [List.length_append, List.length_take, List.length_replicate]; omega

set_option maxHeartbeats 4000000 in
set_option maxRecDepth 100000 in
theorem prefine (i st n : Nat) (A B C : Option Addr) (c d cc : Nat) (nx ot : List (List Int)) (cl : List Nat) (w : World) (hx : Lists w A n nx) (ho : Lists w B n ot) (hM : Mok i st n nx ot) (hc : Ints w C n (zs cl)) (hcl : ∀ t, t < n → cl.getD t 0 ≤ n) :
    Calls Try.prog 138 #[.agg #[.int .i64 i, .int .i64 st, .slice A n c, .slice B n d], .slice C n cc] w fun e w' => ∃ A' c', e = .returned (.slice A' n c') ∧ Owned w' w.heap.size (.slice A' n c') (zs (num (fun s => sgm nx ot cl s i) n)) ∧ Below w.heap.size w w' := by
  have hn := hx.2.1
  have hn2 := hM.n2
  have hn1 := hM.n1
  have hlo := Lib.hid ho
  obtain ⟨g, hg⟩ : ∃ g, g = w.heap.size := ⟨_, rfl⟩
  obtain ⟨w1, hw1⟩ : ∃ w1, w1 = w.alloc (.cells #[.int .i64 i, .int .i64 st, .slice A n c, .slice B n d] 24) := ⟨_, rfl⟩
  have hb1 : Below w.heap.size w w1 := by rw [hw1]; exact alloc_below _ _
  have hz1 : w1.heap.size = g + 1 := by rw [hw1, hg]; simp
  have hB1 : Mblk w1 g (.int .i64 i) (.int .i64 st) (.slice A n c) (.slice B n d) := by rw [hw1, hg]; exact heap_alloc_new _ _
  obtain ⟨w2, hw2⟩ : ∃ w2, w2 = w1.alloc (.map #[] 0) := ⟨_, rfl⟩
  have hb2 : Below w1.heap.size w1 w2 := by rw [hw2]; exact alloc_below _ _
  have hz2 : w2.heap.size = g + 2 := by rw [hw2]; simp; omega
  have hN2 : NumIs 176 w2 (g + 1) [] := by rw [hw2, ← hz1]; exact NumIs.made _ _
  have hbw2 : Below w.heap.size w w2 := bt hb1 hb2
  have hB2 := hB1.kept hb2 (show g < w1.heap.size by omega)
  have HW : Hid (w2 = (w.alloc (.cells #[.int .i64 i, .int .i64 st, .slice A n c, .slice B n d] 24)).alloc (.map #[] 0)) := Lib.hid (by rw [hw2, hw1])
  have HG := Lib.hid hg
  have HB2 := Lib.hid hB2
  have HN2 := Lib.hid hN2
  have HZ2 := Lib.hid hz2
  have hmm := @run_makeMap Try.prog
  obtain ⟨f, hf⟩ : ∃ f : Nat → List Int, f = fun s => sgm nx ot cl s i := ⟨_, rfl⟩
  have HK := Lib.hid (show ∀ s, s < n → IsK 176 (f s) from fun s hs => by rw [hf]; exact sgmK hM hcl hs)
  have HL := Lib.hid (show ∀ s, (f s).length = 128 from fun s => by rw [hf]; exact sgm_len _ _ _ _ _)
  have HF := Lib.hid (show ∀ s, sgm nx ot cl s i = f s from fun s => by rw [hf])
  rw [← hf]
  clear hf
  clear hw1 hw2 hz1 hb1 hb2 hB1 hg hB2 hN2 hz2
  go_enter Try.func138, Try.ntmps138
  go_wp2_with (refine wpList_make_ints _ rfl _ _ rfl .i64 .i64 n rfl rfl hn ?_; intro w3 ho3 b3)
  clear hmm
  rw [← HW.out] at ho3 b3
  rw [HZ2.out] at ho3 b3
  try rw [← HW.out]
  try rw [HZ2.out]
  go_wp2
  try rw [← HG.out]
  have hB3 := (HB2.out.kept b3 (by omega))
  have hN3 := (HN2.out.below b3 (by omega))
  have HB3 := Lib.hid hB3
  have HN3 := Lib.hid hN3
  have HO3 := Lib.hid ho3
  have hz3 := b3.size
  rw [HZ2.out] at hz3
  have hbw3 : Below w.heap.size w w3 := hbw2.trans (b3.mono (by rw [← HG.out]; omega))
  clear hB3 hN3 ho3 HB2 HN2 b3
  go_loopw [17] (fun kv wr => ∃ s : Nat, s ≤ n ∧ kv = .int .i64 s ∧ NumIs 176 wr (g + 1) (grp f s) ∧ Owned wr (g + 2) (.slice (some ⟨g + 2, 0, none⟩) n n) (zs ((num f n).take s) ++ List.replicate (n - s) 0) ∧ Below (g + 1) w3 wr ∧ w3.heap.size ≤ wr.heap.size) (fun kv _ => n - (intOf kv).toNat)
  case atStart => exact ⟨0, Nat.zero_le _, rfl, HN3.out, by simpa [zs] using HO3.out, Below.refl _ _, Nat.le_refl _⟩
  case round =>
    obtain ⟨s, hs, rfl, hN, hO, hbr, hzr⟩ := hrel
    have hbW : Below w.heap.size w wr := hbw3.trans (hbr.mono (by rw [← HG.out]; omega))
    have hbox := HB3.out.kept hbr (show g < g + 1 by omega)
    obtain ⟨k0, k1, k2, k3, _⟩ := hbox.cells
    have HN := Lib.hid hN
    have HO := Lib.hid hO
    have HBR := Lib.hid hbr
    clear hN hO hbr
    by_cases hlt : s < n
    · go_wp2_with fail
      refine (psign _ _ _ _ _ _ _ _ _ _ _ _ cl _ (hx.below hbW) (hlo.out.below hbW) hM (hc.below hbW) hlt).mono ?_
      rintro e w4 ⟨rfl, b4⟩
      have hz4 := b4.size
      obtain ⟨W, hW⟩ : ∃ W, W = (w4.alloc (.cells Try.zeroCells176 176)).setCells w4.heap.size 0 ((sgm nx ot cl s i).map (Value.int .i64)) := ⟨_, rfl⟩
      obtain ⟨hZ, bW, hzW, hth⟩ := sig_laid w4 _ (sgm_len nx ot cl s i) W hW
      rw [HF.out s] at hZ hW ⊢
      have hK := HK.out s hlt
      have hl := HL.out s
      have hone : ((f s).map (Value.int .i64)).toArray.all (·.oneCell') = true := all_oneCell_toArray (fun v hv => by obtain ⟨x, _, rfl⟩ := List.mem_map.1 hv; rfl)
      have hsz : ((f s).map (Value.int .i64)).toArray.size = 128 := by simp [hl]
      have hbw4 : Below wr.heap.size wr W := bt b4 bW
      have hNW := HN.out.below hbw4 HN.out.lt
      have hOW := HO.out.kept hbw4
      have hkv : kv (f s) = .agg ((f s).map (Value.int .i64)).toArray := rfl
      rw [hkv]
      obtain ⟨cs, hcs⟩ : ∃ cs, cs = ((f s).map (Value.int .i64)).toArray := ⟨_, rfl⟩
      have hZ : W.heap[w4.heap.size]? = some (.cells cs 176 (0, 0)) := by rw [hcs]; exact hZ
      have hW2 : W = (w4.alloc (.cells Try.zeroCells176 176)).setCells w4.heap.size 0 cs.toList := by rw [hW, hcs]
      rw [← hcs] at hone hsz hkv ⊢
      have HKV := Lib.hid hkv
      have HZ := Lib.hid hZ
      have HW2 := Lib.hid hW2
      have HONE := Lib.hid hone
      have HSZ := Lib.hid hsz
      have HTH := Lib.hid hth
      have HCS := Lib.hid hcs
      have HNW := Lib.hid hNW
      have HOW := Lib.hid hOW
      have HBW := Lib.hid hbw4
      have hzW := bW.size
      have hbW9 : Below (g + 1) w3 W := HBR.out.trans (hbw4.mono (by omega))
      have hwl : (zs (num f n)).length = n := by rw [zs_len, num_len]
      have hnm : (zs (num f n))[s]? = some ((nmb f s : Nat) : Int) := by
        have := zs_at (num f n) s
        rw [num_at f hlt, List.getD_eq_getElem?_getD, List.getElem?_eq_getElem (by rw [hwl]; exact hlt)] at this
        rw [List.getElem?_eq_getElem (by rw [hwl]; exact hlt)]
        exact congrArg some this
      have htk : zs ((num f n).take s) = (zs (num f n)).take s := by simp [zs]
      have htk1 : zs ((num f n).take (s + 1)) = (zs (num f n)).take (s + 1) := by simp [zs]
      rw [htk] at hOW
      have hst := mid_set (zs (num f n)) n s _ hwl hlt hnm
      have hml := mid_len (zs (num f n)) n s hwl (by omega)
      have HST := Lib.hid hst
      have HML := Lib.hid hml
      have HTK := Lib.hid htk1
      generalize (zs (num f n)).take s ++ List.replicate (n - s) 0 = mid at hOW HST HML
      have HNW := Lib.hid hNW
      have HOW := Lib.hid hOW
      have HBW9 := Lib.hid hbW9
      clear hZ hW hW2 hone hsz hth hcs hkv hNW hOW hbw4 b4 k0 k1 k2 k3 hl hst hml htk1 htk hnm hwl hbW9 bW
      have hs0 : (0 : Int) ≤ (s : Int) := by omega
      have hz5 : wr.heap.size ≤ W.heap.size := by omega
      by_cases hin : f s ∈ grp f s
      · have hrun := HNW.out.look_in sigT hin
        rw [HKV.out, ← nmb_old f hin] at hrun
        have hg1 : grp f (s + 1) = grp f s := addK_in hin
        have HG1 := Lib.hid hg1
        have hO2 := HOW.out.stored s ((nmb f s : Nat) : Int)
        obtain ⟨bq, oq, eq, hbq, hcq⟩ := (HOW.out.ints (by rw [HML.out]; omega)).at_ hlt
        cases eq
        obtain ⟨gq, eg, _, _, hfz⟩ := HOW.out.head (by omega)
        cases eg
        have hfz := hfz s
        rw [Nat.zero_add] at hcq
        have hN2 := HNW.out.setCell (a := ⟨g + 2, s, none⟩) (by simp) (.int .i64 ((nmb f s : Nat) : Int))
        have hB2 := HBW9.out.setCell (p := ⟨g + 2, s, none⟩) (by simp) (.int .i64 ((nmb f s : Nat) : Int))
        have HR := Lib.hid (And.intro hO2 (And.intro hN2 hB2))
        clear hO2 hN2 hB2 hg1 hin hbq
        generalize nmb f s = v at hrun HR HST
        go_wp2_with (first
          | (refine wpList_store_mid rfl 176 _ _ rfl w4.heap.size 0 cs rfl rfl (by rw [HSZ.out]; exact HTH.out) (by rw [HSZ.out]; kernel_rfl) HONE.out ?_; rw [← HW2.out])
          | (refine wpList_load_row rfl 176 _ rfl w4.heap.size rfl 176 cs (0, 0) _ HZ.out Try.underlying176 rfl (by rw [HSZ.out]; kernel_rfl) ?_))
        go_roundw
        case rel => exact ⟨s + 1, by omega, by go_num, by rw [HG1.out]; exact HR.out.2.1, by rw [HTK.out, ← HST.out]; exact HR.out.1, HR.out.2.2, by simp; omega⟩
        case measure => simp [intOf]; omega
      · have hrun := HNW.out.look_out sigT hK hin
        have hlen := HNW.out.len sigT 3
        obtain ⟨w6, hup, hN6, hgr⟩ := HNW.out.put sigT hK hin (by have := grp_len f s; omega)
        rw [HKV.out] at hrun hup
        rw [← nmb_new f hin] at hlen hup
        have hg1 : grp f (s + 1) = grp f s ++ [f s] := addK_out hin
        have HG1 := Lib.hid hg1
        have hO6 := HOW.out.apartMap hgr (by omega)
        have hO2 := hO6.stored s ((nmb f s : Nat) : Int)
        obtain ⟨bq, oq, eq, hbq, hcq⟩ := (hO6.ints (by rw [HML.out]; omega)).at_ hlt
        cases eq
        obtain ⟨gq, eg, _, _, hfz⟩ := hO6.head (by omega)
        cases eg
        have hfz := hfz s
        rw [Nat.zero_add] at hcq
        have hN2 := hN6.setCell (a := ⟨g + 2, s, none⟩) (by simp) (.int .i64 ((nmb f s : Nat) : Int))
        have hB6 := HBW9.out.grown hgr (by omega) (fun k hk => by cases hk; omega)
        have hB2 := hB6.setCell (p := ⟨g + 2, s, none⟩) (by simp) (.int .i64 ((nmb f s : Nat) : Int))
        have HR := Lib.hid (And.intro hO2 (And.intro hN2 hB2))
        have hz6 := hgr.size
        clear hO2 hN2 hB2 hg1 hin hbq hO6 hN6 hgr hB6
        generalize nmb f s = v at hlen hup HR HST
        go_wp2_with (first
          | (refine wpList_store_mid rfl 176 _ _ rfl w4.heap.size 0 cs rfl rfl (by rw [HSZ.out]; exact HTH.out) (by rw [HSZ.out]; kernel_rfl) HONE.out ?_; rw [← HW2.out])
          | (refine wpList_load_row rfl 176 _ rfl w4.heap.size rfl 176 cs (0, 0) _ HZ.out Try.underlying176 rfl (by rw [HSZ.out]; kernel_rfl) ?_))
        go_roundw
        case rel => exact ⟨s + 1, by omega, by go_num, by rw [HG1.out]; exact HR.out.2.1, by rw [HTK.out, ← HST.out]; exact HR.out.1, HR.out.2.2, by simp; omega⟩
        case measure => simp [intOf]; omega
    · obtain rfl : s = n := by omega
      have hO := HO.out
      rw [List.take_of_length_le (by rw [num_len]; exact Nat.le_refl _), Nat.sub_self, List.replicate_zero, List.append_nil] at hO
      have HO2 := Lib.hid (hO.lower (base' := w.heap.size) (by rw [← HG.out]; omega))
      clear hO
      go_wp2
      go_ret
      exact ⟨_, _, rfl, HO2.out, hbW⟩
end Go.Proofs.Ytogcecfeofbbnaa
end

section
/- Lists and machines that are equal: Equal, EqualFunc, equal, Same; the reference's Ints, Lists, Same. -/
namespace Go.Proofs.Ytogcecfeofbbnaa
open Go.RowKit

set_option maxHeartbeats 1000000 in
theorem rints (A B : Option Addr) (n c m d : Nat) (xs ys : List Int) (b : Bool) (w : World) (hx : Ints w A n xs) (hy : Ints w B m ys) (hb : b = decide (xs = ys)) :
    Calls Try.prog 100 #[.slice A n c, .slice B m d] w fun e w' => e = .returned (.bool b) ∧ ∃ q, w' = w.drewN q := by
  have L1 := Lib.hid hx.1
  have L2 := Lib.hid hy.1
  have hn := hx.2.1
  have hm := hy.2.1
  by_cases hnm : n = m
  · subst hnm
    have HB := Lib.hid hb
    clear hb
    go_enter Try.func100, Try.ntmps100
    go_wp2
    go_loopw [5] (fun i wr => ∃ j q : Nat, j ≤ n ∧ i = .int .i64 j ∧ AgreeL 0 xs ys j ∧ wr = w.drewN q) (fun i _ => n - (intOf i).toNat)
    case atStart => exact ⟨0, 0, Nat.zero_le _, rfl, AgreeL.zero _ _ _, rfl⟩
    case round =>
      obtain ⟨j, q, hj, rfl, heq, rfl⟩ := hrel
      have HE := Lib.hid heq
      clear heq
      by_cases hlt : j < n
      · obtain ⟨g1, o1, rfl, _, hc1⟩ := hx.at_ hlt
        obtain ⟨g2, o2, rfl, _, hc2⟩ := hy.at_ hlt
        by_cases he : xs.getD j 0 = ys.getD j 0
        · have hnx := Lib.hid (HE.out.succ he)
          rw [← he] at hc2
          generalize xs.getD j 0 = y at hc1 hc2
          clear he
          go_wp2
          go_quiet (fail)
          go_wp2
          go_roundw
          case rel => exact ⟨j + 1, _, by omega, by go_num, hnx.out, rfl⟩
          case measure => simp [intOf]; omega
        · have hfin : Hid (b = false) := Lib.hid (HB.out.trans (decide_eq_false fun e => he (by rw [e])))
          have hne : (xs.getD j 0 != ys.getD j 0) = true := by simpa using he
          generalize xs.getD j 0 = y at hc1 hne
          generalize ys.getD j 0 = z at hc2 hne
          clear he
          go_wp2
          go_quiet (fail)
          go_wp2
          go_ret
          exact ⟨ret_bool hfin.out.symm, by first | exact ⟨_, rfl⟩ | exact ⟨_, World.drewN_drewN _ _ _⟩⟩
      · obtain rfl : j = n := by omega
        have hfin : Hid (b = true) := Lib.hid (HB.out.trans (decide_eq_true (HE.out.all L1.out L2.out)))
        go_wp2
        go_ret
        exact ⟨ret_bool hfin.out.symm, by first | exact ⟨_, rfl⟩ | exact ⟨_, World.drewN_drewN _ _ _⟩⟩
  · have hfin : Hid (b = false) := Lib.hid (hb.trans (decide_eq_false fun e => hnm (by rw [← L1.out, ← L2.out, e])))
    have hd : ((n : Int) != (m : Int)) = true := by simp; omega
    clear hnm hb
    go_enter Try.func100, Try.ntmps100
    go_wp2
    go_ret
    exact ⟨ret_bool hfin.out.symm, 0, rfl⟩

set_option maxHeartbeats 1000000 in
theorem sequal (A B : Option Addr) (n c m d : Nat) (xs ys : List Int) (b : Bool) (w : World) (hx : Ints w A n xs) (hy : Ints w B m ys) (hb : b = decide (xs = ys)) :
    Calls Try.prog 139 #[.slice A n c, .slice B m d] w fun e w' => e = .returned (.bool b) ∧ ∃ q, w' = w.drewN q := by
  have L1 := Lib.hid hx.1
  have L2 := Lib.hid hy.1
  have hn := hx.2.1
  have hm := hy.2.1
  by_cases hnm : n = m
  · subst hnm
    have HB := Lib.hid hb
    clear hb
    go_enter Try.func139, Try.ntmps139
    go_wp2
    go_loopw [13] (fun i wr => ∃ j q : Nat, j ≤ n ∧ i = .int .i64 j ∧ AgreeL 0 xs ys j ∧ wr = w.drewN q) (fun i _ => n - (intOf i).toNat)
    case atStart => exact ⟨0, 0, Nat.zero_le _, rfl, AgreeL.zero _ _ _, rfl⟩
    case round =>
      obtain ⟨j, q, hj, rfl, heq, rfl⟩ := hrel
      have HE := Lib.hid heq
      clear heq
      by_cases hlt : j < n
      · obtain ⟨g1, o1, rfl, _, hc1⟩ := hx.at_ hlt
        obtain ⟨g2, o2, rfl, _, hc2⟩ := hy.at_ hlt
        by_cases he : xs.getD j 0 = ys.getD j 0
        · have hnx := Lib.hid (HE.out.succ he)
          rw [← he] at hc2
          generalize xs.getD j 0 = y at hc1 hc2
          clear he
          go_wp2
          go_quiet (fail)
          go_wp2
          go_roundw
          case rel => exact ⟨j + 1, _, by omega, by go_num, hnx.out, rfl⟩
          case measure => simp [intOf]; omega
        · have hfin : Hid (b = false) := Lib.hid (HB.out.trans (decide_eq_false fun e => he (by rw [e])))
          have hne : (xs.getD j 0 != ys.getD j 0) = true := by simpa using he
          generalize xs.getD j 0 = y at hc1 hne
          generalize ys.getD j 0 = z at hc2 hne
          clear he
          go_wp2
          go_quiet (fail)
          go_wp2
          go_ret
          exact ⟨ret_bool hfin.out.symm, by first | exact ⟨_, rfl⟩ | exact ⟨_, World.drewN_drewN _ _ _⟩⟩
      · obtain rfl : j = n := by omega
        have hfin : Hid (b = true) := Lib.hid (HB.out.trans (decide_eq_true (HE.out.all L1.out L2.out)))
        go_wp2
        go_ret
        exact ⟨ret_bool hfin.out.symm, by first | exact ⟨_, rfl⟩ | exact ⟨_, World.drewN_drewN _ _ _⟩⟩
  · have hfin : Hid (b = false) := Lib.hid (hb.trans (decide_eq_false fun e => hnm (by rw [← L1.out, ← L2.out, e])))
    have hd : ((n : Int) != (m : Int)) = true := by simp; omega
    clear hnm hb
    go_enter Try.func139, Try.ntmps139
    go_wp2
    go_ret
    exact ⟨ret_bool hfin.out.symm, 0, rfl⟩

theorem drew_trans {w wr w2 : World} (h : ∃ q, wr = w.drewN q) (h2 : ∃ q, w2 = wr.drewN q) : ∃ q, w2 = w.drewN q := by
  obtain ⟨q, rfl⟩ := h2
  exact drew_more h q

set_option maxHeartbeats 1000000 in
theorem rlists (A B : Option Addr) (n c m d : Nat) (xs ys : List (List Int)) (b : Bool) (w : World) (hx : Lists w A n xs) (hy : Lists w B m ys) (hb : b = decide (xs = ys)) :
    Calls Try.prog 77 #[.slice A n c, .slice B m d] w fun e w' => e = .returned (.bool b) ∧ ∃ q, w' = w.drewN q := by
  have L1 := Lib.hid hx.1
  have L2 := Lib.hid hy.1
  have hn := hx.2.1
  have hm := hy.2.1
  by_cases hnm : n = m
  · subst hnm
    have HB := Lib.hid hb
    clear hb
    go_enter Try.func77, Try.ntmps77
    go_wp2
    go_loopw [5] (fun i wr => ∃ j : Nat, j ≤ n ∧ i = .int .i64 j ∧ AgreeL [] xs ys j ∧ ∃ q, wr = w.drewN q) (fun i _ => n - (intOf i).toNat)
    case atStart => exact ⟨0, Nat.zero_le _, rfl, AgreeL.zero _ _ _, 0, rfl⟩
    case round =>
      obtain ⟨j, hj, rfl, heq, hw⟩ := hrel
      have hx' : Lists wr A n xs := by obtain ⟨q, rfl⟩ := hw; exact hx
      have hy' : Lists wr B n ys := by obtain ⟨q, rfl⟩ := hw; exact hy
      have HW := Lib.hid hw
      clear hw
      have HE := Lib.hid heq
      clear heq
      by_cases hlt : j < n
      · obtain ⟨g1, o1, A1, n1, c1, rfl, _, hc1, hi1⟩ := hx'.at_ hlt
        obtain ⟨g2, o2, A2, n2, c2, rfl, _, hc2, hi2⟩ := hy'.at_ hlt
        by_cases he : xs.getD j [] = ys.getD j []
        · have hnx := Lib.hid (HE.out.succ he)
          have hd := Lib.hid ((decide_eq_true he).symm)
          clear he
          go_wp2
          go_quiet ((go_at_call 100; exact Calls.quiet_of (rints _ _ _ _ _ _ _ _ _ _ hi1 hi2 hd.out)))
          go_wp2
          go_roundw
          case rel => exact ⟨j + 1, by omega, by go_num, hnx.out, drew_more HW.out _⟩
          case measure => simp [intOf]; omega
        · have hfin : Hid (b = false) := Lib.hid (HB.out.trans (decide_eq_false fun e => he (by rw [e])))
          have hd := Lib.hid ((decide_eq_false he).symm)
          clear he
          go_wp2
          go_quiet ((go_at_call 100; exact Calls.quiet_of (rints _ _ _ _ _ _ _ _ _ _ hi1 hi2 hd.out)))
          go_wp2
          go_ret
          exact ⟨ret_bool hfin.out.symm, by first | exact drew_more HW.out _ | exact HW.out⟩
      · obtain rfl : j = n := by omega
        have hfin : Hid (b = true) := Lib.hid (HB.out.trans (decide_eq_true (HE.out.all L1.out L2.out)))
        go_wp2
        go_ret
        exact ⟨ret_bool hfin.out.symm, by first | exact drew_more HW.out _ | exact HW.out⟩
  · have hfin : Hid (b = false) := Lib.hid (hb.trans (decide_eq_false fun e => hnm (by rw [← L1.out, ← L2.out, e])))
    have hd : ((n : Int) != (m : Int)) = true := by simp; omega
    clear hnm hb
    go_enter Try.func77, Try.ntmps77
    go_wp2
    go_ret
    exact ⟨ret_bool hfin.out.symm, 0, rfl⟩

end Go.Proofs.Ytogcecfeofbbnaa
end

section
/- The classes for k: the walk. -/
namespace Go.Proofs.Ytogcecfeofbbnaa
open Go.RowKit

theorem Mok.pt_bd {i st n : Nat} {nx ot : List (List Int)} (_ : Mok i st n nx ot) (k : Nat) : ∀ t, t < n → (pt nx ot i n k).getD t 0 ≤ n := fun t ht => by
  have := cN_le (nx := nx) (ot := ot) (i := i) (k := k) ht
  unfold cN at this
  omega
/-- After how many rounds the program stops. -/
def rounds_ (nx ot : List (List Int)) (i n : Nat) (k : Int) : Nat := if k ≤ (dep nx ot i n : Int) then k.toNat else dep nx ot i n

set_option maxHeartbeats 4000000 in
set_option maxRecDepth 100000 in
theorem ppartn (i st n : Nat) (A B : Option Addr) (c d : Nat) (nx ot : List (List Int)) (k : Int) (w : World) (hx : Lists w A n nx) (ho : Lists w B n ot) (hM : Mok i st n nx ot) (hk : k ≤ 9223372036854775807) :
    Calls Try.prog 124 #[.agg #[.int .i64 i, .int .i64 st, .slice A n c, .slice B n d], .int .i64 k] w fun e w' => ∃ A' c', e = .returned (.tuple #[.slice A' n c', .int .i64 (rounds_ nx ot i n k : Nat)]) ∧ Owned w' w.heap.size (.slice A' n c') (zs (pt nx ot i n (rounds_ nx ot i n k))) ∧ Below w.heap.size w w' := by
  have hn := hx.2.1
  have hn2 := hM.n2
  have hn1 := hM.n1
  have hlo := Lib.hid ho
  obtain ⟨g, hg⟩ : ∃ g, g = w.heap.size := ⟨_, rfl⟩
  obtain ⟨w1, hw1⟩ : ∃ w1, w1 = w.alloc (.cells #[.int .i64 i, .int .i64 st, .slice A n c, .slice B n d] 24) := ⟨_, rfl⟩
  have hb1 : Below w.heap.size w w1 := by rw [hw1]; exact alloc_below _ _
  have hz1 : w1.heap.size = g + 1 := by rw [hw1, hg]; simp
  have hB1 : Mblk w1 g (.int .i64 i) (.int .i64 st) (.slice A n c) (.slice B n d) := by rw [hw1, hg]; exact heap_alloc_new _ _
  have HW := Lib.hid hw1
  have HG := Lib.hid hg
  have HB1 := Lib.hid hB1
  have HZ1 := Lib.hid hz1
  obtain ⟨R, hR⟩ : ∃ R, R = rounds_ nx ot i n k := ⟨_, rfl⟩
  have HR := Lib.hid hR
  have HS := Lib.hid (show ∀ j : Nat, (∀ m, m < j → pt nx ot i n (m + 1) ≠ pt nx ot i n m) → (j : Int) < k → pt nx ot i n (j + 1) = pt nx ot i n j → j = R from fun j h1 h2 h3 => by
    have h4 := hM.dep_eq h1 h3
    rw [hR]; unfold rounds_
    split
    · omega
    · exact h4)
  have HE := Lib.hid (show ∀ j : Nat, (∀ m, m < j → pt nx ot i n (m + 1) ≠ pt nx ot i n m) → (j : Int) ≤ max k 0 → ¬ (j : Int) < k → j = R ∧ max k 0 = (R : Int) from fun j h1 h2 h3 => by
    have h4 := hM.dep_le h1
    rw [hR]; unfold rounds_
    rw [if_pos (by omega)]
    omega)
  have HD := Lib.hid (show ∀ j : Nat, (∀ m, m < j → pt nx ot i n (m + 1) ≠ pt nx ot i n m) → j < n from fun j h1 => by
    have h4 := hM.dep_le h1
    have := hM.dep_lt
    omega)
  rw [← hR]
  clear hw1 hz1 hg hB1 hR
  go_enter Try.func124, Try.ntmps124
  have k2 := HB1.out.cells.2.2.1
  rw [HW.out] at k2
  try rw [HG.out] at k2
  go_wp2_with (refine wpList_make_ints _ rfl _ _ rfl .i64 .i64 n rfl rfl hn ?_; intro w3 ho3 b3)
  clear k2
  rw [← HW.out] at ho3 b3
  rw [HZ1.out] at ho3 b3
  try rw [← HW.out]
  try rw [HZ1.out]
  try rw [← HG.out]
  have hB3 := (HB1.out.kept b3 (by omega))
  have HB3 := Lib.hid hB3
  have hbw3 : Below w.heap.size w w3 := hb1.trans (b3.mono (by rw [← HG.out]; omega))
  have hO3 := Lib.hid (ho3.lower (base' := g) (by omega))
  have hz3 := b3.size
  rw [HZ1.out] at hz3
  clear hB3 ho3 b3
  go_wp2
  go_loopw [6, 7] (fun v6 v7 wr => ∃ (j : Nat) (A' : Option Addr) (c' : Nat), v7 = .int .i64 j ∧ v6 = .slice A' n c' ∧ Owned wr g (.slice A' n c') (zs (pt nx ot i n j)) ∧ Below w3.heap.size w3 wr ∧ (∀ m, m < j → pt nx ot i n (m + 1) ≠ pt nx ot i n m) ∧ (j : Int) ≤ max k 0) (fun _ v7 _ => n - (intOf v7).toNat)
  case atStart => exact ⟨0, _, _, rfl, rfl, by show Owned _ _ _ (zs (List.replicate n 0)); simpa [zs] using hO3.out, Below.refl _ _, fun m hm => absurd hm (by omega), by omega⟩
  case round =>
    obtain ⟨j, C, cc, rfl, rfl, hO, hbr, hbef, hjk⟩ := hrel
    have hzr := hbr.size
    have hbW : Below w.heap.size w wr := hbw3.trans (hbr.mono (by rw [← HG.out]; omega))
    have hbox := HB3.out.kept hbr (show g < w3.heap.size by omega)
    obtain ⟨k0, k1, k2, k3, _⟩ := hbox.cells
    have hI := Owned.ints hO (by rw [zs_len, pt_len]; exact hn)
    have hjn := HD.out j hbef
    have HO := Lib.hid hO
    have HBR := Lib.hid hbr
    have HBF := Lib.hid hbef
    clear hO hbr
    by_cases hlt : (j : Int) < k
    · have HRF := prefine i st n A B C c d cc nx ot (pt nx ot i n j) wr (hx.below hbW) (hlo.out.below hbW) hM hI (hM.pt_bd j)
      have e1 : zs (num (fun s => sgm nx ot (pt nx ot i n j) s i) n) = zs (pt nx ot i n (j + 1)) := rfl
      rw [e1] at HRF
      have hRF := Lib.hid HRF
      have hS := Lib.hid (HS.out j hbef hlt)
      have hN := Lib.hid (fun H : pt nx ot i n (j + 1) ≠ pt nx ot i n j => show ∀ m, m < j + 1 → pt nx ot i n (m + 1) ≠ pt nx ot i n m from fun m hm => by
        by_cases e2 : m = j
        · subst e2; exact H
        · exact hbef m (by omega))
      clear HRF e1 hbef
      by_cases heq : pt nx ot i n (j + 1) = pt nx ot i n j
      · have hjR := Lib.hid (hS.out heq)
        have HQ := Lib.hid (show (true : Bool) = decide (zs (pt nx ot i n (j + 1)) = zs (pt nx ot i n j)) by rw [heq]; simp)
        clear heq
        go_wp2_with fail
        refine hRF.out.mono ?_
        rintro e w4 ⟨A4, c4, rfl, hO4, b4⟩
        have hI4 := Owned.ints hO4 (by rw [zs_len, pt_len]; exact hn)
        have hI9 := hI.below b4
        have HO4 := Lib.hid hO4
        clear hO4
        go_wp2_with fail
        refine (sequal _ _ _ _ _ _ _ _ _ _ hI4 hI9 HQ.out).mono ?_
        rintro e w5 ⟨rfl, q, rfl⟩
        have HO9 := Lib.hid (show Owned (w4.drewN q) w.heap.size (.slice C n cc) (zs (pt nx ot i n R)) by have h9 := HO.out.kept b4; rw [← hjR.out, ← HG.out]; exact h9)
        clear k0 k1 k2 k3 hI hI4 hI9
        go_wp2
        go_ret2
        exact ⟨_, _, by rw [hjR.out]; rfl, HO9.out, below_drewN (bt hbW b4) q⟩
      · have HQ := Lib.hid (show (false : Bool) = decide (zs (pt nx ot i n (j + 1)) = zs (pt nx ot i n j)) from (decide_eq_false fun H => heq (zs_inj H)).symm)
        have hN1 := Lib.hid (hN.out heq)
        clear heq
        go_wp2_with fail
        refine hRF.out.mono ?_
        rintro e w4 ⟨A4, c4, rfl, hO4, b4⟩
        have hI4 := Owned.ints hO4 (by rw [zs_len, pt_len]; exact hn)
        have hI9 := hI.below b4
        have HO4 := Lib.hid hO4
        clear hO4
        go_wp2_with fail
        refine (sequal _ _ _ _ _ _ _ _ _ _ hI4 hI9 HQ.out).mono ?_
        rintro e w5 ⟨rfl, q, rfl⟩
        have HO9 := Lib.hid (show Owned (w4.drewN q) g (.slice A4 n c4) (zs (pt nx ot i n (j + 1))) from HO4.out.lower (by omega))
        have HB9 := Lib.hid (show Below w3.heap.size w3 (w4.drewN q) from below_drewN (HBR.out.trans (b4.mono hzr)) q)
        clear k0 k1 k2 k3 hI hI4 hI9
        go_wp2
        go_roundw
        case rel => exact ⟨j + 1, A4, c4, by go_num, rfl, HO9.out, HB9.out, hN1.out, by omega⟩
        case measure => simp [intOf]; omega
    · obtain ⟨hjR, hmx⟩ := HE.out j hbef hjk (by omega)
      have HO9 := Lib.hid (show Owned wr w.heap.size (.slice C n cc) (zs (pt nx ot i n R)) by rw [← hjR, ← HG.out]; exact HO.out)
      have HMX := Lib.hid hmx
      clear hjR hmx k0 k1 k2 k3 hI hbef
      go_wp2
      all_goals
        go_ret2
        have hmx := HMX.out
        exact ⟨_, _, by simp; omega, HO9.out, hbW⟩
end Go.Proofs.Ytogcecfeofbbnaa
end

section
/- The machine of classes: the walk. -/
namespace Go.Proofs.Ytogcecfeofbbnaa
open Go.RowKit

set_option maxHeartbeats 4000000 in
set_option maxRecDepth 100000 in
theorem pquot (i st n : Nat) (A B C : Option Addr) (c d cc : Nat) (nx ot : List (List Int)) (f : Nat → Nat) (w : World) (hx : Lists w A n nx) (ho : Lists w B n ot) (hM : Mok i st n nx ot) (hc : Ints w C n (zs (num f n))) :
    Calls Try.prog 84 #[.agg #[.int .i64 i, .int .i64 st, .slice A n c, .slice B n d], .slice C n cc] w fun e w' => ∃ A' c' B' d',
      e = .returned (.agg #[.int .i64 i, .int .i64 (nmb f st : Nat), .slice A' (reps f n).length c', .slice B' (reps f n).length d']) ∧
      OwnedL w' w.heap.size (.slice A' (reps f n).length c') (qN nx i f n) ∧ OwnedL w' w.heap.size (.slice B' (reps f n).length d') (qO ot f n) ∧ Below w.heap.size w w' := by
  have hn := hx.2.1
  have hn128 := hM.n2
  have hst := hM.st
  have hlo := Lib.hid ho
  obtain ⟨g, hg⟩ : ∃ g, g = w.heap.size := ⟨_, rfl⟩
  obtain ⟨w1, hw1⟩ : ∃ w1, w1 = w.alloc (.cells #[.int .i64 i, .int .i64 st, .slice A n c, .slice B n d] 24) := ⟨_, rfl⟩
  have hb1 : Below w.heap.size w w1 := by rw [hw1]; exact alloc_below _ _
  have hz1 : w1.heap.size = g + 1 := by rw [hw1, hg]; simp
  have hB1 : Mblk w1 g (.int .i64 i) (.int .i64 st) (.slice A n c) (.slice B n d) := by rw [hw1, hg]; exact heap_alloc_new _ _
  obtain ⟨w2, hw2⟩ : ∃ w2, w2 = w1.alloc (.cells #[.int .i64 0, .int .i64 0, .slice none 0 0, .slice none 0 0] 24) := ⟨_, rfl⟩
  have hb2 : Below w1.heap.size w1 w2 := by rw [hw2]; exact alloc_below _ _
  have hz2 : w2.heap.size = g + 2 := by rw [hw2]; simp; omega
  have hR2 : Mblk w2 (g + 1) (.int .i64 0) (.int .i64 0) (.slice none 0 0) (.slice none 0 0) := by rw [hw2, ← hz1]; exact heap_alloc_new _ _
  have hB2 := hB1.kept hb2 (show g < w1.heap.size by omega)
  have hbw2 : Below w.heap.size w w2 := bt hb1 hb2
  have HW : Hid (w2 = (w.alloc (.cells #[.int .i64 i, .int .i64 st, .slice A n c, .slice B n d] 24)).alloc (.cells #[.int .i64 0, .int .i64 0, .slice none 0 0, .slice none 0 0] 24)) := Lib.hid (by rw [hw2, hw1])
  have HG := Lib.hid hg
  have HZ2 := Lib.hid hz2
  have HB2 := Lib.hid hB2
  have HR2 := Lib.hid hR2
  obtain ⟨bc, oc, rfl, hbc, hcc⟩ := hc.at_ hst
  rw [zs_at, num_at f hst] at hcc
  have hcs := (hbw2.cell (p := ⟨bc, oc + st, none⟩) hbc).trans hcc
  obtain ⟨k0, k1, k2, k3, _⟩ := hB2.cells
  have j0 : (0 : Int) ≤ (st : Int) := by omega
  have j1 : (st : Int) < (n : Int) := by omega
  clear hw1 hw2 hz1 hb1 hb2 hB1 hR2 hg hB2 hcc hz2
  go_enter Try.func84, Try.ntmps84
  go_wp2_with fail
  rw [← HW.out]
  try rw [← HG.out]
  have n1 := World.new_ne w2 _ k0
  have n2 := World.new_ne w2 _ hcs
  go_region_held3 (fun w' => w'.cell? ⟨g, 0, none⟩ = some (.int .i64 i) ∧ w'.cell? ⟨g, 1, none⟩ = some (.int .i64 st) ∧ w'.cell? ⟨bc, oc + st, none⟩ = some (.int .i64 (nmb f st : Nat))) (go_keep) (fail)
  go_wp2
  obtain ⟨gT, hgT⟩ : ∃ gT, gT = w2.heap.size := ⟨_, rfl⟩
  have HT0 := Lib.hid (show Mblk ((w2.alloc (.cells #[.int .i64 i, .int .i64 (nmb f st : Nat), .slice none 0 0, .slice none 0 0] 24)).drew) gT (.int .i64 i) (.int .i64 (nmb f st : Nat)) (.slice none 0 0) (.slice none 0 0) by rw [hgT]; exact heap_alloc_new w2 _)
  have HL0 := Lib.hid (show Below gT w2 ((w2.alloc (.cells #[.int .i64 i, .int .i64 (nmb f st : Nat), .slice none 0 0, .slice none 0 0] 24)).drew) by rw [hgT]; exact below_drewN (alloc_below w2 _) 1)
  have hgT2 : g + 2 ≤ gT := by rw [hgT, HZ2.out]; exact Nat.le_refl _
  rw [← hgT]
  have HT := Lib.hid hgT
  obtain ⟨y0, hy0⟩ : ∃ y : Int, y = (nmb f st : Nat) := ⟨_, rfl⟩
  have HY0 := Lib.hid hy0
  rw [← hy0] at HT0 HL0 ⊢
  clear hgT n1 n2 k0 k1 k2 k3 hcs hy0
  go_loopw [20] (fun kv wr => ∃ (s : Nat) (AN AO : Option Addr) (cN cO : Nat), s ≤ n ∧ kv = .int .i64 s ∧ Below gT w2 wr ∧ Mblk wr gT (.int .i64 i) (.int .i64 y0) (.slice AN (reps f s).length cN) (.slice AO (reps f s).length cO) ∧
    OwnedL wr gT (.slice AN (reps f s).length cN) (qN nx i f s) ∧ OwnedL wr gT (.slice AO (reps f s).length cO) (qO ot f s) ∧ Apart (.slice AN (reps f s).length cN) (.slice AO (reps f s).length cO)) (fun kv _ => n - (intOf kv).toNat)
  case atStart => exact ⟨0, none, none, 0, 0, Nat.zero_le _, rfl, HL0.out, HT0.out, OwnedL.nil _ _, OwnedL.nil _ _, Apart.nil _⟩
  case round =>
    obtain ⟨s, AN, AO, cN, cO, hs, rfl, hbr, hT, hLN, hLO, hap⟩ := hrel
    have hbW : Below w.heap.size w wr := hbw2.trans (hbr.mono (by rw [← HG.out]; omega))
    have hzo : gT + 1 ≤ wr.heap.size := heap_lt hT
    have hbox := HB2.out.kept hbr (show g < gT by omega)
    have hkl := reps_le f s
    have HTT := Lib.hid hT
    have HLN := Lib.hid hLN
    have HLO := Lib.hid hLO
    have HAP := Lib.hid hap
    have HBR := Lib.hid hbr
    have HBX := Lib.hid hbox
    clear hT hLN hLO hap hbr hbox
    by_cases hlt : s < n
    · have hcw := hc.at_ hlt
      obtain ⟨bc', oc', e, hbc', hcc⟩ := hcw
      cases e
      rw [zs_at, num_at f hlt] at hcc
      have hcs := (hbW.cell (p := ⟨bc, oc + s, none⟩) hbc).trans hcc
      obtain ⟨c0, c1', c2', c3', f0, f1, f2, f3⟩ := HTT.out.cells
      have hsk := nmb_skip f s
      by_cases hin : f s ∈ grp f s
      · have hlt2 := hsk.2 hin
        have HQ1 := Lib.hid (qN_in (nx := nx) (i := i) hin)
        have HQ2 := Lib.hid (qO_in (ot := ot) hin)
        have HQ3 := Lib.hid (reps_in hin)
        clear hsk hin hcc
        generalize nmb f s = v at hcs hlt2
        go_wp2
        go_roundw
        case rel => exact ⟨s + 1, AN, AO, cN, cO, by omega, by go_num, HBR.out, by rw [HQ3.out]; exact HTT.out, by rw [HQ3.out, HQ1.out]; exact HLN.out, by rw [HQ3.out, HQ2.out]; exact HLO.out, by rw [HQ3.out]; exact HAP.out⟩
        case measure => simp [intOf]; omega
      · have hlt2 : ¬ nmb f s < (reps f s).length := fun H => hin (hsk.1 H)
        have HQ1 := Lib.hid (qN_out (nx := nx) (i := i) hin)
        have HQ2 := Lib.hid (qO_out (ot := ot) hin)
        have HQ3 := Lib.hid (show (reps f (s + 1)).length = (reps f s).length + 1 by rw [reps_out hin, List.length_append]; rfl)
        clear hsk hin hcc
        generalize nmb f s = v at hcs hlt2
        have hm1 : (reps f s).length < 1759218604441 := by omega
        generalize hm0 : (reps f s).length = m at *
        have HM0 := Lib.hid hm0
        clear hm0
        obtain ⟨g1, p1, A3, n1, c3, rfl, hg1, hd1, hr1⟩ := hx.at_ hlt
        obtain ⟨g2, p2, A4, n2, c4, rfl, hg2, hd2, hr2⟩ := hlo.out.at_ hlt
        have hi1 := (hM.row s hlt).1
        have hi2 := (hM.row s hlt).2.1
        have hl1 := hr1.1
        have hl2 := hr2.1
        obtain rfl : n1 = i := by omega
        obtain rfl : n1 = n2 := by omega
        have e1 := (hbW.cell (p := ⟨g1, p1 + s, none⟩) hg1).trans hd1
        have hi64 := hM.i2
        obtain ⟨k0, k1, k2, k3, _⟩ := HBX.out.cells
        clear hl1 hl2 hi2 hd1
        have HI1 := Lib.hid hi1
        clear hi1
        go_wp2_with fail
        refine (sclone _ _ _ _ _ (hr1.below hbW)).mono ?_
        rintro e w5 ⟨A5, c5, rfl, ho5, b5⟩
        have HO5 := Lib.hid ho5
        have HB5 := Lib.hid b5
        clear ho5 b5
        go_wp2
        obtain ⟨wc, rfl⟩ : ∃ wc : World, wc = wr := ⟨_, rfl⟩
        clear k0 k1 k2 k3 e1 c0 c1' c2' c3' f0 f1 f2 f3 hcs
        go_loopw [38] (fun av wq => ∃ a : Nat, a ≤ n1 ∧ av = .int .i64 a ∧ Owned wq wc.heap.size (.slice A5 n1 c5) (qmid nx n1 f s a) ∧ Below wc.heap.size wc wq) (fun av _ => n1 - (intOf av).toNat)
        case atStart => exact ⟨0, Nat.zero_le _, rfl, by rw [qmid_zero]; exact HO5.out, HB5.out⟩
        case round =>
          obtain ⟨a, ha, rfl, ho6, b6⟩ := hrel
          by_cases hla : a < n1
          · have hset := Lib.hid (qmid_set (f := f) HI1.out hla)
            have hat := Lib.hid ((qmid_at (nx := nx) (f := f) (s := s) hla).trans (hM.nN_eq hlt hla))
            have hml := Lib.hid (qmid_len (nx := nx) (f := f) (s := s) HI1.out (Nat.le_of_lt hla))
            have hmi : (qmid nx n1 f s a).length ≤ 17592186044416 := by rw [hml.out]; omega
            obtain ⟨g5, e5, hg5, hg5', hfz5⟩ := ho6.head (by omega)
            subst e5
            obtain ⟨bq, oq, eq, hbq, hcq⟩ := (ho6.ints hmi).at_ hla
            cases eq
            rw [hat.out, Nat.zero_add] at hcq
            have ht := hM.nN_lt hlt hla
            obtain ⟨bn, on, en, hbn, hcn⟩ := hc.at_ ht
            cases en
            rw [zs_at, num_at f ht] at hcn
            have hcn := ((hbW.trans (b6.mono (by have := hbW.size; exact this))).cell (p := ⟨bc, oc + nN nx s a, none⟩) hbc).trans hcn
            have hst := ho6.stored a ((nmb f (nN nx s a) : Nat) : Int)
            rw [hset.out] at hst
            have hbs := Lib.hid (b6.setCell (p := ⟨g5, a, none⟩) hg5 (.int .i64 ((nmb f (nN nx s a) : Nat) : Int)))
            have HSTT := Lib.hid hst
            have hf := hfz5 a
            clear hst ho6 b6 hfz5
            generalize nN nx s a = t at hcq ht hcn hset hbs HSTT
            generalize ((nmb f t : Nat) : Int) = tv at hcn hbs HSTT
            go_wp2
            go_roundw
            case rel => exact ⟨a + 1, by omega, by go_num, HSTT.out, hbs.out⟩
            case measure => simp [intOf]; omega
          · obtain rfl : a = n1 := by omega
            rw [qmid_all HI1.out] at ho6
            have hTq := HTT.out.kept b6 (heap_lt HTT.out)
            obtain ⟨c0, c1', c2', c3', f0, f1, f2, f3⟩ := hTq.cells
            have hLq := HLN.out.kept b6
            have hLOq := HLO.out.kept b6
            have ho6 := ho6.lower (base' := gT) (by omega)
            have hzq := b6.size
            have hgq : gT ≤ wr.heap.size := by omega
            have hkN : (qN nx a f s).length = m := by rw [qN_len]; exact HM0.out
            have hkO : (qO ot f s).length = m := by rw [qO_len]; exact HM0.out
            obtain ⟨AN2, cN2, w7, hrn, hLN7, b7, hk7, hkb7, hmv7⟩ := run_append_list hLq ho6 hgq (by rw [hkN]; omega)
            rw [hkN] at hrn hLN7 hmv7
            rw [← HQ1.out] at hLN7
            have hT7 := hTq.keptT (hk7 _ (by decide))
            obtain ⟨y0, y1, y2, y3, z0, z1, z2, z3⟩ := hT7.cells
            have hLO7 := hLOq.keptB hkb7 HAP.out (hk7 _ (by decide))
            have hAP7 := HAP.out.moved hmv7 hLOq
            have hb7 : Below gT w2 w7 := HBR.out.trans ((b6.mono (by omega)).trans b7)
            have hw8 := fun (u : Value) => hb7.setCell (p := ⟨gT, 2, none⟩) (Nat.le_refl _) u
            have h81 := hT7.set2 (.slice AN2 (m + 1) cN2)
            have h82 := hLN7.offM (j := 2) hT7 (.slice AN2 (m + 1) cN2)
            have h83 := hLO7.offM (j := 2) hT7 (.slice AN2 (m + 1) cN2)
            have h84 := hw8 (.slice AN2 (m + 1) cN2)
            have e2 := (hbW.cell (p := ⟨g2, p2 + s, none⟩) hg2).trans hd2
            have HH := Lib.hid (And.intro h81 (And.intro h82 (And.intro h83 h84)))
            clear hT7 hLN7 hLO7 hb7 hw8 h81 h82 h83 h84 hTq hLq hLOq ho6 hk7 hkb7 hmv7 b7 b6 e2 hkN
            go_wp2_with (at_builtin; refine Lib.wpList_append_run _ rfl _ _ _ _ rfl _ _ rfl rfl _ _ hrn ?_)
            obtain ⟨h81, h82, h83, h84⟩ := HH.out
            generalize w7.setCell ⟨gT, 2, none⟩ (.slice AN2 (m + 1) cN2) = w8 at h81 h82 h83 h84 ⊢
            clear HH y0 y1 y2 y3 z0 z1 z2 z3 hrn c0 c1' c2' c3' f0 f1 f2 f3
            obtain ⟨c0, c1', c2', c3', f0, f1, f2, f3⟩ := h81.cells
            have hbox8 := HB2.out.kept h84 (show g < gT by omega)
            obtain ⟨k0, k1, k2, k3, _⟩ := hbox8.cells
            have hbW8 : Below w.heap.size w w8 := hbw2.trans (h84.mono (by rw [← HG.out]; omega))
            have e2 := (hbW8.cell (p := ⟨g2, p2 + s, none⟩) hg2).trans hd2
            have hg8 : gT < w8.heap.size := heap_lt h81
            have H81 := Lib.hid h81
            have H82 := Lib.hid h82
            have H83 := Lib.hid h83
            have H84 := Lib.hid h84
            have HAP7 := Lib.hid hAP7
            clear h81 h82 h83 h84 hAP7
            go_region_law (first
              | (refine step_append_run rfl _ _ _ _ rfl _ _ rfl rfl _ _ (HF.out 0).1 ?_)
              | (go_simp; go_at_call 106; refine (sclone _ _ _ _ _ (hr2.below (below_drewN hbW8 _))).mono ?_; rintro e w9 ⟨A9, c9, rfl, ho9, b9⟩; obtain ⟨hT9, F, hF⟩ := trim_step H84.out H81.out H82.out H83.out HAP7.out _ b9 ho9 (by omega) hg8; obtain ⟨c0, c1', c2', c3', f0, f1, f2, f3⟩ := hT9.cells; have ca := ((alloc_below w9 (.cells #[.slice A9 a c9] 27)).cell (p := ⟨gT, 3, none⟩) (heap_lt hT9)).trans c3'; have HF := Lib.hid hF; have cF := fun q => (hF q).2.1.cells.2.2.2.1; have fF := fun q => (hF q).2.1.cells.2.2.2.2.2.2.2; clear hT9 hF ho9 b9))
            all_goals
              go_wp2
              go_roundw
              case rel => exact ⟨s + 1, AN2, (F 0).1.1, cN2, (F 0).1.2, by omega, by go_num, (HF.out 0).2.2.2.2.2.setCell (p := ⟨gT, 3, none⟩) (Nat.le_refl _) _, by rw [HQ3.out]; exact (HF.out 0).2.1.set3 _, by rw [HQ3.out]; exact (HF.out 0).2.2.1.offM (HF.out 0).2.1 _, by rw [HQ2.out, HQ3.out]; exact (HF.out 0).2.2.2.1.offM (HF.out 0).2.1 _, by rw [HQ3.out]; exact (HF.out 0).2.2.2.2.1⟩
              case measure => simp [intOf]; omega
    · obtain rfl : s = n := by omega
      obtain ⟨c0, c1', c2', c3', _⟩ := HTT.out.cells
      have hRr := HR2.out.kept HBR.out (show g + 1 < gT by omega)
      obtain ⟨ya, y1, y2, y3, z0, z1, z2, z3⟩ := hRr.cells
      have hN9 := HLN.out
      have hO9 := HLO.out
      have hl : ∀ k, w.heap.size ≤ (⟨g + 1, k, none⟩ : Addr).block := fun k => by rw [← HG.out]; exact Nat.le_succ _
      have hfb := Lib.hid (((((hbW.setCell (hl 0) (.int .i64 i)).setCell (hl 1) (.int .i64 y0)).setCell (hl 2) (.slice AN (reps f s).length cN)).setCell (hl 3) (.slice AO (reps f s).length cO)))
      have hR4 := Lib.hid (hRr.set4 (.int .i64 i) (.int .i64 y0) (.slice AN (reps f s).length cN) (.slice AO (reps f s).length cO))
      have hq1 := hRr
      have hq2 : Mblk (wr.setCell ⟨g + 1, 0, none⟩ (.int .i64 i)) (g + 1) _ _ _ _ := heap_setCell_same wr _ 0 _ _ _ hq1
      have hq3 : Mblk ((wr.setCell ⟨g + 1, 0, none⟩ (.int .i64 i)).setCell ⟨g + 1, 1, none⟩ (.int .i64 y0)) (g + 1) _ _ _ _ := heap_setCell_same _ _ 1 _ _ _ hq2
      have hq4 : Mblk (((wr.setCell ⟨g + 1, 0, none⟩ (.int .i64 i)).setCell ⟨g + 1, 1, none⟩ (.int .i64 y0)).setCell ⟨g + 1, 2, none⟩ (.slice AN (reps f s).length cN)) (g + 1) _ _ _ _ := heap_setCell_same _ _ 2 _ _ _ hq3
      have hN10 := Lib.hid (((((hN9.offM hq1 (.int .i64 i) (j := 0)).offM hq2 (.int .i64 y0) (j := 1)).offM hq3 (.slice AN (reps f s).length cN) (j := 2)).offM hq4 (.slice AO (reps f s).length cO) (j := 3)).lower (base' := w.heap.size) (by rw [← HG.out]; omega))
      have hO10 := Lib.hid (((((hO9.offM hq1 (.int .i64 i) (j := 0)).offM hq2 (.int .i64 y0) (j := 1)).offM hq3 (.slice AN (reps f s).length cN) (j := 2)).offM hq4 (.slice AO (reps f s).length cO) (j := 3)).lower (base' := w.heap.size) (by rw [← HG.out]; omega))
      clear hRr hq1 hq2 hq3 hq4 hN9 hO9 hl hbW
      go_wp2
      (try simp only [Exit.inBlock, Exit.then])
      refine bodyPost_ret (results_cell_row (by rfl) _ _ (g + 1) 24 _ (0, 0) _ rfl hR4.out Try.underlying24 rfl (by kernel_rfl)) rfl ?_
      exact ⟨AN, cN, AO, cO, by rw [HY0.out], hN10.out, hO10.out, hfb.out⟩
end Go.Proofs.Ytogcecfeofbbnaa
end

section
/- Partition, Classes, Depth. -/
namespace Go.Proofs.Ytogcecfeofbbnaa
open Go.RowKit

theorem vld_i64 (i st : Int) (nx ot : List (List Int)) (_ : ¬ vld i st nx ot = 0) : (vld i st nx ot != 0) = true := by simpa
set_option maxHeartbeats 1000000 in
theorem ppart_bad (i st : Int) (A B : Option Addr) (n c m d : Nat) (nx ot : List (List Int)) (k : Int) (w : World) (hx : Lists w A n nx) (ho : Lists w B m ot) (hv : ¬ vld i st nx ot = 0) :
    Calls Try.prog 111 #[.agg #[.int .i64 i, .int .i64 st, .slice A n c, .slice B m d], .int .i64 k] w fun e w' => e = .returned (.tuple #[.slice none 0 0, .int .i64 (vld i st nx ot)]) ∧ Below w.heap.size w w' := by
  have hb0 := alloc_below w (.cells #[.int .i64 i, .int .i64 st, .slice A n c, .slice B m d] 24)
  have hne : (vld i st nx ot != 0) = true := by simpa using hv
  go_enter Try.func111, Try.ntmps111
  go_wp2_with fail
  refine (pvalid _ _ _ _ _ _ _ _ _ _ _ (hx.below hb0) (ho.below hb0)).mono ?_
  rintro e w1 ⟨rfl, b1⟩
  have b1 := bt hb0 b1
  generalize hE : vld i st nx ot = E at hne hv
  have HE := Lib.hid hE
  clear hv hE
  go_wp2
  go_ret2
  exact ⟨by rw [HE.out]; rfl, b1⟩
set_option maxHeartbeats 1000000 in
theorem ppart_ok (i st n : Nat) (A B : Option Addr) (c d : Nat) (nx ot : List (List Int)) (k : Int) (w : World) (hx : Lists w A n nx) (ho : Lists w B n ot) (hM : Mok i st n nx ot) (hk : k ≤ 9223372036854775807) :
    Calls Try.prog 111 #[.agg #[.int .i64 i, .int .i64 st, .slice A n c, .slice B n d], .int .i64 k] w fun e w' => ∃ A' c', e = .returned (.tuple #[.slice A' n c', .int .i64 0]) ∧ Owned w' w.heap.size (.slice A' n c') (zs (pt nx ot i n (rounds_ nx ot i n k))) ∧ Below w.heap.size w w' := by
  have hb0 := alloc_below w (.cells #[.int .i64 i, .int .i64 st, .slice A n c, .slice B n d] 24)
  have hB := mealy_box w (.int .i64 i) (.int .i64 st) (.slice A n c) (.slice B n d)
  have HB := Lib.hid hB
  have HV := Lib.hid hM.vld
  clear hB
  go_enter Try.func111, Try.ntmps111
  go_wp2_with fail
  refine (pvalid _ _ _ _ _ _ _ _ _ _ _ (hx.below hb0) (ho.below hb0)).mono ?_
  rintro e w1 ⟨rfl, b1⟩
  rw [HV.out]
  obtain ⟨k0, k1, k2, k3, _⟩ := (HB.out.kept b1 (by simp)).cells
  have b1 := bt hb0 b1
  go_wp2_with fail
  refine (ppartn i st n A B c d nx ot k _ (hx.below b1) (ho.below b1) hM hk).mono ?_
  rintro e w2 ⟨A', c', rfl, hO, b2⟩
  have HO := Lib.hid (hO.lower (base' := w.heap.size) b1.size)
  have b2 := bt b1 b2
  clear k0 k1 k2 k3 hO
  go_wp2
  go_ret2
  exact ⟨A', c', rfl, HO.out, b2⟩
theorem rounds_max {i st n : Nat} {nx ot : List (List Int)} (hM : Mok i st n nx ot) : rounds_ nx ot i n 9223372036854775807 = dep nx ot i n := by
  have h1 := hM.dep_lt
  have h2 := hM.n2
  unfold rounds_
  rw [if_neg (by omega)]
set_option maxHeartbeats 1000000 in
theorem pcls_bad (i st : Int) (A B : Option Addr) (n c m d : Nat) (nx ot : List (List Int)) (w : World) (hx : Lists w A n nx) (ho : Lists w B m ot) (hv : ¬ vld i st nx ot = 0) :
    Calls Try.prog 83 #[.agg #[.int .i64 i, .int .i64 st, .slice A n c, .slice B m d]] w fun e w' => e = .returned (.tuple #[.slice none 0 0, .int .i64 (vld i st nx ot)]) ∧ Below w.heap.size w w' := by
  have hb0 := alloc_below w (.cells #[.int .i64 i, .int .i64 st, .slice A n c, .slice B m d] 24)
  go_enter Try.func83, Try.ntmps83
  go_wp2_with fail
  refine (ppart_bad _ _ _ _ _ _ _ _ _ _ _ _ (hx.below hb0) (ho.below hb0) hv).mono ?_
  rintro e w1 ⟨rfl, b1⟩
  have b1 := bt hb0 b1
  generalize hE : vld i st nx ot = E at hv
  have HE := Lib.hid hE
  clear hv hE
  go_wp2
  go_ret2
  exact ⟨by rw [HE.out]; rfl, b1⟩
set_option maxHeartbeats 1000000 in
theorem pcls_ok (i st n : Nat) (A B : Option Addr) (c d : Nat) (nx ot : List (List Int)) (w : World) (hx : Lists w A n nx) (ho : Lists w B n ot) (hM : Mok i st n nx ot) :
    Calls Try.prog 83 #[.agg #[.int .i64 i, .int .i64 st, .slice A n c, .slice B n d]] w fun e w' => ∃ A' c', e = .returned (.tuple #[.slice A' n c', .int .i64 0]) ∧ Owned w' w.heap.size (.slice A' n c') (zs (pt nx ot i n (dep nx ot i n))) ∧ Below w.heap.size w w' := by
  have hb0 := alloc_below w (.cells #[.int .i64 i, .int .i64 st, .slice A n c, .slice B n d] 24)
  have HR := Lib.hid (rounds_max hM)
  go_enter Try.func83, Try.ntmps83
  go_wp2_with fail
  refine (ppart_ok i st n A B c d nx ot _ _ (hx.below hb0) (ho.below hb0) hM (by omega)).mono ?_
  rintro e w1 ⟨A', c', rfl, hO, b1⟩
  rw [HR.out] at hO
  have HO := Lib.hid (hO.lower (base' := w.heap.size) hb0.size)
  have b1 := bt hb0 b1
  clear hO
  go_wp2
  go_ret2
  exact ⟨A', c', rfl, HO.out, b1⟩
end Go.Proofs.Ytogcecfeofbbnaa
end

section
/- Min and Minimal. -/
namespace Go.Proofs.Ytogcecfeofbbnaa
open Go.RowKit

set_option maxHeartbeats 2000000 in
theorem pmin_bad (i st : Int) (A B : Option Addr) (n c m d : Nat) (nx ot : List (List Int)) (w : World) (hx : Lists w A n nx) (ho : Lists w B m ot) (hv : ¬ vld i st nx ot = 0) :
    Calls Try.prog 45 #[.agg #[.int .i64 i, .int .i64 st, .slice A n c, .slice B m d]] w fun e w' => e = .returned (.tuple #[.agg #[.int .i64 0, .int .i64 0, .slice none 0 0, .slice none 0 0], .int .i64 (vld i st nx ot)]) ∧ Below w.heap.size w w' := by
  have hb0 := alloc_below w (.cells #[.int .i64 i, .int .i64 st, .slice A n c, .slice B m d] 24)
  have hb1 := bt hb0 (alloc_below (w.alloc (.cells #[.int .i64 i, .int .i64 st, .slice A n c, .slice B m d] 24)) (.cells #[.int .i64 0, .int .i64 0, .slice none 0 0, .slice none 0 0] 24))
  have hne : (vld i st nx ot != 0) = true := by simpa using hv
  go_enter Try.func45, Try.ntmps45
  go_wp2_with fail
  refine (pcls_bad _ _ _ _ _ _ _ _ _ _ _ (hx.below hb1) (ho.below hb1) hv).mono ?_
  rintro e w1 ⟨rfl, b1⟩
  have hR : Mblk w1 (w.heap.size + 1) (.int .i64 0) (.int .i64 0) (.slice none 0 0) (.slice none 0 0) := by
    refine Mblk.kept ?_ b1 (by simp)
    have := heap_alloc_new (w.alloc (.cells #[.int .i64 i, .int .i64 st, .slice A n c, .slice B m d] 24)) (.cells #[.int .i64 0, .int .i64 0, .slice none 0 0, .slice none 0 0] 24)
    simpa [Mblk] using this
  obtain ⟨c0, c1, c2, c3, f0, f1, f2, f3⟩ := hR.cells
  have HR := Lib.hid hR
  generalize hE : vld i st nx ot = E at hne hv
  have HE := Lib.hid hE
  clear hv hR hE
  go_wp2
  (try simp only [Exit.inBlock, Exit.then])
  refine bodyPost_ret (results_mealy rfl _ _ (w.heap.size + 1) (.int .i64 0) (.int .i64 0) (.slice none 0 0) (.slice none 0 0) rfl (HR.out.set4 _ _ _ _)) rfl ?_
  have hl : ∀ k, w.heap.size ≤ (⟨w.heap.size + 1, k, none⟩ : Addr).block := fun k => Nat.le_succ _
  exact ⟨by rw [HE.out]; rfl, (((((bt hb1 b1).setCell (hl 0) _).setCell (hl 1) _).setCell (hl 2) _).setCell (hl 3) _)⟩
set_option maxHeartbeats 2000000 in
theorem pmin_ok (i st n : Nat) (A B : Option Addr) (c d : Nat) (nx ot : List (List Int)) (w : World) (hx : Lists w A n nx) (ho : Lists w B n ot) (hM : Mok i st n nx ot) :
    Calls Try.prog 45 #[.agg #[.int .i64 i, .int .i64 st, .slice A n c, .slice B n d]] w fun e w' => ∃ A' c' B' d',
      e = .returned (.tuple #[.agg #[.int .i64 i, .int .i64 0, .slice A' (mnR nx ot i st n).length c', .slice B' (mnR nx ot i st n).length d'], .int .i64 0]) ∧
      OwnedL w' w.heap.size (.slice A' (mnR nx ot i st n).length c') (mnN nx ot i st n) ∧ OwnedL w' w.heap.size (.slice B' (mnR nx ot i st n).length d') (mnO nx ot i st n) ∧ Below w.heap.size w w' := by
  have hb0 := alloc_below w (.cells #[.int .i64 i, .int .i64 st, .slice A n c, .slice B n d] 24)
  have hb1 := bt hb0 (alloc_below (w.alloc (.cells #[.int .i64 i, .int .i64 st, .slice A n c, .slice B n d] 24)) (.cells #[.int .i64 0, .int .i64 0, .slice none 0 0, .slice none 0 0] 24))
  have hB := (mealy_box w (.int .i64 i) (.int .i64 st) (.slice A n c) (.slice B n d)).kept (alloc_below (w.alloc (.cells #[.int .i64 i, .int .i64 st, .slice A n c, .slice B n d] 24)) (.cells #[.int .i64 0, .int .i64 0, .slice none 0 0, .slice none 0 0] 24)) (by simp)
  have hR : Mblk ((w.alloc (.cells #[.int .i64 i, .int .i64 st, .slice A n c, .slice B n d] 24)).alloc (.cells #[.int .i64 0, .int .i64 0, .slice none 0 0, .slice none 0 0] 24)) (w.heap.size + 1) (.int .i64 0) (.int .i64 0) (.slice none 0 0) (.slice none 0 0) := by
    have := mealy_box (w.alloc (.cells #[.int .i64 i, .int .i64 st, .slice A n c, .slice B n d] 24)) (.int .i64 0) (.int .i64 0) (.slice none 0 0) (.slice none 0 0)
    simpa using this
  have HB := Lib.hid hB
  have HR := Lib.hid hR
  have HP := Lib.hid (show zs (pt nx ot i n (dep nx ot i n)) = zs (num (eqc nx ot i n) n) by rw [pt_num hM]; rfl)
  have hMq := hM.quot (eqc nx ot i n)
  have HE1 := Lib.hid (show mnR nx ot i st n = rch (qN nx i (eqc nx ot i n) n) i (nmb (eqc nx ot i n) st) from rfl)
  have HE2 := Lib.hid (show mnN nx ot i st n = trN (qN nx i (eqc nx ot i n) n) i (mnR nx ot i st n) from rfl)
  have HE3 := Lib.hid (show mnO nx ot i st n = trO (qO ot (eqc nx ot i n) n) (mnR nx ot i st n) from rfl)
  generalize eqc nx ot i n = f at HP hMq HE1 HE2 HE3
  clear hB hR
  go_enter Try.func45, Try.ntmps45
  go_wp2_with fail
  refine (pcls_ok _ _ _ _ _ _ _ _ _ _ (hx.below hb1) (ho.below hb1) hM).mono ?_
  rintro e w1 ⟨A1, c1, rfl, hO, b1⟩
  rw [HP.out] at hO
  have hI := Owned.ints hO (by rw [zs_len, num_len]; have := hM.n2; omega)
  obtain ⟨k0, k1, k2, k3, _⟩ := (HB.out.kept b1 (by simp; omega)).cells
  have HR1 := Lib.hid (HR.out.kept b1 (by simp))
  have b1 := bt hb1 b1
  clear hO
  go_wp2_with fail
  refine (pquot _ _ _ _ _ _ _ _ _ _ _ f _ (hx.below b1) (ho.below b1) hM hI).mono ?_
  rintro e w2 ⟨A2, c2, B2, d2, rfl, hN, hO, b2⟩
  have hLN := lists_ownedM hMq hN
  have hLO := lists_ownedO hMq hO
  have HR2 := Lib.hid (HR1.out.kept b2 (by have := b1.size; have h := heap_lt HR1.out; omega))
  have b2 := bt b1 b2
  clear k0 k1 k2 k3 hN hO hI
  go_wp2_with fail
  refine (ptrim_ok _ _ _ _ _ _ _ _ _ _ hLN hLO hMq).mono ?_
  rintro e w3 ⟨A3, c3, B3, d3, rfl, hN, hO, b3⟩
  rw [← HE1.out] at hN hO ⊢
  rw [← HE2.out] at hN
  rw [← HE3.out] at hO
  have hR3 := HR2.out.kept b3 (by have h := heap_lt HR2.out; omega)
  have hz2 := b2.size
  have b3 := bt b2 b3
  obtain ⟨y0, y1, y2, y3, z0, z1, z2, z3⟩ := hR3.cells
  have hl : ∀ k, w.heap.size ≤ (⟨w.heap.size + 1, k, none⟩ : Addr).block := fun k => Nat.le_succ _
  obtain ⟨L, hL⟩ : ∃ L, L = (mnR nx ot i st n).length := ⟨_, rfl⟩
  rw [← hL] at hN hO ⊢
  have HL := Lib.hid hL
  clear hL
  have hfb := Lib.hid (((((b3.setCell (hl 0) (.int .i64 i)).setCell (hl 1) (.int .i64 0)).setCell (hl 2) (.slice A3 L c3)).setCell (hl 3) (.slice B3 L d3)))
  have hR4 := Lib.hid (hR3.set4 (.int .i64 i) (.int .i64 0) (.slice A3 L c3) (.slice B3 L d3))
  have hq1 := hR3
  have hq2 : Mblk (w3.setCell ⟨w.heap.size + 1, 0, none⟩ (.int .i64 i)) (w.heap.size + 1) _ _ _ _ := heap_setCell_same w3 _ 0 _ _ _ hq1
  have hq3 : Mblk ((w3.setCell ⟨w.heap.size + 1, 0, none⟩ (.int .i64 i)).setCell ⟨w.heap.size + 1, 1, none⟩ (.int .i64 0)) (w.heap.size + 1) _ _ _ _ := heap_setCell_same _ _ 1 _ _ _ hq2
  have hq4 : Mblk (((w3.setCell ⟨w.heap.size + 1, 0, none⟩ (.int .i64 i)).setCell ⟨w.heap.size + 1, 1, none⟩ (.int .i64 0)).setCell ⟨w.heap.size + 1, 2, none⟩ (.slice A3 L c3)) (w.heap.size + 1) _ _ _ _ := heap_setCell_same _ _ 2 _ _ _ hq3
  have hN10 := Lib.hid (((((hN.offM hq1 (.int .i64 i) (j := 0)).offM hq2 (.int .i64 0) (j := 1)).offM hq3 (.slice A3 L c3) (j := 2)).offM hq4 (.slice B3 L d3) (j := 3)).lower (base' := w.heap.size) hz2)
  have hO10 := Lib.hid (((((hO.offM hq1 (.int .i64 i) (j := 0)).offM hq2 (.int .i64 0) (j := 1)).offM hq3 (.slice A3 L c3) (j := 2)).offM hq4 (.slice B3 L d3) (j := 3)).lower (base' := w.heap.size) hz2)
  clear hR3 hq1 hq2 hq3 hq4 hN hO hl
  go_wp2
  (try simp only [Exit.inBlock, Exit.then])
  refine bodyPost_ret (results_mealy rfl _ _ (w.heap.size + 1) _ _ _ _ rfl hR4.out) rfl ?_
  rw [← HL.out]
  exact ⟨A3, c3, B3, d3, rfl, hN10.out, hO10.out, hfb.out⟩
end Go.Proofs.Ytogcecfeofbbnaa
end

section
/- Minimal. -/
namespace Go.Proofs.Ytogcecfeofbbnaa
open Go.RowKit

theorem pminl_bad (i st : Int) (A B : Option Addr) (n c m d : Nat) (nx ot : List (List Int)) (w : World) (hx : Lists w A n nx) (ho : Lists w B m ot) (hv : ¬ vld i st nx ot = 0) :
    Calls Try.prog 48 #[.agg #[.int .i64 i, .int .i64 st, .slice A n c, .slice B m d]] w fun e w' => e = .returned (.bool false) ∧ Below w.heap.size w w' := by
  have hb0 := alloc_below w (.cells #[.int .i64 i, .int .i64 st, .slice A n c, .slice B m d] 24)
  have hne : (vld i st nx ot == 0) = false := by simpa using hv
  go_enter Try.func48, Try.ntmps48
  go_wp2_with fail
  refine (pmin_bad _ _ _ _ _ _ _ _ _ _ _ (hx.below hb0) (ho.below hb0) hv).mono ?_
  rintro e w1 ⟨rfl, b1⟩
  have b1 := bt hb0 b1
  generalize hE : vld i st nx ot = E at hne hv
  have HE := Lib.hid hE
  clear hv hE
  go_wp2
  go_ret
  exact ⟨rfl, bt b1 (alloc_below _ _)⟩
set_option maxHeartbeats 1000000 in
theorem pminl_ok (i st n : Nat) (A B : Option Addr) (c d : Nat) (nx ot : List (List Int)) (b : Bool) (w : World) (hx : Lists w A n nx) (ho : Lists w B n ot) (hM : Mok i st n nx ot) (hb : b = decide ((mnR nx ot i st n).length = n)) :
    Calls Try.prog 48 #[.agg #[.int .i64 i, .int .i64 st, .slice A n c, .slice B n d]] w fun e w' => e = .returned (.bool b) ∧ Below w.heap.size w w' := by
  have hb0 := alloc_below w (.cells #[.int .i64 i, .int .i64 st, .slice A n c, .slice B n d] 24)
  have HBX := Lib.hid (mealy_box w (.int .i64 i) (.int .i64 st) (.slice A n c) (.slice B n d))
  obtain ⟨L, hL⟩ : ∃ L, L = (mnR nx ot i st n).length := ⟨_, rfl⟩
  have HL := Lib.hid hL
  rw [← hL] at hb
  have HB := Lib.hid hb
  have hd : ((L : Int) == (n : Int)) = b := by
    rw [HB.out]
    by_cases e : L = n
    · subst e; simp
    · rw [decide_eq_false e, beq_eq_false_iff_ne]; omega
  clear hL hb
  go_enter Try.func48, Try.ntmps48
  go_wp2_with fail
  refine (pmin_ok _ _ _ _ _ _ _ _ _ _ (hx.below hb0) (ho.below hb0) hM).mono ?_
  rintro e w1 ⟨A1, c1, B1, d1, rfl, hN, hO, b1⟩
  rw [← HL.out]
  have hB2 := (HBX.out.kept b1 (by simp)).kept (alloc_below w1 (.cells #[.int .i64 i, .int .i64 0, .slice A1 L c1, .slice B1 L d1] 24)) (by have := heap_lt (HBX.out.kept b1 (by simp)); exact this)
  obtain ⟨k0, k1, k2, k3, _⟩ := hB2.cells
  have b1 := bt hb0 b1
  have HD := Lib.hid hd
  clear hN hO hd
  cases b
  all_goals
    have hd := HD.out
    clear HD
    go_wp2
    go_ret
    exact ⟨rfl, bt b1 (alloc_below _ _)⟩
end Go.Proofs.Ytogcecfeofbbnaa
end

section
/- Isomorphic machines: the maths. -/
namespace Go.Proofs.Ytogcecfeofbbnaa

def isoV (R1 R2 : List Nat) (s : Nat) : Nat := R2.getD (ixN R1 s) 0
/-- The state of the second machine for each state of the first. -/
def isoL (R1 R2 : List Nat) (n : Nat) : List Int := (List.range n).map fun s => ((isoV R1 R2 s : Nat) : Int)
def asgL (R1 R2 : List Nat) (n k : Nat) : List Int := (List.range n).map fun s => if s ∈ R1.take k then ((isoV R1 R2 s : Nat) : Int) else 0
def isoC (i : Nat) (nx1 ot1 : List (List Int)) (st1 n : Nat) (nx2 ot2 : List (List Int)) (st2 m : Nat) : Prop :=
  (rch nx1 i st1).length = n ∧ (rch nx2 i st2).length = m ∧ trN nx1 i (rch nx1 i st1) = trN nx2 i (rch nx2 i st2) ∧ trO ot1 (rch nx1 i st1) = trO ot2 (rch nx2 i st2)
instance (i : Nat) (nx1 ot1 : List (List Int)) (st1 n : Nat) (nx2 ot2 : List (List Int)) (st2 m : Nat) : Decidable (isoC i nx1 ot1 st1 n nx2 ot2 st2 m) := inferInstanceAs (Decidable (_ ∧ _ ∧ _ ∧ _))
/-- What Iso finds. -/
def ires (i1 st1 : Int) (nx1 ot1 : List (List Int)) (i2 st2 : Int) (nx2 ot2 : List (List Int)) : Option (List Int) × Int :=
  if chk2 i1 st1 nx1 ot1 i2 st2 nx2 ot2 = 0 then (if isoC i1.toNat nx1 ot1 st1.toNat nx1.length nx2 ot2 st2.toNat nx2.length then some (isoL (rch nx1 i1.toNat st1.toNat) (rch nx2 i1.toNat st2.toNat) nx1.length) else none, 0)
  else (none, chk2 i1 st1 nx1 ot1 i2 st2 nx2 ot2)
theorem isoL_len (R1 R2 : List Nat) (n : Nat) : (isoL R1 R2 n).length = n := by simp [isoL]
theorem asgL_len (R1 R2 : List Nat) (n k : Nat) : (asgL R1 R2 n k).length = n := by simp [asgL]
theorem isoL_at {R1 R2 : List Nat} {n s : Nat} (h : s < n) : (isoL R1 R2 n).getD s 0 = ((isoV R1 R2 s : Nat) : Int) := by unfold isoL; simp [List.getD, h]
theorem asgL_zero (R1 R2 : List Nat) (n : Nat) : asgL R1 R2 n 0 = List.replicate n 0 := by
  apply List.ext_getElem
  · simp [asgL]
  · intro k h1 h2; simp [asgL]
theorem asgL_set {R1 R2 : List Nat} {n k : Nat} (hd : R1.Nodup) (hk : k < R1.length) : (asgL R1 R2 n k).set (R1.getD k 0) ((R2.getD k 0 : Nat) : Int) = asgL R1 R2 n (k + 1) := by
  have ht : R1.take (k + 1) = R1.take k ++ [R1.getD k 0] := by
    rw [List.take_add_one, List.getD_eq_getElem?_getD, List.getElem?_eq_getElem hk]; rfl
  apply List.ext_getElem
  · simp [asgL]
  · intro m h1 h2
    rw [List.getElem_set]
    have hm : m < n := by simpa [asgL] using h2
    by_cases e : R1.getD k 0 = m
    · rw [if_pos e]
      simp only [asgL, List.getElem_map, List.getElem_range]
      rw [ht, if_pos (by rw [← e]; simp)]
      unfold isoV
      rw [← e, ixN_of hd hk]
    · rw [if_neg e]
      simp only [asgL, List.getElem_map, List.getElem_range]
      have : m ∈ R1.take (k + 1) ↔ m ∈ R1.take k := by
        rw [ht, List.mem_append]
        constructor
        · rintro (h | h)
          · exact h
          · simp only [List.mem_singleton] at h; exact absurd h.symm e
        · exact .inl
      by_cases h3 : m ∈ R1.take k
      · rw [if_pos h3, if_pos (this.2 h3)]
      · rw [if_neg h3, if_neg (fun h => h3 (this.1 h))]
theorem asgL_end {R1 R2 : List Nat} {n : Nat} (h : ∀ s, s < n → s ∈ R1) : asgL R1 R2 n R1.length = isoL R1 R2 n := by
  unfold asgL isoL
  rw [List.take_length]
  apply List.map_congr_left
  intro s hs
  rw [if_pos (h s (List.mem_range.1 hs))]
theorem Stt.all {n : Nat} {l : List Nat} (h : Stt n l) (hl : l.length = n) : ∀ s, s < n → s ∈ l := fun s hs => by
  by_cases hm : s ∈ l
  · exact hm
  · exfalso
    have h2 : Stt n (l ++ [s]) := ⟨by
      rw [List.nodup_append]
      exact ⟨h.1, by simp, fun a ha b hb e => by simp at hb; subst hb; subst e; exact hm ha⟩, fun x hx => by
      rcases List.mem_append.1 hx with hx | hx
      · exact h.2 x hx
      · simp at hx; omega⟩
    have := h2.len
    rw [List.length_append] at this
    simp at this
    omega
theorem list_ext_d {β : Type} {l k : List β} (d : β) (h1 : l.length = k.length) (h : ∀ s, s < l.length → l.getD s d = k.getD s d) : l = k := by
  apply List.ext_getElem h1
  intro s hs ht
  have := h s hs
  rwa [List.getD_eq_getElem?_getD, List.getD_eq_getElem?_getD, List.getElem?_eq_getElem hs, List.getElem?_eq_getElem ht] at this
theorem getD_mem0 {l : List Nat} {k : Nat} (h : k < l.length) : l.getD k 0 ∈ l := getD_mem h
theorem map_at {α β : Type} (f : α → β) (l : List α) (a : α) (b : β) {k : Nat} (h : k < l.length) : (l.map f).getD k b = f (l.getD k a) := by
  rw [List.getD_eq_getElem?_getD, List.getD_eq_getElem?_getD, List.getElem?_map, List.getElem?_eq_getElem h]; rfl
section
variable {i st1 st2 n : Nat} {nx1 ot1 nx2 ot2 : List (List Int)} {R1 R2 : List Nat}
theorem isoV_lt (h1 : Stt n R1) (h2 : Stt n R2) (l1 : R1.length = n) (l2 : R2.length = n) {s : Nat} (hs : s < n) : isoV R1 R2 s < n := by
  have := ixN_lt (h1.all l1 s hs)
  exact h2.2 _ (getD_mem0 (by omega))
/-- The trimmed machines are the same just if all transitions correspond. -/
theorem iso_iff (hM : Mok i st1 n nx1 ot1) (hN : Mok i st2 n nx2 ot2) (h1 : Stt n R1) (h2 : Stt n R2) (l1 : R1.length = n) (l2 : R2.length = n) :
    (trN nx1 i R1 = trN nx2 i R2 ∧ trO ot1 R1 = trO ot2 R2) ↔ ∀ s, s < n → ∀ x, x < i → oN ot1 s x = oN ot2 (isoV R1 R2 s) x ∧ isoV R1 R2 (nN nx1 s x) = nN nx2 (isoV R1 R2 s) x := by
  constructor
  · rintro ⟨e1, e2⟩ s hs x hx
    have hm := h1.all l1 s hs
    have hk := ixN_lt hm
    have hsa := ixN_at hm
    have hv : isoV R1 R2 s = R2.getD (ixN R1 s) 0 := rfl
    rw [hv]
    generalize ixN R1 s = k at hk hsa hv
    subst hsa
    have a1 : (trN nx1 i R1).getD k [] = (trN nx2 i R2).getD k [] := by rw [e1]
    have a2 : (trO ot1 R1).getD k [] = (trO ot2 R2).getD k [] := by rw [e2]
    unfold trN at a1
    unfold trO at a2
    rw [map_at _ _ 0 _ hk, map_at _ _ 0 _ (by omega)] at a1 a2
    refine ⟨?_, ?_⟩
    · unfold oN; rw [a2]
    · have a3 : (trR nx1 i R1 (R1.getD k 0)).getD x 0 = (trR nx2 i R2 (R2.getD k 0)).getD x 0 := by rw [a1]
      rw [trR_at hx, trR_at hx] at a3
      unfold isoV
      rw [show ixN R1 (nN nx1 (R1.getD k 0) x) = ixN R2 (nN nx2 (R2.getD k 0) x) by omega]
      exact ixN_at (h2.all l2 _ (hN.nN_lt (h2.2 _ (getD_mem0 (by omega))) hx))
  · intro h
    have hk : ∀ k, k < n → isoV R1 R2 (R1.getD k 0) = R2.getD k 0 := fun k hk => by
      unfold isoV; rw [ixN_of h1.1 (by omega)]
    refine ⟨list_ext_d [] (by simp [trN]; omega) fun k hkl => ?_, list_ext_d [] (by simp [trO]; omega) fun k hkl => ?_⟩
    · have hkn : k < n := by simpa [trN, l1] using hkl
      unfold trN
      rw [map_at _ _ 0 _ (by omega), map_at _ _ 0 _ (by omega)]
      unfold trR
      apply List.map_congr_left
      intro a ha
      have ha := List.mem_range.1 ha
      have hs := h1.2 _ (getD_mem0 (l := R1) (k := k) (by omega))
      obtain ⟨_, hb⟩ := h _ hs a ha
      rw [hk k hkn] at hb
      have hn1 := hM.nN_lt hs ha
      have hm := h1.all l1 _ hn1
      unfold isoV at hb
      rw [← hb, ixN_of h2.1 (by have := ixN_lt hm; omega)]
    · have hkn : k < n := by simpa [trO, l1] using hkl
      unfold trO
      rw [map_at _ _ 0 _ (by omega), map_at _ _ 0 _ (by omega)]
      have hs := h1.2 _ (getD_mem0 (l := R1) (k := k) (by omega))
      have ht := h2.2 _ (getD_mem0 (l := R2) (k := k) (by omega))
      have w1 := (hM.row _ hs).2.1
      have w2 := (hN.row _ ht).2.1
      refine list_ext_d 0 (by rw [w1, w2]) fun a ha => ?_
      rw [w1] at ha
      obtain ⟨hb, _⟩ := h _ hs a ha
      rw [hk k hkn] at hb
      exact hb
theorem iso_lens (hM : trN nx1 i R1 = trN nx2 i R2) : R1.length = R2.length := by
  have := congrArg List.length hM
  simpa [trN] using this
end
end Go.Proofs.Ytogcecfeofbbnaa
end

section
/- What Iso says, and what it says of minimal machines. -/
namespace Go.Proofs.Ytogcecfeofbbnaa

section
variable {i s1 s2 n m : Nat} {nx1 ot1 nx2 ot2 : List (List Int)}
theorem isoC_bis (hM : Mok i s1 n nx1 ot1) (hN : Mok i s2 m nx2 ot2) (h : isoC i nx1 ot1 s1 n nx2 ot2 s2 m) : Bis i nx1 ot1 s1 nx2 ot2 s2 := fun u hu => by
  have r1 := tr_run hM u s1 (st_mem nx1 i s1) hu
  have r2 := tr_run hN u s2 (st_mem nx2 i s2) hu
  rw [ixN_st] at r1 r2
  rw [← r1, ← r2, h.2.2.1, h.2.2.2]
/-- A truth value for 'the outputs are the same'. -/
theorem bis_bool (i : Nat) (nx1 ot1 : List (List Int)) (s : Nat) (nx2 ot2 : List (List Int)) (t : Nat) : ∃ b : Bool, b = true ↔ Bis i nx1 ot1 s nx2 ot2 t := ⟨@decide (Bis i nx1 ot1 s nx2 ot2 t) (Classical.propDecidable _), @decide_eq_true_iff _ (Classical.propDecidable _)⟩
theorem dst_val {s t : Nat} (hM : Mok i s1 n nx1 ot1) (hN : Mok i s2 m nx2 ot2) (hs : s < n) (ht : t < m) {b : Bool} (hb : b = true ↔ Bis i nx1 ot1 s nx2 ot2 t) : (dst nx1 ot1 nx2 ot2 i n m s t).isSome = !b := by
  have h := dst_none hM hN hs ht
  cases hd : dst nx1 ot1 nx2 ot2 i n m s t with
  | none => rw [hb.2 (h.1 hd)]; rfl
  | some v =>
    cases b with
    | false => rfl
    | true => rw [h.2 (hb.1 rfl)] at hd; exact absurd hd (by simp)
theorem dst_pos {s t : Nat} {v : List Int} (h : dst nx1 ot1 nx2 ot2 i n m s t = some v) : 0 < v.length := by
  obtain ⟨w, x, rfl, _⟩ := dst_sound h
  rw [List.length_append]
  show 0 < _ + 1
  omega
theorem dres_ok (hM : Mok i s1 n nx1 ot1) (hN : Mok i s2 m nx2 ot2) : dres i s1 nx1 ot1 i s2 nx2 ot2 = (dst nx1 ot1 nx2 ot2 i n m s1 s2, 0) := by
  have hc : chk2 i s1 nx1 ot1 i s2 nx2 ot2 = 0 := by unfold chk2; rw [if_neg (by simp [hM.vld]), if_neg (by simp [hN.vld]), if_pos rfl]
  unfold dres
  rw [if_pos hc, hM.nxl, hN.nxl]
  rfl
theorem ires_ok (hM : Mok i s1 n nx1 ot1) (hN : Mok i s2 m nx2 ot2) : ires i s1 nx1 ot1 i s2 nx2 ot2 = (if isoC i nx1 ot1 s1 n nx2 ot2 s2 m then some (isoL (rch nx1 i s1) (rch nx2 i s2) n) else none, 0) := by
  have hc : chk2 i s1 nx1 ot1 i s2 nx2 ot2 = 0 := by unfold chk2; rw [if_neg (by simp [hM.vld]), if_neg (by simp [hN.vld]), if_pos rfl]
  unfold ires
  rw [if_pos hc, hM.nxl, hN.nxl]
  rfl
theorem sres_ok {s t : Nat} (hM : Mok i s1 n nx1 ot1) (hs : s < n) (ht : t < n) : sres i s1 nx1 ot1 s t = (dst nx1 ot1 nx1 ot1 i n n s t, 0) := by
  unfold sres
  rw [if_neg (by simp [hM.vld]), if_pos (by rw [hM.nxl]; omega), hM.nxl]
  rfl
end
end Go.Proofs.Ytogcecfeofbbnaa
end

section
/- How long a distinguishing word is. -/
namespace Go.Proofs.Ytogcecfeofbbnaa

theorem srch_len {nx1 nx2 ot1 ot2 : List (List Int)} {i n m s t st1 st2 : Nat} (hM : Mok i st1 n nx1 ot1) (hN : Mok i st2 m nx2 ot2) : ∀ (k : Nat) (E : List Ent) (j : Nat), Ens n m s t E → ∀ u, srch nx1 nx2 ot1 ot2 i k E j = some u → u.length ≤ n * m
  | 0, _, _, _, u, h => by simp [srch] at h
  | k + 1, E, j, hE, u, h => by
    rw [srch] at h
    by_cases hj : j < E.length
    · rw [if_pos hj] at h
      cases hd : fD ot1 ot2 (E.getD j Ent.zero) i with
      | some x =>
        rw [hd] at h
        injection h with h
        have h1 := hE.wl j hj
        have h2 := hE.len
        rw [← h, List.length_append]
        show _ + 1 ≤ _
        omega
      | none =>
        rw [hd] at h
        exact srch_len hM hN k _ _ (addS_ens hM hN hE hj i (Nat.le_refl _)) u h
    · rw [if_neg hj] at h; exact absurd h (by simp)
theorem dst_len {nx1 nx2 ot1 ot2 : List (List Int)} {i n m s t st1 st2 : Nat} (hM : Mok i st1 n nx1 ot1) (hN : Mok i st2 m nx2 ot2) (hs : s < n) (ht : t < m) : ((dst nx1 ot1 nx2 ot2 i n m s t).getD []).length ≤ 16384 := by
  have h1 : n * m ≤ 16384 := Nat.mul_le_mul hM.n2 hN.n2
  cases h : dst nx1 ot1 nx2 ot2 i n m s t with
  | none => exact Nat.zero_le _
  | some u =>
    have := srch_len hM hN _ _ _ (Ens.one hs ht) u h
    show u.length ≤ _
    omega
theorem dres_len (i1 st1 : Int) (nx1 ot1 : List (List Int)) (i2 st2 : Int) (nx2 ot2 : List (List Int)) : ((dres i1 st1 nx1 ot1 i2 st2 nx2 ot2).1.getD []).length ≤ 16384 := by
  unfold dres
  by_cases h : chk2 i1 st1 nx1 ot1 i2 st2 nx2 ot2 = 0
  · rw [if_pos h]
    obtain ⟨v1, v2, rfl⟩ := chk2_zero h
    obtain ⟨i', s', n', rfl, rfl, hM⟩ := vld_zero v1
    obtain ⟨i'', s'', n'', e1, rfl, hN⟩ := vld_zero v2
    obtain rfl : i' = i'' := by omega
    rw [hM.nxl, hN.nxl]
    exact dst_len hM hN hM.st hN.st
  · rw [if_neg h]; exact Nat.zero_le _
theorem sres_len (i st : Int) (nx ot : List (List Int)) (s t : Int) : ((sres i st nx ot s t).1.getD []).length ≤ 16384 := by
  unfold sres
  by_cases h : vld i st nx ot = 0
  · rw [if_neg (by simp [h])]
    obtain ⟨i', s', n', rfl, rfl, hM⟩ := vld_zero h
    by_cases h2 : (0 ≤ s ∧ s < (nx.length : Int)) ∧ 0 ≤ t ∧ t < (nx.length : Int)
    · rw [if_pos h2]
      have e := hM.nxl
      rw [e] at h2 ⊢
      exact dst_len hM hM (by omega) (by omega)
    · rw [if_neg h2]; exact Nat.zero_le _
  · rw [if_pos h]; exact Nat.zero_le _
theorem ires_len (i1 st1 : Int) (nx1 ot1 : List (List Int)) (i2 st2 : Int) (nx2 ot2 : List (List Int)) : ((ires i1 st1 nx1 ot1 i2 st2 nx2 ot2).1.getD []).length ≤ 16384 := by
  unfold ires
  by_cases h : chk2 i1 st1 nx1 ot1 i2 st2 nx2 ot2 = 0
  · rw [if_pos h]
    obtain ⟨v1, v2, rfl⟩ := chk2_zero h
    obtain ⟨i', s', n', rfl, rfl, hM⟩ := vld_zero v1
    split
    · have := hM.n2
      show (isoL _ _ _).length ≤ _
      rw [isoL_len, hM.nxl]
      omega
    · exact Nat.zero_le _
  · rw [if_neg h]; exact Nat.zero_le _
end Go.Proofs.Ytogcecfeofbbnaa
end

section
/- The walk of slices.Grow of a nil slice. -/
namespace Go.Proofs.Ytogcecfeofbbnaa
open Go.RowKit

set_option maxHeartbeats 1000000 in
set_option maxRecDepth 100000 in
theorem grow_nil (N : Nat) (hN : N ≤ 17592186044416) (w : World) :
    Calls Try.prog 114 #[.slice none 0 0, .int .i64 N] w fun e w' => ∃ v, e = .returned v ∧ w'.ownsRow w.heap.size 3 1 v 0 [] ∧ Below w.heap.size w w' := by
  obtain ⟨i0, hi, hz0, hz1, hz2⟩ := info_parts info3
  by_cases h0 : N = 0
  · subst h0
    go_enter Try.func114, Try.ntmps114
    go_wp2
    go_ret
    exact ⟨_, rfl, World.ownsRow_nil _ _ _ _, Below.refl _ _⟩
  · have happ := Lib.run_append_nil_zeros (P := Try.prog) w 27 3 27 3 i0 (.int .i64 0) .i64 .i64 Try.underlying27 Try.underlying3 hi hz0 N (by omega) (by omega) (by omega) (by rw [hz2]; omega)
    have hge := grownCap_ge w N 0 3
    have hcm := grownCap_le_maxLen w N 0 3 (by unfold maxLen; omega)
    generalize grownCap w N 0 3 = cap at happ hge hcm
    generalize hZ : (Builtin.zeroCells (Value.int .i64 0).cells N ++ Builtin.zeroCells (Value.int .i64 0).cells (cap - N)) = Z at happ
    have hZs : Z.size = cap := by rw [← hZ]; simp [size_zeroCells, Value.cells]; omega
    have hp : (0 : Int) < N := by omega
    have HZ := Lib.hid hZs
    clear hZ hZs
    have hmx : cap ≤ 9223372036854775807 := by unfold maxLen at hcm; omega
    go_enter Try.func114, Try.ntmps114
    go_wp2_with (at_builtin; refine Lib.wpList_append_run _ rfl _ _ _ _ rfl _ _ rfl rfl _ _ happ ?_)
    go_ret
    refine ⟨_, rfl, ?_, (Below.refl _ _).drew.alloc (Nat.le_refl _) _⟩
    refine ⟨by simp, .inr ⟨w.heap.size, cap, Z, rfl, Nat.le_refl _, heap_alloc_new w _, Nat.zero_le _, hcm, by rw [HZ.out]; simp, by simp⟩⟩
end Go.Proofs.Ytogcecfeofbbnaa
end

section
/- slices.Concat of lists of numbers. -/
namespace Go.Proofs.Ytogcecfeofbbnaa
open Go.RowKit

set_option maxHeartbeats 1000000 in
set_option maxRecDepth 100000 in
theorem sconcat (A : Option Addr) (n c : Nat) (xss : List (List Int)) (w : World) (h : Lists w A n xss) (hlen : xss.flatten.length ≤ 17592186044416) :
    Calls Try.prog 90 #[.slice A n c] w fun e w' => ∃ A' c', e = .returned (.slice A' xss.flatten.length c') ∧ Owned w' w.heap.size (.slice A' xss.flatten.length c') xss.flatten ∧ Below w.heap.size w w' := by
  have L := Lib.hid h.1
  have hn := h.2.1
  have hall := Lib.hid (show cat xss n = xss.flatten by rw [← L.out, cat_all])
  have hcl := Lib.hid (fun j => Nat.le_trans (cat_len xss j) hlen)
  clear hlen
  go_enter Try.func90, Try.ntmps90
  go_wp2
  go_loop [3, 11] (fun s i => ∃ k : Nat, k ≤ n ∧ i = .int .i64 k ∧ s = .int .i64 (cat xss k).length) (fun _ i => n - (intOf i).toNat)
  case atStart => exact ⟨0, Nat.zero_le _, rfl, by rw [cat_zero]; rfl⟩
  case round =>
    obtain ⟨k, hk, rfl, rfl⟩ := hrel
    by_cases hlt : k < n
    · obtain ⟨b, off, Aj, nj, cj, rfl, _, hcell, hI⟩ := h.at_ hlt
      have hs : (cat xss (k + 1)).length = (cat xss k).length + nj := by rw [cat_succ (by rw [L.out]; exact hlt), List.length_append, hI.1]
      have hc1 := hcl.out (k + 1)
      generalize (cat xss k).length = a at hs
      generalize hz : (cat xss (k + 1)).length = z at hs hc1
      have HZ := Lib.hid hz
      have u1 : ((a : Int) + (nj : Int)) = (z : Int) := by omega
      have d1 : decide (((z : Nat) : Int) < 0) = false := by simp
      clear hI hz hs
      go_wp2
      go_round
      case rel => exact ⟨k + 1, by omega, by go_num, by rw [HZ.out]⟩
      case measure => simp [intOf]; omega
    · obtain rfl : k = n := by omega
      rw [hall.out]
      have hf := hcl.out k
      rw [hall.out] at hf
      obtain ⟨F, hF⟩ : ∃ F : Nat, F = xss.flatten.length := ⟨_, rfl⟩
      rw [← hF] at hf ⊢
      have HF := Lib.hid hF
      clear hF
      go_wp2_with fail
      refine (grow_nil F hf _).mono ?_
      rintro e w1 ⟨v1, rfl, o1, b1⟩
      have O1 := Lib.hid (show Owned w1 w.heap.size v1 [] from o1)
      clear o1
      go_wp2
      go_loopw [6, 27] (fun v i wr => ∃ q : Nat, q ≤ k ∧ i = .int .i64 q ∧ Owned wr w.heap.size v (cat xss q) ∧ Below w.heap.size w wr) (fun _ i _ => k - (intOf i).toNat)
      case atStart => exact ⟨0, Nat.zero_le _, rfl, by rw [cat_zero]; exact O1.out, b1⟩
      case round =>
        obtain ⟨q, hq, rfl, hown, hbr⟩ := hrel
        by_cases hlt : q < k
        · obtain ⟨b, off, Aj, nj, cj, rfl, _, hcell, hI⟩ := (h.below hbr).at_ hlt
          have hs := Lib.hid (cat_succ (xss := xss) (j := q) (by rw [L.out]; exact hlt))
          have hb2 := hcl.out (q + 1)
          rw [hs.out] at hb2
          obtain ⟨v', w', hr, ho', _, hbel'⟩ := run_append_ints _ _ _ _ _ _ _ cj hown hI hbr.size hb2
          rw [← hs.out] at ho'
          have O2 := Lib.hid ho'
          have B2 := Lib.hid (hbr.trans hbel')
          clear hb2 hI hown hbr ho' hbel'
          go_wp2_with (at_builtin; refine Lib.wpList_append_run _ rfl _ _ _ _ rfl _ _ rfl rfl _ _ hr ?_)
          go_roundw
          case rel => exact ⟨q + 1, by omega, by go_num, O2.out, B2.out⟩
          case measure => simp [intOf]; omega
        · obtain rfl : q = k := by omega
          rw [hall.out] at hown
          have hf2 := hown.form
          obtain ⟨A2, c2, rfl⟩ := hf2
          have O2 := Lib.hid hown
          clear hown
          go_wp2
          go_ret
          exact ⟨A2, c2, rfl, O2.out, hbr⟩
end Go.Proofs.Ytogcecfeofbbnaa
end

section
/- word.Join. -/
namespace Go.Proofs.Ytogcecfeofbbnaa
open Go.RowKit

theorem wjoin (A : Option Addr) (n c : Nat) (xss : List (List Int)) (w : World) (h : Lists w A n xss) (hlen : xss.flatten.length ≤ 17592186044416) :
    Calls Try.prog 51 #[.slice A n c] w fun e w' => ∃ v, e = .returned v ∧ Owned w' w.heap.size v xss.flatten ∧ Below w.heap.size w w' := by
  go_enter Try.func51, Try.ntmps51
  go_wp2_with fail
  refine (sconcat A n c xss _ h hlen).mono ?_
  rintro e w' ⟨A', c', rfl, h1, h2⟩
  generalize Value.slice A' xss.flatten.length c' = v at h1 ⊢
  go_wp2
  go_ret
  exact ⟨_, rfl, h1, h2⟩

/-- A list of one list, as a literal makes it. -/
theorem Lists.one (w : World) (A : Option Addr) (n c : Nat) (xs : List Int) (h : Ints w A n xs) :
    Lists (w.alloc (.cells #[.slice A n c] 27)) (some ⟨w.heap.size, 0, none⟩) 1 [xs] := by
  have hb : Below w.heap.size w (w.alloc (.cells #[.slice A n c] 27)) := (Below.refl _ _).alloc (Nat.le_refl _) _
  refine ⟨rfl, by omega, fun _ => ⟨w.heap.size, 0, rfl, by simp, fun j hj => ?_⟩⟩
  obtain rfl : j = 0 := by omega
  refine ⟨A, n, c, ?_, h.below hb⟩
  have := cell_of_row (w.alloc (.cells #[.slice A n c] 27)) w.heap.size 0 #[.slice A n c] 27 (0, 0) (heap_alloc_new w _)
  rw [Nat.zero_add, this]; rfl

/-- Join of one word. -/
theorem wjoin1 (A : Option Addr) (n c : Nat) (xs : List Int) (w : World) (h : Ints w A n xs) :
    Calls Try.prog 51 #[.slice (some ⟨w.heap.size, 0, none⟩) 1 1] (w.alloc (.cells #[.slice A n c] 27)) fun e w' => ∃ A' c', e = .returned (.slice A' n c') ∧ Owned w' w.heap.size (.slice A' n c') xs ∧ Below w.heap.size w w' := by
  refine (wjoin _ _ _ [xs] _ (Lists.one w A n c xs h) (by simp; rw [h.1]; exact h.2.1)).mono ?_
  rintro e w' ⟨v, rfl, hv, hb⟩
  rw [show ([xs] : List (List Int)).flatten = xs by simp] at hv
  obtain ⟨A', c', e⟩ := hv.form
  rw [h.1] at e
  subst e
  refine ⟨A', c', rfl, hv.lower (by simp), ((Below.refl _ _).alloc (Nat.le_refl _) _).trans (hb.mono (by simp))⟩
end Go.Proofs.Ytogcecfeofbbnaa
end

section
/- homing: Word. -/
namespace Go.Proofs.Ytogcecfeofbbnaa
open Go.RowKit Go.Shelf

/-- A list of two lists, as a literal makes it. -/
theorem Lists.twoh (w : World) (A B : Option Addr) (n c m d : Nat) (xs ys : List Int) (h : Ints w A n xs) (k : Ints w B m ys) :
    Lists (w.alloc (.cells #[.slice A n c, .slice B m d] 27)) (some ⟨w.heap.size, 0, none⟩) 2 [xs, ys] := by
  have hb := alloc_below w (.cells #[.slice A n c, .slice B m d] 27)
  refine ⟨rfl, by omega, fun _ => ⟨w.heap.size, 0, rfl, by simp, fun j hj => ?_⟩⟩
  have hc := cell_of_row (w.alloc (.cells #[.slice A n c, .slice B m d] 27)) w.heap.size j #[.slice A n c, .slice B m d] 27 (0, 0) (heap_alloc_new w _)
  rw [Nat.zero_add, hc]
  match j, hj with
  | 0, _ => exact ⟨A, n, c, rfl, h.below hb⟩
  | 1, _ => exact ⟨B, m, d, rfl, k.below hb⟩
/-- Join of two words. -/
theorem wjoin2h (A B : Option Addr) (n c m d : Nat) (xs ys : List Int) (w : World) (h : Ints w A n xs) (k : Ints w B m ys) (hl : n + m ≤ 17592186044416) :
    Calls Try.prog 51 #[.slice (some ⟨w.heap.size, 0, none⟩) 2 2] (w.alloc (.cells #[.slice A n c, .slice B m d] 27)) fun e w' => ∃ A' c', e = .returned (.slice A' (n + m) c') ∧ Owned w' w.heap.size (.slice A' (n + m) c') (xs ++ ys) ∧ Below w.heap.size w w' := by
  refine (wjoin _ _ _ [xs, ys] _ (Lists.twoh w A B n c m d xs ys h k) (by simp; rw [h.1, k.1]; exact hl)).mono ?_
  rintro e w' ⟨v, rfl, hv, hb⟩
  rw [show ([xs, ys] : List (List Int)).flatten = xs ++ ys by simp] at hv
  obtain ⟨A', c', e⟩ := hv.form
  rw [List.length_append, h.1, k.1] at e
  subst e
  exact ⟨A', c', rfl, hv.lower (by simp), (alloc_below w _).trans (hb.mono (by simp))⟩

def lenV : Value → Nat
  | .slice _ n _ => n
  | _ => 0

set_option maxHeartbeats 8000000 in
set_option maxRecDepth 100000 in
theorem pword_ok (i st n : Nat) (A B : Option Addr) (c d : Nat) (nx ot : List (List Int)) (r : List Int) (er : Int) (w : World) (hx : Lists w A n nx) (ho : Lists w B n ot) (hM : Mok i st n nx ot) (hR : (mnR nx ot i st n).length = n) (hh : Hom i n nx ot [] r er) :
    Calls Try.prog 17 #[.agg #[.int .i64 i, .int .i64 st, .slice A n c, .slice B n d]] w fun e w' => ∃ A' c', e = .returned (.tuple #[.slice A' r.length c', .int .i64 er]) ∧ Owned w' w.heap.size (.slice A' r.length c') r ∧ Below w.heap.size w w' := by
  obtain ⟨w1, hw1⟩ : ∃ w1, w1 = w.alloc (.cells #[.int .i64 i, .int .i64 st, .slice A n c, .slice B n d] 24) := ⟨_, rfl⟩
  have b1 : Below w.heap.size w w1 := by rw [hw1]; exact alloc_below _ _
  have m1 : Mblk w1 w.heap.size (.int .i64 i) (.int .i64 st) (.slice A n c) (.slice B n d) := by rw [hw1]; exact mealy_box _ _ _ _ _
  have z1 : w1.heap.size = w.heap.size + 1 := by rw [hw1]; simp
  obtain ⟨k0, k1, k2, k3, _⟩ := m1.cells
  rw [hw1] at k0 k1 k2 k3
  have hn := hM.n2
  have HW1 := Lib.hid hw1
  have HV := Lib.hid (pvalid i st A B n c n d nx ot w1 (hx.below b1) (ho.below b1))
  rw [hM.vld] at HV
  have HMN := Lib.hid (fun (W : World) (h : Below w1.heap.size w1 W) => pminl_ok i st n A B c d nx ot true W ((hx.below b1).below h) ((ho.below b1).below h) hM (decide_eq_true hR).symm)
  have HBEG := Lib.hid (fun (W : World) => pbegin (.int .i64 i) (.int .i64 st) (.slice B n d) n c A W (by omega))
  have HST := Lib.hid (fun (W : World) (h : Below w1.heap.size w1 W) (s t : Nat) => pstates i st A B n c n d nx ot s t W ((hx.below b1).below h) ((ho.below b1).below h))
  have HSR := Lib.hid (fun (s t : Nat) (hs : s < n) (ht : t < n) => sres_ok hM hs ht)
  have HAF := Lib.hid (fun (W : World) (h : Below w1.heap.size w1 W) (Y X : Option Addr) (cx L cg k : Nat) (G : List (List Int)) (v u : List Int) => pgafter i st n L cg k cx A B X Y c d nx ot G v u W ((hx.below b1).below h) ((ho.below b1).below h) hM)
  have HSTEP := Lib.hid (fun (u : List Int) (h : Hom i n nx ot u r er) => h.step hM hR)
  have HLEN := Lib.hid (fun (s t : Nat) (hs : s < n) (ht : t < n) => dst_len hM hM hs ht)
  have hg0 := Grp.begin n nx ot
  have HROWS := Lib.hid (fun (W : World) (base : Nat) (Z : Option Addr) (cz : Nat) (h : OwnedG W base (.slice Z (gadd [] (zs (List.range n))).length cz) (gadd [] (zs (List.range n)))) => h.rows (n := n) (by have := hg0.len; omega) hn fun xs hx => (hg0.mem xs hx).1)
  have HG0 := Lib.hid hg0
  clear hg0
  generalize gadd [] (zs (List.range n)) = G0 at HBEG HROWS HG0
  have HH := Lib.hid hh
  have HK := Lib.hid (fun (W : World) (h : Below w1.heap.size w1 W) => (m1.kept h (show w.heap.size < w1.heap.size by omega)).cells)
  have HB1 := Lib.hid b1
  clear hw1 b1 m1 hx ho hM hR hh
  go_enter Try.func17, Try.ntmps17
  go_wp2_with fail
  rw [← HW1.out]
  refine HV.out.mono ?_
  rintro e w2 ⟨rfl, b2⟩
  have HB2 := Lib.hid b2
  clear k0 k1 k2 k3
  obtain ⟨k0, k1, k2, k3, _⟩ := HK.out _ b2
  clear b2
  go_wp2_with fail
  refine (HMN.out _ HB2.out).mono ?_
  rintro e w3 ⟨rfl, b3⟩
  have hb3 := bt HB2.out b3
  have HB3 := Lib.hid hb3
  clear k0 k1 k2 k3 b3
  obtain ⟨k0, k1, k2, k3, _⟩ := HK.out _ hb3
  clear hb3
  go_wp2_with fail
  refine (HBEG.out _).mono ?_
  rintro e w4 ⟨Z, cz, rfl, hG4, b4⟩
  have HB4 := Lib.hid (bt HB3.out b4)
  have HL4 := Lib.hid (HROWS.out _ _ _ _ hG4)
  clear k0 k1 k2 k3 hG4 b4
  go_wp2
  go_loopw [5, 6] (fun uv gv wr => ∃ (u : List Int) (U : Option Addr) (cu : Nat) (X' : Option Addr) (c' : Nat) (G' : List (List Int)), uv = .slice U u.length cu ∧ gv = .slice X' G'.length c' ∧ Owned wr w1.heap.size (.slice U u.length cu) u ∧ Lists wr X' G'.length G' ∧ Grp n nx ot u G' ∧ Wd i u ∧ u.length ≤ 1024 ∧ Hom i n nx ot u r er ∧ Below w1.heap.size w1 wr) (fun uv _ _ => 1024 - lenV uv)
  case atStart => exact ⟨[], none, 0, Z, cz, G0, rfl, rfl, Owned.nil _ _, HL4.out, HG0.out, Wd.nil i, by simp, HH.out, HB4.out⟩
  case round =>
    obtain ⟨u, U, cu, X', c', G', rfl, rfl, hU, hL, hG, hW, hlen, hH, hbr⟩ := hrel
    have HU := Lib.hid hU
    have HL := Lib.hid hL
    have HG := Lib.hid hG
    have HWD := Lib.hid hW
    have HHM := Lib.hid hH
    have HBR := Lib.hid hbr
    have hzr := hbr.size
    by_cases hg : 0 < G'.length
    · have ho1 : opnL n nx ot u n = G'.getD 0 [] := hG.opnL
      have hne : ¬ opnL n nx ot u n = [] := by
        cases G' with
        | nil => simp at hg
        | cons g G2 =>
          obtain ⟨o, _, h2, _⟩ := hG.head
          rw [ho1]
          intro e
          have e : g = [] := e
          rw [e] at h2
          simp at h2
      obtain ⟨s, t, v, h1, h2, h3, h4, h5, h6, h7, h8⟩ := HSTEP.out u hH hne
      have hone := (opnL_one n nx ot u).resolve_left hne
      rw [ho1] at h1 h2 hone
      obtain ⟨g0, o0, Aj, nj, cj, rfl, hg0, hc0, hr0⟩ := hL.at_ hg
      have hnj := hr0.1
      obtain ⟨g1, o1, rfl, hg1, hc1⟩ := hr0.at_ (k := 0) (by omega)
      obtain ⟨g1', o1', e1, hg1', hc2⟩ := hr0.at_ (k := 1) (by omega)
      cases e1
      rw [h1] at hc1
      rw [h2] at hc2
      rw [Nat.add_zero] at hc0 hc1
      have hnj1 : ((1 : Int) < (nj : Int)) := by omega
      have hnj0 : 0 < nj := by omega
      have hvl := HLEN.out s t h3 h4
      rw [h5, show (some v).getD [] = v from rfl] at hvl
      have hsr := HSR.out s t h3 h4
      rw [h5] at hsr
      have hLE : ∃ LL, LL = G'.length := ⟨_, rfl⟩
      obtain ⟨LL, hLL⟩ := hLE
      rw [← hLL] at hg ⊢
      have HLL := Lib.hid hLL
      clear hLL
      have HSTC : Hid (∀ W, Below w1.heap.size w1 W → Calls Try.prog 50 #[.agg #[.int .i64 i, .int .i64 st, .slice A n c, .slice B n d], .int .i64 s, .int .i64 t] W fun e w' => ∃ A' c', e = .returned (.tuple #[.slice A' v.length c', .bool true, .int .i64 0]) ∧ Owned w' W.heap.size (.slice A' v.length c') v ∧ Below W.heap.size W w') := Lib.hid (fun W h => by
        have := HST.out W h s t
        rw [hsr] at this
        exact this)
      have hk7 : ∀ W, Below wr.heap.size wr W → W.cell? ⟨w.heap.size, 0, none⟩ = some (.int .i64 i) ∧ W.cell? ⟨w.heap.size, 1, none⟩ = some (.int .i64 st) ∧ W.cell? ⟨w.heap.size, 2, none⟩ = some (.slice A n c) ∧ W.cell? ⟨w.heap.size, 3, none⟩ = some (.slice B n d) ∧ W.cell? ⟨g0, o0, none⟩ = some (.slice (some ⟨g1, o1, none⟩) nj cj) ∧ W.cell? ⟨g1, o1, none⟩ = some (.int .i64 s) ∧ W.cell? ⟨g1, o1 + 1, none⟩ = some (.int .i64 t) := fun W hW => by
        obtain ⟨q0, q1, q2, q3, _⟩ := HK.out W (HBR.out.trans (hW.mono hzr))
        exact ⟨q0, q1, q2, q3, (hW.cell (p := ⟨g0, o0, none⟩) hg0).trans hc0, (hW.cell (p := ⟨g1, o1, none⟩) hg1).trans hc1, (hW.cell (p := ⟨g1, o1 + 1, none⟩) hg1).trans hc2⟩
      have HK7 := Lib.hid hk7
      obtain ⟨q0, q1, q2, q3, q4, q5, q6⟩ := hk7 wr (Below.refl _ _)
      have H8 := Lib.hid h8
      have HV6 := Lib.hid h6
      have HV7 := Lib.hid h7
      clear hk7 hsr h1 h2 h3 h4 h5 h6 h7 h8 hone hr0 hnj hc0 hc1 hc2 ho1 hne hU hL hG hW hH hbr hg0 hg1 hg1'
      go_wp2_with fail
      go_region_held3 (fun w' => w'.cell? ⟨w.heap.size, 0, none⟩ = some (.int .i64 i) ∧ w'.cell? ⟨w.heap.size, 1, none⟩ = some (.int .i64 st) ∧ w'.cell? ⟨w.heap.size, 2, none⟩ = some (.slice A n c) ∧ w'.cell? ⟨w.heap.size, 3, none⟩ = some (.slice B n d) ∧ w'.cell? ⟨g0, o0, none⟩ = some (.slice (some ⟨g1, o1, none⟩) nj cj) ∧ w'.cell? ⟨g1, o1, none⟩ = some (.int .i64 s) ∧ w'.cell? ⟨g1, o1 + 1, none⟩ = some (.int .i64 t))
        (first | exact HK7.out _ (below_drewN (Below.refl _ _) 1) | exact HK7.out _ (bt (below_drewN (Below.refl _ _) 1) b5) | go_keep)
        ((go_at_call 50; refine (HSTC.out _ (HBR.out.trans ((below_drewN (Below.refl _ _) 1).mono hzr))).mono ?_; rintro e w5 ⟨A5, c5, rfl, o5, b5⟩))
      have HO5 := Lib.hid (o5.lower (base' := w1.heap.size) hzr)
      have hb5 := HBR.out.trans ((bt (below_drewN (Below.refl _ _) 1) b5).mono hzr)
      have HB5 := Lib.hid hb5
      have HU5 := Lib.hid (HU.out.kept (bt (below_drewN (Below.refl _ _) 1) b5))
      have HL5 := Lib.hid (HL.out.below (bt (below_drewN (Below.refl _ _) 1) b5))
      clear o5 b5 hb5 q0 q1 q2 q3 q4 q5 q6
      have HJ := Lib.hid (wjoin2h U A5 u.length cu v.length c5 u v w5 (HU5.out.ints (by omega)) (HO5.out.ints (by omega)) (by omega))
      go_wp2_with fail
      refine HJ.out.mono ?_
      rintro e w6 ⟨A6, c6, rfl, o6, b6⟩
      have hz5 := HB5.out.size
      have HO6 := Lib.hid (o6.lower (base' := w1.heap.size) hz5)
      have hb6 := HB5.out.trans (b6.mono hz5)
      have HB6 := Lib.hid hb6
      have HL6 := Lib.hid (HL5.out.below b6)
      have HV6' := Lib.hid ((HO5.out.ints (by omega)).below b6)
      obtain ⟨q0, q1, q2, q3, _⟩ := HK.out _ hb6
      clear o6 b6 hb6
      rcases H8.out with ⟨h1, rfl, rfl⟩ | ⟨h1, h2⟩
      · have hd : ((1024 : Int) < (u.length : Int) + (v.length : Int)) := by omega
        clear h1 hvl hlen
        go_wp2
        go_ret2
        exact ⟨none, 0, rfl, Owned.nil _ _, HB1.out.trans (HB6.out.mono (by omega))⟩
      · have hd : ¬ ((1024 : Int) < (u.length : Int) + (v.length : Int)) := by omega
        have H2 := Lib.hid h2
        have H1 := Lib.hid h1
        clear h1 h2 hvl hlen
        go_wp2_with fail
        refine (HAF.out w6 HB6.out A5 (some ⟨g0, o0, none⟩) c5 LL c' v.length G' u v (by rw [HLL.out]; exact HL6.out) HG.out HWD.out HV6'.out HV6.out (by have := H1.out; omega)).mono ?_
        rintro e w7 ⟨A7, c7, G7, rfl, hL7, hG7, b7⟩
        have HL7 := Lib.hid hL7
        have HG7 := Lib.hid hG7
        have HB71 := Lib.hid b7
        have HB7 := Lib.hid (HB6.out.trans (b7.mono HB6.out.size))
        clear hL7 hG7 b7 q0 q1 q2 q3
        go_wp2
        go_roundw
        case rel => exact ⟨u ++ v, A6, c6, A7, c7, G7, by rw [List.length_append], rfl, by rw [List.length_append]; exact HO6.out.kept HB71.out, HL7.out, HG7.out, HWD.out.app HV6.out, by rw [List.length_append]; exact H1.out, H2.out, HB7.out⟩
        case measure => have := H1.out; have := HV7.out; simp [lenV]; omega
    · have hg0 : G' = [] := List.eq_nil_of_length_eq_zero (by omega)
      subst hg0
      have ho1 : opnL n nx ot u n = [] := hG.opnL
      obtain ⟨rfl, rfl⟩ := hH.fin ho1
      clear hU hL hG hW hH hbr ho1 hg
      go_wp2
      go_ret2
      exact ⟨U, cu, rfl, HU.out.lower (by omega), HB1.out.trans (HBR.out.mono (by omega))⟩
end Go.Proofs.Ytogcecfeofbbnaa
end

section
/- homing, the reference: run. -/
namespace Go.Proofs.Ytogcecfeofbbnaa
open Go.RowKit

set_option maxHeartbeats 2000000 in
set_option maxRecDepth 100000 in
theorem rrun13 (i st n : Nat) (A B D : Option Addr) (c d k e s : Nat) (nx ot : List (List Int)) (xs : List Int) (w : World) (hM : Mok i st n nx ot) (hx : Lists w A n nx) (ho : Lists w B n ot) (hs : s < n) (hD : Ints w D k xs) (hS : ∀ x, x ∈ xs → 0 ≤ x ∧ x < i) :
    Calls Try.prog 92 #[.agg #[.int .i64 i, .int .i64 st, .slice A n c, .slice B n d], .int .i64 s, .slice D k e] w fun e w' => ∃ A' c', e = .returned (.tuple #[.slice A' k c', .int .i64 (runS nx s xs)]) ∧ Owned w' w.heap.size (.slice A' k c') (runO nx ot s xs) ∧ Below w.heap.size w w' := by
  have L := Lib.hid hD.1
  have hk := hD.2.1
  have hN := hx.2.1
  have HS := Lib.hid hS
  clear hS
  have hb0 := alloc_below w (.cells #[.int .i64 i, .int .i64 st, .slice A n c, .slice B n d] 24)
  go_enter Try.func92, Try.ntmps92
  go_wp2
  go_loopw [1, 8, 9] (fun sv v j wr => ∃ (q s' : Nat) (A' : Option Addr) (c' : Nat), q ≤ k ∧ j = .int .i64 q ∧ v = .slice A' q c' ∧ sv = .int .i64 s' ∧ s' = runS nx s (xs.take q) ∧ s' < n ∧ Owned wr (w.heap.size + 1) (.slice A' q c') (runO nx ot s (xs.take q)) ∧ Below (w.heap.size + 1) (w.alloc (.cells #[.int .i64 i, .int .i64 st, .slice A n c, .slice B n d] 24)) wr) (fun _ _ j _ => k - (intOf j).toNat)
  case atStart => exact ⟨0, s, none, 0, Nat.zero_le _, rfl, rfl, rfl, rfl, hs, Owned.nil _ _, Below.refl _ _⟩
  case round =>
    obtain ⟨q, s', A', c', hq, rfl, rfl, rfl, hss, hs', hown, hbr⟩ := hrel
    have hbw := hb0.trans (hbr.mono (Nat.le_succ _))
    have hsz : w.heap.size + 1 ≤ wr.heap.size := by have := hbr.size; simpa using this
    have HSS := Lib.hid hss
    clear hss
    by_cases hlt : q < k
    · obtain ⟨k0, k1, k2, k3⟩ := box4 hbr
      obtain ⟨b1, o1, rfl, hb1, hc0⟩ := hD.at_ hlt
      have hc1 := (hbw.cell (p := ⟨b1, o1 + q, none⟩) hb1).trans hc0
      clear hc0
      have hxm := HS.out (xs.getD q 0) (by rw [List.getD_eq_getElem?_getD, List.getElem?_eq_getElem (by rw [L.out]; exact hlt)]; exact List.getElem_mem _)
      have hO := Lib.hid (runO_next (nx := nx) (ot := ot) (s := s) (j := q) (xs := xs) (by rw [L.out]; exact hlt))
      have hT := Lib.hid (runS_next (nx := nx) (s := s) (j := q) (xs := xs) (by rw [L.out]; exact hlt))
      rw [show xs[q]?.getD 0 = xs.getD q 0 by simp, ← HSS.out] at hO hT
      generalize xs.getD q 0 = x at hc1 hxm hO hT
      obtain ⟨a, rfl⟩ : ∃ a : Nat, x = a := ⟨x.toNat, by omega⟩
      have ha : a < i := by omega
      rw [Int.toNat_natCast] at hO hT
      have hlen : (runO nx ot s (xs.take q)).length = q := by rw [runO_len, List.length_take, L.out]; omega
      generalize runO nx ot s (xs.take q) = os at hown hO hlen
      obtain ⟨F, hF⟩ := app_all hown (oN ot s' a) hsz (by rw [hlen]; omega)
      rw [← hO.out] at hF
      have HF := Lib.hid hF
      obtain ⟨g1, p1, A1, n1, c1, hA, hg1, hd1, hr1⟩ := hx.at_ hs'
      obtain ⟨g2, p2, A2, n2, c2, hB, hg2, hd2, hr2⟩ := ho.at_ hs'
      have hi1 := (hM.row s' hs').1
      have hi2 := (hM.row s' hs').2.1
      have hl1 := hr1.1
      have hl2 := hr2.1
      obtain rfl : n1 = i := by omega
      obtain rfl : n2 = n1 := by omega
      obtain ⟨g3, p3, rfl, hg3, hy1⟩ := hr1.at_ ha
      obtain ⟨g4, p4, rfl, hg4, hy2⟩ := hr2.at_ ha
      rw [hM.nN_eq hs' ha] at hy1
      change w.cell? _ = some (.int .i64 (oN ot s' a)) at hy2
      have hlt2 := hM.nN_lt hs' ha
      have hn1 := hr1.2.1
      subst hA hB
      clear hl1 hl2 hi1 hi2 hlen
      have tr : ∀ (g o : Nat) (v : Value), g < w.heap.size → w.cell? ⟨g, o, none⟩ = some v → wr.cell? ⟨g, o, none⟩ = some v := fun g o v h h2 => (hbw.cell (p := ⟨g, o, none⟩) h).trans h2
      have trF : ∀ (g o : Nat) (v : Value), g < w.heap.size + 1 → wr.cell? ⟨g, o, none⟩ = some v → ∀ k, (F k).2.cell? ⟨g, o, none⟩ = some v := fun g o v h h2 k => ((hF k).2.2.cell (p := ⟨g, o, none⟩) h).trans h2
      have e1 := tr _ _ _ hg1 hd1
      have e2 := tr _ _ _ hg2 hd2
      have e3 := tr _ _ _ hg3 hy1
      have e4 := tr _ _ _ hg4 hy2
      have f1 := trF _ _ _ (by omega) e1
      have f3 := trF _ _ _ (by omega) e3
      have f5 := trF _ _ _ (by omega) hc1
      have f6 := trF _ _ _ (by omega) k2
      clear tr trF hF hd1 hd2 hy1 hy2 k0 k1
      go_wp2
      go_region_law (refine step_append_run rfl _ _ _ _ rfl _ _ rfl rfl _ _ (HF.out _).1 ?_)
      all_goals
        go_wp2
        go_quiet (fail)
        go_wp2
        go_roundw
        case rel => exact ⟨q + 1, _, _, _, by omega, by go_num, rfl, rfl, hT.out.symm, hlt2, (HF.out _).2.1, below_drewN (hbr.trans (HF.out _).2.2) _⟩
        case measure => simp [intOf]; omega
    · obtain rfl : q = k := by omega
      have hall := Lib.hid (List.take_of_length_le (l := xs) (i := q) (by rw [L.out]; exact Nat.le_refl _))
      have hss := HSS.out
      rw [hall.out] at hown hss
      subst hss
      go_wp2
      go_ret2
      exact ⟨A', c', rfl, hown.lower (Nat.le_succ _), hbw⟩
end Go.Proofs.Ytogcecfeofbbnaa
end

section
/- homing, the reference: current. -/
namespace Go.Proofs.Ytogcecfeofbbnaa
open Go.RowKit

def fnd (nx ot : List (List Int)) (u o : List Int) (t q : Nat) : Bool := decide (∃ s, s < q ∧ runS nx s u = t ∧ runO nx ot s u = o)
theorem fnd_next {nx ot : List (List Int)} {u o : List Int} {t q : Nat} : fnd nx ot u o t (q + 1) = (fnd nx ot u o t q || (decide (runS nx q u = t) && decide (runO nx ot q u = o))) := by
  unfold fnd
  rw [Bool.eq_iff_iff]
  simp only [decide_eq_true_eq, Bool.or_eq_true, Bool.and_eq_true]
  constructor
  · rintro ⟨s, h1, h2, h3⟩
    by_cases e : s = q
    · subst e; exact .inr ⟨h2, h3⟩
    · exact .inl ⟨s, by omega, h2, h3⟩
  · rintro (⟨s, h1, h2, h3⟩ | ⟨h2, h3⟩)
    · exact ⟨s, by omega, h2, h3⟩
    · exact ⟨q, by omega, h2, h3⟩
def curT (n : Nat) (nx ot : List (List Int)) (u o : List Int) (t : Nat) : List Int := zs ((List.range t).filter fun t => fnd nx ot u o t n)
theorem curT_next (n : Nat) (nx ot : List (List Int)) (u o : List Int) (t : Nat) : curT n nx ot u o (t + 1) = if fnd nx ot u o t n = true then curT n nx ot u o t ++ [(t : Int)] else curT n nx ot u o t := by
  unfold curT
  rw [List.range_succ, List.filter_append, zs_append]
  by_cases h : fnd nx ot u o t n = true
  · rw [if_pos h]; simp [h, zs]
  · rw [if_neg h]; simp [h, zs]
theorem curT_all (n : Nat) (nx ot : List (List Int)) (u o : List Int) : curT n nx ot u o n = cur n nx ot u o := rfl
theorem curT_len (n : Nat) (nx ot : List (List Int)) (u o : List Int) (t : Nat) : (curT n nx ot u o t).length ≤ t := by
  unfold curT
  rw [zs_len]
  exact Nat.le_trans (List.length_filter_le _ _) (by rw [List.length_range]; exact Nat.le_refl _)

set_option maxHeartbeats 4000000 in
set_option maxRecDepth 100000 in
theorem rcur13 (i st n k cx l cy : Nat) (A B X Y : Option Addr) (c d : Nat) (nx ot : List (List Int)) (u o : List Int) (w : World) (hx : Lists w A n nx) (ho : Lists w B n ot) (hM : Mok i st n nx ot) (hu : Ints w X k u) (hy : Ints w Y l o) (hW : ∀ x, x ∈ u → 0 ≤ x ∧ x < i) (hk : k ≤ 1024) :
    Calls Try.prog 59 #[.agg #[.int .i64 i, .int .i64 st, .slice A n c, .slice B n d], .slice X k cx, .slice Y l cy] w fun e w' => ∃ A' c', e = .returned (.slice A' (cur n nx ot u o).length c') ∧ Owned w' w.heap.size (.slice A' (cur n nx ot u o).length c') (cur n nx ot u o) ∧ Below w.heap.size w w' := by
  obtain ⟨w1, hw1⟩ : ∃ w1, w1 = w.alloc (.cells #[.int .i64 i, .int .i64 st, .slice A n c, .slice B n d] 24) := ⟨_, rfl⟩
  have b1 : Below w.heap.size w w1 := by rw [hw1]; exact alloc_below _ _
  have m1 : Mblk w1 w.heap.size (.int .i64 i) (.int .i64 st) (.slice A n c) (.slice B n d) := by rw [hw1]; exact mealy_box _ _ _ _ _
  have z1 : w1.heap.size = w.heap.size + 1 := by rw [hw1]; simp
  have hn := hM.n2
  have HW1 := Lib.hid hw1
  have HM1 := Lib.hid m1
  have HB1 := Lib.hid b1
  have HY := Lib.hid (hy.below b1)
  have HRUN := Lib.hid (fun (W : World) (hw : Below w1.heap.size w1 W) (s : Nat) (hs : s < n) => rrun13 i st n A B X c d k cx s nx ot u W hM ((hx.below b1).below hw) ((ho.below b1).below hw) hs ((hu.below b1).below hw) hW)
  clear hw1 m1 b1 hx ho hM hu hy hW
  go_enter Try.func59, Try.ntmps59
  go_wp2
  rw [← HW1.out]
  go_loopw [8, 7] (fun kv lv wr => ∃ (t : Nat) (A' : Option Addr) (c' : Nat), t ≤ n ∧ kv = .int .i64 t ∧ lv = .slice A' (curT n nx ot u o t).length c' ∧ Owned wr w1.heap.size (.slice A' (curT n nx ot u o t).length c') (curT n nx ot u o t) ∧ Below w1.heap.size w1 wr) (fun kv _ _ => n - (intOf kv).toNat)
  case atStart => exact ⟨0, none, 0, Nat.zero_le _, rfl, rfl, Owned.nil _ _, Below.refl _ _⟩
  case round =>
    obtain ⟨t, A', c', ht, rfl, rfl, hown, hbr⟩ := hrel
    have HOW := Lib.hid hown
    have HBR := Lib.hid hbr
    obtain ⟨k0, k1, k2, k3, _⟩ := (HM1.out.kept hbr (by omega)).cells
    have hlen := curT_len n nx ot u o t
    have HN := Lib.hid (curT_next n nx ot u o t)
    have hzr := hbr.size
    by_cases hlt : t < n
    · generalize curT n nx ot u o t = C at hown HOW HN hlen ⊢
      clear hown hbr
      obtain ⟨wo, hwo⟩ : ∃ wo : World, wo = wr := ⟨_, rfl⟩
      subst hwo
      go_wp2
      clear k0 k1 k2 k3
      go_loopw [9, 10] (fun fv kv wq => ∃ q : Nat, q ≤ n ∧ kv = .int .i64 q ∧ fv = .bool (fnd nx ot u o t q) ∧ Below wo.heap.size wo wq) (fun _ kv _ => n - (intOf kv).toNat)
      case atStart => exact ⟨0, Nat.zero_le _, rfl, by simp [fnd], Below.refl _ _⟩
      case round =>
        obtain ⟨q, hq, rfl, rfl, hbq⟩ := hrel
        have hbq1 : Below w1.heap.size w1 wr := HBR.out.trans (hbq.mono hzr)
        have HBQ := Lib.hid hbq
        obtain ⟨k0, k1, k2, k3, _⟩ := (HM1.out.kept hbq1 (by omega)).cells
        by_cases hlq : q < n
        · have HF := Lib.hid (fnd_next (nx := nx) (ot := ot) (u := u) (o := o) (t := t) (q := q))
          have HR := Lib.hid (HRUN.out wr hbq1 q hlq)
          have HY2 := Lib.hid (HY.out.below hbq1)
          generalize fnd nx ot u o t q = fb at HF ⊢
          generalize hss : runS nx q u = s at HR HF
          generalize hoo : runO nx ot q u = r at HR HF
          have hrl : r.length = u.length := by rw [← hoo, runO_len]
          clear hss hoo hbq hbq1
          go_wp2_with fail
          refine HR.out.mono ?_
          rintro e w3 ⟨A3, c3, rfl, o3, b3⟩
          have hkr : r.length = k := by obtain ⟨A9, c9, e9⟩ := o3.form; cases e9; rfl
          have HI := Lib.hid (fun (b : Bool) (hb : b = decide (r = o)) => rints A3 Y k c3 l cy r o b w3 (o3.ints (by omega)) (HY2.out.below b3) hb)
          have HB3 := Lib.hid (bt HBQ.out b3)
          clear o3 b3 k0 k1 k2 k3
          by_cases hfb : fb = true
          · subst hfb
            go_wp2
            go_roundw
            case rel => exact ⟨q + 1, by omega, by go_num, by rw [HF.out]; simp, HB3.out⟩
            case measure => simp [intOf]; omega
          · have hfb : fb = false := by simpa using hfb
            subst hfb
            by_cases hst : s = t
            · have he : ((s : Int) == (t : Int)) = true := by rw [hst]; simp
              have HF2 : Hid (fnd nx ot u o t (q + 1) = decide (r = o)) := Lib.hid (by rw [HF.out, hst]; simp)
              generalize decide (r = o) = b at HI HF2
              have HI2 := Lib.hid (HI.out b rfl)
              clear hst
              go_wp2_with fail
              refine HI2.out.mono ?_
              rintro e w4 ⟨rfl, q4, rfl⟩
              have HB4 := Lib.hid (below_drewN HB3.out q4)
              go_wp2
              go_roundw
              case rel => exact ⟨q + 1, by omega, by go_num, by rw [HF2.out], HB4.out⟩
              case measure => simp [intOf]; omega
            · have he : ((s : Int) == (t : Int)) = false := by rw [beq_eq_false_iff_ne]; omega
              have HF2 : Hid (fnd nx ot u o t (q + 1) = false) := Lib.hid (by rw [HF.out]; simp [hst])
              clear hst
              go_wp2
              go_roundw
              case rel => exact ⟨q + 1, by omega, by go_num, by rw [HF2.out], HB3.out⟩
              case measure => simp [intOf]; omega
        · obtain rfl : q = n := by omega
          have HB5 := Lib.hid (HBR.out.trans (hbq.mono hzr))
          have ho5 := HOW.out.kept hbq
          have hz5 := hbq.size
          clear hbq
          by_cases hfb : fnd nx ot u o t q = true
          · rw [if_pos hfb] at HN
            obtain ⟨A2, c2, w2, hr, ho2, hb2, _⟩ := run_append_onek ho5 (t : Int) (by omega) (by omega)
            rw [← HN.out] at ho2
            have HO2 := Lib.hid ho2
            have HB2 := Lib.hid (HB5.out.trans hb2)
            have hcl : (curT q nx ot u o (t + 1)).length = C.length + 1 := by rw [HN.out, List.length_append]; rfl
            have HCL := Lib.hid hcl
            rw [hfb]
            clear ho5 ho2 hb2 hcl hfb
            go_wp2_with (at_builtin; refine Lib.wpList_append_run _ rfl _ _ _ _ rfl _ _ rfl rfl _ _ hr ?_)
            go_roundw
            case rel => exact ⟨t + 1, A2, c2, by omega, by go_num, by rw [HCL.out], by rw [HCL.out]; exact HO2.out, HB2.out⟩
            case measure => simp [intOf]; omega
          · rw [if_neg hfb] at HN
            have hfb : fnd nx ot u o t q = false := by simpa using hfb
            have HO2 := Lib.hid ho5
            rw [hfb]
            clear ho5 hfb
            go_wp2
            go_roundw
            case rel => exact ⟨t + 1, A', c', by omega, by go_num, by rw [HN.out], by rw [HN.out]; exact HO2.out, HB5.out⟩
            case measure => simp [intOf]; omega
    · obtain rfl : t = n := by omega
      clear hown hbr
      go_wp2
      go_ret
      exact ⟨A', c', rfl, HOW.out.lower (by omega), HB1.out.trans (HBR.out.mono (by omega))⟩
end Go.Proofs.Ytogcecfeofbbnaa
end

section
/- The reference: Lex and Compare. -/
namespace Go.Proofs.Ytogcecfeofbbnaa
open Go.RowKit

set_option maxHeartbeats 400000 in
theorem rlex (A B : Option Addr) (n c m d : Nat) (xs ys : List Int) (w : World) (hx : Ints w A n xs) (hy : Ints w B m ys) :
    Calls Try.prog 93 #[.slice A n c, .slice B m d] w fun e w' => e = .returned (.int .i64 (lexi xs ys)) ∧ ∃ q, w' = w.drewN q := by
  have L1 := Lib.hid hx.1
  have L2 := Lib.hid hy.1
  have hn := hx.2.1
  have hm := hy.2.1
  have l1 : cmn xs ys ≤ n := by rw [← L1.out]; exact cmn_le_left _ _
  have l2 : cmn xs ys ≤ m := by rw [← L2.out]; exact cmn_le_right _ _
  have hag := Lib.hid (cmn_agree xs ys)
  obtain ⟨t, ht⟩ : ∃ t, t = cmn xs ys := ⟨_, rfl⟩
  rw [← ht] at l1 l2 hag
  have HT := Lib.hid ht
  have call : ∀ w0 : World, w0 = w → Calls Try.prog 116 #[.slice A n c, .slice B m d] w0 fun e w' => e = .returned (.int .i64 (t : Int)) ∧ ∃ q, w' = w0.drewN q := by
    intro w0 e0; subst e0; rw [ht]; exact rcommon _ _ _ _ _ _ xs ys _ hx hy
  have HC := Lib.hid call
  clear ht call
  by_cases h1 : t = n
  · by_cases h2 : t = m
    · have b1 : ((t : Int) == (n : Int)) = true := by simp; omega
      have b2 : ((t : Int) == (m : Int)) = true := by simp; omega
      have hfin := Lib.hid (lexi_same (xs := xs) (ys := ys) (by rw [L1.out, L2.out]; omega) (by rw [L1.out, ← h1]; exact hag.out))
      clear h1 h2
      go_enter Try.func93, Try.ntmps93
      go_wp2_with (go_at_call 116; refine (HC.out _ rfl).mono ?_; rintro e w' ⟨rfl, q, rfl⟩)
      go_ret
      exact ⟨ret_int (by rw [hfin.out]), _, rfl⟩
    · have b1 : ((t : Int) == (n : Int)) = true := by simp; omega
      have b2 : ((t : Int) == (m : Int)) = false := by simp; omega
      have hfin := Lib.hid (lexi_short (xs := xs) (ys := ys) (by rw [L1.out, L2.out]; omega) (by rw [L1.out, ← h1]; exact hag.out))
      clear h1 h2
      go_enter Try.func93, Try.ntmps93
      go_wp2_with (go_at_call 116; refine (HC.out _ rfl).mono ?_; rintro e w' ⟨rfl, q, rfl⟩)
      go_ret
      exact ⟨ret_int (by rw [hfin.out]), _, rfl⟩
  · have b1 : ((t : Int) == (n : Int)) = false := by simp; omega
    by_cases h2 : t < m
    · obtain ⟨b1', o1, rfl, _, hc1⟩ := hx.at_ (k := t) (by omega)
      obtain ⟨b2', o2, rfl, _, hc2⟩ := hy.at_ (k := t) (by omega)
      have hne : xs[t]?.getD 0 ≠ ys[t]?.getD 0 := by
        have := cmn_part xs ys (by rw [← HT.out, L1.out]; omega) (by rw [← HT.out, L2.out]; omega)
        rw [← HT.out] at this
        simpa using this
      have hfin := Lib.hid (lexi_of (xs := xs) (ys := ys) (j := t) (by rw [L1.out]; omega) (by rw [L2.out]; omega) hag.out (by simpa using hne))
      have d2 : decide ((t : Int) < (m : Int)) = true := by simp; omega
      have ht1 : t < n := by omega
      clear h1
      by_cases hlt : xs[t]?.getD 0 < ys[t]?.getD 0
      · have d3 : decide (xs[t]?.getD 0 < ys[t]?.getD 0) = true := by simpa using hlt
        have hz := Lib.hid (show cmpI (xs.getD t 0) (ys.getD t 0) = -1 by unfold cmpI; rw [if_pos (by simpa using hlt)])
        clear hne
        go_enter Try.func93, Try.ntmps93
        go_wp2_with (go_at_call 116; refine (HC.out _ rfl).mono ?_; rintro e w' ⟨rfl, q, rfl⟩)
        go_quiet (fail)
        go_wp2
        go_ret
        exact ⟨ret_int (by rw [hfin.out, hz.out]), by first | exact ⟨_, rfl⟩ | exact ⟨_, World.drewN_drewN _ _ _⟩⟩
      · have d3 : decide (xs[t]?.getD 0 < ys[t]?.getD 0) = false := by simpa using hlt
        have hgt : ys[t]?.getD 0 < xs[t]?.getD 0 := by omega
        have hz := Lib.hid (show cmpI (xs.getD t 0) (ys.getD t 0) = 1 by unfold cmpI; rw [if_neg (by simpa using hlt), if_pos (by simpa using hgt)])
        clear hne hlt
        go_enter Try.func93, Try.ntmps93
        go_wp2_with (go_at_call 116; refine (HC.out _ rfl).mono ?_; rintro e w' ⟨rfl, q, rfl⟩)
        go_quiet (fail)
        go_wp2
        go_ret
        exact ⟨ret_int (by rw [hfin.out, hz.out]), by first | exact ⟨_, rfl⟩ | exact ⟨_, World.drewN_drewN _ _ _⟩⟩
    · have d2 : decide (t < m) = false := by simp; omega
      have hfin := Lib.hid (lexi_long (xs := xs) (ys := ys) (by rw [L1.out, L2.out]; omega) (by rw [L2.out]; exact (by omega : t = m) ▸ hag.out))
      clear h1 h2
      go_enter Try.func93, Try.ntmps93
      go_wp2_with (go_at_call 116; refine (HC.out _ rfl).mono ?_; rintro e w' ⟨rfl, q, rfl⟩)
      go_quiet (fail)
      go_wp2
      go_ret
      exact ⟨ret_int (by rw [hfin.out]), by first | exact ⟨_, rfl⟩ | exact ⟨_, World.drewN_drewN _ _ _⟩⟩

end Go.Proofs.Ytogcecfeofbbnaa
end
