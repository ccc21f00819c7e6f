/- Lemmas of the proofs of this seat, of the parts Sgnm, Sgn, Rfn, Rfnw, Ptnw, Qtw, Pmn, Pmm. Conditions: none. -/
import Derived.Test.YtogcecfeofbbnaaNac
import Derived.Test.YtogcecfeofbbnaaNad
import Derived.Test.YtogcecfeofbbnaaNaa
import Derived.Deep.MidRow
import Derived.Deep.RegionHeld3
import Derived.Test.YtogcecfeofbbnaaNag
import Derived.Test.YtogcecfeofbbnaaNbp
section
/- The signature of a state. -/
namespace Go.Proofs.Ytogcecfeofbbnaa
open Go.RowKit

/-- A block that holds ints. -/
def Zblk (w : World) (g : Nat) (t : TypeId) (xs : List Int) : Prop := w.heap[g]? = some (.cells (xs.map (Value.int .i64)).toArray t (0, 0))
theorem Zblk.at_ {w : World} {g : Nat} {t : TypeId} {xs : List Int} (h : Zblk w g t xs) {j : Nat} (hj : j < xs.length) : w.cell? ⟨g, j, none⟩ = some (.int .i64 (xs.getD j 0)) ∧ w.frozen? ⟨g, j, none⟩ = false := by
  refine ⟨?_, frozen_of_row w g j _ _ h⟩
  rw [cell_of_row w g j _ _ (0, 0) h]
  simp [List.getD, hj]
theorem Zblk.set {w : World} {g : Nat} {t : TypeId} {xs : List Int} (h : Zblk w g t xs) (j : Nat) (x : Int) : Zblk (w.setCell ⟨g, j, none⟩ (.int .i64 x)) g t (xs.set j x) := by
  have := heap_setCell_same w g j _ _ (.int .i64 x) h
  unfold Zblk
  rw [this, List.map_set]
  simp
theorem Zblk.kept {w w' : World} {g : Nat} {t : TypeId} {xs : List Int} (h : Zblk w g t xs) {k : Nat} (hb : Below k w w') (hg : g < k) : Zblk w' g t xs := (hb.block g hg).trans h
theorem zero128 : Try.zeroCells176 = ((List.replicate 128 (0 : Int)).map (Value.int .i64)).toArray := by kernel_rfl
theorem Zblk.cells_ (g : Nat) (t : TypeId) : ∀ (ys xs pre : List Int) (w : World), Zblk w g t (pre ++ xs) → xs.length = ys.length → Zblk (w.setCells g pre.length (ys.map (Value.int .i64))) g t (pre ++ ys)
  | [], xs, pre, w, h, hl => by
    obtain rfl : xs = [] := List.eq_nil_of_length_eq_zero hl
    exact h
  | y :: ys, [], pre, w, h, hl => by simp at hl
  | y :: ys, x :: xs, pre, w, h, hl => by
    have h1 := h.set pre.length y
    rw [List.set_append_right _ _ (Nat.le_refl _), Nat.sub_self, List.set_cons_zero] at h1
    have h2 := Zblk.cells_ g t ys xs (pre ++ [y]) _ (by simpa using h1) (by simpa using hl)
    rw [List.length_append, List.append_assoc] at h2
    exact h2
theorem Zblk.whole {w : World} {g : Nat} {t : TypeId} {xs : List Int} (h : Zblk w g t xs) (ys : List Int) (hl : xs.length = ys.length) : Zblk (w.setCells g 0 (ys.map (Value.int .i64))) g t ys := Zblk.cells_ g t ys xs [] w h hl
theorem below_setCells (B g : Nat) (hB : B ≤ g) : ∀ (vs : List Value) (o : Nat) (w : World), Below B w (w.setCells g o vs)
  | [], _, _ => Below.refl _ _
  | v :: vs, o, w => ((Below.refl B w).setCell (p := ⟨g, o, none⟩) hB v).trans (below_setCells B g hB vs (o + 1) _)
theorem Zblk.there {w : World} {g : Nat} {t : TypeId} {xs : List Int} (h : Zblk w g t xs) (n : Nat) (hn : xs.length = n) : w.there g 0 n := fun j hj => by
  obtain ⟨h1, h2⟩ := h.at_ (j := j) (by omega)
  rw [Nat.zero_add, h1]
  exact ⟨rfl, h2⟩
end Go.Proofs.Ytogcecfeofbbnaa
end

section
/- The signature of a state: the walk. -/
namespace Go.Proofs.Ytogcecfeofbbnaa
open Go.RowKit

set_option maxHeartbeats 4000000 in
set_option maxRecDepth 100000 in
theorem psign (i st n s : Nat) (A B C : Option Addr) (c d cc : Nat) (nx ot : List (List Int)) (cl : List Nat) (w : World) (hx : Lists w A n nx) (ho : Lists w B n ot) (hM : Mok i st n nx ot) (hc : Ints w C n (zs cl)) (hs : s < n) :
    Calls Try.prog 147 #[.agg #[.int .i64 i, .int .i64 st, .slice A n c, .slice B n d], .slice C n cc, .int .i64 s] w fun e w' => e = .returned (kv (sgm nx ot cl s i)) ∧ Below w.heap.size w w' := by
  have hn := hx.2.1
  have hn2 := hM.n2
  have hi64 := hM.i2
  obtain ⟨g1, o1, A1, n1, c1, rfl, hg1, hd1, hr1⟩ := hx.at_ hs
  obtain ⟨g2, o2, A2, n2, c2, rfl, hg2, hd2, hr2⟩ := ho.at_ hs
  have hl1 := hr1.1
  have hl2 := hr2.1
  have hi1 := (hM.row s hs).1
  have hi2 := (hM.row s hs).2.1
  obtain rfl : n1 = i := by omega
  obtain rfl : n1 = n2 := by omega
  clear hl1 hl2 hi1 hi2
  obtain ⟨g, hg⟩ : ∃ g, g = w.heap.size := ⟨_, rfl⟩
  obtain ⟨w1, hw1⟩ : ∃ w1, w1 = w.alloc (.cells #[.int .i64 n1, .int .i64 st, .slice (some ⟨g1, o1, none⟩) n c, .slice (some ⟨g2, o2, none⟩) n d] 24) := ⟨_, rfl⟩
  have hb1 : Below w.heap.size w w1 := by rw [hw1]; exact alloc_below _ _
  have hz1 : w1.heap.size = g + 1 := by rw [hw1, hg]; simp
  have hB1 : Mblk w1 g (.int .i64 n1) (.int .i64 st) (.slice (some ⟨g1, o1, none⟩) n c) (.slice (some ⟨g2, o2, none⟩) n d) := by rw [hw1, hg]; exact heap_alloc_new _ _
  obtain ⟨w2, hw2⟩ : ∃ w2, w2 = w1.alloc (.cells Try.zeroCells176 176) := ⟨_, rfl⟩
  have hb2 : Below w1.heap.size w1 w2 := by rw [hw2]; exact alloc_below _ _
  have hz2 : w2.heap.size = g + 2 := by rw [hw2]; simp; omega
  have hR2 : Zblk w2 (g + 1) 176 (List.replicate 128 0) := by rw [hw2, ← hz1, zero128]; exact heap_alloc_new _ _
  obtain ⟨w3, hw3⟩ : ∃ w3, w3 = w2.alloc (.cells Try.zeroCells176 176) := ⟨_, rfl⟩
  have hb3 : Below w2.heap.size w2 w3 := by rw [hw3]; exact alloc_below _ _
  have hz3 : w3.heap.size = g + 3 := by rw [hw3]; simp; omega
  have hS3 : Zblk w3 (g + 2) 176 (List.replicate 128 0) := by rw [hw3, ← hz2, zero128]; exact heap_alloc_new _ _
  have hbw3 : Below w.heap.size w w3 := bt hb1 (hb2.trans (hb3.mono (by omega)))
  have hB3 := hB1.kept (hb2.trans (hb3.mono (by omega))) (show g < w1.heap.size by omega)
  have hR3 := hR2.kept hb3 (by omega)
  have e1 := (hbw3.cell (p := ⟨g1, o1 + s, none⟩) hg1).trans hd1
  have HW : Hid (w3 = ((w.alloc (.cells #[.int .i64 n1, .int .i64 st, .slice (some ⟨g1, o1, none⟩) n c, .slice (some ⟨g2, o2, none⟩) n d] 24)).alloc (.cells Try.zeroCells176 176)).alloc (.cells Try.zeroCells176 176)) := Lib.hid (by rw [hw3, hw2, hw1])
  have HG := Lib.hid hg
  rw [hw3, hw2, hw1] at e1
  have HZ3 := Lib.hid hz3
  have HR3 := Lib.hid hR3
  have HB3 := Lib.hid hB3
  have HS3 := Lib.hid hS3
  have hs0 : (0 : Int) ≤ (s : Int) := by omega
  clear hw1 hw2 hw3 hz1 hz2 hz3 hb1 hb2 hb3 hB1 hR2 hg hB3 hR3 hS3
  go_enter Try.func147, Try.ntmps147
  go_wp2
  rw [← HW.out]
  try rw [← HG.out]
  clear e1
  go_loopw [16] (fun kv wr => ∃ a : Nat, a ≤ n1 ∧ kv = .int .i64 a ∧ Zblk wr (g + 2) 176 (sgm nx ot cl s a) ∧ Below (g + 2) w3 wr) (fun kv _ => n1 - (intOf kv).toNat)
  case atStart => exact ⟨0, Nat.zero_le _, rfl, by rw [sgm_zero]; exact HS3.out, Below.refl _ _⟩
  case round =>
    obtain ⟨a, ha, rfl, hS, hbr⟩ := hrel
    have hbW : Below w.heap.size w wr := hbw3.trans (hbr.mono (by have := hg1; rw [← HG.out]; omega))
    have hbox := HB3.out.kept hbr (show g < g + 2 by omega)
    obtain ⟨k0, k1, k2, k3, _⟩ := hbox.cells
    have hzr := hbr.size
    have hzr3 : g + 2 < wr.heap.size := by rw [HZ3.out] at hzr; omega
    by_cases hlt : a < n1
    · obtain ⟨b1, p1, rfl, hb1, hc1⟩ := hr1.at_ hlt
      have hc1 := (hbW.cell (p := ⟨b1, p1 + a, none⟩) hb1).trans hc1
      obtain ⟨b2, p2, rfl, hb2, hc2⟩ := hr2.at_ hlt
      have hc2 := (hbW.cell (p := ⟨b2, p2 + a, none⟩) hb2).trans hc2
      have e2 := (hbW.cell (p := ⟨g2, o2 + s, none⟩) hg2).trans hd2
      rw [hM.nN_eq hs hlt] at hc1
      have ht := hM.nN_lt hs hlt
      obtain ⟨b3, p3, rfl, hb3, hc3⟩ := hc.at_ ht
      have hc3 := (hbW.cell (p := ⟨b3, _, none⟩) hb3).trans hc3
      rw [zs_at] at hc3
      have lb : b2 < g + 2 ∧ b3 < g + 2 ∧ g2 < g + 2 := by have := HG.out; omega
      obtain ⟨lb2, lb3, lg2⟩ := lb
      have hnx := Lib.hid (sgm_succ nx ot cl s a)
      have hy : (ot.getD s []).getD a 0 = oN ot s a := rfl
      rw [hy] at hc2
      obtain ⟨q1, f1⟩ := hS.at_ (j := 2 * a) (by rw [sgm_len]; omega)
      obtain ⟨q2, f2⟩ := hS.at_ (j := 2 * a + 1) (by rw [sgm_len]; omega)
      have HS := Lib.hid hS
      generalize (sgm nx ot cl s a).getD (2 * a) 0 = u1 at q1
      generalize (sgm nx ot cl s a).getD (2 * a + 1) 0 = u2 at q2
      generalize oN ot s a = y at hc2 hnx
      generalize nN nx s a = t at hc1 ht hc3 hnx
      generalize cl.getD t 0 = z at hc3 hnx
      rw [Nat.mul_comm] at q1 f1 q2 f2
      have HY := Lib.hid hy
      clear hy hS hd1 hd2
      have j0 : (0 : Int) ≤ (a : Int) := by omega
      have j1 : (0 : Int) ≤ (t : Int) := by omega
      have j2 : (t : Int) < (n : Int) := by omega
      have j3 : (s : Int) < (n : Int) := by omega
      have j4 : (a : Int) < (n1 : Int) := by omega
      have j5 : (a : Int) < 64 := by omega
      have HK : Hid (∀ u v, ((wr.setCell ⟨g + 1 + 1, a * 2, none⟩ u).setCell ⟨g + 1 + 1, a * 2 + 1, none⟩ v).drew.cell? ⟨g, 3, none⟩ = some (.slice (some ⟨g2, o2, none⟩) n d) ∧ ((wr.setCell ⟨g + 1 + 1, a * 2, none⟩ u).setCell ⟨g + 1 + 1, a * 2 + 1, none⟩ v).drew.cell? ⟨g2, o2 + s, none⟩ = some (.slice (some ⟨b2, p2, none⟩) n1 c2) ∧ ((wr.setCell ⟨g + 1 + 1, a * 2, none⟩ u).setCell ⟨g + 1 + 1, a * 2 + 1, none⟩ v).drew.cell? ⟨b2, p2 + a, none⟩ = some (.int .i64 y) ∧ ((wr.setCell ⟨g + 1 + 1, a * 2, none⟩ u).setCell ⟨g + 1 + 1, a * 2 + 1, none⟩ v).drew.cell? ⟨b3, p3 + t, none⟩ = some (.int .i64 z)) := Lib.hid fun u v => by
        have h1 : Below (g + 2) wr (wr.setCell ⟨g + 1 + 1, a * 2, none⟩ u) := (Below.refl (g + 2) wr).setCell (p := ⟨g + 1 + 1, a * 2, none⟩) (Nat.le_refl (g + 2)) u
        have h2 : Below (g + 2) wr ((wr.setCell ⟨g + 1 + 1, a * 2, none⟩ u).setCell ⟨g + 1 + 1, a * 2 + 1, none⟩ v) := h1.setCell (p := ⟨g + 1 + 1, a * 2 + 1, none⟩) (Nat.le_refl (g + 2)) v
        have hk : Below (g + 2) wr (((wr.setCell ⟨g + 1 + 1, a * 2, none⟩ u).setCell ⟨g + 1 + 1, a * 2 + 1, none⟩ v).drew) := below_drewN h2 1
        exact ⟨(hk.cell (p := ⟨g, 3, none⟩) (show g < g + 2 by omega)).trans k3, (hk.cell (p := ⟨g2, o2 + s, none⟩) lg2).trans e2, (hk.cell (p := ⟨b2, p2 + a, none⟩) lb2).trans hc2, (hk.cell (p := ⟨b3, p3 + t, none⟩) lb3).trans hc3⟩
      go_wp2
      go_region_held3 (fun w' => w'.cell? ⟨g, 3, none⟩ = some (.slice (some ⟨g2, o2, none⟩) n d) ∧ w'.cell? ⟨g2, o2 + s, none⟩ = some (.slice (some ⟨b2, p2, none⟩) n1 c2) ∧ w'.cell? ⟨b2, p2 + a, none⟩ = some (.int .i64 y) ∧ w'.cell? ⟨b3, p3 + t, none⟩ = some (.int .i64 z)) (first | exact HK.out _ _ | exact ⟨k3, e2, hc2, hc3⟩ | go_keep) (fail)
      have hq1 := (HS.out.set (2 * a) y).set (2 * a + 1) (z : Int)
      rw [hnx.out] at hq1
      have hq2 : Below (g + 2) w3 ((wr.setCell ⟨g + 2, 2 * a, none⟩ (.int .i64 y)).setCell ⟨g + 2, 2 * a + 1, none⟩ (.int .i64 z)) := (hbr.setCell (p := ⟨g + 2, 2 * a, none⟩) (Nat.le_refl (g + 2)) _).setCell (p := ⟨g + 2, 2 * a + 1, none⟩) (Nat.le_refl (g + 2)) _
      rw [Nat.mul_comm 2 a] at hq1 hq2
      have HQ := Lib.hid (And.intro hq1 hq2)
      clear hq1 hq2
      go_wp2
      go_roundw
      case rel => exact ⟨a + 1, by omega, by go_num, HQ.out.1, below_drewN HQ.out.2 1⟩
      case measure => simp [intOf]; omega
    · obtain rfl : a = n1 := by omega
      have hR := HR3.out.kept hbr (show g + 1 < g + 2 by omega)
      have HS := Lib.hid hS
      have HR := Lib.hid hR
      have hWS := Lib.hid ((HR.out.whole (sgm nx ot cl s a) (by rw [sgm_len]; simp)))
      have hT := Lib.hid (HR.out.there 128 (by simp))
      have hBW := Lib.hid (hbW.trans (below_setCells w.heap.size (g + 1) (by rw [← HG.out]; omega) ((sgm nx ot cl s a).map (Value.int .i64)) 0 wr))
      have hsz : ((sgm nx ot cl s a).map (Value.int .i64)).toArray.size = 128 := by simp [sgm_len]
      have hone : ((sgm nx ot cl s a).map (Value.int .i64)).toArray.all (·.oneCell') = true := all_oneCell_toArray (fun v hv => by obtain ⟨x, _, rfl⟩ := List.mem_map.1 hv; rfl)
      have HSZ := Lib.hid hsz
      have HONE := Lib.hid hone
      clear hS hR hsz hone
      generalize hL : ((sgm nx ot cl s a).map (Value.int .i64)).toArray = cs at HSZ HONE
      have hS9 : wr.heap[g + 2]? = some (.cells cs 176 (0, 0)) := by rw [← hL]; exact HS.out
      have hL2 : cs.toList = (sgm nx ot cl s a).map (Value.int .i64) := by rw [← hL]
      have HL := Lib.hid hL
      have HL2 := Lib.hid hL2
      have HS9 := Lib.hid hS9
      clear hL hL2 hS9 k0 k1 k2 k3
      go_wp2_with (first
        | (refine wpList_load_row rfl 176 _ rfl (g + 2) rfl 176 cs (0, 0) _ HS9.out Try.underlying176 rfl (by rw [HSZ.out]; kernel_rfl) ?_)
        | (refine wpList_store_mid rfl 176 _ _ rfl (g + 1) 0 cs rfl rfl (by rw [HSZ.out]; exact hT.out) (by rw [HSZ.out]; kernel_rfl) HONE.out ?_))
      rw [HL2.out]
      refine bodyPost_ret (results_cell_row (by rfl) _ _ (g + 1) 176 _ (0, 0) _ rfl hWS.out Try.underlying176 rfl (by rw [List.size_toArray, List.length_map, sgm_len]; kernel_rfl)) rfl ⟨rfl, hBW.out⟩
end Go.Proofs.Ytogcecfeofbbnaa
end

section
/- One refinement of classes: the walk. -/
namespace Go.Proofs.Ytogcecfeofbbnaa
open Go.RowKit

theorem sigT : KeyT 173 176 := ⟨Try.underlying173, Go.Maps.Keyed.of_law (deep_law_laid laidOutB_ (m := 3) (by omega) (of_decide_eq_true (by kernel_rfl)) (by kernel_rfl) (by rw [Try.underlying176]))⟩

theorem sigK {x : List Int} (hl : x.length = 128) (hx : ∀ a, a ∈ x → I64 a) : IsK 176 x := by
  have c1 : Try.prog.cellsOf 176 = 128 := by kernel_rfl
  have c2 : Try.prog.cellsOf 174 = 2 := by kernel_rfl
  refine keyOf_arr Try.underlying176 (fun x hl hx => ?_) (by kernel_rfl) (by rw [c1, hl]) hx
  refine keyLits_arr Try.underlying176 (by simp [hl]) fun j hj => ?_
  rw [c2, ← List.map_drop, ← List.map_take]
  have e : Try.prog.types.size = (Try.prog.types.size - 2) + 2 := by kernel_rfl
  rw [e]
  refine keyLits_row Try.underlying174 c2 ?_ fun a ha => hx a (List.mem_of_mem_drop (List.mem_of_mem_take ha))
  rw [List.length_take, List.length_drop, hl, c1]; omega
theorem sgmK {i st n : Nat} {nx ot : List (List Int)} (hM : Mok i st n nx ot) {cl : List Nat} (hcl : ∀ t, t < n → cl.getD t 0 ≤ n) {s : Nat} (hs : s < n) : IsK 176 (sgm nx ot cl s i) := by
  refine sigK (sgm_len _ _ _ _ _) fun a ha => ?_
  obtain ⟨j, hj, rfl⟩ := List.getElem_of_mem ha
  rw [sgm_len] at hj
  have h := sgm_get nx ot cl s i j hj
  rw [List.getElem?_eq_getElem (by rw [sgm_len]; exact hj)] at h
  simp only [Option.some.injEq] at h
  rw [h]
  have hn := hM.n2
  by_cases e : j / 2 < i
  · rw [if_pos e]
    by_cases e2 : j % 2 = 0
    · rw [if_pos e2]
      have := (hM.row s hs).2.2 _ e
      unfold oN
      exact I64.mk (by omega) (by omega)
    · rw [if_neg e2]
      have := hcl _ (hM.nN_lt hs e)
      exact I64.mk (by omega) (by omega)
  · rw [if_neg e]; exact I64.mk (by omega) (by omega)
end Go.Proofs.Ytogcecfeofbbnaa
end

section
/- One refinement of classes: the walk. -/
namespace Go.Proofs.Ytogcecfeofbbnaa
open Go.RowKit

theorem Owned.apartMap {w w' : World} {base g n c b : Nat} {xs : List Int} (h : Owned w base (.slice (some ⟨g, 0, none⟩) n c) xs) (hg : w.grownBy w' (some b)) (hne : b ≠ g) : Owned w' base (.slice (some ⟨g, 0, none⟩) n c) xs :=
  World.ownsRow.kept h hg (.inr (by simp [Value.ownBlock]; exact fun e => hne e.symm))
/-- The key laid in a new block. -/
theorem sig_laid (w : World) (xs : List Int) (hl : xs.length = 128) (W : World) (hW : W = (w.alloc (.cells Try.zeroCells176 176)).setCells w.heap.size 0 (xs.map (Value.int .i64))) :
    Zblk W w.heap.size 176 xs ∧ Below w.heap.size w W ∧ w.heap.size < W.heap.size ∧ (w.alloc (.cells Try.zeroCells176 176)).there w.heap.size 0 128 := by
  have h1 : Zblk (w.alloc (.cells Try.zeroCells176 176)) w.heap.size 176 (List.replicate 128 0) := by rw [zero128]; exact heap_alloc_new _ _
  have h2 := h1.whole xs (by simp [hl])
  have h3 := below_setCells w.heap.size w.heap.size (Nat.le_refl _) (xs.map (Value.int .i64)) 0 (w.alloc (.cells Try.zeroCells176 176))
  rw [← hW] at h2 h3
  have h4 := h3.size
  simp at h4
  exact ⟨h2, (alloc_below _ _).trans h3, h4, h1.there 128 (by simp)⟩
theorem mid_set (l : List Int) (n k : Nat) (x : Int) (hl : l.length = n) (hk : k < n) (hx : l[k]? = some x) : (l.take k ++ List.replicate (n - k) 0).set k x = l.take (k + 1) ++ List.replicate (n - (k + 1)) 0 := by
  apply List.ext_getElem?
  intro j
  have h1 : (l.take k).length = k := by rw [List.length_take]; omega
  have h2 : (l.take (k + 1)).length = k + 1 := by rw [List.length_take]; omega
  rw [List.getElem?_set, List.length_append, h1, List.length_replicate]
  by_cases e : k = j
  · subst e
    rw [if_pos rfl, if_pos (by omega), List.getElem?_append_left (by omega), List.getElem?_take, if_pos (by omega), hx]
  · rw [if_neg e]
    by_cases e2 : j < k
    · rw [List.getElem?_append_left (by omega), List.getElem?_append_left (by omega), List.getElem?_take, List.getElem?_take, if_pos e2, if_pos (by omega)]
    · rw [List.getElem?_append_right (by omega), List.getElem?_append_right (by omega), h1, h2, List.getElem?_replicate, List.getElem?_replicate]
      by_cases e3 : j < n
      · rw [if_pos (by omega), if_pos (by omega)]
      · rw [if_neg (by omega), if_neg (by omega)]
theorem mid_len (l : List Int) (n k : Nat) (hl : l.length = n) (hk : k ≤ n) : (l.take k ++ List.replicate (n - k) 0).length = n := by
  rw [List.length_append, List.length_take, List.length_replicate]; omega

set_option maxHeartbeats 4000000 in
set_option maxRecDepth 100000 in
theorem prefine (i st n : Nat) (A B C : Option Addr) (c d cc : Nat) (nx ot : List (List Int)) (cl : List Nat) (w : World) (hx : Lists w A n nx) (ho : Lists w B n ot) (hM : Mok i st n nx ot) (hc : Ints w C n (zs cl)) (hcl : ∀ t, t < n → cl.getD t 0 ≤ n) :
    Calls Try.prog 138 #[.agg #[.int .i64 i, .int .i64 st, .slice A n c, .slice B n d], .slice C n cc] w fun e w' => ∃ A' c', e = .returned (.slice A' n c') ∧ Owned w' w.heap.size (.slice A' n c') (zs (num (fun s => sgm nx ot cl s i) n)) ∧ Below w.heap.size w w' := by
  have hn := hx.2.1
  have hn2 := hM.n2
  have hn1 := hM.n1
  have hlo := Lib.hid ho
  obtain ⟨g, hg⟩ : ∃ g, g = w.heap.size := ⟨_, rfl⟩
  obtain ⟨w1, hw1⟩ : ∃ w1, w1 = w.alloc (.cells #[.int .i64 i, .int .i64 st, .slice A n c, .slice B n d] 24) := ⟨_, rfl⟩
  have hb1 : Below w.heap.size w w1 := by rw [hw1]; exact alloc_below _ _
  have hz1 : w1.heap.size = g + 1 := by rw [hw1, hg]; simp
  have hB1 : Mblk w1 g (.int .i64 i) (.int .i64 st) (.slice A n c) (.slice B n d) := by rw [hw1, hg]; exact heap_alloc_new _ _
  obtain ⟨w2, hw2⟩ : ∃ w2, w2 = w1.alloc (.map #[] 0) := ⟨_, rfl⟩
  have hb2 : Below w1.heap.size w1 w2 := by rw [hw2]; exact alloc_below _ _
  have hz2 : w2.heap.size = g + 2 := by rw [hw2]; simp; omega
  have hN2 : NumIs 176 w2 (g + 1) [] := by rw [hw2, ← hz1]; exact NumIs.made _ _
  have hbw2 : Below w.heap.size w w2 := bt hb1 hb2
  have hB2 := hB1.kept hb2 (show g < w1.heap.size by omega)
  have HW : Hid (w2 = (w.alloc (.cells #[.int .i64 i, .int .i64 st, .slice A n c, .slice B n d] 24)).alloc (.map #[] 0)) := Lib.hid (by rw [hw2, hw1])
  have HG := Lib.hid hg
  have HB2 := Lib.hid hB2
  have HN2 := Lib.hid hN2
  have HZ2 := Lib.hid hz2
  have hmm := @run_makeMap Try.prog
  obtain ⟨f, hf⟩ : ∃ f : Nat → List Int, f = fun s => sgm nx ot cl s i := ⟨_, rfl⟩
  have HK := Lib.hid (show ∀ s, s < n → IsK 176 (f s) from fun s hs => by rw [hf]; exact sgmK hM hcl hs)
  have HL := Lib.hid (show ∀ s, (f s).length = 128 from fun s => by rw [hf]; exact sgm_len _ _ _ _ _)
  have HF := Lib.hid (show ∀ s, sgm nx ot cl s i = f s from fun s => by rw [hf])
  rw [← hf]
  clear hf
  clear hw1 hw2 hz1 hb1 hb2 hB1 hg hB2 hN2 hz2
  go_enter Try.func138, Try.ntmps138
  go_wp2_with (refine wpList_make_ints _ rfl _ _ rfl .i64 .i64 n rfl rfl hn ?_; intro w3 ho3 b3)
  clear hmm
  rw [← HW.out] at ho3 b3
  rw [HZ2.out] at ho3 b3
  try rw [← HW.out]
  try rw [HZ2.out]
  go_wp2
  try rw [← HG.out]
  have hB3 := (HB2.out.kept b3 (by omega))
  have hN3 := (HN2.out.below b3 (by omega))
  have HB3 := Lib.hid hB3
  have HN3 := Lib.hid hN3
  have HO3 := Lib.hid ho3
  have hz3 := b3.size
  rw [HZ2.out] at hz3
  have hbw3 : Below w.heap.size w w3 := hbw2.trans (b3.mono (by rw [← HG.out]; omega))
  clear hB3 hN3 ho3 HB2 HN2 b3
  go_loopw [17] (fun kv wr => ∃ s : Nat, s ≤ n ∧ kv = .int .i64 s ∧ NumIs 176 wr (g + 1) (grp f s) ∧ Owned wr (g + 2) (.slice (some ⟨g + 2, 0, none⟩) n n) (zs ((num f n).take s) ++ List.replicate (n - s) 0) ∧ Below (g + 1) w3 wr ∧ w3.heap.size ≤ wr.heap.size) (fun kv _ => n - (intOf kv).toNat)
  case atStart => exact ⟨0, Nat.zero_le _, rfl, HN3.out, by simpa [zs] using HO3.out, Below.refl _ _, Nat.le_refl _⟩
  case round =>
    obtain ⟨s, hs, rfl, hN, hO, hbr, hzr⟩ := hrel
    have hbW : Below w.heap.size w wr := hbw3.trans (hbr.mono (by rw [← HG.out]; omega))
    have hbox := HB3.out.kept hbr (show g < g + 1 by omega)
    obtain ⟨k0, k1, k2, k3, _⟩ := hbox.cells
    have HN := Lib.hid hN
    have HO := Lib.hid hO
    have HBR := Lib.hid hbr
    clear hN hO hbr
    by_cases hlt : s < n
    · go_wp2_with fail
      refine (psign _ _ _ _ _ _ _ _ _ _ _ _ cl _ (hx.below hbW) (hlo.out.below hbW) hM (hc.below hbW) hlt).mono ?_
      rintro e w4 ⟨rfl, b4⟩
      have hz4 := b4.size
      obtain ⟨W, hW⟩ : ∃ W, W = (w4.alloc (.cells Try.zeroCells176 176)).setCells w4.heap.size 0 ((sgm nx ot cl s i).map (Value.int .i64)) := ⟨_, rfl⟩
      obtain ⟨hZ, bW, hzW, hth⟩ := sig_laid w4 _ (sgm_len nx ot cl s i) W hW
      rw [HF.out s] at hZ hW ⊢
      have hK := HK.out s hlt
      have hl := HL.out s
      have hone : ((f s).map (Value.int .i64)).toArray.all (·.oneCell') = true := all_oneCell_toArray (fun v hv => by obtain ⟨x, _, rfl⟩ := List.mem_map.1 hv; rfl)
      have hsz : ((f s).map (Value.int .i64)).toArray.size = 128 := by simp [hl]
      have hbw4 : Below wr.heap.size wr W := bt b4 bW
      have hNW := HN.out.below hbw4 HN.out.lt
      have hOW := HO.out.kept hbw4
      have hkv : kv (f s) = .agg ((f s).map (Value.int .i64)).toArray := rfl
      rw [hkv]
      obtain ⟨cs, hcs⟩ : ∃ cs, cs = ((f s).map (Value.int .i64)).toArray := ⟨_, rfl⟩
      have hZ : W.heap[w4.heap.size]? = some (.cells cs 176 (0, 0)) := by rw [hcs]; exact hZ
      have hW2 : W = (w4.alloc (.cells Try.zeroCells176 176)).setCells w4.heap.size 0 cs.toList := by rw [hW, hcs]
      rw [← hcs] at hone hsz hkv ⊢
      have HKV := Lib.hid hkv
      have HZ := Lib.hid hZ
      have HW2 := Lib.hid hW2
      have HONE := Lib.hid hone
      have HSZ := Lib.hid hsz
      have HTH := Lib.hid hth
      have HCS := Lib.hid hcs
      have HNW := Lib.hid hNW
      have HOW := Lib.hid hOW
      have HBW := Lib.hid hbw4
      have hzW := bW.size
      have hbW9 : Below (g + 1) w3 W := HBR.out.trans (hbw4.mono (by omega))
      have hwl : (zs (num f n)).length = n := by rw [zs_len, num_len]
      have hnm : (zs (num f n))[s]? = some ((nmb f s : Nat) : Int) := by
        have := zs_at (num f n) s
        rw [num_at f hlt, List.getD_eq_getElem?_getD, List.getElem?_eq_getElem (by rw [hwl]; exact hlt)] at this
        rw [List.getElem?_eq_getElem (by rw [hwl]; exact hlt)]
        exact congrArg some this
      have htk : zs ((num f n).take s) = (zs (num f n)).take s := by simp [zs]
      have htk1 : zs ((num f n).take (s + 1)) = (zs (num f n)).take (s + 1) := by simp [zs]
      rw [htk] at hOW
      have hst := mid_set (zs (num f n)) n s _ hwl hlt hnm
      have hml := mid_len (zs (num f n)) n s hwl (by omega)
      have HST := Lib.hid hst
      have HML := Lib.hid hml
      have HTK := Lib.hid htk1
      generalize (zs (num f n)).take s ++ List.replicate (n - s) 0 = mid at hOW HST HML
      have HNW := Lib.hid hNW
      have HOW := Lib.hid hOW
      have HBW9 := Lib.hid hbW9
      clear hZ hW hW2 hone hsz hth hcs hkv hNW hOW hbw4 b4 k0 k1 k2 k3 hl hst hml htk1 htk hnm hwl hbW9 bW
      have hs0 : (0 : Int) ≤ (s : Int) := by omega
      have hz5 : wr.heap.size ≤ W.heap.size := by omega
      by_cases hin : f s ∈ grp f s
      · have hrun := HNW.out.look_in sigT hin
        rw [HKV.out, ← nmb_old f hin] at hrun
        have hg1 : grp f (s + 1) = grp f s := addK_in hin
        have HG1 := Lib.hid hg1
        have hO2 := HOW.out.stored s ((nmb f s : Nat) : Int)
        obtain ⟨bq, oq, eq, hbq, hcq⟩ := (HOW.out.ints (by rw [HML.out]; omega)).at_ hlt
        cases eq
        obtain ⟨gq, eg, _, _, hfz⟩ := HOW.out.head (by omega)
        cases eg
        have hfz := hfz s
        rw [Nat.zero_add] at hcq
        have hN2 := HNW.out.setCell (a := ⟨g + 2, s, none⟩) (by simp) (.int .i64 ((nmb f s : Nat) : Int))
        have hB2 := HBW9.out.setCell (p := ⟨g + 2, s, none⟩) (by simp) (.int .i64 ((nmb f s : Nat) : Int))
        have HR := Lib.hid (And.intro hO2 (And.intro hN2 hB2))
        clear hO2 hN2 hB2 hg1 hin hbq
        generalize nmb f s = v at hrun HR HST
        go_wp2_with (first
          | (refine wpList_store_mid rfl 176 _ _ rfl w4.heap.size 0 cs rfl rfl (by rw [HSZ.out]; exact HTH.out) (by rw [HSZ.out]; kernel_rfl) HONE.out ?_; rw [← HW2.out])
          | (refine wpList_load_row rfl 176 _ rfl w4.heap.size rfl 176 cs (0, 0) _ HZ.out Try.underlying176 rfl (by rw [HSZ.out]; kernel_rfl) ?_))
        go_roundw
        case rel => exact ⟨s + 1, by omega, by go_num, by rw [HG1.out]; exact HR.out.2.1, by rw [HTK.out, ← HST.out]; exact HR.out.1, HR.out.2.2, by simp; omega⟩
        case measure => simp [intOf]; omega
      · have hrun := HNW.out.look_out sigT hK hin
        have hlen := HNW.out.len sigT 3
        obtain ⟨w6, hup, hN6, hgr⟩ := HNW.out.put sigT hK hin (by have := grp_len f s; omega)
        rw [HKV.out] at hrun hup
        rw [← nmb_new f hin] at hlen hup
        have hg1 : grp f (s + 1) = grp f s ++ [f s] := addK_out hin
        have HG1 := Lib.hid hg1
        have hO6 := HOW.out.apartMap hgr (by omega)
        have hO2 := hO6.stored s ((nmb f s : Nat) : Int)
        obtain ⟨bq, oq, eq, hbq, hcq⟩ := (hO6.ints (by rw [HML.out]; omega)).at_ hlt
        cases eq
        obtain ⟨gq, eg, _, _, hfz⟩ := hO6.head (by omega)
        cases eg
        have hfz := hfz s
        rw [Nat.zero_add] at hcq
        have hN2 := hN6.setCell (a := ⟨g + 2, s, none⟩) (by simp) (.int .i64 ((nmb f s : Nat) : Int))
        have hB6 := HBW9.out.grown hgr (by omega) (fun k hk => by cases hk; omega)
        have hB2 := hB6.setCell (p := ⟨g + 2, s, none⟩) (by simp) (.int .i64 ((nmb f s : Nat) : Int))
        have HR := Lib.hid (And.intro hO2 (And.intro hN2 hB2))
        have hz6 := hgr.size
        clear hO2 hN2 hB2 hg1 hin hbq hO6 hN6 hgr hB6
        generalize nmb f s = v at hlen hup HR HST
        go_wp2_with (first
          | (refine wpList_store_mid rfl 176 _ _ rfl w4.heap.size 0 cs rfl rfl (by rw [HSZ.out]; exact HTH.out) (by rw [HSZ.out]; kernel_rfl) HONE.out ?_; rw [← HW2.out])
          | (refine wpList_load_row rfl 176 _ rfl w4.heap.size rfl 176 cs (0, 0) _ HZ.out Try.underlying176 rfl (by rw [HSZ.out]; kernel_rfl) ?_))
        go_roundw
        case rel => exact ⟨s + 1, by omega, by go_num, by rw [HG1.out]; exact HR.out.2.1, by rw [HTK.out, ← HST.out]; exact HR.out.1, HR.out.2.2, by simp; omega⟩
        case measure => simp [intOf]; omega
    · obtain rfl : s = n := by omega
      have hO := HO.out
      rw [List.take_of_length_le (by rw [num_len]; exact Nat.le_refl _), Nat.sub_self, List.replicate_zero, List.append_nil] at hO
      have HO2 := Lib.hid (hO.lower (base' := w.heap.size) (by rw [← HG.out]; omega))
      clear hO
      go_wp2
      go_ret
      exact ⟨_, _, rfl, HO2.out, hbW⟩
end Go.Proofs.Ytogcecfeofbbnaa
end

section
/- The classes for k: the walk. -/
namespace Go.Proofs.Ytogcecfeofbbnaa
open Go.RowKit

theorem Mok.pt_bd {i st n : Nat} {nx ot : List (List Int)} (_ : Mok i st n nx ot) (k : Nat) : ∀ t, t < n → (pt nx ot i n k).getD t 0 ≤ n := fun t ht => by
  have := cN_le (nx := nx) (ot := ot) (i := i) (k := k) ht
  unfold cN at this
  omega
/-- After how many rounds the program stops. -/
def rounds_ (nx ot : List (List Int)) (i n : Nat) (k : Int) : Nat := if k ≤ (dep nx ot i n : Int) then k.toNat else dep nx ot i n

set_option maxHeartbeats 4000000 in
set_option maxRecDepth 100000 in
theorem ppartn (i st n : Nat) (A B : Option Addr) (c d : Nat) (nx ot : List (List Int)) (k : Int) (w : World) (hx : Lists w A n nx) (ho : Lists w B n ot) (hM : Mok i st n nx ot) (hk : k ≤ 9223372036854775807) :
    Calls Try.prog 124 #[.agg #[.int .i64 i, .int .i64 st, .slice A n c, .slice B n d], .int .i64 k] w fun e w' => ∃ A' c', e = .returned (.tuple #[.slice A' n c', .int .i64 (rounds_ nx ot i n k : Nat)]) ∧ Owned w' w.heap.size (.slice A' n c') (zs (pt nx ot i n (rounds_ nx ot i n k))) ∧ Below w.heap.size w w' := by
  have hn := hx.2.1
  have hn2 := hM.n2
  have hn1 := hM.n1
  have hlo := Lib.hid ho
  obtain ⟨g, hg⟩ : ∃ g, g = w.heap.size := ⟨_, rfl⟩
  obtain ⟨w1, hw1⟩ : ∃ w1, w1 = w.alloc (.cells #[.int .i64 i, .int .i64 st, .slice A n c, .slice B n d] 24) := ⟨_, rfl⟩
  have hb1 : Below w.heap.size w w1 := by rw [hw1]; exact alloc_below _ _
  have hz1 : w1.heap.size = g + 1 := by rw [hw1, hg]; simp
  have hB1 : Mblk w1 g (.int .i64 i) (.int .i64 st) (.slice A n c) (.slice B n d) := by rw [hw1, hg]; exact heap_alloc_new _ _
  have HW := Lib.hid hw1
  have HG := Lib.hid hg
  have HB1 := Lib.hid hB1
  have HZ1 := Lib.hid hz1
  obtain ⟨R, hR⟩ : ∃ R, R = rounds_ nx ot i n k := ⟨_, rfl⟩
  have HR := Lib.hid hR
  have HS := Lib.hid (show ∀ j : Nat, (∀ m, m < j → pt nx ot i n (m + 1) ≠ pt nx ot i n m) → (j : Int) < k → pt nx ot i n (j + 1) = pt nx ot i n j → j = R from fun j h1 h2 h3 => by
    have h4 := hM.dep_eq h1 h3
    rw [hR]; unfold rounds_
    split
    · omega
    · exact h4)
  have HE := Lib.hid (show ∀ j : Nat, (∀ m, m < j → pt nx ot i n (m + 1) ≠ pt nx ot i n m) → (j : Int) ≤ max k 0 → ¬ (j : Int) < k → j = R ∧ max k 0 = (R : Int) from fun j h1 h2 h3 => by
    have h4 := hM.dep_le h1
    rw [hR]; unfold rounds_
    rw [if_pos (by omega)]
    omega)
  have HD := Lib.hid (show ∀ j : Nat, (∀ m, m < j → pt nx ot i n (m + 1) ≠ pt nx ot i n m) → j < n from fun j h1 => by
    have h4 := hM.dep_le h1
    have := hM.dep_lt
    omega)
  rw [← hR]
  clear hw1 hz1 hg hB1 hR
  go_enter Try.func124, Try.ntmps124
  have k2 := HB1.out.cells.2.2.1
  rw [HW.out] at k2
  try rw [HG.out] at k2
  go_wp2_with (refine wpList_make_ints _ rfl _ _ rfl .i64 .i64 n rfl rfl hn ?_; intro w3 ho3 b3)
  clear k2
  rw [← HW.out] at ho3 b3
  rw [HZ1.out] at ho3 b3
  try rw [← HW.out]
  try rw [HZ1.out]
  try rw [← HG.out]
  have hB3 := (HB1.out.kept b3 (by omega))
  have HB3 := Lib.hid hB3
  have hbw3 : Below w.heap.size w w3 := hb1.trans (b3.mono (by rw [← HG.out]; omega))
  have hO3 := Lib.hid (ho3.lower (base' := g) (by omega))
  have hz3 := b3.size
  rw [HZ1.out] at hz3
  clear hB3 ho3 b3
  go_wp2
  go_loopw [6, 7] (fun v6 v7 wr => ∃ (j : Nat) (A' : Option Addr) (c' : Nat), v7 = .int .i64 j ∧ v6 = .slice A' n c' ∧ Owned wr g (.slice A' n c') (zs (pt nx ot i n j)) ∧ Below w3.heap.size w3 wr ∧ (∀ m, m < j → pt nx ot i n (m + 1) ≠ pt nx ot i n m) ∧ (j : Int) ≤ max k 0) (fun _ v7 _ => n - (intOf v7).toNat)
  case atStart => exact ⟨0, _, _, rfl, rfl, by show Owned _ _ _ (zs (List.replicate n 0)); simpa [zs] using hO3.out, Below.refl _ _, fun m hm => absurd hm (by omega), by omega⟩
  case round =>
    obtain ⟨j, C, cc, rfl, rfl, hO, hbr, hbef, hjk⟩ := hrel
    have hzr := hbr.size
    have hbW : Below w.heap.size w wr := hbw3.trans (hbr.mono (by rw [← HG.out]; omega))
    have hbox := HB3.out.kept hbr (show g < w3.heap.size by omega)
    obtain ⟨k0, k1, k2, k3, _⟩ := hbox.cells
    have hI := Owned.ints hO (by rw [zs_len, pt_len]; exact hn)
    have hjn := HD.out j hbef
    have HO := Lib.hid hO
    have HBR := Lib.hid hbr
    have HBF := Lib.hid hbef
    clear hO hbr
    by_cases hlt : (j : Int) < k
    · have HRF := prefine i st n A B C c d cc nx ot (pt nx ot i n j) wr (hx.below hbW) (hlo.out.below hbW) hM hI (hM.pt_bd j)
      have e1 : zs (num (fun s => sgm nx ot (pt nx ot i n j) s i) n) = zs (pt nx ot i n (j + 1)) := rfl
      rw [e1] at HRF
      have hRF := Lib.hid HRF
      have hS := Lib.hid (HS.out j hbef hlt)
      have hN := Lib.hid (fun H : pt nx ot i n (j + 1) ≠ pt nx ot i n j => show ∀ m, m < j + 1 → pt nx ot i n (m + 1) ≠ pt nx ot i n m from fun m hm => by
        by_cases e2 : m = j
        · subst e2; exact H
        · exact hbef m (by omega))
      clear HRF e1 hbef
      by_cases heq : pt nx ot i n (j + 1) = pt nx ot i n j
      · have hjR := Lib.hid (hS.out heq)
        have HQ := Lib.hid (show (true : Bool) = decide (zs (pt nx ot i n (j + 1)) = zs (pt nx ot i n j)) by rw [heq]; simp)
        clear heq
        go_wp2_with fail
        refine hRF.out.mono ?_
        rintro e w4 ⟨A4, c4, rfl, hO4, b4⟩
        have hI4 := Owned.ints hO4 (by rw [zs_len, pt_len]; exact hn)
        have hI9 := hI.below b4
        have HO4 := Lib.hid hO4
        clear hO4
        go_wp2_with fail
        refine (sequal _ _ _ _ _ _ _ _ _ _ hI4 hI9 HQ.out).mono ?_
        rintro e w5 ⟨rfl, q, rfl⟩
        have HO9 := Lib.hid (show Owned (w4.drewN q) w.heap.size (.slice C n cc) (zs (pt nx ot i n R)) by have h9 := HO.out.kept b4; rw [← hjR.out, ← HG.out]; exact h9)
        clear k0 k1 k2 k3 hI hI4 hI9
        go_wp2
        go_ret2
        exact ⟨_, _, by rw [hjR.out]; rfl, HO9.out, below_drewN (bt hbW b4) q⟩
      · have HQ := Lib.hid (show (false : Bool) = decide (zs (pt nx ot i n (j + 1)) = zs (pt nx ot i n j)) from (decide_eq_false fun H => heq (zs_inj H)).symm)
        have hN1 := Lib.hid (hN.out heq)
        clear heq
        go_wp2_with fail
        refine hRF.out.mono ?_
        rintro e w4 ⟨A4, c4, rfl, hO4, b4⟩
        have hI4 := Owned.ints hO4 (by rw [zs_len, pt_len]; exact hn)
        have hI9 := hI.below b4
        have HO4 := Lib.hid hO4
        clear hO4
        go_wp2_with fail
        refine (sequal _ _ _ _ _ _ _ _ _ _ hI4 hI9 HQ.out).mono ?_
        rintro e w5 ⟨rfl, q, rfl⟩
        have HO9 := Lib.hid (show Owned (w4.drewN q) g (.slice A4 n c4) (zs (pt nx ot i n (j + 1))) from HO4.out.lower (by omega))
        have HB9 := Lib.hid (show Below w3.heap.size w3 (w4.drewN q) from below_drewN (HBR.out.trans (b4.mono hzr)) q)
        clear k0 k1 k2 k3 hI hI4 hI9
        go_wp2
        go_roundw
        case rel => exact ⟨j + 1, A4, c4, by go_num, rfl, HO9.out, HB9.out, hN1.out, by omega⟩
        case measure => simp [intOf]; omega
    · obtain ⟨hjR, hmx⟩ := HE.out j hbef hjk (by omega)
      have HO9 := Lib.hid (show Owned wr w.heap.size (.slice C n cc) (zs (pt nx ot i n R)) by rw [← hjR, ← HG.out]; exact HO.out)
      have HMX := Lib.hid hmx
      clear hjR hmx k0 k1 k2 k3 hI hbef
      go_wp2
      all_goals
        go_ret2
        have hmx := HMX.out
        exact ⟨_, _, by simp; omega, HO9.out, hbW⟩
end Go.Proofs.Ytogcecfeofbbnaa
end

section
/- The machine of classes: the walk. -/
namespace Go.Proofs.Ytogcecfeofbbnaa
open Go.RowKit

set_option maxHeartbeats 4000000 in
set_option maxRecDepth 100000 in
theorem pquot (i st n : Nat) (A B C : Option Addr) (c d cc : Nat) (nx ot : List (List Int)) (f : Nat → Nat) (w : World) (hx : Lists w A n nx) (ho : Lists w B n ot) (hM : Mok i st n nx ot) (hc : Ints w C n (zs (num f n))) :
    Calls Try.prog 84 #[.agg #[.int .i64 i, .int .i64 st, .slice A n c, .slice B n d], .slice C n cc] w fun e w' => ∃ A' c' B' d',
      e = .returned (.agg #[.int .i64 i, .int .i64 (nmb f st : Nat), .slice A' (reps f n).length c', .slice B' (reps f n).length d']) ∧
      OwnedL w' w.heap.size (.slice A' (reps f n).length c') (qN nx i f n) ∧ OwnedL w' w.heap.size (.slice B' (reps f n).length d') (qO ot f n) ∧ Below w.heap.size w w' := by
  have hn := hx.2.1
  have hn128 := hM.n2
  have hst := hM.st
  have hlo := Lib.hid ho
  obtain ⟨g, hg⟩ : ∃ g, g = w.heap.size := ⟨_, rfl⟩
  obtain ⟨w1, hw1⟩ : ∃ w1, w1 = w.alloc (.cells #[.int .i64 i, .int .i64 st, .slice A n c, .slice B n d] 24) := ⟨_, rfl⟩
  have hb1 : Below w.heap.size w w1 := by rw [hw1]; exact alloc_below _ _
  have hz1 : w1.heap.size = g + 1 := by rw [hw1, hg]; simp
  have hB1 : Mblk w1 g (.int .i64 i) (.int .i64 st) (.slice A n c) (.slice B n d) := by rw [hw1, hg]; exact heap_alloc_new _ _
  obtain ⟨w2, hw2⟩ : ∃ w2, w2 = w1.alloc (.cells #[.int .i64 0, .int .i64 0, .slice none 0 0, .slice none 0 0] 24) := ⟨_, rfl⟩
  have hb2 : Below w1.heap.size w1 w2 := by rw [hw2]; exact alloc_below _ _
  have hz2 : w2.heap.size = g + 2 := by rw [hw2]; simp; omega
  have hR2 : Mblk w2 (g + 1) (.int .i64 0) (.int .i64 0) (.slice none 0 0) (.slice none 0 0) := by rw [hw2, ← hz1]; exact heap_alloc_new _ _
  have hB2 := hB1.kept hb2 (show g < w1.heap.size by omega)
  have hbw2 : Below w.heap.size w w2 := bt hb1 hb2
  have HW : Hid (w2 = (w.alloc (.cells #[.int .i64 i, .int .i64 st, .slice A n c, .slice B n d] 24)).alloc (.cells #[.int .i64 0, .int .i64 0, .slice none 0 0, .slice none 0 0] 24)) := Lib.hid (by rw [hw2, hw1])
  have HG := Lib.hid hg
  have HZ2 := Lib.hid hz2
  have HB2 := Lib.hid hB2
  have HR2 := Lib.hid hR2
  obtain ⟨bc, oc, rfl, hbc, hcc⟩ := hc.at_ hst
  rw [zs_at, num_at f hst] at hcc
  have hcs := (hbw2.cell (p := ⟨bc, oc + st, none⟩) hbc).trans hcc
  obtain ⟨k0, k1, k2, k3, _⟩ := hB2.cells
  have j0 : (0 : Int) ≤ (st : Int) := by omega
  have j1 : (st : Int) < (n : Int) := by omega
  clear hw1 hw2 hz1 hb1 hb2 hB1 hR2 hg hB2 hcc hz2
  go_enter Try.func84, Try.ntmps84
  go_wp2_with fail
  rw [← HW.out]
  try rw [← HG.out]
  have n1 := World.new_ne w2 _ k0
  have n2 := World.new_ne w2 _ hcs
  go_region_held3 (fun w' => w'.cell? ⟨g, 0, none⟩ = some (.int .i64 i) ∧ w'.cell? ⟨g, 1, none⟩ = some (.int .i64 st) ∧ w'.cell? ⟨bc, oc + st, none⟩ = some (.int .i64 (nmb f st : Nat))) (go_keep) (fail)
  go_wp2
  obtain ⟨gT, hgT⟩ : ∃ gT, gT = w2.heap.size := ⟨_, rfl⟩
  have HT0 := Lib.hid (show Mblk ((w2.alloc (.cells #[.int .i64 i, .int .i64 (nmb f st : Nat), .slice none 0 0, .slice none 0 0] 24)).drew) gT (.int .i64 i) (.int .i64 (nmb f st : Nat)) (.slice none 0 0) (.slice none 0 0) by rw [hgT]; exact heap_alloc_new w2 _)
  have HL0 := Lib.hid (show Below gT w2 ((w2.alloc (.cells #[.int .i64 i, .int .i64 (nmb f st : Nat), .slice none 0 0, .slice none 0 0] 24)).drew) by rw [hgT]; exact below_drewN (alloc_below w2 _) 1)
  have hgT2 : g + 2 ≤ gT := by rw [hgT, HZ2.out]; exact Nat.le_refl _
  rw [← hgT]
  have HT := Lib.hid hgT
  obtain ⟨y0, hy0⟩ : ∃ y : Int, y = (nmb f st : Nat) := ⟨_, rfl⟩
  have HY0 := Lib.hid hy0
  rw [← hy0] at HT0 HL0 ⊢
  clear hgT n1 n2 k0 k1 k2 k3 hcs hy0
  go_loopw [20] (fun kv wr => ∃ (s : Nat) (AN AO : Option Addr) (cN cO : Nat), s ≤ n ∧ kv = .int .i64 s ∧ Below gT w2 wr ∧ Mblk wr gT (.int .i64 i) (.int .i64 y0) (.slice AN (reps f s).length cN) (.slice AO (reps f s).length cO) ∧
    OwnedL wr gT (.slice AN (reps f s).length cN) (qN nx i f s) ∧ OwnedL wr gT (.slice AO (reps f s).length cO) (qO ot f s) ∧ Apart (.slice AN (reps f s).length cN) (.slice AO (reps f s).length cO)) (fun kv _ => n - (intOf kv).toNat)
  case atStart => exact ⟨0, none, none, 0, 0, Nat.zero_le _, rfl, HL0.out, HT0.out, OwnedL.nil _ _, OwnedL.nil _ _, Apart.nil _⟩
  case round =>
    obtain ⟨s, AN, AO, cN, cO, hs, rfl, hbr, hT, hLN, hLO, hap⟩ := hrel
    have hbW : Below w.heap.size w wr := hbw2.trans (hbr.mono (by rw [← HG.out]; omega))
    have hzo : gT + 1 ≤ wr.heap.size := heap_lt hT
    have hbox := HB2.out.kept hbr (show g < gT by omega)
    have hkl := reps_le f s
    have HTT := Lib.hid hT
    have HLN := Lib.hid hLN
    have HLO := Lib.hid hLO
    have HAP := Lib.hid hap
    have HBR := Lib.hid hbr
    have HBX := Lib.hid hbox
    clear hT hLN hLO hap hbr hbox
    by_cases hlt : s < n
    · have hcw := hc.at_ hlt
      obtain ⟨bc', oc', e, hbc', hcc⟩ := hcw
      cases e
      rw [zs_at, num_at f hlt] at hcc
      have hcs := (hbW.cell (p := ⟨bc, oc + s, none⟩) hbc).trans hcc
      obtain ⟨c0, c1', c2', c3', f0, f1, f2, f3⟩ := HTT.out.cells
      have hsk := nmb_skip f s
      by_cases hin : f s ∈ grp f s
      · have hlt2 := hsk.2 hin
        have HQ1 := Lib.hid (qN_in (nx := nx) (i := i) hin)
        have HQ2 := Lib.hid (qO_in (ot := ot) hin)
        have HQ3 := Lib.hid (reps_in hin)
        clear hsk hin hcc
        generalize nmb f s = v at hcs hlt2
        go_wp2
        go_roundw
        case rel => exact ⟨s + 1, AN, AO, cN, cO, by omega, by go_num, HBR.out, by rw [HQ3.out]; exact HTT.out, by rw [HQ3.out, HQ1.out]; exact HLN.out, by rw [HQ3.out, HQ2.out]; exact HLO.out, by rw [HQ3.out]; exact HAP.out⟩
        case measure => simp [intOf]; omega
      · have hlt2 : ¬ nmb f s < (reps f s).length := fun H => hin (hsk.1 H)
        have HQ1 := Lib.hid (qN_out (nx := nx) (i := i) hin)
        have HQ2 := Lib.hid (qO_out (ot := ot) hin)
        have HQ3 := Lib.hid (show (reps f (s + 1)).length = (reps f s).length + 1 by rw [reps_out hin, List.length_append]; rfl)
        clear hsk hin hcc
        generalize nmb f s = v at hcs hlt2
        have hm1 : (reps f s).length < 1759218604441 := by omega
        generalize hm0 : (reps f s).length = m at *
        have HM0 := Lib.hid hm0
        clear hm0
        obtain ⟨g1, p1, A3, n1, c3, rfl, hg1, hd1, hr1⟩ := hx.at_ hlt
        obtain ⟨g2, p2, A4, n2, c4, rfl, hg2, hd2, hr2⟩ := hlo.out.at_ hlt
        have hi1 := (hM.row s hlt).1
        have hi2 := (hM.row s hlt).2.1
        have hl1 := hr1.1
        have hl2 := hr2.1
        obtain rfl : n1 = i := by omega
        obtain rfl : n1 = n2 := by omega
        have e1 := (hbW.cell (p := ⟨g1, p1 + s, none⟩) hg1).trans hd1
        have hi64 := hM.i2
        obtain ⟨k0, k1, k2, k3, _⟩ := HBX.out.cells
        clear hl1 hl2 hi2 hd1
        have HI1 := Lib.hid hi1
        clear hi1
        go_wp2_with fail
        refine (sclone _ _ _ _ _ (hr1.below hbW)).mono ?_
        rintro e w5 ⟨A5, c5, rfl, ho5, b5⟩
        have HO5 := Lib.hid ho5
        have HB5 := Lib.hid b5
        clear ho5 b5
        go_wp2
        obtain ⟨wc, rfl⟩ : ∃ wc : World, wc = wr := ⟨_, rfl⟩
        clear k0 k1 k2 k3 e1 c0 c1' c2' c3' f0 f1 f2 f3 hcs
        go_loopw [38] (fun av wq => ∃ a : Nat, a ≤ n1 ∧ av = .int .i64 a ∧ Owned wq wc.heap.size (.slice A5 n1 c5) (qmid nx n1 f s a) ∧ Below wc.heap.size wc wq) (fun av _ => n1 - (intOf av).toNat)
        case atStart => exact ⟨0, Nat.zero_le _, rfl, by rw [qmid_zero]; exact HO5.out, HB5.out⟩
        case round =>
          obtain ⟨a, ha, rfl, ho6, b6⟩ := hrel
          by_cases hla : a < n1
          · have hset := Lib.hid (qmid_set (f := f) HI1.out hla)
            have hat := Lib.hid ((qmid_at (nx := nx) (f := f) (s := s) hla).trans (hM.nN_eq hlt hla))
            have hml := Lib.hid (qmid_len (nx := nx) (f := f) (s := s) HI1.out (Nat.le_of_lt hla))
            have hmi : (qmid nx n1 f s a).length ≤ 17592186044416 := by rw [hml.out]; omega
            obtain ⟨g5, e5, hg5, hg5', hfz5⟩ := ho6.head (by omega)
            subst e5
            obtain ⟨bq, oq, eq, hbq, hcq⟩ := (ho6.ints hmi).at_ hla
            cases eq
            rw [hat.out, Nat.zero_add] at hcq
            have ht := hM.nN_lt hlt hla
            obtain ⟨bn, on, en, hbn, hcn⟩ := hc.at_ ht
            cases en
            rw [zs_at, num_at f ht] at hcn
            have hcn := ((hbW.trans (b6.mono (by have := hbW.size; exact this))).cell (p := ⟨bc, oc + nN nx s a, none⟩) hbc).trans hcn
            have hst := ho6.stored a ((nmb f (nN nx s a) : Nat) : Int)
            rw [hset.out] at hst
            have hbs := Lib.hid (b6.setCell (p := ⟨g5, a, none⟩) hg5 (.int .i64 ((nmb f (nN nx s a) : Nat) : Int)))
            have HSTT := Lib.hid hst
            have hf := hfz5 a
            clear hst ho6 b6 hfz5
            generalize nN nx s a = t at hcq ht hcn hset hbs HSTT
            generalize ((nmb f t : Nat) : Int) = tv at hcn hbs HSTT
            go_wp2
            go_roundw
            case rel => exact ⟨a + 1, by omega, by go_num, HSTT.out, hbs.out⟩
            case measure => simp [intOf]; omega
          · obtain rfl : a = n1 := by omega
            rw [qmid_all HI1.out] at ho6
            have hTq := HTT.out.kept b6 (heap_lt HTT.out)
            obtain ⟨c0, c1', c2', c3', f0, f1, f2, f3⟩ := hTq.cells
            have hLq := HLN.out.kept b6
            have hLOq := HLO.out.kept b6
            have ho6 := ho6.lower (base' := gT) (by omega)
            have hzq := b6.size
            have hgq : gT ≤ wr.heap.size := by omega
            have hkN : (qN nx a f s).length = m := by rw [qN_len]; exact HM0.out
            have hkO : (qO ot f s).length = m := by rw [qO_len]; exact HM0.out
            obtain ⟨AN2, cN2, w7, hrn, hLN7, b7, hk7, hkb7, hmv7⟩ := run_append_list hLq ho6 hgq (by rw [hkN]; omega)
            rw [hkN] at hrn hLN7 hmv7
            rw [← HQ1.out] at hLN7
            have hT7 := hTq.keptT (hk7 _ (by decide))
            obtain ⟨y0, y1, y2, y3, z0, z1, z2, z3⟩ := hT7.cells
            have hLO7 := hLOq.keptB hkb7 HAP.out (hk7 _ (by decide))
            have hAP7 := HAP.out.moved hmv7 hLOq
            have hb7 : Below gT w2 w7 := HBR.out.trans ((b6.mono (by omega)).trans b7)
            have hw8 := fun (u : Value) => hb7.setCell (p := ⟨gT, 2, none⟩) (Nat.le_refl _) u
            have h81 := hT7.set2 (.slice AN2 (m + 1) cN2)
            have h82 := hLN7.offM (j := 2) hT7 (.slice AN2 (m + 1) cN2)
            have h83 := hLO7.offM (j := 2) hT7 (.slice AN2 (m + 1) cN2)
            have h84 := hw8 (.slice AN2 (m + 1) cN2)
            have e2 := (hbW.cell (p := ⟨g2, p2 + s, none⟩) hg2).trans hd2
            have HH := Lib.hid (And.intro h81 (And.intro h82 (And.intro h83 h84)))
            clear hT7 hLN7 hLO7 hb7 hw8 h81 h82 h83 h84 hTq hLq hLOq ho6 hk7 hkb7 hmv7 b7 b6 e2 hkN
            go_wp2_with (at_builtin; refine Lib.wpList_append_run _ rfl _ _ _ _ rfl _ _ rfl rfl _ _ hrn ?_)
            obtain ⟨h81, h82, h83, h84⟩ := HH.out
            generalize w7.setCell ⟨gT, 2, none⟩ (.slice AN2 (m + 1) cN2) = w8 at h81 h82 h83 h84 ⊢
            clear HH y0 y1 y2 y3 z0 z1 z2 z3 hrn c0 c1' c2' c3' f0 f1 f2 f3
            obtain ⟨c0, c1', c2', c3', f0, f1, f2, f3⟩ := h81.cells
            have hbox8 := HB2.out.kept h84 (show g < gT by omega)
            obtain ⟨k0, k1, k2, k3, _⟩ := hbox8.cells
            have hbW8 : Below w.heap.size w w8 := hbw2.trans (h84.mono (by rw [← HG.out]; omega))
            have e2 := (hbW8.cell (p := ⟨g2, p2 + s, none⟩) hg2).trans hd2
            have hg8 : gT < w8.heap.size := heap_lt h81
            have H81 := Lib.hid h81
            have H82 := Lib.hid h82
            have H83 := Lib.hid h83
            have H84 := Lib.hid h84
            have HAP7 := Lib.hid hAP7
            clear h81 h82 h83 h84 hAP7
            go_region_law (first
              | (refine step_append_run rfl _ _ _ _ rfl _ _ rfl rfl _ _ (HF.out 0).1 ?_)
              | (go_simp; go_at_call 106; refine (sclone _ _ _ _ _ (hr2.below (below_drewN hbW8 _))).mono ?_; rintro e w9 ⟨A9, c9, rfl, ho9, b9⟩; obtain ⟨hT9, F, hF⟩ := trim_step H84.out H81.out H82.out H83.out HAP7.out _ b9 ho9 (by omega) hg8; obtain ⟨c0, c1', c2', c3', f0, f1, f2, f3⟩ := hT9.cells; have ca := ((alloc_below w9 (.cells #[.slice A9 a c9] 27)).cell (p := ⟨gT, 3, none⟩) (heap_lt hT9)).trans c3'; have HF := Lib.hid hF; have cF := fun q => (hF q).2.1.cells.2.2.2.1; have fF := fun q => (hF q).2.1.cells.2.2.2.2.2.2.2; clear hT9 hF ho9 b9))
            all_goals
              go_wp2
              go_roundw
              case rel => exact ⟨s + 1, AN2, (F 0).1.1, cN2, (F 0).1.2, by omega, by go_num, (HF.out 0).2.2.2.2.2.setCell (p := ⟨gT, 3, none⟩) (Nat.le_refl _) _, by rw [HQ3.out]; exact (HF.out 0).2.1.set3 _, by rw [HQ3.out]; exact (HF.out 0).2.2.1.offM (HF.out 0).2.1 _, by rw [HQ2.out, HQ3.out]; exact (HF.out 0).2.2.2.1.offM (HF.out 0).2.1 _, by rw [HQ3.out]; exact (HF.out 0).2.2.2.2.1⟩
              case measure => simp [intOf]; omega
    · obtain rfl : s = n := by omega
      obtain ⟨c0, c1', c2', c3', _⟩ := HTT.out.cells
      have hRr := HR2.out.kept HBR.out (show g + 1 < gT by omega)
      obtain ⟨ya, y1, y2, y3, z0, z1, z2, z3⟩ := hRr.cells
      have hN9 := HLN.out
      have hO9 := HLO.out
      have hl : ∀ k, w.heap.size ≤ (⟨g + 1, k, none⟩ : Addr).block := fun k => by rw [← HG.out]; exact Nat.le_succ _
      have hfb := Lib.hid (((((hbW.setCell (hl 0) (.int .i64 i)).setCell (hl 1) (.int .i64 y0)).setCell (hl 2) (.slice AN (reps f s).length cN)).setCell (hl 3) (.slice AO (reps f s).length cO)))
      have hR4 := Lib.hid (hRr.set4 (.int .i64 i) (.int .i64 y0) (.slice AN (reps f s).length cN) (.slice AO (reps f s).length cO))
      have hq1 := hRr
      have hq2 : Mblk (wr.setCell ⟨g + 1, 0, none⟩ (.int .i64 i)) (g + 1) _ _ _ _ := heap_setCell_same wr _ 0 _ _ _ hq1
      have hq3 : Mblk ((wr.setCell ⟨g + 1, 0, none⟩ (.int .i64 i)).setCell ⟨g + 1, 1, none⟩ (.int .i64 y0)) (g + 1) _ _ _ _ := heap_setCell_same _ _ 1 _ _ _ hq2
      have hq4 : Mblk (((wr.setCell ⟨g + 1, 0, none⟩ (.int .i64 i)).setCell ⟨g + 1, 1, none⟩ (.int .i64 y0)).setCell ⟨g + 1, 2, none⟩ (.slice AN (reps f s).length cN)) (g + 1) _ _ _ _ := heap_setCell_same _ _ 2 _ _ _ hq3
      have hN10 := Lib.hid (((((hN9.offM hq1 (.int .i64 i) (j := 0)).offM hq2 (.int .i64 y0) (j := 1)).offM hq3 (.slice AN (reps f s).length cN) (j := 2)).offM hq4 (.slice AO (reps f s).length cO) (j := 3)).lower (base' := w.heap.size) (by rw [← HG.out]; omega))
      have hO10 := Lib.hid (((((hO9.offM hq1 (.int .i64 i) (j := 0)).offM hq2 (.int .i64 y0) (j := 1)).offM hq3 (.slice AN (reps f s).length cN) (j := 2)).offM hq4 (.slice AO (reps f s).length cO) (j := 3)).lower (base' := w.heap.size) (by rw [← HG.out]; omega))
      clear hRr hq1 hq2 hq3 hq4 hN9 hO9 hl hbW
      go_wp2
      (try simp only [Exit.inBlock, Exit.then])
      refine bodyPost_ret (results_cell_row (by rfl) _ _ (g + 1) 24 _ (0, 0) _ rfl hR4.out Try.underlying24 rfl (by kernel_rfl)) rfl ?_
      exact ⟨AN, cN, AO, cO, by rw [HY0.out], hN10.out, hO10.out, hfb.out⟩
end Go.Proofs.Ytogcecfeofbbnaa
end

section
/- Partition, Classes, Depth. -/
namespace Go.Proofs.Ytogcecfeofbbnaa
open Go.RowKit

theorem vld_i64 (i st : Int) (nx ot : List (List Int)) (_ : ¬ vld i st nx ot = 0) : (vld i st nx ot != 0) = true := by simpa
set_option maxHeartbeats 1000000 in
theorem ppart_bad (i st : Int) (A B : Option Addr) (n c m d : Nat) (nx ot : List (List Int)) (k : Int) (w : World) (hx : Lists w A n nx) (ho : Lists w B m ot) (hv : ¬ vld i st nx ot = 0) :
    Calls Try.prog 111 #[.agg #[.int .i64 i, .int .i64 st, .slice A n c, .slice B m d], .int .i64 k] w fun e w' => e = .returned (.tuple #[.slice none 0 0, .int .i64 (vld i st nx ot)]) ∧ Below w.heap.size w w' := by
  have hb0 := alloc_below w (.cells #[.int .i64 i, .int .i64 st, .slice A n c, .slice B m d] 24)
  have hne : (vld i st nx ot != 0) = true := by simpa using hv
  go_enter Try.func111, Try.ntmps111
  go_wp2_with fail
  refine (pvalid _ _ _ _ _ _ _ _ _ _ _ (hx.below hb0) (ho.below hb0)).mono ?_
  rintro e w1 ⟨rfl, b1⟩
  have b1 := bt hb0 b1
  generalize hE : vld i st nx ot = E at hne hv
  have HE := Lib.hid hE
  clear hv hE
  go_wp2
  go_ret2
  exact ⟨by rw [HE.out]; rfl, b1⟩
set_option maxHeartbeats 1000000 in
theorem ppart_ok (i st n : Nat) (A B : Option Addr) (c d : Nat) (nx ot : List (List Int)) (k : Int) (w : World) (hx : Lists w A n nx) (ho : Lists w B n ot) (hM : Mok i st n nx ot) (hk : k ≤ 9223372036854775807) :
    Calls Try.prog 111 #[.agg #[.int .i64 i, .int .i64 st, .slice A n c, .slice B n d], .int .i64 k] w fun e w' => ∃ A' c', e = .returned (.tuple #[.slice A' n c', .int .i64 0]) ∧ Owned w' w.heap.size (.slice A' n c') (zs (pt nx ot i n (rounds_ nx ot i n k))) ∧ Below w.heap.size w w' := by
  have hb0 := alloc_below w (.cells #[.int .i64 i, .int .i64 st, .slice A n c, .slice B n d] 24)
  have hB := mealy_box w (.int .i64 i) (.int .i64 st) (.slice A n c) (.slice B n d)
  have HB := Lib.hid hB
  have HV := Lib.hid hM.vld
  clear hB
  go_enter Try.func111, Try.ntmps111
  go_wp2_with fail
  refine (pvalid _ _ _ _ _ _ _ _ _ _ _ (hx.below hb0) (ho.below hb0)).mono ?_
  rintro e w1 ⟨rfl, b1⟩
  rw [HV.out]
  obtain ⟨k0, k1, k2, k3, _⟩ := (HB.out.kept b1 (by simp)).cells
  have b1 := bt hb0 b1
  go_wp2_with fail
  refine (ppartn i st n A B c d nx ot k _ (hx.below b1) (ho.below b1) hM hk).mono ?_
  rintro e w2 ⟨A', c', rfl, hO, b2⟩
  have HO := Lib.hid (hO.lower (base' := w.heap.size) b1.size)
  have b2 := bt b1 b2
  clear k0 k1 k2 k3 hO
  go_wp2
  go_ret2
  exact ⟨A', c', rfl, HO.out, b2⟩
theorem rounds_max {i st n : Nat} {nx ot : List (List Int)} (hM : Mok i st n nx ot) : rounds_ nx ot i n 9223372036854775807 = dep nx ot i n := by
  have h1 := hM.dep_lt
  have h2 := hM.n2
  unfold rounds_
  rw [if_neg (by omega)]
set_option maxHeartbeats 1000000 in
theorem pcls_bad (i st : Int) (A B : Option Addr) (n c m d : Nat) (nx ot : List (List Int)) (w : World) (hx : Lists w A n nx) (ho : Lists w B m ot) (hv : ¬ vld i st nx ot = 0) :
    Calls Try.prog 83 #[.agg #[.int .i64 i, .int .i64 st, .slice A n c, .slice B m d]] w fun e w' => e = .returned (.tuple #[.slice none 0 0, .int .i64 (vld i st nx ot)]) ∧ Below w.heap.size w w' := by
  have hb0 := alloc_below w (.cells #[.int .i64 i, .int .i64 st, .slice A n c, .slice B m d] 24)
  go_enter Try.func83, Try.ntmps83
  go_wp2_with fail
  refine (ppart_bad _ _ _ _ _ _ _ _ _ _ _ _ (hx.below hb0) (ho.below hb0) hv).mono ?_
  rintro e w1 ⟨rfl, b1⟩
  have b1 := bt hb0 b1
  generalize hE : vld i st nx ot = E at hv
  have HE := Lib.hid hE
  clear hv hE
  go_wp2
  go_ret2
  exact ⟨by rw [HE.out]; rfl, b1⟩
set_option maxHeartbeats 1000000 in
theorem pcls_ok (i st n : Nat) (A B : Option Addr) (c d : Nat) (nx ot : List (List Int)) (w : World) (hx : Lists w A n nx) (ho : Lists w B n ot) (hM : Mok i st n nx ot) :
    Calls Try.prog 83 #[.agg #[.int .i64 i, .int .i64 st, .slice A n c, .slice B n d]] w fun e w' => ∃ A' c', e = .returned (.tuple #[.slice A' n c', .int .i64 0]) ∧ Owned w' w.heap.size (.slice A' n c') (zs (pt nx ot i n (dep nx ot i n))) ∧ Below w.heap.size w w' := by
  have hb0 := alloc_below w (.cells #[.int .i64 i, .int .i64 st, .slice A n c, .slice B n d] 24)
  have HR := Lib.hid (rounds_max hM)
  go_enter Try.func83, Try.ntmps83
  go_wp2_with fail
  refine (ppart_ok i st n A B c d nx ot _ _ (hx.below hb0) (ho.below hb0) hM (by omega)).mono ?_
  rintro e w1 ⟨A', c', rfl, hO, b1⟩
  rw [HR.out] at hO
  have HO := Lib.hid (hO.lower (base' := w.heap.size) hb0.size)
  have b1 := bt hb0 b1
  clear hO
  go_wp2
  go_ret2
  exact ⟨A', c', rfl, HO.out, b1⟩
end Go.Proofs.Ytogcecfeofbbnaa
end

section
/- Min and Minimal. -/
namespace Go.Proofs.Ytogcecfeofbbnaa
open Go.RowKit

set_option maxHeartbeats 2000000 in
theorem pmin_bad (i st : Int) (A B : Option Addr) (n c m d : Nat) (nx ot : List (List Int)) (w : World) (hx : Lists w A n nx) (ho : Lists w B m ot) (hv : ¬ vld i st nx ot = 0) :
    Calls Try.prog 45 #[.agg #[.int .i64 i, .int .i64 st, .slice A n c, .slice B m d]] w fun e w' => e = .returned (.tuple #[.agg #[.int .i64 0, .int .i64 0, .slice none 0 0, .slice none 0 0], .int .i64 (vld i st nx ot)]) ∧ Below w.heap.size w w' := by
  have hb0 := alloc_below w (.cells #[.int .i64 i, .int .i64 st, .slice A n c, .slice B m d] 24)
  have hb1 := bt hb0 (alloc_below (w.alloc (.cells #[.int .i64 i, .int .i64 st, .slice A n c, .slice B m d] 24)) (.cells #[.int .i64 0, .int .i64 0, .slice none 0 0, .slice none 0 0] 24))
  have hne : (vld i st nx ot != 0) = true := by simpa using hv
  go_enter Try.func45, Try.ntmps45
  go_wp2_with fail
  refine (pcls_bad _ _ _ _ _ _ _ _ _ _ _ (hx.below hb1) (ho.below hb1) hv).mono ?_
  rintro e w1 ⟨rfl, b1⟩
  have hR : Mblk w1 (w.heap.size + 1) (.int .i64 0) (.int .i64 0) (.slice none 0 0) (.slice none 0 0) := by
    refine Mblk.kept ?_ b1 (by simp)
    have := heap_alloc_new (w.alloc (.cells #[.int .i64 i, .int .i64 st, .slice A n c, .slice B m d] 24)) (.cells #[.int .i64 0, .int .i64 0, .slice none 0 0, .slice none 0 0] 24)
    simpa [Mblk] using this
  obtain ⟨c0, c1, c2, c3, f0, f1, f2, f3⟩ := hR.cells
  have HR := Lib.hid hR
  generalize hE : vld i st nx ot = E at hne hv
  have HE := Lib.hid hE
  clear hv hR hE
  go_wp2
  (try simp only [Exit.inBlock, Exit.then])
  refine bodyPost_ret (results_mealy rfl _ _ (w.heap.size + 1) (.int .i64 0) (.int .i64 0) (.slice none 0 0) (.slice none 0 0) rfl (HR.out.set4 _ _ _ _)) rfl ?_
  have hl : ∀ k, w.heap.size ≤ (⟨w.heap.size + 1, k, none⟩ : Addr).block := fun k => Nat.le_succ _
  exact ⟨by rw [HE.out]; rfl, (((((bt hb1 b1).setCell (hl 0) _).setCell (hl 1) _).setCell (hl 2) _).setCell (hl 3) _)⟩
set_option maxHeartbeats 2000000 in
theorem pmin_ok (i st n : Nat) (A B : Option Addr) (c d : Nat) (nx ot : List (List Int)) (w : World) (hx : Lists w A n nx) (ho : Lists w B n ot) (hM : Mok i st n nx ot) :
    Calls Try.prog 45 #[.agg #[.int .i64 i, .int .i64 st, .slice A n c, .slice B n d]] w fun e w' => ∃ A' c' B' d',
      e = .returned (.tuple #[.agg #[.int .i64 i, .int .i64 0, .slice A' (mnR nx ot i st n).length c', .slice B' (mnR nx ot i st n).length d'], .int .i64 0]) ∧
      OwnedL w' w.heap.size (.slice A' (mnR nx ot i st n).length c') (mnN nx ot i st n) ∧ OwnedL w' w.heap.size (.slice B' (mnR nx ot i st n).length d') (mnO nx ot i st n) ∧ Below w.heap.size w w' := by
  have hb0 := alloc_below w (.cells #[.int .i64 i, .int .i64 st, .slice A n c, .slice B n d] 24)
  have hb1 := bt hb0 (alloc_below (w.alloc (.cells #[.int .i64 i, .int .i64 st, .slice A n c, .slice B n d] 24)) (.cells #[.int .i64 0, .int .i64 0, .slice none 0 0, .slice none 0 0] 24))
  have hB := (mealy_box w (.int .i64 i) (.int .i64 st) (.slice A n c) (.slice B n d)).kept (alloc_below (w.alloc (.cells #[.int .i64 i, .int .i64 st, .slice A n c, .slice B n d] 24)) (.cells #[.int .i64 0, .int .i64 0, .slice none 0 0, .slice none 0 0] 24)) (by simp)
  have hR : Mblk ((w.alloc (.cells #[.int .i64 i, .int .i64 st, .slice A n c, .slice B n d] 24)).alloc (.cells #[.int .i64 0, .int .i64 0, .slice none 0 0, .slice none 0 0] 24)) (w.heap.size + 1) (.int .i64 0) (.int .i64 0) (.slice none 0 0) (.slice none 0 0) := by
    have := mealy_box (w.alloc (.cells #[.int .i64 i, .int .i64 st, .slice A n c, .slice B n d] 24)) (.int .i64 0) (.int .i64 0) (.slice none 0 0) (.slice none 0 0)
    simpa using this
  have HB := Lib.hid hB
  have HR := Lib.hid hR
  have HP := Lib.hid (show zs (pt nx ot i n (dep nx ot i n)) = zs (num (eqc nx ot i n) n) by rw [pt_num hM]; rfl)
  have hMq := hM.quot (eqc nx ot i n)
  have HE1 := Lib.hid (show mnR nx ot i st n = rch (qN nx i (eqc nx ot i n) n) i (nmb (eqc nx ot i n) st) from rfl)
  have HE2 := Lib.hid (show mnN nx ot i st n = trN (qN nx i (eqc nx ot i n) n) i (mnR nx ot i st n) from rfl)
  have HE3 := Lib.hid (show mnO nx ot i st n = trO (qO ot (eqc nx ot i n) n) (mnR nx ot i st n) from rfl)
  generalize eqc nx ot i n = f at HP hMq HE1 HE2 HE3
  clear hB hR
  go_enter Try.func45, Try.ntmps45
  go_wp2_with fail
  refine (pcls_ok _ _ _ _ _ _ _ _ _ _ (hx.below hb1) (ho.below hb1) hM).mono ?_
  rintro e w1 ⟨A1, c1, rfl, hO, b1⟩
  rw [HP.out] at hO
  have hI := Owned.ints hO (by rw [zs_len, num_len]; have := hM.n2; omega)
  obtain ⟨k0, k1, k2, k3, _⟩ := (HB.out.kept b1 (by simp; omega)).cells
  have HR1 := Lib.hid (HR.out.kept b1 (by simp))
  have b1 := bt hb1 b1
  clear hO
  go_wp2_with fail
  refine (pquot _ _ _ _ _ _ _ _ _ _ _ f _ (hx.below b1) (ho.below b1) hM hI).mono ?_
  rintro e w2 ⟨A2, c2, B2, d2, rfl, hN, hO, b2⟩
  have hLN := lists_ownedM hMq hN
  have hLO := lists_ownedO hMq hO
  have HR2 := Lib.hid (HR1.out.kept b2 (by have := b1.size; have h := heap_lt HR1.out; omega))
  have b2 := bt b1 b2
  clear k0 k1 k2 k3 hN hO hI
  go_wp2_with fail
  refine (ptrim_ok _ _ _ _ _ _ _ _ _ _ hLN hLO hMq).mono ?_
  rintro e w3 ⟨A3, c3, B3, d3, rfl, hN, hO, b3⟩
  rw [← HE1.out] at hN hO ⊢
  rw [← HE2.out] at hN
  rw [← HE3.out] at hO
  have hR3 := HR2.out.kept b3 (by have h := heap_lt HR2.out; omega)
  have hz2 := b2.size
  have b3 := bt b2 b3
  obtain ⟨y0, y1, y2, y3, z0, z1, z2, z3⟩ := hR3.cells
  have hl : ∀ k, w.heap.size ≤ (⟨w.heap.size + 1, k, none⟩ : Addr).block := fun k => Nat.le_succ _
  obtain ⟨L, hL⟩ : ∃ L, L = (mnR nx ot i st n).length := ⟨_, rfl⟩
  rw [← hL] at hN hO ⊢
  have HL := Lib.hid hL
  clear hL
  have hfb := Lib.hid (((((b3.setCell (hl 0) (.int .i64 i)).setCell (hl 1) (.int .i64 0)).setCell (hl 2) (.slice A3 L c3)).setCell (hl 3) (.slice B3 L d3)))
  have hR4 := Lib.hid (hR3.set4 (.int .i64 i) (.int .i64 0) (.slice A3 L c3) (.slice B3 L d3))
  have hq1 := hR3
  have hq2 : Mblk (w3.setCell ⟨w.heap.size + 1, 0, none⟩ (.int .i64 i)) (w.heap.size + 1) _ _ _ _ := heap_setCell_same w3 _ 0 _ _ _ hq1
  have hq3 : Mblk ((w3.setCell ⟨w.heap.size + 1, 0, none⟩ (.int .i64 i)).setCell ⟨w.heap.size + 1, 1, none⟩ (.int .i64 0)) (w.heap.size + 1) _ _ _ _ := heap_setCell_same _ _ 1 _ _ _ hq2
  have hq4 : Mblk (((w3.setCell ⟨w.heap.size + 1, 0, none⟩ (.int .i64 i)).setCell ⟨w.heap.size + 1, 1, none⟩ (.int .i64 0)).setCell ⟨w.heap.size + 1, 2, none⟩ (.slice A3 L c3)) (w.heap.size + 1) _ _ _ _ := heap_setCell_same _ _ 2 _ _ _ hq3
  have hN10 := Lib.hid (((((hN.offM hq1 (.int .i64 i) (j := 0)).offM hq2 (.int .i64 0) (j := 1)).offM hq3 (.slice A3 L c3) (j := 2)).offM hq4 (.slice B3 L d3) (j := 3)).lower (base' := w.heap.size) hz2)
  have hO10 := Lib.hid (((((hO.offM hq1 (.int .i64 i) (j := 0)).offM hq2 (.int .i64 0) (j := 1)).offM hq3 (.slice A3 L c3) (j := 2)).offM hq4 (.slice B3 L d3) (j := 3)).lower (base' := w.heap.size) hz2)
  clear hR3 hq1 hq2 hq3 hq4 hN hO hl
  go_wp2
  (try simp only [Exit.inBlock, Exit.then])
  refine bodyPost_ret (results_mealy rfl _ _ (w.heap.size + 1) _ _ _ _ rfl hR4.out) rfl ?_
  rw [← HL.out]
  exact ⟨A3, c3, B3, d3, rfl, hN10.out, hO10.out, hfb.out⟩
end Go.Proofs.Ytogcecfeofbbnaa
end
