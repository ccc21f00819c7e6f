/- The signature of a state: the walk. -/
import Derived.Test.YtnifjagjcoegaaaSgnm
namespace Go.Proofs.Ytnifjagjcoegaaa
open Go.RowKit

set_option maxHeartbeats 4000000 in
set_option maxRecDepth 100000 in
theorem psign (i st n s : Nat) (A B C : Option Addr) (c d cc : Nat) (nx ot : List (List Int)) (cl : List Nat) (w : World) (hx : Lists w A n nx) (ho : Lists w B n ot) (hM : Mok i st n nx ot) (hc : Ints w C n (zs cl)) (hs : s < n) :
    Calls Try.prog 130 #[.agg #[.int .i64 i, .int .i64 st, .slice A n c, .slice B n d], .slice C n cc, .int .i64 s] w fun e w' => e = .returned (kv (sgm nx ot cl s i)) ∧ Below w.heap.size w w' := by
  have hn := hx.2.1
  have hn2 := hM.n2
  have hi64 := hM.i2
  obtain ⟨g1, o1, A1, n1, c1, rfl, hg1, hd1, hr1⟩ := hx.at_ hs
  obtain ⟨g2, o2, A2, n2, c2, rfl, hg2, hd2, hr2⟩ := ho.at_ hs
  have hl1 := hr1.1
  have hl2 := hr2.1
  have hi1 := (hM.row s hs).1
  have hi2 := (hM.row s hs).2.1
  obtain rfl : n1 = i := by omega
  obtain rfl : n1 = n2 := by omega
  clear hl1 hl2 hi1 hi2
  obtain ⟨g, hg⟩ : ∃ g, g = w.heap.size := ⟨_, rfl⟩
  obtain ⟨w1, hw1⟩ : ∃ w1, w1 = w.alloc (.cells #[.int .i64 n1, .int .i64 st, .slice (some ⟨g1, o1, none⟩) n c, .slice (some ⟨g2, o2, none⟩) n d] 58) := ⟨_, rfl⟩
  have hb1 : Below w.heap.size w w1 := by rw [hw1]; exact alloc_below _ _
  have hz1 : w1.heap.size = g + 1 := by rw [hw1, hg]; simp
  have hB1 : Mblk w1 g (.int .i64 n1) (.int .i64 st) (.slice (some ⟨g1, o1, none⟩) n c) (.slice (some ⟨g2, o2, none⟩) n d) := by rw [hw1, hg]; exact heap_alloc_new _ _
  obtain ⟨w2, hw2⟩ : ∃ w2, w2 = w1.alloc (.cells Try.zeroCells164 164) := ⟨_, rfl⟩
  have hb2 : Below w1.heap.size w1 w2 := by rw [hw2]; exact alloc_below _ _
  have hz2 : w2.heap.size = g + 2 := by rw [hw2]; simp; omega
  have hR2 : Zblk w2 (g + 1) 164 (List.replicate 128 0) := by rw [hw2, ← hz1, zero128]; exact heap_alloc_new _ _
  obtain ⟨w3, hw3⟩ : ∃ w3, w3 = w2.alloc (.cells Try.zeroCells164 164) := ⟨_, rfl⟩
  have hb3 : Below w2.heap.size w2 w3 := by rw [hw3]; exact alloc_below _ _
  have hz3 : w3.heap.size = g + 3 := by rw [hw3]; simp; omega
  have hS3 : Zblk w3 (g + 2) 164 (List.replicate 128 0) := by rw [hw3, ← hz2, zero128]; exact heap_alloc_new _ _
  have hbw3 : Below w.heap.size w w3 := bt hb1 (hb2.trans (hb3.mono (by omega)))
  have hB3 := hB1.kept (hb2.trans (hb3.mono (by omega))) (show g < w1.heap.size by omega)
  have hR3 := hR2.kept hb3 (by omega)
  have e1 := (hbw3.cell (p := ⟨g1, o1 + s, none⟩) hg1).trans hd1
  have HW : Hid (w3 = ((w.alloc (.cells #[.int .i64 n1, .int .i64 st, .slice (some ⟨g1, o1, none⟩) n c, .slice (some ⟨g2, o2, none⟩) n d] 58)).alloc (.cells Try.zeroCells164 164)).alloc (.cells Try.zeroCells164 164)) := Lib.hid (by rw [hw3, hw2, hw1])
  have HG := Lib.hid hg
  rw [hw3, hw2, hw1] at e1
  have HZ3 := Lib.hid hz3
  have HR3 := Lib.hid hR3
  have HB3 := Lib.hid hB3
  have HS3 := Lib.hid hS3
  have hs0 : (0 : Int) ≤ (s : Int) := by omega
  clear hw1 hw2 hw3 hz1 hz2 hz3 hb1 hb2 hb3 hB1 hR2 hg hB3 hR3 hS3
  go_enter Try.func130, Try.ntmps130
  go_wp2
  rw [← HW.out]
  try rw [← HG.out]
  clear e1
  go_loopw [16] (fun kv wr => ∃ a : Nat, a ≤ n1 ∧ kv = .int .i64 a ∧ Zblk wr (g + 2) 164 (sgm nx ot cl s a) ∧ Below (g + 2) w3 wr) (fun kv _ => n1 - (intOf kv).toNat)
  case atStart => exact ⟨0, Nat.zero_le _, rfl, by rw [sgm_zero]; exact HS3.out, Below.refl _ _⟩
  case round =>
    obtain ⟨a, ha, rfl, hS, hbr⟩ := hrel
    have hbW : Below w.heap.size w wr := hbw3.trans (hbr.mono (by have := hg1; rw [← HG.out]; omega))
    have hbox := HB3.out.kept hbr (show g < g + 2 by omega)
    obtain ⟨k0, k1, k2, k3, _⟩ := hbox.cells
    have hzr := hbr.size
    have hzr3 : g + 2 < wr.heap.size := by rw [HZ3.out] at hzr; omega
    by_cases hlt : a < n1
    · obtain ⟨b1, p1, rfl, hb1, hc1⟩ := hr1.at_ hlt
      have hc1 := (hbW.cell (p := ⟨b1, p1 + a, none⟩) hb1).trans hc1
      obtain ⟨b2, p2, rfl, hb2, hc2⟩ := hr2.at_ hlt
      have hc2 := (hbW.cell (p := ⟨b2, p2 + a, none⟩) hb2).trans hc2
      have e2 := (hbW.cell (p := ⟨g2, o2 + s, none⟩) hg2).trans hd2
      rw [hM.nN_eq hs hlt] at hc1
      have ht := hM.nN_lt hs hlt
      obtain ⟨b3, p3, rfl, hb3, hc3⟩ := hc.at_ ht
      have hc3 := (hbW.cell (p := ⟨b3, _, none⟩) hb3).trans hc3
      rw [zs_at] at hc3
      have lb : b2 < g + 2 ∧ b3 < g + 2 ∧ g2 < g + 2 := by have := HG.out; omega
      obtain ⟨lb2, lb3, lg2⟩ := lb
      have hnx := Lib.hid (sgm_succ nx ot cl s a)
      have hy : (ot.getD s []).getD a 0 = oN ot s a := rfl
      rw [hy] at hc2
      obtain ⟨q1, f1⟩ := hS.at_ (j := 2 * a) (by rw [sgm_len]; omega)
      obtain ⟨q2, f2⟩ := hS.at_ (j := 2 * a + 1) (by rw [sgm_len]; omega)
      have HS := Lib.hid hS
      generalize (sgm nx ot cl s a).getD (2 * a) 0 = u1 at q1
      generalize (sgm nx ot cl s a).getD (2 * a + 1) 0 = u2 at q2
      generalize oN ot s a = y at hc2 hnx
      generalize nN nx s a = t at hc1 ht hc3 hnx
      generalize cl.getD t 0 = z at hc3 hnx
      rw [Nat.mul_comm] at q1 f1 q2 f2
      have HY := Lib.hid hy
      clear hy hS hd1 hd2
      have j0 : (0 : Int) ≤ (a : Int) := by omega
      have j1 : (0 : Int) ≤ (t : Int) := by omega
      have j2 : (t : Int) < (n : Int) := by omega
      have j3 : (s : Int) < (n : Int) := by omega
      have j4 : (a : Int) < (n1 : Int) := by omega
      have j5 : (a : Int) < 64 := by omega
      have HK : Hid (∀ u v, ((wr.setCell ⟨g + 1 + 1, a * 2, none⟩ u).setCell ⟨g + 1 + 1, a * 2 + 1, none⟩ v).drew.cell? ⟨g, 3, none⟩ = some (.slice (some ⟨g2, o2, none⟩) n d) ∧ ((wr.setCell ⟨g + 1 + 1, a * 2, none⟩ u).setCell ⟨g + 1 + 1, a * 2 + 1, none⟩ v).drew.cell? ⟨g2, o2 + s, none⟩ = some (.slice (some ⟨b2, p2, none⟩) n1 c2) ∧ ((wr.setCell ⟨g + 1 + 1, a * 2, none⟩ u).setCell ⟨g + 1 + 1, a * 2 + 1, none⟩ v).drew.cell? ⟨b2, p2 + a, none⟩ = some (.int .i64 y) ∧ ((wr.setCell ⟨g + 1 + 1, a * 2, none⟩ u).setCell ⟨g + 1 + 1, a * 2 + 1, none⟩ v).drew.cell? ⟨b3, p3 + t, none⟩ = some (.int .i64 z)) := Lib.hid fun u v => by
        have h1 : Below (g + 2) wr (wr.setCell ⟨g + 1 + 1, a * 2, none⟩ u) := (Below.refl (g + 2) wr).setCell (p := ⟨g + 1 + 1, a * 2, none⟩) (Nat.le_refl (g + 2)) u
        have h2 : Below (g + 2) wr ((wr.setCell ⟨g + 1 + 1, a * 2, none⟩ u).setCell ⟨g + 1 + 1, a * 2 + 1, none⟩ v) := h1.setCell (p := ⟨g + 1 + 1, a * 2 + 1, none⟩) (Nat.le_refl (g + 2)) v
        have hk : Below (g + 2) wr (((wr.setCell ⟨g + 1 + 1, a * 2, none⟩ u).setCell ⟨g + 1 + 1, a * 2 + 1, none⟩ v).drew) := below_drewN h2 1
        exact ⟨(hk.cell (p := ⟨g, 3, none⟩) (show g < g + 2 by omega)).trans k3, (hk.cell (p := ⟨g2, o2 + s, none⟩) lg2).trans e2, (hk.cell (p := ⟨b2, p2 + a, none⟩) lb2).trans hc2, (hk.cell (p := ⟨b3, p3 + t, none⟩) lb3).trans hc3⟩
      go_wp2
      go_region_held3 (fun w' => w'.cell? ⟨g, 3, none⟩ = some (.slice (some ⟨g2, o2, none⟩) n d) ∧ w'.cell? ⟨g2, o2 + s, none⟩ = some (.slice (some ⟨b2, p2, none⟩) n1 c2) ∧ w'.cell? ⟨b2, p2 + a, none⟩ = some (.int .i64 y) ∧ w'.cell? ⟨b3, p3 + t, none⟩ = some (.int .i64 z)) (first | exact HK.out _ _ | exact ⟨k3, e2, hc2, hc3⟩ | go_keep) (fail)
      have hq1 := (HS.out.set (2 * a) y).set (2 * a + 1) (z : Int)
      rw [hnx.out] at hq1
      have hq2 : Below (g + 2) w3 ((wr.setCell ⟨g + 2, 2 * a, none⟩ (.int .i64 y)).setCell ⟨g + 2, 2 * a + 1, none⟩ (.int .i64 z)) := (hbr.setCell (p := ⟨g + 2, 2 * a, none⟩) (Nat.le_refl (g + 2)) _).setCell (p := ⟨g + 2, 2 * a + 1, none⟩) (Nat.le_refl (g + 2)) _
      rw [Nat.mul_comm 2 a] at hq1 hq2
      have HQ := Lib.hid (And.intro hq1 hq2)
      clear hq1 hq2
      go_wp2
      go_roundw
      case rel => exact ⟨a + 1, by omega, by go_num, HQ.out.1, below_drewN HQ.out.2 1⟩
      case measure => simp [intOf]; omega
    · obtain rfl : a = n1 := by omega
      have hR := HR3.out.kept hbr (show g + 1 < g + 2 by omega)
      have HS := Lib.hid hS
      have HR := Lib.hid hR
      have hWS := Lib.hid ((HR.out.whole (sgm nx ot cl s a) (by rw [sgm_len]; simp)))
      have hT := Lib.hid (HR.out.there 128 (by simp))
      have hBW := Lib.hid (hbW.trans (below_setCells w.heap.size (g + 1) (by rw [← HG.out]; omega) ((sgm nx ot cl s a).map (Value.int .i64)) 0 wr))
      have hsz : ((sgm nx ot cl s a).map (Value.int .i64)).toArray.size = 128 := by simp [sgm_len]
      have hone : ((sgm nx ot cl s a).map (Value.int .i64)).toArray.all (·.oneCell') = true := all_oneCell_toArray (fun v hv => by obtain ⟨x, _, rfl⟩ := List.mem_map.1 hv; rfl)
      have HSZ := Lib.hid hsz
      have HONE := Lib.hid hone
      clear hS hR hsz hone
      generalize hL : ((sgm nx ot cl s a).map (Value.int .i64)).toArray = cs at HSZ HONE
      have hS9 : wr.heap[g + 2]? = some (.cells cs 164 (0, 0)) := by rw [← hL]; exact HS.out
      have hL2 : cs.toList = (sgm nx ot cl s a).map (Value.int .i64) := by rw [← hL]
      have HL := Lib.hid hL
      have HL2 := Lib.hid hL2
      have HS9 := Lib.hid hS9
      clear hL hL2 hS9 k0 k1 k2 k3
      go_wp2_with (first
        | (refine wpList_load_row rfl 164 _ rfl (g + 2) rfl 164 cs (0, 0) _ HS9.out Try.underlying164 rfl (by rw [HSZ.out]; kernel_rfl) ?_)
        | (refine wpList_store_mid rfl 164 _ _ rfl (g + 1) 0 cs rfl rfl (by rw [HSZ.out]; exact hT.out) (by rw [HSZ.out]; kernel_rfl) HONE.out ?_))
      rw [HL2.out]
      refine bodyPost_ret (results_cell_row (by rfl) _ _ (g + 1) 164 _ (0, 0) _ rfl hWS.out Try.underlying164 rfl (by rw [List.size_toArray, List.length_map, sgm_len]; kernel_rfl)) rfl ⟨rfl, hBW.out⟩
end Go.Proofs.Ytnifjagjcoegaaa
