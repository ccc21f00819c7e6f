/- One refinement of classes: the walk. -/
import Derived.Test.YtnifjagjcoegaaaRfn
namespace Go.Proofs.Ytnifjagjcoegaaa
open Go.RowKit

theorem Owned.apartMap {w w' : World} {base g n c b : Nat} {xs : List Int} (h : Owned w base (.slice (some ⟨g, 0, none⟩) n c) xs) (hg : w.grownBy w' (some b)) (hne : b ≠ g) : Owned w' base (.slice (some ⟨g, 0, none⟩) n c) xs :=
  World.ownsRow.kept h hg (.inr (by simp [Value.ownBlock]; exact fun e => hne e.symm))
/-- The key laid in a new block. -/
theorem sig_laid (w : World) (xs : List Int) (hl : xs.length = 128) (W : World) (hW : W = (w.alloc (.cells Try.zeroCells164 164)).setCells w.heap.size 0 (xs.map (Value.int .i64))) :
    Zblk W w.heap.size 164 xs ∧ Below w.heap.size w W ∧ w.heap.size < W.heap.size ∧ (w.alloc (.cells Try.zeroCells164 164)).there w.heap.size 0 128 := by
  have h1 : Zblk (w.alloc (.cells Try.zeroCells164 164)) w.heap.size 164 (List.replicate 128 0) := by rw [zero128]; exact heap_alloc_new _ _
  have h2 := h1.whole xs (by simp [hl])
  have h3 := below_setCells w.heap.size w.heap.size (Nat.le_refl _) (xs.map (Value.int .i64)) 0 (w.alloc (.cells Try.zeroCells164 164))
  rw [← hW] at h2 h3
  have h4 := h3.size
  simp at h4
  exact ⟨h2, (alloc_below _ _).trans h3, h4, h1.there 128 (by simp)⟩
theorem mid_set (l : List Int) (n k : Nat) (x : Int) (hl : l.length = n) (hk : k < n) (hx : l[k]? = some x) : (l.take k ++ List.replicate (n - k) 0).set k x = l.take (k + 1) ++ List.replicate (n - (k + 1)) 0 := by
  apply List.ext_getElem?
  intro j
  have h1 : (l.take k).length = k := by rw [List.length_take]; omega
  have h2 : (l.take (k + 1)).length = k + 1 := by rw [List.length_take]; omega
  rw [List.getElem?_set, List.length_append, h1, List.length_replicate]
  by_cases e : k = j
  · subst e
    rw [if_pos rfl, if_pos (by omega), List.getElem?_append_left (by omega), List.getElem?_take, if_pos (by omega), hx]
  · rw [if_neg e]
    by_cases e2 : j < k
    · rw [List.getElem?_append_left (by omega), List.getElem?_append_left (by omega), List.getElem?_take, List.getElem?_take, if_pos e2, if_pos (by omega)]
    · rw [List.getElem?_append_right (by omega), List.getElem?_append_right (by omega), h1, h2, List.getElem?_replicate, List.getElem?_replicate]
      by_cases e3 : j < n
      · rw [if_pos (by omega), if_pos (by omega)]
      · rw [if_neg (by omega), if_neg (by omega)]
theorem mid_len (l : List Int) (n k : Nat) (hl : l.length = n) (hk : k ≤ n) : (l.take k ++ List.replicate (n - k) 0).length = n := by
  rw [List.length_append, List.length_take, List.length_replicate]; omega

set_option maxHeartbeats 4000000 in
set_option maxRecDepth 100000 in
theorem prefine (i st n : Nat) (A B C : Option Addr) (c d cc : Nat) (nx ot : List (List Int)) (cl : List Nat) (w : World) (hx : Lists w A n nx) (ho : Lists w B n ot) (hM : Mok i st n nx ot) (hc : Ints w C n (zs cl)) (hcl : ∀ t, t < n → cl.getD t 0 ≤ n) :
    Calls Try.prog 121 #[.agg #[.int .i64 i, .int .i64 st, .slice A n c, .slice B n d], .slice C n cc] w fun e w' => ∃ A' c', e = .returned (.slice A' n c') ∧ Owned w' w.heap.size (.slice A' n c') (zs (num (fun s => sgm nx ot cl s i) n)) ∧ Below w.heap.size w w' := by
  have hn := hx.2.1
  have hn2 := hM.n2
  have hn1 := hM.n1
  have hlo := Lib.hid ho
  obtain ⟨g, hg⟩ : ∃ g, g = w.heap.size := ⟨_, rfl⟩
  obtain ⟨w1, hw1⟩ : ∃ w1, w1 = w.alloc (.cells #[.int .i64 i, .int .i64 st, .slice A n c, .slice B n d] 58) := ⟨_, rfl⟩
  have hb1 : Below w.heap.size w w1 := by rw [hw1]; exact alloc_below _ _
  have hz1 : w1.heap.size = g + 1 := by rw [hw1, hg]; simp
  have hB1 : Mblk w1 g (.int .i64 i) (.int .i64 st) (.slice A n c) (.slice B n d) := by rw [hw1, hg]; exact heap_alloc_new _ _
  obtain ⟨w2, hw2⟩ : ∃ w2, w2 = w1.alloc (.map #[] 0) := ⟨_, rfl⟩
  have hb2 : Below w1.heap.size w1 w2 := by rw [hw2]; exact alloc_below _ _
  have hz2 : w2.heap.size = g + 2 := by rw [hw2]; simp; omega
  have hN2 : NumIs 164 w2 (g + 1) [] := by rw [hw2, ← hz1]; exact NumIs.made _ _
  have hbw2 : Below w.heap.size w w2 := bt hb1 hb2
  have hB2 := hB1.kept hb2 (show g < w1.heap.size by omega)
  have HW : Hid (w2 = (w.alloc (.cells #[.int .i64 i, .int .i64 st, .slice A n c, .slice B n d] 58)).alloc (.map #[] 0)) := Lib.hid (by rw [hw2, hw1])
  have HG := Lib.hid hg
  have HB2 := Lib.hid hB2
  have HN2 := Lib.hid hN2
  have HZ2 := Lib.hid hz2
  have hmm := @run_makeMap Try.prog
  obtain ⟨f, hf⟩ : ∃ f : Nat → List Int, f = fun s => sgm nx ot cl s i := ⟨_, rfl⟩
  have HK := Lib.hid (show ∀ s, s < n → IsK 164 (f s) from fun s hs => by rw [hf]; exact sgmK hM hcl hs)
  have HL := Lib.hid (show ∀ s, (f s).length = 128 from fun s => by rw [hf]; exact sgm_len _ _ _ _ _)
  have HF := Lib.hid (show ∀ s, sgm nx ot cl s i = f s from fun s => by rw [hf])
  rw [← hf]
  clear hf
  clear hw1 hw2 hz1 hb1 hb2 hB1 hg hB2 hN2 hz2
  go_enter Try.func121, Try.ntmps121
  go_wp2_with (refine wpList_make_ints _ rfl _ _ rfl .i64 .i64 n rfl rfl hn ?_; intro w3 ho3 b3)
  clear hmm
  rw [← HW.out] at ho3 b3
  rw [HZ2.out] at ho3 b3
  try rw [← HW.out]
  try rw [HZ2.out]
  go_wp2
  try rw [← HG.out]
  have hB3 := (HB2.out.kept b3 (by omega))
  have hN3 := (HN2.out.below b3 (by omega))
  have HB3 := Lib.hid hB3
  have HN3 := Lib.hid hN3
  have HO3 := Lib.hid ho3
  have hz3 := b3.size
  rw [HZ2.out] at hz3
  have hbw3 : Below w.heap.size w w3 := hbw2.trans (b3.mono (by rw [← HG.out]; omega))
  clear hB3 hN3 ho3 HB2 HN2 b3
  go_loopw [17] (fun kv wr => ∃ s : Nat, s ≤ n ∧ kv = .int .i64 s ∧ NumIs 164 wr (g + 1) (grp f s) ∧ Owned wr (g + 2) (.slice (some ⟨g + 2, 0, none⟩) n n) (zs ((num f n).take s) ++ List.replicate (n - s) 0) ∧ Below (g + 1) w3 wr ∧ w3.heap.size ≤ wr.heap.size) (fun kv _ => n - (intOf kv).toNat)
  case atStart => exact ⟨0, Nat.zero_le _, rfl, HN3.out, by simpa [zs] using HO3.out, Below.refl _ _, Nat.le_refl _⟩
  case round =>
    obtain ⟨s, hs, rfl, hN, hO, hbr, hzr⟩ := hrel
    have hbW : Below w.heap.size w wr := hbw3.trans (hbr.mono (by rw [← HG.out]; omega))
    have hbox := HB3.out.kept hbr (show g < g + 1 by omega)
    obtain ⟨k0, k1, k2, k3, _⟩ := hbox.cells
    have HN := Lib.hid hN
    have HO := Lib.hid hO
    have HBR := Lib.hid hbr
    clear hN hO hbr
    by_cases hlt : s < n
    · go_wp2_with fail
      refine (psign _ _ _ _ _ _ _ _ _ _ _ _ cl _ (hx.below hbW) (hlo.out.below hbW) hM (hc.below hbW) hlt).mono ?_
      rintro e w4 ⟨rfl, b4⟩
      have hz4 := b4.size
      obtain ⟨W, hW⟩ : ∃ W, W = (w4.alloc (.cells Try.zeroCells164 164)).setCells w4.heap.size 0 ((sgm nx ot cl s i).map (Value.int .i64)) := ⟨_, rfl⟩
      obtain ⟨hZ, bW, hzW, hth⟩ := sig_laid w4 _ (sgm_len nx ot cl s i) W hW
      rw [HF.out s] at hZ hW ⊢
      have hK := HK.out s hlt
      have hl := HL.out s
      have hone : ((f s).map (Value.int .i64)).toArray.all (·.oneCell') = true := all_oneCell_toArray (fun v hv => by obtain ⟨x, _, rfl⟩ := List.mem_map.1 hv; rfl)
      have hsz : ((f s).map (Value.int .i64)).toArray.size = 128 := by simp [hl]
      have hbw4 : Below wr.heap.size wr W := bt b4 bW
      have hNW := HN.out.below hbw4 HN.out.lt
      have hOW := HO.out.kept hbw4
      have hkv : kv (f s) = .agg ((f s).map (Value.int .i64)).toArray := rfl
      rw [hkv]
      obtain ⟨cs, hcs⟩ : ∃ cs, cs = ((f s).map (Value.int .i64)).toArray := ⟨_, rfl⟩
      have hZ : W.heap[w4.heap.size]? = some (.cells cs 164 (0, 0)) := by rw [hcs]; exact hZ
      have hW2 : W = (w4.alloc (.cells Try.zeroCells164 164)).setCells w4.heap.size 0 cs.toList := by rw [hW, hcs]
      rw [← hcs] at hone hsz hkv ⊢
      have HKV := Lib.hid hkv
      have HZ := Lib.hid hZ
      have HW2 := Lib.hid hW2
      have HONE := Lib.hid hone
      have HSZ := Lib.hid hsz
      have HTH := Lib.hid hth
      have HCS := Lib.hid hcs
      have HNW := Lib.hid hNW
      have HOW := Lib.hid hOW
      have HBW := Lib.hid hbw4
      have hzW := bW.size
      have hbW9 : Below (g + 1) w3 W := HBR.out.trans (hbw4.mono (by omega))
      have hwl : (zs (num f n)).length = n := by rw [zs_len, num_len]
      have hnm : (zs (num f n))[s]? = some ((nmb f s : Nat) : Int) := by
        have := zs_at (num f n) s
        rw [num_at f hlt, List.getD_eq_getElem?_getD, List.getElem?_eq_getElem (by rw [hwl]; exact hlt)] at this
        rw [List.getElem?_eq_getElem (by rw [hwl]; exact hlt)]
        exact congrArg some this
      have htk : zs ((num f n).take s) = (zs (num f n)).take s := by simp [zs]
      have htk1 : zs ((num f n).take (s + 1)) = (zs (num f n)).take (s + 1) := by simp [zs]
      rw [htk] at hOW
      have hst := mid_set (zs (num f n)) n s _ hwl hlt hnm
      have hml := mid_len (zs (num f n)) n s hwl (by omega)
      have HST := Lib.hid hst
      have HML := Lib.hid hml
      have HTK := Lib.hid htk1
      generalize (zs (num f n)).take s ++ List.replicate (n - s) 0 = mid at hOW HST HML
      have HNW := Lib.hid hNW
      have HOW := Lib.hid hOW
      have HBW9 := Lib.hid hbW9
      clear hZ hW hW2 hone hsz hth hcs hkv hNW hOW hbw4 b4 k0 k1 k2 k3 hl hst hml htk1 htk hnm hwl hbW9 bW
      have hs0 : (0 : Int) ≤ (s : Int) := by omega
      have hz5 : wr.heap.size ≤ W.heap.size := by omega
      by_cases hin : f s ∈ grp f s
      · have hrun := HNW.out.look_in sigT hin
        rw [HKV.out, ← nmb_old f hin] at hrun
        have hg1 : grp f (s + 1) = grp f s := addK_in hin
        have HG1 := Lib.hid hg1
        have hO2 := HOW.out.stored s ((nmb f s : Nat) : Int)
        obtain ⟨bq, oq, eq, hbq, hcq⟩ := (HOW.out.ints (by rw [HML.out]; omega)).at_ hlt
        cases eq
        obtain ⟨gq, eg, _, _, hfz⟩ := HOW.out.head (by omega)
        cases eg
        have hfz := hfz s
        rw [Nat.zero_add] at hcq
        have hN2 := HNW.out.setCell (a := ⟨g + 2, s, none⟩) (by simp) (.int .i64 ((nmb f s : Nat) : Int))
        have hB2 := HBW9.out.setCell (p := ⟨g + 2, s, none⟩) (by simp) (.int .i64 ((nmb f s : Nat) : Int))
        have HR := Lib.hid (And.intro hO2 (And.intro hN2 hB2))
        clear hO2 hN2 hB2 hg1 hin hbq
        generalize nmb f s = v at hrun HR HST
        go_wp2_with (first
          | (refine wpList_store_mid rfl 164 _ _ rfl w4.heap.size 0 cs rfl rfl (by rw [HSZ.out]; exact HTH.out) (by rw [HSZ.out]; kernel_rfl) HONE.out ?_; rw [← HW2.out])
          | (refine wpList_load_row rfl 164 _ rfl w4.heap.size rfl 164 cs (0, 0) _ HZ.out Try.underlying164 rfl (by rw [HSZ.out]; kernel_rfl) ?_))
        go_roundw
        case rel => exact ⟨s + 1, by omega, by go_num, by rw [HG1.out]; exact HR.out.2.1, by rw [HTK.out, ← HST.out]; exact HR.out.1, HR.out.2.2, by simp; omega⟩
        case measure => simp [intOf]; omega
      · have hrun := HNW.out.look_out sigT hK hin
        have hlen := HNW.out.len sigT 3
        obtain ⟨w6, hup, hN6, hgr⟩ := HNW.out.put sigT hK hin (by have := grp_len f s; omega)
        rw [HKV.out] at hrun hup
        rw [← nmb_new f hin] at hlen hup
        have hg1 : grp f (s + 1) = grp f s ++ [f s] := addK_out hin
        have HG1 := Lib.hid hg1
        have hO6 := HOW.out.apartMap hgr (by omega)
        have hO2 := hO6.stored s ((nmb f s : Nat) : Int)
        obtain ⟨bq, oq, eq, hbq, hcq⟩ := (hO6.ints (by rw [HML.out]; omega)).at_ hlt
        cases eq
        obtain ⟨gq, eg, _, _, hfz⟩ := hO6.head (by omega)
        cases eg
        have hfz := hfz s
        rw [Nat.zero_add] at hcq
        have hN2 := hN6.setCell (a := ⟨g + 2, s, none⟩) (by simp) (.int .i64 ((nmb f s : Nat) : Int))
        have hB6 := HBW9.out.grown hgr (by omega) (fun k hk => by cases hk; omega)
        have hB2 := hB6.setCell (p := ⟨g + 2, s, none⟩) (by simp) (.int .i64 ((nmb f s : Nat) : Int))
        have HR := Lib.hid (And.intro hO2 (And.intro hN2 hB2))
        have hz6 := hgr.size
        clear hO2 hN2 hB2 hg1 hin hbq hO6 hN6 hgr hB6
        generalize nmb f s = v at hlen hup HR HST
        go_wp2_with (first
          | (refine wpList_store_mid rfl 164 _ _ rfl w4.heap.size 0 cs rfl rfl (by rw [HSZ.out]; exact HTH.out) (by rw [HSZ.out]; kernel_rfl) HONE.out ?_; rw [← HW2.out])
          | (refine wpList_load_row rfl 164 _ rfl w4.heap.size rfl 164 cs (0, 0) _ HZ.out Try.underlying164 rfl (by rw [HSZ.out]; kernel_rfl) ?_))
        go_roundw
        case rel => exact ⟨s + 1, by omega, by go_num, by rw [HG1.out]; exact HR.out.2.1, by rw [HTK.out, ← HST.out]; exact HR.out.1, HR.out.2.2, by simp; omega⟩
        case measure => simp [intOf]; omega
    · obtain rfl : s = n := by omega
      have hO := HO.out
      rw [List.take_of_length_le (by rw [num_len]; exact Nat.le_refl _), Nat.sub_self, List.replicate_zero, List.append_nil] at hO
      have HO2 := Lib.hid (hO.lower (base' := w.heap.size) (by rw [← HG.out]; omega))
      clear hO
      go_wp2
      go_ret
      exact ⟨_, _, rfl, HO2.out, hbW⟩
end Go.Proofs.Ytnifjagjcoegaaa
