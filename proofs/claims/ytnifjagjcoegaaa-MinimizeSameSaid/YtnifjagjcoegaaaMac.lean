/- Lemmas of the proofs of this seat, of the parts Trimm, Numk, Sgnm, Rfin, Eqm, Eqr, Valr, Sgn, Rfn. Conditions: none. -/
import Derived.Test.YtnifjagjcoegaaaMab
import Derived.Test.YtnifjagjcoegaaaMaa
import Derived.Maps.OwnSet
import Derived.Maps.Views
import Derived.DeepKeys4
import Derived.Deep.MidRow
import Derived.Deep.RegionHeld3
section
/- Trim of a machine. -/
namespace Go.Proofs.Ytnifjagjcoegaaa
open Go.RowKit

/-- A block of a machine. -/
def Mblk (w : World) (g : Nat) (a b c d : Value) : Prop := w.heap[g]? = some (.cells #[a, b, c, d] 58 (0, 0))
theorem Mblk.cells {w : World} {g : Nat} {a b c d : Value} (h : Mblk w g a b c d) :
    w.cell? ⟨g, 0, none⟩ = some a ∧ w.cell? ⟨g, 1, none⟩ = some b ∧ w.cell? ⟨g, 2, none⟩ = some c ∧ w.cell? ⟨g, 3, none⟩ = some d ∧ w.frozen? ⟨g, 0, none⟩ = false ∧ w.frozen? ⟨g, 1, none⟩ = false ∧ w.frozen? ⟨g, 2, none⟩ = false ∧ w.frozen? ⟨g, 3, none⟩ = false :=
  ⟨cell_of_row w g 0 _ _ (0, 0) h, cell_of_row w g 1 _ _ (0, 0) h, cell_of_row w g 2 _ _ (0, 0) h, cell_of_row w g 3 _ _ (0, 0) h, frozen_of_row w g 0 _ _ h, frozen_of_row w g 1 _ _ h, frozen_of_row w g 2 _ _ h, frozen_of_row w g 3 _ _ h⟩
theorem Mblk.kept {w w' : World} {g : Nat} {a b c d : Value} (h : Mblk w g a b c d) {k : Nat} (hb : Below k w w') (hg : g < k) : Mblk w' g a b c d := (hb.block g hg).trans h
theorem Mblk.keptT {w w' : World} {g : Nat} {a b c d : Value} (h : Mblk w g a b c d) (hb : KeptT 58 w w') : Mblk w' g a b c d := hb g _ h

/-- A result that lies in memory, a machine, and one more. -/
theorem results_mealy {fn : Func} {p u : Tmp} (h : fn.results = #[.cell p 58, .tmp u]) (tmps : Array Value) (w : World) (g : Nat) (a b c d : Value)
    (hp : tmps.getD p undef = .pointer (some ⟨g, 0, none⟩)) (hg : Mblk w g a b c d) :
    (results fn tmps).run Try.prog w = .ok (.tuple #[.agg #[a, b, c, d], tmps.getD u undef]) w := by
  rw [results_cell_tmp h, hp]
  have hl := run_loadVar_row (P := Try.prog) w g 58 58 #[a, b, c, d] (0, 0) _ hg Try.underlying58 rfl (by kernel_rfl)
  simp [asAddr, hl]
theorem Mblk.set4 {w : World} {g : Nat} {a b c d : Value} (h : Mblk w g a b c d) (a' b' c' d' : Value) :
    Mblk ((((w.setCell ⟨g, 0, none⟩ a').setCell ⟨g, 1, none⟩ b').setCell ⟨g, 2, none⟩ c').setCell ⟨g, 3, none⟩ d') g a' b' c' d' := by
  have h1 := heap_setCell_same w g 0 _ _ a' h
  have h2 := heap_setCell_same _ g 1 _ _ b' h1
  have h3 := heap_setCell_same _ g 2 _ _ c' h2
  have h4 := heap_setCell_same _ g 3 _ _ d' h3
  exact h4

theorem ptrim_bad (i st : Int) (A B : Option Addr) (n c m d : Nat) (nx ot : List (List Int)) (w : World) (hx : Lists w A n nx) (ho : Lists w B m ot) (hv : ¬ vld i st nx ot = 0) :
    Calls Try.prog 101 #[.agg #[.int .i64 i, .int .i64 st, .slice A n c, .slice B m d]] w fun e w' => e = .returned (.tuple #[.agg #[.int .i64 0, .int .i64 0, .slice none 0 0, .slice none 0 0], .int .i64 (vld i st nx ot)]) ∧ Below w.heap.size w w' := by
  have hb0 := alloc_below w (.cells #[.int .i64 i, .int .i64 st, .slice A n c, .slice B m d] 58)
  have hb1 := bt hb0 (alloc_below (w.alloc (.cells #[.int .i64 i, .int .i64 st, .slice A n c, .slice B m d] 58)) (.cells #[.int .i64 0, .int .i64 0, .slice none 0 0, .slice none 0 0] 58))
  have hne : (vld i st nx ot != 0) = true := by simpa using hv
  go_enter Try.func101, Try.ntmps101
  go_wp2_with fail
  refine (pvalid _ _ _ _ _ _ _ _ _ _ _ (hx.below hb1) (ho.below hb1)).mono ?_
  rintro e w1 ⟨rfl, b1⟩
  have hR : Mblk w1 (w.heap.size + 1) (.int .i64 0) (.int .i64 0) (.slice none 0 0) (.slice none 0 0) := by
    refine Mblk.kept ?_ b1 (by simp)
    have := heap_alloc_new (w.alloc (.cells #[.int .i64 i, .int .i64 st, .slice A n c, .slice B m d] 58)) (.cells #[.int .i64 0, .int .i64 0, .slice none 0 0, .slice none 0 0] 58)
    simpa [Mblk] using this
  obtain ⟨c0, c1, c2, c3, f0, f1, f2, f3⟩ := hR.cells
  have HR := Lib.hid hR
  generalize hE : vld i st nx ot = E at hne hv
  have HE := Lib.hid hE
  clear hv hR hE
  go_wp2
  (try simp only [Exit.inBlock, Exit.then])
  refine bodyPost_ret (results_mealy rfl _ _ (w.heap.size + 1) (.int .i64 0) (.int .i64 0) (.slice none 0 0) (.slice none 0 0) rfl (HR.out.set4 _ _ _ _)) rfl ?_
  have hl : ∀ k, w.heap.size ≤ (⟨w.heap.size + 1, k, none⟩ : Addr).block := fun k => Nat.le_succ _
  exact ⟨by rw [HE.out]; rfl, (((((bt hb1 b1).setCell (hl 0) _).setCell (hl 1) _).setCell (hl 2) _).setCell (hl 3) _)⟩

theorem OwnedL.drew {w : World} {base : Nat} {v : Value} {xss : List (List Int)} (h : OwnedL w base v xss) (q : Nat) : OwnedL (w.drewN q) base v xss := h
theorem Mblk.set2 {w : World} {g : Nat} {a b c d : Value} (h : Mblk w g a b c d) (v : Value) : Mblk (w.setCell ⟨g, 2, none⟩ v) g a b v d := heap_setCell_same w g 2 _ _ v h
theorem Mblk.set3 {w : World} {g : Nat} {a b c d : Value} (h : Mblk w g a b c d) (v : Value) : Mblk (w.setCell ⟨g, 3, none⟩ v) g a b c v := heap_setCell_same w g 3 _ _ v h
theorem OwnedL.offM {w : World} {base g j : Nat} {v : Value} {xss : List (List Int)} {a b c d : Value} (h : OwnedL w base v xss) (hM : Mblk w g a b c d) (u : Value) : OwnedL (w.setCell ⟨g, j, none⟩ u) base v xss :=
  h.keptT (KeptT.off hM (by decide) u) (KeptT.off hM (by decide) u)

/-- What a row of lists in a machine's block is behind a call and an append. -/
theorem trim_step {wo w8 w9 : World} {gT k m c9 : Nat} {x y u : Value} {AO A9 : Option Addr} {cO : Nat} {xss yss : List (List Int)} {xs : List Int} (b8 : Below gT wo w8) (hT : Mblk w8 gT x y u (.slice AO k cO)) (hN : OwnedL w8 gT u xss) (hO : OwnedL w8 gT (.slice AO k cO) yss) (hA : Apart u (.slice AO k cO))
    (q8 : Nat) (b9 : Below (w8.drewN q8).heap.size (w8.drewN q8) w9) (ho : Owned w9 (w8.drewN q8).heap.size (.slice A9 m c9) xs) (hk : k < 1759218604441) (hg : gT < w8.heap.size) :
    Mblk w9 gT x y u (.slice AO k cO) ∧ ∃ F : Nat → (Option Addr × Nat) × World, ∀ q, (Builtin.append_ #[22, 22] 22 #[.slice AO k cO, .slice (some ⟨w9.heap.size, 0, none⟩) 1 1]).run Try.prog ((w9.drewN q).alloc (.cells #[.slice A9 m c9] 26)) = .ok (.slice (F q).1.1 (k + 1) (F q).1.2) (F q).2 ∧
      Mblk (F q).2 gT x y u (.slice AO k cO) ∧ OwnedL (F q).2 gT u xss ∧ OwnedL (F q).2 gT (.slice (F q).1.1 (k + 1) (F q).1.2) (yss ++ [xs]) ∧ Apart u (.slice (F q).1.1 (k + 1) (F q).1.2) ∧ Below gT wo (F q).2 := by
  have b9' : Below w8.heap.size w8 w9 := (below_drewN (Below.refl _ _) q8).trans b9
  have hT9 := hT.kept b9' hg
  have hyl : yss.length = k := by obtain ⟨A', c', e⟩ := hO.form; cases e; rfl
  refine ⟨hT9, skol (p := fun q (r : (Option Addr × Nat) × World) => (Builtin.append_ #[22, 22] 22 #[.slice AO k cO, .slice (some ⟨w9.heap.size, 0, none⟩) 1 1]).run Try.prog ((w9.drewN q).alloc (.cells #[.slice A9 m c9] 26)) = .ok (.slice r.1.1 (k + 1) r.1.2) r.2 ∧
      Mblk r.2 gT x y u (.slice AO k cO) ∧ OwnedL r.2 gT u xss ∧ OwnedL r.2 gT (.slice r.1.1 (k + 1) r.1.2) (yss ++ [xs]) ∧ Apart u (.slice r.1.1 (k + 1) r.1.2) ∧ Below gT wo r.2) fun q => ?_⟩
  have hN9 := hN.kept b9'
  obtain ⟨A', c', w', h1, h2, h3, h4, h5, h6⟩ := run_append_list ((hO.kept b9').drew q) ((ho.lower (base' := gT) (Nat.le_of_lt hg)).drew q) (by have := b9'.size; show gT ≤ w9.heap.size; omega) (by omega)
  rw [hyl] at h1 h2 h6
  have hT9q : Mblk (w9.drewN q) gT x y u (.slice AO k cO) := hT9
  exact ⟨((A', c'), w'), h1, hT9q.keptT (h4 _ (by decide)), (hN9.drew q).keptB h5 hA.symm (h4 _ (by decide)), h2, (hA.symm.moved h6 (hN9.drew q)).symm, b8.trans ((b9'.mono (Nat.le_of_lt hg)).trans ((below_drewN (Below.refl _ _) q).trans h3))⟩

set_option maxHeartbeats 4000000 in
set_option maxRecDepth 100000 in
theorem ptrim_ok (i st n : Nat) (A B : Option Addr) (c d : Nat) (nx ot : List (List Int)) (w : World) (hx : Lists w A n nx) (ho : Lists w B n ot) (hM : Mok i st n nx ot) :
    Calls Try.prog 101 #[.agg #[.int .i64 i, .int .i64 st, .slice A n c, .slice B n d]] w fun e w' => ∃ A' c' B' d',
      e = .returned (.tuple #[.agg #[.int .i64 i, .int .i64 0, .slice A' (rch nx i st).length c', .slice B' (rch nx i st).length d'], .int .i64 0]) ∧
      OwnedL w' w.heap.size (.slice A' (rch nx i st).length c') (trN nx i (rch nx i st)) ∧ OwnedL w' w.heap.size (.slice B' (rch nx i st).length d') (trO ot (rch nx i st)) ∧ Below w.heap.size w w' := by
  have hn := hx.2.1
  have hn128 := hM.n2
  have HV := Lib.hid hM.vld
  have hlo := Lib.hid ho
  obtain ⟨w0, hw0⟩ : ∃ w0, w0 = (w.alloc (.cells #[.int .i64 i, .int .i64 st, .slice A n c, .slice B n d] 58)).alloc (.cells #[.int .i64 0, .int .i64 0, .slice none 0 0, .slice none 0 0] 58) := ⟨_, rfl⟩
  have hb1 : Below w.heap.size w w0 := by rw [hw0]; exact bt (alloc_below _ _) (alloc_below _ _)
  have hz0 : w0.heap.size = w.heap.size + 2 := by rw [hw0]; simp
  have hB0 : Mblk w0 w.heap.size (.int .i64 i) (.int .i64 st) (.slice A n c) (.slice B n d) := by
    rw [hw0]
    have := (alloc_below (w.alloc (.cells #[.int .i64 i, .int .i64 st, .slice A n c, .slice B n d] 58)) (.cells #[.int .i64 0, .int .i64 0, .slice none 0 0, .slice none 0 0] 58)).block w.heap.size (by simp)
    exact this.trans (heap_alloc_new w _)
  have hR0 : Mblk w0 (w.heap.size + 1) (.int .i64 0) (.int .i64 0) (.slice none 0 0) (.slice none 0 0) := by
    rw [hw0]
    have := heap_alloc_new (w.alloc (.cells #[.int .i64 i, .int .i64 st, .slice A n c, .slice B n d] 58)) (.cells #[.int .i64 0, .int .i64 0, .slice none 0 0, .slice none 0 0] 58)
    simpa [Mblk] using this
  have HW0 := Lib.hid hw0
  obtain ⟨R, hR⟩ : ∃ R, R = rch nx i st := ⟨_, rfl⟩
  have hRs : Stt n R := by rw [hR]; exact hM.rch_stt
  have hRc := Lib.hid (show ∀ s a, s ∈ R → a < i → nN nx s a ∈ R from fun s a hs ha => by rw [hR] at hs ⊢; exact hM.rch_in hs ha)
  have HREACH := Lib.hid (fun W h1 h2 => preach_ok i st n A B c d nx ot W h1 h2 hM)
  rw [← hR] at HREACH ⊢
  clear hR
  have hRl := hRs.len
  go_enter Try.func101, Try.ntmps101
  go_wp2_with fail
  rw [← HW0.out]
  clear hw0
  refine (pvalid _ _ _ _ _ _ _ _ _ _ _ (hx.below hb1) (ho.below hb1)).mono ?_
  rintro e w1 ⟨rfl, b1⟩
  rw [HV.out]
  obtain ⟨k0, k1, k2, k3, _⟩ := (hB0.kept b1 (by omega)).cells
  go_wp2_with fail
  refine (HREACH.out _ (hx.below (bt hb1 b1)) (ho.below (bt hb1 b1))).mono ?_
  rintro e w2 ⟨A1, c1, rfl, ho1, b2⟩
  have b2 := bt b1 b2
  have hz2 := b2.size
  obtain ⟨k0, k1, k2, k3, _⟩ := (hB0.kept b2 (by omega)).cells
  have hI1 := Lib.hid (Owned.ints ho1 (by rw [zs_len]; omega))
  clear ho1
  go_wp2_with (refine wpList_make_ints _ rfl _ _ rfl .i64 .i64 n rfl rfl hn ?_; intro w3 ho3 b3)
  obtain ⟨gn, hgn0⟩ : ∃ gn, gn = w2.heap.size := ⟨_, rfl⟩
  rw [← hgn0] at ho3 b3 hz2 ⊢
  have HG := Lib.hid hgn0
  have HO3 := Lib.hid ho3
  have HB3 := Lib.hid b3
  clear hgn0 k0 k1 k2 k3 b1 ho3 b3
  go_loopw [28] (fun kv wr => ∃ (k : Nat) (num : List Int), k ≤ R.length ∧ kv = .int .i64 k ∧ Owned wr gn (.slice (some ⟨gn, 0, none⟩) n n) num ∧ num.length = n ∧ (∀ j, j < k → num.getD (R.getD j 0) 0 = (j : Int)) ∧ Below gn w2 wr) (fun kv _ => R.length - (intOf kv).toNat)
  case atStart => exact ⟨0, List.replicate n 0, Nat.zero_le _, rfl, HO3.out, by simp, fun j h => absurd h (by omega), HB3.out⟩
  case round =>
    obtain ⟨k, num, hk, rfl, ho, hnl, hat, hbr2⟩ := hrel
    have hI : Ints wr A1 R.length (zs R) := hI1.out.below (by rw [← HG.out]; exact hbr2)
    have HAT := Lib.hid hat
    have HNL := Lib.hid hnl
    clear hat hnl
    by_cases hlt : k < R.length
    · obtain ⟨b1, o1, rfl, hb1, hc1⟩ := hI.at_ hlt
      rw [zs_at] at hc1
      have hs : R.getD k 0 < n := hRs.2 _ (getD_mem hlt)
      have hnd := Lib.hid (show ∀ j, j < k → R.getD j 0 ≠ R.getD k 0 from fun j hj e => by
        have h1 := ixN_of hRs.1 (show j < R.length by omega)
        have h2 := ixN_of hRs.1 hlt
        rw [e] at h1
        omega)
      have hs1 := ho.stored (R.getD k 0) (k : Int)
      have hw := ho.ints (by rw [HNL.out]; exact hn)
      obtain ⟨bq, oq, eq, hbq, hcq⟩ := hw.at_ hs
      cases eq
      obtain ⟨gq, eg, _, _, hfz⟩ := ho.head (by omega)
      cases eg
      have hfz' := hfz (R.getD k 0)
      have hset := Lib.hid (show ∀ j, j < k + 1 → (num.set (R.getD k 0) (k : Int)).getD (R.getD j 0) 0 = (j : Int) from fun j hj => by
        by_cases e : j = k
        · subst e
          rw [List.getD_eq_getElem?_getD, List.getElem?_set, if_pos rfl, if_pos (by rw [HNL.out]; exact hs)]; rfl
        · rw [List.getD_eq_getElem?_getD, List.getElem?_set, if_neg (fun e2 => hnd.out j (by omega) e2.symm), ← List.getD_eq_getElem?_getD]
          exact HAT.out j (by omega))
      have hbs := Lib.hid (hbr2.setCell (p := ⟨gn, R.getD k 0, none⟩) (Nat.le_refl _) (.int .i64 k))
      have HS1 := Lib.hid hs1
      rw [Nat.zero_add] at hcq
      generalize R.getD k 0 = s at hc1 hs hs1 hcq hfz' hset hbs HS1
      clear hfz hw hs1 hI ho hbr2 HAT hnd
      go_wp2
      go_roundw
      case rel => exact ⟨k + 1, num.set s k, by omega, by go_num, HS1.out, by rw [List.length_set, HNL.out], hset.out, hbs.out⟩
      case measure => simp [intOf]; omega
    · obtain rfl : k = R.length := by omega
      have hidx := Lib.hid (show ∀ x, x ∈ R → num.getD x 0 = ((ixN R x : Nat) : Int) from fun x hx => by
        have := HAT.out (ixN R x) (ixN_lt hx)
        rw [ixN_at hx] at this
        exact this)
      have hbr := b2.trans (hbr2.mono (by rw [HG.out]; exact b2.size))
      have hNum := Lib.hid (Owned.ints ho (by rw [HNL.out]; exact hn))
      obtain ⟨k0, k1, k2, k3, _⟩ := (hB0.kept hbr (by omega)).cells
      clear ho HAT HO3 HB3
      have hzr := hbr.size
      obtain ⟨gT, hgT⟩ : ∃ gT, gT = wr.heap.size := ⟨_, rfl⟩
      obtain ⟨wo, rfl⟩ : ∃ wo : World, wo = wr := ⟨_, rfl⟩
      have HT := Lib.hid hgT
      obtain ⟨w4, hw4⟩ : ∃ w4, w4 = wo.alloc (.cells #[.int .i64 i, .int .i64 0, .slice none 0 0, .slice none 0 0] 58) := ⟨_, rfl⟩
      have hbl4 : Below wo.heap.size wo w4 := by rw [hw4]; exact alloc_below _ _
      have hT4 : Mblk w4 gT (.int .i64 i) (.int .i64 0) (.slice none 0 0) (.slice none 0 0) := by rw [hw4, hgT]; exact heap_alloc_new _ _
      have b4 := hbr.trans (hbl4.mono hzr)
      have hIo := Lib.hid hI
      rw [← hgT] at hzr hbl4
      have H4 := Lib.hid hw4
      have HL4 := Lib.hid hbl4
      have hbr0 := hbr
      clear hgT hI hbr hbl4
      go_wp2
      rw [← H4.out]
      clear hw4
      try rw [← HT.out]
      clear k0 k1 k2 k3
      have HT4 := Lib.hid hT4
      have HB4 := Lib.hid b4
      have hzr2 : w.heap.size < gT := by omega
      have HBX := Lib.hid (hB0.kept hbr0 (by omega))
      have HRX := Lib.hid (hR0.kept hbr0 (by omega))
      have HBW := Lib.hid (hb1.trans (hbr0.mono (by omega)))
      clear hT4 b4 H4 hbr0
      go_loopw [43] (fun kv wr => ∃ (k : Nat) (AN AO : Option Addr) (cN cO : Nat), k ≤ R.length ∧ kv = .int .i64 k ∧ Below gT wo wr ∧ Mblk wr gT (.int .i64 i) (.int .i64 0) (.slice AN k cN) (.slice AO k cO) ∧
        OwnedL wr gT (.slice AN k cN) ((R.take k).map (trR nx i R)) ∧ OwnedL wr gT (.slice AO k cO) ((R.take k).map fun s => ot.getD s []) ∧ Apart (.slice AN k cN) (.slice AO k cO)) (fun kv _ => R.length - (intOf kv).toNat)
      case atStart => exact ⟨0, none, none, 0, 0, Nat.zero_le _, rfl, HL4.out, HT4.out, OwnedL.nil _ _, OwnedL.nil _ _, Apart.nil _⟩
      case round =>
        obtain ⟨k, AN, AO, cN, cO, hk, rfl, hbr, hT, hLN, hLO, hap⟩ := hrel
        have hbo := HB4.out
        have hzo : gT + 1 ≤ wr.heap.size := heap_lt hT
        have hbw0 : Below gT wo wr := hbr
        have hbox := (HBX.out.kept hbr hzr2).cells
        obtain ⟨k0, k1, k2, k3, _⟩ := hbox
        have hbW : Below w.heap.size w wr := HBW.out.trans (hbr.mono (by omega))
        have hI : Ints wr A1 R.length (zs R) := hIo.out.below (by rw [← HT.out]; exact hbr)
        have hNm := Lib.hid (hNum.out.below (show Below wo.heap.size wo wr by rw [← HT.out]; exact hbr))
        have HTT := Lib.hid hT
        have HLN := Lib.hid hLN
        have HLO := Lib.hid hLO
        have HAP := Lib.hid hap
        have HBR := Lib.hid hbr
        clear hT hLN hLO hap hbo hbw0
        by_cases hlt : k < R.length
        · obtain ⟨b1, o1, rfl, hb1', hc1⟩ := hI.at_ hlt
          rw [zs_at] at hc1
          have hsR := getD_mem hlt
          have hs : R.getD k 0 < n := hRs.2 _ hsR
          have hTN := Lib.hid (map_take_succ (trR nx i R) R 0 hlt)
          have hTO := Lib.hid (map_take_succ (fun s => ot.getD s []) R 0 hlt)
          generalize R.getD k 0 = s at hc1 hs hsR hTN hTO
          obtain ⟨g1, p1, A3, n1, c3, rfl, hg1, hd1, hr1⟩ := hx.at_ hs
          obtain ⟨g2, p2, A4, n2, c4, rfl, hg2, hd2, hr2⟩ := hlo.out.at_ hs
          have hi1 := (hM.row s hs).1
          have hi2 := (hM.row s hs).2.1
          have hl1 := hr1.1
          have hl2 := hr2.1
          obtain rfl : n1 = i := by omega
          obtain rfl : n1 = n2 := by omega
          have e1 := (hbW.cell (p := ⟨g1, p1 + s, none⟩) hg1).trans hd1
          have hi64 := hM.i2
          clear hl1 hl2 hi2 hd1
          have HI1 := Lib.hid hi1
          clear hi1
          go_wp2_with fail
          refine (sclone _ _ _ _ _ (hr1.below hbW)).mono ?_
          rintro e w5 ⟨A5, c5, rfl, ho5, b5⟩
          have HO5 := Lib.hid ho5
          have HB5 := Lib.hid b5
          clear ho5 b5
          go_wp2
          obtain ⟨wc, rfl⟩ : ∃ wc : World, wc = wr := ⟨_, rfl⟩
          clear k0 k1 k2 k3 hc1 e1
          go_loopw [55] (fun av wq => ∃ a : Nat, a ≤ n1 ∧ av = .int .i64 a ∧ Owned wq wc.heap.size (.slice A5 n1 c5) (midR nx n1 R s a) ∧ Below wc.heap.size wc wq) (fun av _ => n1 - (intOf av).toNat)
          case atStart => exact ⟨0, Nat.zero_le _, rfl, by rw [midR_zero]; exact HO5.out, HB5.out⟩
          case round =>
            obtain ⟨a, ha, rfl, ho6, b6⟩ := hrel
            by_cases hla : a < n1
            · have hset := Lib.hid (midR_set (R := R) HI1.out hla)
              have hat := Lib.hid ((midR_at (nx := nx) (R := R) (s := s) hla).trans (hM.nN_eq hs hla))
              have hml := Lib.hid (midR_len (nx := nx) (R := R) (s := s) HI1.out (Nat.le_of_lt hla))
              have hmi : (midR nx n1 R s a).length ≤ 17592186044416 := by rw [hml.out]; omega
              obtain ⟨g5, e5, hg5, hg5', hfz5⟩ := ho6.head (by omega)
              subst e5
              obtain ⟨bq, oq, eq, hbq, hcq⟩ := (ho6.ints hmi).at_ hla
              cases eq
              rw [hat.out, Nat.zero_add] at hcq
              have ht := hM.nN_lt hs hla
              have hnum := hidx.out _ (hRc.out s a hsR hla)
              generalize nN nx s a = t at hcq ht hnum hset
              obtain ⟨bn, on, en, hbn, hcn⟩ := (hNm.out.below b6).at_ ht
              cases en
              rw [hnum, Nat.zero_add] at hcn
              have hst := ho6.stored a ((ixN R t : Nat) : Int)
              rw [hset.out] at hst
              have hbs := Lib.hid (b6.setCell (p := ⟨g5, a, none⟩) hg5 (.int .i64 ((ixN R t : Nat) : Int)))
              have HST := Lib.hid hst
              have hf := hfz5 a
              clear hst ho6 b6 hfz5 hnum
              generalize ((ixN R t : Nat) : Int) = tv at hcn hbs HST
              go_wp2
              go_roundw
              case rel => exact ⟨a + 1, by omega, by go_num, HST.out, hbs.out⟩
              case measure => simp [intOf]; omega
            · obtain rfl : a = n1 := by omega
              rw [midR_all HI1.out] at ho6
              have hTq := HTT.out.kept b6 (heap_lt HTT.out)
              obtain ⟨c0, c1', c2', c3', f0, f1, f2, f3⟩ := hTq.cells
              have hLq := HLN.out.kept b6
              have hLOq := HLO.out.kept b6
              have ho6 := ho6.lower (base' := gT) (by omega)
              have hzq := b6.size
              have hgq : gT ≤ wr.heap.size := by omega
              obtain ⟨AN2, cN2, w7, hrn, hLN7, b7, hk7, hkb7, hmv7⟩ := run_append_list hLq ho6 hgq (by rw [List.length_map, List.length_take]; omega)
              have hkl : ((R.take k).map (trR nx a R)).length = k := by rw [List.length_map, List.length_take]; omega
              rw [hkl] at hrn hLN7 hmv7
              rw [← hTN.out] at hLN7
              have hT7 := hTq.keptT (hk7 _ (by decide))
              obtain ⟨y0, y1, y2, y3, z0, z1, z2, z3⟩ := hT7.cells
              have hLO7 := hLOq.keptB hkb7 HAP.out (hk7 _ (by decide))
              have hAP7 := HAP.out.moved hmv7 hLOq
              have hb7 : Below gT wo w7 := HBR.out.trans ((b6.mono (by omega)).trans b7)
              have hw8 := fun (u : Value) => hb7.setCell (p := ⟨gT, 2, none⟩) (Nat.le_refl _) u
              have h81 := hT7.set2 (.slice AN2 (k + 1) cN2)
              have h82 := hLN7.offM (j := 2) hT7 (.slice AN2 (k + 1) cN2)
              have h83 := hLO7.offM (j := 2) hT7 (.slice AN2 (k + 1) cN2)
              have h84 := hw8 (.slice AN2 (k + 1) cN2)
              have e2 := (hbW.cell (p := ⟨g2, p2 + s, none⟩) hg2).trans hd2
              have HH := Lib.hid (And.intro h81 (And.intro h82 (And.intro h83 h84)))
              clear hT7 hLN7 hLO7 hb7 hw8 h81 h82 h83 h84 hTq hLq hLOq ho6 hk7 hkb7 hmv7 b7 b6 e2
              go_wp2_with (at_builtin; refine Lib.wpList_append_run _ rfl _ _ _ _ rfl _ _ rfl rfl _ _ hrn ?_)
              obtain ⟨h81, h82, h83, h84⟩ := HH.out
              generalize w7.setCell ⟨gT, 2, none⟩ (.slice AN2 (k + 1) cN2) = w8 at h81 h82 h83 h84 ⊢
              clear HH y0 y1 y2 y3 z0 z1 z2 z3 hrn c0 c1' c2' c3' f0 f1 f2 f3
              obtain ⟨c0, c1', c2', c3', f0, f1, f2, f3⟩ := h81.cells
              have hbox8 := HBX.out.kept h84 hzr2
              obtain ⟨k0, k1, k2, k3, _⟩ := hbox8.cells
              have hbW8 : Below w.heap.size w w8 := HBW.out.trans (h84.mono (by omega))
              have e2 := (hbW8.cell (p := ⟨g2, p2 + s, none⟩) hg2).trans hd2
              have hg8 : gT < w8.heap.size := heap_lt h81
              have H81 := Lib.hid h81
              have H82 := Lib.hid h82
              have H83 := Lib.hid h83
              have H84 := Lib.hid h84
              have HAP7 := Lib.hid hAP7
              clear h81 h82 h83 h84 hAP7
              go_region_law (first
                | (refine step_append_run rfl _ _ _ _ rfl _ _ rfl rfl _ _ (HF.out 0).1 ?_)
                | (go_simp; go_at_call 108; refine (sclone _ _ _ _ _ (hr2.below (below_drewN hbW8 _))).mono ?_; rintro e w9 ⟨A9, c9, rfl, ho9, b9⟩; obtain ⟨hT9, F, hF⟩ := trim_step H84.out H81.out H82.out H83.out HAP7.out _ b9 ho9 (by omega) hg8; obtain ⟨c0, c1', c2', c3', f0, f1, f2, f3⟩ := hT9.cells; have ca := ((alloc_below w9 (.cells #[.slice A9 a c9] 26)).cell (p := ⟨gT, 3, none⟩) (heap_lt hT9)).trans c3'; have HF := Lib.hid hF; have cF := fun q => (hF q).2.1.cells.2.2.2.1; have fF := fun q => (hF q).2.1.cells.2.2.2.2.2.2.2; clear hT9 hF ho9 b9))
              all_goals
                go_wp2
                go_roundw
                case rel => exact ⟨k + 1, AN2, (F 0).1.1, cN2, (F 0).1.2, by omega, by go_num, (HF.out 0).2.2.2.2.2.setCell (p := ⟨gT, 3, none⟩) (Nat.le_refl _) _, (HF.out 0).2.1.set3 _, (HF.out 0).2.2.1.offM (HF.out 0).2.1 _, by rw [hTO.out]; exact (HF.out 0).2.2.2.1.offM (HF.out 0).2.1 _, (HF.out 0).2.2.2.2.1⟩
                case measure => simp [intOf]; omega
        · obtain rfl : k = R.length := by omega
          obtain ⟨c0, c1', c2', c3', _⟩ := HTT.out.cells
          have hRr := HRX.out.kept HBR.out (by omega)
          obtain ⟨y0, y1, y2, y3, z0, z1, z2, z3⟩ := hRr.cells
          have hN9 := HLN.out
          have hO9 := HLO.out
          rw [List.take_length] at hN9 hO9
          have hl : ∀ k, w.heap.size ≤ (⟨w.heap.size + 1, k, none⟩ : Addr).block := fun k => Nat.le_succ _
          have hfb := Lib.hid (((((hbW.setCell (hl 0) (.int .i64 i)).setCell (hl 1) (.int .i64 0)).setCell (hl 2) (.slice AN R.length cN)).setCell (hl 3) (.slice AO R.length cO)))
          have hR4 := Lib.hid (hRr.set4 (.int .i64 i) (.int .i64 0) (.slice AN R.length cN) (.slice AO R.length cO))
          have hq1 := hRr
          have hq2 : Mblk (wr.setCell ⟨w.heap.size + 1, 0, none⟩ (.int .i64 i)) (w.heap.size + 1) _ _ _ _ := heap_setCell_same wr _ 0 _ _ _ hq1
          have hq3 : Mblk ((wr.setCell ⟨w.heap.size + 1, 0, none⟩ (.int .i64 i)).setCell ⟨w.heap.size + 1, 1, none⟩ (.int .i64 0)) (w.heap.size + 1) _ _ _ _ := heap_setCell_same _ _ 1 _ _ _ hq2
          have hq4 : Mblk (((wr.setCell ⟨w.heap.size + 1, 0, none⟩ (.int .i64 i)).setCell ⟨w.heap.size + 1, 1, none⟩ (.int .i64 0)).setCell ⟨w.heap.size + 1, 2, none⟩ (.slice AN R.length cN)) (w.heap.size + 1) _ _ _ _ := heap_setCell_same _ _ 2 _ _ _ hq3
          have hN10 := Lib.hid (((((hN9.offM hq1 (.int .i64 i) (j := 0)).offM hq2 (.int .i64 0) (j := 1)).offM hq3 (.slice AN R.length cN) (j := 2)).offM hq4 (.slice AO R.length cO) (j := 3)).lower (base' := w.heap.size) (by omega))
          have hO10 := Lib.hid (((((hO9.offM hq1 (.int .i64 i) (j := 0)).offM hq2 (.int .i64 0) (j := 1)).offM hq3 (.slice AN R.length cN) (j := 2)).offM hq4 (.slice AO R.length cO) (j := 3)).lower (base' := w.heap.size) (by omega))
          clear hRr hq1 hq2 hq3 hq4 hN9 hO9 hl hbW
          go_wp2
          (try simp only [Exit.inBlock, Exit.then])
          refine bodyPost_ret (results_mealy rfl _ _ (w.heap.size + 1) _ _ _ _ rfl hR4.out) rfl ?_
          exact ⟨AN, cN, AO, cO, rfl, hN10.out, hO10.out, hfb.out⟩
end Go.Proofs.Ytnifjagjcoegaaa
end

section
/- A map of the call's own that numbers keys: the numbers are the places in a list of different keys. -/
namespace Go.Proofs.Ytnifjagjcoegaaa
open Go.RowKit
open Go.Maps (Keyed)

theorem laidOutB_ : laidOutB Try.prog = true := by kernel_rfl

/-- What a type of maps from keys to ints asks. -/
structure KeyT (t k : TypeId) : Prop where
  und : Try.prog.underlying t = some (.map k 3)
  law : Keyed Try.prog k

/-- A key: ints in a row. -/
def kv (x : List Int) : Value := .agg (x.map (Value.int .i64)).toArray
theorem map_int_inj : ∀ {x y : List Int}, x.map (Value.int .i64) = y.map (Value.int .i64) → x = y
  | [], [], _ => rfl
  | [], _ :: _, h => by simp at h
  | _ :: _, [], h => by simp at h
  | a :: x, b :: y, h => by
    simp only [List.map_cons, List.cons.injEq, Value.int.injEq, true_and] at h
    rw [h.1, map_int_inj h.2]
theorem kv_inj {x y : List Int} (h : kv x = kv y) : x = y := by
  unfold kv at h
  simp only [Value.agg.injEq] at h
  exact map_int_inj (by simpa using congrArg Array.toList h)
/-- What is a key. -/
def IsK (k : TypeId) (x : List Int) : Prop := ∃ l, keyOf Try.prog k (kv x) = some l

/-- Block b of w is a map from the keys ks to their places in ks. -/
def NumIs (k : TypeId) (w : World) (b : Nat) (ks : List (List Int)) : Prop :=
  ks.Nodup ∧ (∀ v, v ∈ ks → IsK k v) ∧ ks.length ≤ 17592186044416 ∧ ∃ D : DataW Unit, w.ownsMap Try.prog k (plainElem Try.prog 3) b ks.length D ∧ Maps.Tidy D ∧ Maps.size D = ks.length ∧
    ∀ v l, keyOf Try.prog k (kv v) = some l → Maps.has D l = decide (v ∈ ks) ∧ (v ∈ ks → ∀ z, D.atKey l z = .lit (.int .i64 (ks.idxOf v : Nat)))
theorem plainElem_i64 {a : Nat} (h : a ≤ 17592186044416) : plainElem (H := Unit) Try.prog 3 (.int .i64 a) = some (.lit (.int .i64 a), []) :=
  plainElem_int Try.underlying3 (by unfold Lit.wf; simp; have h1 : IntKind.i64.min = -9223372036854775808 := by decide
                                    have h2 : IntKind.i64.max = 9223372036854775807 := by decide
                                    omega)
theorem NumIs.made (k : TypeId) (w : World) : NumIs k (w.alloc (.map #[] 0)) w.heap.size [] := by
  refine ⟨by simp, by simp, by simp, .map [], World.ownsMap_made (H := Unit) w Try.prog k _, Maps.tidy_empty, rfl, fun v l h => ⟨rfl, by simp⟩⟩
theorem NumIs.kept {k : TypeId} {w w' : World} {b : Nat} {ks : List (List Int)} {r : Option Nat} (h : NumIs k w b ks) (hg : w.grownBy w' r) (hne : some b ≠ r) : NumIs k w' b ks := by
  obtain ⟨h1, h2, h3, D, h4, h5⟩ := h
  exact ⟨h1, h2, h3, D, h4.kept hg hne, h5⟩
theorem NumIs.lt {k : TypeId} {w : World} {b : Nat} {ks : List (List Int)} (h : NumIs k w b ks) : b < w.heap.size := by
  obtain ⟨h1, h2, h3, D, h4, h5⟩ := h
  exact h4.lt
theorem NumIs.block {k : TypeId} {w : World} {b : Nat} {ks : List (List Int)} (h : NumIs k w b ks) : ∃ es ck, w.heap[b]? = some (.map es ck) := by
  obtain ⟨_, _, _, D, ⟨es, ck, h1, _⟩, _⟩ := h
  exact ⟨es, ck, h1⟩
theorem NumIs.at_ {k : TypeId} {w w' : World} {b : Nat} {ks : List (List Int)} (h : NumIs k w b ks) (hb : w'.heap[b]? = w.heap[b]?) : NumIs k w' b ks := by
  obtain ⟨h1, h2, h3, D, ⟨es, ck, h4, h6⟩, h5⟩ := h
  exact ⟨h1, h2, h3, D, ⟨es, ck, hb.trans h4, h6⟩, h5⟩
theorem NumIs.below {k : TypeId} {w w' : World} {b B : Nat} {ks : List (List Int)} (h : NumIs k w b ks) (hb : Below B w w') (hB : b < B) : NumIs k w' b ks := h.at_ (hb.block b hB)
theorem NumIs.drewN {k : TypeId} {w : World} {b : Nat} {ks : List (List Int)} (h : NumIs k w b ks) (q : Nat) : NumIs k (w.drewN q) b ks := h.at_ rfl
theorem NumIs.setCell {k : TypeId} {w : World} {b : Nat} {ks : List (List Int)} (h : NumIs k w b ks) {a : Addr} (ha : b ≠ a.block) (u : Value) : NumIs k (w.setCell a u) b ks := by
  obtain ⟨h1, h2, h3, D, h4, h5⟩ := h
  exact ⟨h1, h2, h3, D, h4.setCell ha u, h5⟩
theorem NumIs.key {k : TypeId} {w : World} {b : Nat} {ks : List (List Int)} (h : NumIs k w b ks) {v : List Int} (hv : v ∈ ks) : IsK k v := h.2.1 v hv

/-- v, ok := m[key] at a key that is there, or not. -/
theorem NumIs.look_in {t k : TypeId} {w : World} {b : Nat} {ks : List (List Int)} (h : NumIs k w b ks) (T : KeyT t k) {v : List Int} (hv : v ∈ ks) :
    (Instr.lookup t (.map (some b)) (kv v) true).run Try.prog w = .ok (.tuple #[.int .i64 (ks.idxOf v : Nat), .bool true]) w := by
  obtain ⟨l, hl⟩ := h.key hv
  obtain ⟨h1, h2, h3, D, h4, h5, h6, h7⟩ := h
  obtain ⟨h8, h9⟩ := h7 v l hl
  obtain ⟨u, ps, hrun, hu⟩ := h4.look_ok T.law T.und (Try.zeroValue3 w) (plainElem_i64 (a := 0) (by omega)) hl
  rw [h9 hv] at hu
  obtain ⟨c, rfl, hc, _⟩ := plainElem_int_inv Try.underlying3 hu
  simp only [Prod.mk.injEq, DataW.lit.injEq, Lit.int.injEq, true_and] at hc
  rw [hrun, h8, decide_eq_true hv, ← hc.1]
theorem NumIs.look_out {t k : TypeId} {w : World} {b : Nat} {ks : List (List Int)} (h : NumIs k w b ks) (T : KeyT t k) {v : List Int} (hk : IsK k v) (hv : ¬ v ∈ ks) :
    (Instr.lookup t (.map (some b)) (kv v) true).run Try.prog w = .ok (.tuple #[.int .i64 0, .bool false]) w := by
  obtain ⟨l, hl⟩ := hk
  obtain ⟨h1, h2, h3, D, h4, h5, h6, h7⟩ := h
  obtain ⟨h8, h9⟩ := h7 v l hl
  obtain ⟨u, ps, hrun, hu⟩ := h4.look_ok T.law T.und (Try.zeroValue3 w) (plainElem_i64 (a := 0) (by omega)) hl
  rw [decide_eq_false hv] at h8
  rw [Maps.atKey_of_not_has h8] at hu
  obtain ⟨c, rfl, hc, _⟩ := plainElem_int_inv Try.underlying3 hu
  simp only [Prod.mk.injEq, DataW.lit.injEq, Lit.int.injEq, true_and] at hc
  rw [hrun, h8, ← hc.1]; rfl
theorem NumIs.len {t k : TypeId} {w : World} {b : Nat} {ks : List (List Int)} (h : NumIs k w b ks) (T : KeyT t k) (ty : TypeId) : (Builtin.len_ #[t] ty #[.map (some b)]).run Try.prog w = .ok (.int .i64 (ks.length : Nat)) w := by
  obtain ⟨h1, h2, h3, D, h4, h5, h6, h7⟩ := h
  rw [h4.len T.und ty, h6]
/-- m[key] = len(m) at a key that is not there. -/
theorem NumIs.put {t k : TypeId} {w : World} {b : Nat} {ks : List (List Int)} (h : NumIs k w b ks) (T : KeyT t k) {v : List Int} (hk : IsK k v) (hv : ¬ v ∈ ks) (hn : ks.length < 17592186044416) :
    ∃ w', (Instr.mapUpdate t (.map (some b)) (kv v) (.int .i64 (ks.length : Nat))).run Try.prog w = .ok () w' ∧ NumIs k w' b (ks ++ [v]) ∧ w.grownBy w' (some b) := by
  obtain ⟨l, hl⟩ := hk
  obtain ⟨h1, h2, h3, D, h4, h5, h6, h7⟩ := h
  obtain ⟨h8, _⟩ := h7 v l hl
  rw [decide_eq_false hv] at h8
  obtain ⟨w', hrun, h9, h10⟩ := h4.update T.law T.und (by unfold maxLen; omega) hl (plainElem_i64 (a := ks.length) (by omega))
  refine ⟨w', hrun, ⟨?_, ?_, ?_, _, by rw [List.length_append]; exact h9, h5.put (T.law.key hl) _, ?_, fun u lu hu => ?_⟩, h10⟩
  · refine List.nodup_append.2 ⟨h1, by simp, fun a ha c hc => ?_⟩
    simp at hc; subst hc; intro e; subst e; exact hv ha
  · intro u hu
    rcases List.mem_append.1 hu with hu | hu
    · exact h2 u hu
    · simp at hu; subst hu; exact ⟨l, hl⟩
  · rw [List.length_append]; simp; omega
  · rw [Maps.size_put h5, h8, h6, List.length_append]; rfl
  · by_cases e : u = v
    · subst e
      have : lu = l := by rw [hl] at hu; exact (Option.some.inj hu).symm
      subst this
      refine ⟨by rw [Maps.has_put_same h5.isMap (T.law.key hl)]; simp, fun _ z => ?_⟩
      rw [Maps.atKey_put_same h5.isMap (T.law.key hl), List.idxOf_append, if_neg hv]
      simp
    · have hne : lu ≠ l := fun H => e (kv_inj (T.law.inj hu (H ▸ hl)))
      obtain ⟨h11, h12⟩ := h7 u lu hu
      refine ⟨by rw [Maps.has_put_other hne, h11]; simp [e], fun hm z => ?_⟩
      have hm : u ∈ ks := by
        rcases List.mem_append.1 hm with hm | hm
        · exact hm
        · simp at hm; exact absurd hm e
      rw [Maps.atKey_put_other hne, h12 hm, List.idxOf_append, if_pos hm]

theorem mapM_some {α β : Type} {f : α → Option β} : ∀ {l : List α}, (∀ x, x ∈ l → ∃ y, f x = some y) → ∃ ys, l.mapM f = some ys
  | [], _ => ⟨[], rfl⟩
  | x :: l, h => by
    obtain ⟨y, hy⟩ := h x (by simp)
    obtain ⟨ys, hys⟩ := mapM_some (l := l) fun z hz => h z (by simp [hz])
    exact ⟨y :: ys, by rw [List.mapM_cons, hy, hys]; rfl⟩
theorem keyLits_arr {t e : TypeId} {n D : Nat} {cs : List Value} (hu : Try.prog.underlying t = some (.array n e)) (hl : cs.length = Try.prog.cellsOf t)
    (h : ∀ i, i < n → ∃ l, Try.prog.keyLits D e ((cs.drop (i * Try.prog.cellsOf e)).take (Try.prog.cellsOf e)) = some l) : ∃ l, Try.prog.keyLits (D + 1) t cs = some l := by
  obtain ⟨ys, hys⟩ := mapM_some (f := fun i => Try.prog.keyLits D e ((cs.drop (i * Try.prog.cellsOf e)).take (Try.prog.cellsOf e))) (l := List.range n) fun i hi => h i (by simpa using hi)
  refine ⟨ys.flatten, ?_⟩
  unfold Program.keyLits
  rw [hu]
  simp only [if_pos hl]
  rw [hys]; rfl
/-- A number that an int holds. -/
def I64 (a : Int) : Prop := (Lit.int .i64 a).wf = true
theorem I64.mk {a : Int} (h1 : -9223372036854775808 ≤ a) (h2 : a ≤ 9223372036854775807) : I64 a := by
  unfold I64 Lit.wf
  have h3 : IntKind.i64.min = -9223372036854775808 := by decide
  have h4 : IntKind.i64.max = 9223372036854775807 := by decide
  simp
  omega
theorem keyLits_int {D : Nat} {a : Int} (h : I64 a) : ∃ l, Try.prog.keyLits (D + 1) 3 [.int .i64 a] = some l := by
  refine ⟨[.int .i64 a], ?_⟩
  unfold Program.keyLits
  rw [Try.underlying3]
  have h : (Lit.int .i64 a).wf = true := h
  simp [h]
/-- An array of n pairs of ints. -/
theorem keyOf_arr {t e : TypeId} {n : Nat} (hu : Try.prog.underlying t = some (.array n e)) (hc : ∀ x : List Int, x.length = Try.prog.cellsOf t → (∀ a, a ∈ x → I64 a) → ∃ l, Try.prog.keyLits (Try.prog.types.size + 1) t (x.map (Value.int .i64)) = some l)
    (hk : Try.prog.keyType t = true) {x : List Int} (hl : x.length = Try.prog.cellsOf t) (hx : ∀ a, a ∈ x → I64 a) : IsK t x := by
  obtain ⟨l, h⟩ := hc x hl hx
  refine ⟨.string (keyBytes l), ?_⟩
  unfold keyOf kv
  rw [hu]
  have hf : (Value.agg ((x.map (Value.int .i64)).toArray)).formed Try.prog t = true := by
    unfold Value.formed
    rw [hu]
    simp [hl]
  simp only [hk, hf, Bool.and_self, if_true]
  have e : (Value.agg ((x.map (Value.int .i64)).toArray)).cells.toList = x.map (Value.int .i64) := by simp [Value.cells]
  rw [e, h]; rfl
theorem keyLits_row {t : TypeId} {n D : Nat} (hu : Try.prog.underlying t = some (.array n 3)) (hc : Try.prog.cellsOf t = n) {x : List Int} (hl : x.length = n) (hx : ∀ a, a ∈ x → I64 a) : ∃ l, Try.prog.keyLits (D + 2) t (x.map (Value.int .i64)) = some l := by
  refine keyLits_arr hu (by simp [hl, hc]) fun j hj => ?_
  have h1 : Try.prog.cellsOf 3 = 1 := by kernel_rfl
  rw [h1, Nat.mul_one]
  have hj : j < x.length := by omega
  have e : ((x.map (Value.int .i64)).drop j).take 1 = [.int .i64 x[j]] := by
    rw [← List.map_drop, List.drop_eq_getElem_cons hj]; rfl
  rw [e]
  exact keyLits_int (hx _ (List.getElem_mem hj))
end Go.Proofs.Ytnifjagjcoegaaa
end

section
/- The signature of a state. -/
namespace Go.Proofs.Ytnifjagjcoegaaa
open Go.RowKit

/-- A block that holds ints. -/
def Zblk (w : World) (g : Nat) (t : TypeId) (xs : List Int) : Prop := w.heap[g]? = some (.cells (xs.map (Value.int .i64)).toArray t (0, 0))
theorem Zblk.at_ {w : World} {g : Nat} {t : TypeId} {xs : List Int} (h : Zblk w g t xs) {j : Nat} (hj : j < xs.length) : w.cell? ⟨g, j, none⟩ = some (.int .i64 (xs.getD j 0)) ∧ w.frozen? ⟨g, j, none⟩ = false := by
  refine ⟨?_, frozen_of_row w g j _ _ h⟩
  rw [cell_of_row w g j _ _ (0, 0) h]
  simp [List.getD, hj]
theorem Zblk.set {w : World} {g : Nat} {t : TypeId} {xs : List Int} (h : Zblk w g t xs) (j : Nat) (x : Int) : Zblk (w.setCell ⟨g, j, none⟩ (.int .i64 x)) g t (xs.set j x) := by
  have := heap_setCell_same w g j _ _ (.int .i64 x) h
  unfold Zblk
  rw [this, List.map_set]
  simp
theorem Zblk.kept {w w' : World} {g : Nat} {t : TypeId} {xs : List Int} (h : Zblk w g t xs) {k : Nat} (hb : Below k w w') (hg : g < k) : Zblk w' g t xs := (hb.block g hg).trans h
theorem zero128 : Try.zeroCells164 = ((List.replicate 128 (0 : Int)).map (Value.int .i64)).toArray := by kernel_rfl
theorem Zblk.cells_ (g : Nat) (t : TypeId) : ∀ (ys xs pre : List Int) (w : World), Zblk w g t (pre ++ xs) → xs.length = ys.length → Zblk (w.setCells g pre.length (ys.map (Value.int .i64))) g t (pre ++ ys)
  | [], xs, pre, w, h, hl => by
    obtain rfl : xs = [] := List.eq_nil_of_length_eq_zero hl
    exact h
  | y :: ys, [], pre, w, h, hl => by simp at hl
  | y :: ys, x :: xs, pre, w, h, hl => by
    have h1 := h.set pre.length y
    rw [List.set_append_right _ _ (Nat.le_refl _), Nat.sub_self, List.set_cons_zero] at h1
    have h2 := Zblk.cells_ g t ys xs (pre ++ [y]) _ (by simpa using h1) (by simpa using hl)
    rw [List.length_append, List.append_assoc] at h2
    exact h2
theorem Zblk.whole {w : World} {g : Nat} {t : TypeId} {xs : List Int} (h : Zblk w g t xs) (ys : List Int) (hl : xs.length = ys.length) : Zblk (w.setCells g 0 (ys.map (Value.int .i64))) g t ys := Zblk.cells_ g t ys xs [] w h hl
theorem below_setCells (B g : Nat) (hB : B ≤ g) : ∀ (vs : List Value) (o : Nat) (w : World), Below B w (w.setCells g o vs)
  | [], _, _ => Below.refl _ _
  | v :: vs, o, w => ((Below.refl B w).setCell (p := ⟨g, o, none⟩) hB v).trans (below_setCells B g hB vs (o + 1) _)
theorem Zblk.there {w : World} {g : Nat} {t : TypeId} {xs : List Int} (h : Zblk w g t xs) (n : Nat) (hn : xs.length = n) : w.there g 0 n := fun j hj => by
  obtain ⟨h1, h2⟩ := h.at_ (j := j) (by omega)
  rw [Nat.zero_add, h1]
  exact ⟨rfl, h2⟩
end Go.Proofs.Ytnifjagjcoegaaa
end

section
/- The reference's refinement: the walk. -/
namespace Go.Proofs.Ytnifjagjcoegaaa
open Go.RowKit

set_option maxHeartbeats 4000000 in
set_option maxRecDepth 100000 in
theorem rfiner (i st n : Nat) (A B C : Option Addr) (c d cc : Nat) (nx ot : List (List Int)) (cl : List Nat) (w : World) (hx : Lists w A n nx) (ho : Lists w B n ot) (hM : Mok i st n nx ot) (hc : Ints w C n (zs cl)) :
    Calls Try.prog 100 #[.agg #[.int .i64 i, .int .i64 st, .slice A n c, .slice B n d], .slice C n cc] w fun e w' => ∃ A' c', e = .returned (.slice A' n c') ∧ Owned w' w.heap.size (.slice A' n c') (zs (num (rkey nx ot cl i) n)) ∧ Below w.heap.size w w' := by
  have hn := hx.2.1
  have hn2 := hM.n2
  have hn1 := hM.n1
  have hi64 := hM.i2
  have hlo := Lib.hid ho
  obtain ⟨g0, hg⟩ : ∃ g, g = w.heap.size := ⟨_, rfl⟩
  obtain ⟨w1, hw1⟩ : ∃ w1, w1 = w.alloc (.cells #[.int .i64 i, .int .i64 st, .slice A n c, .slice B n d] 58) := ⟨_, rfl⟩
  have hb1 : Below w.heap.size w w1 := by rw [hw1]; exact alloc_below _ _
  have hz1 : w1.heap.size = g0 + 1 := by rw [hw1, hg]; simp
  have hB1 : Mblk w1 g0 (.int .i64 i) (.int .i64 st) (.slice A n c) (.slice B n d) := by rw [hw1, hg]; exact heap_alloc_new _ _
  have HW := Lib.hid hw1
  have HG := Lib.hid hg
  have HB1 := Lib.hid hB1
  have HZ1 := Lib.hid hz1
  obtain ⟨g, hgd⟩ : ∃ g : Nat → List Int, g = rkey nx ot cl i := ⟨_, rfl⟩
  have HKY := Lib.hid (show ∀ s t, g s = g t ↔ smB nx ot cl s t i = true from fun s t => by rw [hgd]; exact rkey_iff hi64)
  rw [← hgd]
  clear hw1 hz1 hg hB1 hgd
  go_enter Try.func100, Try.ntmps100
  go_wp2
  rw [← HW.out]
  try rw [← HG.out]
  go_loopw [5, 6, 7] (fun v5 v6 v7 wr => ∃ (s : Nat) (A' : Option Addr) (c' : Nat), s ≤ n ∧ v7 = .int .i64 s ∧ v6 = .int .i64 ((grp g s).length : Nat) ∧ v5 = .slice A' s c' ∧ Owned wr (g0 + 1) (.slice A' s c') (zs (num g s)) ∧ Below (g0 + 1) w1 wr) (fun _ _ v7 _ => n - (intOf v7).toNat)
  case atStart => exact ⟨0, none, 0, Nat.zero_le _, rfl, rfl, rfl, Owned.nil _ _, Below.refl _ _⟩
  case round =>
    obtain ⟨s, A', c', hs, rfl, rfl, rfl, hO, hbr⟩ := hrel
    have hbW : Below w.heap.size w wr := hb1.trans (hbr.mono (by rw [← HG.out]; omega))
    have hzr := hbr.size
    rw [HZ1.out] at hzr
    have hbox := HB1.out.kept hbr (show g0 < g0 + 1 by omega)
    have HBX := Lib.hid hbox
    have HO := Lib.hid hO
    have HBR := Lib.hid hbr
    have hcnt := grp_len g s
    clear hO hbr hbox
    by_cases hlt : s < n
    · go_wp2
      obtain ⟨wo, hwo⟩ : ∃ wo : World, wo = wr := ⟨_, rfl⟩
      rw [← hwo] at HO HBR HBX hbW hzr ⊢
      clear hwo
      go_loopw [8, 9] (fun v8 v9 wq => ∃ (t : Nat) (v : Int), t ≤ s ∧ v9 = .int .i64 ((t : Int) - 1) ∧ v8 = .int .i64 v ∧ Fnd g s t v ∧ ∃ q, wq = wo.drewN q) (fun _ v9 _ => ((intOf v9) + 1).toNat)
      case atStart => exact ⟨s, -1, Nat.le_refl _, rfl, rfl, Fnd.start s, 0, rfl⟩
      case round =>
        obtain ⟨t, v, ht, rfl, rfl, hF, q, rfl⟩ := hrel
        have HFD := Lib.hid hF
        clear hF
        by_cases h0 : 0 < t
        · obtain ⟨t, rfl⟩ : ∃ t1, t = t1 + 1 := ⟨t - 1, by omega⟩
          rw [show ((t + 1 : Nat) : Int) - 1 = (t : Int) by omega]
          have hts : t < s := by omega
          have htn : t < n := by omega
          clear h0 ht
          obtain ⟨bs, os_, rfl, hbs, hcs⟩ := hc.at_ hlt
          obtain ⟨bt_, ot_, e, hbt, hct⟩ := hc.at_ htn
          cases e
          rw [zs_at] at hcs hct
          have hcs := (hbW.cell (p := ⟨bs, os_ + s, none⟩) hbs).trans hcs
          have hct := (hbW.cell (p := ⟨bs, os_ + t, none⟩) hbs).trans hct
          obtain ⟨b0, hb0⟩ : ∃ b0, b0 = smB nx ot cl s t 0 := ⟨_, rfl⟩
          have hxy : (((cl.getD s 0 : Nat) : Int) == ((cl.getD t 0 : Nat) : Int)) = b0 := by
            rw [hb0]; unfold smB
            by_cases e : cl.getD s 0 = cl.getD t 0
            · rw [e]; simp
            · rw [decide_eq_false e, beq_eq_false_iff_ne]; omega
          have HB0 := Lib.hid hb0
          generalize ((cl.getD s 0 : Nat) : Int) = x at hcs hxy
          generalize ((cl.getD t 0 : Nat) : Int) = y at hct hxy
          have i1 : (0 : Int) ≤ (s : Int) := by omega
          have i2 : (s : Int) < (n : Int) := by omega
          have i3 : (0 : Int) ≤ (t : Int) := by omega
          have i4 : (t : Int) < (n : Int) := by omega
          clear hb0 hbt
          go_wp2
          go_quiet (fail)
          go_wp2
          clear hxy hcs hct
          go_loopw [10, 11] (fun v10 v11 wq => ∃ (a : Nat) (b : Bool), a ≤ i ∧ v11 = .int .i64 a ∧ v10 = .bool b ∧ b = smB nx ot cl s t a ∧ ∃ q, wq = wo.drewN q) (fun _ v11 _ => i - (intOf v11).toNat)
          case atStart => exact ⟨0, _, Nat.zero_le _, rfl, rfl, HB0.out, by first | exact ⟨_, rfl⟩ | exact ⟨_, World.drewN_drewN _ _ _⟩⟩
          case round =>
            obtain ⟨a, b, ha, rfl, rfl, hb, q2, rfl⟩ := hrel
            have HB := Lib.hid hb
            clear hb
            obtain ⟨k0, k1, k2, k3, _⟩ := HBX.out.cells
            cases b
            · have HM := Lib.hid (HFD.out.miss (fun e => by have h1 := (HKY.out s t).1 e.symm; rw [smB_false HB.out.symm ha] at h1; cases h1))
              have hia : (a : Int) ≤ (i : Int) := by omega
              clear HFD
              by_cases hla : a < i
              all_goals
                go_wp2
                go_roundw
                case rel => exact ⟨t, v, by omega, rfl, rfl, HM.out, _, rfl⟩
                case measure => simp [intOf]
            · by_cases hla : a < i
              · obtain ⟨g2, o2, eA2, n2, c2, rfl, hg2, hd2, hr2⟩ := hlo.out.at_ hlt
                obtain ⟨g2', o2', eA3, n3, c3, e, _, hd3, hr3⟩ := hlo.out.at_ htn
                cases e
                obtain ⟨g1, o1, eA4, n4, c4, rfl, hg1, hd4, hr4⟩ := hx.at_ hlt
                obtain ⟨g1', o1', eA5, n5, c5, e, _, hd5, hr5⟩ := hx.at_ htn
                cases e
                have l2 := hr2.1
                have l3 := hr3.1
                have l4 := hr4.1
                have l5 := hr5.1
                have m2 := (hM.row s hlt).2.1
                have m3 := (hM.row t htn).2.1
                have m4 := (hM.row s hlt).1
                have m5 := (hM.row t htn).1
                obtain rfl : n2 = i := by omega
                obtain rfl : n3 = n2 := by omega
                obtain rfl : n4 = n3 := by omega
                obtain rfl : n5 = n4 := by omega
                clear l2 l3 l4 l5 m2 m3 m4 m5
                obtain ⟨b2, p2, rfl, hb2, hv2⟩ := hr2.at_ hla
                obtain ⟨b3, p3, rfl, hb3, hv3⟩ := hr3.at_ hla
                obtain ⟨b4, p4, rfl, hb4, hv4⟩ := hr4.at_ hla
                obtain ⟨b5, p5, rfl, hb5, hv5⟩ := hr5.at_ hla
                rw [hM.nN_eq hlt hla] at hv4
                rw [hM.nN_eq htn hla] at hv5
                have q1 := hM.nN_lt hlt hla
                have q3 := hM.nN_lt htn hla
                obtain ⟨bq, oq, e, hbq, hv6⟩ := hc.at_ q1
                cases e
                obtain ⟨bq, oq, e, _, hv7⟩ := hc.at_ q3
                cases e
                rw [zs_at] at hv6 hv7
                have tr : ∀ (gg oo : Nat) (u : Value), gg < w.heap.size → w.cell? ⟨gg, oo, none⟩ = some u → wo.cell? ⟨gg, oo, none⟩ = some u := fun gg oo u h h2 => (hbW.cell (p := ⟨gg, oo, none⟩) h).trans h2
                have hd2 := tr _ _ _ hg2 hd2
                have hd3 := tr _ _ _ hg2 hd3
                have hd4 := tr _ _ _ hg1 hd4
                have hd5 := tr _ _ _ hg1 hd5
                have hv2 := tr _ _ _ hb2 hv2
                have hv3 := tr _ _ _ hb3 hv3
                have hv4 := tr _ _ _ hb4 hv4
                have hv5 := tr _ _ _ hb5 hv5
                have hv6 := tr _ _ _ hbq hv6
                have hv7 := tr _ _ _ hbq hv7
                have r2 : (ot.getD s []).getD a 0 = oN ot s a := rfl
                have r3 : (ot.getD t []).getD a 0 = oN ot t a := rfl
                rw [r2] at hv2
                rw [r3] at hv3
                have j1 : (0 : Int) ≤ (a : Int) := by omega
                have j2 : (a : Int) < (n5 : Int) := by omega
                have j3 : (0 : Int) ≤ ((nN nx s a : Nat) : Int) := by omega
                have j4 : ((nN nx s a : Nat) : Int) < (n : Int) := by omega
                have j5 : (0 : Int) ≤ ((nN nx t a : Nat) : Int) := by omega
                have j6 : ((nN nx t a : Nat) : Int) < (n : Int) := by omega
                clear tr r2 r3 hb2 hb3 hb4 hb5 hg1 hg2
                by_cases ho1 : oN ot s a = oN ot t a
                · obtain ⟨b9, hb9⟩ : ∃ b9, b9 = smB nx ot cl s t (a + 1) := ⟨_, rfl⟩
                  have hxy : (((cl.getD (nN nx s a) 0 : Nat) : Int) == ((cl.getD (nN nx t a) 0 : Nat) : Int)) = b9 := by
                    rw [hb9]; unfold smB
                    rw [← HB.out, decide_eq_true ho1]
                    by_cases e : cl.getD (nN nx s a) 0 = cl.getD (nN nx t a) 0
                    · rw [e]; simp
                    · rw [decide_eq_false e, Bool.true_and, Bool.true_and, beq_eq_false_iff_ne]; omega
                  have HB9 := Lib.hid hb9
                  have hq : (oN ot s a == oN ot t a) = true := by simp [ho1]
                  clear hb9 ho1
                  generalize ((cl.getD (nN nx s a) 0 : Nat) : Int) = x at hv6 hxy
                  generalize ((cl.getD (nN nx t a) 0 : Nat) : Int) = y at hv7 hxy
                  generalize nN nx s a = u1 at hv4 hv6 q1 j3 j4
                  generalize nN nx t a = u2 at hv5 hv7 q3 j5 j6
                  generalize oN ot s a = z1 at hv2 hq
                  generalize oN ot t a = z2 at hv3 hq
                  go_wp2
                  go_quiet (fail)
                  go_wp2
                  go_roundw
                  case rel => exact ⟨a + 1, b9, by omega, by go_num, rfl, HB9.out, by first | exact ⟨_, rfl⟩ | exact ⟨_, World.drewN_drewN _ _ _⟩⟩
                  case measure => simp [intOf]; omega
                · have HB9 := Lib.hid (smB_no1 (nx := nx) (cl := cl) ho1)
                  have hq : (oN ot s a == oN ot t a) = false := by simp [ho1]
                  clear ho1
                  generalize nN nx s a = u1 at hv4 hv6 q1 j3 j4
                  generalize nN nx t a = u2 at hv5 hv7 q3 j5 j6
                  generalize oN ot s a = z1 at hv2 hq
                  generalize oN ot t a = z2 at hv3 hq
                  go_wp2
                  go_quiet (fail)
                  go_wp2
                  go_roundw
                  case rel => exact ⟨a + 1, false, by omega, by go_num, rfl, HB9.out.symm, by first | exact ⟨_, rfl⟩ | exact ⟨_, World.drewN_drewN _ _ _⟩⟩
                  case measure => simp [intOf]; omega
              · obtain rfl : a = i := by omega
                have hkk := (HKY.out s t).2 HB.out.symm
                have HM := Lib.hid (Fnd.hit hts hkk.symm)
                have hio := Owned.ints HO.out (by rw [zs_len, num_len]; omega)
                obtain ⟨b9, o9, rfl, hb9, hc9⟩ := hio.at_ hts
                rw [zs_at, num_at g hts] at hc9
                clear hkk hio
                generalize ((nmb g t : Nat) : Int) = y at hc9 HM
                go_wp2
                go_roundw
                case rel => exact ⟨t, y, by omega, rfl, rfl, HM.out, _, rfl⟩
                case measure => simp [intOf]
        · obtain rfl : t = 0 := by omega
          rw [show ((0 : Nat) : Int) - 1 = -1 from rfl]
          have hzo : g0 + 1 ≤ (wo.drewN q).heap.size := hzr
          obtain ⟨A2, c2, w2, hrn, hO2, hb2, _⟩ := run_append_one (HO.out.drew q) (nmb g s : Nat) hzo (by rw [zs_len, num_len]; omega)
          rw [zs_len, num_len] at hrn hO2
          have hO3 := Lib.hid (show Owned w2 (g0 + 1) (.slice A2 (s + 1) c2) (zs (num g (s + 1))) by rw [num_succ, zs_append]; exact hO2)
          have hb3 := Lib.hid (show Below (g0 + 1) w1 w2 from (below_drewN HBR.out q).trans hb2)
          clear hO2 hb2
          by_cases hin : g s ∈ grp g s
          · obtain rfl := HFD.out.yes hin
            have HG1 := Lib.hid (show (grp g (s + 1)).length = (grp g s).length by rw [show grp g (s + 1) = grp g s from addK_in hin])
            have v0 : (0 : Int) ≤ (nmb g s : Nat) := by omega
            have v1 : ((nmb g s : Nat) : Int) ≤ n := by have := nmb_le g s; omega
            clear hin HFD
            generalize ((nmb g s : Nat) : Int) = y at hrn v0 v1 ⊢
            generalize (grp g s).length = cnt0 at hcnt HG1 ⊢
            go_wp2_with (at_builtin; refine Lib.wpList_append_run _ rfl _ _ _ _ rfl _ _ rfl rfl _ _ hrn ?_)
            go_roundw
            case rel => exact ⟨s + 1, A2, c2, by omega, by go_num, by rw [HG1.out], rfl, hO3.out, hb3.out⟩
            case measure => simp [intOf]; omega
          · obtain rfl := HFD.out.no hin
            have hg1 := Lib.hid (show (grp g (s + 1)).length = (grp g s).length + 1 by rw [show grp g (s + 1) = grp g s ++ [g s] from addK_out hin, List.length_append]; rfl)
            rw [nmb_new g hin] at hrn
            clear hin HFD
            generalize (grp g s).length = cnt0 at hcnt hg1 hrn ⊢
            go_wp2_with (at_builtin; refine Lib.wpList_append_run _ rfl _ _ _ _ rfl _ _ rfl rfl _ _ hrn ?_)
            go_roundw
            case rel => exact ⟨s + 1, A2, c2, by omega, by go_num, by rw [hg1.out]; go_num, rfl, hO3.out, hb3.out⟩
            case measure => simp [intOf]; omega
    · obtain rfl : s = n := by omega
      have HO2 := Lib.hid (HO.out.lower (base' := w.heap.size) (by rw [← HG.out]; omega))
      go_wp2
      go_ret
      exact ⟨_, _, rfl, HO2.out, hbW⟩
end Go.Proofs.Ytnifjagjcoegaaa
end

section
/- Lists and machines that are equal: Equal, EqualFunc, equal, Same; the reference's Ints, Lists, Same. -/
namespace Go.Proofs.Ytnifjagjcoegaaa
open Go.RowKit

set_option maxHeartbeats 1000000 in
theorem rints (A B : Option Addr) (n c m d : Nat) (xs ys : List Int) (b : Bool) (w : World) (hx : Ints w A n xs) (hy : Ints w B m ys) (hb : b = decide (xs = ys)) :
    Calls Try.prog 119 #[.slice A n c, .slice B m d] w fun e w' => e = .returned (.bool b) ∧ ∃ q, w' = w.drewN q := by
  have L1 := Lib.hid hx.1
  have L2 := Lib.hid hy.1
  have hn := hx.2.1
  have hm := hy.2.1
  by_cases hnm : n = m
  · subst hnm
    have HB := Lib.hid hb
    clear hb
    go_enter Try.func119, Try.ntmps119
    go_wp2
    go_loopw [5] (fun i wr => ∃ j q : Nat, j ≤ n ∧ i = .int .i64 j ∧ AgreeL 0 xs ys j ∧ wr = w.drewN q) (fun i _ => n - (intOf i).toNat)
    case atStart => exact ⟨0, 0, Nat.zero_le _, rfl, AgreeL.zero _ _ _, rfl⟩
    case round =>
      obtain ⟨j, q, hj, rfl, heq, rfl⟩ := hrel
      have HE := Lib.hid heq
      clear heq
      by_cases hlt : j < n
      · obtain ⟨g1, o1, rfl, _, hc1⟩ := hx.at_ hlt
        obtain ⟨g2, o2, rfl, _, hc2⟩ := hy.at_ hlt
        by_cases he : xs.getD j 0 = ys.getD j 0
        · have hnx := Lib.hid (HE.out.succ he)
          rw [← he] at hc2
          generalize xs.getD j 0 = y at hc1 hc2
          clear he
          go_wp2
          go_quiet (fail)
          go_wp2
          go_roundw
          case rel => exact ⟨j + 1, _, by omega, by go_num, hnx.out, rfl⟩
          case measure => simp [intOf]; omega
        · have hfin : Hid (b = false) := Lib.hid (HB.out.trans (decide_eq_false fun e => he (by rw [e])))
          have hne : (xs.getD j 0 != ys.getD j 0) = true := by simpa using he
          generalize xs.getD j 0 = y at hc1 hne
          generalize ys.getD j 0 = z at hc2 hne
          clear he
          go_wp2
          go_quiet (fail)
          go_wp2
          go_ret
          exact ⟨ret_bool hfin.out.symm, by first | exact ⟨_, rfl⟩ | exact ⟨_, World.drewN_drewN _ _ _⟩⟩
      · obtain rfl : j = n := by omega
        have hfin : Hid (b = true) := Lib.hid (HB.out.trans (decide_eq_true (HE.out.all L1.out L2.out)))
        go_wp2
        go_ret
        exact ⟨ret_bool hfin.out.symm, by first | exact ⟨_, rfl⟩ | exact ⟨_, World.drewN_drewN _ _ _⟩⟩
  · have hfin : Hid (b = false) := Lib.hid (hb.trans (decide_eq_false fun e => hnm (by rw [← L1.out, ← L2.out, e])))
    have hd : ((n : Int) != (m : Int)) = true := by simp; omega
    clear hnm hb
    go_enter Try.func119, Try.ntmps119
    go_wp2
    go_ret
    exact ⟨ret_bool hfin.out.symm, 0, rfl⟩

set_option maxHeartbeats 1000000 in
theorem sequal (A B : Option Addr) (n c m d : Nat) (xs ys : List Int) (b : Bool) (w : World) (hx : Ints w A n xs) (hy : Ints w B m ys) (hb : b = decide (xs = ys)) :
    Calls Try.prog 122 #[.slice A n c, .slice B m d] w fun e w' => e = .returned (.bool b) ∧ ∃ q, w' = w.drewN q := by
  have L1 := Lib.hid hx.1
  have L2 := Lib.hid hy.1
  have hn := hx.2.1
  have hm := hy.2.1
  by_cases hnm : n = m
  · subst hnm
    have HB := Lib.hid hb
    clear hb
    go_enter Try.func122, Try.ntmps122
    go_wp2
    go_loopw [13] (fun i wr => ∃ j q : Nat, j ≤ n ∧ i = .int .i64 j ∧ AgreeL 0 xs ys j ∧ wr = w.drewN q) (fun i _ => n - (intOf i).toNat)
    case atStart => exact ⟨0, 0, Nat.zero_le _, rfl, AgreeL.zero _ _ _, rfl⟩
    case round =>
      obtain ⟨j, q, hj, rfl, heq, rfl⟩ := hrel
      have HE := Lib.hid heq
      clear heq
      by_cases hlt : j < n
      · obtain ⟨g1, o1, rfl, _, hc1⟩ := hx.at_ hlt
        obtain ⟨g2, o2, rfl, _, hc2⟩ := hy.at_ hlt
        by_cases he : xs.getD j 0 = ys.getD j 0
        · have hnx := Lib.hid (HE.out.succ he)
          rw [← he] at hc2
          generalize xs.getD j 0 = y at hc1 hc2
          clear he
          go_wp2
          go_quiet (fail)
          go_wp2
          go_roundw
          case rel => exact ⟨j + 1, _, by omega, by go_num, hnx.out, rfl⟩
          case measure => simp [intOf]; omega
        · have hfin : Hid (b = false) := Lib.hid (HB.out.trans (decide_eq_false fun e => he (by rw [e])))
          have hne : (xs.getD j 0 != ys.getD j 0) = true := by simpa using he
          generalize xs.getD j 0 = y at hc1 hne
          generalize ys.getD j 0 = z at hc2 hne
          clear he
          go_wp2
          go_quiet (fail)
          go_wp2
          go_ret
          exact ⟨ret_bool hfin.out.symm, by first | exact ⟨_, rfl⟩ | exact ⟨_, World.drewN_drewN _ _ _⟩⟩
      · obtain rfl : j = n := by omega
        have hfin : Hid (b = true) := Lib.hid (HB.out.trans (decide_eq_true (HE.out.all L1.out L2.out)))
        go_wp2
        go_ret
        exact ⟨ret_bool hfin.out.symm, by first | exact ⟨_, rfl⟩ | exact ⟨_, World.drewN_drewN _ _ _⟩⟩
  · have hfin : Hid (b = false) := Lib.hid (hb.trans (decide_eq_false fun e => hnm (by rw [← L1.out, ← L2.out, e])))
    have hd : ((n : Int) != (m : Int)) = true := by simp; omega
    clear hnm hb
    go_enter Try.func122, Try.ntmps122
    go_wp2
    go_ret
    exact ⟨ret_bool hfin.out.symm, 0, rfl⟩

theorem drew_trans {w wr w2 : World} (h : ∃ q, wr = w.drewN q) (h2 : ∃ q, w2 = wr.drewN q) : ∃ q, w2 = w.drewN q := by
  obtain ⟨q, rfl⟩ := h2
  exact drew_more h q

set_option maxHeartbeats 1000000 in
theorem rlists (A B : Option Addr) (n c m d : Nat) (xs ys : List (List Int)) (b : Bool) (w : World) (hx : Lists w A n xs) (hy : Lists w B m ys) (hb : b = decide (xs = ys)) :
    Calls Try.prog 96 #[.slice A n c, .slice B m d] w fun e w' => e = .returned (.bool b) ∧ ∃ q, w' = w.drewN q := by
  have L1 := Lib.hid hx.1
  have L2 := Lib.hid hy.1
  have hn := hx.2.1
  have hm := hy.2.1
  by_cases hnm : n = m
  · subst hnm
    have HB := Lib.hid hb
    clear hb
    go_enter Try.func96, Try.ntmps96
    go_wp2
    go_loopw [5] (fun i wr => ∃ j : Nat, j ≤ n ∧ i = .int .i64 j ∧ AgreeL [] xs ys j ∧ ∃ q, wr = w.drewN q) (fun i _ => n - (intOf i).toNat)
    case atStart => exact ⟨0, Nat.zero_le _, rfl, AgreeL.zero _ _ _, 0, rfl⟩
    case round =>
      obtain ⟨j, hj, rfl, heq, hw⟩ := hrel
      have hx' : Lists wr A n xs := by obtain ⟨q, rfl⟩ := hw; exact hx
      have hy' : Lists wr B n ys := by obtain ⟨q, rfl⟩ := hw; exact hy
      have HW := Lib.hid hw
      clear hw
      have HE := Lib.hid heq
      clear heq
      by_cases hlt : j < n
      · obtain ⟨g1, o1, A1, n1, c1, rfl, _, hc1, hi1⟩ := hx'.at_ hlt
        obtain ⟨g2, o2, A2, n2, c2, rfl, _, hc2, hi2⟩ := hy'.at_ hlt
        by_cases he : xs.getD j [] = ys.getD j []
        · have hnx := Lib.hid (HE.out.succ he)
          have hd := Lib.hid ((decide_eq_true he).symm)
          clear he
          go_wp2
          go_quiet ((go_at_call 119; exact Calls.quiet_of (rints _ _ _ _ _ _ _ _ _ _ hi1 hi2 hd.out)))
          go_wp2
          go_roundw
          case rel => exact ⟨j + 1, by omega, by go_num, hnx.out, drew_more HW.out _⟩
          case measure => simp [intOf]; omega
        · have hfin : Hid (b = false) := Lib.hid (HB.out.trans (decide_eq_false fun e => he (by rw [e])))
          have hd := Lib.hid ((decide_eq_false he).symm)
          clear he
          go_wp2
          go_quiet ((go_at_call 119; exact Calls.quiet_of (rints _ _ _ _ _ _ _ _ _ _ hi1 hi2 hd.out)))
          go_wp2
          go_ret
          exact ⟨ret_bool hfin.out.symm, by first | exact drew_more HW.out _ | exact HW.out⟩
      · obtain rfl : j = n := by omega
        have hfin : Hid (b = true) := Lib.hid (HB.out.trans (decide_eq_true (HE.out.all L1.out L2.out)))
        go_wp2
        go_ret
        exact ⟨ret_bool hfin.out.symm, by first | exact drew_more HW.out _ | exact HW.out⟩
  · have hfin : Hid (b = false) := Lib.hid (hb.trans (decide_eq_false fun e => hnm (by rw [← L1.out, ← L2.out, e])))
    have hd : ((n : Int) != (m : Int)) = true := by simp; omega
    clear hnm hb
    go_enter Try.func96, Try.ntmps96
    go_wp2
    go_ret
    exact ⟨ret_bool hfin.out.symm, 0, rfl⟩

set_option maxHeartbeats 1000000 in
theorem sequalf (A B : Option Addr) (n c m d : Nat) (xs ys : List (List Int)) (b : Bool) (w : World) (hx : Lists w A n xs) (hy : Lists w B m ys) (hb : b = decide (xs = ys)) :
    Calls Try.prog 125 #[.slice A n c, .slice B m d, .func (.func 122) #[] #[]] w fun e w' => e = .returned (.bool b) ∧ ∃ q, w' = w.drewN q := by
  have L1 := Lib.hid hx.1
  have L2 := Lib.hid hy.1
  have hn := hx.2.1
  have hm := hy.2.1
  by_cases hnm : n = m
  · subst hnm
    have HB := Lib.hid hb
    clear hb
    go_enter Try.func125, Try.ntmps125
    go_wp2
    go_loopw [17] (fun i wr => ∃ j : Nat, j ≤ n ∧ i = .int .i64 j ∧ AgreeL [] xs ys j ∧ ∃ q, wr = w.drewN q) (fun i _ => n - (intOf i).toNat)
    case atStart => exact ⟨0, Nat.zero_le _, rfl, AgreeL.zero _ _ _, 0, rfl⟩
    case round =>
      obtain ⟨j, hj, rfl, heq, hw⟩ := hrel
      have hx' : Lists wr A n xs := by obtain ⟨q, rfl⟩ := hw; exact hx
      have hy' : Lists wr B n ys := by obtain ⟨q, rfl⟩ := hw; exact hy
      have HW := Lib.hid hw
      clear hw
      have HE := Lib.hid heq
      clear heq
      by_cases hlt : j < n
      · obtain ⟨g1, o1, A1, n1, c1, rfl, _, hc1, hi1⟩ := hx'.at_ hlt
        obtain ⟨g2, o2, A2, n2, c2, rfl, _, hc2, hi2⟩ := hy'.at_ hlt
        by_cases he : xs.getD j [] = ys.getD j []
        · have hnx := Lib.hid (HE.out.succ he)
          have hd := Lib.hid ((decide_eq_true he).symm)
          clear he
          go_wp2_with fail
          refine (sequal _ _ _ _ _ _ _ _ _ _ hi1 hi2 hd.out).mono ?_
          rintro e w' ⟨rfl, q, rfl⟩
          go_wp2
          go_roundw
          case rel => exact ⟨j + 1, by omega, by go_num, hnx.out, drew_more HW.out _⟩
          case measure => simp [intOf]; omega
        · have hfin : Hid (b = false) := Lib.hid (HB.out.trans (decide_eq_false fun e => he (by rw [e])))
          have hd := Lib.hid ((decide_eq_false he).symm)
          clear he
          go_wp2_with fail
          refine (sequal _ _ _ _ _ _ _ _ _ _ hi1 hi2 hd.out).mono ?_
          rintro e w' ⟨rfl, q, rfl⟩
          go_wp2
          go_ret
          exact ⟨ret_bool hfin.out.symm, by first | exact drew_more HW.out _ | exact HW.out⟩
      · obtain rfl : j = n := by omega
        have hfin : Hid (b = true) := Lib.hid (HB.out.trans (decide_eq_true (HE.out.all L1.out L2.out)))
        go_wp2
        go_ret
        exact ⟨ret_bool hfin.out.symm, by first | exact drew_more HW.out _ | exact HW.out⟩
  · have hfin : Hid (b = false) := Lib.hid (hb.trans (decide_eq_false fun e => hnm (by rw [← L1.out, ← L2.out, e])))
    have hd : ((n : Int) != (m : Int)) = true := by simp; omega
    clear hnm hb
    go_enter Try.func125, Try.ntmps125
    go_wp2
    go_ret
    exact ⟨ret_bool hfin.out.symm, 0, rfl⟩

set_option maxHeartbeats 1000000 in
theorem pequal (A B : Option Addr) (n c m d : Nat) (xs ys : List (List Int)) (b : Bool) (w : World) (hx : Lists w A n xs) (hy : Lists w B m ys) (hb : b = decide (xs = ys)) :
    Calls Try.prog 106 #[.slice A n c, .slice B m d] w fun e w' => e = .returned (.bool b) ∧ ∃ q, w' = w.drewN q := by
  have HB := Lib.hid hb
  clear hb
  go_enter Try.func106, Try.ntmps106
  go_wp2_with fail
  refine (sequalf _ _ _ _ _ _ _ _ _ _ hx hy HB.out).mono ?_
  rintro e w' ⟨rfl, q, rfl⟩
  go_wp2
  go_ret
  exact ⟨rfl, q, rfl⟩
end Go.Proofs.Ytnifjagjcoegaaa
end

section
/- The reference: Equal. -/
namespace Go.Proofs.Ytnifjagjcoegaaa
open Go.RowKit

set_option maxHeartbeats 1000000 in
theorem requal (A B : Option Addr) (n c m d : Nat) (xs ys : List Int) (b : Bool) (w : World) (hx : Ints w A n xs) (hy : Ints w B m ys) (hb : b = decide (xs = ys)) :
    Calls Try.prog 49 #[.slice A n c, .slice B m d] w fun e w' => e = .returned (.bool b) ∧ ∃ q, w' = w.drewN q := by
  have L1 := Lib.hid hx.1
  have L2 := Lib.hid hy.1
  have hn := hx.2.1
  have hm := hy.2.1
  by_cases hnm : n = m
  · subst hnm
    have HB := Lib.hid hb
    clear hb
    go_enter Try.func49, Try.ntmps49
    go_wp2
    go_loopw [5] (fun i wr => ∃ j q : Nat, j ≤ n ∧ i = .int .i64 j ∧ AgreeL 0 xs ys j ∧ wr = w.drewN q) (fun i _ => n - (intOf i).toNat)
    case atStart => exact ⟨0, 0, Nat.zero_le _, rfl, AgreeL.zero _ _ _, rfl⟩
    case round =>
      obtain ⟨j, q, hj, rfl, heq, rfl⟩ := hrel
      have HE := Lib.hid heq
      clear heq
      by_cases hlt : j < n
      · obtain ⟨g1, o1, rfl, _, hc1⟩ := hx.at_ hlt
        obtain ⟨g2, o2, rfl, _, hc2⟩ := hy.at_ hlt
        by_cases he : xs.getD j 0 = ys.getD j 0
        · have hnx := Lib.hid (HE.out.succ he)
          rw [← he] at hc2
          generalize xs.getD j 0 = y at hc1 hc2
          clear he
          go_wp2
          go_quiet (fail)
          go_wp2
          go_roundw
          case rel => exact ⟨j + 1, _, by omega, by go_num, hnx.out, rfl⟩
          case measure => simp [intOf]; omega
        · have hfin : Hid (b = false) := Lib.hid (HB.out.trans (decide_eq_false fun e => he (by rw [e])))
          have hne : (xs.getD j 0 != ys.getD j 0) = true := by simpa using he
          generalize xs.getD j 0 = y at hc1 hne
          generalize ys.getD j 0 = z at hc2 hne
          clear he
          go_wp2
          go_quiet (fail)
          go_wp2
          go_ret
          exact ⟨ret_bool hfin.out.symm, by first | exact ⟨_, rfl⟩ | exact ⟨_, World.drewN_drewN _ _ _⟩⟩
      · obtain rfl : j = n := by omega
        have hfin : Hid (b = true) := Lib.hid (HB.out.trans (decide_eq_true (HE.out.all L1.out L2.out)))
        go_wp2
        go_ret
        exact ⟨ret_bool hfin.out.symm, by first | exact ⟨_, rfl⟩ | exact ⟨_, World.drewN_drewN _ _ _⟩⟩
  · have hfin : Hid (b = false) := Lib.hid (hb.trans (decide_eq_false fun e => hnm (by rw [← L1.out, ← L2.out, e])))
    have hd : ((n : Int) != (m : Int)) = true := by simp; omega
    clear hnm hb
    go_enter Try.func49, Try.ntmps49
    go_wp2
    go_ret
    exact ⟨ret_bool hfin.out.symm, 0, rfl⟩

end Go.Proofs.Ytnifjagjcoegaaa
end

section
/- Valid of a machine by the reference. -/
namespace Go.Proofs.Ytnifjagjcoegaaa
open Go.RowKit

set_option maxHeartbeats 2000000 in
set_option maxRecDepth 100000 in
theorem rvalid (i st : Int) (A B : Option Addr) (n c m d : Nat) (nx ot : List (List Int)) (w : World) (hx : Lists w A n nx) (ho : Lists w B m ot) :
    Calls Try.prog 58 #[.agg #[.int .i64 i, .int .i64 st, .slice A n c, .slice B m d]] w fun e w' => e = .returned (.int .i64 (vld i st nx ot)) ∧ Below w.heap.size w w' := by
  have L1 := Lib.hid hx.1
  have L2 := Lib.hid ho.1
  have hn := hx.2.1
  have hm := ho.2.1
  have hb0 := alloc_below w (.cells #[.int .i64 i, .int .i64 st, .slice A n c, .slice B m d] 58)
  have hsz0 : (w.alloc (.cells #[.int .i64 i, .int .i64 st, .slice A n c, .slice B m d] 58)).heap.size = w.heap.size + 1 := by simp
  have HZ := Lib.hid hsz0
  clear hsz0
  by_cases hi : 1 ≤ i ∧ i ≤ 64
  · have HI := Lib.hid hi
    obtain ⟨hi1, hi2⟩ := hi
    have i1 : decide (i < 1) = false := by simpa using hi1
    have i2 : decide (64 < i) = false := by simpa using hi2
    by_cases h0 : n = 0
    · have hfin := Lib.hid (vld_empty (st := st) (ot := ot) HI.out (by rw [L1.out]; exact h0))
      subst h0
      go_enter Try.func58, Try.ntmps58
      go_wp2
      go_ret
      exact ⟨ret_int hfin.out.symm, hb0⟩
    · have z0 : ((n : Int) == 0) = false := by simp; omega
      by_cases h1 : 128 < n
      · have hfin := Lib.hid (vld_many (st := st) (ot := ot) HI.out (by rw [L1.out]; exact h1))
        clear h0
        go_enter Try.func58, Try.ntmps58
        go_wp2
        go_ret
        exact ⟨ret_int hfin.out.symm, hb0⟩
      · have z1 : decide ((128 : Int) < (n : Int)) = false := by simp; omega
        by_cases h2 : 0 ≤ st ∧ st < n
        · have H2 := Lib.hid h2
          have s1 : decide (st < 0) = false := by simpa using h2.1
          have s2 : decide ((n : Int) ≤ st) = false := by simpa using h2.2
          by_cases h3 : m = n
          · subst h3
            have z3 : ((m : Int) != (m : Int)) = false := by simp
            have hrows := Lib.hid (vld_rows (i := i) (st := st) (nx := nx) (ot := ot) HI.out (by rw [L1.out]; exact h0) (by rw [L1.out]; exact h1) (by rw [L1.out]; exact H2.out) (by rw [L1.out, L2.out]))
            clear h0 h2
            go_enter Try.func58, Try.ntmps58
            go_wp2
            go_loopw [3] (fun x wr => ∃ j : Nat, j ≤ m ∧ x = .int .i64 j ∧ (∀ t, t < j → rowAt i nx ot t = 0) ∧ Below (w.heap.size + 1) (w.alloc (.cells #[.int .i64 i, .int .i64 st, .slice A m c, .slice B m d] 58)) wr) (fun x _ => m - (intOf x).toNat)
            case atStart => exact ⟨0, Nat.zero_le _, rfl, fun t h => absurd h (by omega), Below.refl _ _⟩
            case round =>
              obtain ⟨j, hj, rfl, hok, hbr⟩ := hrel
              have hbw := hb0.trans (hbr.mono (Nat.le_succ _))
              have hsz1 : w.heap.size + 1 ≤ wr.heap.size := by have := hbr.size; simpa using this
              have HK := Lib.hid hok
              clear hok
              obtain ⟨k0, k1, k2, k3⟩ := box4 hbr
              by_cases hlt : j < m
              · have HV := Lib.hid (show rowAt i nx ot j = rowE i m (nx.getD j []) (ot.getD j []) by unfold rowAt; rw [L1.out])
                by_cases he : rowE i m (nx.getD j []) (ot.getD j []) = 0
                · have hnx := Lib.hid (show ∀ t, t < j + 1 → rowAt i nx ot t = 0 from fun t ht => by
                    by_cases e : t = j
                    · subst e; rw [HV.out]; exact he
                    · exact HK.out t (by omega))
                  have HE := Lib.hid he
                  clear he
                  go_wp2_with fail
                  refine (rrow _ _ _ _ _ _ _ _ _ _ _ _ (hx.below hbw) (ho.below hbw) hlt hlt).mono ?_
                  rintro e w2 ⟨rfl, b2⟩
                  have b3 := hbr.trans (b2.mono hsz1)
                  rw [HE.out]
                  obtain ⟨k0, k1, k2, k3⟩ := box4 b3
                  go_wp2
                  go_roundw
                  case rel => exact ⟨j + 1, by omega, by go_num, hnx.out, b3⟩
                  case measure => simp [intOf]; omega
                · have hfin := Lib.hid (hrows.out.trans (fstE_bad HK.out (by rw [HV.out]; exact he) (by rw [L1.out]; exact hlt)))
                  have he2 : (rowE i m (nx.getD j []) (ot.getD j []) != 0) = true := by simpa using he
                  go_wp2_with fail
                  refine (rrow _ _ _ _ _ _ _ _ _ _ _ _ (hx.below hbw) (ho.below hbw) hlt hlt).mono ?_
                  rintro e w2 ⟨rfl, b2⟩
                  have b3 := hbr.trans (b2.mono hsz1)
                  have HF := Lib.hid (hfin.out.trans HV.out)
                  clear hfin HV
                  generalize rowE i m (nx.getD j []) (ot.getD j []) = E at he2 he HF
                  clear he
                  go_wp2
                  go_ret
                  exact ⟨ret_int HF.out.symm, hb0.trans (b3.mono (Nat.le_succ _))⟩
              · obtain rfl : j = m := by omega
                have hfin := Lib.hid (hrows.out.trans (fstE_ok (by rw [L1.out]; exact HK.out)))
                go_wp2
                go_ret
                exact ⟨ret_int hfin.out.symm, hbw⟩
          · have z3 : ((m : Int) != (n : Int)) = true := by simp; omega
            have hfin := Lib.hid (vld_out (i := i) (st := st) (nx := nx) (ot := ot) HI.out (by rw [L1.out]; exact h0) (by rw [L1.out]; exact h1) (by rw [L1.out]; exact H2.out) (by rw [L1.out, L2.out]; exact h3))
            clear h0 h3
            go_enter Try.func58, Try.ntmps58
            go_wp2
            go_ret
            exact ⟨ret_int hfin.out.symm, hb0⟩
        · have hfin := Lib.hid (vld_start (i := i) (st := st) (nx := nx) (ot := ot) HI.out (by rw [L1.out]; exact h0) (by rw [L1.out]; exact h1) (by rw [L1.out]; exact h2))
          by_cases h3 : 0 ≤ st
          · have s1 : decide (st < 0) = false := by simpa using h3
            have s2 : decide ((n : Int) ≤ st) = true := by simp; omega
            clear h0 h2
            go_enter Try.func58, Try.ntmps58
            go_wp2
            go_ret
            exact ⟨ret_int hfin.out.symm, hb0⟩
          · have s1 : decide (st < 0) = true := by simpa using h3
            clear h0 h2
            go_enter Try.func58, Try.ntmps58
            go_wp2
            go_ret
            exact ⟨ret_int hfin.out.symm, hb0⟩
  · have hfin := Lib.hid (vld_in (st := st) (nx := nx) (ot := ot) hi)
    by_cases hi1 : 1 ≤ i
    · have hi2 : 64 < i := by omega
      have t1 : ¬ i < 1 := by omega
      clear hi
      go_enter Try.func58, Try.ntmps58
      go_wp2
      go_ret
      exact ⟨ret_int hfin.out.symm, hb0⟩
    · have t1 : i < 1 := by omega
      clear hi hi1
      go_enter Try.func58, Try.ntmps58
      go_wp2
      go_ret
      exact ⟨ret_int hfin.out.symm, hb0⟩
end Go.Proofs.Ytnifjagjcoegaaa
end

section
/- The signature of a state: the walk. -/
namespace Go.Proofs.Ytnifjagjcoegaaa
open Go.RowKit

set_option maxHeartbeats 4000000 in
set_option maxRecDepth 100000 in
theorem psign (i st n s : Nat) (A B C : Option Addr) (c d cc : Nat) (nx ot : List (List Int)) (cl : List Nat) (w : World) (hx : Lists w A n nx) (ho : Lists w B n ot) (hM : Mok i st n nx ot) (hc : Ints w C n (zs cl)) (hs : s < n) :
    Calls Try.prog 130 #[.agg #[.int .i64 i, .int .i64 st, .slice A n c, .slice B n d], .slice C n cc, .int .i64 s] w fun e w' => e = .returned (kv (sgm nx ot cl s i)) ∧ Below w.heap.size w w' := by
  have hn := hx.2.1
  have hn2 := hM.n2
  have hi64 := hM.i2
  obtain ⟨g1, o1, A1, n1, c1, rfl, hg1, hd1, hr1⟩ := hx.at_ hs
  obtain ⟨g2, o2, A2, n2, c2, rfl, hg2, hd2, hr2⟩ := ho.at_ hs
  have hl1 := hr1.1
  have hl2 := hr2.1
  have hi1 := (hM.row s hs).1
  have hi2 := (hM.row s hs).2.1
  obtain rfl : n1 = i := by omega
  obtain rfl : n1 = n2 := by omega
  clear hl1 hl2 hi1 hi2
  obtain ⟨g, hg⟩ : ∃ g, g = w.heap.size := ⟨_, rfl⟩
  obtain ⟨w1, hw1⟩ : ∃ w1, w1 = w.alloc (.cells #[.int .i64 n1, .int .i64 st, .slice (some ⟨g1, o1, none⟩) n c, .slice (some ⟨g2, o2, none⟩) n d] 58) := ⟨_, rfl⟩
  have hb1 : Below w.heap.size w w1 := by rw [hw1]; exact alloc_below _ _
  have hz1 : w1.heap.size = g + 1 := by rw [hw1, hg]; simp
  have hB1 : Mblk w1 g (.int .i64 n1) (.int .i64 st) (.slice (some ⟨g1, o1, none⟩) n c) (.slice (some ⟨g2, o2, none⟩) n d) := by rw [hw1, hg]; exact heap_alloc_new _ _
  obtain ⟨w2, hw2⟩ : ∃ w2, w2 = w1.alloc (.cells Try.zeroCells164 164) := ⟨_, rfl⟩
  have hb2 : Below w1.heap.size w1 w2 := by rw [hw2]; exact alloc_below _ _
  have hz2 : w2.heap.size = g + 2 := by rw [hw2]; simp; omega
  have hR2 : Zblk w2 (g + 1) 164 (List.replicate 128 0) := by rw [hw2, ← hz1, zero128]; exact heap_alloc_new _ _
  obtain ⟨w3, hw3⟩ : ∃ w3, w3 = w2.alloc (.cells Try.zeroCells164 164) := ⟨_, rfl⟩
  have hb3 : Below w2.heap.size w2 w3 := by rw [hw3]; exact alloc_below _ _
  have hz3 : w3.heap.size = g + 3 := by rw [hw3]; simp; omega
  have hS3 : Zblk w3 (g + 2) 164 (List.replicate 128 0) := by rw [hw3, ← hz2, zero128]; exact heap_alloc_new _ _
  have hbw3 : Below w.heap.size w w3 := bt hb1 (hb2.trans (hb3.mono (by omega)))
  have hB3 := hB1.kept (hb2.trans (hb3.mono (by omega))) (show g < w1.heap.size by omega)
  have hR3 := hR2.kept hb3 (by omega)
  have e1 := (hbw3.cell (p := ⟨g1, o1 + s, none⟩) hg1).trans hd1
  have HW : Hid (w3 = ((w.alloc (.cells #[.int .i64 n1, .int .i64 st, .slice (some ⟨g1, o1, none⟩) n c, .slice (some ⟨g2, o2, none⟩) n d] 58)).alloc (.cells Try.zeroCells164 164)).alloc (.cells Try.zeroCells164 164)) := Lib.hid (by rw [hw3, hw2, hw1])
  have HG := Lib.hid hg
  rw [hw3, hw2, hw1] at e1
  have HZ3 := Lib.hid hz3
  have HR3 := Lib.hid hR3
  have HB3 := Lib.hid hB3
  have HS3 := Lib.hid hS3
  have hs0 : (0 : Int) ≤ (s : Int) := by omega
  clear hw1 hw2 hw3 hz1 hz2 hz3 hb1 hb2 hb3 hB1 hR2 hg hB3 hR3 hS3
  go_enter Try.func130, Try.ntmps130
  go_wp2
  rw [← HW.out]
  try rw [← HG.out]
  clear e1
  go_loopw [16] (fun kv wr => ∃ a : Nat, a ≤ n1 ∧ kv = .int .i64 a ∧ Zblk wr (g + 2) 164 (sgm nx ot cl s a) ∧ Below (g + 2) w3 wr) (fun kv _ => n1 - (intOf kv).toNat)
  case atStart => exact ⟨0, Nat.zero_le _, rfl, by rw [sgm_zero]; exact HS3.out, Below.refl _ _⟩
  case round =>
    obtain ⟨a, ha, rfl, hS, hbr⟩ := hrel
    have hbW : Below w.heap.size w wr := hbw3.trans (hbr.mono (by have := hg1; rw [← HG.out]; omega))
    have hbox := HB3.out.kept hbr (show g < g + 2 by omega)
    obtain ⟨k0, k1, k2, k3, _⟩ := hbox.cells
    have hzr := hbr.size
    have hzr3 : g + 2 < wr.heap.size := by rw [HZ3.out] at hzr; omega
    by_cases hlt : a < n1
    · obtain ⟨b1, p1, rfl, hb1, hc1⟩ := hr1.at_ hlt
      have hc1 := (hbW.cell (p := ⟨b1, p1 + a, none⟩) hb1).trans hc1
      obtain ⟨b2, p2, rfl, hb2, hc2⟩ := hr2.at_ hlt
      have hc2 := (hbW.cell (p := ⟨b2, p2 + a, none⟩) hb2).trans hc2
      have e2 := (hbW.cell (p := ⟨g2, o2 + s, none⟩) hg2).trans hd2
      rw [hM.nN_eq hs hlt] at hc1
      have ht := hM.nN_lt hs hlt
      obtain ⟨b3, p3, rfl, hb3, hc3⟩ := hc.at_ ht
      have hc3 := (hbW.cell (p := ⟨b3, _, none⟩) hb3).trans hc3
      rw [zs_at] at hc3
      have lb : b2 < g + 2 ∧ b3 < g + 2 ∧ g2 < g + 2 := by have := HG.out; omega
      obtain ⟨lb2, lb3, lg2⟩ := lb
      have hnx := Lib.hid (sgm_succ nx ot cl s a)
      have hy : (ot.getD s []).getD a 0 = oN ot s a := rfl
      rw [hy] at hc2
      obtain ⟨q1, f1⟩ := hS.at_ (j := 2 * a) (by rw [sgm_len]; omega)
      obtain ⟨q2, f2⟩ := hS.at_ (j := 2 * a + 1) (by rw [sgm_len]; omega)
      have HS := Lib.hid hS
      generalize (sgm nx ot cl s a).getD (2 * a) 0 = u1 at q1
      generalize (sgm nx ot cl s a).getD (2 * a + 1) 0 = u2 at q2
      generalize oN ot s a = y at hc2 hnx
      generalize nN nx s a = t at hc1 ht hc3 hnx
      generalize cl.getD t 0 = z at hc3 hnx
      rw [Nat.mul_comm] at q1 f1 q2 f2
      have HY := Lib.hid hy
      clear hy hS hd1 hd2
      have j0 : (0 : Int) ≤ (a : Int) := by omega
      have j1 : (0 : Int) ≤ (t : Int) := by omega
      have j2 : (t : Int) < (n : Int) := by omega
      have j3 : (s : Int) < (n : Int) := by omega
      have j4 : (a : Int) < (n1 : Int) := by omega
      have j5 : (a : Int) < 64 := by omega
      have HK : Hid (∀ u v, ((wr.setCell ⟨g + 1 + 1, a * 2, none⟩ u).setCell ⟨g + 1 + 1, a * 2 + 1, none⟩ v).drew.cell? ⟨g, 3, none⟩ = some (.slice (some ⟨g2, o2, none⟩) n d) ∧ ((wr.setCell ⟨g + 1 + 1, a * 2, none⟩ u).setCell ⟨g + 1 + 1, a * 2 + 1, none⟩ v).drew.cell? ⟨g2, o2 + s, none⟩ = some (.slice (some ⟨b2, p2, none⟩) n1 c2) ∧ ((wr.setCell ⟨g + 1 + 1, a * 2, none⟩ u).setCell ⟨g + 1 + 1, a * 2 + 1, none⟩ v).drew.cell? ⟨b2, p2 + a, none⟩ = some (.int .i64 y) ∧ ((wr.setCell ⟨g + 1 + 1, a * 2, none⟩ u).setCell ⟨g + 1 + 1, a * 2 + 1, none⟩ v).drew.cell? ⟨b3, p3 + t, none⟩ = some (.int .i64 z)) := Lib.hid fun u v => by
        have h1 : Below (g + 2) wr (wr.setCell ⟨g + 1 + 1, a * 2, none⟩ u) := (Below.refl (g + 2) wr).setCell (p := ⟨g + 1 + 1, a * 2, none⟩) (Nat.le_refl (g + 2)) u
        have h2 : Below (g + 2) wr ((wr.setCell ⟨g + 1 + 1, a * 2, none⟩ u).setCell ⟨g + 1 + 1, a * 2 + 1, none⟩ v) := h1.setCell (p := ⟨g + 1 + 1, a * 2 + 1, none⟩) (Nat.le_refl (g + 2)) v
        have hk : Below (g + 2) wr (((wr.setCell ⟨g + 1 + 1, a * 2, none⟩ u).setCell ⟨g + 1 + 1, a * 2 + 1, none⟩ v).drew) := below_drewN h2 1
        exact ⟨(hk.cell (p := ⟨g, 3, none⟩) (show g < g + 2 by omega)).trans k3, (hk.cell (p := ⟨g2, o2 + s, none⟩) lg2).trans e2, (hk.cell (p := ⟨b2, p2 + a, none⟩) lb2).trans hc2, (hk.cell (p := ⟨b3, p3 + t, none⟩) lb3).trans hc3⟩
      go_wp2
      go_region_held3 (fun w' => w'.cell? ⟨g, 3, none⟩ = some (.slice (some ⟨g2, o2, none⟩) n d) ∧ w'.cell? ⟨g2, o2 + s, none⟩ = some (.slice (some ⟨b2, p2, none⟩) n1 c2) ∧ w'.cell? ⟨b2, p2 + a, none⟩ = some (.int .i64 y) ∧ w'.cell? ⟨b3, p3 + t, none⟩ = some (.int .i64 z)) (first | exact HK.out _ _ | exact ⟨k3, e2, hc2, hc3⟩ | go_keep) (fail)
      have hq1 := (HS.out.set (2 * a) y).set (2 * a + 1) (z : Int)
      rw [hnx.out] at hq1
      have hq2 : Below (g + 2) w3 ((wr.setCell ⟨g + 2, 2 * a, none⟩ (.int .i64 y)).setCell ⟨g + 2, 2 * a + 1, none⟩ (.int .i64 z)) := (hbr.setCell (p := ⟨g + 2, 2 * a, none⟩) (Nat.le_refl (g + 2)) _).setCell (p := ⟨g + 2, 2 * a + 1, none⟩) (Nat.le_refl (g + 2)) _
      rw [Nat.mul_comm 2 a] at hq1 hq2
      have HQ := Lib.hid (And.intro hq1 hq2)
      clear hq1 hq2
      go_wp2
      go_roundw
      case rel => exact ⟨a + 1, by omega, by go_num, HQ.out.1, below_drewN HQ.out.2 1⟩
      case measure => simp [intOf]; omega
    · obtain rfl : a = n1 := by omega
      have hR := HR3.out.kept hbr (show g + 1 < g + 2 by omega)
      have HS := Lib.hid hS
      have HR := Lib.hid hR
      have hWS := Lib.hid ((HR.out.whole (sgm nx ot cl s a) (by rw [sgm_len]; simp)))
      have hT := Lib.hid (HR.out.there 128 (by simp))
      have hBW := Lib.hid (hbW.trans (below_setCells w.heap.size (g + 1) (by rw [← HG.out]; omega) ((sgm nx ot cl s a).map (Value.int .i64)) 0 wr))
      have hsz : ((sgm nx ot cl s a).map (Value.int .i64)).toArray.size = 128 := by simp [sgm_len]
      have hone : ((sgm nx ot cl s a).map (Value.int .i64)).toArray.all (·.oneCell') = true := all_oneCell_toArray (fun v hv => by obtain ⟨x, _, rfl⟩ := List.mem_map.1 hv; rfl)
      have HSZ := Lib.hid hsz
      have HONE := Lib.hid hone
      clear hS hR hsz hone
      generalize hL : ((sgm nx ot cl s a).map (Value.int .i64)).toArray = cs at HSZ HONE
      have hS9 : wr.heap[g + 2]? = some (.cells cs 164 (0, 0)) := by rw [← hL]; exact HS.out
      have hL2 : cs.toList = (sgm nx ot cl s a).map (Value.int .i64) := by rw [← hL]
      have HL := Lib.hid hL
      have HL2 := Lib.hid hL2
      have HS9 := Lib.hid hS9
      clear hL hL2 hS9 k0 k1 k2 k3
      go_wp2_with (first
        | (refine wpList_load_row rfl 164 _ rfl (g + 2) rfl 164 cs (0, 0) _ HS9.out Try.underlying164 rfl (by rw [HSZ.out]; kernel_rfl) ?_)
        | (refine wpList_store_mid rfl 164 _ _ rfl (g + 1) 0 cs rfl rfl (by rw [HSZ.out]; exact hT.out) (by rw [HSZ.out]; kernel_rfl) HONE.out ?_))
      rw [HL2.out]
      refine bodyPost_ret (results_cell_row (by rfl) _ _ (g + 1) 164 _ (0, 0) _ rfl hWS.out Try.underlying164 rfl (by rw [List.size_toArray, List.length_map, sgm_len]; kernel_rfl)) rfl ⟨rfl, hBW.out⟩
end Go.Proofs.Ytnifjagjcoegaaa
end

section
/- One refinement of classes: the walk. -/
namespace Go.Proofs.Ytnifjagjcoegaaa
open Go.RowKit

theorem sigT : KeyT 162 164 := ⟨Try.underlying162, Go.Maps.Keyed.of_law (deep_law_laid laidOutB_ (m := 3) (by omega) (of_decide_eq_true (by kernel_rfl)) (by kernel_rfl) (by rw [Try.underlying164]))⟩

theorem sigK {x : List Int} (hl : x.length = 128) (hx : ∀ a, a ∈ x → I64 a) : IsK 164 x := by
  have c1 : Try.prog.cellsOf 164 = 128 := by kernel_rfl
  have c2 : Try.prog.cellsOf 100 = 2 := by kernel_rfl
  refine keyOf_arr Try.underlying164 (fun x hl hx => ?_) (by kernel_rfl) (by rw [c1, hl]) hx
  refine keyLits_arr Try.underlying164 (by simp [hl]) fun j hj => ?_
  rw [c2, ← List.map_drop, ← List.map_take]
  have e : Try.prog.types.size = (Try.prog.types.size - 2) + 2 := by kernel_rfl
  rw [e]
  refine keyLits_row Try.underlying100 c2 ?_ fun a ha => hx a (List.mem_of_mem_drop (List.mem_of_mem_take ha))
  rw [List.length_take, List.length_drop, hl, c1]; omega
theorem sgmK {i st n : Nat} {nx ot : List (List Int)} (hM : Mok i st n nx ot) {cl : List Nat} (hcl : ∀ t, t < n → cl.getD t 0 ≤ n) {s : Nat} (hs : s < n) : IsK 164 (sgm nx ot cl s i) := by
  refine sigK (sgm_len _ _ _ _ _) fun a ha => ?_
  obtain ⟨j, hj, rfl⟩ := List.getElem_of_mem ha
  rw [sgm_len] at hj
  have h := sgm_get nx ot cl s i j hj
  rw [List.getElem?_eq_getElem (by rw [sgm_len]; exact hj)] at h
  simp only [Option.some.injEq] at h
  rw [h]
  have hn := hM.n2
  by_cases e : j / 2 < i
  · rw [if_pos e]
    by_cases e2 : j % 2 = 0
    · rw [if_pos e2]
      have := (hM.row s hs).2.2 _ e
      unfold oN
      exact I64.mk (by omega) (by omega)
    · rw [if_neg e2]
      have := hcl _ (hM.nN_lt hs e)
      exact I64.mk (by omega) (by omega)
  · rw [if_neg e]; exact I64.mk (by omega) (by omega)
end Go.Proofs.Ytnifjagjcoegaaa
end
