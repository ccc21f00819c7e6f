/- Lemmas of the proofs of this seat, of the parts Rmnk, Rminw, Rml, M8e. Conditions: none. -/
import Derived.Test.YtdedgpgdmnfijaaNad
import Derived.Test.YtdedgpgdmnfijaaNac
import Derived.Deep.RegionHeld3
import Derived.Deep.DeepCutAuto
section
/- The reference's minimal machine: the end of a round. -/
namespace Go.Proofs.Ytdedgpgdmnfijaa
open Go.RowKit

theorem Owned.notBlock {w : World} {base g : Nat} {v : Value} {xs : List Int} {a b c d : Value} (h : Owned w base v xs) (hg : Mblk w g a b c d) : v.ownBlock ≠ some g := by
  intro e
  rcases h.2 with ⟨e2, _⟩ | ⟨g', cap, cur, hv, _, hg', _⟩
  · rw [e2] at e; simp [Value.ownBlock] at e
  · rw [hv] at e
    have : g' = g := by simpa [Value.ownBlock] using e
    subst this
    have h2 := hg'.symm.trans hg
    injection h2 with h2
    injection h2 with _ h3
    exact absurd h3 (by decide)
section
variable {w2 wo W : World} {bo n i j gT : Nat} {vo0 vo a b : Value} {AX AY AN AO : Option Addr} {cX cY cN cO : Nat} {L L0 N X Y : List Int} {M1 M2 : List (List Int)}
/-- The rows at the end of a round, and the machine's block, in the round's world. -/
theorem Rnd.rows (H : Rnd w2 wo bo (bo + 1) n vo0 W vo (.slice AX i cX) (.slice AY i cY) L N X Y) (h0 : Owned wo bo vo0 L0) (hgT : bo + 2 ≤ gT) (hT : Mblk wo gT a b (.slice AN j cN) (.slice AO j cO)) {u : Value} {M : List (List Int)} (hR : RowsP wo gT u M (fun g => vo0.ownBlock ≠ some g)) :
    Mblk W gT a b (.slice AN j cN) (.slice AO j cO) ∧ RowsP W gT u M (fun g => vo.ownBlock ≠ some g) := by
  refine ⟨H.kx gT _ hT (by omega) (h0.notBlock hT), hR.kept (fun g o e hb hp => H.kx g o e (by omega) hp) fun g hg hp e => ?_⟩
  rcases H.mv with e4 | ⟨g', hg', e4⟩
  · rw [e4] at e; exact hp e
  · rw [e4] at e; injection e with e; omega
end
theorem takeL {xss : List (List Int)} {j : Nat} (h : j < xss.length) : xss.take j ++ [xss.getD j []] = xss.take (j + 1) := by
  rw [List.take_add_one, List.getD_eq_getElem?_getD, List.getElem?_eq_getElem h]; rfl
theorem RowsP.keptTT {w w' : World} {base : Nat} {v : Value} {xss : List (List Int)} {P : Nat → Prop} (h : RowsP w base v xss P) (hT : KeptT 3 w w') (hT2 : KeptT 33 w w') : RowsP w' base v xss P := by
  obtain ⟨vs, h1, h2, h3⟩ := h
  refine ⟨vs, ⟨h1.1, ?_⟩, h2, fun j hj => ?_⟩
  · rcases h1.2 with e | ⟨g, cap, cur, hv, hbg, hg, r⟩
    · exact .inl e
    · exact .inr ⟨g, cap, cur, hv, hbg, hT2 g _ hg, r⟩
  · obtain ⟨A, c, a1, a2, a3⟩ := h3 j hj
    exact ⟨A, c, a1, a2.keptT hT, a3⟩
theorem Mblk.setT {w : World} {g : Nat} {a b c d : Value} (h : Mblk w g a b c d) (k : Nat) (v : Value) {t : TypeId} (ht : t ≠ 24) : KeptT t w (w.setCell ⟨g, k, none⟩ v) := by
  intro g' cs e
  refine (heap_setCell_other w ⟨g, k, none⟩ g' _ (fun H => ?_)).trans e
  have H : g' = g := H
  subst H
  have h2 := e.symm.trans h
  injection h2 with h2
  injection h2 with _ h3
  exact ht h3
/-- What holds between two rounds. -/
structure Rnf (w2 W : World) (bo gT n : Nat) (a b vo vN vO : Value) (L N : List Int) (M1 M2 : List (List Int)) : Prop where
  ord : Owned W bo vo L
  num : Owned W (bo + 1) (.slice (some ⟨bo + 1, 0, none⟩) n n) N
  box : Mblk W gT a b vN vO
  nxt : RowsP W gT vN M1 (fun g => vo.ownBlock ≠ some g)
  out : RowsP W gT vO M2 (fun g => vo.ownBlock ≠ some g)
  ap : Apart vN vO
  bel : Below bo w2 W
section
variable {w2 W : World} {bo gT n : Nat} {a b vo vN vO : Value} {L N X Y : List Int} {M1 M2 : List (List Int)}
theorem Rnf.put (h : Rnf w2 W bo gT n a b vo vN vO L N M1 M2) (hb : bo ≤ gT) {AX AY : Option Addr} {i cX cY : Nat} (hX : Owned W gT (.slice AX i cX) X) (hY : Owned W gT (.slice AY i cY) Y) (ax : Apart vo (.slice AX i cX)) (ay : Apart vo (.slice AY i cY)) (h1 : M1.length < 1759218604441) (h2 : M2.length < 1759218604441) :
    ∃ A c W1, (Builtin.append_ #[22, 22] 22 #[vN, .slice (some ⟨W.heap.size, 0, none⟩) 1 1]).run Try.prog (W.alloc (.cells #[.slice AX i cX] 33)) = .ok (.slice A (M1.length + 1) c) W1 ∧
      Rnf w2 (W1.setCell ⟨gT, 2, none⟩ (.slice A (M1.length + 1) c)) bo gT n a b vo (.slice A (M1.length + 1) c) vO L N (M1 ++ [X]) M2 ∧ Mblk W1 gT a b vN vO ∧
    ∃ B d W3, (Builtin.append_ #[22, 22] 22 #[vO, .slice (some ⟨W1.heap.size, 0, none⟩) 1 1]).run Try.prog ((W1.setCell ⟨gT, 2, none⟩ (.slice A (M1.length + 1) c)).alloc (.cells #[.slice AY i cY] 33)) = .ok (.slice B (M2.length + 1) d) W3 ∧
      Mblk W3 gT a b (.slice A (M1.length + 1) c) vO ∧ Rnf w2 (W3.setCell ⟨gT, 3, none⟩ (.slice B (M2.length + 1) d)) bo gT n a b vo (.slice A (M1.length + 1) c) (.slice B (M2.length + 1) d) L N (M1 ++ [X]) (M2 ++ [Y]) := by
  have hz := heap_lt h.box
  obtain ⟨A, c, W1, r1, R1, b1, t1, k1, m1⟩ := run_append_rows h.nxt hX (fun g e e2 => ax g e2 e) (fun g hg e => by have := (h.ord.lt g e).2; omega) (by omega) h1
  have ti := t1 3 (by decide)
  have B1 := h.box.keptT (t1 24 (by decide))
  have s1 := B1.setT 2 (.slice A (M1.length + 1) c) (t := 3) (by decide)
  have s2 := B1.setT 2 (.slice A (M1.length + 1) c) (t := 33) (by decide)
  have F : Rnf w2 (W1.setCell ⟨gT, 2, none⟩ (.slice A (M1.length + 1) c)) bo gT n a b vo (.slice A (M1.length + 1) c) vO L N (M1 ++ [X]) M2 :=
    ⟨(h.ord.keptT ti).keptT s1, (h.num.keptT ti).keptT s1, B1.set2 _, R1.keptTT s1 s2, (h.out.beside ti k1 h.ap).keptTT s1 s2, h.ap.moved m1 h.out.own, (h.bel.trans (b1.mono hb)).setCell (p := ⟨gT, 2, none⟩) hb _⟩
  refine ⟨A, c, W1, r1, F, B1, ?_⟩
  have hz2 := heap_lt F.box
  obtain ⟨B, d, W3, r3, R3, b3, t3, k3, m3⟩ := run_append_rows F.out ((hY.keptT ti).keptT s1) (fun g e e2 => ay g e2 e) (fun g hg e => by have := (F.ord.lt g e).2; omega) (by omega) h2
  rw [show (W1.setCell ⟨gT, 2, none⟩ (.slice A (M1.length + 1) c)).heap.size = W1.heap.size by simp] at r3
  have ti3 := t3 3 (by decide)
  have B3 := F.box.keptT (t3 24 (by decide))
  have u1 := B3.setT 3 (.slice B (M2.length + 1) d) (t := 3) (by decide)
  have u2 := B3.setT 3 (.slice B (M2.length + 1) d) (t := 33) (by decide)
  exact ⟨B, d, W3, r3, B3, (F.ord.keptT ti3).keptT u1, (F.num.keptT ti3).keptT u1, B3.set3 _, (F.nxt.beside ti3 k3 F.ap.symm).keptTT u1 u2, R3.keptTT u1 u2, (F.ap.symm.moved m3 F.nxt.own).symm, (F.bel.trans (b3.mono hb)).setCell (p := ⟨gT, 3, none⟩) hb _⟩
end
end Go.Proofs.Ytdedgpgdmnfijaa
end

section
/- The reference: Min. -/
namespace Go.Proofs.Ytdedgpgdmnfijaa
open Go.RowKit

set_option maxHeartbeats 2000000 in
theorem rmin_bad (i st : Int) (A B : Option Addr) (n c m d : Nat) (nx ot : List (List Int)) (w : World) (hx : Lists w A n nx) (ho : Lists w B m ot) (hv : ¬ vld i st nx ot = 0) :
    Calls Try.prog 15 #[.agg #[.int .i64 i, .int .i64 st, .slice A n c, .slice B m d]] w fun e w' => e = .returned (.tuple #[.agg #[.int .i64 0, .int .i64 0, .slice none 0 0, .slice none 0 0], .int .i64 (vld i st nx ot)]) ∧ Below w.heap.size w w' := by
  have hb0 := alloc_below w (.cells #[.int .i64 i, .int .i64 st, .slice A n c, .slice B m d] 24)
  have hb1 := bt hb0 (alloc_below (w.alloc (.cells #[.int .i64 i, .int .i64 st, .slice A n c, .slice B m d] 24)) (.cells #[.int .i64 0, .int .i64 0, .slice none 0 0, .slice none 0 0] 24))
  have hne : (vld i st nx ot != 0) = true := by simpa using hv
  go_enter Try.func15, Try.ntmps15
  go_wp2_with fail
  refine (rcls_bad _ _ _ _ _ _ _ _ _ _ _ (hx.below hb1) (ho.below hb1) hv).mono ?_
  rintro e w1 ⟨rfl, b1⟩
  have hR : Mblk w1 (w.heap.size + 1) (.int .i64 0) (.int .i64 0) (.slice none 0 0) (.slice none 0 0) := by
    refine Mblk.kept ?_ b1 (by simp)
    have := heap_alloc_new (w.alloc (.cells #[.int .i64 i, .int .i64 st, .slice A n c, .slice B m d] 24)) (.cells #[.int .i64 0, .int .i64 0, .slice none 0 0, .slice none 0 0] 24)
    simpa [Mblk] using this
  obtain ⟨c0, c1, c2, c3, f0, f1, f2, f3⟩ := hR.cells
  have HR := Lib.hid hR
  generalize hE : vld i st nx ot = E at hne hv
  have HE := Lib.hid hE
  clear hv hR hE
  go_wp2
  (try simp only [Exit.inBlock, Exit.then])
  refine bodyPost_ret (results_mealy rfl _ _ (w.heap.size + 1) (.int .i64 0) (.int .i64 0) (.slice none 0 0) (.slice none 0 0) rfl (HR.out.set4 _ _ _ _)) rfl ?_
  have hl : ∀ k, w.heap.size ≤ (⟨w.heap.size + 1, k, none⟩ : Addr).block := fun k => Nat.le_succ _
  exact ⟨by rw [HE.out]; rfl, (((((bt hb1 b1).setCell (hl 0) _).setCell (hl 1) _).setCell (hl 2) _).setCell (hl 3) _)⟩

theorem Owned.atBlock {w w' : World} {base g n c : Nat} {xs : List Int} (h : Owned w base (.slice (some ⟨g, 0, none⟩) n c) xs) (hk : w'.heap[g]? = w.heap[g]?) : Owned w' base (.slice (some ⟨g, 0, none⟩) n c) xs := by
  refine ⟨h.1, ?_⟩
  rcases h.2 with e | ⟨g', cap, cur, hv, hbg, hg, r⟩
  · exact .inl e
  · cases hv
    exact .inr ⟨g, _, cur, rfl, hbg, hk.trans hg, r⟩
theorem Owned.lenD {w : World} {base n c : Nat} {A : Option Addr} {xs : List Int} (h : Owned w base (.slice A n c) xs) : n = xs.length := by obtain ⟨A', c', e⟩ := h.form; cases e; rfl

set_option maxHeartbeats 8000000 in
set_option maxRecDepth 100000 in
theorem rmin_ok (i st n : Nat) (A B : Option Addr) (c d : Nat) (nx ot : List (List Int)) (w : World) (hx : Lists w A n nx) (ho : Lists w B n ot) (hM : Mok i st n nx ot) :
    Calls Try.prog 15 #[.agg #[.int .i64 i, .int .i64 st, .slice A n c, .slice B n d]] w fun e w' => ∃ A' c' B' d',
      e = .returned (.tuple #[.agg #[.int .i64 i, .int .i64 0, .slice A' (mnR nx ot i st n).length c', .slice B' (mnR nx ot i st n).length d'], .int .i64 0]) ∧
      OwnedL w' w.heap.size (.slice A' (mnR nx ot i st n).length c') (mnN nx ot i st n) ∧ OwnedL w' w.heap.size (.slice B' (mnR nx ot i st n).length d') (mnO nx ot i st n) ∧ Below w.heap.size w w' := by
  have hn := hx.2.1
  have hn2 := hM.n2
  have hn1 := hM.n1
  have hst := hM.st
  have hi64 := hM.i2
  have hlo := Lib.hid ho
  obtain ⟨w0, hw0⟩ : ∃ w0, w0 = (w.alloc (.cells #[.int .i64 i, .int .i64 st, .slice A n c, .slice B n d] 24)).alloc (.cells #[.int .i64 0, .int .i64 0, .slice none 0 0, .slice none 0 0] 24) := ⟨_, rfl⟩
  have hb1 : Below w.heap.size w w0 := by rw [hw0]; exact bt (alloc_below _ _) (alloc_below _ _)
  have hz0 : w0.heap.size = w.heap.size + 2 := by rw [hw0]; simp
  have hB0 : Mblk w0 w.heap.size (.int .i64 i) (.int .i64 st) (.slice A n c) (.slice B n d) := by
    rw [hw0]
    have := (alloc_below (w.alloc (.cells #[.int .i64 i, .int .i64 st, .slice A n c, .slice B n d] 24)) (.cells #[.int .i64 0, .int .i64 0, .slice none 0 0, .slice none 0 0] 24)).block w.heap.size (by simp)
    exact this.trans (heap_alloc_new w _)
  have hR0 : Mblk w0 (w.heap.size + 1) (.int .i64 0) (.int .i64 0) (.slice none 0 0) (.slice none 0 0) := by
    rw [hw0]
    have := heap_alloc_new (w.alloc (.cells #[.int .i64 i, .int .i64 st, .slice A n c, .slice B n d] 24)) (.cells #[.int .i64 0, .int .i64 0, .slice none 0 0, .slice none 0 0] 24)
    simpa [Mblk] using this
  have HW0 := Lib.hid hw0
  go_enter Try.func15, Try.ntmps15
  go_wp2_with fail
  rw [← HW0.out]
  clear hw0
  refine (rcls_ok _ _ _ _ _ _ _ _ _ _ (hx.below hb1) (ho.below hb1) hM).mono ?_
  rintro e w2 ⟨C, cc, rfl, hO, a2⟩
  have hI := Owned.ints hO (by rw [zs_len, pt_len]; exact hn)
  have HI := Lib.hid hI
  have HB2 := Lib.hid (hB0.kept a2 (by omega))
  have HR2 := Lib.hid (hR0.kept a2 (by omega))
  have hz2 := a2.size
  have hb2 := bt hb1 a2
  clear hO hI hB0 hR0 hb1 a2
  obtain ⟨bo, hbo⟩ : ∃ bo, bo = w2.heap.size := ⟨_, rfl⟩
  have HBO := Lib.hid hbo
  have hbo2 : w.heap.size + 2 ≤ bo := by omega
  obtain ⟨k0, k1, k2, k3, _⟩ := HB2.out.cells
  -- order and number
  obtain ⟨w3, hw3⟩ : ∃ w3, w3 = w2.alloc (.cells #[.int .i64 st] 3) := ⟨_, rfl⟩
  have a3 := alloc_below w2 (.cells #[.int .i64 st] 3)
  have O3 : Owned (w2.alloc (.cells #[.int .i64 st] 3)) bo (.slice (some ⟨w2.heap.size, 0, none⟩) 1 1) [(st : Int)] := Owned.literal w2 bo [(st : Int)] #[.int .i64 st] 1 (by omega) rfl rfl (by simp)
  rw [← hw3] at a3 O3
  have HW3 := Lib.hid hw3
  have hz3 : w3.heap.size = bo + 1 := by rw [hw3, hbo]; simp
  rw [← hbo] at O3 a3
  have HZ3 := Lib.hid hz3
  have kk := (HB2.out.kept a3 (by omega)).cells
  have e2 := kk.2.2.1
  rw [hw3] at e2
  have HO3 := Lib.hid O3
  have HA3 := Lib.hid a3
  clear hw3 hbo hz3 kk O3 a3
  go_wp2_with (refine wpList_make_ints _ rfl _ _ rfl .i64 .i64 n rfl rfl hn ?_; intro w4 ho4 b4)
  rw [← HW3.out] at ho4 b4
  rw [HZ3.out] at ho4 b4
  try rw [← HW3.out]
  try rw [HZ3.out]
  try rw [← HBO.out]
  clear e2 k0 k1 k2 k3
  have HO4 := Lib.hid (show Owned w4 bo (.slice (some ⟨bo, 0, none⟩) 1 1) [(st : Int)] from HO3.out.kept (by rw [HZ3.out]; exact b4))
  have HN4 := Lib.hid ho4
  have hb4 := HA3.out.trans (b4.mono (by omega))
  have HB4 := Lib.hid hb4
  have hz4 := b4.size
  rw [HZ3.out] at hz4
  clear ho4 b4 hb4 HO3 HA3
  go_wp2
  go_loopw [8] (fun v wr => ∃ k : Nat, k ≤ n ∧ v = .int .i64 k ∧ Owned wr (bo + 1) (.slice (some ⟨bo + 1, 0, none⟩) n n) ((List.replicate n (-1 : Int)).take k ++ List.replicate (n - k) 0) ∧ Below (bo + 1) w4 wr) (fun v _ => n - (intOf v).toNat)
  case atStart => exact ⟨0, Nat.zero_le _, rfl, by simpa using HN4.out, Below.refl _ _⟩
  case round =>
    obtain ⟨k, hk, rfl, hN, hbr⟩ := hrel
    by_cases hlt : k < n
    · have hset := mid_set (List.replicate n (-1 : Int)) n k (-1) (by simp) hlt (by simp [hlt])
      have hml := mid_len (List.replicate n (-1 : Int)) n k (by simp) (by omega)
      obtain ⟨bq, oq, eq, _, hcq⟩ := (hN.ints (by rw [hml]; omega)).at_ hlt
      cases eq
      obtain ⟨gq, eg, _, _, hfz⟩ := hN.head (by omega)
      cases eg
      have hf := hfz k
      rw [Nat.zero_add] at hcq
      have hs1 := hN.stored k (-1)
      rw [hset] at hs1
      have HS := Lib.hid (And.intro hs1 (hbr.setCell (p := ⟨bo + 1, k, none⟩) (Nat.le_refl _) (.int .i64 (-1))))
      clear hset hml hN hbr hs1 hfz
      go_wp2
      go_roundw
      case rel => exact ⟨k + 1, by omega, by go_num, HS.out.1, HS.out.2⟩
      case measure => simp [intOf]; omega
    · obtain rfl : n = k := by omega
      rw [List.take_of_length_le (by simp), Nat.sub_self, List.replicate_zero, List.append_nil, ← nbr_nil] at hN
      have hzr := hbr.size
      obtain ⟨q, hq⟩ : ∃ q : Nat → Nat, q = clq nx ot i n := ⟨_, rfl⟩
      have HQ := Lib.hid hq
      have hqs : q st < n := by rw [hq]; exact clq_ltn nx ot i hst
      have hQA := Lib.hid (show ∀ s, s < n → (zs (pt nx ot i n (dep nx ot i n))).getD s 0 = ((q s : Nat) : Int) from fun s hs => by rw [zs_at, hM.clq_at hs, hq])
      have hQL := Lib.hid (show ∀ s, s < n → q s < n from fun s hs => by rw [hq]; exact clq_ltn nx ot i hs)
      clear hq
      have hord : Owned wr bo (.slice (some ⟨bo, 0, none⟩) 1 1) [(st : Int)] := HO4.out.atBlock (hbr.block bo (by omega))
      have hbel : Below bo w2 wr := HB4.out.trans (hbr.mono (by omega))
      have hset := nbr_set (n := n) (c := q st) (L := []) (by simp)
      have hs1 := hN.stored (q st) 0
      have hset : (nbr n []).set (q st) 0 = nbr n [q st] := hset
      rw [hset] at hs1
      obtain ⟨bq, oq, eq, _, hcq⟩ := (hN.ints (by rw [nbr_len]; omega)).at_ hqs
      cases eq
      obtain ⟨gq, eg, _, _, hfz⟩ := hN.head (by omega)
      cases eg
      have hf := hfz (q st)
      rw [Nat.zero_add] at hcq
      obtain ⟨bc, oc, ec, hbc, hcc⟩ := HI.out.at_ hst
      subst ec
      rw [hQA.out st hst] at hcc
      have hcc := (hbel.cell (p := ⟨bc, oc + st, none⟩) (by rw [HBO.out]; exact hbc)).trans hcc
      obtain ⟨k0, k1, k2, k3, _⟩ := (HB2.out.kept hbel (by omega)).cells
      obtain ⟨w5, hw5⟩ : ∃ w5, w5 = wr.setCell ⟨bo + 1, q st, none⟩ (.int .i64 0) := ⟨_, rfl⟩
      have N5 : Owned w5 (bo + 1) (.slice (some ⟨bo + 1, 0, none⟩) n n) (nbr n [q st]) := by rw [hw5]; exact hs1
      have O5 : Owned w5 bo (.slice (some ⟨bo, 0, none⟩) 1 1) [(st : Int)] := by rw [hw5]; exact hord.atBlock (heap_setCell_other wr ⟨bo + 1, q st, none⟩ bo _ (by show bo ≠ bo + 1; omega))
      have B5 : Below bo w2 w5 := by rw [hw5]; exact hbel.setCell (p := ⟨bo + 1, q st, none⟩) (show bo ≤ bo + 1 by omega) _
      have HW5 := Lib.hid hw5
      have hz5 : w5.heap.size = wr.heap.size := by rw [hw5]; simp
      have C5 := (HB2.out.kept B5 (by omega)).cells
      have c50 := C5.1
      rw [hw5] at c50
      obtain ⟨gT, hgT⟩ : ∃ gT, gT = w5.heap.size := ⟨_, rfl⟩
      obtain ⟨w6, hw6⟩ : ∃ w6, w6 = w5.alloc (.cells #[.int .i64 i, .int .i64 0, .slice none 0 0, .slice none 0 0] 24) := ⟨_, rfl⟩
      have a6 := alloc_below w5 (.cells #[.int .i64 i, .int .i64 0, .slice none 0 0, .slice none 0 0] 24)
      have T6 := mealy_box w5 (.int .i64 i) (.int .i64 0) (.slice none 0 0) (.slice none 0 0)
      rw [← hw6] at a6 T6
      rw [← hgT] at T6
      have N6 := N5.kept a6
      have O6 := O5.kept a6
      have B6 : Below bo w2 w6 := B5.trans (a6.mono (by omega))
      have HW6 : Hid (w6 = (wr.setCell ⟨bo + 1, q st, none⟩ (.int .i64 0)).alloc (.cells #[.int .i64 i, .int .i64 0, .slice none 0 0, .slice none 0 0] 24)) := Lib.hid (by rw [hw6, hw5])
      have HN6 := Lib.hid N6
      have HO6 := Lib.hid O6
      have HB6 := Lib.hid B6
      have HT6 := Lib.hid T6
      have hgT2 : bo + 2 ≤ gT := by omega
      have HGT : Hid (gT = wr.heap.size) := Lib.hid (by rw [hgT, hz5])
      clear hN hbr hord hbel hset hs1 hfz hw5 N5 O5 B5 hz5 C5 hgT hw6 a6 T6 N6 O6 B6
      go_wp2
      try rw [← HW6.out]
      try rw [← HGT.out]
      clear k0 k1 k2 k3 hcq hf hcc c50
      have HS0 := Lib.hid (Srch.start hM)
      have HLEN := Lib.hid (fun j l => Srch.len (nx := nx) (ot := ot) (i := i) (st := st) (n := n) (j := j) (l := l))
      go_loopw [6, 10] (fun v6 v10 wr => ∃ (j : Nat) (l : List Nat) (Ao : Option Addr) (co : Nat) (AN : Option Addr) (cN : Nat) (AO : Option Addr) (cO : Nat), v10 = .int .i64 j ∧ v6 = .slice Ao l.length co ∧ Srch nx ot i st n j l ∧
        Owned wr bo (.slice Ao l.length co) (zs l) ∧ Owned wr (bo + 1) (.slice (some ⟨bo + 1, 0, none⟩) n n) (nbr n (l.map (clq nx ot i n))) ∧ (Value.slice Ao l.length co).ownBlock ≠ some (bo + 1) ∧
        Mblk wr gT (.int .i64 i) (.int .i64 0) (.slice AN j cN) (.slice AO j cO) ∧ RowsP wr gT (.slice AN j cN) ((mnN nx ot i st n).take j) (fun g => (Value.slice Ao l.length co).ownBlock ≠ some g) ∧ RowsP wr gT (.slice AO j cO) ((mnO nx ot i st n).take j) (fun g => (Value.slice Ao l.length co).ownBlock ≠ some g) ∧ Apart (.slice AN j cN) (.slice AO j cO) ∧ Below bo w2 wr) (fun _ v10 _ => n - (intOf v10).toNat)
      case atStart => exact ⟨0, [st], some ⟨bo, 0, none⟩, 1, none, 0, none, 0, rfl, rfl, HS0.out, HO6.out, by rw [show [st].map (clq nx ot i n) = [q st] by rw [HQ.out]; rfl]; exact HN6.out, by show some bo ≠ some (bo + 1); intro H; injection H with H; omega, HT6.out, RowsP.nil _ _ _, RowsP.nil _ _ _, Apart.nil _, HB6.out⟩
      case round =>
        obtain ⟨j, l, Ao, co, AN, cN, AO, cO, rfl, rfl, hS, hOrd, hNum, hong, hT, hRN, hRO, hap, hbr⟩ := hrel
        have hjl := hS.le
        have hln := hS.len
        have HS := Lib.hid hS
        have HORD := Lib.hid hOrd
        have HNUM := Lib.hid hNum
        have HONG := Lib.hid hong
        have HT := Lib.hid hT
        have HRN := Lib.hid hRN
        have HRO := Lib.hid hRO
        have HAP := Lib.hid hap
        have HBR := Lib.hid hbr
        clear hS hOrd hNum hong hT hRN hRO hap hbr
        have hzT := heap_lt HT.out
        by_cases hlt : j < l.length
        · obtain ⟨k0, k1, k2, k3, _⟩ := (HB2.out.kept HBR.out (show w.heap.size < bo by omega)).cells
          go_wp2
          clear k0 k1 k2 k3
          obtain ⟨wo, hwo⟩ : ∃ wo : World, wo = wr := ⟨_, rfl⟩
          rw [← hwo] at HORD HNUM HT HRN HRO HBR hzT ⊢
          clear hwo
          obtain ⟨s, hsd⟩ : ∃ s, s = l.getD j 0 := ⟨_, rfl⟩
          have hs : s < n := by rw [hsd]; exact HS.out.lt _ (getD_mem hlt)
          have HrN := Lib.hid (fun (a : Nat) (ha : a < i) => show ((mnN nx ot i st n).getD j []).take (a + 1) = ((mnN nx ot i st n).getD j []).take a ++ [((ixN ((oA nx ot i n s l (a + 1)).map (clq nx ot i n)) (clq nx ot i n (nN nx s a)) : Nat) : Int)] by rw [hsd]; exact HS.out.rowN hM hlt ha)
          have HrO0 := Lib.hid (fun (a : Nat) (ha : a < i) => show ((mnO nx ot i st n).getD j []).take (a + 1) = ((mnO nx ot i st n).getD j []).take a ++ [oN ot s a] by rw [hsd]; exact HS.out.rowO hM hlt ha)
          have hle1 := Lib.hid (HS.out.lens hM hlt).1
          have hle2 := Lib.hid (HS.out.lens hM hlt).2
          have HST := Lib.hid (show Srch nx ot i st n (j + 1) (oA nx ot i n s l i) by rw [hsd]; exact HS.out.step hM hlt)
          have HOL := Lib.hid (show ∀ a, a ≤ i → (oA nx ot i n s l a).length ≤ n from fun a ha => by
            obtain ⟨u, hu⟩ := oA_mono nx ot i n s l a (i - a)
            rw [show a + (i - a) = i by omega] at hu
            have h := HST.out.len
            rw [hu, List.length_append] at h
            omega)
          have HOJ := Lib.hid (show ∀ a, j < (oA nx ot i n s l a).length ∧ (oA nx ot i n s l a).getD j 0 = s from fun a => by
            obtain ⟨u, hu⟩ := oA_pre nx ot i n s l a
            rw [hu]
            exact ⟨by rw [List.length_append]; omega, by rw [getD_pre hlt, hsd]⟩)
          clear hsd
          have hbo9 : bo + 1 < wo.heap.size := by omega
          go_loopw [6, 11, 12, 13] (fun v6 v11 v12 v13 wq => ∃ (a : Nat) (A1 : Option Addr) (c1 : Nat) (AX : Option Addr) (cX : Nat) (AY : Option Addr) (cY : Nat), a ≤ i ∧ v13 = .int .i64 a ∧ v6 = .slice A1 (oA nx ot i n s l a).length c1 ∧ v11 = .slice AX a cX ∧ v12 = .slice AY a cY ∧
            Rnd w2 wo bo (bo + 1) n (.slice Ao l.length co) wq (.slice A1 (oA nx ot i n s l a).length c1) (.slice AX a cX) (.slice AY a cY) (zs (oA nx ot i n s l a)) (nbr n ((oA nx ot i n s l a).map (clq nx ot i n))) (((mnN nx ot i st n).getD j []).take a) (((mnO nx ot i st n).getD j []).take a)) (fun _ _ _ v13 _ => i - (intOf v13).toNat)
          case atStart => exact ⟨0, Ao, co, none, 0, none, 0, Nat.zero_le _, rfl, rfl, rfl, rfl, ⟨HORD.out, HNUM.out, HONG.out, Owned.nil _ _, Owned.nil _ _, Apart.nil _, (Apart.nil _).symm, (Apart.nil _).symm, fun g o e _ _ => e, .inl rfl, HBR.out, Nat.le_refl _⟩⟩
          case round =>
            obtain ⟨a, A1, c1, AX, cX, AY, cY, ha, rfl, rfl, rfl, rfl, H⟩ := hrel
            have hbW : Below w.heap.size w wr := hb2.trans (H.bel.mono (by omega))
            obtain ⟨k0, k1, k2, k3, _⟩ := (HB2.out.kept H.bel (show w.heap.size < bo by omega)).cells
            by_cases hla : a < i
            · have HHH := Lib.hid H
              have ht := hM.nN_lt hs hla
              have hlo1 := (HOL.out a ha)
              obtain ⟨hj1, hj2⟩ := HOJ.out a
              obtain ⟨g1, o1, A3, n1, c3, eA, hg1, hd1, hr1⟩ := hx.at_ hs
              have hi1 := (hM.row s hs).1
              have m1 := hr1.1
              obtain rfl : n1 = i := by omega
              obtain ⟨b1, p1, eA3, hbb1, hv1⟩ := hr1.at_ hla
              subst eA eA3
              rw [hM.nN_eq hs hla] at hv1
              have hd1 := (hbW.cell (p := ⟨g1, o1 + s, none⟩) hg1).trans hd1
              have hv1 := (hbW.cell (p := ⟨b1, p1 + a, none⟩) hbb1).trans hv1
              have hoi := H.ord.ints (by rw [zs_len]; omega)
              obtain ⟨bO, oO, eO, hbO, hcO⟩ := hoi.at_ hj1
              rw [zs_at, hj2] at hcO
              subst eO
              have j1 : (0 : Int) ≤ (j : Int) := by omega
              have j2 : (j : Int) < (((oA nx ot n1 n s l a).length : Nat) : Int) := by omega
              have j3 : (0 : Int) ≤ (s : Int) := by omega
              have j4 : (s : Int) < (n : Int) := by omega
              have j5 : (0 : Int) ≤ (a : Int) := by omega
              have j6 : (a : Int) < (n1 : Int) := by omega
              clear H hoi
              go_upto_region 19 with fail
              go_cut [14] from 62 to 72 (fun v wx => v = .int .i64 (nN nx s a) ∧ Rnd w2 wo bo (bo + 1) n (.slice Ao l.length co) wx (.slice (some ⟨bO, oO, none⟩) (oA nx ot n1 n s l a).length c1) (.slice AX a cX) (.slice AY a cY) (zs (oA nx ot n1 n s l a)) (nbr n ((oA nx ot n1 n s l a).map (clq nx ot n1 n))) (((mnN nx ot n1 st n).getD j []).take a) (((mnO nx ot n1 st n).getD j []).take a))
              case first =>
                go_quiet (fail)
                go_wp2_with fail
                go_meet
                exact ⟨rfl, HHH.out.drew _⟩
              case rest =>
                obtain ⟨rfl, H⟩ := hcut
                have HOJ2 := Lib.hid (HOJ.out (a + 1)).2
                have HrO := Lib.hid (HrO0.out a hla)
                have HrX := Lib.hid (HrN.out a hla)
                have hlX : (((mnN nx ot n1 st n).getD j []).take a).length = a := by rw [List.length_take, hle1.out]; omega
                have hI9 : Ints wc (some ⟨bc, oc, none⟩) n (zs (pt nx ot n1 n (dep nx ot n1 n))) := HI.out.below (by rw [← HBO.out]; exact H.bel)
                obtain ⟨_, _, ecc, _, hcls⟩ := hI9.at_ ht
                cases ecc
                rw [hQA.out _ ht, HQ.out] at hcls
                have hcn : clq nx ot n1 n (nN nx s a) < n := clq_ltn nx ot n1 ht
                obtain ⟨_, _, enn, _, hnum⟩ := (H.num.ints (by rw [nbr_len]; omega)).at_ hcn
                cases enn
                rw [nbr_at hcn, Nat.zero_add] at hnum
                obtain ⟨q1, hq1⟩ : ∃ q1, q1 = (oA nx ot n1 n s l a).length := ⟨_, rfl⟩
                rw [← hq1] at H hj1 hlo1 ⊢
                have HQ1 := Lib.hid hq1
                clear k0 k1 k2 k3 hd1 hv1 hcO hbO hI9 j1 j2 j3 j4 j5 j6 hq1
                have HTI := Lib.hid (show ((nN nx s a : Nat) : Int) = ((nN nx s a : Nat) : Int) from rfl)
                by_cases hin : clq nx ot n1 n (nN nx s a) ∈ (oA nx ot n1 n s l a).map (clq nx ot n1 n)
                · have HEQ := Lib.hid (oA_in hin)
                  have HL2 := Lib.hid (show (oA nx ot n1 n s l (a + 1)).length = q1 by rw [HEQ.out, HQ1.out])
                  rw [if_pos hin] at hnum
                  rw [← HEQ.out] at hnum H
                  have hv0 : (0 : Int) ≤ ((ixN ((oA nx ot n1 n s l (a + 1)).map (clq nx ot n1 n)) (clq nx ot n1 n (nN nx s a)) : Nat) : Int) := by omega
                  obtain ⟨AX2, cX2, W1, hrn, H1⟩ := H.next (show bo ≤ wo.heap.size by omega) hbo9 ((ixN ((oA nx ot n1 n s l (a + 1)).map (clq nx ot n1 n)) (clq nx ot n1 n (nN nx s a)) : Nat) : Int) (by rw [hlX]; omega)
                  rw [hlX] at hrn H1
                  rw [← HrX.out] at H1
                  have HH1 := Lib.hid H1
                  generalize ((ixN ((oA nx ot n1 n s l (a + 1)).map (clq nx ot n1 n)) (clq nx ot n1 n (nN nx s a)) : Nat) : Int) = vv at hnum hv0 hrn
                  generalize clq nx ot n1 n (nN nx s a) = cq at hcls hcn hnum
                  clear H H1 hin
                  go_wp2_with (at_builtin; refine Lib.wpList_append_run _ rfl _ _ _ _ rfl _ _ rfl rfl _ _ hrn ?_)
                  have H1 := HH1.out
                  clear HH1 hrn hnum hcls hv0
                  have HJ2 := HOJ2
                  obtain ⟨F, hF⟩ := H1.outs (show bo ≤ wo.heap.size by omega) (show bo + 1 < wo.heap.size by omega) (oN ot s a) (by rw [List.length_take]; omega)
                  have hlY : (((mnO nx ot n1 st n).getD j []).take a).length = a := by rw [List.length_take, hle2.out]; omega
                  rw [hlY, ← HrO.out] at hF
                  have HF := Lib.hid hF
                  have hbW1 : Below w.heap.size w W1 := hb2.trans (H1.bel.mono (by omega))
                  obtain ⟨k0, k1, k2, k3, _⟩ := (HB2.out.kept H1.bel (show w.heap.size < bo by omega)).cells
                  obtain ⟨g2, o2, A4, n2, c4, eB, hg2, hd2, hr2⟩ := hlo.out.at_ hs
                  have hi2 := (hM.row s hs).2.1
                  have m2 := hr2.1
                  obtain rfl : n1 = n2 := by omega
                  obtain ⟨b2, p2, eA4, hbb2, hv2⟩ := hr2.at_ hla
                  subst eB eA4
                  have hd2 := (hbW1.cell (p := ⟨g2, o2 + s, none⟩) hg2).trans hd2
                  have hv2 := (hbW1.cell (p := ⟨b2, p2 + a, none⟩) hbb2).trans hv2
                  have r2 : (ot.getD s []).getD a 0 = oN ot s a := rfl
                  rw [r2] at hv2
                  have hlo2 := HOL.out (a + 1) (by omega)
                  have hoi := H1.ord.ints (by rw [zs_len]; omega)
                  obtain ⟨bO, oO, eO, hbO, hcO⟩ := hoi.at_ (k := j) (by omega)
                  rw [zs_at, HJ2.out] at hcO
                  first | subst eO | cases eO
                  have hoF := (HF.out 1).2.1.ord.ints (by rw [zs_len]; omega)
                  obtain ⟨_, _, eO, _, hcF⟩ := hoF.at_ (k := j) (by omega)
                  cases eO
                  rw [zs_at, HJ2.out] at hcF
                  have hbF := (HF.out 1).2.2
                  have lk : w.heap.size < bo := by omega
                  have HSa := Lib.hid (show ∀ W : World, Below W1.heap.size W1 W → W.cell? ⟨w.heap.size, 3, none⟩ = some (.slice (some ⟨g2, o2, none⟩) n d) ∧ W.cell? ⟨bO, oO + j, none⟩ = some (.int .i64 s) ∧ W.cell? ⟨g2, o2 + s, none⟩ = some (.slice (some ⟨b2, p2, none⟩) n1 c4) ∧ W.cell? ⟨b2, p2 + a, none⟩ = some (.int .i64 (oN ot s a)) from fun W h =>
                    ⟨(h.cell (p := ⟨w.heap.size, 3, none⟩) (block_lt k3)).trans k3, (h.cell (p := ⟨bO, oO + j, none⟩) hbO).trans hcO, (h.cell (p := ⟨g2, o2 + s, none⟩) (block_lt hd2)).trans hd2, (h.cell (p := ⟨b2, p2 + a, none⟩) (block_lt hv2)).trans hv2⟩)
                  have HSb := Lib.hid (show (F 1).2.cell? ⟨w.heap.size, 3, none⟩ = some (.slice (some ⟨g2, o2, none⟩) n d) ∧ (F 1).2.cell? ⟨bO, oO + j, none⟩ = some (.int .i64 s) ∧ (F 1).2.cell? ⟨g2, o2 + s, none⟩ = some (.slice (some ⟨b2, p2, none⟩) n1 c4) ∧ (F 1).2.cell? ⟨b2, p2 + a, none⟩ = some (.int .i64 (oN ot s a)) from
                    ⟨(hbF.cell (p := ⟨w.heap.size, 3, none⟩) lk).trans k3, hcF, (hbF.cell (p := ⟨g2, o2 + s, none⟩) (by show g2 < bo; omega)).trans hd2, (hbF.cell (p := ⟨b2, p2 + a, none⟩) (by show b2 < bo; omega)).trans hv2⟩)
                  have hbc1 : Below W1.heap.size W1 W1.drew := (Below.refl _ W1).drew
                  have hbc2 : Below W1.heap.size W1 (W1.drew.alloc (.cells #[.int .i64 (oN ot s a)] 3)) := hbc1.trans (alloc_below W1.drew _)
                  have j1 : (0 : Int) ≤ (j : Int) := by omega
                  have j2 : (j : Int) < (q1 : Int) := by omega
                  have j2' : (j : Int) < (q1 : Int) + 1 := by omega
                  have j3 : (0 : Int) ≤ (s : Int) := by omega
                  have j4 : (s : Int) < (n : Int) := by omega
                  have j5 : (0 : Int) ≤ (a : Int) := by omega
                  have j6 : (a : Int) < (n1 : Int) := by omega
                  have HLN := Lib.hid (show j + 1 ≤ l.length by omega)
                  have HAA := Lib.hid hla
                  clear hF hoi hoF hcF hbF hbW1 r2 m2 hi2
                  generalize oN ot s a = y at hv2 HSa HSb HF hbc2
                  go_wp2
                  go_region_held3 (fun w' => w'.cell? ⟨w.heap.size, 3, none⟩ = some (.slice (some ⟨g2, o2, none⟩) n d) ∧ w'.cell? ⟨bO, oO + j, none⟩ = some (.int .i64 s) ∧ w'.cell? ⟨g2, o2 + s, none⟩ = some (.slice (some ⟨b2, p2, none⟩) n1 c4) ∧ w'.cell? ⟨b2, p2 + a, none⟩ = some (.int .i64 y)) (first | exact HSa.out _ hbc1 | exact HSa.out _ hbc2 | exact HSb.out) ((refine step_append_run rfl _ _ _ _ rfl _ _ rfl rfl _ _ (HF.out 1).1 ?_))
                  go_wp2
                  go_roundw
                  case rel => exact ⟨a + 1, _, _, _, _, _, _, by omega, by go_num, by rw [HL2.out], rfl, rfl, by rw [HL2.out]; exact (HF.out 1).2.1⟩
                  case measure => simp [intOf]; omega
                · have HEQ := Lib.hid (oA_out hin)
                  have HL2 := Lib.hid (show (oA nx ot n1 n s l (a + 1)).length = q1 + 1 by rw [HEQ.out, HQ1.out, List.length_append]; rfl)
                  rw [if_neg hin] at hnum
                  obtain ⟨gq, eg, _, _, hfz⟩ := H.num.head (by omega)
                  cases eg
                  have hfq := hfz (clq nx ot n1 n (nN nx s a))
                  have HS1 := H.store (show bo ≤ bo + 1 by omega) hbo9 (clq nx ot n1 n (nN nx s a)) (q1 : Int)
                  have hset := nbr_set (n := n) hin
                  rw [List.length_map, ← HQ1.out] at hset
                  rw [hset] at HS1
                  have hmp : (oA nx ot n1 n s l a).map (clq nx ot n1 n) ++ [clq nx ot n1 n (nN nx s a)] = (oA nx ot n1 n s l (a + 1)).map (clq nx ot n1 n) := by rw [HEQ.out, List.map_append]; rfl
                  rw [hmp] at HS1
                  obtain ⟨A2, c2, W2, hrp, HS2⟩ := HS1.push (show bo ≤ wo.heap.size by omega) hbo9 ((nN nx s a : Nat) : Int) (by rw [zs_len, ← HQ1.out]; omega)
                  have hzs : zs (oA nx ot n1 n s l a) ++ [((nN nx s a : Nat) : Int)] = zs (oA nx ot n1 n s l (a + 1)) := by rw [HEQ.out]; unfold zs; rw [List.map_append]; rfl
                  rw [hzs] at HS2
                  rw [zs_len, ← HQ1.out] at hrp HS2
                  have hnum2 := (HS2.num.ints (by rw [nbr_len]; omega)).at_ hcn
                  obtain ⟨_, _, enn, _, hnum2⟩ := hnum2
                  cases enn
                  rw [nbr_at hcn, Nat.zero_add, if_pos oA_has] at hnum2
                  obtain ⟨AX2, cX2, W1, hrn, H1⟩ := HS2.next (show bo ≤ wo.heap.size by omega) hbo9 ((ixN ((oA nx ot n1 n s l (a + 1)).map (clq nx ot n1 n)) (clq nx ot n1 n (nN nx s a)) : Nat) : Int) (by rw [hlX]; omega)
                  have hI10 : Ints W2 (some ⟨bc, oc, none⟩) n (zs (pt nx ot n1 n (dep nx ot n1 n))) := HI.out.below (by rw [← HBO.out]; exact HS2.bel)
                  obtain ⟨_, _, ecc, _, hcls2⟩ := hI10.at_ ht
                  cases ecc
                  rw [hQA.out _ ht, HQ.out] at hcls2
                  rw [hlX] at hrn H1
                  rw [← HrX.out] at H1
                  have HH1 := Lib.hid H1
                  generalize ((ixN ((oA nx ot n1 n s l (a + 1)).map (clq nx ot n1 n)) (clq nx ot n1 n (nN nx s a)) : Nat) : Int) = vv at hnum2 hrn
                  generalize clq nx ot n1 n (nN nx s a) = cq at hcls hcn hnum hcls2 hnum2 hfq hrp
                  clear H H1 HS1 HS2 hset hmp hzs hfz hin hI10
                  generalize (some (⟨bO, oO, none⟩ : Addr)) = A1' at hrp ⊢
                  rw [show (wc.setCell ⟨bo + 1, cq, none⟩ (.int .i64 q1)).heap.size = wc.heap.size by simp] at hrp
                  go_wp2_with (at_builtin; first | (refine Lib.wpList_append_run _ rfl _ _ _ _ rfl _ _ rfl rfl _ _ hrp ?_; clear hrp) | (refine Lib.wpList_append_run _ rfl _ _ _ _ rfl _ _ rfl rfl _ _ hrn ?_))
                  have H1 := HH1.out
                  clear HH1 hrn hnum hcls hcls2 hnum2 hfq
                  have HJ2 := HOJ2
                  obtain ⟨F, hF⟩ := H1.outs (show bo ≤ wo.heap.size by omega) (show bo + 1 < wo.heap.size by omega) (oN ot s a) (by rw [List.length_take]; omega)
                  have hlY : (((mnO nx ot n1 st n).getD j []).take a).length = a := by rw [List.length_take, hle2.out]; omega
                  rw [hlY, ← HrO.out] at hF
                  have HF := Lib.hid hF
                  have hbW1 : Below w.heap.size w W1 := hb2.trans (H1.bel.mono (by omega))
                  obtain ⟨k0, k1, k2, k3, _⟩ := (HB2.out.kept H1.bel (show w.heap.size < bo by omega)).cells
                  obtain ⟨g2, o2, A4, n2, c4, eB, hg2, hd2, hr2⟩ := hlo.out.at_ hs
                  have hi2 := (hM.row s hs).2.1
                  have m2 := hr2.1
                  obtain rfl : n1 = n2 := by omega
                  obtain ⟨b2, p2, eA4, hbb2, hv2⟩ := hr2.at_ hla
                  subst eB eA4
                  have hd2 := (hbW1.cell (p := ⟨g2, o2 + s, none⟩) hg2).trans hd2
                  have hv2 := (hbW1.cell (p := ⟨b2, p2 + a, none⟩) hbb2).trans hv2
                  have r2 : (ot.getD s []).getD a 0 = oN ot s a := rfl
                  rw [r2] at hv2
                  have hlo2 := HOL.out (a + 1) (by omega)
                  have hoi := H1.ord.ints (by rw [zs_len]; omega)
                  obtain ⟨bO, oO, eO, hbO, hcO⟩ := hoi.at_ (k := j) (by omega)
                  rw [zs_at, HJ2.out] at hcO
                  first | subst eO | cases eO
                  have hoF := (HF.out 1).2.1.ord.ints (by rw [zs_len]; omega)
                  obtain ⟨_, _, eO, _, hcF⟩ := hoF.at_ (k := j) (by omega)
                  cases eO
                  rw [zs_at, HJ2.out] at hcF
                  have hbF := (HF.out 1).2.2
                  have lk : w.heap.size < bo := by omega
                  have HSa := Lib.hid (show ∀ W : World, Below W1.heap.size W1 W → W.cell? ⟨w.heap.size, 3, none⟩ = some (.slice (some ⟨g2, o2, none⟩) n d) ∧ W.cell? ⟨bO, oO + j, none⟩ = some (.int .i64 s) ∧ W.cell? ⟨g2, o2 + s, none⟩ = some (.slice (some ⟨b2, p2, none⟩) n1 c4) ∧ W.cell? ⟨b2, p2 + a, none⟩ = some (.int .i64 (oN ot s a)) from fun W h =>
                    ⟨(h.cell (p := ⟨w.heap.size, 3, none⟩) (block_lt k3)).trans k3, (h.cell (p := ⟨bO, oO + j, none⟩) hbO).trans hcO, (h.cell (p := ⟨g2, o2 + s, none⟩) (block_lt hd2)).trans hd2, (h.cell (p := ⟨b2, p2 + a, none⟩) (block_lt hv2)).trans hv2⟩)
                  have HSb := Lib.hid (show (F 1).2.cell? ⟨w.heap.size, 3, none⟩ = some (.slice (some ⟨g2, o2, none⟩) n d) ∧ (F 1).2.cell? ⟨bO, oO + j, none⟩ = some (.int .i64 s) ∧ (F 1).2.cell? ⟨g2, o2 + s, none⟩ = some (.slice (some ⟨b2, p2, none⟩) n1 c4) ∧ (F 1).2.cell? ⟨b2, p2 + a, none⟩ = some (.int .i64 (oN ot s a)) from
                    ⟨(hbF.cell (p := ⟨w.heap.size, 3, none⟩) lk).trans k3, hcF, (hbF.cell (p := ⟨g2, o2 + s, none⟩) (by show g2 < bo; omega)).trans hd2, (hbF.cell (p := ⟨b2, p2 + a, none⟩) (by show b2 < bo; omega)).trans hv2⟩)
                  have hbc1 : Below W1.heap.size W1 W1.drew := (Below.refl _ W1).drew
                  have hbc2 : Below W1.heap.size W1 (W1.drew.alloc (.cells #[.int .i64 (oN ot s a)] 3)) := hbc1.trans (alloc_below W1.drew _)
                  have j1 : (0 : Int) ≤ (j : Int) := by omega
                  have j2 : (j : Int) < (q1 : Int) := by omega
                  have j2' : (j : Int) < (q1 : Int) + 1 := by omega
                  have j3 : (0 : Int) ≤ (s : Int) := by omega
                  have j4 : (s : Int) < (n : Int) := by omega
                  have j5 : (0 : Int) ≤ (a : Int) := by omega
                  have j6 : (a : Int) < (n1 : Int) := by omega
                  have HLN := Lib.hid (show j + 1 ≤ l.length by omega)
                  have HAA := Lib.hid hla
                  clear hF hoi hoF hcF hbF hbW1 r2 m2 hi2
                  generalize oN ot s a = y at hv2 HSa HSb HF hbc2
                  go_wp2
                  go_region_held3 (fun w' => w'.cell? ⟨w.heap.size, 3, none⟩ = some (.slice (some ⟨g2, o2, none⟩) n d) ∧ w'.cell? ⟨bO, oO + j, none⟩ = some (.int .i64 s) ∧ w'.cell? ⟨g2, o2 + s, none⟩ = some (.slice (some ⟨b2, p2, none⟩) n1 c4) ∧ w'.cell? ⟨b2, p2 + a, none⟩ = some (.int .i64 y)) (first | exact HSa.out _ hbc1 | exact HSa.out _ hbc2 | exact HSb.out) ((refine step_append_run rfl _ _ _ _ rfl _ _ rfl rfl _ _ (HF.out 1).1 ?_))
                  go_wp2
                  go_roundw
                  case rel => exact ⟨a + 1, _, _, _, _, _, _, by omega, by go_num, by rw [HL2.out], rfl, rfl, by rw [HL2.out]; exact (HF.out 1).2.1⟩
                  case measure => simp [intOf]; omega
            · have HHH := Lib.hid H
              have e : a = i := by omega
              have hX := H.nxt.lower (base' := gT) (by omega)
              have hY := H.out.lower (base' := gT) (by omega)
              rw [List.take_of_length_le (by rw [hle1.out]; omega)] at hX
              rw [List.take_of_length_le (by rw [hle2.out]; omega)] at hY
              obtain ⟨hT9, hN9⟩ := H.rows HORD.out hgT2 HT.out HRN.out
              obtain ⟨_, hO9⟩ := H.rows HORD.out hgT2 HT.out HRO.out
              have hjR := (HS.out.at_ hlt).1
              have hj1 : j < (mnN nx ot i st n).length := by rw [mnN_len]; exact hjR
              have hj2 : j < (mnO nx ot i st n).length := by simpa [mnO, trO] using hjR
              have hF : Rnf w2 wr bo gT n (.int .i64 i) (.int .i64 0) (.slice A1 (oA nx ot i n s l a).length c1) (.slice AN j cN) (.slice AO j cO) (zs (oA nx ot i n s l a)) (nbr n ((oA nx ot i n s l a).map (clq nx ot i n))) ((mnN nx ot i st n).take j) ((mnO nx ot i st n).take j) := ⟨H.ord, H.num, hT9, hN9, hO9, HAP.out, H.bel⟩
              have hl1 : ((mnN nx ot i st n).take j).length = j := by rw [List.length_take]; omega
              have hl2 : ((mnO nx ot i st n).take j).length = j := by rw [List.length_take]; omega
              have hn9 := HLEN.out _ _ HS.out
              obtain ⟨A9, c9, W9, r1, F1, B1, B9, d9, W8, r3, B3, F3⟩ := hF.put (by omega) hX hY H.aox H.aoy (by rw [hl1]; omega) (by rw [hl2]; omega)
              rw [hl1] at r1 F1 r3 B3 F3
              rw [hl2] at r3 F3
              rw [takeL hj1, takeL hj2] at F3
              have HF3 := Lib.hid F3
              have HEI := Lib.hid e
              have HB1 := Lib.hid B1
              have HB3 := Lib.hid B3
              have HONG2 := Lib.hid H.ong
              obtain ⟨t0, t1, t2, t3, f0, f1, f2, f3⟩ := hT9.cells
              obtain ⟨p0, p1, p2, p3, g0, g1, g2, g3⟩ := B1.cells
              obtain ⟨q0, q1, q2, q3, e0, e1, e2, e3⟩ := B3.cells
              clear e hT9 hN9 hO9 F1 B1 B3 F3 H hX hY hF hl1 hl2 k1 k2 k3 t0 t1 f0 f1 p0 p1 g0 g1 q0 q1 q2 e0 e1 e2
              go_wp2_with (at_builtin; first | (refine Lib.wpList_append_run _ rfl _ _ _ _ rfl _ _ rfl rfl _ _ r1 ?_; clear r1) | go_loud (refine Lib.wpList_append_run _ rfl _ _ _ _ rfl _ _ rfl rfl _ _ r3 ?_))
              go_roundw
              case rel =>
                rw [HEI.out] at HF3 HONG2
                exact ⟨j + 1, oA nx ot i n s l i, A1, c1, A9, c9, B9, d9, by go_num, by rw [HEI.out], HST.out, HF3.out.ord, HF3.out.num, HONG2.out, HF3.out.box, HF3.out.nxt, HF3.out.out, HF3.out.ap, HF3.out.bel⟩
              case measure => simp [intOf]; omega
        · have hend : (mnR nx ot i st n).length = j := by
            have h1 := HS.out.end_ hlt
            rw [← h1, List.length_map]
            omega
          have hN := HRN.out.own
          have hO := HRO.out.own
          rw [List.take_of_length_le (by rw [mnN_len]; omega)] at hN
          rw [List.take_of_length_le (by simp [mnO, trO]; omega)] at hO
          have HEND := Lib.hid hend
          clear hend
          obtain ⟨t0, t1, t2, t3, f0, f1, f2, f3⟩ := HT.out.cells
          have hR3 := HR2.out.kept HBR.out (show w.heap.size + 1 < bo by omega)
          have b3 : Below w.heap.size w wr := hb2.trans (HBR.out.mono (by omega))
          obtain ⟨y0, y1, y2, y3, z0, z1, z2, z3⟩ := hR3.cells
          have hl : ∀ k, w.heap.size ≤ (⟨w.heap.size + 1, k, none⟩ : Addr).block := fun k => Nat.le_succ _
          have hfb := Lib.hid (((((b3.setCell (hl 0) (.int .i64 i)).setCell (hl 1) (.int .i64 0)).setCell (hl 2) (.slice AN j cN)).setCell (hl 3) (.slice AO j cO)))
          have hR4 := Lib.hid (hR3.set4 (.int .i64 i) (.int .i64 0) (.slice AN j cN) (.slice AO j cO))
          have hq1 := hR3
          have hq2 : Mblk (wr.setCell ⟨w.heap.size + 1, 0, none⟩ (.int .i64 i)) (w.heap.size + 1) _ _ _ _ := heap_setCell_same wr _ 0 _ _ _ hq1
          have hq3 : Mblk ((wr.setCell ⟨w.heap.size + 1, 0, none⟩ (.int .i64 i)).setCell ⟨w.heap.size + 1, 1, none⟩ (.int .i64 0)) (w.heap.size + 1) _ _ _ _ := heap_setCell_same _ _ 1 _ _ _ hq2
          have hq4 : Mblk (((wr.setCell ⟨w.heap.size + 1, 0, none⟩ (.int .i64 i)).setCell ⟨w.heap.size + 1, 1, none⟩ (.int .i64 0)).setCell ⟨w.heap.size + 1, 2, none⟩ (.slice AN j cN)) (w.heap.size + 1) _ _ _ _ := heap_setCell_same _ _ 2 _ _ _ hq3
          have hN10 := Lib.hid (((((hN.offM hq1 (.int .i64 i) (j := 0)).offM hq2 (.int .i64 0) (j := 1)).offM hq3 (.slice AN j cN) (j := 2)).offM hq4 (.slice AO j cO) (j := 3)).lower (base' := w.heap.size) (by omega))
          have hO10 := Lib.hid (((((hO.offM hq1 (.int .i64 i) (j := 0)).offM hq2 (.int .i64 0) (j := 1)).offM hq3 (.slice AN j cN) (j := 2)).offM hq4 (.slice AO j cO) (j := 3)).lower (base' := w.heap.size) (by omega))
          clear hR3 hq1 hq2 hq3 hq4 hN hO hl
          go_wp2
          (try simp only [Exit.inBlock, Exit.then])
          refine bodyPost_ret (results_mealy rfl _ _ (w.heap.size + 1) _ _ _ _ rfl hR4.out) rfl ?_
          rw [HEND.out]
          exact ⟨AN, cN, AO, cO, rfl, hN10.out, hO10.out, hfb.out⟩
end Go.Proofs.Ytdedgpgdmnfijaa
end

section
/- The reference: Minimal. -/
namespace Go.Proofs.Ytdedgpgdmnfijaa
open Go.RowKit

theorem rminl_bad (i st : Int) (A B : Option Addr) (n c m d : Nat) (nx ot : List (List Int)) (w : World) (hx : Lists w A n nx) (ho : Lists w B m ot) (hv : ¬ vld i st nx ot = 0) :
    Calls Try.prog 18 #[.agg #[.int .i64 i, .int .i64 st, .slice A n c, .slice B m d]] w fun e w' => e = .returned (.bool false) ∧ Below w.heap.size w w' := by
  have hb0 := alloc_below w (.cells #[.int .i64 i, .int .i64 st, .slice A n c, .slice B m d] 24)
  have hne : (vld i st nx ot == 0) = false := by simpa using hv
  go_enter Try.func18, Try.ntmps18
  go_wp2_with fail
  refine (rmin_bad _ _ _ _ _ _ _ _ _ _ _ (hx.below hb0) (ho.below hb0) hv).mono ?_
  rintro e w1 ⟨rfl, b1⟩
  have b1 := bt hb0 b1
  generalize hE : vld i st nx ot = E at hne hv
  have HE := Lib.hid hE
  clear hv hE
  go_wp2
  go_ret
  exact ⟨rfl, bt b1 (alloc_below _ _)⟩
set_option maxHeartbeats 1000000 in
theorem rminl_ok (i st n : Nat) (A B : Option Addr) (c d : Nat) (nx ot : List (List Int)) (b : Bool) (w : World) (hx : Lists w A n nx) (ho : Lists w B n ot) (hM : Mok i st n nx ot) (hb : b = decide ((mnR nx ot i st n).length = n)) :
    Calls Try.prog 18 #[.agg #[.int .i64 i, .int .i64 st, .slice A n c, .slice B n d]] w fun e w' => e = .returned (.bool b) ∧ Below w.heap.size w w' := by
  have hb0 := alloc_below w (.cells #[.int .i64 i, .int .i64 st, .slice A n c, .slice B n d] 24)
  have HBX := Lib.hid (mealy_box w (.int .i64 i) (.int .i64 st) (.slice A n c) (.slice B n d))
  obtain ⟨L, hL⟩ : ∃ L, L = (mnR nx ot i st n).length := ⟨_, rfl⟩
  have HL := Lib.hid hL
  rw [← hL] at hb
  have HB := Lib.hid hb
  have hd : ((L : Int) == (n : Int)) = b := by
    rw [HB.out]
    by_cases e : L = n
    · subst e; simp
    · rw [decide_eq_false e, beq_eq_false_iff_ne]; omega
  clear hL hb
  go_enter Try.func18, Try.ntmps18
  go_wp2_with fail
  refine (rmin_ok _ _ _ _ _ _ _ _ _ _ (hx.below hb0) (ho.below hb0) hM).mono ?_
  rintro e w1 ⟨A1, c1, B1, d1, rfl, hN, hO, b1⟩
  rw [← HL.out]
  have hB2 := (HBX.out.kept b1 (by simp)).kept (alloc_below w1 (.cells #[.int .i64 i, .int .i64 0, .slice A1 L c1, .slice B1 L d1] 24)) (by have := heap_lt (HBX.out.kept b1 (by simp)); exact this)
  obtain ⟨k0, k1, k2, k3, _⟩ := hB2.cells
  have b1 := bt hb0 b1
  have HD := Lib.hid hd
  clear hN hO hd
  cases b
  all_goals
    have hd := HD.out
    clear HD
    go_wp2
    go_ret
    exact ⟨rfl, bt b1 (alloc_below _ _)⟩
end Go.Proofs.Ytdedgpgdmnfijaa
end

section
/- The law MinimizeMins: the walk. -/
namespace Go.Proofs.Ytdedgpgdmnfijaa
open Go.RowKit

theorem lists_none8 (w : World) : Lists w none 0 [] := ⟨rfl, Nat.zero_le _, fun h => absurd h (by omega)⟩
set_option maxHeartbeats 8000000 in
set_option maxRecDepth 100000 in
theorem mins8_walk (i st : Int) (A B : Option Addr) (n c m d : Nat) (nx ot : List (List Int)) (w : World) (hx : Lists w A n nx) (ho : Lists w B m ot) :
    Calls Try.prog 3 #[.agg #[.int .i64 i, .int .i64 st, .slice A n c, .slice B m d]] w fun e w' => e = .returned (.bool true) ∧ Below w.heap.size w w' := by
  have hb0 := alloc_below w (.cells #[.int .i64 i, .int .i64 st, .slice A n c, .slice B m d] 24)
  have HB0 := Lib.hid (mealy_box w (.int .i64 i) (.int .i64 st) (.slice A n c) (.slice B m d))
  have hx0 := hx.below hb0
  have ho0 := ho.below hb0
  go_enter Try.func3, Try.ntmps3
  go_wp2_with fail
  refine (rgreat8 _ _ _ _ _ _ _ _ _ _ _ hx0 ho0).mono ?_
  rintro e w1 ⟨b, rfl, a1⟩
  have HB1 := Lib.hid (HB0.out.on a1)
  obtain ⟨k0, k1, k2, k3, _⟩ := HB1.out.cells
  have hx1 := hx0.below a1
  have ho1 := ho0.below a1
  have b1 := bt hb0 a1
  clear a1
  clear hx0 ho0 hb0 HB0
  cases b
  · by_cases hv : vld i st nx ot = 0
    · obtain ⟨i', st', n', rfl, rfl, hM⟩ := vld_zero hv
      have e1 := hx.1
      have e2 := ho.1
      have e3 := hM.nxl
      have e4 := hM.otl
      obtain rfl : n = n' := by omega
      obtain rfl : n = m := by omega
      clear e1 e2 e3 e4 hv
      have hn := hx.2.1
      have hMn := hM.mn
      obtain ⟨N1, hN1⟩ : ∃ N1, N1 = mnN nx ot i' st' n := ⟨_, rfl⟩
      obtain ⟨N2, hN2⟩ : ∃ N2, N2 = mnO nx ot i' st' n := ⟨_, rfl⟩
      obtain ⟨L, hL⟩ : ∃ L, L = (mnR nx ot i' st' n).length := ⟨_, rfl⟩
      obtain ⟨bm, hbm⟩ : ∃ bm, bm = decide ((mnR nx ot i' st' n).length = n) := ⟨_, rfl⟩
      rw [← hN1, ← hN2, ← hL] at hMn
      have HL := Lib.hid hL
      have HN1 := Lib.hid hN1
      have HN2 := Lib.hid hN2
      have HBM := Lib.hid hbm
      clear hL hN1 hN2 hbm
      go_wp2_with fail
      refine (pmin_ok _ _ _ _ _ _ _ _ _ _ hx1 ho1 hM).mono ?_
      rintro e w3 ⟨A3, c3, B3, d3, rfl, hO3, hQ3, a3⟩
      rw [← HL.out, ← HN1.out] at hO3
      rw [← HL.out, ← HN2.out] at hQ3
      rw [← HL.out]
      have x3 := lists_ownedM hMn hO3
      have y3 := lists_ownedO hMn hQ3
      have HB3 := Lib.hid (HB1.out.on a3)
      have hx3 := hx1.below a3
      have ho3 := ho1.below a3
      have b3 := bt b1 a3
      clear hO3 hQ3 k0 k1 k2 k3 hx1 ho1 b1 a3
      obtain ⟨w4, hw4⟩ : ∃ w4, w4 = w3.alloc (.cells #[.int .i64 i', .int .i64 0, .slice A3 L c3, .slice B3 L d3] 24) := ⟨_, rfl⟩
      have a4 := alloc_below w3 (.cells #[.int .i64 i', .int .i64 0, .slice A3 L c3, .slice B3 L d3] 24)
      have Y4 := mealy_box w3 (.int .i64 i') (.int .i64 0) (.slice A3 L c3) (.slice B3 L d3)
      rw [← hw4] at a4 Y4
      have HW4 := Lib.hid hw4
      have HB4 := Lib.hid (HB3.out.on a4)
      have HY4 := Lib.hid Y4
      have hx4 := hx3.below a4
      have ho4 := ho3.below a4
      have x4 := x3.below a4
      have y4 := y3.below a4
      have b4 := bt b3 a4
      have kk := HB4.out
      obtain ⟨k0, k1, k2, k3, _⟩ := kk.cells
      rw [HW4.out] at k0 k1 k2 k3
      clear hw4 Y4 hx3 ho3 x3 y3 b3 a4 kk
      go_wp2_with fail
      try rw [← HW4.out]
      refine (rmin_ok _ _ _ _ _ _ _ _ _ _ hx4 ho4 hM).mono ?_
      rintro e w5 ⟨A5, c5, B5, d5, rfl, hO5, hQ5, a5⟩
      rw [← HL.out, ← HN1.out] at hO5
      rw [← HL.out, ← HN2.out] at hQ5
      rw [← HL.out]
      have x5 := lists_ownedM hMn hO5
      have y5 := lists_ownedO hMn hQ5
      have HB5 := Lib.hid (HB4.out.on a5)
      have HY5 := Lib.hid (HY4.out.on a5)
      have hx5 := hx4.below a5
      have ho5 := ho4.below a5
      have u5 := x4.below a5
      have v5 := y4.below a5
      have b5 := bt b4 a5
      clear hO5 hQ5 k0 k1 k2 k3 hx4 ho4 x4 y4 b4 a5
      obtain ⟨w6, hw6⟩ : ∃ w6, w6 = w5.alloc (.cells #[.int .i64 i', .int .i64 0, .slice A5 L c5, .slice B5 L d5] 24) := ⟨_, rfl⟩
      have a6 := alloc_below w5 (.cells #[.int .i64 i', .int .i64 0, .slice A5 L c5, .slice B5 L d5] 24)
      have Z6 := mealy_box w5 (.int .i64 i') (.int .i64 0) (.slice A5 L c5) (.slice B5 L d5)
      rw [← hw6] at a6 Z6
      have HW6 := Lib.hid hw6
      have HB6 := Lib.hid (HB5.out.on a6)
      have HY6 := Lib.hid (HY5.out.on a6)
      have HZ6 := Lib.hid Z6
      have hx6 := hx5.below a6
      have ho6 := ho5.below a6
      have u6 := u5.below a6
      have v6 := v5.below a6
      have x6 := x5.below a6
      have y6 := y5.below a6
      have b6 := bt b5 a6
      have HS := Lib.hid (show ∀ W : World, Below w6.heap.size w6 W → W.cell? ⟨w3.heap.size, 0, none⟩ = some (.int .i64 i') ∧ W.cell? ⟨w3.heap.size, 1, none⟩ = some (.int .i64 0) ∧ W.cell? ⟨w3.heap.size, 2, none⟩ = some (.slice A3 L c3) ∧ W.cell? ⟨w3.heap.size, 3, none⟩ = some (.slice B3 L d3) ∧ W.cell? ⟨w5.heap.size, 0, none⟩ = some (.int .i64 i') ∧ W.cell? ⟨w5.heap.size, 1, none⟩ = some (.int .i64 0) ∧ W.cell? ⟨w5.heap.size, 2, none⟩ = some (.slice A5 L c5) ∧ W.cell? ⟨w5.heap.size, 3, none⟩ = some (.slice B5 L d5) ∧ W.cell? ⟨w.heap.size, 0, none⟩ = some (.int .i64 i') ∧ W.cell? ⟨w.heap.size, 1, none⟩ = some (.int .i64 st') ∧ W.cell? ⟨w.heap.size, 2, none⟩ = some (.slice A n c) ∧ W.cell? ⟨w.heap.size, 3, none⟩ = some (.slice B n d) from fun W h => by
        obtain ⟨k0, k1, k2, k3, _⟩ := (HB6.out.on h).cells
        obtain ⟨y0, y1, y2, y3, _⟩ := (HY6.out.on h).cells
        obtain ⟨z0, z1, z2, z3, _⟩ := (HZ6.out.on h).cells
        exact ⟨y0, y1, y2, y3, z0, z1, z2, z3, k0, k1, k2, k3⟩)
      have HXR := Lib.hid (fun W h => hx6.below (w' := W) h)
      have HOR := Lib.hid (fun W h => ho6.below (w' := W) h)
      have HU := Lib.hid (fun W h => u6.below (w' := W) h)
      have HV := Lib.hid (fun W h => v6.below (w' := W) h)
      have HX := Lib.hid (fun W h => x6.below (w' := W) h)
      have HY := Lib.hid (fun W h => y6.below (w' := W) h)
      have hbc : Below w6.heap.size w6 w6.drew := (Below.refl _ w6).drew
      have hee : (bm == bm) = true := by simp
      clear hw6 Z6 hx5 ho5 u5 v5 x5 y5 b5 a6 hx6 ho6 u6 v6 x6 y6
      go_wp2
      try rw [← HW6.out]
      go_region_held3 (fun W => W.cell? ⟨w3.heap.size, 0, none⟩ = some (.int .i64 i') ∧ W.cell? ⟨w3.heap.size, 1, none⟩ = some (.int .i64 0) ∧ W.cell? ⟨w3.heap.size, 2, none⟩ = some (.slice A3 L c3) ∧ W.cell? ⟨w3.heap.size, 3, none⟩ = some (.slice B3 L d3) ∧ W.cell? ⟨w5.heap.size, 0, none⟩ = some (.int .i64 i') ∧ W.cell? ⟨w5.heap.size, 1, none⟩ = some (.int .i64 0) ∧ W.cell? ⟨w5.heap.size, 2, none⟩ = some (.slice A5 L c5) ∧ W.cell? ⟨w5.heap.size, 3, none⟩ = some (.slice B5 L d5) ∧ W.cell? ⟨w.heap.size, 0, none⟩ = some (.int .i64 i') ∧ W.cell? ⟨w.heap.size, 1, none⟩ = some (.int .i64 st') ∧ W.cell? ⟨w.heap.size, 2, none⟩ = some (.slice A n c) ∧ W.cell? ⟨w.heap.size, 3, none⟩ = some (.slice B n d)) (first | exact HS.out _ hbc) (first
        | (go_at_call 16; refine (rsamem i' 0 i' 0 A3 B3 A5 B5 L c3 L d3 L c5 L d5 N1 N2 N1 N2 true _ (HU.out _ hbc) (HV.out _ hbc) (HX.out _ hbc) (HY.out _ hbc) (by simp)).mono ?_; rintro e w' ⟨rfl, b'⟩; have hbc := bt hbc b')
        | (go_at_call 17; refine (pminl_ok i' st' n A B c d nx ot bm _ (HXR.out _ hbc) (HOR.out _ hbc) hM HBM.out).mono ?_; rintro e w' ⟨rfl, b'⟩; have hbc := bt hbc b')
        | (go_at_call 18; refine (rminl_ok i' st' n A B c d nx ot bm _ (HXR.out _ hbc) (HOR.out _ hbc) hM HBM.out).mono ?_; rintro e w' ⟨rfl, b'⟩; have hbc := bt hbc b')
        | (go_at_call 13; refine (awake8 _).mono ?_; rintro e w' ⟨rfl, b'⟩; have hbc := bt hbc b'))
      all_goals
        go_wp2
        go_ret
        exact ⟨rfl, bt b6 hbc⟩
    · go_wp2_with fail
      refine (pmin_bad _ _ _ _ _ _ _ _ _ _ _ hx1 ho1 hv).mono ?_
      rintro e w3 ⟨rfl, a3⟩
      have HB3 := Lib.hid (HB1.out.on a3)
      have hx3 := hx1.below a3
      have ho3 := ho1.below a3
      have b3 := bt b1 a3
      clear k0 k1 k2 k3 hx1 ho1 b1 a3
      obtain ⟨w4, hw4⟩ : ∃ w4, w4 = w3.alloc (.cells #[.int .i64 0, .int .i64 0, .slice none 0 0, .slice none 0 0] 24) := ⟨_, rfl⟩
      have a4 := alloc_below w3 (.cells #[.int .i64 0, .int .i64 0, .slice none 0 0, .slice none 0 0] 24)
      have Y4 := mealy_box w3 (.int .i64 0) (.int .i64 0) (.slice none 0 0) (.slice none 0 0)
      rw [← hw4] at a4 Y4
      have HW4 := Lib.hid hw4
      have HB4 := Lib.hid (HB3.out.on a4)
      have HY4 := Lib.hid Y4
      have hx4 := hx3.below a4
      have ho4 := ho3.below a4
      have b4 := bt b3 a4
      have kk := HB4.out
      obtain ⟨k0, k1, k2, k3, _⟩ := kk.cells
      rw [HW4.out] at k0 k1 k2 k3
      have HV := Lib.hid hv
      have hne : (vld i st nx ot != 0) = true := by simpa using hv
      generalize hE : vld i st nx ot = E
      rw [hE] at hne
      have HE := Lib.hid hE
      clear hw4 Y4 hx3 ho3 b3 a4 kk hv hE
      go_wp2_with fail
      try rw [← HW4.out]
      refine (rmin_bad _ _ _ _ _ _ _ _ _ _ _ hx4 ho4 HV.out).mono ?_
      rintro e w5 ⟨rfl, a5⟩
      rw [HE.out]
      have HB5 := Lib.hid (HB4.out.on a5)
      have HY5 := Lib.hid (HY4.out.on a5)
      have hx5 := hx4.below a5
      have ho5 := ho4.below a5
      have b5 := bt b4 a5
      clear k0 k1 k2 k3 hx4 ho4 b4 a5
      obtain ⟨w6, hw6⟩ : ∃ w6, w6 = w5.alloc (.cells #[.int .i64 0, .int .i64 0, .slice none 0 0, .slice none 0 0] 24) := ⟨_, rfl⟩
      have a6 := alloc_below w5 (.cells #[.int .i64 0, .int .i64 0, .slice none 0 0, .slice none 0 0] 24)
      have Z6 := mealy_box w5 (.int .i64 0) (.int .i64 0) (.slice none 0 0) (.slice none 0 0)
      rw [← hw6] at a6 Z6
      have HW6 := Lib.hid hw6
      have HB6 := Lib.hid (HB5.out.on a6)
      have HY6 := Lib.hid (HY5.out.on a6)
      have HZ6 := Lib.hid Z6
      have hx6 := hx5.below a6
      have ho6 := ho5.below a6
      have b6 := bt b5 a6
      have HS := Lib.hid (show ∀ W : World, Below w6.heap.size w6 W → W.cell? ⟨w3.heap.size, 0, none⟩ = some (.int .i64 0) ∧ W.cell? ⟨w3.heap.size, 1, none⟩ = some (.int .i64 0) ∧ W.cell? ⟨w3.heap.size, 2, none⟩ = some (.slice none 0 0) ∧ W.cell? ⟨w3.heap.size, 3, none⟩ = some (.slice none 0 0) ∧ W.cell? ⟨w5.heap.size, 0, none⟩ = some (.int .i64 0) ∧ W.cell? ⟨w5.heap.size, 1, none⟩ = some (.int .i64 0) ∧ W.cell? ⟨w5.heap.size, 2, none⟩ = some (.slice none 0 0) ∧ W.cell? ⟨w5.heap.size, 3, none⟩ = some (.slice none 0 0) ∧ W.cell? ⟨w.heap.size, 0, none⟩ = some (.int .i64 i) ∧ W.cell? ⟨w.heap.size, 1, none⟩ = some (.int .i64 st) ∧ W.cell? ⟨w.heap.size, 2, none⟩ = some (.slice A n c) ∧ W.cell? ⟨w.heap.size, 3, none⟩ = some (.slice B m d) from fun W h => by
        obtain ⟨k0, k1, k2, k3, _⟩ := (HB6.out.on h).cells
        obtain ⟨y0, y1, y2, y3, _⟩ := (HY6.out.on h).cells
        obtain ⟨z0, z1, z2, z3, _⟩ := (HZ6.out.on h).cells
        exact ⟨y0, y1, y2, y3, z0, z1, z2, z3, k0, k1, k2, k3⟩)
      have HXR := Lib.hid (fun W h => hx6.below (w' := W) h)
      have HOR := Lib.hid (fun W h => ho6.below (w' := W) h)
      have hbc : Below w6.heap.size w6 w6.drew := (Below.refl _ w6).drew
      have hee : (E == E) = true := by simp
      clear hw6 Z6 hx5 ho5 b5 a6 hx6 ho6
      go_wp2
      try rw [← HW6.out]
      go_region_held3 (fun W => W.cell? ⟨w3.heap.size, 0, none⟩ = some (.int .i64 0) ∧ W.cell? ⟨w3.heap.size, 1, none⟩ = some (.int .i64 0) ∧ W.cell? ⟨w3.heap.size, 2, none⟩ = some (.slice none 0 0) ∧ W.cell? ⟨w3.heap.size, 3, none⟩ = some (.slice none 0 0) ∧ W.cell? ⟨w5.heap.size, 0, none⟩ = some (.int .i64 0) ∧ W.cell? ⟨w5.heap.size, 1, none⟩ = some (.int .i64 0) ∧ W.cell? ⟨w5.heap.size, 2, none⟩ = some (.slice none 0 0) ∧ W.cell? ⟨w5.heap.size, 3, none⟩ = some (.slice none 0 0) ∧ W.cell? ⟨w.heap.size, 0, none⟩ = some (.int .i64 i) ∧ W.cell? ⟨w.heap.size, 1, none⟩ = some (.int .i64 st) ∧ W.cell? ⟨w.heap.size, 2, none⟩ = some (.slice A n c) ∧ W.cell? ⟨w.heap.size, 3, none⟩ = some (.slice B m d)) (first | exact HS.out _ hbc) (first
        | (go_at_call 16; refine (rsamem 0 0 0 0 none none none none 0 0 0 0 0 0 0 0 [] [] [] [] true _ (lists_none8 _) (lists_none8 _) (lists_none8 _) (lists_none8 _) (by simp)).mono ?_; rintro e w' ⟨rfl, b'⟩; have hbc := bt hbc b')
        | (go_at_call 17; refine (pminl_bad i st A B n c m d nx ot _ (HXR.out _ hbc) (HOR.out _ hbc) HV.out).mono ?_; rintro e w' ⟨rfl, b'⟩; have hbc := bt hbc b')
        | (go_at_call 18; refine (rminl_bad i st A B n c m d nx ot _ (HXR.out _ hbc) (HOR.out _ hbc) HV.out).mono ?_; rintro e w' ⟨rfl, b'⟩; have hbc := bt hbc b')
        | (go_at_call 13; refine (awake8 _).mono ?_; rintro e w' ⟨rfl, b'⟩; have hbc := bt hbc b'))
      all_goals
        go_wp2
        go_ret
        exact ⟨rfl, bt b6 hbc⟩
  · go_wp2_with fail
    refine (awake8 _).mono ?_
    rintro e w2 ⟨rfl, b2⟩
    have b2 := bt b1 b2
    go_wp2
    go_ret
    exact ⟨rfl, b2⟩
end Go.Proofs.Ytdedgpgdmnfijaa
end
