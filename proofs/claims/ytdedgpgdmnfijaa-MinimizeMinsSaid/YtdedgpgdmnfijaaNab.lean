/- Lemmas of the proofs of this seat, of the parts Runm, Reachm, Kept, OwnL, Trimp, Fromp, Fromm, Outsr, Trimm, Numk, Sgnm, Rfin. Conditions: none. -/
import Derived.Test.YtdedgpgdmnfijaaNaa
import Derived.Lib.SliceRun
import Derived.Maps.AppendAt
import Derived.Deep.RegionLaw
import Derived.Maps.OwnSet
import Derived.Maps.Views
import Derived.DeepKeys4
import Derived.Deep.MidRow
import Derived.Deep.RegionHeld3
section
/- run, From, Run and Step of a machine. -/
namespace Go.Proofs.Ytdedgpgdmnfijaa
open Go.RowKit

theorem Ints.one (w : World) (x : Int) : Ints (w.alloc (.cells #[.int .i64 x] 3)) (some ⟨w.heap.size, 0, none⟩) 1 [x] := Ints.new w [x] _ 1 rfl rfl (by simp)

theorem Rnr.kept {w w' : World} {g : Nat} {i st : Int} {A B : Option Addr} {n c m d s : Nat} (h : Rnr w g i st A n c B m d s) {b : Nat} (hb : Below b w w') (hg : g < b) : Rnr w' g i st A n c B m d s := (hb.block g hg).trans h

/-- append of one number to a row of one's own; the runner's block is another. -/
theorem run_append_one {w : World} {base : Nat} {v : Value} {xs : List Int} (h : Owned w base v xs) (x : Int) (hbase : base ≤ w.heap.size) (hl : xs.length < 17592186044416) :
    ∃ A c w', (Builtin.append_ #[33, 33] 33 #[v, .slice (some ⟨w.heap.size, 0, none⟩) 1 1]).run Try.prog (w.alloc (.cells #[.int .i64 x] 3)) = .ok (.slice A (xs.length + 1) c) w' ∧
      Owned w' base (.slice A (xs.length + 1) c) (xs ++ [x]) ∧ Below base w w' ∧ ∀ (g : Nat) (t : TypeId) (cs : Array Value), w.heap[g]? = some (Obj.cells cs t (0, 0)) → t ≠ 3 → w'.heap[g]? = some (Obj.cells cs t (0, 0)) := by
  have hbz := alloc_below w (.cells #[.int .i64 x] 3)
  obtain ⟨v', w', hr, ho', hg, hbel⟩ := run_append_ints _ _ _ _ _ _ _ 1 (h.kept hbz) (Ints.one w x) (Nat.le_trans hbase hbz.size) (by simp; omega)
  obtain ⟨A, c, rfl⟩ := ho'.form
  rw [List.length_append] at hr ho'
  refine ⟨A, c, w', hr, ho', (hbz.mono hbase).trans hbel, fun g t cs hc ht => ?_⟩
  have hlt : g < w.heap.size := by
    rcases Nat.lt_or_ge g w.heap.size with hlt | hge
    · exact hlt
    · rw [Array.getElem?_eq_none hge] at hc; cases hc
  rw [hg.block g (by simp; omega) ?_, hbz.block g hlt]
  · exact hc
  · intro e
    rcases h.2 with ⟨rfl, _⟩ | ⟨g', cap, cur, rfl, _, hh, _⟩
    · cases e
    · have : g = g' := by simpa [Value.ownBlock] using e
      subst this
      rw [hc] at hh
      injection hh with hh
      injection hh with _ h2 _
      exact ht h2

theorem Rnr.set {w : World} {g : Nat} {i st : Int} {A B : Option Addr} {n c m d s : Nat} (h : Rnr w g i st A n c B m d s) (t q : Nat) : Rnr ((w.setCell ⟨g, 4, none⟩ (.int .i64 t)).drewN q) g i st A n c B m d t := by
  have := heap_setCell_same w g 4 _ _ (Value.int .i64 t) h
  exact this
theorem Owned.off {w : World} {base g : Nat} {v : Value} {xs : List Int} {t : TypeId} {cs : Array Value} (h : Owned w base v xs) (hg : w.heap[g]? = some (.cells cs t (0, 0))) (ht : t ≠ 3) (k : Nat) (u : Value) (q : Nat) : Owned ((w.setCell ⟨g, k, none⟩ u).drewN q) base v xs := by
  refine ⟨h.1, ?_⟩
  rcases h.2 with e | ⟨g', cap, cur, hv, hbg, hh, r⟩
  · exact .inl e
  · refine .inr ⟨g', cap, cur, hv, hbg, ?_, r⟩
    show (w.setCell ⟨g, k, none⟩ u).heap[g']? = _
    rw [heap_setCell_other _ _ _ _ ?_]
    · exact hh
    · show g' ≠ g
      intro e
      subst e
      rw [hg] at hh
      injection hh with hh
      injection hh with _ h2 _
      exact ht h2

set_option maxHeartbeats 2000000 in
set_option maxRecDepth 100000 in
theorem prun {W w : World} {g : Nat} {i st n : Nat} {A B D : Option Addr} {c d s k e : Nat} {nx ot : List (List Int)} {xs : List Int} (hM : Mok i st n nx ot) (hx : Lists W A n nx) (ho : Lists W B n ot) (hb : Below W.heap.size W w)
    (hR : Rnr w g i st A n c B n d s) (hg : W.heap.size ≤ g) (hs : s < n) (hD : Ints W D k xs) (hS : ∀ x, x ∈ xs → 0 ≤ x ∧ x < i) :
    Calls Try.prog 68 #[.pointer (some ⟨g, 0, none⟩), .slice D k e] w fun e w' => ∃ A' c', e = .returned (.slice A' k c') ∧ Owned w' W.heap.size (.slice A' k c') (runO nx ot s xs) ∧ Below W.heap.size W w' ∧ Rnr w' g i st A n c B n d (runS nx s xs) := by
  have L := Lib.hid hD.1
  have hk := hD.2.1
  have HS := Lib.hid hS
  have HR := Lib.hid hR
  clear hS hR
  have hrn : (96 : TypeId) ≠ 3 := by decide
  go_enter Try.func68, Try.ntmps68
  go_wp2
  go_loopw [5, 10] (fun v j wr => ∃ (q : Nat) (A' : Option Addr) (c' : Nat), q ≤ k ∧ j = .int .i64 q ∧ v = .slice A' q c' ∧ Owned wr W.heap.size (.slice A' q c') (runO nx ot s (xs.take q)) ∧ Below W.heap.size W wr ∧ Rnr wr g i st A n c B n d (runS nx s (xs.take q))) (fun _ j _ => k - (intOf j).toNat)
  case atStart => exact ⟨0, none, 0, Nat.zero_le _, rfl, rfl, Owned.nil _ _, hb, HR.out⟩
  case round =>
    obtain ⟨q, A', c', hq, rfl, rfl, hown, hbr, hR⟩ := hrel
    by_cases hlt : q < k
    · obtain ⟨b1, o1, rfl, _, hc1⟩ := (hD.below hbr).at_ hlt
      have hxm := HS.out (xs.getD q 0) (by rw [List.getD_eq_getElem?_getD, List.getElem?_eq_getElem (by rw [L.out]; exact hlt)]; exact List.getElem_mem _)
      have hO := Lib.hid (runO_next (nx := nx) (ot := ot) (s := s) (j := q) (xs := xs) (by rw [L.out]; exact hlt))
      have hT := Lib.hid (runS_next (nx := nx) (s := s) (j := q) (xs := xs) (by rw [L.out]; exact hlt))
      rw [show xs[q]?.getD 0 = xs.getD q 0 by simp] at hO hT
      generalize xs.getD q 0 = x at hc1 hxm hO hT
      obtain ⟨a, rfl⟩ : ∃ a : Nat, x = a := ⟨x.toNat, by omega⟩
      have ha : a < i := by omega
      rw [Int.toNat_natCast] at hO hT
      have hlast := hM.runS_lt (xs.take q) s hs (fun x hx => HS.out x (List.mem_of_mem_take hx))
      generalize hss : runS nx s (xs.take q) = s' at hR hO hT hlast
      have hlen : (runO nx ot s (xs.take q)).length = q := by rw [runO_len, List.length_take, L.out]; omega
      generalize runO nx ot s (xs.take q) = os at hown hO hlen
      have HL := Lib.hid hlen
      have HSS := Lib.hid hss
      have HRR := Lib.hid hR
      clear hss hlen
      have hset : ∀ q', Rnr ((wr.setCell ⟨g, 4, none⟩ (.int .i64 (nN nx s' a))).drewN q') g i st A n c B n d (nN nx s' a) := fun q' => hR.set (nN nx s' a) q'
      have HSET := Lib.hid hset
      have hoff : ∀ q', Owned ((wr.setCell ⟨g, 4, none⟩ (.int .i64 (nN nx s' a))).drewN q') W.heap.size (.slice A' q c') os := fun q' => hown.off hR hrn 4 _ q'
      have HOFF := Lib.hid hoff
      have hbs : ∀ q', Below W.heap.size W ((wr.setCell ⟨g, 4, none⟩ (.int .i64 (nN nx s' a))).drewN q') := fun q' => below_drewN (hbr.setCell (p := ⟨g, 4, none⟩) hg _) q'
      have HBS := Lib.hid hbs
      clear hset hoff hbs hR
      go_wp2_with fail
      refine (pstep hM hx ho hbr HRR.out hlast ha).mono ?_
      rintro e w1 ⟨rfl, q1, rfl⟩
      have h1 := HOFF.out q1
      have h2 := HBS.out q1
      have h3 := HSET.out q1
      clear HOFF HBS HSET
      generalize (wr.setCell ⟨g, 4, none⟩ (.int .i64 (nN nx s' a))).drewN q1 = w1 at h1 h2 h3 ⊢
      obtain ⟨A2, c2, w2, hr, ho2, hb2, hk2⟩ := run_append_one h1 (oN ot s' a) h2.size (by rw [HL.out]; omega)
      rw [← hO.out] at ho2
      rw [HL.out] at hr ho2
      have h4 := Lib.hid (hk2 g _ _ h3 hrn)
      clear hk2
      go_wp2_with (at_builtin; refine Lib.wpList_append_run _ rfl _ _ _ _ rfl _ _ rfl rfl _ _ hr ?_)
      go_roundw
      case rel => exact ⟨q + 1, A2, c2, by omega, by go_num, rfl, ho2, h2.trans hb2, by rw [hT.out]; exact h4.out⟩
      case measure => simp [intOf]; omega
    · obtain rfl : q = k := by omega
      have hall := Lib.hid (List.take_of_length_le (l := xs) (i := q) (by rw [L.out]; exact Nat.le_refl _))
      go_wp2
      go_ret
      rw [hall.out] at hown hR
      exact ⟨_, _, rfl, hown, hbr, hR⟩
end Go.Proofs.Ytdedgpgdmnfijaa
end

section
/- Reach of a machine. -/
namespace Go.Proofs.Ytdedgpgdmnfijaa
open Go.RowKit

theorem infob : (Try.prog.info? 4).map (fun i => (i.zero, i.size, i.bytes)) = some (some (.bool false), 1, 1) := by kernel_rfl

/-- The row of the seen states. -/
def Seen (w : World) (g : Nat) (bs : List Bool) : Prop := w.heap[g]? = some (.cells (bs.map Value.bool).toArray 4 (0, 0))
theorem Seen.at_ {w : World} {g : Nat} {bs : List Bool} (h : Seen w g bs) {x : Nat} (hx : x < bs.length) : w.cell? ⟨g, x, none⟩ = some (.bool (bs.getD x false)) ∧ w.frozen? ⟨g, x, none⟩ = false := by
  refine ⟨?_, frozen_of_row w g x _ _ h⟩
  rw [cell_of_row w g x _ _ (0, 0) h]
  simp [List.getD, hx]
theorem Seen.set {w : World} {g : Nat} {bs : List Bool} (h : Seen w g bs) (x : Nat) (b : Bool) : Seen (w.setCell ⟨g, x, none⟩ (.bool b)) g (bs.set x b) := by
  have := heap_setCell_same w g x _ _ (Value.bool b) h
  unfold Seen
  rw [this]
  simp [List.map_set]
theorem Seen.of_below {w w' : World} {g : Nat} {bs : List Bool} (h : Seen w g bs) {b : Nat} (hb : Below b w w') (hg : g < b) : Seen w' g bs := (hb.block g hg).trans h

theorem made_bools (n : Nat) : madeCells (Value.bool false).cells (n * 1) = ((List.replicate n false).map Value.bool).toArray := by
  apply Array.ext'
  rw [show (Value.bool false).cells = #[Value.bool false] from rfl, Nat.mul_one, toList_madeCells_one, List.map_replicate]

/-- make([]bool, n). -/
theorem wpList_make_bools {ops : Array Oper} {rest : List Oper} {o : Oper} {a : Act} {Q : Exit → Act → World → Prop} (w : World) (hg : o.guard = none) (l c : Operand) (hop : o.op = Op.makeSlice 93 l c)
    (kl kc : IntKind) (n : Nat) (hl : a.eval l = .int kl n) (hc : a.eval c = .int kc n) (hn : n ≤ 17592186044416)
    (hK : ∀ w', Seen w' w.heap.size (List.replicate n false) → Below w.heap.size w w' → wpList Try.prog ops Q rest (a.put o.dst (.slice (some ⟨w.heap.size, 0, none⟩) n n)) w') :
    wpList Try.prog ops Q (o :: rest) a w := by
  obtain ⟨i, hi, hz0, hz1, hz2⟩ := info_parts infob
  refine wpList_plain hg fun K hK' => ?_
  have hr := run_make (P := Try.prog) w 93 4 i (.bool false) Try.underlying93 hi hz0 kl kc n n (by omega) (by omega) (by rw [hz2]; omega) (by omega)
  rw [hz1, Int.toNat_natCast, made_bools] at hr
  have hS : Seen (w.alloc (.cells ((List.replicate n false).map Value.bool).toArray 4)) w.heap.size (List.replicate n false) := heap_alloc_new w _
  have hB := alloc_below w (.cells ((List.replicate n false).map Value.bool).toArray 4)
  generalize w.alloc (.cells ((List.replicate n false).map Value.bool).toArray 4) = w' at hr hS hB
  unfold Oper.wp
  simp [execOp, hop, hl, hc, hr, Result.andThen]
  exact hK' _ _ (hK w' hS hB)

set_option maxHeartbeats 4000000 in
set_option maxRecDepth 100000 in
theorem preach_ok (i st n : Nat) (A B : Option Addr) (c d : Nat) (nx ot : List (List Int)) (w : World) (hx : Lists w A n nx) (ho : Lists w B n ot) (hM : Mok i st n nx ot) :
    Calls Try.prog 50 #[.agg #[.int .i64 i, .int .i64 st, .slice A n c, .slice B n d]] w fun e w' => ∃ A' c', e = .returned (.slice A' (rch nx i st).length c') ∧ Owned w' w.heap.size (.slice A' (rch nx i st).length c') (zs (rch nx i st)) ∧ Below w.heap.size w w' := by
  have HV := Lib.hid hM.vld
  have hn := hx.2.1
  have hst := hM.st
  have hn128 := hM.n2
  have hb0 := alloc_below w (.cells #[.int .i64 i, .int .i64 st, .slice A n c, .slice B n d] 24)
  have HZ := Lib.hid (show (w.alloc (.cells #[.int .i64 i, .int .i64 st, .slice A n c, .slice B n d] 24)).heap.size = w.heap.size + 1 by simp)
  obtain ⟨R, hR⟩ : ∃ R, R = rch nx i st := ⟨_, rfl⟩
  have HR := Lib.hid (hR.trans (show rch nx i st = bfs nx i n [st] 0 by unfold rch; rw [hM.nxl]))
  rw [← hR]
  clear hR
  go_enter Try.func50, Try.ntmps50
  go_wp2_with fail
  refine (pvalid _ _ _ _ _ _ _ _ _ _ _ (hx.below hb0) (ho.below hb0)).mono ?_
  rintro e w1 ⟨rfl, b1⟩
  rw [HZ.out] at b1
  rw [HV.out]
  obtain ⟨k0, k1, k2, k3⟩ := box4 b1
  have hl0 : Owned (w1.alloc (.cells #[.int .i64 st] 3)) (w.heap.size + 1) (.slice (some ⟨w1.heap.size, 0, none⟩) 1 1) (zs [st]) := Owned.literal w1 _ [(st : Int)] _ 1 (by have := b1.size; simpa using this) rfl rfl (by simp)
  have hz2 : w.heap.size + 1 ≤ w1.heap.size := by have := b1.size; simpa using this
  have hl1 := alloc_below w1 (.cells #[.int .i64 st] 3)
  have k2a := (hl1.cell (p := ⟨w.heap.size, 2, none⟩) (by show w.heap.size < _; omega)).trans k2
  have hs1 : (w1.alloc (.cells #[.int .i64 st] 3)).heap.size = w1.heap.size + 1 := by simp
  have HS1 := Lib.hid hs1
  have HL0 := Lib.hid hl0
  clear hs1 hl0
  have hz2 : w.heap.size + 1 ≤ w1.heap.size := by have := b1.size; simpa using this
  go_wp2_with (refine wpList_make_bools _ rfl _ _ rfl .i64 .i64 n rfl rfl hn ?_; intro w2 se2 b2; rw [HS1.out] at se2 b2; have b3 := b1.trans ((hl1.mono hz2).trans (b2.mono (Nat.le_succ_of_le hz2))); obtain ⟨k0, k1, k2, k3⟩ := box4 b3; obtain ⟨sc, sf⟩ := se2.at_ (x := st) (by simpa using hst); have SE2 := Lib.hid se2; have B2 := Lib.hid b2; clear se2 b2 b3)
  have b2 := B2.out
  have se2 := SE2.out
  have b3 : Below (w.heap.size + 1) (w.alloc (.cells #[.int .i64 i, .int .i64 st, .slice A n c, .slice B n d] 24)) w2 := b1.trans ((hl1.mono hz2).trans (b2.mono (by omega)))
  have hown2 : Owned w2 (w.heap.size + 1) (.slice (some ⟨w1.heap.size, 0, none⟩) 1 1) (zs [st]) := HL0.out.kept (by rw [HS1.out]; exact b2)
  have se3 := se2.set st true
  rw [← seenOf_nil, seenOf_set] at se3
  have ow3 := hown2.off se2 (by decide) st (.bool true) 0
  have bw3 := b3.setCell (p := ⟨w1.heap.size + 1, st, none⟩) (by show w.heap.size + 1 ≤ w1.heap.size + 1; omega) (.bool true)
  generalize hg : w1.heap.size + 1 = g at se3 ow3 bw3 ⊢
  have hgb : w.heap.size + 1 ≤ g := by omega
  clear se2 b2 hown2 HL0 SE2 B2 b3 sc sf k0 k1 k2 k3 hl1 HS1 k2a
  have hbt : (4 : TypeId) ≠ 3 := by decide
  clear hg b1
  go_loopw [3, 5] (fun v jv wr => ∃ (l : List Nat) (j : Nat) (A' : Option Addr) (c' : Nat), j ≤ l.length ∧ jv = .int .i64 j ∧ v = .slice A' l.length c' ∧ Stt n l ∧ R = bfs nx i n l j ∧ Owned wr (w.heap.size + 1) (.slice A' l.length c') (zs l) ∧ Seen wr g (seenOf n l) ∧ Below (w.heap.size + 1) (w.alloc (.cells #[.int .i64 i, .int .i64 st, .slice A n c, .slice B n d] 24)) wr) (fun _ jv _ => n - (intOf jv).toNat)
  case atStart => exact ⟨[st], 0, _, 1, Nat.zero_le _, rfl, rfl, Stt.one hst, HR.out, ow3, se3, bw3⟩
  case round =>
    obtain ⟨l, j, A', c', hj, rfl, rfl, hS, hB, hown, hseen, hbr⟩ := hrel
    have hbw := hb0.trans (hbr.mono (Nat.le_succ _))
    obtain ⟨k0, k1, k2, k3⟩ := box4 hbr
    have HB := Lib.hid hB
    have HSS := Lib.hid hseen
    clear hB hseen
    have hll := hS.len
    by_cases hlt : j < l.length
    · have hjn : j < n := by omega
      obtain ⟨b1, o1, rfl, hb1, hc1⟩ := (hown.ints (by rw [zs_len]; omega)).at_ (k := j) (by omega)
      rw [zs_at] at hc1
      have hs : l.getD j 0 < n := hS.2 _ (getD_mem hlt)
      have HNX := Lib.hid (bfs_on hM hS hlt)
      generalize l.getD j 0 = s at hc1 hs HNX
      obtain ⟨g1, p1, A1, n1, c1, rfl, hg1, hd1, hr1⟩ := hx.at_ hs
      have hi1 := (hM.row s hs).1
      have hl1 := hr1.1
      obtain rfl : n1 = i := by omega
      have hi64 := hM.i2
      have e1 := (hbw.cell (p := ⟨g1, p1 + s, none⟩) hg1).trans hd1
      clear hl1 hi1 hd1
      have HOW := Lib.hid hown
      clear hown
      go_wp2
      go_quiet (fail)
      go_wp2
      obtain ⟨wo, rfl⟩ : ∃ wo : World, wo = wr := ⟨_, rfl⟩
      have HBR := Lib.hid hbr
      clear hbr hbw k0 k1 k2 k3 hc1 hb1 e1
      go_loopw [3, 37] (fun v av wq => ∃ (a : Nat) (A2 : Option Addr) (c2 : Nat), a ≤ n1 ∧ av = .int .i64 a ∧ v = .slice A2 (addR nx s l a).length c2 ∧ Owned wq (w.heap.size + 1) (.slice A2 (addR nx s l a).length c2) (zs (addR nx s l a)) ∧ Seen wq g (seenOf n (addR nx s l a)) ∧ Below (w.heap.size + 1) (w.alloc (.cells #[.int .i64 n1, .int .i64 st, .slice (some ⟨g1, p1, none⟩) n c, .slice B n d] 24)) wq) (fun _ av _ => n1 - (intOf av).toNat)
      case atStart => exact ⟨0, _, _, Nat.zero_le _, rfl, rfl, HOW.out, HSS.out, below_drewN HBR.out _⟩
      case round =>
        obtain ⟨a, A2, c2, ha, rfl, rfl, hown, hseen, hbr⟩ := hrel
        have hSa := addR_stt hM hS hs a ha
        have hbw := hb0.trans (hbr.mono (Nat.le_succ _))
        by_cases hla : a < n1
        · obtain ⟨g3, p3, rfl, hg3, hy1⟩ := hr1.at_ hla
          rw [hM.nN_eq hs hla] at hy1
          have ht := hM.nN_lt hs hla
          have hIn := Lib.hid (fun h => addR_in (nx := nx) (s := s) (a := a) (l := l) h)
          have hOut := Lib.hid (fun h => addR_out (nx := nx) (s := s) (a := a) (l := l) h)
          generalize nN nx s a = t at hy1 ht hIn hOut
          have e3 := (hbw.cell (p := ⟨g3, p3 + a, none⟩) hg3).trans hy1
          obtain ⟨e4, e5⟩ := hseen.at_ (x := t) (by rw [seenOf_len]; exact ht)
          rw [seenOf_at ht] at e4
          clear hy1
          generalize addR nx s l a = l' at hown hseen hSa hIn hOut e4
          have hll' := hSa.len
          by_cases hm : t ∈ l'
          · rw [decide_eq_true hm] at e4
            have hnx := Lib.hid (hIn.out hm)
            have HOW := Lib.hid hown
            have HSE := Lib.hid hseen
            have HB2 := Lib.hid hbr
            clear hown hseen hbr hbw hIn hOut hm
            go_wp2
            go_roundw
            case rel => exact ⟨a + 1, A2, c2, by omega, by go_num, by rw [hnx.out], by rw [hnx.out]; exact HOW.out, by rw [hnx.out]; exact HSE.out, HB2.out⟩
            case measure => simp [intOf]; omega
          · rw [decide_eq_false hm] at e4
            have hnx := Lib.hid (hOut.out hm)
            have ho1 := hown.off hseen hbt t (.bool true) 0
            have hs1 := hseen.set t true
            rw [seenOf_set] at hs1
            have hb1 := hbr.setCell (p := ⟨g, t, none⟩) hgb (.bool true)
            have ho1 : Owned (wr.setCell ⟨g, t, none⟩ (.bool true)) (w.heap.size + 1) (.slice A2 l'.length c2) (zs l') := ho1
            have hsz : w.heap.size + 1 ≤ (wr.setCell ⟨g, t, none⟩ (.bool true)).heap.size := by have := hb1.size; simpa using this
            clear hown hseen hbr hbw hIn hOut hm
            obtain ⟨A3, c3, w4, hrn, ho4, hb4, hk4⟩ := run_append_one ho1 (t : Int) hsz (by rw [zs_len]; omega)
            have hs4 := Lib.hid (hk4 g _ _ hs1 hbt)
            have hb5 := Lib.hid (hb1.trans hb4)
            rw [zs_len] at hrn ho4
            have hz : zs l' ++ [(t : Int)] = zs (l' ++ [t]) := by rw [zs_append, zs_one]
            rw [hz] at ho4
            have hlen : (l' ++ [t]).length = l'.length + 1 := by simp
            have HL := Lib.hid hlen
            have HO4 := Lib.hid ho4
            clear hk4 hb1 hb4 hs1 ho1 hz hlen ho4
            have hh : (wr.setCell ⟨g, t, none⟩ (.bool true)).heap.size = wr.heap.size := by simp
            rw [hh] at hrn
            clear hh
            go_wp2_with (at_builtin; refine Lib.wpList_append_run _ rfl _ _ _ _ rfl _ _ rfl rfl _ _ hrn ?_)
            go_roundw
            case rel => exact ⟨a + 1, A3, c3, by omega, by go_num, by rw [hnx.out, HL.out], by rw [hnx.out, HL.out]; exact HO4.out, by rw [hnx.out]; exact hs4.out, hb5.out⟩
            case measure => simp [intOf]; omega
        · obtain rfl : a = n1 := by omega
          have hl' := addR_len (nx := nx) (s := s) (l := l) a
          have HX := Lib.hid (HB.out.trans HNX.out.symm)
          generalize addR nx s l a = l' at hown hseen hSa hl' HX
          have HOW := Lib.hid hown
          have HSE := Lib.hid hseen
          clear hown hseen
          go_wp2
          go_roundw
          case rel => exact ⟨l', j + 1, A2, c2, by omega, by go_num, rfl, hSa, HX.out, HOW.out, HSE.out, hbr⟩
          case measure => simp [intOf]; omega
    · have hfin := Lib.hid (HB.out.trans (bfs_end nx i n hlt))
      have HOW := Lib.hid hown
      clear hown
      go_wp2
      go_ret
      exact ⟨A', c', by rw [hfin.out]; rfl, by rw [hfin.out]; exact Owned.lower HOW.out (Nat.le_succ _), hbw⟩

theorem preach_bad (i st : Int) (A B : Option Addr) (n c m d : Nat) (nx ot : List (List Int)) (w : World) (hx : Lists w A n nx) (ho : Lists w B m ot) (hv : ¬ vld i st nx ot = 0) :
    Calls Try.prog 50 #[.agg #[.int .i64 i, .int .i64 st, .slice A n c, .slice B m d]] w fun e w' => e = .returned (.slice none 0 0) ∧ Below w.heap.size w w' := by
  have hb0 := alloc_below w (.cells #[.int .i64 i, .int .i64 st, .slice A n c, .slice B m d] 24)
  have hne : (vld i st nx ot != 0) = true := by simpa using hv
  go_enter Try.func50, Try.ntmps50
  go_wp2_with fail
  refine (pvalid _ _ _ _ _ _ _ _ _ _ _ (hx.below hb0) (ho.below hb0)).mono ?_
  rintro e w1 ⟨rfl, b1⟩
  generalize vld i st nx ot = E at hne hv
  clear hv
  go_wp2
  go_ret
  exact ⟨rfl, bt hb0 b1⟩
end Go.Proofs.Ytdedgpgdmnfijaa
end

section
/- Blocks that are as they were: of a type, all but one; rows apart. -/
namespace Go.Proofs.Ytdedgpgdmnfijaa
open Go.RowKit

/-- The blocks of a type are as they were. -/
def KeptT (t : TypeId) (w w' : World) : Prop := ∀ (g : Nat) (cs : Array Value), w.heap[g]? = some (.cells cs t (0, 0)) → w'.heap[g]? = some (.cells cs t (0, 0))
theorem heap_lt {w : World} {g : Nat} {o : Obj} (h : w.heap[g]? = some o) : g < w.heap.size := by
  rcases Nat.lt_or_ge g w.heap.size with hlt | hge
  · exact hlt
  · rw [Array.getElem?_eq_none hge] at h; cases h
theorem KeptT.refl (t : TypeId) (w : World) : KeptT t w w := fun _ _ h => h
theorem KeptT.trans {t : TypeId} {a b c : World} (h : KeptT t a b) (k : KeptT t b c) : KeptT t a c := fun g cs e => k g cs (h g cs e)
theorem KeptT.of_below {t : TypeId} {w w' : World} (h : Below w.heap.size w w') : KeptT t w w' := fun g _ e => (h.block g (heap_lt e)).trans e
theorem KeptT.drewN (t : TypeId) (w : World) (q : Nat) : KeptT t w (w.drewN q) := fun _ _ h => h
theorem KeptT.off {t t' : TypeId} {w : World} {g k : Nat} {cs : Array Value} (hg : w.heap[g]? = some (.cells cs t' (0, 0))) (ht : t ≠ t') (u : Value) : KeptT t w (w.setCell ⟨g, k, none⟩ u) := fun g' cs' e => by
  rw [heap_setCell_other _ _ _ _ ?_]
  · exact e
  · show g' ≠ g
    intro e2
    subst e2
    rw [hg] at e
    injection e with e
    injection e with _ h2 _
    exact ht h2.symm
theorem KeptT.grown {t t' : TypeId} {w w' : World} {base size n : Nat} {v : Value} {xs : List Value} (h : w.grownBy w' v.ownBlock) (ho : w.ownsRow base t' size v n xs) (ht : t ≠ t') : KeptT t w w' := fun g cs e => by
  rw [h.block g (heap_lt e) ?_]
  · exact e
  · intro e2
    rcases ho.2 with ⟨rfl, _⟩ | ⟨g', cap, cur, rfl, _, hh, _⟩
    · cases e2
    · have : g = g' := by simpa [Value.ownBlock] using e2
      subst this
      rw [e] at hh
      injection hh with hh
      injection hh with _ h2 _
      exact ht h2

theorem Owned.keptT {w w' : World} {base : Nat} {v : Value} {xs : List Int} (h : Owned w base v xs) (hk : KeptT 3 w w') : Owned w' base v xs := by
  refine ⟨h.1, ?_⟩
  rcases h.2 with e | ⟨g, cap, cur, hv, hbg, hg, r⟩
  · exact .inl e
  · exact .inr ⟨g, cap, cur, hv, hbg, hk g cur hg, r⟩

theorem infol : (Try.prog.info? 33).map (fun i => (i.zero, i.size, i.bytes)) = some (some (.slice none 0 0), 1, 24) := by kernel_rfl

/-- All blocks but one are as they were. -/
def KeptB (r : Option Nat) (w w' : World) : Prop := ∀ (g : Nat) (o : Obj), w.heap[g]? = some o → r ≠ some g → w'.heap[g]? = some o
/-- Two rows lie in different blocks. -/
def Apart (v u : Value) : Prop := ∀ g, v.ownBlock = some g → u.ownBlock ≠ some g
theorem Apart.nil (u : Value) : Apart (.slice none 0 0) u := fun g h => by simp [Value.ownBlock] at h
theorem Apart.symm {v u : Value} (h : Apart v u) : Apart u v := fun g h1 h2 => h g h2 h1
/-- append turns a row's block or makes a new one. -/
def Moved (w : World) (v v' : Value) : Prop := v'.ownBlock = v.ownBlock ∨ ∃ g, w.heap.size ≤ g ∧ v'.ownBlock = some g
end Go.Proofs.Ytdedgpgdmnfijaa
end

section
/- Rows of lists that a call owns: what they read as; append of a list. -/
namespace Go.Proofs.Ytdedgpgdmnfijaa
open Go.RowKit

/-- The slice value v is a row of lists in blocks from base on, which the call may write. -/
def OwnedL (w : World) (base : Nat) (v : Value) (xss : List (List Int)) : Prop :=
  ∃ vs : List Value, w.ownsRow base 33 1 v xss.length vs ∧ ∀ j, j < xss.length → ∃ A c, vs[j]? = some (.slice A (xss.getD j []).length c) ∧ Owned w base (.slice A (xss.getD j []).length c) (xss.getD j [])

theorem OwnedL.nil (w : World) (base : Nat) : OwnedL w base (.slice none 0 0) [] := ⟨[], World.ownsRow_nil _ _ _ _, fun j h => absurd h (by simp)⟩
theorem OwnedL.form {w : World} {base : Nat} {v : Value} {xss : List (List Int)} (h : OwnedL w base v xss) : ∃ A c, v = .slice A xss.length c := by
  obtain ⟨vs, h, _⟩ := h
  rcases h.2 with ⟨rfl, h0⟩ | ⟨g, cap, cur, rfl, _⟩
  · have : xss.length = 0 := h0
    exact ⟨none, 0, by rw [this]⟩
  · exact ⟨_, _, rfl⟩
theorem OwnedL.keptT {w w' : World} {base : Nat} {v : Value} {xss : List (List Int)} (h : OwnedL w base v xss) (hk : KeptT 3 w w') (hl : KeptT 33 w w') : OwnedL w' base v xss := by
  obtain ⟨vs, h, hr⟩ := h
  refine ⟨vs, ⟨h.1, ?_⟩, fun j hj => ?_⟩
  · rcases h.2 with e | ⟨g, cap, cur, hv, hbg, hg, r⟩
    · exact .inl e
    · exact .inr ⟨g, cap, cur, hv, hbg, hl g cur hg, r⟩
  · obtain ⟨A, c, h1, h2⟩ := hr j hj
    exact ⟨A, c, h1, h2.keptT hk⟩
theorem OwnedL.kept {w w' : World} {base : Nat} {v : Value} {xss : List (List Int)} (h : OwnedL w base v xss) (hb : Below w.heap.size w w') : OwnedL w' base v xss := h.keptT (KeptT.of_below hb) (KeptT.of_below hb)
theorem OwnedL.lower {w : World} {base base' : Nat} {v : Value} {xss : List (List Int)} (h : OwnedL w base v xss) (hb : base' ≤ base) : OwnedL w base' v xss := by
  obtain ⟨vs, h, hr⟩ := h
  refine ⟨vs, ⟨h.1, ?_⟩, fun j hj => ?_⟩
  · rcases h.2 with e | ⟨g, cap, cur, hv, hbg, r⟩
    · exact .inl e
    · exact .inr ⟨g, cap, cur, hv, by omega, r⟩
  · obtain ⟨A, c, h1, h2⟩ := hr j hj
    exact ⟨A, c, h1, h2.lower hb⟩
theorem OwnedL.lists {w : World} {base : Nat} {A : Option Addr} {n c : Nat} {xss : List (List Int)} (h : OwnedL w base (.slice A n c) xss) (hm : xss.length ≤ 17592186044416) (hr : ∀ xs, xs ∈ xss → xs.length ≤ 17592186044416) : Lists w A n xss := by
  have hn : n = xss.length := by obtain ⟨A', c', e⟩ := h.form; cases e; rfl
  subst hn
  obtain ⟨vs, ho, hv⟩ := h
  refine ⟨rfl, hm, fun h0 => ?_⟩
  rcases ho.2 with ⟨e, h1⟩ | ⟨g, cap, cur, e, _, hg, _⟩
  · have : xss.length = 0 := h1
    omega
  · cases e
    refine ⟨g, 0, rfl, heap_lt hg, fun j hj => ?_⟩
    obtain ⟨A, c, h1, h2⟩ := hv j hj
    have h3 := World.ownsRow.cellAt ho j (by omega)
    refine ⟨A, _, c, ?_, h2.ints (hr _ ?_)⟩
    · rw [Nat.zero_add, h3, h1]
    · rw [List.getD_eq_getElem?_getD, List.getElem?_eq_getElem hj]; exact List.getElem_mem _

theorem OwnedL.lt {w : World} {base : Nat} {v : Value} {xss : List (List Int)} (h : OwnedL w base v xss) : ∀ k, v.ownBlock = some k → base ≤ k ∧ k < w.heap.size := by
  obtain ⟨vs, ho, _⟩ := h
  exact World.ownsRow.lt ho
theorem OwnedL.keptB {w w' : World} {base : Nat} {u v : Value} {xss : List (List Int)} (h : OwnedL w base v xss) (hk : KeptB u.ownBlock w w') (ha : Apart u v) (hi : KeptT 3 w w') : OwnedL w' base v xss := by
  obtain ⟨vs, ho, hr⟩ := h
  refine ⟨vs, ⟨ho.1, ?_⟩, fun j hj => ?_⟩
  · rcases ho.2 with e | ⟨g, cap, cur, hv, hbg, hg, r⟩
    · exact .inl e
    · exact .inr ⟨g, cap, cur, hv, hbg, hk g _ hg (fun e => ha g e (by rw [hv]; rfl)), r⟩
  · obtain ⟨A, c, h1, h2⟩ := hr j hj
    exact ⟨A, c, h1, h2.keptT hi⟩
theorem Apart.moved {w : World} {base : Nat} {v v' u : Value} {xss : List (List Int)} (h : Apart v u) (hm : Moved w v v') (hu : OwnedL w base u xss) : Apart v' u := by
  rcases hm with e | ⟨g, hg, e⟩
  · intro k hk; rw [e] at hk; exact h k hk
  · intro k hk h2
    rw [e] at hk
    injection hk with hk
    have := (hu.lt k h2).2
    omega

/-- append of one list to a row of lists. -/
theorem run_append_list {w : World} {base : Nat} {v : Value} {xss : List (List Int)} {B : Option Addr} {m d : Nat} {xs : List Int} (h : OwnedL w base v xss) (hx : Owned w base (.slice B m d) xs) (hbase : base ≤ w.heap.size) (hl : xss.length < 1759218604441) :
    ∃ A c w', (Builtin.append_ #[22, 22] 22 #[v, .slice (some ⟨w.heap.size, 0, none⟩) 1 1]).run Try.prog (w.alloc (.cells #[.slice B m d] 33)) = .ok (.slice A (xss.length + 1) c) w' ∧
      OwnedL w' base (.slice A (xss.length + 1) c) (xss ++ [xs]) ∧ Below base w w' ∧ (∀ t, t ≠ 33 → KeptT t w w') ∧ KeptB v.ownBlock w w' ∧ Moved w v (.slice A (xss.length + 1) c) := by
  obtain ⟨i, hi, hz0, hz1, hz2⟩ := info_parts infol
  obtain ⟨vs, ho, hv⟩ := h
  have hbz := alloc_below w (.cells #[.slice B m d] 33)
  have ho1 : (w.alloc (.cells #[.slice B m d] 33)).ownsRow base 33 1 v xss.length vs := by
    refine ⟨ho.1, ?_⟩
    rcases ho.2 with e | ⟨g, cap, cur, hv, hbg, hg, r⟩
    · exact .inl e
    · exact .inr ⟨g, cap, cur, hv, hbg, (hbz.block g (heap_lt hg)).trans hg, r⟩
  obtain ⟨v', w', hr, h1, h2, _, hmv⟩ := run_append_own_at (P := Try.prog) (w.alloc (.cells #[.slice B m d] 33)) base 22 22 33 i (.slice none 0 0) 1 24 Try.underlying22 hi hz0 hz1 hz2 rfl (by decide) v _ _ ho1 ⟨w.heap.size, 0, none⟩ 1 1 [.slice B m d] (by simp)
    (by
      intro j u hu
      cases j with
      | zero =>
        simp at hu
        subst hu
        simp [Addr.add]
      | succ j => simp at hu)
    (by intro u hu; simp at hu; subst hu; rfl) (by unfold maxLen; omega) (by omega) (Nat.le_trans hbase hbz.size)
  have hs : ∀ t, t ≠ 33 → KeptT t w w' := fun t ht => (KeptT.of_below hbz).trans (KeptT.grown h2 ho1 ht)
  have hform : ∃ A c, v' = .slice A (xss.length + 1) c := by
    rcases h1.2 with ⟨rfl, h0⟩ | ⟨g, cap, cur, rfl, _⟩
    · have := h1.1; rw [h0] at this; simp at this
    · exact ⟨_, _, rfl⟩
  obtain ⟨A, c, rfl⟩ := hform
  have hkb : KeptB v.ownBlock w w' := fun g o e hne => (h2.block g (Nat.lt_of_lt_of_le (heap_lt e) hbz.size) (fun e2 => hne e2.symm)).trans ((hbz.block g (heap_lt e)).trans e)
  have hmoved : Moved w v (.slice A (xss.length + 1) c) := by
    rcases hmv with e | e
    · exact .inl e
    · exact .inr ⟨_, by simp, e⟩
  have hn : m = xs.length := by obtain ⟨A', c', e⟩ := hx.form; cases e; rfl
  subst hn
  refine ⟨A, c, w', hr, ⟨vs ++ [.slice B xs.length d], by rw [List.length_append]; exact h1, fun j hj => ?_⟩, (hbz.mono hbase).trans ((Below.refl _ _).grown h2 (Nat.le_trans hbase hbz.size) (fun k hk => (World.ownsRow.lt ho1 k hk).1)), hs, hkb, hmoved⟩
  have hvl : vs.length = xss.length := by have := ho.1; omega
  by_cases e : j < xss.length
  · obtain ⟨A2, c2, h3, h4⟩ := hv j e
    have hg : (xss ++ [xs]).getD j [] = xss.getD j [] := by rw [List.getD_eq_getElem?_getD, List.getD_eq_getElem?_getD, List.getElem?_append_left e]
    rw [hg]
    exact ⟨A2, c2, by rw [List.getElem?_append_left (by omega)]; exact h3, h4.keptT (hs _ (by decide))⟩
  · have hjl : j = xss.length := by simp at hj; omega
    subst hjl
    have hg : (xss ++ [xs]).getD xss.length [] = xs := by simp
    rw [hg]
    exact ⟨B, d, by rw [List.getElem?_append_right (by omega), hvl]; simp, hx.keptT (hs _ (by decide))⟩

set_option maxHeartbeats 1000000 in
set_option maxRecDepth 100000 in
/-- Clone of a list. -/
theorem sclone (A : Option Addr) (n c : Nat) (xs : List Int) (w : World) (hx : Ints w A n xs) :
    Calls Try.prog 59 #[.slice A n c] w fun e w' => ∃ A' c', e = .returned (.slice A' n c') ∧ Owned w' w.heap.size (.slice A' n c') xs ∧ Below w.heap.size w w' := by
  have L := Lib.hid hx.1
  have hn := hx.2.1
  cases A with
  | none =>
    have h0 : n = 0 := by
      rcases Nat.eq_zero_or_pos n with h | h
      · exact h
      · obtain ⟨b, off, e, _⟩ := hx.2.2 h; cases e
    subst h0
    obtain rfl : xs = [] := List.eq_nil_of_length_eq_zero L.out
    have he := fun W => Lib.run_eql_slice_nil (P := Try.prog) W 33 3 none 0 c 0 0 Try.underlying33
    go_enter Try.func59, Try.ntmps59
    go_wp2
    go_ret
    exact ⟨none, 0, rfl, Owned.nil _ _, Below.refl _ _⟩
  | some a =>
    have hb0 := alloc_below w (.cells #[] 3)
    have ho := Owned.literal w w.heap.size [] #[] 0 (Nat.le_refl _) rfl rfl (by simp)
    obtain ⟨v', w', hr, ho', _, hb'⟩ := run_append_ints _ _ _ _ _ _ _ c ho (hx.below hb0) hb0.size (by rw [List.nil_append, L.out]; exact hn)
    obtain ⟨A', c', rfl⟩ := ho'.form
    rw [List.nil_append, L.out] at hr ho'
    have hB := Lib.hid (hb0.trans hb')
    have HO := Lib.hid ho'
    clear ho hb0 hb' ho'
    have he := fun W => Lib.run_eql_slice_nil (P := Try.prog) W 33 3 (some a) n c 0 0 Try.underlying33
    go_enter Try.func59, Try.ntmps59
    go_wp2_with (at_builtin; refine Lib.wpList_append_run _ rfl _ _ _ _ rfl _ _ rfl rfl _ _ hr ?_)
    go_ret
    exact ⟨A', c', rfl, HO.out, hB.out⟩
end Go.Proofs.Ytdedgpgdmnfijaa
end

section
/- The trimmed machine. -/
namespace Go.Proofs.Ytdedgpgdmnfijaa

theorem addR_has {nx : List (List Int)} {s : Nat} {l : List Nat} : ∀ {b : Nat}, ∀ a, a < b → nN nx s a ∈ addR nx s l b
  | 0, a, h => absurd h (by omega)
  | b + 1, a, h => by
    by_cases e : a = b
    · subst e; exact mem_addN _ _
    · exact addN_mem (addR_has a (by omega))
theorem addR_mem {nx : List (List Int)} {s : Nat} {l : List Nat} {x : Nat} (h : x ∈ l) (a : Nat) : x ∈ addR nx s l a := by obtain ⟨t, ht⟩ := addR_pre nx s l a; rw [ht]; simp [h]

theorem bfs_closed {i st n : Nat} {nx ot : List (List Int)} (hM : Mok i st n nx ot) : ∀ (k : Nat) (l : List Nat) (j : Nat), Stt n l → n ≤ k + j → (∀ m, m < j → m < l.length → ∀ a, a < i → nN nx (l.getD m 0) a ∈ l) →
    Stt n (bfs nx i k l j) ∧ ∀ m, m < (bfs nx i k l j).length → ∀ a, a < i → nN nx ((bfs nx i k l j).getD m 0) a ∈ bfs nx i k l j
  | 0, l, j, hS, hk, h => ⟨hS, fun m hm a ha => h m (by have := hS.len; have hm : m < l.length := hm; omega) hm a ha⟩
  | k + 1, l, j, hS, hk, h => by
    by_cases hj : j < l.length
    · have e : bfs nx i (k + 1) l j = bfs nx i k (addR nx (l.getD j 0) l i) (j + 1) := by
        show (if j < l.length then _ else _) = _; rw [if_pos hj]
      rw [e]
      refine bfs_closed hM k _ _ (addR_stt hM hS (hS.2 _ (getD_mem hj)) i (Nat.le_refl _)) (by omega) fun m hm hml a ha => ?_
      by_cases e2 : m = j
      · subst e2; rw [addR_at hj]; exact addR_has a ha
      · rw [addR_at (by omega)]; exact addR_mem (h m (by omega) (by omega) a ha) i
    · rw [bfs_end nx i (k + 1) hj]
      exact ⟨hS, fun m hm a ha => h m (by omega) hm a ha⟩

theorem Mok.rch_stt {i st n : Nat} {nx ot : List (List Int)} (hM : Mok i st n nx ot) : Stt n (rch nx i st) :=
  (bfs_closed hM _ _ _ (Stt.one hM.st) (by rw [hM.nxl]; omega) (fun m hm => absurd hm (by omega))).1
theorem Mok.rch_in {i st n : Nat} {nx ot : List (List Int)} (hM : Mok i st n nx ot) {s a : Nat} (hs : s ∈ rch nx i st) (ha : a < i) : nN nx s a ∈ rch nx i st := by
  obtain ⟨m, hm, rfl⟩ := List.getElem_of_mem hs
  have := (bfs_closed hM nx.length [st] 0 (Stt.one hM.st) (by rw [hM.nxl]; omega) (fun m hm => absurd hm (by omega))).2 m hm a ha
  rw [show (bfs nx i nx.length [st] 0).getD m 0 = (rch nx i st)[m] by rw [List.getD_eq_getElem?_getD]; show (rch nx i st)[m]?.getD 0 = _; rw [List.getElem?_eq_getElem hm]; rfl] at this
  exact this
theorem rch_pre (nx : List (List Int)) (i st : Nat) : ∃ t, rch nx i st = st :: t := by
  obtain ⟨t, ht⟩ := bfs_pre nx i nx.length [st] 0
  exact ⟨t, ht⟩

/-- The place of a state. -/
def ixN (R : List Nat) (x : Nat) : Nat := R.idxOf x
theorem ixN_lt {R : List Nat} {x : Nat} (h : x ∈ R) : ixN R x < R.length := List.idxOf_lt_length_of_mem h
theorem ixN_at {R : List Nat} {x : Nat} (h : x ∈ R) : R.getD (ixN R x) 0 = x := by
  rw [List.getD_eq_getElem?_getD, List.getElem?_eq_getElem (ixN_lt h)]
  exact List.getElem_idxOf (ixN_lt h)
theorem ixN_of {R : List Nat} (hR : R.Nodup) {j : Nat} (hj : j < R.length) : ixN R (R.getD j 0) = j := by
  have hm : R.getD j 0 ∈ R := getD_mem hj
  have h1 := ixN_at hm
  have h2 := ixN_lt hm
  rw [List.getD_eq_getElem?_getD, List.getD_eq_getElem?_getD, List.getElem?_eq_getElem hj, List.getElem?_eq_getElem (by rw [List.getD_eq_getElem?_getD, List.getElem?_eq_getElem hj] at h2; exact h2)] at h1
  rw [List.getD_eq_getElem?_getD, List.getElem?_eq_getElem hj] at h2 ⊢
  exact (List.getElem_inj hR).1 h1

/-- The rows of the trimmed machine. -/
def trR (nx : List (List Int)) (i : Nat) (R : List Nat) (s : Nat) : List Int := (List.range i).map fun a => ((ixN R (nN nx s a) : Nat) : Int)
def trN (nx : List (List Int)) (i : Nat) (R : List Nat) : List (List Int) := R.map (trR nx i R)
def trO (ot : List (List Int)) (R : List Nat) : List (List Int) := R.map fun s => ot.getD s []
theorem trR_len (nx : List (List Int)) (i : Nat) (R : List Nat) (s : Nat) : (trR nx i R s).length = i := by simp [trR]
theorem trR_at {nx : List (List Int)} {i : Nat} {R : List Nat} {s a : Nat} (ha : a < i) : (trR nx i R s).getD a 0 = ((ixN R (nN nx s a) : Nat) : Int) := by
  unfold trR; simp [List.getD, ha]
/-- A row while it is renumbered. -/
def midR (nx : List (List Int)) (i : Nat) (R : List Nat) (s a : Nat) : List Int := (trR nx i R s).take a ++ (nx.getD s []).drop a
theorem midR_zero (nx : List (List Int)) (i : Nat) (R : List Nat) (s : Nat) : midR nx i R s 0 = nx.getD s [] := by simp [midR]
theorem midR_all {nx : List (List Int)} {i : Nat} {R : List Nat} {s : Nat} (h : (nx.getD s []).length = i) : midR nx i R s i = trR nx i R s := by
  unfold midR; rw [List.take_of_length_le (by rw [trR_len]; exact Nat.le_refl _), List.drop_eq_nil_of_le (by omega), List.append_nil]
theorem midR_len {nx : List (List Int)} {i : Nat} {R : List Nat} {s a : Nat} (h : (nx.getD s []).length = i) (ha : a ≤ i) : (midR nx i R s a).length = i := by
  unfold midR; rw [List.length_append, List.length_take, List.length_drop, trR_len, h]; omega
theorem midR_get {nx : List (List Int)} {i : Nat} {R : List Nat} {s a m : Nat} (ha : a ≤ i) : (midR nx i R s a)[m]? = if m < a then (trR nx i R s)[m]? else (nx.getD s [])[m]? := by
  unfold midR
  have hl : ((trR nx i R s).take a).length = a := by rw [List.length_take, trR_len]; omega
  by_cases h : m < a
  · rw [if_pos h, List.getElem?_append_left (by omega), List.getElem?_take, if_pos h]
  · rw [if_neg h, List.getElem?_append_right (by omega), List.getElem?_drop, hl, show a + (m - a) = m by omega]
theorem midR_at {nx : List (List Int)} {i : Nat} {R : List Nat} {s a : Nat} (ha : a < i) : (midR nx i R s a).getD a 0 = (nx.getD s []).getD a 0 := by
  rw [List.getD_eq_getElem?_getD, midR_get (by omega), if_neg (by omega), ← List.getD_eq_getElem?_getD]
theorem midR_set {nx : List (List Int)} {i : Nat} {R : List Nat} {s a : Nat} (h : (nx.getD s []).length = i) (ha : a < i) : (midR nx i R s a).set a ((ixN R (nN nx s a) : Nat) : Int) = midR nx i R s (a + 1) := by
  apply List.ext_getElem?
  intro m
  have ht : (trR nx i R s)[a]? = some ((ixN R (nN nx s a) : Nat) : Int) := by
    have := trR_at (nx := nx) (R := R) (s := s) ha
    rw [List.getD_eq_getElem?_getD, List.getElem?_eq_getElem (by rw [trR_len]; exact ha)] at this
    rw [List.getElem?_eq_getElem (by rw [trR_len]; exact ha)]
    exact congrArg some this
  rw [List.getElem?_set, midR_get (by omega), midR_get (by omega), midR_len h (by omega)]
  by_cases e : a = m
  · subst e
    rw [if_pos rfl, if_pos ha, if_pos (by omega), ht]
  · rw [if_neg e]
    by_cases e2 : m < a
    · rw [if_pos e2, if_pos (by omega)]
    · rw [if_neg e2, if_neg (by omega)]
theorem map_take_succ {α β : Type} (f : α → β) (l : List α) (d : α) {k : Nat} (h : k < l.length) : (l.take (k + 1)).map f = (l.take k).map f ++ [f (l.getD k d)] := by
  rw [List.take_succ_eq_append_getElem h, List.map_append, List.getD_eq_getElem?_getD, List.getElem?_eq_getElem h]; rfl
end Go.Proofs.Ytdedgpgdmnfijaa
end

section
/- What From, Run and Step return. -/
namespace Go.Proofs.Ytdedgpgdmnfijaa

/-- What From returns. -/
def frm (i st : Int) (nx ot : List (List Int)) (s : Int) (xs : List Int) : List Int × Int × Int :=
  if vld i st nx ot = 0 then (if 0 ≤ s ∧ s < nx.length then (if chk xs i = 0 then (runO nx ot s.toNat xs, (runS nx s.toNat xs : Int), 0) else ([], 0, chk xs i)) else ([], 0, 2)) else ([], 0, vld i st nx ot)
theorem frm_bad {i st : Int} {nx ot : List (List Int)} {s : Int} {xs : List Int} (h : ¬ vld i st nx ot = 0) : frm i st nx ot s xs = ([], 0, vld i st nx ot) := by unfold frm; rw [if_neg h]
theorem frm_state {i st : Int} {nx ot : List (List Int)} {s : Int} {xs : List Int} (h : vld i st nx ot = 0) (h1 : ¬ (0 ≤ s ∧ s < nx.length)) : frm i st nx ot s xs = ([], 0, 2) := by unfold frm; rw [if_pos h, if_neg h1]
theorem frm_word {i st : Int} {nx ot : List (List Int)} {s : Int} {xs : List Int} (h : vld i st nx ot = 0) (h1 : 0 ≤ s ∧ s < nx.length) (h2 : ¬ chk xs i = 0) : frm i st nx ot s xs = ([], 0, chk xs i) := by unfold frm; rw [if_pos h, if_pos h1, if_neg h2]
theorem frm_ok {i st : Int} {nx ot : List (List Int)} {s : Nat} {xs : List Int} (h : vld i st nx ot = 0) (h1 : s < nx.length) (h2 : chk xs i = 0) : frm i st nx ot s xs = (runO nx ot s xs, (runS nx s xs : Int), 0) := by
  unfold frm; rw [if_pos h, if_pos (by omega), if_pos h2]; rfl
theorem frm_len {i st : Int} {nx ot : List (List Int)} {s : Int} {xs : List Int} : (frm i st nx ot s xs).1.length ≤ 1024 := by
  by_cases h : vld i st nx ot = 0
  · by_cases h1 : 0 ≤ s ∧ s < nx.length
    · by_cases h2 : chk xs i = 0
      · obtain ⟨t, rfl⟩ : ∃ t : Nat, s = t := ⟨s.toNat, by omega⟩
        rw [frm_ok h (by omega) h2]
        show (runO nx ot t xs).length ≤ 1024
        rw [runO_len]
        exact (chk_zero h2).2.2.1
      · rw [frm_word h h1 h2]; simp
    · rw [frm_state h h1]; simp
  · rw [frm_bad h]; simp
theorem frm_zero {i st : Int} {nx ot : List (List Int)} {s : Int} {xs : List Int} (h : (frm i st nx ot s xs).2.2 = 0) : ∃ i' st' n t : Nat, i = i' ∧ st = st' ∧ s = t ∧ t < n ∧ Mok i' st' n nx ot ∧ chk xs i = 0 := by
  by_cases h0 : vld i st nx ot = 0
  · obtain ⟨i', st', n, rfl, rfl, hM⟩ := vld_zero h0
    by_cases h1 : 0 ≤ s ∧ s < nx.length
    · by_cases h2 : chk xs i' = 0
      · exact ⟨i', st', n, s.toNat, rfl, rfl, by omega, by have := hM.nxl; omega, hM, h2⟩
      · rw [frm_word h0 h1 h2] at h; exact absurd h h2
    · rw [frm_state h0 h1] at h; exact absurd h (by show ¬ (2 : Int) = 0; omega)
  · rw [frm_bad h0] at h; exact absurd h h0
theorem Mok.frm {i st n : Nat} {nx ot : List (List Int)} (hM : Mok i st n nx ot) {s : Nat} (hs : s < n) {xs : List Int} (h : chk xs i = 0) : frm i st nx ot s xs = (runO nx ot s xs, (runS nx s xs : Int), 0) :=
  frm_ok hM.vld (by rw [hM.nxl]; exact hs) h

/-- What Step returns. -/
def stp (i st : Int) (nx ot : List (List Int)) (s a : Int) : Int × Int × Int :=
  if vld i st nx ot = 0 then (if (0 ≤ s ∧ s < nx.length) ∧ 0 ≤ a ∧ a < i then ((nN nx s.toNat a.toNat : Int), oN ot s.toNat a.toNat, 0) else (0, 0, 2)) else (0, 0, vld i st nx ot)
theorem stp_bad {i st : Int} {nx ot : List (List Int)} {s a : Int} (h : ¬ vld i st nx ot = 0) : stp i st nx ot s a = (0, 0, vld i st nx ot) := by unfold stp; rw [if_neg h]
theorem stp_state {i st : Int} {nx ot : List (List Int)} {s a : Int} (h : vld i st nx ot = 0) (h1 : ¬ ((0 ≤ s ∧ s < nx.length) ∧ 0 ≤ a ∧ a < i)) : stp i st nx ot s a = (0, 0, 2) := by unfold stp; rw [if_pos h, if_neg h1]
theorem stp_ok {i st : Int} {nx ot : List (List Int)} {s a : Nat} (h : vld i st nx ot = 0) (h1 : s < nx.length) (h2 : (a : Int) < i) : stp i st nx ot s a = ((nN nx s a : Int), oN ot s a, 0) := by unfold stp; rw [if_pos h, if_pos (by omega)]; rfl
end Go.Proofs.Ytdedgpgdmnfijaa
end

section
/- From, Run and Step of a machine. -/
namespace Go.Proofs.Ytdedgpgdmnfijaa
open Go.RowKit

theorem ret_from {A : Option Addr} {l l' c : Nat} {x x' y y' : Int} (h1 : l = l') (h2 : x = x') (h3 : y = y') : Ending.returned (.tuple #[.slice A l c, .int .i64 x, .int .i64 y]) = .returned (.tuple #[.slice A l' c, .int .i64 x', .int .i64 y']) := by rw [h1, h2, h3]
theorem ret_run {A : Option Addr} {l l' c : Nat} {y y' : Int} (h1 : l = l') (h3 : y = y') : Ending.returned (.tuple #[.slice A l c, .int .i64 y]) = .returned (.tuple #[.slice A l' c, .int .i64 y']) := by rw [h1, h3]
theorem ret_three {k k' k'' : IntKind} {a b c a' b' c' : Int} (h1 : a = a') (h2 : b = b') (h3 : c = c') : Ending.returned (.tuple #[.int k a, .int k' b, .int k'' c]) = .returned (.tuple #[.int k a', .int k' b', .int k'' c']) := by rw [h1, h2, h3]

set_option maxHeartbeats 2000000 in
set_option maxRecDepth 100000 in
theorem pfrom (i st : Int) (A B D : Option Addr) (n c m d k e : Nat) (nx ot : List (List Int)) (s : Int) (xs : List Int) (w : World) (hx : Lists w A n nx) (ho : Lists w B m ot) (hD : Ints w D k xs) :
    Calls Try.prog 51 #[.agg #[.int .i64 i, .int .i64 st, .slice A n c, .slice B m d], .int .i64 s, .slice D k e] w fun e w' => ∃ A' c',
      e = .returned (.tuple #[.slice A' (frm i st nx ot s xs).1.length c', .int .i64 (frm i st nx ot s xs).2.1, .int .i64 (frm i st nx ot s xs).2.2]) ∧ Owned w' w.heap.size (.slice A' (frm i st nx ot s xs).1.length c') (frm i st nx ot s xs).1 ∧ Below w.heap.size w w' := by
  have L1 := Lib.hid hx.1
  have LD := Lib.hid hD.1
  have hn := hx.2.1
  have hk := hD.2.1
  have hb0 := alloc_below w (.cells #[.int .i64 i, .int .i64 st, .slice A n c, .slice B m d] 24)
  have HZ := Lib.hid (show (w.alloc (.cells #[.int .i64 i, .int .i64 st, .slice A n c, .slice B m d] 24)).heap.size = w.heap.size + 1 by simp)
  by_cases hv : vld i st nx ot = 0
  · have HV := Lib.hid hv
    obtain ⟨i, st, n', rfl, rfl, hM⟩ := vld_zero hv
    obtain rfl : n = n' := by have := hM.nxl; rw [L1.out] at this; exact this
    obtain rfl : m = n := by have := hM.otl; rw [ho.1] at this; exact this
    clear hv
    by_cases hs : 0 ≤ s ∧ s < m
    · have HS := Lib.hid hs
      have HT := Lib.hid ((decide_eq_true hs).symm)
      by_cases hc : chk xs i = 0
      · obtain ⟨s, rfl⟩ : ∃ t : Nat, s = t := ⟨s.toNat, by omega⟩
        have hfin := Lib.hid (frm_ok (s := s) HV.out (by rw [L1.out]; omega) hc)
        have HC := Lib.hid hc
        clear hs hc
        go_enter Try.func51, Try.ntmps51
        go_wp2_with fail
        refine (pvalid _ _ _ _ _ _ _ _ _ _ _ (hx.below hb0) (ho.below hb0)).mono ?_
        rintro e w1 ⟨rfl, b1⟩
        rw [HZ.out] at b1
        rw [HV.out]
        obtain ⟨k0, k1, k2, k3⟩ := box4 b1
        go_wp2_with fail
        refine (pisst _ _ _ _ _ _ _ _ _ _ _ hn HT.out).mono ?_
        rintro e w2 ⟨rfl, b2⟩
        have b2 := b1.trans (b2.mono (by have := b1.size; simpa using this))
        obtain ⟨k0, k1, k2, k3⟩ := box4 b2
        have bw := hb0.trans (b2.mono (Nat.le_succ _))
        go_wp2_with fail
        refine (wcheck _ _ _ _ _ _ (hD.below bw)).mono ?_
        rintro e w3 ⟨rfl, rfl⟩
        rw [HC.out]
        have ba := alloc_below w2 (.cells #[.int .i64 i, .int .i64 st, .slice A m c, .slice B m d, .int .i64 s] 96)
        have hR : Rnr (w2.alloc (.cells #[.int .i64 i, .int .i64 st, .slice A m c, .slice B m d, .int .i64 s] 96)) w2.heap.size i st A m c B m d s := heap_alloc_new w2 _
        have HR := Lib.hid hR
        have hsy := Lib.hid (chk_zero HC.out).2.2.2.mem
        have hg := bw.size
        have bwa := bw.trans (ba.mono hg)
        have hsn : s < m := by have := HS.out; omega
        clear hR ba
        go_wp2_with fail
        refine (prun hM hx ho bwa HR.out hg hsn hD hsy.out).mono ?_
        rintro e w4 ⟨A4, c4, rfl, ho4, b4, hR4⟩
        obtain ⟨d2, d3, d4, _⟩ := hR4.cells
        have HR4 := Lib.hid hR4
        have ho4 := Lib.hid ho4
        clear hR4
        go_wp2
        go_quiet (fail)
        go_wp2
        go_ret3
        have hlen : (runO nx ot s xs).length = k := by rw [runO_len, LD.out]
        exact ⟨A4, c4, by rw [hfin.out]; exact ret_from hlen.symm rfl rfl, by rw [hfin.out]; show Owned _ _ (.slice A4 (runO nx ot s xs).length c4) _; rw [hlen]; exact ho4.out, below_drewN b4 _⟩
      · have hfin := Lib.hid (frm_word HV.out (by rw [L1.out]; exact HS.out) hc)
        have hne : (chk xs i != 0) = true := by simpa using hc
        clear hs
        go_enter Try.func51, Try.ntmps51
        go_wp2_with fail
        refine (pvalid _ _ _ _ _ _ _ _ _ _ _ (hx.below hb0) (ho.below hb0)).mono ?_
        rintro e w1 ⟨rfl, b1⟩
        rw [HZ.out] at b1
        rw [HV.out]
        obtain ⟨k0, k1, k2, k3⟩ := box4 b1
        go_wp2_with fail
        refine (pisst _ _ _ _ _ _ _ _ _ _ _ hn HT.out).mono ?_
        rintro e w2 ⟨rfl, b2⟩
        have b2 := b1.trans (b2.mono (by have := b1.size; simpa using this))
        obtain ⟨k0, k1, k2, k3⟩ := box4 b2
        have bw := hb0.trans (b2.mono (Nat.le_succ _))
        go_wp2_with fail
        refine (wcheck _ _ _ _ _ _ (hD.below bw)).mono ?_
        rintro e w3 ⟨rfl, rfl⟩
        generalize chk xs i = E at hne hfin hc
        clear hc
        go_wp2
        go_ret3
        exact ⟨none, 0, by rw [hfin.out]; rfl, by rw [hfin.out]; exact Owned.nil _ _, bw⟩
    · have hfin := Lib.hid (frm_state (xs := xs) HV.out (by rw [L1.out]; exact hs))
      have HT := Lib.hid ((decide_eq_false hs).symm)
      clear hs
      go_enter Try.func51, Try.ntmps51
      go_wp2_with fail
      refine (pvalid _ _ _ _ _ _ _ _ _ _ _ (hx.below hb0) (ho.below hb0)).mono ?_
      rintro e w1 ⟨rfl, b1⟩
      rw [HZ.out] at b1
      rw [HV.out]
      obtain ⟨k0, k1, k2, k3⟩ := box4 b1
      go_wp2_with fail
      refine (pisst _ _ _ _ _ _ _ _ _ _ _ hn HT.out).mono ?_
      rintro e w2 ⟨rfl, b2⟩
      have b2 := b1.trans (b2.mono (by have := b1.size; simpa using this))
      have bw := hb0.trans (b2.mono (Nat.le_succ _))
      go_wp2
      go_ret3
      exact ⟨none, 0, by rw [hfin.out]; rfl, by rw [hfin.out]; exact Owned.nil _ _, bw⟩
  · have hfin := Lib.hid (frm_bad (s := s) (xs := xs) hv)
    have hne : (vld i st nx ot != 0) = true := by simpa using hv
    go_enter Try.func51, Try.ntmps51
    go_wp2_with fail
    refine (pvalid _ _ _ _ _ _ _ _ _ _ _ (hx.below hb0) (ho.below hb0)).mono ?_
    rintro e w1 ⟨rfl, b1⟩
    generalize vld i st nx ot = E at hne hfin hv
    clear hv
    go_wp2
    go_ret3
    exact ⟨none, 0, by rw [hfin.out]; rfl, by rw [hfin.out]; exact Owned.nil _ _, bt hb0 b1⟩

set_option maxHeartbeats 1000000 in
set_option maxRecDepth 100000 in
theorem prunw (i st : Int) (A B D : Option Addr) (n c m d k e : Nat) (nx ot : List (List Int)) (xs : List Int) (w : World) (hx : Lists w A n nx) (ho : Lists w B m ot) (hD : Ints w D k xs) :
    Calls Try.prog 32 #[.agg #[.int .i64 i, .int .i64 st, .slice A n c, .slice B m d], .slice D k e] w fun e w' => ∃ A' c',
      e = .returned (.tuple #[.slice A' (frm i st nx ot st xs).1.length c', .int .i64 (frm i st nx ot st xs).2.2]) ∧ Owned w' w.heap.size (.slice A' (frm i st nx ot st xs).1.length c') (frm i st nx ot st xs).1 ∧ Below w.heap.size w w' := by
  have hb0 := alloc_below w (.cells #[.int .i64 i, .int .i64 st, .slice A n c, .slice B m d] 24)
  go_enter Try.func32, Try.ntmps32
  go_wp2_with fail
  refine (pfrom _ _ _ _ _ _ _ _ _ _ _ _ _ _ _ _ (hx.below hb0) (ho.below hb0) (hD.below hb0)).mono ?_
  rintro e w1 ⟨A1, c1, rfl, h1, b1⟩
  have h2 := Lib.hid (h1.lower (base' := w.heap.size) hb0.size)
  have b2 := Lib.hid (bt hb0 b1)
  clear h1 b1
  go_wp2
  go_ret2
  exact ⟨A1, c1, rfl, h2.out, b2.out⟩

end Go.Proofs.Ytdedgpgdmnfijaa
end

section
/- The reference: Outs. -/
namespace Go.Proofs.Ytdedgpgdmnfijaa
open Go.RowKit

theorem skol {α : Sort _} {p : Nat → α → Prop} (h : ∀ k, ∃ x, p k x) : ∃ F : Nat → α, ∀ k, p k (F k) := ⟨fun k => Classical.choose (h k), fun k => Classical.choose_spec (h k)⟩

/-- append at a step of a region that draws. -/
theorem step_append_run {P : Program} {ops : Array Oper} {o : Oper} {a : Act} {w : World} {K : Act → World → Prop} {Q : Exit → Act → World → Prop} {E : Prop} (hgd : o.guard = none) (s x : Operand) (t tn : TypeId)
    (ho : o.op = .call { callee := .builtin .append, args := #[s, x], argTypes := #[t, tn] }) (vs vx : Value) (hs : a.eval s = vs) (hx : a.eval x = vx)
    (v' : Value) (w' : World) (hr : (Builtin.append_ #[t, tn] o.type #[vs, vx]).run P w = .ok v' w') (h : K (a.put o.dst v') w') :
    if Region.wanted o (yielded ops a.tmps) = true then Oper.wp P o a w K Q else E := by
  have hw : Region.wanted o (yielded ops a.tmps) = true := by simp [Region.wanted, hgd]
  rw [if_pos hw]
  exact Lib.wp_append_run w s x t tn ho vs vx hs hx v' w' hr h

theorem Owned.drew {w : World} {base : Nat} {v : Value} {xs : List Int} (h : Owned w base v xs) (k : Nat) : Owned (w.drewN k) base v xs := h

/-- append of one number, behind any number of draws. -/
theorem app_all {wr : World} {base q : Nat} {A : Option Addr} {c : Nat} {xs : List Int} (h : Owned wr base (.slice A q c) xs) (x : Int) (hbase : base ≤ wr.heap.size) (hl : xs.length < 17592186044416) :
    ∃ F : Nat → (Option Addr × Nat) × World, ∀ k, (Builtin.append_ #[33, 33] 33 #[.slice A q c, .slice (some ⟨wr.heap.size, 0, none⟩) 1 1]).run Try.prog ((wr.drewN k).alloc (.cells #[.int .i64 x] 3)) = .ok (.slice (F k).1.1 (q + 1) (F k).1.2) (F k).2 ∧
      Owned (F k).2 base (.slice (F k).1.1 (q + 1) (F k).1.2) (xs ++ [x]) ∧ Below base wr (F k).2 := by
  have hq : q = xs.length := by obtain ⟨A', c', e⟩ := h.form; cases e; rfl
  refine skol (p := fun k (r : (Option Addr × Nat) × World) => (Builtin.append_ #[33, 33] 33 #[.slice A q c, .slice (some ⟨wr.heap.size, 0, none⟩) 1 1]).run Try.prog ((wr.drewN k).alloc (.cells #[.int .i64 x] 3)) = .ok (.slice r.1.1 (q + 1) r.1.2) r.2 ∧
      Owned r.2 base (.slice r.1.1 (q + 1) r.1.2) (xs ++ [x]) ∧ Below base wr r.2) fun k => ?_
  obtain ⟨A', c', w', h1, h2, h3, _⟩ := run_append_one (h.drew k) x hbase hl
  rw [← hq] at h1 h2
  exact ⟨((A', c'), w'), h1, h2, (below_drewN (Below.refl _ _) k).trans h3⟩

end Go.Proofs.Ytdedgpgdmnfijaa
end

section
/- Trim of a machine. -/
namespace Go.Proofs.Ytdedgpgdmnfijaa
open Go.RowKit

/-- A block of a machine. -/
def Mblk (w : World) (g : Nat) (a b c d : Value) : Prop := w.heap[g]? = some (.cells #[a, b, c, d] 24 (0, 0))
theorem Mblk.cells {w : World} {g : Nat} {a b c d : Value} (h : Mblk w g a b c d) :
    w.cell? ⟨g, 0, none⟩ = some a ∧ w.cell? ⟨g, 1, none⟩ = some b ∧ w.cell? ⟨g, 2, none⟩ = some c ∧ w.cell? ⟨g, 3, none⟩ = some d ∧ w.frozen? ⟨g, 0, none⟩ = false ∧ w.frozen? ⟨g, 1, none⟩ = false ∧ w.frozen? ⟨g, 2, none⟩ = false ∧ w.frozen? ⟨g, 3, none⟩ = false :=
  ⟨cell_of_row w g 0 _ _ (0, 0) h, cell_of_row w g 1 _ _ (0, 0) h, cell_of_row w g 2 _ _ (0, 0) h, cell_of_row w g 3 _ _ (0, 0) h, frozen_of_row w g 0 _ _ h, frozen_of_row w g 1 _ _ h, frozen_of_row w g 2 _ _ h, frozen_of_row w g 3 _ _ h⟩
theorem Mblk.kept {w w' : World} {g : Nat} {a b c d : Value} (h : Mblk w g a b c d) {k : Nat} (hb : Below k w w') (hg : g < k) : Mblk w' g a b c d := (hb.block g hg).trans h
theorem Mblk.keptT {w w' : World} {g : Nat} {a b c d : Value} (h : Mblk w g a b c d) (hb : KeptT 24 w w') : Mblk w' g a b c d := hb g _ h

/-- A result that lies in memory, a machine, and one more. -/
theorem results_mealy {fn : Func} {p u : Tmp} (h : fn.results = #[.cell p 24, .tmp u]) (tmps : Array Value) (w : World) (g : Nat) (a b c d : Value)
    (hp : tmps.getD p undef = .pointer (some ⟨g, 0, none⟩)) (hg : Mblk w g a b c d) :
    (results fn tmps).run Try.prog w = .ok (.tuple #[.agg #[a, b, c, d], tmps.getD u undef]) w := by
  rw [results_cell_tmp h, hp]
  have hl := run_loadVar_row (P := Try.prog) w g 24 24 #[a, b, c, d] (0, 0) _ hg Try.underlying24 rfl (by kernel_rfl)
  simp [asAddr, hl]
theorem Mblk.set4 {w : World} {g : Nat} {a b c d : Value} (h : Mblk w g a b c d) (a' b' c' d' : Value) :
    Mblk ((((w.setCell ⟨g, 0, none⟩ a').setCell ⟨g, 1, none⟩ b').setCell ⟨g, 2, none⟩ c').setCell ⟨g, 3, none⟩ d') g a' b' c' d' := by
  have h1 := heap_setCell_same w g 0 _ _ a' h
  have h2 := heap_setCell_same _ g 1 _ _ b' h1
  have h3 := heap_setCell_same _ g 2 _ _ c' h2
  have h4 := heap_setCell_same _ g 3 _ _ d' h3
  exact h4

theorem ptrim_bad (i st : Int) (A B : Option Addr) (n c m d : Nat) (nx ot : List (List Int)) (w : World) (hx : Lists w A n nx) (ho : Lists w B m ot) (hv : ¬ vld i st nx ot = 0) :
    Calls Try.prog 40 #[.agg #[.int .i64 i, .int .i64 st, .slice A n c, .slice B m d]] w fun e w' => e = .returned (.tuple #[.agg #[.int .i64 0, .int .i64 0, .slice none 0 0, .slice none 0 0], .int .i64 (vld i st nx ot)]) ∧ Below w.heap.size w w' := by
  have hb0 := alloc_below w (.cells #[.int .i64 i, .int .i64 st, .slice A n c, .slice B m d] 24)
  have hb1 := bt hb0 (alloc_below (w.alloc (.cells #[.int .i64 i, .int .i64 st, .slice A n c, .slice B m d] 24)) (.cells #[.int .i64 0, .int .i64 0, .slice none 0 0, .slice none 0 0] 24))
  have hne : (vld i st nx ot != 0) = true := by simpa using hv
  go_enter Try.func40, Try.ntmps40
  go_wp2_with fail
  refine (pvalid _ _ _ _ _ _ _ _ _ _ _ (hx.below hb1) (ho.below hb1)).mono ?_
  rintro e w1 ⟨rfl, b1⟩
  have hR : Mblk w1 (w.heap.size + 1) (.int .i64 0) (.int .i64 0) (.slice none 0 0) (.slice none 0 0) := by
    refine Mblk.kept ?_ b1 (by simp)
    have := heap_alloc_new (w.alloc (.cells #[.int .i64 i, .int .i64 st, .slice A n c, .slice B m d] 24)) (.cells #[.int .i64 0, .int .i64 0, .slice none 0 0, .slice none 0 0] 24)
    simpa [Mblk] using this
  obtain ⟨c0, c1, c2, c3, f0, f1, f2, f3⟩ := hR.cells
  have HR := Lib.hid hR
  generalize hE : vld i st nx ot = E at hne hv
  have HE := Lib.hid hE
  clear hv hR hE
  go_wp2
  (try simp only [Exit.inBlock, Exit.then])
  refine bodyPost_ret (results_mealy rfl _ _ (w.heap.size + 1) (.int .i64 0) (.int .i64 0) (.slice none 0 0) (.slice none 0 0) rfl (HR.out.set4 _ _ _ _)) rfl ?_
  have hl : ∀ k, w.heap.size ≤ (⟨w.heap.size + 1, k, none⟩ : Addr).block := fun k => Nat.le_succ _
  exact ⟨by rw [HE.out]; rfl, (((((bt hb1 b1).setCell (hl 0) _).setCell (hl 1) _).setCell (hl 2) _).setCell (hl 3) _)⟩

theorem OwnedL.drew {w : World} {base : Nat} {v : Value} {xss : List (List Int)} (h : OwnedL w base v xss) (q : Nat) : OwnedL (w.drewN q) base v xss := h
theorem Mblk.set2 {w : World} {g : Nat} {a b c d : Value} (h : Mblk w g a b c d) (v : Value) : Mblk (w.setCell ⟨g, 2, none⟩ v) g a b v d := heap_setCell_same w g 2 _ _ v h
theorem Mblk.set3 {w : World} {g : Nat} {a b c d : Value} (h : Mblk w g a b c d) (v : Value) : Mblk (w.setCell ⟨g, 3, none⟩ v) g a b c v := heap_setCell_same w g 3 _ _ v h
theorem OwnedL.offM {w : World} {base g j : Nat} {v : Value} {xss : List (List Int)} {a b c d : Value} (h : OwnedL w base v xss) (hM : Mblk w g a b c d) (u : Value) : OwnedL (w.setCell ⟨g, j, none⟩ u) base v xss :=
  h.keptT (KeptT.off hM (by decide) u) (KeptT.off hM (by decide) u)

/-- What a row of lists in a machine's block is behind a call and an append. -/
theorem trim_step {wo w8 w9 : World} {gT k m c9 : Nat} {x y u : Value} {AO A9 : Option Addr} {cO : Nat} {xss yss : List (List Int)} {xs : List Int} (b8 : Below gT wo w8) (hT : Mblk w8 gT x y u (.slice AO k cO)) (hN : OwnedL w8 gT u xss) (hO : OwnedL w8 gT (.slice AO k cO) yss) (hA : Apart u (.slice AO k cO))
    (q8 : Nat) (b9 : Below (w8.drewN q8).heap.size (w8.drewN q8) w9) (ho : Owned w9 (w8.drewN q8).heap.size (.slice A9 m c9) xs) (hk : k < 1759218604441) (hg : gT < w8.heap.size) :
    Mblk w9 gT x y u (.slice AO k cO) ∧ ∃ F : Nat → (Option Addr × Nat) × World, ∀ q, (Builtin.append_ #[22, 22] 22 #[.slice AO k cO, .slice (some ⟨w9.heap.size, 0, none⟩) 1 1]).run Try.prog ((w9.drewN q).alloc (.cells #[.slice A9 m c9] 33)) = .ok (.slice (F q).1.1 (k + 1) (F q).1.2) (F q).2 ∧
      Mblk (F q).2 gT x y u (.slice AO k cO) ∧ OwnedL (F q).2 gT u xss ∧ OwnedL (F q).2 gT (.slice (F q).1.1 (k + 1) (F q).1.2) (yss ++ [xs]) ∧ Apart u (.slice (F q).1.1 (k + 1) (F q).1.2) ∧ Below gT wo (F q).2 := by
  have b9' : Below w8.heap.size w8 w9 := (below_drewN (Below.refl _ _) q8).trans b9
  have hT9 := hT.kept b9' hg
  have hyl : yss.length = k := by obtain ⟨A', c', e⟩ := hO.form; cases e; rfl
  refine ⟨hT9, skol (p := fun q (r : (Option Addr × Nat) × World) => (Builtin.append_ #[22, 22] 22 #[.slice AO k cO, .slice (some ⟨w9.heap.size, 0, none⟩) 1 1]).run Try.prog ((w9.drewN q).alloc (.cells #[.slice A9 m c9] 33)) = .ok (.slice r.1.1 (k + 1) r.1.2) r.2 ∧
      Mblk r.2 gT x y u (.slice AO k cO) ∧ OwnedL r.2 gT u xss ∧ OwnedL r.2 gT (.slice r.1.1 (k + 1) r.1.2) (yss ++ [xs]) ∧ Apart u (.slice r.1.1 (k + 1) r.1.2) ∧ Below gT wo r.2) fun q => ?_⟩
  have hN9 := hN.kept b9'
  obtain ⟨A', c', w', h1, h2, h3, h4, h5, h6⟩ := run_append_list ((hO.kept b9').drew q) ((ho.lower (base' := gT) (Nat.le_of_lt hg)).drew q) (by have := b9'.size; show gT ≤ w9.heap.size; omega) (by omega)
  rw [hyl] at h1 h2 h6
  have hT9q : Mblk (w9.drewN q) gT x y u (.slice AO k cO) := hT9
  exact ⟨((A', c'), w'), h1, hT9q.keptT (h4 _ (by decide)), (hN9.drew q).keptB h5 hA.symm (h4 _ (by decide)), h2, (hA.symm.moved h6 (hN9.drew q)).symm, b8.trans ((b9'.mono (Nat.le_of_lt hg)).trans ((below_drewN (Below.refl _ _) q).trans h3))⟩

set_option maxHeartbeats 4000000 in
set_option maxRecDepth 100000 in
theorem ptrim_ok (i st n : Nat) (A B : Option Addr) (c d : Nat) (nx ot : List (List Int)) (w : World) (hx : Lists w A n nx) (ho : Lists w B n ot) (hM : Mok i st n nx ot) :
    Calls Try.prog 40 #[.agg #[.int .i64 i, .int .i64 st, .slice A n c, .slice B n d]] w fun e w' => ∃ A' c' B' d',
      e = .returned (.tuple #[.agg #[.int .i64 i, .int .i64 0, .slice A' (rch nx i st).length c', .slice B' (rch nx i st).length d'], .int .i64 0]) ∧
      OwnedL w' w.heap.size (.slice A' (rch nx i st).length c') (trN nx i (rch nx i st)) ∧ OwnedL w' w.heap.size (.slice B' (rch nx i st).length d') (trO ot (rch nx i st)) ∧ Below w.heap.size w w' := by
  have hn := hx.2.1
  have hn128 := hM.n2
  have HV := Lib.hid hM.vld
  have hlo := Lib.hid ho
  obtain ⟨w0, hw0⟩ : ∃ w0, w0 = (w.alloc (.cells #[.int .i64 i, .int .i64 st, .slice A n c, .slice B n d] 24)).alloc (.cells #[.int .i64 0, .int .i64 0, .slice none 0 0, .slice none 0 0] 24) := ⟨_, rfl⟩
  have hb1 : Below w.heap.size w w0 := by rw [hw0]; exact bt (alloc_below _ _) (alloc_below _ _)
  have hz0 : w0.heap.size = w.heap.size + 2 := by rw [hw0]; simp
  have hB0 : Mblk w0 w.heap.size (.int .i64 i) (.int .i64 st) (.slice A n c) (.slice B n d) := by
    rw [hw0]
    have := (alloc_below (w.alloc (.cells #[.int .i64 i, .int .i64 st, .slice A n c, .slice B n d] 24)) (.cells #[.int .i64 0, .int .i64 0, .slice none 0 0, .slice none 0 0] 24)).block w.heap.size (by simp)
    exact this.trans (heap_alloc_new w _)
  have hR0 : Mblk w0 (w.heap.size + 1) (.int .i64 0) (.int .i64 0) (.slice none 0 0) (.slice none 0 0) := by
    rw [hw0]
    have := heap_alloc_new (w.alloc (.cells #[.int .i64 i, .int .i64 st, .slice A n c, .slice B n d] 24)) (.cells #[.int .i64 0, .int .i64 0, .slice none 0 0, .slice none 0 0] 24)
    simpa [Mblk] using this
  have HW0 := Lib.hid hw0
  obtain ⟨R, hR⟩ : ∃ R, R = rch nx i st := ⟨_, rfl⟩
  have hRs : Stt n R := by rw [hR]; exact hM.rch_stt
  have hRc := Lib.hid (show ∀ s a, s ∈ R → a < i → nN nx s a ∈ R from fun s a hs ha => by rw [hR] at hs ⊢; exact hM.rch_in hs ha)
  have HREACH := Lib.hid (fun W h1 h2 => preach_ok i st n A B c d nx ot W h1 h2 hM)
  rw [← hR] at HREACH ⊢
  clear hR
  have hRl := hRs.len
  go_enter Try.func40, Try.ntmps40
  go_wp2_with fail
  rw [← HW0.out]
  clear hw0
  refine (pvalid _ _ _ _ _ _ _ _ _ _ _ (hx.below hb1) (ho.below hb1)).mono ?_
  rintro e w1 ⟨rfl, b1⟩
  rw [HV.out]
  obtain ⟨k0, k1, k2, k3, _⟩ := (hB0.kept b1 (by omega)).cells
  go_wp2_with fail
  refine (HREACH.out _ (hx.below (bt hb1 b1)) (ho.below (bt hb1 b1))).mono ?_
  rintro e w2 ⟨A1, c1, rfl, ho1, b2⟩
  have b2 := bt b1 b2
  have hz2 := b2.size
  obtain ⟨k0, k1, k2, k3, _⟩ := (hB0.kept b2 (by omega)).cells
  have hI1 := Lib.hid (Owned.ints ho1 (by rw [zs_len]; omega))
  clear ho1
  go_wp2_with (refine wpList_make_ints _ rfl _ _ rfl .i64 .i64 n rfl rfl hn ?_; intro w3 ho3 b3)
  obtain ⟨gn, hgn0⟩ : ∃ gn, gn = w2.heap.size := ⟨_, rfl⟩
  rw [← hgn0] at ho3 b3 hz2 ⊢
  have HG := Lib.hid hgn0
  have HO3 := Lib.hid ho3
  have HB3 := Lib.hid b3
  clear hgn0 k0 k1 k2 k3 b1 ho3 b3
  go_loopw [28] (fun kv wr => ∃ (k : Nat) (num : List Int), k ≤ R.length ∧ kv = .int .i64 k ∧ Owned wr gn (.slice (some ⟨gn, 0, none⟩) n n) num ∧ num.length = n ∧ (∀ j, j < k → num.getD (R.getD j 0) 0 = (j : Int)) ∧ Below gn w2 wr) (fun kv _ => R.length - (intOf kv).toNat)
  case atStart => exact ⟨0, List.replicate n 0, Nat.zero_le _, rfl, HO3.out, by simp, fun j h => absurd h (by omega), HB3.out⟩
  case round =>
    obtain ⟨k, num, hk, rfl, ho, hnl, hat, hbr2⟩ := hrel
    have hI : Ints wr A1 R.length (zs R) := hI1.out.below (by rw [← HG.out]; exact hbr2)
    have HAT := Lib.hid hat
    have HNL := Lib.hid hnl
    clear hat hnl
    by_cases hlt : k < R.length
    · obtain ⟨b1, o1, rfl, hb1, hc1⟩ := hI.at_ hlt
      rw [zs_at] at hc1
      have hs : R.getD k 0 < n := hRs.2 _ (getD_mem hlt)
      have hnd := Lib.hid (show ∀ j, j < k → R.getD j 0 ≠ R.getD k 0 from fun j hj e => by
        have h1 := ixN_of hRs.1 (show j < R.length by omega)
        have h2 := ixN_of hRs.1 hlt
        rw [e] at h1
        omega)
      have hs1 := ho.stored (R.getD k 0) (k : Int)
      have hw := ho.ints (by rw [HNL.out]; exact hn)
      obtain ⟨bq, oq, eq, hbq, hcq⟩ := hw.at_ hs
      cases eq
      obtain ⟨gq, eg, _, _, hfz⟩ := ho.head (by omega)
      cases eg
      have hfz' := hfz (R.getD k 0)
      have hset := Lib.hid (show ∀ j, j < k + 1 → (num.set (R.getD k 0) (k : Int)).getD (R.getD j 0) 0 = (j : Int) from fun j hj => by
        by_cases e : j = k
        · subst e
          rw [List.getD_eq_getElem?_getD, List.getElem?_set, if_pos rfl, if_pos (by rw [HNL.out]; exact hs)]; rfl
        · rw [List.getD_eq_getElem?_getD, List.getElem?_set, if_neg (fun e2 => hnd.out j (by omega) e2.symm), ← List.getD_eq_getElem?_getD]
          exact HAT.out j (by omega))
      have hbs := Lib.hid (hbr2.setCell (p := ⟨gn, R.getD k 0, none⟩) (Nat.le_refl _) (.int .i64 k))
      have HS1 := Lib.hid hs1
      rw [Nat.zero_add] at hcq
      generalize R.getD k 0 = s at hc1 hs hs1 hcq hfz' hset hbs HS1
      clear hfz hw hs1 hI ho hbr2 HAT hnd
      go_wp2
      go_roundw
      case rel => exact ⟨k + 1, num.set s k, by omega, by go_num, HS1.out, by rw [List.length_set, HNL.out], hset.out, hbs.out⟩
      case measure => simp [intOf]; omega
    · obtain rfl : k = R.length := by omega
      have hidx := Lib.hid (show ∀ x, x ∈ R → num.getD x 0 = ((ixN R x : Nat) : Int) from fun x hx => by
        have := HAT.out (ixN R x) (ixN_lt hx)
        rw [ixN_at hx] at this
        exact this)
      have hbr := b2.trans (hbr2.mono (by rw [HG.out]; exact b2.size))
      have hNum := Lib.hid (Owned.ints ho (by rw [HNL.out]; exact hn))
      obtain ⟨k0, k1, k2, k3, _⟩ := (hB0.kept hbr (by omega)).cells
      clear ho HAT HO3 HB3
      have hzr := hbr.size
      obtain ⟨gT, hgT⟩ : ∃ gT, gT = wr.heap.size := ⟨_, rfl⟩
      obtain ⟨wo, rfl⟩ : ∃ wo : World, wo = wr := ⟨_, rfl⟩
      have HT := Lib.hid hgT
      obtain ⟨w4, hw4⟩ : ∃ w4, w4 = wo.alloc (.cells #[.int .i64 i, .int .i64 0, .slice none 0 0, .slice none 0 0] 24) := ⟨_, rfl⟩
      have hbl4 : Below wo.heap.size wo w4 := by rw [hw4]; exact alloc_below _ _
      have hT4 : Mblk w4 gT (.int .i64 i) (.int .i64 0) (.slice none 0 0) (.slice none 0 0) := by rw [hw4, hgT]; exact heap_alloc_new _ _
      have b4 := hbr.trans (hbl4.mono hzr)
      have hIo := Lib.hid hI
      rw [← hgT] at hzr hbl4
      have H4 := Lib.hid hw4
      have HL4 := Lib.hid hbl4
      have hbr0 := hbr
      clear hgT hI hbr hbl4
      go_wp2
      rw [← H4.out]
      clear hw4
      try rw [← HT.out]
      clear k0 k1 k2 k3
      have HT4 := Lib.hid hT4
      have HB4 := Lib.hid b4
      have hzr2 : w.heap.size < gT := by omega
      have HBX := Lib.hid (hB0.kept hbr0 (by omega))
      have HRX := Lib.hid (hR0.kept hbr0 (by omega))
      have HBW := Lib.hid (hb1.trans (hbr0.mono (by omega)))
      clear hT4 b4 H4 hbr0
      go_loopw [43] (fun kv wr => ∃ (k : Nat) (AN AO : Option Addr) (cN cO : Nat), k ≤ R.length ∧ kv = .int .i64 k ∧ Below gT wo wr ∧ Mblk wr gT (.int .i64 i) (.int .i64 0) (.slice AN k cN) (.slice AO k cO) ∧
        OwnedL wr gT (.slice AN k cN) ((R.take k).map (trR nx i R)) ∧ OwnedL wr gT (.slice AO k cO) ((R.take k).map fun s => ot.getD s []) ∧ Apart (.slice AN k cN) (.slice AO k cO)) (fun kv _ => R.length - (intOf kv).toNat)
      case atStart => exact ⟨0, none, none, 0, 0, Nat.zero_le _, rfl, HL4.out, HT4.out, OwnedL.nil _ _, OwnedL.nil _ _, Apart.nil _⟩
      case round =>
        obtain ⟨k, AN, AO, cN, cO, hk, rfl, hbr, hT, hLN, hLO, hap⟩ := hrel
        have hbo := HB4.out
        have hzo : gT + 1 ≤ wr.heap.size := heap_lt hT
        have hbw0 : Below gT wo wr := hbr
        have hbox := (HBX.out.kept hbr hzr2).cells
        obtain ⟨k0, k1, k2, k3, _⟩ := hbox
        have hbW : Below w.heap.size w wr := HBW.out.trans (hbr.mono (by omega))
        have hI : Ints wr A1 R.length (zs R) := hIo.out.below (by rw [← HT.out]; exact hbr)
        have hNm := Lib.hid (hNum.out.below (show Below wo.heap.size wo wr by rw [← HT.out]; exact hbr))
        have HTT := Lib.hid hT
        have HLN := Lib.hid hLN
        have HLO := Lib.hid hLO
        have HAP := Lib.hid hap
        have HBR := Lib.hid hbr
        clear hT hLN hLO hap hbo hbw0
        by_cases hlt : k < R.length
        · obtain ⟨b1, o1, rfl, hb1', hc1⟩ := hI.at_ hlt
          rw [zs_at] at hc1
          have hsR := getD_mem hlt
          have hs : R.getD k 0 < n := hRs.2 _ hsR
          have hTN := Lib.hid (map_take_succ (trR nx i R) R 0 hlt)
          have hTO := Lib.hid (map_take_succ (fun s => ot.getD s []) R 0 hlt)
          generalize R.getD k 0 = s at hc1 hs hsR hTN hTO
          obtain ⟨g1, p1, A3, n1, c3, rfl, hg1, hd1, hr1⟩ := hx.at_ hs
          obtain ⟨g2, p2, A4, n2, c4, rfl, hg2, hd2, hr2⟩ := hlo.out.at_ hs
          have hi1 := (hM.row s hs).1
          have hi2 := (hM.row s hs).2.1
          have hl1 := hr1.1
          have hl2 := hr2.1
          obtain rfl : n1 = i := by omega
          obtain rfl : n1 = n2 := by omega
          have e1 := (hbW.cell (p := ⟨g1, p1 + s, none⟩) hg1).trans hd1
          have hi64 := hM.i2
          clear hl1 hl2 hi2 hd1
          have HI1 := Lib.hid hi1
          clear hi1
          go_wp2_with fail
          refine (sclone _ _ _ _ _ (hr1.below hbW)).mono ?_
          rintro e w5 ⟨A5, c5, rfl, ho5, b5⟩
          have HO5 := Lib.hid ho5
          have HB5 := Lib.hid b5
          clear ho5 b5
          go_wp2
          obtain ⟨wc, rfl⟩ : ∃ wc : World, wc = wr := ⟨_, rfl⟩
          clear k0 k1 k2 k3 hc1 e1
          go_loopw [55] (fun av wq => ∃ a : Nat, a ≤ n1 ∧ av = .int .i64 a ∧ Owned wq wc.heap.size (.slice A5 n1 c5) (midR nx n1 R s a) ∧ Below wc.heap.size wc wq) (fun av _ => n1 - (intOf av).toNat)
          case atStart => exact ⟨0, Nat.zero_le _, rfl, by rw [midR_zero]; exact HO5.out, HB5.out⟩
          case round =>
            obtain ⟨a, ha, rfl, ho6, b6⟩ := hrel
            by_cases hla : a < n1
            · have hset := Lib.hid (midR_set (R := R) HI1.out hla)
              have hat := Lib.hid ((midR_at (nx := nx) (R := R) (s := s) hla).trans (hM.nN_eq hs hla))
              have hml := Lib.hid (midR_len (nx := nx) (R := R) (s := s) HI1.out (Nat.le_of_lt hla))
              have hmi : (midR nx n1 R s a).length ≤ 17592186044416 := by rw [hml.out]; omega
              obtain ⟨g5, e5, hg5, hg5', hfz5⟩ := ho6.head (by omega)
              subst e5
              obtain ⟨bq, oq, eq, hbq, hcq⟩ := (ho6.ints hmi).at_ hla
              cases eq
              rw [hat.out, Nat.zero_add] at hcq
              have ht := hM.nN_lt hs hla
              have hnum := hidx.out _ (hRc.out s a hsR hla)
              generalize nN nx s a = t at hcq ht hnum hset
              obtain ⟨bn, on, en, hbn, hcn⟩ := (hNm.out.below b6).at_ ht
              cases en
              rw [hnum, Nat.zero_add] at hcn
              have hst := ho6.stored a ((ixN R t : Nat) : Int)
              rw [hset.out] at hst
              have hbs := Lib.hid (b6.setCell (p := ⟨g5, a, none⟩) hg5 (.int .i64 ((ixN R t : Nat) : Int)))
              have HST := Lib.hid hst
              have hf := hfz5 a
              clear hst ho6 b6 hfz5 hnum
              generalize ((ixN R t : Nat) : Int) = tv at hcn hbs HST
              go_wp2
              go_roundw
              case rel => exact ⟨a + 1, by omega, by go_num, HST.out, hbs.out⟩
              case measure => simp [intOf]; omega
            · obtain rfl : a = n1 := by omega
              rw [midR_all HI1.out] at ho6
              have hTq := HTT.out.kept b6 (heap_lt HTT.out)
              obtain ⟨c0, c1', c2', c3', f0, f1, f2, f3⟩ := hTq.cells
              have hLq := HLN.out.kept b6
              have hLOq := HLO.out.kept b6
              have ho6 := ho6.lower (base' := gT) (by omega)
              have hzq := b6.size
              have hgq : gT ≤ wr.heap.size := by omega
              obtain ⟨AN2, cN2, w7, hrn, hLN7, b7, hk7, hkb7, hmv7⟩ := run_append_list hLq ho6 hgq (by rw [List.length_map, List.length_take]; omega)
              have hkl : ((R.take k).map (trR nx a R)).length = k := by rw [List.length_map, List.length_take]; omega
              rw [hkl] at hrn hLN7 hmv7
              rw [← hTN.out] at hLN7
              have hT7 := hTq.keptT (hk7 _ (by decide))
              obtain ⟨y0, y1, y2, y3, z0, z1, z2, z3⟩ := hT7.cells
              have hLO7 := hLOq.keptB hkb7 HAP.out (hk7 _ (by decide))
              have hAP7 := HAP.out.moved hmv7 hLOq
              have hb7 : Below gT wo w7 := HBR.out.trans ((b6.mono (by omega)).trans b7)
              have hw8 := fun (u : Value) => hb7.setCell (p := ⟨gT, 2, none⟩) (Nat.le_refl _) u
              have h81 := hT7.set2 (.slice AN2 (k + 1) cN2)
              have h82 := hLN7.offM (j := 2) hT7 (.slice AN2 (k + 1) cN2)
              have h83 := hLO7.offM (j := 2) hT7 (.slice AN2 (k + 1) cN2)
              have h84 := hw8 (.slice AN2 (k + 1) cN2)
              have e2 := (hbW.cell (p := ⟨g2, p2 + s, none⟩) hg2).trans hd2
              have HH := Lib.hid (And.intro h81 (And.intro h82 (And.intro h83 h84)))
              clear hT7 hLN7 hLO7 hb7 hw8 h81 h82 h83 h84 hTq hLq hLOq ho6 hk7 hkb7 hmv7 b7 b6 e2
              go_wp2_with (at_builtin; refine Lib.wpList_append_run _ rfl _ _ _ _ rfl _ _ rfl rfl _ _ hrn ?_)
              obtain ⟨h81, h82, h83, h84⟩ := HH.out
              generalize w7.setCell ⟨gT, 2, none⟩ (.slice AN2 (k + 1) cN2) = w8 at h81 h82 h83 h84 ⊢
              clear HH y0 y1 y2 y3 z0 z1 z2 z3 hrn c0 c1' c2' c3' f0 f1 f2 f3
              obtain ⟨c0, c1', c2', c3', f0, f1, f2, f3⟩ := h81.cells
              have hbox8 := HBX.out.kept h84 hzr2
              obtain ⟨k0, k1, k2, k3, _⟩ := hbox8.cells
              have hbW8 : Below w.heap.size w w8 := HBW.out.trans (h84.mono (by omega))
              have e2 := (hbW8.cell (p := ⟨g2, p2 + s, none⟩) hg2).trans hd2
              have hg8 : gT < w8.heap.size := heap_lt h81
              have H81 := Lib.hid h81
              have H82 := Lib.hid h82
              have H83 := Lib.hid h83
              have H84 := Lib.hid h84
              have HAP7 := Lib.hid hAP7
              clear h81 h82 h83 h84 hAP7
              go_region_law (first
                | (refine step_append_run rfl _ _ _ _ rfl _ _ rfl rfl _ _ (HF.out 0).1 ?_)
                | (go_simp; go_at_call 59; refine (sclone _ _ _ _ _ (hr2.below (below_drewN hbW8 _))).mono ?_; rintro e w9 ⟨A9, c9, rfl, ho9, b9⟩; obtain ⟨hT9, F, hF⟩ := trim_step H84.out H81.out H82.out H83.out HAP7.out _ b9 ho9 (by omega) hg8; obtain ⟨c0, c1', c2', c3', f0, f1, f2, f3⟩ := hT9.cells; have ca := ((alloc_below w9 (.cells #[.slice A9 a c9] 33)).cell (p := ⟨gT, 3, none⟩) (heap_lt hT9)).trans c3'; have HF := Lib.hid hF; have cF := fun q => (hF q).2.1.cells.2.2.2.1; have fF := fun q => (hF q).2.1.cells.2.2.2.2.2.2.2; clear hT9 hF ho9 b9))
              all_goals
                go_wp2
                go_roundw
                case rel => exact ⟨k + 1, AN2, (F 0).1.1, cN2, (F 0).1.2, by omega, by go_num, (HF.out 0).2.2.2.2.2.setCell (p := ⟨gT, 3, none⟩) (Nat.le_refl _) _, (HF.out 0).2.1.set3 _, (HF.out 0).2.2.1.offM (HF.out 0).2.1 _, by rw [hTO.out]; exact (HF.out 0).2.2.2.1.offM (HF.out 0).2.1 _, (HF.out 0).2.2.2.2.1⟩
                case measure => simp [intOf]; omega
        · obtain rfl : k = R.length := by omega
          obtain ⟨c0, c1', c2', c3', _⟩ := HTT.out.cells
          have hRr := HRX.out.kept HBR.out (by omega)
          obtain ⟨y0, y1, y2, y3, z0, z1, z2, z3⟩ := hRr.cells
          have hN9 := HLN.out
          have hO9 := HLO.out
          rw [List.take_length] at hN9 hO9
          have hl : ∀ k, w.heap.size ≤ (⟨w.heap.size + 1, k, none⟩ : Addr).block := fun k => Nat.le_succ _
          have hfb := Lib.hid (((((hbW.setCell (hl 0) (.int .i64 i)).setCell (hl 1) (.int .i64 0)).setCell (hl 2) (.slice AN R.length cN)).setCell (hl 3) (.slice AO R.length cO)))
          have hR4 := Lib.hid (hRr.set4 (.int .i64 i) (.int .i64 0) (.slice AN R.length cN) (.slice AO R.length cO))
          have hq1 := hRr
          have hq2 : Mblk (wr.setCell ⟨w.heap.size + 1, 0, none⟩ (.int .i64 i)) (w.heap.size + 1) _ _ _ _ := heap_setCell_same wr _ 0 _ _ _ hq1
          have hq3 : Mblk ((wr.setCell ⟨w.heap.size + 1, 0, none⟩ (.int .i64 i)).setCell ⟨w.heap.size + 1, 1, none⟩ (.int .i64 0)) (w.heap.size + 1) _ _ _ _ := heap_setCell_same _ _ 1 _ _ _ hq2
          have hq4 : Mblk (((wr.setCell ⟨w.heap.size + 1, 0, none⟩ (.int .i64 i)).setCell ⟨w.heap.size + 1, 1, none⟩ (.int .i64 0)).setCell ⟨w.heap.size + 1, 2, none⟩ (.slice AN R.length cN)) (w.heap.size + 1) _ _ _ _ := heap_setCell_same _ _ 2 _ _ _ hq3
          have hN10 := Lib.hid (((((hN9.offM hq1 (.int .i64 i) (j := 0)).offM hq2 (.int .i64 0) (j := 1)).offM hq3 (.slice AN R.length cN) (j := 2)).offM hq4 (.slice AO R.length cO) (j := 3)).lower (base' := w.heap.size) (by omega))
          have hO10 := Lib.hid (((((hO9.offM hq1 (.int .i64 i) (j := 0)).offM hq2 (.int .i64 0) (j := 1)).offM hq3 (.slice AN R.length cN) (j := 2)).offM hq4 (.slice AO R.length cO) (j := 3)).lower (base' := w.heap.size) (by omega))
          clear hRr hq1 hq2 hq3 hq4 hN9 hO9 hl hbW
          go_wp2
          (try simp only [Exit.inBlock, Exit.then])
          refine bodyPost_ret (results_mealy rfl _ _ (w.heap.size + 1) _ _ _ _ rfl hR4.out) rfl ?_
          exact ⟨AN, cN, AO, cO, rfl, hN10.out, hO10.out, hfb.out⟩
end Go.Proofs.Ytdedgpgdmnfijaa
end

section
/- A map of the call's own that numbers keys: the numbers are the places in a list of different keys. -/
namespace Go.Proofs.Ytdedgpgdmnfijaa
open Go.RowKit
open Go.Maps (Keyed)

theorem laidOutB_ : laidOutB Try.prog = true := by kernel_rfl

/-- What a type of maps from keys to ints asks. -/
structure KeyT (t k : TypeId) : Prop where
  und : Try.prog.underlying t = some (.map k 3)
  law : Keyed Try.prog k

/-- A key: ints in a row. -/
def kv (x : List Int) : Value := .agg (x.map (Value.int .i64)).toArray
theorem map_int_inj : ∀ {x y : List Int}, x.map (Value.int .i64) = y.map (Value.int .i64) → x = y
  | [], [], _ => rfl
  | [], _ :: _, h => by simp at h
  | _ :: _, [], h => by simp at h
  | a :: x, b :: y, h => by
    simp only [List.map_cons, List.cons.injEq, Value.int.injEq, true_and] at h
    rw [h.1, map_int_inj h.2]
theorem kv_inj {x y : List Int} (h : kv x = kv y) : x = y := by
  unfold kv at h
  simp only [Value.agg.injEq] at h
  exact map_int_inj (by simpa using congrArg Array.toList h)
/-- What is a key. -/
def IsK (k : TypeId) (x : List Int) : Prop := ∃ l, keyOf Try.prog k (kv x) = some l

/-- Block b of w is a map from the keys ks to their places in ks. -/
def NumIs (k : TypeId) (w : World) (b : Nat) (ks : List (List Int)) : Prop :=
  ks.Nodup ∧ (∀ v, v ∈ ks → IsK k v) ∧ ks.length ≤ 17592186044416 ∧ ∃ D : DataW Unit, w.ownsMap Try.prog k (plainElem Try.prog 3) b ks.length D ∧ Maps.Tidy D ∧ Maps.size D = ks.length ∧
    ∀ v l, keyOf Try.prog k (kv v) = some l → Maps.has D l = decide (v ∈ ks) ∧ (v ∈ ks → ∀ z, D.atKey l z = .lit (.int .i64 (ks.idxOf v : Nat)))
theorem plainElem_i64 {a : Nat} (h : a ≤ 17592186044416) : plainElem (H := Unit) Try.prog 3 (.int .i64 a) = some (.lit (.int .i64 a), []) :=
  plainElem_int Try.underlying3 (by unfold Lit.wf; simp; have h1 : IntKind.i64.min = -9223372036854775808 := by decide
                                    have h2 : IntKind.i64.max = 9223372036854775807 := by decide
                                    omega)
theorem NumIs.made (k : TypeId) (w : World) : NumIs k (w.alloc (.map #[] 0)) w.heap.size [] := by
  refine ⟨by simp, by simp, by simp, .map [], World.ownsMap_made (H := Unit) w Try.prog k _, Maps.tidy_empty, rfl, fun v l h => ⟨rfl, by simp⟩⟩
theorem NumIs.kept {k : TypeId} {w w' : World} {b : Nat} {ks : List (List Int)} {r : Option Nat} (h : NumIs k w b ks) (hg : w.grownBy w' r) (hne : some b ≠ r) : NumIs k w' b ks := by
  obtain ⟨h1, h2, h3, D, h4, h5⟩ := h
  exact ⟨h1, h2, h3, D, h4.kept hg hne, h5⟩
theorem NumIs.lt {k : TypeId} {w : World} {b : Nat} {ks : List (List Int)} (h : NumIs k w b ks) : b < w.heap.size := by
  obtain ⟨h1, h2, h3, D, h4, h5⟩ := h
  exact h4.lt
theorem NumIs.block {k : TypeId} {w : World} {b : Nat} {ks : List (List Int)} (h : NumIs k w b ks) : ∃ es ck, w.heap[b]? = some (.map es ck) := by
  obtain ⟨_, _, _, D, ⟨es, ck, h1, _⟩, _⟩ := h
  exact ⟨es, ck, h1⟩
theorem NumIs.at_ {k : TypeId} {w w' : World} {b : Nat} {ks : List (List Int)} (h : NumIs k w b ks) (hb : w'.heap[b]? = w.heap[b]?) : NumIs k w' b ks := by
  obtain ⟨h1, h2, h3, D, ⟨es, ck, h4, h6⟩, h5⟩ := h
  exact ⟨h1, h2, h3, D, ⟨es, ck, hb.trans h4, h6⟩, h5⟩
theorem NumIs.below {k : TypeId} {w w' : World} {b B : Nat} {ks : List (List Int)} (h : NumIs k w b ks) (hb : Below B w w') (hB : b < B) : NumIs k w' b ks := h.at_ (hb.block b hB)
theorem NumIs.drewN {k : TypeId} {w : World} {b : Nat} {ks : List (List Int)} (h : NumIs k w b ks) (q : Nat) : NumIs k (w.drewN q) b ks := h.at_ rfl
theorem NumIs.setCell {k : TypeId} {w : World} {b : Nat} {ks : List (List Int)} (h : NumIs k w b ks) {a : Addr} (ha : b ≠ a.block) (u : Value) : NumIs k (w.setCell a u) b ks := by
  obtain ⟨h1, h2, h3, D, h4, h5⟩ := h
  exact ⟨h1, h2, h3, D, h4.setCell ha u, h5⟩
theorem NumIs.key {k : TypeId} {w : World} {b : Nat} {ks : List (List Int)} (h : NumIs k w b ks) {v : List Int} (hv : v ∈ ks) : IsK k v := h.2.1 v hv

/-- v, ok := m[key] at a key that is there, or not. -/
theorem NumIs.look_in {t k : TypeId} {w : World} {b : Nat} {ks : List (List Int)} (h : NumIs k w b ks) (T : KeyT t k) {v : List Int} (hv : v ∈ ks) :
    (Instr.lookup t (.map (some b)) (kv v) true).run Try.prog w = .ok (.tuple #[.int .i64 (ks.idxOf v : Nat), .bool true]) w := by
  obtain ⟨l, hl⟩ := h.key hv
  obtain ⟨h1, h2, h3, D, h4, h5, h6, h7⟩ := h
  obtain ⟨h8, h9⟩ := h7 v l hl
  obtain ⟨u, ps, hrun, hu⟩ := h4.look_ok T.law T.und (Try.zeroValue3 w) (plainElem_i64 (a := 0) (by omega)) hl
  rw [h9 hv] at hu
  obtain ⟨c, rfl, hc, _⟩ := plainElem_int_inv Try.underlying3 hu
  simp only [Prod.mk.injEq, DataW.lit.injEq, Lit.int.injEq, true_and] at hc
  rw [hrun, h8, decide_eq_true hv, ← hc.1]
theorem NumIs.look_out {t k : TypeId} {w : World} {b : Nat} {ks : List (List Int)} (h : NumIs k w b ks) (T : KeyT t k) {v : List Int} (hk : IsK k v) (hv : ¬ v ∈ ks) :
    (Instr.lookup t (.map (some b)) (kv v) true).run Try.prog w = .ok (.tuple #[.int .i64 0, .bool false]) w := by
  obtain ⟨l, hl⟩ := hk
  obtain ⟨h1, h2, h3, D, h4, h5, h6, h7⟩ := h
  obtain ⟨h8, h9⟩ := h7 v l hl
  obtain ⟨u, ps, hrun, hu⟩ := h4.look_ok T.law T.und (Try.zeroValue3 w) (plainElem_i64 (a := 0) (by omega)) hl
  rw [decide_eq_false hv] at h8
  rw [Maps.atKey_of_not_has h8] at hu
  obtain ⟨c, rfl, hc, _⟩ := plainElem_int_inv Try.underlying3 hu
  simp only [Prod.mk.injEq, DataW.lit.injEq, Lit.int.injEq, true_and] at hc
  rw [hrun, h8, ← hc.1]; rfl
theorem NumIs.len {t k : TypeId} {w : World} {b : Nat} {ks : List (List Int)} (h : NumIs k w b ks) (T : KeyT t k) (ty : TypeId) : (Builtin.len_ #[t] ty #[.map (some b)]).run Try.prog w = .ok (.int .i64 (ks.length : Nat)) w := by
  obtain ⟨h1, h2, h3, D, h4, h5, h6, h7⟩ := h
  rw [h4.len T.und ty, h6]
/-- m[key] = len(m) at a key that is not there. -/
theorem NumIs.put {t k : TypeId} {w : World} {b : Nat} {ks : List (List Int)} (h : NumIs k w b ks) (T : KeyT t k) {v : List Int} (hk : IsK k v) (hv : ¬ v ∈ ks) (hn : ks.length < 17592186044416) :
    ∃ w', (Instr.mapUpdate t (.map (some b)) (kv v) (.int .i64 (ks.length : Nat))).run Try.prog w = .ok () w' ∧ NumIs k w' b (ks ++ [v]) ∧ w.grownBy w' (some b) := by
  obtain ⟨l, hl⟩ := hk
  obtain ⟨h1, h2, h3, D, h4, h5, h6, h7⟩ := h
  obtain ⟨h8, _⟩ := h7 v l hl
  rw [decide_eq_false hv] at h8
  obtain ⟨w', hrun, h9, h10⟩ := h4.update T.law T.und (by unfold maxLen; omega) hl (plainElem_i64 (a := ks.length) (by omega))
  refine ⟨w', hrun, ⟨?_, ?_, ?_, _, by rw [List.length_append]; exact h9, h5.put (T.law.key hl) _, ?_, fun u lu hu => ?_⟩, h10⟩
  · refine List.nodup_append.2 ⟨h1, by simp, fun a ha c hc => ?_⟩
    simp at hc; subst hc; intro e; subst e; exact hv ha
  · intro u hu
    rcases List.mem_append.1 hu with hu | hu
    · exact h2 u hu
    · simp at hu; subst hu; exact ⟨l, hl⟩
  · rw [List.length_append]; simp; omega
  · rw [Maps.size_put h5, h8, h6, List.length_append]; rfl
  · by_cases e : u = v
    · subst e
      have : lu = l := by rw [hl] at hu; exact (Option.some.inj hu).symm
      subst this
      refine ⟨by rw [Maps.has_put_same h5.isMap (T.law.key hl)]; simp, fun _ z => ?_⟩
      rw [Maps.atKey_put_same h5.isMap (T.law.key hl), List.idxOf_append, if_neg hv]
      simp
    · have hne : lu ≠ l := fun H => e (kv_inj (T.law.inj hu (H ▸ hl)))
      obtain ⟨h11, h12⟩ := h7 u lu hu
      refine ⟨by rw [Maps.has_put_other hne, h11]; simp [e], fun hm z => ?_⟩
      have hm : u ∈ ks := by
        rcases List.mem_append.1 hm with hm | hm
        · exact hm
        · simp at hm; exact absurd hm e
      rw [Maps.atKey_put_other hne, h12 hm, List.idxOf_append, if_pos hm]

theorem mapM_some {α β : Type} {f : α → Option β} : ∀ {l : List α}, (∀ x, x ∈ l → ∃ y, f x = some y) → ∃ ys, l.mapM f = some ys
  | [], _ => ⟨[], rfl⟩
  | x :: l, h => by
    obtain ⟨y, hy⟩ := h x (by simp)
    obtain ⟨ys, hys⟩ := mapM_some (l := l) fun z hz => h z (by simp [hz])
    exact ⟨y :: ys, by rw [List.mapM_cons, hy, hys]; rfl⟩
theorem keyLits_arr {t e : TypeId} {n D : Nat} {cs : List Value} (hu : Try.prog.underlying t = some (.array n e)) (hl : cs.length = Try.prog.cellsOf t)
    (h : ∀ i, i < n → ∃ l, Try.prog.keyLits D e ((cs.drop (i * Try.prog.cellsOf e)).take (Try.prog.cellsOf e)) = some l) : ∃ l, Try.prog.keyLits (D + 1) t cs = some l := by
  obtain ⟨ys, hys⟩ := mapM_some (f := fun i => Try.prog.keyLits D e ((cs.drop (i * Try.prog.cellsOf e)).take (Try.prog.cellsOf e))) (l := List.range n) fun i hi => h i (by simpa using hi)
  refine ⟨ys.flatten, ?_⟩
  unfold Program.keyLits
  rw [hu]
  simp only [if_pos hl]
  rw [hys]; rfl
/-- A number that an int holds. -/
def I64 (a : Int) : Prop := (Lit.int .i64 a).wf = true
theorem I64.mk {a : Int} (h1 : -9223372036854775808 ≤ a) (h2 : a ≤ 9223372036854775807) : I64 a := by
  unfold I64 Lit.wf
  have h3 : IntKind.i64.min = -9223372036854775808 := by decide
  have h4 : IntKind.i64.max = 9223372036854775807 := by decide
  simp
  omega
theorem keyLits_int {D : Nat} {a : Int} (h : I64 a) : ∃ l, Try.prog.keyLits (D + 1) 3 [.int .i64 a] = some l := by
  refine ⟨[.int .i64 a], ?_⟩
  unfold Program.keyLits
  rw [Try.underlying3]
  have h : (Lit.int .i64 a).wf = true := h
  simp [h]
/-- An array of n pairs of ints. -/
theorem keyOf_arr {t e : TypeId} {n : Nat} (hu : Try.prog.underlying t = some (.array n e)) (hc : ∀ x : List Int, x.length = Try.prog.cellsOf t → (∀ a, a ∈ x → I64 a) → ∃ l, Try.prog.keyLits (Try.prog.types.size + 1) t (x.map (Value.int .i64)) = some l)
    (hk : Try.prog.keyType t = true) {x : List Int} (hl : x.length = Try.prog.cellsOf t) (hx : ∀ a, a ∈ x → I64 a) : IsK t x := by
  obtain ⟨l, h⟩ := hc x hl hx
  refine ⟨.string (keyBytes l), ?_⟩
  unfold keyOf kv
  rw [hu]
  have hf : (Value.agg ((x.map (Value.int .i64)).toArray)).formed Try.prog t = true := by
    unfold Value.formed
    rw [hu]
    simp [hl]
  simp only [hk, hf, Bool.and_self, if_true]
  have e : (Value.agg ((x.map (Value.int .i64)).toArray)).cells.toList = x.map (Value.int .i64) := by simp [Value.cells]
  rw [e, h]; rfl
theorem keyLits_row {t : TypeId} {n D : Nat} (hu : Try.prog.underlying t = some (.array n 3)) (hc : Try.prog.cellsOf t = n) {x : List Int} (hl : x.length = n) (hx : ∀ a, a ∈ x → I64 a) : ∃ l, Try.prog.keyLits (D + 2) t (x.map (Value.int .i64)) = some l := by
  refine keyLits_arr hu (by simp [hl, hc]) fun j hj => ?_
  have h1 : Try.prog.cellsOf 3 = 1 := by kernel_rfl
  rw [h1, Nat.mul_one]
  have hj : j < x.length := by omega
  have e : ((x.map (Value.int .i64)).drop j).take 1 = [.int .i64 x[j]] := by
    rw [← List.map_drop, List.drop_eq_getElem_cons hj]; rfl
  rw [e]
  exact keyLits_int (hx _ (List.getElem_mem hj))
end Go.Proofs.Ytdedgpgdmnfijaa
end

section
/- The signature of a state. -/
namespace Go.Proofs.Ytdedgpgdmnfijaa
open Go.RowKit

/-- A block that holds ints. -/
def Zblk (w : World) (g : Nat) (t : TypeId) (xs : List Int) : Prop := w.heap[g]? = some (.cells (xs.map (Value.int .i64)).toArray t (0, 0))
theorem Zblk.at_ {w : World} {g : Nat} {t : TypeId} {xs : List Int} (h : Zblk w g t xs) {j : Nat} (hj : j < xs.length) : w.cell? ⟨g, j, none⟩ = some (.int .i64 (xs.getD j 0)) ∧ w.frozen? ⟨g, j, none⟩ = false := by
  refine ⟨?_, frozen_of_row w g j _ _ h⟩
  rw [cell_of_row w g j _ _ (0, 0) h]
  simp [List.getD, hj]
theorem Zblk.set {w : World} {g : Nat} {t : TypeId} {xs : List Int} (h : Zblk w g t xs) (j : Nat) (x : Int) : Zblk (w.setCell ⟨g, j, none⟩ (.int .i64 x)) g t (xs.set j x) := by
  have := heap_setCell_same w g j _ _ (.int .i64 x) h
  unfold Zblk
  rw [this, List.map_set]
  simp
theorem Zblk.kept {w w' : World} {g : Nat} {t : TypeId} {xs : List Int} (h : Zblk w g t xs) {k : Nat} (hb : Below k w w') (hg : g < k) : Zblk w' g t xs := (hb.block g hg).trans h
theorem zero128 : Try.zeroCells106 = ((List.replicate 128 (0 : Int)).map (Value.int .i64)).toArray := by kernel_rfl
theorem Zblk.cells_ (g : Nat) (t : TypeId) : ∀ (ys xs pre : List Int) (w : World), Zblk w g t (pre ++ xs) → xs.length = ys.length → Zblk (w.setCells g pre.length (ys.map (Value.int .i64))) g t (pre ++ ys)
  | [], xs, pre, w, h, hl => by
    obtain rfl : xs = [] := List.eq_nil_of_length_eq_zero hl
    exact h
  | y :: ys, [], pre, w, h, hl => by simp at hl
  | y :: ys, x :: xs, pre, w, h, hl => by
    have h1 := h.set pre.length y
    rw [List.set_append_right _ _ (Nat.le_refl _), Nat.sub_self, List.set_cons_zero] at h1
    have h2 := Zblk.cells_ g t ys xs (pre ++ [y]) _ (by simpa using h1) (by simpa using hl)
    rw [List.length_append, List.append_assoc] at h2
    exact h2
theorem Zblk.whole {w : World} {g : Nat} {t : TypeId} {xs : List Int} (h : Zblk w g t xs) (ys : List Int) (hl : xs.length = ys.length) : Zblk (w.setCells g 0 (ys.map (Value.int .i64))) g t ys := Zblk.cells_ g t ys xs [] w h hl
theorem below_setCells (B g : Nat) (hB : B ≤ g) : ∀ (vs : List Value) (o : Nat) (w : World), Below B w (w.setCells g o vs)
  | [], _, _ => Below.refl _ _
  | v :: vs, o, w => ((Below.refl B w).setCell (p := ⟨g, o, none⟩) hB v).trans (below_setCells B g hB vs (o + 1) _)
theorem Zblk.there {w : World} {g : Nat} {t : TypeId} {xs : List Int} (h : Zblk w g t xs) (n : Nat) (hn : xs.length = n) : w.there g 0 n := fun j hj => by
  obtain ⟨h1, h2⟩ := h.at_ (j := j) (by omega)
  rw [Nat.zero_add, h1]
  exact ⟨rfl, h2⟩
end Go.Proofs.Ytdedgpgdmnfijaa
end

section
/- The reference's refinement: the walk. -/
namespace Go.Proofs.Ytdedgpgdmnfijaa
open Go.RowKit

set_option maxHeartbeats 4000000 in
set_option maxRecDepth 100000 in
theorem rfiner (i st n : Nat) (A B C : Option Addr) (c d cc : Nat) (nx ot : List (List Int)) (cl : List Nat) (w : World) (hx : Lists w A n nx) (ho : Lists w B n ot) (hM : Mok i st n nx ot) (hc : Ints w C n (zs cl)) :
    Calls Try.prog 74 #[.agg #[.int .i64 i, .int .i64 st, .slice A n c, .slice B n d], .slice C n cc] w fun e w' => ∃ A' c', e = .returned (.slice A' n c') ∧ Owned w' w.heap.size (.slice A' n c') (zs (num (rkey nx ot cl i) n)) ∧ Below w.heap.size w w' := by
  have hn := hx.2.1
  have hn2 := hM.n2
  have hn1 := hM.n1
  have hi64 := hM.i2
  have hlo := Lib.hid ho
  obtain ⟨g0, hg⟩ : ∃ g, g = w.heap.size := ⟨_, rfl⟩
  obtain ⟨w1, hw1⟩ : ∃ w1, w1 = w.alloc (.cells #[.int .i64 i, .int .i64 st, .slice A n c, .slice B n d] 24) := ⟨_, rfl⟩
  have hb1 : Below w.heap.size w w1 := by rw [hw1]; exact alloc_below _ _
  have hz1 : w1.heap.size = g0 + 1 := by rw [hw1, hg]; simp
  have hB1 : Mblk w1 g0 (.int .i64 i) (.int .i64 st) (.slice A n c) (.slice B n d) := by rw [hw1, hg]; exact heap_alloc_new _ _
  have HW := Lib.hid hw1
  have HG := Lib.hid hg
  have HB1 := Lib.hid hB1
  have HZ1 := Lib.hid hz1
  obtain ⟨g, hgd⟩ : ∃ g : Nat → List Int, g = rkey nx ot cl i := ⟨_, rfl⟩
  have HKY := Lib.hid (show ∀ s t, g s = g t ↔ smB nx ot cl s t i = true from fun s t => by rw [hgd]; exact rkey_iff hi64)
  rw [← hgd]
  clear hw1 hz1 hg hB1 hgd
  go_enter Try.func74, Try.ntmps74
  go_wp2
  rw [← HW.out]
  try rw [← HG.out]
  go_loopw [5, 6, 7] (fun v5 v6 v7 wr => ∃ (s : Nat) (A' : Option Addr) (c' : Nat), s ≤ n ∧ v7 = .int .i64 s ∧ v6 = .int .i64 ((grp g s).length : Nat) ∧ v5 = .slice A' s c' ∧ Owned wr (g0 + 1) (.slice A' s c') (zs (num g s)) ∧ Below (g0 + 1) w1 wr) (fun _ _ v7 _ => n - (intOf v7).toNat)
  case atStart => exact ⟨0, none, 0, Nat.zero_le _, rfl, rfl, rfl, Owned.nil _ _, Below.refl _ _⟩
  case round =>
    obtain ⟨s, A', c', hs, rfl, rfl, rfl, hO, hbr⟩ := hrel
    have hbW : Below w.heap.size w wr := hb1.trans (hbr.mono (by rw [← HG.out]; omega))
    have hzr := hbr.size
    rw [HZ1.out] at hzr
    have hbox := HB1.out.kept hbr (show g0 < g0 + 1 by omega)
    have HBX := Lib.hid hbox
    have HO := Lib.hid hO
    have HBR := Lib.hid hbr
    have hcnt := grp_len g s
    clear hO hbr hbox
    by_cases hlt : s < n
    · go_wp2
      obtain ⟨wo, hwo⟩ : ∃ wo : World, wo = wr := ⟨_, rfl⟩
      rw [← hwo] at HO HBR HBX hbW hzr ⊢
      clear hwo
      go_loopw [8, 9] (fun v8 v9 wq => ∃ (t : Nat) (v : Int), t ≤ s ∧ v9 = .int .i64 ((t : Int) - 1) ∧ v8 = .int .i64 v ∧ Fnd g s t v ∧ ∃ q, wq = wo.drewN q) (fun _ v9 _ => ((intOf v9) + 1).toNat)
      case atStart => exact ⟨s, -1, Nat.le_refl _, rfl, rfl, Fnd.start s, 0, rfl⟩
      case round =>
        obtain ⟨t, v, ht, rfl, rfl, hF, q, rfl⟩ := hrel
        have HFD := Lib.hid hF
        clear hF
        by_cases h0 : 0 < t
        · obtain ⟨t, rfl⟩ : ∃ t1, t = t1 + 1 := ⟨t - 1, by omega⟩
          rw [show ((t + 1 : Nat) : Int) - 1 = (t : Int) by omega]
          have hts : t < s := by omega
          have htn : t < n := by omega
          clear h0 ht
          obtain ⟨bs, os_, rfl, hbs, hcs⟩ := hc.at_ hlt
          obtain ⟨bt_, ot_, e, hbt, hct⟩ := hc.at_ htn
          cases e
          rw [zs_at] at hcs hct
          have hcs := (hbW.cell (p := ⟨bs, os_ + s, none⟩) hbs).trans hcs
          have hct := (hbW.cell (p := ⟨bs, os_ + t, none⟩) hbs).trans hct
          obtain ⟨b0, hb0⟩ : ∃ b0, b0 = smB nx ot cl s t 0 := ⟨_, rfl⟩
          have hxy : (((cl.getD s 0 : Nat) : Int) == ((cl.getD t 0 : Nat) : Int)) = b0 := by
            rw [hb0]; unfold smB
            by_cases e : cl.getD s 0 = cl.getD t 0
            · rw [e]; simp
            · rw [decide_eq_false e, beq_eq_false_iff_ne]; omega
          have HB0 := Lib.hid hb0
          generalize ((cl.getD s 0 : Nat) : Int) = x at hcs hxy
          generalize ((cl.getD t 0 : Nat) : Int) = y at hct hxy
          have i1 : (0 : Int) ≤ (s : Int) := by omega
          have i2 : (s : Int) < (n : Int) := by omega
          have i3 : (0 : Int) ≤ (t : Int) := by omega
          have i4 : (t : Int) < (n : Int) := by omega
          clear hb0 hbt
          go_wp2
          go_quiet (fail)
          go_wp2
          clear hxy hcs hct
          go_loopw [10, 11] (fun v10 v11 wq => ∃ (a : Nat) (b : Bool), a ≤ i ∧ v11 = .int .i64 a ∧ v10 = .bool b ∧ b = smB nx ot cl s t a ∧ ∃ q, wq = wo.drewN q) (fun _ v11 _ => i - (intOf v11).toNat)
          case atStart => exact ⟨0, _, Nat.zero_le _, rfl, rfl, HB0.out, by first | exact ⟨_, rfl⟩ | exact ⟨_, World.drewN_drewN _ _ _⟩⟩
          case round =>
            obtain ⟨a, b, ha, rfl, rfl, hb, q2, rfl⟩ := hrel
            have HB := Lib.hid hb
            clear hb
            obtain ⟨k0, k1, k2, k3, _⟩ := HBX.out.cells
            cases b
            · have HM := Lib.hid (HFD.out.miss (fun e => by have h1 := (HKY.out s t).1 e.symm; rw [smB_false HB.out.symm ha] at h1; cases h1))
              have hia : (a : Int) ≤ (i : Int) := by omega
              clear HFD
              by_cases hla : a < i
              all_goals
                go_wp2
                go_roundw
                case rel => exact ⟨t, v, by omega, rfl, rfl, HM.out, _, rfl⟩
                case measure => simp [intOf]
            · by_cases hla : a < i
              · obtain ⟨g2, o2, eA2, n2, c2, rfl, hg2, hd2, hr2⟩ := hlo.out.at_ hlt
                obtain ⟨g2', o2', eA3, n3, c3, e, _, hd3, hr3⟩ := hlo.out.at_ htn
                cases e
                obtain ⟨g1, o1, eA4, n4, c4, rfl, hg1, hd4, hr4⟩ := hx.at_ hlt
                obtain ⟨g1', o1', eA5, n5, c5, e, _, hd5, hr5⟩ := hx.at_ htn
                cases e
                have l2 := hr2.1
                have l3 := hr3.1
                have l4 := hr4.1
                have l5 := hr5.1
                have m2 := (hM.row s hlt).2.1
                have m3 := (hM.row t htn).2.1
                have m4 := (hM.row s hlt).1
                have m5 := (hM.row t htn).1
                obtain rfl : n2 = i := by omega
                obtain rfl : n3 = n2 := by omega
                obtain rfl : n4 = n3 := by omega
                obtain rfl : n5 = n4 := by omega
                clear l2 l3 l4 l5 m2 m3 m4 m5
                obtain ⟨b2, p2, rfl, hb2, hv2⟩ := hr2.at_ hla
                obtain ⟨b3, p3, rfl, hb3, hv3⟩ := hr3.at_ hla
                obtain ⟨b4, p4, rfl, hb4, hv4⟩ := hr4.at_ hla
                obtain ⟨b5, p5, rfl, hb5, hv5⟩ := hr5.at_ hla
                rw [hM.nN_eq hlt hla] at hv4
                rw [hM.nN_eq htn hla] at hv5
                have q1 := hM.nN_lt hlt hla
                have q3 := hM.nN_lt htn hla
                obtain ⟨bq, oq, e, hbq, hv6⟩ := hc.at_ q1
                cases e
                obtain ⟨bq, oq, e, _, hv7⟩ := hc.at_ q3
                cases e
                rw [zs_at] at hv6 hv7
                have tr : ∀ (gg oo : Nat) (u : Value), gg < w.heap.size → w.cell? ⟨gg, oo, none⟩ = some u → wo.cell? ⟨gg, oo, none⟩ = some u := fun gg oo u h h2 => (hbW.cell (p := ⟨gg, oo, none⟩) h).trans h2
                have hd2 := tr _ _ _ hg2 hd2
                have hd3 := tr _ _ _ hg2 hd3
                have hd4 := tr _ _ _ hg1 hd4
                have hd5 := tr _ _ _ hg1 hd5
                have hv2 := tr _ _ _ hb2 hv2
                have hv3 := tr _ _ _ hb3 hv3
                have hv4 := tr _ _ _ hb4 hv4
                have hv5 := tr _ _ _ hb5 hv5
                have hv6 := tr _ _ _ hbq hv6
                have hv7 := tr _ _ _ hbq hv7
                have r2 : (ot.getD s []).getD a 0 = oN ot s a := rfl
                have r3 : (ot.getD t []).getD a 0 = oN ot t a := rfl
                rw [r2] at hv2
                rw [r3] at hv3
                have j1 : (0 : Int) ≤ (a : Int) := by omega
                have j2 : (a : Int) < (n5 : Int) := by omega
                have j3 : (0 : Int) ≤ ((nN nx s a : Nat) : Int) := by omega
                have j4 : ((nN nx s a : Nat) : Int) < (n : Int) := by omega
                have j5 : (0 : Int) ≤ ((nN nx t a : Nat) : Int) := by omega
                have j6 : ((nN nx t a : Nat) : Int) < (n : Int) := by omega
                clear tr r2 r3 hb2 hb3 hb4 hb5 hg1 hg2
                by_cases ho1 : oN ot s a = oN ot t a
                · obtain ⟨b9, hb9⟩ : ∃ b9, b9 = smB nx ot cl s t (a + 1) := ⟨_, rfl⟩
                  have hxy : (((cl.getD (nN nx s a) 0 : Nat) : Int) == ((cl.getD (nN nx t a) 0 : Nat) : Int)) = b9 := by
                    rw [hb9]; unfold smB
                    rw [← HB.out, decide_eq_true ho1]
                    by_cases e : cl.getD (nN nx s a) 0 = cl.getD (nN nx t a) 0
                    · rw [e]; simp
                    · rw [decide_eq_false e, Bool.true_and, Bool.true_and, beq_eq_false_iff_ne]; omega
                  have HB9 := Lib.hid hb9
                  have hq : (oN ot s a == oN ot t a) = true := by simp [ho1]
                  clear hb9 ho1
                  generalize ((cl.getD (nN nx s a) 0 : Nat) : Int) = x at hv6 hxy
                  generalize ((cl.getD (nN nx t a) 0 : Nat) : Int) = y at hv7 hxy
                  generalize nN nx s a = u1 at hv4 hv6 q1 j3 j4
                  generalize nN nx t a = u2 at hv5 hv7 q3 j5 j6
                  generalize oN ot s a = z1 at hv2 hq
                  generalize oN ot t a = z2 at hv3 hq
                  go_wp2
                  go_quiet (fail)
                  go_wp2
                  go_roundw
                  case rel => exact ⟨a + 1, b9, by omega, by go_num, rfl, HB9.out, by first | exact ⟨_, rfl⟩ | exact ⟨_, World.drewN_drewN _ _ _⟩⟩
                  case measure => simp [intOf]; omega
                · have HB9 := Lib.hid (smB_no1 (nx := nx) (cl := cl) ho1)
                  have hq : (oN ot s a == oN ot t a) = false := by simp [ho1]
                  clear ho1
                  generalize nN nx s a = u1 at hv4 hv6 q1 j3 j4
                  generalize nN nx t a = u2 at hv5 hv7 q3 j5 j6
                  generalize oN ot s a = z1 at hv2 hq
                  generalize oN ot t a = z2 at hv3 hq
                  go_wp2
                  go_quiet (fail)
                  go_wp2
                  go_roundw
                  case rel => exact ⟨a + 1, false, by omega, by go_num, rfl, HB9.out.symm, by first | exact ⟨_, rfl⟩ | exact ⟨_, World.drewN_drewN _ _ _⟩⟩
                  case measure => simp [intOf]; omega
              · obtain rfl : a = i := by omega
                have hkk := (HKY.out s t).2 HB.out.symm
                have HM := Lib.hid (Fnd.hit hts hkk.symm)
                have hio := Owned.ints HO.out (by rw [zs_len, num_len]; omega)
                obtain ⟨b9, o9, rfl, hb9, hc9⟩ := hio.at_ hts
                rw [zs_at, num_at g hts] at hc9
                clear hkk hio
                generalize ((nmb g t : Nat) : Int) = y at hc9 HM
                go_wp2
                go_roundw
                case rel => exact ⟨t, y, by omega, rfl, rfl, HM.out, _, rfl⟩
                case measure => simp [intOf]
        · obtain rfl : t = 0 := by omega
          rw [show ((0 : Nat) : Int) - 1 = -1 from rfl]
          have hzo : g0 + 1 ≤ (wo.drewN q).heap.size := hzr
          obtain ⟨A2, c2, w2, hrn, hO2, hb2, _⟩ := run_append_one (HO.out.drew q) (nmb g s : Nat) hzo (by rw [zs_len, num_len]; omega)
          rw [zs_len, num_len] at hrn hO2
          have hO3 := Lib.hid (show Owned w2 (g0 + 1) (.slice A2 (s + 1) c2) (zs (num g (s + 1))) by rw [num_succ, zs_append]; exact hO2)
          have hb3 := Lib.hid (show Below (g0 + 1) w1 w2 from (below_drewN HBR.out q).trans hb2)
          clear hO2 hb2
          by_cases hin : g s ∈ grp g s
          · obtain rfl := HFD.out.yes hin
            have HG1 := Lib.hid (show (grp g (s + 1)).length = (grp g s).length by rw [show grp g (s + 1) = grp g s from addK_in hin])
            have v0 : (0 : Int) ≤ (nmb g s : Nat) := by omega
            have v1 : ((nmb g s : Nat) : Int) ≤ n := by have := nmb_le g s; omega
            clear hin HFD
            generalize ((nmb g s : Nat) : Int) = y at hrn v0 v1 ⊢
            generalize (grp g s).length = cnt0 at hcnt HG1 ⊢
            go_wp2_with (at_builtin; refine Lib.wpList_append_run _ rfl _ _ _ _ rfl _ _ rfl rfl _ _ hrn ?_)
            go_roundw
            case rel => exact ⟨s + 1, A2, c2, by omega, by go_num, by rw [HG1.out], rfl, hO3.out, hb3.out⟩
            case measure => simp [intOf]; omega
          · obtain rfl := HFD.out.no hin
            have hg1 := Lib.hid (show (grp g (s + 1)).length = (grp g s).length + 1 by rw [show grp g (s + 1) = grp g s ++ [g s] from addK_out hin, List.length_append]; rfl)
            rw [nmb_new g hin] at hrn
            clear hin HFD
            generalize (grp g s).length = cnt0 at hcnt hg1 hrn ⊢
            go_wp2_with (at_builtin; refine Lib.wpList_append_run _ rfl _ _ _ _ rfl _ _ rfl rfl _ _ hrn ?_)
            go_roundw
            case rel => exact ⟨s + 1, A2, c2, by omega, by go_num, by rw [hg1.out]; go_num, rfl, hO3.out, hb3.out⟩
            case measure => simp [intOf]; omega
    · obtain rfl : s = n := by omega
      have HO2 := Lib.hid (HO.out.lower (base' := w.heap.size) (by rw [← HG.out]; omega))
      go_wp2
      go_ret
      exact ⟨_, _, rfl, HO2.out, hbW⟩
end Go.Proofs.Ytdedgpgdmnfijaa
end
