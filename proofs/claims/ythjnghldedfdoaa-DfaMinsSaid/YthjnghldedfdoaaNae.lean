/- Lemmas of the proofs of this seat, of the parts Dsea, Daut, Dbot, Dcls, Sidx, Dcmb, Drow, Drwr, Dcpl. Conditions: none. -/
import Derived.Test.YthjnghldedfdoaaNad
import Derived.BigRegion
import Derived.Deep.RegionHeld3
import Derived.WalkMore
import Derived.Shelf.Abstract
import Derived.Test.YthjnghldedfdoaaNac
import Derived.Test.YthjnghldedfdoaaNaa
import Derived.Test.YthjnghldedfdoaaNab
import Derived.Deep.CutRange
section
/- The search of a wanted pair. -/
namespace Go.Proofs.Ythjnghldedfdoaa
open Go.RowKit

/-- The first wanted entry. -/
def fwE (wd : Nat × Nat → Bool) (E : List Ent) : Option Ent := E.find? fun e => wd e.pr
theorem fwE_hit {wd : Nat × Nat → Bool} {E : List Ent} {j : Nat} (hj : j < E.length) (hb : ∀ k, k < j → wd (E.getD k Ent.zero).pr = false) (h : wd (E.getD j Ent.zero).pr = true) : fwE wd E = some (E.getD j Ent.zero) := by
  unfold fwE
  rw [List.find?_eq_some_iff_getElem]
  exact ⟨h, j, hj, getDE_at hj, fun k hk => by rw [getDE_at (show k < E.length by omega)]; simpa using hb k hk⟩
theorem fwE_miss {wd : Nat × Nat → Bool} {E : List Ent} (hb : ∀ k, k < E.length → wd (E.getD k Ent.zero).pr = false) : fwE wd E = none := by
  unfold fwE
  rw [List.find?_eq_none]
  intro e he
  obtain ⟨k, hk, rfl⟩ := List.getElem_of_mem he
  rw [getDE_at hk]
  simpa using hb k hk
/-- The word and whether there is one. -/
def fwR (wd : Nat × Nat → Bool) (E : List Ent) : List Int × Bool := match fwE wd E with
  | some e => (e.w, true)
  | none => ([], false)
theorem fwR_hit {wd : Nat × Nat → Bool} {E T : List Ent} {j : Nat} (hj : j < E.length) (hb : ∀ k, k < j → wd (E.getD k Ent.zero).pr = false) (h : wd (E.getD j Ent.zero).pr = true) : fwR wd (E ++ T) = ((E.getD j Ent.zero).w, true) := by
  unfold fwR
  rw [fwE_hit (E := E ++ T) (j := j) (by rw [List.length_append]; omega) (fun k hk => by rw [getDE_pre (by omega)]; exact hb k hk) (by rw [getDE_pre hj]; exact h), getDE_pre hj]
theorem fwR_miss {wd : Nat × Nat → Bool} {E : List Ent} (hb : ∀ k, k < E.length → wd (E.getD k Ent.zero).pr = false) : fwR wd E = ([], false) := by
  unfold fwR; rw [fwE_miss hb]

/-- What a step closure does. -/
def StepC (f : Nat) (caps : Array Value) (F : Nat × Nat → Nat → Nat × Nat) (i n m : Nat) (w : World) : Prop :=
  (∀ args w, (callFunc f args).run Try.prog w = .ok (.enter f args) w) ∧ ∀ W, Below w.heap.size w W → ∀ p q x, p < n → q < m → x < i →
    Calls Try.prog f (#[.agg #[.int .i64 (p : Nat), .int .i64 (q : Nat)], .int .i64 (x : Nat)] ++ caps) W fun e w' => e = .returned (.agg #[.int .i64 ((F (p, q) x).1 : Nat), .int .i64 ((F (p, q) x).2 : Nat)]) ∧ Below W.heap.size W w'
/-- What a closure on pairs does. -/
def WantC (f : Nat) (caps : Array Value) (wd : Nat × Nat → Bool) (n m : Nat) (w : World) : Prop :=
  (∀ args w, (callFunc f args).run Try.prog w = .ok (.enter f args) w) ∧ ∀ W, Below w.heap.size w W → ∀ p q, p < n → q < m →
    Calls Try.prog f (#[.agg #[.int .i64 (p : Nat), .int .i64 (q : Nat)]] ++ caps) W fun e w' => e = .returned (.bool (wd (p, q))) ∧ Below W.heap.size W w'
theorem StepC.below {f : Nat} {caps : Array Value} {F : Nat × Nat → Nat → Nat × Nat} {i n m : Nat} {w w' : World} (h : StepC f caps F i n m w) (hb : Below w.heap.size w w') : StepC f caps F i n m w' := ⟨h.1, fun W hW => h.2 W (bt hb hW)⟩
theorem WantC.below {f : Nat} {caps : Array Value} {wd : Nat × Nat → Bool} {n m : Nat} {w w' : World} (h : WantC f caps wd n m w) (hb : Below w.heap.size w w') : WantC f caps wd n m w' := ⟨h.1, fun W hW => h.2 W (bt hb hW)⟩
/-- The pairs of a search, boxed. -/
def PrsB (W : World) (g i s t ks : Nat) (cs : Array Value) : Prop := W.heap[g]? = some (.cells #[.int .i64 i, .int .i64 s, .int .i64 t, .func (.func ks) #[] cs] 85 (0, 0))
theorem PrsB.cells {W : World} {g i s t ks : Nat} {cs : Array Value} (h : PrsB W g i s t ks cs) : W.cell? ⟨g, 0, none⟩ = some (.int .i64 i) ∧ W.cell? ⟨g, 1, none⟩ = some (.int .i64 s) ∧ W.cell? ⟨g, 2, none⟩ = some (.int .i64 t) ∧ W.cell? ⟨g, 3, none⟩ = some (.func (.func ks) #[] cs) :=
  ⟨cell_of_row W g 0 _ _ (0, 0) h, cell_of_row W g 1 _ _ (0, 0) h, cell_of_row W g 2 _ _ (0, 0) h, cell_of_row W g 3 _ _ (0, 0) h⟩
theorem PrsB.kept {W W' : World} {g i s t ks B : Nat} {cs : Array Value} (h : PrsB W g i s t ks cs) (hb : Below B W W') (hg : g < B) : PrsB W' g i s t ks cs := (hb.block g hg).trans h

theorem ShD.kept {w w' : World} {pb g gm : Nat} {o : Obj} {A B : Option Addr} (h : ShD w pb o g gm A B) (hb : Below w.heap.size w w') : ShD w' pb o g gm A B := ⟨(hb.block pb (heap_lt h.1)).trans h.1, h.2⟩
set_option maxHeartbeats 4000000 in
set_option maxRecDepth 100000 in
theorem dsearch (ks kw : Nat) (cs cw : Array Value) (F : Nat × Nat → Nat → Nat × Nat) (wd : Nat × Nat → Bool) (i n m s t : Nat) (w : World) (hF : Stp F i n m) (hs : s < n) (ht : t < m) (hn : n ≤ 1024) (hm : m ≤ 1024) (hi : i ≤ 1024)
    (hst : StepC ks cs F i n m w) (hwt : WantC kw cw wd n m w) :
    Calls Try.prog 46 #[.agg #[.int .i64 i, .int .i64 s, .int .i64 t, .func (.func ks) #[] cs], .func (.func kw) #[] cw] w fun e w' => ∃ A' c', e = .returned (.tuple #[.slice A' (fwR wd (fdG F i n m s t)).1.length c', .bool (fwR wd (fdG F i n m s t)).2]) ∧
      Owned w' w.heap.size (.slice A' (fwR wd (fdG F i n m s t)).1.length c') (fwR wd (fdG F i n m s t)).1 ∧ Below w.heap.size w w' := by
  obtain ⟨R, hR⟩ : ∃ R, R = fdG F i n m s t := ⟨_, rfl⟩
  rw [← hR]
  have HR := Lib.hid (show exG F i (n * m) [⟨s, t, 0, 0, []⟩] 0 = R from hR.symm)
  have hnm : n * m ≤ 1048576 := Nat.mul_le_mul hn hm
  have es := hst.1
  have ew := hwt.1
  obtain ⟨w0, hw0⟩ : ∃ w0, w0 = w.alloc (.cells #[.int .i64 i, .int .i64 s, .int .i64 t, .func (.func ks) #[] cs] 85) := ⟨_, rfl⟩
  have hb0 : Below w.heap.size w w0 := by rw [hw0]; exact alloc_below _ _
  have hz0 : w0.heap.size = w.heap.size + 1 := by rw [hw0]; simp
  have hP0 : PrsB w0 w.heap.size i s t ks cs := by rw [hw0]; exact heap_alloc_new _ _
  have HST := Lib.hid (hst.below hb0)
  have HWT := Lib.hid (hwt.below hb0)
  have HW0 := Lib.hid hw0
  have HB0 := Lib.hid hb0
  have HP0 := Lib.hid hP0
  have HF := Lib.hid hF
  obtain ⟨k0, k1, k2, k3⟩ := hP0.cells
  clear hR hw0 hb0 hP0 hF hst hwt
  go_enter Try.func46, Try.ntmps46
  go_wp2_with fail
  rw [← HW0.out]
  go_wp2_with fail
  refine (dbegin s t _ (by omega) (by omega)).mono ?_
  rintro e w1 ⟨A1, B1, gm, rfl, r1, r2, r3, hgm, b1⟩
  obtain ⟨w2, hw2⟩ : ∃ w2, w2 = w1.alloc (.cells #[.slice A1 1 1, .slice B1 1 1, .map (some gm)] 119) := ⟨_, rfl⟩
  have hb2 : Below w1.heap.size w1 w2 := by rw [hw2]; exact alloc_below _ _
  obtain ⟨gd, hgd⟩ : ∃ gd, gd = w1.heap.size := ⟨_, rfl⟩
  have hD2 : Disc w2 w0.heap.size gd [⟨s, t, 0, 0, []⟩] A1 B1 1 1 gm := ⟨by rw [hw2, hgd]; exact heap_alloc_new _ _, r1.kept hb2, r2.kept hb2, r3.below hb2 r3.lt, hgm⟩
  have hb02 : Below w0.heap.size w0 w2 := bt b1 hb2
  have hgz : w0.heap.size ≤ gd := by rw [hgd]; exact b1.size
  have HW2 := Lib.hid hw2
  have HD2 := Lib.hid hD2
  have HB2 := Lib.hid hb02
  have HGD := Lib.hid hgd
  clear hw2 hD2 hb02 hb2 r1 r2 r3 b1 hgd
  go_wp2_with fail
  rw [← HW2.out, ← HGD.out]
  clear k0 k1 k2 k3
  go_loopw [7] (fun v7 wr => ∃ (j : Nat) (E : List Ent) (A B : Option Addr) (c d : Nat), v7 = .int .i64 j ∧ j ≤ E.length ∧ Ens n m s t E ∧ exG F i (n * m) E j = R ∧ (∀ k, k < j → wd (E.getD k Ent.zero).pr = false) ∧ Disc wr w0.heap.size gd E A B c d gm ∧ Below w0.heap.size w0 wr) (fun v7 _ => n * m - (intOf v7).toNat)
  case atStart => exact ⟨0, [⟨s, t, 0, 0, []⟩], A1, B1, 1, 1, rfl, Nat.zero_le _, Ens.one hs ht, HR.out, fun k hk => absurd hk (by omega), HD2.out, HB2.out⟩
  case round =>
    obtain ⟨j, E, A, B, c, d, rfl, hjE, hE, hex, hbef, hD, hbr⟩ := hrel
    have hlen := hE.len
    have hP := HP0.out.kept hbr (show w.heap.size < w0.heap.size by omega)
    obtain ⟨k0, k1, k2, k3⟩ := hP.cells
    obtain ⟨d0, d1, d2, _⟩ := hD.cells
    have HE := Lib.hid hE
    have HEX := Lib.hid hex
    have HBEF := Lib.hid hbef
    have HD := Lib.hid hD
    have HBR := Lib.hid hbr
    clear hE hex hbef hD hbr hP
    by_cases hlt : j < E.length
    · obtain ⟨e, hee⟩ : ∃ e, e = E.getD j Ent.zero := ⟨_, rfl⟩
      have HEE := Lib.hid hee
      obtain ⟨hp, hq⟩ := HE.out.lt _ (getDE_mem hlt)
      rw [← hee] at hp hq
      obtain ⟨gA, cA, eA, hgA, hgA2, _, hat⟩ := HD.out.lst.at_ (by rw [List.length_map]; omega)
      rw [List.length_map] at eA hat
      injection eA with eA _ _
      subst eA
      have x0 : wr.cell? ⟨gA, j * 2, none⟩ = some (.int .i64 (e.p : Nat)) := by
        have := hat j 0 hlt (by decide)
        rw [getL_at hlt, ← hee] at this
        exact this
      have x1 : wr.cell? ⟨gA, j * 2 + 1, none⟩ = some (.int .i64 (e.q : Nat)) := by
        have := hat j 1 hlt (by decide)
        rw [getL_at hlt, ← hee] at this
        exact this
      obtain ⟨w5, hw5⟩ : ∃ w5, w5 = wr.alloc (.cells #[.int .i64 (e.p : Nat), .int .i64 (e.q : Nat)] 82) := ⟨_, rfl⟩
      have hb5 : Below wr.heap.size wr w5 := by rw [hw5]; exact alloc_below _ _
      have hp5 : w5.heap[wr.heap.size]? = some (.cells #[.int .i64 (e.p : Nat), .int .i64 (e.q : Nat)] 82 (0, 0)) := by rw [hw5]; exact heap_alloc_new _ _
      have hb05 : Below w0.heap.size w0 w5 := bt HBR.out hb5
      obtain ⟨pb, hpb⟩ : ∃ pb, pb = wr.heap.size := ⟨_, rfl⟩
      rw [← hpb] at hp5
      have hD5 := HD.out.kept hb5
      have hS5 : ShD w5 pb (.cells #[.int .i64 (e.p : Nat), .int .i64 (e.q : Nat)] 82 (0, 0)) gd gm (some ⟨gA, 0, none⟩) B := by
        refine ⟨hp5, ?_, ?_, ?_, ?_⟩
        · have := heap_lt HD.out.blk; omega
        · have := HD.out.num.lt; omega
        · intro e9; simp [Value.ownBlock] at e9; omega
        · intro e9
          have ho := HD.out.org.2
          have hlt9 := (World.ownsRow.lt ho pb (by rw [own_any B _ _ 0 0]; exact e9)).2
          omega
      have HPB := Lib.hid hpb
      have HW5 := Lib.hid hw5
      have HB5 := Lib.hid hb05
      have HD5 := Lib.hid hD5
      have HS5 := Lib.hid hS5
      have HCW := Lib.hid (HWT.out.2 w5 hb05 e.p e.q hp hq)
      have c0 := cell_of_row w5 pb 0 _ _ (0, 0) hp5
      have c1 := cell_of_row w5 pb 1 _ _ (0, 0) hp5
      have hj0 : (0 : Int) ≤ (j : Int) := by omega
      have hj1 : (j : Int) < (E.length : Int) := by omega
      clear hw5 hb5 hp5 hb05 hpb hD5 hS5 hee hat
      by_cases hwd : wd (e.p, e.q) = true
      · rw [hwd] at HCW
        have HRR := Lib.hid (show fwR wd R = (e.w, true) by
          obtain ⟨T, hT⟩ := exG_pre F i (n * m) E j
          rw [← HEX.out, hT, fwR_hit hlt HBEF.out (by rw [← HEE.out]; exact hwd), ← HEE.out])
        have HEW := Lib.hid (show (E.getD j Ent.zero).w = e.w by rw [HEE.out])
        clear hwd
        go_wp2_with (first | (go_at_fn kw; fail))
        rw [← HW5.out, ← HPB.out]
        refine HCW.out.mono ?_
        rintro r w6 ⟨rfl, b6⟩
        clear x0 x1 c0 c1 d0 d1 d2 k0 k1 k2 k3
        have HB6 := Lib.hid (bt HB5.out b6)
        have hD6 := Lib.hid (HD5.out.kept b6)
        clear b6
        go_wp2_with fail
        have hac := daccess hD6.out HE.out hlt (by omega)
        rw [HEW.out] at hac
        refine hac.mono ?_
        rintro r w7 ⟨A', c', rfl, ho, b7⟩
        go_wp2_with fail
        (try rw [Exit.noGoto_ret])
        go_ret2
        have h9 := bt HB0.out (bt HB6.out b7)
        have hz6 := (bt HB0.out HB6.out).size
        rw [HRR.out]
        exact ⟨A', c', rfl, ho.lower hz6, h9⟩
      · have hwf : wd (e.p, e.q) = false := by simpa using hwd
        rw [hwf] at HCW
        have HWF := Lib.hid hwf
        clear hwd hwf
        go_wp2_with (first | (go_at_fn kw; fail))
        rw [← HW5.out, ← HPB.out]
        refine HCW.out.mono ?_
        rintro r w6 ⟨rfl, b6⟩
        clear x0 x1 c0 c1 d0 d1 d2 k0 k1 k2 k3
        have HB6 := Lib.hid (bt HB5.out b6)
        have HD6 := Lib.hid (HD5.out.kept b6)
        have HS6 := Lib.hid (HS5.out.kept b6)
        obtain ⟨k0, k1, k2, k3⟩ := (HP0.out.kept HB6.out (show w.heap.size < w0.heap.size by omega)).cells
        clear b6
        go_wp2_with fail
        clear k0 k1 k2 k3
        obtain ⟨wo, rfl⟩ : ∃ wo : World, wo = wr := ⟨_, rfl⟩
        go_loopw [32] (fun v32 wq => ∃ (x : Nat) (A B : Option Addr) (c d : Nat), v32 = .int .i64 x ∧ x ≤ i ∧ Disc wq w0.heap.size gd (adG F j e E x) A B c d gm ∧ Below w0.heap.size w0 wq ∧ ShD wq pb (.cells #[.int .i64 (e.p : Nat), .int .i64 (e.q : Nat)] 82 (0, 0)) gd gm A B) (fun v32 _ => i - (intOf v32).toNat)
        case atStart => exact ⟨0, _, _, _, _, rfl, Nat.zero_le _, HD6.out, HB6.out, HS6.out⟩
        case round =>
          obtain ⟨x, A, B, c, d, rfl, hxi, hDq, hbq, hSq⟩ := hrel
          have HDQ := Lib.hid hDq
          have HBQ := Lib.hid hbq
          have HSQ := Lib.hid hSq
          obtain ⟨k0, k1, k2, k3⟩ := (HP0.out.kept hbq (show w.heap.size < w0.heap.size by omega)).cells
          have c0 := cell_of_row wr pb 0 _ _ (0, 0) hSq.1
          have c1 := cell_of_row wr pb 1 _ _ (0, 0) hSq.1
          by_cases hx : x < i
          · obtain ⟨e', he'⟩ : ∃ e', e' = nxG F j e x := ⟨_, rfl⟩
            have f1 : (F (e.p, e.q) x).1 = e'.p := by rw [he']; rfl
            have f2 : (F (e.p, e.q) x).2 = e'.q := by rw [he']; rfl
            have f3 : e'.j = j := by rw [he']; rfl
            have f4 : e'.x = x := by rw [he']; rfl
            have HAD := Lib.hid (show adG F j e E (x + 1) = addE (adG F j e E x) e' by rw [he']; rfl)
            obtain ⟨hp', hq'⟩ := HF.out e.p e.q x hp hq hx
            rw [f1] at hp'
            rw [f2] at hq'
            have hCS := HST.out.2 wr hbq e.p e.q x hp hq hx
            rw [f1, f2] at hCS
            have HCS := Lib.hid hCS
            have hlen2 : (adG F j e E x).length ≤ n * m := by
              have := adG_ens HF.out HE.out hlt x (Nat.le_of_lt hx)
              rw [← HEE.out] at this
              exact this.len
            have HF3 := Lib.hid f3
            have HF4 := Lib.hid f4
            clear he' f1 f2 f3 f4 hCS hDq hbq hSq
            go_wp2_with (first | (go_at_fn ks; fail))
            refine HCS.out.mono ?_
            rintro r w8 ⟨rfl, b8⟩
            have HB8 := Lib.hid (bt HBQ.out b8)
            have hz8 := HB8.out.size
            have hS8 := HSQ.out.kept b8
            have hc := dnumber (HDQ.out.kept b8) hgz e' (by omega) (by omega) hz8 (by omega)
            rw [HF3.out, HF4.out] at hc
            have HC := Lib.hid hc
            have HS8 := Lib.hid hS8
            clear hc hS8 b8 k0 k1 k2 k3 c0 c1
            go_wp2_with fail
            refine HC.out.mono ?_
            rintro r w9 ⟨rfl, A9, B9, c9, d9, hD9, b9, _, ks9⟩
            have HD9 := Lib.hid hD9
            have HB9 := Lib.hid (HB8.out.trans b9)
            have HS9 := Lib.hid (ks9 pb _ HS8.out)
            clear hD9 b9 ks9
            go_wp2_with fail
            go_roundw
            case rel => exact ⟨x + 1, A9, B9, c9, d9, by go_num, by omega, by rw [HAD.out]; exact HD9.out, HB9.out, HS9.out⟩
            case measure => simp [intOf]; omega
          · obtain rfl : x = i := by omega
            have HEN := Lib.hid (show Ens n m s t (adG F j e E x) by
              have := adG_ens HF.out HE.out hlt x (Nat.le_refl _)
              rw [← HEE.out] at this
              exact this)
            have HEX2 := Lib.hid (show exG F x (n * m) (adG F j e E x) (j + 1) = R by
              have := exG_on HF.out HE.out hlt
              rw [← HEE.out] at this
              rw [this]; exact HEX.out)
            have HPRE := Lib.hid (adG_pre F j e E x)
            clear hDq hbq hSq c0 c1
            go_wp2_with fail
            go_roundw
            case rel =>
              obtain ⟨T, hT⟩ := HPRE.out
              refine ⟨j + 1, adG F j e E x, A, B, c, d, by go_num, by rw [hT, List.length_append]; omega, HEN.out, HEX2.out, fun k hk => ?_, HDQ.out, HBQ.out⟩
              rw [hT, getDE_pre (by omega)]
              by_cases hkj : k < j
              · exact HBEF.out k hkj
              · obtain rfl : k = j := by omega
                rw [← HEE.out]; exact HWF.out
            case measure => simp [intOf]; omega
    · obtain rfl : j = E.length := by omega
      have HRR := Lib.hid (show fwR wd R = ([], false) by
        rw [← HEX.out, exG_end (by omega)]
        exact fwR_miss HBEF.out)
      have hj9 : E.length ≤ 1048576 := by omega
      go_wp2_with fail
      go_ret2
      rw [HRR.out]
      exact ⟨none, 0, rfl, Owned.nil _ _, bt HB0.out HBR.out⟩
end Go.Proofs.Ythjnghldedfdoaa
end

section
/- The automaton of a search. -/
namespace Go.Proofs.Ythjnghldedfdoaa
open Go.RowKit

/-- What automaton answers. -/
def AutP (base : Nat) (i : Nat) (N : List (List Int)) (A : List Bool) (n : Nat) (e : Ending) (w' : World) : Prop :=
  if n ≤ 128 then ∃ A' c' B' d', e = .returned (.tuple #[.agg #[.int .i64 i, .int .i64 0, .slice A' n c', .slice B' n d'], .int .i64 0]) ∧ OwnedL w' base (.slice A' n c') N ∧ Rws w' base 4 1 (.slice B' n d') (A.map cellsB)
  else e = .returned (.tuple #[.agg #[.int .i64 0, .int .i64 0, .slice none 0 0, .slice none 0 0], .int .i64 11])
theorem take_mapE {β : Type} (g : Ent → β) {E R : List Ent} {j : Nat} (hR : ∃ T, R = E ++ T) (hj : j < E.length) : (R.map g).take j ++ [g (E.getD j Ent.zero)] = (R.map g).take (j + 1) := by
  obtain ⟨T, rfl⟩ := hR
  have h1 : j < ((E ++ T).map g).length := by simp; omega
  rw [List.take_succ_eq_append_getElem h1, List.getElem_map, List.getElem_append_left hj, getDE_at hj]
theorem plE_fin {E R : List Ent} {y : Nat × Nat} (hR : ∃ T, R = E ++ T) (h : y ∈ E.map Ent.pr) : plE R y = plE E y := by
  obtain ⟨T, rfl⟩ := hR
  exact plE_pre h
theorem addE_mem (E : List Ent) (e : Ent) : e.pr ∈ (addE E e).map Ent.pr := by
  unfold addE
  split
  · assumption
  · rw [List.map_append]; simp

theorem adG_le (F : Nat × Nat → Nat → Nat × Nat) (j : Nat) (e : Ent) (E : List Ent) (x : Nat) : ∀ d, ∃ T, adG F j e E (x + d) = adG F j e E x ++ T
  | 0 => ⟨[], by simp⟩
  | d + 1 => by
    obtain ⟨T, hT⟩ := adG_le F j e E x d
    show ∃ T, addE (adG F j e E (x + d)) _ = _
    unfold addE
    split
    · exact ⟨T, hT⟩
    · exact ⟨T ++ [nxG F j e (x + d)], by rw [hT, List.append_assoc]; rfl⟩
theorem adG_fin {F : Nat × Nat → Nat → Nat × Nat} {i n m s t j x : Nat} {E R : List Ent} (hF : Stp F i n m) (hE : Ens n m s t E) (hj : j < E.length) (hex : exG F i (n * m) E j = R) (hx : x ≤ i) : ∃ T, R = adG F j (E.getD j Ent.zero) E x ++ T := by
  obtain ⟨T, hT⟩ := adG_le F j (E.getD j Ent.zero) E x (i - x)
  rw [show x + (i - x) = i by omega] at hT
  obtain ⟨U, hU⟩ := exG_pre F i (n * m) (adG F j (E.getD j Ent.zero) E i) (j + 1)
  rw [exG_on hF hE hj, hex] at hU
  exact ⟨T ++ U, by rw [hU, hT, List.append_assoc]⟩
theorem AutP.bad {base i n : Nat} {N : List (List Int)} {A : List Bool} {w' : World} (h : 128 < n) : AutP base i N A n (.returned (.tuple #[.agg #[.int .i64 0, .int .i64 0, .slice none 0 0, .slice none 0 0], .int .i64 11])) w' := by
  unfold AutP; rw [if_neg (by omega)]
theorem AutP.ok {base i n : Nat} {N : List (List Int)} {A : List Bool} {w' : World} {e : Ending} (h : n ≤ 128) (k : ∃ A' c' B' d', e = .returned (.tuple #[.agg #[.int .i64 i, .int .i64 0, .slice A' n c', .slice B' n d'], .int .i64 0]) ∧ OwnedL w' base (.slice A' n c') N ∧ Rws w' base 4 1 (.slice B' n d') (A.map cellsB)) : AutP base i N A n e w' := by
  unfold AutP; rw [if_pos h]; exact k
set_option maxHeartbeats 8000000 in
set_option maxRecDepth 100000 in
theorem dautomaton (ks kw : Nat) (cs cw : Array Value) (F : Nat × Nat → Nat → Nat × Nat) (acc : Nat × Nat → Bool) (i n m s t : Nat) (w : World) (hF : Stp F i n m) (hs : s < n) (ht : t < m) (hn : n ≤ 1024) (hm : m ≤ 1024) (hi1 : 1 ≤ i) (hi : i ≤ 1024)
    (hst : StepC ks cs F i n m w) (hwt : WantC kw cw acc n m w) :
    Calls Try.prog 56 #[.agg #[.int .i64 i, .int .i64 s, .int .i64 t, .func (.func ks) #[] cs], .func (.func kw) #[] cw] w fun e w' =>
      AutP w.heap.size i (autN F i (fdG F i n m s t)) (autA acc (fdG F i n m s t)) (fdG F i n m s t).length e w' ∧ Below w.heap.size w w' := by
  obtain ⟨R, hR⟩ : ∃ R, R = fdG F i n m s t := ⟨_, rfl⟩
  rw [← hR]
  have HR := Lib.hid (show exG F i (n * m) [⟨s, t, 0, 0, []⟩] 0 = R from hR.symm)
  have hnm : n * m ≤ 1048576 := Nat.mul_le_mul hn hm
  have es := hst.1
  have ew := hwt.1
  obtain ⟨w0, hw0⟩ : ∃ w0, w0 = (w.alloc (.cells #[.int .i64 i, .int .i64 s, .int .i64 t, .func (.func ks) #[] cs] 85)).alloc (.cells #[.int .i64 0, .int .i64 0, .slice none 0 0, .slice none 0 0] 25) := ⟨_, rfl⟩
  have hb0 : Below w.heap.size w w0 := by rw [hw0]; exact (alloc_below _ _).alloc (by simp) _
  have hz0 : w0.heap.size = w.heap.size + 2 := by rw [hw0]; simp
  have hP0 : PrsB w0 w.heap.size i s t ks cs := by
    rw [hw0]
    exact ((alloc_below (w.alloc (.cells #[.int .i64 i, .int .i64 s, .int .i64 t, .func (.func ks) #[] cs] 85)) _).block _ (by simp)).trans (heap_alloc_new w _)
  have hR0 : Dblk w0 (w.heap.size + 1) (.int .i64 0) (.int .i64 0) (.slice none 0 0) (.slice none 0 0) := by
    rw [hw0]
    have := heap_alloc_new (w.alloc (.cells #[.int .i64 i, .int .i64 s, .int .i64 t, .func (.func ks) #[] cs] 85)) (.cells #[.int .i64 0, .int .i64 0, .slice none 0 0, .slice none 0 0] 25)
    simpa [Dblk] using this
  have HST := Lib.hid (hst.below hb0)
  have HWT := Lib.hid (hwt.below hb0)
  have HW0 := Lib.hid hw0
  have HB0 := Lib.hid hb0
  have HP0 := Lib.hid hP0
  have HR0 := Lib.hid hR0
  have HF := Lib.hid hF
  obtain ⟨k0, k1, k2, k3⟩ := hP0.cells
  clear hR hw0 hb0 hP0 hF hst hwt hR0
  go_enter Try.func56, Try.ntmps56
  go_wp2_with fail
  rw [← HW0.out]
  go_wp2_with fail
  obtain ⟨wd, hwd⟩ : ∃ wd, wd = w0.alloc (.cells #[.int .i64 i, .int .i64 0, .slice none 0 0, .slice none 0 0] 25) := ⟨_, rfl⟩
  have hbd : Below w0.heap.size w0 wd := by rw [hwd]; exact alloc_below _ _
  obtain ⟨gD, hgD⟩ : ∃ gD, gD = w0.heap.size := ⟨_, rfl⟩
  have hDd : Dres wd w0.heap.size gD i 0 [] [] none none 0 0 := ⟨by rw [hwd, hgD]; exact heap_alloc_new _ _, OwnedL.nil _ _, Rws.nil _ _ _ _⟩
  have hzd : w0.heap.size ≤ wd.heap.size := hbd.size
  have HWD := Lib.hid hwd
  have HBD := Lib.hid hbd
  have HDD := Lib.hid hDd
  have HGD := Lib.hid hgD
  clear hwd hbd hDd hgD
  rw [← HWD.out, show w.heap.size + 1 + 1 = gD by rw [HGD.out, hz0]]
  refine (dbegin s t _ (by omega) (by omega)).mono ?_
  rintro e w1 ⟨A1, B1, gm, rfl, r1, r2, r3, hgm, b1⟩
  obtain ⟨w2, hw2⟩ : ∃ w2, w2 = w1.alloc (.cells #[.slice A1 1 1, .slice B1 1 1, .map (some gm)] 119) := ⟨_, rfl⟩
  have hb2 : Below w1.heap.size w1 w2 := by rw [hw2]; exact alloc_below _ _
  obtain ⟨gd, hgd⟩ : ∃ gd, gd = w1.heap.size := ⟨_, rfl⟩
  have hD2 : Disc w2 w0.heap.size gd [⟨s, t, 0, 0, []⟩] A1 B1 1 1 gm := ⟨by rw [hw2, hgd]; exact heap_alloc_new _ _, (r1.kept hb2).lower hzd, (r2.kept hb2).lower hzd, r3.below hb2 r3.lt, by omega⟩
  have hb02 : Below w0.heap.size w0 w2 := bt HBD.out (bt b1 hb2)
  have hdd2 := HDD.out.kept (bt b1 hb2)
  have hgz : w0.heap.size ≤ gd := by rw [hgd]; have := b1.size; omega
  have hgDz : w0.heap.size ≤ gD := by rw [HGD.out]; exact Nat.le_refl _
  have HW2 := Lib.hid hw2
  have HD2 := Lib.hid hD2
  have HB2 := Lib.hid hb02
  have HDD2 := Lib.hid hdd2
  have HG2 := Lib.hid hgd
  clear hw2 hD2 hb02 hb2 r1 r2 r3 b1 hgd hdd2
  go_wp2_with fail
  rw [← HW2.out, ← HG2.out]
  clear k0 k1 k2 k3
  go_loopw [8] (fun v8 wr => ∃ (j : Nat) (E : List Ent) (A B : Option Addr) (c d : Nat) (N : List (List Int)) (bs : List Bool) (AN AA : Option Addr) (cN cA : Nat), v8 = .int .i64 j ∧ j ≤ E.length ∧ E.length ≤ 128 ∧ Ens n m s t E ∧ exG F i (n * m) E j = R ∧ N = (autN F i R).take j ∧ bs = (autA acc R).take j ∧ Disc wr w0.heap.size gd E A B c d gm ∧ Dres wr w0.heap.size gD i 0 N bs AN AA cN cA ∧ Below w0.heap.size w0 wr) (fun v8 _ => n * m - (intOf v8).toNat)
  case atStart => exact ⟨0, [⟨s, t, 0, 0, []⟩], A1, B1, 1, 1, [], [], none, none, 0, 0, rfl, Nat.zero_le _, by simp, Ens.one hs ht, HR.out, rfl, rfl, HD2.out, HDD2.out, HB2.out⟩
  case round =>
    obtain ⟨j, E, A, B, c, d, N, bs, AN, AA, cN, cA, rfl, hjE, hE128, hE, hex, hN, hbs, hD, hR, hbr⟩ := hrel
    have hlen := hE.len
    have hP := HP0.out.kept hbr (show w.heap.size < w0.heap.size by omega)
    obtain ⟨k0, k1, k2, k3⟩ := hP.cells
    obtain ⟨d0, d1, d2, _⟩ := hD.cells
    have HE := Lib.hid hE
    have HEX := Lib.hid hex
    have HN := Lib.hid hN
    have HBS := Lib.hid hbs
    have HD := Lib.hid hD
    have HRS := Lib.hid hR
    have HBR := Lib.hid hbr
    clear hE hex hD hbr hP hN hbs hR
    by_cases hlt : j < E.length
    · obtain ⟨e, hee⟩ : ∃ e, e = E.getD j Ent.zero := ⟨_, rfl⟩
      have HEE := Lib.hid hee
      obtain ⟨hp, hq⟩ := HE.out.lt _ (getDE_mem hlt)
      rw [← hee] at hp hq
      obtain ⟨gA, cA0, eA, hgA, hgA2, _, hat⟩ := HD.out.lst.at_ (by rw [List.length_map]; omega)
      rw [List.length_map] at eA hat
      injection eA with eA _ _
      subst eA
      have x0 : wr.cell? ⟨gA, j * 2, none⟩ = some (.int .i64 (e.p : Nat)) := by
        have := hat j 0 hlt (by decide)
        rw [getL_at hlt, ← hee] at this
        exact this
      have x1 : wr.cell? ⟨gA, j * 2 + 1, none⟩ = some (.int .i64 (e.q : Nat)) := by
        have := hat j 1 hlt (by decide)
        rw [getL_at hlt, ← hee] at this
        exact this
      obtain ⟨w5, hw5⟩ : ∃ w5, w5 = wr.alloc (.cells #[.int .i64 (e.p : Nat), .int .i64 (e.q : Nat)] 82) := ⟨_, rfl⟩
      have hb5 : Below wr.heap.size wr w5 := by rw [hw5]; exact alloc_below _ _
      have hp5 : w5.heap[wr.heap.size]? = some (.cells #[.int .i64 (e.p : Nat), .int .i64 (e.q : Nat)] 82 (0, 0)) := by rw [hw5]; exact heap_alloc_new _ _
      have hb05 : Below w0.heap.size w0 w5 := bt HBR.out hb5
      obtain ⟨pb, hpb⟩ : ∃ pb, pb = wr.heap.size := ⟨_, rfl⟩
      rw [← hpb] at hp5
      have hD5 := HD.out.kept hb5
      have hR5 := HRS.out.kept hb5
      have hS5 : ShD w5 pb (.cells #[.int .i64 (e.p : Nat), .int .i64 (e.q : Nat)] 82 (0, 0)) gd gm (some ⟨gA, 0, none⟩) B := by
        refine ⟨hp5, ?_, ?_, ?_, ?_⟩
        · have := heap_lt HD.out.blk; omega
        · have := HD.out.num.lt; omega
        · intro e9; simp [Value.ownBlock] at e9; omega
        · intro e9
          have ho := HD.out.org.2
          have hlt9 := (World.ownsRow.lt ho pb (by rw [own_any B _ _ 0 0]; exact e9)).2
          omega
      obtain ⟨k0', k1', k2', k3'⟩ := (HP0.out.kept hb05 (show w.heap.size < w0.heap.size by omega)).cells
      have HPB := Lib.hid hpb
      have HW5 := Lib.hid hw5
      have HB5 := Lib.hid hb05
      have HD5 := Lib.hid hD5
      have HR5 := Lib.hid hR5
      have HS5 := Lib.hid hS5
      have hj0 : (0 : Int) ≤ (j : Int) := by omega
      have hj1 : (j : Int) < (E.length : Int) := by omega
      rw [hw5] at k0'
      clear hw5 hb5 hp5 hb05 hpb hD5 hS5 hR5 hee hat k1' k2' k3'
      go_wp2_with (refine wpList_make_ints _ rfl _ _ rfl .i64 .i64 i rfl rfl (by omega) ?_; intro w6 ho6 b6)
      rw [← HW5.out] at ho6 b6
      have hz5 : w5.heap.size = pb + 1 := by rw [HW5.out, HPB.out]; simp
      obtain ⟨gr, hgr⟩ : ∃ gr, gr = w5.heap.size := ⟨_, rfl⟩
      rw [← hgr] at ho6
      have hgr2 : wr.heap.size + 1 = gr := by rw [hgr, hz5, HPB.out]
      rw [hgr2, ← HPB.out]
      have hgrz : w0.heap.size ≤ gr := by have := HB5.out.size; omega
      have ho6 := ho6.lower hgrz
      obtain ⟨f, hf⟩ : ∃ f : Nat → Int, f = fun a => ((plE R (F (e.p, e.q) a) : Nat) : Int) := ⟨_, rfl⟩
      rw [← rowm_zero f i] at ho6
      have HO6 := Lib.hid ho6
      have HB6 := Lib.hid (bt HB5.out b6)
      have HD6 := Lib.hid (HD5.out.kept b6)
      have HS6 := Lib.hid (HS5.out.kept b6)
      have HX6 := Lib.hid ((HR5.out.toX (gr := gr) (by rw [hgr]; exact Nat.le_refl _)).kept b6)
      have HFF := Lib.hid hf
      clear x0 x1 d0 d1 d2 k0 k1 k2 k3 k0' ho6 b6 hz5 hgr hgr2 hf
      obtain ⟨wo, rfl⟩ : ∃ wo : World, wo = wr := ⟨_, rfl⟩
      go_loopw [35] (fun v35 wq => ∃ (x : Nat) (A B : Option Addr) (c d : Nat), v35 = .int .i64 x ∧ x ≤ i ∧ Disc wq w0.heap.size gd (adG F j e E x) A B c d gm ∧ Owned wq w0.heap.size (.slice (some ⟨gr, 0, none⟩) i i) (rowm f i x) ∧ DresX wq w0.heap.size gD i 0 N bs AN AA cN cA gr ∧ Below w0.heap.size w0 wq ∧ ShD wq pb (.cells #[.int .i64 (e.p : Nat), .int .i64 (e.q : Nat)] 82 (0, 0)) gd gm A B) (fun v35 _ => i - (intOf v35).toNat)
      case atStart => exact ⟨0, _, _, _, _, rfl, Nat.zero_le _, HD6.out, HO6.out, HX6.out, HB6.out, HS6.out⟩
      case round =>
        obtain ⟨x, A, B, c, d, rfl, hxi, hDq, hOq, hXq, hbq, hSq⟩ := hrel
        have HDQ := Lib.hid hDq
        have HOQ := Lib.hid hOq
        have HXQ := Lib.hid hXq
        have HBQ := Lib.hid hbq
        have HSQ := Lib.hid hSq
        obtain ⟨k0, k1, k2, k3⟩ := (HP0.out.kept hbq (show w.heap.size < w0.heap.size by omega)).cells
        have c0 := cell_of_row wr pb 0 _ _ (0, 0) hSq.1
        have c1 := cell_of_row wr pb 1 _ _ (0, 0) hSq.1
        by_cases hx : x < i
        · obtain ⟨e', he'⟩ : ∃ e', e' = nxG F j e x := ⟨_, rfl⟩
          have f1 : (F (e.p, e.q) x).1 = e'.p := by rw [he']; rfl
          have f2 : (F (e.p, e.q) x).2 = e'.q := by rw [he']; rfl
          have f3 : e'.j = j := by rw [he']; rfl
          have f4 : e'.x = x := by rw [he']; rfl
          have HAD := Lib.hid (show adG F j e E (x + 1) = addE (adG F j e E x) e' by rw [he']; rfl)
          obtain ⟨hp', hq'⟩ := HF.out e.p e.q x hp hq hx
          rw [f1] at hp'
          rw [f2] at hq'
          have hCS := HST.out.2 wr hbq e.p e.q x hp hq hx
          rw [f1, f2] at hCS
          have HCS := Lib.hid hCS
          have hlen2 : (adG F j e E x).length ≤ n * m := by
            have := adG_ens HF.out HE.out hlt x (Nat.le_of_lt hx)
            rw [← HEE.out] at this
            exact this.len
          have HV := Lib.hid (show ((plcE (addE (adG F j e E x) e') e'.p e'.q : Nat) : Int) = f x by
            have h1 := adG_fin (x := x + 1) HF.out HE.out hlt HEX.out hx
            rw [← HEE.out, HAD.out] at h1
            have h2 := plE_fin h1 (addE_mem (adG F j e E x) e')
            rw [HFF.out]
            show _ = ((plE R (F (e.p, e.q) x) : Nat) : Int)
            rw [show F (e.p, e.q) x = e'.pr from Prod.ext f1 f2, h2]
            rfl)
          have HF3 := Lib.hid f3
          have HF4 := Lib.hid f4
          clear he' f1 f2 f3 f4 hCS hDq hbq hSq hOq hXq
          go_wp2_with (first | (go_at_fn ks; fail))
          refine HCS.out.mono ?_
          rintro r w8 ⟨rfl, b8⟩
          have HB8 := Lib.hid (bt HBQ.out b8)
          have hz8 := HB8.out.size
          have hS8 := HSQ.out.kept b8
          have hc := dnumber (HDQ.out.kept b8) hgz e' (by omega) (by omega) hz8 (by omega)
          rw [HF3.out, HF4.out, HV.out] at hc
          have HC := Lib.hid hc
          have HS8 := Lib.hid hS8
          have HO8 := Lib.hid (HOQ.out.kept b8)
          have HX8 := Lib.hid (HXQ.out.kept b8)
          clear hc hS8 b8 k0 k1 k2 k3 c0 c1
          go_wp2_with fail
          refine HC.out.mono ?_
          rintro r w9 ⟨rfl, A9, B9, c9, d9, hD9, b9, kt9, ks9⟩
          have hO9 := HO8.out.keptT (kt9 _ (by decide) (by decide) (by decide))
          have hX9 := HX8.out.keptT (kt9 _ (by decide) (by decide) (by decide)) (kt9 _ (by decide) (by decide) (by decide)) (kt9 _ (by decide) (by decide) (by decide)) (kt9 _ (by decide) (by decide) (by decide))
          have hS9 := ks9 pb _ HS8.out
          obtain ⟨cur, hcur⟩ := hO9.blk
          have hOs := hO9.stored x (f x)
          rw [rowm_set f i x] at hOs
          have hXs := hX9.store hcur x (.int .i64 (f x))
          have hDs := hD9.mv (KeptT.off (k := x) hcur (by decide) (.int .i64 (f x))) (KeptT.off hcur (by decide) _) (KeptT.off hcur (by decide) _) (KeptM.off hcur _)
          have hBs := (HB8.out.trans b9).setCell (p := ⟨gr, x, none⟩) hgrz (.int .i64 (f x))
          have hSs : ShD (w9.setCell ⟨gr, x, none⟩ (.int .i64 (f x))) pb (.cells #[.int .i64 (e.p : Nat), .int .i64 (e.q : Nat)] 82 (0, 0)) gd gm A9 B9 := ⟨KeptT.off hcur (by decide) _ pb _ hS9.1, hS9.2⟩
          obtain ⟨g5, e5, hg5, hg5', hfz5⟩ := hO9.head (by omega)
          cases e5
          obtain ⟨bq, oq, eq, hbq, hcq⟩ := (hO9.ints (by rw [rowm_len]; omega)).at_ hx
          cases eq
          rw [Nat.zero_add] at hcq
          have hf9 := hfz5 x
          have HOS := Lib.hid hOs
          have HXS := Lib.hid hXs
          have HDS := Lib.hid hDs
          have HBS := Lib.hid hBs
          have HSS := Lib.hid hSs
          clear hO9 hX9 hS9 hOs hXs hDs hBs hSs hD9 b9 kt9 ks9 hfz5 hcur
          go_wp2_with fail
          go_roundw
          case rel => exact ⟨x + 1, A9, B9, c9, d9, by go_num, by omega, by rw [HAD.out]; exact HDS.out, HOS.out, HXS.out, HBS.out, HSS.out⟩
          case measure => simp [intOf]; omega
        · obtain rfl : x = i := by omega
          obtain ⟨d0, _, _, _⟩ := hDq.cells
          have HEN := Lib.hid (show Ens n m s t (adG F j e E x) by
            have := adG_ens HF.out HE.out hlt x (Nat.le_refl _)
            rw [← HEE.out] at this
            exact this)
          have HEX2 := Lib.hid (show exG F x (n * m) (adG F j e E x) (j + 1) = R by
            have := exG_on HF.out HE.out hlt
            rw [← HEE.out] at this
            rw [this]; exact HEX.out)
          have HPRE := Lib.hid (adG_pre F j e E x)
          have hlen9 := HEN.out.len
          obtain ⟨q0, q1, q2, q3, z0, z1, z2, z3⟩ := (HR0.out.kept hbq (show w.heap.size + 1 < w0.heap.size by omega)).cells
          have HRr := Lib.hid (HR0.out.kept hbq (show w.heap.size + 1 < w0.heap.size by omega))
          by_cases hbig : 128 < (adG F j e E x).length
          · have HBAD := Lib.hid (show 128 < R.length by
              obtain ⟨T, hT⟩ := exG_pre F x (n * m) (adG F j e E x) (j + 1)
              rw [← HEX2.out, hT, List.length_append]; omega)
            have hbigI : (128 : Int) < ((adG F j e E x).length : Int) := by omega
            clear hDq hbq hSq hOq hXq c0 c1
            go_wp2_with fail
            (try rw [Exit.noGoto_ret])
            refine bodyPost_ret (results_dfa rfl _ _ (w.heap.size + 1) (.int .i64 0) (.int .i64 0) (.slice none 0 0) (.slice none 0 0) rfl (HRr.out.set4 _ _ _ _)) rfl ?_
            exact ⟨AutP.bad HBAD.out, below_set4 (Nat.le_succ _) (bt HB0.out HBQ.out) _ _ _ _⟩
          · have hbigI : ¬ (128 : Int) < ((adG F j e E x).length : Int) := by omega
            have hzr := HBQ.out.size
            obtain ⟨A2, c2, w7, hr7, hK7, hR8, hB8, hT8, hM8⟩ := hXq.toD.push_row hOq hzr hgDz (by
              rw [HN.out, List.length_take]; have := HE.out.len; omega)
            obtain ⟨y0, y1, y2, y3, f0, f1, f2, f3⟩ := hXq.1.cells
            obtain ⟨y0', y1', y2', y3', f0', f1', f2', f3'⟩ := hK7.cells
            have hDS := (hDq.mv (hT8 _ (by decide) (by decide)) (hT8 _ (by decide) (by decide)) (hT8 _ (by decide) (by decide)) hM8)
            have HH := Lib.hid (And.intro hDS (And.intro hR8 (And.intro (HBQ.out.trans hB8) (hT8 _ (by decide) (by decide) pb _ hSq.1))))
            clear hDS hDq hbq hSq hOq hXq c0 c1 hR8 hB8 hT8 hM8 hK7 q0 q1 q2 q3 z0 z1 z2 z3
            go_wp2_with (at_builtin; refine Lib.wpList_append_run _ rfl _ _ _ _ rfl _ _ rfl rfl _ _ hr7 ?_)
            obtain ⟨hDS, hR8, hB8, hP8⟩ := HH.out
            generalize w7.setCell ⟨gD, 2, none⟩ (.slice A2 (N.length + 1) c2) = w8 at hDS hR8 hB8 hP8 ⊢
            clear HH y0 y1 y2 y3 f0 f1 f2 f3 y0' y1' y2' y3' f0' f1' f2' f3' hr7
            obtain ⟨_, _, _, y3, _, _, _, f3⟩ := hR8.1.cells
            have c0 := cell_of_row w8 pb 0 _ _ (0, 0) hP8
            have c1 := cell_of_row w8 pb 1 _ _ (0, 0) hP8
            have HDS := Lib.hid hDS
            have HR8 := Lib.hid hR8
            have HB8 := Lib.hid hB8
            have HNJ := Lib.hid (show bs.length < 1099511627776 by rw [HBS.out, List.length_take]; have := HE.out.len; omega)
            clear hDS hR8 hB8 hP8
            go_region_law (first
              | (refine step_app rfl _ _ _ _ rfl _ _ rfl rfl _ _ hr9 ?_)
              | (go_simp; go_at_fn kw; refine (HWT.out.2 _ (below_drewN HB8.out 1) e.p e.q hp hq).mono ?_; rintro r w9 ⟨rfl, b9⟩; have hR9 := HR8.out.kept (bt (below_drewN (Below.refl _ w8) 1) b9); have hz9 := (bt (below_drewN HB8.out 1) b9).size; obtain ⟨A3, c3, w10, hr9, hK9, hR10, hB10, hT10, hM10⟩ := hR9.push_bool (acc (e.p, e.q)) hz9 hgDz HNJ.out; obtain ⟨_, _, _, v3, _, _, _, g3⟩ := hR9.1.cells; obtain ⟨_, _, _, v3', _, _, _, g3'⟩ := hK9.cells; have ca := ((alloc_below w9 (.cells #[.bool (acc (e.p, e.q))] 4)).cell (p := ⟨gD, 3, none⟩) (heap_lt hR9.1)).trans v3; have HFN := Lib.hid (And.intro (((HDS.out.kept (bt (below_drewN (Below.refl _ w8) 1) b9)).mv (hT10 _ (by decide) (by decide)) (hT10 _ (by decide) (by decide)) (hT10 _ (by decide) (by decide)) hM10)) (And.intro hR10 ((bt (below_drewN HB8.out 1) b9).trans hB10))); clear hR9 hK9 hR10 hB10 hT10 hM10 b9))
            all_goals
              clear y3 f3 c0 c1
              go_wp2_with fail
              go_roundw
              case rel =>
                obtain ⟨T, hT⟩ := HPRE.out
                have hRE : ∃ T, R = E ++ T := by
                  obtain ⟨T, hT⟩ := exG_pre F x (n * m) E j
                  exact ⟨T, by rw [← HEX.out, hT]⟩
                refine ⟨j + 1, adG F j e E x, A, B, c, d, N ++ [rowm f x x], bs ++ [acc (e.p, e.q)], A2, A3, c2, c3, by go_num, by rw [hT, List.length_append]; omega, by omega, HEN.out, HEX2.out, ?_, ?_, HFN.out.1, HFN.out.2.1, HFN.out.2.2⟩
                · rw [HN.out, rowm_all, HFF.out]
                  have := take_mapE (fun e : Ent => (List.range x).map fun a => ((plE R (F e.pr a) : Nat) : Int)) hRE hlt
                  rw [← HEE.out] at this
                  exact this
                · rw [HBS.out]
                  have := take_mapE (fun e : Ent => acc e.pr) hRE hlt
                  rw [← HEE.out] at this
                  exact this
              case measure => simp [intOf]; omega
    · obtain rfl : j = E.length := by omega
      have hRE : E = R := by rw [← HEX.out, exG_end (by omega)]
      have HRE := Lib.hid hRE
      have hj9 : E.length ≤ 1048576 := by omega
      have hNe : N = autN F i R := by rw [HN.out, hRE]; exact List.take_of_length_le (by simp [autN])
      have hBe : bs = autA acc R := by rw [HBS.out, hRE]; exact List.take_of_length_le (by simp [autA])
      have hNl : N.length = R.length := by rw [hNe]; simp [autN]
      have hBl : bs.length = R.length := by rw [hBe]; simp [autA]
      have h9 := HRS.out
      rw [Dres, hNl, hBl] at h9
      obtain ⟨q0, q1, q2, q3, z0, z1, z2, z3⟩ := (HR0.out.kept HBR.out (show w.heap.size + 1 < w0.heap.size by omega)).cells
      have HRr := Lib.hid (HR0.out.kept HBR.out (show w.heap.size + 1 < w0.heap.size by omega))
      obtain ⟨y0, y1, y2, y3, _⟩ := h9.1.cells
      have H9 := Lib.hid h9
      have HNE := Lib.hid hNe
      have HBE := Lib.hid hBe
      have HR128 := Lib.hid (show R.length ≤ 128 by rw [← hRE]; exact hE128)
      clear hRE hNe hBe hNl hBl h9
      go_wp2_with fail
      refine bodyPost_ret (results_dfa rfl _ _ (w.heap.size + 1) (.int .i64 i) (.int .i64 (0 : Nat)) (.slice AN R.length cN) (.slice AA R.length cA) rfl (HRr.out.set4 _ _ _ _)) rfl ?_
      have hz9 : w.heap.size ≤ w0.heap.size := HB0.out.size
      refine ⟨AutP.ok HR128.out ⟨AN, cN, AA, cA, rfl, ?_, ?_⟩, below_set4 (Nat.le_succ _) (bt HB0.out HBR.out) _ _ _ _⟩
      · have := H9.out.2.1
        rw [HNE.out] at this
        exact (this.keptT (HRr.out.off4 _ _ _ _ (by decide)) (HRr.out.off4 _ _ _ _ (by decide))).lower hz9
      · have := H9.out.2.2
        rw [HBE.out] at this
        exact (this.keptT (HRr.out.off4 _ _ _ _ (by decide))).lower hz9
end Go.Proofs.Ythjnghldedfdoaa
end

section
/- The pairs of two automata. -/
namespace Go.Proofs.Ythjnghldedfdoaa
open Go.RowKit

theorem run_store_fn {P : Program} {w : World} {a : Addr} (fn : Fn) (first captured : Array Value) {m : Mode} : (store a (.func fn first captured) m).run P w = stored P w a (.func fn first captured) m := run_store P w a _ m rfl
attribute [local go_sem] run_store_fn
set_option maxHeartbeats 2000000 in
set_option maxRecDepth 100000 in
theorem dboth (i st i' st' : Int) (A B A' B' : Option Addr) (n c m d n' c' m' d' : Nat) (w : World) :
    Calls Try.prog 45 #[.agg #[.int .i64 i, .int .i64 st, .slice A n c, .slice B m d], .agg #[.int .i64 i', .int .i64 st', .slice A' n' c', .slice B' m' d']] w fun e w' => ∃ g g', e = .returned (.agg #[.int .i64 i, .int .i64 st, .int .i64 st', .func (.func 77) #[] #[.pointer (some ⟨g, 0, none⟩), .pointer (some ⟨g', 0, none⟩)]]) ∧ Dblk w' g (.int .i64 i) (.int .i64 st) (.slice A n c) (.slice B m d) ∧ Dblk w' g' (.int .i64 i') (.int .i64 st') (.slice A' n' c') (.slice B' m' d') ∧ w.heap.size ≤ g ∧ w.heap.size ≤ g' ∧ Below w.heap.size w w' := by
  have hB := dfa_box w (.int .i64 i) (.int .i64 st) (.slice A n c) (.slice B m d)
  obtain ⟨w0, hw0⟩ : ∃ w0, w0 = w.alloc (.cells #[.int .i64 i, .int .i64 st, .slice A n c, .slice B m d] 25) := ⟨_, rfl⟩
  have hb0 : Below w.heap.size w w0 := by rw [hw0]; exact alloc_below _ _
  rw [← hw0] at hB
  have hz0 : w0.heap.size = w.heap.size + 1 := by rw [hw0]; simp
  have hb1 := alloc_below w0 (.cells #[.int .i64 i', .int .i64 st', .slice A' n' c', .slice B' m' d'] 25)
  have hB' := dfa_box w0 (.int .i64 i') (.int .i64 st') (.slice A' n' c') (.slice B' m' d')
  obtain ⟨w1, hw1⟩ : ∃ w1, w1 = w0.alloc (.cells #[.int .i64 i', .int .i64 st', .slice A' n' c', .slice B' m' d'] 25) := ⟨_, rfl⟩
  rw [← hw1] at hb1 hB'
  have hz1 : w1.heap.size = w0.heap.size + 1 := by rw [hw1]; simp
  have hbb : Below w.heap.size w w1 := bt hb0 hb1
  rw [hz0] at hB'
  have hB1 := hB.kept hb1 (show w.heap.size < w0.heap.size by omega)
  obtain ⟨k0, k1, k2, k3, _⟩ := hB1.cells
  obtain ⟨j0, j1, j2, j3, _⟩ := hB'.cells
  have HWW : Hid (w1 = (w.alloc (.cells #[.int .i64 i, .int .i64 st, .slice A n c, .slice B m d] 25)).alloc (.cells #[.int .i64 i', .int .i64 st', .slice A' n' c', .slice B' m' d'] 25)) := Lib.hid (by rw [hw1, hw0])
  clear hw0 hw1
  go_enter Try.func45, Try.ntmps45
  go_wp2_with fail
  rw [← HWW.out]
  go_wp2_with fail
  (try simp only [Exit.inBlock, Exit.then])
  have hR := heap_alloc_new w1 (.cells #[.int .i64 i, .int .i64 st, .int .i64 st', .func (.func 77) #[] #[.pointer (some ⟨w.heap.size, 0, none⟩), .pointer (some ⟨w.heap.size + 1, 0, none⟩)]] 85)
  have hz2 : w1.heap.size = w.heap.size + 1 + 1 := by omega
  have hb2 := alloc_below w1 (.cells #[.int .i64 i, .int .i64 st, .int .i64 st', .func (.func 77) #[] #[.pointer (some ⟨w.heap.size, 0, none⟩), .pointer (some ⟨w.heap.size + 1, 0, none⟩)]] 85)
  have c1 := hB1.kept hb2 (show w.heap.size < w1.heap.size by omega)
  have c2 := hB'.kept hb2 (show w.heap.size + 1 < w1.heap.size by omega)
  have c3 := bt hbb hb2
  generalize w1.alloc (.cells #[.int .i64 i, .int .i64 st, .int .i64 st', .func (.func 77) #[] #[.pointer (some ⟨w.heap.size, 0, none⟩), .pointer (some ⟨w.heap.size + 1, 0, none⟩)]] 85) = wx at hR c1 c2 c3 ⊢
  rw [hz2] at hR
  refine bodyPost_ret (results_cell_row (by rfl) _ _ (w.heap.size + 1 + 1) 85 _ (0, 0) _ rfl hR Try.underlying85 rfl (by kernel_rfl)) rfl ?_
  exact ⟨w.heap.size, w.heap.size + 1, rfl, c1, c2, Nat.le_refl _, Nat.le_succ _, c3⟩
theorem two_far {w : World} {g : Nat} {p : Addr} {x : Value} (u v : Value) (h : w.cell? p = some x) (hn : p.block ≠ g) : (((w.setCell ⟨g, 0, none⟩ u).setCell ⟨g, 1, none⟩ v).drew).cell? p = some x := by
  show ((w.setCell ⟨g, 0, none⟩ u).setCell ⟨g, 1, none⟩ v).cell? p = some x
  rw [World.cell?_setCell_far _ _ _ _ (Ne.symm hn), World.cell?_setCell_far _ _ _ _ (Ne.symm hn)]
  exact h
set_option maxHeartbeats 2000000 in
set_option maxRecDepth 100000 in
theorem dboth1 (g g' : Nat) (i st i' st' : Value) (A B A' B' : Option Addr) (n c m d n' c' m' d' : Nat) (nx nx' : List (List Int)) (a i0 : Nat) (p q : Nat) (w : World) (hg : Dblk w g i st (.slice A n c) (.slice B m d)) (hg' : Dblk w g' i' st' (.slice A' n' c') (.slice B' m' d'))
    (hx : Lists w A n nx) (hx' : Lists w A' n' nx') (hp : p < n) (hq : q < n') (ha : a < i0) (hr : (nx.getD p []).length = i0 ∧ (nx.getD p []).getD a 0 = (nN nx p a : Int)) (hr' : (nx'.getD q []).length = i0 ∧ (nx'.getD q []).getD a 0 = (nN nx' q a : Int)) :
    Calls Try.prog 77 #[.agg #[.int .i64 p, .int .i64 q], .int .i64 a, .pointer (some ⟨g, 0, none⟩), .pointer (some ⟨g', 0, none⟩)] w fun e w' => e = .returned (.agg #[.int .i64 (nN nx p a : Nat), .int .i64 (nN nx' q a : Nat)]) ∧ Below w.heap.size w w' := by
  obtain ⟨w1, hw1⟩ : ∃ w1, w1 = (w.alloc (.cells #[.int .i64 p, .int .i64 q] 82)).alloc (.cells #[.int .i64 0, .int .i64 0] 82) := ⟨_, rfl⟩
  have hb : Below w.heap.size w w1 := by rw [hw1]; exact (alloc_below _ _).alloc (by simp) _
  have p1 : w1.heap[w.heap.size]? = some (.cells #[.int .i64 p, .int .i64 q] 82 (0, 0)) := by
    rw [hw1]
    exact ((alloc_below (w.alloc (.cells #[.int .i64 p, .int .i64 q] 82)) _).block _ (by simp)).trans (heap_alloc_new w _)
  have p2 : w1.heap[w.heap.size + 1]? = some (.cells #[.int .i64 0, .int .i64 0] 82 (0, 0)) := by
    rw [hw1]
    have := heap_alloc_new (w.alloc (.cells #[.int .i64 p, .int .i64 q] 82)) (.cells #[.int .i64 0, .int .i64 0] 82)
    simpa using this
  have HW := Lib.hid hw1
  obtain ⟨_, _, g2, _⟩ := (hg.on9 hb).cells
  obtain ⟨_, _, g2', _⟩ := (hg'.on9 hb).cells
  have s0 := cell_of_row w1 w.heap.size 0 _ _ (0, 0) p1
  have s1 := cell_of_row w1 w.heap.size 1 _ _ (0, 0) p1
  obtain ⟨gA, oA, A1, nA, cA, eA, lA, hdA, hrA⟩ := hx.at_ hp
  subst eA
  obtain rfl : nA = i0 := by rw [← hrA.1]; exact hr.1
  obtain ⟨gB, oB, eB, lB, xB⟩ := hrA.at_ ha
  subst eB
  rw [hr.2] at xB
  obtain ⟨gC, oC, A2, nC, cC, eC, lC, hdC, hrC⟩ := hx'.at_ hq
  subst eC
  obtain rfl : nC = nA := by rw [← hrC.1]; exact hr'.1
  obtain ⟨gD, oD, eD, lD, xD⟩ := hrC.at_ ha
  subst eD
  rw [hr'.2] at xD
  have hdA := (hb.cell (p := ⟨gA, oA + p, none⟩) lA).trans hdA
  have hdC := (hb.cell (p := ⟨gC, oC + q, none⟩) lC).trans hdC
  have xB := (hb.cell (p := ⟨gB, oB + a, none⟩) lB).trans xB
  have xD := (hb.cell (p := ⟨gD, oD + a, none⟩) lD).trans xD
  have eg := heap_lt hg
  have eg' := heap_lt hg'
  have n0 : w.heap.size ≠ w.heap.size + 1 := by omega
  have n1 : g ≠ w.heap.size + 1 := by omega
  have n2 : g' ≠ w.heap.size + 1 := by omega
  have n3 : gA ≠ w.heap.size + 1 := by omega
  have n4 : gB ≠ w.heap.size + 1 := by omega
  have n5 : gC ≠ w.heap.size + 1 := by omega
  have n6 : gD ≠ w.heap.size + 1 := by omega
  generalize nN nx p a = u at xB ⊢
  generalize nN nx' q a = v at xD ⊢
  have t0 := cell_of_row w1 (w.heap.size + 1) 0 _ _ (0, 0) p2
  have t1 := cell_of_row w1 (w.heap.size + 1) 1 _ _ (0, 0) p2
  have f0 := frozen_of_row w1 (w.heap.size + 1) 0 _ _ p2
  have f1 := frozen_of_row w1 (w.heap.size + 1) 1 _ _ p2
  have HP2 := Lib.hid p2
  have HB := Lib.hid hb
  clear hw1 hb p1 p2 hrA hrC hr hr' hx hx' hg hg'
  go_enter Try.func77, Try.ntmps77
  go_wp2_with fail
  rw [← HW.out]
  go_region_held3 (fun w' => w'.cell? ⟨g, 2, none⟩ = some (.slice (some ⟨gA, oA, none⟩) n c) ∧ w'.cell? ⟨g', 2, none⟩ = some (.slice (some ⟨gC, oC, none⟩) n' c') ∧ w'.cell? ⟨w.heap.size, 0, none⟩ = some (.int .i64 p) ∧ w'.cell? ⟨w.heap.size, 1, none⟩ = some (.int .i64 q) ∧ w'.cell? ⟨gA, oA + p, none⟩ = some (.slice (some ⟨gB, oB, none⟩) nC cA) ∧ w'.cell? ⟨gC, oC + q, none⟩ = some (.slice (some ⟨gD, oD, none⟩) nC cC) ∧ w'.cell? ⟨gB, oB + a, none⟩ = some (.int .i64 u) ∧ w'.cell? ⟨gD, oD + a, none⟩ = some (.int .i64 v)) (first | (refine ⟨?_, ?_, ?_, ?_, ?_, ?_, ?_, ?_⟩ <;> (refine two_far _ _ ?_ ?_ <;> assumption)) | go_keep) (fail)
  have h1 := heap_setCell_same w1 (w.heap.size + 1) 0 _ _ (Value.int .i64 (u : Nat)) HP2.out
  have h2 := heap_setCell_same _ (w.heap.size + 1) 1 _ _ (Value.int .i64 (v : Nat)) h1
  have h3 : (((w1.setCell ⟨w.heap.size + 1, 0, none⟩ (.int .i64 (u : Nat))).setCell ⟨w.heap.size + 1, 1, none⟩ (.int .i64 (v : Nat))).drew).heap[w.heap.size + 1]? = some (.cells #[.int .i64 (u : Nat), .int .i64 (v : Nat)] 82 (0, 0)) := h2
  have hb4 := below_drewN ((HB.out.setCell (p := ⟨w.heap.size + 1, 0, none⟩) (Nat.le_succ _) (.int .i64 (u : Nat))).setCell (p := ⟨w.heap.size + 1, 1, none⟩) (Nat.le_succ _) (.int .i64 (v : Nat))) 1
  have hb4 : Below w.heap.size w ((w1.setCell ⟨w.heap.size + 1, 0, none⟩ (.int .i64 (u : Nat))).setCell ⟨w.heap.size + 1, 1, none⟩ (.int .i64 (v : Nat))).drew := hb4
  generalize ((w1.setCell ⟨w.heap.size + 1, 0, none⟩ (.int .i64 (u : Nat))).setCell ⟨w.heap.size + 1, 1, none⟩ (.int .i64 (v : Nat))).drew = wx at h3 hb4 ⊢
  clear s0 s1 t0 t1 f0 f1 h1 h2
  go_wp2
  (try simp only [Exit.inBlock, Exit.then])
  refine bodyPost_ret (results_cell_row (by rfl) _ _ (w.heap.size + 1) 82 _ (0, 0) _ rfl h3 Try.underlying82 rfl (by kernel_rfl)) rfl ?_
  exact ⟨rfl, hb4⟩
end Go.Proofs.Ythjnghldedfdoaa
end

section
/- The closures that look at a pair. -/
namespace Go.Proofs.Ythjnghldedfdoaa
open Go.RowKit

set_option maxHeartbeats 2000000 in
set_option maxRecDepth 100000 in
theorem dshort1 (g : Nat) (i st a : Value) (B : Option Addr) (m d : Nat) (ac : List Bool) (p q : Nat) (w : World) (hg : Dblk w g i st a (.slice B m d)) (hB : Bools w B m ac) (hp : p < m) :
    Calls Try.prog 47 #[.agg #[.int .i64 p, .int .i64 q], .pointer (some ⟨g, 0, none⟩)] w fun e w' => e = .returned (.bool (ac.getD p false)) ∧ Below w.heap.size w w' := by
  have hb := alloc_below w (.cells #[.int .i64 p, .int .i64 q] 82)
  obtain ⟨_, _, _, k3, _⟩ := (hg.on9 hb).cells
  obtain ⟨gB, oB, eB, lB, xB⟩ := (hB.below hb).at_ hp
  subst eB
  generalize ac.getD p false = x at xB ⊢
  go_enter Try.func47, Try.ntmps47
  go_wp2_with fail
  go_ret
  exact ⟨rfl, hb⟩
set_option maxHeartbeats 2000000 in
set_option maxRecDepth 100000 in
theorem ddiff1 (g g' : Nat) (i st a i' st' a' : Value) (B B' : Option Addr) (m d m' d' : Nat) (ac ac' : List Bool) (p q : Nat) (w : World) (hg : Dblk w g i st a (.slice B m d)) (hB : Bools w B m ac) (hg' : Dblk w g' i' st' a' (.slice B' m' d')) (hB' : Bools w B' m' ac') (hp : p < m) (hq : q < m') :
    Calls Try.prog 60 #[.agg #[.int .i64 p, .int .i64 q], .pointer (some ⟨g, 0, none⟩), .pointer (some ⟨g', 0, none⟩)] w fun e w' => e = .returned (.bool (ac.getD p false != ac'.getD q false)) ∧ Below w.heap.size w w' := by
  obtain ⟨w1, hw1⟩ : ∃ w1, w1 = w.alloc (.cells #[.int .i64 p, .int .i64 q] 82) := ⟨_, rfl⟩
  have hb : Below w.heap.size w w1 := by rw [hw1]; exact alloc_below _ _
  have p1 : w1.heap[w.heap.size]? = some (.cells #[.int .i64 p, .int .i64 q] 82 (0, 0)) := by rw [hw1]; exact heap_alloc_new _ _
  have s0 := cell_of_row w1 w.heap.size 0 _ _ (0, 0) p1
  have s1 := cell_of_row w1 w.heap.size 1 _ _ (0, 0) p1
  have HW := Lib.hid hw1
  have HB := Lib.hid hb
  obtain ⟨_, _, _, k3, _⟩ := (hg.on9 hb).cells
  obtain ⟨_, _, _, j3, _⟩ := (hg'.on9 hb).cells
  obtain ⟨gB, oB, eB, lB, xB⟩ := (hB.below hb).at_ hp
  subst eB
  obtain ⟨gC, oC, eC, lC, xC⟩ := (hB'.below hb).at_ hq
  subst eC
  generalize ac.getD p false = x at xB ⊢
  generalize ac'.getD q false = y at xC ⊢
  clear hw1 p1 hb
  go_enter Try.func60, Try.ntmps60
  go_wp2_with fail
  rw [← HW.out]
  go_region_held3 (fun w' => w'.cell? ⟨g, 3, none⟩ = some (.slice (some ⟨gB, oB, none⟩) m d) ∧ w'.cell? ⟨g', 3, none⟩ = some (.slice (some ⟨gC, oC, none⟩) m' d') ∧ w'.cell? ⟨w.heap.size, 0, none⟩ = some (.int .i64 p) ∧ w'.cell? ⟨w.heap.size, 1, none⟩ = some (.int .i64 q) ∧ w'.cell? ⟨gB, oB + p, none⟩ = some (.bool x) ∧ w'.cell? ⟨gC, oC + q, none⟩ = some (.bool y)) (go_keep) (fail)
  go_wp2
  go_ret
  exact ⟨rfl, below_drewN HB.out 1⟩
set_option maxHeartbeats 2000000 in
set_option maxRecDepth 100000 in
theorem dcomb1 (k go g g' : Nat) (hk : k < 4) (i st a i' st' a' : Value) (B B' : Option Addr) (m d m' d' : Nat) (ac ac' : List Bool) (p q : Nat) (w : World) (hop : w.cell? ⟨go, 0, none⟩ = some (.int .i64 k)) (hg : Dblk w g i st a (.slice B m d)) (hB : Bools w B m ac) (hg' : Dblk w g' i' st' a' (.slice B' m' d')) (hB' : Bools w B' m' ac') (hp : p < m) (hq : q < m') :
    Calls Try.prog 54 #[.agg #[.int .i64 p, .int .i64 q], .pointer (some ⟨go, 0, none⟩), .pointer (some ⟨g, 0, none⟩), .pointer (some ⟨g', 0, none⟩)] w fun e w' => e = .returned (.bool (opB k (ac.getD p false) (ac'.getD q false))) ∧ Below w.heap.size w w' := by
  obtain ⟨w1, hw1⟩ : ∃ w1, w1 = w.alloc (.cells #[.int .i64 p, .int .i64 q] 82) := ⟨_, rfl⟩
  have hb : Below w.heap.size w w1 := by rw [hw1]; exact alloc_below _ _
  have p1 : w1.heap[w.heap.size]? = some (.cells #[.int .i64 p, .int .i64 q] 82 (0, 0)) := by rw [hw1]; exact heap_alloc_new _ _
  have s0 := cell_of_row w1 w.heap.size 0 _ _ (0, 0) p1
  have s1 := cell_of_row w1 w.heap.size 1 _ _ (0, 0) p1
  have HW := Lib.hid hw1
  have HB := Lib.hid hb
  obtain ⟨_, _, _, k3, _⟩ := (hg.on9 hb).cells
  obtain ⟨_, _, _, j3, _⟩ := (hg'.on9 hb).cells
  obtain ⟨gB, oB, eB, lB, xB⟩ := (hB.below hb).at_ hp
  subst eB
  obtain ⟨gC, oC, eC, lC, xC⟩ := (hB'.below hb).at_ hq
  subst eC
  generalize ac.getD p false = x at xB ⊢
  generalize ac'.getD q false = y at xC ⊢
  have hop := (hb.cell (p := ⟨go, 0, none⟩) (World.block_lt_of_cell? w _ hop)).trans hop
  clear hw1 p1 hb
  go_enter Try.func54, Try.ntmps54
  go_wp2_with fail
  rw [← HW.out]
  go_region_held3 (fun w' => w'.cell? ⟨go, 0, none⟩ = some (.int .i64 k) ∧ w'.cell? ⟨g, 3, none⟩ = some (.slice (some ⟨gB, oB, none⟩) m d) ∧ w'.cell? ⟨g', 3, none⟩ = some (.slice (some ⟨gC, oC, none⟩) m' d') ∧ w'.cell? ⟨w.heap.size, 0, none⟩ = some (.int .i64 p) ∧ w'.cell? ⟨w.heap.size, 1, none⟩ = some (.int .i64 q) ∧ w'.cell? ⟨gB, oB + p, none⟩ = some (.bool x) ∧ w'.cell? ⟨gC, oC + q, none⟩ = some (.bool y)) (go_keep) ((go_at_call 55; refine (dholds k x y _ hk).mono ?_; rintro e w2 ⟨rfl, rfl⟩))
  go_wp2
  go_ret
  exact ⟨rfl, below_drewN HB.out 1⟩
set_option maxHeartbeats 2000000 in
set_option maxRecDepth 100000 in
theorem dfrom2 (p q : Nat) (w : World) :
    Calls Try.prog 70 #[.agg #[.int .i64 p, .int .i64 q]] w fun e w' => e = .returned (.bool (decide (q = 1))) ∧ Below w.heap.size w w' := by
  have hb := alloc_below w (.cells #[.int .i64 p, .int .i64 q] 82)
  have t1 : ((q : Int) == 1) = decide (q = 1) := by
    by_cases h : q = 1
    · subst h; rfl
    · rw [decide_eq_false h, beq_eq_false_iff_ne]; omega
  generalize decide (q = 1) = b at t1 ⊢
  go_enter Try.func70, Try.ntmps70
  go_wp2_with fail
  go_ret
  exact ⟨rfl, hb⟩
end Go.Proofs.Ythjnghldedfdoaa
end

section
/- Index and Contains of a list of numbers. -/
namespace Go.Proofs.Ythjnghldedfdoaa
open Go.RowKit

/-- The first place of a number in a list. -/
def fi (xs : List Int) (v : Int) : Option Nat := xs.findIdx? (fun x => x == v)
theorem fi_hit {xs : List Int} {v : Int} {k : Nat} (hk : k < xs.length) (h : xs.getD k 0 = v) (hn : ∀ j, j < k → ¬ xs.getD j 0 = v) : fi xs v = some k := by
  unfold fi
  rw [List.findIdx?_eq_some_iff_getElem]
  have e : ∀ j (hj : j < xs.length), xs[j] = xs.getD j 0 := fun j hj => by rw [List.getD_eq_getElem?_getD, List.getElem?_eq_getElem hj]; rfl
  refine ⟨hk, by rw [e k hk, h]; simp, fun j hj => ?_⟩
  rw [e j (by omega)]
  simpa using hn j hj
theorem fi_miss {xs : List Int} {v : Int} (hn : ∀ j, j < xs.length → ¬ xs.getD j 0 = v) : fi xs v = none := by
  unfold fi
  rw [List.findIdx?_eq_none_iff]
  intro x hx
  obtain ⟨j, hj, rfl⟩ := List.mem_iff_getElem.1 hx
  have := hn j hj
  rw [List.getD_eq_getElem?_getD, List.getElem?_eq_getElem hj] at this
  simpa using this
theorem fi_some {xs : List Int} {v : Int} {k : Nat} (h : fi xs v = some k) : k < xs.length ∧ xs.getD k 0 = v ∧ ∀ j, j < k → ¬ xs.getD j 0 = v := by
  unfold fi at h
  rw [List.findIdx?_eq_some_iff_getElem] at h
  obtain ⟨h1, h2, h3⟩ := h
  have e : ∀ j (hj : j < xs.length), xs[j] = xs.getD j 0 := fun j hj => by rw [List.getD_eq_getElem?_getD, List.getElem?_eq_getElem hj]; rfl
  refine ⟨h1, by rw [← e k h1]; simpa using h2, fun j hj => ?_⟩
  have := h3 j hj
  rw [e j (by omega)] at this
  simpa using this
theorem fi_none {xs : List Int} {v : Int} (h : fi xs v = none) : ∀ j, j < xs.length → ¬ xs.getD j 0 = v := by
  unfold fi at h
  rw [List.findIdx?_eq_none_iff] at h
  intro j hj
  have := h xs[j] (List.getElem_mem hj)
  rw [List.getD_eq_getElem?_getD, List.getElem?_eq_getElem hj]
  simpa using this
def ixI (xs : List Int) (v : Int) : Int := match fi xs v with
  | some k => (k : Int)
  | none => -1

set_option maxHeartbeats 1000000 in
theorem sindex (A : Option Addr) (n c : Nat) (xs : List Int) (v : Int) (w : World) (h : Ints w A n xs) :
    Calls Try.prog 81 #[.slice A n c, .int .i64 v] w fun e w' => e = .returned (.int .i64 (ixI xs v)) ∧ Below w.heap.size w w' := by
  have L := Lib.hid h.1
  have hn := h.2.1
  go_enter Try.func81, Try.ntmps81
  go_wp2
  go_loop [8] (fun i => ∃ j : Nat, j ≤ n ∧ i = .int .i64 j ∧ ∀ m, m < j → ¬ xs.getD m 0 = v) (fun i => n - (intOf i).toNat)
  case atStart => exact ⟨0, Nat.zero_le _, rfl, fun m h => absurd h (by omega)⟩
  case round =>
    obtain ⟨j, hj, rfl, hne⟩ := hrel
    have HN := Lib.hid hne
    clear hne
    by_cases hlt : j < n
    · obtain ⟨b, off, rfl, _, hcell⟩ := h.at_ hlt
      by_cases hx : xs.getD j 0 = v
      · have hfin := Lib.hid (fi_hit (by rw [L.out]; exact hlt) hx HN.out)
        have ht : (v == xs.getD j 0) = true := by rw [hx]; simp
        generalize xs.getD j 0 = y at hcell ht
        clear hx
        go_wp2
        go_ret
        exact ⟨by unfold ixI; rw [hfin.out]; rfl, Below.refl _ _⟩
      · have HN2 := Lib.hid (show ∀ m, m < j + 1 → ¬ xs.getD m 0 = v from fun m hm => by
          by_cases h9 : m = j
          · subst h9; exact hx
          · exact HN.out m (by omega))
        have ht : (v == xs.getD j 0) = false := by simpa using fun h => hx h.symm
        generalize xs.getD j 0 = y at hcell ht
        clear hx
        go_wp2
        go_round
        case rel => exact ⟨j + 1, by omega, by go_num, HN2.out⟩
        case measure => simp [intOf]; omega
    · obtain rfl : j = n := by omega
      have hfin := Lib.hid (fi_miss (fun m hm => HN.out m (by rw [L.out] at hm; exact hm)))
      go_wp2
      go_ret
      exact ⟨by unfold ixI; rw [hfin.out]; rfl, Below.refl _ _⟩

theorem ixI_nonneg {xs : List Int} {v : Int} : decide (0 ≤ ixI xs v) = decide (v ∈ xs) := by
  unfold ixI
  cases h : fi xs v with
  | none =>
    have := fi_none h
    rw [decide_eq_false (show ¬ (0 : Int) ≤ -1 by omega), decide_eq_false fun hm => ?_]
    obtain ⟨k, hk, e⟩ := List.getElem_of_mem hm
    exact this k hk (by rw [List.getD_eq_getElem?_getD, List.getElem?_eq_getElem hk, e]; rfl)
  | some k =>
    obtain ⟨h1, h2, _⟩ := fi_some h
    rw [decide_eq_true (show (0 : Int) ≤ (k : Int) by omega), decide_eq_true ?_]
    rw [List.getD_eq_getElem?_getD, List.getElem?_eq_getElem h1] at h2
    exact h2 ▸ List.getElem_mem h1
set_option maxHeartbeats 1000000 in
theorem scontains (A : Option Addr) (n c : Nat) (xs : List Int) (v : Int) (b : Bool) (w : World) (h : Ints w A n xs) (hb : b = decide (v ∈ xs)) :
    Calls Try.prog 52 #[.slice A n c, .int .i64 v] w fun e w' => e = .returned (.bool b) ∧ Below w.heap.size w w' := by
  obtain ⟨y, hy⟩ : ∃ y, y = ixI xs v := ⟨_, rfl⟩
  have hs := sindex A n c xs v w h
  rw [← hy] at hs
  have HS := Lib.hid hs
  have hb2 := hb.trans (ixI_nonneg (xs := xs) (v := v)).symm
  rw [← hy] at hb2
  have HB := Lib.hid hb2
  clear hb hb2 hs hy
  by_cases h0 : 0 ≤ y
  · have hf : b = true := HB.out.trans (decide_eq_true h0)
    subst hf
    go_enter Try.func52, Try.ntmps52
    go_wp2_with fail
    refine HS.out.mono ?_
    rintro e w1 ⟨rfl, b1⟩
    go_wp2_with fail
    go_ret
    exact ⟨rfl, b1⟩
  · have hf : b = false := HB.out.trans (decide_eq_false h0)
    subst hf
    have h1 : decide (0 ≤ y) = false := decide_eq_false h0
    go_enter Try.func52, Try.ntmps52
    go_wp2_with fail
    refine HS.out.mono ?_
    rintro e w1 ⟨rfl, b1⟩
    go_wp2_with fail
    go_ret
    exact ⟨rfl, b1⟩
end Go.Proofs.Ythjnghldedfdoaa
end

section
/- Shortest, Differ and Combine of the program. -/
namespace Go.Proofs.Ythjnghldedfdoaa
open Go.RowKit Go.Shelf

theorem entB : ∀ args w, (callFunc 77 args).run Try.prog w = .ok (.enter 77 args) w := enters_of Try.func77 (by kernel_rfl) rfl
theorem entS : ∀ args w, (callFunc 47 args).run Try.prog w = .ok (.enter 47 args) w := enters_of Try.func47 (by kernel_rfl) rfl
theorem entD : ∀ args w, (callFunc 60 args).run Try.prog w = .ok (.enter 60 args) w := enters_of Try.func60 (by kernel_rfl) rfl
theorem entC : ∀ args w, (callFunc 54 args).run Try.prog w = .ok (.enter 54 args) w := enters_of Try.func54 (by kernel_rfl) rfl
section
variable {i st n st' n' : Nat} {nx nx' : List (List Int)} {ac ac' : List Bool} {w : World} {g g' : Nat} {x y x' y' : Value} {A B A' B' : Option Addr} {c m d c' m' d' : Nat}
theorem stepB (h : Dok i st n nx ac) (h' : Dok i st' n' nx' ac') (hg : Dblk w g x y (.slice A n c) (.slice B m d)) (hg' : Dblk w g' x' y' (.slice A' n' c') (.slice B' m' d')) (hx : Lists w A n nx) (hx' : Lists w A' n' nx') :
    StepC 77 #[.pointer (some ⟨g, 0, none⟩), .pointer (some ⟨g', 0, none⟩)] (bothF nx nx') i n n' w :=
  ⟨entB, fun W hW p q a hp hq ha => dboth1 g g' x y x' y' A B A' B' n c m d n' c' m' d' nx nx' a i p q W (hg.on9 hW) (hg'.on9 hW) (hx.below hW) (hx'.below hW) hp hq ha ⟨(h.row p hp).1, h.nN_eq hp ha⟩ ⟨(h'.row q hq).1, h'.nN_eq hq ha⟩⟩
theorem wantS (hg : Dblk w g x y (.slice A n c) (.slice B n d)) (hb : Bools w B n ac) : WantC 47 #[.pointer (some ⟨g, 0, none⟩)] (fun p => aN ac p.1) n n w :=
  ⟨entS, fun W hW p q hp _ => dshort1 g x y (.slice A n c) B n d ac p q W (hg.on9 hW) (hb.below hW) hp⟩
theorem wantD (hg : Dblk w g x y (.slice A n c) (.slice B n d)) (hb : Bools w B n ac) (hg' : Dblk w g' x' y' (.slice A' n' c') (.slice B' n' d')) (hb' : Bools w B' n' ac') :
    WantC 60 #[.pointer (some ⟨g, 0, none⟩), .pointer (some ⟨g', 0, none⟩)] (fun p => aN ac p.1 != aN ac' p.2) n n' w :=
  ⟨entD, fun W hW p q hp hq => ddiff1 g g' x y (.slice A n c) x' y' (.slice A' n' c') B B' n d n' d' ac ac' p q W (hg.on9 hW) (hb.below hW) (hg'.on9 hW) (hb'.below hW) hp hq⟩
theorem wantC {k go : Nat} (hk : k < 4) (ho : w.cell? ⟨go, 0, none⟩ = some (.int .i64 k)) (hg : Dblk w g x y (.slice A n c) (.slice B n d)) (hb : Bools w B n ac) (hg' : Dblk w g' x' y' (.slice A' n' c') (.slice B' n' d')) (hb' : Bools w B' n' ac') :
    WantC 54 #[.pointer (some ⟨go, 0, none⟩), .pointer (some ⟨g, 0, none⟩), .pointer (some ⟨g', 0, none⟩)] (opA k ac ac') n n' w :=
  ⟨entC, fun W hW p q hp hq => dcomb1 k go g g' hk x y (.slice A n c) x' y' (.slice A' n' c') B B' n d n' d' ac ac' p q W ((hW.cell (p := ⟨go, 0, none⟩) (World.block_lt_of_cell? w _ ho)).trans ho) (hg.on9 hW) (hb.below hW) (hg'.on9 hW) (hb'.below hW) hp hq⟩
end
set_option maxHeartbeats 2000000 in
set_option maxRecDepth 100000 in
theorem dshortest (i st n : Nat) (A B : Option Addr) (c d : Nat) (nx : List (List Int)) (ac : List Bool) (w : World) (hx : Lists w A n nx) (ha : Bools w B n ac) (hM : Dok i st n nx ac) :
    Calls Try.prog 16 #[.agg #[.int .i64 i, .int .i64 st, .slice A n c, .slice B n d]] w fun e w' => ∃ A' c',
      e = .returned (.tuple #[.slice A' (fwR (fun p => aN ac p.1) (cmE i st n st n nx nx)).1.length c', .bool (fwR (fun p => aN ac p.1) (cmE i st n st n nx nx)).2, .int .i64 0]) ∧
      Owned w' w.heap.size (.slice A' (fwR (fun p => aN ac p.1) (cmE i st n st n nx nx)).1.length c') (fwR (fun p => aN ac p.1) (cmE i st n st n nx nx)).1 ∧ Below w.heap.size w w' := by
  obtain ⟨w0, hw0⟩ : ∃ w0, w0 = w.alloc (.cells #[.int .i64 i, .int .i64 st, .slice A n c, .slice B n d] 25) := ⟨_, rfl⟩
  have hb0 : Below w.heap.size w w0 := by rw [hw0]; exact alloc_below _ _
  have hB : Dblk w0 w.heap.size (.int .i64 i) (.int .i64 st) (.slice A n c) (.slice B n d) := by rw [hw0]; exact dfa_box _ _ _ _ _
  have hx0 := hx.below hb0
  have ha0 := ha.below hb0
  obtain ⟨k0, k1, k2, k3, _⟩ := hB.cells
  have hn := hM.n2
  have hi := hM.i2
  have HV := Lib.hid hM.vld
  have HM := Lib.hid hM
  have HW0 := Lib.hid hw0
  have HB0 := Lib.hid hb0
  have HB := Lib.hid hB
  have HX := Lib.hid hx0
  have HA := Lib.hid ha0
  clear hw0 hb0 hB hx0 ha0 hM
  rw [HW0.out] at k0 k1 k2 k3
  go_enter Try.func16, Try.ntmps16
  go_wp2_with fail
  rw [← HW0.out]
  refine (pvalD _ _ _ _ _ _ _ _ _ _ _ HX.out HA.out.1 HA.out.2.1).mono ?_
  rintro e w1 ⟨rfl, b1⟩
  rw [HV.out]
  clear k0 k1 k2 k3
  have HB1 := Lib.hid b1
  obtain ⟨k0, k1, k2, k3, _⟩ := (HB.out.on9 b1).cells
  clear b1
  go_wp2_with fail
  refine (dboth _ _ _ _ _ _ _ _ _ _ _ _ _ _ _ _ _).mono ?_
  rintro e w2 ⟨g, g', rfl, h1, h2, _, _, b2⟩
  have b02 := bt HB1.out b2
  go_wp2_with fail
  refine (dsearch _ _ _ _ _ _ i n n st st w2 (both_stp HM.out HM.out) HM.out.st HM.out.st (by omega) (by omega) hi (stepB HM.out HM.out h1 h2 (HX.out.below b02) (HX.out.below b02)) (wantS (HB.out.on9 b02) (HA.out.below b02))).mono ?_
  rintro e w3 ⟨A3, c3, rfl, o3, b3⟩
  go_wp2_with fail
  go_ret3
  exact ⟨A3, c3, rfl, o3.lower (bt HB0.out b02).size, bt HB0.out (bt b02 b3)⟩
set_option maxHeartbeats 2000000 in
set_option maxRecDepth 100000 in
theorem dshortest_bad (i st : Int) (A B : Option Addr) (n c m d : Nat) (nx : List (List Int)) (ac : List Bool) (w : World) (hx : Lists w A n nx) (ha : Bools w B m ac) (hv : ¬ vldD i st nx ac = 0) :
    Calls Try.prog 16 #[.agg #[.int .i64 i, .int .i64 st, .slice A n c, .slice B m d]] w fun e w' => e = .returned (.tuple #[.slice none 0 0, .bool false, .int .i64 (vldD i st nx ac)]) ∧ Below w.heap.size w w' := by
  obtain ⟨w0, hw0⟩ : ∃ w0, w0 = w.alloc (.cells #[.int .i64 i, .int .i64 st, .slice A n c, .slice B m d] 25) := ⟨_, rfl⟩
  have hb0 : Below w.heap.size w w0 := by rw [hw0]; exact alloc_below _ _
  have hB : Dblk w0 w.heap.size (.int .i64 i) (.int .i64 st) (.slice A n c) (.slice B m d) := by rw [hw0]; exact dfa_box _ _ _ _ _
  obtain ⟨k0, k1, k2, k3, _⟩ := hB.cells
  obtain ⟨x, hx0, hxe⟩ : ∃ x, ¬ x = 0 ∧ vldD i st nx ac = x := ⟨_, hv, rfl⟩
  have HXE := Lib.hid hxe
  have t1 : (x != 0) = true := by simpa using hx0
  have HW0 := Lib.hid hw0
  have HX := Lib.hid (hx.below hb0)
  have HA := Lib.hid (ha.below hb0)
  have HB0 := Lib.hid hb0
  clear hv hxe hw0 hB hb0
  rw [HW0.out] at k0 k1 k2 k3
  go_enter Try.func16, Try.ntmps16
  go_wp2_with fail
  rw [← HW0.out]
  refine (pvalD _ _ _ _ _ _ _ _ _ _ _ HX.out HA.out.1 HA.out.2.1).mono ?_
  rintro e w1 ⟨rfl, b1⟩
  rw [HXE.out]
  go_wp2_with fail
  go_ret3
  exact ⟨by rw [HXE.out]; rfl, bt HB0.out b1⟩
/-- Two boxes, one behind the other. -/
theorem two_boxes (w : World) (i st i' st' : Int) (A B A' B' : Option Addr) (n c m d n' c' m' d' : Nat) : ∃ w1, w1 = (w.alloc (.cells #[.int .i64 i, .int .i64 st, .slice A n c, .slice B m d] 25)).alloc (.cells #[.int .i64 i', .int .i64 st', .slice A' n' c', .slice B' m' d'] 25) ∧
    Below w.heap.size w w1 ∧ Dblk w1 w.heap.size (.int .i64 i) (.int .i64 st) (.slice A n c) (.slice B m d) ∧ Dblk w1 (w.heap.size + 1) (.int .i64 i') (.int .i64 st') (.slice A' n' c') (.slice B' m' d') := by
  refine ⟨_, rfl, (alloc_below _ _).alloc (by simp) _, (dfa_box w (.int .i64 i) (.int .i64 st) (.slice A n c) (.slice B m d)).kept (alloc_below _ _) (by simp), ?_⟩
  have := dfa_box (w.alloc (.cells #[.int .i64 i, .int .i64 st, .slice A n c, .slice B m d] 25)) (.int .i64 i') (.int .i64 st') (.slice A' n' c') (.slice B' m' d')
  simpa using this
set_option maxHeartbeats 2000000 in
set_option maxRecDepth 100000 in
theorem ddiffer (i st st' n n' : Nat) (A B A' B' : Option Addr) (c d c' d' : Nat) (nx nx' : List (List Int)) (ac ac' : List Bool) (w : World) (hx : Lists w A n nx) (ha : Bools w B n ac) (hx' : Lists w A' n' nx') (ha' : Bools w B' n' ac') (hM : Dok i st n nx ac) (hM' : Dok i st' n' nx' ac') :
    Calls Try.prog 24 #[.agg #[.int .i64 i, .int .i64 st, .slice A n c, .slice B n d], .agg #[.int .i64 i, .int .i64 st', .slice A' n' c', .slice B' n' d']] w fun e w' => ∃ A3 c3,
      e = .returned (.tuple #[.slice A3 (fwR (fun p => aN ac p.1 != aN ac' p.2) (cmE i st n st' n' nx nx')).1.length c3, .bool (fwR (fun p => aN ac p.1 != aN ac' p.2) (cmE i st n st' n' nx nx')).2, .int .i64 0]) ∧
      Owned w' w.heap.size (.slice A3 (fwR (fun p => aN ac p.1 != aN ac' p.2) (cmE i st n st' n' nx nx')).1.length c3) (fwR (fun p => aN ac p.1 != aN ac' p.2) (cmE i st n st' n' nx nx')).1 ∧ Below w.heap.size w w' := by
  obtain ⟨w0, hw0, hb0, hB, hB'⟩ := two_boxes w i st i st' A B A' B' n c n d n' c' n' d'
  obtain ⟨k0, k1, k2, k3, _⟩ := hB.cells
  obtain ⟨j0, j1, j2, j3, _⟩ := hB'.cells
  have hn := hM.n2
  have hn' := hM'.n2
  have hi := hM.i2
  have HV := Lib.hid (show vld2 i st nx ac i st' nx' ac' = 0 by unfold vld2; rw [if_pos hM.vld, if_pos hM'.vld, if_pos rfl])
  have HM := Lib.hid hM
  have HM' := Lib.hid hM'
  have HW0 := Lib.hid hw0
  have HB0 := Lib.hid hb0
  have HB := Lib.hid hB
  have HB' := Lib.hid hB'
  have HX := Lib.hid (hx.below hb0)
  have HA := Lib.hid (ha.below hb0)
  have HX' := Lib.hid (hx'.below hb0)
  have HA' := Lib.hid (ha'.below hb0)
  clear hw0 hb0 hB hB' hM hM'
  rw [HW0.out] at k0 k1 k2 k3 j0 j1 j2 j3
  go_enter Try.func24, Try.ntmps24
  go_wp2_with fail
  rw [← HW0.out]
  refine (pvpair _ _ _ _ _ _ _ _ _ _ _ _ _ _ _ _ _ _ _ _ _ HX.out HA.out HX'.out HA'.out).mono ?_
  rintro e w1 ⟨rfl, b1⟩
  rw [HV.out]
  clear k0 k1 k2 k3 j0 j1 j2 j3
  have HB1 := Lib.hid b1
  obtain ⟨k0, k1, k2, k3, _⟩ := (HB.out.on9 b1).cells
  obtain ⟨j0, j1, j2, j3, _⟩ := (HB'.out.on9 b1).cells
  clear b1
  go_wp2_with fail
  refine (dboth _ _ _ _ _ _ _ _ _ _ _ _ _ _ _ _ _).mono ?_
  rintro e w2 ⟨g, g', rfl, h1, h2, _, _, b2⟩
  have b02 := bt HB1.out b2
  go_wp2_with fail
  refine (dsearch _ _ _ _ _ _ i n n' st st' w2 (both_stp HM.out HM'.out) HM.out.st HM'.out.st (by omega) (by omega) hi (stepB HM.out HM'.out h1 h2 (HX.out.below b02) (HX'.out.below b02)) (wantD (HB.out.on9 b02) (HA.out.below b02) (HB'.out.on9 b02) (HA'.out.below b02))).mono ?_
  rintro e w3 ⟨A3, c3, rfl, o3, b3⟩
  go_wp2_with fail
  go_ret3
  exact ⟨A3, c3, rfl, o3.lower (bt HB0.out b02).size, bt HB0.out (bt b02 b3)⟩
set_option maxHeartbeats 2000000 in
set_option maxRecDepth 100000 in
theorem ddiffer_bad (i st i' st' : Int) (A B A' B' : Option Addr) (n c m d n' c' m' d' : Nat) (nx nx' : List (List Int)) (ac ac' : List Bool) (w : World) (hx : Lists w A n nx) (ha : Bools w B m ac) (hx' : Lists w A' n' nx') (ha' : Bools w B' m' ac') (hv : ¬ vld2 i st nx ac i' st' nx' ac' = 0) :
    Calls Try.prog 24 #[.agg #[.int .i64 i, .int .i64 st, .slice A n c, .slice B m d], .agg #[.int .i64 i', .int .i64 st', .slice A' n' c', .slice B' m' d']] w fun e w' =>
      e = .returned (.tuple #[.slice none 0 0, .bool false, .int .i64 (vld2 i st nx ac i' st' nx' ac')]) ∧ Below w.heap.size w w' := by
  obtain ⟨w0, hw0, hb0, hB, hB'⟩ := two_boxes w i st i' st' A B A' B' n c m d n' c' m' d'
  obtain ⟨k0, k1, k2, k3, _⟩ := hB.cells
  obtain ⟨j0, j1, j2, j3, _⟩ := hB'.cells
  obtain ⟨x, hx0, hxe⟩ : ∃ x, ¬ x = 0 ∧ vld2 i st nx ac i' st' nx' ac' = x := ⟨_, hv, rfl⟩
  have HXE := Lib.hid hxe
  have t1 : (x != 0) = true := by simpa using hx0
  have HW0 := Lib.hid hw0
  have HB0 := Lib.hid hb0
  have HX := Lib.hid (hx.below hb0)
  have HA := Lib.hid (ha.below hb0)
  have HX' := Lib.hid (hx'.below hb0)
  have HA' := Lib.hid (ha'.below hb0)
  clear hw0 hb0 hB hB' hv hxe
  rw [HW0.out] at k0 k1 k2 k3 j0 j1 j2 j3
  go_enter Try.func24, Try.ntmps24
  go_wp2_with fail
  rw [← HW0.out]
  refine (pvpair _ _ _ _ _ _ _ _ _ _ _ _ _ _ _ _ _ _ _ _ _ HX.out HA.out HX'.out HA'.out).mono ?_
  rintro e w1 ⟨rfl, b1⟩
  rw [HXE.out]
  go_wp2_with fail
  go_ret3
  exact ⟨by rw [HXE.out]; rfl, bt HB0.out b1⟩
end Go.Proofs.Ythjnghldedfdoaa
end

section
/- A copy of transitions. -/
namespace Go.Proofs.Ythjnghldedfdoaa
open Go.RowKit

set_option maxHeartbeats 2000000 in
set_option maxRecDepth 100000 in
theorem drows (A : Option Addr) (n c : Nat) (nx : List (List Int)) (w : World) (hx : Lists w A n nx) (hn : n ≤ 128) :
    Calls Try.prog 43 #[.slice A n c] w fun e w' => ∃ A' c', e = .returned (.slice A' n c') ∧ OwnedL w' w.heap.size (.slice A' n c') nx ∧ Below w.heap.size w w' := by
  have L := Lib.hid hx.1
  have HX := Lib.hid hx
  go_enter Try.func43, Try.ntmps43
  go_wp2_with fail
  go_loopw [3, 8] (fun v3 v8 wr => ∃ (q : Nat) (A' : Option Addr) (c' : Nat), q ≤ n ∧ v8 = .int .i64 q ∧ v3 = .slice A' q c' ∧ OwnedL wr w.heap.size (.slice A' q c') (nx.take q) ∧ Below w.heap.size w wr) (fun _ v8 _ => n - (intOf v8).toNat)
  case atStart => exact ⟨0, none, 0, Nat.zero_le _, rfl, rfl, OwnedL.nil _ _, Below.refl _ _⟩
  case round =>
    obtain ⟨q, A', c', hq, rfl, rfl, hown, hbr⟩ := hrel
    have HBR := Lib.hid hbr
    have HOW := Lib.hid hown
    by_cases hlt : q < n
    · obtain ⟨gA, oA, A1, nA, cA, eA, _, hdA, hrA⟩ := (HX.out.below hbr).at_ hlt
      subst eA
      have hl := hrA.1
      have HT := Lib.hid (show nx.take q ++ [nx.getD q []] = nx.take (q + 1) by rw [List.take_succ_eq_append_getElem (by rw [L.out]; exact hlt), List.getD_eq_getElem?_getD, List.getElem?_eq_getElem (by rw [L.out]; exact hlt)]; rfl)
      have HLT := Lib.hid (show (nx.take q).length = q by rw [List.length_take, L.out]; omega)
      generalize nx.getD q [] = r at hrA hl HT
      clear hown hbr
      go_wp2_with fail
      refine (sclone _ _ _ _ _ hrA).mono ?_
      rintro e w1 ⟨A2, c2, rfl, ho, hb1⟩
      have ho2 := ho.lower (base' := w.heap.size) HBR.out.size
      have hown1 := HOW.out.kept hb1
      have hb2 := HBR.out.trans (hb1.mono HBR.out.size)
      obtain ⟨A3, c3, w2, hr, hown2, hb3, _⟩ := run_append_list hown1 ho2 hb2.size (by rw [HLT.out]; omega)
      rw [HLT.out] at hr hown2
      rw [HT.out] at hown2
      have HO2 := Lib.hid hown2
      have HB2 := Lib.hid (hb2.trans hb3)
      clear ho ho2 hb1 hown1 hb2 hown2 hb3 hdA hrA
      go_wp2_with (at_builtin; refine Lib.wpList_append_run _ rfl _ _ _ _ rfl _ _ rfl rfl _ _ hr ?_)
      go_roundw
      case rel => exact ⟨q + 1, A3, c3, by omega, by go_num, rfl, HO2.out, HB2.out⟩
      case measure => simp [intOf]; omega
    · obtain rfl : q = n := by omega
      have hall := Lib.hid (List.take_of_length_le (l := nx) (i := q) (by rw [L.out]; exact Nat.le_refl _))
      clear hown
      go_wp2_with fail
      go_ret
      have := HOW.out
      rw [hall.out] at this
      exact ⟨A', c', rfl, this, HBR.out⟩
end Go.Proofs.Ythjnghldedfdoaa
end

section
/- A copy of transitions: rows in blocks of their own. -/
namespace Go.Proofs.Ythjnghldedfdoaa
open Go.RowKit

/-- A row of rows of i numbers each, in different blocks. -/
def OwnR (w : World) (base : Nat) (v : Value) (i : Nat) (bk ck : Nat → Nat) (xss : List (List Int)) : Prop :=
  w.ownsRow base 26 1 v xss.length ((List.range xss.length).map fun s => Value.slice (some ⟨bk s, 0, none⟩) i (ck s)) ∧
  (∀ s, s < xss.length → base ≤ bk s ∧ bk s < w.heap.size ∧ (xss.getD s []).length = i ∧ Owned w base (.slice (some ⟨bk s, 0, none⟩) i (ck s)) (xss.getD s [])) ∧ ∀ s t, s < xss.length → t < xss.length → bk s = bk t → s = t
/-- A function with one value changed. -/
def upd (f : Nat → Nat) (q x : Nat) : Nat → Nat := fun s => if s = q then x else f s
theorem upd_same (f : Nat → Nat) (q x : Nat) : upd f q x q = x := if_pos rfl
theorem upd_ne (f : Nat → Nat) {q s : Nat} (x : Nat) (h : ¬ s = q) : upd f q x s = f s := if_neg h
theorem run_append_sl {w : World} {base k : Nat} {v : Value} {vs : List Value} (h : w.ownsRow base 26 1 v k vs) (B : Option Addr) (m d : Nat) (hbase : base ≤ w.heap.size) (hl : k < 1759218604441) :
    ∃ A c w', (Builtin.append_ #[22, 22] 22 #[v, .slice (some ⟨w.heap.size, 0, none⟩) 1 1]).run Try.prog (w.alloc (.cells #[.slice B m d] 26)) = .ok (.slice A (k + 1) c) w' ∧
      w'.ownsRow base 26 1 (.slice A (k + 1) c) (k + 1) (vs ++ [.slice B m d]) ∧ Below base w w' ∧ (∀ t, t ≠ 26 → KeptT t w w') := by
  obtain ⟨i, hi, hz0, hz1, hz2⟩ := info_parts infol
  have hbz := alloc_below w (.cells #[.slice B m d] 26)
  have ho1 : (w.alloc (.cells #[.slice B m d] 26)).ownsRow base 26 1 v k vs := by
    refine ⟨h.1, ?_⟩
    rcases h.2 with e | ⟨g, cap, cur, hv, hbg, hg, r⟩
    · exact .inl e
    · exact .inr ⟨g, cap, cur, hv, hbg, (hbz.block g (heap_lt hg)).trans hg, r⟩
  obtain ⟨v', w', hr, h1, h2, _, hmv⟩ := run_append_own_at (P := Try.prog) (w.alloc (.cells #[.slice B m d] 26)) base 22 22 26 i (.slice none 0 0) 1 24 Try.underlying22 hi hz0 hz1 hz2 rfl (by decide) v _ _ ho1 ⟨w.heap.size, 0, none⟩ 1 1 [.slice B m d] (by simp)
    (by
      intro j u hu
      cases j with
      | zero =>
        simp at hu
        subst hu
        simp [Addr.add]
      | succ j => simp at hu)
    (by intro u hu; simp at hu; subst hu; rfl) (by unfold maxLen; omega) (by omega) (Nat.le_trans hbase hbz.size)
  have hform : ∃ A c, v' = .slice A (k + 1) c := by
    rcases h1.2 with ⟨rfl, h0⟩ | ⟨g, cap, cur, rfl, _⟩
    · omega
    · exact ⟨_, _, rfl⟩
  obtain ⟨A, c, rfl⟩ := hform
  exact ⟨A, c, w', hr, h1, (hbz.mono hbase).trans ((Below.refl _ _).grown h2 (Nat.le_trans hbase hbz.size) (fun k hk => (World.ownsRow.lt ho1 k hk).1)), fun t ht => (KeptT.of_below hbz).trans (KeptT.grown h2 ho1 ht)⟩
section
variable {w w' : World} {base i : Nat} {v : Value} {bk ck : Nat → Nat} {xss : List (List Int)}
theorem OwnR.keptT (h : OwnR w base v i bk ck xss) (k1 : KeptT 3 w w') (k2 : KeptT 26 w w') (hz : w.heap.size ≤ w'.heap.size) : OwnR w' base v i bk ck xss := by
  obtain ⟨h1, h2, h3⟩ := h
  refine ⟨⟨h1.1, ?_⟩, fun s hs => ?_, h3⟩
  · rcases h1.2 with e | ⟨g, cap, cur, e, hbg, hg, r⟩
    · exact .inl e
    · exact .inr ⟨g, cap, cur, e, hbg, k2 g cur hg, r⟩
  · obtain ⟨a, b, l, c⟩ := h2 s hs
    exact ⟨a, Nat.lt_of_lt_of_le b hz, l, c.keptT k1⟩
theorem OwnR.kept (h : OwnR w base v i bk ck xss) (hb : Below w.heap.size w w') : OwnR w' base v i bk ck xss := h.keptT (KeptT.of_below hb) (KeptT.of_below hb) hb.size
theorem OwnR.lower {base' : Nat} (h : OwnR w base v i bk ck xss) (hb : base' ≤ base) : OwnR w base' v i bk ck xss := by
  obtain ⟨h1, h2, h3⟩ := h
  refine ⟨⟨h1.1, h1.2.imp id (by rintro ⟨g, cap, cur, e1, h1, h2⟩; exact ⟨g, cap, cur, e1, by omega, h2⟩)⟩, fun s hs => ?_, h3⟩
  obtain ⟨a, b, l, c⟩ := h2 s hs
  exact ⟨by omega, b, l, c.lower hb⟩
theorem OwnR.toL (h : OwnR w base v i bk ck xss) : OwnedL w base v xss := by
  obtain ⟨h1, h2, _⟩ := h
  refine ⟨_, h1, fun j hj => ⟨some ⟨bk j, 0, none⟩, ck j, ?_, ?_⟩⟩
  · rw [List.getElem?_map, List.getElem?_range hj]
    show some (Value.slice _ i _) = some (Value.slice _ _ _)
    rw [(h2 j hj).2.2.1]
  · have := (h2 j hj).2.2.2
    rw [(h2 j hj).2.2.1]
    exact this
/-- A number is stored into the row s. -/
theorem OwnR.stored (h : OwnR w base v i bk ck xss) {s : Nat} (hs : s < xss.length) (a : Nat) (x : Int) : OwnR (w.setCell ⟨bk s, a, none⟩ (.int .i64 x)) base v i bk ck (xss.set s ((xss.getD s []).set a x)) := by
  obtain ⟨h1, h2, h3⟩ := h
  obtain ⟨_, _, _, c0⟩ := h2 s hs
  obtain ⟨cur, hcur⟩ := c0.blk
  have hl : (xss.set s ((xss.getD s []).set a x)).length = xss.length := List.length_set
  refine ⟨?_, fun t ht => ?_, fun t u ht hu => ?_⟩
  · rw [hl]
    refine ⟨h1.1, ?_⟩
    rcases h1.2 with e | ⟨g, cap, cur2, e, hbg, hg, r⟩
    · exact .inl e
    · exact .inr ⟨g, cap, cur2, e, hbg, KeptT.off hcur (by decide) _ g cur2 hg, r⟩
  · rw [hl] at ht
    obtain ⟨b1, b2, b3, b4⟩ := h2 t ht
    rw [List.getD_eq_getElem?_getD, List.getElem?_set]
    refine ⟨b1, by simpa using b2, ?_⟩
    by_cases e : s = t
    · subst e
      rw [if_pos rfl, if_pos hs]
      exact ⟨by simp only [Option.getD_some, List.length_set]; exact b3, b4.stored a x⟩
    · rw [if_neg e, ← List.getD_eq_getElem?_getD]
      refine ⟨b3, ⟨b4.1, ?_⟩⟩
      rcases b4.2 with e2 | ⟨g, cap, cur2, e2, hbg, hg, r⟩
      · exact .inl e2
      · refine .inr ⟨g, cap, cur2, e2, hbg, (heap_setCell_other w ⟨bk s, a, none⟩ g _ ?_).trans hg, r⟩
        intro e3
        have e3 : g = bk s := e3
        have e4 : bk t = g := by
          injection e2 with e2 _ _
          injection e2 with e2
          injection e2
        exact e (h3 s t hs ht (by rw [← e3, e4]))
  · rw [hl] at ht hu
    exact h3 t u ht hu
end
set_option maxHeartbeats 2000000 in
set_option maxRecDepth 100000 in
theorem drowsR (A : Option Addr) (i n c : Nat) (nx : List (List Int)) (w : World) (hx : Lists w A n nx) (hn : n ≤ 128) (hi : 0 < i) (hr : ∀ s, s < n → (nx.getD s []).length = i) :
    Calls Try.prog 43 #[.slice A n c] w fun e w' => ∃ A' c' bk ck, e = .returned (.slice A' n c') ∧ OwnR w' w.heap.size (.slice A' n c') i bk ck nx ∧ Below w.heap.size w w' := by
  have L := Lib.hid hx.1
  have HX := Lib.hid hx
  have HRL := Lib.hid hr
  clear hr
  go_enter Try.func43, Try.ntmps43
  go_wp2_with fail
  go_loopw [3, 8] (fun v3 v8 wr => ∃ (q : Nat) (A' : Option Addr) (c' : Nat) (bk ck : Nat → Nat), q ≤ n ∧ v8 = .int .i64 q ∧ v3 = .slice A' q c' ∧ OwnR wr w.heap.size (.slice A' q c') i bk ck (nx.take q) ∧ Below w.heap.size w wr) (fun _ v8 _ => n - (intOf v8).toNat)
  case atStart => exact ⟨0, none, 0, fun _ => 0, fun _ => 0, Nat.zero_le _, rfl, rfl, ⟨World.ownsRow_nil _ _ _ _, fun s hs => absurd hs (by simp), fun s t hs => absurd hs (by simp)⟩, Below.refl _ _⟩
  case round =>
    obtain ⟨q, A', c', bk, ck, hq, rfl, rfl, hown, hbr⟩ := hrel
    have HBR := Lib.hid hbr
    have HOW := Lib.hid hown
    by_cases hlt : q < n
    · obtain ⟨gA, oA, A1, nA, cA, eA, _, hdA, hrA⟩ := (HX.out.below hbr).at_ hlt
      subst eA
      have hl := hrA.1
      have HT := Lib.hid (show nx.take q ++ [nx.getD q []] = nx.take (q + 1) by rw [List.take_succ_eq_append_getElem (by rw [L.out]; exact hlt), List.getD_eq_getElem?_getD, List.getElem?_eq_getElem (by rw [L.out]; exact hlt)]; rfl)
      have HLT := Lib.hid (show (nx.take q).length = q by rw [List.length_take, L.out]; omega)
      have hrl := HRL.out q hlt
      obtain rfl : nA = i := by rw [← hl, hrl]
      generalize nx.getD q [] = r at hrA hl HT hrl
      clear hown hbr
      go_wp2_with fail
      refine (sclone _ _ _ _ _ hrA).mono ?_
      rintro e w1 ⟨A2, c2, rfl, ho, hb1⟩
      obtain ⟨gr, er, hgr, hgr2, _⟩ := ho.head hi
      subst er
      have ho2 := ho.lower (base' := w.heap.size) HBR.out.size
      obtain ⟨o1, o2, o3⟩ := HOW.out.kept hb1
      have hb2 := HBR.out.trans (hb1.mono HBR.out.size)
      rw [HLT.out] at o1 o2 o3
      obtain ⟨A3, c3, w2, hr, o4, hb3, hk3⟩ := run_append_sl o1 (some ⟨gr, 0, none⟩) nA c2 hb2.size (by omega)
      have hnew : OwnR w2 w.heap.size (.slice A3 (q + 1) c3) nA (upd bk q gr) (upd ck q c2) (nx.take (q + 1)) := by
        have hl1 : (nx.take (q + 1)).length = q + 1 := by rw [List.length_take, L.out]; omega
        have hg1 : ∀ s, s < q → (nx.take (q + 1)).getD s [] = (nx.take q).getD s [] := fun s hs => by
          rw [← HT.out, List.getD_eq_getElem?_getD, List.getD_eq_getElem?_getD, List.getElem?_append_left (by rw [HLT.out]; exact hs)]
        have hg2 : (nx.take (q + 1)).getD q [] = r := by
          rw [← HT.out, List.getD_eq_getElem?_getD, List.getElem?_append_right (by rw [HLT.out]; exact Nat.le_refl _), HLT.out]; simp
        have hbk : ∀ s, s < q → bk s < gr := fun s hs => by
          have := (HOW.out.2.1 s (by rw [HLT.out]; exact hs)).2.1
          omega
        refine ⟨?_, fun s hs => ?_, fun s t hs ht e => ?_⟩
        · rw [hl1]
          have : (List.range (q + 1)).map (fun s => Value.slice (some ⟨upd bk q gr s, 0, none⟩) nA (upd ck q c2 s)) = (List.range q).map (fun s => Value.slice (some ⟨bk s, 0, none⟩) nA (ck s)) ++ [.slice (some ⟨gr, 0, none⟩) nA c2] := by
            rw [List.range_succ, List.map_append]
            congr 1
            · apply List.map_congr_left
              intro s hs
              rw [List.mem_range] at hs
              rw [upd_ne _ _ (by omega), upd_ne _ _ (by omega)]
            · rw [List.map_singleton, upd_same, upd_same]
          rw [this]
          exact o4
        · rw [hl1] at hs
          by_cases e : s = q
          · rw [e, upd_same, upd_same, hg2]
            exact ⟨Nat.le_trans HBR.out.size hgr, Nat.lt_of_lt_of_le hgr2 hb3.size, hrl, ho2.keptT (hk3 _ (by decide))⟩
          · rw [upd_ne _ _ e, upd_ne _ _ e, hg1 s (by omega)]
            obtain ⟨b1, b2, b3, b4⟩ := o2 s (by omega)
            exact ⟨b1, Nat.lt_of_lt_of_le b2 hb3.size, b3, b4.keptT (hk3 _ (by decide))⟩
        · rw [hl1] at hs ht
          by_cases e1 : s = q <;> by_cases e2 : t = q
          · omega
          · rw [e1, upd_same, upd_ne _ _ e2] at e
            have := hbk t (by omega)
            omega
          · rw [e2, upd_same, upd_ne _ _ e1] at e
            have := hbk s (by omega)
            omega
          · rw [upd_ne _ _ e1, upd_ne _ _ e2] at e
            exact o3 s t (by omega) (by omega) e
      have HN2 := Lib.hid hnew
      have HB2 := Lib.hid (hb2.trans hb3)
      clear ho ho2 hb1 o1 o2 o3 o4 hb2 hnew hb3 hk3 hdA hrA
      go_wp2_with (at_builtin; refine Lib.wpList_append_run _ rfl _ _ _ _ rfl _ _ rfl rfl _ _ hr ?_)
      go_roundw
      case rel => exact ⟨q + 1, A3, c3, _, _, by omega, by go_num, rfl, HN2.out, HB2.out⟩
      case measure => simp [intOf]; omega
    · obtain rfl : q = n := by omega
      have hall := Lib.hid (List.take_of_length_le (l := nx) (i := q) (by rw [L.out]; exact Nat.le_refl _))
      clear hown
      go_wp2_with fail
      go_ret
      have := HOW.out
      rw [hall.out] at this
      exact ⟨A', c', bk, ck, rfl, this, HBR.out⟩
end Go.Proofs.Ythjnghldedfdoaa
end

section
/- Complement of the program. -/
namespace Go.Proofs.Ythjnghldedfdoaa
open Go.RowKit

/-- The box of an automaton and a zero automaton behind it. -/
theorem cpl_boxes (w : World) (i st : Int) (A B : Option Addr) (n c m d : Nat) : ∃ w1, w1 = (w.alloc (.cells #[.int .i64 i, .int .i64 st, .slice A n c, .slice B m d] 25)).alloc (.cells #[.int .i64 0, .int .i64 0, .slice none 0 0, .slice none 0 0] 25) ∧
    Below w.heap.size w w1 ∧ Dblk w1 w.heap.size (.int .i64 i) (.int .i64 st) (.slice A n c) (.slice B m d) ∧ Dblk w1 (w.heap.size + 1) (.int .i64 0) (.int .i64 0) (.slice none 0 0) (.slice none 0 0) ∧ w1.heap.size = w.heap.size + 2 := by
  refine ⟨_, rfl, (alloc_below _ _).alloc (by simp) _, (dfa_box w (.int .i64 i) (.int .i64 st) (.slice A n c) (.slice B m d)).kept (alloc_below _ _) (by simp), ?_, by simp⟩
  have := dfa_box (w.alloc (.cells #[.int .i64 i, .int .i64 st, .slice A n c, .slice B m d] 25)) (.int .i64 0) (.int .i64 0) (.slice none 0 0) (.slice none 0 0)
  simpa using this
set_option maxHeartbeats 4000000 in
set_option maxRecDepth 100000 in
theorem dcompl_bad (i st : Int) (A B : Option Addr) (n c m d : Nat) (nx : List (List Int)) (ac : List Bool) (w : World) (hx : Lists w A n nx) (ha : Bools w B m ac) (hv : ¬ vldD i st nx ac = 0) :
    Calls Try.prog 14 #[.agg #[.int .i64 i, .int .i64 st, .slice A n c, .slice B m d]] w fun e w' => e = .returned (.tuple #[.agg #[.int .i64 0, .int .i64 0, .slice none 0 0, .slice none 0 0], .int .i64 (vldD i st nx ac)]) ∧ Below w.heap.size w w' := by
  obtain ⟨w0, hw0, hb0, hB, hR, hz0⟩ := cpl_boxes w i st A B n c m d
  obtain ⟨k0, k1, k2, k3, _⟩ := hB.cells
  obtain ⟨x, hx0, hxe⟩ : ∃ x, ¬ x = 0 ∧ vldD i st nx ac = x := ⟨_, hv, rfl⟩
  have HXE := Lib.hid hxe
  have t1 : (x != 0) = true := by simpa using hx0
  have HW0 := Lib.hid hw0
  have HX := Lib.hid (hx.below hb0)
  have HA := Lib.hid (ha.below hb0)
  have HB0 := Lib.hid hb0
  have HR := Lib.hid hR
  have HZ := Lib.hid hz0
  clear hv hxe hw0 hB hb0 hR hz0
  rw [HW0.out] at k0 k1 k2 k3
  go_enter Try.func14, Try.ntmps14
  go_wp2_with fail
  rw [← HW0.out]
  refine (pvalD _ _ _ _ _ _ _ _ _ _ _ HX.out HA.out.1 HA.out.2.1).mono ?_
  rintro e w1 ⟨rfl, b1⟩
  rw [HXE.out]
  have hzz := HZ.out
  have HRr := Lib.hid (HR.out.kept b1 (show w.heap.size + 1 < w0.heap.size by omega))
  obtain ⟨q0, q1, q2, q3, z0, z1, z2, z3⟩ := HRr.out.cells
  clear hzz k0 k1 k2 k3
  go_wp2_with fail
  refine bodyPost_ret (results_dfa rfl _ _ (w.heap.size + 1) (.int .i64 0) (.int .i64 0) (.slice none 0 0) (.slice none 0 0) rfl (HRr.out.set4 _ _ _ _)) rfl ?_
  exact ⟨by rw [HXE.out]; rfl, below_set4 (by omega) (bt HB0.out b1) _ _ _ _⟩
set_option maxHeartbeats 8000000 in
set_option maxRecDepth 100000 in
theorem dcompl (i st n : Nat) (A B : Option Addr) (c d : Nat) (nx : List (List Int)) (ac : List Bool) (w : World) (hx : Lists w A n nx) (ha : Bools w B n ac) (hM : Dok i st n nx ac) :
    Calls Try.prog 14 #[.agg #[.int .i64 i, .int .i64 st, .slice A n c, .slice B n d]] w fun e w' => ∃ A' c' B' d',
      e = .returned (.tuple #[.agg #[.int .i64 i, .int .i64 st, .slice A' n c', .slice B' n d'], .int .i64 0]) ∧ OwnedL w' w.heap.size (.slice A' n c') nx ∧ Rws w' w.heap.size 4 1 (.slice B' n d') ((ac.map fun b => !b).map cellsB) ∧ Below w.heap.size w w' := by
  obtain rfl := hx.1
  obtain ⟨w0, hw0, hb0, hB, hR, hz0⟩ := cpl_boxes w i st A B nx.length c nx.length d
  obtain ⟨k0, k1, k2, k3, _⟩ := hB.cells
  have hn := hM.n2
  have HV := Lib.hid hM.vld
  have HW0 := Lib.hid hw0
  have HX := Lib.hid (hx.below hb0)
  have HA := Lib.hid (ha.below hb0)
  have HB0 := Lib.hid hb0
  have HB := Lib.hid hB
  have HR := Lib.hid hR
  have HZ := Lib.hid hz0
  have HM := Lib.hid hM
  clear hw0 hB hb0 hR hM
  rw [HW0.out] at k0 k1 k2 k3
  go_enter Try.func14, Try.ntmps14
  go_wp2_with fail
  rw [← HW0.out]
  refine (pvalD _ _ _ _ _ _ _ _ _ _ _ HX.out HA.out.1 HA.out.2.1).mono ?_
  rintro e w1 ⟨rfl, b1⟩
  rw [HV.out]
  clear k0 k1 k2 k3
  obtain ⟨k0, k1, k2, k3, _⟩ := (HB.out.on9 b1).cells
  have HB1 := Lib.hid b1
  have HCL := Lib.hid (fun (W : World) (h : Below w1.heap.size w1 W) => And.intro (HX.out.below (bt b1 h)) ((HB.out.on9 b1).on9 h).cells)
  have hz1 := b1.size
  clear b1
  go_upto_region 4 with fail
  go_cut [5] from 14 to 21 (fun v5 wx => ∃ (g : Nat) (A2 : Option Addr) (c2 : Nat), v5 = .pointer (some ⟨g, 0, none⟩) ∧ w1.heap.size ≤ g ∧ Dres wx w1.heap.size g i st nx [] A2 none c2 0 ∧ Below w1.heap.size w1 wx)
  case first =>
    go_region_held3 (fun w' => w'.cell? ⟨w.heap.size, 0, none⟩ = some (.int .i64 i) ∧ w'.cell? ⟨w.heap.size, 1, none⟩ = some (.int .i64 st) ∧ w'.cell? ⟨w.heap.size, 2, none⟩ = some (.slice A nx.length c))
      (first
        | (refine ⟨(HCL.out _ ?_).2.1, (HCL.out _ ?_).2.2.1, (HCL.out _ ?_).2.2.2.1⟩ <;> (first | exact below_drewN (Below.refl _ _) 1 | exact below_drewN (alloc_below _ _) 1 | exact bt (below_drewN (Below.refl _ _) 1) b2 | exact bt (below_drewN (alloc_below _ _) 1) b2 | exact below_set4 (Nat.le_refl _) (bt (below_drewN (alloc_below _ _) 1) b2) _ _ _ _ | exact (bt (below_drewN (Below.refl _ _) 1) b2).alloc (by have := b2.size; simp at this; omega) _))
        | go_keep)
      ((go_at_call 43; refine (drows _ _ _ nx _ (HCL.out _ (by first | exact below_drewN (Below.refl _ _) 1 | exact below_drewN (alloc_below _ _) 1)).1 hn).mono ?_; rintro e w2 ⟨A2, c2, rfl, o2, b2⟩; (try obtain ⟨q0, q1, q2, q3, g0, g1, g2, g3⟩ := (Dblk.kept (g := w1.heap.size) (show Dblk ((w1.alloc (.cells #[.int .i64 0, .int .i64 0, .slice none 0 0, .slice none 0 0] 25)).drew) w1.heap.size (.int .i64 0) (.int .i64 0) (.slice none 0 0) (.slice none 0 0) from heap_alloc_new w1 _) b2 (by simp)).cells)))
    · go_wp2_with fail
      go_meet
      refine ⟨w2.heap.size, A2, c2, rfl, ?_, ⟨heap_alloc_new _ _, ?_, Rws.nil _ _ _ _⟩, ?_⟩
      · exact (bt (below_drewN (Below.refl _ w1) 1) b2).size
      · exact (o2.kept (alloc_below _ _)).lower (Nat.le_refl _)
      · exact bt (bt (below_drewN (Below.refl _ w1) 1) b2) (alloc_below _ _)
    · have hq : Dblk w2 w1.heap.size (.int .i64 0) (.int .i64 0) (.slice none 0 0) (.slice none 0 0) := Dblk.kept (g := w1.heap.size) (show Dblk ((w1.alloc (.cells #[.int .i64 0, .int .i64 0, .slice none 0 0, .slice none 0 0] 25)).drew) w1.heap.size (.int .i64 0) (.int .i64 0) (.slice none 0 0) (.slice none 0 0) from heap_alloc_new w1 _) b2 (by simp)
      have o2 := (o2.keptT (hq.off4 (.int .i64 i) (.int .i64 st) (.slice A2 nx.length c2) (.slice none 0 0) (by decide)) (hq.off4 _ _ _ _ (by decide))).lower (base' := w1.heap.size) (by simp)
      have hq4 := hq.set4 (.int .i64 i) (.int .i64 st) (.slice A2 nx.length c2) (.slice none 0 0)
      have hb4 := below_set4 (Nat.le_refl _) (bt (below_drewN (alloc_below w1 _) 1) b2) (.int .i64 i) (.int .i64 st) (.slice A2 nx.length c2) (.slice none 0 0)
      go_wp2_with fail
      go_meet
      exact ⟨w1.heap.size, A2, c2, rfl, Nat.le_refl _, ⟨hq4, o2, Rws.nil _ _ _ _⟩, hb4⟩
  case rest =>
    obtain ⟨g, A2, c2, rfl, hg, hD, hb⟩ := hcut
    clear k0 k1 k2 k3
    obtain ⟨k0, k1, k2, k3, _⟩ := (HCL.out _ hb).2
    have HD := Lib.hid hD
    have HB2 := Lib.hid hb
    have HAL := Lib.hid ha.1
    have HAB := Lib.hid (fun (W : World) (h : Below w1.heap.size w1 W) => HA.out.below (bt HB1.out h))
    clear hD hb
    go_wp2_with fail
    clear k0 k1 k2 k3
    go_loopw [25] (fun v25 wr => ∃ (j : Nat) (bs : List Bool) (AA : Option Addr) (cA : Nat), v25 = .int .i64 j ∧ j ≤ nx.length ∧ bs = (ac.map fun b => !b).take j ∧ Dres wr w1.heap.size g i st nx bs A2 AA c2 cA ∧ Below w1.heap.size w1 wr) (fun v25 _ => nx.length - (intOf v25).toNat)
    case atStart => exact ⟨0, [], none, 0, rfl, Nat.zero_le _, rfl, HD.out, HB2.out⟩
    case round =>
      obtain ⟨j, bs, AA, cA, rfl, hj, hbs, hDr, hbr⟩ := hrel
      have HBS := Lib.hid hbs
      by_cases hlt : j < nx.length
      · obtain ⟨gB, oB, rfl, lB, xB⟩ := (HAB.out wr hbr).at_ hlt
        have HNX := Lib.hid (show bs ++ [!(ac.getD j false)] = (ac.map fun b => !b).take (j + 1) by
          have h1 : j < (ac.map fun b => !b).length := by rw [List.length_map, HAL.out]; exact hlt
          rw [hbs, List.take_succ_eq_append_getElem h1, List.getElem_map, List.getD_eq_getElem?_getD, List.getElem?_eq_getElem (by rw [HAL.out]; exact hlt)]
          rfl)
        have hbl : bs.length < 1099511627776 := by rw [hbs, List.length_take]; omega
        have hzr := hbr.size
        generalize ac.getD j false = x at xB HNX
        obtain ⟨A3, c3, w3, hr, hK, hD3, hB3, _, _⟩ := hDr.push_bool (!x) hzr hg hbl
        obtain ⟨y0, y1, y2, y3, f0, f1, f2, f3⟩ := hDr.1.cells
        obtain ⟨y0', y1', y2', y3', f0', f1', f2', f3'⟩ := hK.cells
        have HD3 := Lib.hid hD3
        have HB3 := Lib.hid (hbr.trans hB3)
        clear hDr hbr hbs hK hD3 hB3
        go_wp2_with (at_builtin; refine Lib.wpList_append_run _ rfl _ _ _ _ rfl _ _ rfl rfl _ _ hr ?_)
        go_roundw
        case rel => exact ⟨j + 1, bs ++ [!x], A3, c3, by go_num, by omega, HNX.out, HD3.out, HB3.out⟩
        case measure => simp [intOf]; omega
      · obtain rfl : j = nx.length := by omega
        have hbe : bs = ac.map fun b => !b := by rw [hbs]; exact List.take_of_length_le (by rw [List.length_map, HAL.out]; exact Nat.le_refl _)
        have hbl : bs.length = nx.length := by rw [hbe, List.length_map, HAL.out]
        have h9 := hDr
        rw [Dres, hbl] at h9
        obtain ⟨y0, y1, y2, y3, _⟩ := h9.1.cells
        have hzz := HZ.out
        have hz1' := hz1
        have HRr := Lib.hid (HR.out.kept (bt HB1.out hbr) (show w.heap.size + 1 < w0.heap.size by omega))
        obtain ⟨q0, q1, q2, q3, z0, z1, z2, z3⟩ := HRr.out.cells
        have H9 := Lib.hid h9
        have HBR := Lib.hid (bt HB0.out (bt HB1.out hbr))
        have HZ1 := Lib.hid (bt HB0.out HB1.out).size
        have HBE := Lib.hid hbe
        clear h9 hbe hbl hbs hDr hbr hzz hz1'
        go_wp2_with fail
        refine bodyPost_ret (results_dfa rfl _ _ (w.heap.size + 1) _ _ _ _ rfl (HRr.out.set4 _ _ _ _)) rfl ?_
        refine ⟨A2, c2, AA, cA, rfl, ?_, ?_, below_set4 (by omega) HBR.out _ _ _ _⟩
        · exact (H9.out.2.1.keptT (HRr.out.off4 _ _ _ _ (by decide)) (HRr.out.off4 _ _ _ _ (by decide))).lower HZ1.out
        · have := H9.out.2.2
          rw [HBE.out] at this
          exact (this.keptT (HRr.out.off4 _ _ _ _ (by decide))).lower HZ1.out
end Go.Proofs.Ythjnghldedfdoaa
end
