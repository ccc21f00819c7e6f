/- Lemmas of the proofs of this seat, of the parts Rpq14. Conditions: none. -/
import Derived.Test.YtogcecfeofbbnaaNbh
section
/- The reference's machine of the pairs: the walk. -/
namespace Go.Proofs.Ytogcecfeofbbnaa
open Go.RowKit

/-- The two boxes of the machines, as step loads them. -/
def BxS (W : World) (w : World) (s t ia ib : Nat) (A B A' B' : Option Addr) (n c d m c' d' : Nat) : Prop :=
  W.cell? ⟨w.heap.size, 0, none⟩ = some (.int .i64 ia) ∧ W.cell? ⟨w.heap.size, 1, none⟩ = some (.int .i64 s) ∧ W.cell? ⟨w.heap.size, 2, none⟩ = some (.slice A n c) ∧ W.cell? ⟨w.heap.size, 3, none⟩ = some (.slice B n d) ∧
  W.cell? ⟨w.heap.size + 1, 0, none⟩ = some (.int .i64 ib) ∧ W.cell? ⟨w.heap.size + 1, 1, none⟩ = some (.int .i64 t) ∧ W.cell? ⟨w.heap.size + 1, 2, none⟩ = some (.slice A' m c') ∧ W.cell? ⟨w.heap.size + 1, 3, none⟩ = some (.slice B' m d')
/-- The box of a step. -/
def ZBx (wr : World) (p q z : Nat) (v : Value) (W : World) : Prop := ∃ g, v = .pointer (some ⟨g, 0, none⟩) ∧ wr.heap.size ≤ g ∧ W.heap[g]? = some (.cells #[.int .i64 (p : Nat), .int .i64 (q : Nat), .int .i64 (z : Nat)] 131 (0, 0)) ∧ Below wr.heap.size wr W
theorem ZBx.new {wr W : World} (p q z : Nat) (hb : Below wr.heap.size wr W) : ZBx wr p q z (.pointer (some ⟨W.heap.size, 0, none⟩)) (W.alloc (.cells #[.int .i64 (p : Nat), .int .i64 (q : Nat), .int .i64 (z : Nat)] 131)) :=
  ⟨_, rfl, hb.size, heap_alloc_new W _, bt hb (alloc_below _ _)⟩
theorem ZBx.old {wr W : World} {x y u : Value} (p q z : Nat) (hb : Below wr.heap.size wr W) (h : W.heap[wr.heap.size]? = some (.cells #[x, y, u] 131 (0, 0))) :
    ZBx wr p q z (.pointer (some ⟨wr.heap.size, 0, none⟩)) (((W.setCell ⟨wr.heap.size, 0, none⟩ (.int .i64 (p : Nat))).setCell ⟨wr.heap.size, 1, none⟩ (.int .i64 (q : Nat))).setCell ⟨wr.heap.size, 2, none⟩ (.int .i64 (z : Nat))) :=
  ⟨_, rfl, Nat.le_refl _, set3_blk h _ _ _, below_sv3 (Nat.le_refl _) hb⟩
set_option linter.unusedSimpArgs false in
set_option linter.unusedVariables false in
set_option maxHeartbeats 8000000 in
set_option maxRecDepth 100000 in
theorem rpairs14 (kind i n m s t ia ib : Nat) (F : Nat × Nat → Nat → Nat × Nat) (O : Nat × Nat → Nat → Nat) (A B A' B' : Option Addr) (c d c' d' : Nat) (w : World) (hF : Stp F i n m) (hs : s < n) (ht : t < m) (hn : n ≤ 1024) (hm : m ≤ 1024) (hi1 : 1 ≤ i) (hi : i ≤ 64)
    (hO : ∀ p q x, p < n → q < m → x < i → O (p, q) x ≤ 4611686018427387904)
    (hst : ∀ p q x, p < n → q < m → x < i → ∀ W, Below w.heap.size w W → Calls Try.prog 105 #[.agg #[.int .i64 ia, .int .i64 s, .slice A n c, .slice B n d], .agg #[.int .i64 ib, .int .i64 t, .slice A' m c', .slice B' m d'], .int .i64 kind, .int .i64 p, .int .i64 q, .int .i64 x] W fun e w' => e = .returned (stpV (F (p, q) x) (O (p, q) x)) ∧ Below W.heap.size W w') :
    Calls Try.prog 72 #[.agg #[.int .i64 ia, .int .i64 s, .slice A n c, .slice B n d], .agg #[.int .i64 ib, .int .i64 t, .slice A' m c', .slice B' m d'], .int .i64 kind, .int .i64 i] w fun e w' =>
      MacP w.heap.size i (autN F i (fdG F i n m s t)) (outN O i (fdG F i n m s t)) (fdG F i n m s t).length (Fits O i (fdG F i n m s t)) e w' ∧ Below w.heap.size w w' := by
  obtain ⟨R, hR⟩ : ∃ R, R = fdG F i n m s t := ⟨_, rfl⟩
  rw [← hR]
  have HR := Lib.hid (show exG F i (n * m) [⟨s, t, 0, 0, []⟩] 0 = R from hR.symm)
  have hnm : n * m ≤ 1048576 := Nat.mul_le_mul hn hm
  obtain ⟨w0, hw0, hb0, hG, hG', hRr, hz0⟩ := three_boxesM w ia s ib t A B A' B' n c n d m c' m d'
  obtain ⟨w1, hw1⟩ : ∃ w1, w1 = w0.alloc (.cells #[.int .i64 (s : Nat), .int .i64 (t : Nat), .int .i64 0] 131) := ⟨_, rfl⟩
  obtain ⟨w2, hw2⟩ : ∃ w2, w2 = w1.alloc (.cells #[.int .i64 i, .int .i64 0, .slice none 0 0, .slice none 0 0] 24) := ⟨_, rfl⟩
  have hb1 : Below w0.heap.size w0 w1 := by rw [hw1]; exact alloc_below _ _
  have hz1 : w1.heap.size = w0.heap.size + 1 := by rw [hw1]; simp
  have hb2 : Below w0.heap.size w0 w2 := by rw [hw2]; exact hb1.alloc (by omega) _
  have hL0 : Lst w2 w0.heap.size (.slice (some ⟨w0.heap.size, 0, none⟩) 1 1) [⟨s, t, 0, 0, []⟩] := by
    have h1 := Lst.one w0 w0.heap.size s t (Nat.le_refl _)
    rw [← hw1] at h1
    rw [hw2]
    exact h1.kept (alloc_below _ _)
  have hM0 : Mrs w2 w0.heap.size (w0.heap.size + 1) i (0 : Nat) [] [] none none 0 0 := by
    rw [hw2, ← hz1]
    exact Mrs.new w1 _ _ _
  have HW2 := Lib.hid (hw2.trans (by rw [hw1, hw0]))
  have HB0 := Lib.hid hb0
  have HB2 := Lib.hid hb2
  have HL0 := Lib.hid hL0
  have HM0 := Lib.hid hM0
  have HZ0 := Lib.hid hz0
  have HRr := Lib.hid (fun (W : World) (h : Below w0.heap.size w0 W) => hRr.on h)
  have HBX := Lib.hid (show ∀ W : World, Below w0.heap.size w0 W → BxS W w s t ia ib A B A' B' n c d m c' d' from fun W h => by
    obtain ⟨b0, b1, b2, b3, _⟩ := (hG.on h).cells
    obtain ⟨e0, e1, e2, e3, _⟩ := (hG'.on h).cells
    exact ⟨b0, b1, b2, b3, e0, e1, e2, e3⟩)
  have HST := Lib.hid (show ∀ p q x, p < n → q < m → x < i → ∀ W, Below w0.heap.size w0 W → Calls Try.prog 105 #[.agg #[.int .i64 ia, .int .i64 s, .slice A n c, .slice B n d], .agg #[.int .i64 ib, .int .i64 t, .slice A' m c', .slice B' m d'], .int .i64 kind, .int .i64 p, .int .i64 q, .int .i64 x] W fun e w' => e = .returned (stpV (F (p, q) x) (O (p, q) x)) ∧ Below W.heap.size W w' from fun p q x hp hq hx W h => hst p q x hp hq hx W (bt hb0 h))
  have HF := Lib.hid hF
  have HO := Lib.hid hO
  obtain ⟨k0, k1, k2, k3, _⟩ := (hG).cells
  obtain ⟨j0, j1, j2, j3, _⟩ := (hG').cells
  rw [hw0] at k0 k1 k2 k3 j0 j1 j2 j3
  clear hR hw0 hw1 hw2 hb0 hb1 hb2 hL0 hM0 hG hG' hRr hz0 hz1 hst hF hO
  go_enter Try.func72, Try.ntmps72
  go_wp2_with fail
  rw [← HW2.out]
  clear k0 k1 k2 k3 j0 j1 j2 j3
  have hz0 := HZ0.out
  have hLs : Lst w2 w0.heap.size (.slice (some ⟨w.heap.size + 1 + 1 + 1, 0, none⟩) 1 1) [⟨s, t, 0, 0, []⟩] := by
    have := HL0.out
    rw [hz0] at this ⊢
    exact this
  have hMs : Mrs w2 w0.heap.size (w.heap.size + 1 + 1 + 1 + 1) i (0 : Nat) [] [] none none 0 0 := by
    have := HM0.out
    rw [hz0] at this ⊢
    exact this
  obtain ⟨gM, hgM⟩ : ∃ gM, gM = w.heap.size + 1 + 1 + 1 + 1 := ⟨_, rfl⟩
  rw [← hgM] at hMs ⊢
  have HGM := Lib.hid (show w0.heap.size ≤ gM by omega)
  have HGQ := Lib.hid hgM
  clear hgM
  go_loopw [10, 12] (fun v10 v12 wr => ∃ (j : Nat) (E : List Ent) (A1 : Option Addr) (c1 : Nat) (N T : List (List Int)) (AN AT : Option Addr) (cN cT : Nat), v10 = .slice A1 E.length c1 ∧ v12 = .int .i64 j ∧ j ≤ E.length ∧ E.length ≤ 128 ∧ Ens n m s t E ∧ exG F i (n * m) E j = R ∧ N = (autN F i R).take j ∧ T = (outN O i R).take j ∧ OkTo O i R j ∧
      Lst wr w0.heap.size (.slice A1 E.length c1) E ∧ Mrs wr w0.heap.size gM i (0 : Nat) N T AN AT cN cT ∧ Below w0.heap.size w0 wr) (fun _ v12 _ => n * m - (intOf v12).toNat)
  case atStart => exact ⟨0, [⟨s, t, 0, 0, []⟩], _, 1, [], [], none, none, 0, 0, rfl, rfl, Nat.zero_le _, by simp, Ens.one hs ht, HR.out, rfl, rfl, OkTo.zero _ _ _, hLs, hMs, HB2.out⟩
  case round =>
    obtain ⟨j, E, A1, c1, N, T, AN, AT, cN, cT, rfl, rfl, hjE, hE128, hE, hex, hN, hT, hok, hL, hMr, hbr⟩ := hrel
    have hlen := hE.len
    have HE := Lib.hid hE
    have HEX := Lib.hid hex
    have HN := Lib.hid hN
    have HT := Lib.hid hT
    have HOK := Lib.hid hok
    have HL := Lib.hid hL
    have HMR := Lib.hid hMr
    have HBR := Lib.hid hbr
    have HRE := Lib.hid (exG_pre F i (n * m) E j)
    rw [hex] at HRE
    by_cases hlt : j < E.length
    · obtain ⟨e, hee⟩ : ∃ e, e = E.getD j Ent.zero := ⟨_, rfl⟩
      have HEE := Lib.hid hee
      obtain ⟨hp, hq⟩ := hE.lt _ (getDE_mem hlt)
      rw [← hee] at hp hq
      have HI := Lib.hid (show ∀ x, x ≤ i → Ens n m s t (adG F j e E x) by rw [hee]; exact adG_ens HF.out hE hlt)
      have HFN := Lib.hid (show ∀ x, x ≤ i → ∃ T', R = adG F j e E x ++ T' from fun x hx => by rw [hee]; exact adG_finC HF.out hE hlt hex hx)
      have HON := Lib.hid (show exG F i (n * m) (adG F j e E i) (j + 1) = R by rw [hee, exG_on HF.out hE hlt]; exact hex)
      have HJ := Lib.hid hlt
      have d1 : decide ((j : Int) < (E.length : Int)) = true := decide_eq_true (by omega)
      clear hee hE hex hN hT hok hL hMr hbr
      go_wp2_with fail
      obtain ⟨wo, hwo⟩ : ∃ wo : World, wo = wr := ⟨_, rfl⟩
      rw [← hwo] at HL HMR HBR ⊢
      clear hwo
      go_loopw [10, 13, 14, 15] (fun v10 v13 v14 v15 wr => ∃ (x : Nat) (A2 A3 A4 : Option Addr) (c2 c3 c4 : Nat), v15 = .int .i64 x ∧ x ≤ i ∧ v10 = .slice A2 (adG F j e E x).length c2 ∧ v13 = .slice A3 x c3 ∧ v14 = .slice A4 x c4 ∧ (adG F j e E x).length ≤ 128 ∧ OkRow O e x ∧
          Lst wr w0.heap.size (.slice A2 (adG F j e E x).length c2) (adG F j e E x) ∧ Two wr wo.heap.size (.slice A3 x c3) (.slice A4 x c4) (rowO (fun a => ((plE R (F e.pr a) : Nat) : Int)) x) (rowO (fun a => ((O e.pr a : Nat) : Int)) x) ∧
          (∀ ty, ty ≠ 131 → KeptT ty wo wr) ∧ Below w0.heap.size w0 wr ∧ wo.heap.size ≤ wr.heap.size) (fun _ _ _ v15 _ => i - (intOf v15).toNat)
      case atStart => exact ⟨0, A1, none, none, c1, 0, 0, rfl, Nat.zero_le _, rfl, rfl, rfl, hE128, OkRow.zero _ _, HL.out, Two.nil _ _, fun _ _ => fun _ _ h => h, HBR.out, Nat.le_refl _⟩
      case round =>
        obtain ⟨x, A2, A3, A4, c2, c3, c4, rfl, hxi, rfl, rfl, rfl, hx128, hokr, hL2, h2, hkt, hbr, hzr⟩ := hrel
        have hE2 := HI.out x hxi
        obtain ⟨T', hT'⟩ := adG_pre F j e E x
        have hj2 : j < (adG F j e E x).length := by rw [hT', List.length_append]; have := HJ.out; omega
        have he2 : (adG F j e E x).getD j Ent.zero = e := by rw [hT', getDE_pre HJ.out]; exact HEE.out.symm
        have HE2 := Lib.hid hE2
        have He2 := Lib.hid he2
        have HJ2 := Lib.hid hj2
        have HL2 := Lib.hid hL2
        have H2 := Lib.hid h2
        have HKT := Lib.hid hkt
        have HBR2 := Lib.hid hbr
        have HOKR := Lib.hid hokr
        have HZR := Lib.hid hzr
        clear hT' hE2 hokr h2 hkt
        by_cases hxl : x < i
        · have d2 : decide ((x : Int) < (i : Int)) = true := decide_eq_true (by omega)
          obtain ⟨g6, rfl, _, hg6, hc6⟩ := hL2.at_ (by omega)
          obtain ⟨y0, y1⟩ := hc6 j hj2
          rw [he2] at y0 y1
          obtain ⟨⟨p', q'⟩, hy⟩ : ∃ y, y = F e.pr x := ⟨_, rfl⟩
          obtain ⟨z, hz⟩ : ∃ z, z = O e.pr x := ⟨_, rfl⟩
          have hzl : z ≤ 4611686018427387904 := by rw [hz]; exact HO.out e.p e.q x hp hq hxl
          have HSS := Lib.hid (show ∀ W : World, Below w0.heap.size w0 W → Below wr.heap.size wr W → W.cell? ⟨w.heap.size, 0, none⟩ = some (.int .i64 ia) ∧ W.cell? ⟨w.heap.size, 1, none⟩ = some (.int .i64 s) ∧ W.cell? ⟨w.heap.size, 2, none⟩ = some (.slice A n c) ∧ W.cell? ⟨w.heap.size, 3, none⟩ = some (.slice B n d) ∧
              W.cell? ⟨w.heap.size + 1, 0, none⟩ = some (.int .i64 ib) ∧ W.cell? ⟨w.heap.size + 1, 1, none⟩ = some (.int .i64 t) ∧ W.cell? ⟨w.heap.size + 1, 2, none⟩ = some (.slice A' m c') ∧ W.cell? ⟨w.heap.size + 1, 3, none⟩ = some (.slice B' m d') ∧
              W.cell? ⟨g6, j * 3, none⟩ = some (.int .i64 (e.p : Nat)) ∧ W.cell? ⟨g6, j * 3 + 1, none⟩ = some (.int .i64 (e.q : Nat)) from fun W h h' => by
            obtain ⟨a0, a1, a2, a3, a4, a5, a6, a7⟩ := HBX.out W h
            exact ⟨a0, a1, a2, a3, a4, a5, a6, a7, (h'.cell (p := ⟨g6, j * 3, none⟩) hg6).trans y0, (h'.cell (p := ⟨g6, j * 3 + 1, none⟩) hg6).trans y1⟩)
          have HSTx := Lib.hid (show ∀ W, Below w0.heap.size w0 W → Calls Try.prog 105 #[.agg #[.int .i64 ia, .int .i64 s, .slice A n c, .slice B n d], .agg #[.int .i64 ib, .int .i64 t, .slice A' m c', .slice B' m d'], .int .i64 kind, .int .i64 (e.p : Nat), .int .i64 (e.q : Nat), .int .i64 (x : Nat)] W fun e1 w' => e1 = .returned (.agg #[.int .i64 (p' : Nat), .int .i64 (q' : Nat), .int .i64 (z : Nat)]) ∧ Below W.heap.size W w' from fun W h => by
            have h1 := HST.out e.p e.q x hp hq hxl W h
            rw [show F (e.p, e.q) x = (p', q') from hy.symm, show O (e.p, e.q) x = z from hz.symm] at h1
            exact h1)
          have HY := Lib.hid hy
          have HZ := Lib.hid hz
          have u1 : (0 : Int) ≤ (j : Int) := by omega
          have u2 : (j : Int) < ((adG F j e E x).length : Int) := by omega
          have hbc : Below w0.heap.size w0 wr.drew := below_drewN hbr 1
          have hbd : Below wr.heap.size wr wr.drew := below_drewN (Below.refl _ _) 1
          clear hc6 hy hz hL2 hbr he2 y0 y1
          go_wp2_with fail
          go_upto_region 10 with fail
          go_cut [16] from 32 to 101 (fun v16 wx => ZBx wr p' q' z v16 wx)
          case first =>
            go_region_held3 (fun W => W.cell? ⟨w.heap.size, 0, none⟩ = some (.int .i64 ia) ∧ W.cell? ⟨w.heap.size, 1, none⟩ = some (.int .i64 s) ∧ W.cell? ⟨w.heap.size, 2, none⟩ = some (.slice A n c) ∧ W.cell? ⟨w.heap.size, 3, none⟩ = some (.slice B n d) ∧
                W.cell? ⟨w.heap.size + 1, 0, none⟩ = some (.int .i64 ib) ∧ W.cell? ⟨w.heap.size + 1, 1, none⟩ = some (.int .i64 t) ∧ W.cell? ⟨w.heap.size + 1, 2, none⟩ = some (.slice A' m c') ∧ W.cell? ⟨w.heap.size + 1, 3, none⟩ = some (.slice B' m d') ∧
                W.cell? ⟨g6, j * 3, none⟩ = some (.int .i64 (e.p : Nat)) ∧ W.cell? ⟨g6, j * 3 + 1, none⟩ = some (.int .i64 (e.q : Nat)))
              (first | exact HSS.out _ hbc hbd | exact HSS.out _ (bt hbc (alloc_below _ _)) (bt hbd (alloc_below _ _)) | exact HSS.out _ (below_sv3 HBR2.out.size hbc) (below_sv3 (Nat.le_refl _) hbd))
              (first
                | (go_at_call 105; refine (HSTx.out _ hbc).mono ?_; rintro e w9 ⟨rfl, b9⟩; have hbc := bt hbc b9; have hbd := bt hbd b9)
                | (go_at_call 105; refine (HSTx.out _ (bt hbc (alloc_below _ _))).mono ?_; rintro e w9 ⟨rfl, b9⟩; have hq9 := (b9.block wr.heap.size (heap_lt (heap_alloc_new wr.drew _))).trans (heap_alloc_new wr.drew _); have hbc := bt (bt hbc (alloc_below _ _)) b9; have hbd := bt (bt hbd (alloc_below _ _)) b9;
                   have y0 := cell_of_row _ wr.heap.size 0 _ _ (0, 0) hq9; have y1 := cell_of_row _ wr.heap.size 1 _ _ (0, 0) hq9; have y2 := cell_of_row _ wr.heap.size 2 _ _ (0, 0) hq9; have z0 := frozen_of_row _ wr.heap.size 0 _ _ hq9; have z1 := frozen_of_row _ wr.heap.size 1 _ _ hq9; have z2 := frozen_of_row _ wr.heap.size 2 _ _ hq9))
            all_goals
              go_wp2_with fail
              go_meet
              first | exact ZBx.new p' q' z hbd | exact ZBx.old p' q' z hbd hq9
          case rest =>
            obtain ⟨gz, rfl, hgz, hzb, hbz⟩ := hcut
            have hbz0 := HBR2.out.trans (hbz.mono HBR2.out.size)
            have HBZ := Lib.hid hbz
            have HBZ0 := Lib.hid hbz0
            have HZB := Lib.hid hzb
            obtain ⟨Ex, hEx⟩ : ∃ Ex, Ex = adG F j e E x := ⟨_, rfl⟩
            rw [← hEx] at HE2 He2 HJ2 HL2 hx128 u2 ⊢
            have HEX1 := Lib.hid (show adG F j e E (x + 1) = addE Ex (nxG F j e x) by rw [hEx]; rfl)
            have HEXX := Lib.hid hEx
            have he'p : (nxG F j e x).p = p' := (congrArg Prod.fst HY.out).symm
            have he'q : (nxG F j e x).q = q' := (congrArg Prod.snd HY.out).symm
            have HEP := Lib.hid (And.intro he'p he'q)
            have HFX := Lib.hid (show ∃ T', R = Ex ++ T' by rw [hEx]; exact HFN.out x hxi)
            have HFX1 := Lib.hid (HFN.out (x + 1) (by omega))
            have y2 := cell_of_row _ gz 2 _ _ (0, 0) hzb
            have HRq := Lib.hid (HRr.out _ hbz0)
            clear hEx he'p he'q hbz
            by_cases hzm : 1048576 < z
            · have d3 : decide (1048576 < z) = true := by simpa using hzm
              have d4 : decide ((1048576 : Int) < (z : Int)) = true := by simp; omega
              obtain ⟨b0, b1, b2, b3, f0, f1, f2, f3⟩ := HRq.out.cells
              have HNF := Lib.hid (show ¬ Fits O i R from fun hf => by
                have h1 := hf.at_ HFX.out HJ2.out He2.out hxl
                have h2 := HZ.out
                omega)
              clear hzm hzb hbz0
              go_wp2_with fail
              (try rw [Exit.noGoto_ret])
              refine bodyPost_ret (results_mealy rfl _ _ (w.heap.size + 1 + 1) (.int .i64 0) (.int .i64 0) (.slice none 0 0) (.slice none 0 0) rfl (HRq.out.set4 _ _ _ _)) rfl ?_
              exact ⟨MacP.bad HNF.out, below_set4 (by omega) (bt HB0.out HBZ0.out) _ _ _ _⟩
            have d3 : decide (1048576 < z) = false := by simpa using hzm
            have d4 : decide ((1048576 : Int) < (z : Int)) = false := by simp; omega
            obtain ⟨g7, e7, _, hg7, hc7⟩ := HL2.out.at_ (by have := HJ2.out; omega)
            obtain rfl : g6 = g7 := by injection e7 with e7; injection e7
            have HC7 := Lib.hid hc7
            clear hc7 e7 hzb hbz0
            go_wp2_with fail
            clear y2
            go_loopw [17] (fun v17 wr' => ∃ k : Nat, v17 = .int .i64 k ∧ k ≤ Ex.length ∧ NoE Ex (p', q') k ∧ Below wc.heap.size wc wr') (fun v17 _ => Ex.length - (intOf v17).toNat)
            case atStart => exact ⟨0, rfl, Nat.zero_le _, NoE.zero _ _, Below.refl _ _⟩
            case round =>
              obtain ⟨k, rfl, hk, hne, hb7⟩ := hrel
              have HB7 := Lib.hid hb7
              have hzc := (hb7.block gz (heap_lt HZB.out)).trans HZB.out
              have HNE := Lib.hid hne
              have hb8 := bt HBZ.out hb7
              have z0 := cell_of_row _ gz 0 _ _ (0, 0) hzc
              have z1 := cell_of_row _ gz 1 _ _ (0, 0) hzc
              clear hzc hb7
              have v0 : (0 : Int) ≤ (k : Int) := by omega
              by_cases hkl : k < Ex.length
              · have v1 : (k : Int) < (Ex.length : Int) := by omega
                have t0 : decide ((k : Int) < (Ex.length : Int)) = true := decide_eq_true v1
                have t0' : decide (k < Ex.length) = true := decide_eq_true hkl
                obtain ⟨x0, x1⟩ := HC7.out k hkl
                have x0 := (hb8.cell (p := ⟨g6, k * 3, none⟩) hg6).trans x0
                have x1 := (hb8.cell (p := ⟨g6, k * 3 + 1, none⟩) hg6).trans x1
                obtain ⟨pk, hpk⟩ : ∃ pk, pk = (Ex.getD k Ent.zero).p := ⟨_, rfl⟩
                obtain ⟨qk, hqk⟩ : ∃ qk, qk = (Ex.getD k Ent.zero).q := ⟨_, rfl⟩
                rw [← hpk] at x0
                rw [← hqk] at x1
                have HPK := Lib.hid (show (Ex.getD k Ent.zero).pr = (pk, qk) by rw [hpk, hqk]; rfl)
                clear hpk hqk hne hb8
                by_cases h1 : pk = p'
                · subst h1
                  have t1 : ((pk : Int) != (pk : Int)) = false := by simp
                  have t1' : (pk != pk) = false := by simp
                  by_cases h2 : qk = q'
                  · subst h2
                    have t2 : ((qk : Int) != (qk : Int)) = false := by simp
                    have t2' : (qk != qk) = false := by simp
                    go_wp2_with fail
                    go_quiet (fail)
                    clear x0 x1 z0 z1
                    obtain ⟨Wq, hWq⟩ : ∃ Wq, Wq = wr.drewN nq := ⟨_, rfl⟩
                    have hbq : Below wc.heap.size wc Wq := by rw [hWq]; exact below_drewN HB7.out _
                    rw [← hWq]
                    clear hWq
                    have hzq := (hbq.block gz (heap_lt HZB.out)).trans HZB.out
                    have hbx := bt HBZ.out hbq
                    have hL3 := HL2.out.kept hbx
                    have h23 := H2.out.kept hbx
                    have hsz := Nat.le_trans HZR.out hbx.size
                    have hw0 := HBR.out.size
                    have hb0q := HBR2.out.trans (hbx.mono HBR2.out.size)
                    have y0 := cell_of_row _ gz 0 _ _ (0, 0) hzq
                    have y1 := cell_of_row _ gz 1 _ _ (0, 0) hzq
                    have y2 := cell_of_row _ gz 2 _ _ (0, 0) hzq
                    obtain ⟨A5, c5, W1, r1, h24, b1, kt1⟩ := h23.appA (k : Int) hsz (by rw [rowO_len]; omega)
                    have hfk : ((plE R (F e.pr x) : Nat) : Int) = (k : Int) := by rw [← HY.out, HE2.out.at_pl hkl HPK.out HFX.out]
                    rw [rowO_len] at r1 h24
                    have hz1b := kt1 _ (by decide) gz _ hzq
                    have x2 := cell_of_row _ gz 2 _ _ (0, 0) hz1b
                    obtain ⟨A6, c6, W2, r2, h25, b2, kt2⟩ := h24.appB (z : Int) (by have := b1.size; omega) (by rw [rowO_len]; omega)
                    rw [rowO_len] at r2 h25
                    have hbb := b1.trans b2
                    have HF2 := Lib.hid (show Two W2 wo.heap.size (.slice A5 (x + 1) c5) (.slice A6 (x + 1) c6) (rowO (fun a => ((plE R (F e.pr a) : Nat) : Int)) (x + 1)) (rowO (fun a => ((O e.pr a : Nat) : Int)) (x + 1)) by
                      rw [rowO_succ, rowO_succ, hfk, ← HZ.out]; exact h25)
                    have HOK9 := Lib.hid (HOKR.out.succ (show O e.pr x ≤ 1048576 by rw [← HZ.out]; omega))
                    have HL9 := Lib.hid ((hL3.keptT (kt1 _ (by decide))).keptT (kt2 _ (by decide)))
                    have HK9 := Lib.hid (fun (ty : TypeId) (hty : ty ≠ 131) => ((HKT.out ty hty).trans (KeptT.of_below hbx)).low hbb)
                    have HB9 := Lib.hid (hb0q.trans (hbb.mono hw0))
                    have HS9 := Lib.hid (Nat.le_trans hsz hbb.size)
                    have HAE := Lib.hid (show adG F j e E (x + 1) = Ex by rw [HEX1.out, addE_in (by unfold hasE; rw [HEP.out.1, HEP.out.2]; exact List.mem_map.2 ⟨_, getDE_mem hkl, HPK.out⟩)])
                    have f1 : ((k : Int) == 128) = false := by rw [beq_eq_false_iff_ne]; omega
                    have f1' : (k == 128) = false := by rw [beq_eq_false_iff_ne]; omega
                    have f2 : ((k : Int) == (Ex.length : Int)) = false := by rw [beq_eq_false_iff_ne]; omega
                    have f2' : (k == Ex.length) = false := by rw [beq_eq_false_iff_ne]; omega
                    clear hbq hzq hbx hL3 h23 hsz hw0 hb0q hz1b h24 h25 b1 b2 kt1 kt2 hbb hfk y0 y1 y2
                    go_wp2_with (at_builtin; first | (refine Lib.wpList_append_run _ rfl _ _ _ _ rfl _ _ rfl rfl _ _ r1 ?_; clear r1) | (refine Lib.wpList_append_run _ rfl _ _ _ _ rfl _ _ rfl rfl _ _ r2 ?_; clear r2))
                    go_roundw
                    case rel => exact ⟨x + 1, some ⟨g6, 0, none⟩, A5, A6, c2, c5, c6, by go_num, by omega, by rw [HAE.out], rfl, rfl, by rw [HAE.out]; exact hx128, HOK9.out, by rw [HAE.out]; exact HL9.out, HF2.out, HK9.out, HB9.out, HS9.out⟩
                    case measure => simp [intOf]; omega
                  · have t2 : ((qk : Int) != (q' : Int)) = true := by simp; omega
                    have t2' : (qk != q') = true := by simp; omega
                    have HN2 := Lib.hid (HNE.out.succ (show (Ex.getD k Ent.zero).pr ≠ (pk, q') by rw [HPK.out]; intro h9; injection h9 with h8 h9; exact h2 h9))
                    clear h2
                    go_wp2_with fail
                    go_quiet (fail)
                    clear x0 x1 z0 z1
                    go_wp2_with fail
                    go_roundw
                    case rel => exact ⟨k + 1, by go_num, by omega, HN2.out, below_drewN HB7.out _⟩
                    case measure => simp [intOf]; omega
                · have t1 : ((pk : Int) != (p' : Int)) = true := by simp; omega
                  have t1' : (pk != p') = true := by simp; omega
                  have HN2 := Lib.hid (HNE.out.succ (show (Ex.getD k Ent.zero).pr ≠ (p', q') by rw [HPK.out]; intro h9; injection h9 with h8 h9; exact h1 h8))
                  clear h1
                  go_wp2_with fail
                  go_quiet (fail)
                  clear x0 x1 z0 z1
                  go_wp2_with fail
                  go_roundw
                  case rel => exact ⟨k + 1, by go_num, by omega, HN2.out, below_drewN HB7.out _⟩
                  case measure => simp [intOf]; omega
              · obtain rfl : k = Ex.length := by omega
                have t0 : decide ((Ex.length : Int) < (Ex.length : Int)) = false := decide_eq_false (by omega)
                have t0' : decide (Ex.length < Ex.length) = false := decide_eq_false (by omega)
                clear hne hb8 z0 z1
                go_wp2_with fail
                go_quiet (fail)
                obtain ⟨Wq, hWq⟩ : ∃ Wq, Wq = wr.drewN nq := ⟨_, rfl⟩
                have hbq : Below wc.heap.size wc Wq := by rw [hWq]; exact below_drewN HB7.out _
                rw [← hWq]
                clear hWq
                have hzq := (hbq.block gz (heap_lt HZB.out)).trans HZB.out
                have hbx := bt HBZ.out hbq
                have hL3 := HL2.out.kept hbx
                have h23 := H2.out.kept hbx
                have hsz := Nat.le_trans HZR.out hbx.size
                have hw0 := HBR.out.size
                have hb0q := HBR2.out.trans (hbx.mono HBR2.out.size)
                have y0 := cell_of_row _ gz 0 _ _ (0, 0) hzq
                have y1 := cell_of_row _ gz 1 _ _ (0, 0) hzq
                have y2 := cell_of_row _ gz 2 _ _ (0, 0) hzq
                have hno := HNE.out.not
                have HNH := Lib.hid (show ¬ hasE Ex (nxG F j e x).p (nxG F j e x).q by unfold hasE; rw [HEP.out.1, HEP.out.2]; exact hno)
                by_cases h128 : Ex.length = 128
                · have f1 : ((Ex.length : Int) == 128) = true := by simp; omega
                  have f1' : (Ex.length == 128) = true := by simp; omega
                  have HNF := Lib.hid (show ¬ Fits O i R from fun hf => by
                    have h1 := hf.len_ HFX1.out
                    rw [HEX1.out, addE_out HNH.out, List.length_append] at h1
                    simp at h1
                    omega)
                  have HRq := Lib.hid (HRr.out _ hb0q)
                  have HBZ0 := Lib.hid hb0q
                  obtain ⟨b0, b1, b2, b3, g0, g1, g2, g3⟩ := HRq.out.cells
                  clear hbq hzq hbx hL3 h23 hsz hb0q hno y0 y1 y2
                  go_wp2_with fail
                  (try rw [Exit.noGoto_ret])
                  refine bodyPost_ret (results_mealy rfl _ _ (w.heap.size + 1 + 1) (.int .i64 0) (.int .i64 0) (.slice none 0 0) (.slice none 0 0) rfl (HRq.out.set4 _ _ _ _)) rfl ?_
                  exact ⟨MacP.bad HNF.out, below_set4 (by omega) (bt HB0.out HBZ0.out) _ _ _ _⟩
                have f1 : ((Ex.length : Int) == 128) = false := by rw [beq_eq_false_iff_ne]; omega
                have f1' : (Ex.length == 128) = false := by rw [beq_eq_false_iff_ne]; omega
                have f2 : ((Ex.length : Int) == (Ex.length : Int)) = true := by simp
                have f2' : (Ex.length == Ex.length) = true := by simp
                obtain ⟨A7, c7, W0, r0, hL4, b0, kt0, kb0⟩ := hL3.push (nxG F j e x) z hb0q.size (by omega)
                rw [HEP.out.1, HEP.out.2] at r0
                have hz0b := (kb0 gz (heap_lt hzq) (fun h9 => by
                  injection h9 with h9
                  have h8 : g6 = gz := h9
                  omega)).trans hzq
                have h23' := h23.keptT (kt0 _ (by decide))
                have hs0 := b0.size
                obtain ⟨A5, c5, W1, r1, h24, b1, kt1⟩ := h23'.appA ((Ex.length : Nat) : Int) (by omega) (by rw [rowO_len]; omega)
                have HAE := Lib.hid (show adG F j e E (x + 1) = Ex ++ [nxG F j e x] by rw [HEX1.out, addE_out HNH.out])
                have hfk : ((plE R (F e.pr x) : Nat) : Int) = ((Ex.length : Nat) : Int) := by
                  have h1 := plE_newR (E := Ex) (R := R) (e := nxG F j e x) HNH.out (by rw [← HAE.out]; exact HFX1.out)
                  rw [show F e.pr x = (nxG F j e x).pr from rfl, h1]
                rw [rowO_len] at r1 h24
                have hz1b := kt1 _ (by decide) gz _ hz0b
                have x2 := cell_of_row _ gz 2 _ _ (0, 0) hz1b
                obtain ⟨A6, c6, W2, r2, h25, b2, kt2⟩ := h24.appB (z : Int) (by have := b1.size; omega) (by rw [rowO_len]; omega)
                rw [rowO_len] at r2 h25
                have hbb := b1.trans b2
                have HF2 := Lib.hid (show Two W2 wo.heap.size (.slice A5 (x + 1) c5) (.slice A6 (x + 1) c6) (rowO (fun a => ((plE R (F e.pr a) : Nat) : Int)) (x + 1)) (rowO (fun a => ((O e.pr a : Nat) : Int)) (x + 1)) by
                  rw [rowO_succ, rowO_succ, hfk, ← HZ.out]; exact h25)
                have HOK9 := Lib.hid (HOKR.out.succ (show O e.pr x ≤ 1048576 by rw [← HZ.out]; omega))
                have HL9 := Lib.hid ((hL4.keptT (kt1 _ (by decide))).keptT (kt2 _ (by decide)))
                have HK9 := Lib.hid (fun (ty : TypeId) (hty : ty ≠ 131) => (((HKT.out ty hty).trans (KeptT.of_below hbx)).trans (kt0 ty hty)).low hbb)
                have HB9 := Lib.hid ((hb0q.trans b0).trans (hbb.mono hw0))
                have HS9 := Lib.hid (show wo.heap.size ≤ W2.heap.size by have := hbb.size; omega)
                have HLN := Lib.hid (show (adG F j e E (x + 1)).length = Ex.length + 1 by rw [HAE.out, List.length_append]; rfl)
                have hx128' : Ex.length + 1 ≤ 128 := by omega
                clear hbq hzq hbx hL3 h23 hsz hw0 hb0q hz1b h24 h25 b1 b2 kt1 kt2 hbb hfk hno hL4 b0 kt0 kb0 hz0b h23' hs0
                go_wp2_with (at_builtin; first | (refine Lib.wpList_append_run _ rfl _ _ _ _ rfl _ _ rfl rfl _ _ r0 ?_; clear r0) | (refine Lib.wpList_append_run _ rfl _ _ _ _ rfl _ _ rfl rfl _ _ r1 ?_; clear r1) | (refine Lib.wpList_append_run _ rfl _ _ _ _ rfl _ _ rfl rfl _ _ r2 ?_; clear r2))
                go_roundw
                case rel => exact ⟨x + 1, A7, A5, A6, c7, c5, c6, by go_num, by omega, by rw [HLN.out], rfl, rfl, by rw [HLN.out]; exact hx128', HOK9.out, by rw [HLN.out, HAE.out]; exact HL9.out, HF2.out, HK9.out, HB9.out, HS9.out⟩
                case measure => simp [intOf]; omega
        · obtain rfl : x = i := by omega
          have d2 : decide ((x : Int) < (x : Int)) = false := decide_eq_false (by omega)
          have d2' : decide (x < x) = false := decide_eq_false (by omega)
          have hM1 := HMR.out.keptT (HKT.out _ (by decide)) (HKT.out _ (by decide)) (HKT.out _ (by decide))
          have hw0 := HBR.out.size
          have hNl : N.length ≤ 128 := by rw [HN.out, List.length_take]; omega
          have hTl : T.length ≤ 128 := by rw [HT.out, List.length_take]; omega
          obtain ⟨AN2, cN2, W1, r1, l1, f1, bq1, hM2, b1, kt1⟩ := hM1.addN (H2.out.oa.lower hw0) hbr.size HGM.out (by omega)
          have hob := (H2.out.ob.lower hw0).keptT (kt1 _ (by decide) (by decide))
          obtain ⟨AT2, cT2, W2, r2, l2, f2, bq2, hM3, b2, kt2⟩ := hM2.addT hob (Nat.le_trans hbr.size b1.size) HGM.out (by omega)
          have hzs : (W1.setCell ⟨gM, 2, none⟩ (.slice AN2 (N.length + 1) cN2)).heap.size = W1.heap.size := by simp
          rw [hzs] at r2
          have HM3 := Lib.hid hM3
          have HL9 := Lib.hid ((HL2.out.keptT (kt1 _ (by decide) (by decide))).keptT (kt2 _ (by decide) (by decide)))
          have HB9 := Lib.hid ((hbr.trans b1).trans b2)
          obtain ⟨_, _, m2, m3, _⟩ := hM1.blk.cells
          obtain ⟨_, _, _, m3', _⟩ := hM2.blk.cells
          have HNQ := Lib.hid (show N ++ [rowO (fun a => ((plE R (F e.pr a) : Nat) : Int)) x] = (autN F x R).take (j + 1) by
            have := take_mapC (fun e : Ent => (List.range x).map fun a => ((plE R (F e.pr a) : Nat) : Int)) HRE.out hlt
            rw [← HEE.out] at this
            rw [HN.out]; exact this)
          have HTQ := Lib.hid (show T ++ [rowO (fun a => ((O e.pr a : Nat) : Int)) x] = (outN O x R).take (j + 1) by
            have := take_mapC (fun e : Ent => (List.range x).map fun a => ((O e.pr a : Nat) : Int)) HRE.out hlt
            rw [← HEE.out] at this
            rw [HT.out]; exact this)
          have HOK9 := Lib.hid (show OkTo O x R (j + 1) from HOK.out.succ (by
            obtain ⟨T8, hT8⟩ := HRE.out
            rw [hT8, getDE_pre hlt, ← HEE.out]
            exact HOKR.out))
          clear hL2 he2 hM1 hob bq1 hM2 b1 kt1 bq2 hM3 b2 kt2 hzs hbr
          go_wp2_with (at_builtin; first | (refine Lib.wpList_append_run _ rfl _ _ _ _ rfl _ _ rfl rfl _ _ r1 ?_; clear r1) | (refine Lib.wpList_append_run _ rfl _ _ _ _ rfl _ _ rfl rfl _ _ r2 ?_; clear r2))
          go_roundw
          case rel => exact ⟨j + 1, adG F j e E x, A2, c2, _, _, AN2, AT2, cN2, cT2, rfl, by go_num, hj2, hx128, HE2.out, HON.out, HNQ.out, HTQ.out, HOK9.out, HL9.out, HM3.out, HB9.out⟩
          case measure => simp [intOf]; omega
    · obtain rfl : j = E.length := by omega
      have d1 : decide ((E.length : Int) < (E.length : Int)) = false := decide_eq_false (by omega)
      have d1' : decide (E.length < E.length) = false := decide_eq_false (by omega)
      have hRE : E = R := by rw [← HEX.out, exG_end (by omega)]
      have hNe : N = autN F i R := by rw [HN.out, hRE]; exact List.take_of_length_le (by simp [autN])
      have hTe : T = outN O i R := by rw [HT.out, hRE]; exact List.take_of_length_le (by simp [outN])
      have hNl : N.length = R.length := by rw [hNe]; simp [autN]
      have hTl : T.length = R.length := by rw [hTe]; simp [outN]
      have HFIT := Lib.hid (show Fits O i R from ⟨by rw [← hRE]; exact hE128, fun k hk a ha => HOK.out k (by rw [hRE]; exact hk) a ha⟩)
      have b1 := HMR.out.blk
      have b2 := HMR.out.nx
      have b3 := HMR.out.ot
      rw [hNl] at b1 b2
      rw [hTl] at b1 b3
      have HRq := Lib.hid (HRr.out _ HBR.out)
      obtain ⟨q0, q1, q2, q3, z0, z1, z2, z3⟩ := HRq.out.cells
      obtain ⟨y0, y1, y2, y3, _⟩ := b1.cells
      have HB2' := Lib.hid b2
      have HB3' := Lib.hid b3
      have HNE := Lib.hid hNe
      have HTE := Lib.hid hTe
      clear hRE hNe hTe hNl hTl b1 b2 b3 hE hex hN hT hok hL hMr
      go_wp2_with fail
      refine bodyPost_ret (results_mealy rfl _ _ (w.heap.size + 1 + 1) (.int .i64 i) (.int .i64 (0 : Nat)) (.slice AN R.length cN) (.slice AT R.length cT) rfl (HRq.out.set4 _ _ _ _)) rfl ?_
      have hz9 : w.heap.size ≤ w0.heap.size := HB0.out.size
      refine ⟨.inl ⟨HFIT.out, AN, cN, AT, cT, rfl, ?_, ?_⟩, below_set4 (by omega) (bt HB0.out HBR.out) _ _ _ _⟩
      · have := HB2'.out
        rw [HNE.out] at this
        exact (this.keptT (HRq.out.set4' _ _ _ _ (by decide)) (HRq.out.set4' _ _ _ _ (by decide))).lower hz9
      · have := HB3'.out
        rw [HTE.out] at this
        exact (this.keptT (HRq.out.set4' _ _ _ _ (by decide)) (HRq.out.set4' _ _ _ _ (by decide))).lower hz9
end Go.Proofs.Ytogcecfeofbbnaa
end
