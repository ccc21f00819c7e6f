/- Lemmas of the proofs of this seat, of the parts Hopn, Rext, Rfsm, Rfsw, Eqdr, Eqsr, Rmnp, Rowsp, Rmni, Rmnk, Rfp, Rfin, Eqr, Rpt, Rcl. Conditions: none. -/
import Derived.Test.YtogcecfeofbbnaaHe
import Derived.WalkSpells
import Derived.Test.YtogcecfeofbbnaaHa
import Derived.Test.YtogcecfeofbbnaaHd
import Derived.Test.YtogcecfeofbbnaaHc
import Derived.Test.YtogcecfeofbbnaaHb
section
/- homing, the reference: open. -/
namespace Go.Proofs.Ytogcecfeofbbnaa
open Go.RowKit

theorem opn_next_none {n : Nat} {nx ot : List (List Int)} {u : List Int} {q : Nat} (h : opn n nx ot u q = none) : opn n nx ot u (q + 1) = if 1 < (cur n nx ot u (runO nx ot q u)).length then some (runO nx ot q u) else none := by
  show (if 1 < (cur n nx ot u (runO nx ot q u)).length ∧ lessO (runO nx ot q u) (opn n nx ot u q) = true then some (runO nx ot q u) else opn n nx ot u q) = _
  rw [h]
  simp [lessO]
theorem opn_next_some {n : Nat} {nx ot : List (List Int)} {u b : List Int} {q : Nat} (h : opn n nx ot u q = some b) : opn n nx ot u (q + 1) = if 1 < (cur n nx ot u (runO nx ot q u)).length ∧ lexi (runO nx ot q u) b < 0 then some (runO nx ot q u) else some b := by
  show (if 1 < (cur n nx ot u (runO nx ot q u)).length ∧ lessO (runO nx ot q u) (opn n nx ot u q) = true then some (runO nx ot q u) else opn n nx ot u q) = _
  rw [h]
  simp [lessO]
theorem opnL_of {n : Nat} {nx ot : List (List Int)} {u b : List Int} {q : Nat} (h : opn n nx ot u q = some b) : opnL n nx ot u q = cur n nx ot u b := by unfold opnL; rw [h]
theorem opnL_of0 {n : Nat} {nx ot : List (List Int)} {u : List Int} {q : Nat} (h : opn n nx ot u q = none) : opnL n nx ot u q = [] := by unfold opnL; rw [h]

/-- What open holds in front of a state. -/
def Bst (n : Nat) (nx ot : List (List Int)) (u : List Int) (q : Nat) (w : World) (base : Nat) (bv sv : Value) : Prop :=
  (∃ A1 c1 A2 c2 b, bv = .slice A1 b.length c1 ∧ sv = .slice (some A2) (cur n nx ot u b).length c2 ∧ Owned w base (.slice A1 b.length c1) b ∧ Owned w base (.slice (some A2) (cur n nx ot u b).length c2) (cur n nx ot u b) ∧ b.length = u.length ∧ opn n nx ot u q = some b) ∨
  (bv = .slice none 0 0 ∧ sv = .slice none 0 0 ∧ opn n nx ot u q = none)

theorem Bst.kept {n : Nat} {nx ot : List (List Int)} {u : List Int} {q : Nat} {w w' : World} {base : Nat} {bv sv : Value} (h : Bst n nx ot u q w base bv sv) (hb : Below w.heap.size w w') : Bst n nx ot u q w' base bv sv := by
  rcases h with ⟨A1, c1, A2, c2, b, h1, h2, h3, h4, h5, h6⟩ | h
  · exact .inl ⟨A1, c1, A2, c2, b, h1, h2, h3.kept hb, h4.kept hb, h5, h6⟩
  · exact .inr h

set_option maxHeartbeats 4000000 in
set_option maxRecDepth 100000 in
theorem ropen13 (i st n k cx : Nat) (A B X : Option Addr) (c d : Nat) (nx ot : List (List Int)) (u : List Int) (w : World) (hx : Lists w A n nx) (ho : Lists w B n ot) (hM : Mok i st n nx ot) (hu : Ints w X k u) (hW : ∀ x, x ∈ u → 0 ≤ x ∧ x < i) (hk : k ≤ 1024) :
    Calls Try.prog 53 #[.agg #[.int .i64 i, .int .i64 st, .slice A n c, .slice B n d], .slice X k cx] w fun e w' => ∃ A' c', e = .returned (.slice A' (opnL n nx ot u n).length c') ∧ Owned w' w.heap.size (.slice A' (opnL n nx ot u n).length c') (opnL n nx ot u n) ∧ Below w.heap.size w w' := by
  obtain ⟨w1, hw1⟩ : ∃ w1, w1 = w.alloc (.cells #[.int .i64 i, .int .i64 st, .slice A n c, .slice B n d] 24) := ⟨_, rfl⟩
  have b1 : Below w.heap.size w w1 := by rw [hw1]; exact alloc_below _ _
  have m1 : Mblk w1 w.heap.size (.int .i64 i) (.int .i64 st) (.slice A n c) (.slice B n d) := by rw [hw1]; exact mealy_box _ _ _ _ _
  have z1 : w1.heap.size = w.heap.size + 1 := by rw [hw1]; simp
  have hn := hM.n2
  have hul := hu.1
  have HW1 := Lib.hid hw1
  have HM1 := Lib.hid m1
  have HB1 := Lib.hid b1
  have HRUN := Lib.hid (fun (W : World) (hw : Below w1.heap.size w1 W) (s : Nat) (hs : s < n) => rrun13 i st n A B X c d k cx s nx ot u W hM ((hx.below b1).below hw) ((ho.below b1).below hw) hs ((hu.below b1).below hw) hW)
  have HCUR := Lib.hid (fun (W : World) (hw : Below w1.heap.size w1 W) (Y : Option Addr) (cy : Nat) (o : List Int) (hy : Ints W Y k o) => rcur13 i st n k cx k cy A B X Y c d nx ot u o W ((hx.below b1).below hw) ((ho.below b1).below hw) hM ((hu.below b1).below hw) hy hW hk)
  clear hw1 m1 b1 hx ho hM hu hW
  go_enter Try.func53, Try.ntmps53
  go_wp2
  rw [← HW1.out]
  go_loopw [7, 5, 6] (fun kv bv sv wr => ∃ q : Nat, q ≤ n ∧ kv = .int .i64 q ∧ Bst n nx ot u q wr w1.heap.size bv sv ∧ Below w1.heap.size w1 wr) (fun kv _ _ _ => n - (intOf kv).toNat)
  case atStart => exact ⟨0, Nat.zero_le _, rfl, .inr ⟨rfl, rfl, rfl⟩, Below.refl _ _⟩
  case round =>
    obtain ⟨q, hq, rfl, hbst, hbr⟩ := hrel
    have HBR := Lib.hid hbr
    have hzr := hbr.size
    obtain ⟨k0, k1, k2, k3, _⟩ := (HM1.out.kept hbr (by omega)).cells
    by_cases hlt : q < n
    · have HST := Lib.hid hbst
      clear hbst
      go_wp2_with fail
      refine (HRUN.out _ hbr q hlt).mono ?_
      rintro e w3 ⟨A3, c3, rfl, o3, b3⟩
      have HN := Lib.hid (@opn_next_none n nx ot u q)
      have HS := Lib.hid (fun b => @opn_next_some n nx ot u b q)
      have hrl : (runO nx ot q u).length = k := by rw [runO_len, hul]
      have hb3 := HBR.out.trans (b3.mono hzr)
      have HB3 := Lib.hid hb3
      have HB31 := Lib.hid b3
      have hz3 := b3.size
      have HO3 := Lib.hid o3
      clear k0 k1 k2 k3
      obtain ⟨k0, k1, k2, k3, _⟩ := (HM1.out.kept hb3 (by omega)).cells
      generalize runO nx ot q u = r at o3 HO3 HN HS hrl
      have hir := o3.ints (by omega)
      have HIR := Lib.hid hir
      clear b3 o3 hb3 hbr
      go_wp2_with fail
      refine (HCUR.out w3 HB3.out A3 c3 r hir).mono ?_
      rintro e w4 ⟨A4, c4, rfl, o4, b4⟩
      have HO4 := Lib.hid o4
      have HB4 := Lib.hid (HB3.out.trans (b4.mono (by omega)))
      have hz4 := b4.size
      have HB41 := Lib.hid b4
      have hlen : (cur n nx ot u r).length ≤ n := by
        unfold cur
        rw [zs_len]
        exact Nat.le_trans (List.length_filter_le _ _) (by rw [List.length_range]; exact Nat.le_refl _)
      have HNEW : Hid (1 < (cur n nx ot u r).length → opn n nx ot u (q + 1) = some r → Bst n nx ot u (q + 1) w4 w1.heap.size (.slice A3 k c3) (.slice A4 (cur n nx ot u r).length c4)) := Lib.hid (fun h1 h2 => by
        obtain ⟨g, rfl, _⟩ := HO4.out.head (by omega)
        have h3 := (HO3.out.kept HB41.out).lower hzr
        subst hrl
        exact .inl ⟨A3, c3, _, c4, r, rfl, rfl, h3, HO4.out.lower (by omega), by omega, h2⟩)
      clear o4 b4 k0 k1 k2 k3 hir
      generalize hC : cur n nx ot u r = C at HNEW HN HS hlen ⊢
      have HC := Lib.hid hC
      clear hC
      rcases HST.out with ⟨A1, c1, g, c2, b, rfl, rfl, hb, hs, hbl, hopn⟩ | ⟨rfl, rfl, hopn⟩
      · have he := fun W => Lib.run_eql_slice_nil (P := Try.prog) W 27 3 (some g) (cur n nx ot u b).length c2 0 0 Try.underlying27
        have HS2 := Lib.hid (HS.out b hopn)
        have HOLD : Hid (opn n nx ot u (q + 1) = some b → Bst n nx ot u (q + 1) w4 w1.heap.size (.slice A1 b.length c1) (.slice (some g) (cur n nx ot u b).length c2)) := Lib.hid (fun h2 => .inl ⟨A1, c1, g, c2, b, rfl, rfl, (hb.kept HB31.out).kept HB41.out, (hs.kept HB31.out).kept HB41.out, hbl, h2⟩)
        have HLX := Lib.hid (fun (W : World) (h : Below w3.heap.size w3 W) => rlex A3 A1 k c3 b.length c1 r b W (HIR.out.below h) ((((hb.kept HB31.out).ints (by omega)).below h)))
        generalize (cur n nx ot u b).length = lb at HOLD he ⊢
        generalize b.length = lb2 at HOLD HLX ⊢
        by_cases h1 : 1 < C.length
        · have HL2 := Lib.hid (HLX.out w4 HB41.out)
          by_cases h2 : lexi r b < 0
          · rw [if_pos ⟨h1, h2⟩] at HS2
            have HR := Lib.hid (HNEW.out h1 HS2.out)
            have hd : decide (lexi r b < (0 : Int)) = true := decide_eq_true h2
            have h1' : ((1 : Int) < (C.length : Int)) := by omega
            generalize lexi r b = x at HL2 hd
            clear hb hs hopn HLX h2 HST hbl HNEW HOLD HS HS2
            go_wp2_with (go_at_call 93; refine (HL2.out).mono ?_; rintro e w5 ⟨rfl, q5, rfl⟩)
            go_roundw
            case rel => exact ⟨q + 1, by omega, by go_num, HR.out.kept (below_drewN (Below.refl _ _) _), below_drewN HB4.out _⟩
            case measure => simp [intOf]; omega
          · rw [if_neg fun h => h2 h.2] at HS2
            have HR := Lib.hid (HOLD.out HS2.out)
            have hd : decide (lexi r b < (0 : Int)) = false := decide_eq_false h2
            have h1' : ((1 : Int) < (C.length : Int)) := by omega
            generalize lexi r b = x at HL2 hd
            clear hb hs hopn HLX h2 HST hbl HNEW HOLD HS HS2
            go_wp2_with (go_at_call 93; refine (HL2.out).mono ?_; rintro e w5 ⟨rfl, q5, rfl⟩)
            go_roundw
            case rel => exact ⟨q + 1, by omega, by go_num, HR.out.kept (below_drewN (Below.refl _ _) _), below_drewN HB4.out _⟩
            case measure => simp [intOf]; omega
        · rw [if_neg fun h => h1 h.1] at HS2
          have HR := Lib.hid (HOLD.out HS2.out)
          have h1' : ¬ ((1 : Int) < (C.length : Int)) := by omega
          clear hb hs hopn HLX HST hbl HNEW HOLD HS HS2
          go_wp2
          go_roundw
          case rel => exact ⟨q + 1, by omega, by go_num, HR.out, HB4.out⟩
          case measure => simp [intOf]; omega
      · have he := fun W => Lib.run_eql_slice_nil (P := Try.prog) W 27 3 none 0 0 0 0 Try.underlying27
        have HS2 := Lib.hid (HN.out hopn)
        by_cases h1 : 1 < C.length
        · rw [if_pos h1] at HS2
          have HR := Lib.hid (HNEW.out h1 HS2.out)
          have h1' : ((1 : Int) < (C.length : Int)) := by omega
          clear hopn HST HNEW HS HS2 HN
          go_wp2
          go_roundw
          case rel => exact ⟨q + 1, by omega, by go_num, HR.out, HB4.out⟩
          case measure => simp [intOf]; omega
        · rw [if_neg h1] at HS2
          have h1' : ¬ ((1 : Int) < (C.length : Int)) := by omega
          clear hopn HST HNEW HS HN
          go_wp2
          go_roundw
          case rel => exact ⟨q + 1, by omega, by go_num, .inr ⟨rfl, rfl, HS2.out⟩, HB4.out⟩
          case measure => simp [intOf]; omega
    · obtain rfl : q = n := by omega
      clear hbr
      rcases hbst with ⟨A1, c1, g, c2, b, rfl, rfl, hb, hs, hbl, hopn⟩ | ⟨rfl, rfl, hopn⟩
      · have HL := Lib.hid (opnL_of hopn)
        have HS := Lib.hid hs
        clear hb hs hbl hopn
        go_wp2
        go_ret
        exact ⟨some g, c2, by rw [HL.out]; rfl, by rw [HL.out]; exact HS.out.lower (by omega), HB1.out.trans (HBR.out.mono (by omega))⟩
      · have HL := Lib.hid (opnL_of0 hopn)
        clear hopn
        go_wp2
        go_ret
        exact ⟨none, 0, by rw [HL.out]; rfl, by rw [HL.out]; exact Owned.nil _ _, HB1.out.trans (HBR.out.mono (by omega))⟩
end Go.Proofs.Ytogcecfeofbbnaa
end

section
/- Extended of the reference: a word with one more symbol. -/
namespace Go.Proofs.Ytogcecfeofbbnaa
open Go.RowKit

set_option maxRecDepth 100000 in
theorem rext (A : Option Addr) (n c : Nat) (us : List Int) (x : Int) (w : World) (h : Ints w A n us) (hn : us.length ≤ 1048576) :
    Calls Try.prog 117 #[.slice A n c, .int .i64 x] w fun e w' => ∃ A' c', e = .returned (.slice A' (us.length + 1) c') ∧ Owned w' w.heap.size (.slice A' (us.length + 1) c') (us ++ [x]) ∧ Below w.heap.size w w' := by
  obtain ⟨v1, w1, r1, o1, _, b1⟩ := run_append_ints w w.heap.size (.slice none 0 0) [] us A n c (World.ownsRow_nil _ _ _ _) h (Nat.le_refl _) (by rw [List.nil_append]; omega)
  rw [List.nil_append] at o1
  obtain ⟨A1, c1, rfl⟩ := o1.form
  obtain ⟨A2, c2, w2, r2, o2, b2, _⟩ := run_append_one o1 x b1.size (by omega)
  have O2 := Lib.hid o2
  have b3 := b1.trans b2
  clear o1 o2 b1 b2 hn
  go_enter Try.func117, Try.ntmps117
  go_wp2_with (at_builtin; first | (refine Lib.wpList_append_run _ rfl _ _ _ _ rfl _ _ rfl rfl _ _ r1 ?_; clear r1) | (refine Lib.wpList_append_run _ rfl _ _ _ _ rfl _ _ rfl rfl _ _ r2 ?_))
  go_wp2
  go_ret
  exact ⟨A2, c2, rfl, O2.out, b3⟩
end Go.Proofs.Ytogcecfeofbbnaa
end

section
/- The reference's first distinguishing word: pairs in memory, Extended. -/
namespace Go.Proofs.Ytogcecfeofbbnaa
open Go.RowKit

theorem infopr : (Try.prog.info? 147).map (fun i => (i.zero, i.size, i.bytes)) = some (some (.agg #[.int .i64 0, .int .i64 0, .slice none 0 0]), 3, 40) := by kernel_rfl
def cellsP (x : Ent × Value) : List Value := [.int .i64 x.1.p, .int .i64 x.1.q, x.2]
/-- A row of pairs with their words. -/
structure Prs (w3 W : World) (b3 : Nat) (v : Value) (E : List Ent) : Prop where
  row : ∃ L : List (Ent × Value), L.map Prod.fst = E ∧ Rws W b3 147 3 v (L.map cellsP) ∧ ∀ x, x ∈ L → ∃ A c, x.2 = .slice A x.1.w.length c ∧ Owned W b3 (.slice A x.1.w.length c) x.1.w
  bel : Below b3 w3 W
/-- The states of the pairs, to be read. -/
def Pv (w : World) (g : Nat) (E : List Ent) : Prop := g < w.heap.size ∧ ∀ k, k < E.length → w.cell? ⟨g, k * 3, none⟩ = some (.int .i64 (E.getD k Ent.zero).p) ∧ w.cell? ⟨g, k * 3 + 1, none⟩ = some (.int .i64 (E.getD k Ent.zero).q)
section
variable {w3 W W' : World} {b3 : Nat} {v : Value} {E : List Ent}
theorem Pv.below {w w' : World} {g : Nat} {E : List Ent} (h : Pv w g E) (hb : Below w.heap.size w w') : Pv w' g E := by
  refine ⟨Nat.lt_of_lt_of_le h.1 hb.size, fun k hk => ?_⟩
  obtain ⟨a, b⟩ := h.2 k hk
  exact ⟨(hb.cell (block_lt a)).trans a, (hb.cell (block_lt b)).trans b⟩
theorem Prs.on (h : Prs w3 W b3 v E) (hb : Below W.heap.size W W') (hz : b3 ≤ W.heap.size) : Prs w3 W' b3 v E := by
  obtain ⟨L, h1, h2, h3⟩ := h.row
  exact ⟨⟨L, h1, h2.kept hb, fun x hx => by obtain ⟨A, c, e, o⟩ := h3 x hx; exact ⟨A, c, e, o.kept hb⟩⟩, h.bel.trans (hb.mono hz)⟩
theorem Prs.at_ (h : Prs w3 W b3 v E) (hE : 0 < E.length) : ∃ g c, v = .slice (some ⟨g, 0, none⟩) E.length c ∧ b3 ≤ g ∧ Pv W g E ∧ ∀ k, k < E.length → ∃ A c', W.cell? ⟨g, k * 3 + 2, none⟩ = some (.slice A (E.getD k Ent.zero).w.length c') ∧ Owned W b3 (.slice A (E.getD k Ent.zero).w.length c') (E.getD k Ent.zero).w := by
  obtain ⟨L, h1, h2, h3⟩ := h.row
  subst h1
  rw [List.length_map] at hE ⊢
  obtain ⟨g, c, rfl, hb, hg, _, hc⟩ := h2.at_ (by rw [List.length_map]; exact hE)
  rw [List.length_map] at hc ⊢
  have hx : ∀ k, k < L.length → ∃ x, x ∈ L ∧ (L.map cellsP).getD k [] = cellsP x ∧ (L.map Prod.fst).getD k Ent.zero = x.1 := fun k hk => by
    refine ⟨L[k], List.getElem_mem hk, ?_, ?_⟩
    · rw [List.getD_eq_getElem?_getD, List.getElem?_map, List.getElem?_eq_getElem hk]; rfl
    · rw [List.getD_eq_getElem?_getD, List.getElem?_map, List.getElem?_eq_getElem hk]; rfl
  refine ⟨g, c, rfl, hb, ⟨hg, fun k hk => ?_⟩, fun k hk => ?_⟩
  · rw [List.length_map] at hk
    obtain ⟨x, hm, e1, e2⟩ := hx k hk
    have c0 := hc k 0 hk (by decide)
    have c1 := hc k 1 hk (by decide)
    rw [e1] at c0 c1
    rw [e2]
    exact ⟨c0, c1⟩
  · obtain ⟨x, hm, e1, e2⟩ := hx k hk
    have c2 := hc k 2 hk (by decide)
    rw [e1] at c2
    rw [e2]
    obtain ⟨A, c', e, o⟩ := h3 x hm
    exact ⟨A, c', by rw [← e]; exact c2, o⟩
theorem Prs.push (h : Prs w3 W b3 v E) (hz : b3 ≤ W.heap.size) (e : Ent) {A : Option Addr} {c : Nat} (ho : Owned W b3 (.slice A e.w.length c) e.w) (hn : E.length < 1099511627776) :
    ∃ A1 c1 W1, (Builtin.append_ #[148, 148] 148 #[v, .slice (some ⟨W.heap.size, 0, none⟩) 1 1]).run Try.prog (W.alloc (.cells #[.int .i64 e.p, .int .i64 e.q, .slice A e.w.length c] 147)) = .ok (.slice A1 (E.length + 1) c1) W1 ∧
      Prs w3 W1 b3 (.slice A1 (E.length + 1) c1) (E ++ [e]) := by
  obtain ⟨i, hi, hz0, hz1, hz2⟩ := info_parts infopr
  obtain ⟨L, h1, h2, h3⟩ := h.row
  have hl : (L.map cellsP).length = E.length := by rw [← h1]; simp
  obtain ⟨A1, c1, W1, r1, r2, r3, r4⟩ := run_append_rws Try.underlying148 hi hz0 hz1 hz2 rfl (by decide) (by decide) h2 (cellsP (e, .slice A e.w.length c)) rfl (fun u hu => by simp [cellsP] at hu; rcases hu with rfl | rfl | rfl <;> rfl) hz (by rw [hl]; exact hn)
  rw [hl] at r1 r2
  refine ⟨A1, c1, W1, r1, ⟨L ++ [(e, .slice A e.w.length c)], by rw [List.map_append, h1]; rfl, by rw [List.map_append]; exact r2, fun x hx => ?_⟩, h.bel.trans r3⟩
  rcases List.mem_append.1 hx with hx | hx
  · obtain ⟨A2, c2, e2, o2⟩ := h3 x hx
    exact ⟨A2, c2, e2, o2.keptT (r4 _ (by decide))⟩
  · simp at hx
    subst hx
    exact ⟨A, c, rfl, ho.keptT (r4 _ (by decide))⟩
end
end Go.Proofs.Ytogcecfeofbbnaa
end

section
/- The reference's first distinguishing word. -/
namespace Go.Proofs.Ytogcecfeofbbnaa
open Go.RowKit

theorem hasE_take_succ {E : List Ent} {k : Nat} (hk : k < E.length) (p q : Nat) : hasE (E.take (k + 1)) p q ↔ hasE (E.take k) p q ∨ ((E.getD k Ent.zero).p = p ∧ (E.getD k Ent.zero).q = q) := by
  have h1 : E.take (k + 1) = E.take k ++ [E.getD k Ent.zero] := by
    rw [List.take_add_one, List.getD_eq_getElem?_getD, List.getElem?_eq_getElem hk]; rfl
  unfold hasE
  rw [h1, List.map_append, List.mem_append]
  constructor
  · rintro (h | h)
    · exact .inl h
    · simp [Ent.pr] at h; exact .inr ⟨h.1.symm, h.2.symm⟩
  · rintro (h | ⟨h, h2⟩)
    · exact .inl h
    · exact .inr (by subst h; subst h2; simp [Ent.pr])
set_option maxHeartbeats 8000000 in
set_option maxRecDepth 100000 in
theorem rfirst (i st1 st2 n m s t : Nat) (A B C D : Option Addr) (c d c2 d2 : Nat) (nx1 ot1 nx2 ot2 : List (List Int)) (w : World) (hx1 : Lists w A n nx1) (ho1 : Lists w B n ot1) (hx2 : Lists w C m nx2) (ho2 : Lists w D m ot2) (hM : Mok i st1 n nx1 ot1) (hN : Mok i st2 m nx2 ot2) (hs : s < n) (ht : t < m) :
    Calls Try.prog 94 #[.agg #[.int .i64 i, .int .i64 st1, .slice A n c, .slice B n d], .agg #[.int .i64 i, .int .i64 st2, .slice C m c2, .slice D m d2], .int .i64 s, .int .i64 t] w fun e w' => ∃ A' c',
      e = .returned (.tuple #[.slice A' ((dst nx1 ot1 nx2 ot2 i n m s t).getD []).length c', .bool (dst nx1 ot1 nx2 ot2 i n m s t).isSome]) ∧ Owned w' w.heap.size (.slice A' ((dst nx1 ot1 nx2 ot2 i n m s t).getD []).length c') ((dst nx1 ot1 nx2 ot2 i n m s t).getD []) ∧ Below w.heap.size w w' := by
  have hn2 := hM.n2
  have hm2 := hN.n2
  have hi64 := hM.i2
  obtain ⟨R, hR⟩ : ∃ R, R = dst nx1 ot1 nx2 ot2 i n m s t := ⟨_, rfl⟩
  rw [← hR]
  have HR := Lib.hid (show srch nx1 nx2 ot1 ot2 i (n * m) [⟨s, t, 0, 0, []⟩] 0 = R from hR.symm)
  clear hR
  obtain ⟨w3, hw3⟩ : ∃ w3, w3 = (w.alloc (.cells #[.int .i64 i, .int .i64 st1, .slice A n c, .slice B n d] 24)).alloc (.cells #[.int .i64 i, .int .i64 st2, .slice C m c2, .slice D m d2] 24) := ⟨_, rfl⟩
  obtain ⟨w5, hw5⟩ : ∃ w5, w5 = w3.alloc (.cells #[.int .i64 s, .int .i64 t, .slice none 0 0] 147) := ⟨_, rfl⟩
  have hz3 : w3.heap.size = w.heap.size + 1 + 1 := by rw [hw3]; simp
  have hb3 : Below w.heap.size w w3 := by rw [hw3]; exact bt (alloc_below _ _) (alloc_below _ _)
  have hb5 : Below (w.heap.size + 1 + 1) w3 w5 := by rw [hw5, ← hz3]; exact alloc_below _ _
  have hA3 : Mblk w3 w.heap.size (.int .i64 i) (.int .i64 st1) (.slice A n c) (.slice B n d) := by
    rw [hw3]
    refine Mblk.kept (mealy_box w (.int .i64 i) (.int .i64 st1) (.slice A n c) (.slice B n d)) (alloc_below _ _) (by simp)
  have hB3 : Mblk w3 (w.heap.size + 1) (.int .i64 i) (.int .i64 st2) (.slice C m c2) (.slice D m d2) := by
    rw [hw3]
    have := mealy_box (w.alloc (.cells #[.int .i64 i, .int .i64 st1, .slice A n c, .slice B n d] 24)) (.int .i64 i) (.int .i64 st2) (.slice C m c2) (.slice D m d2)
    simpa using this
  have hR5 : Prs w3 w5 (w.heap.size + 1 + 1) (.slice (some ⟨w.heap.size + 1 + 1, 0, none⟩) 1 1) [⟨s, t, 0, 0, []⟩] := by
    refine ⟨⟨[(⟨s, t, 0, 0, []⟩, .slice none 0 0)], rfl, ?_, fun x hx => ?_⟩, hb5⟩
    · rw [hw5]
      have := Rws.one w3 (w.heap.size + 1 + 1) 147 (cellsP (⟨s, t, 0, 0, []⟩, .slice none 0 0)) (by omega)
      rw [hz3] at this
      exact this
    · simp at hx
      subst hx
      exact ⟨none, 0, rfl, World.ownsRow_nil _ _ _ _⟩
  have HW3 := Lib.hid hw3
  have HW5 := Lib.hid hw5
  have HA3 := Lib.hid hA3
  have HB3 := Lib.hid hB3
  have HR5 := Lib.hid hR5
  have H3 := Lib.hid hb3
  obtain ⟨g3, hg3⟩ : ∃ g3, g3 = w.heap.size + 1 + 1 := ⟨_, rfl⟩
  have HG3 := Lib.hid hg3
  clear hw3 hw5 hA3 hB3 hR5 hb3 hb5 hg3
  go_enter Try.func94, Try.ntmps94
  go_wp2
  rw [← HW3.out, ← HW5.out, ← HG3.out]
  have hz3 : w3.heap.size = g3 := by rw [hz3, HG3.out]
  have hg3 : w.heap.size + 2 = g3 := by rw [HG3.out]
  have HF6 := Lib.hid (show Prs w3 w5 g3 (.slice (some ⟨g3, 0, none⟩) 1 1) [⟨s, t, 0, 0, []⟩] by rw [HG3.out]; exact HR5.out)
  clear HR5 HW5 HW3
  go_loopw [10, 11] (fun v8 v10 wr => ∃ (j : Nat) (E : List Ent) (A' : Option Addr) (c' : Nat), v10 = .int .i64 j ∧ v8 = .slice A' E.length c' ∧ j ≤ E.length ∧ Ens n m s t E ∧ srch nx1 nx2 ot1 ot2 i (n * m) E j = R ∧ Prs w3 wr g3 (.slice A' E.length c') E) (fun _ v10 _ => n * m - (intOf v10).toNat)
  case atStart => exact ⟨0, [⟨s, t, 0, 0, []⟩], some ⟨g3, 0, none⟩, 1, rfl, rfl, Nat.zero_le _, Ens.one hs ht, HR.out, HF6.out⟩
  case round =>
    obtain ⟨j, E, A', c', rfl, rfl, hjl, hE, hS, hF⟩ := hrel
    have HE := Lib.hid hE
    have HS := Lib.hid hS
    have HF := Lib.hid hF
    have hlen := hE.len
    have hnm : n * m ≤ 16384 := Nat.mul_le_mul hn2 hm2
    by_cases hlt : j < E.length
    · have hpq := hE.lt _ (getDE_mem hlt)
      obtain ⟨e, he⟩ : ∃ e, e = E.getD j Ent.zero := ⟨_, rfl⟩
      rw [← he] at hpq
      have HEE := Lib.hid he
      obtain ⟨hp, hq⟩ := hpq
      clear hE hS hF he
      go_wp2
      have HI := Lib.hid (show ∀ x, x ≤ i → Ens n m s t (addS nx1 nx2 j e E x) by rw [HEE.out]; exact addS_ens hM hN HE.out hlt)
      go_loopw [10, 12] (fun v8 v36 wq => ∃ (x : Nat) (A2 : Option Addr) (c2 : Nat), x ≤ i ∧ v36 = .int .i64 x ∧ v8 = .slice A2 (addS nx1 nx2 j e E x).length c2 ∧ fD ot1 ot2 e x = none ∧ Prs w3 wq g3 (.slice A2 (addS nx1 nx2 j e E x).length c2) (addS nx1 nx2 j e E x)) (fun _ v36 _ => i - (intOf v36).toNat)
      case atStart => exact ⟨0, _, _, Nat.zero_le _, rfl, rfl, rfl, HF.out⟩
      case round =>
        obtain ⟨x, A2, c3, hx, rfl, rfl, hfd, hF2⟩ := hrel
        have hE2 := HI.out x hx
        have hlen2 := hE2.len
        obtain ⟨T, hT⟩ := addS_pre (nx1 := nx1) (nx2 := nx2) j e E x
        have hj2 : j < (addS nx1 nx2 j e E x).length := by rw [hT, List.length_append]; omega
        have he2 : (addS nx1 nx2 j e E x).getD j Ent.zero = e := by rw [hT, getDE_pre hlt]; exact HEE.out.symm
        have HE2 := Lib.hid hE2
        have Hj2 := Lib.hid hj2
        have He2 := Lib.hid he2
        have HFD := Lib.hid hfd
        have HF2 := Lib.hid hF2
        have hzq : g3 ≤ wr.heap.size := by have := hF2.bel.size; omega
        have hbw : Below w.heap.size w wr := H3.out.trans (hF2.bel.mono (by omega))
        clear hE2 hT he2 hfd hF2
        by_cases hxi : x < i
        · obtain ⟨k0, _⟩ := (HA3.out.kept HF2.out.bel (by omega)).cells
          obtain ⟨g9, c9, e9, hg9, hPv, hWd⟩ := HF2.out.at_ (by omega)
          cases e9
          obtain ⟨Aw, cw, hwc, hwo⟩ := hWd j hj2
          rw [He2.out] at hwc hwo
          have hel : e.w.length ≤ 16384 := by rw [← He2.out]; have := HE2.out.wl j Hj2.out; omega
          have hwi := Owned.ints hwo (by omega)
          have HPV := Lib.hid hPv
          clear hWd hwo hPv
          go_wp2_with fail
          refine (rext Aw e.w.length cw e.w (x : Int) _ hwi (by omega)).mono ?_
          rintro r w8 ⟨A8, c8, rfl, hO8, hb8⟩
          have HF8 := Lib.hid (HF2.out.on hb8 hzq)
          have hPv8 := HPV.out.below hb8
          obtain ⟨a0, a1⟩ := hPv8.2 j hj2
          rw [He2.out] at a0 a1
          have HPV8 := Lib.hid hPv8
          have HO8 := Lib.hid (hO8.lower hzq)
          have hz8 : g3 ≤ w8.heap.size := by have := hb8.size; omega
          have hbw8 : Below w.heap.size w w8 := hbw.trans (hb8.mono hbw.size)
          clear hwi hwc k0 hPv8 hO8 hb8 HPV hbw
          obtain ⟨k0, k1, k2, k3, _⟩ := (HA3.out.kept HF8.out.bel (by omega)).cells
          obtain ⟨l0, l1, l2, l3, _⟩ := (HB3.out.kept HF8.out.bel (by omega)).cells
          obtain ⟨gB, oB, B1, nB, cB, eB, hgB, hdB, hrB⟩ := ho1.at_ hp
          obtain ⟨gD, oD, D1, nD, cD, eD, hgD, hdD, hrD⟩ := ho2.at_ hq
          obtain ⟨gA, oA, A1, nA, cA, eA, hgA, hdA, hrA⟩ := hx1.at_ hp
          obtain ⟨gC, oC, C1, nC, cC, eC, hgC, hdC, hrC⟩ := hx2.at_ hq
          have m1 := hrA.1
          have m2 := hrB.1
          have m3 := hrC.1
          have m4 := hrD.1
          have w1 := (hM.row e.p hp).1
          have w2 := (hM.row e.p hp).2.1
          have w3' := (hN.row e.q hq).1
          have w4 := (hN.row e.q hq).2.1
          obtain rfl : i = nA := by omega
          obtain rfl : i = nB := by omega
          obtain rfl : i = nC := by omega
          obtain rfl : i = nD := by omega
          clear m1 m2 m3 m4 w1 w2 w3' w4
          obtain ⟨hB1, iB1, eB1, lB, vB⟩ := hrB.at_ hxi
          obtain ⟨hD1, iD1, eD1, lD, vD⟩ := hrD.at_ hxi
          obtain ⟨hA1, iA1, eA1, lA, vA⟩ := hrA.at_ hxi
          obtain ⟨hC1, iC1, eC1, lC, vC⟩ := hrC.at_ hxi
          clear hrA hrB hrC hrD
          subst eA eB eC eD eA1 eB1 eC1 eD1
          have hdA := (hbw8.cell (p := ⟨gA, oA + e.p, none⟩) hgA).trans hdA
          have hdB := (hbw8.cell (p := ⟨gB, oB + e.p, none⟩) hgB).trans hdB
          have hdC := (hbw8.cell (p := ⟨gC, oC + e.q, none⟩) hgC).trans hdC
          have hdD := (hbw8.cell (p := ⟨gD, oD + e.q, none⟩) hgD).trans hdD
          have vA := (hbw8.cell (p := ⟨hA1, iA1 + x, none⟩) lA).trans vA
          have vB := (hbw8.cell (p := ⟨hB1, iB1 + x, none⟩) lB).trans vB
          have vC := (hbw8.cell (p := ⟨hC1, iC1 + x, none⟩) lC).trans vC
          have vD := (hbw8.cell (p := ⟨hD1, iD1 + x, none⟩) lD).trans vD
          have rB : (ot1.getD e.p []).getD x 0 = oN ot1 e.p x := rfl
          have rD : (ot2.getD e.q []).getD x 0 = oN ot2 e.q x := rfl
          have rA : (nx1.getD e.p []).getD x 0 = ((nN nx1 e.p x : Nat) : Int) := hM.nN_eq hp hxi
          have rC : (nx2.getD e.q []).getD x 0 = ((nN nx2 e.q x : Nat) : Int) := hN.nN_eq hq hxi
          rw [rB] at vB
          rw [rD] at vD
          rw [rA] at vA
          rw [rC] at vC
          clear rA rB rC rD hgA hgB hgC hgD lA lB lC lD
          by_cases hd : oN ot1 e.p x = oN ot2 e.q x
          · have hee : (oN ot1 e.p x != oN ot2 e.q x) = false := by simpa using hd
            have HXI := Lib.hid hxi
            have HFN := Lib.hid (fD_step HFD.out hd)
            have HST := Lib.hid (show addS nx1 nx2 j e E (x + 1) = addE (addS nx1 nx2 j e E x) (nxE nx1 nx2 j e x) from rfl)
            obtain ⟨e', hE'⟩ : ∃ e', e' = nxE nx1 nx2 j e x := ⟨_, rfl⟩
            have f1 : nN nx1 e.p x = e'.p := by rw [hE']; rfl
            have f2 : nN nx2 e.q x = e'.q := by rw [hE']; rfl
            have f3 : e'.w = e.w ++ [(x : Int)] := by rw [hE']; rfl
            rw [← hE'] at HST
            rw [f1] at vA
            rw [f2] at vC
            have F3 := Lib.hid f3
            generalize oN ot1 e.p x = y1 at vB hee
            generalize oN ot2 e.q x = y2 at vD hee
            clear hd f1 f2 f3 hE'
            go_wp2
            go_quiet (fail)
            clear hee vB vD hdB hdD k3 l3
            obtain ⟨q1, hq1⟩ : ∃ q1, q1 = nq := ⟨_, rfl⟩
            rw [← hq1]
            clear hq1
            go_wp2
            go_quiet (fail)
            have bq := below_drewN (below_drewN (Below.refl w8.heap.size w8) q1) nq
            clear k0 k1 k2 l0 l1 l2 hdA hdC vA vC a0 a1
            go_wp2
            generalize (w8.drewN q1).drewN nq = wk at bq ⊢
            have HFk := Lib.hid (HF8.out.on bq hz8)
            have hPvk := Lib.hid (HPV8.out.below bq)
            have HOk := Lib.hid (HO8.out.kept bq)
            have hzk : g3 ≤ wk.heap.size := by have := bq.size; omega
            have hbwk : Below w.heap.size w wk := hbw8.trans (bq.mono hbw8.size)
            clear bq HF8 HPV8 HO8 hbw8
            go_loopw [16, 17] (fun v16 v17 wq => ∃ k : Nat, k ≤ (addS nx1 nx2 j e E x).length ∧ v17 = .int .i64 k ∧ v16 = .bool (decide (hasE ((addS nx1 nx2 j e E x).take k) e'.p e'.q)) ∧ wq = wk) (fun _ v17 _ => (addS nx1 nx2 j e E x).length - (intOf v17).toNat)
            case atStart => exact ⟨0, Nat.zero_le _, rfl, by simp [hasE], rfl⟩
            case round =>
              obtain ⟨k, hk, rfl, rfl, rfl⟩ := hrel
              by_cases hkl : k < (addS nx1 nx2 j e E x).length
              · have HTS := Lib.hid (hasE_take_succ hkl e'.p e'.q)
                have HKL := Lib.hid hkl
                by_cases hkn : hasE ((addS nx1 nx2 j e E x).take k) e'.p e'.q
                · rw [decide_eq_true hkn]
                  have HN := Lib.hid (HTS.out.2 (.inl hkn))
                  clear hkn
                  go_wp2
                  go_roundw
                  case rel => exact ⟨k + 1, HKL.out, by go_num, by rw [decide_eq_true HN.out], by first | rfl | trivial⟩
                  case measure => have := HKL.out; simp [intOf]; omega
                · obtain ⟨a0, a1⟩ := hPvk.out.2 k hkl
                  rw [decide_eq_false hkn]
                  have HKN := Lib.hid hkn
                  clear hkn
                  by_cases h1 : ((addS nx1 nx2 j e E x).getD k Ent.zero).p = e'.p
                  · have c1 : ((((addS nx1 nx2 j e E x).getD k Ent.zero).p : Int) == (e'.p : Int)) = true := by rw [h1]; exact beq_self_eq_true _
                    by_cases h2 : ((addS nx1 nx2 j e E x).getD k Ent.zero).q = e'.q
                    · have c2 : ((((addS nx1 nx2 j e E x).getD k Ent.zero).q : Int) == (e'.q : Int)) = true := by rw [h2]; exact beq_self_eq_true _
                      have HN := Lib.hid (HTS.out.2 (.inr ⟨h1, h2⟩))
                      generalize ((addS nx1 nx2 j e E x).getD k Ent.zero).p = pk at a0 c1
                      generalize ((addS nx1 nx2 j e E x).getD k Ent.zero).q = qk at a1 c2
                      clear h1 h2
                      go_wp2
                      go_roundw
                      case rel => exact ⟨k + 1, HKL.out, by go_num, by rw [decide_eq_true HN.out], by first | rfl | trivial⟩
                      case measure => have := HKL.out; simp [intOf]; omega
                    · have c2 : ((((addS nx1 nx2 j e E x).getD k Ent.zero).q : Int) == (e'.q : Int)) = false := by rw [beq_eq_false_iff_ne]; omega
                      have HN := Lib.hid (show ¬ hasE ((addS nx1 nx2 j e E x).take (k + 1)) e'.p e'.q from fun h => (HTS.out.1 h).elim HKN.out fun h3 => h2 h3.2)
                      generalize ((addS nx1 nx2 j e E x).getD k Ent.zero).p = pk at a0 c1
                      generalize ((addS nx1 nx2 j e E x).getD k Ent.zero).q = qk at a1 c2
                      clear h1 h2
                      go_wp2
                      go_roundw
                      case rel => exact ⟨k + 1, HKL.out, by go_num, by rw [decide_eq_false HN.out], by first | rfl | trivial⟩
                      case measure => have := HKL.out; simp [intOf]; omega
                  · have c1 : ((((addS nx1 nx2 j e E x).getD k Ent.zero).p : Int) == (e'.p : Int)) = false := by rw [beq_eq_false_iff_ne]; omega
                    have HN := Lib.hid (show ¬ hasE ((addS nx1 nx2 j e E x).take (k + 1)) e'.p e'.q from fun h => (HTS.out.1 h).elim HKN.out fun h3 => h1 h3.1)
                    generalize ((addS nx1 nx2 j e E x).getD k Ent.zero).p = pk at a0 c1
                    clear h1 a1
                    go_wp2
                    go_roundw
                    case rel => exact ⟨k + 1, HKL.out, by go_num, by rw [decide_eq_false HN.out], by first | rfl | trivial⟩
                    case measure => have := HKL.out; simp [intOf]; omega
              · obtain rfl : k = (addS nx1 nx2 j e E x).length := by omega
                rw [List.take_length]
                by_cases hh : hasE (addS nx1 nx2 j e E x) e'.p e'.q
                · have HAE := Lib.hid (addE_in hh)
                  rw [decide_eq_true hh]
                  clear hh
                  go_wp2
                  go_roundw
                  case rel => exact ⟨x + 1, _, c3, HXI.out, by go_num, by rw [HST.out, HAE.out], HFN.out, by rw [HST.out, HAE.out]; exact HFk.out⟩
                  case measure => have := HXI.out; simp [intOf]; omega
                · have HAE := Lib.hid (addE_out hh)
                  rw [decide_eq_false hh]
                  clear hh
                  have HL5 := Lib.hid (show (addS nx1 nx2 j e E (x + 1)).length = (addS nx1 nx2 j e E x).length + 1 by rw [HST.out, HAE.out, List.length_append]; rfl)
                  have hOe := HOk.out
                  have hle : e'.w.length = e.w.length + 1 := by rw [F3.out, List.length_append]; rfl
                  rw [← F3.out, ← hle] at hOe
                  obtain ⟨A5, c5, W5, hr, hF5⟩ := HFk.out.push hzk e' hOe (by omega)
                  rw [hle] at hr
                  have HF5 := Lib.hid hF5
                  clear hF5 hOe hle
                  go_wp2_with (at_builtin; refine Lib.wpList_append_run _ rfl _ _ _ _ rfl _ _ rfl rfl _ _ hr ?_)
                  clear hr
                  go_wp2
                  go_roundw
                  case rel => exact ⟨x + 1, A5, c5, HXI.out, by go_num, by rw [HL5.out], HFN.out, by rw [HL5.out, HST.out, HAE.out]; exact HF5.out⟩
                  case measure => have := HXI.out; simp [intOf]; omega
          · have hne : (oN ot1 e.p x != oN ot2 e.q x) = true := by simpa using hd
            have HRR := Lib.hid (show R = some (e.w ++ [(x : Int)]) by
              rw [← HS.out, srch_hit hM hN HE.out hlt (by rw [← HEE.out]; exact fD_hit HFD.out hd hxi), ← HEE.out])
            generalize oN ot1 e.p x = y1 at vB hne
            generalize oN ot2 e.q x = y2 at vD hne
            clear hd hdA hdC vA vC k0 k1 k2 l0 l1 l2
            go_wp2
            go_quiet (fail)
            go_wp2
            go_ret2
            rw [HRR.out]
            have hO9 := (HO8.out.kept (below_drewN (Below.refl w8.heap.size w8) nq)).lower (base' := w.heap.size) (by omega)
            exact ⟨A8, c8, by rw [Option.getD_some, List.length_append]; rfl, by rw [Option.getD_some, List.length_append]; exact hO9, below_drewN hbw8 nq⟩
        · have hxe : x = i := by omega
          have HXE := Lib.hid hxe
          have HON := Lib.hid (show srch nx1 nx2 ot1 ot2 i (n * m) (addS nx1 nx2 j e E i) (j + 1) = R by
            have h1 := HFD.out
            rw [hxe, HEE.out] at h1
            have h2 := srch_on hM hN HE.out hlt h1
            rw [← HEE.out] at h2
            rw [h2, HS.out])
          have HJ2 := Lib.hid (show j + 1 ≤ (addS nx1 nx2 j e E x).length by have := Hj2.out; omega)
          obtain ⟨k0, _⟩ := (HA3.out.kept HF2.out.bel (by omega)).cells
          clear hxe
          go_wp2
          go_roundw
          case rel =>
            have h1 := HF2.out
            have h2 := HE2.out
            have h3 := HJ2.out
            rw [HXE.out] at h1 h2 h3 ⊢
            exact ⟨j + 1, addS nx1 nx2 j e E i, A2, c3, by go_num, rfl, h3, h2, HON.out, h1⟩
          case measure => simp [intOf]; omega
    · go_wp2
      go_ret2
      rw [← HS.out, srch_end hlt]
      exact ⟨none, 0, rfl, World.ownsRow_nil _ _ _ _, H3.out.trans (HF.out.bel.mono (by omega))⟩
end Go.Proofs.Ytogcecfeofbbnaa
end

section
/- The reference: Check, Distinguish, Equal, Upto and States. -/
namespace Go.Proofs.Ytogcecfeofbbnaa
open Go.RowKit

end Go.Proofs.Ytogcecfeofbbnaa
end

section
/- The reference: States. -/
namespace Go.Proofs.Ytogcecfeofbbnaa
open Go.RowKit

set_option maxRecDepth 100000 in
theorem rstates (i st : Int) (A B : Option Addr) (n c m d : Nat) (nx ot : List (List Int)) (s t : Int) (w : World) (hx : Lists w A n nx) (ho : Lists w B m ot) :
    Calls Try.prog 54 #[.agg #[.int .i64 i, .int .i64 st, .slice A n c, .slice B m d], .int .i64 s, .int .i64 t] w fun e w' => ∃ A' c', e = .returned (.tuple #[.slice A' ((sres i st nx ot s t).1.getD []).length c', .bool (sres i st nx ot s t).1.isSome, .int .i64 (sres i st nx ot s t).2]) ∧
      Owned w' w.heap.size (.slice A' ((sres i st nx ot s t).1.getD []).length c') ((sres i st nx ot s t).1.getD []) ∧ Below w.heap.size w w' := by
  have hb0 := alloc_below w (.cells #[.int .i64 i, .int .i64 st, .slice A n c, .slice B m d] 24)
  have HB1 := Lib.hid (mealy_box w (.int .i64 i) (.int .i64 st) (.slice A n c) (.slice B m d))
  obtain ⟨D0, hD0⟩ : ∃ D0, D0 = sres i st nx ot s t := ⟨_, rfl⟩
  rw [← hD0]
  have HD0 := Lib.hid hD0
  clear hD0
  go_enter Try.func54, Try.ntmps54
  go_wp2_with fail
  refine (rvalid _ _ _ _ _ _ _ _ _ _ _ (hx.below hb0) (ho.below hb0)).mono ?_
  rintro e w1 ⟨rfl, a1⟩
  have HB1 := Lib.hid (HB1.out.on9 a1)
  have b1 := bt hb0 a1
  clear hb0 a1
  by_cases hv : vld i st nx ot = 0
  · rw [hv]
    have HV := Lib.hid hv
    obtain ⟨i', s', n', rfl, rfl, hM⟩ := vld_zero hv
    have e1 := hx.1
    have e2 := ho.1
    have e3 := hM.nxl
    have e4 := hM.otl
    obtain rfl : n = n' := by omega
    obtain rfl : n = m := by omega
    clear e1 e2 e4 hv
    have hn := hx.2.1
    obtain ⟨k0, k1, k2, k3, _⟩ := HB1.out.cells
    by_cases h1 : 0 ≤ s
    · have d1 : decide (s < 0) = false := decide_eq_false (by omega)
      by_cases h2 : s < (n : Int)
      · have d2 : decide ((n : Int) ≤ s) = false := decide_eq_false (by omega)
        by_cases h3 : 0 ≤ t
        · have d3 : decide (t < 0) = false := decide_eq_false (by omega)
          by_cases h4 : t < (n : Int)
          · have d4 : decide ((n : Int) ≤ t) = false := decide_eq_false (by omega)
            obtain ⟨S, rfl⟩ : ∃ S : Nat, s = S := ⟨s.toNat, by omega⟩
            obtain ⟨T, rfl⟩ : ∃ T : Nat, t = T := ⟨t.toNat, by omega⟩
            have HD := Lib.hid (show D0 = (dst nx ot nx ot i' n n S T, 0) by rw [HD0.out]; unfold sres; rw [if_neg (by simp [HV.out]), if_pos (by rw [e3]; exact ⟨⟨h1, h2⟩, h3, h4⟩), e3]; rfl)
            have hS : S < n := by omega
            have hT : T < n := by omega
            clear HD0
            go_wp2_with fail
            refine (rfirst i' s' s' n n S T _ _ _ _ _ _ _ _ _ _ _ _ _ (hx.below b1) (ho.below b1) (hx.below b1) (ho.below b1) hM hM hS hT).mono ?_
            rintro e w9 ⟨A', c', rfl, hO, a9⟩
            have b9 := bt b1 a9
            have hO := hO.lower (base' := w.heap.size) b1.size
            generalize dst nx ot nx ot i' n n S T = R at HD hO ⊢
            have HO := Lib.hid hO
            clear hO
            go_wp2
            go_ret3
            rw [HD.out]
            exact ⟨A', c', rfl, HO.out, b9⟩
          · have d4 : decide ((n : Int) ≤ t) = true := decide_eq_true (by omega)
            have HD := Lib.hid (show D0 = (none, 2) by rw [HD0.out]; unfold sres; rw [if_neg (by simp [HV.out]), if_neg (by rw [e3]; exact fun H => h4 H.2.2)])
            clear HD0
            go_wp2
            go_ret3
            rw [HD.out]
            exact ⟨none, 0, rfl, World.ownsRow_nil _ _ _ _, b1⟩
        · have d3 : decide (t < 0) = true := decide_eq_true (by omega)
          have HD := Lib.hid (show D0 = (none, 2) by rw [HD0.out]; unfold sres; rw [if_neg (by simp [HV.out]), if_neg (by rw [e3]; exact fun H => h3 H.2.1)])
          clear HD0
          go_wp2
          go_ret3
          rw [HD.out]
          exact ⟨none, 0, rfl, World.ownsRow_nil _ _ _ _, b1⟩
      · have d2 : decide ((n : Int) ≤ s) = true := decide_eq_true (by omega)
        have HD := Lib.hid (show D0 = (none, 2) by rw [HD0.out]; unfold sres; rw [if_neg (by simp [HV.out]), if_neg (by rw [e3]; exact fun H => h2 H.1.2)])
        clear HD0
        go_wp2
        go_ret3
        rw [HD.out]
        exact ⟨none, 0, rfl, World.ownsRow_nil _ _ _ _, b1⟩
    · have d1 : decide (s < 0) = true := decide_eq_true (by omega)
      have HD := Lib.hid (show D0 = (none, 2) by rw [HD0.out]; unfold sres; rw [if_neg (by simp [HV.out]), if_neg (by rw [e3]; exact fun H => h1 H.1.1)])
      clear HD0
      go_wp2
      go_ret3
      rw [HD.out]
      exact ⟨none, 0, rfl, World.ownsRow_nil _ _ _ _, b1⟩
  · have hne : (vld i st nx ot != 0) = true := by simpa using hv
    have HD := Lib.hid (show D0 = (none, vld i st nx ot) by rw [HD0.out]; unfold sres; rw [if_pos hv])
    clear HD0
    generalize vld i st nx ot = E at hne HD ⊢
    clear hv
    go_wp2
    go_ret3
    rw [HD.out]
    exact ⟨none, 0, rfl, World.ownsRow_nil _ _ _ _, b1⟩
end Go.Proofs.Ytogcecfeofbbnaa
end

section
/- The reference's minimal machine: a search over states whose classes are numbered. -/
namespace Go.Proofs.Ytogcecfeofbbnaa

/-- The class of a state. -/
def clq (nx ot : List (List Int)) (i n s : Nat) : Nat := nmb (eqc nx ot i n) s
theorem Mok.clq_at {i st n : Nat} {nx ot : List (List Int)} (hM : Mok i st n nx ot) {s : Nat} (hs : s < n) : (pt nx ot i n (dep nx ot i n)).getD s 0 = clq nx ot i n s := by
  rw [pt_num hM, num_at _ hs]; rfl
theorem clq_lt (nx ot : List (List Int)) (i : Nat) {n s : Nat} (hs : s < n) : clq nx ot i n s < (reps (eqc nx ot i n) n).length := nmb_lt_reps _ hs
theorem clq_ltn (nx ot : List (List Int)) (i : Nat) {n s : Nat} (hs : s < n) : clq nx ot i n s < n := by have := clq_lt nx ot i hs; have := reps_le (eqc nx ot i n) n; omega
theorem Mok.quot_step {i st n : Nat} {nx ot : List (List Int)} (hM : Mok i st n nx ot) {s a : Nat} (hs : s < n) (ha : a < i) :
    oN (qO ot (eqc nx ot i n) n) (clq nx ot i n s) a = oN ot s a ∧ nN (qN nx i (eqc nx ot i n) n) (clq nx ot i n s) a = clq nx ot i n (nN nx s a) := by
  have hl := clq_lt nx ot i hs
  have hr := reps_get_lt (eqc nx ot i n) hl
  have hf := reps_at (eqc nx ot i n) hs
  obtain ⟨h1, h2⟩ := hM.eqc_step hr hs hf ha
  constructor
  · rw [← h1]; unfold oN; rw [qO_row _ _ hl]
  · have h3 := (nmb_eq (eqc nx ot i n)).2 h2
    show _ = nmb (eqc nx ot i n) (nN nx s a)
    rw [← h3]
    show (((qN nx i (eqc nx ot i n) n).getD _ []).getD a 0).toNat = _
    rw [qN_row _ _ _ hl, qR_at ha]
    exact Int.toNat_natCast _
/-- The states that are found behind s, as far as a inputs are tried. -/
def oA (nx ot : List (List Int)) (i n s : Nat) (l : List Nat) : Nat → List Nat
  | 0 => l
  | a + 1 => if clq nx ot i n (nN nx s a) ∈ (oA nx ot i n s l a).map (clq nx ot i n) then oA nx ot i n s l a else oA nx ot i n s l a ++ [nN nx s a]
theorem oA_in {nx ot : List (List Int)} {i n s a : Nat} {l : List Nat} (h : clq nx ot i n (nN nx s a) ∈ (oA nx ot i n s l a).map (clq nx ot i n)) : oA nx ot i n s l (a + 1) = oA nx ot i n s l a := by
  show (if _ then _ else _) = _; rw [if_pos h]
theorem oA_out {nx ot : List (List Int)} {i n s a : Nat} {l : List Nat} (h : ¬ clq nx ot i n (nN nx s a) ∈ (oA nx ot i n s l a).map (clq nx ot i n)) : oA nx ot i n s l (a + 1) = oA nx ot i n s l a ++ [nN nx s a] := by
  show (if _ then _ else _) = _; rw [if_neg h]
theorem Mok.oA_map {i st n : Nat} {nx ot : List (List Int)} (hM : Mok i st n nx ot) {s : Nat} (hs : s < n) {l : List Nat} : ∀ {a : Nat}, a ≤ i → (oA nx ot i n s l a).map (clq nx ot i n) = addR (qN nx i (eqc nx ot i n) n) (clq nx ot i n s) (l.map (clq nx ot i n)) a
  | 0, _ => rfl
  | a + 1, ha => by
    have ih := hM.oA_map hs (l := l) (a := a) (by omega)
    have h2 := (hM.quot_step hs (show a < i by omega)).2
    show _ = addN (addR _ _ _ a) (nN _ _ a)
    rw [h2, ← ih]
    unfold addN
    by_cases h : clq nx ot i n (nN nx s a) ∈ (oA nx ot i n s l a).map (clq nx ot i n)
    · rw [oA_in h, if_pos h]
    · rw [oA_out h, if_neg h, List.map_append]; rfl
theorem Mok.oA_lt {i st n : Nat} {nx ot : List (List Int)} (hM : Mok i st n nx ot) {s : Nat} (hs : s < n) {l : List Nat} (hl : ∀ x, x ∈ l → x < n) : ∀ {a : Nat}, a ≤ i → ∀ x, x ∈ oA nx ot i n s l a → x < n
  | 0, _, x, hx => hl x hx
  | a + 1, ha, x, hx => by
    by_cases h : clq nx ot i n (nN nx s a) ∈ (oA nx ot i n s l a).map (clq nx ot i n)
    · rw [oA_in h] at hx; exact hM.oA_lt hs hl (by omega) x hx
    · rw [oA_out h] at hx
      rcases List.mem_append.1 hx with hx | hx
      · exact hM.oA_lt hs hl (by omega) x hx
      · simp at hx; subst hx; exact hM.nN_lt hs (by omega)
theorem oA_pre (nx ot : List (List Int)) (i n s : Nat) (l : List Nat) : ∀ a, ∃ t, oA nx ot i n s l a = l ++ t
  | 0 => ⟨[], by simp [oA]⟩
  | a + 1 => by
    obtain ⟨t, ht⟩ := oA_pre nx ot i n s l a
    by_cases h : clq nx ot i n (nN nx s a) ∈ (oA nx ot i n s l a).map (clq nx ot i n)
    · exact ⟨t, by rw [oA_in h, ht]⟩
    · exact ⟨t ++ [nN nx s a], by rw [oA_out h, ht, List.append_assoc]⟩
/-- The numbers of classes, -1 for those that are not found yet. -/
def nbr (n : Nat) (L : List Nat) : List Int := (List.range n).map fun c => if c ∈ L then ((ixN L c : Nat) : Int) else -1
theorem nbr_len (n : Nat) (L : List Nat) : (nbr n L).length = n := by simp [nbr]
theorem nbr_at {n c : Nat} {L : List Nat} (h : c < n) : (nbr n L).getD c 0 = if c ∈ L then ((ixN L c : Nat) : Int) else -1 := by unfold nbr; simp [List.getD, h]
theorem nbr_nil (n : Nat) : nbr n [] = List.replicate n (-1) := by
  apply List.ext_getElem
  · simp [nbr]
  · intro c h1 h2; simp [nbr]
theorem nbr_set {n c : Nat} {L : List Nat} (hc : ¬ c ∈ L) : (nbr n L).set c ((L.length : Nat) : Int) = nbr n (L ++ [c]) := by
  apply List.ext_getElem
  · simp [nbr]
  · intro m h1 h2
    have hm : m < n := by simpa [nbr] using h2
    rw [List.getElem_set]
    by_cases e : c = m
    · subst e
      have h3 : ixN (L ++ [c]) c = L.length := by unfold ixN; exact idxOf_new hc
      rw [if_pos rfl]
      simp [nbr, h3]
    · rw [if_neg e]
      by_cases hin : m ∈ L
      · have h3 : ixN (L ++ [c]) m = ixN L m := by unfold ixN; exact idxOf_pre hin
        simp [nbr, hin, h3]
      · simp [nbr, hin, show ¬ m = c from fun h => e h.symm]
theorem ixN_pre {L t : List Nat} {x : Nat} (h : x ∈ L) : ixN (L ++ t) x = ixN L x := by unfold ixN; exact idxOf_pre h
/-- The rows of the minimal machine, by a state of the class. -/
theorem Mok.mn_rowN {i st n : Nat} {nx ot : List (List Int)} (hM : Mok i st n nx ot) {j s : Nat} (hj : j < (mnR nx ot i st n).length) (hs : s < n) (h : (mnR nx ot i st n).getD j 0 = clq nx ot i n s) :
    (mnN nx ot i st n).getD j [] = (List.range i).map fun a => ((ixN (mnR nx ot i st n) (clq nx ot i n (nN nx s a)) : Nat) : Int) := by
  unfold mnN
  rw [tr_row hj, h]
  unfold trR
  refine List.map_congr_left fun a ha => ?_
  rw [List.mem_range] at ha
  rw [(hM.quot_step hs ha).2]
theorem Mok.mn_rowO {i st n : Nat} {nx ot : List (List Int)} (hM : Mok i st n nx ot) {j s : Nat} (hj : j < (mnR nx ot i st n).length) (hs : s < n) (h : (mnR nx ot i st n).getD j 0 = clq nx ot i n s) :
    (mnO nx ot i st n).getD j [] = (List.range i).map fun a => oN ot s a := by
  unfold mnO
  rw [tr_out hj, h]
  have hl := clq_lt nx ot i hs
  have hlen := ((hM.quot (eqc nx ot i n)).row _ hl).2.1
  refine list_ext_rows 0 (by rw [hlen]; simp) fun a ha => ?_
  rw [hlen] at ha
  have h1 := (hM.quot_step hs ha).1
  unfold oN at h1
  rw [h1]
  simp [List.getD, ha, oN]

/-- The search stands at place j of the states l. -/
structure Srch (nx ot : List (List Int)) (i st n j : Nat) (l : List Nat) : Prop where
  run : bfs (qN nx i (eqc nx ot i n) n) i (reps (eqc nx ot i n) n).length (l.map (clq nx ot i n)) j = mnR nx ot i st n
  stt : Stt (reps (eqc nx ot i n) n).length (l.map (clq nx ot i n))
  lt : ∀ x, x ∈ l → x < n
  le : j ≤ l.length
section
variable {nx ot : List (List Int)} {i st n j : Nat} {l : List Nat}
theorem Srch.start (hM : Mok i st n nx ot) : Srch nx ot i st n 0 [st] := by
  have hQ := hM.quot (eqc nx ot i n)
  refine ⟨?_, Stt.one (clq_lt nx ot i hM.st), fun x hx => by simp at hx; subst hx; exact hM.st, Nat.zero_le _⟩
  show bfs _ i _ [nmb (eqc nx ot i n) st] 0 = rch _ i _
  unfold rch
  rw [hQ.nxl]
theorem Srch.pre (h : Srch nx ot i st n j l) : ∃ t, mnR nx ot i st n = l.map (clq nx ot i n) ++ t := by
  obtain ⟨t, ht⟩ := bfs_pre (qN nx i (eqc nx ot i n) n) i (reps (eqc nx ot i n) n).length (l.map (clq nx ot i n)) j
  exact ⟨t, by rw [← h.run]; exact ht⟩
theorem getD_map0 (f : Nat → Nat) (l : List Nat) {j : Nat} (h : j < l.length) : (l.map f).getD j 0 = f (l.getD j 0) := getD_map f l 0 0 h
theorem Srch.at_ (h : Srch nx ot i st n j l) (hj : j < l.length) : j < (mnR nx ot i st n).length ∧ (mnR nx ot i st n).getD j 0 = clq nx ot i n (l.getD j 0) := by
  obtain ⟨t, ht⟩ := h.pre
  have hl : j < (l.map (clq nx ot i n)).length := by rw [List.length_map]; exact hj
  rw [ht]
  exact ⟨by rw [List.length_append]; omega, by rw [getD_pre hl, getD_map0 _ _ hj]⟩
theorem Srch.step (hM : Mok i st n nx ot) (h : Srch nx ot i st n j l) (hj : j < l.length) : Srch nx ot i st n (j + 1) (oA nx ot i n (l.getD j 0) l i) := by
  have hQ := hM.quot (eqc nx ot i n)
  have hs := h.lt _ (getD_mem hj)
  have hmap := hM.oA_map hs (l := l) (Nat.le_refl i)
  have hjl : j < (l.map (clq nx ot i n)).length := by rw [List.length_map]; exact hj
  have hg := getD_map0 (clq nx ot i n) l hj
  obtain ⟨t, ht⟩ := oA_pre nx ot i n (l.getD j 0) l i
  refine ⟨?_, ?_, hM.oA_lt hs h.lt (Nat.le_refl i), ?_⟩
  · rw [hmap, ← hg, bfs_on hQ h.stt hjl]; exact h.run
  · rw [hmap]; exact addR_stt hQ h.stt (clq_lt nx ot i hs) i (Nat.le_refl i)
  · rw [ht, List.length_append]; omega
theorem Srch.end_ (h : Srch nx ot i st n j l) (hj : ¬ j < l.length) : l.map (clq nx ot i n) = mnR nx ot i st n := by
  rw [← h.run, bfs_end _ _ _ (by rw [List.length_map]; exact hj)]
theorem Srch.len (h : Srch nx ot i st n j l) : l.length ≤ n := by
  have h1 := h.stt.len
  have h2 := reps_le (eqc nx ot i n) n
  rw [List.length_map] at h1
  omega
theorem oA_mono (nx ot : List (List Int)) (i n s : Nat) (l : List Nat) (a : Nat) : ∀ d, ∃ t, oA nx ot i n s l (a + d) = oA nx ot i n s l a ++ t
  | 0 => ⟨[], by simp⟩
  | d + 1 => by
    obtain ⟨t, ht⟩ := oA_mono nx ot i n s l a d
    by_cases h : clq nx ot i n (nN nx s (a + d)) ∈ (oA nx ot i n s l (a + d)).map (clq nx ot i n)
    · exact ⟨t, by rw [show a + (d + 1) = (a + d) + 1 by omega, oA_in h, ht]⟩
    · exact ⟨t ++ [nN nx s (a + d)], by rw [show a + (d + 1) = (a + d) + 1 by omega, oA_out h, ht, List.append_assoc]⟩
theorem oA_has {s a : Nat} : clq nx ot i n (nN nx s a) ∈ (oA nx ot i n s l (a + 1)).map (clq nx ot i n) := by
  by_cases h : clq nx ot i n (nN nx s a) ∈ (oA nx ot i n s l a).map (clq nx ot i n)
  · rw [oA_in h]; exact h
  · rw [oA_out h]; simp
theorem Srch.rowN (hM : Mok i st n nx ot) (h : Srch nx ot i st n j l) (hj : j < l.length) {a : Nat} (ha : a < i) :
    ((mnN nx ot i st n).getD j []).take (a + 1) = ((mnN nx ot i st n).getD j []).take a ++ [((ixN ((oA nx ot i n (l.getD j 0) l (a + 1)).map (clq nx ot i n)) (clq nx ot i n (nN nx (l.getD j 0) a)) : Nat) : Int)] := by
  obtain ⟨h1, h2⟩ := h.at_ hj
  have hs := h.lt _ (getD_mem hj)
  rw [hM.mn_rowN h1 hs h2, take_next (by simpa using ha)]
  obtain ⟨t, ht⟩ := (h.step hM hj).pre
  obtain ⟨u, hu⟩ := oA_mono nx ot i n (l.getD j 0) l (a + 1) (i - (a + 1))
  rw [show a + 1 + (i - (a + 1)) = i by omega] at hu
  have e : ixN (mnR nx ot i st n) (clq nx ot i n (nN nx (l.getD j 0) a)) = ixN ((oA nx ot i n (l.getD j 0) l (a + 1)).map (clq nx ot i n)) (clq nx ot i n (nN nx (l.getD j 0) a)) := by
    rw [ht, hu, List.map_append, List.append_assoc]
    exact ixN_pre oA_has
  rw [← e]
  simp [ha]
theorem Srch.rowO (hM : Mok i st n nx ot) (h : Srch nx ot i st n j l) (hj : j < l.length) {a : Nat} (ha : a < i) :
    ((mnO nx ot i st n).getD j []).take (a + 1) = ((mnO nx ot i st n).getD j []).take a ++ [oN ot (l.getD j 0) a] := by
  obtain ⟨h1, h2⟩ := h.at_ hj
  have hs := h.lt _ (getD_mem hj)
  rw [hM.mn_rowO h1 hs h2, take_next (by simpa using ha)]
  simp [ha]
theorem Srch.lens (hM : Mok i st n nx ot) (h : Srch nx ot i st n j l) (hj : j < l.length) : ((mnN nx ot i st n).getD j []).length = i ∧ ((mnO nx ot i st n).getD j []).length = i := by
  obtain ⟨h1, h2⟩ := h.at_ hj
  have hs := h.lt _ (getD_mem hj)
  rw [hM.mn_rowN h1 hs h2, hM.mn_rowO h1 hs h2]
  exact ⟨by simp, by simp⟩
end
end Go.Proofs.Ytogcecfeofbbnaa
end

section
/- Rows of lists in blocks of a kind: they stay where other blocks turn. -/
namespace Go.Proofs.Ytogcecfeofbbnaa
open Go.RowKit

/-- The slice value v is a row of lists in blocks from base on of which P holds. -/
def RowsP (w : World) (base : Nat) (v : Value) (xss : List (List Int)) (P : Nat → Prop) : Prop :=
  ∃ vs : List Value, w.ownsRow base 27 1 v xss.length vs ∧ (∀ g, v.ownBlock = some g → P g) ∧
    ∀ j, j < xss.length → ∃ A c, vs[j]? = some (.slice A (xss.getD j []).length c) ∧ Owned w base (.slice A (xss.getD j []).length c) (xss.getD j []) ∧ ∀ g, (Value.slice A (xss.getD j []).length c).ownBlock = some g → P g
theorem RowsP.own {w : World} {base : Nat} {v : Value} {xss : List (List Int)} {P : Nat → Prop} (h : RowsP w base v xss P) : OwnedL w base v xss := by
  obtain ⟨vs, h1, _, h3⟩ := h
  exact ⟨vs, h1, fun j hj => by obtain ⟨A, c, a1, a2, _⟩ := h3 j hj; exact ⟨A, c, a1, a2⟩⟩
theorem RowsP.nil (w : World) (base : Nat) (P : Nat → Prop) : RowsP w base (.slice none 0 0) [] P := ⟨[], World.ownsRow_nil _ _ _ _, fun g h => by simp [Value.ownBlock] at h, fun j h => absurd h (by simp)⟩
theorem RowsP.kept {w w' : World} {base : Nat} {v : Value} {xss : List (List Int)} {P P' : Nat → Prop} (h : RowsP w base v xss P) (hk : ∀ g o, w.heap[g]? = some o → base ≤ g → P g → w'.heap[g]? = some o) (hP : ∀ g, g < w.heap.size → P g → P' g) : RowsP w' base v xss P' := by
  obtain ⟨vs, h1, h2, h3⟩ := h
  refine ⟨vs, ⟨h1.1, ?_⟩, fun g hg => hP g (World.ownsRow.lt h1 g hg).2 (h2 g hg), fun j hj => ?_⟩
  · rcases h1.2 with e | ⟨g, cap, cur, hv, hbg, hg, r⟩
    · exact .inl e
    · exact .inr ⟨g, cap, cur, hv, hbg, hk g _ hg hbg (h2 g (by rw [hv]; rfl)), r⟩
  · obtain ⟨A, c, a1, a2, a3⟩ := h3 j hj
    refine ⟨A, c, a1, ⟨a2.1, ?_⟩, fun g hg => hP g (World.ownsRow.lt a2 g hg).2 (a3 g hg)⟩
    rcases a2.2 with e | ⟨g, cap, cur, hv, hbg, hg, r⟩
    · exact .inl e
    · exact .inr ⟨g, cap, cur, hv, hbg, hk g _ hg hbg (a3 g (by rw [hv]; rfl)), r⟩
/-- append of one list to a row of lists. -/
theorem run_append_rows {w : World} {base : Nat} {v : Value} {xss : List (List Int)} {P : Nat → Prop} {B : Option Addr} {m d : Nat} {xs : List Int} (h : RowsP w base v xss P) (hx : Owned w base (.slice B m d) xs) (hxP : ∀ g, (Value.slice B m d).ownBlock = some g → P g) (hnew : ∀ g, w.heap.size ≤ g → P g) (hbase : base ≤ w.heap.size) (hl : xss.length < 1759218604441) :
    ∃ A c w', (Builtin.append_ #[22, 22] 22 #[v, .slice (some ⟨w.heap.size, 0, none⟩) 1 1]).run Try.prog (w.alloc (.cells #[.slice B m d] 27)) = .ok (.slice A (xss.length + 1) c) w' ∧
      RowsP w' base (.slice A (xss.length + 1) c) (xss ++ [xs]) P ∧ Below base w w' ∧ (∀ t, t ≠ 27 → KeptT t w w') ∧ KeptB v.ownBlock w w' ∧ Moved w v (.slice A (xss.length + 1) c) := by
  obtain ⟨i, hi, hz0, hz1, hz2⟩ := info_parts infol
  obtain ⟨vs, ho, hvP, hv⟩ := h
  have hbz := alloc_below w (.cells #[.slice B m d] 27)
  have ho1 : (w.alloc (.cells #[.slice B m d] 27)).ownsRow base 27 1 v xss.length vs := by
    refine ⟨ho.1, ?_⟩
    rcases ho.2 with e | ⟨g, cap, cur, hv, hbg, hg, r⟩
    · exact .inl e
    · exact .inr ⟨g, cap, cur, hv, hbg, (hbz.block g (heap_lt hg)).trans hg, r⟩
  obtain ⟨v', w', hr, h1, h2, _, hmv⟩ := run_append_own_at (P := Try.prog) (w.alloc (.cells #[.slice B m d] 27)) base 22 22 27 i (.slice none 0 0) 1 24 Try.underlying22 hi hz0 hz1 hz2 rfl (by decide) v _ _ ho1 ⟨w.heap.size, 0, none⟩ 1 1 [.slice B m d] (by simp)
    (by
      intro j u hu
      cases j with
      | zero =>
        simp at hu
        subst hu
        simp [Addr.add]
      | succ j => simp at hu)
    (by intro u hu; simp at hu; subst hu; rfl) (by unfold maxLen; omega) (by omega) (Nat.le_trans hbase hbz.size)
  have hs : ∀ t, t ≠ 27 → KeptT t w w' := fun t ht => (KeptT.of_below hbz).trans (KeptT.grown h2 ho1 ht)
  have hform : ∃ A c, v' = .slice A (xss.length + 1) c := by
    rcases h1.2 with ⟨rfl, h0⟩ | ⟨g, cap, cur, rfl, _⟩
    · have := h1.1; rw [h0] at this; simp at this
    · exact ⟨_, _, rfl⟩
  obtain ⟨A, c, rfl⟩ := hform
  have hkb : KeptB v.ownBlock w w' := fun g o e hne => (h2.block g (Nat.lt_of_lt_of_le (heap_lt e) hbz.size) (fun e2 => hne e2.symm)).trans ((hbz.block g (heap_lt e)).trans e)
  have hmoved : Moved w v (.slice A (xss.length + 1) c) := by
    rcases hmv with e | e
    · exact .inl e
    · exact .inr ⟨_, by simp, e⟩
  have hn : m = xs.length := by obtain ⟨A', c', e⟩ := hx.form; cases e; rfl
  subst hn
  have hP' : ∀ g, (Value.slice A (xss.length + 1) c).ownBlock = some g → P g := fun g hg => by
    rcases hmoved with e | ⟨g', hg', e⟩
    · exact hvP g (by rw [← e]; exact hg)
    · rw [e] at hg; injection hg with hg; subst hg; exact hnew _ hg'
  refine ⟨A, c, w', hr, ⟨vs ++ [.slice B xs.length d], by rw [List.length_append]; exact h1, hP', fun j hj => ?_⟩, (hbz.mono hbase).trans ((Below.refl _ _).grown h2 (Nat.le_trans hbase hbz.size) (fun k hk => (World.ownsRow.lt ho1 k hk).1)), hs, hkb, hmoved⟩
  have hvl : vs.length = xss.length := by have := ho.1; omega
  by_cases e : j < xss.length
  · obtain ⟨A2, c2, h3, h4, h5⟩ := hv j e
    have hg : (xss ++ [xs]).getD j [] = xss.getD j [] := by rw [List.getD_eq_getElem?_getD, List.getD_eq_getElem?_getD, List.getElem?_append_left e]
    rw [hg]
    exact ⟨A2, c2, by rw [List.getElem?_append_left (by omega)]; exact h3, h4.keptT (hs _ (by decide)), h5⟩
  · have hjl : j = xss.length := by simp at hj; omega
    subst hjl
    have hg : (xss ++ [xs]).getD xss.length [] = xs := by simp
    rw [hg]
    exact ⟨B, d, by rw [List.getElem?_append_right (by omega), hvl]; simp, hx.keptT (hs _ (by decide)), hxP⟩
/-- They stay, too, where a row of lists beside them grows. -/
theorem RowsP.beside {w w' : World} {base : Nat} {v u : Value} {xss : List (List Int)} {P : Nat → Prop} (h : RowsP w base v xss P) (hT : KeptT 3 w w') (hB : KeptB u.ownBlock w w') (ha : Apart u v) : RowsP w' base v xss P := by
  obtain ⟨vs, h1, h2, h3⟩ := h
  refine ⟨vs, ⟨h1.1, ?_⟩, h2, fun j hj => ?_⟩
  · rcases h1.2 with e | ⟨g, cap, cur, hv, hbg, hg, r⟩
    · exact .inl e
    · exact .inr ⟨g, cap, cur, hv, hbg, hB g _ hg (fun e => ha g e (by rw [hv]; rfl)), r⟩
  · obtain ⟨A, c, a1, a2, a3⟩ := h3 j hj
    refine ⟨A, c, a1, ⟨a2.1, ?_⟩, a3⟩
    rcases a2.2 with e | ⟨g, cap, cur, hv, hbg, hg, r⟩
    · exact .inl e
    · exact .inr ⟨g, cap, cur, hv, hbg, hT g _ hg, r⟩
end Go.Proofs.Ytogcecfeofbbnaa
end

section
/- The reference's minimal machine: what holds of the rows that a round writes. -/
namespace Go.Proofs.Ytogcecfeofbbnaa
open Go.RowKit

/-- Within a round: order, numbers, and the two rows that are made; everything else of the round's start stands. -/
structure Rnd (w2 wo : World) (bo gn n : Nat) (vo0 : Value) (W : World) (vo vx vy : Value) (L N X Y : List Int) : Prop where
  ord : Owned W bo vo L
  num : Owned W gn (.slice (some ⟨gn, 0, none⟩) n n) N
  ong : vo.ownBlock ≠ some gn
  nxt : Owned W wo.heap.size vx X
  out : Owned W wo.heap.size vy Y
  axy : Apart vx vy
  aox : Apart vo vx
  aoy : Apart vo vy
  kx : ∀ g o, wo.heap[g]? = some o → g ≠ gn → vo0.ownBlock ≠ some g → W.heap[g]? = some o
  mv : Moved wo vo0 vo
  bel : Below bo w2 W
  size : wo.heap.size ≤ W.heap.size
section
variable {w2 wo W : World} {bo gn n : Nat} {vo0 vo vx vy : Value} {L N X Y : List Int}
theorem Rnd.drew (h : Rnd w2 wo bo gn n vo0 W vo vx vy L N X Y) (k : Nat) : Rnd w2 wo bo gn n vo0 (W.drewN k) vo vx vy L N X Y :=
  ⟨h.ord, h.num, h.ong, h.nxt, h.out, h.axy, h.aox, h.aoy, h.kx, h.mv, below_drewN h.bel k, h.size⟩
theorem not_own_of_ge {w : World} {base g : Nat} {v : Value} {xs : List Int} (h : Owned w base v xs) (hg : g < base) : v.ownBlock ≠ some g := fun e => by have := (h.lt g e).1; omega
/-- number[c] = x. -/
theorem Rnd.store (h : Rnd w2 wo bo gn n vo0 W vo vx vy L N X Y) (hb : bo ≤ gn) (hg : gn < wo.heap.size) (c : Nat) (x : Int) : Rnd w2 wo bo gn n vo0 (W.setCell ⟨gn, c, none⟩ (.int .i64 x)) vo vx vy L (N.set c x) X Y := by
  have hk : KeptB (some gn) W (W.setCell ⟨gn, c, none⟩ (.int .i64 x)) := fun g o e hne => (heap_setCell_other W ⟨gn, c, none⟩ g _ (fun H => hne (by rw [H]))).trans e
  have ap : ∀ v : Value, v.ownBlock ≠ some gn → Apart (.slice (some ⟨gn, 0, none⟩) n n) v := fun v hv g h1 h2 => by
    have : gn = g := by simpa [Value.ownBlock] using h1
    subst this; exact hv h2
  have e : (Value.slice (some ⟨gn, 0, none⟩) n n).ownBlock = some gn := rfl
  rw [← e] at hk
  refine ⟨h.ord.keptB hk (ap _ h.ong), h.num.stored c x, h.ong, h.nxt.keptB hk (ap _ (not_own_of_ge h.nxt hg)), h.out.keptB hk (ap _ (not_own_of_ge h.out hg)), h.axy, h.aox, h.aoy, fun g o e1 e2 e3 => ?_, h.mv, h.bel.setCell (p := ⟨gn, c, none⟩) hb _, ?_⟩
  · exact (heap_setCell_other W ⟨gn, c, none⟩ g _ e2).trans (h.kx g o e1 e2 e3)
  · have := h.size; simpa using this
/-- append(order, x). -/
theorem Rnd.push (h : Rnd w2 wo bo gn n vo0 W vo vx vy L N X Y) (hb : bo ≤ wo.heap.size) (hg : gn < wo.heap.size) (x : Int) (hl : L.length < 17592186044416) :
    ∃ A c W', (Builtin.append_ #[27, 27] 27 #[vo, .slice (some ⟨W.heap.size, 0, none⟩) 1 1]).run Try.prog (W.alloc (.cells #[.int .i64 x] 3)) = .ok (.slice A (L.length + 1) c) W' ∧ Rnd w2 wo bo gn n vo0 W' (.slice A (L.length + 1) c) vx vy (L ++ [x]) N X Y := by
  have hs := h.size
  obtain ⟨A, c, W', h1, h2, h3, h4, h5⟩ := run_append_onek h.ord x (by omega) hl
  have hzW : W.heap.size ≤ W'.heap.size := h3.size
  refine ⟨A, c, W', h1, h2, h.num.keptB h4 ?_, ?_, h.nxt.keptB h4 h.aox, h.out.keptB h4 h.aoy, h.axy, h.aox.movedI h5 h.nxt, h.aoy.movedI h5 h.out, fun g o e1 e2 e3 => ?_, ?_, h.bel.trans h3, by omega⟩
  · intro g e1 e2
    have : gn = g := by simpa [Value.ownBlock] using e2
    subst this; exact h.ong e1
  · rcases h5 with e | ⟨g, hg2, e⟩
    · rw [e]; exact h.ong
    · rw [e]; intro H; injection H with H; omega
  · have hW := h.kx g o e1 e2 e3
    refine h4 g o hW fun e => ?_
    rcases h.mv with e4 | ⟨g', hg', e4⟩
    · rw [e4] at e; exact e3 e
    · rw [e4] at e; injection e with e; have := heap_lt e1; omega
  · rcases h5 with e | ⟨g, hg2, e⟩
    · rcases h.mv with e4 | ⟨g', hg', e4⟩
      · exact .inl (e.trans e4)
      · exact .inr ⟨g', hg', e.trans e4⟩
    · exact .inr ⟨g, by omega, e⟩
/-- append(next, x). -/
theorem Rnd.next (h : Rnd w2 wo bo gn n vo0 W vo vx vy L N X Y) (hb : bo ≤ wo.heap.size) (hg : gn < wo.heap.size) (x : Int) (hl : X.length < 17592186044416) :
    ∃ A c W', (Builtin.append_ #[27, 27] 27 #[vx, .slice (some ⟨W.heap.size, 0, none⟩) 1 1]).run Try.prog (W.alloc (.cells #[.int .i64 x] 3)) = .ok (.slice A (X.length + 1) c) W' ∧ Rnd w2 wo bo gn n vo0 W' vo (.slice A (X.length + 1) c) vy L N (X ++ [x]) Y := by
  have hs := h.size
  obtain ⟨A, c, W', h1, h2, h3, h4, h5⟩ := run_append_onek h.nxt x hs hl
  have hzW : W.heap.size ≤ W'.heap.size := h3.size
  refine ⟨A, c, W', h1, h.ord.keptB h4 h.aox.symm, h.num.keptB h4 ?_, h.ong, h2, h.out.keptB h4 h.axy, h.axy.movedI h5 h.out, (h.aox.symm.movedI h5 h.ord).symm, h.aoy, fun g o e1 e2 e3 => ?_, h.mv, h.bel.trans (h3.mono hb), by omega⟩
  · intro g e1 e2
    have : gn = g := by simpa [Value.ownBlock] using e2
    subst this; exact not_own_of_ge h.nxt hg e1
  · exact h4 g o (h.kx g o e1 e2 e3) (not_own_of_ge h.nxt (heap_lt e1))
/-- append(outs, y), behind any number of draws. -/
theorem Rnd.outs (h : Rnd w2 wo bo gn n vo0 W vo vx vy L N X Y) (hb : bo ≤ wo.heap.size) (hg : gn < wo.heap.size) (y : Int) (hl : Y.length < 17592186044416) :
    ∃ F : Nat → (Option Addr × Nat) × World, ∀ k, (Builtin.append_ #[27, 27] 27 #[vy, .slice (some ⟨W.heap.size, 0, none⟩) 1 1]).run Try.prog ((W.drewN k).alloc (.cells #[.int .i64 y] 3)) = .ok (.slice (F k).1.1 (Y.length + 1) (F k).1.2) (F k).2 ∧ Rnd w2 wo bo gn n vo0 (F k).2 vo vx (.slice (F k).1.1 (Y.length + 1) (F k).1.2) L N X (Y ++ [y]) ∧ Below bo W (F k).2 := by
  refine skol (p := fun k (r : (Option Addr × Nat) × World) => (Builtin.append_ #[27, 27] 27 #[vy, .slice (some ⟨W.heap.size, 0, none⟩) 1 1]).run Try.prog ((W.drewN k).alloc (.cells #[.int .i64 y] 3)) = .ok (.slice r.1.1 (Y.length + 1) r.1.2) r.2 ∧ Rnd w2 wo bo gn n vo0 r.2 vo vx (.slice r.1.1 (Y.length + 1) r.1.2) L N X (Y ++ [y]) ∧ Below bo W r.2) fun k => ?_
  have h := h.drew k
  have hs := h.size
  obtain ⟨A, c, W', h1, h2, h3, h4, h5⟩ := run_append_onek h.out y hs hl
  have hzW : (W.drewN k).heap.size ≤ W'.heap.size := h3.size
  refine ⟨((A, c), W'), h1, ⟨h.ord.keptB h4 h.aoy.symm, h.num.keptB h4 ?_, h.ong, h.nxt.keptB h4 h.axy.symm, h2, (h.axy.symm.movedI h5 h.nxt).symm, h.aox, (h.aoy.symm.movedI h5 h.ord).symm, fun g o e1 e2 e3 => ?_, h.mv, h.bel.trans (h3.mono hb), Nat.le_trans hs hzW⟩, (below_drewN (Below.refl _ _) k).trans (h3.mono hb)⟩
  · intro g e1 e2
    have : gn = g := by simpa [Value.ownBlock] using e2
    subst this; exact not_own_of_ge h.out hg e1
  · exact h4 g o (h.kx g o e1 e2 e3) (not_own_of_ge h.out (heap_lt e1))
end
end Go.Proofs.Ytogcecfeofbbnaa
end

section
/- The reference's minimal machine: the end of a round. -/
namespace Go.Proofs.Ytogcecfeofbbnaa
open Go.RowKit

theorem Owned.notBlock {w : World} {base g : Nat} {v : Value} {xs : List Int} {a b c d : Value} (h : Owned w base v xs) (hg : Mblk w g a b c d) : v.ownBlock ≠ some g := by
  intro e
  rcases h.2 with ⟨e2, _⟩ | ⟨g', cap, cur, hv, _, hg', _⟩
  · rw [e2] at e; simp [Value.ownBlock] at e
  · rw [hv] at e
    have : g' = g := by simpa [Value.ownBlock] using e
    subst this
    have h2 := hg'.symm.trans hg
    injection h2 with h2
    injection h2 with _ h3
    exact absurd h3 (by decide)
section
variable {w2 wo W : World} {bo n i j gT : Nat} {vo0 vo a b : Value} {AX AY AN AO : Option Addr} {cX cY cN cO : Nat} {L L0 N X Y : List Int} {M1 M2 : List (List Int)}
/-- The rows at the end of a round, and the machine's block, in the round's world. -/
theorem Rnd.rows (H : Rnd w2 wo bo (bo + 1) n vo0 W vo (.slice AX i cX) (.slice AY i cY) L N X Y) (h0 : Owned wo bo vo0 L0) (hgT : bo + 2 ≤ gT) (hT : Mblk wo gT a b (.slice AN j cN) (.slice AO j cO)) {u : Value} {M : List (List Int)} (hR : RowsP wo gT u M (fun g => vo0.ownBlock ≠ some g)) :
    Mblk W gT a b (.slice AN j cN) (.slice AO j cO) ∧ RowsP W gT u M (fun g => vo.ownBlock ≠ some g) := by
  refine ⟨H.kx gT _ hT (by omega) (h0.notBlock hT), hR.kept (fun g o e hb hp => H.kx g o e (by omega) hp) fun g hg hp e => ?_⟩
  rcases H.mv with e4 | ⟨g', hg', e4⟩
  · rw [e4] at e; exact hp e
  · rw [e4] at e; injection e with e; omega
end
theorem takeL {xss : List (List Int)} {j : Nat} (h : j < xss.length) : xss.take j ++ [xss.getD j []] = xss.take (j + 1) := by
  rw [List.take_add_one, List.getD_eq_getElem?_getD, List.getElem?_eq_getElem h]; rfl
theorem RowsP.keptTT {w w' : World} {base : Nat} {v : Value} {xss : List (List Int)} {P : Nat → Prop} (h : RowsP w base v xss P) (hT : KeptT 3 w w') (hT2 : KeptT 27 w w') : RowsP w' base v xss P := by
  obtain ⟨vs, h1, h2, h3⟩ := h
  refine ⟨vs, ⟨h1.1, ?_⟩, h2, fun j hj => ?_⟩
  · rcases h1.2 with e | ⟨g, cap, cur, hv, hbg, hg, r⟩
    · exact .inl e
    · exact .inr ⟨g, cap, cur, hv, hbg, hT2 g _ hg, r⟩
  · obtain ⟨A, c, a1, a2, a3⟩ := h3 j hj
    exact ⟨A, c, a1, a2.keptT hT, a3⟩
theorem Mblk.setT {w : World} {g : Nat} {a b c d : Value} (h : Mblk w g a b c d) (k : Nat) (v : Value) {t : TypeId} (ht : t ≠ 24) : KeptT t w (w.setCell ⟨g, k, none⟩ v) := by
  intro g' cs e
  refine (heap_setCell_other w ⟨g, k, none⟩ g' _ (fun H => ?_)).trans e
  have H : g' = g := H
  subst H
  have h2 := e.symm.trans h
  injection h2 with h2
  injection h2 with _ h3
  exact ht h3
/-- What holds between two rounds. -/
structure Rnf (w2 W : World) (bo gT n : Nat) (a b vo vN vO : Value) (L N : List Int) (M1 M2 : List (List Int)) : Prop where
  ord : Owned W bo vo L
  num : Owned W (bo + 1) (.slice (some ⟨bo + 1, 0, none⟩) n n) N
  box : Mblk W gT a b vN vO
  nxt : RowsP W gT vN M1 (fun g => vo.ownBlock ≠ some g)
  out : RowsP W gT vO M2 (fun g => vo.ownBlock ≠ some g)
  ap : Apart vN vO
  bel : Below bo w2 W
section
variable {w2 W : World} {bo gT n : Nat} {a b vo vN vO : Value} {L N X Y : List Int} {M1 M2 : List (List Int)}
theorem Rnf.put (h : Rnf w2 W bo gT n a b vo vN vO L N M1 M2) (hb : bo ≤ gT) {AX AY : Option Addr} {i cX cY : Nat} (hX : Owned W gT (.slice AX i cX) X) (hY : Owned W gT (.slice AY i cY) Y) (ax : Apart vo (.slice AX i cX)) (ay : Apart vo (.slice AY i cY)) (h1 : M1.length < 1759218604441) (h2 : M2.length < 1759218604441) :
    ∃ A c W1, (Builtin.append_ #[22, 22] 22 #[vN, .slice (some ⟨W.heap.size, 0, none⟩) 1 1]).run Try.prog (W.alloc (.cells #[.slice AX i cX] 27)) = .ok (.slice A (M1.length + 1) c) W1 ∧
      Rnf w2 (W1.setCell ⟨gT, 2, none⟩ (.slice A (M1.length + 1) c)) bo gT n a b vo (.slice A (M1.length + 1) c) vO L N (M1 ++ [X]) M2 ∧ Mblk W1 gT a b vN vO ∧
    ∃ B d W3, (Builtin.append_ #[22, 22] 22 #[vO, .slice (some ⟨W1.heap.size, 0, none⟩) 1 1]).run Try.prog ((W1.setCell ⟨gT, 2, none⟩ (.slice A (M1.length + 1) c)).alloc (.cells #[.slice AY i cY] 27)) = .ok (.slice B (M2.length + 1) d) W3 ∧
      Mblk W3 gT a b (.slice A (M1.length + 1) c) vO ∧ Rnf w2 (W3.setCell ⟨gT, 3, none⟩ (.slice B (M2.length + 1) d)) bo gT n a b vo (.slice A (M1.length + 1) c) (.slice B (M2.length + 1) d) L N (M1 ++ [X]) (M2 ++ [Y]) := by
  have hz := heap_lt h.box
  obtain ⟨A, c, W1, r1, R1, b1, t1, k1, m1⟩ := run_append_rows h.nxt hX (fun g e e2 => ax g e2 e) (fun g hg e => by have := (h.ord.lt g e).2; omega) (by omega) h1
  have ti := t1 3 (by decide)
  have B1 := h.box.keptT (t1 24 (by decide))
  have s1 := B1.setT 2 (.slice A (M1.length + 1) c) (t := 3) (by decide)
  have s2 := B1.setT 2 (.slice A (M1.length + 1) c) (t := 27) (by decide)
  have F : Rnf w2 (W1.setCell ⟨gT, 2, none⟩ (.slice A (M1.length + 1) c)) bo gT n a b vo (.slice A (M1.length + 1) c) vO L N (M1 ++ [X]) M2 :=
    ⟨(h.ord.keptT ti).keptT s1, (h.num.keptT ti).keptT s1, B1.set2 _, R1.keptTT s1 s2, (h.out.beside ti k1 h.ap).keptTT s1 s2, h.ap.moved m1 h.out.own, (h.bel.trans (b1.mono hb)).setCell (p := ⟨gT, 2, none⟩) hb _⟩
  refine ⟨A, c, W1, r1, F, B1, ?_⟩
  have hz2 := heap_lt F.box
  obtain ⟨B, d, W3, r3, R3, b3, t3, k3, m3⟩ := run_append_rows F.out ((hY.keptT ti).keptT s1) (fun g e e2 => ay g e2 e) (fun g hg e => by have := (F.ord.lt g e).2; omega) (by omega) h2
  rw [show (W1.setCell ⟨gT, 2, none⟩ (.slice A (M1.length + 1) c)).heap.size = W1.heap.size by simp] at r3
  have ti3 := t3 3 (by decide)
  have B3 := F.box.keptT (t3 24 (by decide))
  have u1 := B3.setT 3 (.slice B (M2.length + 1) d) (t := 3) (by decide)
  have u2 := B3.setT 3 (.slice B (M2.length + 1) d) (t := 27) (by decide)
  exact ⟨B, d, W3, r3, B3, (F.ord.keptT ti3).keptT u1, (F.num.keptT ti3).keptT u1, B3.set3 _, (F.nxt.beside ti3 k3 F.ap.symm).keptTT u1 u2, R3.keptTT u1 u2, (F.ap.symm.moved m3 F.nxt.own).symm, (F.bel.trans (b3.mono hb)).setCell (p := ⟨gT, 3, none⟩) hb _⟩
end
end Go.Proofs.Ytogcecfeofbbnaa
end

section
/- The reference's refinement: what it compares, and what it finds. -/
namespace Go.Proofs.Ytogcecfeofbbnaa

/-- Whether two states are told apart by their class and by the first a inputs. -/
def smB (nx ot : List (List Int)) (cl : List Nat) (s t : Nat) : Nat → Bool
  | 0 => decide (cl.getD s 0 = cl.getD t 0)
  | a + 1 => smB nx ot cl s t a && (decide (oN ot s a = oN ot t a) && decide (cl.getD (nN nx s a) 0 = cl.getD (nN nx t a) 0))
theorem smB_iff {nx ot : List (List Int)} {cl : List Nat} {s t : Nat} : ∀ {a : Nat}, smB nx ot cl s t a = true ↔ cl.getD s 0 = cl.getD t 0 ∧ ∀ b, b < a → oN ot s b = oN ot t b ∧ cl.getD (nN nx s b) 0 = cl.getD (nN nx t b) 0
  | 0 => by
    unfold smB
    rw [decide_eq_true_iff]
    exact ⟨fun h => ⟨h, fun b hb => absurd hb (by omega)⟩, fun h => h.1⟩
  | a + 1 => by
    unfold smB
    rw [Bool.and_eq_true, Bool.and_eq_true, decide_eq_true_iff, decide_eq_true_iff, smB_iff]
    constructor
    · rintro ⟨⟨h1, h2⟩, h3⟩
      refine ⟨h1, fun b hb => ?_⟩
      by_cases e : b = a
      · subst e; exact h3
      · exact h2 b (by omega)
    · rintro ⟨h1, h2⟩
      exact ⟨⟨h1, fun b hb => h2 b (by omega)⟩, h2 a (by omega)⟩
theorem smB_false {nx ot : List (List Int)} {cl : List Nat} {s t a i : Nat} (h : smB nx ot cl s t a = false) (ha : a ≤ i) : smB nx ot cl s t i = false := by
  rw [Bool.eq_false_iff] at h ⊢
  intro H
  rw [smB_iff] at H
  exact h (smB_iff.2 ⟨H.1, fun b hb => H.2 b (by omega)⟩)
theorem smB_no1 {nx ot : List (List Int)} {cl : List Nat} {s t a : Nat} (h : oN ot s a ≠ oN ot t a) : smB nx ot cl s t (a + 1) = false := by
  unfold smB; rw [decide_eq_false h]; simp
theorem smB_no2 {nx ot : List (List Int)} {cl : List Nat} {s t a : Nat} (h : cl.getD (nN nx s a) 0 ≠ cl.getD (nN nx t a) 0) : smB nx ot cl s t (a + 1) = false := by
  unfold smB; rw [decide_eq_false h]; simp
theorem smB_yes {nx ot : List (List Int)} {cl : List Nat} {s t a : Nat} (h0 : smB nx ot cl s t a = true) (h1 : oN ot s a = oN ot t a) (h2 : cl.getD (nN nx s a) 0 = cl.getD (nN nx t a) 0) : smB nx ot cl s t (a + 1) = true := by
  unfold smB; rw [h0, decide_eq_true h1, decide_eq_true h2]; rfl
/-- The key of the reference. -/
def rkey (nx ot : List (List Int)) (cl : List Nat) (i s : Nat) : List Int := ((cl.getD s 0 : Nat) : Int) :: sgm nx ot cl s i
theorem rkey_iff {nx ot : List (List Int)} {cl : List Nat} {i s t : Nat} (hi : i ≤ 64) : rkey nx ot cl i s = rkey nx ot cl i t ↔ smB nx ot cl s t i = true := by
  rw [smB_iff]
  unfold rkey
  rw [List.cons.injEq, sgm_eq hi]
  exact ⟨fun h => ⟨by omega, h.2⟩, fun h => ⟨by omega, h.2⟩⟩
/-- What is found among the states from t on below s. -/
def Fnd {κ : Type} [BEq κ] [LawfulBEq κ] (g : Nat → κ) (s t : Nat) (v : Int) : Prop := ((∃ u, t ≤ u ∧ u < s ∧ g u = g s) ∧ v = (nmb g s : Nat)) ∨ ((∀ u, t ≤ u → u < s → g u ≠ g s) ∧ v = -1)
section
variable {κ : Type} [BEq κ] [LawfulBEq κ] {g : Nat → κ}
theorem Fnd.start (s : Nat) : Fnd g s s (-1) := .inr ⟨fun u h1 h2 => absurd h2 (by omega), rfl⟩
theorem Fnd.hit {s t : Nat} (ht : t < s) (h : g t = g s) : Fnd g s t (nmb g t : Nat) := .inl ⟨⟨t, Nat.le_refl _, ht, h⟩, by rw [(nmb_eq g).2 h]⟩
theorem Fnd.miss {s t : Nat} {v : Int} (h : Fnd g s (t + 1) v) (hne : g t ≠ g s) : Fnd g s t v := by
  rcases h with ⟨⟨u, h1, h2, h3⟩, h4⟩ | ⟨h1, h2⟩
  · exact .inl ⟨⟨u, by omega, h2, h3⟩, h4⟩
  · refine .inr ⟨fun u h3 h4 => ?_, h2⟩
    by_cases e : u = t
    · subst e; exact hne
    · exact h1 u (by omega) h4
theorem Fnd.yes {s : Nat} {v : Int} (h : Fnd g s 0 v) (hin : g s ∈ grp g s) : v = (nmb g s : Nat) := by
  rcases h with ⟨_, h4⟩ | ⟨h1, h2⟩
  · exact h4
  · obtain ⟨u, hu, e⟩ := grp_mem g hin
    exact absurd e (h1 u (by omega) hu)
theorem Fnd.no {s : Nat} {v : Int} (h : Fnd g s 0 v) (hin : ¬ g s ∈ grp g s) : v = -1 := by
  rcases h with ⟨⟨u, h1, h2, h3⟩, h4⟩ | ⟨h1, h2⟩
  · exact absurd (h3 ▸ grp_has g h2) hin
  · exact h2
end
theorem num_succ {κ : Type} [BEq κ] [LawfulBEq κ] (g : Nat → κ) (s : Nat) : num g (s + 1) = num g s ++ [nmb g s] := by unfold num; rw [List.range_succ, List.map_append]; rfl
end Go.Proofs.Ytogcecfeofbbnaa
end

section
/- The reference's refinement: the walk. -/
namespace Go.Proofs.Ytogcecfeofbbnaa
open Go.RowKit

set_option maxHeartbeats 4000000 in
set_option maxRecDepth 100000 in
theorem rfiner (i st n : Nat) (A B C : Option Addr) (c d cc : Nat) (nx ot : List (List Int)) (cl : List Nat) (w : World) (hx : Lists w A n nx) (ho : Lists w B n ot) (hM : Mok i st n nx ot) (hc : Ints w C n (zs cl)) :
    Calls Try.prog 146 #[.agg #[.int .i64 i, .int .i64 st, .slice A n c, .slice B n d], .slice C n cc] w fun e w' => ∃ A' c', e = .returned (.slice A' n c') ∧ Owned w' w.heap.size (.slice A' n c') (zs (num (rkey nx ot cl i) n)) ∧ Below w.heap.size w w' := by
  have hn := hx.2.1
  have hn2 := hM.n2
  have hn1 := hM.n1
  have hi64 := hM.i2
  have hlo := Lib.hid ho
  obtain ⟨g0, hg⟩ : ∃ g, g = w.heap.size := ⟨_, rfl⟩
  obtain ⟨w1, hw1⟩ : ∃ w1, w1 = w.alloc (.cells #[.int .i64 i, .int .i64 st, .slice A n c, .slice B n d] 24) := ⟨_, rfl⟩
  have hb1 : Below w.heap.size w w1 := by rw [hw1]; exact alloc_below _ _
  have hz1 : w1.heap.size = g0 + 1 := by rw [hw1, hg]; simp
  have hB1 : Mblk w1 g0 (.int .i64 i) (.int .i64 st) (.slice A n c) (.slice B n d) := by rw [hw1, hg]; exact heap_alloc_new _ _
  have HW := Lib.hid hw1
  have HG := Lib.hid hg
  have HB1 := Lib.hid hB1
  have HZ1 := Lib.hid hz1
  obtain ⟨g, hgd⟩ : ∃ g : Nat → List Int, g = rkey nx ot cl i := ⟨_, rfl⟩
  have HKY := Lib.hid (show ∀ s t, g s = g t ↔ smB nx ot cl s t i = true from fun s t => by rw [hgd]; exact rkey_iff hi64)
  rw [← hgd]
  clear hw1 hz1 hg hB1 hgd
  go_enter Try.func146, Try.ntmps146
  go_wp2
  rw [← HW.out]
  try rw [← HG.out]
  go_loopw [5, 6, 7] (fun v5 v6 v7 wr => ∃ (s : Nat) (A' : Option Addr) (c' : Nat), s ≤ n ∧ v7 = .int .i64 s ∧ v6 = .int .i64 ((grp g s).length : Nat) ∧ v5 = .slice A' s c' ∧ Owned wr (g0 + 1) (.slice A' s c') (zs (num g s)) ∧ Below (g0 + 1) w1 wr) (fun _ _ v7 _ => n - (intOf v7).toNat)
  case atStart => exact ⟨0, none, 0, Nat.zero_le _, rfl, rfl, rfl, Owned.nil _ _, Below.refl _ _⟩
  case round =>
    obtain ⟨s, A', c', hs, rfl, rfl, rfl, hO, hbr⟩ := hrel
    have hbW : Below w.heap.size w wr := hb1.trans (hbr.mono (by rw [← HG.out]; omega))
    have hzr := hbr.size
    rw [HZ1.out] at hzr
    have hbox := HB1.out.kept hbr (show g0 < g0 + 1 by omega)
    have HBX := Lib.hid hbox
    have HO := Lib.hid hO
    have HBR := Lib.hid hbr
    have hcnt := grp_len g s
    clear hO hbr hbox
    by_cases hlt : s < n
    · go_wp2
      obtain ⟨wo, hwo⟩ : ∃ wo : World, wo = wr := ⟨_, rfl⟩
      rw [← hwo] at HO HBR HBX hbW hzr ⊢
      clear hwo
      go_loopw [8, 9] (fun v8 v9 wq => ∃ (t : Nat) (v : Int), t ≤ s ∧ v9 = .int .i64 ((t : Int) - 1) ∧ v8 = .int .i64 v ∧ Fnd g s t v ∧ ∃ q, wq = wo.drewN q) (fun _ v9 _ => ((intOf v9) + 1).toNat)
      case atStart => exact ⟨s, -1, Nat.le_refl _, rfl, rfl, Fnd.start s, 0, rfl⟩
      case round =>
        obtain ⟨t, v, ht, rfl, rfl, hF, q, rfl⟩ := hrel
        have HFD := Lib.hid hF
        clear hF
        by_cases h0 : 0 < t
        · obtain ⟨t, rfl⟩ : ∃ t1, t = t1 + 1 := ⟨t - 1, by omega⟩
          rw [show ((t + 1 : Nat) : Int) - 1 = (t : Int) by omega]
          have hts : t < s := by omega
          have htn : t < n := by omega
          clear h0 ht
          obtain ⟨bs, os_, rfl, hbs, hcs⟩ := hc.at_ hlt
          obtain ⟨bt_, ot_, e, hbt, hct⟩ := hc.at_ htn
          cases e
          rw [zs_at] at hcs hct
          have hcs := (hbW.cell (p := ⟨bs, os_ + s, none⟩) hbs).trans hcs
          have hct := (hbW.cell (p := ⟨bs, os_ + t, none⟩) hbs).trans hct
          obtain ⟨b0, hb0⟩ : ∃ b0, b0 = smB nx ot cl s t 0 := ⟨_, rfl⟩
          have hxy : (((cl.getD s 0 : Nat) : Int) == ((cl.getD t 0 : Nat) : Int)) = b0 := by
            rw [hb0]; unfold smB
            by_cases e : cl.getD s 0 = cl.getD t 0
            · rw [e]; simp
            · rw [decide_eq_false e, beq_eq_false_iff_ne]; omega
          have HB0 := Lib.hid hb0
          generalize ((cl.getD s 0 : Nat) : Int) = x at hcs hxy
          generalize ((cl.getD t 0 : Nat) : Int) = y at hct hxy
          have i1 : (0 : Int) ≤ (s : Int) := by omega
          have i2 : (s : Int) < (n : Int) := by omega
          have i3 : (0 : Int) ≤ (t : Int) := by omega
          have i4 : (t : Int) < (n : Int) := by omega
          clear hb0 hbt
          go_wp2
          go_quiet (fail)
          go_wp2
          clear hxy hcs hct
          go_loopw [10, 11] (fun v10 v11 wq => ∃ (a : Nat) (b : Bool), a ≤ i ∧ v11 = .int .i64 a ∧ v10 = .bool b ∧ b = smB nx ot cl s t a ∧ ∃ q, wq = wo.drewN q) (fun _ v11 _ => i - (intOf v11).toNat)
          case atStart => exact ⟨0, _, Nat.zero_le _, rfl, rfl, HB0.out, by first | exact ⟨_, rfl⟩ | exact ⟨_, World.drewN_drewN _ _ _⟩⟩
          case round =>
            obtain ⟨a, b, ha, rfl, rfl, hb, q2, rfl⟩ := hrel
            have HB := Lib.hid hb
            clear hb
            obtain ⟨k0, k1, k2, k3, _⟩ := HBX.out.cells
            cases b
            · have HM := Lib.hid (HFD.out.miss (fun e => by have h1 := (HKY.out s t).1 e.symm; rw [smB_false HB.out.symm ha] at h1; cases h1))
              have hia : (a : Int) ≤ (i : Int) := by omega
              clear HFD
              by_cases hla : a < i
              all_goals
                go_wp2
                go_roundw
                case rel => exact ⟨t, v, by omega, rfl, rfl, HM.out, _, rfl⟩
                case measure => simp [intOf]
            · by_cases hla : a < i
              · obtain ⟨g2, o2, eA2, n2, c2, rfl, hg2, hd2, hr2⟩ := hlo.out.at_ hlt
                obtain ⟨g2', o2', eA3, n3, c3, e, _, hd3, hr3⟩ := hlo.out.at_ htn
                cases e
                obtain ⟨g1, o1, eA4, n4, c4, rfl, hg1, hd4, hr4⟩ := hx.at_ hlt
                obtain ⟨g1', o1', eA5, n5, c5, e, _, hd5, hr5⟩ := hx.at_ htn
                cases e
                have l2 := hr2.1
                have l3 := hr3.1
                have l4 := hr4.1
                have l5 := hr5.1
                have m2 := (hM.row s hlt).2.1
                have m3 := (hM.row t htn).2.1
                have m4 := (hM.row s hlt).1
                have m5 := (hM.row t htn).1
                obtain rfl : n2 = i := by omega
                obtain rfl : n3 = n2 := by omega
                obtain rfl : n4 = n3 := by omega
                obtain rfl : n5 = n4 := by omega
                clear l2 l3 l4 l5 m2 m3 m4 m5
                obtain ⟨b2, p2, rfl, hb2, hv2⟩ := hr2.at_ hla
                obtain ⟨b3, p3, rfl, hb3, hv3⟩ := hr3.at_ hla
                obtain ⟨b4, p4, rfl, hb4, hv4⟩ := hr4.at_ hla
                obtain ⟨b5, p5, rfl, hb5, hv5⟩ := hr5.at_ hla
                rw [hM.nN_eq hlt hla] at hv4
                rw [hM.nN_eq htn hla] at hv5
                have q1 := hM.nN_lt hlt hla
                have q3 := hM.nN_lt htn hla
                obtain ⟨bq, oq, e, hbq, hv6⟩ := hc.at_ q1
                cases e
                obtain ⟨bq, oq, e, _, hv7⟩ := hc.at_ q3
                cases e
                rw [zs_at] at hv6 hv7
                have tr : ∀ (gg oo : Nat) (u : Value), gg < w.heap.size → w.cell? ⟨gg, oo, none⟩ = some u → wo.cell? ⟨gg, oo, none⟩ = some u := fun gg oo u h h2 => (hbW.cell (p := ⟨gg, oo, none⟩) h).trans h2
                have hd2 := tr _ _ _ hg2 hd2
                have hd3 := tr _ _ _ hg2 hd3
                have hd4 := tr _ _ _ hg1 hd4
                have hd5 := tr _ _ _ hg1 hd5
                have hv2 := tr _ _ _ hb2 hv2
                have hv3 := tr _ _ _ hb3 hv3
                have hv4 := tr _ _ _ hb4 hv4
                have hv5 := tr _ _ _ hb5 hv5
                have hv6 := tr _ _ _ hbq hv6
                have hv7 := tr _ _ _ hbq hv7
                have r2 : (ot.getD s []).getD a 0 = oN ot s a := rfl
                have r3 : (ot.getD t []).getD a 0 = oN ot t a := rfl
                rw [r2] at hv2
                rw [r3] at hv3
                have j1 : (0 : Int) ≤ (a : Int) := by omega
                have j2 : (a : Int) < (n5 : Int) := by omega
                have j3 : (0 : Int) ≤ ((nN nx s a : Nat) : Int) := by omega
                have j4 : ((nN nx s a : Nat) : Int) < (n : Int) := by omega
                have j5 : (0 : Int) ≤ ((nN nx t a : Nat) : Int) := by omega
                have j6 : ((nN nx t a : Nat) : Int) < (n : Int) := by omega
                clear tr r2 r3 hb2 hb3 hb4 hb5 hg1 hg2
                by_cases ho1 : oN ot s a = oN ot t a
                · obtain ⟨b9, hb9⟩ : ∃ b9, b9 = smB nx ot cl s t (a + 1) := ⟨_, rfl⟩
                  have hxy : (((cl.getD (nN nx s a) 0 : Nat) : Int) == ((cl.getD (nN nx t a) 0 : Nat) : Int)) = b9 := by
                    rw [hb9]; unfold smB
                    rw [← HB.out, decide_eq_true ho1]
                    by_cases e : cl.getD (nN nx s a) 0 = cl.getD (nN nx t a) 0
                    · rw [e]; simp
                    · rw [decide_eq_false e, Bool.true_and, Bool.true_and, beq_eq_false_iff_ne]; omega
                  have HB9 := Lib.hid hb9
                  have hq : (oN ot s a == oN ot t a) = true := by simp [ho1]
                  clear hb9 ho1
                  generalize ((cl.getD (nN nx s a) 0 : Nat) : Int) = x at hv6 hxy
                  generalize ((cl.getD (nN nx t a) 0 : Nat) : Int) = y at hv7 hxy
                  generalize nN nx s a = u1 at hv4 hv6 q1 j3 j4
                  generalize nN nx t a = u2 at hv5 hv7 q3 j5 j6
                  generalize oN ot s a = z1 at hv2 hq
                  generalize oN ot t a = z2 at hv3 hq
                  go_wp2
                  go_quiet (fail)
                  go_wp2
                  go_roundw
                  case rel => exact ⟨a + 1, b9, by omega, by go_num, rfl, HB9.out, by first | exact ⟨_, rfl⟩ | exact ⟨_, World.drewN_drewN _ _ _⟩⟩
                  case measure => simp [intOf]; omega
                · have HB9 := Lib.hid (smB_no1 (nx := nx) (cl := cl) ho1)
                  have hq : (oN ot s a == oN ot t a) = false := by simp [ho1]
                  clear ho1
                  generalize nN nx s a = u1 at hv4 hv6 q1 j3 j4
                  generalize nN nx t a = u2 at hv5 hv7 q3 j5 j6
                  generalize oN ot s a = z1 at hv2 hq
                  generalize oN ot t a = z2 at hv3 hq
                  go_wp2
                  go_quiet (fail)
                  go_wp2
                  go_roundw
                  case rel => exact ⟨a + 1, false, by omega, by go_num, rfl, HB9.out.symm, by first | exact ⟨_, rfl⟩ | exact ⟨_, World.drewN_drewN _ _ _⟩⟩
                  case measure => simp [intOf]; omega
              · obtain rfl : a = i := by omega
                have hkk := (HKY.out s t).2 HB.out.symm
                have HM := Lib.hid (Fnd.hit hts hkk.symm)
                have hio := Owned.ints HO.out (by rw [zs_len, num_len]; omega)
                obtain ⟨b9, o9, rfl, hb9, hc9⟩ := hio.at_ hts
                rw [zs_at, num_at g hts] at hc9
                clear hkk hio
                generalize ((nmb g t : Nat) : Int) = y at hc9 HM
                go_wp2
                go_roundw
                case rel => exact ⟨t, y, by omega, rfl, rfl, HM.out, _, rfl⟩
                case measure => simp [intOf]
        · obtain rfl : t = 0 := by omega
          rw [show ((0 : Nat) : Int) - 1 = -1 from rfl]
          have hzo : g0 + 1 ≤ (wo.drewN q).heap.size := hzr
          obtain ⟨A2, c2, w2, hrn, hO2, hb2, _⟩ := run_append_one (HO.out.drew q) (nmb g s : Nat) hzo (by rw [zs_len, num_len]; omega)
          rw [zs_len, num_len] at hrn hO2
          have hO3 := Lib.hid (show Owned w2 (g0 + 1) (.slice A2 (s + 1) c2) (zs (num g (s + 1))) by rw [num_succ, zs_append]; exact hO2)
          have hb3 := Lib.hid (show Below (g0 + 1) w1 w2 from (below_drewN HBR.out q).trans hb2)
          clear hO2 hb2
          by_cases hin : g s ∈ grp g s
          · obtain rfl := HFD.out.yes hin
            have HG1 := Lib.hid (show (grp g (s + 1)).length = (grp g s).length by rw [show grp g (s + 1) = grp g s from addK_in hin])
            have v0 : (0 : Int) ≤ (nmb g s : Nat) := by omega
            have v1 : ((nmb g s : Nat) : Int) ≤ n := by have := nmb_le g s; omega
            clear hin HFD
            generalize ((nmb g s : Nat) : Int) = y at hrn v0 v1 ⊢
            generalize (grp g s).length = cnt0 at hcnt HG1 ⊢
            go_wp2_with (at_builtin; refine Lib.wpList_append_run _ rfl _ _ _ _ rfl _ _ rfl rfl _ _ hrn ?_)
            go_roundw
            case rel => exact ⟨s + 1, A2, c2, by omega, by go_num, by rw [HG1.out], rfl, hO3.out, hb3.out⟩
            case measure => simp [intOf]; omega
          · obtain rfl := HFD.out.no hin
            have hg1 := Lib.hid (show (grp g (s + 1)).length = (grp g s).length + 1 by rw [show grp g (s + 1) = grp g s ++ [g s] from addK_out hin, List.length_append]; rfl)
            rw [nmb_new g hin] at hrn
            clear hin HFD
            generalize (grp g s).length = cnt0 at hcnt hg1 hrn ⊢
            go_wp2_with (at_builtin; refine Lib.wpList_append_run _ rfl _ _ _ _ rfl _ _ rfl rfl _ _ hrn ?_)
            go_roundw
            case rel => exact ⟨s + 1, A2, c2, by omega, by go_num, by rw [hg1.out]; go_num, rfl, hO3.out, hb3.out⟩
            case measure => simp [intOf]; omega
    · obtain rfl : s = n := by omega
      have HO2 := Lib.hid (HO.out.lower (base' := w.heap.size) (by rw [← HG.out]; omega))
      go_wp2
      go_ret
      exact ⟨_, _, rfl, HO2.out, hbW⟩
end Go.Proofs.Ytogcecfeofbbnaa
end

section
/- The reference: Equal. -/
namespace Go.Proofs.Ytogcecfeofbbnaa
open Go.RowKit

set_option maxHeartbeats 1000000 in
theorem requal (A B : Option Addr) (n c m d : Nat) (xs ys : List Int) (b : Bool) (w : World) (hx : Ints w A n xs) (hy : Ints w B m ys) (hb : b = decide (xs = ys)) :
    Calls Try.prog 19 #[.slice A n c, .slice B m d] w fun e w' => e = .returned (.bool b) ∧ ∃ q, w' = w.drewN q := by
  have L1 := Lib.hid hx.1
  have L2 := Lib.hid hy.1
  have hn := hx.2.1
  have hm := hy.2.1
  by_cases hnm : n = m
  · subst hnm
    have HB := Lib.hid hb
    clear hb
    go_enter Try.func19, Try.ntmps19
    go_wp2
    go_loopw [5] (fun i wr => ∃ j q : Nat, j ≤ n ∧ i = .int .i64 j ∧ AgreeL 0 xs ys j ∧ wr = w.drewN q) (fun i _ => n - (intOf i).toNat)
    case atStart => exact ⟨0, 0, Nat.zero_le _, rfl, AgreeL.zero _ _ _, rfl⟩
    case round =>
      obtain ⟨j, q, hj, rfl, heq, rfl⟩ := hrel
      have HE := Lib.hid heq
      clear heq
      by_cases hlt : j < n
      · obtain ⟨g1, o1, rfl, _, hc1⟩ := hx.at_ hlt
        obtain ⟨g2, o2, rfl, _, hc2⟩ := hy.at_ hlt
        by_cases he : xs.getD j 0 = ys.getD j 0
        · have hnx := Lib.hid (HE.out.succ he)
          rw [← he] at hc2
          generalize xs.getD j 0 = y at hc1 hc2
          clear he
          go_wp2
          go_quiet (fail)
          go_wp2
          go_roundw
          case rel => exact ⟨j + 1, _, by omega, by go_num, hnx.out, rfl⟩
          case measure => simp [intOf]; omega
        · have hfin : Hid (b = false) := Lib.hid (HB.out.trans (decide_eq_false fun e => he (by rw [e])))
          have hne : (xs.getD j 0 != ys.getD j 0) = true := by simpa using he
          generalize xs.getD j 0 = y at hc1 hne
          generalize ys.getD j 0 = z at hc2 hne
          clear he
          go_wp2
          go_quiet (fail)
          go_wp2
          go_ret
          exact ⟨ret_bool hfin.out.symm, by first | exact ⟨_, rfl⟩ | exact ⟨_, World.drewN_drewN _ _ _⟩⟩
      · obtain rfl : j = n := by omega
        have hfin : Hid (b = true) := Lib.hid (HB.out.trans (decide_eq_true (HE.out.all L1.out L2.out)))
        go_wp2
        go_ret
        exact ⟨ret_bool hfin.out.symm, by first | exact ⟨_, rfl⟩ | exact ⟨_, World.drewN_drewN _ _ _⟩⟩
  · have hfin : Hid (b = false) := Lib.hid (hb.trans (decide_eq_false fun e => hnm (by rw [← L1.out, ← L2.out, e])))
    have hd : ((n : Int) != (m : Int)) = true := by simp; omega
    clear hnm hb
    go_enter Try.func19, Try.ntmps19
    go_wp2
    go_ret
    exact ⟨ret_bool hfin.out.symm, 0, rfl⟩

end Go.Proofs.Ytogcecfeofbbnaa
end

section
/- The reference: Partition, Classes, Depth. -/
namespace Go.Proofs.Ytogcecfeofbbnaa
open Go.RowKit

theorem Mok.rkey_num {i st n : Nat} {nx ot : List (List Int)} (hM : Mok i st n nx ot) (k : Nat) : num (rkey nx ot (pt nx ot i n k) i) n = pt nx ot i n (k + 1) := by
  refine num_congr fun s t hs ht => ?_
  unfold rkey
  constructor
  · intro h; exact (List.cons.inj h).2
  · intro h
    have h2 : cN nx ot i n (k + 1) s = cN nx ot i n (k + 1) t := by
      unfold cN
      show (num _ n).getD s 0 = (num _ n).getD t 0
      rw [num_at _ hs, num_at _ ht, nmb_eq]; exact h
    have h3 := hM.cN_fine hs ht h2
    unfold cN at h3
    rw [h3, h]
theorem Mok.pt_rounds {i st n : Nat} {nx ot : List (List Int)} (hM : Mok i st n nx ot) {k : Int} {j : Nat} (h1 : (j : Int) ≤ max k 0) (h2 : j ≤ n) (h3 : ¬ ((j : Int) < k ∧ j < n)) : pt nx ot i n j = pt nx ot i n (rounds_ nx ot i n k) := by
  have hd := hM.dep_lt
  unfold rounds_
  split
  · rw [show j = k.toNat by omega]
  · exact hM.pt_all (by omega)
theorem rpart_bad (i st : Int) (A B : Option Addr) (n c m d : Nat) (nx ot : List (List Int)) (k : Int) (w : World) (hx : Lists w A n nx) (ho : Lists w B m ot) (hv : ¬ vld i st nx ot = 0) :
    Calls Try.prog 137 #[.agg #[.int .i64 i, .int .i64 st, .slice A n c, .slice B m d], .int .i64 k] w fun e w' => e = .returned (.tuple #[.slice none 0 0, .int .i64 (vld i st nx ot)]) ∧ Below w.heap.size w w' := by
  have hb0 := alloc_below w (.cells #[.int .i64 i, .int .i64 st, .slice A n c, .slice B m d] 24)
  have hne : (vld i st nx ot != 0) = true := by simpa using hv
  go_enter Try.func137, Try.ntmps137
  go_wp2_with fail
  refine (rvalid _ _ _ _ _ _ _ _ _ _ _ (hx.below hb0) (ho.below hb0)).mono ?_
  rintro e w1 ⟨rfl, b1⟩
  have b1 := bt hb0 b1
  generalize hE : vld i st nx ot = E at hne hv
  have HE := Lib.hid hE
  clear hv hE
  go_wp2
  go_ret2
  exact ⟨by rw [HE.out]; rfl, b1⟩
set_option maxHeartbeats 2000000 in
theorem rpart_ok (i st n : Nat) (A B : Option Addr) (c d : Nat) (nx ot : List (List Int)) (k : Int) (w : World) (hx : Lists w A n nx) (ho : Lists w B n ot) (hM : Mok i st n nx ot) :
    Calls Try.prog 137 #[.agg #[.int .i64 i, .int .i64 st, .slice A n c, .slice B n d], .int .i64 k] w fun e w' => ∃ A' c', e = .returned (.tuple #[.slice A' n c', .int .i64 0]) ∧ Owned w' w.heap.size (.slice A' n c') (zs (pt nx ot i n (rounds_ nx ot i n k))) ∧ Below w.heap.size w w' := by
  have hn := hx.2.1
  have hn2 := hM.n2
  have hb0 := alloc_below w (.cells #[.int .i64 i, .int .i64 st, .slice A n c, .slice B n d] 24)
  have hB := mealy_box w (.int .i64 i) (.int .i64 st) (.slice A n c) (.slice B n d)
  have HB := Lib.hid hB
  have HV := Lib.hid hM.vld
  obtain ⟨R, hR⟩ : ∃ R, R = rounds_ nx ot i n k := ⟨_, rfl⟩
  have HR := Lib.hid (show ∀ j : Nat, (j : Int) ≤ max k 0 → j ≤ n → ¬ ((j : Int) < k ∧ j < n) → pt nx ot i n j = pt nx ot i n R from fun j h1 h2 h3 => by rw [hR]; exact hM.pt_rounds h1 h2 h3)
  rw [← hR]
  clear hB hR
  go_enter Try.func137, Try.ntmps137
  go_wp2_with fail
  refine (rvalid _ _ _ _ _ _ _ _ _ _ _ (hx.below hb0) (ho.below hb0)).mono ?_
  rintro e w1 ⟨rfl, b1⟩
  rw [HV.out]
  have HB1 := Lib.hid (HB.out.kept b1 (by simp))
  obtain ⟨k0, k1, k2, k3, _⟩ := HB1.out.cells
  have hz1 := heap_lt HB1.out
  have b1 := bt hb0 b1
  go_wp2_with (refine wpList_make_ints _ rfl _ _ rfl .i64 .i64 n rfl rfl hn ?_; intro w3 ho3 b3)
  clear k0 k1 k2 k3
  have HB3 := Lib.hid (HB1.out.kept b3 (by omega))
  have hO3 := Lib.hid (ho3.lower (base' := w.heap.size) (by omega))
  have hb3 := bt b1 b3
  have hz3 := b3.size
  clear ho3 b3 HB HB1
  go_wp2
  go_loopw [7, 8] (fun v7 v8 wr => ∃ (j : Nat) (A' : Option Addr) (c' : Nat), v8 = .int .i64 j ∧ v7 = .slice A' n c' ∧ Owned wr w.heap.size (.slice A' n c') (zs (pt nx ot i n j)) ∧ Below w3.heap.size w3 wr ∧ (j : Int) ≤ max k 0 ∧ j ≤ n) (fun _ v8 _ => n - (intOf v8).toNat)
  case atStart => exact ⟨0, _, _, rfl, rfl, by show Owned _ _ _ (zs (List.replicate n 0)); simpa [zs] using hO3.out, Below.refl _ _, by omega, by omega⟩
  case round =>
    obtain ⟨j, C, cc, rfl, rfl, hO, hbr, hjk, hjn⟩ := hrel
    have hzr := hbr.size
    have hbW : Below w.heap.size w wr := hb3.trans (hbr.mono (by omega))
    obtain ⟨k0, k1, k2, k3, _⟩ := (HB3.out.kept hbr (show w.heap.size < w3.heap.size by omega)).cells
    have hI := Owned.ints hO (by rw [zs_len, pt_len]; exact hn)
    have HO := Lib.hid hO
    have HBR := Lib.hid hbr
    clear hO hbr
    by_cases hlt : (j : Int) < k
    · by_cases hjl : j < n
      · have HRF := rfiner i st n A B C c d cc nx ot (pt nx ot i n j) wr (hx.below hbW) (ho.below hbW) hM hI
        rw [hM.rkey_num] at HRF
        have hRF := Lib.hid HRF
        clear HRF
        go_wp2_with fail
        refine hRF.out.mono ?_
        rintro e w4 ⟨A4, c4, rfl, hO4, b4⟩
        have HO4 := Lib.hid (hO4.lower (base' := w.heap.size) (by omega))
        have HB4 := Lib.hid (HBR.out.trans (b4.mono hzr))
        clear hO4 b4 k0 k1 k2 k3 hI
        go_wp2
        go_roundw
        case rel => exact ⟨j + 1, A4, c4, by go_num, rfl, HO4.out, HB4.out, by omega, by omega⟩
        case measure => simp [intOf]; omega
      · have HE := Lib.hid (HR.out j hjk hjn (fun H => hjl H.2))
        have HO9 := Lib.hid (show Owned wr w.heap.size (.slice C n cc) (zs (pt nx ot i n R)) by rw [← HE.out]; exact HO.out)
        clear hI
        go_wp2
        go_ret2
        exact ⟨_, _, rfl, HO9.out, hbW⟩
    · have HE := Lib.hid (HR.out j hjk hjn (fun H => hlt H.1))
      have HO9 := Lib.hid (show Owned wr w.heap.size (.slice C n cc) (zs (pt nx ot i n R)) by rw [← HE.out]; exact HO.out)
      clear hI
      go_wp2
      go_ret2
      exact ⟨_, _, rfl, HO9.out, hbW⟩
end Go.Proofs.Ytogcecfeofbbnaa
end

section
/- The reference: Classes, Depth. -/
namespace Go.Proofs.Ytogcecfeofbbnaa
open Go.RowKit

theorem rounds_n {i st n : Nat} {nx ot : List (List Int)} (hM : Mok i st n nx ot) : rounds_ nx ot i n (n : Int) = dep nx ot i n := by
  have h1 := hM.dep_lt
  unfold rounds_
  rw [if_neg (by omega)]
theorem rounds_le {nx ot : List (List Int)} {i n k : Nat} (h : k ≤ dep nx ot i n) : rounds_ nx ot i n (k : Int) = k := by
  unfold rounds_
  rw [if_pos (by omega)]; omega
theorem rcls_bad (i st : Int) (A B : Option Addr) (n c m d : Nat) (nx ot : List (List Int)) (w : World) (hx : Lists w A n nx) (ho : Lists w B m ot) (hv : ¬ vld i st nx ot = 0) :
    Calls Try.prog 122 #[.agg #[.int .i64 i, .int .i64 st, .slice A n c, .slice B m d]] w fun e w' => e = .returned (.tuple #[.slice none 0 0, .int .i64 (vld i st nx ot)]) ∧ Below w.heap.size w w' := by
  have hb0 := alloc_below w (.cells #[.int .i64 i, .int .i64 st, .slice A n c, .slice B m d] 24)
  go_enter Try.func122, Try.ntmps122
  go_wp2_with fail
  refine (rpart_bad _ _ _ _ _ _ _ _ _ _ _ _ (hx.below hb0) (ho.below hb0) hv).mono ?_
  rintro e w1 ⟨rfl, b1⟩
  have b1 := bt hb0 b1
  generalize hE : vld i st nx ot = E at hv
  have HE := Lib.hid hE
  clear hv hE
  go_wp2
  go_ret2
  exact ⟨by rw [HE.out]; rfl, b1⟩
set_option maxHeartbeats 1000000 in
theorem rcls_ok (i st n : Nat) (A B : Option Addr) (c d : Nat) (nx ot : List (List Int)) (w : World) (hx : Lists w A n nx) (ho : Lists w B n ot) (hM : Mok i st n nx ot) :
    Calls Try.prog 122 #[.agg #[.int .i64 i, .int .i64 st, .slice A n c, .slice B n d]] w fun e w' => ∃ A' c', e = .returned (.tuple #[.slice A' n c', .int .i64 0]) ∧ Owned w' w.heap.size (.slice A' n c') (zs (pt nx ot i n (dep nx ot i n))) ∧ Below w.heap.size w w' := by
  have hb0 := alloc_below w (.cells #[.int .i64 i, .int .i64 st, .slice A n c, .slice B n d] 24)
  have HR := Lib.hid (rounds_n hM)
  go_enter Try.func122, Try.ntmps122
  go_wp2_with fail
  refine (rpart_ok i st n A B c d nx ot _ _ (hx.below hb0) (ho.below hb0) hM).mono ?_
  rintro e w1 ⟨A', c', rfl, hO, b1⟩
  rw [HR.out] at hO
  have HO := Lib.hid (hO.lower (base' := w.heap.size) hb0.size)
  have b1 := bt hb0 b1
  clear hO
  go_wp2
  go_ret2
  exact ⟨A', c', rfl, HO.out, b1⟩
end Go.Proofs.Ytogcecfeofbbnaa
end
