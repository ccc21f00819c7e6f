/- Lemmas of the proofs of this seat, of the parts Dtom, Dfm1, Growi, Conci, Sorti, Stepm, Runm, Fromp, Fromm, Outsr, Valr, Reachr, Outpr, Outpo, Cmpi, Outpp, Dfmp, Dawp, Dacc. Conditions: none. -/
import Derived.Test.YthjnghldedfdoaaNae
import Derived.Test.YthjnghldedfdoaaNad
import Derived.Deep.RegionHeld3
import Derived.Deep.CutRange
import Derived.Test.YthjnghldedfdoaaProg
import Derived.Test.YthjnghldedfdoaaNaa
import Derived.WalkSpells
import Derived.WalkLawsBesides
import Derived.Outline
import Derived.Lib.AppendZeros
import Derived.Test.YthjnghldedfdoaaShelf
import Derived.Lib.OwnBridge
import Derived.Sort.OwnSortedInts
import Derived.RegionTactic
import Derived.BigRegion
import Derived.Deep.RegionLaw
import Derived.Test.YthjnghldedfdoaaNab
import Derived.Test.YthjnghldedfdoaaNac
import Derived.Lib.SlicesCompact
section
/- ToMealy of the program. -/
namespace Go.Proofs.Ythjnghldedfdoaa
open Go.RowKit

/-- The block of a machine. -/
def Yblk (w : World) (g : Nat) (a b c d : Value) : Prop := w.heap[g]? = some (.cells #[a, b, c, d] 58 (0, 0))
section
variable {w w' : World} {g : Nat} {a b c d : Value}
theorem Yblk.cells (h : Yblk w g a b c d) :
    w.cell? ⟨g, 0, none⟩ = some a ∧ w.cell? ⟨g, 1, none⟩ = some b ∧ w.cell? ⟨g, 2, none⟩ = some c ∧ w.cell? ⟨g, 3, none⟩ = some d ∧ w.frozen? ⟨g, 0, none⟩ = false ∧ w.frozen? ⟨g, 1, none⟩ = false ∧ w.frozen? ⟨g, 2, none⟩ = false ∧ w.frozen? ⟨g, 3, none⟩ = false :=
  ⟨cell_of_row w g 0 _ _ (0, 0) h, cell_of_row w g 1 _ _ (0, 0) h, cell_of_row w g 2 _ _ (0, 0) h, cell_of_row w g 3 _ _ (0, 0) h, frozen_of_row w g 0 _ _ h, frozen_of_row w g 1 _ _ h, frozen_of_row w g 2 _ _ h, frozen_of_row w g 3 _ _ h⟩
theorem Yblk.kept (h : Yblk w g a b c d) {k : Nat} (hb : Below k w w') (hg : g < k) : Yblk w' g a b c d := (hb.block g hg).trans h
theorem Yblk.on9 (h : Yblk w g a b c d) (hb : Below w.heap.size w w') : Yblk w' g a b c d := h.kept hb (heap_lt h)
theorem Yblk.keptT (h : Yblk w g a b c d) (k : KeptT 58 w w') : Yblk w' g a b c d := k g _ h
theorem Yblk.set4 (h : Yblk w g a b c d) (a' b' c' d' : Value) :
    Yblk ((((w.setCell ⟨g, 0, none⟩ a').setCell ⟨g, 1, none⟩ b').setCell ⟨g, 2, none⟩ c').setCell ⟨g, 3, none⟩ d') g a' b' c' d' :=
  heap_setCell_same _ g 3 _ _ d' (heap_setCell_same _ g 2 _ _ c' (heap_setCell_same _ g 1 _ _ b' (heap_setCell_same w g 0 _ _ a' h)))
theorem Yblk.off4 (h : Yblk w g a b c d) (a' b' c' d' : Value) {t : TypeId} (ht : t ≠ 58) :
    KeptT t w ((((w.setCell ⟨g, 0, none⟩ a').setCell ⟨g, 1, none⟩ b').setCell ⟨g, 2, none⟩ c').setCell ⟨g, 3, none⟩ d') := by
  have h1 := heap_setCell_same w g 0 _ _ a' h
  have h2 := heap_setCell_same _ g 1 _ _ b' h1
  have h3 := heap_setCell_same _ g 2 _ _ c' h2
  exact (((KeptT.off h ht a').trans (KeptT.off h1 ht b')).trans (KeptT.off h2 ht c')).trans (KeptT.off h3 ht d')
end
theorem yblk_new (w : World) (a b c d : Value) : Yblk (w.alloc (.cells #[a, b, c, d] 58)) w.heap.size a b c d := heap_alloc_new _ _
theorem results_mly {fn : Func} {p u : Tmp} (h : fn.results = #[.cell p 58, .tmp u]) (tmps : Array Value) (w : World) (g : Nat) (a b c d : Value)
    (hp : tmps.getD p undef = .pointer (some ⟨g, 0, none⟩)) (hg : Yblk w g a b c d) :
    (results fn tmps).run Try.prog w = .ok (.tuple #[.agg #[a, b, c, d], tmps.getD u undef]) w := by
  rw [results_cell_tmp h, hp]
  have hl := run_loadVar_row (P := Try.prog) w g 58 58 #[a, b, c, d] (0, 0) _ hg Try.underlying58 rfl (by kernel_rfl)
  simp [asAddr, hl]
/-- The box of an automaton and a zero machine behind it. -/
theorem tom_boxes (w : World) (i st : Int) (A B : Option Addr) (n c m d : Nat) : ∃ w1, w1 = (w.alloc (.cells #[.int .i64 i, .int .i64 st, .slice A n c, .slice B m d] 25)).alloc (.cells #[.int .i64 0, .int .i64 0, .slice none 0 0, .slice none 0 0] 58) ∧
    Below w.heap.size w w1 ∧ Dblk w1 w.heap.size (.int .i64 i) (.int .i64 st) (.slice A n c) (.slice B m d) ∧ Yblk w1 (w.heap.size + 1) (.int .i64 0) (.int .i64 0) (.slice none 0 0) (.slice none 0 0) ∧ w1.heap.size = w.heap.size + 2 := by
  refine ⟨_, rfl, (alloc_below _ _).alloc (by simp) _, (dfa_box w (.int .i64 i) (.int .i64 st) (.slice A n c) (.slice B m d)).kept (alloc_below _ _) (by simp), ?_, by simp⟩
  have := yblk_new (w.alloc (.cells #[.int .i64 i, .int .i64 st, .slice A n c, .slice B m d] 25)) (.int .i64 0) (.int .i64 0) (.slice none 0 0) (.slice none 0 0)
  simpa using this
/-- The error of ToMealy. -/
def tomE (i st : Int) (nx : List (List Int)) (ac : List Bool) : Int := if vldD i st nx ac = 0 then (if i ≤ 64 then 0 else 2) else vldD i st nx ac
/-- The outputs of ToMealy. -/
def tomR (nx : List (List Int)) (ac : List Bool) (s a : Nat) : Int := if aN ac (nN nx s a) then 1 else 0
def tomO (nx : List (List Int)) (ac : List Bool) (i n : Nat) : List (List Int) := (List.range n).map fun s => (List.range i).map fun a => tomR nx ac s a
set_option maxHeartbeats 4000000 in
set_option maxRecDepth 100000 in
theorem dtom_bad (i st : Int) (A B : Option Addr) (n c m d : Nat) (nx : List (List Int)) (ac : List Bool) (w : World) (hx : Lists w A n nx) (ha : Bools w B m ac) (hv : ¬ tomE i st nx ac = 0) :
    Calls Try.prog 31 #[.agg #[.int .i64 i, .int .i64 st, .slice A n c, .slice B m d]] w fun e w' => e = .returned (.tuple #[.agg #[.int .i64 0, .int .i64 0, .slice none 0 0, .slice none 0 0], .int .i64 (tomE i st nx ac)]) ∧ Below w.heap.size w w' := by
  obtain ⟨w0, hw0, hb0, hB, hR, hz0⟩ := tom_boxes w i st A B n c m d
  obtain ⟨k0, k1, k2, k3, _⟩ := hB.cells
  have HW0 := Lib.hid hw0
  have HX := Lib.hid (hx.below hb0)
  have HA := Lib.hid (ha.below hb0)
  have HB0 := Lib.hid hb0
  have HB := Lib.hid hB
  have HR := Lib.hid hR
  have HZ := Lib.hid hz0
  clear hw0 hB hb0 hR hz0
  rw [HW0.out] at k0 k1 k2 k3
  by_cases h1 : vldD i st nx ac = 0
  · have h2 : ¬ i ≤ 64 := fun h => hv (by unfold tomE; rw [if_pos h1, if_pos h])
    have HE := Lib.hid (show tomE i st nx ac = 2 by unfold tomE; rw [if_pos h1, if_neg h2])
    have HV := Lib.hid h1
    have d1 : decide ((64 : Int) < i) = true := decide_eq_true (by omega)
    clear hv h1 h2
    go_enter Try.func31, Try.ntmps31
    go_wp2_with fail
    rw [← HW0.out]
    refine (pvalD _ _ _ _ _ _ _ _ _ _ _ HX.out HA.out.1 HA.out.2.1).mono ?_
    rintro e w1 ⟨rfl, b1⟩
    rw [HV.out]
    have hzz := HZ.out
    have HRr := Lib.hid (HR.out.kept b1 (show w.heap.size + 1 < w0.heap.size by omega))
    obtain ⟨q0, q1, q2, q3, z0, z1, z2, z3⟩ := HRr.out.cells
    clear hzz k0 k1 k2 k3
    obtain ⟨k0, _, _, _, _⟩ := (HB.out.on9 b1).cells
    go_wp2_with fail
    refine bodyPost_ret (results_mly rfl _ _ (w.heap.size + 1) (.int .i64 0) (.int .i64 0) (.slice none 0 0) (.slice none 0 0) rfl (HRr.out.set4 _ _ _ _)) rfl ?_
    exact ⟨by rw [HE.out]; rfl, below_set4 (by omega) (bt HB0.out b1) _ _ _ _⟩
  · have HE := Lib.hid (show tomE i st nx ac = vldD i st nx ac by unfold tomE; rw [if_neg h1])
    obtain ⟨x, hx0, hxe⟩ : ∃ x, ¬ x = 0 ∧ vldD i st nx ac = x := ⟨_, h1, rfl⟩
    have HXE := Lib.hid hxe
    have t1 : (x != 0) = true := by simpa using hx0
    clear hv h1 hxe
    go_enter Try.func31, Try.ntmps31
    go_wp2_with fail
    rw [← HW0.out]
    refine (pvalD _ _ _ _ _ _ _ _ _ _ _ HX.out HA.out.1 HA.out.2.1).mono ?_
    rintro e w1 ⟨rfl, b1⟩
    rw [HXE.out]
    have hzz := HZ.out
    have HRr := Lib.hid (HR.out.kept b1 (show w.heap.size + 1 < w0.heap.size by omega))
    obtain ⟨q0, q1, q2, q3, z0, z1, z2, z3⟩ := HRr.out.cells
    clear hzz k0 k1 k2 k3
    go_wp2_with fail
    refine bodyPost_ret (results_mly rfl _ _ (w.heap.size + 1) (.int .i64 0) (.int .i64 0) (.slice none 0 0) (.slice none 0 0) rfl (HRr.out.set4 _ _ _ _)) rfl ?_
    exact ⟨by rw [HE.out, HXE.out]; rfl, below_set4 (by omega) (bt HB0.out b1) _ _ _ _⟩
theorem OwnR.off {w : World} {base i b a : Nat} {v u : Value} {bk ck : Nat → Nat} {xss : List (List Int)} {cur : Array Value} (h : OwnR w base v i bk ck xss) (hb : w.heap[b]? = some (.cells cur 3 (0, 0))) (hn : ∀ s, s < xss.length → bk s ≠ b) : OwnR (w.setCell ⟨b, a, none⟩ u) base v i bk ck xss := by
  obtain ⟨h1, h2, h3⟩ := h
  refine ⟨⟨h1.1, ?_⟩, fun t ht => ?_, h3⟩
  · rcases h1.2 with e | ⟨g, cap, cur2, e, hbg, hg, r⟩
    · exact .inl e
    · exact .inr ⟨g, cap, cur2, e, hbg, KeptT.off hb (by decide) _ g cur2 hg, r⟩
  · obtain ⟨b1, b2, b3, b4⟩ := h2 t ht
    refine ⟨b1, by simpa using b2, b3, ⟨b4.1, ?_⟩⟩
    rcases b4.2 with e2 | ⟨g, cap, cur2, e2, hbg, hg, r⟩
    · exact .inl e2
    · refine .inr ⟨g, cap, cur2, e2, hbg, (heap_setCell_other w ⟨b, a, none⟩ g _ ?_).trans hg, r⟩
      intro e3
      have e3 : g = b := e3
      have e4 : bk t = g := by
        injection e2 with e2 _ _
        injection e2 with e2
        injection e2
      exact hn t ht (by rw [e4, e3])
theorem OwnR.outer {w : World} {base i n c : Nat} {A : Option Addr} {bk ck : Nat → Nat} {xss : List (List Int)} (h : OwnR w base (.slice A n c) i bk ck xss) {s : Nat} (hs : s < xss.length) : ∃ g, A = some ⟨g, 0, none⟩ ∧ w.cell? ⟨g, s, none⟩ = some (.slice (some ⟨bk s, 0, none⟩) i (ck s)) := by
  obtain ⟨h1, _, _⟩ := h
  rcases h1.2 with ⟨e, h0⟩ | ⟨g, cap, cur, e, hbg, hg, r⟩
  · omega
  · injection e with e1 e2 e3
    subst e1 e2 e3
    refine ⟨g, rfl, ?_⟩
    rw [World.ownsRow.cellAt h1 s (by omega), List.getElem?_map, List.getElem?_range hs]; rfl
end Go.Proofs.Ythjnghldedfdoaa
end

section
/- The closure of FromMealy's steps. -/
namespace Go.Proofs.Ythjnghldedfdoaa
open Go.RowKit

set_option maxHeartbeats 2000000 in
set_option maxRecDepth 100000 in
theorem dfrom1 (g : Nat) (A A' : Option Addr) (n c c' : Nat) (nx nx' : List (List Int)) (a i0 : Nat) (p q : Nat) (w : World) (hg : w.cell? ⟨g, 2, none⟩ = some (.slice A n c)) (hg' : w.cell? ⟨g, 3, none⟩ = some (.slice A' n c'))
    (hx : Lists w A n nx) (hx' : Lists w A' n nx') (hp : p < n) (ha : a < i0) (hr : (nx.getD p []).length = i0 ∧ (nx.getD p []).getD a 0 = (nN nx p a : Int)) (hr' : (nx'.getD p []).length = i0 ∧ (nx'.getD p []).getD a 0 = (nN nx' p a : Int)) :
    Calls Try.prog 69 #[.agg #[.int .i64 p, .int .i64 q], .int .i64 a, .pointer (some ⟨g, 0, none⟩)] w fun e w' => e = .returned (.agg #[.int .i64 (nN nx p a : Nat), .int .i64 (nN nx' p a : Nat)]) ∧ Below w.heap.size w w' := by
  obtain ⟨w1, hw1⟩ : ∃ w1, w1 = (w.alloc (.cells #[.int .i64 p, .int .i64 q] 82)).alloc (.cells #[.int .i64 0, .int .i64 0] 82) := ⟨_, rfl⟩
  have hb : Below w.heap.size w w1 := by rw [hw1]; exact (alloc_below _ _).alloc (by simp) _
  have p1 : w1.heap[w.heap.size]? = some (.cells #[.int .i64 p, .int .i64 q] 82 (0, 0)) := by
    rw [hw1]
    exact ((alloc_below (w.alloc (.cells #[.int .i64 p, .int .i64 q] 82)) _).block _ (by simp)).trans (heap_alloc_new w _)
  have p2 : w1.heap[w.heap.size + 1]? = some (.cells #[.int .i64 0, .int .i64 0] 82 (0, 0)) := by
    rw [hw1]
    have := heap_alloc_new (w.alloc (.cells #[.int .i64 p, .int .i64 q] 82)) (.cells #[.int .i64 0, .int .i64 0] 82)
    simpa using this
  have HW := Lib.hid hw1
  have g2 := (hb.cell (p := ⟨g, 2, none⟩) (World.block_lt_of_cell? w _ hg)).trans hg
  have g2' := (hb.cell (p := ⟨g, 3, none⟩) (World.block_lt_of_cell? w _ hg')).trans hg'
  have s0 := cell_of_row w1 w.heap.size 0 _ _ (0, 0) p1
  have s1 := cell_of_row w1 w.heap.size 1 _ _ (0, 0) p1
  obtain ⟨gA, oA, A1, nA, cA, eA, lA, hdA, hrA⟩ := hx.at_ hp
  subst eA
  obtain rfl : nA = i0 := by rw [← hrA.1]; exact hr.1
  obtain ⟨gB, oB, eB, lB, xB⟩ := hrA.at_ ha
  subst eB
  rw [hr.2] at xB
  obtain ⟨gC, oC, A2, nC, cC, eC, lC, hdC, hrC⟩ := hx'.at_ hp
  subst eC
  obtain rfl : nC = nA := by rw [← hrC.1]; exact hr'.1
  obtain ⟨gD, oD, eD, lD, xD⟩ := hrC.at_ ha
  subst eD
  rw [hr'.2] at xD
  have hdA := (hb.cell (p := ⟨gA, oA + p, none⟩) lA).trans hdA
  have hdC := (hb.cell (p := ⟨gC, oC + p, none⟩) lC).trans hdC
  have xB := (hb.cell (p := ⟨gB, oB + a, none⟩) lB).trans xB
  have xD := (hb.cell (p := ⟨gD, oD + a, none⟩) lD).trans xD
  have eg : g < w.heap.size := World.block_lt_of_cell? w _ hg
  have n0 : w.heap.size ≠ w.heap.size + 1 := by omega
  have n1 : g ≠ w.heap.size + 1 := by omega
  have n3 : gA ≠ w.heap.size + 1 := by omega
  have n4 : gB ≠ w.heap.size + 1 := by omega
  have n5 : gC ≠ w.heap.size + 1 := by omega
  have n6 : gD ≠ w.heap.size + 1 := by omega
  generalize nN nx p a = u at xB ⊢
  generalize nN nx' p a = v at xD ⊢
  have t0 := cell_of_row w1 (w.heap.size + 1) 0 _ _ (0, 0) p2
  have t1 := cell_of_row w1 (w.heap.size + 1) 1 _ _ (0, 0) p2
  have f0 := frozen_of_row w1 (w.heap.size + 1) 0 _ _ p2
  have f1 := frozen_of_row w1 (w.heap.size + 1) 1 _ _ p2
  have HP2 := Lib.hid p2
  have HB := Lib.hid hb
  clear hw1 hb p1 p2 hrA hrC hr hr' hx hx' hg hg'
  go_enter Try.func69, Try.ntmps69
  go_wp2_with fail
  rw [← HW.out]
  go_region_held3 (fun w' => w'.cell? ⟨g, 2, none⟩ = some (.slice (some ⟨gA, oA, none⟩) n c) ∧ w'.cell? ⟨g, 3, none⟩ = some (.slice (some ⟨gC, oC, none⟩) n c') ∧ w'.cell? ⟨w.heap.size, 0, none⟩ = some (.int .i64 p) ∧ w'.cell? ⟨gA, oA + p, none⟩ = some (.slice (some ⟨gB, oB, none⟩) nC cA) ∧ w'.cell? ⟨gC, oC + p, none⟩ = some (.slice (some ⟨gD, oD, none⟩) nC cC) ∧ w'.cell? ⟨gB, oB + a, none⟩ = some (.int .i64 u) ∧ w'.cell? ⟨gD, oD + a, none⟩ = some (.int .i64 v)) (first | (refine ⟨?_, ?_, ?_, ?_, ?_, ?_, ?_⟩ <;> (refine two_far _ _ ?_ ?_ <;> assumption)) | go_keep) (fail)
  have h1 := heap_setCell_same w1 (w.heap.size + 1) 0 _ _ (Value.int .i64 (u : Nat)) HP2.out
  have h2 := heap_setCell_same _ (w.heap.size + 1) 1 _ _ (Value.int .i64 (v : Nat)) h1
  have h3 : (((w1.setCell ⟨w.heap.size + 1, 0, none⟩ (.int .i64 (u : Nat))).setCell ⟨w.heap.size + 1, 1, none⟩ (.int .i64 (v : Nat))).drew).heap[w.heap.size + 1]? = some (.cells #[.int .i64 (u : Nat), .int .i64 (v : Nat)] 82 (0, 0)) := h2
  have hb4 := below_drewN ((HB.out.setCell (p := ⟨w.heap.size + 1, 0, none⟩) (Nat.le_succ _) (.int .i64 (u : Nat))).setCell (p := ⟨w.heap.size + 1, 1, none⟩) (Nat.le_succ _) (.int .i64 (v : Nat))) 1
  have hb4 : Below w.heap.size w ((w1.setCell ⟨w.heap.size + 1, 0, none⟩ (.int .i64 (u : Nat))).setCell ⟨w.heap.size + 1, 1, none⟩ (.int .i64 (v : Nat))).drew := hb4
  generalize ((w1.setCell ⟨w.heap.size + 1, 0, none⟩ (.int .i64 (u : Nat))).setCell ⟨w.heap.size + 1, 1, none⟩ (.int .i64 (v : Nat))).drew = wx at h3 hb4 ⊢
  clear s0 s1 t0 t1 f0 f1 h1 h2
  go_wp2
  (try simp only [Exit.inBlock, Exit.then])
  refine bodyPost_ret (results_cell_row (by rfl) _ _ (w.heap.size + 1) 82 _ (0, 0) _ rfl h3 Try.underlying82 rfl (by kernel_rfl)) rfl ?_
  exact ⟨rfl, hb4⟩
end Go.Proofs.Ythjnghldedfdoaa
end

section
/- The walk of slices.Grow of a nil slice. -/
namespace Go.Proofs.Ythjnghldedfdoaa
open Go.RowKit

set_option maxHeartbeats 1000000 in
set_option maxRecDepth 100000 in
theorem grow_nil (N : Nat) (hN : N ≤ 17592186044416) (w : World) :
    Calls Try.prog 92 #[.slice none 0 0, .int .i64 N] w fun e w' => ∃ v, e = .returned v ∧ w'.ownsRow w.heap.size 3 1 v 0 [] ∧ Below w.heap.size w w' := by
  obtain ⟨i0, hi, hz0, hz1, hz2⟩ := info_parts info3
  by_cases h0 : N = 0
  · subst h0
    go_enter Try.func92, Try.ntmps92
    go_wp2
    go_ret
    exact ⟨_, rfl, World.ownsRow_nil _ _ _ _, Below.refl _ _⟩
  · have happ := Lib.run_append_nil_zeros (P := Try.prog) w 26 3 26 3 i0 (.int .i64 0) .i64 .i64 Try.underlying26 Try.underlying3 hi hz0 N (by omega) (by omega) (by omega) (by rw [hz2]; omega)
    have hge := grownCap_ge w N 0 3
    have hcm := grownCap_le_maxLen w N 0 3 (by unfold maxLen; omega)
    generalize grownCap w N 0 3 = cap at happ hge hcm
    generalize hZ : (Builtin.zeroCells (Value.int .i64 0).cells N ++ Builtin.zeroCells (Value.int .i64 0).cells (cap - N)) = Z at happ
    have hZs : Z.size = cap := by rw [← hZ]; simp [size_zeroCells, Value.cells]; omega
    have hp : (0 : Int) < N := by omega
    have HZ := Lib.hid hZs
    clear hZ hZs
    have hmx : cap ≤ 9223372036854775807 := by unfold maxLen at hcm; omega
    go_enter Try.func92, Try.ntmps92
    go_wp2_with (at_builtin; refine Lib.wpList_append_run _ rfl _ _ _ _ rfl _ _ rfl rfl _ _ happ ?_)
    go_ret
    refine ⟨_, rfl, ?_, (Below.refl _ _).drew.alloc (Nat.le_refl _) _⟩
    refine ⟨by simp, .inr ⟨w.heap.size, cap, Z, rfl, Nat.le_refl _, heap_alloc_new w _, Nat.zero_le _, hcm, by rw [HZ.out]; simp, by simp⟩⟩
end Go.Proofs.Ythjnghldedfdoaa
end

section
/- slices.Concat of lists of numbers. -/
namespace Go.Proofs.Ythjnghldedfdoaa
open Go.RowKit

set_option maxHeartbeats 1000000 in
set_option maxRecDepth 100000 in
theorem sconcat (A : Option Addr) (n c : Nat) (xss : List (List Int)) (w : World) (h : Lists w A n xss) (hlen : xss.flatten.length ≤ 17592186044416) :
    Calls Try.prog 85 #[.slice A n c] w fun e w' => ∃ A' c', e = .returned (.slice A' xss.flatten.length c') ∧ Owned w' w.heap.size (.slice A' xss.flatten.length c') xss.flatten ∧ Below w.heap.size w w' := by
  have L := Lib.hid h.1
  have hn := h.2.1
  have hall := Lib.hid (show cat xss n = xss.flatten by rw [← L.out, cat_all])
  have hcl := Lib.hid (fun j => Nat.le_trans (cat_len xss j) hlen)
  clear hlen
  go_enter Try.func85, Try.ntmps85
  go_wp2
  go_loop [3, 11] (fun s i => ∃ k : Nat, k ≤ n ∧ i = .int .i64 k ∧ s = .int .i64 (cat xss k).length) (fun _ i => n - (intOf i).toNat)
  case atStart => exact ⟨0, Nat.zero_le _, rfl, by rw [cat_zero]; rfl⟩
  case round =>
    obtain ⟨k, hk, rfl, rfl⟩ := hrel
    by_cases hlt : k < n
    · obtain ⟨b, off, Aj, nj, cj, rfl, _, hcell, hI⟩ := h.at_ hlt
      have hs : (cat xss (k + 1)).length = (cat xss k).length + nj := by rw [cat_succ (by rw [L.out]; exact hlt), List.length_append, hI.1]
      have hc1 := hcl.out (k + 1)
      generalize (cat xss k).length = a at hs
      generalize hz : (cat xss (k + 1)).length = z at hs hc1
      have HZ := Lib.hid hz
      have u1 : ((a : Int) + (nj : Int)) = (z : Int) := by omega
      have d1 : decide (((z : Nat) : Int) < 0) = false := by simp
      clear hI hz hs
      go_wp2
      go_round
      case rel => exact ⟨k + 1, by omega, by go_num, by rw [HZ.out]⟩
      case measure => simp [intOf]; omega
    · obtain rfl : k = n := by omega
      rw [hall.out]
      have hf := hcl.out k
      rw [hall.out] at hf
      obtain ⟨F, hF⟩ : ∃ F : Nat, F = xss.flatten.length := ⟨_, rfl⟩
      rw [← hF] at hf ⊢
      have HF := Lib.hid hF
      clear hF
      go_wp2_with fail
      refine (grow_nil F hf _).mono ?_
      rintro e w1 ⟨v1, rfl, o1, b1⟩
      have O1 := Lib.hid (show Owned w1 w.heap.size v1 [] from o1)
      clear o1
      go_wp2
      go_loopw [6, 27] (fun v i wr => ∃ q : Nat, q ≤ k ∧ i = .int .i64 q ∧ Owned wr w.heap.size v (cat xss q) ∧ Below w.heap.size w wr) (fun _ i _ => k - (intOf i).toNat)
      case atStart => exact ⟨0, Nat.zero_le _, rfl, by rw [cat_zero]; exact O1.out, b1⟩
      case round =>
        obtain ⟨q, hq, rfl, hown, hbr⟩ := hrel
        by_cases hlt : q < k
        · obtain ⟨b, off, Aj, nj, cj, rfl, _, hcell, hI⟩ := (h.below hbr).at_ hlt
          have hs := Lib.hid (cat_succ (xss := xss) (j := q) (by rw [L.out]; exact hlt))
          have hb2 := hcl.out (q + 1)
          rw [hs.out] at hb2
          obtain ⟨v', w', hr, ho', _, hbel'⟩ := run_append_ints _ _ _ _ _ _ _ cj hown hI hbr.size hb2
          rw [← hs.out] at ho'
          have O2 := Lib.hid ho'
          have B2 := Lib.hid (hbr.trans hbel')
          clear hb2 hI hown hbr ho' hbel'
          go_wp2_with (at_builtin; refine Lib.wpList_append_run _ rfl _ _ _ _ rfl _ _ rfl rfl _ _ hr ?_)
          go_roundw
          case rel => exact ⟨q + 1, by omega, by go_num, O2.out, B2.out⟩
          case measure => simp [intOf]; omega
        · obtain rfl : q = k := by omega
          rw [hall.out] at hown
          have hf2 := hown.form
          obtain ⟨A2, c2, rfl⟩ := hf2
          have O2 := Lib.hid hown
          clear hown
          go_wp2
          go_ret
          exact ⟨A2, c2, rfl, O2.out, hbr⟩
end Go.Proofs.Ythjnghldedfdoaa
end

section
/- slices.Sort and slices.Compact at a row of one's own. -/
namespace Go.Proofs.Ythjnghldedfdoaa
open Go.RowKit Go.Sort

theorem psorti (A : Option Addr) (n c : Nat) (xs : List Int) (base : Nat) (w : World) (ho : Owned w base (.slice A n c) xs) (hb : base ≤ w.heap.size) (hn : n ≤ 17592186044416) :
    Calls Try.prog 86 #[.slice A n c] w fun e w' => e = .returned (.tuple #[]) ∧ Owned w' base (.slice A n c) (xs.mergeSort fun x y => decide (x ≤ y)) ∧ Below base w w' := by
  have hl : xs.length = n := by obtain ⟨A', c', e⟩ := ho.form; cases e; rfl
  subst hl
  rcases ho.2 with ⟨e, h0⟩ | ⟨g, cap, cur, e, hbg, hg, h1, h2, h3, h4⟩
  · have hx : xs = [] := List.eq_nil_of_length_eq_zero h0
    subst hx
    refine (Try.slices_Sort_int_none A c w).mono ?_
    rintro e w' ⟨rfl, rfl⟩
    exact ⟨rfl, by rw [List.mergeSort_nil]; exact ho, Below.refl _ _⟩
  · cases e
    have hH := holds_of_blockI hg (by rw [Nat.mul_one] at h4; exact h4)
    refine (Try.slices_Sort_int g 0 c xs w hH (by
      rcases Nat.lt_or_ge g w.heap.size with hlt | hge
      · exact hlt
      · rw [Array.getElem?_eq_none hge] at hg; cases hg) (by omega)).mono ?_
    rintro e w' ⟨rfl, m, os, rfl⟩
    refine ⟨rfl, ?_, (Below.refl _ _).grown (grownBy_sortedI _) hb (fun k hk => by cases hk; exact hbg)⟩
    have := ownsRow_sortedI (n := m) (os := os) (ts := xs.mergeSort fun x y => decide (x ≤ y)) (ss := xs) (List.length_mergeSort xs) hbg hg h1 h2 h3
    unfold Owned
    rw [List.length_mergeSort]
    exact this

theorem pcompacti (A : Option Addr) (n c : Nat) (xs : List Int) (base : Nat) (w : World) (ho : Owned w base (.slice A n c) xs) (hb : base ≤ w.heap.size) (hn : n ≤ 17592186044416) :
    Calls Try.prog 87 #[.slice A n c] w fun e w' => ∃ A' c', e = .returned (.slice A' (Lib.compact xs).length c') ∧ Owned w' base (.slice A' (Lib.compact xs).length c') (Lib.compact xs) ∧ Below base w w' := by
  have hl : xs.length = n := by obtain ⟨A', c', e⟩ := ho.form; cases e; rfl
  subst hl
  rcases ho.2 with ⟨e, h0⟩ | ⟨g, cap, cur, e, hbg, hg, h1, h2, h3, h4⟩
  · have hx : xs = [] := List.eq_nil_of_length_eq_zero h0
    subst hx
    refine (Try.slices_Compact_int_empty A c w).mono ?_
    rintro e w' ⟨rfl, rfl⟩
    exact ⟨A, c, rfl, ho, Below.refl _ _⟩
  · cases e
    have hH := holds_of_blockI hg (by rw [Nat.mul_one] at h4; exact h4)
    refine (Try.slices_Compact_int g 0 c xs w hH (by omega) h1).mono ?_
    rintro e w' ⟨rfl, q, rfl⟩
    have hle := Lib.compact_length_le xs
    have hc := Lib.ownsRow_putRow (enc := Value.int .i64) (q := q) (k := (Lib.compact xs).length) (ys := Lib.compact xs ++ List.replicate (xs.length - (Lib.compact xs).length) 0) ho (by simp; omega) hle
    rw [List.take_left] at hc
    exact ⟨some ⟨g, 0, none⟩, c, rfl, hc, Lib.below_putRow (Below.refl _ _) hbg⟩
end Go.Proofs.Ythjnghldedfdoaa
end

section
/- A runner: step and run. -/
namespace Go.Proofs.Ythjnghldedfdoaa
open Go.RowKit

end Go.Proofs.Ythjnghldedfdoaa
end

section
/- run, From, Run and Step of a machine. -/
namespace Go.Proofs.Ythjnghldedfdoaa
open Go.RowKit

end Go.Proofs.Ythjnghldedfdoaa
end

section
/- What From, Run and Step return. -/
namespace Go.Proofs.Ythjnghldedfdoaa

/-- What From returns. -/
def frm (i st : Int) (nx ot : List (List Int)) (s : Int) (xs : List Int) : List Int × Int × Int :=
  if vld i st nx ot = 0 then (if 0 ≤ s ∧ s < nx.length then (if chk xs i = 0 then (runO nx ot s.toNat xs, (runS nx s.toNat xs : Int), 0) else ([], 0, chk xs i)) else ([], 0, 2)) else ([], 0, vld i st nx ot)
theorem frm_bad {i st : Int} {nx ot : List (List Int)} {s : Int} {xs : List Int} (h : ¬ vld i st nx ot = 0) : frm i st nx ot s xs = ([], 0, vld i st nx ot) := by unfold frm; rw [if_neg h]
theorem frm_state {i st : Int} {nx ot : List (List Int)} {s : Int} {xs : List Int} (h : vld i st nx ot = 0) (h1 : ¬ (0 ≤ s ∧ s < nx.length)) : frm i st nx ot s xs = ([], 0, 2) := by unfold frm; rw [if_pos h, if_neg h1]
theorem frm_word {i st : Int} {nx ot : List (List Int)} {s : Int} {xs : List Int} (h : vld i st nx ot = 0) (h1 : 0 ≤ s ∧ s < nx.length) (h2 : ¬ chk xs i = 0) : frm i st nx ot s xs = ([], 0, chk xs i) := by unfold frm; rw [if_pos h, if_pos h1, if_neg h2]
theorem frm_ok {i st : Int} {nx ot : List (List Int)} {s : Nat} {xs : List Int} (h : vld i st nx ot = 0) (h1 : s < nx.length) (h2 : chk xs i = 0) : frm i st nx ot s xs = (runO nx ot s xs, (runS nx s xs : Int), 0) := by
  unfold frm; rw [if_pos h, if_pos (by omega), if_pos h2]; rfl
theorem frm_len {i st : Int} {nx ot : List (List Int)} {s : Int} {xs : List Int} : (frm i st nx ot s xs).1.length ≤ 1024 := by
  by_cases h : vld i st nx ot = 0
  · by_cases h1 : 0 ≤ s ∧ s < nx.length
    · by_cases h2 : chk xs i = 0
      · obtain ⟨t, rfl⟩ : ∃ t : Nat, s = t := ⟨s.toNat, by omega⟩
        rw [frm_ok h (by omega) h2]
        show (runO nx ot t xs).length ≤ 1024
        rw [runO_len]
        exact (chk_zero h2).2.2.1
      · rw [frm_word h h1 h2]; simp
    · rw [frm_state h h1]; simp
  · rw [frm_bad h]; simp
theorem frm_zero {i st : Int} {nx ot : List (List Int)} {s : Int} {xs : List Int} (h : (frm i st nx ot s xs).2.2 = 0) : ∃ i' st' n t : Nat, i = i' ∧ st = st' ∧ s = t ∧ t < n ∧ Mok i' st' n nx ot ∧ chk xs i = 0 := by
  by_cases h0 : vld i st nx ot = 0
  · obtain ⟨i', st', n, rfl, rfl, hM⟩ := vld_zero h0
    by_cases h1 : 0 ≤ s ∧ s < nx.length
    · by_cases h2 : chk xs i' = 0
      · exact ⟨i', st', n, s.toNat, rfl, rfl, by omega, by have := hM.nxl; omega, hM, h2⟩
      · rw [frm_word h0 h1 h2] at h; exact absurd h h2
    · rw [frm_state h0 h1] at h; exact absurd h (by show ¬ (2 : Int) = 0; omega)
  · rw [frm_bad h0] at h; exact absurd h h0
theorem Mok.frm {i st n : Nat} {nx ot : List (List Int)} (hM : Mok i st n nx ot) {s : Nat} (hs : s < n) {xs : List Int} (h : chk xs i = 0) : frm i st nx ot s xs = (runO nx ot s xs, (runS nx s xs : Int), 0) :=
  frm_ok hM.vld (by rw [hM.nxl]; exact hs) h

/-- What Step returns. -/
def stp (i st : Int) (nx ot : List (List Int)) (s a : Int) : Int × Int × Int :=
  if vld i st nx ot = 0 then (if (0 ≤ s ∧ s < nx.length) ∧ 0 ≤ a ∧ a < i then ((nN nx s.toNat a.toNat : Int), oN ot s.toNat a.toNat, 0) else (0, 0, 2)) else (0, 0, vld i st nx ot)
theorem stp_bad {i st : Int} {nx ot : List (List Int)} {s a : Int} (h : ¬ vld i st nx ot = 0) : stp i st nx ot s a = (0, 0, vld i st nx ot) := by unfold stp; rw [if_neg h]
theorem stp_state {i st : Int} {nx ot : List (List Int)} {s a : Int} (h : vld i st nx ot = 0) (h1 : ¬ ((0 ≤ s ∧ s < nx.length) ∧ 0 ≤ a ∧ a < i)) : stp i st nx ot s a = (0, 0, 2) := by unfold stp; rw [if_pos h, if_neg h1]
theorem stp_ok {i st : Int} {nx ot : List (List Int)} {s a : Nat} (h : vld i st nx ot = 0) (h1 : s < nx.length) (h2 : (a : Int) < i) : stp i st nx ot s a = ((nN nx s a : Int), oN ot s a, 0) := by unfold stp; rw [if_pos h, if_pos (by omega)]; rfl
end Go.Proofs.Ythjnghldedfdoaa
end

section
/- From, Run and Step of a machine. -/
namespace Go.Proofs.Ythjnghldedfdoaa
open Go.RowKit

theorem ret_from {A : Option Addr} {l l' c : Nat} {x x' y y' : Int} (h1 : l = l') (h2 : x = x') (h3 : y = y') : Ending.returned (.tuple #[.slice A l c, .int .i64 x, .int .i64 y]) = .returned (.tuple #[.slice A l' c, .int .i64 x', .int .i64 y']) := by rw [h1, h2, h3]
theorem ret_run {A : Option Addr} {l l' c : Nat} {y y' : Int} (h1 : l = l') (h3 : y = y') : Ending.returned (.tuple #[.slice A l c, .int .i64 y]) = .returned (.tuple #[.slice A l' c, .int .i64 y']) := by rw [h1, h3]
theorem ret_three {k k' k'' : IntKind} {a b c a' b' c' : Int} (h1 : a = a') (h2 : b = b') (h3 : c = c') : Ending.returned (.tuple #[.int k a, .int k' b, .int k'' c]) = .returned (.tuple #[.int k a', .int k' b', .int k'' c']) := by rw [h1, h2, h3]

end Go.Proofs.Ythjnghldedfdoaa
end

section
/- The reference: Outs. -/
namespace Go.Proofs.Ythjnghldedfdoaa
open Go.RowKit

theorem skol {α : Sort _} {p : Nat → α → Prop} (h : ∀ k, ∃ x, p k x) : ∃ F : Nat → α, ∀ k, p k (F k) := ⟨fun k => Classical.choose (h k), fun k => Classical.choose_spec (h k)⟩

/-- append at a step of a region that draws. -/
theorem step_append_run {P : Program} {ops : Array Oper} {o : Oper} {a : Act} {w : World} {K : Act → World → Prop} {Q : Exit → Act → World → Prop} {E : Prop} (hgd : o.guard = none) (s x : Operand) (t tn : TypeId)
    (ho : o.op = .call { callee := .builtin .append, args := #[s, x], argTypes := #[t, tn] }) (vs vx : Value) (hs : a.eval s = vs) (hx : a.eval x = vx)
    (v' : Value) (w' : World) (hr : (Builtin.append_ #[t, tn] o.type #[vs, vx]).run P w = .ok v' w') (h : K (a.put o.dst v') w') :
    if Region.wanted o (yielded ops a.tmps) = true then Oper.wp P o a w K Q else E := by
  have hw : Region.wanted o (yielded ops a.tmps) = true := by simp [Region.wanted, hgd]
  rw [if_pos hw]
  exact Lib.wp_append_run w s x t tn ho vs vx hs hx v' w' hr h

theorem Owned.drew {w : World} {base : Nat} {v : Value} {xs : List Int} (h : Owned w base v xs) (k : Nat) : Owned (w.drewN k) base v xs := h

/-- append of one number, behind any number of draws. -/
theorem app_all {wr : World} {base q : Nat} {A : Option Addr} {c : Nat} {xs : List Int} (h : Owned wr base (.slice A q c) xs) (x : Int) (hbase : base ≤ wr.heap.size) (hl : xs.length < 17592186044416) :
    ∃ F : Nat → (Option Addr × Nat) × World, ∀ k, (Builtin.append_ #[26, 26] 26 #[.slice A q c, .slice (some ⟨wr.heap.size, 0, none⟩) 1 1]).run Try.prog ((wr.drewN k).alloc (.cells #[.int .i64 x] 3)) = .ok (.slice (F k).1.1 (q + 1) (F k).1.2) (F k).2 ∧
      Owned (F k).2 base (.slice (F k).1.1 (q + 1) (F k).1.2) (xs ++ [x]) ∧ Below base wr (F k).2 := by
  have hq : q = xs.length := by obtain ⟨A', c', e⟩ := h.form; cases e; rfl
  refine skol (p := fun k (r : (Option Addr × Nat) × World) => (Builtin.append_ #[26, 26] 26 #[.slice A q c, .slice (some ⟨wr.heap.size, 0, none⟩) 1 1]).run Try.prog ((wr.drewN k).alloc (.cells #[.int .i64 x] 3)) = .ok (.slice r.1.1 (q + 1) r.1.2) r.2 ∧
      Owned r.2 base (.slice r.1.1 (q + 1) r.1.2) (xs ++ [x]) ∧ Below base wr r.2) fun k => ?_
  obtain ⟨A', c', w', h1, h2, h3, _⟩ := run_append_one (h.drew k) x hbase hl
  rw [← hq] at h1 h2
  exact ⟨((A', c'), w'), h1, h2, (below_drewN (Below.refl _ _) k).trans h3⟩

set_option maxHeartbeats 2000000 in
set_option maxRecDepth 100000 in
theorem routs (i st n : Nat) (A B D : Option Addr) (c d k e s : Nat) (nx ot : List (List Int)) (xs : List Int) (w : World) (hM : Mok i st n nx ot) (hx : Lists w A n nx) (ho : Lists w B n ot) (hs : s < n) (hD : Ints w D k xs) (hS : ∀ x, x ∈ xs → 0 ≤ x ∧ x < i) :
    Calls Try.prog 90 #[.agg #[.int .i64 i, .int .i64 st, .slice A n c, .slice B n d], .int .i64 s, .slice D k e] w fun e w' => ∃ A' c', e = .returned (.tuple #[.slice A' k c', .int .i64 (runS nx s xs)]) ∧ Owned w' w.heap.size (.slice A' k c') (runO nx ot s xs) ∧ Below w.heap.size w w' := by
  have L := Lib.hid hD.1
  have hk := hD.2.1
  have hN := hx.2.1
  have HS := Lib.hid hS
  clear hS
  have hb0 := alloc_below w (.cells #[.int .i64 i, .int .i64 st, .slice A n c, .slice B n d] 58)
  go_enter Try.func90, Try.ntmps90
  go_wp2
  go_loopw [1, 8, 9] (fun sv v j wr => ∃ (q s' : Nat) (A' : Option Addr) (c' : Nat), q ≤ k ∧ j = .int .i64 q ∧ v = .slice A' q c' ∧ sv = .int .i64 s' ∧ s' = runS nx s (xs.take q) ∧ s' < n ∧ Owned wr (w.heap.size + 1) (.slice A' q c') (runO nx ot s (xs.take q)) ∧ Below (w.heap.size + 1) (w.alloc (.cells #[.int .i64 i, .int .i64 st, .slice A n c, .slice B n d] 58)) wr) (fun _ _ j _ => k - (intOf j).toNat)
  case atStart => exact ⟨0, s, none, 0, Nat.zero_le _, rfl, rfl, rfl, rfl, hs, Owned.nil _ _, Below.refl _ _⟩
  case round =>
    obtain ⟨q, s', A', c', hq, rfl, rfl, rfl, hss, hs', hown, hbr⟩ := hrel
    have hbw := hb0.trans (hbr.mono (Nat.le_succ _))
    have hsz : w.heap.size + 1 ≤ wr.heap.size := by have := hbr.size; simpa using this
    have HSS := Lib.hid hss
    clear hss
    by_cases hlt : q < k
    · obtain ⟨k0, k1, k2, k3⟩ := box4 hbr
      obtain ⟨b1, o1, rfl, hb1, hc0⟩ := hD.at_ hlt
      have hc1 := (hbw.cell (p := ⟨b1, o1 + q, none⟩) hb1).trans hc0
      clear hc0
      have hxm := HS.out (xs.getD q 0) (by rw [List.getD_eq_getElem?_getD, List.getElem?_eq_getElem (by rw [L.out]; exact hlt)]; exact List.getElem_mem _)
      have hO := Lib.hid (runO_next (nx := nx) (ot := ot) (s := s) (j := q) (xs := xs) (by rw [L.out]; exact hlt))
      have hT := Lib.hid (runS_next (nx := nx) (s := s) (j := q) (xs := xs) (by rw [L.out]; exact hlt))
      rw [show xs[q]?.getD 0 = xs.getD q 0 by simp, ← HSS.out] at hO hT
      generalize xs.getD q 0 = x at hc1 hxm hO hT
      obtain ⟨a, rfl⟩ : ∃ a : Nat, x = a := ⟨x.toNat, by omega⟩
      have ha : a < i := by omega
      rw [Int.toNat_natCast] at hO hT
      have hlen : (runO nx ot s (xs.take q)).length = q := by rw [runO_len, List.length_take, L.out]; omega
      generalize runO nx ot s (xs.take q) = os at hown hO hlen
      obtain ⟨F, hF⟩ := app_all hown (oN ot s' a) hsz (by rw [hlen]; omega)
      rw [← hO.out] at hF
      have HF := Lib.hid hF
      obtain ⟨g1, p1, A1, n1, c1, hA, hg1, hd1, hr1⟩ := hx.at_ hs'
      obtain ⟨g2, p2, A2, n2, c2, hB, hg2, hd2, hr2⟩ := ho.at_ hs'
      have hi1 := (hM.row s' hs').1
      have hi2 := (hM.row s' hs').2.1
      have hl1 := hr1.1
      have hl2 := hr2.1
      obtain rfl : n1 = i := by omega
      obtain rfl : n2 = n1 := by omega
      obtain ⟨g3, p3, rfl, hg3, hy1⟩ := hr1.at_ ha
      obtain ⟨g4, p4, rfl, hg4, hy2⟩ := hr2.at_ ha
      rw [hM.nN_eq hs' ha] at hy1
      change w.cell? _ = some (.int .i64 (oN ot s' a)) at hy2
      have hlt2 := hM.nN_lt hs' ha
      have hn1 := hr1.2.1
      subst hA hB
      clear hl1 hl2 hi1 hi2 hlen
      have tr : ∀ (g o : Nat) (v : Value), g < w.heap.size → w.cell? ⟨g, o, none⟩ = some v → wr.cell? ⟨g, o, none⟩ = some v := fun g o v h h2 => (hbw.cell (p := ⟨g, o, none⟩) h).trans h2
      have trF : ∀ (g o : Nat) (v : Value), g < w.heap.size + 1 → wr.cell? ⟨g, o, none⟩ = some v → ∀ k, (F k).2.cell? ⟨g, o, none⟩ = some v := fun g o v h h2 k => ((hF k).2.2.cell (p := ⟨g, o, none⟩) h).trans h2
      have e1 := tr _ _ _ hg1 hd1
      have e2 := tr _ _ _ hg2 hd2
      have e3 := tr _ _ _ hg3 hy1
      have e4 := tr _ _ _ hg4 hy2
      have f1 := trF _ _ _ (by omega) e1
      have f3 := trF _ _ _ (by omega) e3
      have f5 := trF _ _ _ (by omega) hc1
      have f6 := trF _ _ _ (by omega) k2
      clear tr trF hF hd1 hd2 hy1 hy2 k0 k1
      go_wp2
      go_region_law (refine step_append_run rfl _ _ _ _ rfl _ _ rfl rfl _ _ (HF.out _).1 ?_)
      all_goals
        go_wp2
        go_quiet (fail)
        go_wp2
        go_roundw
        case rel => exact ⟨q + 1, _, _, _, by omega, by go_num, rfl, rfl, hT.out.symm, hlt2, (HF.out _).2.1, below_drewN (hbr.trans (HF.out _).2.2) _⟩
        case measure => simp [intOf]; omega
    · obtain rfl : q = k := by omega
      have hall := Lib.hid (List.take_of_length_le (l := xs) (i := q) (by rw [L.out]; exact Nat.le_refl _))
      have hss := HSS.out
      rw [hall.out] at hown hss
      subst hss
      go_wp2
      go_ret2
      exact ⟨A', c', rfl, hown.lower (Nat.le_succ _), hbw⟩
end Go.Proofs.Ythjnghldedfdoaa
end

section
/- Valid of a machine by the reference. -/
namespace Go.Proofs.Ythjnghldedfdoaa
open Go.RowKit

set_option maxHeartbeats 2000000 in
set_option maxRecDepth 100000 in
theorem rvalid (i st : Int) (A B : Option Addr) (n c m d : Nat) (nx ot : List (List Int)) (w : World) (hx : Lists w A n nx) (ho : Lists w B m ot) :
    Calls Try.prog 71 #[.agg #[.int .i64 i, .int .i64 st, .slice A n c, .slice B m d]] w fun e w' => e = .returned (.int .i64 (vld i st nx ot)) ∧ Below w.heap.size w w' := by
  have L1 := Lib.hid hx.1
  have L2 := Lib.hid ho.1
  have hn := hx.2.1
  have hm := ho.2.1
  have hb0 := alloc_below w (.cells #[.int .i64 i, .int .i64 st, .slice A n c, .slice B m d] 58)
  have hsz0 : (w.alloc (.cells #[.int .i64 i, .int .i64 st, .slice A n c, .slice B m d] 58)).heap.size = w.heap.size + 1 := by simp
  have HZ := Lib.hid hsz0
  clear hsz0
  by_cases hi : 1 ≤ i ∧ i ≤ 64
  · have HI := Lib.hid hi
    obtain ⟨hi1, hi2⟩ := hi
    have i1 : decide (i < 1) = false := by simpa using hi1
    have i2 : decide (64 < i) = false := by simpa using hi2
    by_cases h0 : n = 0
    · have hfin := Lib.hid (vld_empty (st := st) (ot := ot) HI.out (by rw [L1.out]; exact h0))
      subst h0
      go_enter Try.func71, Try.ntmps71
      go_wp2
      go_ret
      exact ⟨ret_int hfin.out.symm, hb0⟩
    · have z0 : ((n : Int) == 0) = false := by simp; omega
      by_cases h1 : 128 < n
      · have hfin := Lib.hid (vld_many (st := st) (ot := ot) HI.out (by rw [L1.out]; exact h1))
        clear h0
        go_enter Try.func71, Try.ntmps71
        go_wp2
        go_ret
        exact ⟨ret_int hfin.out.symm, hb0⟩
      · have z1 : decide ((128 : Int) < (n : Int)) = false := by simp; omega
        by_cases h2 : 0 ≤ st ∧ st < n
        · have H2 := Lib.hid h2
          have s1 : decide (st < 0) = false := by simpa using h2.1
          have s2 : decide ((n : Int) ≤ st) = false := by simpa using h2.2
          by_cases h3 : m = n
          · subst h3
            have z3 : ((m : Int) != (m : Int)) = false := by simp
            have hrows := Lib.hid (vld_rows (i := i) (st := st) (nx := nx) (ot := ot) HI.out (by rw [L1.out]; exact h0) (by rw [L1.out]; exact h1) (by rw [L1.out]; exact H2.out) (by rw [L1.out, L2.out]))
            clear h0 h2
            go_enter Try.func71, Try.ntmps71
            go_wp2
            go_loopw [3] (fun x wr => ∃ j : Nat, j ≤ m ∧ x = .int .i64 j ∧ (∀ t, t < j → rowAt i nx ot t = 0) ∧ Below (w.heap.size + 1) (w.alloc (.cells #[.int .i64 i, .int .i64 st, .slice A m c, .slice B m d] 58)) wr) (fun x _ => m - (intOf x).toNat)
            case atStart => exact ⟨0, Nat.zero_le _, rfl, fun t h => absurd h (by omega), Below.refl _ _⟩
            case round =>
              obtain ⟨j, hj, rfl, hok, hbr⟩ := hrel
              have hbw := hb0.trans (hbr.mono (Nat.le_succ _))
              have hsz1 : w.heap.size + 1 ≤ wr.heap.size := by have := hbr.size; simpa using this
              have HK := Lib.hid hok
              clear hok
              obtain ⟨k0, k1, k2, k3⟩ := box4 hbr
              by_cases hlt : j < m
              · have HV := Lib.hid (show rowAt i nx ot j = rowE i m (nx.getD j []) (ot.getD j []) by unfold rowAt; rw [L1.out])
                by_cases he : rowE i m (nx.getD j []) (ot.getD j []) = 0
                · have hnx := Lib.hid (show ∀ t, t < j + 1 → rowAt i nx ot t = 0 from fun t ht => by
                    by_cases e : t = j
                    · subst e; rw [HV.out]; exact he
                    · exact HK.out t (by omega))
                  have HE := Lib.hid he
                  clear he
                  go_wp2_with fail
                  refine (rrow _ _ _ _ _ _ _ _ _ _ _ _ (hx.below hbw) (ho.below hbw) hlt hlt).mono ?_
                  rintro e w2 ⟨rfl, b2⟩
                  have b3 := hbr.trans (b2.mono hsz1)
                  rw [HE.out]
                  obtain ⟨k0, k1, k2, k3⟩ := box4 b3
                  go_wp2
                  go_roundw
                  case rel => exact ⟨j + 1, by omega, by go_num, hnx.out, b3⟩
                  case measure => simp [intOf]; omega
                · have hfin := Lib.hid (hrows.out.trans (fstE_bad HK.out (by rw [HV.out]; exact he) (by rw [L1.out]; exact hlt)))
                  have he2 : (rowE i m (nx.getD j []) (ot.getD j []) != 0) = true := by simpa using he
                  go_wp2_with fail
                  refine (rrow _ _ _ _ _ _ _ _ _ _ _ _ (hx.below hbw) (ho.below hbw) hlt hlt).mono ?_
                  rintro e w2 ⟨rfl, b2⟩
                  have b3 := hbr.trans (b2.mono hsz1)
                  have HF := Lib.hid (hfin.out.trans HV.out)
                  clear hfin HV
                  generalize rowE i m (nx.getD j []) (ot.getD j []) = E at he2 he HF
                  clear he
                  go_wp2
                  go_ret
                  exact ⟨ret_int HF.out.symm, hb0.trans (b3.mono (Nat.le_succ _))⟩
              · obtain rfl : j = m := by omega
                have hfin := Lib.hid (hrows.out.trans (fstE_ok (by rw [L1.out]; exact HK.out)))
                go_wp2
                go_ret
                exact ⟨ret_int hfin.out.symm, hbw⟩
          · have z3 : ((m : Int) != (n : Int)) = true := by simp; omega
            have hfin := Lib.hid (vld_out (i := i) (st := st) (nx := nx) (ot := ot) HI.out (by rw [L1.out]; exact h0) (by rw [L1.out]; exact h1) (by rw [L1.out]; exact H2.out) (by rw [L1.out, L2.out]; exact h3))
            clear h0 h3
            go_enter Try.func71, Try.ntmps71
            go_wp2
            go_ret
            exact ⟨ret_int hfin.out.symm, hb0⟩
        · have hfin := Lib.hid (vld_start (i := i) (st := st) (nx := nx) (ot := ot) HI.out (by rw [L1.out]; exact h0) (by rw [L1.out]; exact h1) (by rw [L1.out]; exact h2))
          by_cases h3 : 0 ≤ st
          · have s1 : decide (st < 0) = false := by simpa using h3
            have s2 : decide ((n : Int) ≤ st) = true := by simp; omega
            clear h0 h2
            go_enter Try.func71, Try.ntmps71
            go_wp2
            go_ret
            exact ⟨ret_int hfin.out.symm, hb0⟩
          · have s1 : decide (st < 0) = true := by simpa using h3
            clear h0 h2
            go_enter Try.func71, Try.ntmps71
            go_wp2
            go_ret
            exact ⟨ret_int hfin.out.symm, hb0⟩
  · have hfin := Lib.hid (vld_in (st := st) (nx := nx) (ot := ot) hi)
    by_cases hi1 : 1 ≤ i
    · have hi2 : 64 < i := by omega
      have t1 : ¬ i < 1 := by omega
      clear hi
      go_enter Try.func71, Try.ntmps71
      go_wp2
      go_ret
      exact ⟨ret_int hfin.out.symm, hb0⟩
    · have t1 : i < 1 := by omega
      clear hi hi1
      go_enter Try.func71, Try.ntmps71
      go_wp2
      go_ret
      exact ⟨ret_int hfin.out.symm, hb0⟩
end Go.Proofs.Ythjnghldedfdoaa
end

section
/- The reference: has, index, Reach. -/
namespace Go.Proofs.Ythjnghldedfdoaa
open Go.RowKit

theorem mem_take_succ {xs : List Int} {j : Nat} {v : Int} (h : ∀ m, m < j → xs.getD m 0 ≠ v) (h2 : xs.getD j 0 ≠ v) : ∀ m, m < j + 1 → xs.getD m 0 ≠ v := fun m hm => by
  by_cases e : m = j
  · subst e; exact h2
  · exact h m (by omega)

end Go.Proofs.Ythjnghldedfdoaa
end

section
/- The reference: insert and Outputs. -/
namespace Go.Proofs.Ythjnghldedfdoaa
open Go.RowKit

/-- A number put into a list, ahead of the first greater one. -/
def ins : List Int → Int → List Int
  | [], v => [v]
  | x :: l, v => if v < x then v :: x :: l else x :: ins l v
def insS (l : List Int) (v : Int) : List Int := if v ∈ l then l else ins l v
theorem ins_len : ∀ (l : List Int) (v : Int), (ins l v).length = l.length + 1
  | [], _ => rfl
  | x :: l, v => by
    unfold ins
    split
    · rfl
    · rw [List.length_cons, ins_len l v]; rfl
theorem insS_len (l : List Int) (v : Int) : (insS l v).length ≤ l.length + 1 := by
  unfold insS
  split
  · omega
  · rw [ins_len]; exact Nat.le_refl _
theorem ins_now {xs : List Int} {j : Nat} {v : Int} (h : j < xs.length) (hv : v < xs.getD j 0) : ins (xs.drop j) v = v :: xs.drop j := by
  rw [List.drop_eq_getElem_cons h]
  rw [List.getD_eq_getElem?_getD, List.getElem?_eq_getElem h] at hv
  show (if v < xs[j] then _ else _) = _
  exact if_pos hv
theorem ins_on {xs : List Int} {j : Nat} {v : Int} (h : j < xs.length) (hv : ¬ v < xs.getD j 0) : ins (xs.drop j) v = xs.getD j 0 :: ins (xs.drop (j + 1)) v := by
  rw [List.drop_eq_getElem_cons h]
  rw [List.getD_eq_getElem?_getD, List.getElem?_eq_getElem h] at hv ⊢
  show (if v < xs[j] then _ else _) = _
  exact if_neg hv
theorem drop_on {xs : List Int} {j : Nat} (h : j < xs.length) : xs.drop j = xs.getD j 0 :: xs.drop (j + 1) := by
  rw [List.drop_eq_getElem_cons h, List.getD_eq_getElem?_getD, List.getElem?_eq_getElem h]; rfl
def restI (dn : Bool) (l : List Int) (v : Int) : List Int := if dn then l else ins l v

end Go.Proofs.Ythjnghldedfdoaa
end

section
/- The reference: Outputs. -/
namespace Go.Proofs.Ythjnghldedfdoaa
open Go.RowKit

/-- All outputs, row by row, put into one list. -/
def outR : List Int → List Int → List Int
  | [], acc => acc
  | x :: r, acc => outR r (insS acc x)
def outL : List (List Int) → List Int → List Int
  | [], acc => acc
  | r :: t, acc => outL t (outR r acc)
theorem outR_drop {r : List Int} {a : Nat} (h : a < r.length) (acc : List Int) : outR (r.drop a) acc = outR (r.drop (a + 1)) (insS acc (r.getD a 0)) := by
  rw [drop_on h]; rfl
theorem outL_drop {t : List (List Int)} {j : Nat} (h : j < t.length) (acc : List Int) : outL (t.drop j) acc = outL (t.drop (j + 1)) (outR (t.getD j []) acc) := by
  rw [List.drop_eq_getElem_cons h, List.getD_eq_getElem?_getD, List.getElem?_eq_getElem h]; rfl

end Go.Proofs.Ythjnghldedfdoaa
end

section
/- The reference's outputs are the sorted and compacted ones. -/
namespace Go.Proofs.Ythjnghldedfdoaa
open Go.RowKit

theorem outR_app (a b : List Int) (acc : List Int) : outR (a ++ b) acc = outR b (outR a acc) := by
  induction a generalizing acc with
  | nil => rfl
  | cons x a ih => exact ih _
theorem outL_flat (t : List (List Int)) (acc : List Int) : outL t acc = outR t.flatten acc := by
  induction t generalizing acc with
  | nil => rfl
  | cons r t ih => rw [List.flatten_cons, outR_app]; exact ih _

theorem ins_mem (l : List Int) (v x : Int) : x ∈ ins l v ↔ x = v ∨ x ∈ l := by
  induction l with
  | nil => simp [ins]
  | cons y l ih =>
    unfold ins
    split
    · simp
    · rw [List.mem_cons, ih, List.mem_cons]; exact ⟨fun h => h.elim (fun h => .inr (.inl h)) (fun h => h.elim .inl fun h => .inr (.inr h)), fun h => h.elim (fun h => .inr (.inl h)) fun h => h.elim .inl fun h => .inr (.inr h)⟩
theorem insS_mem (l : List Int) (v x : Int) : x ∈ insS l v ↔ x = v ∨ x ∈ l := by
  unfold insS
  split
  · rename_i h
    exact ⟨.inr, fun k => k.elim (fun k => k ▸ h) id⟩
  · exact ins_mem l v x
theorem ins_asc {l : List Int} {v : Int} (h : l.Pairwise (· < ·)) (hv : v ∉ l) : (ins l v).Pairwise (· < ·) := by
  induction l with
  | nil => simp [ins]
  | cons y l ih =>
    have h' := List.pairwise_cons.1 h
    unfold ins
    split
    · rename_i hlt
      refine List.pairwise_cons.2 ⟨fun x hx => ?_, h⟩
      rcases List.mem_cons.1 hx with rfl | hx
      · exact hlt
      · have := h'.1 x hx; omega
    · rename_i hlt
      refine List.pairwise_cons.2 ⟨fun x hx => ?_, ih h'.2 fun k => hv (List.mem_cons_of_mem _ k)⟩
      rcases (ins_mem l v x).1 hx with rfl | hx
      · have : x ≠ y := fun e => hv (e ▸ List.mem_cons_self)
        omega
      · exact h'.1 x hx
theorem insS_asc {l : List Int} {v : Int} (h : l.Pairwise (· < ·)) : (insS l v).Pairwise (· < ·) := by
  unfold insS
  split
  · exact h
  · rename_i hv; exact ins_asc h hv
theorem outR_asc {xs acc : List Int} (h : acc.Pairwise (· < ·)) : (outR xs acc).Pairwise (· < ·) := by
  induction xs generalizing acc with
  | nil => exact h
  | cons x xs ih => exact ih (insS_asc h)
theorem outR_mem (xs acc : List Int) (x : Int) : x ∈ outR xs acc ↔ x ∈ acc ∨ x ∈ xs := by
  induction xs generalizing acc with
  | nil => simp [outR]
  | cons y xs ih =>
    show x ∈ outR xs (insS acc y) ↔ _
    rw [ih, insS_mem, List.mem_cons]
    exact ⟨fun h => h.elim (fun h => h.elim (fun h => .inr (.inl h)) .inl) (fun h => .inr (.inr h)), fun h => h.elim (fun h => .inl (.inr h)) fun h => h.elim (fun h => .inl (.inl h)) .inr⟩

/-- Two ascending lists with the same members are one. -/
theorem asc_eq {xs ys : List Int} (hx : xs.Pairwise (· < ·)) (hy : ys.Pairwise (· < ·)) (h : ∀ x, x ∈ xs ↔ x ∈ ys) : xs = ys := by
  induction xs generalizing ys with
  | nil =>
    cases ys with
    | nil => rfl
    | cons y ys => exact absurd ((h y).2 List.mem_cons_self) (by simp)
  | cons x xs ih =>
    cases ys with
    | nil => exact absurd ((h x).1 List.mem_cons_self) (by simp)
    | cons y ys =>
      have hx' := List.pairwise_cons.1 hx
      have hy' := List.pairwise_cons.1 hy
      have e : x = y := by
        rcases List.mem_cons.1 ((h x).1 List.mem_cons_self) with e | e
        · exact e
        · rcases List.mem_cons.1 ((h y).2 List.mem_cons_self) with e2 | e2
          · exact e2.symm
          · have := hy'.1 x e; have := hx'.1 y e2; omega
      subst e
      congr 1
      refine ih hx'.2 hy'.2 fun z => ⟨fun k => ?_, fun k => ?_⟩
      · rcases List.mem_cons.1 ((h z).1 (List.mem_cons_of_mem _ k)) with e | e
        · have := hx'.1 z k; omega
        · exact e
      · rcases List.mem_cons.1 ((h z).2 (List.mem_cons_of_mem _ k)) with e | e
        · have := hy'.1 z k; omega
        · exact e

theorem compactUpTo_asc (d : Array Int) (hs : ∀ i j, i ≤ j → j < d.size → d[i]! ≤ d[j]!) : ∀ m, m ≤ d.size → (Lib.compactUpTo d m).Pairwise (· < ·) ∧ ∀ x, x ∈ Lib.compactUpTo d m ↔ ∃ j, j < m ∧ d[j]! = x := by
  intro m
  induction m with
  | zero => intro _; exact ⟨by simp [Lib.compactUpTo], fun x => by simp [Lib.compactUpTo]⟩
  | succ m ih =>
    intro hm
    obtain ⟨h1, h2⟩ := ih (by omega)
    rw [Lib.compactUpTo_succ]
    by_cases hk : Lib.keeps d m = true
    · rw [if_pos hk]
      refine ⟨List.pairwise_append.2 ⟨h1, by simp, fun x hx y hy => ?_⟩, fun x => ?_⟩
      · rw [List.mem_singleton] at hy
        subst hy
        obtain ⟨j, hj, rfl⟩ := (h2 x).1 hx
        have hne : d[m]! ≠ d[m - 1]! := by
          have := of_decide_eq_true hk
          rcases this with e | e
          · omega
          · exact e
        have a := hs j (m - 1) (by omega) (by omega)
        have b := hs (m - 1) m (by omega) (by omega)
        omega
      · rw [List.mem_append, List.mem_singleton, h2]
        refine ⟨fun h => h.elim (fun ⟨j, hj, e⟩ => ⟨j, by omega, e⟩) (fun e => ⟨m, by omega, e.symm⟩), fun ⟨j, hj, e⟩ => ?_⟩
        by_cases hjm : j = m
        · subst hjm; exact .inr e.symm
        · exact .inl ⟨j, by omega, e⟩
    · rw [if_neg hk, List.append_nil]
      refine ⟨h1, fun x => (h2 x).trans ⟨fun ⟨j, hj, e⟩ => ⟨j, by omega, e⟩, fun ⟨j, hj, e⟩ => ?_⟩⟩
      by_cases hjm : j = m
      · subst hjm
        have hk' : ¬ (j = 0 ∨ d[j]! ≠ d[j - 1]!) := fun h => hk (decide_eq_true h)
        have h0 : j ≠ 0 := fun h => hk' (.inl h)
        have h3 : d[j]! = d[j - 1]! := Classical.byContradiction fun h => hk' (.inr h)
        exact ⟨j - 1, by omega, by rw [← h3]; exact e⟩
      · exact ⟨j, by omega, e⟩

theorem compact_asc {zs : List Int} (hs : zs.Pairwise (· ≤ ·)) : (Lib.compact zs).Pairwise (· < ·) ∧ ∀ x, x ∈ Lib.compact zs ↔ x ∈ zs := by
  obtain ⟨h1, h2⟩ := compactUpTo_asc zs.toArray (fun i j hij hj => by
    have hj' : j < zs.length := by simpa using hj
    rw [getElem!_pos zs.toArray i (by simpa using Nat.lt_of_le_of_lt hij hj'), getElem!_pos zs.toArray j hj]
    simp only [List.getElem_toArray]
    rcases Nat.lt_or_ge i j with h | h
    · exact List.pairwise_iff_getElem.1 hs i j _ _ h
    · obtain rfl : i = j := by omega
      exact Int.le_refl _) zs.length (by simp)
  refine ⟨h1, fun x => (h2 x).trans ⟨fun ⟨j, hj, e⟩ => ?_, fun h => ?_⟩⟩
  · rw [getElem!_pos zs.toArray j (by simpa using hj)] at e
    simp only [List.getElem_toArray] at e
    exact e ▸ List.getElem_mem _
  · obtain ⟨j, hj, e⟩ := List.getElem_of_mem h
    refine ⟨j, hj, ?_⟩
    rw [getElem!_pos zs.toArray j (by simpa using hj)]
    simpa using e

theorem sort_asc (xs : List Int) : (xs.mergeSort fun x y => decide (x ≤ y)).Pairwise (· ≤ ·) := by
  have := List.pairwise_mergeSort (le := fun (x y : Int) => decide (x ≤ y)) (fun a b c h1 h2 => by simp at *; omega) (fun a b => by simp; omega) xs
  exact this.imp fun h => of_decide_eq_true h

theorem out_eq (t : List (List Int)) : Lib.compact (t.flatten.mergeSort fun x y => decide (x ≤ y)) = outL t [] := by
  obtain ⟨h1, h2⟩ := compact_asc (sort_asc t.flatten)
  rw [outL_flat]
  refine asc_eq h1 (outR_asc List.Pairwise.nil) fun x => ?_
  rw [h2, outR_mem]
  simp [List.mem_mergeSort]
end Go.Proofs.Ythjnghldedfdoaa
end

section
/- The program: Outputs. -/
namespace Go.Proofs.Ythjnghldedfdoaa
open Go.RowKit

theorem poutputs_bad (i st : Int) (A B : Option Addr) (n c m d : Nat) (nx ot : List (List Int)) (w : World) (hx : Lists w A n nx) (ho : Lists w B m ot) (hv : ¬ vld i st nx ot = 0) :
    Calls Try.prog 68 #[.agg #[.int .i64 i, .int .i64 st, .slice A n c, .slice B m d]] w fun e w' => e = .returned (.slice none 0 0) ∧ Below w.heap.size w w' := by
  have hb0 := alloc_below w (.cells #[.int .i64 i, .int .i64 st, .slice A n c, .slice B m d] 58)
  have hne : (vld i st nx ot != 0) = true := by simpa using hv
  go_enter Try.func68, Try.ntmps68
  go_wp2_with fail
  refine (pvalid _ _ _ _ _ _ _ _ _ _ _ (hx.below hb0) (ho.below hb0)).mono ?_
  rintro e w1 ⟨rfl, b1⟩
  have hbb := bt hb0 b1
  generalize vld i st nx ot = V at hne hv
  clear hb0 b1 hv
  go_wp2
  go_ret
  exact ⟨rfl, hbb⟩

set_option maxHeartbeats 2000000 in
set_option maxRecDepth 100000 in
theorem poutputs_ok (i st n : Nat) (A B : Option Addr) (c d : Nat) (nx ot : List (List Int)) (w : World) (hx : Lists w A n nx) (ho : Lists w B n ot) (hM : Mok i st n nx ot) :
    Calls Try.prog 68 #[.agg #[.int .i64 i, .int .i64 st, .slice A n c, .slice B n d]] w fun e w' => ∃ A' c', e = .returned (.slice A' (outL ot []).length c') ∧ Owned w' w.heap.size (.slice A' (outL ot []).length c') (outL ot []) ∧ Below w.heap.size w w' := by
  have HV := Lib.hid hM.vld
  have hF : ot.flatten.length ≤ 100000 := by
    have hn128 := hM.n2
    have hi64 := hM.i2
    have hrow : ∀ l, l ∈ ot → l.length ≤ 64 := fun l hl => by
      obtain ⟨j, hj, rfl⟩ := List.getElem_of_mem hl
      have h1 := (hM.row j (by rw [← hM.otl]; exact hj)).2.1
      rw [List.getD_eq_getElem?_getD, List.getElem?_eq_getElem hj] at h1
      have h2 : (ot[j]).length = i := h1
      omega
    have hlen : ∀ (t : List (List Int)), (∀ l, l ∈ t → l.length ≤ 64) → t.flatten.length ≤ 64 * t.length := by
      intro t
      induction t with
      | nil => intro _; simp
      | cons r t ih =>
        intro h
        have h1 := h r List.mem_cons_self
        have h2 := ih fun l hl => h l (List.mem_cons_of_mem _ hl)
        rw [List.flatten_cons, List.length_append, List.length_cons]
        omega
    have h3 := hlen ot hrow
    have h4 := hM.otl
    omega
  have HE := Lib.hid (out_eq ot)
  have HL := Lib.hid (show (ot.flatten.mergeSort fun x y => decide (x ≤ y)).length = ot.flatten.length from List.length_mergeSort _)
  have hb0 := alloc_below w (.cells #[.int .i64 i, .int .i64 st, .slice A n c, .slice B n d] 58)
  have HZ := Lib.hid (show (w.alloc (.cells #[.int .i64 i, .int .i64 st, .slice A n c, .slice B n d] 58)).heap.size = w.heap.size + 1 by simp)
  go_enter Try.func68, Try.ntmps68
  go_wp2_with fail
  refine (pvalid _ _ _ _ _ _ _ _ _ _ _ (hx.below hb0) (ho.below hb0)).mono ?_
  rintro e w1 ⟨rfl, b1⟩
  rw [HZ.out] at b1
  rw [HV.out]
  obtain ⟨k0, k1, k2, k3⟩ := box4 b1
  have hb1 := hb0.trans (b1.mono (Nat.le_succ _))
  have B1 := Lib.hid hb1
  have HC := Lib.hid (sconcat B n d ot w1 (ho.below hb1) (by omega))
  clear hb0 b1 hb1
  generalize ot.flatten = fl at HC HE HL hF
  go_wp2_with fail
  refine HC.out.mono ?_
  rintro e w2 ⟨A2, c2, rfl, o2, b2⟩
  have B2 := Lib.hid (bt B1.out b2)
  have HS := Lib.hid (psorti A2 fl.length c2 fl w.heap.size w2 (o2.lower B1.out.size) B2.out.size (by omega))
  clear b2 o2 k0 k1 k2 k3
  go_wp2_with fail
  refine HS.out.mono ?_
  rintro e w3 ⟨rfl, o3, b3⟩
  have B3 := Lib.hid (B2.out.trans b3)
  have HP := Lib.hid (pcompacti A2 fl.length c2 _ w.heap.size w3 o3 B3.out.size (by omega))
  clear b3 o3
  go_wp2_with fail
  refine HP.out.mono ?_
  rintro e w4 ⟨A4, c4, rfl, o4, b4⟩
  rw [HE.out] at o4 ⊢
  have O4 := Lib.hid o4
  have B4 := Lib.hid (B3.out.trans b4)
  clear o4 b4
  go_wp2
  go_ret
  exact ⟨A4, c4, rfl, O4.out, B4.out⟩
end Go.Proofs.Ythjnghldedfdoaa
end

section
/- FromMealy of the program: what its steps are; slices.Max. -/
namespace Go.Proofs.Ythjnghldedfdoaa
open Go.RowKit Go.Shelf

theorem foldl_max_gt (xs : List Int) (a : Int) : 1 < xs.foldl max a ↔ 1 < a ∨ ∃ x ∈ xs, 1 < x := by
  induction xs generalizing a with
  | nil => simp
  | cons x xs ih =>
    rw [List.foldl_cons, ih]
    constructor
    · rintro (h | ⟨y, h1, h2⟩)
      · by_cases h3 : 1 < a
        · exact .inl h3
        · exact .inr ⟨x, List.mem_cons_self, by omega⟩
      · exact .inr ⟨y, List.mem_cons_of_mem _ h1, h2⟩
    · rintro (h | ⟨y, h1, h2⟩)
      · exact .inl (by omega)
      · rcases List.mem_cons.mp h1 with rfl | h1
        · exact .inl (by omega)
        · exact .inr ⟨y, h1, h2⟩
theorem maxOf_gt {xs : List Int} (h : 0 < xs.length) : 1 < Lib.maxOf xs ↔ ∃ x ∈ xs, 1 < x := by
  cases xs with
  | nil => simp at h
  | cons x xs =>
    show 1 < (x :: xs).foldl max x ↔ _
    rw [foldl_max_gt]
    exact ⟨fun h => h.elim (fun h => ⟨x, List.mem_cons_self, h⟩) id, .inr⟩
/-- All outputs are 0 or 1. -/
def Bin (ot : List (List Int)) : Prop := ∀ x ∈ ot.flatten, ¬ 1 < x
theorem outL_mem (ot : List (List Int)) (x : Int) : x ∈ outL ot [] ↔ x ∈ ot.flatten := by rw [outL_flat, outR_mem]; simp
section
variable {i st n s a : Nat} {nx ot : List (List Int)}
theorem Mok.flat (h : Mok i st n nx ot) (hs : s < n) (ha : a < i) : (ot.getD s []).getD a 0 ∈ ot.flatten := by
  have h1 := (h.row s hs).2.1
  have h2 : s < ot.length := by rw [h.otl]; exact hs
  rw [List.mem_flatten]
  refine ⟨ot.getD s [], ?_, ?_⟩
  · rw [List.getD_eq_getElem?_getD, List.getElem?_eq_getElem h2]; exact List.getElem_mem _
  · rw [List.getD_eq_getElem?_getD (l := ot.getD s []), List.getElem?_eq_getElem (by rw [h1]; exact ha)]; exact List.getElem_mem _
theorem Mok.out_pos (h : Mok i st n nx ot) : 0 < (outL ot []).length := by
  have := (outL_mem ot _).mpr (h.flat h.n1 h.i1)
  exact List.length_pos_of_mem this
theorem outR_len (xs acc : List Int) : (outR xs acc).length ≤ acc.length + xs.length := by
  induction xs generalizing acc with
  | nil => simp [outR]
  | cons x xs ih =>
    have h1 := ih (insS acc x)
    have h2 : (insS acc x).length ≤ acc.length + 1 := by
      unfold insS
      split
      · omega
      · rw [ins_len]; omega
    show (outR xs (insS acc x)).length ≤ _
    rw [List.length_cons]
    omega
theorem Mok.out_len (h : Mok i st n nx ot) : (outL ot []).length ≤ 17592186044416 := by
  have hrow : ∀ l, l ∈ ot → l.length ≤ 64 := fun l hl => by
    obtain ⟨j, hj, rfl⟩ := List.getElem_of_mem hl
    have h1 := (h.row j (by rw [← h.otl]; exact hj)).2.1
    rw [List.getD_eq_getElem?_getD, List.getElem?_eq_getElem hj] at h1
    have h2 : (ot[j]).length = i := h1
    have := h.i2
    omega
  have hlen : ∀ (t : List (List Int)), (∀ l, l ∈ t → l.length ≤ 64) → t.flatten.length ≤ 64 * t.length := by
    intro t
    induction t with
    | nil => intro _; simp
    | cons r t ih =>
      intro h
      have h1 := h r List.mem_cons_self
      have h2 := ih fun l hl => h l (List.mem_cons_of_mem _ hl)
      rw [List.flatten_cons, List.length_append, List.length_cons]
      omega
  have h3 := hlen ot hrow
  have h4 := h.otl
  have h5 := h.n2
  have h6 := outR_len ot.flatten []
  rw [outL_flat]
  have h7 : ([] : List Int).length = 0 := rfl
  omega
theorem Mok.bin (h : Mok i st n nx ot) : ¬ Bin ot ↔ 1 < Lib.maxOf (outL ot []) := by
  rw [maxOf_gt h.out_pos]
  constructor
  · intro hb
    obtain ⟨x, h1⟩ := Classical.not_forall.mp hb
    have h2 := Classical.not_imp.mp h1
    exact ⟨x, (outL_mem ot x).mpr h2.1, Classical.not_not.mp h2.2⟩
  · rintro ⟨x, h1, h2⟩ hb
    exact hb x ((outL_mem ot x).mp h1) h2
theorem Mok.o2 (h : Mok i st n nx ot) (hb : Bin ot) (hs : s < n) (ha : a < i) : nN ot s a < 2 := by
  have h1 := hb _ (h.flat hs ha)
  have h2 := (h.row s hs).2.2 a ha
  unfold nN
  omega
theorem Mok.o2_eq (h : Mok i st n nx ot) (hs : s < n) (ha : a < i) : (ot.getD s []).getD a 0 = (nN ot s a : Int) := by
  have h2 := (h.row s hs).2.2 a ha
  unfold nN
  omega
end
/-- The steps of FromMealy. -/
def fmF (nx ot : List (List Int)) (p : Nat × Nat) (x : Nat) : Nat × Nat := (nN nx p.1 x, nN ot p.1 x)
def fmA (p : Nat × Nat) : Bool := decide (p.2 = 1)
theorem fm_stp {i st n : Nat} {nx ot : List (List Int)} (h : Mok i st n nx ot) (hb : Bin ot) : Stp (fmF nx ot) i n 2 := fun _ _ _ hp _ hx => ⟨h.nN_lt hp hx, h.o2 hb hp hx⟩
/-- The error of FromMealy, but for too many pairs. -/
def fmE (i st : Int) (nx ot : List (List Int)) : Int := if vld i st nx ot = 0 then (if Lib.maxOf (outL ot []) ≤ 1 then 0 else 1) else vld i st nx ot
/-- What FromMealy finds. -/
def fmR (i st n : Nat) (nx ot : List (List Int)) (b : Bool) : List Ent := fdG (fmF nx ot) i n 2 st b.toNat

theorem entF1 : ∀ args w, (callFunc 69 args).run Try.prog w = .ok (.enter 69 args) w := enters_of Try.func69 (by kernel_rfl) rfl
theorem entF2 : ∀ args w, (callFunc 70 args).run Try.prog w = .ok (.enter 70 args) w := enters_of Try.func70 (by kernel_rfl) rfl
theorem stepF {i st n g c d : Nat} {A B : Option Addr} {x y : Value} {nx ot : List (List Int)} {w : World} (h : Mok i st n nx ot) (hg : Yblk w g x y (.slice A n c) (.slice B n d)) (hx : Lists w A n nx) (ho : Lists w B n ot) :
    StepC 69 #[.pointer (some ⟨g, 0, none⟩)] (fmF nx ot) i n 2 w :=
  ⟨entF1, fun W hW p q a hp _ ha => dfrom1 g A B n c d nx ot a i p q W (hg.on9 hW).cells.2.2.1 (hg.on9 hW).cells.2.2.2.1 (hx.below hW) (ho.below hW) hp ha ⟨(h.row p hp).1, h.nN_eq hp ha⟩ ⟨(h.row p hp).2.1, h.o2_eq hp ha⟩⟩
theorem wantF (n : Nat) (w : World) : WantC 70 #[] fmA n 2 w :=
  ⟨entF2, fun W _ p q _ _ => dfrom2 p q W⟩
theorem dbit2 (b : Bool) (w : World) : Calls Try.prog 64 #[.bool b] w fun e w' => e = .returned (.int .i64 (b.toNat : Nat)) ∧ w = w' := by
  have := dbit b w
  cases b <;> exact this
theorem pmax1 (A : Option Addr) (n c : Nat) (xs : List Int) (w : World) (hx : Ints w A n xs) (h0 : 0 < n) :
    Calls Try.prog 67 #[.slice A n c] w fun e w' => e = .returned (.int .i64 (Lib.maxOf xs)) ∧ w' = w := by
  obtain ⟨b, off, rfl, _, hc⟩ := hx.2.2 h0
  have hl := hx.1
  have := Try.slices_Max_int b off n c xs w h0 (by omega) (by have := hx.2.1; omega) (fun j hj => hc j (by omega))
  rw [List.take_of_length_le (by omega)] at this
  exact this
theorem frm_boxes (w : World) (i st : Int) (A B : Option Addr) (n c m d : Nat) : ∃ w1, w1 = (w.alloc (.cells #[.int .i64 i, .int .i64 st, .slice A n c, .slice B m d] 58)).alloc (.cells #[.int .i64 0, .int .i64 0, .slice none 0 0, .slice none 0 0] 25) ∧
    Below w.heap.size w w1 ∧ Yblk w1 w.heap.size (.int .i64 i) (.int .i64 st) (.slice A n c) (.slice B m d) ∧ Dblk w1 (w.heap.size + 1) (.int .i64 0) (.int .i64 0) (.slice none 0 0) (.slice none 0 0) ∧ w1.heap.size = w.heap.size + 2 := by
  refine ⟨_, rfl, (alloc_below _ _).alloc (by simp) _, (yblk_new w (.int .i64 i) (.int .i64 st) (.slice A n c) (.slice B m d)).kept (alloc_below _ _) (by simp), ?_, by simp⟩
  have := dfa_box (w.alloc (.cells #[.int .i64 i, .int .i64 st, .slice A n c, .slice B m d] 58)) (.int .i64 0) (.int .i64 0) (.slice none 0 0) (.slice none 0 0)
  simpa using this
set_option maxHeartbeats 4000000 in
set_option maxRecDepth 100000 in
theorem dfromm_bad (i st : Int) (A B : Option Addr) (n c m d : Nat) (nx ot : List (List Int)) (b : Bool) (w : World) (hx : Lists w A n nx) (ho : Lists w B m ot) (hv : ¬ fmE i st nx ot = 0) :
    Calls Try.prog 33 #[.agg #[.int .i64 i, .int .i64 st, .slice A n c, .slice B m d], .bool b] w fun e w' => e = .returned (.tuple #[.agg #[.int .i64 0, .int .i64 0, .slice none 0 0, .slice none 0 0], .int .i64 (fmE i st nx ot)]) ∧ Below w.heap.size w w' := by
  obtain ⟨w0, hw0, hb0, hB, hR, hz0⟩ := frm_boxes w i st A B n c m d
  obtain ⟨k0, k1, k2, k3, _⟩ := hB.cells
  have HW0 := Lib.hid hw0
  have HX := Lib.hid (fun (W : World) (h : Below w0.heap.size w0 W) => (hx.below hb0).below h)
  have HOT := Lib.hid (fun (W : World) (h : Below w0.heap.size w0 W) => (ho.below hb0).below h)
  have HB0 := Lib.hid hb0
  have HB := Lib.hid hB
  have HR := Lib.hid hR
  have HZ := Lib.hid hz0
  clear hw0 hB hb0 hR hz0
  rw [HW0.out] at k0 k1 k2 k3
  by_cases h1 : vld i st nx ot = 0
  · have h2 : ¬ Lib.maxOf (outL ot []) ≤ 1 := fun h => hv (by unfold fmE; rw [if_pos h1, if_pos h])
    have HE := Lib.hid (show fmE i st nx ot = 1 by unfold fmE; rw [if_pos h1, if_neg h2])
    obtain ⟨i', st', n', rfl, rfl, hM⟩ := vld_zero h1
    obtain rfl : n = n' := by rw [← hx.1]; exact hM.nxl
    obtain rfl : m = n := by rw [← ho.1]; exact hM.otl
    have HV := Lib.hid h1
    have HM := Lib.hid hM
    have HP := Lib.hid hM.out_pos
    have d1 : decide ((1 : Int) < Lib.maxOf (outL ot [])) = true := decide_eq_true (by omega)
    clear hv h1 h2 hM
    go_enter Try.func33, Try.ntmps33
    go_wp2_with fail
    rw [← HW0.out]
    refine (pvalid _ _ _ _ _ _ _ _ _ _ _ (HX.out _ (Below.refl _ _)) (HOT.out _ (Below.refl _ _))).mono ?_
    rintro e w1 ⟨rfl, b1⟩
    rw [HV.out]
    have HB1 := Lib.hid b1
    clear k0 k1 k2 k3
    obtain ⟨k0, k1, k2, k3, _⟩ := (HB.out.on9 b1).cells
    clear b1
    go_wp2_with fail
    refine (poutputs_ok _ _ _ _ _ _ _ _ _ _ (HX.out _ HB1.out) (HOT.out _ HB1.out) HM.out).mono ?_
    rintro e w2 ⟨A2, c2, rfl, o2, b2⟩
    have b02 := bt HB1.out b2
    have HB2 := Lib.hid b02
    have HP2 := Lib.hid (pmax1 A2 _ c2 _ w2 (o2.ints HM.out.out_len) HP.out)
    go_wp2_with fail
    refine HP2.out.mono ?_
    rintro e w3 ⟨rfl, rfl⟩
    have hzz := HZ.out
    have HRr := Lib.hid (HR.out.kept b02 (show w.heap.size + 1 < w0.heap.size by omega))
    obtain ⟨q0, q1, q2, q3, z0, z1, z2, z3⟩ := HRr.out.cells
    clear hzz k0 k1 k2 k3 b02 b2 o2
    go_wp2_with fail
    refine bodyPost_ret (results_dfa rfl _ _ (w.heap.size + 1) (.int .i64 0) (.int .i64 0) (.slice none 0 0) (.slice none 0 0) rfl (HRr.out.set4 _ _ _ _)) rfl ?_
    exact ⟨by rw [HE.out]; rfl, below_set4 (by omega) (bt HB0.out HB2.out) _ _ _ _⟩
  · have HE := Lib.hid (show fmE i st nx ot = vld i st nx ot by unfold fmE; rw [if_neg h1])
    obtain ⟨x, hx0, hxe⟩ : ∃ x, ¬ x = 0 ∧ vld i st nx ot = x := ⟨_, h1, rfl⟩
    have HXE := Lib.hid hxe
    have t1 : (x != 0) = true := by simpa using hx0
    clear hv h1 hxe
    go_enter Try.func33, Try.ntmps33
    go_wp2_with fail
    rw [← HW0.out]
    refine (pvalid _ _ _ _ _ _ _ _ _ _ _ (HX.out _ (Below.refl _ _)) (HOT.out _ (Below.refl _ _))).mono ?_
    rintro e w1 ⟨rfl, b1⟩
    rw [HXE.out]
    have hzz := HZ.out
    have HRr := Lib.hid (HR.out.kept b1 (show w.heap.size + 1 < w0.heap.size by omega))
    obtain ⟨q0, q1, q2, q3, z0, z1, z2, z3⟩ := HRr.out.cells
    clear hzz k0 k1 k2 k3
    go_wp2_with fail
    refine bodyPost_ret (results_dfa rfl _ _ (w.heap.size + 1) (.int .i64 0) (.int .i64 0) (.slice none 0 0) (.slice none 0 0) rfl (HRr.out.set4 _ _ _ _)) rfl ?_
    exact ⟨by rw [HE.out, HXE.out]; rfl, below_set4 (by omega) (bt HB0.out b1) _ _ _ _⟩
end Go.Proofs.Ythjnghldedfdoaa
end

section
/- The examples of dfa, by calculation. -/
namespace Go.Proofs.Ythjnghldedfdoaa

def odA : List Bool := [false, true]
def tO : List (List Int) := [[1, 0], [0, 1]]
theorem q7_0 : (evA.map fun b => !b) = odA := rfl
theorem q7_1 : accD 2 0 evN evA [1, 0, 1] = (true, 0) := by decide +kernel
theorem q7_2 : fwR (fun p => aN odA p.1) (cmE 2 0 2 0 2 evN evN) = ([1], true) := by decide +kernel
theorem q7_3 : cntR evN evA 2 2 0 3 = (4, 0) := by decide +kernel
theorem q7_4 : (cmE 2 0 2 0 2 evN evN).length = 2 := by decide +kernel
theorem q7_5 : autN (bothF evN evN) 2 (cmE 2 0 2 0 2 evN evN) = evN := by decide +kernel
theorem q7_6 : autA (opA 3 evA odA) (cmE 2 0 2 0 2 evN evN) = [true, true] := by decide +kernel
theorem q7_7 : fwR (fun p => aN evA p.1 != aN odA p.2) (cmE 2 0 2 0 2 evN evN) = ([], true) := by decide +kernel
theorem q7_8 : fwR (fun p => aN evA p.1 != aN evA p.2) (cmE 2 0 2 0 2 evN evN) = ([], false) := by decide +kernel
theorem q7_9 : tomO evN evA 2 2 = tO := by decide +kernel
theorem q7_10 : (fmR 2 0 2 evN tO true).length = 2 := by decide +kernel
theorem q7_11 : autN (fmF evN tO) 2 (fmR 2 0 2 evN tO true) = evN := by decide +kernel
theorem q7_12 : autA fmA (fmR 2 0 2 evN tO true) = evA := by decide +kernel
theorem ev_dok (ac : List Bool) (h : ac.length = 2) : Dok 2 0 2 evN ac where
  i1 := by decide
  i2 := by decide
  n1 := by decide
  n2 := by decide
  st := by decide
  nxl := rfl
  acl := h
  row := by decide
theorem ev_mok : Mok 2 0 2 evN tO where
  i1 := by decide
  i2 := by decide
  n1 := by decide
  n2 := by decide
  st := by decide
  nxl := rfl
  otl := rfl
  row := by decide
theorem ev_bin : Bin tO := by unfold Bin; decide
theorem SL_nil (u : List Int) : ¬ SL u [] := by
  intro h
  cases u <;> simp [SL, Lx] at h
theorem one_mn {L : List Int → Bool} {i : Nat} (h : ∀ u, Wd i u → L u = true) (N : List (List Int)) (hN : N.length = 1) (hr : (N.getD 0 []).length = i) (hz : ∀ x, x < i → (N.getD 0 []).getD x 0 = 0) : Mn L i N [true] := by
  refine ⟨Unit, fun _ => (), [[]], ⟨⟨?_, ?_, ?_, ?_⟩, hN, rfl, ?_, ?_, ?_⟩, ?_⟩
  · intro u hu
    rw [List.mem_singleton.mp hu]
    exact Wd.nil i
  · simp
  · intro v hv u _ h2
    rw [List.mem_singleton.mp hv] at h2
    exact absurd h2 (SL_nil u)
  · exact fun u _ => ⟨[], by simp, rfl⟩
  · intro k hk
    obtain rfl : k = 0 := by simpa using hk
    exact hr
  · intro k x hk hx
    obtain rfl : k = 0 := by simpa using hk
    exact ⟨0, by simp, hz x hx, rfl⟩
  · intro k hk
    obtain rfl : k = 0 := by simpa using hk
    exact (h [] (Wd.nil i)).symm
  · exact fun u v hu hv => ⟨fun _ z hz => by rw [h _ (hu.app hz), h _ (hv.app hz)], fun _ => rfl⟩
theorem q7_13 {N : List (List Int)} {bs : List Bool} (h : Mn (fun u => aN [true, true] (runS evN 0 u)) 2 N bs) : N = [[0, 0]] ∧ bs = [true] := by
  refine h.uniq (one_mn (L := fun u => aN [true, true] (runS evN 0 u)) (i := 2) ?_ [[0, 0]] rfl rfl (by decide)) fun _ _ => rfl
  intro u hu
  have hlt := (ev_dok [true, true] rfl).runS_lt u 0 (by decide) hu
  generalize runS evN 0 u = s at hlt
  obtain rfl | rfl : s = 0 ∨ s = 1 := by omega
  · rfl
  · rfl
end Go.Proofs.Ythjnghldedfdoaa
end

section
/- Accepts of an automaton. -/
namespace Go.Proofs.Ythjnghldedfdoaa
open Go.RowKit

theorem Dok.runS_in {i st n : Nat} {nx : List (List Int)} {ac : List Bool} (h : Dok i st n nx ac) {u : List Int} (hu : chk u i = 0) (k : Nat) : runS nx st (u.take k) < n := by
  obtain ⟨_, _, _, hs⟩ := chk_zero hu
  refine h.runS_lt _ _ h.st fun x hx => ?_
  obtain ⟨j, hj, rfl⟩ := List.getElem_of_mem (List.mem_of_mem_take hx)
  have := hs j hj
  rw [List.getD_eq_getElem?_getD, List.getElem?_eq_getElem hj] at this
  exact this
set_option maxHeartbeats 2000000 in
set_option maxRecDepth 100000 in
theorem pacceptsD (i st : Int) (A B D : Option Addr) (n c m d k e : Nat) (nx : List (List Int)) (ac : List Bool) (u : List Int) (w : World) (hx : Lists w A n nx) (ha : Bools w B m ac) (hu : Ints w D k u) :
    Calls Try.prog 12 #[.agg #[.int .i64 i, .int .i64 st, .slice A n c, .slice B m d], .slice D k e] w fun e w' => e = .returned (.tuple #[.bool (accD i st nx ac u).1, .int .i64 (accD i st nx ac u).2]) ∧ Below w.heap.size w w' := by
  have hb0 := alloc_below w (.cells #[.int .i64 i, .int .i64 st, .slice A n c, .slice B m d] 25)
  have hB := dfa_box w (.int .i64 i) (.int .i64 st) (.slice A n c) (.slice B m d)
  obtain ⟨w0, hw0⟩ : ∃ w0, w0 = w.alloc (.cells #[.int .i64 i, .int .i64 st, .slice A n c, .slice B m d] 25) := ⟨_, rfl⟩
  rw [← hw0] at hb0 hB
  have hz0 : w0.heap.size = w.heap.size + 1 := by rw [hw0]; simp
  have HW0 := Lib.hid hw0
  have HBX := Lib.hid (fun (W : World) (h : Below w0.heap.size w0 W) => hB.kept h (by omega))
  have HX := Lib.hid (fun (W : World) (h : Below w0.heap.size w0 W) => (hx.below hb0).below h)
  have HA := Lib.hid (fun (W : World) (h : Below w0.heap.size w0 W) => (ha.below hb0).below h)
  have HU := Lib.hid (fun (W : World) (h : Below w0.heap.size w0 W) => (hu.below hb0).below h)
  obtain ⟨k0, k1, k2, k3, _⟩ := hB.cells
  rw [HW0.out] at k0 k1 k2 k3
  obtain ⟨V, hV⟩ : ∃ V, V = accD i st nx ac u := ⟨_, rfl⟩
  rw [← hV]
  have HV := Lib.hid hV
  have hn := hx.2.1
  have L1 := Lib.hid hx.1
  have L2 := Lib.hid ha.1
  have L3 := Lib.hid hu.1
  have hk := hu.2.1
  clear hw0 hB hV
  by_cases hv : vldD i st nx ac = 0
  · have HVD := Lib.hid hv
    by_cases hc : chk u i = 0
    · have HC := Lib.hid hc
      have HF := Lib.hid (show V = (aN ac (runS nx st.toNat u), 0) by rw [HV.out]; unfold accD; rw [if_pos hv, if_pos hc])
      obtain ⟨i, st, n', rfl, rfl, hM⟩ := vldD_zero hv
      obtain rfl : n = n' := by have := hM.nxl; rw [L1.out] at this; exact this
      obtain rfl : m = n := by have := hM.acl; rw [L2.out] at this; exact this
      have HM := Lib.hid hM
      have hst := hM.st
      clear hv hc hM
      go_enter Try.func12, Try.ntmps12
      go_wp2_with fail
      rw [← HW0.out]
      refine (pvalD _ _ _ _ _ _ _ _ _ _ _ (HX.out _ (Below.refl _ _)) (HA.out _ (Below.refl _ _)).1 hn).mono ?_
      rintro e w1 ⟨rfl, b1⟩
      rw [HVD.out]
      clear k0 k1 k2 k3
      obtain ⟨k0, k1, k2, k3, _⟩ := (HBX.out w1 b1).cells
      go_wp2_with fail
      refine (wcheck _ _ _ _ u _ (HU.out _ b1)).mono ?_
      rintro e w2 ⟨rfl, rfl⟩
      rw [HC.out]
      go_wp2_with fail
      have HB1 := Lib.hid b1
      clear k0 k1 k2 k3 b1
      go_loopw [8, 27] (fun v8 v27 wr => ∃ q : Nat, q ≤ k ∧ v27 = .int .i64 q ∧ v8 = .int .i64 (runS nx st (u.take q)) ∧ Below w0.heap.size w0 wr) (fun _ v27 _ => k - (intOf v27).toNat)
      case atStart => exact ⟨0, Nat.zero_le _, rfl, rfl, HB1.out⟩
      case round =>
        obtain ⟨q, hq, rfl, rfl, hbr⟩ := hrel
        have HBR := Lib.hid hbr
        obtain ⟨k0, k1, k2, k3, _⟩ := (HBX.out wr hbr).cells
        have hlast := HM.out.runS_in HC.out q
        clear hbr
        by_cases hlt : q < k
        · obtain ⟨b1, o1, rfl, _, hc1⟩ := (HU.out wr HBR.out).at_ hlt
          have hxm : 0 ≤ u.getD q 0 ∧ u.getD q 0 < i := (chk_zero HC.out).2.2.2 q (by rw [L3.out]; exact hlt)
          have hT := Lib.hid (runS_next (nx := nx) (s := st) (j := q) (xs := u) (by rw [L3.out]; exact hlt))
          rw [show u[q]?.getD 0 = u.getD q 0 by simp] at hT
          generalize u.getD q 0 = x at hc1 hxm hT
          obtain ⟨a, rfl⟩ : ∃ a : Nat, x = a := ⟨x.toNat, by omega⟩
          have ha : a < i := by omega
          rw [Int.toNat_natCast] at hT
          generalize hss : runS nx st (u.take q) = s at hlast hT ⊢
          have HSS := Lib.hid hss
          clear hss
          obtain ⟨gA, oA, A1, nA, cA, eA, _, hdA, hrA⟩ := (HX.out wr HBR.out).at_ hlast
          subst eA
          obtain rfl : nA = i := by rw [← hrA.1]; exact (HM.out.row s hlast).1
          obtain ⟨g2, o2, e2, _, x2⟩ := hrA.at_ ha
          subst e2
          rw [HM.out.nN_eq hlast ha] at x2
          clear hrA
          go_wp2_with fail
          go_roundw
          case rel => exact ⟨q + 1, by omega, by go_num, by rw [hT.out], HBR.out⟩
          case measure => simp [intOf]; omega
        · obtain rfl : q = k := by omega
          have hall := Lib.hid (List.take_of_length_le (l := u) (i := q) (by rw [L3.out]; exact Nat.le_refl _))
          rw [hall.out] at hlast ⊢
          have hb := (HA.out wr HBR.out).at_ hlast
          obtain ⟨b1, o1, rfl, _, hc1⟩ := hb
          go_wp2_with fail
          go_ret2
          exact ⟨by rw [HF.out]; rfl, bt hb0 HBR.out⟩
    · have HC := Lib.hid hc
      have HF := Lib.hid (show V = (false, chk u i) by rw [HV.out]; unfold accD; rw [if_pos hv, if_neg hc])
      obtain ⟨x, hx0, hxe⟩ : ∃ x, ¬ x = 0 ∧ chk u i = x := ⟨_, hc, rfl⟩
      have HXE := Lib.hid hxe
      have t1 : (x != 0) = true := by simpa using hx0
      clear hv hc hxe
      go_enter Try.func12, Try.ntmps12
      go_wp2_with fail
      rw [← HW0.out]
      refine (pvalD _ _ _ _ _ _ _ _ _ _ _ (HX.out _ (Below.refl _ _)) (HA.out _ (Below.refl _ _)).1 (HA.out _ (Below.refl _ _)).2.1).mono ?_
      rintro e w1 ⟨rfl, b1⟩
      rw [HVD.out]
      clear k0 k1 k2 k3
      obtain ⟨k0, k1, k2, k3, _⟩ := (HBX.out w1 b1).cells
      go_wp2_with fail
      refine (wcheck _ _ _ _ u _ (HU.out _ b1)).mono ?_
      rintro e w2 ⟨rfl, rfl⟩
      rw [HXE.out]
      go_wp2_with fail
      go_ret2
      exact ⟨by rw [HF.out, HXE.out]; rfl, bt hb0 b1⟩
  · have HF := Lib.hid (show V = (false, vldD i st nx ac) by rw [HV.out]; unfold accD; rw [if_neg hv])
    obtain ⟨x, hx0, hxe⟩ : ∃ x, ¬ x = 0 ∧ vldD i st nx ac = x := ⟨_, hv, rfl⟩
    have HXE := Lib.hid hxe
    have t1 : (x != 0) = true := by simpa using hx0
    clear hv hxe
    go_enter Try.func12, Try.ntmps12
    go_wp2_with fail
    rw [← HW0.out]
    refine (pvalD _ _ _ _ _ _ _ _ _ _ _ (HX.out _ (Below.refl _ _)) (HA.out _ (Below.refl _ _)).1 (HA.out _ (Below.refl _ _)).2.1).mono ?_
    rintro e w1 ⟨rfl, b1⟩
    rw [HXE.out]
    go_wp2_with fail
    go_ret2
    exact ⟨by rw [HF.out, HXE.out]; rfl, bt hb0 b1⟩
end Go.Proofs.Ythjnghldedfdoaa
end
