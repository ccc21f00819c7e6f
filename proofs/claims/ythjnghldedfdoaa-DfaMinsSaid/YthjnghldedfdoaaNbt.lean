/- Lemmas of the proofs of this seat, of the parts Dtrp, Dtrw. Conditions: none. -/
import Derived.Test.YthjnghldedfdoaaNaf
import Derived.Test.YthjnghldedfdoaaNae
import Derived.Test.YthjnghldedfdoaaNah
import Derived.Test.YthjnghldedfdoaaNai
section
/- The machine of an automaton, and the automaton of this machine. -/
namespace Go.Proofs.Ythjnghldedfdoaa
section
variable {i st n s a : Nat} {nx : List (List Int)} {ac : List Bool}
theorem tomO_row (hs : s < n) : (tomO nx ac i n).getD s [] = (List.range i).map fun a => tomR nx ac s a := by
  unfold tomO
  rw [List.getD_eq_getElem?_getD, List.getElem?_map, List.getElem?_range hs]; rfl
theorem tomO_at (hs : s < n) (ha : a < i) : ((tomO nx ac i n).getD s []).getD a 0 = tomR nx ac s a := by
  rw [tomO_row hs, List.getD_eq_getElem?_getD, List.getElem?_map, List.getElem?_range ha]; rfl
theorem tomO_nN (hs : s < n) (ha : a < i) : nN (tomO nx ac i n) s a = (aN ac (nN nx s a)).toNat := by
  unfold nN
  rw [tomO_at hs ha]
  unfold tomR nN
  cases aN ac _ <;> rfl
theorem tomR_le (nx : List (List Int)) (ac : List Bool) (s a : Nat) : 0 ≤ tomR nx ac s a ∧ tomR nx ac s a ≤ 1 := by
  unfold tomR
  split <;> omega
theorem Dok.tom (h : Dok i st n nx ac) (h64 : i ≤ 64) : Mok i st n nx (tomO nx ac i n) where
  i1 := h.i1
  i2 := h64
  n1 := h.n1
  n2 := h.n2
  st := h.st
  nxl := h.nxl
  otl := by simp [tomO]
  row := fun s hs => by
    refine ⟨(h.row s hs).1, by rw [tomO_row hs]; simp, fun a ha => ?_⟩
    have h1 := (h.row s hs).2 a ha
    rw [tomO_at hs ha]
    have h2 := tomR_le nx ac s a
    omega
theorem tom_bin (nx : List (List Int)) (ac : List Bool) (i n : Nat) : Bin (tomO nx ac i n) := by
  intro x hx
  rw [List.mem_flatten] at hx
  obtain ⟨l, hl, hx⟩ := hx
  unfold tomO at hl
  rw [List.mem_map] at hl
  obtain ⟨s, _, rfl⟩ := hl
  rw [List.mem_map] at hx
  obtain ⟨a, _, rfl⟩ := hx
  have := tomR_le nx ac s a
  omega
theorem trip_run (h : Dok i st n nx ac) : ∀ (u : List Int) (s : Nat), s < n → Wd i u → runF (fmF nx (tomO nx ac i n)) (s, (aN ac s).toNat) u = (runS nx s u, (aN ac (runS nx s u)).toNat)
  | [], _, _, _ => rfl
  | x :: u, s, hs, hu => by
    obtain ⟨a, rfl, ha⟩ := hu.head
    have ih := trip_run h u (nN nx s a) (h.nN_lt hs ha) hu.tail
    show runF (fmF nx (tomO nx ac i n)) (fmF nx (tomO nx ac i n) (s, (aN ac s).toNat) ((a : Int)).toNat) u = _
    have e : fmF nx (tomO nx ac i n) (s, (aN ac s).toNat) ((a : Int)).toNat = (nN nx s a, (aN ac (nN nx s a)).toNat) := by
      unfold fmF
      rw [Int.toNat_natCast, tomO_nN hs ha]
    rw [e, ih]
    show _ = (runS nx (nN nx s ((a : Int)).toNat) u, _)
    rw [Int.toNat_natCast]
    rfl
end
section
variable {i st n : Nat} {nx ot : List (List Int)} {b : Bool}
theorem fm_ens (h : Mok i st n nx ot) (hb : Bin ot) : Ens n 2 st b.toNat (fmR i st n nx ot b) := fdG_ens (fm_stp h hb) h.st (by cases b <;> decide)
theorem fm_ord (h : Mok i st n nx ot) (hb : Bin ot) : OrdG (fmF nx ot) i st b.toNat ((fmR i st n nx ot b).length * i) (fmR i st n nx ot b) := fdG_ord (fm_stp h hb) h.st (by cases b <;> decide)
theorem fm_can (h : Mok i st n nx ot) (hb : Bin ot) : Can (runF (fmF nx ot) (st, b.toNat)) (fun u => fmA (runF (fmF nx ot) (st, b.toNat) u)) i (autN (fmF nx ot) i (fmR i st n nx ot b)) (autA fmA (fmR i st n nx ot b)) ((fmR i st n nx ot b).map Ent.w) :=
  fdG_can _ (fm_stp h hb) h.st (by cases b <;> decide) rfl
theorem fm_dok (h : Mok i st n nx ot) (hb : Bin ot) (hl : (fmR i st n nx ot b).length ≤ 128) : Dok i 0 (fmR i st n nx ot b).length (autN (fmF nx ot) i (fmR i st n nx ot b)) (autA fmA (fmR i st n nx ot b)) where
  i1 := h.i1
  i2 := by have := h.i2; omega
  n1 := (fm_ord h hb).ne
  n2 := hl
  st := (fm_ord h hb).ne
  nxl := by simp [autN]
  acl := by simp [autA]
  row := fun s hs => by
    have hc := fm_can (b := b) h hb
    have hs2 : s < ((fmR i st n nx ot b).map Ent.w).length := by simpa using hs
    refine ⟨hc.rl s hs2, fun a ha => ?_⟩
    obtain ⟨j, hj, e, _⟩ := hc.rx s a hs2 ha
    rw [List.length_map] at hj
    rw [e]
    omega
theorem fm_acc (h : Mok i st n nx ot) (hb : Bin ot) {u : List Int} (hu : Wd i u) : aN (autA fmA (fmR i st n nx ot b)) (runS (autN (fmF nx ot) i (fmR i st n nx ot b)) 0 u) = fmA (runF (fmF nx ot) (st, b.toNat) u) :=
  aut_acc fmA (fm_stp h hb) (fm_ens h hb) (fm_ord h hb) hu
end
/-- Nothing tells apart automata that accept the same words. -/
theorem diff_none {i st n st' n' : Nat} {nx nx' : List (List Int)} {ac ac' : List Bool} (h : Dok i st n nx ac) (h' : Dok i st' n' nx' ac') (he : ∀ u, Wd i u → aN ac (runS nx st u) = aN ac' (runS nx' st' u)) :
    fwR (fun p => aN ac p.1 != aN ac' p.2) (cmE i st n st' n' nx nx') = ([], false) := by
  refine fwR_miss fun k hk => ?_
  obtain ⟨h1, h2⟩ := (cm_ord h h').word hk
  rw [both_run] at h2
  rw [← h2]
  have := he _ h1
  simpa using this
/-- The automaton of the machine of an automaton accepts what that accepts. -/
theorem trip_same {i st n : Nat} {nx : List (List Int)} {ac : List Bool} (h : Dok i st n nx ac) (h64 : i ≤ 64) {u : List Int} (hu : Wd i u) :
    aN (autA fmA (fmR i st n nx (tomO nx ac i n) (aN ac st))) (runS (autN (fmF nx (tomO nx ac i n)) i (fmR i st n nx (tomO nx ac i n) (aN ac st))) 0 u) = aN ac (runS nx st u) := by
  rw [fm_acc (h.tom h64) (tom_bin nx ac i n) hu, trip_run h u st h.st hu]
  unfold fmA
  cases aN ac (runS nx st u) <;> rfl
theorem runO_getD (nx ot : List (List Int)) : ∀ (u : List Int) (s k : Nat), k < u.length → (runO nx ot s u).getD k 0 = oN ot (runS nx s (u.take k)) (u.getD k 0).toNat
  | [], _, _, h => by simp at h
  | x :: u, s, 0, _ => rfl
  | x :: u, s, k + 1, h => by
    have := runO_getD nx ot u (nN nx s x.toNat) k (by simpa using h)
    simpa [runO, runS] using this
theorem runO_lenD (nx ot : List (List Int)) : ∀ (u : List Int) (s : Nat), (runO nx ot s u).length = u.length
  | [], _ => rfl
  | x :: u, s => by simp [runO, runO_lenD nx ot u]
theorem runS_snoc (nx : List (List Int)) : ∀ (u : List Int) (s k : Nat), k < u.length → runS nx s (u.take (k + 1)) = nN nx (runS nx s (u.take k)) (u.getD k 0).toNat
  | [], _, _, h => by simp at h
  | x :: u, s, 0, _ => by simp [runS]
  | x :: u, s, k + 1, h => by
    have := runS_snoc nx u (nN nx s x.toNat) k (by simpa using h)
    simpa [runS] using this
/-- The machine says whether the word so far is accepted. -/
theorem trip_out {i st n : Nat} {nx : List (List Int)} {ac : List Bool} (h : Dok i st n nx ac) {u : List Int} (hu : Wd i u) {k : Nat} (hk : k < u.length) :
    (runO nx (tomO nx ac i n) st u).getD k 0 = if aN ac (runS nx st (u.take (k + 1))) then 1 else 0 := by
  have hm : u.getD k 0 ∈ u := by rw [List.getD_eq_getElem?_getD, List.getElem?_eq_getElem hk]; exact List.getElem_mem _
  obtain ⟨h1, h2⟩ := hu _ hm
  have ht : Wd i (u.take k) := fun x hx => hu x (List.mem_of_mem_take hx)
  have hlt := h.runS_lt (u.take k) st h.st ht
  rw [runO_getD _ _ _ _ _ hk, runS_snoc _ _ _ _ hk]
  unfold oN
  rw [tomO_at hlt (by omega)]
  rfl
end Go.Proofs.Ythjnghldedfdoaa
end

section
/- The law DfaTrips. -/
namespace Go.Proofs.Ythjnghldedfdoaa
open Go.RowKit

theorem syms_wd7 {xs : List Int} {i : Nat} (h : Syms xs i xs.length) : Wd i xs := fun x hx => by
  obtain ⟨m, hm, rfl⟩ := List.getElem_of_mem hx
  have := h m hm
  rw [List.getD_eq_getElem?_getD, List.getElem?_eq_getElem hm] at this
  exact this
def tpR (i st n : Nat) (nx : List (List Int)) (ac : List Bool) : List Ent := fmR i st n nx (tomO nx ac i n) (aN ac st)
def tpN (i st n : Nat) (nx : List (List Int)) (ac : List Bool) : List (List Int) := autN (fmF nx (tomO nx ac i n)) i (tpR i st n nx ac)
def tpA (i st n : Nat) (nx : List (List Int)) (ac : List Bool) : List Bool := autA fmA (tpR i st n nx ac)
theorem tp_dok {i st n : Nat} {nx : List (List Int)} {ac : List Bool} (h : Dok i st n nx ac) (h64 : i ≤ 64) (hn : n ≤ 12) : Dok i 0 (tpR i st n nx ac).length (tpN i st n nx ac) (tpA i st n nx ac) :=
  fm_dok (h.tom h64) (tom_bin nx ac i n) (by have h1 := (fm_ens (b := aN ac st) (h.tom h64) (tom_bin nx ac i n)).len; omega)
theorem tp_diff {i st n : Nat} {nx : List (List Int)} {ac : List Bool} (h : Dok i st n nx ac) (h64 : i ≤ 64) (hn : n ≤ 12) : fwR (fun p => aN (tpA i st n nx ac) p.1 != aN ac p.2) (cmE i 0 (tpR i st n nx ac).length st n (tpN i st n nx ac) nx) = ([], false) :=
  diff_none (tp_dok h h64 hn) h fun _ hu => trip_same h h64 hu
theorem dfrom_trip {i st n : Nat} {nx : List (List Int)} {ac : List Bool} (A B : Option Addr) (c d : Nat) (w : World) (hx : Lists w A n nx) (ho : Lists w B n (tomO nx ac i n)) (h : Dok i st n nx ac) (h64 : i ≤ 64) (hn : n ≤ 12) :
    Calls Try.prog 33 #[.agg #[.int .i64 i, .int .i64 st, .slice A n c, .slice B n d], .bool (aN ac st)] w fun e w' => ∃ A' c' B' d',
      e = .returned (.tuple #[.agg #[.int .i64 i, .int .i64 0, .slice A' (tpR i st n nx ac).length c', .slice B' (tpR i st n nx ac).length d'], .int .i64 0]) ∧ OwnedL w' w.heap.size (.slice A' (tpR i st n nx ac).length c') (tpN i st n nx ac) ∧
        Rws w' w.heap.size 4 1 (.slice B' (tpR i st n nx ac).length d') ((tpA i st n nx ac).map cellsB) ∧ Below w.heap.size w w' := by
  refine (dfromm i st n A B c d nx _ (aN ac st) w hx ho (h.tom h64) (tom_bin nx ac i n)).mono ?_
  rintro e w' ⟨hA, hb⟩
  unfold AutP at hA
  rw [if_pos (show (fmR i st n nx (tomO nx ac i n) (aN ac st)).length ≤ 128 from (tp_dok h h64 hn).n2)] at hA
  obtain ⟨A', c', B', d', h1, h2, h3⟩ := hA
  exact ⟨A', c', B', d', h1, h2, h3, hb⟩
/-- The part of the law behind its guards. -/
theorem ints_take {w : World} {A : Option Addr} {n : Nat} {xs : List Int} (h : Ints w A n xs) {k : Nat} (hk : k ≤ n) : Ints w A k (xs.take k) := by
  refine ⟨by rw [List.length_take, h.1]; omega, by have := h.2.1; omega, fun h0 => ?_⟩
  obtain ⟨b, off, e, hlt, hc⟩ := h.2.2 (by omega)
  refine ⟨b, off, e, hlt, fun j hj => ?_⟩
  rw [hc j (by omega)]
  congr 2
  rw [List.getD_eq_getElem?_getD, List.getD_eq_getElem?_getD, List.getElem?_take_of_lt hj]
theorem acc_take {i st n : Nat} {nx : List (List Int)} {ac : List Bool} (h : Dok i st n nx ac) {u : List Int} (hu : Wd i u) (hl : u.length ≤ 1024) (k : Nat) : accD i st nx ac (u.take k) = (aN ac (runS nx st (u.take k)), 0) := by
  have h1 := h.i1
  have h2 := h.i2
  have hc : chk (u.take k) i = 0 := chk_ok ⟨by omega, by omega⟩ (by rw [List.length_take]; omega) fun m hm => by
    rw [List.getD_eq_getElem?_getD, List.getElem?_eq_getElem hm]
    exact hu _ (List.mem_of_mem_take (List.getElem_mem hm))
  unfold accD
  rw [if_pos h.vld, if_pos hc, Int.toNat_natCast]
set_option maxHeartbeats 8000000 in
set_option maxRecDepth 100000 in
theorem trips7_walk (i0 st0 : Int) (A0 B0 : Option Addr) (n0 c0 m0 e0 : Nat) (nx0 : List (List Int)) (ac0 : List Bool) (a1 : Option Addr) (len1 cap1 : Nat) (z1 : List Int) (w : World) (wn0 : Lists w A0 n0 nx0) (wo0 : BoolsL w B0 m0 ac0) (w1 : Ints w a1 len1 z1) (cc1 : len1 ≤ cap1) :
    Calls Try.prog 9 #[.agg #[.int .i64 i0, .int .i64 st0, .slice A0 n0 c0, .slice B0 m0 e0], .slice a1 len1 cap1] w fun e w' => e = .returned (.bool true) ∧ Below w.heap.size w w' := by
  obtain ⟨w0, hw0⟩ : ∃ w0, w0 = w.alloc (.cells #[.int .i64 i0, .int .i64 st0, .slice A0 n0 c0, .slice B0 m0 e0] 25) := ⟨_, rfl⟩
  have hb0 : Below w.heap.size w w0 := by rw [hw0]; exact alloc_below _ _
  have hB : Dblk w0 w.heap.size (.int .i64 i0) (.int .i64 st0) (.slice A0 n0 c0) (.slice B0 m0 e0) := by rw [hw0]; exact dfa_box _ _ _ _ _
  have hz0 : w0.heap.size = w.heap.size + 1 := by rw [hw0]; simp
  obtain ⟨k0, k1, k2, k3, _⟩ := hB.cells
  have HW0 := Lib.hid hw0
  have HBX := Lib.hid (fun (W : World) (h : Below w0.heap.size w0 W) => hB.on9 h)
  have HX := Lib.hid (fun (W : World) (h : Below w0.heap.size w0 W) => (wn0.below hb0).below h)
  have HU := Lib.hid (fun (W : World) (h : Below w0.heap.size w0 W) => (w1.below hb0).below h)
  have HBA := Lib.hid (fun (W : World) (h : Below w0.heap.size w0 W) (hm : m0 ≤ 20) => ((wo0.bools hm).below hb0).below h)
  have HB0 := Lib.hid hb0
  have HZ := Lib.hid hz0
  have hm47 := wo0.2.1
  have HLA := Lib.hid wo0.1
  have hlen := w1.2.1
  clear hw0 hB hb0 hz0
  rw [HW0.out] at k0 k1 k2 k3
  go_enter Try.func9, Try.ntmps9
  go_wp2_with fail
  rw [← HW0.out]
  refine (rgreat7 _ _ _ _ _ _ _ _ _ _ (HX.out _ (Below.refl _ _)) hm47).mono ?_
  rintro e wa ⟨b, rfl, hgr, ba⟩
  have HBa := Lib.hid ba
  clear k0 k1 k2 k3
  obtain ⟨k0, k1, k2, k3, _⟩ := (HBX.out _ ba).cells
  clear ba
  cases b with
  | true =>
    clear hgr
    go_wp2_with fail
    refine (awake7 _).mono ?_
    rintro e wz ⟨rfl, bz⟩
    go_wp2_with fail
    go_ret
    exact ⟨rfl, bt HB0.out (bt HBa.out bz)⟩
  | false =>
    obtain ⟨hn12, hm20, hr6⟩ := hgr rfl
    have HR6 := Lib.hid hr6
    clear hgr hr6
    by_cases hl : 100 < len1
    · have d1 : decide ((100 : Int) < (len1 : Int)) = true := decide_eq_true (by omega)
      clear hl
      go_wp2_with fail
      refine (awake7 _).mono ?_
      rintro e wz ⟨rfl, bz⟩
      go_wp2_with fail
      go_ret
      exact ⟨rfl, bt HB0.out (bt HBa.out bz)⟩
    · have d1 : decide ((100 : Int) < (len1 : Int)) = false := decide_eq_false (by omega)
      go_wp2_with fail
      refine (pvalD _ _ _ _ _ _ _ _ _ _ _ (HX.out _ HBa.out) HLA.out (by omega)).mono ?_
      rintro e wb ⟨rfl, bb⟩
      have HBb := Lib.hid (bt HBa.out bb)
      clear k0 k1 k2 k3 bb
      obtain ⟨k0, k1, k2, k3, _⟩ := (HBX.out _ HBb.out).cells
      by_cases hv : vldD i0 st0 nx0 ac0 = 0
      · rw [hv]
        have HV := Lib.hid hv
        obtain ⟨i, st, n, rfl, rfl, hM⟩ := vldD_zero hv
        obtain rfl : n0 = n := by rw [← wn0.1]; exact hM.nxl
        obtain rfl : n0 = m0 := by rw [← wo0.1]; exact hM.acl.symm
        have HM := Lib.hid hM
        have h6 : i ≤ 6 := by have := HR6.out 0 hM.n1; rw [(hM.row 0 hM.n1).1] at this; exact this
        have hst := hM.st
        have hi1 := hM.i1
        clear hv hM
        go_wp2_with fail
        refine (rcheck _ _ _ _ _ _ (HU.out _ HBb.out)).mono ?_
        rintro e wc ⟨rfl, rfl⟩
        by_cases hc : chk z1 i = 0
        · have HC := Lib.hid hc
          have HWD := Lib.hid (syms_wd7 (chk_zero hc).2.2.2)
          rw [hc]
          clear hc
          go_wp2_with fail
          refine (dtom i st n0 _ _ _ _ nx0 ac0 _ (HX.out _ HBb.out) (HBA.out _ HBb.out hm20) HM.out (by omega)).mono ?_
          rintro e wd ⟨Ad, cd, Bd, dd, rfl, xd, ad, bd⟩
          have xd := xd.lists_of (i := i) (by rw [HM.out.nxl]; omega) (by omega) (fun s hs => (HM.out.row s (by rw [HM.out.nxl] at hs; exact hs)).1)
          have ad := ad.lists_of (i := i) (by simp [tomO]; omega) (by omega) (fun s hs => by rw [tomO_row (by simpa [tomO] using hs)]; simp)
          obtain ⟨W5, hW5⟩ : ∃ W5, W5 = wd.alloc (.cells #[.int .i64 i, .int .i64 st, .slice Ad n0 cd, .slice Bd n0 dd] 58) := ⟨_, rfl⟩
          have b5 : Below wd.heap.size wd W5 := by rw [hW5]; exact alloc_below _ _
          have m5 : MlyB W5 wd.heap.size i st Ad n0 cd Bd dd nx0 (tomO nx0 ac0 i n0) := by rw [hW5]; exact MlyB.new xd ad
          have hb5 := bt (bt HBb.out bd) b5
          have HB5 := Lib.hid hb5
          obtain ⟨gB, oB, eB, _, hcB⟩ := (HBA.out _ hb5 hm20).at_ (show st < n0 by omega)
          have HH5 := Lib.hid hW5
          have HCL := Lib.hid (fun (W : World) (h : Below W5.heap.size W5 W) => And.intro (HBX.out _ (bt hb5 h)) (And.intro (m5.on h) ((h.cell (p := ⟨gB, oB + st, none⟩) (World.block_lt_of_cell? W5 _ hcB)).trans hcB)))
          clear k0 k1 k2 k3
          obtain ⟨⟨k0, k1, k2, k3, _⟩, ⟨p0, p1, p2, p3, _⟩⟩ := And.intro (HBX.out _ hb5).cells m5.1.cells
          rw [HH5.out] at k0 k1 k2 k3 p0 p1 p2 p3
          have s1 : decide ((st : Int) < 0) = false := decide_eq_false (by omega)
          have s2 : decide (n0 ≤ st) = false := decide_eq_false (by omega)
          have s3 : ((n0 : Int) != (n0 : Int)) = false := by simp
          subst eB
          clear hW5 b5 m5 hb5 bd xd ad hcB
          go_upto_region 6 with fail
          rw [← HH5.out]
          clear k0 k1 k2 k3 p0 p1 p2 p3 s1 s2 s3
          obtain ⟨c1, c2, c3⟩ := HCL.out W5 (Below.refl _ _)
          obtain ⟨k0, k1, k2, k3, _⟩ := c1.cells
          obtain ⟨p0, p1, p2, p3, _⟩ := c2.1.cells
          clear c1 c2
          have c3 : W5.cell? ⟨gB, oB + st, none⟩ = some (.bool (aN ac0 st)) := c3
          go_cut [7, 8] from 66 to 76 (fun v7 v8 wx => ∃ (g : Nat) (A6 : Option Addr) (c6 : Nat) (B6 : Option Addr) (d6 : Nat), v7 = .pointer (some ⟨g, 0, none⟩) ∧ v8 = .int .i64 0 ∧ Dblk wx g (.int .i64 i) (.int .i64 0) (.slice A6 (tpR i st n0 nx0 ac0).length c6) (.slice B6 (tpR i st n0 nx0 ac0).length d6) ∧ OwnedL wx W5.heap.size (.slice A6 (tpR i st n0 nx0 ac0).length c6) (tpN i st n0 nx0 ac0) ∧ Rws wx W5.heap.size 4 1 (.slice B6 (tpR i st n0 nx0 ac0).length d6) ((tpA i st n0 nx0 ac0).map cellsB) ∧ Below W5.heap.size W5 wx)
          case first =>
            go_region_held3 (fun w' => w'.cell? ⟨w.heap.size, 1, none⟩ = some (.int .i64 st) ∧ w'.cell? ⟨w.heap.size, 3, none⟩ = some (.slice (some ⟨gB, oB, none⟩) n0 e0) ∧ w'.cell? ⟨wd.heap.size, 0, none⟩ = some (.int .i64 i) ∧ w'.cell? ⟨wd.heap.size, 1, none⟩ = some (.int .i64 st) ∧ w'.cell? ⟨wd.heap.size, 2, none⟩ = some (.slice Ad n0 cd) ∧ w'.cell? ⟨wd.heap.size, 3, none⟩ = some (.slice Bd n0 dd) ∧ w'.cell? ⟨gB, oB + st, none⟩ = some (.bool (aN ac0 st)))
              (first
                | (have hS : ∀ W, Below W5.heap.size W5 W → _ := fun W h => (And.intro (HCL.out W h).1.cells.2.1 (And.intro (HCL.out W h).1.cells.2.2.2.1 (And.intro (HCL.out W h).2.1.1.cells.1 (And.intro (HCL.out W h).2.1.1.cells.2.1 (And.intro (HCL.out W h).2.1.1.cells.2.2.1 (And.intro (HCL.out W h).2.1.1.cells.2.2.2.1 (HCL.out W h).2.2)))))); exact hS _ (by first | exact below_drewN (Below.refl _ _) 1 | exact below_drewN (alloc_below _ _) 1 | exact hb3 | exact hb3.alloc hb3.size _ | exact below_set4 (Nat.le_refl _) hb3 _ _ _ _))
                | go_keep)
              (first
                | (go_at_call 33; refine (dfrom_trip _ _ _ _ _ (HCL.out _ (by first | exact below_drewN (Below.refl _ _) 1 | exact below_drewN (alloc_below _ _) 1)).2.1.2.1 (HCL.out _ (by first | exact below_drewN (Below.refl _ _) 1 | exact below_drewN (alloc_below _ _) 1)).2.1.2.2 HM.out (by omega) hn12).mono ?_; rintro e w3 ⟨A6, c6, B6, d6, rfl, o6, r6, b6⟩; have hb3 : Below W5.heap.size W5 w3 := (by first | exact bt (below_drewN (Below.refl _ _) 1) b6 | exact bt (below_drewN (alloc_below _ _) 1) b6); (try (have hq := (show Dblk ((W5.alloc (.cells #[.int .i64 0, .int .i64 0, .slice none 0 0, .slice none 0 0] 25)).drew) W5.heap.size (.int .i64 0) (.int .i64 0) (.slice none 0 0) (.slice none 0 0) from heap_alloc_new W5 _).on9 b6)); (try (obtain ⟨q0, q1, q2, q3, g0, g1, g2, g3⟩ := hq.cells))))
            all_goals
              have hz3 : W5.heap.size ≤ w3.heap.size := hb3.size
              have HO := Lib.hid (And.intro (o6.lower (base' := W5.heap.size) (by first | exact Nat.le_refl _ | (simp; done) | (simp; omega))) (r6.lower (base' := W5.heap.size) (by first | exact Nat.le_refl _ | (simp; done) | (simp; omega))))
              go_wp2_with fail
              go_meet
              first
                | ((with_reducible refine ⟨w3.heap.size, A6, c6, B6, d6, rfl, rfl, ?_, ?_, ?_, ?_⟩); exact heap_alloc_new w3 _; exact HO.out.1.kept (alloc_below w3 _); exact HO.out.2.kept (alloc_below w3 _); exact hb3.alloc hb3.size _)
                | ((with_reducible refine ⟨W5.heap.size, A6, c6, B6, d6, rfl, rfl, ?_, ?_, ?_, ?_⟩); exact hq.set4 _ _ _ _; exact HO.out.1.keptT (hq.off4 _ _ _ _ (by decide)) (hq.off4 _ _ _ _ (by decide)); exact HO.out.2.keptT (hq.off4 _ _ _ _ (by decide)); exact below_set4 (Nat.le_refl _) hb3 _ _ _ _)
          case rest =>
            obtain ⟨g, A6, c6, B6, d6, rfl, rfl, hq, o6, r6, b6⟩ := hcut
            have hdk := tp_dok HM.out (by omega) hn12
            have x6 := o6.lists_of (i := i) (by rw [hdk.nxl]; exact hdk.n2) (by omega) (fun s hs => (hdk.row s (by rw [hdk.nxl] at hs; exact hs)).1)
            have a6 := r6.bools hdk.acl (by have := hdk.n2; omega)
            have HDK := Lib.hid hdk
            have hb6 := bt HB5.out b6
            have HB6 := Lib.hid hb6
            have HD := Lib.hid (tp_diff HM.out (show i ≤ 64 by omega) hn12)
            clear k0 k1 k2 k3 p0 p1 p2 p3 c3
            obtain ⟨k0, k1, k2, k3, _⟩ := (HBX.out _ hb6).cells
            obtain ⟨p0, p1, p2, p3, _⟩ := hq.cells
            have m5 := (HCL.out _ b6).2.1
            have HX6 := HX.out _ hb6
            have HA6 := HBA.out _ hb6 hm20
            clear hq o6 r6 b6 hdk hb6
            go_wp2_with fail
            refine (ddiffer i 0 st _ n0 _ _ _ _ _ _ _ _ _ nx0 _ ac0 _ x6 a6 HX6 HA6 HDK.out HM.out).mono ?_
            rintro e we ⟨A7, c7, rfl, _, b7⟩
            rw [HD.out]
            have hb7 := bt HB6.out b7
            have HB7 := Lib.hid hb7
            have m5 := m5.on b7
            clear k0 k1 k2 k3 p0 p1 p2 p3 HX6 HA6 x6 a6 b7
            obtain ⟨p0, p1, p2, p3, _⟩ := m5.1.cells
            go_wp2_with fail
            refine (rrunw _ _ _ _ _ _ _ _ _ _ _ _ _ _ _ m5.2.1 m5.2.2 (HU.out _ hb7)).mono ?_
            rintro e wf ⟨A8, c8, rfl, o8, b8⟩
            rw [frm_ok (HM.out.tom (by omega)).vld (by rw [HM.out.nxl]; exact hst) HC.out] at o8 ⊢
            have HL1 := Lib.hid (HU.out _ hb7).1
            have i8 := o8.ints (by rw [runO_lenD, HL1.out]; omega)
            have hl8 : (runO nx0 (tomO nx0 ac0 i n0) st z1).length = len1 := by rw [runO_lenD]; exact HL1.out
            have hb8 := bt HB7.out b8
            have HB8 := Lib.hid hb8
            have HOUT := Lib.hid (fun (k : Nat) (hk : k < len1) => trip_out HM.out HWD.out (by rw [HL1.out]; exact hk) (k := k))
            have HACC := Lib.hid (fun (k : Nat) => acc_take HM.out HWD.out (by rw [HL1.out]; omega) k)
            have HI8 := Lib.hid (fun (W : World) (h : Below wf.heap.size wf W) => i8.below h)
            generalize runO nx0 (tomO nx0 ac0 i n0) st z1 = ou at *
            have s4 : ((len1 : Int) != (len1 : Int)) = false := by simp
            clear p0 p1 p2 p3 m5 o8 b8 hb7 hb8 i8
            subst hl8
            go_wp2_with fail
            clear s4
            go_loopw [14, 15, 16] (fun v14 v15 v16 wr => ∃ j : Nat, j ≤ ou.length ∧ v14 = .int .i64 j ∧ Below wf.heap.size wf wr) (fun v14 _ _ _ => ou.length - (intOf v14).toNat)
            case atStart => exact ⟨0, Nat.zero_le _, rfl, Below.refl _ _⟩
            case round =>
              obtain ⟨j, hj, rfl, hbr⟩ := hrel
              have HBR := Lib.hid hbr
              have hbw := bt HB8.out hbr
              have HBW := Lib.hid hbw
              by_cases hlt : j < ou.length
              · have hu := HU.out _ hbw
                have ht := ints_take hu (show j + 1 ≤ ou.length by omega)
                obtain ⟨gO, oO, eO, _, xO⟩ := (HI8.out _ hbr).at_ hlt
                subst eO
                obtain ⟨gU, oU, eU, _, _⟩ := hu.at_ hlt
                subst eU
                rw [HOUT.out j hlt] at xO
                have HT := Lib.hid ht
                have HAC := Lib.hid (HACC.out (j + 1))
                have HXW := Lib.hid (And.intro (HX.out _ hbw) (HBA.out _ hbw hm20))
                have hDB := HBX.out _ hbw
                obtain ⟨k0, k1, k2, k3, _⟩ := hDB.cells
                have HDB := Lib.hid (fun (W : World) (h : Below wr.heap.size wr W) => (hDB.on9 h).cells)
                have HXO := Lib.hid (fun (W : World) (h : Below wr.heap.size wr W) => (h.cell (p := ⟨gO, oO + j, none⟩) (World.block_lt_of_cell? wr _ xO)).trans xO)
                generalize aN ac0 (runS nx0 st (z1.take (j + 1))) = bb at HAC HXO xO
                have hcap : (j : Int) + 1 ≤ (cap1 : Int) := by omega
                have hj0 : (0 : Int) ≤ (j : Int) + 1 := by omega
                have hwr : IntKind.i64.wrap ((j : Int) + 1) = (j : Int) + 1 := by unfold IntKind.wrap; simp [IntKind.bits, IntKind.signed]; omega
                clear hbr hbw hu ht hDB
                go_upto_region 16 with fail
                go_region_held3 (fun w' => w'.cell? ⟨w.heap.size, 0, none⟩ = some (.int .i64 i) ∧ w'.cell? ⟨w.heap.size, 1, none⟩ = some (.int .i64 st) ∧ w'.cell? ⟨w.heap.size, 2, none⟩ = some (.slice A0 n0 c0) ∧ w'.cell? ⟨w.heap.size, 3, none⟩ = some (.slice (some ⟨gB, oB, none⟩) n0 e0))
                  (first
                    | (have hS : ∀ W, Below wr.heap.size wr W → _ := fun W h => And.intro (HDB.out W h).1 (And.intro (HDB.out W h).2.1 (And.intro (HDB.out W h).2.2.1 (HDB.out W h).2.2.2.1)); exact hS _ (by first | exact below_drewN (Below.refl _ _) 1 | exact hb3 | exact below_drewN hb3 1))
                    | go_keep)
                  (first
                    | (go_at_call 12; refine (pacceptsD _ _ _ _ _ _ _ _ _ _ _ nx0 ac0 _ _ (HXW.out.1.below (below_drewN (Below.refl _ _) 1)) (HXW.out.2.below (below_drewN (Below.refl _ _) 1)) (HT.out.below (below_drewN (Below.refl _ _) 1))).mono ?_; rintro e w3 ⟨rfl, b3⟩; rw [HAC.out]; have hb3 : Below wr.heap.size wr w3 := bt (below_drewN (Below.refl _ _) 1) b3))
                all_goals
                  have hxo := HXO.out _ hb3
                  have HB3 := Lib.hid (bt HBR.out hb3)
                  clear k0 k1 k2 k3 xO hb3 b3
                  cases bb
                  all_goals
                    simp only [if_true, Bool.false_eq_true, if_false] at hxo
                    go_wp2_with fail
                    go_roundw
                    case rel => exact ⟨j + 1, by omega, by go_num, HB3.out⟩
                    case measure => simp [intOf]; omega
              · obtain rfl : j = ou.length := by omega
                clear hbr hbw
                go_wp2_with fail
                refine (awake7 _).mono ?_
                rintro e wz ⟨rfl, bz⟩
                go_wp2_with fail
                go_ret
                exact ⟨rfl, bt HB0.out (bt HBW.out bz)⟩
        · have t1 : (chk z1 i != 0) = true := by simpa using hc
          clear hc
          go_wp2_with fail
          refine (awake7 _).mono ?_
          rintro e wz ⟨rfl, bz⟩
          go_wp2_with fail
          go_ret
          exact ⟨rfl, bt HB0.out (bt HBb.out bz)⟩
      · have t1 : (vldD i0 st0 nx0 ac0 != 0) = true := by simpa using hv
        generalize vldD i0 st0 nx0 ac0 = V at t1
        clear hv
        go_wp2_with fail
        refine (awake7 _).mono ?_
        rintro e wz ⟨rfl, bz⟩
        go_wp2_with fail
        go_ret
        exact ⟨rfl, bt HB0.out (bt HBb.out bz)⟩
end Go.Proofs.Ythjnghldedfdoaa
end
