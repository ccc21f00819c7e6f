/- Lemmas of the proofs of this seat, of the parts Reachr, Isor, L9d. Conditions: none. -/
import Derived.Test.YtdedgpgdmnfijaaNbb
import Derived.Test.YtdedgpgdmnfijaaNbd
import Derived.Test.YtdedgpgdmnfijaaNbc
import Derived.Deep.RegionHeld3
section
/- The reference: has, index, Reach. -/
namespace Go.Proofs.Ytdedgpgdmnfijaa
open Go.RowKit

theorem mem_take_succ {xs : List Int} {j : Nat} {v : Int} (h : ∀ m, m < j → xs.getD m 0 ≠ v) (h2 : xs.getD j 0 ≠ v) : ∀ m, m < j + 1 → xs.getD m 0 ≠ v := fun m hm => by
  by_cases e : m = j
  · subst e; exact h2
  · exact h m (by omega)

set_option maxRecDepth 100000 in
theorem rhas (A : Option Addr) (n c : Nat) (xs : List Int) (v : Int) (b : Bool) (w : World) (hx : Ints w A n xs) (hb : b = decide (v ∈ xs)) :
    Calls Try.prog 55 #[.slice A n c, .int .i64 v] w fun e w' => e = .returned (.bool b) ∧ ∃ q, w' = w.drewN q := by
  have L := Lib.hid hx.1
  have hn := hx.2.1
  have HB := Lib.hid hb
  clear hb
  go_enter Try.func55, Try.ntmps55
  go_wp2
  go_loop [5] (fun jv => ∃ j : Nat, j ≤ n ∧ jv = .int .i64 j ∧ ∀ m, m < j → xs.getD m 0 ≠ v) (fun jv => n - (intOf jv).toNat)
  case atStart => exact ⟨0, Nat.zero_le _, rfl, fun m h => absurd h (by omega)⟩
  case round =>
    obtain ⟨j, hj, rfl, hall⟩ := hrel
    have HA := Lib.hid hall
    clear hall
    by_cases hlt : j < n
    · obtain ⟨g, o, rfl, _, hcell⟩ := hx.at_ (k := j) hlt
      by_cases he : xs.getD j 0 = v
      · have hfin := Lib.hid (HB.out.trans (decide_eq_true (show v ∈ xs by rw [← he, List.getD_eq_getElem?_getD, List.getElem?_eq_getElem (by rw [L.out]; exact hlt)]; exact List.getElem_mem _)))
        rw [he] at hcell
        clear he
        go_wp2
        go_ret
        exact ⟨ret_bool hfin.out.symm, 0, rfl⟩
      · have hnx := Lib.hid (mem_take_succ HA.out he)
        have hd : (xs.getD j 0 == v) = false := beq_false_of_ne he
        generalize xs.getD j 0 = x at hcell hd
        clear he
        go_wp2
        go_round
        case rel => exact ⟨j + 1, by omega, by go_num, hnx.out⟩
        case measure => simp [intOf]; omega
    · obtain rfl : j = n := by omega
      have hfin := Lib.hid (HB.out.trans (decide_eq_false (fun hm => by
        obtain ⟨m, hm, e⟩ := List.getElem_of_mem hm
        exact HA.out m (by rw [← L.out]; exact hm) (by rw [List.getD_eq_getElem?_getD, List.getElem?_eq_getElem hm]; exact e))))
      go_wp2
      go_ret
      exact ⟨ret_bool hfin.out.symm, 0, rfl⟩

theorem rreach_bad (i st : Int) (A B : Option Addr) (n c m d : Nat) (nx ot : List (List Int)) (w : World) (hx : Lists w A n nx) (ho : Lists w B m ot) (hv : ¬ vld i st nx ot = 0) :
    Calls Try.prog 36 #[.agg #[.int .i64 i, .int .i64 st, .slice A n c, .slice B m d]] w fun e w' => e = .returned (.slice none 0 0) ∧ Below w.heap.size w w' := by
  have hb0 := alloc_below w (.cells #[.int .i64 i, .int .i64 st, .slice A n c, .slice B m d] 24)
  have hne : (vld i st nx ot != 0) = true := by simpa using hv
  go_enter Try.func36, Try.ntmps36
  go_wp2_with fail
  refine (rvalid _ _ _ _ _ _ _ _ _ _ _ (hx.below hb0) (ho.below hb0)).mono ?_
  rintro e w1 ⟨rfl, b1⟩
  have hbb := bt hb0 b1
  generalize vld i st nx ot = V at hne
  clear hb0 b1
  go_wp2
  go_ret
  exact ⟨rfl, hbb⟩

set_option maxHeartbeats 4000000 in
set_option maxRecDepth 100000 in
theorem rreach_ok (i st n : Nat) (A B : Option Addr) (c d : Nat) (nx ot : List (List Int)) (w : World) (hx : Lists w A n nx) (ho : Lists w B n ot) (hM : Mok i st n nx ot) :
    Calls Try.prog 36 #[.agg #[.int .i64 i, .int .i64 st, .slice A n c, .slice B n d]] w fun e w' => ∃ A' c', e = .returned (.slice A' (rch nx i st).length c') ∧ Owned w' w.heap.size (.slice A' (rch nx i st).length c') (zs (rch nx i st)) ∧ Below w.heap.size w w' := by
  have HV := Lib.hid hM.vld
  have hn := hx.2.1
  have hst := hM.st
  have hn128 := hM.n2
  have hb0 := alloc_below w (.cells #[.int .i64 i, .int .i64 st, .slice A n c, .slice B n d] 24)
  have HZ := Lib.hid (show (w.alloc (.cells #[.int .i64 i, .int .i64 st, .slice A n c, .slice B n d] 24)).heap.size = w.heap.size + 1 by simp)
  obtain ⟨R, hR⟩ : ∃ R, R = rch nx i st := ⟨_, rfl⟩
  have HR := Lib.hid (hR.trans (show rch nx i st = bfs nx i n [st] 0 by unfold rch; rw [hM.nxl]))
  rw [← hR]
  clear hR
  go_enter Try.func36, Try.ntmps36
  go_wp2_with fail
  refine (rvalid _ _ _ _ _ _ _ _ _ _ _ (hx.below hb0) (ho.below hb0)).mono ?_
  rintro e w1 ⟨rfl, b1⟩
  rw [HZ.out] at b1
  rw [HV.out]
  obtain ⟨k0, k1, k2, k3⟩ := box4 b1
  have hl0 : Owned (w1.alloc (.cells #[.int .i64 st] 3)) (w.heap.size + 1) (.slice (some ⟨w1.heap.size, 0, none⟩) 1 1) (zs [st]) := Owned.literal w1 _ [(st : Int)] _ 1 (by have := b1.size; simpa using this) rfl rfl (by simp)
  have hz2 : w.heap.size + 1 ≤ w1.heap.size := by have := b1.size; simpa using this
  have bw1 := b1.trans ((alloc_below w1 (.cells #[.int .i64 st] 3)).mono hz2)
  have HL0 := Lib.hid hl0
  clear hl0 b1
  go_wp2
  clear k0 k1 k2 k3
  generalize w1.alloc (.cells #[.int .i64 st] 3) = w2 at HL0 bw1 ⊢
  go_loopw [3, 4] (fun v jv wr => ∃ (l : List Nat) (j : Nat) (A' : Option Addr) (c' : Nat), j ≤ l.length ∧ jv = .int .i64 j ∧ v = .slice A' l.length c' ∧ Stt n l ∧ R = bfs nx i n l j ∧ Owned wr (w.heap.size + 1) (.slice A' l.length c') (zs l) ∧ Below (w.heap.size + 1) (w.alloc (.cells #[.int .i64 i, .int .i64 st, .slice A n c, .slice B n d] 24)) wr) (fun _ jv _ => n - (intOf jv).toNat)
  case atStart => exact ⟨[st], 0, _, 1, Nat.zero_le _, rfl, rfl, Stt.one hst, HR.out, HL0.out, bw1⟩
  case round =>
    obtain ⟨l, j, A', c', hj, rfl, rfl, hS, hB, hown, hbr⟩ := hrel
    have HB := Lib.hid hB
    clear hB
    have hll := hS.len
    by_cases hlt : j < l.length
    · have hjn : j < n := by omega
      have hs : l.getD j 0 < n := hS.2 _ (getD_mem hlt)
      have HNX := Lib.hid (bfs_on hM hS hlt)
      have HAT := Lib.hid (fun a => addR_at (nx := nx) (s := l.getD j 0) hlt a)
      generalize l.getD j 0 = s at hs HNX HAT
      obtain ⟨g1, p1, A1, n1, c1, rfl, hg1, hd1, hr1⟩ := hx.at_ hs
      have hi1 := (hM.row s hs).1
      have hl1 := hr1.1
      obtain rfl : n1 = i := by omega
      have hi64 := hM.i2
      clear hl1 hi1
      have HOW := Lib.hid hown
      have HBR := Lib.hid hbr
      clear hown hbr
      go_wp2
      obtain ⟨wo, rfl⟩ : ∃ wo : World, wo = wr := ⟨_, rfl⟩
      go_loopw [3, 5] (fun v av wq => ∃ (a : Nat) (A2 : Option Addr) (c2 : Nat), a ≤ n1 ∧ av = .int .i64 a ∧ v = .slice A2 (addR nx s l a).length c2 ∧ Owned wq (w.heap.size + 1) (.slice A2 (addR nx s l a).length c2) (zs (addR nx s l a)) ∧ Below (w.heap.size + 1) (w.alloc (.cells #[.int .i64 n1, .int .i64 st, .slice (some ⟨g1, p1, none⟩) n c, .slice B n d] 24)) wq) (fun _ av _ => n1 - (intOf av).toNat)
      case atStart => exact ⟨0, _, _, Nat.zero_le _, rfl, rfl, HOW.out, HBR.out⟩
      case round =>
        obtain ⟨a, A2, c2, ha, rfl, rfl, hown, hbr⟩ := hrel
        have hSa := addR_stt hM hS hs a ha
        have hbw := hb0.trans (hbr.mono (Nat.le_succ _))
        have hal := addR_len (nx := nx) (s := s) (l := l) a
        obtain ⟨k0, k1, k2, k3⟩ := box4 hbr
        have hj2 := HAT.out a
        by_cases hla : a < n1
        · obtain ⟨g3, p3, rfl, hg3, hy1⟩ := hr1.at_ hla
          rw [hM.nN_eq hs hla] at hy1
          have ht := hM.nN_lt hs hla
          have hIn := Lib.hid (fun h => addR_in (nx := nx) (s := s) (a := a) (l := l) h)
          have hOut := Lib.hid (fun h => addR_out (nx := nx) (s := s) (a := a) (l := l) h)
          generalize nN nx s a = t at hy1 ht hIn hOut
          have e1 := (hbw.cell (p := ⟨g1, p1 + s, none⟩) hg1).trans hd1
          have e3 := (hbw.cell (p := ⟨g3, p3 + a, none⟩) hg3).trans hy1
          clear hy1
          generalize addR nx s l a = l' at hown hSa hIn hOut hal hj2
          have hll' := hSa.len
          have hint := hown.ints (by rw [zs_len]; omega)
          have hjl : j < l'.length := by omega
          have hjl2 : (j : Int) < (l'.length : Int) := by omega
          obtain ⟨b4, o4, rfl, hb4, hc4⟩ := hint.at_ (k := j) (by omega)
          rw [zs_at, hj2] at hc4
          have HOW := Lib.hid hown
          have HBR := Lib.hid hbr
          clear hown
          by_cases hm : t ∈ l'
          · have hnx := Lib.hid (hIn.out hm)
            have HH := Lib.hid (show true = decide ((t : Int) ∈ zs l') from (decide_eq_true (mem_zs.2 hm)).symm)
            clear hIn hOut hm hbr
            go_wp2
            go_quiet ((go_at_call 55; exact Calls.quiet_of (rhas _ _ _ _ _ _ _ hint HH.out)))
            go_wp2
            go_roundw
            case rel => exact ⟨a + 1, _, c2, by omega, by go_num, by rw [hnx.out], by rw [hnx.out]; exact HOW.out, below_drewN HBR.out _⟩
            case measure => simp [intOf]; omega
          · have hnx := Lib.hid (hOut.out hm)
            have HH := Lib.hid (show false = decide ((t : Int) ∈ zs l') from (decide_eq_false (fun h => hm (mem_zs.1 h))).symm)
            have hsz : w.heap.size + 1 ≤ wr.heap.size := by have := hbr.size; simpa using this
            obtain ⟨F, hF⟩ := app_all HOW.out (t : Int) hsz (by rw [zs_len]; omega)
            have hz : zs l' ++ [(t : Int)] = zs (l' ++ [t]) := by rw [zs_append, zs_one]
            rw [hz] at hF
            have HF := Lib.hid hF
            have HL := Lib.hid (show (l' ++ [t]).length = l'.length + 1 by simp)
            clear hIn hOut hm hbr hF hz
            go_wp2
            go_quiet ((go_at_call 55; exact Calls.quiet_of (rhas _ _ _ _ _ _ _ hint HH.out)))
            go_wp2
            go_region_law (refine step_append_run rfl _ _ _ _ rfl _ _ rfl rfl _ _ (HF.out _).1 ?_)
            all_goals
              go_wp2
              go_roundw
              case rel => exact ⟨a + 1, _, _, by omega, by go_num, by rw [hnx.out, HL.out], by rw [hnx.out, HL.out]; exact (HF.out _).2.1, HBR.out.trans (HF.out _).2.2⟩
              case measure => simp [intOf]; omega
        · obtain rfl : a = n1 := by omega
          have HX := Lib.hid (HB.out.trans HNX.out.symm)
          generalize addR nx s l a = l' at hown hSa hal hj2 HX
          have HOW := Lib.hid hown
          clear hown hj2
          go_wp2
          go_roundw
          case rel => exact ⟨l', j + 1, A2, c2, by omega, by go_num, rfl, hSa, HX.out, HOW.out, hbr⟩
          case measure => simp [intOf]; omega
    · have hfin := Lib.hid (HB.out.trans (bfs_end nx i n hlt))
      have HOW := Lib.hid hown
      have hbw := hb0.trans (hbr.mono (Nat.le_succ _))
      clear hown
      go_wp2
      go_ret
      exact ⟨A', c', by rw [hfin.out]; rfl, by rw [hfin.out]; exact Owned.lower HOW.out (Nat.le_succ _), hbw⟩
end Go.Proofs.Ytdedgpgdmnfijaa
end

section
/- The reference: Iso. -/
namespace Go.Proofs.Ytdedgpgdmnfijaa
open Go.RowKit

set_option maxHeartbeats 8000000 in
set_option maxRecDepth 100000 in
theorem riso (i1 st1 i2 st2 : Int) (A B C D : Option Addr) (n c m d n2 c2 m2 d2 : Nat) (nx1 ot1 nx2 ot2 : List (List Int)) (w : World) (hx1 : Lists w A n nx1) (ho1 : Lists w B m ot1) (hx2 : Lists w C n2 nx2) (ho2 : Lists w D m2 ot2) :
    Calls Try.prog 28 #[.agg #[.int .i64 i1, .int .i64 st1, .slice A n c, .slice B m d], .agg #[.int .i64 i2, .int .i64 st2, .slice C n2 c2, .slice D m2 d2]] w fun e w' => ∃ A' c', e = .returned (.tuple #[.slice A' ((ires i1 st1 nx1 ot1 i2 st2 nx2 ot2).1.getD []).length c', .bool (ires i1 st1 nx1 ot1 i2 st2 nx2 ot2).1.isSome, .int .i64 (ires i1 st1 nx1 ot1 i2 st2 nx2 ot2).2]) ∧
      Owned w' w.heap.size (.slice A' ((ires i1 st1 nx1 ot1 i2 st2 nx2 ot2).1.getD []).length c') ((ires i1 st1 nx1 ot1 i2 st2 nx2 ot2).1.getD []) ∧ Below w.heap.size w w' := by
  obtain ⟨hb0, hB1, hB2⟩ := pair_boxes w i1 st1 i2 st2 A B C D n c m d n2 c2 m2 d2
  obtain ⟨w0, hw0⟩ : ∃ w0, w0 = (w.alloc (.cells #[.int .i64 i1, .int .i64 st1, .slice A n c, .slice B m d] 24)).alloc (.cells #[.int .i64 i2, .int .i64 st2, .slice C n2 c2, .slice D m2 d2] 24) := ⟨_, rfl⟩
  rw [← hw0] at hb0 hB1 hB2
  have HW0 := Lib.hid hw0
  have HB1 := Lib.hid hB1
  have HB2 := Lib.hid hB2
  clear hw0 hB1 hB2
  obtain ⟨k0, k1, k2, k3, _⟩ := HB1.out.cells
  obtain ⟨l0, l1, l2, l3, _⟩ := HB2.out.cells
  rw [HW0.out] at k0 k1 k2 k3 l0 l1 l2 l3
  obtain ⟨D0, hD0⟩ : ∃ D0, D0 = ires i1 st1 nx1 ot1 i2 st2 nx2 ot2 := ⟨_, rfl⟩
  rw [← hD0]
  have HD0 := Lib.hid hD0
  clear hD0
  go_enter Try.func28, Try.ntmps28
  go_wp2_with fail
  rw [← HW0.out]
  refine (rchk2 _ _ _ _ _ _ _ _ _ _ _ _ _ _ _ _ _ _ _ _ _ (hx1.below hb0) (ho1.below hb0) (hx2.below hb0) (ho2.below hb0)).mono ?_
  rintro e w1 ⟨rfl, a1⟩
  have hB1 := HB1.out.on9 a1
  have hB2 := HB2.out.on9 a1
  have b1 := bt hb0 a1
  clear hb0 a1 k0 k1 k2 k3 l0 l1 l2 l3
  by_cases h1 : chk2 i1 st1 nx1 ot1 i2 st2 nx2 ot2 = 0
  · have hd : D0 = (if isoC i1.toNat nx1 ot1 st1.toNat nx1.length nx2 ot2 st2.toNat nx2.length then some (isoL (rch nx1 i1.toNat st1.toNat) (rch nx2 i1.toNat st2.toNat) nx1.length) else none, 0) := by rw [HD0.out]; unfold ires; rw [if_pos h1]
    rw [h1]
    obtain ⟨v1, v2, rfl⟩ := chk2_zero h1
    clear HD0 h1
    obtain ⟨i', s', n', rfl, rfl, hM⟩ := vld_zero v1
    obtain ⟨i'', s'', n'', e1, rfl, hN⟩ := vld_zero v2
    obtain rfl : i' = i'' := by omega
    have e1 := hx1.1
    have e2 := ho1.1
    have e3 := hM.nxl
    have e4 := hM.otl
    have e5 := hx2.1
    have e6 := ho2.1
    have e7 := hN.nxl
    have e8 := hN.otl
    obtain rfl : n = n' := by omega
    obtain rfl : n = m := by omega
    obtain rfl : n2 = n'' := by omega
    obtain rfl : n2 = m2 := by omega
    rw [e3, e7] at hd
    simp only [Int.toNat_natCast] at hd
    clear e1 e2 e3 e4 e5 e6 e7 e8 v1 v2
    have HD := Lib.hid hd
    clear hd
    have hn := hx1.2.1
    have hn2 := hM.n2
    have hm2 := hN.n2
    have HX1 := Lib.hid (fun (W : World) (h : Below w1.heap.size w1 W) => (hx1.below b1).below h)
    have HO1 := Lib.hid (fun (W : World) (h : Below w1.heap.size w1 W) => (ho1.below b1).below h)
    have HX2 := Lib.hid (fun (W : World) (h : Below w1.heap.size w1 W) => (hx2.below b1).below h)
    have HO2 := Lib.hid (fun (W : World) (h : Below w1.heap.size w1 W) => (ho2.below b1).below h)
    have HB1 := Lib.hid hB1
    have HB2 := Lib.hid hB2
    have HS := Lib.hid (show ∀ W : World, Below w1.heap.size w1 W → W.cell? ⟨w.heap.size, 0, none⟩ = some (.int .i64 i') ∧ W.cell? ⟨w.heap.size, 1, none⟩ = some (.int .i64 s') ∧ W.cell? ⟨w.heap.size, 2, none⟩ = some (.slice A n c) ∧ W.cell? ⟨w.heap.size, 3, none⟩ = some (.slice B n d) ∧ W.cell? ⟨w.heap.size + 1, 0, none⟩ = some (.int .i64 i') ∧ W.cell? ⟨w.heap.size + 1, 1, none⟩ = some (.int .i64 s'') ∧ W.cell? ⟨w.heap.size + 1, 2, none⟩ = some (.slice C n2 c2) ∧ W.cell? ⟨w.heap.size + 1, 3, none⟩ = some (.slice D n2 d2) from fun W h => by
      obtain ⟨k0, k1, k2, k3, _⟩ := (HB1.out.on9 h).cells
      obtain ⟨l0, l1, l2, l3, _⟩ := (HB2.out.on9 h).cells
      exact ⟨k0, k1, k2, k3, l0, l1, l2, l3⟩)
    have HSZ := Lib.hid b1
    have hbc : Below w1.heap.size w1 w1.drew := (Below.refl _ w1).drew
    clear hB1 hB2 hx1 ho1 hx2 ho2 b1
    go_wp2
    go_region_held3 (fun W => W.cell? ⟨w.heap.size, 0, none⟩ = some (.int .i64 i') ∧ W.cell? ⟨w.heap.size, 1, none⟩ = some (.int .i64 s') ∧ W.cell? ⟨w.heap.size, 2, none⟩ = some (.slice A n c) ∧ W.cell? ⟨w.heap.size, 3, none⟩ = some (.slice B n d) ∧ W.cell? ⟨w.heap.size + 1, 0, none⟩ = some (.int .i64 i') ∧ W.cell? ⟨w.heap.size + 1, 1, none⟩ = some (.int .i64 s'') ∧ W.cell? ⟨w.heap.size + 1, 2, none⟩ = some (.slice C n2 c2) ∧ W.cell? ⟨w.heap.size + 1, 3, none⟩ = some (.slice D n2 d2)) (first | exact HS.out _ hbc) ((go_at_call 36; refine (rreach_ok _ _ _ _ _ _ _ _ _ _ (by first | exact HX1.out _ hbc | exact HX2.out _ hbc) (by first | exact HO1.out _ hbc | exact HO2.out _ hbc) (by first | exact hM | exact hN)).mono ?_; first
      | (have hO9 := hOR1; rintro e w' ⟨AR2, cR2, rfl, hOR2, b'⟩; have hOR1 := hOR1.kept b'; have hOR2 := hOR2.lower (base' := w.heap.size) (Nat.le_trans HSZ.out.size hbc.size); have hbc := bt hbc b'; clear hO9)
      | (rintro e w' ⟨AR1, cR1, rfl, hOR1, b'⟩; have hOR1 := hOR1.lower (base' := w.heap.size) (Nat.le_trans HSZ.out.size hbc.size); have hbc := bt hbc b')))
    obtain ⟨w2, hw2⟩ : ∃ w2, w2 = w' := ⟨_, rfl⟩
    rw [← hw2] at hOR1 hOR2 hbc ⊢
    clear hw2
    have hS1 := hM.rch_stt
    have hS2 := hN.rch_stt
    have hT1 := hM.tr
    have hT2 := hN.tr
    obtain ⟨R1, hR1⟩ : ∃ R1, R1 = rch nx1 i' s' := ⟨_, rfl⟩
    obtain ⟨R2, hR2⟩ : ∃ R2, R2 = rch nx2 i' s'' := ⟨_, rfl⟩
    have HD := Lib.hid (show D0 = (if R1.length = n ∧ R2.length = n2 ∧ trN nx1 i' R1 = trN nx2 i' R2 ∧ trO ot1 R1 = trO ot2 R2 then some (isoL R1 R2 n) else none, 0) by rw [hR1, hR2, HD.out]; rfl)
    rw [← hR1] at hOR1 hS1 hT1
    rw [← hR2] at hOR2 hS2 hT2
    rw [← hR1, ← hR2]
    have HR1 := Lib.hid hR1
    have HR2 := Lib.hid hR2
    clear hR1 hR2
    have HOR1 := Lib.hid hOR1
    have HOR2 := Lib.hid hOR2
    have HBC := Lib.hid hbc
    have HS1 := Lib.hid hS1
    have HS2 := Lib.hid hS2
    obtain ⟨k0, k1, k2, k3, l0, l1, l2, l3⟩ := HS.out _ hbc
    have b2 : Below w.heap.size w w2 := HSZ.out.trans (hbc.mono HSZ.out.size)
    clear hOR1 hOR2 hbc hS1 hS2
    by_cases h1 : R1.length = n
    · by_cases h2 : R2.length = n2
      · by_cases hnn : n = n2
        · subst hnn
          have HL1 := Lib.hid h1
          have HL2 := Lib.hid h2
          have hI1 := Owned.ints HOR1.out (by rw [zs_len]; omega)
          have hI2 := Owned.ints HOR2.out (by rw [zs_len]; omega)
          rw [h1] at hI1
          rw [h2] at hI2
          have HI1 := Lib.hid hI1
          have HI2 := Lib.hid hI2
          have c1 : ((n : Int) != (n : Int)) = false := by simp
          rw [h1, h2]
          obtain ⟨gt, hgt⟩ : ∃ gt, gt = w2.heap.size := ⟨_, rfl⟩
          have HGT := Lib.hid hgt
          have hgt2 : w.heap.size ≤ gt := by have := b2.size; omega
          have hgt3 : w1.heap.size ≤ gt := by have := HBC.out.size; omega
          clear hI1 hI2 hgt h1 h2 l0 l1 l3 k0 k1 k3
          go_wp2_with (refine wpList_make_ints _ rfl _ _ rfl .i64 .i64 n rfl rfl hn ?_; intro w8 ho8 b8)
          rw [← HGT.out] at ho8 b8
          try rw [← HGT.out]
          have HO8 := Lib.hid ho8
          have HB8 := Lib.hid b8
          clear ho8 b8 c1 l2 k2
          go_wp2
          go_loopw [11] (fun v wr => ∃ k : Nat, k ≤ n ∧ v = .int .i64 k ∧ Owned wr gt (.slice (some ⟨gt, 0, none⟩) n n) (asgL R1 R2 n k) ∧ Below gt w2 wr) (fun v _ => n - (intOf v).toNat)
          case atStart => exact ⟨0, Nat.zero_le _, rfl, by rw [asgL_zero]; exact HO8.out, HB8.out⟩
          case round =>
            obtain ⟨k, hk, rfl, hOw, hbr⟩ := hrel
            by_cases hkl : k < n
            · have HKL := Lib.hid hkl
              have hset := asgL_set (R1 := R1) (R2 := R2) (n := n) (k := k) HS1.out.1 (by rw [HL1.out]; exact hkl)
              have ht : R1.getD k 0 < n := HS1.out.2 _ (getD_mem0 (by rw [HL1.out]; exact hkl))
              obtain ⟨gA, oA, eA, lA, vA⟩ := HI1.out.at_ hkl
              obtain ⟨gB, oB, eB, lB, vB⟩ := HI2.out.at_ hkl
              subst eA eB
              rw [zs_at] at vA
              rw [zs_at] at vB
              have vA := (hbr.cell (p := ⟨gA, oA + k, none⟩) (by rw [HGT.out]; exact lA)).trans vA
              have vB := (hbr.cell (p := ⟨gB, oB + k, none⟩) (by rw [HGT.out]; exact lB)).trans vB
              generalize R1.getD k 0 = t at hset ht vA
              generalize R2.getD k 0 = u at hset vB
              obtain ⟨bq, oq, eq, _, hcq⟩ := (hOw.ints (by rw [asgL_len]; omega)).at_ ht
              cases eq
              obtain ⟨gq, eg, _, _, hfz⟩ := hOw.head (by omega)
              cases eg
              have hf := hfz t
              rw [Nat.zero_add] at hcq
              have hs1 := hOw.stored t (u : Int)
              rw [hset] at hs1
              have HSS := Lib.hid (And.intro hs1 (hbr.setCell (p := ⟨gt, t, none⟩) (Nat.le_refl _) (.int .i64 u)))
              clear hset hOw hbr hs1 hfz lA lB
              go_wp2
              go_region
              go_wp2
              go_roundw
              case rel => exact ⟨k + 1, HKL.out, by go_num, HSS.out.1.kept (below_drewN (Below.refl _ _) 1), below_drewN HSS.out.2 1⟩
              case measure => have := HKL.out; simp [intOf]; omega
            · obtain rfl : k = n := by omega
              have hend := asgL_end (R1 := R1) (R2 := R2) (n := k) (fun s hs => HS1.out.all HL1.out s hs)
              rw [HL1.out] at hend
              rw [hend] at hOw
              have HOW := Lib.hid (hOw.lower (base' := w.heap.size) hgt2)
              have HIW := Lib.hid (hOw.ints (by rw [isoL_len]; omega))
              have hbc8 : Below w1.heap.size w1 wr := HBC.out.trans (hbr.mono hgt3)
              have hbb : Below w.heap.size w wr := b2.trans (hbr.mono hgt2)
              have hok := iso_iff (R1 := R1) (R2 := R2) hM hN HS1.out HS2.out HL1.out HL2.out
              have HOK := Lib.hid hok
              have HVL := Lib.hid (fun (s : Nat) (hs : s < k) => isoV_lt HS1.out HS2.out HL1.out HL2.out hs)
              have HCC := Lib.hid (HS.out _ hbc8)
              have HXA := Lib.hid (HX1.out _ hbc8)
              have HOA := Lib.hid (HO1.out _ hbc8)
              have HXB := Lib.hid (HX2.out _ hbc8)
              have HOB := Lib.hid (HO2.out _ hbc8)
              clear hOw hend hbr hok hbc8
              go_wp2
              obtain ⟨wo, hwo⟩ : ∃ wo, wo = wr := ⟨_, rfl⟩
              rw [← hwo] at HOW HIW hbb HCC HXA HOA HXB HOB ⊢
              clear hwo
              have hi64 := hM.i2
              go_loopw [12] (fun v wq => ∃ s : Nat, s ≤ k ∧ v = .int .i64 s ∧ (∀ s', s' < s → ∀ x, x < i' → oN ot1 s' x = oN ot2 (isoV R1 R2 s') x ∧ isoV R1 R2 (nN nx1 s' x) = nN nx2 (isoV R1 R2 s') x) ∧ ∃ q, wq = wo.drewN q) (fun v _ => k - (intOf v).toNat)
              case atStart => exact ⟨0, Nat.zero_le _, rfl, fun s' h => absurd h (by omega), 0, rfl⟩
              case round =>
                obtain ⟨s, hs, rfl, hall, q, rfl⟩ := hrel
                have HALL := Lib.hid hall
                clear hall
                by_cases hsl : s < k
                · have HSL := Lib.hid hsl
                  go_wp2
                  go_loopw [13] (fun v wq => ∃ x : Nat, x ≤ i' ∧ v = .int .i64 x ∧ (∀ x', x' < x → oN ot1 s x' = oN ot2 (isoV R1 R2 s) x' ∧ isoV R1 R2 (nN nx1 s x') = nN nx2 (isoV R1 R2 s) x') ∧ ∃ q, wq = wo.drewN q) (fun v _ => i' - (intOf v).toNat)
                  case atStart => exact ⟨0, Nat.zero_le _, rfl, fun x' h => absurd h (by omega), q, rfl⟩
                  case round =>
                    obtain ⟨x, hx, rfl, hxs, q2, rfl⟩ := hrel
                    have HXS := Lib.hid hxs
                    clear hxs
                    obtain ⟨k0, k1, k2, k3, l0, l1, l2, l3⟩ := HCC.out
                    by_cases hxl : x < i'
                    · have HXL := Lib.hid hxl
                      have hv := HVL.out s hsl
                      have ht := hM.nN_lt hsl hxl
                      obtain ⟨g1, o1, e1, m1, v1⟩ := HIW.out.at_ hsl
                      cases e1
                      obtain ⟨g2, o2, e2, m2, v2⟩ := HIW.out.at_ ht
                      cases e2
                      rw [isoL_at hsl, Nat.zero_add] at v1
                      rw [isoL_at ht, Nat.zero_add] at v2
                      obtain ⟨gB, oB, B1, nB, cB, eB, hgB, hdB, hrB⟩ := HOA.out.at_ hsl
                      obtain ⟨gD, oD, D1, nD, cD, eD, hgD, hdD, hrD⟩ := HOB.out.at_ hv
                      obtain ⟨gA, oA, A1, nA, cA, eA, hgA, hdA, hrA⟩ := HXA.out.at_ hsl
                      obtain ⟨gC, oC, C1, nC, cC, eC, hgC, hdC, hrC⟩ := HXB.out.at_ hv
                      have m1 := hrA.1
                      have m2 := hrB.1
                      have m3 := hrC.1
                      have m4 := hrD.1
                      have w1 := (hM.row s hsl).1
                      have w2 := (hM.row s hsl).2.1
                      have w3' := (hN.row _ hv).1
                      have w4 := (hN.row _ hv).2.1
                      obtain rfl : i' = nA := by omega
                      obtain rfl : i' = nB := by omega
                      obtain rfl : i' = nC := by omega
                      obtain rfl : i' = nD := by omega
                      clear m1 m2 m3 m4 w1 w2 w3' w4
                      obtain ⟨hB1, iB1, eB1, lB, vB⟩ := hrB.at_ hxl
                      obtain ⟨hD1, iD1, eD1, lD, vD⟩ := hrD.at_ hxl
                      obtain ⟨hA1, iA1, eA1, lA, vA⟩ := hrA.at_ hxl
                      obtain ⟨hC1, iC1, eC1, lC, vC⟩ := hrC.at_ hxl
                      clear hrA hrB hrC hrD
                      subst eA eB eC eD eA1 eB1 eC1 eD1
                      have rB : (ot1.getD s []).getD x 0 = oN ot1 s x := rfl
                      have rD : (ot2.getD (isoV R1 R2 s) []).getD x 0 = oN ot2 (isoV R1 R2 s) x := rfl
                      have rA : (nx1.getD s []).getD x 0 = ((nN nx1 s x : Nat) : Int) := hM.nN_eq hsl hxl
                      have rC : (nx2.getD (isoV R1 R2 s) []).getD x 0 = ((nN nx2 (isoV R1 R2 s) x : Nat) : Int) := hN.nN_eq hv hxl
                      rw [rB] at vB
                      rw [rD] at vD
                      rw [rA] at vA
                      rw [rC] at vC
                      clear rA rB rC rD hgA hgB hgC hgD lA lB lC lD k1 l0 l1
                      by_cases hd : oN ot1 s x = oN ot2 (isoV R1 R2 s) x
                      · have hc1 : (oN ot1 s x != oN ot2 (isoV R1 R2 s) x) = false := by simpa using hd
                        by_cases hd2 : isoV R1 R2 (nN nx1 s x) = nN nx2 (isoV R1 R2 s) x
                        · have hc2 : (((isoV R1 R2 (nN nx1 s x) : Nat) : Int) != ((nN nx2 (isoV R1 R2 s) x : Nat) : Int)) = false := by rw [hd2]; simp
                          have HNX := Lib.hid (show ∀ x', x' < x + 1 → oN ot1 s x' = oN ot2 (isoV R1 R2 s) x' ∧ isoV R1 R2 (nN nx1 s x') = nN nx2 (isoV R1 R2 s) x' from fun x' h => by
                            by_cases e : x' = x
                            · subst e; exact ⟨hd, hd2⟩
                            · exact HXS.out x' (by omega))
                          generalize oN ot1 s x = y1 at vB hc1
                          generalize oN ot2 (isoV R1 R2 s) x = y2 at vD hc1
                          generalize isoV R1 R2 (nN nx1 s x) = z1 at v2 hc2
                          generalize nN nx2 (isoV R1 R2 s) x = z2 at vC hc2
                          generalize nN nx1 s x = t at vA v2 ht
                          obtain ⟨v, hv0⟩ : ∃ v, v = isoV R1 R2 s := ⟨_, rfl⟩
                          rw [← hv0] at v1 hdC hdD hv
                          clear hd hd2 hv0
                          go_wp2
                          go_quiet (fail)
                          go_wp2
                          go_roundw
                          case rel => exact ⟨x + 1, HXL.out, by go_num, HNX.out, _, rfl⟩
                          case measure => have := HXL.out; simp [intOf]; omega
                        · have hc2 : (((isoV R1 R2 (nN nx1 s x) : Nat) : Int) != ((nN nx2 (isoV R1 R2 s) x : Nat) : Int)) = true := by rw [bne_iff_ne]; omega
                          have hDD := HD.out
                          rw [if_neg (fun H => hd2 ((HOK.out.1 H.2.2) s hsl x hxl).2)] at hDD
                          have HD := Lib.hid hDD
                          generalize oN ot1 s x = y1 at vB hc1
                          generalize oN ot2 (isoV R1 R2 s) x = y2 at vD hc1
                          generalize isoV R1 R2 (nN nx1 s x) = z1 at v2 hc2
                          generalize nN nx2 (isoV R1 R2 s) x = z2 at vC hc2
                          generalize nN nx1 s x = t at vA v2 ht
                          generalize isoV R1 R2 s = v at v1 hdC hdD hv
                          clear hd hd2 hDD
                          go_wp2
                          go_quiet (fail)
                          go_wp2
                          go_ret3
                          rw [HD.out]
                          exact ⟨none, 0, rfl, World.ownsRow_nil _ _ _ _, below_drewN (below_drewN hbb _) _⟩
                      · have hc1 : (oN ot1 s x != oN ot2 (isoV R1 R2 s) x) = true := by simpa using hd
                        have hDD := HD.out
                        rw [if_neg (fun H => hd ((HOK.out.1 H.2.2) s hsl x hxl).1)] at hDD
                        have HD := Lib.hid hDD
                        generalize oN ot1 s x = y1 at vB hc1
                        generalize oN ot2 (isoV R1 R2 s) x = y2 at vD hc1
                        generalize isoV R1 R2 s = v at v1 hdD hv
                        clear hd hDD vA v2 hdA hdC vC k2 l2
                        go_wp2
                        go_quiet (fail)
                        go_wp2
                        go_ret3
                        rw [HD.out]
                        exact ⟨none, 0, rfl, World.ownsRow_nil _ _ _ _, below_drewN (below_drewN hbb _) _⟩
                    · have HNX := Lib.hid (show ∀ s', s' < s + 1 → ∀ x, x < i' → oN ot1 s' x = oN ot2 (isoV R1 R2 s') x ∧ isoV R1 R2 (nN nx1 s' x) = nN nx2 (isoV R1 R2 s') x from fun s' h x' hx' => by
                        by_cases e : s' = s
                        · subst e; exact HXS.out x' (by omega)
                        · exact HALL.out s' (by omega) x' hx')
                      go_wp2
                      go_roundw
                      case rel => exact ⟨s + 1, HSL.out, by go_num, HNX.out, _, rfl⟩
                      case measure => have := HSL.out; simp [intOf]; omega
                · obtain rfl : s = k := by omega
                  have hDD := HD.out
                  rw [if_pos ⟨HL1.out, HL2.out, HOK.out.2 HALL.out⟩] at hDD
                  have HDN := Lib.hid hDD
                  clear hDD
                  go_wp2
                  go_ret3
                  rw [HDN.out]
                  exact ⟨some ⟨gt, 0, none⟩, s, by rw [show ((some (isoL R1 R2 s), (0 : Int)).1.getD []).length = s from isoL_len _ _ _]; rfl, by rw [show ((some (isoL R1 R2 s), (0 : Int)).1.getD []).length = s from isoL_len _ _ _]; exact HOW.out.kept (below_drewN (Below.refl _ wo) q), below_drewN hbb q⟩
        · have hDD := HD.out
          rw [if_neg (fun H => hnn (by have := iso_lens H.2.2.1; omega))] at hDD
          have HDN := Lib.hid hDD
          have c1 : ((R1.length : Int) != (n : Int)) = false := by rw [h1]; simp
          have c2' : ((R2.length : Int) != (n2 : Int)) = false := by rw [h2]; simp
          have c3 : ((R1.length : Int) != (R2.length : Int)) = true := by rw [bne_iff_ne]; omega
          generalize R1.length = L1 at c1 c3 ⊢
          generalize R2.length = L2 at c2' c3 ⊢
          clear h1 h2 hDD hnn
          go_wp2
          go_ret3
          rw [HDN.out]
          exact ⟨none, 0, rfl, World.ownsRow_nil _ _ _ _, b2⟩
      · have hDD := HD.out
        rw [if_neg (fun H => h2 H.2.1)] at hDD
        have HD := Lib.hid hDD
        have c1 : ((R1.length : Int) != (n : Int)) = false := by rw [h1]; simp
        have c2' : ((R2.length : Int) != (n2 : Int)) = true := by rw [bne_iff_ne]; omega
        clear h1 h2 hDD
        go_wp2
        go_ret3
        rw [HD.out]
        exact ⟨none, 0, rfl, World.ownsRow_nil _ _ _ _, b2⟩
    · have hDD := HD.out
      rw [if_neg (fun H => h1 H.1)] at hDD
      have HD := Lib.hid hDD
      have c1 : ((R1.length : Int) != (n : Int)) = true := by rw [bne_iff_ne]; omega
      clear h1 hDD
      go_wp2
      go_ret3
      rw [HD.out]
      exact ⟨none, 0, rfl, World.ownsRow_nil _ _ _ _, b2⟩
  · have hd : D0 = (none, chk2 i1 st1 nx1 ot1 i2 st2 nx2 ot2) := by rw [HD0.out]; unfold ires; rw [if_neg h1]
    have hne : (chk2 i1 st1 nx1 ot1 i2 st2 nx2 ot2 != 0) = true := by simpa using h1
    have HD := Lib.hid hd
    clear hd HD0
    generalize chk2 i1 st1 nx1 ot1 i2 st2 nx2 ot2 = E at hne HD ⊢
    clear h1
    go_wp2
    go_ret3
    rw [HD.out]
    exact ⟨none, 0, rfl, World.ownsRow_nil _ _ _ _, b1⟩
end Go.Proofs.Ytdedgpgdmnfijaa
end

section
/- The law EquivIsos: the walk. -/
namespace Go.Proofs.Ytdedgpgdmnfijaa
open Go.RowKit

set_option maxHeartbeats 8000000 in
set_option maxRecDepth 100000 in
theorem isos9_walk (i1 st1 i2 st2 : Int) (A B C D : Option Addr) (n c m d n2 c2 m2 d2 : Nat) (nx1 ot1 nx2 ot2 : List (List Int)) (k : Int) (w : World) (hx1 : Lists w A n nx1) (ho1 : Lists w B m ot1) (hx2 : Lists w C n2 nx2) (ho2 : Lists w D m2 ot2) :
    Calls Try.prog 6 #[.agg #[.int .i64 i1, .int .i64 st1, .slice A n c, .slice B m d], .agg #[.int .i64 i2, .int .i64 st2, .slice C n2 c2, .slice D m2 d2], .int .i64 k] w fun e w' => e = .returned (.bool true) ∧ Below w.heap.size w w' := by
  obtain ⟨hb0, hB1, hB2⟩ := pair_boxes w i1 st1 i2 st2 A B C D n c m d n2 c2 m2 d2
  obtain ⟨w0, hw0⟩ : ∃ w0, w0 = (w.alloc (.cells #[.int .i64 i1, .int .i64 st1, .slice A n c, .slice B m d] 24)).alloc (.cells #[.int .i64 i2, .int .i64 st2, .slice C n2 c2, .slice D m2 d2] 24) := ⟨_, rfl⟩
  rw [← hw0] at hb0 hB1 hB2
  have HW0 := Lib.hid hw0
  have HX1 := Lib.hid (fun (W : World) (h : Below w0.heap.size w0 W) => (hx1.below hb0).below h)
  have HO1 := Lib.hid (fun (W : World) (h : Below w0.heap.size w0 W) => (ho1.below hb0).below h)
  have HX2 := Lib.hid (fun (W : World) (h : Below w0.heap.size w0 W) => (hx2.below hb0).below h)
  have HO2 := Lib.hid (fun (W : World) (h : Below w0.heap.size w0 W) => (ho2.below hb0).below h)
  have HB1 := Lib.hid (fun (W : World) (h : Below w0.heap.size w0 W) => hB1.on9 h)
  have HB2 := Lib.hid (fun (W : World) (h : Below w0.heap.size w0 W) => hB2.on9 h)
  have hbc := Below.refl w0.heap.size w0
  obtain ⟨k0, k1, k2, k3, _⟩ := hB1.cells
  rw [HW0.out] at k0 k1 k2 k3
  clear hw0 hB1 hB2 hx1 ho1 hx2 ho2
  go_enter Try.func6, Try.ntmps6
  go_wp2_with fail
  rw [← HW0.out]
  refine (rgreat8 _ _ _ _ _ _ _ _ _ _ _ (HX1.out _ hbc) (HO1.out _ hbc)).mono ?_
  rintro e w1 ⟨g1, rfl, a1⟩
  have hbc := bt hbc a1
  clear k0 k1 k2 k3 a1
  cases g1
  · obtain ⟨l0, l1, l2, l3, _⟩ := (HB2.out _ hbc).cells
    go_wp2_with fail
    refine (rgreat8 _ _ _ _ _ _ _ _ _ _ _ (HX2.out _ hbc) (HO2.out _ hbc)).mono ?_
    rintro e w2 ⟨g2, rfl, a2⟩
    have hbc := bt hbc a2
    clear l0 l1 l2 l3 a2
    cases g2
    · obtain ⟨k0, k1, k2, k3, _⟩ := (HB1.out _ hbc).cells
      obtain ⟨l0, l1, l2, l3, _⟩ := (HB2.out _ hbc).cells
      obtain ⟨D0, hD0⟩ : ∃ D0, D0 = ires i1 st1 nx1 ot1 i2 st2 nx2 ot2 := ⟨_, rfl⟩
      have HDL := Lib.hid (show (D0.1.getD []).length ≤ 16384 by rw [hD0]; exact ires_len _ _ _ _ _ _ _ _)
      have HD0 := Lib.hid hD0
      clear hD0
      go_wp2_with fail
      refine (piso _ _ _ _ _ _ _ _ _ _ _ _ _ _ _ _ _ _ _ _ _ (HX1.out _ hbc) (HO1.out _ hbc) (HX2.out _ hbc) (HO2.out _ hbc)).mono ?_
      rintro e w3 ⟨A3, c3, rfl, h3, a3⟩
      rw [← HD0.out] at h3 ⊢
      have h3 := Owned.ints h3 (by have := HDL.out; omega)
      have hbc := bt hbc a3
      clear k0 k1 k2 k3 l0 l1 l2 l3 a3
      obtain ⟨k0, k1, k2, k3, _⟩ := (HB1.out _ hbc).cells
      obtain ⟨l0, l1, l2, l3, _⟩ := (HB2.out _ hbc).cells
      go_wp2_with fail
      refine (riso _ _ _ _ _ _ _ _ _ _ _ _ _ _ _ _ _ _ _ _ _ (HX1.out _ hbc) (HO1.out _ hbc) (HX2.out _ hbc) (HO2.out _ hbc)).mono ?_
      rintro e w4 ⟨A4, c4, rfl, h4, a4⟩
      rw [← HD0.out] at h4 ⊢
      have h4 := Owned.ints h4 (by have := HDL.out; omega)
      have h3 := h3.below a4
      have hbc := bt hbc a4
      clear k0 k1 k2 k3 l0 l1 l2 l3 a4
      obtain ⟨k0, k1, k2, k3, _⟩ := (HB1.out _ hbc).cells
      obtain ⟨l0, l1, l2, l3, _⟩ := (HB2.out _ hbc).cells
      go_wp2_with fail
      refine (pupto _ _ _ _ _ _ _ _ _ _ _ _ _ _ _ _ _ _ _ _ _ _ (HX1.out _ hbc) (HO1.out _ hbc) (HX2.out _ hbc) (HO2.out _ hbc)).mono ?_
      rintro e w5 ⟨rfl, a5⟩
      have h3 := h3.below a5
      have h4 := h4.below a5
      have hbc := bt hbc a5
      clear k0 k1 k2 k3 l0 l1 l2 l3 a5
      obtain ⟨k0, k1, k2, k3, _⟩ := (HB1.out _ hbc).cells
      obtain ⟨l0, l1, l2, l3, _⟩ := (HB2.out _ hbc).cells
      go_wp2_with fail
      refine (rupto _ _ _ _ _ _ _ _ _ _ _ _ _ _ _ _ _ _ _ _ _ _ (HX1.out _ hbc) (HO1.out _ hbc) (HX2.out _ hbc) (HO2.out _ hbc)).mono ?_
      rintro e w6 ⟨rfl, a6⟩
      have h3 := h3.below a6
      have h4 := h4.below a6
      have hbc := bt hbc a6
      clear k0 k1 k2 k3 l0 l1 l2 l3 a6
      clear HD0 HDL
      generalize upb (dres i1 st1 nx1 ot1 i2 st2 nx2 ot2) k = q0
      generalize (dres i1 st1 nx1 ot1 i2 st2 nx2 ot2).2 = E2
      obtain ⟨o, E⟩ := D0
      have t1 : (E == E) = true := by simp
      have t2 : (o.isSome == o.isSome) = true := by simp
      have t3 : (q0 == q0) = true := by simp
      have t4 : (E2 == E2) = true := by simp
      go_wp2_with fail
      refine (requal _ _ _ _ _ _ (o.getD []) (o.getD []) true _ h3 h4 (by simp)).mono ?_
      rintro e w7 ⟨rfl, hq⟩
      have hbc := bt hbc (rd_below hq)
      go_wp2_with fail
      refine (awake9 _).mono ?_
      rintro e w9 ⟨rfl, a9⟩
      have hbc := bt hbc a9
      go_wp2
      go_ret
      exact ⟨rfl, bt hb0 hbc⟩
    · go_wp2_with fail
      refine (awake9 _).mono ?_
      rintro e w9 ⟨rfl, a9⟩
      have hbc := bt hbc a9
      go_wp2
      go_ret
      exact ⟨rfl, bt hb0 hbc⟩
  · go_wp2_with fail
    refine (awake9 _).mono ?_
    rintro e w9 ⟨rfl, a9⟩
    have hbc := bt hbc a9
    go_wp2
    go_ret
    exact ⟨rfl, bt hb0 hbc⟩
end Go.Proofs.Ytdedgpgdmnfijaa
end
