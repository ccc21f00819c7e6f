/- The reference: has, index, Reach. -/
import Derived.Test.YtihahljpfekmbaaOutsr
import Derived.Test.YtihahljpfekmbaaReachm
import Derived.Test.YtihahljpfekmbaaTrimp
import Derived.Test.YtihahljpfekmbaaValr
namespace Go.Proofs.Ytihahljpfekmbaa
open Go.RowKit

theorem mem_take_succ {xs : List Int} {j : Nat} {v : Int} (h : ∀ m, m < j → xs.getD m 0 ≠ v) (h2 : xs.getD j 0 ≠ v) : ∀ m, m < j + 1 → xs.getD m 0 ≠ v := fun m hm => by
  by_cases e : m = j
  · subst e; exact h2
  · exact h m (by omega)

set_option maxRecDepth 100000 in
theorem rhas (A : Option Addr) (n c : Nat) (xs : List Int) (v : Int) (b : Bool) (w : World) (hx : Ints w A n xs) (hb : b = decide (v ∈ xs)) :
    Calls Try.prog 87 #[.slice A n c, .int .i64 v] w fun e w' => e = .returned (.bool b) ∧ ∃ q, w' = w.drewN q := by
  have L := Lib.hid hx.1
  have hn := hx.2.1
  have HB := Lib.hid hb
  clear hb
  go_enter Try.func87, Try.ntmps87
  go_wp2
  go_loop [5] (fun jv => ∃ j : Nat, j ≤ n ∧ jv = .int .i64 j ∧ ∀ m, m < j → xs.getD m 0 ≠ v) (fun jv => n - (intOf jv).toNat)
  case atStart => exact ⟨0, Nat.zero_le _, rfl, fun m h => absurd h (by omega)⟩
  case round =>
    obtain ⟨j, hj, rfl, hall⟩ := hrel
    have HA := Lib.hid hall
    clear hall
    by_cases hlt : j < n
    · obtain ⟨g, o, rfl, _, hcell⟩ := hx.at_ (k := j) hlt
      by_cases he : xs.getD j 0 = v
      · have hfin := Lib.hid (HB.out.trans (decide_eq_true (show v ∈ xs by rw [← he, List.getD_eq_getElem?_getD, List.getElem?_eq_getElem (by rw [L.out]; exact hlt)]; exact List.getElem_mem _)))
        rw [he] at hcell
        clear he
        go_wp2
        go_ret
        exact ⟨ret_bool hfin.out.symm, 0, rfl⟩
      · have hnx := Lib.hid (mem_take_succ HA.out he)
        have hd : (xs.getD j 0 == v) = false := beq_false_of_ne he
        generalize xs.getD j 0 = x at hcell hd
        clear he
        go_wp2
        go_round
        case rel => exact ⟨j + 1, by omega, by go_num, hnx.out⟩
        case measure => simp [intOf]; omega
    · obtain rfl : j = n := by omega
      have hfin := Lib.hid (HB.out.trans (decide_eq_false (fun hm => by
        obtain ⟨m, hm, e⟩ := List.getElem_of_mem hm
        exact HA.out m (by rw [← L.out]; exact hm) (by rw [List.getD_eq_getElem?_getD, List.getElem?_eq_getElem hm]; exact e))))
      go_wp2
      go_ret
      exact ⟨ret_bool hfin.out.symm, 0, rfl⟩

set_option maxRecDepth 100000 in
theorem rindex (A : Option Addr) (n c : Nat) (l : List Nat) (x : Nat) (w : World) (hx : Ints w A n (zs l)) (hm : x ∈ l) :
    Calls Try.prog 85 #[.slice A n c, .int .i64 x] w fun e w' => e = .returned (.int .i64 (ixN l x)) ∧ ∃ q, w' = w.drewN q := by
  have hl := hx.1
  rw [zs_len] at hl
  have L := Lib.hid hl
  have hn := hx.2.1
  have hi := ixN_lt hm
  rw [hl] at hi
  have ha := Lib.hid (ixN_at hm)
  have HN := Lib.hid (show ∀ j, j < ixN l x → ¬ l.getD j 0 = x from fun j hj => by
    have h1 : j < l.length := by rw [hl]; omega
    have := List.not_of_lt_findIdx (p := fun y => y == x) (xs := l) hj
    rw [List.getD_eq_getElem?_getD, List.getElem?_eq_getElem h1]
    simpa using this)
  generalize ixN l x = k at hi ha HN
  clear hl hm
  go_enter Try.func85, Try.ntmps85
  go_wp2
  go_loop [5] (fun jv => ∃ j : Nat, j ≤ k ∧ jv = .int .i64 j) (fun jv => n - (intOf jv).toNat)
  case atStart => exact ⟨0, Nat.zero_le _, rfl⟩
  case round =>
    obtain ⟨j, hj, rfl⟩ := hrel
    have hlt : j < n := by omega
    obtain ⟨g, o, rfl, _, hcell⟩ := hx.at_ (k := j) hlt
    rw [zs_at] at hcell
    by_cases he : j = k
    · subst he
      rw [ha.out] at hcell
      go_wp2
      go_ret
      exact ⟨rfl, 0, rfl⟩
    · have hne := HN.out j (by omega)
      generalize l.getD j 0 = y at hcell hne
      have hd : ((y : Int) == (x : Int)) = false := beq_false_of_ne (by omega)
      go_wp2
      go_round
      case rel => exact ⟨j + 1, by omega, by go_num⟩
      case measure => simp [intOf]; omega

theorem rreach_bad (i st : Int) (A B : Option Addr) (n c m d : Nat) (nx ot : List (List Int)) (w : World) (hx : Lists w A n nx) (ho : Lists w B m ot) (hv : ¬ vld i st nx ot = 0) :
    Calls Try.prog 57 #[.agg #[.int .i64 i, .int .i64 st, .slice A n c, .slice B m d]] w fun e w' => e = .returned (.slice none 0 0) ∧ Below w.heap.size w w' := by
  have hb0 := alloc_below w (.cells #[.int .i64 i, .int .i64 st, .slice A n c, .slice B m d] 65)
  have hne : (vld i st nx ot != 0) = true := by simpa using hv
  go_enter Try.func57, Try.ntmps57
  go_wp2_with fail
  refine (rvalid _ _ _ _ _ _ _ _ _ _ _ (hx.below hb0) (ho.below hb0)).mono ?_
  rintro e w1 ⟨rfl, b1⟩
  have hbb := bt hb0 b1
  generalize vld i st nx ot = V at hne
  clear hb0 b1
  go_wp2
  go_ret
  exact ⟨rfl, hbb⟩

set_option maxHeartbeats 4000000 in
set_option maxRecDepth 100000 in
theorem rreach_ok (i st n : Nat) (A B : Option Addr) (c d : Nat) (nx ot : List (List Int)) (w : World) (hx : Lists w A n nx) (ho : Lists w B n ot) (hM : Mok i st n nx ot) :
    Calls Try.prog 57 #[.agg #[.int .i64 i, .int .i64 st, .slice A n c, .slice B n d]] w fun e w' => ∃ A' c', e = .returned (.slice A' (rch nx i st).length c') ∧ Owned w' w.heap.size (.slice A' (rch nx i st).length c') (zs (rch nx i st)) ∧ Below w.heap.size w w' := by
  have HV := Lib.hid hM.vld
  have hn := hx.2.1
  have hst := hM.st
  have hn128 := hM.n2
  have hb0 := alloc_below w (.cells #[.int .i64 i, .int .i64 st, .slice A n c, .slice B n d] 65)
  have HZ := Lib.hid (show (w.alloc (.cells #[.int .i64 i, .int .i64 st, .slice A n c, .slice B n d] 65)).heap.size = w.heap.size + 1 by simp)
  obtain ⟨R, hR⟩ : ∃ R, R = rch nx i st := ⟨_, rfl⟩
  have HR := Lib.hid (hR.trans (show rch nx i st = bfs nx i n [st] 0 by unfold rch; rw [hM.nxl]))
  rw [← hR]
  clear hR
  go_enter Try.func57, Try.ntmps57
  go_wp2_with fail
  refine (rvalid _ _ _ _ _ _ _ _ _ _ _ (hx.below hb0) (ho.below hb0)).mono ?_
  rintro e w1 ⟨rfl, b1⟩
  rw [HZ.out] at b1
  rw [HV.out]
  obtain ⟨k0, k1, k2, k3⟩ := box4 b1
  have hl0 : Owned (w1.alloc (.cells #[.int .i64 st] 3)) (w.heap.size + 1) (.slice (some ⟨w1.heap.size, 0, none⟩) 1 1) (zs [st]) := Owned.literal w1 _ [(st : Int)] _ 1 (by have := b1.size; simpa using this) rfl rfl (by simp)
  have hz2 : w.heap.size + 1 ≤ w1.heap.size := by have := b1.size; simpa using this
  have bw1 := b1.trans ((alloc_below w1 (.cells #[.int .i64 st] 3)).mono hz2)
  have HL0 := Lib.hid hl0
  clear hl0 b1
  go_wp2
  clear k0 k1 k2 k3
  generalize w1.alloc (.cells #[.int .i64 st] 3) = w2 at HL0 bw1 ⊢
  go_loopw [3, 4] (fun v jv wr => ∃ (l : List Nat) (j : Nat) (A' : Option Addr) (c' : Nat), j ≤ l.length ∧ jv = .int .i64 j ∧ v = .slice A' l.length c' ∧ Stt n l ∧ R = bfs nx i n l j ∧ Owned wr (w.heap.size + 1) (.slice A' l.length c') (zs l) ∧ Below (w.heap.size + 1) (w.alloc (.cells #[.int .i64 i, .int .i64 st, .slice A n c, .slice B n d] 65)) wr) (fun _ jv _ => n - (intOf jv).toNat)
  case atStart => exact ⟨[st], 0, _, 1, Nat.zero_le _, rfl, rfl, Stt.one hst, HR.out, HL0.out, bw1⟩
  case round =>
    obtain ⟨l, j, A', c', hj, rfl, rfl, hS, hB, hown, hbr⟩ := hrel
    have HB := Lib.hid hB
    clear hB
    have hll := hS.len
    by_cases hlt : j < l.length
    · have hjn : j < n := by omega
      have hs : l.getD j 0 < n := hS.2 _ (getD_mem hlt)
      have HNX := Lib.hid (bfs_on hM hS hlt)
      have HAT := Lib.hid (fun a => addR_at (nx := nx) (s := l.getD j 0) hlt a)
      generalize l.getD j 0 = s at hs HNX HAT
      obtain ⟨g1, p1, A1, n1, c1, rfl, hg1, hd1, hr1⟩ := hx.at_ hs
      have hi1 := (hM.row s hs).1
      have hl1 := hr1.1
      obtain rfl : n1 = i := by omega
      have hi64 := hM.i2
      clear hl1 hi1
      have HOW := Lib.hid hown
      have HBR := Lib.hid hbr
      clear hown hbr
      go_wp2
      obtain ⟨wo, rfl⟩ : ∃ wo : World, wo = wr := ⟨_, rfl⟩
      go_loopw [3, 5] (fun v av wq => ∃ (a : Nat) (A2 : Option Addr) (c2 : Nat), a ≤ n1 ∧ av = .int .i64 a ∧ v = .slice A2 (addR nx s l a).length c2 ∧ Owned wq (w.heap.size + 1) (.slice A2 (addR nx s l a).length c2) (zs (addR nx s l a)) ∧ Below (w.heap.size + 1) (w.alloc (.cells #[.int .i64 n1, .int .i64 st, .slice (some ⟨g1, p1, none⟩) n c, .slice B n d] 65)) wq) (fun _ av _ => n1 - (intOf av).toNat)
      case atStart => exact ⟨0, _, _, Nat.zero_le _, rfl, rfl, HOW.out, HBR.out⟩
      case round =>
        obtain ⟨a, A2, c2, ha, rfl, rfl, hown, hbr⟩ := hrel
        have hSa := addR_stt hM hS hs a ha
        have hbw := hb0.trans (hbr.mono (Nat.le_succ _))
        have hal := addR_len (nx := nx) (s := s) (l := l) a
        obtain ⟨k0, k1, k2, k3⟩ := box4 hbr
        have hj2 := HAT.out a
        by_cases hla : a < n1
        · obtain ⟨g3, p3, rfl, hg3, hy1⟩ := hr1.at_ hla
          rw [hM.nN_eq hs hla] at hy1
          have ht := hM.nN_lt hs hla
          have hIn := Lib.hid (fun h => addR_in (nx := nx) (s := s) (a := a) (l := l) h)
          have hOut := Lib.hid (fun h => addR_out (nx := nx) (s := s) (a := a) (l := l) h)
          generalize nN nx s a = t at hy1 ht hIn hOut
          have e1 := (hbw.cell (p := ⟨g1, p1 + s, none⟩) hg1).trans hd1
          have e3 := (hbw.cell (p := ⟨g3, p3 + a, none⟩) hg3).trans hy1
          clear hy1
          generalize addR nx s l a = l' at hown hSa hIn hOut hal hj2
          have hll' := hSa.len
          have hint := hown.ints (by rw [zs_len]; omega)
          have hjl : j < l'.length := by omega
          have hjl2 : (j : Int) < (l'.length : Int) := by omega
          obtain ⟨b4, o4, rfl, hb4, hc4⟩ := hint.at_ (k := j) (by omega)
          rw [zs_at, hj2] at hc4
          have HOW := Lib.hid hown
          have HBR := Lib.hid hbr
          clear hown
          by_cases hm : t ∈ l'
          · have hnx := Lib.hid (hIn.out hm)
            have HH := Lib.hid (show true = decide ((t : Int) ∈ zs l') from (decide_eq_true (mem_zs.2 hm)).symm)
            clear hIn hOut hm hbr
            go_wp2
            go_quiet ((go_at_call 87; exact Calls.quiet_of (rhas _ _ _ _ _ _ _ hint HH.out)))
            go_wp2
            go_roundw
            case rel => exact ⟨a + 1, _, c2, by omega, by go_num, by rw [hnx.out], by rw [hnx.out]; exact HOW.out, below_drewN HBR.out _⟩
            case measure => simp [intOf]; omega
          · have hnx := Lib.hid (hOut.out hm)
            have HH := Lib.hid (show false = decide ((t : Int) ∈ zs l') from (decide_eq_false (fun h => hm (mem_zs.1 h))).symm)
            have hsz : w.heap.size + 1 ≤ wr.heap.size := by have := hbr.size; simpa using this
            obtain ⟨F, hF⟩ := app_all HOW.out (t : Int) hsz (by rw [zs_len]; omega)
            have hz : zs l' ++ [(t : Int)] = zs (l' ++ [t]) := by rw [zs_append, zs_one]
            rw [hz] at hF
            have HF := Lib.hid hF
            have HL := Lib.hid (show (l' ++ [t]).length = l'.length + 1 by simp)
            clear hIn hOut hm hbr hF hz
            go_wp2
            go_quiet ((go_at_call 87; exact Calls.quiet_of (rhas _ _ _ _ _ _ _ hint HH.out)))
            go_wp2
            go_region_law (refine step_append_run rfl _ _ _ _ rfl _ _ rfl rfl _ _ (HF.out _).1 ?_)
            all_goals
              go_wp2
              go_roundw
              case rel => exact ⟨a + 1, _, _, by omega, by go_num, by rw [hnx.out, HL.out], by rw [hnx.out, HL.out]; exact (HF.out _).2.1, HBR.out.trans (HF.out _).2.2⟩
              case measure => simp [intOf]; omega
        · obtain rfl : a = n1 := by omega
          have HX := Lib.hid (HB.out.trans HNX.out.symm)
          generalize addR nx s l a = l' at hown hSa hal hj2 HX
          have HOW := Lib.hid hown
          clear hown hj2
          go_wp2
          go_roundw
          case rel => exact ⟨l', j + 1, A2, c2, by omega, by go_num, rfl, hSa, HX.out, HOW.out, hbr⟩
          case measure => simp [intOf]; omega
    · have hfin := Lib.hid (HB.out.trans (bfs_end nx i n hlt))
      have HOW := Lib.hid hown
      have hbw := hb0.trans (hbr.mono (Nat.le_succ _))
      clear hown
      go_wp2
      go_ret
      exact ⟨A', c', by rw [hfin.out]; rfl, by rw [hfin.out]; exact Owned.lower HOW.out (Nat.le_succ _), hbw⟩
end Go.Proofs.Ytihahljpfekmbaa
