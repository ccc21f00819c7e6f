/- RandomFair: the walk. -/
import Derived.Test.YtiongejdedhcjaaParts
import Derived.Test.YtiongejdedhcjaaNums
import Derived.Test.YtiongejdedhcjaaShuf
import Derived.Deep.OwnRows
namespace Go.Proofs.Ytiongejdedhcjaa
open Go.RowKit

theorem pshuffle_n (s m : Nat) (hm : m ≤ 10000) (hs : s < 18446744073709551616) (w : World) :
    Calls Try.prog 17 #[.int .u64 s, .int .i64 m] w fun e w' => ∃ A c, e = .returned (.tuple #[.slice A m c, .int .u64 (shl m s (m - 1)).2, .int .i64 0]) ∧ Ints w' A m (shl m s (m - 1)).1 ∧ Below w.heap.size w w' := by
  refine (pshuffle s m hs w).mono ?_
  rintro e w' ⟨v, rfl, ho, hb⟩
  rw [shuV_ok s m hm] at ho ⊢
  obtain ⟨A, c, e⟩ := ho.form
  rw [show (((shl m s (m - 1)).1, ((shl m s (m - 1)).2 : Int), (0 : Int)).1).length = m from shl_len m s _] at e
  subst e
  exact ⟨A, c, rfl, ho.ints (by show (shl m s (m - 1)).1.length ≤ _; rw [shl_len]; omega), hb⟩

/-- Which numbers stand among the first i. -/
def seenAt (xs : List Int) (i v : Nat) : Bool := decide (∃ m, m < i ∧ xs[m]?.getD 0 = (v : Int))
theorem seenAt_zero (xs : List Int) (v : Nat) : seenAt xs 0 v = false := decide_eq_false (by rintro ⟨m, h, _⟩; omega)
theorem seenAt_succ (xs : List Int) (i v q : Nat) (hq : xs[i]?.getD 0 = (q : Int)) : seenAt xs (i + 1) v = if v = q then true else seenAt xs i v := by
  split
  · rename_i h; subst h; exact decide_eq_true ⟨i, by omega, hq⟩
  · rename_i h
    unfold seenAt
    rw [decide_eq_decide]
    constructor
    · rintro ⟨m, h1, h2⟩
      by_cases e : m = i
      · subst e; omega
      · exact ⟨m, by omega, h2⟩
    · rintro ⟨m, h1, h2⟩; exact ⟨m, by omega, h2⟩
theorem seenAt_new {xs : List Int} {n : Nat} (h : Mixed xs n) {i q : Nat} (hi : i < n) (hq : xs[i]?.getD 0 = (q : Int)) : seenAt xs i q = false := by
  apply decide_eq_false
  rintro ⟨m, h1, h2⟩
  have := h.2.2 m i (by omega) hi (by rw [h2, hq])
  omega

/-- The weights. -/
def fours (z : List Int) : List Int := z.map (· % 4)
theorem fours_get (z : List Int) (j : Nat) : (fours z)[j]?.getD 0 = (z[j]?.getD 0) % 4 := by
  unfold fours
  rw [List.getElem?_map]
  cases z[j]? <;> simp
theorem fours_take (z : List Int) (j : Nat) (h : j < z.length) : (fours z).take (j + 1) = (fours z).take j ++ [z[j]?.getD 0 % 4] := by
  rw [List.take_succ_eq_append_getElem (by unfold fours; simpa using h)]
  congr 1
  unfold fours
  simp [h]
theorem fours_noneg (z : List Int) (n : Nat) : NoNeg (fours z) n := fun m _ => by rw [fours_get]; omega
theorem psum_le (z : List Int) (j : Nat) : psum (fours z) j ≤ 3 * j := by
  induction j with
  | zero => simp [psum]
  | succ j ih => rw [psum, fours_get]; omega
theorem fours_take_get (z : List Int) (j : Nat) : ((fours z).take (j + 1))[j]?.getD 0 = z[j]?.getD 0 % 4 := by
  rw [List.getElem?_take, if_pos (by omega), fours_get]

theorem NoNeg.mono {xs : List Int} {i j : Nat} (h : NoNeg xs j) (hij : i ≤ j) : NoNeg xs i := fun m hm => h m (by omega)

theorem seen_start (w : World) (l : List Int) : (w.alloc (.cells (Array.replicate 60 (.bool false)) 50)).rowIs w.heap.size 50 60 (fun v => .bool (seenAt l 0 v)) := by
  have h := World.rowIs_alloc w (Array.replicate 60 (.bool false)) 50 (fun v => .bool (seenAt l 0 v)) (by
    intro i hi
    rw [seenAt_zero]
    rw [Array.getElem?_eq_getElem hi, Array.getElem_replicate])
  rw [Array.size_replicate] at h
  exact h

set_option maxHeartbeats 4000000 in
set_option maxRecDepth 100000 in
theorem fair_walk (s m : Nat) (A : Option Addr) (n c : Nat) (z : List Int) (hs : s < 18446744073709551616) (hm : m < 256) (hn : n ≤ 60) (w : World) (hz : Nums .u8 w A n z) :
    Calls Try.prog 8 #[.int .u64 s, .int .u8 m, .slice A n c] w fun e w' => e = .returned (.bool true) ∧ Below w.heap.size w w' := by
  obtain ⟨k, hk⟩ : ∃ k : Nat, k = m % 60 := ⟨_, rfl⟩
  have e1 : (m : Int) % 60 = (k : Int) := by omega
  have k1 : k < 60 := by omega
  clear hk
  have hmix := Lib.hid (mixed_shl (n := k) (s := s) (k - 1) (by omega) (by omega))
  go_enter Try.func8, Try.ntmps8
  go_wp2_with fail
  refine (pshuffle_n s k (by omega) hs _).mono ?_
  rintro e w1 ⟨A1, c1, rfl, i1, b1⟩
  generalize hl : (shl k s (k - 1)).1 = l at i1 hmix
  clear hl
  generalize (shl k s (k - 1)).2 = z1
  go_wp2_with fail
  go_loopw [12] (fun i wr => ∃ j : Nat, j ≤ k ∧ i = .int .i64 j ∧ wr.rowIs w1.heap.size 50 60 (fun v => .bool (seenAt l j v)) ∧ Below w1.heap.size w1 wr) (fun i _ => k - (intOf i).toNat)
  case atStart => exact ⟨0, Nat.zero_le _, rfl, seen_start w1 l, alloc_below _ _⟩
  case round =>
    obtain ⟨j, hj, rfl, hrow, hbr⟩ := hrel
    by_cases hlt : j < k
    · obtain ⟨g, off, rfl, _, hcell⟩ := (i1.below hbr).at_ hlt
      obtain ⟨q, hq⟩ : ∃ q : Nat, l[j]?.getD 0 = q := ⟨(l[j]?.getD 0).toNat, by have := (hmix.out.2.1 j hlt).1; omega⟩
      have hqk : q < k := by have := (hmix.out.2.1 j hlt).2; omega
      rw [show l.getD j 0 = (q : Int) by rw [← hq]; simp [List.getD]] at hcell
      have hs1 := hrow.cell (i := q) (by omega)
      rw [seenAt_new hmix.out hlt hq] at hs1
      have hs2 := hrow.frozen q
      have hs3 := Lib.hid (hrow.set q (.bool true))
      have HQ := Lib.hid hq
      clear hq hrow
      go_wp2
      go_roundw
      case rel =>
        refine ⟨j + 1, by omega, by go_num, ?_, hbr.setCell (by exact Nat.le_refl _) _⟩
        refine hs3.out.congr fun v _ => ?_
        rw [seenAt_succ l j v q HQ.out]
        split <;> simp_all
      case measure => simp [intOf]; omega
    · obtain rfl : j = k := by omega
      clear hrow
      go_wp2
      have b2 : Below w.heap.size w wr := bt b1 hbr
      clear hbr i1 b1 hmix
      have HL := Lib.hid hz.1
      obtain ⟨wo, rfl⟩ : ∃ wo : World, wo = wr := ⟨_, rfl⟩
      go_loopw [13, 14, 15] (fun v t i wr2 => ∃ (q : Nat) (B : Option Addr) (d : Nat) (y : Int), q ≤ n ∧ i = .int .i64 q ∧ v = .slice B q d ∧ t = .int .i64 y ∧ y = psum (fours z) q ∧ 0 ≤ y ∧ y ≤ 180 ∧ Owned wr2 wo.heap.size (.slice B q d) ((fours z).take q) ∧ Below wo.heap.size wo wr2) (fun _ _ i _ => n - (intOf i).toNat)
      case atStart => exact ⟨0, _, _, _, Nat.zero_le _, rfl, rfl, rfl, rfl, by omega, by omega, Owned.nil _ _, Below.refl _ _⟩
      case round =>
        obtain ⟨q, B, d, y, hq, rfl, rfl, rfl, hy, y0, y1, hown, hbr2⟩ := hrel
        have HY := Lib.hid hy
        clear hy
        by_cases hlt : q < n
        · obtain ⟨g, off, rfl, hg0, hcell⟩ := (hz.below (bt b2 hbr2)).at_ hlt
          obtain ⟨x, hx, hx2⟩ := u8_nat (hz.2.2.2 q hlt)
          rw [hx] at hcell
          obtain ⟨r, hr⟩ : ∃ r : Nat, r = x % 4 := ⟨_, rfl⟩
          have e2 : (x : Int) % 4 = (r : Int) := by omega
          have hr4 : r < 4 := by omega
          have htk := Lib.hid (fours_take z q (by rw [HL.out]; exact hlt))
          have hgt := Lib.hid (fours_take_get z q)
          rw [hx, e2] at htk hgt
          have hps : Hid (y + (r : Int) = psum (fours z) (q + 1)) := Lib.hid (by rw [HY.out, psum, fours_get, hx, e2])
          have hle : y + (r : Int) ≤ 3 * (q + 1) := by rw [hps.out]; exact psum_le z (q + 1)
          clear hr hx
          have hbz : Below wr.heap.size wr (wr.alloc (.cells #[.int .i64 r] 3)) := (Below.refl _ _).alloc (Nat.le_refl _) _
          have hnew := Ints.new wr [(r : Int)] #[.int .i64 r] 1 rfl rfl (by simp)
          obtain ⟨v', w', hrn, ho', _, hbel'⟩ := run_append_ints _ _ _ _ _ _ _ 1 (hown.kept hbz) hnew (Nat.le_trans hbr2.size hbz.size) (by rw [List.length_append]; have := List.length_take_le q (fours z); simp; omega)
          rw [← htk.out] at ho'
          have hf := ho'.form
          rw [show ((fours z).take (q + 1)).length = q + 1 by rw [List.length_take]; unfold fours; rw [List.length_map, HL.out]; omega] at hf
          obtain ⟨A', c', rfl⟩ := hf
          obtain ⟨g2, hA, hg1, hg2, _⟩ := ho'.head (by omega)
          cases hA
          have hc2 := ho'.cell_ (by omega) (k := q) (by omega)
          rw [hgt.out] at hc2
          have hbw := (hbr2.trans (hbz.mono hbr2.size)).trans hbel'
          clear hbz hnew hbel'
          go_wp2_with (at_builtin; refine Lib.wpList_append_run _ rfl _ _ _ _ rfl _ _ rfl rfl _ _ hrn ?_)
          go_roundw
          case rel => exact ⟨q + 1, _, _, _, by omega, by go_num, rfl, rfl, hps.out, by omega, by omega, ho', hbw⟩
          case measure => simp [intOf]; omega
        · obtain rfl : q = n := by omega
          have hfull : (fours z).take q = fours z := List.take_of_length_le (by unfold fours; rw [List.length_map, HL.out]; exact Nat.le_refl _)
          have hlen : (fours z).length = q := by unfold fours; rw [List.length_map, HL.out]
          rw [hfull] at hown
          have hI := hown.ints (by rw [hlen]; omega)
          have b3 := bt b2 hbr2
          have HP := Lib.hid (fours_noneg z q)
          have HN := Lib.hid hlen
          generalize fours z = xs at hI HY HP HN
          clear hz hown hbr2 b2 hfull hlen HL
          by_cases h0 : y = 0
          · have hch := Lib.hid (choV_range HN.out HP.out (by rw [← HY.out]; omega) s)
            have hbe := Lib.hid (belV_bad (n := 0) (by unfold Can; omega) s)
            subst h0
            go_wp2_with fail
            refine (pchoose s B q d xs hs _ hI).mono ?_
            rintro e w' ⟨rfl, rfl⟩
            rw [hch.out]
            go_wp2_with fail
            refine (pbelow s 0 hs _).mono ?_
            rintro e w' ⟨rfl, rfl⟩
            rw [hbe.out]
            go_wp2_with (go_at_call 13; refine (awake _).mono ?_; rintro e w4 ⟨rfl, b4⟩)
            go_ret
            exact ⟨rfl, bt b3 b4⟩
          · obtain ⟨t, rfl⟩ : ∃ t : Nat, y = t := ⟨y.toNat, by omega⟩
            have hdr : Drawable t := ⟨by omega, by omega⟩
            have HD := Lib.hid hdr
            have hch := Lib.hid (choV_ok HN.out HP.out HY.out.symm hdr s)
            have hX : Drx s t < t := Drx_lt hdr
            have hp := pck_is (xs := xs) (n := q) (x := (Drx s t : Int)) (by rw [← HY.out]; omega) q 0 (by omega) (by omega) (by simp [psum])
            generalize hpk : pck xs q (Drx s t : Int) q 0 = pk at hch hp
            clear hpk
            obtain ⟨p1, p2, p3⟩ := hp
            have hps1 : Hid (psum xs (pk + 1) = psum xs pk + xs[pk]?.getD 0) := Lib.hid rfl
            rw [hps1.out] at p3
            obtain ⟨g, off, rfl, _, hcell⟩ := hI.cell_ p1
            have hne : (xs[pk]?.getD 0 == 0) = false := by simp; omega
            have hte : ((t : Int) == 0) = false := by simp; omega
            clear hdr
            go_wp2_with fail
            refine (pchoose s _ q d xs hs _ hI).mono ?_
            rintro e w' ⟨rfl, rfl⟩
            rw [hch.out]
            go_wp2_with fail
            refine (pbelow_n s t HD.out hs _).mono ?_
            rintro e w' ⟨rfl, rfl⟩
            go_wp2
            go_loop [19, 22] (fun x i => ∃ (r : Nat) (u : Int), r ≤ pk ∧ i = .int .i64 r ∧ x = .int .i64 u ∧ u = (Drx s t : Int) - psum xs r ∧ 0 ≤ u ∧ u ≤ 180) (fun _ i => pk - (intOf i).toNat)
            case atStart => exact ⟨0, _, Nat.zero_le _, rfl, rfl, by simp [psum], by omega, by omega⟩
            case round =>
              obtain ⟨r, u, hr, rfl, rfl, hu, u0, u1⟩ := hrel
              by_cases hlt : r < pk
              · obtain ⟨g', off', e, _, hcell2⟩ := hI.cell_ (k := r) (by omega)
                cases e
                have hw := HP.out r (by omega)
                have hps2 : Hid (psum xs (r + 1) = psum xs r + xs[r]?.getD 0) := Lib.hid rfl
                have hmo := psum_mono (NoNeg.mono HP.out (by omega : pk ≤ q)) (i := r + 1) (j := pk) (by omega) (Nat.le_refl _)
                rw [hps2.out] at hmo
                have hu2 : Hid (u - xs[r]?.getD 0 = (Drx s t : Int) - psum xs (r + 1)) := Lib.hid (by rw [hps2.out]; omega)
                have hle : xs[r]?.getD 0 ≤ u := by omega
                clear hcell hu
                go_wp2
                go_round
                case rel => exact ⟨r + 1, _, by omega, by go_num, rfl, hu2.out, by omega, by omega⟩
                case measure => simp [intOf]; omega
              · obtain rfl : r = pk := by omega
                have hlt2 : u < xs[r]?.getD 0 := by omega
                clear hu
                go_wp2_with (go_at_call 13; refine (awake _).mono ?_; rintro e w4 ⟨rfl, b4⟩)
                go_ret
                exact ⟨rfl, bt b3 b4⟩
end Go.Proofs.Ytiongejdedhcjaa
