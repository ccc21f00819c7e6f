/- The walk of the program's Text. -/
import Derived.Test.YtiongejdedhcjaaDoorTextp
import Derived.Test.YtiongejdedhcjaaDoorVal
import Derived.Test.YtiongejdedhcjaaDoorOwnS
namespace Go.Proofs.YtiongejdedhcjaaDoor
open Go.RowKit

theorem ret_si {k : IntKind} {s s' : ByteArray} {a a' : Int} {p : ByteArray × Int} (h : p = (s', a')) (h1 : s = s') (h2 : a = a') : Ending.returned (.tuple #[.string s, .int k a]) = .returned (.tuple #[.string p.1, .int k p.2]) := by rw [h, h1, h2]

theorem OwnedS.cap_ {w : World} {base n c : Nat} {A : Option Addr} {xs : List ByteArray} (h : OwnedS w base (.slice A n c) xs) : n ≤ c ∧ n = xs.length := by
  have hn : n = xs.length := by obtain ⟨A', c', e⟩ := h.form; cases e; rfl
  refine ⟨?_, hn⟩
  rcases h.2 with ⟨e, h1⟩ | ⟨g, cap, cur, e, _, _, h2, _⟩
  · cases e; exact Nat.zero_le _
  · cases e; omega

/-- Join of the library with a space, of an owned row. -/
theorem sjoin (A : Option Addr) (n c base : Nat) (xs : List ByteArray) (w : World) (h : OwnedS w base (.slice A n c) xs) (hz : ∀ x, x ∈ xs → x.size ≤ 32) (hn : n ≤ 100000) :
    Calls Tryd.prog 34 #[.slice A n c, .string ⟨#[32]⟩] w fun e w' => e = .returned (.string ⟨(jn (btL xs)).toArray⟩) ∧ Below w.heap.size w w' := by
  obtain ⟨hcap, hl⟩ := h.cap_
  rcases Nat.eq_zero_or_pos n with h0 | h0
  · subst h0
    obtain rfl : xs = [] := List.eq_nil_of_length_eq_zero hl.symm
    refine (Tryd.strings_Join_none A c _ w).mono ?_
    rintro e w' ⟨rfl, rfl⟩
    exact ⟨rfl, Below.refl _ _⟩
  · have hS := h.strs (by omega) (fun x hx => by have := hz x hx; omega)
    obtain ⟨b, off, rfl, hb, hc⟩ := hS.2.2.1 h0
    have hlen : (jn (btL xs)).length ≤ 33 * xs.length := by
      have := jn_len (btL xs) (fun x hx => by
        unfold btL at hx
        rw [List.mem_map] at hx
        obtain ⟨y, hy, rfl⟩ := hx
        have := hz y hy
        simpa using this)
      unfold btL at this ⊢
      simpa using this
    have hsep : (ByteArray.mk #[32]).data.toList = [32] := rfl
    have := Tryd.strings_Join b off c xs ⟨#[32]⟩ w (fun j x hx => by
        have hj : j < xs.length := by
          rcases Nat.lt_or_ge j xs.length with h | h
          · exact h
          · rw [List.getElem?_eq_none h] at hx; cases hx
        rw [hc j (by omega), List.getD, hx]; rfl) hb (by omega) (by omega) (by rw [hsep, jn_join]; show (jn (btL xs)).length ≤ _; omega)
    rw [hsep, jn_join] at this
    rw [hl]
    exact this

set_option maxHeartbeats 2000000 in
set_option maxRecDepth 10000 in
theorem ptext (A : Option Addr) (n c : Nat) (ss : List ByteArray) (B : Option Addr) (m d : Nat) (xs : List Int) (w : World) (h : Strs w A n ss) (hc : n ≤ c) (hx : Ints w B m xs) :
    Calls Tryd.prog 20 #[.agg #[.slice A n c], .slice B m d] w fun e w' => e = .returned (.tuple #[.string (texV ss xs).1, .int .i64 (texV ss xs).2]) ∧ Below w.heap.size w w' := by
  have L := Lib.hid h.1
  have LX := Lib.hid hx.1
  have hb0 := alloc_below w (.cells #[.slice A n c] 24)
  have h0 := h.below hb0
  by_cases hv : valV ss = 0
  · by_cases hk : chk xs n = 0
    · obtain ⟨k1, k2, l1, hs⟩ := chk_zero hk
      have hfin := Lib.hid (texV_ok L.out hv hk)
      have HV := Lib.hid hv
      have HK := Lib.hid hk
      have HS := Lib.hid hs
      have hn64 : n ≤ 64 := by have := (valid_all hv).2.1; rw [L.out] at this; exact this
      have hm : m ≤ 1024 := by rw [← LX.out]; exact l1
      clear hv hk hs k1 k2
      go_enter Tryd.func20, Tryd.ntmps20
      go_wp2_with fail
      refine (pvalid A n c ss _ h0 hc).mono ?_
      rintro e w1 ⟨rfl, b1⟩
      rw [HV.out]
      have hbr1 : Below (w.heap.size + 1) (w.alloc (.cells #[.slice A n c] 24)) w1 := b1.mono (by simp)
      have hbox1 := box_cell w (.slice A n c) 24 hbr1
      have hx1 := hx.below (bt hb0 b1)
      go_wp2_with (go_at_call 33; refine (wcheck _ _ _ _ xs _ hx1).mono ?_; rintro e w' ⟨rfl, rfl⟩; rw [HK.out])
      go_loopw [8, 26] (fun v i wr => ∃ (j : Nat) (V : Option Addr) (f : Nat), j ≤ m ∧ i = .int .i64 j ∧ v = .slice V j f ∧ OwnedS wr (w.heap.size + 1) v ((nmL ss xs).take j) ∧ Below (w.heap.size + 1) (w.alloc (.cells #[.slice A n c] 24)) wr) (fun _ i _ => m - (intOf i).toNat)
      case atStart => exact ⟨0, _, _, Nat.zero_le _, rfl, rfl, OwnedS.nil _ _, hbr1⟩
      case round =>
        clear hbox1 hbr1 b1 hx1
        obtain ⟨j, V, f, hj, rfl, rfl, hown, hbr⟩ := hrel
        have hbw := hb0.trans (hbr.mono (Nat.le_succ _))
        have hbox := box_cell w (.slice A n c) 24 hbr
        have hsz1 : w.heap.size + 1 ≤ wr.heap.size := by have := hbr.size; simpa using this
        by_cases hlt : j < m
        · obtain ⟨g, off, hB, _, hcell⟩ := (hx.below hbw).at_ hlt
          obtain ⟨x1, x2⟩ := HS.out j (by rw [LX.out]; exact hlt)
          obtain ⟨q, hq⟩ : ∃ q : Nat, xs.getD j 0 = q := ⟨(xs.getD j 0).toNat, by omega⟩
          rw [hq] at hcell x2
          have hqn : q < n := by omega
          obtain ⟨g2, off2, hA2, _, hcell2⟩ := (h.below hbw).at_ hqn
          have htk := Lib.hid (nmL_take ss xs j (by rw [LX.out]; exact hlt))
          rw [show (xs[j]?.getD 0).toNat = q by rw [show xs[j]?.getD 0 = (q : Int) by rw [← hq]; simp [List.getD]]; omega] at htk
          have hshort := nm_short L.out HV.out q hqn
          generalize ss.getD q ByteArray.empty = y at hcell2 htk hshort
          clear x1 x2 hq
          subst hB hA2
          have hbz : Below wr.heap.size wr (wr.alloc (.cells #[.string y] 9)) := alloc_below _ _
          have hnew : Strs (wr.alloc (.cells #[.string y] 9)) (some ⟨wr.heap.size, 0, none⟩) 1 [y] := by
            refine ⟨rfl, by omega, fun _ => ⟨wr.heap.size, 0, rfl, by simp, fun j hj => ?_⟩, fun j hj => ?_⟩
            · obtain rfl : j = 0 := by omega
              have := cell_of_row (wr.alloc (.cells #[.string y] 9)) wr.heap.size 0 #[.string y] 9 (0, 0) (heap_alloc_new wr _)
              rw [this]; rfl
            · obtain rfl : j = 0 := by omega
              show y.size ≤ _; omega
          obtain ⟨v', w', hrn, ho', _, hbel'⟩ := run_append_strs _ _ _ _ _ _ _ 1 (hown.kept hbz) hnew (Nat.le_trans hsz1 hbz.size) (by rw [List.length_append]; have := List.length_take_le j (nmL ss xs); simp; omega)
          rw [← htk.out] at ho'
          have hf := ho'.form
          rw [show ((nmL ss xs).take (j + 1)).length = j + 1 by rw [List.length_take, nmL_len, LX.out]; omega] at hf
          obtain ⟨A', c', rfl⟩ := hf
          have hbw2 := (hbr.trans (hbz.mono hsz1)).trans hbel'
          clear hbz hnew hbel'
          go_wp2_with (at_builtin; refine Lib.wpList_append_run _ rfl _ _ _ _ rfl _ _ rfl rfl _ _ hrn ?_)
          go_roundw
          case rel => exact ⟨j + 1, _, _, by omega, by go_num, rfl, ho', hbw2⟩
          case measure => simp [intOf]; omega
        · obtain rfl : j = m := by omega
          rw [show (nmL ss xs).take j = nmL ss xs from List.take_of_length_le (by rw [nmL_len, LX.out]; exact Nat.le_refl _)] at hown
          go_wp2_with fail
          refine (sjoin V j f _ _ _ hown (nmL_short L.out HV.out HS.out) (by omega)).mono ?_
          rintro e w2 ⟨rfl, b2⟩
          go_wp2
          go_ret2
          exact ⟨ret_si hfin.out rfl rfl, bt hbw b2⟩
    · have hfin := Lib.hid (texV_bad L.out hv hk)
      have HV := Lib.hid hv
      have hkb : (chk xs n != 0) = true := by simpa using hk
      clear hv hk
      go_enter Tryd.func20, Tryd.ntmps20
      go_wp2_with fail
      refine (pvalid A n c ss _ h0 hc).mono ?_
      rintro e w1 ⟨rfl, b1⟩
      rw [HV.out]
      have hbr1 : Below (w.heap.size + 1) (w.alloc (.cells #[.slice A n c] 24)) w1 := b1.mono (by simp)
      have hbox1 := box_cell w (.slice A n c) 24 hbr1
      have hx1 := hx.below (bt hb0 b1)
      go_wp2_with (go_at_call 33; refine (wcheck _ _ _ _ xs _ hx1).mono ?_; rintro e w' ⟨rfl, rfl⟩)
      go_ret2
      exact ⟨ret_si hfin.out rfl rfl, bt hb0 b1⟩
  · have hfin := Lib.hid (texV_inv (xs := xs) hv)
    have hvb : (valV ss != 0) = true := by simpa using hv
    clear hv
    go_enter Tryd.func20, Tryd.ntmps20
    go_wp2_with fail
    refine (pvalid A n c ss _ h0 hc).mono ?_
    rintro e w1 ⟨rfl, b1⟩
    go_wp2
    go_ret2
    exact ⟨ret_si hfin.out rfl rfl, bt hb0 b1⟩
end Go.Proofs.YtiongejdedhcjaaDoor
