/- Lemmas of the proofs of this seat, of the parts Obb, Commw, Obe, Obn, Obc, Rgnx, Obd, Hyp, Pfx, Hyb, Hyc, Hyw, Hye, Hyf, Runk, Tracep, Tracem, Hyx, Hyr. Conditions: none. -/
import Derived.Test.YtkgdgnmobahhfaaKaa
import Derived.Shelf.Abstract
import Derived.Test.YtkgdgnmobahhfaaProg
import Derived.WalkSpells
import Derived.WalkLawsBesides
import Derived.Outline
import Derived.Deep.QuietTactic
import Derived.BigQuiet
import Derived.Deep.RegionHeld3
import Derived.StillTail
import Derived.Deep.DeepCutAuto
section
/- slices.BinarySearchFunc over traces. -/
namespace Go.Proofs.Ytkgdgnmobahhfaa
open Go.RowKit Go.Shelf

set_option maxHeartbeats 1000000 in
theorem pbsi (g : Nat) (tv : Int) (cf : Nat → Int) (A : Option Addr) (n c : Nat) (ts : List (List Int × List Int)) (w : World)
    (eg : ∀ args w, (callFunc g args).run Try.prog w = .ok (.enter g args) w) (h : Trs w A n ts)
    (hcmp : ∀ j, j < n → ∀ A1 n1 c1 A2 n2 c2 W, Below w.heap.size w W → Ints W A1 n1 (tIn ts j) → Calls Try.prog g #[.agg #[.slice A1 n1 c1, .slice A2 n2 c2], .int .i64 tv] W fun e w' => e = .returned (.int .i64 (cf j)) ∧ Below W.heap.size W w')
    (hmono : ∀ a b, a ≤ b → b < n → cf b < 0 → cf a < 0) :
    Calls Try.prog 101 #[.slice A n c, .int .i64 tv, .func (.func g) #[] #[]] w fun e w' => ∃ (i : Nat) (v : Value), e = .returned (.tuple #[.int .i64 i, v]) ∧ i ≤ n ∧ Hid (∀ j, j < i → cf j < 0) ∧ Hid (∀ j, i ≤ j → j < n → 0 ≤ cf j) ∧ Below w.heap.size w w' := by
  have HT := Lib.hid h
  have HC := Lib.hid hcmp
  have HM := Lib.hid hmono
  have hn := h.2.1
  clear h hcmp hmono
  go_enter Try.func101, Try.ntmps101
  go_wp2
  go_loopw [9, 10] (fun s9 s10 wr => ∃ lo hi : Nat, s9 = .int .i64 lo ∧ s10 = .int .i64 hi ∧ lo ≤ hi ∧ hi ≤ n ∧ Hid (∀ j, j < lo → cf j < 0) ∧ Hid (∀ j, hi ≤ j → j < n → 0 ≤ cf j) ∧ Hid (Below w.heap.size w wr)) (fun s9 s10 _ => (intOf s10).toNat - (intOf s9).toNat)
  case atStart => exact ⟨0, n, rfl, rfl, Nat.zero_le _, Nat.le_refl _, Lib.hid (fun j hj => absurd hj (Nat.not_lt_zero _)), Lib.hid (fun j h1 h2 => absurd h2 (by omega)), Lib.hid (Below.refl _ _)⟩
  case round =>
    obtain ⟨lo, hi, rfl, rfl, hlh, hin, H1, H2, HB⟩ := hrel
    by_cases hlt : lo < hi
    · obtain ⟨b, off, A1, n1, c1, A2, n2, c2, rfl, _, k1, k2, _, _, k3, _⟩ := (HT.out.below HB.out).at_ (k := (lo + hi) / 2) (by omega)
      have hc := HC.out ((lo + hi) / 2) (by omega) A1 n1 c1 A2 n2 c2 wr HB.out k3
      have HCA := Lib.hid hc
      clear hc k3
      by_cases hyx : cf ((lo + hi) / 2) < 0
      · have HY := Lib.hid hyx
        obtain ⟨y, hy⟩ : ∃ y, y = cf ((lo + hi) / 2) := ⟨_, rfl⟩
        rw [← hy] at HCA hyx
        have HE := Lib.hid hy
        clear hy
        go_wp2_with (go_at_fn g; refine HCA.out.mono ?_; rintro e w' ⟨rfl, bb⟩)
        have HBB := Lib.hid (bt HB.out bb)
        clear bb
        go_roundw
        case measure => simp [intOf]; omega
        case rel =>
          exact ⟨(lo + hi) / 2 + 1, hi, by rw [show ((lo : Int) + (hi : Int)) / 2 + 1 = (((lo + hi) / 2 + 1 : Nat) : Int) by omega], rfl, by omega, hin, Lib.hid (fun j hj => HM.out j ((lo + hi) / 2) (by omega) (by omega) HY.out), H2, HBB⟩
      · have HY := Lib.hid (show 0 ≤ cf ((lo + hi) / 2) by omega)
        obtain ⟨y, hy⟩ : ∃ y, y = cf ((lo + hi) / 2) := ⟨_, rfl⟩
        rw [← hy] at HCA hyx
        have HE := Lib.hid hy
        clear hy
        go_wp2_with (go_at_fn g; refine HCA.out.mono ?_; rintro e w' ⟨rfl, bb⟩)
        have HBB := Lib.hid (bt HB.out bb)
        clear bb
        go_roundw
        case measure => simp [intOf]; omega
        case rel =>
          exact ⟨lo, (lo + hi) / 2, rfl, by rw [show ((lo : Int) + (hi : Int)) / 2 = (((lo + hi) / 2 : Nat) : Int) by omega], by omega, by omega, H1, Lib.hid (fun j h1 h2 => Int.not_lt.1 fun h3 => absurd (HM.out ((lo + hi) / 2) j h1 h2 h3) (by have := HY.out; omega)), HBB⟩
    · obtain rfl : hi = lo := by omega
      by_cases hn1 : hi < n
      · obtain ⟨b, off, A1, n1, c1, A2, n2, c2, rfl, _, k1, k2, _, _, k3, _⟩ := (HT.out.below HB.out).at_ (k := hi) (by omega)
        have hc := HC.out hi (by omega) A1 n1 c1 A2 n2 c2 wr HB.out k3
        generalize cf hi = y at hc
        have HCA := Lib.hid hc
        clear hc k3
        go_wp2_with (go_at_fn g; refine HCA.out.mono ?_; rintro e w' ⟨rfl, bb⟩)
        have HBB := Lib.hid (bt HB.out bb)
        clear bb
        go_ret2
        exact ⟨hi, _, rfl, hin, H1, H2, HBB.out⟩
      · go_wp2
        go_ret2
        exact ⟨hi, _, rfl, hin, H1, H2, HB.out⟩

set_option maxHeartbeats 1000000 in
theorem pbsw (g : Nat) (T : Option Addr) (tn tc : Nat) (cf : Nat → Int) (A : Option Addr) (n c : Nat) (ts : List (List Int × List Int)) (w : World)
    (eg : ∀ args w, (callFunc g args).run Try.prog w = .ok (.enter g args) w) (h : Trs w A n ts)
    (hcmp : ∀ j, j < n → ∀ A1 n1 c1 A2 n2 c2 W, Below w.heap.size w W → Ints W A1 n1 (tIn ts j) → Calls Try.prog g #[.agg #[.slice A1 n1 c1, .slice A2 n2 c2], .slice T tn tc] W fun e w' => e = .returned (.int .i64 (cf j)) ∧ Below W.heap.size W w')
    (hmono : ∀ a b, a ≤ b → b < n → cf b < 0 → cf a < 0) :
    Calls Try.prog 103 #[.slice A n c, .slice T tn tc, .func (.func g) #[] #[]] w fun e w' => ∃ (i : Nat) (v : Value), e = .returned (.tuple #[.int .i64 i, v]) ∧ i ≤ n ∧ Hid (∀ j, j < i → cf j < 0) ∧ Hid (∀ j, i ≤ j → j < n → 0 ≤ cf j) ∧ Below w.heap.size w w' := by
  have HT := Lib.hid h
  have HC := Lib.hid hcmp
  have HM := Lib.hid hmono
  have hn := h.2.1
  clear h hcmp hmono
  go_enter Try.func103, Try.ntmps103
  go_wp2
  go_loopw [9, 10] (fun s9 s10 wr => ∃ lo hi : Nat, s9 = .int .i64 lo ∧ s10 = .int .i64 hi ∧ lo ≤ hi ∧ hi ≤ n ∧ Hid (∀ j, j < lo → cf j < 0) ∧ Hid (∀ j, hi ≤ j → j < n → 0 ≤ cf j) ∧ Hid (Below w.heap.size w wr)) (fun s9 s10 _ => (intOf s10).toNat - (intOf s9).toNat)
  case atStart => exact ⟨0, n, rfl, rfl, Nat.zero_le _, Nat.le_refl _, Lib.hid (fun j hj => absurd hj (Nat.not_lt_zero _)), Lib.hid (fun j h1 h2 => absurd h2 (by omega)), Lib.hid (Below.refl _ _)⟩
  case round =>
    obtain ⟨lo, hi, rfl, rfl, hlh, hin, H1, H2, HB⟩ := hrel
    by_cases hlt : lo < hi
    · obtain ⟨b, off, A1, n1, c1, A2, n2, c2, rfl, _, k1, k2, _, _, k3, _⟩ := (HT.out.below HB.out).at_ (k := (lo + hi) / 2) (by omega)
      have hc := HC.out ((lo + hi) / 2) (by omega) A1 n1 c1 A2 n2 c2 wr HB.out k3
      have HCA := Lib.hid hc
      clear hc k3
      by_cases hyx : cf ((lo + hi) / 2) < 0
      · have HY := Lib.hid hyx
        obtain ⟨y, hy⟩ : ∃ y, y = cf ((lo + hi) / 2) := ⟨_, rfl⟩
        rw [← hy] at HCA hyx
        have HE := Lib.hid hy
        clear hy
        go_wp2_with (go_at_fn g; refine HCA.out.mono ?_; rintro e w' ⟨rfl, bb⟩)
        have HBB := Lib.hid (bt HB.out bb)
        clear bb
        go_roundw
        case measure => simp [intOf]; omega
        case rel =>
          exact ⟨(lo + hi) / 2 + 1, hi, by rw [show ((lo : Int) + (hi : Int)) / 2 + 1 = (((lo + hi) / 2 + 1 : Nat) : Int) by omega], rfl, by omega, hin, Lib.hid (fun j hj => HM.out j ((lo + hi) / 2) (by omega) (by omega) HY.out), H2, HBB⟩
      · have HY := Lib.hid (show 0 ≤ cf ((lo + hi) / 2) by omega)
        obtain ⟨y, hy⟩ : ∃ y, y = cf ((lo + hi) / 2) := ⟨_, rfl⟩
        rw [← hy] at HCA hyx
        have HE := Lib.hid hy
        clear hy
        go_wp2_with (go_at_fn g; refine HCA.out.mono ?_; rintro e w' ⟨rfl, bb⟩)
        have HBB := Lib.hid (bt HB.out bb)
        clear bb
        go_roundw
        case measure => simp [intOf]; omega
        case rel =>
          exact ⟨lo, (lo + hi) / 2, rfl, by rw [show ((lo : Int) + (hi : Int)) / 2 = (((lo + hi) / 2 : Nat) : Int) by omega], by omega, by omega, H1, Lib.hid (fun j h1 h2 => Int.not_lt.1 fun h3 => absurd (HM.out ((lo + hi) / 2) j h1 h2 h3) (by have := HY.out; omega)), HBB⟩
    · obtain rfl : hi = lo := by omega
      by_cases hn1 : hi < n
      · obtain ⟨b, off, A1, n1, c1, A2, n2, c2, rfl, _, k1, k2, _, _, k3, _⟩ := (HT.out.below HB.out).at_ (k := hi) (by omega)
        have hc := HC.out hi (by omega) A1 n1 c1 A2 n2 c2 wr HB.out k3
        generalize cf hi = y at hc
        have HCA := Lib.hid hc
        clear hc k3
        go_wp2_with (go_at_fn g; refine HCA.out.mono ?_; rintro e w' ⟨rfl, bb⟩)
        have HBB := Lib.hid (bt HB.out bb)
        clear bb
        go_ret2
        exact ⟨hi, _, rfl, hin, H1, H2, HBB.out⟩
      · go_wp2
        go_ret2
        exact ⟨hi, _, rfl, hin, H1, H2, HB.out⟩
end Go.Proofs.Ytkgdgnmobahhfaa
end

section
/- word.Common. -/
namespace Go.Proofs.Ytkgdgnmobahhfaa
open Go.RowKit

set_option maxHeartbeats 400000 in
theorem wcommon (A B : Option Addr) (n c m d : Nat) (xs ys : List Int) (w : World) (hx : Ints w A n xs) (hy : Ints w B m ys) :
    Calls Try.prog 96 #[.slice A n c, .slice B m d] w fun e w' => e = .returned (.int .i64 (cmn xs ys)) ∧ ∃ q, w' = w.drewN q := by
  have L1 := Lib.hid hx.1
  have L2 := Lib.hid hy.1
  have hn := hx.2.1
  have hm := hy.2.1
  by_cases hnm : m < n
  · go_enter Try.func96, Try.ntmps96
    go_wp2
    go_loopw [13] (fun i wr => ∃ j : Nat, j ≤ m ∧ i = .int .i64 j ∧ Agree xs ys j ∧ ∃ q, wr = w.drewN q) (fun i _ => m - (intOf i).toNat)
    case atStart => exact ⟨0, Nat.zero_le _, rfl, Agree.zero _ _, 0, rfl⟩
    case round =>
      obtain ⟨j, hj, rfl, ha, q, rfl⟩ := hrel
      by_cases hlt : j < m
      · obtain ⟨b1, o1, rfl, _, hc1⟩ := hx.at_ (k := j) (by omega)
        obtain ⟨b2, o2, rfl, _, hc2⟩ := hy.at_ (k := j) (by omega)
        by_cases he : xs[j]?.getD 0 = ys[j]?.getD 0
        · have ha' := Lib.hid (ha.succ (by simpa using he))
          have hb : (xs[j]?.getD 0 != ys[j]?.getD 0) = false := by simp [he]
          have hE := Lib.hid he
          clear he ha
          go_wp2
          go_quiet (fail)
          go_wp2
          go_roundw
          case rel => exact ⟨j + 1, by omega, by go_num, ha'.out, by first | exact ⟨_, rfl⟩ | exact ⟨_, World.drewN_drewN _ _ _⟩⟩
          case measure => simp [intOf]; omega
        · have hfin := Lib.hid (cmn_eq (j := j) (by rw [L1.out]; omega) (by rw [L2.out]; omega) ha (.inr (.inr (by simpa using he))))
          have hb : (xs[j]?.getD 0 != ys[j]?.getD 0) = true := by simpa using he
          clear he ha
          go_wp2
          go_quiet (fail)
          go_wp2
          go_ret
          exact ⟨ret_int (by rw [hfin.out] <;> omega), by first | exact ⟨_, rfl⟩ | exact ⟨_, World.drewN_drewN _ _ _⟩⟩
      · have hfin := Lib.hid (cmn_eq (j := m) (by rw [L1.out]; omega) (by rw [L2.out]; omega) ((by omega : j = m) ▸ ha) (by rw [L1.out, L2.out]; omega))
        go_wp2
        go_ret
        exact ⟨ret_int (by rw [hfin.out] <;> omega), by first | exact ⟨_, rfl⟩ | exact ⟨_, World.drewN_drewN _ _ _⟩⟩
  · go_enter Try.func96, Try.ntmps96
    go_wp2
    go_loopw [13] (fun i wr => ∃ j : Nat, j ≤ n ∧ i = .int .i64 j ∧ Agree xs ys j ∧ ∃ q, wr = w.drewN q) (fun i _ => n - (intOf i).toNat)
    case atStart => exact ⟨0, Nat.zero_le _, rfl, Agree.zero _ _, 0, rfl⟩
    case round =>
      obtain ⟨j, hj, rfl, ha, q, rfl⟩ := hrel
      by_cases hlt : j < n
      · obtain ⟨b1, o1, rfl, _, hc1⟩ := hx.at_ (k := j) (by omega)
        obtain ⟨b2, o2, rfl, _, hc2⟩ := hy.at_ (k := j) (by omega)
        by_cases he : xs[j]?.getD 0 = ys[j]?.getD 0
        · have ha' := Lib.hid (ha.succ (by simpa using he))
          have hb : (xs[j]?.getD 0 != ys[j]?.getD 0) = false := by simp [he]
          have hE := Lib.hid he
          clear he ha
          go_wp2
          go_quiet (fail)
          go_wp2
          go_roundw
          case rel => exact ⟨j + 1, by omega, by go_num, ha'.out, by first | exact ⟨_, rfl⟩ | exact ⟨_, World.drewN_drewN _ _ _⟩⟩
          case measure => simp [intOf]; omega
        · have hfin := Lib.hid (cmn_eq (j := j) (by rw [L1.out]; omega) (by rw [L2.out]; omega) ha (.inr (.inr (by simpa using he))))
          have hb : (xs[j]?.getD 0 != ys[j]?.getD 0) = true := by simpa using he
          clear he ha
          go_wp2
          go_quiet (fail)
          go_wp2
          go_ret
          exact ⟨ret_int (by rw [hfin.out] <;> omega), by first | exact ⟨_, rfl⟩ | exact ⟨_, World.drewN_drewN _ _ _⟩⟩
      · have hfin := Lib.hid (cmn_eq (j := n) (by rw [L1.out]; omega) (by rw [L2.out]; omega) ((by omega : j = n) ▸ ha) (by rw [L1.out, L2.out]; omega))
        go_wp2
        go_ret
        exact ⟨ret_int (by rw [hfin.out] <;> omega), by first | exact ⟨_, rfl⟩ | exact ⟨_, World.drewN_drewN _ _ _⟩⟩
end Go.Proofs.Ytkgdgnmobahhfaa
end

section
/- The closures of nearest. -/
namespace Go.Proofs.Ytkgdgnmobahhfaa
open Go.RowKit Go.Shelf

/-- A block of one number. -/
def Num1 (w : World) (g : Nat) (v : Int) : Prop := w.heap[g]? = some (.cells #[.int .i64 v] 3 (0, 0))
theorem Num1.cell {w : World} {g : Nat} {v : Int} (h : Num1 w g v) : w.cell? ⟨g, 0, none⟩ = some (.int .i64 v) ∧ w.frozen? ⟨g, 0, none⟩ = false := ⟨cell_of_row w g 0 _ _ (0, 0) h, frozen_of_row w g 0 _ _ h⟩
theorem Num1.set {w : World} {g : Nat} {v : Int} (h : Num1 w g v) (u : Int) : Num1 (w.setCell ⟨g, 0, none⟩ (.int .i64 u)) g u := heap_setCell_same w g 0 _ _ (Value.int .i64 u) h
theorem Num1.off {w : World} {g g' j : Nat} {v : Int} (h : Num1 w g v) (hn : g ≠ g') (x : Value) : Num1 (w.setCell ⟨g', j, none⟩ x) g v := (heap_setCell_other w ⟨g', j, none⟩ g x hn).trans h
theorem Num1.drewN {w : World} {g : Nat} {v : Int} (h : Num1 w g v) (q : Nat) : Num1 (w.drewN q) g v := h
theorem Num1.below {w w' : World} {g B : Nat} {v : Int} (h : Num1 w g v) (hb : Below B w w') (hg : g < B) : Num1 w' g v := (hb.block g hg).trans h

/-- Four boxes in a row. -/
theorem boxes4 (w : World) (v1 v2 v3 v4 : Value) (t1 t2 t3 t4 : TypeId) : ∀ W, W = ((((w.alloc (.cells #[v1] t1)).alloc (.cells #[v2] t2)).alloc (.cells #[v3] t3)).alloc (.cells #[v4] t4)) →
    Below w.heap.size w W ∧ W.cell? ⟨w.heap.size, 0, none⟩ = some v1 ∧ W.cell? ⟨w.heap.size + 1, 0, none⟩ = some v2 ∧ W.heap[w.heap.size + 1 + 1]? = some (.cells #[v3] t3 (0, 0)) ∧ W.heap[w.heap.size + 1 + 1 + 1]? = some (.cells #[v4] t4 (0, 0)) ∧ W.heap.size = w.heap.size + 4 := by
  rintro W rfl
  have b1 := alloc_below w (.cells #[v1] t1)
  have b2 := alloc_below (w.alloc (.cells #[v1] t1)) (.cells #[v2] t2)
  have b3 := alloc_below ((w.alloc (.cells #[v1] t1)).alloc (.cells #[v2] t2)) (.cells #[v3] t3)
  have b4 := alloc_below (((w.alloc (.cells #[v1] t1)).alloc (.cells #[v2] t2)).alloc (.cells #[v3] t3)) (.cells #[v4] t4)
  have h1 := heap_alloc_new w (.cells #[v1] t1)
  have h2 := heap_alloc_new (w.alloc (.cells #[v1] t1)) (.cells #[v2] t2)
  have h3 := heap_alloc_new ((w.alloc (.cells #[v1] t1)).alloc (.cells #[v2] t2)) (.cells #[v3] t3)
  have h4 := heap_alloc_new (((w.alloc (.cells #[v1] t1)).alloc (.cells #[v2] t2)).alloc (.cells #[v3] t3)) (.cells #[v4] t4)
  have s1 : (w.alloc (.cells #[v1] t1)).heap.size = w.heap.size + 1 := by simp
  have s2 : ((w.alloc (.cells #[v1] t1)).alloc (.cells #[v2] t2)).heap.size = w.heap.size + 1 + 1 := by simp
  have s3 : (((w.alloc (.cells #[v1] t1)).alloc (.cells #[v2] t2)).alloc (.cells #[v3] t3)).heap.size = w.heap.size + 1 + 1 + 1 := by simp
  rw [s1] at b2 h2
  rw [s2] at b3 h3
  rw [s3] at b4 h4
  refine ⟨((b1.trans (b2.mono (by omega))).trans (b3.mono (by omega))).trans (b4.mono (by omega)), ?_, ?_, (b4.block _ (by omega)).trans h3, h4, by simp⟩
  · exact cell_of_row _ w.heap.size 0 _ _ (0, 0) ((b4.block _ (by omega)).trans ((b3.block _ (by omega)).trans ((b2.block _ (by omega)).trans h1)))
  · exact cell_of_row _ (w.heap.size + 1) 0 _ _ (0, 0) ((b4.block _ (by omega)).trans ((b3.block _ (by omega)).trans h2))

theorem entN1 : ∀ args w, (callFunc 100 args).run Try.prog w = .ok (.enter 100 args) w := enters_of Try.func100 (by kernel_rfl) rfl
theorem entN2 : ∀ args w, (callFunc 102 args).run Try.prog w = .ok (.enter 102 args) w := enters_of Try.func102 (by kernel_rfl) rfl
theorem entN3 : ∀ args w, (callFunc 104 args).run Try.prog w = .ok (.enter 104 args) w := enters_of Try.func104 (by kernel_rfl) rfl

theorem pnear2 (A1 A2 : Option Addr) (n1 c1 n2 c2 L : Nat) (xs : List Int) (w : World) (hx : Ints w A1 n1 xs) (hL : L ≤ 17592186044416) :
    Calls Try.prog 102 #[.agg #[.slice A1 n1 c1, .slice A2 n2 c2], .int .i64 L] w fun e w' => e = .returned (.int .i64 ((xs.length : Int) - L)) ∧ Below w.heap.size w w' := by
  have hn := hx.2.1
  obtain rfl : xs.length = n1 := hx.1
  have hb0 := alloc_below w (.cells #[.slice A1 xs.length c1, .slice A2 n2 c2] 38)
  have hw : IntKind.i64.wrap ((xs.length : Int) - (L : Int)) = (xs.length : Int) - L := by rw [IntKind.wrap_i64]; omega
  have HB := Lib.hid hb0
  clear hx hb0
  go_enter Try.func102, Try.ntmps102
  go_wp2
  go_ret
  exact ⟨rfl, HB.out⟩

theorem pnear3 (A1 A2 B : Option Addr) (n1 c1 n2 c2 m d : Nat) (xs ys : List Int) (w : World) (hx : Ints w A1 n1 xs) (hy : Ints w B m ys) :
    Calls Try.prog 104 #[.agg #[.slice A1 n1 c1, .slice A2 n2 c2], .slice B m d] w fun e w' => e = .returned (.int .i64 (lexi xs ys)) ∧ Below w.heap.size w w' := by
  have hb0 := alloc_below w (.cells #[.slice A1 n1 c1, .slice A2 n2 c2] 38)
  have HB := Lib.hid hb0
  have HX := Lib.hid (hx.below hb0)
  have HY := Lib.hid (hy.below hb0)
  clear hx hy hb0
  go_enter Try.func104, Try.ntmps104
  go_wp2_with (go_at_call 94; refine (wlex _ _ _ _ _ _ _ _ _ HX.out HY.out).mono ?_; rintro e w' ⟨rfl, q, rfl⟩)
  go_ret
  exact ⟨rfl, below_drewN HB.out q⟩

set_option maxHeartbeats 1000000 in
theorem pexam (W : World) (Bl Bw Bk Bb base n c m d j known best : Nat) (A Z : Option Addr) (ts : List (List Int × List Int)) (ws : List Int) (hj : j < n)
    (hl : W.cell? ⟨Bl, 0, none⟩ = some (.slice A n c)) (hw : W.cell? ⟨Bw, 0, none⟩ = some (.slice Z m d)) (hk : Num1 W Bk known) (hb : Num1 W Bb best) (hne : Bk ≠ Bb) (hB1 : base ≤ Bk) (hB2 : base ≤ Bb)
    (hT : Trs W A n ts) (hF : (tOut ts j).length = (tIn ts j).length) (hW : Ints W Z m ws) :
    Calls Try.prog 100 #[.int .i64 j, .pointer (some ⟨Bl, 0, none⟩), .pointer (some ⟨Bw, 0, none⟩), .pointer (some ⟨Bk, 0, none⟩), .pointer (some ⟨Bb, 0, none⟩)] W fun e w' => e = .returned (.tuple #[]) ∧ ∃ best' : Nat, Num1 w' Bk (max known (cmn (tIn ts j) ws) : Nat) ∧ Num1 w' Bb best' ∧
      Hid (Got ts ws best known → Got ts ws best' (max known (cmn (tIn ts j) ws))) ∧ Below base W w' := by
  obtain ⟨b, off, A1, n1, c1, A2, n2, c2, rfl, hg, k1, k2, _, _, k3, k4⟩ := hT.at_ hj
  have hn := hT.2.1
  have hlen := hT.1
  have hk2 : n2 = (tIn ts j).length := by rw [← hF]; exact k4.1.symm
  have hjl : j < ts.length := by omega
  have hcm := cmn_le_left (tIn ts j) ws
  have hGN := Lib.hid (got_new (w := ws) hjl)
  obtain ⟨K, hK⟩ : ∃ K, K = cmn (tIn ts j) ws := ⟨_, rfl⟩
  have HKE := Lib.hid hK
  have HK := Lib.hid hk
  have HB := Lib.hid hb
  have HC := Lib.hid (fun q => wcommon A1 Z n1 c1 m d (tIn ts j) ws (W.drewN q) (k3.drewN q) (hW.drewN q))
  obtain ⟨hkc, hkf⟩ := hk.cell
  obtain ⟨hbc, hbf⟩ := hb.cell
  have i0 : (0 : Int) ≤ (j : Int) := by omega
  have i1 : (j : Int) < (n : Int) := by omega
  rw [← hK] at hcm
  rw [← HKE.out] at HC hGN ⊢
  have hkle : (K : Int) ≤ (n2 : Int) := by rw [hk2]; omega
  have HN2 := Lib.hid hk2
  clear hT hF hW k3 k4 hk hb hK hcm hk2 hlen
  by_cases hlt : known < K
  · have hlt' : (known : Int) < (K : Int) := by omega
    go_enter Try.func100, Try.ntmps100
    go_wp2
    go_quiet ((go_at_call 96; exact Calls.quiet_of (HC.out _)))
    go_wp2
    go_end0
    have hmx : max known K = K := by omega
    rw [hmx]
    exact ⟨rfl, j, ((HK.out.drewN _).off hne _).set K, ((HB.out.drewN _).set j).off (Ne.symm hne) _, Lib.hid (fun _ => hGN.out), ((below_drewN (Below.refl _ _) _).setCell (p := ⟨Bb, 0, none⟩) hB2 _).setCell (p := ⟨Bk, 0, none⟩) hB1 _⟩
  · have hlt' : ¬ (known : Int) < (K : Int) := by omega
    go_enter Try.func100, Try.ntmps100
    go_wp2
    go_quiet ((go_at_call 96; exact Calls.quiet_of (HC.out _)))
    go_wp2
    go_end0
    have hmx : max known K = known := by omega
    rw [hmx]
    exact ⟨rfl, best, HK.out.drewN _, HB.out.drewN _, Lib.hid (fun h => h), below_drewN (Below.refl _ _) _⟩
end Go.Proofs.Ytkgdgnmobahhfaa
end

section
/- nearest: the trace that knows most of a word. -/
namespace Go.Proofs.Ytkgdgnmobahhfaa
open Go.RowKit Go.Shelf

/-- The world in a round of nearest: the boxes z + 1 + 1 + 1 and z + 1 + 1 hold known and best, all below is kept. -/
def NearB (z : Nat) (W wr : World) (known best : Nat) : Prop := Below (z + 1 + 1) W wr ∧ Num1 wr (z + 1 + 1 + 1) known ∧ Num1 wr (z + 1 + 1) best

set_option maxHeartbeats 4000000 in
set_option maxRecDepth 100000 in
theorem pnear (A Z : Option Addr) (n c m d : Nat) (ts : List (List Int × List Int)) (ws : List Int) (w : World) (hT : Trs w A n ts) (hW : Ints w Z m ws) (hS : Srt ts) (hF : Full ts) (hc : n ≤ c) :
    Calls Try.prog 67 #[.slice A n c, .slice Z m d] w fun e w' => ∃ best known : Nat, e = .returned (.tuple #[.int .i64 best, .int .i64 known]) ∧ known = knw ts ws n ∧ Hid (Got ts ws best known) ∧ Below w.heap.size w w' := by
  have hn := hT.2.1
  have HLN := Lib.hid hT.1
  have HWL := Lib.hid hW.1
  have HT := Lib.hid hT
  have HW := Lib.hid hW
  have HS := Lib.hid hS
  have HF := Lib.hid hF
  have hcn : (n : Int) ≤ (c : Int) := by omega
  clear hT hW hS hF
  obtain ⟨hb0, hl0, hv0, hx0, hy0, hs0⟩ := boxes4 w (.slice A n c) (.slice Z m d) (.int .i64 0) (.int .i64 0) 22 36 3 3 _ rfl
  go_enter Try.func67, Try.ntmps67
  go_wp2
  generalize (((w.alloc (.cells #[.slice A n c] 22)).alloc (.cells #[.slice Z m d] 36)).alloc (.cells #[.int .i64 0] 3)).alloc (.cells #[.int .i64 0] 3) = W4 at hb0 hl0 hv0 hx0 hy0 hs0 ⊢
  have HB0 := Lib.hid hb0
  have HL0 := Lib.hid hl0
  have HV0 := Lib.hid hv0
  have HS0 := Lib.hid hs0
  have HN0 := Lib.hid (show NearB w.heap.size W4 W4 (0 : Nat) (0 : Nat) from ⟨Below.refl _ _, hy0, hx0⟩)
  clear hb0 hl0 hv0 hx0 hy0 hs0
  go_loopw [9] (fun v9 wr => ∃ e best known : Nat, v9 = .int .i64 e ∧ e ≤ n ∧ known ≤ m ∧ Hid (NearB w.heap.size W4 wr known best) ∧ Hid (Got ts ws best known) ∧ Hid (Cvd ts ws e n known)) (fun v9 _ => (intOf v9).toNat)
  case atStart => exact ⟨n, 0, 0, rfl, Nat.le_refl _, Nat.zero_le _, HN0, Lib.hid (Got.zero _ _), Lib.hid (Cvd.none _ _ _ _)⟩
  case round =>
    obtain ⟨e, best, known, rfl, hen, hkm, HN, HG, HC⟩ := hrel
    obtain ⟨hbr, hkn, hbs⟩ := HN.out
    have hbw : Below w.heap.size w wr := HB0.out.trans (hbr.mono (by omega))
    have HBW := Lib.hid hbw
    have HTr := Lib.hid (HT.out.below hbw)
    have HWr := Lib.hid (HW.out.below hbw)
    have c0 := (hbr.cell (p := ⟨w.heap.size, 0, none⟩) (by show w.heap.size < w.heap.size + 1 + 1; omega)).trans HL0.out
    have c1 := (hbr.cell (p := ⟨w.heap.size + 1, 0, none⟩) (by show w.heap.size + 1 < w.heap.size + 1 + 1; omega)).trans HV0.out
    have c2 := hkn.cell.1
    have c3 := hbs.cell.1
    have hZ : m ≤ 17592186044416 := HW.out.2.1
    by_cases h0 : 0 < e
    · obtain ⟨b, off, A1, n1, c1, A2, n2, c2, rfl, hgb, k1, k2, _, _, k3, k4⟩ := HTr.out.at_ (k := e - 1) (by omega)
      obtain ⟨ep, hep⟩ : ∃ ep, e = ep + 1 := ⟨e - 1, by omega⟩
      have hee : e - 1 = ep := by omega
      rw [hee] at k1 k2 k3 k4
      have hw1 : IntKind.i64.wrap ((e : Int) - 1) = (ep : Int) := by rw [IntKind.wrap_i64]; omega
      have hw2 : (ep : Int) < (n : Int) := by omega
      have hw3 : (0 : Int) ≤ (ep : Int) := by omega
      have HL1 := Lib.hid k3.1
      have hn1 := k3.2.1
      have HE := Lib.hid hep
      clear hep hee k3 k4
      by_cases hk : known < n1
      · have HBR := Lib.hid hbr
        have HKN := Lib.hid hkn
        have HBS := Lib.hid hbs
        clear hbr hkn hbs hbw
        have hz4 : w.heap.size + 4 ≤ wr.heap.size := by have := HBR.out.size; rw [HS0.out] at this; exact this
        have HZ4 := Lib.hid hz4
        have hE2 : (e : Int) ≤ (c : Int) := by omega
        go_wp2
        go_quiet (fail)
        go_wp2_with fail
        refine (pbsi 102 n1 (fun j => ((tIn ts j).length : Int) - n1) (some ⟨b, off, none⟩) e c (ts.take e) _ entN2 ((HTr.out.drewN _).first hen)
          (fun j hj B1 p1 d1 B2 p2 d2 W hbW hI => by rw [tIn_take ts hj] at hI; exact pnear2 B1 B2 p1 d1 p2 d2 n1 _ W hI hn1)
          (fun a b' h1 h2 h3 => by have := HS.out.len h1 (by rw [HLN.out]; omega); have h4 : ((tIn ts b').length : Int) - n1 < 0 := h3; show ((tIn ts a).length : Int) - n1 < 0; omega)).mono ?_
        rintro r w5 ⟨s, v5, rfl, hse, G1, G2, b5⟩
        have b5 : Below wr.heap.size wr w5 := (below_drewN (Below.refl _ wr) _).trans b5
        have HGL := Lib.hid (group_len (L := n1) HS.out (by rw [HLN.out]; exact hen) h0 (by rw [HE.out, Nat.add_sub_cancel, HL1.out]) (fun j hj => G1.out j hj) (fun j h1 h2 => G2.out j h1 h2) hse)
        have hsl := HGL.out.1
        have HN5 := Lib.hid (show NearB w.heap.size W4 w5 known best from ⟨HBR.out.trans (b5.mono (by omega)), HKN.out.below b5 (by omega), HBS.out.below b5 (by omega)⟩)
        have HT5 := Lib.hid (HTr.out.below b5)
        have HW5 := Lib.hid (HWr.out.below b5)
        have hz5 : w.heap.size + 4 ≤ w5.heap.size := Nat.le_trans hz4 b5.size
        have c0 := (HN5.out.1.cell (p := ⟨w.heap.size, 0, none⟩) (by show w.heap.size < w.heap.size + 1 + 1; omega)).trans HL0.out
        have c1 := (HN5.out.1.cell (p := ⟨w.heap.size + 1, 0, none⟩) (by show w.heap.size + 1 < w.heap.size + 1 + 1; omega)).trans HV0.out
        have s1 : (s : Int) ≤ (e : Int) := by omega
        have s2 : (0 : Int) ≤ (s : Int) := by omega
        clear G1 G2 b5
        go_wp2_with fail
        refine (pbsw 104 Z m d (fun j => lexi (tIn ts (s + j)) ws) (some ⟨b, off + s * 2, none⟩) (e - s) (c - s) ((ts.drop s).take (e - s)) w5 entN3 (HT5.out.sub (by omega))
          (fun j hj B1 p1 d1 B2 p2 d2 W hbW hI => by rw [tIn_sub ts hj] at hI; exact pnear3 B1 B2 Z p1 d1 p2 d2 m d _ ws W hI (HW5.out.below hbW))
          (fun a b' h1 h2 h3 => by
            have h4 : lexi (tIn ts (s + b')) ws < 0 := h3
            show lexi (tIn ts (s + a)) ws < 0
            rw [lexi_lexR] at h4 ⊢
            exact lex_mono HS.out HGL.out.2 (by rw [HLN.out]; exact hen) (by omega) (by omega) h4)).mono ?_
        rintro r w6 ⟨p, v6, rfl, hpl, G1, G2, b6⟩
        have HN6 := Lib.hid (show NearB w.heap.size W4 w6 known best from ⟨HN5.out.1.trans (b6.mono (by omega)), HN5.out.2.1.below b6 (by omega), HN5.out.2.2.below b6 (by omega)⟩)
        have HB6 := Lib.hid (show Below w.heap.size w w6 from HB0.out.trans (HN6.out.1.mono (by omega)))
        have HZ6 := Lib.hid (show w.heap.size + 4 ≤ w6.heap.size from Nat.le_trans hz5 b6.size)
        have HLO := Lib.hid (show ∀ j, j < p → lexR (tIn ts (s + j)) ws < 0 from fun j hj => by rw [← lexi_lexR]; exact G1.out j hj)
        have HHI := Lib.hid (show ∀ j, p ≤ j → j < e - s → 0 ≤ lexR (tIn ts (s + j)) ws from fun j h1 h2 => by rw [← lexi_lexR]; exact G2.out j h1 h2)
        clear G1 G2 b6 hz4 hz5
        have hw4 : IntKind.i64.wrap ((p : Int) - 1) = (p : Int) - 1 := by rw [IntKind.wrap_i64]; omega
        have hpe : p ≤ e - s := hpl
        go_wp2
        all_goals
          go_loopw [16] (fun v16 wi => ∃ q best' known' : Nat, v16 = .int .i64 q ∧ p ≤ q + 1 ∧ q ≤ e - s ∧ q ≤ p + 1 ∧ known ≤ known' ∧ known' ≤ m ∧ Hid (NearB w.heap.size W4 wi known' best') ∧ Hid (Got ts ws best' known') ∧ Hid (Cvd ts ws (s + (p - 1)) (s + q) known')) (fun v16 _ => (p + 1) - (intOf v16).toNat)
          case atStart => exact ⟨p - 1, best, known, by congr 1; omega, by omega, by omega, by omega, Nat.le_refl _, hkm, HN6, HG, Lib.hid (Cvd.none _ _ _ _)⟩
          case round =>
            obtain ⟨q, best', known', rfl, hq1, hq2, hq3, hkk, hkm', HN', HG', HC'⟩ := hrel
            have d0 := (HN'.out.1.cell (p := ⟨w.heap.size, 0, none⟩) (by show w.heap.size < w.heap.size + 1 + 1; omega)).trans HL0.out
            have d1 := (HN'.out.1.cell (p := ⟨w.heap.size + 1, 0, none⟩) (by show w.heap.size + 1 < w.heap.size + 1 + 1; omega)).trans HV0.out
            have HBX := Lib.hid (show Below w.heap.size w wr from HB0.out.trans (HN'.out.1.mono (by omega)))
            by_cases hq4 : q < e - s
            · by_cases hq5 : q ≤ p
              · obtain ⟨j, hj⟩ : ∃ j, j = s + q := ⟨_, rfl⟩
                have hjw : IntKind.i64.wrap ((s : Int) + (q : Int)) = (j : Int) := by rw [IntKind.wrap_i64]; omega
                have HJ := Lib.hid hj
                have hjn : j < n := by omega
                clear hj
                have HX := Lib.hid (pexam wr w.heap.size (w.heap.size + 1) (w.heap.size + 1 + 1 + 1) (w.heap.size + 1 + 1) (w.heap.size + 1 + 1) n c m d j known' best' (some ⟨b, off, none⟩) Z ts ws hjn d0 d1 HN'.out.2.1 HN'.out.2.2 (by omega) (by omega) (Nat.le_refl _) (HT.out.below HBX.out) (HF.out j (by rw [HLN.out]; exact hjn)) (HW.out.below HBX.out))
                go_wp2_with fail
                refine HX.out.mono ?_
                rintro r w7 ⟨rfl, best2, hk2, hb2, HG2, hb7⟩
                have HN2 := Lib.hid (show NearB w.heap.size W4 w7 (max known' (cmn (tIn ts j) ws)) best2 from ⟨HN'.out.1.trans hb7, hk2, hb2⟩)
                have HC2 := Lib.hid ((HC'.out.mono (Nat.le_max_left known' (cmn (tIn ts j) ws))).snoc (by rw [← HJ.out]; exact Nat.le_max_right _ _))
                have HLE := Lib.hid (cmn_le_right (tIn ts j) ws)
                clear hk2 hb2 hb7
                go_wp2
                go_roundw
                case rel => exact ⟨q + 1, best2, max known' (cmn (tIn ts j) ws), by go_num, by omega, by omega, by omega, by omega, by have := HLE.out; have := HWL.out; omega, HN2, Lib.hid (HG2.out HG'.out), by rw [← Nat.add_assoc]; exact HC2⟩
                case measure => simp [intOf]; omega
              · have HF2 := Lib.hid (group_done (k := known') HS.out (by rw [HLN.out]; exact hen) hsl HGL.out.2 hpe HLO.out HHI.out (by rw [show min (e - s) (p + 1) = q by omega]; exact HC'.out))
                go_wp2
                go_roundw
                case rel => exact ⟨s, best', known', rfl, by omega, hkm', HN', HG', Lib.hid (HF2.out.join (HC.out.mono hkk))⟩
                case measure => simp [intOf]; omega
            · have HF2 := Lib.hid (group_done (k := known') HS.out (by rw [HLN.out]; exact hen) hsl HGL.out.2 hpe HLO.out HHI.out (by rw [show min (e - s) (p + 1) = q by omega]; exact HC'.out))
              go_wp2
              go_roundw
              case rel => exact ⟨s, best', known', rfl, by omega, hkm', HN', HG', Lib.hid (HF2.out.join (HC.out.mono hkk))⟩
              case measure => simp [intOf]; omega
      · have HK := Lib.hid (near_done (w := ws) (best := best) HS.out (by rw [HLN.out]; exact hen) HG.out (by rw [HLN.out]; exact HC.out) (.inr (by rw [HE.out, Nat.add_sub_cancel, HL1.out]; omega)))
        clear hbr hkn hbs hbw
        go_wp2
        go_quiet (fail)
        go_wp2
        go_quiet (fail)
        go_wp2
        go_ret2
        exact ⟨best, known, rfl, by rw [HK.out, HLN.out], HG, below_drewN (below_drewN HBW.out _) _⟩
    · have HK := Lib.hid (near_done (w := ws) (best := best) HS.out (by rw [HLN.out]; exact hen) HG.out (by rw [HLN.out]; exact HC.out) (.inl (by omega)))
      clear hbr hkn hbs hbw
      go_wp2
      go_quiet (fail)
      go_wp2
      go_quiet (fail)
      go_wp2
      go_ret2
      exact ⟨best, known, rfl, by rw [HK.out, HLN.out], HG, below_drewN (below_drewN HBW.out _) _⟩
end Go.Proofs.Ytkgdgnmobahhfaa
end

section
/- Is a trace proper? How far does it agree with what is known? -/
namespace Go.Proofs.Ytkgdgnmobahhfaa
open Go.RowKit

/-- The error of the outputs of a trace. -/
def ansE (xs ys : List Int) : Int := if ys.length = xs.length then (if ∀ y, y ∈ ys → 0 ≤ y ∧ y ≤ 1048576 then 0 else 2) else 1
/-- The error of a trace. -/
def prpE (xs ys : List Int) (i : Int) : Int := if chk xs i = 0 then ansE xs ys else chk xs i
theorem ansE_len {xs ys : List Int} (h : ¬ ys.length = xs.length) : ansE xs ys = 1 := by unfold ansE; rw [if_neg h]
theorem ansE_ok {xs ys : List Int} (h : ys.length = xs.length) (hv : ∀ y, y ∈ ys → 0 ≤ y ∧ y ≤ 1048576) : ansE xs ys = 0 := by unfold ansE; rw [if_pos h, if_pos hv]
theorem ansE_bad {xs ys : List Int} {k : Nat} (h : ys.length = xs.length) (hk : k < ys.length) (hv : ¬ (0 ≤ ys.getD k 0 ∧ ys.getD k 0 ≤ 1048576)) : ansE xs ys = 2 := by
  unfold ansE
  rw [if_pos h, if_neg]
  intro hall
  apply hv
  rw [List.getD_eq_getElem?_getD, List.getElem?_eq_getElem hk]
  exact hall _ (List.getElem_mem _)
theorem ansE_zero {xs ys : List Int} (h : ansE xs ys = 0) : ys.length = xs.length ∧ ∀ y, y ∈ ys → 0 ≤ y ∧ y ≤ 1048576 := by
  unfold ansE at h
  split at h
  · split at h
    · exact ⟨by assumption, by assumption⟩
    · omega
  · omega
theorem all_snoc {ys : List Int} {k : Nat} (ha : ∀ j, j < k → 0 ≤ ys.getD j 0 ∧ ys.getD j 0 ≤ 1048576) (hv : 0 ≤ ys.getD k 0 ∧ ys.getD k 0 ≤ 1048576) : ∀ j, j < k + 1 → 0 ≤ ys.getD j 0 ∧ ys.getD j 0 ≤ 1048576 := fun j hj => by
  rcases Nat.lt_or_ge j k with h | h
  · exact ha j h
  · rw [show j = k by omega]; exact hv
theorem all_done {ys : List Int} (ha : ∀ j, j < ys.length → 0 ≤ ys.getD j 0 ∧ ys.getD j 0 ≤ 1048576) : ∀ y, y ∈ ys → 0 ≤ y ∧ y ≤ 1048576 := fun y hy => by
  obtain ⟨j, hj, rfl⟩ := List.getElem_of_mem hy
  have := ha j hj
  rwa [List.getD_eq_getElem?_getD, List.getElem?_eq_getElem hj] at this

set_option maxHeartbeats 1000000 in
theorem panswered (A B : Option Addr) (n c m d : Nat) (xs ys : List Int) (w : World) (hx : Ints w A n xs) (hy : Ints w B m ys) :
    Calls Try.prog 92 #[.agg #[.slice A n c, .slice B m d]] w fun e w' => e = .returned (.int .i64 (ansE xs ys)) ∧ Below w.heap.size w w' := by
  have hb0 := alloc_below w (.cells #[.slice A n c, .slice B m d] 38)
  have HY := Lib.hid (hy.below hb0)
  have HB := Lib.hid hb0
  have hn := hx.2.1
  have hm := hy.2.1
  have LX := Lib.hid hx.1
  have LY := Lib.hid hy.1
  have k0 : (w.alloc (.cells #[.slice A n c, .slice B m d] 38)).cell? ⟨w.heap.size, 0, none⟩ = some (.slice A n c) := by simp
  have k1 : (w.alloc (.cells #[.slice A n c, .slice B m d] 38)).cell? ⟨w.heap.size, 1, none⟩ = some (.slice B m d) := by simp
  clear hx hy hb0
  by_cases hl : m = n
  · subst hl
    have HL := Lib.hid (show ys.length = xs.length by rw [LX.out, LY.out])
    go_enter Try.func92, Try.ntmps92
    go_wp2
    go_loopw [15] (fun jv wr => ∃ k : Nat, k ≤ m ∧ jv = .int .i64 k ∧ Hid (∀ j, j < k → 0 ≤ ys.getD j 0 ∧ ys.getD j 0 ≤ 1048576) ∧ ∃ q, wr = (w.alloc (.cells #[.slice A m c, .slice B m d] 38)).drewN q) (fun jv _ => m - (intOf jv).toNat)
    case atStart => exact ⟨0, Nat.zero_le _, rfl, Lib.hid (fun j h => absurd h (by omega)), 0, rfl⟩
    case round =>
      obtain ⟨k, hk, rfl, HA, q, rfl⟩ := hrel
      by_cases hlt : k < m
      · obtain ⟨b, o, rfl, _, hc⟩ := HY.out.at_ hlt
        obtain ⟨y, hyv⟩ : ∃ y, y = ys.getD k 0 := ⟨_, rfl⟩
        rw [← hyv] at hc
        have HV := Lib.hid hyv
        clear hyv
        by_cases h1 : y < 0
        · have HE := Lib.hid (ansE_bad HL.out (by rw [LY.out]; exact hlt) (by rw [← HV.out]; omega))
          go_wp2
          go_ret
          exact ⟨by rw [HE.out]; rfl, below_drewN HB.out _⟩
        · by_cases h2 : 1048576 < y
          · have HE := Lib.hid (ansE_bad HL.out (by rw [LY.out]; exact hlt) (by rw [← HV.out]; omega))
            go_wp2
            go_ret
            exact ⟨by rw [HE.out]; rfl, below_drewN HB.out _⟩
          · have HA2 := Lib.hid (all_snoc HA.out (by rw [← HV.out]; omega))
            go_wp2
            go_roundw
            case rel => exact ⟨k + 1, by omega, by go_num, HA2, q, rfl⟩
            case measure => simp [intOf]; omega
      · obtain rfl : k = m := by omega
        have HE := Lib.hid (ansE_ok HL.out (all_done (by rw [LY.out]; exact HA.out)))
        go_wp2
        go_ret
        exact ⟨by rw [HE.out]; rfl, below_drewN HB.out _⟩
  · have HE := Lib.hid (ansE_len (xs := xs) (ys := ys) (by rw [LX.out, LY.out]; exact hl))
    have hne : ((m : Int) != (n : Int)) = true := by simpa using (by omega : ¬ (m : Int) = n)
    have hl' : ¬ (m : Int) = (n : Int) := by omega
    go_enter Try.func92, Try.ntmps92
    go_wp2
    go_ret
    exact ⟨by rw [HE.out]; rfl, HB.out⟩

set_option maxHeartbeats 1000000 in
theorem pproper (A B : Option Addr) (n c m d : Nat) (i : Int) (xs ys : List Int) (w : World) (hx : Ints w A n xs) (hy : Ints w B m ys) :
    Calls Try.prog 70 #[.agg #[.slice A n c, .slice B m d], .int .i64 i] w fun e w' => e = .returned (.int .i64 (prpE xs ys i)) ∧ Below w.heap.size w w' := by
  have hb0 := alloc_below w (.cells #[.slice A n c, .slice B m d] 38)
  have HX := Lib.hid (hx.below hb0)
  have HY := Lib.hid (hy.below hb0)
  have HB := Lib.hid hb0
  have k0 : (w.alloc (.cells #[.slice A n c, .slice B m d] 38)).cell? ⟨w.heap.size, 0, none⟩ = some (.slice A n c) := by simp
  have k1 : (w.alloc (.cells #[.slice A n c, .slice B m d] 38)).cell? ⟨w.heap.size, 1, none⟩ = some (.slice B m d) := by simp
  clear hx hy hb0
  by_cases hc : chk xs i = 0
  · have HP := Lib.hid (show prpE xs ys i = ansE xs ys by unfold prpE; rw [if_pos hc])
    have HC := Lib.hid hc
    clear hc
    go_enter Try.func70, Try.ntmps70
    go_wp2_with fail
    refine (wcheck _ _ _ _ xs _ HX.out).mono ?_
    rintro e w2 ⟨rfl, rfl⟩
    rw [HC.out]
    go_wp2_with fail
    refine (panswered A B n c m d xs ys _ HX.out HY.out).mono ?_
    rintro e w3 ⟨rfl, b3⟩
    have HB3 := Lib.hid (bt HB.out b3)
    clear b3
    go_wp2
    go_ret
    exact ⟨by rw [HP.out]; rfl, HB3.out⟩
  · have HP := Lib.hid (show prpE xs ys i = chk xs i by unfold prpE; rw [if_neg hc])
    have hne : (chk xs i != 0) = true := by simpa using hc
    go_enter Try.func70, Try.ntmps70
    go_wp2_with fail
    refine (wcheck _ _ _ _ xs _ HX.out).mono ?_
    rintro e w2 ⟨rfl, rfl⟩
    obtain ⟨E, hE⟩ : ∃ E, E = chk xs i := ⟨_, rfl⟩
    have HE := Lib.hid hE
    rw [← hE] at hne hc ⊢
    clear hE
    go_wp2
    go_ret
    exact ⟨by rw [HP.out, ← HE.out]; rfl, HB.out⟩

/-- How many of the known outputs agree. -/
def agrN (ts : List (List Int × List Int)) (best known : Nat) (ys : List Int) : Nat := if known = 0 then 0 else cmn ((tOut ts best).take known) ys

set_option maxHeartbeats 1000000 in
theorem pagreed (L A B : Option Addr) (l lc n c m d best known : Nat) (ts : List (List Int × List Int)) (ys : List Int) (w : World) (hT : Trs w L l ts) (hy : Ints w B m ys)
    (hb : 0 < known → best < l ∧ known ≤ (tOut ts best).length) :
    Calls Try.prog 71 #[.slice L l lc, .int .i64 best, .int .i64 known, .agg #[.slice A n c, .slice B m d]] w fun e w' => e = .returned (.int .i64 (agrN ts best known ys)) ∧ Below w.heap.size w w' := by
  have hb0 := alloc_below w (.cells #[.slice A n c, .slice B m d] 38)
  have HT := Lib.hid (hT.below hb0)
  have HY := Lib.hid (hy.below hb0)
  have HB := Lib.hid hb0
  have k0 : (w.alloc (.cells #[.slice A n c, .slice B m d] 38)).cell? ⟨w.heap.size, 0, none⟩ = some (.slice A n c) := by simp
  have k1 : (w.alloc (.cells #[.slice A n c, .slice B m d] 38)).cell? ⟨w.heap.size, 1, none⟩ = some (.slice B m d) := by simp
  have hl := hT.2.1
  clear hT hy hb0
  by_cases h0 : known = 0
  · subst h0
    go_enter Try.func71, Try.ntmps71
    go_wp2
    go_ret
    exact ⟨rfl, HB.out⟩
  · obtain ⟨hbl, hkl⟩ := hb (by omega)
    have HN := Lib.hid (show agrN ts best known ys = cmn ((tOut ts best).take known) ys by unfold agrN; rw [if_neg h0])
    obtain ⟨b, off, A1, n1, c1, A2, n2, c2, rfl, hg, j1, j2, q1, q2, j3, j4⟩ := HT.out.at_ hbl
    have hn2 : n2 = (tOut ts best).length := j4.1.symm
    have hz : ((known : Int) == 0) = false := by simpa using h0
    have h1 : (known : Int) ≤ (c2 : Int) := by omega
    have h2 : (0 : Int) ≤ (known : Int) := by omega
    have h3 : (best : Int) < (l : Int) := by omega
    have h4 : (0 : Int) ≤ (best : Int) := by omega
    have j5 : Ints (w.alloc (.cells #[.slice A n c, .slice B m d] 38)) A2 known ((tOut ts best).take known) := by
      have h6 := j4.2.1
      refine ⟨by simp; omega, by omega, fun h => ?_⟩
      obtain ⟨b', o', e, hlt, hc⟩ := j4.2.2 (by omega)
      refine ⟨b', o', e, hlt, fun j hj => ?_⟩
      rw [hc j (by omega)]
      congr 2
      rw [List.getD_eq_getElem?_getD, List.getD_eq_getElem?_getD, List.getElem?_take_of_lt hj]
    have HC := Lib.hid (fun q => wcommon A2 B known c2 m d _ ys ((w.alloc (.cells #[.slice A n c, .slice B m d] 38)).drewN q) (j5.drewN q) (HY.out.drewN q))
    have hbi := Lib.hid hb
    clear hb j3 j4 j5 hn2 h0
    go_enter Try.func71, Try.ntmps71
    go_wp2
    go_quiet ((go_at_call 96; exact Calls.quiet_of (HC.out _)))
    go_wp2
    go_ret
    exact ⟨by rw [HN.out]; rfl, below_drewN HB.out _⟩
end Go.Proofs.Ytkgdgnmobahhfaa
end

section
/- A region that draws its order and some of whose operations, which wait for all that read, may write what is read: the fact S is kept by the others only. Operations that read nothing are taken first, too. -/
namespace Go.Proofs.Ytkgdgnmobahhfaa

section
variable {P : Program} {ops : Array Oper} {Q : Exit → Act → World → Prop} {md : Region.Mode} {S : World → Prop} {X : Nat → Bool}
/-- S is kept by every operation but those of X. -/
def wpAnyX (P : Program) (md : Region.Mode) (ops : Array Oper) (Q : Exit → Act → World → Prop) (S : World → Prop) (X : Nat → Bool) : Nat → Array Bool → Act → World → Prop
  | 0, listed, a, w => Region.ready md ops listed = [] ∧ Q .normal a w
  | fuel + 1, listed, a, w =>
    (Region.ready md ops listed = [] → Q .normal a w) ∧
    ∀ i ∈ Region.ready md ops listed, wpOp P ops Q i (fun a' w' => (X i = false → S w → S w') ∧ wpAnyX P md ops Q S X fuel (listed.setIfInBounds i true) a' w') a w
theorem wpAny_of_heldX : ∀ (fuel : Nat) (listed : Array Bool) (a : Act) (w : World), wpAnyX P md ops Q S X fuel listed a w → wpAny P md ops Q fuel listed a w
  | 0, _, _, _, h => h
  | fuel + 1, _, _, _, h => ⟨h.1, fun i hi => wpOp_mono (fun a' w' h' => wpAny_of_heldX fuel _ a' w' h'.2) (h.2 i hi)⟩
theorem wpAnyX_first {i : Nat} {oi : Oper} {v : Value} (hi : ops[i]? = some oi) (hk : ∀ k, X k = true → Region.waitsFor md ops k i = true) (hsel : ∀ (j : Nat) (o : Oper) cs b, ops[j]? = some o → o.op ≠ .select cs b)
    (hQ : ∀ c a w, Q (.panic c) (a.put oi.dst v) w → Q (.panic c) a w) :
    ∀ (fuel : Nat) (listed : Array Bool) (a : Act) (w : World),
      (∀ j oj, ops[j]? = some oj → j ≠ i → listed.getD j true = false → (∀ e ∈ oj.after, Region.binds md e = true → e.on ≠ i) → oi.apart ops oj = true) →
      i ∈ Region.ready md ops listed → YieldsIf P ops S oi v a → S w →
      wpAnyX P md ops Q S X fuel (listed.setIfInBounds i true) (a.put oi.dst v) w → wpAnyX P md ops Q S X (fuel + 1) listed a w := by
  intro fuel
  induction fuel with
  | zero =>
    intro listed a w _ hr hy hS H
    refine ⟨fun h => (by rw [h] at hr; cases hr), fun j hj => ?_⟩
    by_cases hji : j = i
    · subst hji; exact hy.wpOp hi hS ⟨fun _ h => h, H⟩
    · have := ready_mono hj hji
      rw [H.1] at this
      cases this
  | succ fuel ih =>
    intro listed a w hfree hr hy hS H
    refine ⟨fun h => (by rw [h] at hr; cases hr), fun j hj => ?_⟩
    by_cases hji : j = i
    · subst hji; exact hy.wpOp hi hS ⟨fun _ h => h, H⟩
    · have h1 := H.2 j (ready_mono hj hji)
      obtain ⟨hjun, oj, hoj, hall⟩ := mem_ready.1 hj
      have hnot : ∀ e ∈ oj.after, Region.binds md e = true → e.on ≠ i := fun e he hb heq => by
        have h1 := hall e he hb
        have h0 := (mem_ready.1 hr).1
        rw [heq] at h1
        rcases Nat.lt_or_ge i listed.size with h' | h'
        · simp [h'] at h0 h1; rw [h0] at h1; cases h1
        · simp [Array.getElem?_eq_none h'] at h1
      have hjk : X j = false := by
        rcases hXj : X j with _ | _
        · rfl
        · obtain ⟨o', ho', e, he, hb, hon⟩ := Region.waitsFor_spec (hk j hXj)
          have : o' = oj := Option.some.inj (ho'.symm.trans hoj)
          subst this
          exact absurd hon (hnot e he hb)
      have h2 := wpOp_putIf hoj (hfree j oj hoj hji hjun hnot) (fun cs b => hsel i oi cs b hi) (fun cs b => hsel j oj cs b hoj) hQ hy h1
      have hfree' : ∀ l ok, ops[l]? = some ok → l ≠ i → (listed.setIfInBounds j true).getD l true = false →
          (∀ e ∈ ok.after, Region.binds md e = true → e.on ≠ i) → oi.apart ops ok = true := fun l ok hl hli hun hno => by
        refine hfree l ok hl hli ?_ hno
        by_cases hjl : j = l
        · subst hjl; exact hjun
        · rw [getD_set_ne true hjl] at hun; exact hun
      refine wpOp_mono (fun a' w' h3 => ⟨h3.2.1, ih (listed.setIfInBounds j true) a' w' hfree' (ready_mono hr (Ne.symm hji)) h3.1 (h3.2.1 hjk hS) ?_⟩) h2
      rw [Array.setIfInBounds_comm _ _ hji]
      exact h3.2.2
theorem wpAnyX_firstP {i : Nat} {oi : Oper} {v : Value} (hi : ops[i]? = some oi) (hsel : ∀ (j : Nat) (o : Oper) cs b, ops[j]? = some o → o.op ≠ .select cs b)
    (hQ : ∀ c a w, Q (.panic c) (a.put oi.dst v) w → Q (.panic c) a w) :
    ∀ (fuel : Nat) (listed : Array Bool) (a : Act) (w : World),
      (∀ j oj, ops[j]? = some oj → j ≠ i → listed.getD j true = false → (∀ e ∈ oj.after, Region.binds md e = true → e.on ≠ i) → oi.apart ops oj = true) →
      i ∈ Region.ready md ops listed → YieldsIf P ops (fun _ => True) oi v a →
      wpAnyX P md ops Q S X fuel (listed.setIfInBounds i true) (a.put oi.dst v) w → wpAnyX P md ops Q S X (fuel + 1) listed a w := by
  intro fuel
  induction fuel with
  | zero =>
    intro listed a w _ hr hy H
    refine ⟨fun h => (by rw [h] at hr; cases hr), fun j hj => ?_⟩
    by_cases hji : j = i
    · subst hji; exact hy.wpOp hi trivial ⟨fun _ h => h, H⟩
    · have := ready_mono hj hji
      rw [H.1] at this
      cases this
  | succ fuel ih =>
    intro listed a w hfree hr hy H
    refine ⟨fun h => (by rw [h] at hr; cases hr), fun j hj => ?_⟩
    by_cases hji : j = i
    · subst hji; exact hy.wpOp hi trivial ⟨fun _ h => h, H⟩
    · have h1 := H.2 j (ready_mono hj hji)
      obtain ⟨hjun, oj, hoj, hall⟩ := mem_ready.1 hj
      have hnot : ∀ e ∈ oj.after, Region.binds md e = true → e.on ≠ i := fun e he hb heq => by
        have h1 := hall e he hb
        have h0 := (mem_ready.1 hr).1
        rw [heq] at h1
        rcases Nat.lt_or_ge i listed.size with h' | h'
        · simp [h'] at h0 h1; rw [h0] at h1; cases h1
        · simp [Array.getElem?_eq_none h'] at h1
      have h2 := wpOp_putIf hoj (hfree j oj hoj hji hjun hnot) (fun cs b => hsel i oi cs b hi) (fun cs b => hsel j oj cs b hoj) hQ hy h1
      have hfree' : ∀ l ok, ops[l]? = some ok → l ≠ i → (listed.setIfInBounds j true).getD l true = false →
          (∀ e ∈ ok.after, Region.binds md e = true → e.on ≠ i) → oi.apart ops ok = true := fun l ok hl hli hun hno => by
        refine hfree l ok hl hli ?_ hno
        by_cases hjl : j = l
        · subst hjl; exact hjun
        · rw [getD_set_ne true hjl] at hun; exact hun
      refine wpOp_mono (fun a' w' h3 => ⟨h3.2.1, ih (listed.setIfInBounds j true) a' w' hfree' (ready_mono hr (Ne.symm hji)) h3.1 ?_⟩) h2
      rw [Array.setIfInBounds_comm _ _ hji]
      exact h3.2.2
/-- Take number i, which reads what S says, first. -/
theorem wpAnyX_take {i : Nat} {oi : Oper} {v : Value} {fuel : Nat} {listed : Array Bool} {a : Act} {w : World} (hi : ops[i]? = some oi) (hk : ∀ k, X k = true → Region.waitsFor md ops k i = true)
    (hs : Region.noSelect ops = true) (hf : Region.free md ops listed i = true) (hr : (Region.ready md ops listed).contains i = true)
    (hQ : ∀ c a w, Q (.panic c) (a.put oi.dst v) w → Q (.panic c) a w) (hy : YieldsIf P ops S oi v a) (hS : S w)
    (h : wpAnyX P md ops Q S X fuel (listed.setIfInBounds i true) (a.put oi.dst v) w) : wpAnyX P md ops Q S X (fuel + 1) listed a w :=
  wpAnyX_first hi hk (Region.noSelect_spec hs) hQ fuel listed a w (Region.free_spec hi hf) (by simpa using hr) hy hS h
theorem wpAnyX_takeL {L : List Nat} {i : Nat} {oi : Oper} {v : Value} {fuel : Nat} {listed : Array Bool} {a : Act} {w : World} (hi : ops[i]? = some oi) (hk : (L.all fun k => Region.waitsFor md ops k i) = true)
    (hs : Region.noSelect ops = true) (hf : Region.free md ops listed i = true) (hr : (Region.ready md ops listed).contains i = true)
    (hQ : ∀ c a w, Q (.panic c) (a.put oi.dst v) w → Q (.panic c) a w) (hy : YieldsIf P ops S oi v a) (hS : S w)
    (h : wpAnyX P md ops Q S (fun k => L.contains k) fuel (listed.setIfInBounds i true) (a.put oi.dst v) w) : wpAnyX P md ops Q S (fun k => L.contains k) (fuel + 1) listed a w :=
  wpAnyX_take hi (fun k hX => List.all_eq_true.1 hk k (by simpa using hX)) hs hf hr hQ hy hS h
/-- Take number i, which reads nothing, first. -/
theorem wpAnyX_pure {i : Nat} {oi : Oper} {v : Value} {fuel : Nat} {listed : Array Bool} {a : Act} {w : World} (hi : ops[i]? = some oi)
    (hs : Region.noSelect ops = true) (hf : Region.free md ops listed i = true) (hr : (Region.ready md ops listed).contains i = true)
    (hQ : ∀ c a w, Q (.panic c) (a.put oi.dst v) w → Q (.panic c) a w) (hy : YieldsIf P ops (fun _ => True) oi v a)
    (h : wpAnyX P md ops Q S X fuel (listed.setIfInBounds i true) (a.put oi.dst v) w) : wpAnyX P md ops Q S X (fuel + 1) listed a w :=
  wpAnyX_firstP hi (Region.noSelect_spec hs) hQ fuel listed a w (Region.free_spec hi hf) (by simpa using hr) hy h
/-- The only one that may come up. -/
theorem wpAnyX_one {i : Nat} {o : Oper} {fuel : Nat} {listed : Array Bool} {a : Act} {w : World} (ho : ops[i]? = some o) (hr : Region.ready md ops listed = [i])
    (h : ∀ K' : Act → World → Prop, Shut (∀ a w', (X i = false → S w → S w') → wpAnyX P md ops Q S X fuel (listed.setIfInBounds i true) a w' → K' a w') → if Region.wanted o (yielded ops a.tmps) = true then Oper.wp P o a w K' Q else K' (a.put o.dst undef) w) : wpAnyX P md ops Q S X (fuel + 1) listed a w := by
  refine ⟨fun h0 => ?_, fun j hj => ?_⟩
  · rw [hr] at h0; cases h0
  · rw [hr] at hj
    obtain rfl := List.mem_singleton.1 hj
    exact wpOp_step ho (fun K' hK => h K' (fun a w hS hW => hK a w ⟨hS, hW⟩))
/-- One of two may come up. -/
theorem wpAnyX_two {i j : Nat} {o u : Oper} {fuel : Nat} {listed : Array Bool} {a : Act} {w : World} (ho : ops[i]? = some o) (hu : ops[j]? = some u) (hr : Region.ready md ops listed = [i, j])
    (h : ∀ K' : Act → World → Prop, Shut (∀ a w', (X i = false → S w → S w') → wpAnyX P md ops Q S X fuel (listed.setIfInBounds i true) a w' → K' a w') → if Region.wanted o (yielded ops a.tmps) = true then Oper.wp P o a w K' Q else K' (a.put o.dst undef) w)
    (k : ∀ K' : Act → World → Prop, Shut (∀ a w', (X j = false → S w → S w') → wpAnyX P md ops Q S X fuel (listed.setIfInBounds j true) a w' → K' a w') → if Region.wanted u (yielded ops a.tmps) = true then Oper.wp P u a w K' Q else K' (a.put u.dst undef) w) : wpAnyX P md ops Q S X (fuel + 1) listed a w := by
  refine ⟨fun h0 => ?_, fun l hl => ?_⟩
  · rw [hr] at h0; cases h0
  · rw [hr] at hl
    rcases List.mem_cons.1 hl with rfl | hl
    · exact wpOp_step ho (fun K' hK => h K' (fun a w hS hW => hK a w ⟨hS, hW⟩))
    · obtain rfl := List.mem_singleton.1 hl
      exact wpOp_step hu (fun K' hK => k K' (fun a w hS hW => hK a w ⟨hS, hW⟩))
theorem wpAnyX_done {listed : Array Bool} {a : Act} {w : World} (hr : Region.ready md ops listed = []) (h : Q .normal a w) : ∀ fuel, wpAnyX P md ops Q S X fuel listed a w
  | 0 => ⟨hr, h⟩
  | _ + 1 => ⟨fun _ => h, by rw [hr]; simp⟩
theorem wp_region_heldX {id : Nat} {a : Act} {w : World} (hm : P.follows .mixedOrders = true)
    (h : wpAnyX P .any ops Q S X ops.size (Array.replicate ops.size false) a w.drew) : (Code.region id ops true).wp P Q a w :=
  wp_region_any hm (wpAny_of_heldX _ _ _ _ h)
end
end Go.Proofs.Ytkgdgnmobahhfaa
end

section
/- Clash. -/
namespace Go.Proofs.Ytkgdgnmobahhfaa
open Go.RowKit

theorem results_clash {fn : Func} {p u : Tmp} (h : fn.results = #[.cell p 43, .tmp u]) (tmps : Array Value) (w : World) (g : Nat) (v1 v2 v3 : Value)
    (hp : tmps.getD p undef = .pointer (some ⟨g, 0, none⟩)) (hg : Bx w g #[v1, v2, v3] 43) :
    (results fn tmps).run Try.prog w = .ok (.tuple #[.agg #[v1, v2, v3], tmps.getD u undef]) w := by
  rw [results_cell_tmp h, hp]
  have hl := run_loadVar_row (P := Try.prog) w g 43 43 #[v1, v2, v3] (0, 0) _ hg Try.underlying43 rfl (by kernel_rfl)
  simp [asAddr, hl]

/-- The result of Clash: what is found is where the outputs of the trace best stop to agree. -/
def ClsR (ts : List (List Int × List Int)) (xs ys : List Int) (i : Int) (fd : Bool) (zs : List Int) (f s : Int) : Prop :=
  ∃ best, Got ts xs best (knw ts xs ts.length) ∧ ((fd = false ∧ zs = [] ∧ f = 0 ∧ s = 0 ∧ (¬ prpE xs ys i = 0 ∨ agrN ts best (knw ts xs ts.length) ys = knw ts xs ts.length)) ∨
    (fd = true ∧ prpE xs ys i = 0 ∧ agrN ts best (knw ts xs ts.length) ys < knw ts xs ts.length ∧ zs = xs.take (agrN ts best (knw ts xs ts.length) ys + 1) ∧ f = (tOut ts best).getD (agrN ts best (knw ts xs ts.length) ys) 0 ∧ s = ys.getD (agrN ts best (knw ts xs ts.length) ys) 0))
def ClsE (ts : List (List Int × List Int)) (xs ys : List Int) (i : Int) (w : World) (e : Ending) (w' : World) : Prop :=
  ∃ (fd : Bool) (A' : Option Addr) (l c' : Nat) (f s : Int) (zs : List Int), e = .returned (.tuple #[.agg #[.slice A' l c', .int .i64 f, .int .i64 s], .bool fd]) ∧ ClsR ts xs ys i fd zs f s ∧ Owned w' w.heap.size (.slice A' l c') zs ∧ Below w.heap.size w w'
theorem agrN_le (ts : List (List Int × List Int)) (best known : Nat) (ys : List Int) : agrN ts best known ys ≤ known := by
  unfold agrN
  split
  · omega
  · have := cmn_le_left ((tOut ts best).take known) ys
    rw [List.length_take] at this
    omega
theorem ClsE.none_ {ts : List (List Int × List Int)} {xs ys : List Int} {i : Int} {w w' : World} {best : Nat} (hg : Got ts xs best (knw ts xs ts.length)) (h : ¬ prpE xs ys i = 0 ∨ agrN ts best (knw ts xs ts.length) ys = knw ts xs ts.length) (hb : Below w.heap.size w w') :
    ClsE ts xs ys i w (.returned (.tuple #[.agg #[.slice none 0 0, .int .i64 0, .int .i64 0], .bool false])) w' :=
  ⟨false, none, 0, 0, 0, 0, [], rfl, ⟨best, hg, .inl ⟨rfl, rfl, rfl, rfl, h⟩⟩, Owned.nil _ _, hb⟩

theorem got_any (ts : List (List Int × List Int)) (xs : List Int) : ∃ best, Got ts xs best (knw ts xs ts.length) := by
  by_cases h : 0 < knw ts xs ts.length
  · obtain ⟨j, hj, e⟩ := knw_at h
    exact ⟨j, fun _ => ⟨hj, e⟩⟩
  · exact ⟨0, fun h' => absurd h' h⟩
theorem set3B {w0 w : World} {z g : Nat} (hb : Below z w0 w) (hg : z ≤ g) (x y u : Value) : Below z w0 (((w.setCell ⟨g, 0, none⟩ x).setCell ⟨g, 1, none⟩ y).setCell ⟨g, 2, none⟩ u) :=
  ((hb.setCell (p := ⟨g, 0, none⟩) hg x).setCell (p := ⟨g, 1, none⟩) hg y).setCell (p := ⟨g, 2, none⟩) hg u
theorem Bx.set3 {w : World} {g : Nat} {a b c : Value} {t : TypeId} (h : Bx w g #[a, b, c] t) (x y u : Value) : Bx (((w.setCell ⟨g, 0, none⟩ x).setCell ⟨g, 1, none⟩ y).setCell ⟨g, 2, none⟩ u) g #[x, y, u] t := by
  have := ((h.set 0 x).set 1 y).set 2 u
  simpa using this

set_option linter.unusedSimpArgs false in
set_option linter.unusedVariables false in
set_option maxHeartbeats 4000000 in
set_option maxRecDepth 100000 in
theorem pclash (i : Int) (T A B : Option Addr) (tn tc n c m d : Nat) (ts : List (List Int × List Int)) (xs ys : List Int) (w : World) (hT : Trs w T tn ts) (htc : tn ≤ tc) (hx : Ints w A n xs) (hnc : n ≤ c) (hy : Ints w B m ys) (hS : Srt ts) (hF : Full ts) :
    Calls Try.prog 26 #[.agg #[.int .i64 i, .slice T tn tc], .agg #[.slice A n c, .slice B m d]] w fun e w' => ClsE ts xs ys i w e w' := by
  obtain ⟨w0, hw0⟩ : ∃ w0, w0 = ((w.alloc (.cells #[.int .i64 i, .slice T tn tc] 24)).alloc (.cells #[.slice A n c, .slice B m d] 38)).alloc (.cells #[.slice none 0 0, .int .i64 0, .int .i64 0] 43) := ⟨_, rfl⟩
  obtain ⟨hb0, m1, m2, m3, hs0⟩ := bxs3 w #[.int .i64 i, .slice T tn tc] #[.slice A n c, .slice B m d] #[.slice none 0 0, .int .i64 0, .int .i64 0] 24 38 43 w0 hw0
  have HW0 := Lib.hid hw0
  have HB0 := Lib.hid hb0
  have HX := Lib.hid (fun (W : World) (h : Below w0.heap.size w0 W) => (hx.below hb0).below h)
  have HY := Lib.hid (fun (W : World) (h : Below w0.heap.size w0 W) => (hy.below hb0).below h)
  have HT := Lib.hid (fun (W : World) (h : Below w0.heap.size w0 W) => (hT.below hb0).below h)
  have HM1 := Lib.hid (fun (W : World) (h : Below w0.heap.size w0 W) => m1.on h)
  have HM2 := Lib.hid (fun (W : World) (h : Below w0.heap.size w0 W) => m2.on h)
  have HM3 := Lib.hid (fun (W : World) (h : Below w0.heap.size w0 W) => m3.on h)
  have HLT := Lib.hid hT.1
  have HLX := Lib.hid hx.1
  have HLY := Lib.hid hy.1
  have HSS := Lib.hid hS
  have HFF := Lib.hid hF
  have hbc := Below.refl w0.heap.size w0
  have k0 := m1.cell 0
  have k1 := m1.cell 1
  have l0 := m2.cell 0
  have l1 := m2.cell 1
  simp at k0 k1 l0 l1
  rw [hw0] at k0 k1 l0 l1
  have hN := hT.2.1
  have hNx := hx.2.1
  have HZ0 := Lib.hid hs0
  clear hw0 hb0 hx hy hT m1 m2 m3 hS hF hs0
  go_enter Try.func26, Try.ntmps26
  go_wp2_with fail
  rw [← HW0.out]
  refine (pproper A B n c m d i xs ys _ (HX.out _ hbc) (HY.out _ hbc)).mono ?_
  rintro e w1 ⟨rfl, a1⟩
  have hbc := bt hbc a1
  clear a1 k0 k1 l0 l1
  obtain ⟨E, hE⟩ : ∃ E, E = prpE xs ys i := ⟨_, rfl⟩
  rw [← hE]
  have HE := Lib.hid hE
  clear hE
  have k0 := (HM1.out _ hbc).cell 0
  have k1 := (HM1.out _ hbc).cell 1
  have l0 := (HM2.out _ hbc).cell 0
  have l1 := (HM2.out _ hbc).cell 1
  simp at k0 k1 l0 l1
  by_cases he : E = 0
  case neg =>
    have hne : (E != 0) = true := by simpa using he
    have HNE := Lib.hid he
    have m3 := HM3.out _ hbc
    have f0 := m3.free 0
    have f1 := m3.free 1
    have f2 := m3.free 2
    have q0 := m3.cell 0
    have q1 := m3.cell 1
    have q2 := m3.cell 2
    simp at q0 q1 q2
    have HS3 := Lib.hid (m3.set3 (.slice none 0 0) (.int .i64 0) (.int .i64 0))
    have HBB := Lib.hid (set3B (g := w.heap.size + 1 + 1) (bt HB0.out hbc) (by omega) (.slice none 0 0) (.int .i64 0) (.int .i64 0))
    clear m3
    go_wp2_with fail
    (try rw [Exit.noGoto_ret])
    refine bodyPost_ret (results_clash rfl _ _ (w.heap.size + 1 + 1) (.slice none 0 0) (.int .i64 0) (.int .i64 0) rfl HS3.out) rfl ?_
    obtain ⟨best, hg⟩ := got_any ts xs
    exact ClsE.none_ hg (.inl (by rw [← HE.out]; exact HNE.out)) HBB.out
  subst he
  go_wp2_with fail
  refine (pnear T A tn tc n c ts xs _ (HT.out _ hbc) (HX.out _ hbc) HSS.out HFF.out htc).mono ?_
  rintro e w2 ⟨best, kn, rfl, hkn, HG, a2⟩
  have hbc := bt hbc a2
  clear a2 k0 k1 l0 l1
  have hkx : kn ≤ n := by rw [hkn, ← HLX.out]; exact knw_le
  rw [← HLT.out] at hkn
  have HKN := Lib.hid hkn
  clear hkn
  have HGB := Lib.hid (show 0 < kn → best < tn ∧ kn ≤ (tOut ts best).length from fun h => by
    obtain ⟨h1, h2⟩ := HG.out h
    refine ⟨by rw [← HLT.out]; exact h1, ?_⟩
    rw [HFF.out best h1, ← h2]
    exact cmn_le_left _ _)
  have k0 := (HM1.out _ hbc).cell 0
  have k1 := (HM1.out _ hbc).cell 1
  have l0 := (HM2.out _ hbc).cell 0
  have l1 := (HM2.out _ hbc).cell 1
  simp at k0 k1 l0 l1
  go_wp2_with fail
  refine (pagreed T A B tn tc n c m d best kn ts ys _ (HT.out _ hbc) (HY.out _ hbc) HGB.out).mono ?_
  rintro e w3 ⟨rfl, a3⟩
  have hbc := bt hbc a3
  clear a3 k0 k1 l0 l1
  obtain ⟨k, hk⟩ : ∃ k, k = agrN ts best kn ys := ⟨_, rfl⟩
  have hkk : k ≤ kn := by rw [hk]; exact agrN_le _ _ _ _
  rw [← hk]
  have HK := Lib.hid hk
  clear hk
  by_cases hq : k = kn
  case pos =>
    have HQ := Lib.hid hq
    have hqi : ((k : Int) == (kn : Int)) = true := by rw [beq_iff_eq]; omega
    have hqd : (k : Int) = (kn : Int) := by omega
    have m3 := HM3.out _ hbc
    have f0 := m3.free 0
    have f1 := m3.free 1
    have f2 := m3.free 2
    have q0 := m3.cell 0
    have q1 := m3.cell 1
    have q2 := m3.cell 2
    simp at q0 q1 q2
    have HS3 := Lib.hid (m3.set3 (.slice none 0 0) (.int .i64 0) (.int .i64 0))
    have HBB := Lib.hid (set3B (g := w.heap.size + 1 + 1) (bt HB0.out hbc) (by omega) (.slice none 0 0) (.int .i64 0) (.int .i64 0))
    clear m3
    go_wp2_with fail
    (try rw [Exit.noGoto_ret])
    refine bodyPost_ret (results_clash rfl _ _ (w.heap.size + 1 + 1) (.slice none 0 0) (.int .i64 0) (.int .i64 0) rfl HS3.out) rfl ?_
    exact ClsE.none_ (best := best) (by rw [← HKN.out]; exact HG.out) (.inr (by rw [← HKN.out, ← HK.out, HQ.out])) HBB.out
  have hqi : ((k : Int) == (kn : Int)) = false := by rw [beq_eq_false_iff_ne]; omega
  have hlt : k < kn := by omega
  obtain ⟨hbt, hko⟩ := HGB.out (by omega)
  obtain ⟨b, off, A1, n1, c1, A2, n2, c2, eT, hgb, _, j2, _, q2, _, j4⟩ := (HT.out _ hbc).at_ hbt
  subst eT
  have hn2 : n2 = (tOut ts best).length := j4.1.symm
  obtain ⟨b2, o2, eA, hg2, r2⟩ := j4.at_ (k := k) (by omega)
  subst eA
  have hpr : prpE xs ys i = 0 := HE.out.symm
  have hml : ys.length = xs.length := by
    unfold prpE at hpr
    split at hpr
    · exact (ansE_zero hpr).1
    · omega
  have hmn : m = n := by rw [← HLX.out, ← HLY.out, hml]
  obtain ⟨b3, o3, eB, hg3, r3⟩ := (HY.out _ hbc).at_ (k := k) (by omega)
  subst eB
  obtain ⟨F, hF⟩ : ∃ F, F = (tOut ts best).getD k 0 := ⟨_, rfl⟩
  obtain ⟨S2, hS2⟩ : ∃ S2, S2 = ys.getD k 0 := ⟨_, rfl⟩
  rw [← hF] at r2
  rw [← hS2] at r3
  have HF := Lib.hid hF
  have HS2 := Lib.hid hS2
  have HPR := Lib.hid hpr
  have k1 := (HM1.out _ hbc).cell 1
  have l0 := (HM2.out _ hbc).cell 0
  have l1 := (HM2.out _ hbc).cell 1
  simp at k1 l0 l1
  have hz := (HM3.out _ hbc).lt
  have HS := Lib.hid (show ∀ W, Below w3.heap.size w3 W → W.cell? ⟨w.heap.size + 1, 0, none⟩ = some (.slice A n c) ∧ W.cell? ⟨w.heap.size + 1, 1, none⟩ = some (.slice (some ⟨b3, o3, none⟩) m d) ∧ W.cell? ⟨w.heap.size, 1, none⟩ = some (.slice (some ⟨b, off, none⟩) tn tc) ∧ W.cell? ⟨b, off + best * 2 + 1, none⟩ = some (.slice (some ⟨b2, o2, none⟩) n2 c2) ∧ W.cell? ⟨b2, o2 + k, none⟩ = some (.int .i64 F) ∧ W.cell? ⟨b3, o3 + k, none⟩ = some (.int .i64 S2) from
    fun W h => ⟨(h.cell (p := ⟨w.heap.size + 1, 0, none⟩) (by show w.heap.size + 1 < w3.heap.size; omega)).trans l0, (h.cell (p := ⟨w.heap.size + 1, 1, none⟩) (by show w.heap.size + 1 < w3.heap.size; omega)).trans l1,
      (h.cell (p := ⟨w.heap.size, 1, none⟩) (by show w.heap.size < w3.heap.size; omega)).trans k1, (h.cell (p := ⟨b, off + best * 2 + 1, none⟩) hgb).trans j2, (h.cell (p := ⟨b2, o2 + k, none⟩) hg2).trans r2, (h.cell (p := ⟨b3, o3 + k, none⟩) hg3).trans r3⟩)
  have HR := Lib.hid (HM3.out _ hbc)
  have hz4 : w.heap.size + 1 + 1 < w3.heap.size := hz
  have HCL := Lib.hid (fun (W : World) (h : Below w3.heap.size w3 W) => sclone A (k + 1) c (xs.take (k + 1)) W (by
    have hI := (HX.out _ hbc).below h
    refine ⟨by rw [List.length_take, hI.1]; omega, by have := hI.2.1; omega, fun h0 => ?_⟩
    obtain ⟨b', o', e, hlt', hc⟩ := hI.2.2 (by omega)
    refine ⟨b', o', e, hlt', fun j hj => ?_⟩
    rw [hc j (by omega)]
    congr 2
    rw [List.getD_eq_getElem?_getD, List.getD_eq_getElem?_getD, List.getElem?_take_of_lt hj]))
  have w1' : IntKind.i64.wrap ((k : Int) + 1) = (k : Int) + 1 := by rw [IntKind.wrap_i64]; omega
  have i1 : (k : Int) + 1 ≤ (c : Int) := by omega
  have i2 : (0 : Int) ≤ (k : Int) + 1 := by omega
  have i3 : (best : Int) < (tn : Int) := by omega
  have i4 : (0 : Int) ≤ (best : Int) := by omega
  have i5 : (k : Int) < (n2 : Int) := by omega
  have i6 : (k : Int) < (m : Int) := by omega
  have i7 : (0 : Int) ≤ (k : Int) := by omega
  have HBC := Lib.hid hbc
  have HHK := Lib.hid hkk
  clear hg2 hg3 hgb j2 j4 q2 r2 r3 hF hS2 hpr hml hmn hn2 k1 l0 l1 hbt hko hz hbc
  go_upto_region 7 with fail
  have hbf : Below w3.heap.size w3 w3.drew := below_drewN (Below.refl _ _) 1
  refine wp_region_heldX (X := fun k => ([21] : List Nat).contains k) (S := fun W => W.cell? ⟨w.heap.size + 1, 0, none⟩ = some (.slice A n c) ∧ W.cell? ⟨w.heap.size + 1, 1, none⟩ = some (.slice (some ⟨b3, o3, none⟩) m d) ∧ W.cell? ⟨w.heap.size, 1, none⟩ = some (.slice (some ⟨b, off, none⟩) tn tc) ∧ W.cell? ⟨b, off + best * 2 + 1, none⟩ = some (.slice (some ⟨b2, o2, none⟩) n2 c2) ∧ W.cell? ⟨b2, o2 + k, none⟩ = some (.int .i64 F) ∧ W.cell? ⟨b3, o3 + k, none⟩ = some (.int .i64 S2)) (by kernel_rfl) ?_
  refine wpAnyX_pure (i := 0) (v := ?_) rfl (by kernel_rfl) (by kernel_rfl) (by kernel_rfl) (fun _ _ _ h => h) (Or.inl ⟨by rfl, ?_⟩) ?_
  rotate_left
  · (intro W _; go_simp; try with_reducible rfl)
  (try simp only [Act.put, List.getElem_toArray, List.getElem_cons_zero, List.getElem_cons_succ, List.setIfInBounds_toArray, List.set_cons_zero, List.set_cons_succ])
  refine wpAnyX_takeL (L := [21]) (i := 1) (v := ?_) rfl (by kernel_rfl) (by kernel_rfl) (by kernel_rfl) (by kernel_rfl) (fun _ _ _ h => h) (Or.inl ⟨by rfl, ?_⟩) (HS.out _ hbf) ?_
  rotate_left
  · (intro W hSW; (try dsimp only at hSW); obtain ⟨z0, z1, z2, z3, z4, z5⟩ := hSW; go_simp; try with_reducible rfl)
  (try simp only [Act.put, List.getElem_toArray, List.getElem_cons_zero, List.getElem_cons_succ, List.setIfInBounds_toArray, List.set_cons_zero, List.set_cons_succ])
  refine wpAnyX_pure (i := 2) (v := ?_) rfl (by kernel_rfl) (by kernel_rfl) (by kernel_rfl) (fun _ _ _ h => h) (Or.inl ⟨by rfl, ?_⟩) ?_
  rotate_left
  · (intro W _; go_simp; try with_reducible rfl)
  (try simp only [Act.put, List.getElem_toArray, List.getElem_cons_zero, List.getElem_cons_succ, List.setIfInBounds_toArray, List.set_cons_zero, List.set_cons_succ])
  refine wpAnyX_pure (i := 3) (v := ?_) rfl (by kernel_rfl) (by kernel_rfl) (by kernel_rfl) (fun _ _ _ h => h) (Or.inl ⟨by rfl, ?_⟩) ?_
  rotate_left
  · (intro W _; go_simp; try with_reducible rfl)
  (try simp only [Act.put, List.getElem_toArray, List.getElem_cons_zero, List.getElem_cons_succ, List.setIfInBounds_toArray, List.set_cons_zero, List.set_cons_succ])
  refine wpAnyX_pure (i := 4) (v := ?_) rfl (by kernel_rfl) (by kernel_rfl) (by kernel_rfl) (fun _ _ _ h => h) (Or.inl ⟨by rfl, ?_⟩) ?_
  rotate_left
  · (intro W _; go_simp; try with_reducible rfl)
  (try simp only [Act.put, List.getElem_toArray, List.getElem_cons_zero, List.getElem_cons_succ, List.setIfInBounds_toArray, List.set_cons_zero, List.set_cons_succ])
  refine wpAnyX_pure (i := 6) (v := ?_) rfl (by kernel_rfl) (by kernel_rfl) (by kernel_rfl) (fun _ _ _ h => h) (Or.inl ⟨by rfl, ?_⟩) ?_
  rotate_left
  · (intro W _; go_simp; try with_reducible rfl)
  (try simp only [Act.put, List.getElem_toArray, List.getElem_cons_zero, List.getElem_cons_succ, List.setIfInBounds_toArray, List.set_cons_zero, List.set_cons_succ])
  refine wpAnyX_takeL (L := [21]) (i := 7) (v := ?_) rfl (by kernel_rfl) (by kernel_rfl) (by kernel_rfl) (by kernel_rfl) (fun _ _ _ h => h) (Or.inl ⟨by rfl, ?_⟩) (HS.out _ hbf) ?_
  rotate_left
  · (intro W hSW; (try dsimp only at hSW); obtain ⟨z0, z1, z2, z3, z4, z5⟩ := hSW; go_simp; try with_reducible rfl)
  (try simp only [Act.put, List.getElem_toArray, List.getElem_cons_zero, List.getElem_cons_succ, List.setIfInBounds_toArray, List.set_cons_zero, List.set_cons_succ])
  refine wpAnyX_pure (i := 8) (v := ?_) rfl (by kernel_rfl) (by kernel_rfl) (by kernel_rfl) (fun _ _ _ h => h) (Or.inl ⟨by rfl, ?_⟩) ?_
  rotate_left
  · (intro W _; go_simp; try with_reducible rfl)
  (try simp only [Act.put, List.getElem_toArray, List.getElem_cons_zero, List.getElem_cons_succ, List.setIfInBounds_toArray, List.set_cons_zero, List.set_cons_succ])
  refine wpAnyX_pure (i := 9) (v := ?_) rfl (by kernel_rfl) (by kernel_rfl) (by kernel_rfl) (fun _ _ _ h => h) (Or.inl ⟨by rfl, ?_⟩) ?_
  rotate_left
  · (intro W _; go_simp; try with_reducible rfl)
  (try simp only [Act.put, List.getElem_toArray, List.getElem_cons_zero, List.getElem_cons_succ, List.setIfInBounds_toArray, List.set_cons_zero, List.set_cons_succ])
  refine wpAnyX_pure (i := 10) (v := ?_) rfl (by kernel_rfl) (by kernel_rfl) (by kernel_rfl) (fun _ _ _ h => h) (Or.inl ⟨by rfl, ?_⟩) ?_
  rotate_left
  · (intro W _; go_simp; try with_reducible rfl)
  (try simp only [Act.put, List.getElem_toArray, List.getElem_cons_zero, List.getElem_cons_succ, List.setIfInBounds_toArray, List.set_cons_zero, List.set_cons_succ])
  refine wpAnyX_takeL (L := [21]) (i := 11) (v := ?_) rfl (by kernel_rfl) (by kernel_rfl) (by kernel_rfl) (by kernel_rfl) (fun _ _ _ h => h) (Or.inl ⟨by rfl, ?_⟩) (HS.out _ hbf) ?_
  rotate_left
  · (intro W hSW; (try dsimp only at hSW); obtain ⟨z0, z1, z2, z3, z4, z5⟩ := hSW; go_simp; try with_reducible rfl)
  (try simp only [Act.put, List.getElem_toArray, List.getElem_cons_zero, List.getElem_cons_succ, List.setIfInBounds_toArray, List.set_cons_zero, List.set_cons_succ])
  refine wpAnyX_pure (i := 12) (v := ?_) rfl (by kernel_rfl) (by kernel_rfl) (by kernel_rfl) (fun _ _ _ h => h) (Or.inl ⟨by rfl, ?_⟩) ?_
  rotate_left
  · (intro W _; go_simp; try with_reducible rfl)
  (try simp only [Act.put, List.getElem_toArray, List.getElem_cons_zero, List.getElem_cons_succ, List.setIfInBounds_toArray, List.set_cons_zero, List.set_cons_succ])
  refine wpAnyX_pure (i := 13) (v := ?_) rfl (by kernel_rfl) (by kernel_rfl) (by kernel_rfl) (fun _ _ _ h => h) (Or.inl ⟨by rfl, ?_⟩) ?_
  rotate_left
  · (intro W _; go_simp; try with_reducible rfl)
  (try simp only [Act.put, List.getElem_toArray, List.getElem_cons_zero, List.getElem_cons_succ, List.setIfInBounds_toArray, List.set_cons_zero, List.set_cons_succ])
  refine wpAnyX_takeL (L := [21]) (i := 14) (v := ?_) rfl (by kernel_rfl) (by kernel_rfl) (by kernel_rfl) (by kernel_rfl) (fun _ _ _ h => h) (Or.inl ⟨by rfl, ?_⟩) (HS.out _ hbf) ?_
  rotate_left
  · (intro W hSW; (try dsimp only at hSW); obtain ⟨z0, z1, z2, z3, z4, z5⟩ := hSW; go_simp; try with_reducible rfl)
  (try simp only [Act.put, List.getElem_toArray, List.getElem_cons_zero, List.getElem_cons_succ, List.setIfInBounds_toArray, List.set_cons_zero, List.set_cons_succ])
  refine wpAnyX_pure (i := 15) (v := ?_) rfl (by kernel_rfl) (by kernel_rfl) (by kernel_rfl) (fun _ _ _ h => h) (Or.inl ⟨by rfl, ?_⟩) ?_
  rotate_left
  · (intro W _; go_simp; try with_reducible rfl)
  (try simp only [Act.put, List.getElem_toArray, List.getElem_cons_zero, List.getElem_cons_succ, List.setIfInBounds_toArray, List.set_cons_zero, List.set_cons_succ])
  refine wpAnyX_takeL (L := [21]) (i := 16) (v := ?_) rfl (by kernel_rfl) (by kernel_rfl) (by kernel_rfl) (by kernel_rfl) (fun _ _ _ h => h) (Or.inl ⟨by rfl, ?_⟩) (HS.out _ hbf) ?_
  rotate_left
  · (intro W hSW; (try dsimp only at hSW); obtain ⟨z0, z1, z2, z3, z4, z5⟩ := hSW; go_simp; try with_reducible rfl)
  (try simp only [Act.put, List.getElem_toArray, List.getElem_cons_zero, List.getElem_cons_succ, List.setIfInBounds_toArray, List.set_cons_zero, List.set_cons_succ])
  refine wpAnyX_pure (i := 17) (v := ?_) rfl (by kernel_rfl) (by kernel_rfl) (by kernel_rfl) (fun _ _ _ h => h) (Or.inl ⟨by rfl, ?_⟩) ?_
  rotate_left
  · (intro W _; go_simp; try with_reducible rfl)
  (try simp only [Act.put, List.getElem_toArray, List.getElem_cons_zero, List.getElem_cons_succ, List.setIfInBounds_toArray, List.set_cons_zero, List.set_cons_succ])
  refine wpAnyX_pure (i := 18) (v := ?_) rfl (by kernel_rfl) (by kernel_rfl) (by kernel_rfl) (fun _ _ _ h => h) (Or.inl ⟨by rfl, ?_⟩) ?_
  rotate_left
  · (intro W _; go_simp; try with_reducible rfl)
  (try simp only [Act.put, List.getElem_toArray, List.getElem_cons_zero, List.getElem_cons_succ, List.setIfInBounds_toArray, List.set_cons_zero, List.set_cons_succ])
  refine wpAnyX_takeL (L := [21]) (i := 19) (v := ?_) rfl (by kernel_rfl) (by kernel_rfl) (by kernel_rfl) (by kernel_rfl) (fun _ _ _ h => h) (Or.inl ⟨by rfl, ?_⟩) (HS.out _ hbf) ?_
  rotate_left
  · (intro W hSW; (try dsimp only at hSW); obtain ⟨z0, z1, z2, z3, z4, z5⟩ := hSW; go_simp; try with_reducible rfl)
  (try simp only [Act.put, List.getElem_toArray, List.getElem_cons_zero, List.getElem_cons_succ, List.setIfInBounds_toArray, List.set_cons_zero, List.set_cons_succ])
  refine wpAnyX_one (i := 5) rfl (by kernel_rfl) (fun K hK => ?_)
  go_simp
  go_at_call 68
  refine (HCL.out _ hbf).mono ?_
  rintro e w5 ⟨A5, c5, rfl, o5, b5⟩
  have hbf := bt hbf b5
  have HO5 := Lib.hid o5
  have HR5 := Lib.hid (HR.out.kept (hbf.mono (Nat.le_refl _)) hz4)
  refine hK.out _ _ (fun _ _ => HS.out _ hbf) ?_
  clear o5 b5
  (try simp only [Act.put, List.getElem_toArray, List.getElem_cons_zero, List.getElem_cons_succ, List.setIfInBounds_toArray, List.set_cons_zero, List.set_cons_succ])
  refine wpAnyX_pure (i := 20) (v := ?_) rfl (by kernel_rfl) (by kernel_rfl) (by kernel_rfl) (fun _ _ _ h => h) (Or.inl ⟨by rfl, ?_⟩) ?_
  rotate_left
  · (intro W _; go_simp; try with_reducible rfl)
  (try simp only [Act.put, List.getElem_toArray, List.getElem_cons_zero, List.getElem_cons_succ, List.setIfInBounds_toArray, List.set_cons_zero, List.set_cons_succ])
  refine wpAnyX_one (i := 21) rfl (by kernel_rfl) (fun K hK => ?_)
  refine wp_store_row 43 _ _ rfl (w.heap.size + 1 + 1) (#[.slice A5 (k + 1) c5, .int .i64 F, .int .i64 S2]) rfl rfl 43 (#[.slice none 0 0, .int .i64 0, .int .i64 0]) HR5.out (by kernel_rfl) (by rfl) (by simp [Value.oneCell']) (hK.out _ _ (fun h => absurd h (by decide)) ?_)
  (try simp only [Act.put, List.getElem_toArray, List.getElem_cons_zero, List.getElem_cons_succ, List.setIfInBounds_toArray, List.set_cons_zero, List.set_cons_succ])
  refine wpAnyX_pure (i := 22) (v := ?_) rfl (by kernel_rfl) (by kernel_rfl) (by kernel_rfl) (fun _ _ _ h => h) (Or.inl ⟨by rfl, ?_⟩) ?_
  rotate_left
  · (intro W _; go_simp; try with_reducible rfl)
  (try simp only [Act.put, List.getElem_toArray, List.getElem_cons_zero, List.getElem_cons_succ, List.setIfInBounds_toArray, List.set_cons_zero, List.set_cons_succ])
  refine wpAnyX_done (by kernel_rfl) ?_ _
  have HBF := Lib.hid hbf
  have HRX := Lib.hid (HR5.out.row #[.slice A5 (k + 1) c5, .int .i64 F, .int .i64 S2])
  have HOX := Lib.hid ((HO5.out.keptT (HR5.out.keptRow (t := 3) (by decide) #[.slice A5 (k + 1) c5, .int .i64 F, .int .i64 S2])).lower (base' := w.heap.size) (by
    have : (w3.drew).heap.size = w3.heap.size := rfl
    omega))
  have HBX := Lib.hid (below_setRow (bt HB0.out (bt HBC.out HBF.out)) (by omega : w.heap.size ≤ w.heap.size + 1 + 1) #[.slice A5 (k + 1) c5, .int .i64 F, .int .i64 S2])
  clear hbf
  go_wp2_with fail
  (try rw [Exit.noGoto_ret])
  refine bodyPost_ret (results_clash rfl _ _ (w.heap.size + 1 + 1) (.slice A5 (k + 1) c5) (.int .i64 F) (.int .i64 S2) rfl HRX.out) rfl ?_
  exact ⟨true, A5, k + 1, c5, F, S2, xs.take (k + 1), rfl, ⟨best, by rw [← HKN.out]; exact HG.out, .inr ⟨rfl, HPR.out, by rw [← HKN.out, ← HK.out]; exact hlt, by rw [← HKN.out, ← HK.out], by rw [← HKN.out, ← HK.out]; exact HF.out, by rw [← HKN.out, ← HK.out]; exact HS2.out⟩⟩, HOX.out, HBX.out⟩
end Go.Proofs.Ytkgdgnmobahhfaa
end

section
/- Hypotheses: what shows that words are apart; the first word of a set. No program. -/
namespace Go.Proofs.Ytkgdgnmobahhfaa

/-- The traces do not contradict each other. -/
def Cons (ts : List (List Int × List Int)) : Prop := ∀ a b, a < ts.length → b < ts.length → ∀ j, j < cmn (tIn ts a) (tIn ts b) → (tOut ts a).getD j 0 = (tOut ts b).getD j 0
/-- x shows that the trace xs / ys contradicts Q. -/
def Sh1 (Q : List (List Int × List Int)) (xs ys x : List Int) : Prop := x <+: xs ∧ 0 < x.length ∧ ∃ b, b < Q.length ∧ x <+: tIn Q b ∧ ¬ (tOut Q b).getD (x.length - 1) 0 = ys.getD (x.length - 1) 0
/-- x shows that one of the first k traces of P contradicts Q. -/
def ShK (P Q : List (List Int × List Int)) (k : Nat) (x : List Int) : Prop := ∃ a, a < k ∧ Sh1 Q (tIn P a) (tOut P a) x
/-- o is the first one in shortlex order, or nothing. -/
def Fst1 (p : List Int → Prop) (o : List Int) : Prop := (o = [] ∧ ∀ x, ¬ p x) ∨ (p o ∧ 0 < o.length ∧ ∀ x, p x → shlex o x ≤ 0)

theorem Fst1.uniq {p : List Int → Prop} {o o' : List Int} (h : Fst1 p o) (h' : Fst1 p o') : o = o' := by
  rcases h with ⟨rfl, h1⟩ | ⟨h1, h2, h3⟩
  · rcases h' with ⟨rfl, _⟩ | ⟨k1, _, _⟩
    · rfl
    · exact absurd k1 (h1 _)
  · rcases h' with ⟨rfl, k1⟩ | ⟨k1, k2, k3⟩
    · exact absurd h1 (k1 _)
    · have a := h3 _ k1
      have b := k3 _ h1
      have c := shlex_neg o o'
      exact (shlex_zero o o').1 (by omega)
theorem Fst1.congr {p q : List Int → Prop} {o : List Int} (h : Fst1 p o) (e : ∀ x, p x ↔ q x) : Fst1 q o := by
  rcases h with ⟨rfl, h1⟩ | ⟨h1, h2, h3⟩
  · exact .inl ⟨rfl, fun x hx => h1 x ((e x).2 hx)⟩
  · exact .inr ⟨(e _).1 h1, h2, fun x hx => h3 x ((e x).2 hx)⟩
theorem Fst1.some_ {p : List Int → Prop} {o : List Int} (h : Fst1 p o) : (¬ o = []) ↔ ∃ x, p x := by
  rcases h with ⟨rfl, h1⟩ | ⟨h1, h2, _⟩
  · exact ⟨fun h => absurd rfl h, fun ⟨x, hx⟩ => absurd hx (h1 x)⟩
  · exact ⟨fun _ => ⟨o, h1⟩, fun _ e => by rw [e] at h2; simp at h2⟩
theorem pre_shlex {x y : List Int} (h : x.length ≤ y.length) {z : List Int} (hx : x <+: z) (hy : y <+: z) : shlex x y ≤ 0 := by
  have hp : x <+: y := List.prefix_of_prefix_length_le hx hy h
  have := shlex_prefix y x (pre_cmn'.1 hp)
  have c := shlex_neg x y
  omega
theorem ShK.zero (P Q : List (List Int × List Int)) : Fst1 (ShK P Q 0) [] := .inl ⟨rfl, fun _ ⟨a, h, _⟩ => absurd h (Nat.not_lt_zero a)⟩
/-- One more trace, which does not contradict Q. -/
theorem fst_skip {P Q : List (List Int × List Int)} {k : Nat} {o : List Int} (h : Fst1 (ShK P Q k) o) (hn : ∀ x, ¬ Sh1 Q (tIn P k) (tOut P k) x) : Fst1 (ShK P Q (k + 1)) o :=
  h.congr fun x => ⟨fun ⟨a, h1, h2⟩ => ⟨a, by omega, h2⟩, fun ⟨a, h1, h2⟩ => by
    rcases Nat.lt_or_ge a k with h3 | h3
    · exact ⟨a, h3, h2⟩
    · rw [show a = k by omega] at h2; exact absurd h2 (hn x)⟩
/-- One more trace, whose first contradiction is z. -/
theorem fst_new {P Q : List (List Int × List Int)} {k : Nat} {o z : List Int} (h : Fst1 (ShK P Q k) o) (hz : Sh1 Q (tIn P k) (tOut P k) z) (hm : ∀ x, Sh1 Q (tIn P k) (tOut P k) x → z.length ≤ x.length) (hc : o = [] ∨ shlex z o < 0) : Fst1 (ShK P Q (k + 1)) z := by
  refine .inr ⟨⟨k, Nat.lt_succ_self k, hz⟩, hz.2.1, fun x ⟨a, h1, h2⟩ => ?_⟩
  rcases Nat.lt_or_ge a k with h3 | h3
  · rcases h with ⟨rfl, h4⟩ | ⟨h4, h5, h6⟩
    · exact absurd ⟨a, h3, h2⟩ (h4 x)
    · rcases hc with rfl | hc
      · simp at h5
      · have := (shlex_trans z o x).2 hc (h6 x ⟨a, h3, h2⟩); omega
  · rw [show a = k by omega] at h2
    exact pre_shlex (hm x h2) hz.1 h2.1
theorem fst_old {P Q : List (List Int × List Int)} {k : Nat} {o z : List Int} (h : Fst1 (ShK P Q k) o) (hz : Sh1 Q (tIn P k) (tOut P k) z) (hm : ∀ x, Sh1 Q (tIn P k) (tOut P k) x → z.length ≤ x.length) (ho : ¬ o = []) (hc : ¬ shlex z o < 0) : Fst1 (ShK P Q (k + 1)) o := by
  rcases h with ⟨h4, _⟩ | ⟨h4, h5, h6⟩
  · exact absurd h4 ho
  · obtain ⟨a0, h7, h8⟩ := h4
    refine .inr ⟨⟨a0, by omega, h8⟩, h5, fun x ⟨a, h1, h2⟩ => ?_⟩
    rcases Nat.lt_or_ge a k with h3 | h3
    · exact h6 x ⟨a, h3, h2⟩
    · rw [show a = k by omega] at h2
      have h9 := pre_shlex (hm x h2) hz.1 h2.1
      have h10 := shlex_neg z o
      exact (shlex_trans o z x).1 (by omega) h9
theorem Sh1.swap {P Q : List (List Int × List Int)} {x : List Int} (h : ShK P Q P.length x) : ShK Q P Q.length x := by
  obtain ⟨a, h1, h2, h3, b, h4, h5, h6⟩ := h
  exact ⟨b, h4, h5, h3, a, h1, h2, fun e => h6 e.symm⟩
theorem shk_comm (P Q : List (List Int × List Int)) (x : List Int) : ShK P Q P.length x ↔ ShK Q P Q.length x := ⟨Sh1.swap, Sh1.swap⟩

/-- What Clash finds. -/
theorem sh1_best {Q : List (List Int × List Int)} {xs ys x : List Int} {best : Nat} (hC : Cons Q) (hg : Got Q xs best (knw Q xs Q.length)) (h : Sh1 Q xs ys x) :
    x.length ≤ knw Q xs Q.length ∧ ¬ (tOut Q best).getD (x.length - 1) 0 = ys.getD (x.length - 1) 0 := by
  obtain ⟨h1, h2, b, h3, h4, h5⟩ := h
  have h6 : x.length ≤ cmn (tIn Q b) xs := pre_min h4 h1
  have h7 : x.length ≤ knw Q xs Q.length := Nat.le_trans h6 (knw_ge h3)
  obtain ⟨h8, h9⟩ := hg (by omega)
  refine ⟨h7, fun e => h5 ?_⟩
  rw [← e]
  have h10 : x <+: tIn Q best := by
    have := pre_take (x := xs) (y := tIn Q best) (n := x.length) (by rw [cmn_comm, h9]; exact h7)
    rwa [← List.prefix_iff_eq_take.1 h1] at this
  exact hC b best h3 h8 (x.length - 1) (by have := pre_min h4 h10; omega)
theorem sh1_of_best {Q : List (List Int × List Int)} {xs ys : List Int} {best k : Nat} (hg : Got Q xs best (knw Q xs Q.length)) (hk : k < knw Q xs Q.length) (hd : ¬ (tOut Q best).getD k 0 = ys.getD k 0) : Sh1 Q xs ys (xs.take (k + 1)) := by
  obtain ⟨h8, h9⟩ := hg (by omega)
  have hx := cmn_le_right (tIn Q best) xs
  have hl : (xs.take (k + 1)).length = k + 1 := by rw [List.length_take]; omega
  refine ⟨List.take_prefix _ _, by rw [hl]; omega, best, h8, pre_take (by rw [cmn_comm, h9]; omega), ?_⟩
  rw [hl]
  exact hd
theorem agr_part {Q : List (List Int × List Int)} {best kn : Nat} {xs ys : List Int} (hF : Full Q) (hb : best < Q.length) (hc : cmn (tIn Q best) xs = kn) (hl : ys.length = xs.length) :
    (∀ j, j < agrN Q best kn ys → (tOut Q best).getD j 0 = ys.getD j 0) ∧ (agrN Q best kn ys < kn → ¬ (tOut Q best).getD (agrN Q best kn ys) 0 = ys.getD (agrN Q best kn ys) 0) := by
  have h1 := cmn_le_left (tIn Q best) xs
  have h2 := cmn_le_right (tIn Q best) xs
  have h3 := hF best hb
  have hg : ∀ j, j < kn → ((tOut Q best).take kn).getD j 0 = (tOut Q best).getD j 0 := fun j hj => by
    rw [List.getD_eq_getElem?_getD, List.getD_eq_getElem?_getD, List.getElem?_take_of_lt hj]
  by_cases h0 : kn = 0
  · refine ⟨fun j hj => ?_, fun h => absurd h (by omega)⟩
    have := agrN_le Q best kn ys; omega
  · have he : agrN Q best kn ys = cmn ((tOut Q best).take kn) ys := by unfold agrN; rw [if_neg h0]
    have hle := agrN_le Q best kn ys
    refine ⟨fun j hj => ?_, fun h => ?_⟩
    · rw [he] at hj
      have := cmn_agree ((tOut Q best).take kn) ys j hj
      rwa [hg j (by omega)] at this
    · rw [he] at h ⊢
      have := cmn_part ((tOut Q best).take kn) ys (by rw [List.length_take]; omega) (by omega)
      rwa [hg _ h] at this
theorem cls_true {Q : List (List Int × List Int)} {xs ys zs : List Int} {i f s : Int} (hC : Cons Q) (hF : Full Q) (hl : ys.length = xs.length) (h : ClsR Q xs ys i true zs f s) : Sh1 Q xs ys zs ∧ ∀ x, Sh1 Q xs ys x → zs.length ≤ x.length := by
  obtain ⟨best, hg, ⟨h1, _⟩ | ⟨_, hp, hlt, hz, _, _⟩⟩ := h
  · cases h1
  · obtain ⟨hb, hc⟩ := hg (by omega)
    obtain ⟨ha, hd⟩ := agr_part hF hb hc hl
    have hx := cmn_le_right (tIn Q best) xs
    subst hz
    refine ⟨sh1_of_best hg hlt (hd hlt), fun x hx' => ?_⟩
    obtain ⟨k1, k2⟩ := sh1_best hC hg hx'
    have k3 := hx'.2.1
    rw [List.length_take]
    rcases Nat.lt_or_ge (x.length - 1) (agrN Q best (knw Q xs Q.length) ys) with h4 | h4
    · exact absurd (ha _ h4) k2
    · omega
theorem cls_false {Q : List (List Int × List Int)} {xs ys zs : List Int} {i f s : Int} (hC : Cons Q) (hF : Full Q) (hl : ys.length = xs.length) (hp : prpE xs ys i = 0) (h : ClsR Q xs ys i false zs f s) : ∀ x, ¬ Sh1 Q xs ys x := by
  obtain ⟨best, hg, ⟨_, _, _, _, h4⟩ | ⟨h1, _⟩⟩ := h
  · intro x hx
    obtain ⟨k1, k2⟩ := sh1_best hC hg hx
    have k3 := hx.2.1
    rcases h4 with h4 | h4
    · exact h4 hp
    · obtain ⟨hb, hc⟩ := hg (by omega)
      obtain ⟨ha, _⟩ := agr_part hF hb hc hl
      exact k2 (ha _ (by rw [h4]; omega))
  · cases h1
end Go.Proofs.Ytkgdgnmobahhfaa
end

section
/- HasPrefix of both. -/
namespace Go.Proofs.Ytkgdgnmobahhfaa
open Go.RowKit

theorem whasprefix (A B : Option Addr) (n c m d : Nat) (xs ys : List Int) (w : World) (hx : Ints w A n xs) (hy : Ints w B m ys) :
    Calls Try.prog 112 #[.slice A n c, .slice B m d] w fun e w' => e = .returned (.bool (decide (cmn xs ys = ys.length))) ∧ ∃ q, w' = w.drewN q := by
  have L2 := Lib.hid hy.1
  have hq : ((cmn xs ys : Int) == (m : Int)) = decide (cmn xs ys = ys.length) := by rw [L2.out, Bool.eq_iff_iff]; simp; omega
  have HQ := Lib.hid hq
  clear hq
  go_enter Try.func112, Try.ntmps112
  go_wp2_with (go_at_call 96; refine (wcommon _ _ _ _ _ _ xs ys _ hx hy).mono ?_; rintro e w' ⟨rfl, q, rfl⟩)
  go_ret
  exact ⟨by rw [HQ.out]; rfl, _, rfl⟩

theorem rhasprefix (A B : Option Addr) (n c m d : Nat) (xs ys : List Int) (w : World) (hx : Ints w A n xs) (hy : Ints w B m ys) :
    Calls Try.prog 69 #[.slice A n c, .slice B m d] w fun e w' => e = .returned (.bool (decide (cmn xs ys = ys.length))) ∧ ∃ q, w' = w.drewN q := by
  have L2 := Lib.hid hy.1
  have hq : ((cmn xs ys : Int) == (m : Int)) = decide (cmn xs ys = ys.length) := by rw [L2.out, Bool.eq_iff_iff]; simp; omega
  have HQ := Lib.hid hq
  clear hq
  go_enter Try.func69, Try.ntmps69
  go_wp2_with (go_at_call 73; refine (rcommon _ _ _ _ _ _ xs ys _ hx hy).mono ?_; rintro e w' ⟨rfl, q, rfl⟩)
  go_ret
  exact ⟨by rw [HQ.out]; rfl, _, rfl⟩
end Go.Proofs.Ytkgdgnmobahhfaa
end

section
/- after: what is observed after a word. -/
namespace Go.Proofs.Ytkgdgnmobahhfaa
open Go.RowKit

/-- append at a step of a region that draws. -/
theorem step_apph {P : Program} {ops : Array Oper} {o : Oper} {a : Act} {w : World} {K : Act → World → Prop} {Q : Exit → Act → World → Prop} {E : Prop} (hgd : o.guard = none) (s x : Operand) (t tn : TypeId)
    (ho : o.op = .call { callee := .builtin .append, args := #[s, x], argTypes := #[t, tn] }) (vs vx : Value) (hs : a.eval s = vs) (hx : a.eval x = vx)
    (v' : Value) (w' : World) (hr : (Builtin.append_ #[t, tn] o.type #[vs, vx]).run P w = .ok v' w') (h : K (a.put o.dst v') w') :
    if Region.wanted o (yielded ops a.tmps) = true then Oper.wp P o a w K Q else E := by
  have hw : Region.wanted o (yielded ops a.tmps) = true := by simp [Region.wanted, hgd]
  rw [if_pos hw]
  exact Lib.wp_append_run w s x t tn ho vs vx hs hx v' w' hr h
theorem results_obs {fn : Func} {p : Tmp} (h : fn.results = #[.cell p 24]) (tmps : Array Value) (w : World) (g : Nat) (v1 v2 : Value)
    (hp : tmps.getD p undef = .pointer (some ⟨g, 0, none⟩)) (hg : Bx w g #[v1, v2] 24) : (results fn tmps).run Try.prog w = .ok (.agg #[v1, v2]) w :=
  results_cell_row h tmps w g 24 #[v1, v2] (0, 0) _ hp hg Try.underlying24 rfl (by kernel_rfl)

set_option linter.unusedSimpArgs false in
set_option linter.unusedVariables false in
set_option maxHeartbeats 4000000 in
set_option maxRecDepth 100000 in
theorem pafter22 (i : Int) (T U : Option Addr) (tn tc m d : Nat) (ts : List (List Int × List Int)) (us : List Int) (w00 w : World) (h00 : Below w00.heap.size w00 w) (hT : Trs w00 T tn ts) (hU : Ints w00 U m us) (hF : Full ts) (htn : tn ≤ 100000000) :
    Calls Try.prog 86 #[.agg #[.int .i64 i, .slice T tn tc], .slice U m d] w fun e w' => ∃ A' c', e = .returned (.agg #[.int .i64 i, .slice A' (aftK ts us tn).length c']) ∧ TrsH w00 w' w.heap.size (.slice A' (aftK ts us tn).length c') (aftK ts us tn) ∧ Below w.heap.size w w' := by
  have H00 := Lib.hid h00
  have HT := Lib.hid hT
  have HU := Lib.hid hU
  have HF := Lib.hid hF
  have HLT := Lib.hid hT.1
  have HLU := Lib.hid hU.1
  have hN := hT.2.1
  have hm := hU.2.1
  clear hT hU hF
  obtain ⟨hb0, m1, m2, m3, hs0⟩ := bxs3 w #[.int .i64 i, .slice T tn tc] #[.int .i64 0, .slice none 0 0] #[.int .i64 i, .slice none 0 0] 24 24 24 _ rfl
  go_enter Try.func86, Try.ntmps86
  go_wp2
  generalize ((w.alloc (.cells #[.int .i64 i, .slice T tn tc] 24)).alloc (.cells #[.int .i64 0, .slice none 0 0] 24)).alloc (.cells #[.int .i64 i, .slice none 0 0] 24) = W3 at hb0 m1 m2 m3 hs0 ⊢
  have HB0 := Lib.hid hb0
  have HM2 := Lib.hid m2
  have HM3 := Lib.hid m3
  have HS0 := Lib.hid hs0
  clear hb0 m1 m2 m3 hs0
  go_loopw [14] (fun v14 wr => ∃ (k : Nat) (A' : Option Addr) (c' : Nat), v14 = .int .i64 k ∧ k ≤ tn ∧ Hid (Bx wr (w.heap.size + 1 + 1) #[.int .i64 i, .slice A' (aftK ts us k).length c'] 24) ∧ Hid (TrsH w00 wr (w.heap.size + 1 + 1 + 1) (.slice A' (aftK ts us k).length c') (aftK ts us k)) ∧ Hid (Below (w.heap.size + 1 + 1) W3 wr ∧ W3.heap.size ≤ wr.heap.size)) (fun v14 _ => tn - (intOf v14).toNat)
  case atStart => exact ⟨0, none, 0, rfl, Nat.zero_le _, HM3, Lib.hid (TrsH.nil _ _ _), Lib.hid ⟨Below.refl _ _, Nat.le_refl _⟩⟩
  case round =>
    obtain ⟨k, A', c', rfl, hk, HX, HH, HBR⟩ := hrel
    have hbw : Below w.heap.size w wr := HB0.out.trans (HBR.out.1.mono (by omega))
    have HBW := Lib.hid hbw
    have hb00 := bt H00.out hbw
    have HB00 := Lib.hid hb00
    obtain ⟨L, hL⟩ : ∃ L, L = (aftK ts us k).length := ⟨_, rfl⟩
    rw [← hL] at HX HH
    have hLk : L ≤ k := by rw [hL]; exact aftK_len _ _ _
    have HLL := Lib.hid hL
    clear hL
    by_cases hlt : k < tn
    · obtain ⟨b, off, A1, n1, c1, A2, n2, c2, rfl, hgb, j1, j2, q1, q2, j3, j4⟩ := (HT.out.below hb00).at_ hlt
      obtain ⟨_, _, B1, p1, d1, B2, p2, d2, eT, _, i1, i2, _, _, i3, i4⟩ := HT.out.at_ hlt
      cases eT
      have HI1 := Lib.hid (show Ints w00 A1 n1 (tIn ts k) by
        have e1 := (hb00.cell (p := ⟨b, off + k * 2, none⟩) (by assumption)).trans i1
        rw [j1] at e1; cases e1; exact i3)
      have HI2 := Lib.hid (show Ints w00 A2 n2 (tOut ts k) by
        have e1 := (hb00.cell (p := ⟨b, off + k * 2 + 1, none⟩) (by assumption)).trans i2
        rw [j2] at e1; cases e1; exact i4)
      have h12 : n2 = n1 := by rw [← j3.1, ← j4.1]; exact HF.out k (by rw [HLT.out]; exact hlt)
      subst h12
      have HN1 := Lib.hid j3.1
      have hn1 := j3.2.1
      have hz3 : w.heap.size + 1 + 1 + 1 ≤ wr.heap.size := by have := HBR.out.2; rw [HS0.out] at this; exact this
      clear i1 i2 i3 i4 j3 j4 hgb
      by_cases h1 : m < n2
      · by_cases h2 : cmn (tIn ts k) us = m
        · have HNX := Lib.hid (aftK_yes (u := us) (k := k) (ts := ts) (by rw [HN1.out, HLU.out]; exact h1) (by rw [HLU.out]; exact h2))
          obtain ⟨b1, o1, eA1, _, _⟩ := HI1.out.at_ (k := m) h1
          subst eA1
          obtain ⟨b2, o2, eA2, _, _⟩ := HI2.out.at_ (k := m) h1
          subst eA2
          have hlu : us.length = m := HLU.out
          have HDEC := Lib.hid (show decide (cmn (tIn ts k) us = us.length) = true by rw [hlu]; simp [h2])
          have HBA := Lib.hid (alloc_below wr (.cells #[.slice (some ⟨b1, o1, none⟩) n2 c1, .slice (some ⟨b2, o2, none⟩) n2 c2] 38))
          have HB7 := Lib.hid (bx_new wr #[.slice (some ⟨b1, o1, none⟩) n2 c1, .slice (some ⟨b2, o2, none⟩) n2 c2] 38)
          have HP := Lib.hid (whasprefix (some ⟨b1, o1, none⟩) U n2 c1 m d (tIn ts k) us _ (HI1.out.below (bt HB00.out HBA.out)) (HU.out.below (bt HB00.out HBA.out)))
          have h0m : (0 : Int) ≤ (m : Int) := by omega
          have hc1m : ¬ c1 = m := by omega
          have hc2m : ¬ c2 = m := by omega
          have h1m : (m : Int) ≤ (n2 : Int) := by omega
          have hh2 := Lib.hid h2
          clear hlu h2
          go_wp2_with fail
          refine HP.out.mono ?_
          rintro e w8 ⟨rfl, q8, rfl⟩
          rw [HDEC.out]
          generalize wr.alloc (.cells #[.slice (some ⟨b1, o1, none⟩) n2 c1, .slice (some ⟨b2, o2, none⟩) n2 c2] 38) = w7 at HBA HB7 HP ⊢
          have b8 : Below wr.heap.size wr (w7.drewN q8) := below_drewN HBA.out _
          have m8 : Bx (w7.drewN q8) wr.heap.size #[.slice (some ⟨b1, o1, none⟩) n2 c1, .slice (some ⟨b2, o2, none⟩) n2 c2] 38 := HB7.out.drewN _
          generalize w7.drewN q8 = w8 at b8 m8 ⊢
          have HS := Lib.hid (show ∀ W, Below w8.heap.size w8 W → W.cell? ⟨w.heap.size + 1 + 1, 1, none⟩ = some (.slice A' L c') ∧ W.cell? ⟨wr.heap.size, 0, none⟩ = some (.slice (some ⟨b1, o1, none⟩) n2 c1) ∧ W.cell? ⟨wr.heap.size, 1, none⟩ = some (.slice (some ⟨b2, o2, none⟩) n2 c2) from fun W h => by
            have t1 := ((HX.out.on b8).on h).cell 1
            have t2 := (m8.on h).cell 0
            have t3 := (m8.on h).cell 1
            simp at t1 t2 t3
            exact ⟨t1, t2, t3⟩)
          have hbf : Below w8.heap.size w8 w8.drew := below_drewN (Below.refl _ _) 1
          have b8d : Below wr.heap.size wr w8.drew := b8.trans (hbf.mono b8.size)
          obtain ⟨A9, c9, w9, hrn, o9, b9, k9, g9⟩ := run_append_hdr (HH.out.keptT (KeptT.of_below b8d)) (HI1.out.drop (k := m) (Nat.le_of_lt h1)) (HI2.out.drop (k := m) (Nat.le_of_lt h1)) (by omega : n2 - m ≤ c1 - m) (by omega : n2 - m ≤ c2 - m) (Nat.le_trans hz3 b8d.size) (by rw [← HLL.out]; omega)
          have e8 : w8.drew.heap.size = w8.heap.size := rfl
          rw [e8, ← HLL.out] at hrn
          rw [← HLL.out] at o9
          have m9 := ((HX.out.on b8d).kept b9 (by omega : w.heap.size + 1 + 1 < w.heap.size + 1 + 1 + 1))
          have f9 := m9.free 1
          have q9 := m9.cell 1
          simp at q9
          have HS9 := Lib.hid (show w9.cell? ⟨w.heap.size + 1 + 1, 1, none⟩ = some (.slice A' L c') ∧ w9.cell? ⟨wr.heap.size, 0, none⟩ = some (.slice (some ⟨b1, o1, none⟩) n2 c1) ∧ w9.cell? ⟨wr.heap.size, 1, none⟩ = some (.slice (some ⟨b2, o2, none⟩) n2 c2) from by
            have e1 : Bx w9 wr.heap.size _ _ := (g9 wr.heap.size m8.lt (fun e => absurd (HH.out.own e) (Nat.lt_irrefl _))).trans m8
            have t2 := e1.cell 0
            have t3 := e1.cell 1
            simp at t2 t3
            exact ⟨q9, t2, t3⟩)
          have HM9 := Lib.hid (m9.set 1 (.slice A9 (L + 1) c9))
          have HO9 := Lib.hid (o9.keptT (m9.keptSet (t := 38) (k := 1) (by decide) (.slice A9 (L + 1) c9)))
          have HB9 := Lib.hid (show Below (w.heap.size + 1 + 1) wr _ from ((b8d.mono (show w.heap.size + 1 + 1 ≤ wr.heap.size by omega)).trans (b9.mono (show w.heap.size + 1 + 1 ≤ w.heap.size + 1 + 1 + 1 by omega))).setCell (p := ⟨w.heap.size + 1 + 1, 1, none⟩) (Nat.le_refl _) (.slice A9 (L + 1) c9))
          have HSZ := Lib.hid (show wr.heap.size ≤ w9.heap.size from Nat.le_trans b8d.size b9.size)
          have HEL := Lib.hid (show (aftK ts us (k + 1)).length = L + 1 by rw [HNX.out, List.length_append, ← HLL.out]; rfl)
          clear b8 m8 m9 o9 b9 b8d k9 g9
          go_upto_region 6 with fail
          refine wp_region_heldX (X := fun k => ([16] : List Nat).contains k) (S := fun W => W.cell? ⟨w.heap.size + 1 + 1, 1, none⟩ = some (.slice A' L c') ∧ W.cell? ⟨wr.heap.size, 0, none⟩ = some (.slice (some ⟨b1, o1, none⟩) n2 c1) ∧ W.cell? ⟨wr.heap.size, 1, none⟩ = some (.slice (some ⟨b2, o2, none⟩) n2 c2)) (by kernel_rfl) ?_
          refine wpAnyX_pure (i := 0) (v := ?_) rfl (by kernel_rfl) (by kernel_rfl) (by kernel_rfl) (fun _ _ _ h => h) (Or.inl ⟨by rfl, ?_⟩) ?_
          rotate_left
          · (intro W _; go_simp; try with_reducible rfl)
          (try simp only [Act.put, List.getElem_toArray, List.getElem_cons_zero, List.getElem_cons_succ, List.setIfInBounds_toArray, List.set_cons_zero, List.set_cons_succ])
          refine wpAnyX_takeL (L := [16]) (i := 1) (v := ?_) rfl (by kernel_rfl) (by kernel_rfl) (by kernel_rfl) (by kernel_rfl) (fun _ _ _ h => h) (Or.inl ⟨by rfl, ?_⟩) (HS.out _ hbf) ?_
          rotate_left
          · (intro W hSW; (try dsimp only at hSW); obtain ⟨z0, z1, z2⟩ := hSW; go_simp; try with_reducible rfl)
          (try simp only [Act.put, List.getElem_toArray, List.getElem_cons_zero, List.getElem_cons_succ, List.setIfInBounds_toArray, List.set_cons_zero, List.set_cons_succ])
          refine wpAnyX_pure (i := 2) (v := ?_) rfl (by kernel_rfl) (by kernel_rfl) (by kernel_rfl) (fun _ _ _ h => h) (Or.inl ⟨by rfl, ?_⟩) ?_
          rotate_left
          · (intro W _; go_simp; try with_reducible rfl)
          (try simp only [Act.put, List.getElem_toArray, List.getElem_cons_zero, List.getElem_cons_succ, List.setIfInBounds_toArray, List.set_cons_zero, List.set_cons_succ])
          refine wpAnyX_takeL (L := [16]) (i := 3) (v := ?_) rfl (by kernel_rfl) (by kernel_rfl) (by kernel_rfl) (by kernel_rfl) (fun _ _ _ h => h) (Or.inl ⟨by rfl, ?_⟩) (HS.out _ hbf) ?_
          rotate_left
          · (intro W hSW; (try dsimp only at hSW); obtain ⟨z0, z1, z2⟩ := hSW; go_simp; try with_reducible rfl)
          (try simp only [Act.put, List.getElem_toArray, List.getElem_cons_zero, List.getElem_cons_succ, List.setIfInBounds_toArray, List.set_cons_zero, List.set_cons_succ])
          refine wpAnyX_pure (i := 4) (v := ?_) rfl (by kernel_rfl) (by kernel_rfl) (by kernel_rfl) (fun _ _ _ h => h) (Or.inl ⟨by rfl, ?_⟩) ?_
          rotate_left
          · (intro W _; go_simp; try with_reducible rfl)
          (try simp only [Act.put, List.getElem_toArray, List.getElem_cons_zero, List.getElem_cons_succ, List.setIfInBounds_toArray, List.set_cons_zero, List.set_cons_succ])
          refine wpAnyX_pure (i := 5) (v := ?_) rfl (by kernel_rfl) (by kernel_rfl) (by kernel_rfl) (fun _ _ _ h => h) (Or.inl ⟨by rfl, ?_⟩) ?_
          rotate_left
          · (intro W _; go_simp; try with_reducible rfl)
          (try simp only [Act.put, List.getElem_toArray, List.getElem_cons_zero, List.getElem_cons_succ, List.setIfInBounds_toArray, List.set_cons_zero, List.set_cons_succ])
          refine wpAnyX_pure (i := 6) (v := ?_) rfl (by kernel_rfl) (by kernel_rfl) (by kernel_rfl) (fun _ _ _ h => h) (Or.inl ⟨by rfl, ?_⟩) ?_
          rotate_left
          · (intro W _; go_simp; try with_reducible rfl)
          (try simp only [Act.put, List.getElem_toArray, List.getElem_cons_zero, List.getElem_cons_succ, List.setIfInBounds_toArray, List.set_cons_zero, List.set_cons_succ])
          refine wpAnyX_pure (i := 7) (v := ?_) rfl (by kernel_rfl) (by kernel_rfl) (by kernel_rfl) (fun _ _ _ h => h) (Or.inl ⟨by rfl, ?_⟩) ?_
          rotate_left
          · (intro W _; go_simp; try with_reducible rfl)
          (try simp only [Act.put, List.getElem_toArray, List.getElem_cons_zero, List.getElem_cons_succ, List.setIfInBounds_toArray, List.set_cons_zero, List.set_cons_succ])
          refine wpAnyX_takeL (L := [16]) (i := 8) (v := ?_) rfl (by kernel_rfl) (by kernel_rfl) (by kernel_rfl) (by kernel_rfl) (fun _ _ _ h => h) (Or.inl ⟨by rfl, ?_⟩) (HS.out _ hbf) ?_
          rotate_left
          · (intro W hSW; (try dsimp only at hSW); obtain ⟨z0, z1, z2⟩ := hSW; go_simp; try with_reducible rfl)
          (try simp only [Act.put, List.getElem_toArray, List.getElem_cons_zero, List.getElem_cons_succ, List.setIfInBounds_toArray, List.set_cons_zero, List.set_cons_succ])
          refine wpAnyX_pure (i := 9) (v := ?_) rfl (by kernel_rfl) (by kernel_rfl) (by kernel_rfl) (fun _ _ _ h => h) (Or.inl ⟨by rfl, ?_⟩) ?_
          rotate_left
          · (intro W _; go_simp; try with_reducible rfl)
          (try simp only [Act.put, List.getElem_toArray, List.getElem_cons_zero, List.getElem_cons_succ, List.setIfInBounds_toArray, List.set_cons_zero, List.set_cons_succ])
          refine wpAnyX_pure (i := 10) (v := ?_) rfl (by kernel_rfl) (by kernel_rfl) (by kernel_rfl) (fun _ _ _ h => h) (Or.inl ⟨by rfl, ?_⟩) ?_
          rotate_left
          · (intro W _; go_simp; try with_reducible rfl)
          (try simp only [Act.put, List.getElem_toArray, List.getElem_cons_zero, List.getElem_cons_succ, List.setIfInBounds_toArray, List.set_cons_zero, List.set_cons_succ])
          refine wpAnyX_pure (i := 11) (v := ?_) rfl (by kernel_rfl) (by kernel_rfl) (by kernel_rfl) (fun _ _ _ h => h) (Or.inl ⟨by rfl, ?_⟩) ?_
          rotate_left
          · (intro W _; go_simp; try with_reducible rfl)
          (try simp only [Act.put, List.getElem_toArray, List.getElem_cons_zero, List.getElem_cons_succ, List.setIfInBounds_toArray, List.set_cons_zero, List.set_cons_succ])
          refine wpAnyX_pure (i := 12) (v := ?_) rfl (by kernel_rfl) (by kernel_rfl) (by kernel_rfl) (fun _ _ _ h => h) (Or.inl ⟨by rfl, ?_⟩) ?_
          rotate_left
          · (intro W _; go_simp; try with_reducible rfl)
          (try simp only [Act.put, List.getElem_toArray, List.getElem_cons_zero, List.getElem_cons_succ, List.setIfInBounds_toArray, List.set_cons_zero, List.set_cons_succ])
          refine wpAnyX_one (i := 13) rfl (by kernel_rfl) (fun K hK => ?_)
          go_simp
          refine hK.out _ _ (fun _ _ => HS.out _ (bt hbf (alloc_below _ _))) ?_
          (try simp only [Act.put, List.getElem_toArray, List.getElem_cons_zero, List.getElem_cons_succ, List.setIfInBounds_toArray, List.set_cons_zero, List.set_cons_succ])
          refine wpAnyX_one (i := 14) rfl (by kernel_rfl) (fun K hK => ?_)
          refine step_apph rfl _ _ _ _ rfl _ _ rfl rfl _ _ hrn ?_
          refine hK.out _ _ (fun _ _ => HS9.out) ?_
          (try simp only [Act.put, List.getElem_toArray, List.getElem_cons_zero, List.getElem_cons_succ, List.setIfInBounds_toArray, List.set_cons_zero, List.set_cons_succ])
          refine wpAnyX_pure (i := 15) (v := ?_) rfl (by kernel_rfl) (by kernel_rfl) (by kernel_rfl) (fun _ _ _ h => h) (Or.inl ⟨by rfl, ?_⟩) ?_
          rotate_left
          · (intro W _; go_simp; try with_reducible rfl)
          (try simp only [Act.put, List.getElem_toArray, List.getElem_cons_zero, List.getElem_cons_succ, List.setIfInBounds_toArray, List.set_cons_zero, List.set_cons_succ])
          refine wpAnyX_one (i := 16) rfl (by kernel_rfl) (fun K hK => ?_)
          go_simp
          refine hK.out _ _ (fun h => absurd h (by decide)) ?_
          (try simp only [Act.put, List.getElem_toArray, List.getElem_cons_zero, List.getElem_cons_succ, List.setIfInBounds_toArray, List.set_cons_zero, List.set_cons_succ])
          refine wpAnyX_done (by kernel_rfl) ?_ _
          clear hbf hrn
          go_wp2
          go_roundw
          case rel => exact ⟨k + 1, A9, c9, by go_num, by omega, by rw [HEL.out]; simpa using HM9, by rw [HEL.out, HNX.out, HLU.out]; exact HO9, Lib.hid ⟨HBR.out.1.trans HB9.out, by have := HBR.out.2; have := HSZ.out; simp; omega⟩⟩
          case measure => simp [intOf]; omega
        · have HNX := Lib.hid (aftK_no (u := us) (k := k) (ts := ts) (by rw [HN1.out, HLU.out]; omega))
          obtain ⟨b1, o1, eA1, _, _⟩ := HI1.out.at_ (k := m) h1
          subst eA1
          obtain ⟨b2, o2, eA2, _, _⟩ := HI2.out.at_ (k := m) h1
          subst eA2
          have hlu : us.length = m := HLU.out
          have HDEC := Lib.hid (show decide (cmn (tIn ts k) us = us.length) = false by rw [hlu]; simp [h2])
          have HBA := Lib.hid (alloc_below wr (.cells #[.slice (some ⟨b1, o1, none⟩) n2 c1, .slice (some ⟨b2, o2, none⟩) n2 c2] 38))
          have HB7 := Lib.hid (bx_new wr #[.slice (some ⟨b1, o1, none⟩) n2 c1, .slice (some ⟨b2, o2, none⟩) n2 c2] 38)
          have HP := Lib.hid (whasprefix (some ⟨b1, o1, none⟩) U n2 c1 m d (tIn ts k) us _ (HI1.out.below (bt HB00.out HBA.out)) (HU.out.below (bt HB00.out HBA.out)))
          have h0m : (0 : Int) ≤ (m : Int) := by omega
          have hc1m : ¬ c1 = m := by omega
          have hc2m : ¬ c2 = m := by omega
          have h1m : (m : Int) ≤ (n2 : Int) := by omega
          have hh2 := Lib.hid h2
          clear hlu h2
          go_wp2_with fail
          refine HP.out.mono ?_
          rintro e w8 ⟨rfl, q8, rfl⟩
          rw [HDEC.out]
          go_wp2
          go_roundw
          case rel => exact ⟨k + 1, A', c', by go_num, by omega, by rw [HNX.out, ← HLL.out]; exact Lib.hid ((HX.out.on HBA.out).drewN _), by rw [HNX.out, ← HLL.out]; exact Lib.hid (HH.out.keptT (KeptT.of_below (below_drewN HBA.out _))), Lib.hid ⟨HBR.out.1.trans ((below_drewN HBA.out _).mono (by omega)), Nat.le_trans HBR.out.2 HBA.out.size⟩⟩
          case measure => simp [intOf]; omega
      · have HNX := Lib.hid (aftK_no (u := us) (k := k) (ts := ts) (by rw [HN1.out, HLU.out]; omega))
        have HBA := Lib.hid (alloc_below wr (.cells #[.slice A1 n2 c1, .slice A2 n2 c2] 38))
        go_wp2
        go_roundw
        case rel => exact ⟨k + 1, A', c', by go_num, by omega, by rw [HNX.out, ← HLL.out]; exact Lib.hid (HX.out.on HBA.out), by rw [HNX.out, ← HLL.out]; exact Lib.hid (HH.out.keptT (KeptT.of_below HBA.out)), Lib.hid ⟨HBR.out.1.trans (HBA.out.mono (by omega)), Nat.le_trans HBR.out.2 HBA.out.size⟩⟩
        case measure => simp [intOf]; omega
    · obtain rfl : k = tn := by omega
      have HXX := HX.out
      rw [HLL.out] at HXX
      have HB2' := HM2.out.kept HBR.out.1 (by omega : w.heap.size + 1 < w.heap.size + 1 + 1)
      have f0 := HB2'.free 0
      have f1 := HB2'.free 1
      have q0 := HB2'.cell 0
      have q1 := HB2'.cell 1
      have r0 := HX.out.cell 0
      have r1 := HX.out.cell 1
      simp at q0 q1 r0 r1
      have HR1 := Lib.hid ((HB2'.set 0 (.int .i64 i)).set 1 (.slice A' L c'))
      have HR2 := Lib.hid ((HBW.out.setCell (p := ⟨w.heap.size + 1, 0, none⟩) (show w.heap.size ≤ w.heap.size + 1 by omega) (.int .i64 i)).setCell (p := ⟨w.heap.size + 1, 1, none⟩) (show w.heap.size ≤ w.heap.size + 1 by omega) (.slice A' L c'))
      clear HB2' HXX
      go_wp2
      (try rw [Exit.noGoto_ret])
      refine bodyPost_ret (results_obs rfl _ _ (w.heap.size + 1) (.int .i64 i) (.slice A' L c') rfl (by have := HR1.out; simpa using this)) rfl ?_
      rw [← HLL.out]
      refine ⟨A', c', rfl, ?_, HR2.out⟩
      have hk1 := (HM2.out.kept HBR.out.1 (by omega : w.heap.size + 1 < w.heap.size + 1 + 1))
      exact ((HH.out.keptT (hk1.keptSet (t := 38) (k := 0) (by decide) (.int .i64 i))).keptT ((hk1.set 0 (.int .i64 i)).keptSet (t := 38) (k := 1) (by decide) (.slice A' L c'))).lower (by omega)
end Go.Proofs.Ytkgdgnmobahhfaa
end

section
/- ordered, earlier, contradict. -/
namespace Go.Proofs.Ytkgdgnmobahhfaa
open Go.RowKit Go.Shelf

set_option linter.unusedSimpArgs false in
theorem results_obs2 {fn : Func} {p q : Tmp} (h : fn.results = #[.cell p 24, .cell q 24]) (tmps : Array Value) (w : World) (g k : Nat) (v1 v2 u1 u2 : Value)
    (hp : tmps.getD p undef = .pointer (some ⟨g, 0, none⟩)) (hq : tmps.getD q undef = .pointer (some ⟨k, 0, none⟩)) (hg : Bx w g #[v1, v2] 24) (hk : Bx w k #[u1, u2] 24) :
    (results fn tmps).run Try.prog w = .ok (.tuple #[.agg #[v1, v2], .agg #[u1, u2]]) w := by
  have hl := run_loadVar_row (P := Try.prog) w g 24 24 #[v1, v2] (0, 0) _ hg Try.underlying24 rfl (by kernel_rfl)
  have hl2 := run_loadVar_row (P := Try.prog) w k 24 24 #[u1, u2] (0, 0) _ hk Try.underlying24 rfl (by kernel_rfl)
  rw [Array.getD_eq_getD_getElem?] at hp hq
  unfold results
  rw [h]
  simp [hp, hq, asAddr, hl, hl2, Sem.run_bind, Sem.run_pure]

set_option linter.unusedSimpArgs false in
set_option linter.unusedVariables false in
set_option maxHeartbeats 4000000 in
set_option maxRecDepth 100000 in
theorem pordered (i k : Int) (A B : Option Addr) (n c m d : Nat) (w : World) (hn : n ≤ 17592186044416) (hm : m ≤ 17592186044416) :
    Calls Try.prog 85 #[.agg #[.int .i64 i, .slice A n c], .agg #[.int .i64 k, .slice B m d]] w fun e w' =>
      e = .returned (.tuple #[if m < n then .agg #[.int .i64 k, .slice B m d] else .agg #[.int .i64 i, .slice A n c], if m < n then .agg #[.int .i64 i, .slice A n c] else .agg #[.int .i64 k, .slice B m d]]) ∧ Below w.heap.size w w' := by
  obtain ⟨hb0, m1, m2, m3, hs0⟩ := bxs3 w #[.int .i64 i, .slice A n c] #[.int .i64 k, .slice B m d] #[.int .i64 0, .slice none 0 0] 24 24 24 _ rfl
  have m4 := bx_new (((w.alloc (.cells #[.int .i64 i, .slice A n c] 24)).alloc (.cells #[.int .i64 k, .slice B m d] 24)).alloc (.cells #[.int .i64 0, .slice none 0 0] 24)) #[.int .i64 0, .slice none 0 0] 24
  have b4 := alloc_below (((w.alloc (.cells #[.int .i64 i, .slice A n c] 24)).alloc (.cells #[.int .i64 k, .slice B m d] 24)).alloc (.cells #[.int .i64 0, .slice none 0 0] 24)) (.cells #[.int .i64 0, .slice none 0 0] 24)
  rw [hs0] at m4
  have m1 := m1.on b4
  have m2 := m2.on b4
  have m3 := m3.on b4
  have hb0 := bt hb0 b4
  by_cases h : m < n
  · rw [if_pos h, if_pos h]
    go_enter Try.func85, Try.ntmps85
    go_wp2
    clear b4 hs0
    generalize (((w.alloc (.cells #[.int .i64 i, .slice A n c] 24)).alloc (.cells #[.int .i64 k, .slice B m d] 24)).alloc (.cells #[.int .i64 0, .slice none 0 0] 24)).alloc (.cells #[.int .i64 0, .slice none 0 0] 24) = w4 at m1 m2 m3 m4 hb0 ⊢
    refine wp_region_heldX (X := fun k => ([] : List Nat).contains k) (S := fun W => Bx W (w.heap.size) #[.int .i64 i, .slice A n c] 24 ∧ Bx W (w.heap.size + 1) #[.int .i64 k, .slice B m d] 24) (by kernel_rfl) ?_
    refine wpAnyX_takeL (L := []) (i := 0) (v := .agg (#[.int .i64 k, .slice B m d])) rfl (by kernel_rfl) (by kernel_rfl) (by kernel_rfl) (by kernel_rfl) (fun _ _ _ h => h) (Or.inl ⟨by rfl, fun W hSW => run_load_bx 24 _ rfl (w.heap.size + 1) rfl 24 (#[.int .i64 k, .slice B m d]) (0, 0) _ (hSW.2) Try.underlying24 rfl (by kernel_rfl)⟩) (⟨m1.drewN 1, m2.drewN 1⟩) ?_
    (try simp only [Act.put, List.getElem_toArray, List.getElem_cons_zero, List.getElem_cons_succ, List.setIfInBounds_toArray, List.set_cons_zero, List.set_cons_succ])
    refine wpAnyX_takeL (L := []) (i := 1) (v := .agg (#[.int .i64 i, .slice A n c])) rfl (by kernel_rfl) (by kernel_rfl) (by kernel_rfl) (by kernel_rfl) (fun _ _ _ h => h) (Or.inl ⟨by rfl, fun W hSW => run_load_bx 24 _ rfl (w.heap.size) rfl 24 (#[.int .i64 i, .slice A n c]) (0, 0) _ (hSW.1) Try.underlying24 rfl (by kernel_rfl)⟩) (⟨m1.drewN 1, m2.drewN 1⟩) ?_
    (try simp only [Act.put, List.getElem_toArray, List.getElem_cons_zero, List.getElem_cons_succ, List.setIfInBounds_toArray, List.set_cons_zero, List.set_cons_succ])
    refine wpAnyX_one (i := 2) rfl (by kernel_rfl) (fun K hK => ?_)
    refine wp_store_row 24 _ _ rfl (w.heap.size + 1 + 1) (#[.int .i64 k, .slice B m d]) rfl rfl 24 (#[.int .i64 0, .slice none 0 0]) (m3.drewN 1) (by kernel_rfl) (by rfl) (by simp [Value.oneCell']) (hK.out _ _ (fun _ _ => ⟨(m1.drewN 1).rowOther (by omega) _, (m2.drewN 1).rowOther (by omega) _⟩) ?_)
    (try simp only [Act.put, List.getElem_toArray, List.getElem_cons_zero, List.getElem_cons_succ, List.setIfInBounds_toArray, List.set_cons_zero, List.set_cons_succ])
    refine wpAnyX_one (i := 3) rfl (by kernel_rfl) (fun K hK => ?_)
    refine wp_store_row 24 _ _ rfl (w.heap.size + 1 + 1 + 1) (#[.int .i64 i, .slice A n c]) rfl rfl 24 (#[.int .i64 0, .slice none 0 0]) ((m4.drewN 1).rowOther (by omega) _) (by kernel_rfl) (by rfl) (by simp [Value.oneCell']) (hK.out _ _ (fun _ _ => ⟨((m1.drewN 1).rowOther (by omega) _).rowOther (by omega) _, ((m2.drewN 1).rowOther (by omega) _).rowOther (by omega) _⟩) ?_)
    (try simp only [Act.put, List.getElem_toArray, List.getElem_cons_zero, List.getElem_cons_succ, List.setIfInBounds_toArray, List.set_cons_zero, List.set_cons_succ])
    refine wpAnyX_done (by kernel_rfl) ?_ _
    have HG3 := Lib.hid (((m3.drewN 1).row (#[.int .i64 k, .slice B m d])).rowOther (g' := w.heap.size + 1 + 1 + 1) (by omega) (#[.int .i64 i, .slice A n c]))
    have HG4 := Lib.hid (((m4.drewN 1).rowOther (g' := w.heap.size + 1 + 1) (by omega) (#[.int .i64 k, .slice B m d])).row (#[.int .i64 i, .slice A n c]))
    have HBB := Lib.hid (below_setRow (g := w.heap.size + 1 + 1 + 1) (below_setRow (g := w.heap.size + 1 + 1) (below_drewN hb0 1) (by omega) (#[.int .i64 k, .slice B m d])) (by omega) (#[.int .i64 i, .slice A n c]))
    clear m1 m2 m3 m4 hb0
    go_wp2
    (try rw [Exit.noGoto_ret])
    refine bodyPost_ret (results_obs2 rfl _ _ (w.heap.size + 1 + 1) (w.heap.size + 1 + 1 + 1) _ _ _ _ rfl rfl HG3.out HG4.out) rfl ?_
    exact ⟨rfl, HBB.out⟩
  · rw [if_neg h, if_neg h]
    go_enter Try.func85, Try.ntmps85
    go_wp2
    clear b4 hs0
    generalize (((w.alloc (.cells #[.int .i64 i, .slice A n c] 24)).alloc (.cells #[.int .i64 k, .slice B m d] 24)).alloc (.cells #[.int .i64 0, .slice none 0 0] 24)).alloc (.cells #[.int .i64 0, .slice none 0 0] 24) = w4 at m1 m2 m3 m4 hb0 ⊢
    refine wp_region_heldX (X := fun k => ([] : List Nat).contains k) (S := fun W => Bx W (w.heap.size) #[.int .i64 i, .slice A n c] 24 ∧ Bx W (w.heap.size + 1) #[.int .i64 k, .slice B m d] 24) (by kernel_rfl) ?_
    refine wpAnyX_takeL (L := []) (i := 0) (v := .agg (#[.int .i64 i, .slice A n c])) rfl (by kernel_rfl) (by kernel_rfl) (by kernel_rfl) (by kernel_rfl) (fun _ _ _ h => h) (Or.inl ⟨by rfl, fun W hSW => run_load_bx 24 _ rfl (w.heap.size) rfl 24 (#[.int .i64 i, .slice A n c]) (0, 0) _ (hSW.1) Try.underlying24 rfl (by kernel_rfl)⟩) (⟨m1.drewN 1, m2.drewN 1⟩) ?_
    (try simp only [Act.put, List.getElem_toArray, List.getElem_cons_zero, List.getElem_cons_succ, List.setIfInBounds_toArray, List.set_cons_zero, List.set_cons_succ])
    refine wpAnyX_takeL (L := []) (i := 1) (v := .agg (#[.int .i64 k, .slice B m d])) rfl (by kernel_rfl) (by kernel_rfl) (by kernel_rfl) (by kernel_rfl) (fun _ _ _ h => h) (Or.inl ⟨by rfl, fun W hSW => run_load_bx 24 _ rfl (w.heap.size + 1) rfl 24 (#[.int .i64 k, .slice B m d]) (0, 0) _ (hSW.2) Try.underlying24 rfl (by kernel_rfl)⟩) (⟨m1.drewN 1, m2.drewN 1⟩) ?_
    (try simp only [Act.put, List.getElem_toArray, List.getElem_cons_zero, List.getElem_cons_succ, List.setIfInBounds_toArray, List.set_cons_zero, List.set_cons_succ])
    refine wpAnyX_one (i := 2) rfl (by kernel_rfl) (fun K hK => ?_)
    refine wp_store_row 24 _ _ rfl (w.heap.size + 1 + 1) (#[.int .i64 i, .slice A n c]) rfl rfl 24 (#[.int .i64 0, .slice none 0 0]) (m3.drewN 1) (by kernel_rfl) (by rfl) (by simp [Value.oneCell']) (hK.out _ _ (fun _ _ => ⟨(m1.drewN 1).rowOther (by omega) _, (m2.drewN 1).rowOther (by omega) _⟩) ?_)
    (try simp only [Act.put, List.getElem_toArray, List.getElem_cons_zero, List.getElem_cons_succ, List.setIfInBounds_toArray, List.set_cons_zero, List.set_cons_succ])
    refine wpAnyX_one (i := 3) rfl (by kernel_rfl) (fun K hK => ?_)
    refine wp_store_row 24 _ _ rfl (w.heap.size + 1 + 1 + 1) (#[.int .i64 k, .slice B m d]) rfl rfl 24 (#[.int .i64 0, .slice none 0 0]) ((m4.drewN 1).rowOther (by omega) _) (by kernel_rfl) (by rfl) (by simp [Value.oneCell']) (hK.out _ _ (fun _ _ => ⟨((m1.drewN 1).rowOther (by omega) _).rowOther (by omega) _, ((m2.drewN 1).rowOther (by omega) _).rowOther (by omega) _⟩) ?_)
    (try simp only [Act.put, List.getElem_toArray, List.getElem_cons_zero, List.getElem_cons_succ, List.setIfInBounds_toArray, List.set_cons_zero, List.set_cons_succ])
    refine wpAnyX_done (by kernel_rfl) ?_ _
    have HG3 := Lib.hid (((m3.drewN 1).row (#[.int .i64 i, .slice A n c])).rowOther (g' := w.heap.size + 1 + 1 + 1) (by omega) (#[.int .i64 k, .slice B m d]))
    have HG4 := Lib.hid (((m4.drewN 1).rowOther (g' := w.heap.size + 1 + 1) (by omega) (#[.int .i64 i, .slice A n c])).row (#[.int .i64 k, .slice B m d]))
    have HBB := Lib.hid (below_setRow (g := w.heap.size + 1 + 1 + 1) (below_setRow (g := w.heap.size + 1 + 1) (below_drewN hb0 1) (by omega) (#[.int .i64 i, .slice A n c])) (by omega) (#[.int .i64 k, .slice B m d]))
    clear m1 m2 m3 m4 hb0
    go_wp2
    (try rw [Exit.noGoto_ret])
    refine bodyPost_ret (results_obs2 rfl _ _ (w.heap.size + 1 + 1) (w.heap.size + 1 + 1 + 1) _ _ _ _ rfl rfl HG3.out HG4.out) rfl ?_
    exact ⟨rfl, HBB.out⟩

set_option maxRecDepth 100000 in
theorem pearlier_none (B : Option Addr) (m d : Nat) (w : World) :
    Calls Try.prog 84 #[.slice none 0 0, .slice B m d] w fun e w' => e = .returned (.slice B m d) ∧ w' = w := by
  have he := fun W => Lib.run_eql_slice_nil (P := Try.prog) W 36 3 none 0 0 0 0 Try.underlying36
  go_enter Try.func84, Try.ntmps84
  go_wp2
  go_ret
  exact ⟨rfl, rfl⟩

set_option maxHeartbeats 1000000 in
set_option maxRecDepth 100000 in
theorem pearlier_some (g : Addr) (B : Option Addr) (n c m d : Nat) (xs ys : List Int) (w : World) (hx : Ints w (some g) n xs) (hy : Ints w B m ys) :
    Calls Try.prog 84 #[.slice (some g) n c, .slice B m d] w fun e w' => e = .returned (if shlex ys xs < 0 then .slice B m d else .slice (some g) n c) ∧ ∃ q, w' = w.drewN q := by
  have he := fun W => Lib.run_eql_slice_nil (P := Try.prog) W 36 3 (some g) n c 0 0 Try.underlying36
  have HC := Lib.hid (wcompare B (some g) m d n c ys xs w hy hx)
  obtain ⟨s, hs⟩ : ∃ s, s = shlex ys xs := ⟨_, rfl⟩
  rw [← hs] at HC ⊢
  clear hs hx hy
  by_cases h : s < 0
  · rw [if_pos h]
    go_enter Try.func84, Try.ntmps84
    go_wp2_with fail
    refine HC.out.mono ?_
    rintro e w' ⟨rfl, q, rfl⟩
    go_wp2
    go_ret
    exact ⟨rfl, q, rfl⟩
  · rw [if_neg h]
    go_enter Try.func84, Try.ntmps84
    go_wp2_with fail
    refine HC.out.mono ?_
    rintro e w' ⟨rfl, q, rfl⟩
    go_wp2
    go_ret
    exact ⟨rfl, q, rfl⟩
end Go.Proofs.Ytkgdgnmobahhfaa
end

section
/- State of a hypothesis: both sides; difference. -/
namespace Go.Proofs.Ytkgdgnmobahhfaa
open Go.RowKit

theorem Lists.one {w : World} {A : Option Addr} {n c : Nat} {xs : List Int} (h : Ints w A n xs) : Lists (w.alloc (.cells #[.slice A n c] 36)) (some ⟨w.heap.size, 0, none⟩) 1 [xs] := by
  have hb := alloc_below w (.cells #[.slice A n c] 36)
  refine ⟨rfl, by omega, fun _ => ⟨w.heap.size, 0, rfl, by simp, fun j hj => ?_⟩⟩
  obtain rfl : j = 0 := by omega
  exact ⟨A, n, c, by simp, h.below hb⟩
theorem Lists.two {w : World} {A B : Option Addr} {n c m d : Nat} {xs ys : List Int} (h : Ints w A n xs) (k : Ints w B m ys) : Lists (w.alloc (.cells #[.slice A n c, .slice B m d] 36)) (some ⟨w.heap.size, 0, none⟩) 2 [xs, ys] := by
  have hb := alloc_below w (.cells #[.slice A n c, .slice B m d] 36)
  refine ⟨rfl, by omega, fun _ => ⟨w.heap.size, 0, rfl, by simp, fun j hj => ?_⟩⟩
  rcases Nat.lt_or_ge j 1 with h1 | h1
  · obtain rfl : j = 0 := by omega
    exact ⟨A, n, c, by simp, h.below hb⟩
  · obtain rfl : j = 1 := by omega
    exact ⟨B, m, d, by simp, k.below hb⟩
/-- The access word of the state that xs reaches. -/
def stW (i : Int) (st : Nat) (nx acc : List (List Int)) (xs : List Int) : List Int := if chk xs i = 0 then acc.getD (runS nx st xs) [] else []
/-- A slice of one's own that reads as xs. -/
def OwnE (w : World) (xs : List Int) (E : Int) (r : Ending) (w' : World) : Prop := ∃ (A' : Option Addr) (c' : Nat), r = .returned (.tuple #[.slice A' xs.length c', .int .i64 E]) ∧ Owned w' w.heap.size (.slice A' xs.length c') xs ∧ Below w.heap.size w w'

set_option linter.unusedSimpArgs false in
set_option linter.unusedVariables false in
set_option maxHeartbeats 4000000 in
set_option maxRecDepth 100000 in
theorem phstate (i st n : Nat) (A B C D : Option Addr) (c d e k g : Nat) (nx ot acc : List (List Int)) (xs : List Int) (w : World) (hx : Lists w A n nx) (ho : Lists w B n ot) (hC : Lists w C n acc) (hD : Ints w D k xs) (hM : Mok i st n nx ot) :
    Calls Try.prog 43 #[.agg #[.int .i64 i, .int .i64 st, .slice A n c, .slice B n d, .slice C n e], .slice D k g] w fun r w' => OwnE w (stW i st nx acc xs) (chk xs i) r w' := by
  obtain ⟨w0, hw0⟩ : ∃ w0, w0 = w.alloc (.cells #[.int .i64 i, .int .i64 st, .slice A n c, .slice B n d, .slice C n e] 65) := ⟨_, rfl⟩
  have hb0 : Below w.heap.size w w0 := by rw [hw0]; exact alloc_below _ _
  have m0 : Bx w0 w.heap.size #[.int .i64 i, .int .i64 st, .slice A n c, .slice B n d, .slice C n e] 65 := by rw [hw0]; exact bx_new _ _ _
  have HM := Lib.hid (fun (W : World) (h : Below w0.heap.size w0 W) => m0.on h)
  have HX := Lib.hid (fun (W : World) (h : Below w0.heap.size w0 W) => (hx.below hb0).below h)
  have HO := Lib.hid (fun (W : World) (h : Below w0.heap.size w0 W) => (ho.below hb0).below h)
  have HC := Lib.hid (fun (W : World) (h : Below w0.heap.size w0 W) => (hC.below hb0).below h)
  have HD := Lib.hid (fun (W : World) (h : Below w0.heap.size w0 W) => (hD.below hb0).below h)
  have HB0 := Lib.hid hb0
  have HW0 := Lib.hid hw0
  have HLX := Lib.hid hx.1
  have hn := hx.2.1
  have hbc := Below.refl w0.heap.size w0
  have k0 := m0.cell 0
  have k1 := m0.cell 1
  have k2 := m0.cell 2
  have k3 := m0.cell 3
  have k4 := m0.cell 4
  simp at k0 k1 k2 k3 k4
  have HMOK := Lib.hid hM
  have hst := hM.st
  by_cases hc : chk xs i = 0
  · have hsy := (chk_zero hc).2.2.2.mem
    have hsl := hM.runS_lt xs st hM.st hsy
    have HST := Lib.hid (show stW i st nx acc xs = acc.getD (runS nx st xs) [] by unfold stW; rw [if_pos hc])
    obtain ⟨s, hs⟩ : ∃ s, s = runS nx st xs := ⟨_, rfl⟩
    rw [← hs] at hsl HST
    have HS := Lib.hid hs
    have HCK := Lib.hid hc
    have hsI : (s : Int) < (n : Int) := by omega
    have hsN : ¬ (n : Int) ≤ (s : Int) := by omega
    have hs0 : (0 : Int) ≤ (s : Int) := by omega
    clear hs
    have HFR := Lib.hid (pfrom i st A B D n c n d k g nx ot st xs w0 (HX.out _ hbc) (HO.out _ hbc) (HD.out _ hbc))
    have HF2 := Lib.hid (frm_ok hM.vld (by rw [HLX.out]; exact hst) hc)
    rw [hw0] at k0 k1 k2 k3 k4
    clear hc hsy
    clear hw0 m0 hx ho hC hD hM hb0
    go_enter Try.func43, Try.ntmps43
    go_wp2_with fail
    rw [← HW0.out]
    refine HFR.out.mono ?_
    rintro r w2 ⟨A2, c2, rfl, o2, a2⟩
    rw [HF2.out, ← HS.out] at o2 ⊢
    have hbc := bt hbc a2
    have k4 := (HM.out _ hbc).cell 4
    simp at k4
    clear o2 k0 k1 k2 k3
    obtain ⟨bq, oq, Aj, nj, cj, rfl, _, j1, j2⟩ := (HC.out _ hbc).at_ (k := s) hsl
    have HLJ := Lib.hid j2.1
    have HCL := Lib.hid (sclone Aj nj cj _ w2 j2)
    have HBC := Lib.hid hbc
    clear j2 a2 hbc
    go_wp2_with fail
    refine HCL.out.mono ?_
    rintro r w3 ⟨A3, c3, rfl, o3, a3⟩
    have HO3 := Lib.hid (o3.lower (base' := w.heap.size) (bt HB0.out HBC.out).size)
    have HB3 := Lib.hid (bt HB0.out (bt HBC.out a3))
    clear o3 a3
    go_wp2_with fail
    go_ret2
    refine ⟨A3, c3, ?_, by rw [HST.out, HLJ.out]; exact HO3.out, HB3.out⟩
    rw [HST.out, HLJ.out, HCK.out]; rfl
  · have HST := Lib.hid (show stW i st nx acc xs = [] by unfold stW; rw [if_neg hc])
    obtain ⟨E, hE⟩ : ∃ E, E = chk xs i := ⟨_, rfl⟩
    have hEe : (E != 0) = true := by rw [hE]; simpa using hc
    have HE := Lib.hid hE
    have HFR := Lib.hid (pfrom i st A B D n c n d k g nx ot st xs w0 (HX.out _ hbc) (HO.out _ hbc) (HD.out _ hbc))
    have HF2 := Lib.hid (frm_word (s := (st : Int)) hM.vld ⟨by omega, by rw [HLX.out]; omega⟩ hc)
    rw [hw0] at k0 k1 k2 k3 k4
    clear hc hE
    clear hw0 m0 hx ho hC hD hM hb0
    go_enter Try.func43, Try.ntmps43
    go_wp2_with fail
    rw [← HW0.out]
    refine HFR.out.mono ?_
    rintro r w2 ⟨A2, c2, rfl, o2, a2⟩
    rw [HF2.out, ← HE.out] at o2 ⊢
    have HBC := Lib.hid (bt HB0.out (bt hbc a2))
    clear o2 k0 k1 k2 k3 k4
    go_wp2_with fail
    go_ret2
    refine ⟨none, 0, ?_, by rw [HST.out]; exact Owned.nil _ _, HBC.out⟩
    rw [HST.out, ← HE.out]; rfl

set_option linter.unusedSimpArgs false in
set_option linter.unusedVariables false in
set_option maxHeartbeats 4000000 in
set_option maxRecDepth 100000 in
theorem rhstate (i st n : Nat) (A B C D : Option Addr) (c d e k g : Nat) (nx ot acc : List (List Int)) (xs : List Int) (w : World) (hx : Lists w A n nx) (ho : Lists w B n ot) (hC : Lists w C n acc) (hD : Ints w D k xs) (hM : Mok i st n nx ot) :
    Calls Try.prog 44 #[.agg #[.int .i64 i, .int .i64 st, .slice A n c, .slice B n d, .slice C n e], .slice D k g] w fun r w' => OwnE w (stW i st nx acc xs) (chk xs i) r w' := by
  obtain ⟨w0, hw0⟩ : ∃ w0, w0 = w.alloc (.cells #[.int .i64 i, .int .i64 st, .slice A n c, .slice B n d, .slice C n e] 65) := ⟨_, rfl⟩
  have hb0 : Below w.heap.size w w0 := by rw [hw0]; exact alloc_below _ _
  have m0 : Bx w0 w.heap.size #[.int .i64 i, .int .i64 st, .slice A n c, .slice B n d, .slice C n e] 65 := by rw [hw0]; exact bx_new _ _ _
  have HM := Lib.hid (fun (W : World) (h : Below w0.heap.size w0 W) => m0.on h)
  have HX := Lib.hid (fun (W : World) (h : Below w0.heap.size w0 W) => (hx.below hb0).below h)
  have HO := Lib.hid (fun (W : World) (h : Below w0.heap.size w0 W) => (ho.below hb0).below h)
  have HC := Lib.hid (fun (W : World) (h : Below w0.heap.size w0 W) => (hC.below hb0).below h)
  have HD := Lib.hid (fun (W : World) (h : Below w0.heap.size w0 W) => (hD.below hb0).below h)
  have HB0 := Lib.hid hb0
  have HW0 := Lib.hid hw0
  have HLX := Lib.hid hx.1
  have hn := hx.2.1
  have hbc := Below.refl w0.heap.size w0
  have k0 := m0.cell 0
  have k1 := m0.cell 1
  have k2 := m0.cell 2
  have k3 := m0.cell 3
  have k4 := m0.cell 4
  simp at k0 k1 k2 k3 k4
  have HMOK := Lib.hid hM
  have hst := hM.st
  by_cases hc : chk xs i = 0
  · have hsy := (chk_zero hc).2.2.2.mem
    have hsl := hM.runS_lt xs st hM.st hsy
    have HST := Lib.hid (show stW i st nx acc xs = acc.getD (runS nx st xs) [] by unfold stW; rw [if_pos hc])
    obtain ⟨s, hs⟩ : ∃ s, s = runS nx st xs := ⟨_, rfl⟩
    rw [← hs] at hsl HST
    have HS := Lib.hid hs
    have HCK := Lib.hid hc
    have hsI : (s : Int) < (n : Int) := by omega
    have hsN : ¬ (n : Int) ≤ (s : Int) := by omega
    have hs0 : (0 : Int) ≤ (s : Int) := by omega
    clear hs
    have HRC := Lib.hid (rcheck D k g i xs w0 (HD.out _ hbc))
    have HRO := Lib.hid (routs i st n A B D c d k g st nx ot xs w0 hM (HX.out _ hbc) (HO.out _ hbc) hM.st (HD.out _ hbc) hsy)
    rw [hw0] at k0 k1 k2 k3 k4
    clear hc hsy
    clear hw0 m0 hx ho hC hD hM hb0
    go_enter Try.func44, Try.ntmps44
    go_wp2_with fail
    rw [← HW0.out]
    refine HRC.out.mono ?_
    rintro r w1 ⟨rfl, rfl⟩
    rw [HCK.out, HW0.out]
    go_wp2_with fail
    rw [← HW0.out]
    refine HRO.out.mono ?_
    rintro r w2 ⟨A2, c2, rfl, o2, a2⟩
    rw [← HS.out]
    have hbc := bt hbc a2
    have k4 := (HM.out _ hbc).cell 4
    simp at k4
    clear o2 k0 k1 k2 k3
    obtain ⟨bq, oq, Aj, nj, cj, rfl, _, j1, j2⟩ := (HC.out _ hbc).at_ (k := s) hsl
    have HLJ := Lib.hid j2.1
    obtain ⟨w4, hw4⟩ : ∃ w4, w4 = w2.alloc (.cells #[.slice Aj nj cj] 36) := ⟨_, rfl⟩
    have a4 : Below w2.heap.size w2 w4 := by rw [hw4]; exact alloc_below _ _
    have hl1 : Lists w4 (some ⟨w2.heap.size, 0, none⟩) 1 [acc.getD s []] := by rw [hw4]; exact Lists.one j2
    have HJN := Lib.hid (rjoin (some ⟨w2.heap.size, 0, none⟩) 1 1 [acc.getD s []] w4 hl1 (by have := j2.2.1; have := j2.1; simp; simp at this; omega))
    have HW4 := Lib.hid hw4
    have HBC := Lib.hid (bt hbc a4)
    clear j2 a2 hbc hw4 a4 hl1
    go_wp2_with fail
    rw [← HW4.out]
    refine HJN.out.mono ?_
    rintro r w3 ⟨v, rfl, o3, a3⟩
    rw [List.flatten_cons, List.flatten_nil, List.append_nil] at o3
    have HO3 := Lib.hid (o3.lower (base' := w.heap.size) (bt HB0.out HBC.out).size)
    have HB3 := Lib.hid (bt HB0.out (bt HBC.out a3))
    clear o3 a3
    go_wp2_with fail
    go_ret2
    obtain ⟨A3, c3, e3⟩ := HO3.out.form
    refine ⟨A3, c3, ?_, by rw [HST.out, ← e3]; exact HO3.out, HB3.out⟩
    rw [HST.out, HCK.out, ← e3]; rfl
  · have HST := Lib.hid (show stW i st nx acc xs = [] by unfold stW; rw [if_neg hc])
    obtain ⟨E, hE⟩ : ∃ E, E = chk xs i := ⟨_, rfl⟩
    have hEe : (E != 0) = true := by rw [hE]; simpa using hc
    have HE := Lib.hid hE
    have HRC := Lib.hid (rcheck D k g i xs w0 (HD.out _ hbc))
    have HBC := Lib.hid (bt HB0.out hbc)
    rw [hw0] at k0 k1 k2 k3 k4
    clear hc hE
    clear hw0 m0 hx ho hC hD hM hb0
    go_enter Try.func44, Try.ntmps44
    go_wp2_with fail
    rw [← HW0.out]
    refine HRC.out.mono ?_
    rintro r w1 ⟨rfl, rfl⟩
    rw [← HE.out]
    clear k0 k1 k2 k3 k4
    go_wp2_with fail
    go_ret2
    refine ⟨none, 0, ?_, by rw [HST.out]; exact Owned.nil _ _, HBC.out⟩
    rw [HST.out, ← HE.out]; rfl

/-- The first place at which two lists differ. -/
theorem wdiff (A B : Option Addr) (n c m d : Nat) (xs ys : List Int) (K : Nat) (b : Bool) (w : World) (hx : Ints w A n xs) (hy : Ints w B m ys) (hl : xs.length = ys.length) (hK : K = if cmn xs ys < n then cmn xs ys else 0) (hb : b = decide (cmn xs ys < n)) :
    Calls Try.prog 83 #[.slice A n c, .slice B m d] w fun e w' => e = .returned (.tuple #[.int .i64 K, .bool b]) ∧ ∃ q, w' = w.drewN q := by
  obtain rfl : m = n := by rw [← hx.1, ← hy.1, hl]
  have HK := Lib.hid hK
  have HBB := Lib.hid hb
  clear hK hb
  have hmm : ¬ (m : Int) < (m : Int) := by omega
  have L1 := Lib.hid hx.1
  have L2 := Lib.hid hy.1
  have hn := hx.2.1
  clear hl
  go_enter Try.func83, Try.ntmps83
  go_wp2
  go_loopw [12] (fun i wr => ∃ j : Nat, j ≤ m ∧ i = .int .i64 j ∧ Hid (Agree xs ys j) ∧ ∃ q, wr = w.drewN q) (fun i _ => m - (intOf i).toNat)
  case atStart => exact ⟨0, Nat.zero_le _, rfl, Lib.hid (Agree.zero _ _), 0, rfl⟩
  case round =>
    obtain ⟨j, hj, rfl, HA, q, rfl⟩ := hrel
    by_cases hlt : j < m
    · obtain ⟨b1, o1, rfl, _, hc1⟩ := hx.at_ (k := j) (by omega)
      obtain ⟨b2, o2, rfl, _, hc2⟩ := hy.at_ (k := j) (by omega)
      by_cases he : xs[j]?.getD 0 = ys[j]?.getD 0
      · have ha' := Lib.hid (HA.out.succ (by simpa using he))
        have hb : (xs[j]?.getD 0 != ys[j]?.getD 0) = false := by simp [he]
        have hE := Lib.hid he
        clear he
        go_wp2
        go_quiet (fail)
        go_wp2
        go_roundw
        case rel => exact ⟨j + 1, by omega, by go_num, ha', by first | exact ⟨_, rfl⟩ | exact ⟨_, World.drewN_drewN _ _ _⟩⟩
        case measure => simp [intOf]; omega
      · have hfin := Lib.hid (cmn_eq (j := j) (by rw [L1.out]; omega) (by rw [L2.out]; omega) HA.out (.inr (.inr (by simpa using he))))
        have hb : (xs[j]?.getD 0 != ys[j]?.getD 0) = true := by simpa using he
        clear he
        go_wp2
        go_quiet (fail)
        go_wp2
        go_ret2
        exact ⟨by rw [HK.out, HBB.out, hfin.out, if_pos hlt, decide_eq_true hlt]; rfl, by first | exact ⟨_, rfl⟩ | exact ⟨_, World.drewN_drewN _ _ _⟩⟩
    · have hfin := Lib.hid (cmn_eq (j := m) (by rw [L1.out]; omega) (by rw [L2.out]; omega) ((by omega : j = m) ▸ HA.out) (by rw [L1.out, L2.out]; omega))
      go_wp2
      go_ret2
      exact ⟨by rw [HK.out, HBB.out, hfin.out, if_neg (Nat.lt_irrefl _), decide_eq_false (Nat.lt_irrefl _)]; rfl, by first | exact ⟨_, rfl⟩ | exact ⟨_, World.drewN_drewN _ _ _⟩⟩
end Go.Proofs.Ytkgdgnmobahhfaa
end

section
/- Small facts for Apart: what is observed after a word is proper and consistent; the first word so far. -/
namespace Go.Proofs.Ytkgdgnmobahhfaa
open Go.RowKit

theorem run_neqs {P : Program} (w : World) (t e : TypeId) (a : Option Addr) (n c n' c' : Nat) (h : P.underlying t = some (.slice e)) :
    (binOp .neq t (.slice a n c) (.slice none n' c')).run P w = .ok (.bool (!a.isNone)) w := by
  simp only [binOp]
  simp [Op.equal, Op.maxDepth, Lib.run_equalIn_slice_nil w 9999 t e a n c n' c' h]
/-- Each trace is proper. -/
def Props (i : Int) (ts : List (List Int × List Int)) : Prop := ∀ j, j < ts.length → prpE (tIn ts j) (tOut ts j) i = 0
theorem prp_zero {xs ys : List Int} {i : Int} (h : prpE xs ys i = 0) : chk xs i = 0 ∧ ys.length = xs.length ∧ ∀ y, y ∈ ys → 0 ≤ y ∧ y ≤ 1048576 := by
  unfold prpE at h
  split at h
  · exact ⟨by assumption, ansE_zero h⟩
  · omega
theorem prp_drop {xs ys : List Int} {i : Int} (h : prpE xs ys i = 0) (k : Nat) : prpE (xs.drop k) (ys.drop k) i = 0 := by
  obtain ⟨h1, h2, h3⟩ := prp_zero h
  obtain ⟨k1, k2, k3, k4⟩ := chk_zero h1
  unfold prpE
  rw [if_pos]
  · exact ansE_ok (by rw [List.length_drop, List.length_drop, h2]) fun y hy => h3 y (List.mem_of_mem_drop hy)
  · refine chk_ok ⟨k1, k2⟩ (by rw [List.length_drop]; omega) fun j hj => ?_
    have := k4 (k + j) (by rw [List.length_drop] at hj; omega)
    rw [List.getD_eq_getElem?_getD, List.getElem?_drop, ← List.getD_eq_getElem?_getD]
    exact this
theorem aftK_props {ts : List (List Int × List Int)} {u : List Int} {i : Int} {k : Nat} (h : Props i ts) (hk : k ≤ ts.length) : Props i (aftK ts u k) := fun j hj => by
  obtain ⟨s, h1, _, _, h4, h5⟩ := aftK_at k j hj
  rw [h4, h5]
  exact prp_drop (h s (by omega)) _
theorem cmn_drop {x y u : List Int} (hx : cmn x u = u.length) (hy : cmn y u = u.length) : cmn x y = u.length + cmn (x.drop u.length) (y.drop u.length) := by
  have h1 := cut_pre hx
  have h2 := cut_pre hy
  generalize x.drop u.length = a at h1 ⊢
  generalize y.drop u.length = b at h2 ⊢
  subst h1 h2
  clear hx hy
  induction u with
  | nil => simp
  | cons z zs ih => rw [List.cons_append, List.cons_append, cmn, if_pos rfl, ih]; simp; omega
theorem getD_drop (l : List Int) (k j : Nat) : (l.drop k).getD j 0 = l.getD (k + j) 0 := by
  rw [List.getD_eq_getElem?_getD, List.getD_eq_getElem?_getD, List.getElem?_drop]
theorem aftK_cons {ts : List (List Int × List Int)} {u : List Int} {k : Nat} (h : Cons ts) (hk : k ≤ ts.length) : Cons (aftK ts u k) := fun a b ha hb j hj => by
  obtain ⟨s, h1, _, h3, h4, h5⟩ := aftK_at k a ha
  obtain ⟨r, k1, _, k3, k4, k5⟩ := aftK_at k b hb
  rw [h4, k4] at hj
  rw [h5, k5, getD_drop, getD_drop]
  exact h s r (by omega) (by omega) _ (by rw [cmn_drop h3 k3]; omega)
/-- The first word so far, as a slice: nil stands for none. -/
def FirstV (w : World) (v : Value) (xs : List Int) : Prop := (v = .slice none 0 0 ∧ xs = []) ∨ (∃ (g : Addr) (n c : Nat), v = .slice (some g) n c ∧ Ints w (some g) n xs ∧ ¬ xs = [])
theorem FirstV.below {w w' : World} {v : Value} {xs : List Int} (h : FirstV w v xs) (hb : Below w.heap.size w w') : FirstV w' v xs := by
  rcases h with h | ⟨g, n, c, h1, h2, h3⟩
  · exact .inl h
  · exact .inr ⟨g, n, c, h1, h2.below hb, h3⟩
theorem Ints.some_ {w : World} {A : Option Addr} {n : Nat} {xs : List Int} (h : Ints w A n xs) (hne : 0 < xs.length) : ∃ g, A = some g := by
  obtain ⟨b, off, e, _⟩ := h.2.2 (by rw [← h.1]; exact hne)
  exact ⟨_, e⟩
theorem FirstV.of {w : World} {A : Option Addr} {n c : Nat} {xs : List Int} (h : Ints w A n xs) (hne : 0 < xs.length) : FirstV w (.slice A n c) xs := by
  obtain ⟨g, rfl⟩ := h.some_ hne
  exact .inr ⟨g, n, c, rfl, h, fun e => by rw [e] at hne; simp at hne⟩
end Go.Proofs.Ytkgdgnmobahhfaa
end

section
/- contradict: do traces of two observations contradict each other? -/
namespace Go.Proofs.Ytkgdgnmobahhfaa
open Go.RowKit Go.Shelf

theorem entK1 : ∀ args w, (callFunc 114 args).run Try.prog w = .ok (.enter 114 args) w := enters_of Try.func114 (by kernel_rfl) rfl

open Classical in
/-- Does the trace contradict M? -/
noncomputable def ctr1 (M : List (List Int × List Int)) (xs ys : List Int) : Bool := decide (∃ x, Sh1 M xs ys x)
open Classical in
/-- Does a trace of F contradict M? -/
noncomputable def ctr (F M : List (List Int × List Int)) : Bool := decide (∃ x, ShK F M F.length x)
open Classical in
theorem ctr1_iff (M : List (List Int × List Int)) (xs ys : List Int) : ctr1 M xs ys = true ↔ ∃ x, Sh1 M xs ys x := by unfold ctr1; exact decide_eq_true_iff
theorem ctr_comm (F M : List (List Int × List Int)) : ctr F M = ctr M F := by
  unfold ctr
  congr 1
  exact propext ⟨fun ⟨x, h⟩ => ⟨x, (shk_comm _ _ x).1 h⟩, fun ⟨x, h⟩ => ⟨x, (shk_comm _ _ x).1 h⟩⟩
theorem ctr_any (F M : List (List Int × List Int)) : ctr F M = true ↔ ∃ j, j < F.length ∧ ctr1 M (tIn F j) (tOut F j) = true := by
  unfold ctr ctr1
  simp only [decide_eq_true_eq]
  exact ⟨fun ⟨x, a, h1, h2⟩ => ⟨a, h1, x, h2⟩, fun ⟨a, h1, x, h2⟩ => ⟨x, a, h1, h2⟩⟩

set_option linter.unusedSimpArgs false in
set_option linter.unusedVariables false in
set_option maxHeartbeats 4000000 in
set_option maxRecDepth 100000 in
theorem pctr1 (i : Int) (B A1 A2 : Option Addr) (Bm d n1 c1 n2 c2 : Nat) (M : List (List Int × List Int)) (xs ys : List Int) (W : World) (hm : Bx W Bm #[.int .i64 i, .slice B M.length d] 24) (hT : Trs W B M.length M) (hcap : M.length ≤ d) (hx : Ints W A1 n1 xs) (hnc : n1 ≤ c1) (hy : Ints W A2 n2 ys)
    (hS : Srt M) (hF : Full M) (hC : Cons M) (hl : ys.length = xs.length) (hp : prpE xs ys i = 0) :
    Calls Try.prog 114 #[.agg #[.slice A1 n1 c1, .slice A2 n2 c2], .pointer (some ⟨Bm, 0, none⟩)] W fun e w' => e = .returned (.bool (ctr1 M xs ys)) ∧ Below W.heap.size W w' := by
  obtain ⟨wa, hwa⟩ : ∃ wa, wa = W.alloc (.cells #[.slice A1 n1 c1, .slice A2 n2 c2] 38) := ⟨_, rfl⟩
  have hal : Below W.heap.size W wa := by rw [hwa]; exact alloc_below _ _
  have hbx : Bx wa W.heap.size #[.slice A1 n1 c1, .slice A2 n2 c2] 38 := by rw [hwa]; exact bx_new _ _ _
  have HCL := Lib.hid (pclash i B A1 A2 M.length d n1 c1 n2 c2 M xs ys wa (hT.below hal) hcap (hx.below hal) hnc (hy.below hal) hS hF)
  have HWA := Lib.hid hwa
  have HAL := Lib.hid hal
  have y0 := (hm.on hal).cell 0
  have y1 := (hm.on hal).cell 1
  have x0 := hbx.cell 0
  have x1 := hbx.cell 1
  simp at x0 x1 y0 y1
  rw [hwa] at x0 x1 y0 y1
  have HK := Lib.hid (And.intro hC (And.intro hF (And.intro hl hp)))
  clear hwa hal hbx hm hT hx hy hS hF hC hl hp
  go_enter Try.func114, Try.ntmps114
  go_wp2_with fail
  rw [← HWA.out]
  refine HCL.out.mono ?_
  rintro r w5 ⟨fd, A', l, c', f, s, zs, rfl, hR, hO, hb5⟩
  have HB5 := Lib.hid (bt HAL.out hb5)
  have hfd : fd = ctr1 M xs ys := by
    obtain ⟨h1, h2, h3, h4⟩ := HK.out
    rw [Bool.eq_iff_iff, ctr1_iff]
    cases fd
    · exact ⟨(fun h => nomatch h), fun ⟨x, hx⟩ => absurd hx (cls_false h1 h2 h3 h4 hR x)⟩
    · exact ⟨fun _ => ⟨zs, (cls_true h1 h2 h3 hR).1⟩, fun _ => rfl⟩
  have HFD := Lib.hid hfd
  have HBC := Lib.hid (alloc_below w5 (.cells #[.slice A' l c', .int .i64 f, .int .i64 s] 43))
  clear hR hO hb5 hfd
  go_wp2_with fail
  go_ret
  exact ⟨by rw [HFD.out]; rfl, bt HB5.out HBC.out⟩

set_option maxHeartbeats 1000000 in
set_option maxRecDepth 100000 in
theorem pidxT (g : Nat) (cap : Value) (pb : Nat → Bool) (A : Option Addr) (n c : Nat) (ts : List (List Int × List Int)) (w : World)
    (eg : ∀ args w, (callFunc g args).run Try.prog w = .ok (.enter g args) w) (h : Trs w A n ts)
    (hcmp : ∀ j, j < n → ∀ A1 n1 c1 A2 n2 c2 W, Below w.heap.size w W → Ints W A1 n1 (tIn ts j) → n1 ≤ c1 → Ints W A2 n2 (tOut ts j) → Calls Try.prog g #[.agg #[.slice A1 n1 c1, .slice A2 n2 c2], cap] W fun e w' => e = .returned (.bool (pb j)) ∧ Below W.heap.size W w') :
    Calls Try.prog 125 #[.slice A n c, .func (.func g) #[] #[cap]] w fun e w' => ∃ i : Int, e = .returned (.int .i64 i) ∧ Hid (0 ≤ i ↔ ∃ j, j < n ∧ pb j = true) ∧ Below w.heap.size w w' := by
  have HT := Lib.hid h
  have HC := Lib.hid hcmp
  have hn := h.2.1
  clear h hcmp
  go_enter Try.func125, Try.ntmps125
  go_wp2
  go_loopw [8] (fun v8 wr => ∃ k : Nat, k ≤ n ∧ v8 = .int .i64 k ∧ Hid (∀ j, j < k → pb j = false) ∧ Hid (Below w.heap.size w wr)) (fun v8 _ => n - (intOf v8).toNat)
  case atStart => exact ⟨0, Nat.zero_le _, rfl, Lib.hid (fun j hj => absurd hj (Nat.not_lt_zero j)), Lib.hid (Below.refl _ _)⟩
  case round =>
    obtain ⟨k, hk, rfl, HN, HB⟩ := hrel
    by_cases hlt : k < n
    · obtain ⟨b, off, A1, n1, c1, A2, n2, c2, rfl, _, k1, k2, q1, _, k3, k4⟩ := (HT.out.below HB.out).at_ hlt
      have hc := HC.out k hlt A1 n1 c1 A2 n2 c2 wr HB.out k3 q1 k4
      obtain ⟨y, hy⟩ : ∃ y, y = pb k := ⟨_, rfl⟩
      rw [← hy] at hc
      have HY := Lib.hid hy
      have HCA := Lib.hid hc
      clear hc hy k3 k4
      cases y
      · go_wp2_with (go_at_fn g; refine HCA.out.mono ?_; rintro e w' ⟨rfl, bb⟩)
        have HBB := Lib.hid (bt HB.out bb)
        clear bb
        go_roundw
        case rel => exact ⟨k + 1, by omega, by go_num, Lib.hid (fun j hj => by rcases Nat.lt_or_ge j k with h | h; exact HN.out j h; rw [show j = k by omega]; exact HY.out.symm), HBB⟩
        case measure => simp [intOf]; omega
      · go_wp2_with (go_at_fn g; refine HCA.out.mono ?_; rintro e w' ⟨rfl, bb⟩)
        have HBB := Lib.hid (bt HB.out bb)
        clear bb
        go_ret
        exact ⟨k, rfl, Lib.hid ⟨fun _ => ⟨k, hlt, HY.out.symm⟩, fun _ => Int.natCast_nonneg k⟩, HBB.out⟩
    · obtain rfl : k = n := by omega
      go_wp2
      go_ret
      exact ⟨-1, rfl, Lib.hid ⟨fun h => absurd h (by decide), fun ⟨j, h1, h2⟩ => by rw [HN.out j h1] at h2; cases h2⟩, HB.out⟩

set_option maxHeartbeats 1000000 in
set_option maxRecDepth 100000 in
theorem pcontT (g : Nat) (cap : Value) (pb : Nat → Bool) (r : Bool) (A : Option Addr) (n c : Nat) (ts : List (List Int × List Int)) (w : World)
    (eg : ∀ args w, (callFunc g args).run Try.prog w = .ok (.enter g args) w) (h : Trs w A n ts)
    (hcmp : ∀ j, j < n → ∀ A1 n1 c1 A2 n2 c2 W, Below w.heap.size w W → Ints W A1 n1 (tIn ts j) → n1 ≤ c1 → Ints W A2 n2 (tOut ts j) → Calls Try.prog g #[.agg #[.slice A1 n1 c1, .slice A2 n2 c2], cap] W fun e w' => e = .returned (.bool (pb j)) ∧ Below W.heap.size W w')
    (hr : r = true ↔ ∃ j, j < n ∧ pb j = true) :
    Calls Try.prog 113 #[.slice A n c, .func (.func g) #[] #[cap]] w fun e w' => e = .returned (.bool r) ∧ Below w.heap.size w w' := by
  have HI := Lib.hid (pidxT g cap pb A n c ts w eg h hcmp)
  have HR := Lib.hid hr
  clear h hcmp hr
  go_enter Try.func113, Try.ntmps113
  go_wp2_with fail
  refine HI.out.mono ?_
  rintro e w' ⟨i, rfl, hi, hb⟩
  have HB := Lib.hid hb
  have HD := Lib.hid (show decide (0 ≤ i) = r by
    rw [Bool.eq_iff_iff, decide_eq_true_eq, hi.out, HR.out])
  clear hi hb
  go_wp2
  go_ret
  exact ⟨by rw [← HD.out]; rfl, HB.out⟩

set_option linter.unusedSimpArgs false in
set_option linter.unusedVariables false in
set_option maxHeartbeats 4000000 in
set_option maxRecDepth 100000 in
theorem pcontra (i : Int) (A B : Option Addr) (c d : Nat) (P Q : List (List Int × List Int)) (w : World) (hP : Trs w A P.length P) (hc : P.length ≤ c) (hQ : Trs w B Q.length Q) (hd : Q.length ≤ d)
    (h1 : Srt P ∧ Full P ∧ Cons P ∧ Props i P) (h2 : Srt Q ∧ Full Q ∧ Cons Q ∧ Props i Q) :
    Calls Try.prog 89 #[.agg #[.int .i64 i, .slice A P.length c], .agg #[.int .i64 i, .slice B Q.length d]] w fun e w' => e = .returned (.bool (ctr P Q)) ∧ Below w.heap.size w w' := by
  obtain ⟨hb0, m1, m2, hs0⟩ := bxs2 w #[.int .i64 i, .slice A P.length c] #[.int .i64 i, .slice B Q.length d] 24 24 _ rfl
  have HO := Lib.hid (pordered i i A B P.length c Q.length d ((w.alloc (.cells #[.int .i64 i, .slice A P.length c] 24)).alloc (.cells #[.int .i64 i, .slice B Q.length d] 24)) hP.2.1 hQ.2.1)
  have hPb := hP.below hb0
  have hQb := hQ.below hb0
  by_cases hlt : Q.length < P.length
  · have HK1 := Lib.hid h2
    have HK2 := Lib.hid h1
    have HFb := Lib.hid (hQb)
    have HMb := Lib.hid (hPb)
    have HB0 := Lib.hid hb0
    have k0 := m1.cell 0
    have k1 := m1.cell 1
    have l0 := m2.cell 0
    have l1 := m2.cell 1
    simp at k0 k1 l0 l1
    clear m1 m2 hs0 hP hQ hPb hQb hb0
    go_enter Try.func89, Try.ntmps89
    go_wp2_with fail
    refine HO.out.mono ?_
    rintro e w5 ⟨rfl, b5⟩
    rw [if_pos hlt, if_pos hlt]
    obtain ⟨hb6, m5, m6, hs6⟩ := bxs2 w5 #[.int .i64 i, .slice B Q.length d] #[.int .i64 i, .slice A P.length c] 24 24 _ rfl
    have HCO := Lib.hid (pcontT 114 (.pointer (some ⟨w5.heap.size + 1, 0, none⟩)) (fun j => ctr1 P (tIn Q j) (tOut Q j)) (ctr Q P) B Q.length d Q _ entK1 (HFb.out.below (bt b5 hb6))
      (fun j hj A1 n1 c1 A2 n2 c2 W hbW hx hnc hy => pctr1 i A A1 A2 (w5.heap.size + 1) c n1 c1 n2 c2 P _ _ W (m6.on hbW) ((HMb.out.below (bt b5 hb6)).below hbW) hc hx hnc hy HK2.out.1 HK2.out.2.1 HK2.out.2.2.1 (HK1.out.2.1 j hj) (HK1.out.2.2.2 j hj))
      (ctr_any Q P))
    have HBB := Lib.hid (bt HB0.out (bt b5 hb6))
    clear m5 m6 hb6 b5 hs6 k0 k1 l0 l1
    go_wp2_with fail
    refine HCO.out.mono ?_
    rintro e w7 ⟨rfl, b7⟩
    have HB7 := Lib.hid (bt HBB.out b7)
    clear b7
    go_wp2
    go_ret
    exact ⟨by rw [ctr_comm P Q]; rfl, HB7.out⟩
  · have HK1 := Lib.hid h1
    have HK2 := Lib.hid h2
    have HFb := Lib.hid (hPb)
    have HMb := Lib.hid (hQb)
    have HB0 := Lib.hid hb0
    have k0 := m1.cell 0
    have k1 := m1.cell 1
    have l0 := m2.cell 0
    have l1 := m2.cell 1
    simp at k0 k1 l0 l1
    clear m1 m2 hs0 hP hQ hPb hQb hb0
    go_enter Try.func89, Try.ntmps89
    go_wp2_with fail
    refine HO.out.mono ?_
    rintro e w5 ⟨rfl, b5⟩
    rw [if_neg hlt, if_neg hlt]
    obtain ⟨hb6, m5, m6, hs6⟩ := bxs2 w5 #[.int .i64 i, .slice A P.length c] #[.int .i64 i, .slice B Q.length d] 24 24 _ rfl
    have HCO := Lib.hid (pcontT 114 (.pointer (some ⟨w5.heap.size + 1, 0, none⟩)) (fun j => ctr1 Q (tIn P j) (tOut P j)) (ctr P Q) A P.length c P _ entK1 (HFb.out.below (bt b5 hb6))
      (fun j hj A1 n1 c1 A2 n2 c2 W hbW hx hnc hy => pctr1 i B A1 A2 (w5.heap.size + 1) d n1 c1 n2 c2 Q _ _ W (m6.on hbW) ((HMb.out.below (bt b5 hb6)).below hbW) hd hx hnc hy HK2.out.1 HK2.out.2.1 HK2.out.2.2.1 (HK1.out.2.1 j hj) (HK1.out.2.2.2 j hj))
      (ctr_any P Q))
    have HBB := Lib.hid (bt HB0.out (bt b5 hb6))
    clear m5 m6 hb6 b5 hs6 k0 k1 l0 l1
    go_wp2_with fail
    refine HCO.out.mono ?_
    rintro e w7 ⟨rfl, b7⟩
    have HB7 := Lib.hid (bt HBB.out b7)
    clear b7
    go_wp2
    go_ret
    exact ⟨rfl, HB7.out⟩
end Go.Proofs.Ytkgdgnmobahhfaa
end

section
/- run of a runner, where more is kept. -/
namespace Go.Proofs.Ytkgdgnmobahhfaa
open Go.RowKit

/-- Blocks of other types than the runner's are kept. -/
def KeptR (w w' : World) : Prop := ∀ t, t ≠ (137 : TypeId) → KeptT t w w'
theorem KeptR.refl (w : World) : KeptR w w := fun _ _ => KeptT.refl _ _
theorem KeptR.trans {a b c : World} (h : KeptR a b) (k : KeptR b c) : KeptR a c := fun t ht => (h t ht).trans (k t ht)
theorem KeptR.below {a b c : World} (h : KeptR a b) (k : Below a.heap.size b c) : KeptR a c := fun t ht g cs e => (k.block g (heap_lt e)).trans (h t ht g cs e)

set_option maxHeartbeats 2000000 in
set_option maxRecDepth 100000 in
theorem prunk {W w : World} {g : Nat} {i st n : Nat} {A B D : Option Addr} {c d s k e : Nat} {nx ot : List (List Int)} {xs : List Int} (hM : Mok i st n nx ot) (hx : Lists W A n nx) (ho : Lists W B n ot) (hb : Below W.heap.size W w)
    (hR : Rnr w g i st A n c B n d s) (hg : W.heap.size ≤ g) (hs : s < n) (hD : Ints W D k xs) (hS : ∀ x, x ∈ xs → 0 ≤ x ∧ x < i) :
    Calls Try.prog 108 #[.pointer (some ⟨g, 0, none⟩), .slice D k e] w fun e w' => ∃ A' c', e = .returned (.slice A' k c') ∧ Owned w' w.heap.size (.slice A' k c') (runO nx ot s xs) ∧ Below W.heap.size W w' ∧ KeptR w w' := by
  have L := Lib.hid hD.1
  have hk := hD.2.1
  have HS := Lib.hid hS
  have HR := Lib.hid hR
  clear hS hR
  have hrn : (137 : TypeId) ≠ 3 := by decide
  have hWw := hb.size
  go_enter Try.func108, Try.ntmps108
  go_wp2
  go_loopw [5, 10] (fun v j wr => ∃ (q : Nat) (A' : Option Addr) (c' : Nat), q ≤ k ∧ j = .int .i64 q ∧ v = .slice A' q c' ∧ w.heap.size ≤ wr.heap.size ∧ KeptR w wr ∧ Owned wr w.heap.size (.slice A' q c') (runO nx ot s (xs.take q)) ∧ Below W.heap.size W wr ∧ Rnr wr g i st A n c B n d (runS nx s (xs.take q))) (fun _ j _ => k - (intOf j).toNat)
  case atStart => exact ⟨0, none, 0, Nat.zero_le _, rfl, rfl, Nat.le_refl _, KeptR.refl _, Owned.nil _ _, hb, HR.out⟩
  case round =>
    obtain ⟨q, A', c', hq, rfl, rfl, hsz, hkr, hown, hbr, hR⟩ := hrel
    have HKR := Lib.hid hkr
    clear hkr
    by_cases hlt : q < k
    · obtain ⟨b1, o1, rfl, _, hc1⟩ := (hD.below hbr).at_ hlt
      have hxm := HS.out (xs.getD q 0) (by rw [List.getD_eq_getElem?_getD, List.getElem?_eq_getElem (by rw [L.out]; exact hlt)]; exact List.getElem_mem _)
      have hO := Lib.hid (runO_next (nx := nx) (ot := ot) (s := s) (j := q) (xs := xs) (by rw [L.out]; exact hlt))
      have hT := Lib.hid (runS_next (nx := nx) (s := s) (j := q) (xs := xs) (by rw [L.out]; exact hlt))
      rw [show xs[q]?.getD 0 = xs.getD q 0 by simp] at hO hT
      generalize xs.getD q 0 = x at hc1 hxm hO hT
      obtain ⟨a, rfl⟩ : ∃ a : Nat, x = a := ⟨x.toNat, by omega⟩
      have ha : a < i := by omega
      rw [Int.toNat_natCast] at hO hT
      have hlast := hM.runS_lt (xs.take q) s hs (fun x hx => HS.out x (List.mem_of_mem_take hx))
      generalize hss : runS nx s (xs.take q) = s' at hR hO hT hlast
      have hlen : (runO nx ot s (xs.take q)).length = q := by rw [runO_len, List.length_take, L.out]; omega
      generalize runO nx ot s (xs.take q) = os at hown hO hlen
      have HL := Lib.hid hlen
      have HSS := Lib.hid hss
      have HRR := Lib.hid hR
      clear hss hlen
      have hset : ∀ q', Rnr ((wr.setCell ⟨g, 4, none⟩ (.int .i64 (nN nx s' a))).drewN q') g i st A n c B n d (nN nx s' a) := fun q' => hR.set (nN nx s' a) q'
      have HSET := Lib.hid hset
      have HKS : Hid (∀ q', KeptR w ((wr.setCell ⟨g, 4, none⟩ (.int .i64 (nN nx s' a))).drewN q')) := Lib.hid fun q' => HKR.out.trans (fun t ht => (KeptT.off hR ht _).trans (KeptT.drewN _ _ q'))
      have HSZ : Hid (∀ q', w.heap.size ≤ ((wr.setCell ⟨g, 4, none⟩ (.int .i64 (nN nx s' a))).drewN q').heap.size) := Lib.hid fun q' => by simpa using hsz
      have hoff : ∀ q', Owned ((wr.setCell ⟨g, 4, none⟩ (.int .i64 (nN nx s' a))).drewN q') w.heap.size (.slice A' q c') os := fun q' => hown.off hR hrn 4 _ q'
      have HOFF := Lib.hid hoff
      have hbs : ∀ q', Below W.heap.size W ((wr.setCell ⟨g, 4, none⟩ (.int .i64 (nN nx s' a))).drewN q') := fun q' => below_drewN (hbr.setCell (p := ⟨g, 4, none⟩) hg _) q'
      have HBS := Lib.hid hbs
      clear hset hoff hbs hR
      go_wp2_with fail
      refine (pstep hM hx ho hbr HRR.out hlast ha).mono ?_
      rintro e w1 ⟨rfl, q1, rfl⟩
      have h1 := HOFF.out q1
      have h2 := HBS.out q1
      have h3 := HSET.out q1
      have h5 := HKS.out q1
      have h6 := HSZ.out q1
      clear HOFF HBS HSET HKS HSZ
      generalize (wr.setCell ⟨g, 4, none⟩ (.int .i64 (nN nx s' a))).drewN q1 = w1 at h1 h2 h3 h5 h6 ⊢
      obtain ⟨A2, c2, w2, hr, ho2, hb2, hk2⟩ := run_append_one h1 (oN ot s' a) h6 (by rw [HL.out]; omega)
      rw [← hO.out] at ho2
      rw [HL.out] at hr ho2
      have h4 := Lib.hid (hk2 g _ _ h3 hrn)
      have h7 := Lib.hid (h5.below hb2)
      have h8 := Lib.hid (h2.trans (hb2.mono hWw))
      have h9 := Lib.hid (Nat.le_trans h6 hb2.size)
      clear hk2 hb2 h2 h5
      go_wp2_with (at_builtin; refine Lib.wpList_append_run _ rfl _ _ _ _ rfl _ _ rfl rfl _ _ hr ?_)
      go_roundw
      case rel => exact ⟨q + 1, A2, c2, by omega, by go_num, rfl, h9.out, h7.out, ho2, h8.out, by rw [hT.out]; exact h4.out⟩
      case measure => simp [intOf]; omega
    · obtain rfl : q = k := by omega
      have hall := Lib.hid (List.take_of_length_le (l := xs) (i := q) (by rw [L.out]; exact Nat.le_refl _))
      go_wp2
      go_ret
      rw [hall.out] at hown hR
      exact ⟨_, _, rfl, hown, hbr, HKR.out⟩
end Go.Proofs.Ytkgdgnmobahhfaa
end

section
/- Traces of words: what it returns. -/
namespace Go.Proofs.Ytkgdgnmobahhfaa
open Go.RowKit

/-- The traces of the words, and the error. -/
def trs (i st : Nat) (nx ot : List (List Int)) : List (List Int) → List (List Int × List Int) → List (List Int × List Int) × Int
  | [], l => (l, 0)
  | w :: ws, l => if chk w i = 0 then trs i st nx ot ws (l ++ [(w, runO nx ot st w)]) else ([], chk w i)
theorem trs_ok {i st j : Nat} {nx ot ws : List (List Int)} (h : j < ws.length) (hc : chk (ws.getD j []) i = 0) (l : List (List Int × List Int)) : trs i st nx ot (ws.drop j) l = trs i st nx ot (ws.drop (j + 1)) (l ++ [(ws.getD j [], runO nx ot st (ws.getD j []))]) := by
  rw [List.drop_eq_getElem_cons h]
  rw [List.getD_eq_getElem?_getD, List.getElem?_eq_getElem h] at hc ⊢
  show (if chk ws[j] i = 0 then _ else _) = _
  exact if_pos hc
theorem trs_bad {i st j : Nat} {nx ot ws : List (List Int)} (h : j < ws.length) (hc : ¬ chk (ws.getD j []) i = 0) (l : List (List Int × List Int)) : trs i st nx ot (ws.drop j) l = ([], chk (ws.getD j []) i) := by
  rw [List.drop_eq_getElem_cons h]
  rw [List.getD_eq_getElem?_getD, List.getElem?_eq_getElem h] at hc ⊢
  show (if chk ws[j] i = 0 then _ else _) = _
  exact if_neg hc
theorem trs_end {i st j : Nat} {nx ot ws : List (List Int)} (h : ws.length ≤ j) (l : List (List Int × List Int)) : trs i st nx ot (ws.drop j) l = (l, 0) := by
  rw [List.drop_eq_nil_of_le h]; rfl
theorem trs_len {i st : Nat} {nx ot : List (List Int)} : ∀ (ws : List (List Int)) (l : List (List Int × List Int)), (trs i st nx ot ws l).1.length ≤ l.length + ws.length
  | [], l => Nat.le_refl _
  | w :: ws, l => by
    unfold trs
    split
    · refine Nat.le_trans (trs_len ws _) ?_
      simp; omega
    · simp
theorem ret_trs {A : Option Addr} {l l' c : Nat} {k : IntKind} {y y' : Int} (h1 : l = l') (h3 : y = y') : Ending.returned (.tuple #[.slice A l c, .int k y]) = .returned (.tuple #[.slice A l' c, .int k y']) := by rw [h1, h3]

theorem one_word {w : World} {A : Option Addr} {n c : Nat} {xs : List Int} (h1 : Ints w A n xs) : Lists (w.alloc (.cells #[.slice A n c] 36)) (some ⟨w.heap.size, 0, none⟩) 1 [xs] := by
  have hb := alloc_below w (.cells #[.slice A n c] 36)
  refine ⟨rfl, by omega, fun _ => ⟨w.heap.size, 0, rfl, by simp, fun j hj => ?_⟩⟩
  have hc := fun j => cell_of_row (w.alloc (.cells #[.slice A n c] 36)) w.heap.size j _ 36 (0, 0) (heap_alloc_new w _)
  rw [Nat.zero_add, hc j]
  match j, hj with
  | 0, _ => exact ⟨_, n, c, rfl, h1.below hb⟩
theorem join_one {w : World} {A : Option Addr} {n c : Nat} {xs : List Int} (h1 : Ints w A n xs) :
    Calls Try.prog 54 #[.slice (some ⟨w.heap.size, 0, none⟩) 1 1] (w.alloc (.cells #[.slice A n c] 36)) fun e w' => ∃ A' c', e = .returned (.slice A' n c') ∧ Owned w' w.heap.size (.slice A' n c') xs ∧ Below w.heap.size w w' := by
  have e : [xs].flatten = xs := by simp
  refine (rjoin _ 1 1 [xs] _ (one_word h1) (by rw [e, h1.1]; exact h1.2.1)).mono ?_
  rintro e' w' ⟨v, rfl, ho, hb⟩
  rw [e] at ho
  obtain ⟨A', c', rfl⟩ := ho.form
  rw [h1.1] at ho ⊢
  exact ⟨A', c', rfl, ho.lower (by simp), bt (alloc_below _ _) hb⟩
theorem rcheckq (A : Option Addr) (n c : Nat) (k : Int) (xs : List Int) (w : World) (h : Ints w A n xs) :
    Calls Try.prog 59 #[.slice A n c, .int .i64 k] w fun e w' => e = .returned (.int .i64 (chk xs k)) ∧ ∃ q, w' = w.drewN q := (rcheck A n c k xs w h).mono fun _ _ ⟨h, e⟩ => ⟨h, 0, e.symm⟩
end Go.Proofs.Ytkgdgnmobahhfaa
end

section
/- The program: Traces. -/
namespace Go.Proofs.Ytkgdgnmobahhfaa
open Go.RowKit

theorem ptraces_bad (i st : Int) (A B C : Option Addr) (n c m d p e : Nat) (nx ot : List (List Int)) (E : Int) (w : World) (hx : Lists w A n nx) (ho : Lists w B m ot) (hE : vld i st nx ot = E) (hv : ¬ E = 0) :
    Calls Try.prog 77 #[.agg #[.int .i64 i, .int .i64 st, .slice A n c, .slice B m d], .slice C p e] w fun e w' => e = .returned (.tuple #[.slice none 0 0, .int .i64 E]) ∧ Below w.heap.size w w' := by
  have hb0 := alloc_below w (.cells #[.int .i64 i, .int .i64 st, .slice A n c, .slice B m d] 56)
  have hne : (E != 0) = true := by simpa using hv
  have HE := Lib.hid hE
  clear hE hv
  go_enter Try.func77, Try.ntmps77
  go_wp2_with fail
  refine (pvalid _ _ _ _ _ _ _ _ _ _ _ (hx.below hb0) (ho.below hb0)).mono ?_
  rintro e w1 ⟨rfl, b1⟩
  have hbb := bt hb0 b1
  rw [HE.out]
  clear hb0 b1
  go_wp2
  go_ret2
  exact ⟨rfl, hbb⟩

set_option maxHeartbeats 2000000 in
set_option maxRecDepth 100000 in
theorem ptraces_ok (i st n : Nat) (A B C : Option Addr) (c d p e : Nat) (nx ot ws : List (List Int)) (w : World) (hx : Lists w A n nx) (ho : Lists w B n ot) (hM : Mok i st n nx ot) (hW : Lists w C p ws) (hp : p ≤ 10000) :
    Calls Try.prog 77 #[.agg #[.int .i64 i, .int .i64 st, .slice A n c, .slice B n d], .slice C p e] w fun e w' => ∃ A' c', e = .returned (.tuple #[.slice A' (trs i st nx ot ws []).1.length c', .int .i64 (trs i st nx ot ws []).2]) ∧ OwnedT w' w.heap.size (.slice A' (trs i st nx ot ws []).1.length c') (trs i st nx ot ws []).1 ∧ Below w.heap.size w w' := by
  have HV := Lib.hid hM.vld
  have HW := Lib.hid hW.1
  have hb0 := alloc_below w (.cells #[.int .i64 i, .int .i64 st, .slice A n c, .slice B n d] 56)
  have HZ := Lib.hid (show (w.alloc (.cells #[.int .i64 i, .int .i64 st, .slice A n c, .slice B n d] 56)).heap.size = w.heap.size + 1 by simp)
  have hstn := hM.st
  have d0 : decide ((10000 : Int) < (p : Int)) = false := by simp; omega
  obtain ⟨R, hR⟩ : ∃ R, R = trs i st nx ot ws [] := ⟨_, rfl⟩
  have HR := Lib.hid (show R = trs i st nx ot (ws.drop 0) [] by rw [List.drop_zero]; exact hR)
  rw [← hR]
  clear hR
  go_enter Try.func77, Try.ntmps77
  go_wp2_with fail
  refine (pvalid _ _ _ _ _ _ _ _ _ _ _ (hx.below hb0) (ho.below hb0)).mono ?_
  rintro e w1 ⟨rfl, b1⟩
  rw [HZ.out] at b1
  rw [HV.out]
  go_wp2
  go_loopw [7, 22] (fun v jv wr => ∃ (l : List (List Int × List Int)) (j : Nat) (A' : Option Addr) (c' : Nat), j ≤ p ∧ jv = .int .i64 j ∧ v = .slice A' l.length c' ∧ l.length ≤ j ∧ R = trs i st nx ot (ws.drop j) l ∧ OwnedT wr (w.heap.size + 1) (.slice A' l.length c') l ∧ Below (w.heap.size + 1) (w.alloc (.cells #[.int .i64 i, .int .i64 st, .slice A n c, .slice B n d] 56)) wr) (fun _ jv _ => p - (intOf jv).toNat)
  case atStart => exact ⟨[], 0, none, 0, Nat.zero_le _, rfl, rfl, Nat.zero_le _, HR.out, OwnedT.nil _ _, b1⟩
  case round =>
    obtain ⟨l, j, A', c', hj, rfl, rfl, hll, hB, hown, hbr⟩ := hrel
    have HB := Lib.hid hB
    clear hB
    obtain ⟨k0, k1, k2, k3⟩ := box4 hbr
    have hbw := hb0.trans (hbr.mono (Nat.le_succ _))
    by_cases hlt : j < p
    · obtain ⟨g1, p1, A1, n1, c1, rfl, hg1, hd1, hr1⟩ := hW.at_ hlt
      have e1 := (hbw.cell (p := ⟨g1, p1 + j, none⟩) hg1).trans hd1
      have hi1 := hr1.below hbw
      by_cases hc : chk (ws.getD j []) i = 0
      · have HNX := Lib.hid (HB.out.trans (trs_ok (st := st) (nx := nx) (ot := ot) (by rw [HW.out]; exact hlt) hc l))
        generalize ws.getD j [] = row at hr1 hi1 hc HNX
        have HC := Lib.hid hc
        have L1 := Lib.hid hr1.1
        have hn1 := hr1.2.1
        have hsz : w.heap.size + 1 ≤ wr.heap.size := by have := hbr.size; simpa using this
        have hsy := Lib.hid (chk_zero HC.out).2.2.2.mem
        have ba := alloc_below wr (.cells #[.int .i64 i, .int .i64 st, .slice A n c, .slice B n d, .int .i64 st] 137)
        have hR : Rnr (wr.alloc (.cells #[.int .i64 i, .int .i64 st, .slice A n c, .slice B n d, .int .i64 st] 137)) wr.heap.size i st A n c B n d st := heap_alloc_new wr _
        have HCL := Lib.hid (sclone A1 n1 c1 row _ (hi1.below ba))
        have HBA := Lib.hid (hbr.trans (ba.mono hsz))
        have HKA := Lib.hid (show ∀ t, KeptT t wr _ from fun t => KeptT.of_below ba)
        have HSA := Lib.hid (show wr.heap.size + 1 = (wr.alloc (.cells #[.int .i64 i, .int .i64 st, .slice A n c, .slice B n d, .int .i64 st] 137)).heap.size by simp)
        have HR := Lib.hid hR
        have HOW := Lib.hid hown
        have HI1 := Lib.hid hi1
        have HR1 := Lib.hid (hr1.below hb0)
        clear hc hR hown hbr ba hd1 hr1 hi1
        go_wp2_with fail
        refine (wcheck _ _ _ _ row _ HI1.out).mono ?_
        rintro e w2 ⟨rfl, rfl⟩
        rw [HC.out]
        go_wp2_with fail
        refine HCL.out.mono ?_
        rintro e w3 ⟨A3, c3, rfl, o3, b3⟩
        have hg3 : wr.heap.size < (wr.alloc (.cells #[.int .i64 i, .int .i64 st, .slice A n c, .slice B n d, .int .i64 st] 137)).heap.size := by simp
        have HR3 := Lib.hid (HR.out.kept b3 hg3)
        have HB3 := Lib.hid (HBA.out.trans (b3.mono (by rw [← HSA.out]; omega)))
        have HK3 := Lib.hid (show ∀ t, KeptT t wr w3 from fun t => (HKA.out t).trans (KeptT.of_below b3))
        have HO3 := Lib.hid o3
        have HI3 := Lib.hid (HI1.out.below (bt (alloc_below wr (.cells #[.int .i64 i, .int .i64 st, .slice A n c, .slice B n d, .int .i64 st] 137)) b3))
        have HS3 := Lib.hid (show wr.heap.size ≤ w3.heap.size from Nat.le_trans (by simp) b3.size)
        have HRUN := Lib.hid (prunk (W := w.alloc (.cells #[.int .i64 i, .int .i64 st, .slice A n c, .slice B n d] 56)) (e := c1) hM (hx.below hb0) (ho.below hb0) (by rw [HZ.out]; exact HB3.out) HR3.out (by rw [HZ.out]; exact hsz) hstn HR1.out hsy.out)
        clear b3 o3 hg3
        go_wp2_with fail
        refine HRUN.out.mono ?_
        rintro e w4 ⟨A4, c4, rfl, o4, b4, k4⟩
        rw [HZ.out] at b4
        have HO4 := Lib.hid (o4.lower (base' := w.heap.size + 1) (Nat.le_trans hsz HS3.out))
        have HX4 := Lib.hid ((HO3.out.keptT (k4 _ (by decide))).lower (base' := w.heap.size + 1) (by rw [← HSA.out]; omega))
        have HT4 := Lib.hid (HOW.out.keptT ((HK3.out _).trans (k4 _ (by decide))) ((HK3.out _).trans (k4 _ (by decide))))
        have hz4 : w.heap.size + 1 ≤ w4.heap.size := by have := b4.size; simpa using this
        obtain ⟨A5, c5, w5, hr5, h5, b5, _⟩ := run_append_trace HT4.out HX4.out HO4.out hz4 (by omega)
        have HT5 := Lib.hid h5
        have HB5 := Lib.hid (Below.trans b4 b5)
        have HL := Lib.hid (show (l ++ [(row, runO nx ot st row)]).length = l.length + 1 by simp)
        clear h5 b5 b4 k4 o4 k0 k1 k2 k3
        go_wp2_with (at_builtin; refine Lib.wpList_append_run _ rfl _ _ _ _ rfl _ _ rfl rfl _ _ hr5 ?_)
        go_roundw
        case rel => exact ⟨l ++ [(row, runO nx ot st row)], j + 1, A5, c5, by omega, by go_num, by rw [HL.out], by rw [HL.out]; omega, HNX.out, by rw [HL.out]; exact HT5.out, HB5.out⟩
        case measure => simp [intOf]; omega
      · have HNX := Lib.hid (HB.out.trans (trs_bad (st := st) (nx := nx) (ot := ot) (by rw [HW.out]; exact hlt) hc l))
        generalize ws.getD j [] = row at hr1 hi1 hc HNX
        have hne : (chk row i != 0) = true := by simpa using hc
        have HBW := Lib.hid hbw
        clear hc hown hbr hd1 hr1
        go_wp2_with fail
        refine (wcheck _ _ _ _ row _ hi1).mono ?_
        rintro e w2 ⟨rfl, rfl⟩
        generalize chk row i = E at hne HNX
        clear hi1 hbw
        go_wp2
        go_ret2
        rw [HNX.out]
        exact ⟨none, 0, rfl, OwnedT.nil _ _, HBW.out⟩
    · obtain rfl : j = p := by omega
      have HN := Lib.hid (HB.out.trans (trs_end (by rw [HW.out]; exact Nat.le_refl _) l))
      have HOW := Lib.hid (hown.lower (base' := w.heap.size) (Nat.le_succ _))
      have HBW := Lib.hid hbw
      clear hown hbr hbw
      go_wp2
      go_ret2
      rw [HN.out]
      exact ⟨A', c', rfl, HOW.out, HBW.out⟩
end Go.Proofs.Ytkgdgnmobahhfaa
end

section
/- Refuted: what it looks for; a row of headers of words. -/
namespace Go.Proofs.Ytkgdgnmobahhfaa
open Go.RowKit

/-- Where the outputs of the machine for the trace j stop to be those of the trace. -/
def dfN (nx ot : List (List Int)) (st : Nat) (ts : List (List Int × List Int)) (j : Nat) : Nat := cmn (runO nx ot st (tIn ts j)) (tOut ts j)
/-- One of the first k traces refutes by x. -/
def Rf (nx ot : List (List Int)) (st : Nat) (ts : List (List Int × List Int)) (k : Nat) (x : List Int) : Prop := ∃ j, j < k ∧ dfN nx ot st ts j < (tIn ts j).length ∧ x = (tIn ts j).take (dfN nx ot st ts j + 1)
theorem fst1_skip {p q : List Int → Prop} {o : List Int} (h : Fst1 p o) (e : ∀ x, q x ↔ p x) : Fst1 q o := h.congr fun x => (e x).symm
theorem fst1_new {p q : List Int → Prop} {o z : List Int} (h : Fst1 p o) (hz : 0 < z.length) (e : ∀ x, q x ↔ p x ∨ x = z) (hc : o = [] ∨ shlex z o < 0) : Fst1 q z := by
  refine .inr ⟨(e z).2 (.inr rfl), hz, fun x hx => ?_⟩
  rcases (e x).1 hx with h1 | rfl
  · rcases h with ⟨rfl, h4⟩ | ⟨h4, h5, h6⟩
    · exact absurd h1 (h4 x)
    · rcases hc with rfl | hc
      · simp at h5
      · have := (shlex_trans z o x).2 hc (h6 x h1); omega
  · exact Int.le_of_eq ((shlex_zero x x).2 rfl)
theorem fst1_old {p q : List Int → Prop} {o z : List Int} (h : Fst1 p o) (e : ∀ x, q x ↔ p x ∨ x = z) (ho : ¬ o = []) (hc : ¬ shlex z o < 0) : Fst1 q o := by
  rcases h with ⟨h4, _⟩ | ⟨h4, h5, h6⟩
  · exact absurd h4 ho
  · refine .inr ⟨(e o).2 (.inl h4), h5, fun x hx => ?_⟩
    rcases (e x).1 hx with h1 | rfl
    · exact h6 x h1
    · have := shlex_neg x o; omega
theorem Rf.zero (nx ot : List (List Int)) (st : Nat) (ts : List (List Int × List Int)) : Fst1 (Rf nx ot st ts 0) [] := .inl ⟨rfl, fun _ ⟨j, h, _⟩ => absurd h (Nat.not_lt_zero j)⟩
theorem rf_no {nx ot : List (List Int)} {st k : Nat} {ts : List (List Int × List Int)} (h : ¬ dfN nx ot st ts k < (tIn ts k).length) (x : List Int) : Rf nx ot st ts (k + 1) x ↔ Rf nx ot st ts k x :=
  ⟨fun ⟨j, h1, h2, h3⟩ => ⟨j, by rcases Nat.lt_or_ge j k with h4 | h4; exact h4; rw [show j = k by omega] at h2; exact absurd h2 h, h2, h3⟩, fun ⟨j, h1, h2⟩ => ⟨j, by omega, h2⟩⟩
theorem rf_yes {nx ot : List (List Int)} {st k : Nat} {ts : List (List Int × List Int)} (h : dfN nx ot st ts k < (tIn ts k).length) (x : List Int) : Rf nx ot st ts (k + 1) x ↔ Rf nx ot st ts k x ∨ x = (tIn ts k).take (dfN nx ot st ts k + 1) := by
  constructor
  · rintro ⟨j, h1, h2, h3⟩
    rcases Nat.lt_or_ge j k with h4 | h4
    · exact .inl ⟨j, h4, h2, h3⟩
    · rw [show j = k by omega] at h3; exact .inr h3
  · rintro (⟨j, h1, h2⟩ | h1)
    · exact ⟨j, by omega, h2⟩
    · exact ⟨k, by omega, h, h1⟩
/-- The result of Refuted. -/
def Ref3 (p : List Int → Prop) (w : World) (r : Ending) (w' : World) : Prop :=
  ∃ (A' : Option Addr) (n' c' : Nat) (xs : List Int) (b : Bool), r = .returned (.tuple #[.slice A' n' c', .bool b, .int .i64 0]) ∧ Fst1 p xs ∧ Ints w' A' n' xs ∧ (b = true ↔ ¬ xs = []) ∧ Below w.heap.size w w'

/-- The slice value v is a row of headers of words in blocks from base on, which the call may write; the numbers lie in the memory of w0. -/
def LsH (w0 w : World) (base : Nat) (v : Value) (ws : List (List Int)) : Prop :=
  ∃ vs : List Value, w.ownsRow base 36 1 v ws.length vs ∧ ∀ j, j < ws.length → ∃ A1 n1 c1, vs[j]? = some (.slice A1 n1 c1) ∧ Ints w0 A1 n1 (ws.getD j [])
theorem LsH.nil (w0 w : World) (base : Nat) : LsH w0 w base (.slice none 0 0) [] := ⟨[], World.ownsRow_nil _ _ _ _, fun j h => absurd h (by simp)⟩
theorem LsH.form {w0 w : World} {base : Nat} {v : Value} {ws : List (List Int)} (h : LsH w0 w base v ws) : ∃ A c, v = .slice A ws.length c := by
  obtain ⟨vs, h, _⟩ := h
  rcases h.2 with ⟨rfl, h0⟩ | ⟨g, cap, cur, rfl, _⟩
  · have : ws.length = 0 := h0
    exact ⟨none, 0, by rw [this]⟩
  · exact ⟨_, _, rfl⟩
theorem LsH.keptT {w0 w w' : World} {base : Nat} {v : Value} {ws : List (List Int)} (h : LsH w0 w base v ws) (hl : KeptT 36 w w') : LsH w0 w' base v ws := by
  obtain ⟨vs, h, hr⟩ := h
  refine ⟨vs, ⟨h.1, ?_⟩, hr⟩
  rcases h.2 with e | ⟨g, cap, cur, hv, hbg, hg, r⟩
  · exact .inl e
  · exact .inr ⟨g, cap, cur, hv, hbg, hl g cur hg, r⟩
theorem LsH.lists {w0 w : World} {base : Nat} {A : Option Addr} {n c : Nat} {ws : List (List Int)} (h : LsH w0 w base (.slice A n c) ws) (hb : Below w0.heap.size w0 w) (hm : ws.length ≤ 17592186044416) : Lists w A n ws := by
  have hn : n = ws.length := by obtain ⟨A', c', e⟩ := h.form; cases e; rfl
  subst hn
  refine ⟨rfl, hm, fun h0 => ?_⟩
  obtain ⟨vs, ho, hv⟩ := h
  rcases ho.2 with ⟨e, h0'⟩ | ⟨g, cap, cur, e, _, hg, r⟩
  · omega
  · cases e
    refine ⟨g, 0, rfl, heap_lt hg, fun j hj => ?_⟩
    obtain ⟨A1, n1, c1, h1, h2⟩ := hv j hj
    have hl := ho.1
    refine ⟨A1, n1, c1, ?_, h2.below hb⟩
    rw [Nat.zero_add, World.ownsRow.cellAt ho j (by omega), h1]
/-- append of one header. -/
theorem run_append_lsh {w0 w : World} {base : Nat} {v : Value} {ws : List (List Int)} {A : Option Addr} {m c : Nat} {xs : List Int} (h : LsH w0 w base v ws) (hx : Ints w0 A m xs) (hbase : base ≤ w.heap.size) (hl : ws.length < 1000000000) :
    ∃ A' c' w', (Builtin.append_ #[54, 54] 54 #[v, .slice (some ⟨w.heap.size, 0, none⟩) 1 1]).run Try.prog (w.alloc (.cells #[.slice A m c] 36)) = .ok (.slice A' (ws.length + 1) c') w' ∧
      LsH w0 w' base (.slice A' (ws.length + 1) c') (ws ++ [xs]) ∧ Below base w w' := by
  obtain ⟨i, hi, hz0, hz1, hz2⟩ := info_parts infol
  obtain ⟨vs, ho, hv⟩ := h
  have hbz := alloc_below w (.cells #[.slice A m c] 36)
  have ho1 : (w.alloc (.cells #[.slice A m c] 36)).ownsRow base 36 1 v ws.length vs := by
    refine ⟨ho.1, ?_⟩
    rcases ho.2 with e | ⟨g, cap, cur, hv, hbg, hg, r⟩
    · exact .inl e
    · exact .inr ⟨g, cap, cur, hv, hbg, (hbz.block g (heap_lt hg)).trans hg, r⟩
  obtain ⟨v', w', hr, h1, h2, _, hmv⟩ := run_append_own_at (P := Try.prog) (w.alloc (.cells #[.slice A m c] 36)) base 54 54 36 i _ 1 24 Try.underlying54 hi hz0 hz1 hz2 rfl (by decide) v _ _ ho1 ⟨w.heap.size, 0, none⟩ 1 1 [.slice A m c] (by simp)
    (by
      intro j u hu
      match j with
      | 0 =>
        simp at hu
        subst hu
        simp [Addr.add]
      | j + 1 => simp at hu)
    (by intro u hu; simp at hu; rcases hu with rfl; rfl) (by unfold maxLen; omega) (by omega) (Nat.le_trans hbase hbz.size)
  have hform : ∃ A c, v' = .slice A (ws.length + 1) c := by
    rcases h1.2 with ⟨rfl, h0⟩ | ⟨g, cap, cur, rfl, _⟩
    · have := h1.1; rw [h0] at this; simp at this
    · exact ⟨_, _, rfl⟩
  obtain ⟨A', c', rfl⟩ := hform
  refine ⟨A', c', w', hr, ⟨vs ++ [.slice A m c], by rw [List.length_append]; exact h1, fun j hj => ?_⟩, (hbz.mono hbase).trans ((Below.refl _ _).grown h2 (Nat.le_trans hbase hbz.size) (fun k hk => (World.ownsRow.lt ho1 k hk).1))⟩
  have hvl : vs.length = ws.length := by have := ho.1; omega
  by_cases e : j < ws.length
  · obtain ⟨A2, n2, c2, h3, h4⟩ := hv j e
    have hg : (ws ++ [xs]).getD j [] = ws.getD j [] := by rw [List.getD_eq_getElem?_getD, List.getD_eq_getElem?_getD, List.getElem?_append_left e]
    rw [hg]
    exact ⟨A2, n2, c2, by rw [List.getElem?_append_left (by omega)]; exact h3, h4⟩
  · have hjl : j = ws.length := by simp at hj; omega
    subst hjl
    have hg : (ws ++ [xs]).getD ws.length [] = xs := by simp
    rw [hg]
    exact ⟨A, m, c, by rw [List.getElem?_append_right (by omega), hvl]; simp, hx⟩

/-- The words of the first k traces. -/
def insK (ts : List (List Int × List Int)) : Nat → List (List Int)
  | 0 => []
  | k + 1 => insK ts k ++ [tIn ts k]
theorem insK_len (ts : List (List Int × List Int)) (k : Nat) : (insK ts k).length = k := by
  induction k with
  | zero => rfl
  | succ k ih => rw [insK, List.length_append, ih]; rfl
theorem insK_at (ts : List (List Int × List Int)) {k j : Nat} (hj : j < k) : (insK ts k).getD j [] = tIn ts j := by
  induction k with
  | zero => omega
  | succ k ih =>
    rw [insK]
    rcases Nat.lt_or_ge j k with h | h
    · rw [List.getD_eq_getElem?_getD, List.getElem?_append_left (by rw [insK_len]; exact h), ← List.getD_eq_getElem?_getD]
      exact ih h
    · obtain rfl : j = k := by omega
      rw [List.getD_eq_getElem?_getD, List.getElem?_append_right (by rw [insK_len]; exact Nat.le_refl _), insK_len]
      simp
/-- The traces of the machine for words without an error. -/
theorem trs_map {i st : Nat} {nx ot : List (List Int)} : ∀ (ws : List (List Int)) (l : List (List Int × List Int)), (∀ x, x ∈ ws → chk x i = 0) → trs i st nx ot ws l = (l ++ ws.map (fun w => (w, runO nx ot st w)), 0)
  | [], l, _ => by simp [trs]
  | w :: r, l, h => by
    rw [trs, if_pos (h w (by simp)), trs_map r _ fun x hx => h x (by simp [hx])]
    simp
theorem map_tIn {f : List Int → List Int} {ws : List (List Int)} {j : Nat} (hj : j < ws.length) : tIn (ws.map fun w => (w, f w)) j = ws.getD j [] ∧ tOut (ws.map fun w => (w, f w)) j = f (ws.getD j []) := by
  unfold tIn tOut
  rw [List.getD_eq_getElem?_getD, List.getD_eq_getElem?_getD, List.getElem?_map, List.getElem?_eq_getElem hj]
  exact ⟨rfl, rfl⟩
theorem Owned.cap22 {w : World} {base n c : Nat} {A : Option Addr} {xs : List Int} (h : Owned w base (.slice A n c) xs) : n ≤ c := by
  have hn : n = xs.length := by obtain ⟨A', c', e⟩ := h.form; cases e; rfl
  have h1 := h.1
  simp at h1
  rcases h.2 with ⟨e, h0⟩ | ⟨g, cap, cur, e, _, hg, r⟩
  · cases e; omega
  · cases e; omega
theorem OwnedT.trs {w : World} {base : Nat} {A : Option Addr} {n c : Nat} {ts : List (List Int × List Int)} (h : OwnedT w base (.slice A n c) ts) (hm : ts.length ≤ 17592186044416) (hr : ∀ j, j < ts.length → (tIn ts j).length ≤ 17592186044416 ∧ (tOut ts j).length ≤ 17592186044416) : Trs w A n ts := by
  have hn : n = ts.length := by obtain ⟨A', c', e⟩ := h.form; cases e; rfl
  subst hn
  refine ⟨rfl, hm, fun h0 => ?_⟩
  obtain ⟨vs, ho, hv⟩ := h
  rcases ho.2 with ⟨e, h0'⟩ | ⟨g, cap, cur, e, _, hg, r⟩
  · omega
  · cases e
    refine ⟨g, 0, rfl, heap_lt hg, fun j hj => ?_⟩
    obtain ⟨A1, c1, A2, c2, h1, h2, h3, h4⟩ := hv j hj
    have hl := ho.1
    refine ⟨A1, _, c1, A2, _, c2, ?_, ?_, h3.cap22, h4.cap22, h3.ints (hr j hj).1, h4.ints (hr j hj).2⟩
    · rw [Nat.zero_add, World.ownsRow.cellAt ho (j * 2) (by omega), Nat.mul_comm, h1]
    · rw [Nat.zero_add, World.ownsRow.cellAt ho (j * 2 + 1) (by omega), Nat.mul_comm j 2, h2]
theorem Ints.takeX {w : World} {A : Option Addr} {n t : Nat} {xs : List Int} (h : Ints w A n xs) (ht : t ≤ n) : Ints w A t (xs.take t) := by
  refine ⟨by rw [List.length_take, h.1]; omega, by have := h.2.1; omega, fun h0 => ?_⟩
  obtain ⟨b', o', e, hlt, hc⟩ := h.2.2 (by omega)
  refine ⟨b', o', e, hlt, fun j hj => ?_⟩
  rw [hc j (by omega)]
  congr 2
  rw [List.getD_eq_getElem?_getD, List.getD_eq_getElem?_getD, List.getElem?_take_of_lt hj]
end Go.Proofs.Ytkgdgnmobahhfaa
end

section
/- Refuted, the program. -/
namespace Go.Proofs.Ytkgdgnmobahhfaa
open Go.RowKit

set_option linter.unusedSimpArgs false in
set_option linter.unusedVariables false in
set_option maxHeartbeats 4000000 in
set_option maxRecDepth 100000 in
theorem phrefuted_no (i st o : Int) (A B C T : Option Addr) (n c m d k e tn tc : Nat) (w : World) (hio : ¬ i = o) :
    Calls Try.prog 45 #[.agg #[.int .i64 i, .int .i64 st, .slice A n c, .slice B m d, .slice C k e], .agg #[.int .i64 o, .slice T tn tc]] w fun r w' => r = .returned (.tuple #[.slice none 0 0, .bool false, .int .i64 15]) ∧ Below w.heap.size w w' := by
  obtain ⟨hb0, m1, m2, hs0⟩ := bxs2 w #[.int .i64 i, .int .i64 st, .slice A n c, .slice B m d, .slice C k e] #[.int .i64 o, .slice T tn tc] 65 24 _ rfl
  have HB := Lib.hid hb0
  have k0 := m1.cell 0
  have l0 := m2.cell 0
  simp at k0 l0
  have hne : (i != o) = true := by rw [bne_iff_ne]; exact hio
  clear hb0 m1 m2 hs0
  go_enter Try.func45, Try.ntmps45
  go_wp2
  go_ret3
  exact ⟨rfl, HB.out⟩

set_option linter.unusedSimpArgs false in
set_option linter.unusedVariables false in
set_option maxHeartbeats 8000000 in
set_option maxRecDepth 100000 in
theorem phrefuted (i st n : Nat) (A B C T : Option Addr) (c d k e tn tc : Nat) (nx ot : List (List Int)) (ts : List (List Int × List Int)) (w : World) (hx : Lists w A n nx) (ho : Lists w B n ot) (hM : Mok i st n nx ot) (hT : Trs w T tn ts) (hF : Full ts) (hI : Props i ts) (htn : tn ≤ 10000) :
    Calls Try.prog 45 #[.agg #[.int .i64 i, .int .i64 st, .slice A n c, .slice B n d, .slice C k e], .agg #[.int .i64 i, .slice T tn tc]] w fun r w' => Ref3 (Rf nx ot st ts tn) w r w' := by
  obtain ⟨w0, hw0⟩ : ∃ w0, w0 = (w.alloc (.cells #[.int .i64 i, .int .i64 st, .slice A n c, .slice B n d, .slice C k e] 65)).alloc (.cells #[.int .i64 i, .slice T tn tc] 24) := ⟨_, rfl⟩
  obtain ⟨hb0, m1, m2, hs0⟩ := bxs2 w #[.int .i64 i, .int .i64 st, .slice A n c, .slice B n d, .slice C k e] #[.int .i64 i, .slice T tn tc] 65 24 w0 hw0
  have HM1 := Lib.hid (fun (W : World) (h : Below w0.heap.size w0 W) => m1.on h)
  have HM2 := Lib.hid (fun (W : World) (h : Below w0.heap.size w0 W) => m2.on h)
  have HX := Lib.hid (fun (W : World) (h : Below w0.heap.size w0 W) => (hx.below hb0).below h)
  have HO := Lib.hid (fun (W : World) (h : Below w0.heap.size w0 W) => (ho.below hb0).below h)
  have HT := Lib.hid (fun (W : World) (h : Below w0.heap.size w0 W) => (hT.below hb0).below h)
  have HB0 := Lib.hid hb0
  have HW0 := Lib.hid hw0
  have HLT := Lib.hid hT.1
  have HMOK := Lib.hid hM
  have HFF := Lib.hid hF
  have HII := Lib.hid hI
  have hbc := Below.refl w0.heap.size w0
  have k0 := m1.cell 0
  have k1 := m1.cell 1
  have k2 := m1.cell 2
  have k3 := m1.cell 3
  have l0 := m2.cell 0
  have l1 := m2.cell 1
  simp at k0 k1 k2 k3 l0 l1
  rw [hw0] at k0 k1 k2 k3 l0 l1
  have hne : ((i : Int) != (i : Int)) = false := by simp
  clear hw0 hb0 m1 m2 hs0 hx ho hT hM hF hI
  go_enter Try.func45, Try.ntmps45
  go_wp2_with fail
  rw [← HW0.out]
  clear k0 k1 k2 k3 l0 l1
  go_loopw [26, 7] (fun v26 v7 wr => ∃ (q : Nat) (A' : Option Addr) (c' : Nat), v26 = .int .i64 q ∧ q ≤ tn ∧ v7 = .slice A' q c' ∧ Hid (LsH w0 wr w0.heap.size (.slice A' q c') (insK ts q)) ∧ Hid (Below w0.heap.size w0 wr)) (fun v26 _ _ => tn - (intOf v26).toNat)
  case atStart => exact ⟨0, none, 0, rfl, Nat.zero_le _, rfl, Lib.hid (LsH.nil _ _ _), Lib.hid (Below.refl _ _)⟩
  case round =>
    obtain ⟨q, A', c', rfl, hq, rfl, HL, HBR⟩ := hrel
    by_cases hlt : q < tn
    · obtain ⟨b, off, A1, n1, c1, A2, n2, c2, rfl, hgb, j1, j2, _, _, j3, j4⟩ := (HT.out _ HBR.out).at_ hlt
      obtain ⟨_, _, B1, p1, d1, B2, p2, d2, eT, _, i1, _, _, _, i3, _⟩ := (HT.out _ (Below.refl _ _)).at_ hlt
      cases eT
      have HI1 := Lib.hid (show Ints w0 A1 n1 (tIn ts q) by
        have e1 := (HBR.out.cell (p := ⟨b, off + q * 2, none⟩) (by assumption)).trans i1
        rw [j1] at e1; cases e1; exact i3)
      have hil := insK_len ts q
      have hbx := bx_new wr #[.slice A1 n1 c1, .slice A2 n2 c2] 38
      have hal := alloc_below wr (.cells #[.slice A1 n1 c1, .slice A2 n2 c2] 38)
      obtain ⟨A9, c9, w9, hrn, o9, b9⟩ := run_append_lsh (c := c1) (HL.out.keptT (KeptT.of_below hal)) HI1.out (bt HBR.out hal).size (by rw [hil]; omega)
      rw [hil] at hrn o9
      have x0 := hbx.cell 0
      simp at x0
      have HO9 := Lib.hid (show LsH w0 w9 w0.heap.size (.slice A9 (q + 1) c9) (insK ts (q + 1)) from o9)
      have HB9 := Lib.hid ((bt HBR.out hal).trans b9)
      have hsz : (wr.alloc (.cells #[.slice A1 n1 c1, .slice A2 n2 c2] 38)).heap.size = wr.heap.size + 1 := by simp
      rw [hsz] at hrn
      clear i1 i3 j3 j4 hgb o9 b9
      go_wp2_with (at_builtin; refine Lib.wpList_append_run _ rfl _ _ _ _ rfl _ _ rfl rfl _ _ hrn ?_)
      go_roundw
      case rel => exact ⟨q + 1, A9, c9, by go_num, by omega, rfl, HO9, HB9⟩
      case measure => simp [intOf]; omega
    · obtain rfl : q = tn := by omega
      have k0 := (HM1.out _ HBR.out).cell 0
      have k1 := (HM1.out _ HBR.out).cell 1
      have k2 := (HM1.out _ HBR.out).cell 2
      have k3 := (HM1.out _ HBR.out).cell 3
      simp at k0 k1 k2 k3
      have hLW := HL.out.lists HBR.out (by rw [insK_len]; omega)
      have HTR := Lib.hid (ptraces_ok i st n A B A' c d q c' nx ot (insK ts q) wr (HX.out _ HBR.out) (HO.out _ HBR.out) HMOK.out hLW htn)
      have HTM := Lib.hid (show trs i st nx ot (insK ts q) [] = ((insK ts q).map (fun w => (w, runO nx ot st w)), 0) from by
        rw [trs_map _ _ (fun x hx => by
          obtain ⟨j, hj, rfl⟩ := List.getElem_of_mem hx
          rw [insK_len] at hj
          have e1 : (insK ts q)[j] = tIn ts j := by have := insK_at ts hj; rwa [List.getD_eq_getElem?_getD, List.getElem?_eq_getElem (by rw [insK_len]; exact hj)] at this
          rw [e1]
          exact (prp_zero (HII.out j (by rw [HLT.out]; exact hj))).1)]
        simp)
      have HPL := Lib.hid (show ((insK ts q).map (fun w => (w, runO nx ot st w))).length = q by rw [List.length_map, insK_len])
      obtain ⟨Pd, hPd⟩ : ∃ Pd, Pd = (insK ts q).map (fun w => (w, runO nx ot st w)) := ⟨_, rfl⟩
      rw [← hPd] at HTM HPL
      have HPT := Lib.hid (show ∀ j, j < q → tIn Pd j = tIn ts j ∧ tOut Pd j = runO nx ot st (tIn ts j) from fun j hj => by
        have := map_tIn (f := runO nx ot st) (ws := insK ts q) (j := j) (by rw [insK_len]; exact hj)
        rw [hPd, this.1, this.2, insK_at ts hj]; exact ⟨rfl, rfl⟩)
      clear hLW hPd
      go_wp2_with fail
      refine HTR.out.mono ?_
      rintro r w2 ⟨A2, c2, rfl, o2, a2⟩
      rw [HTM.out] at o2 ⊢
      rw [show (Pd, (0 : Int)).1 = Pd from rfl] at o2 ⊢
      rw [HPL.out] at o2 ⊢
      have hbr2 := bt HBR.out a2
      have hPdT := o2.trs (by rw [HPL.out]; omega) (fun j hj => by
        rw [HPL.out] at hj
        have h1 := (prp_zero (HII.out j (by rw [HLT.out]; exact hj))).1
        have h2 := (chk_zero h1).2.2.1
        rw [(HPT.out j hj).1, (HPT.out j hj).2, runO_len]
        omega)
      have HPD := Lib.hid (fun (W : World) (h : Below w2.heap.size w2 W) => hPdT.below h)
      have HB2 := Lib.hid hbr2
      clear o2 hPdT a2 hbr2 k0 k1 k2 k3
      go_wp2_with fail
      go_loopw [48, 12] (fun v48 v12 wr => ∃ (p : Nat) (xs : List Int), v48 = .int .i64 p ∧ p ≤ q ∧ Hid (FirstV wr v12 xs) ∧ Hid (Fst1 (Rf nx ot st ts p) xs) ∧ Hid (Below w2.heap.size w2 wr)) (fun v48 _ _ => q - (intOf v48).toNat)
      case atStart => exact ⟨0, [], rfl, Nat.zero_le _, Lib.hid (.inl ⟨rfl, rfl⟩), Lib.hid (Rf.zero _ _ _ _), Lib.hid (Below.refl _ _)⟩
      case round =>
        obtain ⟨p, xs, rfl, hp, HV, HFS, HBW⟩ := hrel
        by_cases hlp : p < q
        · obtain ⟨b, off, A1, n1, c1, A3, n3, c3, rfl, hgb, j1, j2, q1, q2, j3, j4⟩ := (HPD.out _ HBW.out).at_ hlp
          have hbw0 := bt HB2.out HBW.out
          obtain ⟨wa, hwa⟩ : ∃ wa, wa = wr.alloc (.cells #[.slice A1 n1 c1, .slice A3 n3 c3] 38) := ⟨_, rfl⟩
          have hal : Below wr.heap.size wr wa := by rw [hwa]; exact alloc_below _ _
          have hbx : Bx wa wr.heap.size #[.slice A1 n1 c1, .slice A3 n3 c3] 38 := by rw [hwa]; exact bx_new _ _ _
          obtain ⟨b', off', D1, m1, e1, D2, m2, e2, eT, hgt, i1, i2, _, _, i3, i4⟩ := (HT.out _ (bt hbw0 hal)).at_ hlp
          subst eT
          have x0 := hbx.cell 0
          have x1 := hbx.cell 1
          have l1 := (HM2.out _ (bt hbw0 hal)).cell 1
          simp at x0 x1 l1
          have hPp := HPT.out p hlp
          rw [hPp.1] at j3
          rw [hPp.2] at j4
          have hprp := prp_zero (HII.out p (by rw [HLT.out]; exact hlp))
          have hchk := (chk_zero hprp.1).2.2.1
          have hlen : (runO nx ot st (tIn ts p)).length = (tOut ts p).length := by rw [runO_len, hprp.2.1]
          have hn3 : n3 = n1 := by rw [← j4.1, ← j3.1, runO_len]
          subst hn3
          have hn3l : (tIn ts p).length = n3 := j3.1
          obtain ⟨K, hK⟩ : ∃ K, K = (if cmn (runO nx ot st (tIn ts p)) (tOut ts p) < n3 then cmn (runO nx ot st (tIn ts p)) (tOut ts p) else 0) := ⟨_, rfl⟩
          obtain ⟨bb, hbb⟩ : ∃ bb, bb = decide (cmn (runO nx ot st (tIn ts p)) (tOut ts p) < n3) := ⟨_, rfl⟩
          have HDF := Lib.hid (fun u => wdiff A3 D2 n3 c3 m2 e2 _ _ K bb (wa.drewN u) ((j4.below hal).drewN u) (i4.drewN u) hlen hK hbb)
          have HJ3 := Lib.hid (j3.below hal)
          have HAL := Lib.hid hal
          have HWA := Lib.hid hwa
          have HBA := Lib.hid (bt HBW.out hal)
          have hpI : (p : Int) < (q : Int) := by omega
          have hp0 : (0 : Int) ≤ (p : Int) := by omega
          have hwa' := hwa
          clear hbx hgb hgt i3 i4 j3 j4 hPp hprp hlen hal hbw0
          by_cases hd : dfN nx ot st ts p < n3
          · have hbt : bb = true := by rw [hbb]; exact decide_eq_true hd
            have hKd : K = dfN nx ot st ts p := by rw [hK]; exact if_pos hd
            subst hbt
            have HKD := Lib.hid hKd
            have hKn : K < n3 := by rw [hKd]; exact hd
            have HYS := Lib.hid (rf_yes (nx := nx) (ot := ot) (st := st) (k := p) (ts := ts) (by rw [hn3l]; exact hd))
            rw [← hKd] at HYS
            have HZL := Lib.hid (show ((tIn ts p).take (K + 1)).length = K + 1 by rw [List.length_take, hn3l]; omega)
            have w1' : IntKind.i64.wrap ((K : Int) + 1) = (K : Int) + 1 := by rw [IntKind.wrap_i64]; omega
            have i1' : (K : Int) + 1 ≤ (c1 : Int) := by omega
            have i2' : (0 : Int) ≤ (K : Int) + 1 := by omega
            have HTK := Lib.hid (HJ3.out.takeX (t := K + 1) (by omega))
            clear hK hbb hd hKd hn3l hwa' hchk
            rw [hwa] at x0 x1 l1 i1 i2 HDF
            clear hwa
            have HV6 := HV.out.below HAL.out
            rcases HV6 with ⟨rfl, rfl⟩ | ⟨g, n8, c8, rfl, hi8, hne8⟩
            · have HX2 := Lib.hid (fst1_new HFS.out (by rw [HZL.out]; exact Nat.succ_pos K) HYS.out (.inl rfl))
              go_wp2
              go_quiet ((go_at_call 83; exact Calls.quiet_of (HDF.out _)))
              go_wp2_with fail
              refine (pearlier_none A1 (K + 1) c1 _).mono ?_
              rintro r w7 ⟨rfl, rfl⟩
              rw [← HWA.out]
              have HFV := Lib.hid (show FirstV (wa.drewN nq) (.slice A1 (K + 1) c1) ((tIn ts p).take (K + 1)) from FirstV.of (HTK.out.drewN nq) (by rw [HZL.out]; exact Nat.succ_pos K))
              go_wp2
              go_roundw
              case rel => exact ⟨p + 1, _, by go_num, by omega, HFV, HX2, Lib.hid (below_drewN HBA.out nq)⟩
              case measure => simp [intOf]; omega
            · have HI8 := Lib.hid hi8
              by_cases hc : shlex ((tIn ts p).take (K + 1)) xs < 0
              · have HX2 := Lib.hid (fst1_new HFS.out (by rw [HZL.out]; exact Nat.succ_pos K) HYS.out (.inr hc))
                have HC := Lib.hid hc
                clear hi8 hne8 hc
                go_wp2
                go_quiet ((go_at_call 83; exact Calls.quiet_of (HDF.out _)))
                go_wp2_with fail
                rw [← HWA.out]
                refine (pearlier_some g A1 n8 c8 (K + 1) c1 xs _ (wa.drewN nq) (HI8.out.drewN nq) (HTK.out.drewN nq)).mono ?_
                rintro r w7 ⟨rfl, u, rfl⟩
                rw [if_pos HC.out]
                have HFV := Lib.hid (show FirstV ((wa.drewN nq).drewN u) (.slice A1 (K + 1) c1) ((tIn ts p).take (K + 1)) from FirstV.of ((HTK.out.drewN nq).drewN u) (by rw [HZL.out]; exact Nat.succ_pos K))
                go_wp2
                go_roundw
                case rel => exact ⟨p + 1, _, by go_num, by omega, HFV, HX2, Lib.hid (below_drewN HBA.out _)⟩
                case measure => simp [intOf]; omega
              · have HX2 := Lib.hid (fst1_old HFS.out HYS.out hne8 hc)
                have HC := Lib.hid hc
                have HN8 := Lib.hid hne8
                clear hi8 hne8 hc
                go_wp2
                go_quiet ((go_at_call 83; exact Calls.quiet_of (HDF.out _)))
                go_wp2_with fail
                rw [← HWA.out]
                refine (pearlier_some g A1 n8 c8 (K + 1) c1 xs _ (wa.drewN nq) (HI8.out.drewN nq) (HTK.out.drewN nq)).mono ?_
                rintro r w7 ⟨rfl, u, rfl⟩
                rw [if_neg (show ¬ shlex ((tIn ts p).take (K + 1)) xs < 0 by have := HC.out; omega)]
                have HFV := Lib.hid (show FirstV ((wa.drewN nq).drewN u) (.slice (some g) n8 c8) xs from .inr ⟨g, n8, c8, rfl, (HI8.out.drewN nq).drewN u, HN8.out⟩)
                go_wp2
                go_roundw
                case rel => exact ⟨p + 1, xs, by go_num, by omega, HFV, HX2, Lib.hid (below_drewN HBA.out _)⟩
                case measure => simp [intOf]; omega
          · have hbt : bb = false := by rw [hbb]; exact decide_eq_false hd
            subst hbt
            have HNO := Lib.hid (rf_no (nx := nx) (ot := ot) (st := st) (k := p) (ts := ts) (by rw [hn3l]; exact hd))
            clear hK hbb hd hn3l hwa' hchk
            rw [hwa] at x0 x1 l1 i1 i2 HDF
            clear hwa
            go_wp2
            go_quiet ((go_at_call 83; exact Calls.quiet_of (HDF.out _)))
            go_wp2
            go_roundw
            case rel => rw [← HWA.out]; exact ⟨p + 1, xs, by go_num, by omega, Lib.hid ((HV.out.below HAL.out).below (below_drewN (Below.refl _ _) nq)), Lib.hid (fst1_skip HFS.out HNO.out), Lib.hid (below_drewN HBA.out nq)⟩
            case measure => simp [intOf]; omega
        · obtain rfl : p = q := by omega
          rcases HV.out with ⟨rfl, rfl⟩ | ⟨g, n', c', rfl, hi8, hne8⟩
          · have he := fun W => run_neqs (P := Try.prog) W 36 3 none 0 0 0 0 Try.underlying36
            go_wp2
            go_ret3
            exact ⟨none, 0, 0, [], false, rfl, HFS.out, Ints.none_ _, ⟨(fun h => nomatch h), fun h => absurd rfl h⟩, bt HB0.out (bt HB2.out HBW.out)⟩
          · have he := fun W => run_neqs (P := Try.prog) W 36 3 (some g) n' c' 0 0 Try.underlying36
            have HI8 := Lib.hid hi8
            have HN8 := Lib.hid hne8
            clear hi8 hne8
            go_wp2
            go_ret3
            exact ⟨some g, n', c', xs, true, rfl, HFS.out, HI8.out, ⟨fun _ => HN8.out, fun _ => rfl⟩, bt HB0.out (bt HB2.out HBW.out)⟩
end Go.Proofs.Ytkgdgnmobahhfaa
end
