/- The walks of Numbered. -/
import Derived.Test.YtiongejdedhcjaaDoorNum
namespace Go.Proofs.YtiongejdedhcjaaDoor
open Go.RowKit

/-- The names of a numbered alphabet. -/
noncomputable def nmb (p : ByteArray) : Nat → List ByteArray
  | 0 => []
  | i + 1 => nmb p i ++ [p ++ dg i]
theorem nmb_len (p : ByteArray) (n : Nat) : (nmb p n).length = n := by
  induction n with
  | zero => rfl
  | succ n ih => rw [nmb, List.length_append, ih]; rfl
def CanN (p : ByteArray) (n : Int) : Prop := Nam p ∧ p.size ≤ 30 ∧ 1 ≤ n ∧ n ≤ 64
/-- What Numbered returns. -/
noncomputable def numV (p : ByteArray) (n : Int) : List ByteArray × Int := if ¬ (Nam p ∧ p.size ≤ 30) then ([], 9) else if ¬ (1 ≤ n ∧ n ≤ 64) then ([], 2) else (nmb p n.toNat, 0)
theorem numV_name {p : ByteArray} {n : Int} (h : ¬ (Nam p ∧ p.size ≤ 30)) : numV p n = ([], 9) := by unfold numV; rw [if_pos h]
theorem numV_range {p : ByteArray} {n : Int} (h : Nam p ∧ p.size ≤ 30) (h2 : ¬ (1 ≤ n ∧ n ≤ 64)) : numV p n = ([], 2) := by unfold numV; rw [if_neg (fun H => H h), if_pos h2]
theorem numV_ok {p : ByteArray} {n : Nat} (h : Nam p ∧ p.size ≤ 30) (h2 : 1 ≤ n ∧ n ≤ 64) : numV p n = (nmb p n, 0) := by unfold numV; rw [if_neg (fun H => H h), if_neg (fun H => H (by omega))]; rfl

theorem box_free (w : World) (v : Value) (t : TypeId) {wr : World} (hb : Below (w.heap.size + 1) (w.alloc (.cells #[v] t)) wr) : wr.frozen? ⟨w.heap.size, 0, none⟩ = false := by
  rw [hb.frozen (by simp)]
  exact frozen_of_row _ _ 0 #[v] t (heap_alloc_new w _)

theorem ret_ag {k : IntKind} {v : Value} {a a' : Int} {q : List ByteArray × Int} {l : List ByteArray} (h : q = (l, a')) (h1 : a = a') : Ending.returned (.tuple #[.agg #[v], .int k a]) = .returned (.tuple #[.agg #[v], .int k q.2]) := by rw [h, h1]
theorem box_block (w : World) (v : Value) (t : TypeId) {wr : World} (hb : Below (w.heap.size + 1) (w.alloc (.cells #[v] t)) wr) : wr.heap[w.heap.size]? = some (.cells #[v] t (0, 0)) := by
  rw [hb.block _ (Nat.lt_succ_self _)]
  exact heap_alloc_new w _
theorem set_block {w : World} {g : Nat} {v u : Value} {t : TypeId} (h : w.heap[g]? = some (.cells #[v] t (0, 0))) : (w.setCell ⟨g, 0, none⟩ u).heap[g]? = some (.cells #[u] t (0, 0)) := by
  rw [heap_setCell_same w g 0 #[v] t u h]; rfl

/-- A result that lies in memory, an alphabet, and one more. -/
theorem results_alpha {fn : Func} {p u : Tmp} (h : fn.results = #[.cell p 24, .tmp u]) (tmps : Array Value) (w : World) (g : Nat) (v : Value)
    (hp : tmps.getD p undef = .pointer (some ⟨g, 0, none⟩)) (hg : w.heap[g]? = some (.cells #[v] 24 (0, 0))) :
    (results fn tmps).run Tryd.prog w = .ok (.tuple #[.agg #[v], tmps.getD u undef]) w := by
  rw [results_cell_tmp h, hp]
  have hl := run_loadVar_row (P := Tryd.prog) w g 24 24 #[v] (0, 0) _ hg Tryd.underlying24 rfl (by kernel_rfl)
  simp [asAddr, hl]

theorem sitoa (i : Nat) (hi : i < 100) (w : World) : Calls Tryd.prog 36 #[.int .i64 i] w fun e w' => e = .returned (.string (dg i)) ∧ w' = w := by
  rw [dg_eq]; exact Tryd.strconv_Itoa_small i hi w
theorem OwnedS.setOther {w : World} {base k : Nat} {v : Value} {xs : List ByteArray} (h : OwnedS w base v xs) (hk : k < base) (u : Value) : OwnedS (w.setCell ⟨k, 0, none⟩ u) base v xs := by
  refine ⟨h.1, ?_⟩
  rcases h.2 with e | ⟨g, cap, cur, hv, hbg, hg, r⟩
  · exact .inl e
  · exact .inr ⟨g, cap, cur, hv, hbg, by rw [heap_setCell_other _ _ _ _ (by show g ≠ k; omega)]; exact hg, r⟩

set_option maxHeartbeats 2000000 in
theorem pnumbered (p : ByteArray) (n : Int) (hs : p.size ≤ 17592186044416) (w : World) :
    Calls Tryd.prog 22 #[.string p, .int .i64 n] w fun e w' => ∃ v, e = .returned (.tuple #[.agg #[v], .int .i64 (numV p n).2]) ∧ OwnedS w' w.heap.size v (numV p n).1 ∧ Below w.heap.size w w' := by
  by_cases hN : Nam p
  · by_cases h30 : p.size ≤ 30
    · by_cases hr : 1 ≤ n ∧ n ≤ 64
      · obtain ⟨n, rfl⟩ : ∃ k : Nat, n = k := ⟨n.toNat, by omega⟩
        have hfin := Lib.hid (numV_ok (n := n) ⟨hN, h30⟩ (by omega))
        have hn64 : n ≤ 64 := by omega
        have hd : decide (Nam p) = true := decide_eq_true hN
        obtain ⟨hr1, hr2⟩ := hr
        clear hN
        go_enter Tryd.func22, Tryd.ntmps22
        go_wp2_with fail
        refine (pname p hs _).mono ?_
        rintro e w1 ⟨rfl, b1⟩
        have hbr1 : Below (w.heap.size + 1) (w.alloc (.cells #[.slice none 0 0] 24)) w1 := b1.mono (by simp)
        go_wp2
        go_loopw [6, 25] (fun v i wr => ∃ (j : Nat) (V : Option Addr) (f : Nat), j ≤ n ∧ i = .int .i64 j ∧ v = .slice V j f ∧ OwnedS wr (w.heap.size + 1) v (nmb p j) ∧ Below (w.heap.size + 1) (w.alloc (.cells #[.slice none 0 0] 24)) wr) (fun _ i _ => n - (intOf i).toNat)
        case atStart => exact ⟨0, _, _, Nat.zero_le _, rfl, rfl, OwnedS.nil _ _, hbr1⟩
        case round =>
          clear hbr1 b1
          obtain ⟨j, V, f, hj, rfl, rfl, hown, hbr⟩ := hrel
          have hsz1 : w.heap.size + 1 ≤ wr.heap.size := by have := hbr.size; simpa using this
          by_cases hlt : j < n
          · have hdl := dg_len j (by omega)
            have hy : (p ++ dg j).size ≤ 17592186044416 := by rw [ByteArray.size_append]; omega
            have hbz := alloc_below wr (.cells #[.string (p ++ dg j)] 9)
            have hnew := one_str wr (p ++ dg j) hy
            obtain ⟨v', w', hrn, ho', _, hbel'⟩ := run_append_strs _ _ _ _ _ _ _ 1 (hown.kept hbz) hnew (Nat.le_trans hsz1 hbz.size) (by rw [List.length_append, nmb_len]; simp; omega)
            have ho' : OwnedS w' (w.heap.size + 1) v' (nmb p (j + 1)) := ho'
            have hf := ho'.form
            rw [nmb_len] at hf
            obtain ⟨A', c', rfl⟩ := hf
            have hbw2 := (hbr.trans (hbz.mono hsz1)).trans hbel'
            clear hbz hnew hbel' hy
            go_wp2_with (first
              | (go_at_call 36; refine (sitoa j (by omega) _).mono ?_; rintro e w' ⟨rfl, rfl⟩)
              | (at_builtin; refine Lib.wpList_append_run _ rfl _ _ _ _ rfl _ _ rfl rfl _ _ hrn ?_))
            go_roundw
            case rel => exact ⟨j + 1, _, _, by omega, by go_num, rfl, ho', hbw2⟩
            case measure => simp [intOf]; omega
          · obtain rfl : j = n := by omega
            have hbox := box_cell w (.slice none 0 0) 24 hbr
            have hfz := box_free w (.slice none 0 0) 24 hbr
            go_wp2
            (try simp only [Exit.inBlock, Exit.then])
            refine bodyPost_ret (results_alpha rfl _ _ w.heap.size (.slice V j f) rfl (set_block (box_block w (.slice none 0 0) 24 hbr))) rfl ?_
            exact ⟨_, ret_ag hfin.out rfl, by rw [hfin.out]; exact (hown.setOther (Nat.lt_succ_self _) _).lower (Nat.le_succ _), ((alloc_below _ _).trans (hbr.mono (Nat.le_succ _))).setCell (by exact Nat.le_refl _) _⟩
      · have hfin := Lib.hid (numV_range ⟨hN, h30⟩ hr)
        have hd : decide (Nam p) = true := decide_eq_true hN
        have hor : n < 1 ∨ (1 ≤ n ∧ 64 < n) := by omega
        clear hN hr
        rcases hor with h1 | ⟨h1, h2⟩
        all_goals
          go_enter Tryd.func22, Tryd.ntmps22
          go_wp2_with fail
          refine (pname p hs _).mono ?_
          rintro e w1 ⟨rfl, b1⟩
          have hbr : Below (w.heap.size + 1) (w.alloc (.cells #[.slice none 0 0] 24)) w1 := b1.mono (by simp)
          have hbox := box_cell w (.slice none 0 0) 24 hbr
          have hfz := box_free w (.slice none 0 0) 24 hbr
          go_wp2
          (try simp only [Exit.inBlock, Exit.then])
          refine bodyPost_ret (results_alpha rfl _ _ w.heap.size (.slice none 0 0) rfl (set_block (box_block w (.slice none 0 0) 24 hbr))) rfl ?_
          exact ⟨_, ret_ag hfin.out rfl, by rw [hfin.out]; exact OwnedS.nil _ _, (bt (alloc_below _ _) b1).setCell (by exact Nat.le_refl _) _⟩
    · have hfin := Lib.hid (numV_name (n := n) (fun H => h30 H.2))
      have hd : decide (Nam p) = true := decide_eq_true hN
      clear hN
      go_enter Tryd.func22, Tryd.ntmps22
      go_wp2_with fail
      refine (pname p hs _).mono ?_
      rintro e w1 ⟨rfl, b1⟩
      have hbr : Below (w.heap.size + 1) (w.alloc (.cells #[.slice none 0 0] 24)) w1 := b1.mono (by simp)
      have hbox := box_cell w (.slice none 0 0) 24 hbr
      have hfz := box_free w (.slice none 0 0) 24 hbr
      go_wp2
      (try simp only [Exit.inBlock, Exit.then])
      refine bodyPost_ret (results_alpha rfl _ _ w.heap.size (.slice none 0 0) rfl (set_block (box_block w (.slice none 0 0) 24 hbr))) rfl ?_
      exact ⟨_, ret_ag hfin.out rfl, by rw [hfin.out]; exact OwnedS.nil _ _, (bt (alloc_below _ _) b1).setCell (by exact Nat.le_refl _) _⟩
  · have hfin := Lib.hid (numV_name (n := n) (fun H => hN H.1))
    have hd : decide (Nam p) = false := decide_eq_false hN
    clear hN
    go_enter Tryd.func22, Tryd.ntmps22
    go_wp2_with fail
    refine (pname p hs _).mono ?_
    rintro e w1 ⟨rfl, b1⟩
    have hbr : Below (w.heap.size + 1) (w.alloc (.cells #[.slice none 0 0] 24)) w1 := b1.mono (by simp)
    have hbox := box_cell w (.slice none 0 0) 24 hbr
    have hfz := box_free w (.slice none 0 0) 24 hbr
    go_wp2
    (try simp only [Exit.inBlock, Exit.then])
    refine bodyPost_ret (results_alpha rfl _ _ w.heap.size (.slice none 0 0) rfl (set_block (box_block w (.slice none 0 0) 24 hbr))) rfl ?_
    exact ⟨_, ret_ag hfin.out rfl, by rw [hfin.out]; exact OwnedS.nil _ _, (bt (alloc_below _ _) b1).setCell (by exact Nat.le_refl _) _⟩
end Go.Proofs.YtiongejdedhcjaaDoor
