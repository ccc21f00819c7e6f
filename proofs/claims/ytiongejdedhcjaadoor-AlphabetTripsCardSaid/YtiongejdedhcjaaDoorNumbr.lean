/- The walk of the reference's Numbered. -/
import Derived.Test.YtiongejdedhcjaaDoorNumb
import Derived.Deep.AppendLies
import Derived.Deep.RegionLaw
import Derived.BigRegion
namespace Go.Proofs.YtiongejdedhcjaaDoor
open Go.RowKit

theorem skol {α β : Type} {P : α → β → Prop} (h : ∀ a, ∃ b, P a b) : ∃ F : α → β, ∀ a, P a (F a) := ⟨fun a => Classical.choose (h a), fun a => Classical.choose_spec (h a)⟩

/-- append at a step of a region that draws. -/
theorem step_append_run {P : Program} {ops : Array Oper} {o : Oper} {a : Act} {w : World} {K : Act → World → Prop} {Q : Exit → Act → World → Prop} {E : Prop} (hgd : o.guard = none) (s x : Operand) (t tn : TypeId)
    (ho : o.op = .call { callee := .builtin .append, args := #[s, x], argTypes := #[t, tn] }) (vs vx : Value) (hs : a.eval s = vs) (hx : a.eval x = vx)
    (v' : Value) (w' : World) (hr : (Builtin.append_ #[t, tn] o.type #[vs, vx]).run P w = .ok v' w') (h : K (a.put o.dst v') w') :
    if Region.wanted o (yielded ops a.tmps) = true then Oper.wp P o a w K Q else E := by
  have hw : Region.wanted o (yielded ops a.tmps) = true := by simp [Region.wanted, hgd]
  rw [if_pos hw]
  exact Lib.wp_append_run w s x t tn ho vs vx hs hx v' w' hr h

/-- What stands after a round. -/
theorem step_rel {w wr W : World} {p : ByteArray} {n j f c : Nat} {V A : Option Addr} (hbr : Below w.heap.size w wr) (hsz : w.heap.size + 2 ≤ wr.heap.size)
    (hk1 : wr.heap[w.heap.size]? = some (.cells #[.slice none 0 0] 24 (0, 0))) (hk2 : wr.heap[w.heap.size + 1]? = some (.cells #[.slice V j f] 24 (0, 0)))
    (ho : OwnedS W (w.heap.size + 2) (.slice A (j + 1) c) (nmb p (j + 1))) (hb : Below (w.heap.size + 2) wr W) (hj : j + 1 ≤ n) :
    ∃ (j' : Nat) (V' : Option Addr) (f' : Nat), j' ≤ n ∧ Value.int .i64 ((j : Int) + 1) = .int .i64 j' ∧ OwnedS (W.setCell ⟨w.heap.size + 1, 0, none⟩ (.slice A (j + 1) c)) (w.heap.size + 2) (.slice V' j' f') (nmb p j') ∧
      (W.setCell ⟨w.heap.size + 1, 0, none⟩ (.slice A (j + 1) c)).heap[w.heap.size]? = some (.cells #[.slice none 0 0] 24 (0, 0)) ∧ (W.setCell ⟨w.heap.size + 1, 0, none⟩ (.slice A (j + 1) c)).heap[w.heap.size + 1]? = some (.cells #[.slice V' j' f'] 24 (0, 0)) ∧
      w.heap.size + 2 ≤ (W.setCell ⟨w.heap.size + 1, 0, none⟩ (.slice A (j + 1) c)).heap.size ∧ Below w.heap.size w (W.setCell ⟨w.heap.size + 1, 0, none⟩ (.slice A (j + 1) c)) := by
  have h1 := hb.block w.heap.size (by omega)
  have h2 := hb.block (w.heap.size + 1) (by omega)
  refine ⟨j + 1, A, c, hj, rfl, ho.setOther (by omega) _, ?_, ?_, ?_, ?_⟩
  · rw [heap_setCell_other _ _ _ _ (by show w.heap.size ≠ w.heap.size + 1; omega), h1]; exact hk1
  · exact set_block (h2.trans hk2)
  · have := hb.size; simp; omega
  · exact (hbr.trans (hb.mono (by omega))).setCell (by show w.heap.size ≤ w.heap.size + 1; omega) _

set_option maxHeartbeats 2000000 in
set_option maxRecDepth 100000 in
theorem rnumbered (p : ByteArray) (n : Int) (hs : p.size ≤ 17592186044416) (w : World) :
    Calls Tryd.prog 23 #[.string p, .int .i64 n] w fun e w' => ∃ v, e = .returned (.tuple #[.agg #[v], .int .i64 (numV p n).2]) ∧ OwnedS w' w.heap.size v (numV p n).1 ∧ Below w.heap.size w w' := by
  by_cases hN : Nam p
  · by_cases h30 : p.size ≤ 30
    · by_cases hr : 1 ≤ n ∧ n ≤ 64
      · obtain ⟨n, rfl⟩ : ∃ k : Nat, n = k := ⟨n.toNat, by omega⟩
        have hfin := Lib.hid (numV_ok (n := n) ⟨hN, h30⟩ (by omega))
        have hn64 : n ≤ 64 := by omega
        have hd : decide (Nam p) = true := decide_eq_true hN
        obtain ⟨hr1, hr2⟩ := hr
        clear hN
        go_enter Tryd.func23, Tryd.ntmps23
        go_wp2_with fail
        refine (rname p hs _).mono ?_
        rintro e w1 ⟨rfl, rfl⟩
        go_wp2
        go_loopw [7] (fun i wr => ∃ (j : Nat) (V : Option Addr) (f : Nat), j ≤ n ∧ i = .int .i64 j ∧ OwnedS wr (w.heap.size + 2) (.slice V j f) (nmb p j) ∧
          wr.heap[w.heap.size]? = some (.cells #[.slice none 0 0] 24 (0, 0)) ∧ wr.heap[w.heap.size + 1]? = some (.cells #[.slice V j f] 24 (0, 0)) ∧ w.heap.size + 2 ≤ wr.heap.size ∧ Below w.heap.size w wr) (fun i _ => n - (intOf i).toNat)
        case atStart => exact ⟨0, none, 0, Nat.zero_le _, rfl, OwnedS.nil _ _, heap_alloc2_old _ _ _, heap_alloc2_new _ _ _, by simp, (alloc_below _ _).alloc (by simp) _⟩
        case round =>
          obtain ⟨j, V, f, hj, rfl, hown, hk1, hk2, hsz, hbr⟩ := hrel
          have hbox1 := cell_of_row wr w.heap.size 0 _ _ _ hk1
          have hbox2 := cell_of_row wr (w.heap.size + 1) 0 _ _ _ hk2
          have hfz1 := frozen_of_row wr w.heap.size 0 _ _ hk1
          have hfz2 := frozen_of_row wr (w.heap.size + 1) 0 _ _ hk2
          rw [show (#[Value.slice none 0 0] : Array Value)[0]? = some (.slice none 0 0) from rfl] at hbox1
          rw [show (#[Value.slice V j f] : Array Value)[0]? = some (.slice V j f) from rfl] at hbox2
          have HK1 := Lib.hid hk1
          have HK2 := Lib.hid hk2
          clear hk1 hk2
          by_cases hlt : j < n
          · have hj100 : j < 100 := by omega
            have hdl := dg_len j hj100
            have hy : (p ++ dg j).size ≤ 17592186044416 := by rw [ByteArray.size_append]; omega
            have hall : ∀ k, ∃ r : (Option Addr × Nat) × World, (Builtin.append_ #[22, 22] 22 #[.slice V j f, .slice (some ⟨wr.heap.size, 0, none⟩) 1 1]).run Tryd.prog ((wr.drewN k).alloc (.cells #[.string (p ++ dg j)] 9)) = .ok (.slice r.1.1 (j + 1) r.1.2) r.2 ∧
                OwnedS r.2 (w.heap.size + 2) (.slice r.1.1 (j + 1) r.1.2) (nmb p (j + 1)) ∧ Below (w.heap.size + 2) wr r.2 := fun k => by
              have hbz := alloc_below (wr.drewN k) (.cells #[.string (p ++ dg j)] 9)
              have hnew := one_str (wr.drewN k) (p ++ dg j) hy
              have hown2 : OwnedS (wr.drewN k) (w.heap.size + 2) (.slice V j f) (nmb p j) := hown
              obtain ⟨v', w', hrn, ho', _, hbel'⟩ := run_append_strs _ _ _ _ _ _ _ 1 (hown2.kept hbz) hnew (Nat.le_trans hsz hbz.size) (by rw [List.length_append, nmb_len]; simp; omega)
              have ho' : OwnedS w' (w.heap.size + 2) v' (nmb p (j + 1)) := ho'
              have hf := ho'.form
              rw [nmb_len] at hf
              obtain ⟨A', c', rfl⟩ := hf
              exact ⟨((A', c'), w'), hrn, ho', (below_drewN (Below.refl _ _) k).trans ((hbz.mono hsz).trans hbel')⟩
            obtain ⟨F, hF⟩ := skol hall
            have HF := Lib.hid hF
            have hfc : ∀ k, (F k).2.cell? ⟨w.heap.size + 1, 0, none⟩ = some (.slice V j f) := fun k => ((hF k).2.2.cell (by show w.heap.size + 1 < _; omega)).trans hbox2
            have hff : ∀ k, (F k).2.frozen? ⟨w.heap.size + 1, 0, none⟩ = false := fun k => ((hF k).2.2.frozen (by show w.heap.size + 1 < _; omega)).trans hfz2
            clear hF hall
            have hal : ∀ k, ((wr.drewN k).alloc (.cells #[.string (p ++ dg j)] 9)).cell? ⟨w.heap.size + 1, 0, none⟩ = some (.slice V j f) := fun k => ((alloc_below (wr.drewN k) _).cell (by show w.heap.size + 1 < wr.heap.size; omega)).trans hbox2
            have HJ := Lib.hid hj100
            have hnl : ¬ 9223372036854775807 < p.size + (dg j).size := by omega
            clear hj100
            go_wp2
            go_region_law (first
              | (refine step_append_run rfl _ _ _ _ rfl _ _ rfl rfl _ _ (HF.out _).1 ?_)
              | (go_simp; go_at_call 37; refine (rdec j HJ.out _).mono ?_; rintro e w' ⟨rfl, q, rfl⟩))
            all_goals
              clear hfc hff hal
              go_wp2
              go_roundw
              case rel => exact step_rel hbr hsz HK1.out HK2.out (HF.out _).2.1 (HF.out _).2.2 (by omega)
              case measure => simp [intOf]; omega
          · obtain rfl : j = n := by omega
            go_wp2
            (try simp only [Exit.inBlock, Exit.then])
            refine bodyPost_ret (results_alpha rfl _ _ w.heap.size (.slice V j f) rfl (set_block HK1.out)) rfl ?_
            exact ⟨_, ret_ag hfin.out rfl, by rw [hfin.out]; exact (hown.setOther (by omega) _).lower (by omega), hbr.setCell (by exact Nat.le_refl _) _⟩
      · have hfin := Lib.hid (numV_range ⟨hN, h30⟩ hr)
        have hd : decide (Nam p) = true := decide_eq_true hN
        have hor : n < 1 ∨ (1 ≤ n ∧ 64 < n) := by omega
        clear hN hr
        rcases hor with h1 | ⟨h1, h2⟩
        all_goals
          go_enter Tryd.func23, Tryd.ntmps23
          go_wp2_with fail
          refine (rname p hs _).mono ?_
          rintro e w1 ⟨rfl, rfl⟩
          go_wp2
          (try simp only [Exit.inBlock, Exit.then])
          refine bodyPost_ret (results_alpha rfl _ _ w.heap.size (.slice none 0 0) rfl (heap_alloc_new w _)) rfl ?_
          exact ⟨_, ret_ag hfin.out rfl, by rw [hfin.out]; exact OwnedS.nil _ _, alloc_below _ _⟩
    · have hfin := Lib.hid (numV_name (n := n) (fun H => h30 H.2))
      have hd : decide (Nam p) = true := decide_eq_true hN
      clear hN
      go_enter Tryd.func23, Tryd.ntmps23
      go_wp2_with fail
      refine (rname p hs _).mono ?_
      rintro e w1 ⟨rfl, rfl⟩
      go_wp2
      (try simp only [Exit.inBlock, Exit.then])
      refine bodyPost_ret (results_alpha rfl _ _ w.heap.size (.slice none 0 0) rfl (heap_alloc_new w _)) rfl ?_
      exact ⟨_, ret_ag hfin.out rfl, by rw [hfin.out]; exact OwnedS.nil _ _, alloc_below _ _⟩
  · have hfin := Lib.hid (numV_name (n := n) (fun H => hN H.1))
    have hd : decide (Nam p) = false := decide_eq_false hN
    clear hN
    go_enter Tryd.func23, Tryd.ntmps23
    go_wp2_with fail
    refine (rname p hs _).mono ?_
    rintro e w1 ⟨rfl, rfl⟩
    go_wp2
    (try simp only [Exit.inBlock, Exit.then])
    refine bodyPost_ret (results_alpha rfl _ _ w.heap.size (.slice none 0 0) rfl (heap_alloc_new w _)) rfl ?_
    exact ⟨_, ret_ag hfin.out rfl, by rw [hfin.out]; exact OwnedS.nil _ _, alloc_below _ _⟩
end Go.Proofs.YtiongejdedhcjaaDoor
