/- The reference: Outs. -/
import Derived.Test.YtnifjagjcoegaaaFromm
import Derived.Deep.RegionLaw
namespace Go.Proofs.Ytnifjagjcoegaaa
open Go.RowKit

theorem skol {α : Sort _} {p : Nat → α → Prop} (h : ∀ k, ∃ x, p k x) : ∃ F : Nat → α, ∀ k, p k (F k) := ⟨fun k => Classical.choose (h k), fun k => Classical.choose_spec (h k)⟩

/-- append at a step of a region that draws. -/
theorem step_append_run {P : Program} {ops : Array Oper} {o : Oper} {a : Act} {w : World} {K : Act → World → Prop} {Q : Exit → Act → World → Prop} {E : Prop} (hgd : o.guard = none) (s x : Operand) (t tn : TypeId)
    (ho : o.op = .call { callee := .builtin .append, args := #[s, x], argTypes := #[t, tn] }) (vs vx : Value) (hs : a.eval s = vs) (hx : a.eval x = vx)
    (v' : Value) (w' : World) (hr : (Builtin.append_ #[t, tn] o.type #[vs, vx]).run P w = .ok v' w') (h : K (a.put o.dst v') w') :
    if Region.wanted o (yielded ops a.tmps) = true then Oper.wp P o a w K Q else E := by
  have hw : Region.wanted o (yielded ops a.tmps) = true := by simp [Region.wanted, hgd]
  rw [if_pos hw]
  exact Lib.wp_append_run w s x t tn ho vs vx hs hx v' w' hr h

theorem Owned.drew {w : World} {base : Nat} {v : Value} {xs : List Int} (h : Owned w base v xs) (k : Nat) : Owned (w.drewN k) base v xs := h

/-- append of one number, behind any number of draws. -/
theorem app_all {wr : World} {base q : Nat} {A : Option Addr} {c : Nat} {xs : List Int} (h : Owned wr base (.slice A q c) xs) (x : Int) (hbase : base ≤ wr.heap.size) (hl : xs.length < 17592186044416) :
    ∃ F : Nat → (Option Addr × Nat) × World, ∀ k, (Builtin.append_ #[26, 26] 26 #[.slice A q c, .slice (some ⟨wr.heap.size, 0, none⟩) 1 1]).run Try.prog ((wr.drewN k).alloc (.cells #[.int .i64 x] 3)) = .ok (.slice (F k).1.1 (q + 1) (F k).1.2) (F k).2 ∧
      Owned (F k).2 base (.slice (F k).1.1 (q + 1) (F k).1.2) (xs ++ [x]) ∧ Below base wr (F k).2 := by
  have hq : q = xs.length := by obtain ⟨A', c', e⟩ := h.form; cases e; rfl
  refine skol (p := fun k (r : (Option Addr × Nat) × World) => (Builtin.append_ #[26, 26] 26 #[.slice A q c, .slice (some ⟨wr.heap.size, 0, none⟩) 1 1]).run Try.prog ((wr.drewN k).alloc (.cells #[.int .i64 x] 3)) = .ok (.slice r.1.1 (q + 1) r.1.2) r.2 ∧
      Owned r.2 base (.slice r.1.1 (q + 1) r.1.2) (xs ++ [x]) ∧ Below base wr r.2) fun k => ?_
  obtain ⟨A', c', w', h1, h2, h3, _⟩ := run_append_one (h.drew k) x hbase hl
  rw [← hq] at h1 h2
  exact ⟨((A', c'), w'), h1, h2, (below_drewN (Below.refl _ _) k).trans h3⟩

set_option maxHeartbeats 2000000 in
set_option maxRecDepth 100000 in
theorem routs (i st n : Nat) (A B D : Option Addr) (c d k e s : Nat) (nx ot : List (List Int)) (xs : List Int) (w : World) (hM : Mok i st n nx ot) (hx : Lists w A n nx) (ho : Lists w B n ot) (hs : s < n) (hD : Ints w D k xs) (hS : ∀ x, x ∈ xs → 0 ≤ x ∧ x < i) :
    Calls Try.prog 120 #[.agg #[.int .i64 i, .int .i64 st, .slice A n c, .slice B n d], .int .i64 s, .slice D k e] w fun e w' => ∃ A' c', e = .returned (.tuple #[.slice A' k c', .int .i64 (runS nx s xs)]) ∧ Owned w' w.heap.size (.slice A' k c') (runO nx ot s xs) ∧ Below w.heap.size w w' := by
  have L := Lib.hid hD.1
  have hk := hD.2.1
  have hN := hx.2.1
  have HS := Lib.hid hS
  clear hS
  have hb0 := alloc_below w (.cells #[.int .i64 i, .int .i64 st, .slice A n c, .slice B n d] 58)
  go_enter Try.func120, Try.ntmps120
  go_wp2
  go_loopw [1, 8, 9] (fun sv v j wr => ∃ (q s' : Nat) (A' : Option Addr) (c' : Nat), q ≤ k ∧ j = .int .i64 q ∧ v = .slice A' q c' ∧ sv = .int .i64 s' ∧ s' = runS nx s (xs.take q) ∧ s' < n ∧ Owned wr (w.heap.size + 1) (.slice A' q c') (runO nx ot s (xs.take q)) ∧ Below (w.heap.size + 1) (w.alloc (.cells #[.int .i64 i, .int .i64 st, .slice A n c, .slice B n d] 58)) wr) (fun _ _ j _ => k - (intOf j).toNat)
  case atStart => exact ⟨0, s, none, 0, Nat.zero_le _, rfl, rfl, rfl, rfl, hs, Owned.nil _ _, Below.refl _ _⟩
  case round =>
    obtain ⟨q, s', A', c', hq, rfl, rfl, rfl, hss, hs', hown, hbr⟩ := hrel
    have hbw := hb0.trans (hbr.mono (Nat.le_succ _))
    have hsz : w.heap.size + 1 ≤ wr.heap.size := by have := hbr.size; simpa using this
    have HSS := Lib.hid hss
    clear hss
    by_cases hlt : q < k
    · obtain ⟨k0, k1, k2, k3⟩ := box4 hbr
      obtain ⟨b1, o1, rfl, hb1, hc0⟩ := hD.at_ hlt
      have hc1 := (hbw.cell (p := ⟨b1, o1 + q, none⟩) hb1).trans hc0
      clear hc0
      have hxm := HS.out (xs.getD q 0) (by rw [List.getD_eq_getElem?_getD, List.getElem?_eq_getElem (by rw [L.out]; exact hlt)]; exact List.getElem_mem _)
      have hO := Lib.hid (runO_next (nx := nx) (ot := ot) (s := s) (j := q) (xs := xs) (by rw [L.out]; exact hlt))
      have hT := Lib.hid (runS_next (nx := nx) (s := s) (j := q) (xs := xs) (by rw [L.out]; exact hlt))
      rw [show xs[q]?.getD 0 = xs.getD q 0 by simp, ← HSS.out] at hO hT
      generalize xs.getD q 0 = x at hc1 hxm hO hT
      obtain ⟨a, rfl⟩ : ∃ a : Nat, x = a := ⟨x.toNat, by omega⟩
      have ha : a < i := by omega
      rw [Int.toNat_natCast] at hO hT
      have hlen : (runO nx ot s (xs.take q)).length = q := by rw [runO_len, List.length_take, L.out]; omega
      generalize runO nx ot s (xs.take q) = os at hown hO hlen
      obtain ⟨F, hF⟩ := app_all hown (oN ot s' a) hsz (by rw [hlen]; omega)
      rw [← hO.out] at hF
      have HF := Lib.hid hF
      obtain ⟨g1, p1, A1, n1, c1, hA, hg1, hd1, hr1⟩ := hx.at_ hs'
      obtain ⟨g2, p2, A2, n2, c2, hB, hg2, hd2, hr2⟩ := ho.at_ hs'
      have hi1 := (hM.row s' hs').1
      have hi2 := (hM.row s' hs').2.1
      have hl1 := hr1.1
      have hl2 := hr2.1
      obtain rfl : n1 = i := by omega
      obtain rfl : n2 = n1 := by omega
      obtain ⟨g3, p3, rfl, hg3, hy1⟩ := hr1.at_ ha
      obtain ⟨g4, p4, rfl, hg4, hy2⟩ := hr2.at_ ha
      rw [hM.nN_eq hs' ha] at hy1
      change w.cell? _ = some (.int .i64 (oN ot s' a)) at hy2
      have hlt2 := hM.nN_lt hs' ha
      have hn1 := hr1.2.1
      subst hA hB
      clear hl1 hl2 hi1 hi2 hlen
      have tr : ∀ (g o : Nat) (v : Value), g < w.heap.size → w.cell? ⟨g, o, none⟩ = some v → wr.cell? ⟨g, o, none⟩ = some v := fun g o v h h2 => (hbw.cell (p := ⟨g, o, none⟩) h).trans h2
      have trF : ∀ (g o : Nat) (v : Value), g < w.heap.size + 1 → wr.cell? ⟨g, o, none⟩ = some v → ∀ k, (F k).2.cell? ⟨g, o, none⟩ = some v := fun g o v h h2 k => ((hF k).2.2.cell (p := ⟨g, o, none⟩) h).trans h2
      have e1 := tr _ _ _ hg1 hd1
      have e2 := tr _ _ _ hg2 hd2
      have e3 := tr _ _ _ hg3 hy1
      have e4 := tr _ _ _ hg4 hy2
      have f1 := trF _ _ _ (by omega) e1
      have f3 := trF _ _ _ (by omega) e3
      have f5 := trF _ _ _ (by omega) hc1
      have f6 := trF _ _ _ (by omega) k2
      clear tr trF hF hd1 hd2 hy1 hy2 k0 k1
      go_wp2
      go_region_law (refine step_append_run rfl _ _ _ _ rfl _ _ rfl rfl _ _ (HF.out _).1 ?_)
      all_goals
        go_wp2
        go_quiet (fail)
        go_wp2
        go_roundw
        case rel => exact ⟨q + 1, _, _, _, by omega, by go_num, rfl, rfl, hT.out.symm, hlt2, (HF.out _).2.1, below_drewN (hbr.trans (HF.out _).2.2) _⟩
        case measure => simp [intOf]; omega
    · obtain rfl : q = k := by omega
      have hall := Lib.hid (List.take_of_length_le (l := xs) (i := q) (by rw [L.out]; exact Nat.le_refl _))
      have hss := HSS.out
      rw [hall.out] at hown hss
      subst hss
      go_wp2
      go_ret2
      exact ⟨A', c', rfl, hown.lower (Nat.le_succ _), hbw⟩
end Go.Proofs.Ytnifjagjcoegaaa
