/- Two rows of numbers that grow side by side. -/
import Derived.Test.YtihahljpfekmbaaTrimm
import Derived.Test.YtihahljpfekmbaaReachr
namespace Go.Proofs.Ytihahljpfekmbaa
open Go.RowKit

theorem Owned.lt {w : World} {base : Nat} {v : Value} {xs : List Int} (h : Owned w base v xs) : ∀ k, v.ownBlock = some k → base ≤ k ∧ k < w.heap.size := World.ownsRow.lt h
theorem Owned.keptB {w w' : World} {base : Nat} {u v : Value} {xs : List Int} (h : Owned w base v xs) (hk : KeptB u.ownBlock w w') (ha : Apart u v) : Owned w' base v xs := by
  refine ⟨h.1, ?_⟩
  rcases h.2 with e | ⟨g, cap, cur, hv, hbg, hg, r⟩
  · exact .inl e
  · exact .inr ⟨g, cap, cur, hv, hbg, hk g _ hg (fun e => ha g e (by rw [hv]; rfl)), r⟩
theorem Apart.movedI {w : World} {base : Nat} {v v' u : Value} {xs : List Int} (h : Apart v u) (hm : Moved w v v') (hu : Owned w base u xs) : Apart v' u := by
  rcases hm with e | ⟨g, hg, e⟩
  · intro k hk; rw [e] at hk; exact h k hk
  · intro k hk h2
    rw [e] at hk
    injection hk with hk
    have := (hu.lt k h2).2
    omega

/-- append of one number; every other block is as it was. -/
theorem run_append_onek {w : World} {base : Nat} {v : Value} {xs : List Int} (h : Owned w base v xs) (x : Int) (hbase : base ≤ w.heap.size) (hl : xs.length < 17592186044416) :
    ∃ A c w', (Builtin.append_ #[32, 32] 32 #[v, .slice (some ⟨w.heap.size, 0, none⟩) 1 1]).run Try.prog (w.alloc (.cells #[.int .i64 x] 3)) = .ok (.slice A (xs.length + 1) c) w' ∧
      Owned w' base (.slice A (xs.length + 1) c) (xs ++ [x]) ∧ Below base w w' ∧ KeptB v.ownBlock w w' ∧ Moved w v (.slice A (xs.length + 1) c) := by
  obtain ⟨i, hi, hz0, hz1, hz2⟩ := info_parts info3
  have hbz := alloc_below w (.cells #[.int .i64 x] 3)
  have ho1 : (w.alloc (.cells #[.int .i64 x] 3)).ownsRow base 3 1 v xs.length (xs.map (Value.int .i64)) := h.kept hbz
  obtain ⟨v', w', hr, h1, h2, _, hmv⟩ := run_append_own_at (P := Try.prog) (w.alloc (.cells #[.int .i64 x] 3)) base 32 32 3 i (.int .i64 0) 1 8 Try.underlying32 hi hz0 hz1 hz2 rfl (by decide) v _ _ ho1 ⟨w.heap.size, 0, none⟩ 1 1 [.int .i64 x] (by simp)
    (by
      intro j u hu
      cases j with
      | zero =>
        simp at hu
        subst hu
        simp [Addr.add]
      | succ j => simp at hu)
    (by intro u hu; simp at hu; subst hu; rfl) (by unfold maxLen; omega) (by omega) (Nat.le_trans hbase hbz.size)
  have hown : Owned w' base v' (xs ++ [x]) := by
    unfold Owned
    rw [List.length_append, List.map_append]
    exact h1
  obtain ⟨A, c, rfl⟩ := hown.form
  rw [List.length_append] at hr hown
  have hkb : KeptB v.ownBlock w w' := fun g o e hne => (h2.block g (Nat.lt_of_lt_of_le (heap_lt e) hbz.size) (fun e2 => hne e2.symm)).trans ((hbz.block g (heap_lt e)).trans e)
  refine ⟨A, c, w', hr, hown, (hbz.mono hbase).trans ((Below.refl _ _).grown h2 (Nat.le_trans hbase hbz.size) (fun k hk => (World.ownsRow.lt ho1 k hk).1)), hkb, ?_⟩
  rcases hmv with e | e
  · exact .inl (by rw [List.length_append] at e; exact e)
  · exact .inr ⟨(w.alloc (.cells #[.int .i64 x] 3)).heap.size, by simp, by rw [List.length_append] at e; exact e⟩

/-- append to one of two rows, behind any number of draws. -/
theorem pair_app {wr : World} {base q : Nat} {A : Option Addr} {c : Nat} {u : Value} {xs ys : List Int} (h : Owned wr base (.slice A q c) xs) (hu : Owned wr base u ys) (ha : Apart (.slice A q c) u) (x : Int) (hbase : base ≤ wr.heap.size) (hl : xs.length < 17592186044416) :
    ∃ F : Nat → (Option Addr × Nat) × World, ∀ k, (Builtin.append_ #[32, 32] 32 #[.slice A q c, .slice (some ⟨wr.heap.size, 0, none⟩) 1 1]).run Try.prog ((wr.drewN k).alloc (.cells #[.int .i64 x] 3)) = .ok (.slice (F k).1.1 (q + 1) (F k).1.2) (F k).2 ∧
      Owned (F k).2 base (.slice (F k).1.1 (q + 1) (F k).1.2) (xs ++ [x]) ∧ Owned (F k).2 base u ys ∧ Apart (.slice (F k).1.1 (q + 1) (F k).1.2) u ∧ Below base wr (F k).2 := by
  have hq : q = xs.length := by obtain ⟨A', c', e⟩ := h.form; cases e; rfl
  refine skol (p := fun k (r : (Option Addr × Nat) × World) => (Builtin.append_ #[32, 32] 32 #[.slice A q c, .slice (some ⟨wr.heap.size, 0, none⟩) 1 1]).run Try.prog ((wr.drewN k).alloc (.cells #[.int .i64 x] 3)) = .ok (.slice r.1.1 (q + 1) r.1.2) r.2 ∧
      Owned r.2 base (.slice r.1.1 (q + 1) r.1.2) (xs ++ [x]) ∧ Owned r.2 base u ys ∧ Apart (.slice r.1.1 (q + 1) r.1.2) u ∧ Below base wr r.2) fun k => ?_
  obtain ⟨A', c', w', h1, h2, h3, h4, h5⟩ := run_append_onek (h.drew k) x hbase hl
  rw [← hq] at h1 h2 h5
  exact ⟨((A', c'), w'), h1, h2, (hu.drew k).keptB h4 ha, ha.movedI h5 (hu.drew k), (below_drewN (Below.refl _ _) k).trans h3⟩
end Go.Proofs.Ytihahljpfekmbaa
